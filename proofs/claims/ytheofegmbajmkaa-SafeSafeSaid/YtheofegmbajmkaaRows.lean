/-
  No cell of these rows narrows 'for every input' (looked for: loops, veiled, ifaces, maps, wideKeys, modest, calm, conditions, laid).
  DERIVED. THE GIVEN ROWS OF THIS SEAT. 3 by the template 'for every input the law returns true; each argument reads behind the call as it read before'; 0 by the template 'total and deterministic' (their statements: YtheofegmbajmkaaTotals.lean).
  GIVEN WITH THE SEED: the statements are not yours to turn. If you find one false, say at which input.
  Laid BY PROGRAM, IN A SANDBOX (cutbox-rows.mjs): the forced cells as the released guide's own fill.sh prints them over the translation d7cfe341d9a60f04… (all of the seat's roots in one cut). By AI agents, Wed Nov 11 2026. No macro, syntax, notation, axiom, sorry.
-/
import Derived.Test.YtheofegmbajmkaaChecked
import GoSem.Claim
import GoSem.ClaimJoined
import GoSem.ClaimMapViews
import Derived.JoinedTies
import Derived.KernelRfl
namespace Go.Proofs.Ytheofegmbajmkaa
/- THE CELL 'sum', in the pinned program and in every row, IS THE sha256 OF THE DUMP (.gsa) THAT YtheofegmbajmkaaProg.lean LOADS. Nothing in Lean hashes anything: it is a label: what it is worth is what the hold of that sum in a sandbox is worth. -/
noncomputable def Try.pinned : Pinned := { name := "ytheofegmbajmkaa", sum := "d7cfe341d9a60f048d3f95b124486740f3e8476e9f9a2cf1a4444f314a572148", checked := Try.checked }
namespace Rows
def none {H : Type} : Left H := { results := [], args := [] }

/-- 'drogherlaw20.SafeChecks': WHATEVER THE INPUT: true; the input reads as it did. -/
def safeChecksSpec : ChangeSpec := { name := "safeChecks", fn := fun _ => fun
  | [d1, d2, d3, d4, d5] => { results := [.lit (.bool true)], args := [d1, d2, d3, d4, d5] }
  | _ => none }
def safeChecksRow : OpenClaim := { program := "ytheofegmbajmkaa", sum := "d7cfe341d9a60f048d3f95b124486740f3e8476e9f9a2cf1a4444f314a572148", func := "drogher/drogherlaw20.SafeChecks", spec := "safeChecks", unfollowed := true, recurses := true, apart := false }
def SafeChecksSaid : Prop := safeChecksRow.holds Try.pinned (OpenSpec.ofChange safeChecksSpec)

/-- ITS FALSE NEIGHBOUR: 'it returns false'. Refute it at one input. -/
def safeChecksWrong : ChangeSpec := { name := "safeChecks", fn := fun _ => fun
  | [d1, d2, d3, d4, d5] => { results := [.lit (.bool false)], args := [d1, d2, d3, d4, d5] }
  | _ => none }
def SafeChecksWrongFalsely : Prop := safeChecksRow.holds Try.pinned (OpenSpec.ofChange safeChecksWrong)

/-- 'drogherlaw20.SafeFolds': WHATEVER THE INPUT: true; the input reads as it did. -/
def safeFoldsSpec : ChangeSpec := { name := "safeFolds", fn := fun _ => fun
  | [d1, d2, d3, d4, d5] => { results := [.lit (.bool true)], args := [d1, d2, d3, d4, d5] }
  | _ => none }
def safeFoldsRow : OpenClaim := { program := "ytheofegmbajmkaa", sum := "d7cfe341d9a60f048d3f95b124486740f3e8476e9f9a2cf1a4444f314a572148", func := "drogher/drogherlaw20.SafeFolds", spec := "safeFolds", unfollowed := true, recurses := true, apart := false }
def SafeFoldsSaid : Prop := safeFoldsRow.holds Try.pinned (OpenSpec.ofChange safeFoldsSpec)

/-- ITS FALSE NEIGHBOUR: 'it returns false'. Refute it at one input. -/
def safeFoldsWrong : ChangeSpec := { name := "safeFolds", fn := fun _ => fun
  | [d1, d2, d3, d4, d5] => { results := [.lit (.bool false)], args := [d1, d2, d3, d4, d5] }
  | _ => none }
def SafeFoldsWrongFalsely : Prop := safeFoldsRow.holds Try.pinned (OpenSpec.ofChange safeFoldsWrong)

/-- 'drogherlaw20.SafeSafe': WHATEVER THE INPUT: true; the input reads as it did. -/
def safeSafeSpec : ChangeSpec := { name := "safeSafe", fn := fun _ => fun
  | [d1, d2, d3, d4, d5] => { results := [.lit (.bool true)], args := [d1, d2, d3, d4, d5] }
  | _ => none }
def safeSafeRow : OpenClaim := { program := "ytheofegmbajmkaa", sum := "d7cfe341d9a60f048d3f95b124486740f3e8476e9f9a2cf1a4444f314a572148", func := "drogher/drogherlaw20.SafeSafe", spec := "safeSafe", unfollowed := true, recurses := true, apart := false }
def SafeSafeSaid : Prop := safeSafeRow.holds Try.pinned (OpenSpec.ofChange safeSafeSpec)

/-- ITS FALSE NEIGHBOUR: 'it returns false'. Refute it at one input. -/
def safeSafeWrong : ChangeSpec := { name := "safeSafe", fn := fun _ => fun
  | [d1, d2, d3, d4, d5] => { results := [.lit (.bool false)], args := [d1, d2, d3, d4, d5] }
  | _ => none }
def SafeSafeWrongFalsely : Prop := safeSafeRow.holds Try.pinned (OpenSpec.ofChange safeSafeWrong)

/- THE SECOND FORM. 'bulk': how many values and letters a reading holds, each counted each time it is reached (what is shared counts as often as it is met; a slice's spare places count too). A statement '..UptoSaid' is the law's where the arguments, and the package variables that the reading takes, are together of bulk at most 1048576: NARROWER than '..Said'. Prove '..Said' where nothing that the law and all that it calls make is longer than what came in: it says more and counts as full. Else prove '..UptoSaid'. A law counts once. -/
mutual
def uptoBulk {H : Type} : DataW H → Nat
  | .lit (.string bytes) => bytes.length + 1
  | .lit _ => 1
  | .nil => 1
  | .ptr d => uptoBulk d + 1
  | .slice elems spare => uptoBulkAll elems + uptoBulkAll spare + 1
  | .agg parts => uptoBulkAll parts + 1
  | .iface _ d => uptoBulk d + 1
  | .map entries => uptoBulkEntries entries + 1
  | .held _ => 1
def uptoBulkAll {H : Type} : List (DataW H) → Nat
  | [] => 0
  | d :: r => uptoBulk d + uptoBulkAll r
def uptoBulkEntries {H : Type} : List (Lit × DataW H) → Nat
  | [] => 0
  | x :: r => uptoBulkEntry x + uptoBulkEntries r
def uptoBulkEntry {H : Type} : Lit × DataW H → Nat
  | (.string bytes, d) => bytes.length + uptoBulk d + 1
  | (_, d) => uptoBulk d + 1
 end
def uptoSmall : (H : Type) → List (DataW H) → Bool := fun _ ds => decide (uptoBulkAll ds ≤ 1048576)
def OpenSpec.upto (s : _root_.Go.ChangeSpec) : _root_.Go.OpenSpec := { _root_.Go.OpenSpec.ofChange s with cond := some uptoSmall }

/-- 'drogherlaw20.SafeChecks', WHERE WHAT IT READS IS OF BULK AT MOST 1048576: true; the input reads as it did. -/
def safeChecksUptoRow : OpenClaim := { program := "ytheofegmbajmkaa", sum := "d7cfe341d9a60f048d3f95b124486740f3e8476e9f9a2cf1a4444f314a572148", func := "drogher/drogherlaw20.SafeChecks", spec := "safeChecks", unfollowed := true, recurses := true, apart := false, narrowed := true }
def SafeChecksUptoSaid : Prop := safeChecksUptoRow.holds Try.pinned (OpenSpec.upto safeChecksSpec)

/-- 'drogherlaw20.SafeFolds', WHERE WHAT IT READS IS OF BULK AT MOST 1048576: true; the input reads as it did. -/
def safeFoldsUptoRow : OpenClaim := { program := "ytheofegmbajmkaa", sum := "d7cfe341d9a60f048d3f95b124486740f3e8476e9f9a2cf1a4444f314a572148", func := "drogher/drogherlaw20.SafeFolds", spec := "safeFolds", unfollowed := true, recurses := true, apart := false, narrowed := true }
def SafeFoldsUptoSaid : Prop := safeFoldsUptoRow.holds Try.pinned (OpenSpec.upto safeFoldsSpec)

/-- 'drogherlaw20.SafeSafe', WHERE WHAT IT READS IS OF BULK AT MOST 1048576: true; the input reads as it did. -/
def safeSafeUptoRow : OpenClaim := { program := "ytheofegmbajmkaa", sum := "d7cfe341d9a60f048d3f95b124486740f3e8476e9f9a2cf1a4444f314a572148", func := "drogher/drogherlaw20.SafeSafe", spec := "safeSafe", unfollowed := true, recurses := true, apart := false, narrowed := true }
def SafeSafeUptoSaid : Prop := safeSafeUptoRow.holds Try.pinned (OpenSpec.upto safeSafeSpec)

end Rows
end Go.Proofs.Ytheofegmbajmkaa
