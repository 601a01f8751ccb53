/-
  No cell of these rows narrows 'for every input' (looked for: loops, veiled, ifaces, maps, wideKeys, modest, calm, conditions, laid).
  DERIVED. THE GIVEN ROWS OF THIS SEAT. 4 by the template 'for every input the law returns true; each argument reads behind the call as it read before'; 0 by the template 'total and deterministic' (their statements: YthicgcgohpakgaaTotals.lean).
  GIVEN WITH THE SEED: the statements are not yours to turn. If you find one false, say at which input.
  Laid BY PROGRAM, IN A SANDBOX (cutbox-rows.mjs): the forced cells as the released guide's own fill.sh prints them over the translation 524eb228d1bab319… (all of the seat's roots in one cut). By AI agents, Wed Nov 11 2026. No macro, syntax, notation, axiom, sorry.
-/
import Derived.Test.YthicgcgohpakgaaChecked
import GoSem.Claim
import GoSem.ClaimJoined
import GoSem.ClaimMapViews
import Derived.JoinedTies
import Derived.KernelRfl
namespace Go.Proofs.Ythicgcgohpakgaa
/- THE CELL 'sum', in the pinned program and in every row, IS THE sha256 OF THE DUMP (.gsa) THAT YthicgcgohpakgaaProg.lean LOADS. Nothing in Lean hashes anything: it is a label: what it is worth is what the hold of that sum in a sandbox is worth. -/
noncomputable def Try.pinned : Pinned := { name := "ythicgcgohpakgaa", sum := "524eb228d1bab3190eaf7195f67f7c84f18a7335694532bd64f97b03c4245cae", checked := Try.checked }
namespace Rows
def none {H : Type} : Left H := { results := [], args := [] }

/-- 'drogherlaw11.LzExpands': WHATEVER THE INPUT: true; the input reads as it did. -/
def lzExpandsSpec : ChangeSpec := { name := "lzExpands", fn := fun _ => fun
  | [d1, d2] => { results := [.lit (.bool true)], args := [d1, d2] }
  | _ => none }
def lzExpandsRow : OpenClaim := { program := "ythicgcgohpakgaa", sum := "524eb228d1bab3190eaf7195f67f7c84f18a7335694532bd64f97b03c4245cae", func := "drogher/drogherlaw11.LzExpands", spec := "lzExpands", apart := false }
def LzExpandsSaid : Prop := lzExpandsRow.holds Try.pinned (OpenSpec.ofChange lzExpandsSpec)

/-- ITS FALSE NEIGHBOUR: 'it returns false'. Refute it at one input. -/
def lzExpandsWrong : ChangeSpec := { name := "lzExpands", fn := fun _ => fun
  | [d1, d2] => { results := [.lit (.bool false)], args := [d1, d2] }
  | _ => none }
def LzExpandsWrongFalsely : Prop := lzExpandsRow.holds Try.pinned (OpenSpec.ofChange lzExpandsWrong)

/-- 'drogherlaw11.LzMay': WHATEVER THE INPUT: true; the input reads as it did. -/
def lzMaySpec : ChangeSpec := { name := "lzMay", fn := fun _ => fun
  | [d] => { results := [.lit (.bool true)], args := [d] }
  | _ => none }
def lzMayRow : OpenClaim := { program := "ythicgcgohpakgaa", sum := "524eb228d1bab3190eaf7195f67f7c84f18a7335694532bd64f97b03c4245cae", func := "drogher/drogherlaw11.LzMay", spec := "lzMay", apart := false }
def LzMaySaid : Prop := lzMayRow.holds Try.pinned (OpenSpec.ofChange lzMaySpec)

/-- ITS FALSE NEIGHBOUR: 'it returns false'. Refute it at one input. -/
def lzMayWrong : ChangeSpec := { name := "lzMay", fn := fun _ => fun
  | [d] => { results := [.lit (.bool false)], args := [d] }
  | _ => none }
def LzMayWrongFalsely : Prop := lzMayRow.holds Try.pinned (OpenSpec.ofChange lzMayWrong)

/-- 'drogherlaw11.LzFinds': WHATEVER THE INPUT: true; the input reads as it did. -/
def lzFindsSpec : ChangeSpec := { name := "lzFinds", fn := fun _ => fun
  | [d1, d2] => { results := [.lit (.bool true)], args := [d1, d2] }
  | _ => none }
def lzFindsRow : OpenClaim := { program := "ythicgcgohpakgaa", sum := "524eb228d1bab3190eaf7195f67f7c84f18a7335694532bd64f97b03c4245cae", func := "drogher/drogherlaw11.LzFinds", spec := "lzFinds", apart := false }
def LzFindsSaid : Prop := lzFindsRow.holds Try.pinned (OpenSpec.ofChange lzFindsSpec)

/-- ITS FALSE NEIGHBOUR: 'it returns false'. Refute it at one input. -/
def lzFindsWrong : ChangeSpec := { name := "lzFinds", fn := fun _ => fun
  | [d1, d2] => { results := [.lit (.bool false)], args := [d1, d2] }
  | _ => none }
def LzFindsWrongFalsely : Prop := lzFindsRow.holds Try.pinned (OpenSpec.ofChange lzFindsWrong)

/-- 'drogherlaw11.LzAgain': WHATEVER THE INPUT: true; the input reads as it did. -/
def lzAgainSpec : ChangeSpec := { name := "lzAgain", fn := fun _ => fun
  | [d1, d2, d3] => { results := [.lit (.bool true)], args := [d1, d2, d3] }
  | _ => none }
def lzAgainRow : OpenClaim := { program := "ythicgcgohpakgaa", sum := "524eb228d1bab3190eaf7195f67f7c84f18a7335694532bd64f97b03c4245cae", func := "drogher/drogherlaw11.LzAgain", spec := "lzAgain", apart := false }
def LzAgainSaid : Prop := lzAgainRow.holds Try.pinned (OpenSpec.ofChange lzAgainSpec)

/-- ITS FALSE NEIGHBOUR: 'it returns false'. Refute it at one input. -/
def lzAgainWrong : ChangeSpec := { name := "lzAgain", fn := fun _ => fun
  | [d1, d2, d3] => { results := [.lit (.bool false)], args := [d1, d2, d3] }
  | _ => none }
def LzAgainWrongFalsely : Prop := lzAgainRow.holds Try.pinned (OpenSpec.ofChange lzAgainWrong)

/- THE SECOND FORM. 'bulk': how many values and letters a reading holds, each counted each time it is reached (what is shared counts as often as it is met; a slice's spare places count too). A statement '..UptoSaid' is the law's where the arguments, and the package variables that the reading takes, are together of bulk at most 1048576: NARROWER than '..Said'. Prove '..Said' where nothing that the law and all that it calls make is longer than what came in: it says more and counts as full. Else prove '..UptoSaid'. A law counts once. -/
mutual
def uptoBulk {H : Type} : DataW H → Nat
  | .lit (.string bytes) => bytes.length + 1
  | .lit _ => 1
  | .nil => 1
  | .ptr d => uptoBulk d + 1
  | .slice elems spare => uptoBulkAll elems + uptoBulkAll spare + 1
  | .agg parts => uptoBulkAll parts + 1
  | .iface _ d => uptoBulk d + 1
  | .map entries => uptoBulkEntries entries + 1
  | .held _ => 1
def uptoBulkAll {H : Type} : List (DataW H) → Nat
  | [] => 0
  | d :: r => uptoBulk d + uptoBulkAll r
def uptoBulkEntries {H : Type} : List (Lit × DataW H) → Nat
  | [] => 0
  | x :: r => uptoBulkEntry x + uptoBulkEntries r
def uptoBulkEntry {H : Type} : Lit × DataW H → Nat
  | (.string bytes, d) => bytes.length + uptoBulk d + 1
  | (_, d) => uptoBulk d + 1
 end
def uptoSmall : (H : Type) → List (DataW H) → Bool := fun _ ds => decide (uptoBulkAll ds ≤ 1048576)
def OpenSpec.upto (s : _root_.Go.ChangeSpec) : _root_.Go.OpenSpec := { _root_.Go.OpenSpec.ofChange s with cond := some uptoSmall }

/-- 'drogherlaw11.LzExpands', WHERE WHAT IT READS IS OF BULK AT MOST 1048576: true; the input reads as it did. -/
def lzExpandsUptoRow : OpenClaim := { program := "ythicgcgohpakgaa", sum := "524eb228d1bab3190eaf7195f67f7c84f18a7335694532bd64f97b03c4245cae", func := "drogher/drogherlaw11.LzExpands", spec := "lzExpands", apart := false, narrowed := true }
def LzExpandsUptoSaid : Prop := lzExpandsUptoRow.holds Try.pinned (OpenSpec.upto lzExpandsSpec)

/-- 'drogherlaw11.LzMay', WHERE WHAT IT READS IS OF BULK AT MOST 1048576: true; the input reads as it did. -/
def lzMayUptoRow : OpenClaim := { program := "ythicgcgohpakgaa", sum := "524eb228d1bab3190eaf7195f67f7c84f18a7335694532bd64f97b03c4245cae", func := "drogher/drogherlaw11.LzMay", spec := "lzMay", apart := false, narrowed := true }
def LzMayUptoSaid : Prop := lzMayUptoRow.holds Try.pinned (OpenSpec.upto lzMaySpec)

/-- 'drogherlaw11.LzFinds', WHERE WHAT IT READS IS OF BULK AT MOST 1048576: true; the input reads as it did. -/
def lzFindsUptoRow : OpenClaim := { program := "ythicgcgohpakgaa", sum := "524eb228d1bab3190eaf7195f67f7c84f18a7335694532bd64f97b03c4245cae", func := "drogher/drogherlaw11.LzFinds", spec := "lzFinds", apart := false, narrowed := true }
def LzFindsUptoSaid : Prop := lzFindsUptoRow.holds Try.pinned (OpenSpec.upto lzFindsSpec)

/-- 'drogherlaw11.LzAgain', WHERE WHAT IT READS IS OF BULK AT MOST 1048576: true; the input reads as it did. -/
def lzAgainUptoRow : OpenClaim := { program := "ythicgcgohpakgaa", sum := "524eb228d1bab3190eaf7195f67f7c84f18a7335694532bd64f97b03c4245cae", func := "drogher/drogherlaw11.LzAgain", spec := "lzAgain", apart := false, narrowed := true }
def LzAgainUptoSaid : Prop := lzAgainUptoRow.holds Try.pinned (OpenSpec.upto lzAgainSpec)

end Rows
end Go.Proofs.Ythicgcgohpakgaa
