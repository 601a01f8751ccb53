/-
  NARROWER THAN 'FOR EVERY INPUT', by the rows' own cells (each row's printed sentence says how): DeflateSymbols: laid · DeflateStores: laid · DeflateRefuses: laid · DeflateAgain: laid.
  DERIVED. THE GIVEN ROWS OF THIS SEAT. 4 by the template 'for every input the law returns true; each argument reads behind the call as it read before'; 0 by the template 'total and deterministic' (their statements: YtakfllfbodiagaaDoorTotals.lean).
  GIVEN WITH THE SEED: the statements are not yours to turn. If you find one false, say at which input.
  Laid BY PROGRAM, IN A SANDBOX (cutbox-rows.mjs): the forced cells as the released guide's own fill.sh prints them over the translation 126ab980005c3fef… (all of the seat's roots in one cut). By AI agents, Wed Nov 11 2026. No macro, syntax, notation, axiom, sorry.
-/
import Derived.Test.YtakfllfbodiagaaDoorChecked
import GoSem.Claim
import GoSem.ClaimJoined
import GoSem.ClaimMapViews
import Derived.JoinedTies
import Derived.KernelRfl
namespace Go.Proofs.YtakfllfbodiagaaDoor
/- THE CELL 'sum', in the pinned program and in every row, IS THE sha256 OF THE DUMP (.gsa) THAT YtakfllfbodiagaaDoorProg.lean LOADS. Nothing in Lean hashes anything: it is a label: what it is worth is what the hold of that sum in a sandbox is worth. -/
noncomputable def Tryd.pinned : Pinned := { name := "ytakfllfbodiagaadoor", sum := "126ab980005c3fef9e4b51cc409cd2204ca17a3f790afe12d8eafb10aa11baeb", checked := Tryd.checked }
namespace Rows
def none {H : Type} : Left H := { results := [], args := [] }

/- WHAT THE LISTED PACKAGE-LEVEL VARIABLES READ AS WHEN THE CALL BEGINS. Each datum BY PROGRAM (the guide's laid-datum.mjs) off the statement by which the dump's own 'gosem.cut.vars' lays the variable. In a bare row this is a premise. The card (YtakfllfbodiagaaDoorCards.lean) ties it to the program's text. -/
def laid_drogher_deflate_lengths {H : Type} : DataW H := .agg [.lit (.int .i64 3), .lit (.int .i64 4), .lit (.int .i64 5), .lit (.int .i64 6), .lit (.int .i64 7), .lit (.int .i64 8), .lit (.int .i64 9), .lit (.int .i64 10), .lit (.int .i64 11), .lit (.int .i64 13), .lit (.int .i64 15), .lit (.int .i64 17), .lit (.int .i64 19), .lit (.int .i64 23), .lit (.int .i64 27), .lit (.int .i64 31), .lit (.int .i64 35), .lit (.int .i64 43), .lit (.int .i64 51), .lit (.int .i64 59), .lit (.int .i64 67), .lit (.int .i64 83), .lit (.int .i64 99), .lit (.int .i64 115), .lit (.int .i64 131), .lit (.int .i64 163), .lit (.int .i64 195), .lit (.int .i64 227), .lit (.int .i64 258)]
def laid_drogher_deflate_distances {H : Type} : DataW H := .agg [.lit (.int .i64 1), .lit (.int .i64 2), .lit (.int .i64 3), .lit (.int .i64 4), .lit (.int .i64 5), .lit (.int .i64 7), .lit (.int .i64 9), .lit (.int .i64 13), .lit (.int .i64 17), .lit (.int .i64 25), .lit (.int .i64 33), .lit (.int .i64 49), .lit (.int .i64 65), .lit (.int .i64 97), .lit (.int .i64 129), .lit (.int .i64 193), .lit (.int .i64 257), .lit (.int .i64 385), .lit (.int .i64 513), .lit (.int .i64 769), .lit (.int .i64 1025), .lit (.int .i64 1537), .lit (.int .i64 2049), .lit (.int .i64 3073), .lit (.int .i64 4097), .lit (.int .i64 6145), .lit (.int .i64 8193), .lit (.int .i64 12289), .lit (.int .i64 16385), .lit (.int .i64 24577)]
def laid_drogher_deflate_turns {H : Type} : DataW H := .agg [.lit (.int .i64 16), .lit (.int .i64 17), .lit (.int .i64 18), .lit (.int .i64 0), .lit (.int .i64 8), .lit (.int .i64 7), .lit (.int .i64 9), .lit (.int .i64 6), .lit (.int .i64 10), .lit (.int .i64 5), .lit (.int .i64 11), .lit (.int .i64 4), .lit (.int .i64 12), .lit (.int .i64 3), .lit (.int .i64 13), .lit (.int .i64 2), .lit (.int .i64 14), .lit (.int .i64 1), .lit (.int .i64 15)]

/-- 'drogherlaw12.DeflateSymbols': WHATEVER THE INPUT: true; the input reads as it did. -/
def deflateSymbolsSpec : ChangeSpec := { name := "deflateSymbols", fn := fun _ => fun
  | [d] => { results := [.lit (.bool true)], args := [d] }
  | _ => none }
def deflateSymbolsRow : OpenClaim := { program := "ytakfllfbodiagaadoor", sum := "126ab980005c3fef9e4b51cc409cd2204ca17a3f790afe12d8eafb10aa11baeb", func := "drogher/drogherlaw12.DeflateSymbols", spec := "deflateSymbols", named := ["drogher/deflate.lengths", "drogher/deflate.distances"], apart := false, laid := [("drogher/deflate.lengths", laid_drogher_deflate_lengths), ("drogher/deflate.distances", laid_drogher_deflate_distances)] }
def DeflateSymbolsSaid : Prop := deflateSymbolsRow.holds Tryd.pinned (OpenSpec.ofChange deflateSymbolsSpec)

/-- ITS FALSE NEIGHBOUR: 'it returns false'. Refute it at one input. -/
def deflateSymbolsWrong : ChangeSpec := { name := "deflateSymbols", fn := fun _ => fun
  | [d] => { results := [.lit (.bool false)], args := [d] }
  | _ => none }
def DeflateSymbolsWrongFalsely : Prop := deflateSymbolsRow.holds Tryd.pinned (OpenSpec.ofChange deflateSymbolsWrong)

/-- 'drogherlaw12.DeflateStores': WHATEVER THE INPUT: true; the input reads as it did. -/
def deflateStoresSpec : ChangeSpec := { name := "deflateStores", fn := fun _ => fun
  | [d] => { results := [.lit (.bool true)], args := [d] }
  | _ => none }
def deflateStoresRow : OpenClaim := { program := "ytakfllfbodiagaadoor", sum := "126ab980005c3fef9e4b51cc409cd2204ca17a3f790afe12d8eafb10aa11baeb", func := "drogher/drogherlaw12.DeflateStores", spec := "deflateStores", named := ["drogher/deflate.lengths"], apart := false, laid := [("drogher/deflate.lengths", laid_drogher_deflate_lengths)] }
def DeflateStoresSaid : Prop := deflateStoresRow.holds Tryd.pinned (OpenSpec.ofChange deflateStoresSpec)

/-- ITS FALSE NEIGHBOUR: 'it returns false'. Refute it at one input. -/
def deflateStoresWrong : ChangeSpec := { name := "deflateStores", fn := fun _ => fun
  | [d] => { results := [.lit (.bool false)], args := [d] }
  | _ => none }
def DeflateStoresWrongFalsely : Prop := deflateStoresRow.holds Tryd.pinned (OpenSpec.ofChange deflateStoresWrong)

/-- 'drogherlaw12.DeflateRefuses': WHATEVER THE INPUT: true; the input reads as it did. -/
def deflateRefusesSpec : ChangeSpec := { name := "deflateRefuses", fn := fun _ => fun
  | [d] => { results := [.lit (.bool true)], args := [d] }
  | _ => none }
def deflateRefusesRow : OpenClaim := { program := "ytakfllfbodiagaadoor", sum := "126ab980005c3fef9e4b51cc409cd2204ca17a3f790afe12d8eafb10aa11baeb", func := "drogher/drogherlaw12.DeflateRefuses", spec := "deflateRefuses", unfollowed := true, recurses := true, named := ["drogher/deflate.lengths", "drogher/deflate.distances", "drogher/deflate.turns"], apart := false, laid := [("drogher/deflate.lengths", laid_drogher_deflate_lengths), ("drogher/deflate.distances", laid_drogher_deflate_distances), ("drogher/deflate.turns", laid_drogher_deflate_turns)] }
def DeflateRefusesSaid : Prop := deflateRefusesRow.holds Tryd.pinned (OpenSpec.ofChange deflateRefusesSpec)

/-- ITS FALSE NEIGHBOUR: 'it returns false'. Refute it at one input. -/
def deflateRefusesWrong : ChangeSpec := { name := "deflateRefuses", fn := fun _ => fun
  | [d] => { results := [.lit (.bool false)], args := [d] }
  | _ => none }
def DeflateRefusesWrongFalsely : Prop := deflateRefusesRow.holds Tryd.pinned (OpenSpec.ofChange deflateRefusesWrong)

/-- 'drogherlaw12.DeflateAgain': WHATEVER THE INPUT: true; the input reads as it did. -/
def deflateAgainSpec : ChangeSpec := { name := "deflateAgain", fn := fun _ => fun
  | [d] => { results := [.lit (.bool true)], args := [d] }
  | _ => none }
def deflateAgainRow : OpenClaim := { program := "ytakfllfbodiagaadoor", sum := "126ab980005c3fef9e4b51cc409cd2204ca17a3f790afe12d8eafb10aa11baeb", func := "drogher/drogherlaw12.DeflateAgain", spec := "deflateAgain", unfollowed := true, recurses := true, named := ["drogher/deflate.lengths", "drogher/deflate.distances", "drogher/deflate.turns"], apart := false, laid := [("drogher/deflate.lengths", laid_drogher_deflate_lengths), ("drogher/deflate.distances", laid_drogher_deflate_distances), ("drogher/deflate.turns", laid_drogher_deflate_turns)] }
def DeflateAgainSaid : Prop := deflateAgainRow.holds Tryd.pinned (OpenSpec.ofChange deflateAgainSpec)

/-- ITS FALSE NEIGHBOUR: 'it returns false'. Refute it at one input. -/
def deflateAgainWrong : ChangeSpec := { name := "deflateAgain", fn := fun _ => fun
  | [d] => { results := [.lit (.bool false)], args := [d] }
  | _ => none }
def DeflateAgainWrongFalsely : Prop := deflateAgainRow.holds Tryd.pinned (OpenSpec.ofChange deflateAgainWrong)

/- THE SECOND FORM. 'bulk': how many values and letters a reading holds, each counted each time it is reached (what is shared counts as often as it is met; a slice's spare places count too). A statement '..UptoSaid' is the law's where the arguments, and the package variables that the reading takes, are together of bulk at most 1048576: NARROWER than '..Said'. Prove '..Said' where nothing that the law and all that it calls make is longer than what came in: it says more and counts as full. Else prove '..UptoSaid'. A law counts once. -/
mutual
def uptoBulk {H : Type} : DataW H → Nat
  | .lit (.string bytes) => bytes.length + 1
  | .lit _ => 1
  | .nil => 1
  | .ptr d => uptoBulk d + 1
  | .slice elems spare => uptoBulkAll elems + uptoBulkAll spare + 1
  | .agg parts => uptoBulkAll parts + 1
  | .iface _ d => uptoBulk d + 1
  | .map entries => uptoBulkEntries entries + 1
  | .held _ => 1
def uptoBulkAll {H : Type} : List (DataW H) → Nat
  | [] => 0
  | d :: r => uptoBulk d + uptoBulkAll r
def uptoBulkEntries {H : Type} : List (Lit × DataW H) → Nat
  | [] => 0
  | x :: r => uptoBulkEntry x + uptoBulkEntries r
def uptoBulkEntry {H : Type} : Lit × DataW H → Nat
  | (.string bytes, d) => bytes.length + uptoBulk d + 1
  | (_, d) => uptoBulk d + 1
 end
def uptoSmall : (H : Type) → List (DataW H) → Bool := fun _ ds => decide (uptoBulkAll ds ≤ 1048576)
def OpenSpec.upto (s : _root_.Go.ChangeSpec) : _root_.Go.OpenSpec := { _root_.Go.OpenSpec.ofChange s with cond := some uptoSmall }

/-- 'drogherlaw12.DeflateSymbols', WHERE WHAT IT READS IS OF BULK AT MOST 1048576: true; the input reads as it did. -/
def deflateSymbolsUptoRow : OpenClaim := { program := "ytakfllfbodiagaadoor", sum := "126ab980005c3fef9e4b51cc409cd2204ca17a3f790afe12d8eafb10aa11baeb", func := "drogher/drogherlaw12.DeflateSymbols", spec := "deflateSymbols", named := ["drogher/deflate.lengths", "drogher/deflate.distances"], apart := false, laid := [("drogher/deflate.lengths", laid_drogher_deflate_lengths), ("drogher/deflate.distances", laid_drogher_deflate_distances)], narrowed := true }
def DeflateSymbolsUptoSaid : Prop := deflateSymbolsUptoRow.holds Tryd.pinned (OpenSpec.upto deflateSymbolsSpec)

/-- 'drogherlaw12.DeflateStores', WHERE WHAT IT READS IS OF BULK AT MOST 1048576: true; the input reads as it did. -/
def deflateStoresUptoRow : OpenClaim := { program := "ytakfllfbodiagaadoor", sum := "126ab980005c3fef9e4b51cc409cd2204ca17a3f790afe12d8eafb10aa11baeb", func := "drogher/drogherlaw12.DeflateStores", spec := "deflateStores", named := ["drogher/deflate.lengths"], apart := false, laid := [("drogher/deflate.lengths", laid_drogher_deflate_lengths)], narrowed := true }
def DeflateStoresUptoSaid : Prop := deflateStoresUptoRow.holds Tryd.pinned (OpenSpec.upto deflateStoresSpec)

/-- 'drogherlaw12.DeflateRefuses', WHERE WHAT IT READS IS OF BULK AT MOST 1048576: true; the input reads as it did. -/
def deflateRefusesUptoRow : OpenClaim := { program := "ytakfllfbodiagaadoor", sum := "126ab980005c3fef9e4b51cc409cd2204ca17a3f790afe12d8eafb10aa11baeb", func := "drogher/drogherlaw12.DeflateRefuses", spec := "deflateRefuses", unfollowed := true, recurses := true, named := ["drogher/deflate.lengths", "drogher/deflate.distances", "drogher/deflate.turns"], apart := false, laid := [("drogher/deflate.lengths", laid_drogher_deflate_lengths), ("drogher/deflate.distances", laid_drogher_deflate_distances), ("drogher/deflate.turns", laid_drogher_deflate_turns)], narrowed := true }
def DeflateRefusesUptoSaid : Prop := deflateRefusesUptoRow.holds Tryd.pinned (OpenSpec.upto deflateRefusesSpec)

/-- 'drogherlaw12.DeflateAgain', WHERE WHAT IT READS IS OF BULK AT MOST 1048576: true; the input reads as it did. -/
def deflateAgainUptoRow : OpenClaim := { program := "ytakfllfbodiagaadoor", sum := "126ab980005c3fef9e4b51cc409cd2204ca17a3f790afe12d8eafb10aa11baeb", func := "drogher/drogherlaw12.DeflateAgain", spec := "deflateAgain", unfollowed := true, recurses := true, named := ["drogher/deflate.lengths", "drogher/deflate.distances", "drogher/deflate.turns"], apart := false, laid := [("drogher/deflate.lengths", laid_drogher_deflate_lengths), ("drogher/deflate.distances", laid_drogher_deflate_distances), ("drogher/deflate.turns", laid_drogher_deflate_turns)], narrowed := true }
def DeflateAgainUptoSaid : Prop := deflateAgainUptoRow.holds Tryd.pinned (OpenSpec.upto deflateAgainSpec)

end Rows
end Go.Proofs.YtakfllfbodiagaaDoor
