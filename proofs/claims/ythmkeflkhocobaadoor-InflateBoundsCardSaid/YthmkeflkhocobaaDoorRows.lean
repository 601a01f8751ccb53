/-
  NARROWER THAN 'FOR EVERY INPUT', by the rows' own cells (each row's printed sentence says how): DeflateRefuses: laid · DeflateAgain: laid · InflateTells: laid · InflatePieces: laid · InflateBounds: laid · InflateEver: laid · InflateNil: laid · ChunkPacks: laid.
  DERIVED. THE GIVEN ROWS OF THIS SEAT. 8 by the template 'for every input the law returns true; each argument reads behind the call as it read before'; 0 by the template 'total and deterministic' (their statements: YthmkeflkhocobaaDoorTotals.lean).
  GIVEN WITH THE SEED: the statements are not yours to turn. If you find one false, say at which input.
  Laid BY PROGRAM, IN A SANDBOX (cutbox-rows.mjs): the forced cells as the released guide's own fill.sh prints them over the translation 3bf3509538a12668… (all of the seat's roots in one cut). By AI agents, Wed Nov 11 2026. No macro, syntax, notation, axiom, sorry.
-/
import Derived.Test.YthmkeflkhocobaaDoorChecked
import GoSem.Claim
import GoSem.ClaimJoined
import GoSem.ClaimMapViews
import Derived.JoinedTies
import Derived.KernelRfl
namespace Go.Proofs.YthmkeflkhocobaaDoor
/- THE CELL 'sum', in the pinned program and in every row, IS THE sha256 OF THE DUMP (.gsa) THAT YthmkeflkhocobaaDoorProg.lean LOADS. Nothing in Lean hashes anything: it is a label: what it is worth is what the hold of that sum in a sandbox is worth. -/
noncomputable def Tryd.pinned : Pinned := { name := "ythmkeflkhocobaadoor", sum := "3bf3509538a12668a26c109bf5c2ebdc608a26d18c3419721e0945f28c0c56ea", checked := Tryd.checked }
namespace Rows
def none {H : Type} : Left H := { results := [], args := [] }

/- WHAT THE LISTED PACKAGE-LEVEL VARIABLES READ AS WHEN THE CALL BEGINS. Each datum BY PROGRAM (the guide's laid-datum.mjs) off the statement by which the dump's own 'gosem.cut.vars' lays the variable. In a bare row this is a premise. The card (YthmkeflkhocobaaDoorCards.lean) ties it to the program's text. -/
def laid_drogher_deflate_lengths {H : Type} : DataW H := .agg [.lit (.int .i64 3), .lit (.int .i64 4), .lit (.int .i64 5), .lit (.int .i64 6), .lit (.int .i64 7), .lit (.int .i64 8), .lit (.int .i64 9), .lit (.int .i64 10), .lit (.int .i64 11), .lit (.int .i64 13), .lit (.int .i64 15), .lit (.int .i64 17), .lit (.int .i64 19), .lit (.int .i64 23), .lit (.int .i64 27), .lit (.int .i64 31), .lit (.int .i64 35), .lit (.int .i64 43), .lit (.int .i64 51), .lit (.int .i64 59), .lit (.int .i64 67), .lit (.int .i64 83), .lit (.int .i64 99), .lit (.int .i64 115), .lit (.int .i64 131), .lit (.int .i64 163), .lit (.int .i64 195), .lit (.int .i64 227), .lit (.int .i64 258)]
def laid_drogher_deflate_distances {H : Type} : DataW H := .agg [.lit (.int .i64 1), .lit (.int .i64 2), .lit (.int .i64 3), .lit (.int .i64 4), .lit (.int .i64 5), .lit (.int .i64 7), .lit (.int .i64 9), .lit (.int .i64 13), .lit (.int .i64 17), .lit (.int .i64 25), .lit (.int .i64 33), .lit (.int .i64 49), .lit (.int .i64 65), .lit (.int .i64 97), .lit (.int .i64 129), .lit (.int .i64 193), .lit (.int .i64 257), .lit (.int .i64 385), .lit (.int .i64 513), .lit (.int .i64 769), .lit (.int .i64 1025), .lit (.int .i64 1537), .lit (.int .i64 2049), .lit (.int .i64 3073), .lit (.int .i64 4097), .lit (.int .i64 6145), .lit (.int .i64 8193), .lit (.int .i64 12289), .lit (.int .i64 16385), .lit (.int .i64 24577)]
def laid_drogher_deflate_turns {H : Type} : DataW H := .agg [.lit (.int .i64 16), .lit (.int .i64 17), .lit (.int .i64 18), .lit (.int .i64 0), .lit (.int .i64 8), .lit (.int .i64 7), .lit (.int .i64 9), .lit (.int .i64 6), .lit (.int .i64 10), .lit (.int .i64 5), .lit (.int .i64 11), .lit (.int .i64 4), .lit (.int .i64 12), .lit (.int .i64 3), .lit (.int .i64 13), .lit (.int .i64 2), .lit (.int .i64 14), .lit (.int .i64 1), .lit (.int .i64 15)]
def laid_drogher_inflate_turns {H : Type} : DataW H := .agg [.lit (.int .i64 16), .lit (.int .i64 17), .lit (.int .i64 18), .lit (.int .i64 0), .lit (.int .i64 8), .lit (.int .i64 7), .lit (.int .i64 9), .lit (.int .i64 6), .lit (.int .i64 10), .lit (.int .i64 5), .lit (.int .i64 11), .lit (.int .i64 4), .lit (.int .i64 12), .lit (.int .i64 3), .lit (.int .i64 13), .lit (.int .i64 2), .lit (.int .i64 14), .lit (.int .i64 1), .lit (.int .i64 15)]

/-- 'drogherlaw12.DeflateRefuses': WHATEVER THE INPUT: true; the input reads as it did. -/
def deflateRefusesSpec : ChangeSpec := { name := "deflateRefuses", fn := fun _ => fun
  | [d] => { results := [.lit (.bool true)], args := [d] }
  | _ => none }
def deflateRefusesRow : OpenClaim := { program := "ythmkeflkhocobaadoor", sum := "3bf3509538a12668a26c109bf5c2ebdc608a26d18c3419721e0945f28c0c56ea", func := "drogher/drogherlaw12.DeflateRefuses", spec := "deflateRefuses", unfollowed := true, recurses := true, named := ["drogher/deflate.lengths", "drogher/deflate.distances", "drogher/deflate.turns"], apart := false, laid := [("drogher/deflate.lengths", laid_drogher_deflate_lengths), ("drogher/deflate.distances", laid_drogher_deflate_distances), ("drogher/deflate.turns", laid_drogher_deflate_turns)] }
def DeflateRefusesSaid : Prop := deflateRefusesRow.holds Tryd.pinned (OpenSpec.ofChange deflateRefusesSpec)

/-- ITS FALSE NEIGHBOUR: 'it returns false'. Refute it at one input. -/
def deflateRefusesWrong : ChangeSpec := { name := "deflateRefuses", fn := fun _ => fun
  | [d] => { results := [.lit (.bool false)], args := [d] }
  | _ => none }
def DeflateRefusesWrongFalsely : Prop := deflateRefusesRow.holds Tryd.pinned (OpenSpec.ofChange deflateRefusesWrong)

/-- 'drogherlaw12.DeflateAgain': WHATEVER THE INPUT: true; the input reads as it did. -/
def deflateAgainSpec : ChangeSpec := { name := "deflateAgain", fn := fun _ => fun
  | [d] => { results := [.lit (.bool true)], args := [d] }
  | _ => none }
def deflateAgainRow : OpenClaim := { program := "ythmkeflkhocobaadoor", sum := "3bf3509538a12668a26c109bf5c2ebdc608a26d18c3419721e0945f28c0c56ea", func := "drogher/drogherlaw12.DeflateAgain", spec := "deflateAgain", unfollowed := true, recurses := true, named := ["drogher/deflate.lengths", "drogher/deflate.distances", "drogher/deflate.turns"], apart := false, laid := [("drogher/deflate.lengths", laid_drogher_deflate_lengths), ("drogher/deflate.distances", laid_drogher_deflate_distances), ("drogher/deflate.turns", laid_drogher_deflate_turns)] }
def DeflateAgainSaid : Prop := deflateAgainRow.holds Tryd.pinned (OpenSpec.ofChange deflateAgainSpec)

/-- ITS FALSE NEIGHBOUR: 'it returns false'. Refute it at one input. -/
def deflateAgainWrong : ChangeSpec := { name := "deflateAgain", fn := fun _ => fun
  | [d] => { results := [.lit (.bool false)], args := [d] }
  | _ => none }
def DeflateAgainWrongFalsely : Prop := deflateAgainRow.holds Tryd.pinned (OpenSpec.ofChange deflateAgainWrong)

/-- 'drogherlaw13.InflateTells': WHATEVER THE INPUT: true; the input reads as it did. -/
def inflateTellsSpec : ChangeSpec := { name := "inflateTells", fn := fun _ => fun
  | [d1, d2] => { results := [.lit (.bool true)], args := [d1, d2] }
  | _ => none }
def inflateTellsRow : OpenClaim := { program := "ythmkeflkhocobaadoor", sum := "3bf3509538a12668a26c109bf5c2ebdc608a26d18c3419721e0945f28c0c56ea", func := "drogher/drogherlaw13.InflateTells", spec := "inflateTells", unfollowed := true, recurses := true, named := ["drogher/inflate.turns"], apart := false, laid := [("drogher/inflate.turns", laid_drogher_inflate_turns)] }
def InflateTellsSaid : Prop := inflateTellsRow.holds Tryd.pinned (OpenSpec.ofChange inflateTellsSpec)

/-- ITS FALSE NEIGHBOUR: 'it returns false'. Refute it at one input. -/
def inflateTellsWrong : ChangeSpec := { name := "inflateTells", fn := fun _ => fun
  | [d1, d2] => { results := [.lit (.bool false)], args := [d1, d2] }
  | _ => none }
def InflateTellsWrongFalsely : Prop := inflateTellsRow.holds Tryd.pinned (OpenSpec.ofChange inflateTellsWrong)

/-- 'drogherlaw13.InflatePieces': WHATEVER THE INPUT: true; the input reads as it did. -/
def inflatePiecesSpec : ChangeSpec := { name := "inflatePieces", fn := fun _ => fun
  | [d1, d2] => { results := [.lit (.bool true)], args := [d1, d2] }
  | _ => none }
def inflatePiecesRow : OpenClaim := { program := "ythmkeflkhocobaadoor", sum := "3bf3509538a12668a26c109bf5c2ebdc608a26d18c3419721e0945f28c0c56ea", func := "drogher/drogherlaw13.InflatePieces", spec := "inflatePieces", unfollowed := true, recurses := true, named := ["drogher/inflate.turns"], apart := false, laid := [("drogher/inflate.turns", laid_drogher_inflate_turns)] }
def InflatePiecesSaid : Prop := inflatePiecesRow.holds Tryd.pinned (OpenSpec.ofChange inflatePiecesSpec)

/-- ITS FALSE NEIGHBOUR: 'it returns false'. Refute it at one input. -/
def inflatePiecesWrong : ChangeSpec := { name := "inflatePieces", fn := fun _ => fun
  | [d1, d2] => { results := [.lit (.bool false)], args := [d1, d2] }
  | _ => none }
def InflatePiecesWrongFalsely : Prop := inflatePiecesRow.holds Tryd.pinned (OpenSpec.ofChange inflatePiecesWrong)

/-- 'drogherlaw13.InflateBounds': WHATEVER THE INPUT: true; the input reads as it did. -/
def inflateBoundsSpec : ChangeSpec := { name := "inflateBounds", fn := fun _ => fun
  | [d1, d2] => { results := [.lit (.bool true)], args := [d1, d2] }
  | _ => none }
def inflateBoundsRow : OpenClaim := { program := "ythmkeflkhocobaadoor", sum := "3bf3509538a12668a26c109bf5c2ebdc608a26d18c3419721e0945f28c0c56ea", func := "drogher/drogherlaw13.InflateBounds", spec := "inflateBounds", unfollowed := true, recurses := true, named := ["drogher/inflate.turns"], apart := false, laid := [("drogher/inflate.turns", laid_drogher_inflate_turns)] }
def InflateBoundsSaid : Prop := inflateBoundsRow.holds Tryd.pinned (OpenSpec.ofChange inflateBoundsSpec)

/-- ITS FALSE NEIGHBOUR: 'it returns false'. Refute it at one input. -/
def inflateBoundsWrong : ChangeSpec := { name := "inflateBounds", fn := fun _ => fun
  | [d1, d2] => { results := [.lit (.bool false)], args := [d1, d2] }
  | _ => none }
def InflateBoundsWrongFalsely : Prop := inflateBoundsRow.holds Tryd.pinned (OpenSpec.ofChange inflateBoundsWrong)

/-- 'drogherlaw13.InflateEver': WHATEVER THE INPUT: true; the input reads as it did. -/
def inflateEverSpec : ChangeSpec := { name := "inflateEver", fn := fun _ => fun
  | [d1, d2, d3] => { results := [.lit (.bool true)], args := [d1, d2, d3] }
  | _ => none }
def inflateEverRow : OpenClaim := { program := "ythmkeflkhocobaadoor", sum := "3bf3509538a12668a26c109bf5c2ebdc608a26d18c3419721e0945f28c0c56ea", func := "drogher/drogherlaw13.InflateEver", spec := "inflateEver", unfollowed := true, recurses := true, named := ["drogher/inflate.turns"], apart := false, laid := [("drogher/inflate.turns", laid_drogher_inflate_turns)] }
def InflateEverSaid : Prop := inflateEverRow.holds Tryd.pinned (OpenSpec.ofChange inflateEverSpec)

/-- ITS FALSE NEIGHBOUR: 'it returns false'. Refute it at one input. -/
def inflateEverWrong : ChangeSpec := { name := "inflateEver", fn := fun _ => fun
  | [d1, d2, d3] => { results := [.lit (.bool false)], args := [d1, d2, d3] }
  | _ => none }
def InflateEverWrongFalsely : Prop := inflateEverRow.holds Tryd.pinned (OpenSpec.ofChange inflateEverWrong)

/-- 'drogherlaw13.InflateNil': WHATEVER THE INPUT: true; the input reads as it did. -/
def inflateNilSpec : ChangeSpec := { name := "inflateNil", fn := fun _ => fun
  | [d] => { results := [.lit (.bool true)], args := [d] }
  | _ => none }
def inflateNilRow : OpenClaim := { program := "ythmkeflkhocobaadoor", sum := "3bf3509538a12668a26c109bf5c2ebdc608a26d18c3419721e0945f28c0c56ea", func := "drogher/drogherlaw13.InflateNil", spec := "inflateNil", unfollowed := true, recurses := true, named := ["drogher/inflate.turns"], apart := false, laid := [("drogher/inflate.turns", laid_drogher_inflate_turns)] }
def InflateNilSaid : Prop := inflateNilRow.holds Tryd.pinned (OpenSpec.ofChange inflateNilSpec)

/-- ITS FALSE NEIGHBOUR: 'it returns false'. Refute it at one input. -/
def inflateNilWrong : ChangeSpec := { name := "inflateNil", fn := fun _ => fun
  | [d] => { results := [.lit (.bool false)], args := [d] }
  | _ => none }
def InflateNilWrongFalsely : Prop := inflateNilRow.holds Tryd.pinned (OpenSpec.ofChange inflateNilWrong)

/-- 'drogherlaw26.ChunkPacks': WHATEVER THE INPUT: true; the input reads as it did. -/
def chunkPacksSpec : ChangeSpec := { name := "chunkPacks", fn := fun _ => fun
  | [d] => { results := [.lit (.bool true)], args := [d] }
  | _ => none }
def chunkPacksRow : OpenClaim := { program := "ythmkeflkhocobaadoor", sum := "3bf3509538a12668a26c109bf5c2ebdc608a26d18c3419721e0945f28c0c56ea", func := "drogher/drogherlaw26.ChunkPacks", spec := "chunkPacks", unfollowed := true, recurses := true, named := ["drogher/deflate.lengths", "drogher/deflate.distances", "drogher/deflate.turns"], apart := false, laid := [("drogher/deflate.lengths", laid_drogher_deflate_lengths), ("drogher/deflate.distances", laid_drogher_deflate_distances), ("drogher/deflate.turns", laid_drogher_deflate_turns)] }
def ChunkPacksSaid : Prop := chunkPacksRow.holds Tryd.pinned (OpenSpec.ofChange chunkPacksSpec)

/-- ITS FALSE NEIGHBOUR: 'it returns false'. Refute it at one input. -/
def chunkPacksWrong : ChangeSpec := { name := "chunkPacks", fn := fun _ => fun
  | [d] => { results := [.lit (.bool false)], args := [d] }
  | _ => none }
def ChunkPacksWrongFalsely : Prop := chunkPacksRow.holds Tryd.pinned (OpenSpec.ofChange chunkPacksWrong)

/- THE SECOND FORM. 'bulk': how many values and letters a reading holds, each counted each time it is reached (what is shared counts as often as it is met; a slice's spare places count too). A statement '..UptoSaid' is the law's where the arguments, and the package variables that the reading takes, are together of bulk at most 1048576: NARROWER than '..Said'. Prove '..Said' where nothing that the law and all that it calls make is longer than what came in: it says more and counts as full. Else prove '..UptoSaid'. A law counts once. -/
mutual
def uptoBulk {H : Type} : DataW H → Nat
  | .lit (.string bytes) => bytes.length + 1
  | .lit _ => 1
  | .nil => 1
  | .ptr d => uptoBulk d + 1
  | .slice elems spare => uptoBulkAll elems + uptoBulkAll spare + 1
  | .agg parts => uptoBulkAll parts + 1
  | .iface _ d => uptoBulk d + 1
  | .map entries => uptoBulkEntries entries + 1
  | .held _ => 1
def uptoBulkAll {H : Type} : List (DataW H) → Nat
  | [] => 0
  | d :: r => uptoBulk d + uptoBulkAll r
def uptoBulkEntries {H : Type} : List (Lit × DataW H) → Nat
  | [] => 0
  | x :: r => uptoBulkEntry x + uptoBulkEntries r
def uptoBulkEntry {H : Type} : Lit × DataW H → Nat
  | (.string bytes, d) => bytes.length + uptoBulk d + 1
  | (_, d) => uptoBulk d + 1
 end
def uptoSmall : (H : Type) → List (DataW H) → Bool := fun _ ds => decide (uptoBulkAll ds ≤ 1048576)
def OpenSpec.upto (s : _root_.Go.ChangeSpec) : _root_.Go.OpenSpec := { _root_.Go.OpenSpec.ofChange s with cond := some uptoSmall }

/-- 'drogherlaw12.DeflateRefuses', WHERE WHAT IT READS IS OF BULK AT MOST 1048576: true; the input reads as it did. -/
def deflateRefusesUptoRow : OpenClaim := { program := "ythmkeflkhocobaadoor", sum := "3bf3509538a12668a26c109bf5c2ebdc608a26d18c3419721e0945f28c0c56ea", func := "drogher/drogherlaw12.DeflateRefuses", spec := "deflateRefuses", unfollowed := true, recurses := true, named := ["drogher/deflate.lengths", "drogher/deflate.distances", "drogher/deflate.turns"], apart := false, laid := [("drogher/deflate.lengths", laid_drogher_deflate_lengths), ("drogher/deflate.distances", laid_drogher_deflate_distances), ("drogher/deflate.turns", laid_drogher_deflate_turns)], narrowed := true }
def DeflateRefusesUptoSaid : Prop := deflateRefusesUptoRow.holds Tryd.pinned (OpenSpec.upto deflateRefusesSpec)

/-- 'drogherlaw12.DeflateAgain', WHERE WHAT IT READS IS OF BULK AT MOST 1048576: true; the input reads as it did. -/
def deflateAgainUptoRow : OpenClaim := { program := "ythmkeflkhocobaadoor", sum := "3bf3509538a12668a26c109bf5c2ebdc608a26d18c3419721e0945f28c0c56ea", func := "drogher/drogherlaw12.DeflateAgain", spec := "deflateAgain", unfollowed := true, recurses := true, named := ["drogher/deflate.lengths", "drogher/deflate.distances", "drogher/deflate.turns"], apart := false, laid := [("drogher/deflate.lengths", laid_drogher_deflate_lengths), ("drogher/deflate.distances", laid_drogher_deflate_distances), ("drogher/deflate.turns", laid_drogher_deflate_turns)], narrowed := true }
def DeflateAgainUptoSaid : Prop := deflateAgainUptoRow.holds Tryd.pinned (OpenSpec.upto deflateAgainSpec)

/-- 'drogherlaw13.InflateTells', WHERE WHAT IT READS IS OF BULK AT MOST 1048576: true; the input reads as it did. -/
def inflateTellsUptoRow : OpenClaim := { program := "ythmkeflkhocobaadoor", sum := "3bf3509538a12668a26c109bf5c2ebdc608a26d18c3419721e0945f28c0c56ea", func := "drogher/drogherlaw13.InflateTells", spec := "inflateTells", unfollowed := true, recurses := true, named := ["drogher/inflate.turns"], apart := false, laid := [("drogher/inflate.turns", laid_drogher_inflate_turns)], narrowed := true }
def InflateTellsUptoSaid : Prop := inflateTellsUptoRow.holds Tryd.pinned (OpenSpec.upto inflateTellsSpec)

/-- 'drogherlaw13.InflatePieces', WHERE WHAT IT READS IS OF BULK AT MOST 1048576: true; the input reads as it did. -/
def inflatePiecesUptoRow : OpenClaim := { program := "ythmkeflkhocobaadoor", sum := "3bf3509538a12668a26c109bf5c2ebdc608a26d18c3419721e0945f28c0c56ea", func := "drogher/drogherlaw13.InflatePieces", spec := "inflatePieces", unfollowed := true, recurses := true, named := ["drogher/inflate.turns"], apart := false, laid := [("drogher/inflate.turns", laid_drogher_inflate_turns)], narrowed := true }
def InflatePiecesUptoSaid : Prop := inflatePiecesUptoRow.holds Tryd.pinned (OpenSpec.upto inflatePiecesSpec)

/-- 'drogherlaw13.InflateBounds', WHERE WHAT IT READS IS OF BULK AT MOST 1048576: true; the input reads as it did. -/
def inflateBoundsUptoRow : OpenClaim := { program := "ythmkeflkhocobaadoor", sum := "3bf3509538a12668a26c109bf5c2ebdc608a26d18c3419721e0945f28c0c56ea", func := "drogher/drogherlaw13.InflateBounds", spec := "inflateBounds", unfollowed := true, recurses := true, named := ["drogher/inflate.turns"], apart := false, laid := [("drogher/inflate.turns", laid_drogher_inflate_turns)], narrowed := true }
def InflateBoundsUptoSaid : Prop := inflateBoundsUptoRow.holds Tryd.pinned (OpenSpec.upto inflateBoundsSpec)

/-- 'drogherlaw13.InflateEver', WHERE WHAT IT READS IS OF BULK AT MOST 1048576: true; the input reads as it did. -/
def inflateEverUptoRow : OpenClaim := { program := "ythmkeflkhocobaadoor", sum := "3bf3509538a12668a26c109bf5c2ebdc608a26d18c3419721e0945f28c0c56ea", func := "drogher/drogherlaw13.InflateEver", spec := "inflateEver", unfollowed := true, recurses := true, named := ["drogher/inflate.turns"], apart := false, laid := [("drogher/inflate.turns", laid_drogher_inflate_turns)], narrowed := true }
def InflateEverUptoSaid : Prop := inflateEverUptoRow.holds Tryd.pinned (OpenSpec.upto inflateEverSpec)

/-- 'drogherlaw13.InflateNil', WHERE WHAT IT READS IS OF BULK AT MOST 1048576: true; the input reads as it did. -/
def inflateNilUptoRow : OpenClaim := { program := "ythmkeflkhocobaadoor", sum := "3bf3509538a12668a26c109bf5c2ebdc608a26d18c3419721e0945f28c0c56ea", func := "drogher/drogherlaw13.InflateNil", spec := "inflateNil", unfollowed := true, recurses := true, named := ["drogher/inflate.turns"], apart := false, laid := [("drogher/inflate.turns", laid_drogher_inflate_turns)], narrowed := true }
def InflateNilUptoSaid : Prop := inflateNilUptoRow.holds Tryd.pinned (OpenSpec.upto inflateNilSpec)

/-- 'drogherlaw26.ChunkPacks', WHERE WHAT IT READS IS OF BULK AT MOST 1048576: true; the input reads as it did. -/
def chunkPacksUptoRow : OpenClaim := { program := "ythmkeflkhocobaadoor", sum := "3bf3509538a12668a26c109bf5c2ebdc608a26d18c3419721e0945f28c0c56ea", func := "drogher/drogherlaw26.ChunkPacks", spec := "chunkPacks", unfollowed := true, recurses := true, named := ["drogher/deflate.lengths", "drogher/deflate.distances", "drogher/deflate.turns"], apart := false, laid := [("drogher/deflate.lengths", laid_drogher_deflate_lengths), ("drogher/deflate.distances", laid_drogher_deflate_distances), ("drogher/deflate.turns", laid_drogher_deflate_turns)], narrowed := true }
def ChunkPacksUptoSaid : Prop := chunkPacksUptoRow.holds Tryd.pinned (OpenSpec.upto chunkPacksSpec)

end Rows
end Go.Proofs.YthmkeflkhocobaaDoor
