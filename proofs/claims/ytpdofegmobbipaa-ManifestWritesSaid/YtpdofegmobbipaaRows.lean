/-
  No cell of these rows narrows 'for every input' (looked for: loops, veiled, ifaces, maps, wideKeys, modest, calm, conditions, laid).
  DERIVED. THE GIVEN ROWS OF THIS SEAT. 5 by the template 'for every input the law returns true; each argument reads behind the call as it read before'; 0 by the template 'total and deterministic' (their statements: YtpdofegmobbipaaTotals.lean).
  GIVEN WITH THE SEED: the statements are not yours to turn. If you find one false, say at which input.
  Laid BY PROGRAM, IN A SANDBOX (cutbox-rows.mjs): the forced cells as the released guide's own fill.sh prints them over the translation 7db95e12be9d58eb… (all of the seat's roots in one cut). By AI agents, Wed Nov 11 2026. No macro, syntax, notation, axiom, sorry.
-/
import Derived.Test.YtpdofegmobbipaaChecked
import GoSem.Claim
import GoSem.ClaimJoined
import GoSem.ClaimMapViews
import Derived.JoinedTies
import Derived.KernelRfl
namespace Go.Proofs.Ytpdofegmobbipaa
/- THE CELL 'sum', in the pinned program and in every row, IS THE sha256 OF THE DUMP (.gsa) THAT YtpdofegmobbipaaProg.lean LOADS. Nothing in Lean hashes anything: it is a label: what it is worth is what the hold of that sum in a sandbox is worth. -/
noncomputable def Try.pinned : Pinned := { name := "ytpdofegmobbipaa", sum := "7db95e12be9d58ebdf4ece1a1e825eac7becc3b139fa4c6daf659911ac761866", checked := Try.checked }
namespace Rows
def none {H : Type} : Left H := { results := [], args := [] }

/-- 'drogherlaw22.ManifestWrites': WHATEVER THE INPUT: true; the input reads as it did. -/
def manifestWritesSpec : ChangeSpec := { name := "manifestWrites", fn := fun _ => fun
  | [d] => { results := [.lit (.bool true)], args := [d] }
  | _ => none }
def manifestWritesRow : OpenClaim := { program := "ytpdofegmobbipaa", sum := "7db95e12be9d58ebdf4ece1a1e825eac7becc3b139fa4c6daf659911ac761866", func := "drogher/drogherlaw22.ManifestWrites", spec := "manifestWrites", unfollowed := true, recurses := true, apart := false }
def ManifestWritesSaid : Prop := manifestWritesRow.holds Try.pinned (OpenSpec.ofChange manifestWritesSpec)

/-- ITS FALSE NEIGHBOUR: 'it returns false'. Refute it at one input. -/
def manifestWritesWrong : ChangeSpec := { name := "manifestWrites", fn := fun _ => fun
  | [d] => { results := [.lit (.bool false)], args := [d] }
  | _ => none }
def ManifestWritesWrongFalsely : Prop := manifestWritesRow.holds Try.pinned (OpenSpec.ofChange manifestWritesWrong)

/-- 'drogherlaw22.ManifestReads': WHATEVER THE INPUT: true; the input reads as it did. -/
def manifestReadsSpec : ChangeSpec := { name := "manifestReads", fn := fun _ => fun
  | [d] => { results := [.lit (.bool true)], args := [d] }
  | _ => none }
def manifestReadsRow : OpenClaim := { program := "ytpdofegmobbipaa", sum := "7db95e12be9d58ebdf4ece1a1e825eac7becc3b139fa4c6daf659911ac761866", func := "drogher/drogherlaw22.ManifestReads", spec := "manifestReads", unfollowed := true, recurses := true, apart := false }
def ManifestReadsSaid : Prop := manifestReadsRow.holds Try.pinned (OpenSpec.ofChange manifestReadsSpec)

/-- ITS FALSE NEIGHBOUR: 'it returns false'. Refute it at one input. -/
def manifestReadsWrong : ChangeSpec := { name := "manifestReads", fn := fun _ => fun
  | [d] => { results := [.lit (.bool false)], args := [d] }
  | _ => none }
def ManifestReadsWrongFalsely : Prop := manifestReadsRow.holds Try.pinned (OpenSpec.ofChange manifestReadsWrong)

/-- 'drogherlaw22.ManifestBlocks': WHATEVER THE INPUT: true; the input reads as it did. -/
def manifestBlocksSpec : ChangeSpec := { name := "manifestBlocks", fn := fun _ => fun
  | [d1, d2] => { results := [.lit (.bool true)], args := [d1, d2] }
  | _ => none }
def manifestBlocksRow : OpenClaim := { program := "ytpdofegmobbipaa", sum := "7db95e12be9d58ebdf4ece1a1e825eac7becc3b139fa4c6daf659911ac761866", func := "drogher/drogherlaw22.ManifestBlocks", spec := "manifestBlocks", unfollowed := true, recurses := true, apart := false }
def ManifestBlocksSaid : Prop := manifestBlocksRow.holds Try.pinned (OpenSpec.ofChange manifestBlocksSpec)

/-- ITS FALSE NEIGHBOUR: 'it returns false'. Refute it at one input. -/
def manifestBlocksWrong : ChangeSpec := { name := "manifestBlocks", fn := fun _ => fun
  | [d1, d2] => { results := [.lit (.bool false)], args := [d1, d2] }
  | _ => none }
def ManifestBlocksWrongFalsely : Prop := manifestBlocksRow.holds Try.pinned (OpenSpec.ofChange manifestBlocksWrong)

/-- 'drogherlaw22.ManifestHeads': WHATEVER THE INPUT: true; the input reads as it did. -/
def manifestHeadsSpec : ChangeSpec := { name := "manifestHeads", fn := fun _ => fun
  | [d1, d2] => { results := [.lit (.bool true)], args := [d1, d2] }
  | _ => none }
def manifestHeadsRow : OpenClaim := { program := "ytpdofegmobbipaa", sum := "7db95e12be9d58ebdf4ece1a1e825eac7becc3b139fa4c6daf659911ac761866", func := "drogher/drogherlaw22.ManifestHeads", spec := "manifestHeads", unfollowed := true, recurses := true, apart := false }
def ManifestHeadsSaid : Prop := manifestHeadsRow.holds Try.pinned (OpenSpec.ofChange manifestHeadsSpec)

/-- ITS FALSE NEIGHBOUR: 'it returns false'. Refute it at one input. -/
def manifestHeadsWrong : ChangeSpec := { name := "manifestHeads", fn := fun _ => fun
  | [d1, d2] => { results := [.lit (.bool false)], args := [d1, d2] }
  | _ => none }
def ManifestHeadsWrongFalsely : Prop := manifestHeadsRow.holds Try.pinned (OpenSpec.ofChange manifestHeadsWrong)

/-- 'drogherlaw26.ChunkSizes': WHATEVER THE INPUT: true; the input reads as it did. -/
def chunkSizesSpec : ChangeSpec := { name := "chunkSizes", fn := fun _ => fun
  | [d1, d2] => { results := [.lit (.bool true)], args := [d1, d2] }
  | _ => none }
def chunkSizesRow : OpenClaim := { program := "ytpdofegmobbipaa", sum := "7db95e12be9d58ebdf4ece1a1e825eac7becc3b139fa4c6daf659911ac761866", func := "drogher/drogherlaw26.ChunkSizes", spec := "chunkSizes", unfollowed := true, recurses := true, apart := false }
def ChunkSizesSaid : Prop := chunkSizesRow.holds Try.pinned (OpenSpec.ofChange chunkSizesSpec)

/-- ITS FALSE NEIGHBOUR: 'it returns false'. Refute it at one input. -/
def chunkSizesWrong : ChangeSpec := { name := "chunkSizes", fn := fun _ => fun
  | [d1, d2] => { results := [.lit (.bool false)], args := [d1, d2] }
  | _ => none }
def ChunkSizesWrongFalsely : Prop := chunkSizesRow.holds Try.pinned (OpenSpec.ofChange chunkSizesWrong)

/- THE SECOND FORM. 'bulk': how many values and letters a reading holds, each counted each time it is reached (what is shared counts as often as it is met; a slice's spare places count too). A statement '..UptoSaid' is the law's where the arguments, and the package variables that the reading takes, are together of bulk at most 1048576: NARROWER than '..Said'. Prove '..Said' where nothing that the law and all that it calls make is longer than what came in: it says more and counts as full. Else prove '..UptoSaid'. A law counts once. -/
mutual
def uptoBulk {H : Type} : DataW H → Nat
  | .lit (.string bytes) => bytes.length + 1
  | .lit _ => 1
  | .nil => 1
  | .ptr d => uptoBulk d + 1
  | .slice elems spare => uptoBulkAll elems + uptoBulkAll spare + 1
  | .agg parts => uptoBulkAll parts + 1
  | .iface _ d => uptoBulk d + 1
  | .map entries => uptoBulkEntries entries + 1
  | .held _ => 1
def uptoBulkAll {H : Type} : List (DataW H) → Nat
  | [] => 0
  | d :: r => uptoBulk d + uptoBulkAll r
def uptoBulkEntries {H : Type} : List (Lit × DataW H) → Nat
  | [] => 0
  | x :: r => uptoBulkEntry x + uptoBulkEntries r
def uptoBulkEntry {H : Type} : Lit × DataW H → Nat
  | (.string bytes, d) => bytes.length + uptoBulk d + 1
  | (_, d) => uptoBulk d + 1
 end
def uptoSmall : (H : Type) → List (DataW H) → Bool := fun _ ds => decide (uptoBulkAll ds ≤ 1048576)
def OpenSpec.upto (s : _root_.Go.ChangeSpec) : _root_.Go.OpenSpec := { _root_.Go.OpenSpec.ofChange s with cond := some uptoSmall }

/-- 'drogherlaw22.ManifestWrites', WHERE WHAT IT READS IS OF BULK AT MOST 1048576: true; the input reads as it did. -/
def manifestWritesUptoRow : OpenClaim := { program := "ytpdofegmobbipaa", sum := "7db95e12be9d58ebdf4ece1a1e825eac7becc3b139fa4c6daf659911ac761866", func := "drogher/drogherlaw22.ManifestWrites", spec := "manifestWrites", unfollowed := true, recurses := true, apart := false, narrowed := true }
def ManifestWritesUptoSaid : Prop := manifestWritesUptoRow.holds Try.pinned (OpenSpec.upto manifestWritesSpec)

/-- 'drogherlaw22.ManifestReads', WHERE WHAT IT READS IS OF BULK AT MOST 1048576: true; the input reads as it did. -/
def manifestReadsUptoRow : OpenClaim := { program := "ytpdofegmobbipaa", sum := "7db95e12be9d58ebdf4ece1a1e825eac7becc3b139fa4c6daf659911ac761866", func := "drogher/drogherlaw22.ManifestReads", spec := "manifestReads", unfollowed := true, recurses := true, apart := false, narrowed := true }
def ManifestReadsUptoSaid : Prop := manifestReadsUptoRow.holds Try.pinned (OpenSpec.upto manifestReadsSpec)

/-- 'drogherlaw22.ManifestBlocks', WHERE WHAT IT READS IS OF BULK AT MOST 1048576: true; the input reads as it did. -/
def manifestBlocksUptoRow : OpenClaim := { program := "ytpdofegmobbipaa", sum := "7db95e12be9d58ebdf4ece1a1e825eac7becc3b139fa4c6daf659911ac761866", func := "drogher/drogherlaw22.ManifestBlocks", spec := "manifestBlocks", unfollowed := true, recurses := true, apart := false, narrowed := true }
def ManifestBlocksUptoSaid : Prop := manifestBlocksUptoRow.holds Try.pinned (OpenSpec.upto manifestBlocksSpec)

/-- 'drogherlaw22.ManifestHeads', WHERE WHAT IT READS IS OF BULK AT MOST 1048576: true; the input reads as it did. -/
def manifestHeadsUptoRow : OpenClaim := { program := "ytpdofegmobbipaa", sum := "7db95e12be9d58ebdf4ece1a1e825eac7becc3b139fa4c6daf659911ac761866", func := "drogher/drogherlaw22.ManifestHeads", spec := "manifestHeads", unfollowed := true, recurses := true, apart := false, narrowed := true }
def ManifestHeadsUptoSaid : Prop := manifestHeadsUptoRow.holds Try.pinned (OpenSpec.upto manifestHeadsSpec)

/-- 'drogherlaw26.ChunkSizes', WHERE WHAT IT READS IS OF BULK AT MOST 1048576: true; the input reads as it did. -/
def chunkSizesUptoRow : OpenClaim := { program := "ytpdofegmobbipaa", sum := "7db95e12be9d58ebdf4ece1a1e825eac7becc3b139fa4c6daf659911ac761866", func := "drogher/drogherlaw26.ChunkSizes", spec := "chunkSizes", unfollowed := true, recurses := true, apart := false, narrowed := true }
def ChunkSizesUptoSaid : Prop := chunkSizesUptoRow.holds Try.pinned (OpenSpec.upto chunkSizesSpec)

end Rows
end Go.Proofs.Ytpdofegmobbipaa
