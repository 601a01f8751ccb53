/-
  Layer 1, sha: a hash: new, its length, a copy: contracts. Conditions: as each theorem names.
-/
import Derived.Test.YtdfgdchmeikigaaDoorShX
import Derived.Test.YtdfgdchmeikigaaDoorShP
import Derived.Deep.RegionWith
import Derived.Laws.CopyOwn
namespace Go.Proofs.YtdfgdchmeikigaaDoor.Sha
open Go.ChangeShapes Go.WideShapes Go.ChangeAt Go.RowKit Go.Proofs.YtdfgdchmeikigaaDoor.Kit

/-- Block g is a hash that has taken these bytes. -/
structure HashIs (w : World) (g : Nat) (xs : List Int) : Prop where
  ex : ∃ rest, HB w g (stateL xs) rest xs.length ∧ rest.length = 64 ∧ rest.take (xs.length % 64) = xs.drop (64 * (xs.length / 64))

theorem HashIs.lt {w : World} {g : Nat} {xs : List Int} (h : HashIs w g xs) : g < w.heap.size := by
  obtain ⟨r, h1, _⟩ := h.ex
  exact h1.lt
theorem HashIs.out {w w' : World} {g : Nat} {xs : List Int} {S : Nat → Prop} (h : HashIs w g xs) (ho : TurnsIn S w w') (hg : ¬ S g) : HashIs w' g xs := by
  obtain ⟨r, h1, h2, h3⟩ := h.ex
  exact ⟨r, h1.out ho hg, h2, h3⟩
theorem HashIs.below {w w' : World} {g B : Nat} {xs : List Int} (h : HashIs w g xs) (hb : Below B w w') (hg : g < B) : HashIs w' g xs := by
  obtain ⟨r, h1, h2, h3⟩ := h.ex
  exact ⟨r, h1.below hb hg, h2, h3⟩

theorem zero_hash (W : World) : (zeroValue 122).run Tryd.prog W = .ok (.agg #[.int .u32 0, .int .u32 0, .int .u32 0, .int .u32 0, .int .u32 0, .int .u32 0, .int .u32 0, .int .u32 0, .int .u8 0, .int .u8 0, .int .u8 0, .int .u8 0, .int .u8 0, .int .u8 0, .int .u8 0, .int .u8 0, .int .u8 0, .int .u8 0, .int .u8 0, .int .u8 0, .int .u8 0, .int .u8 0, .int .u8 0, .int .u8 0, .int .u8 0, .int .u8 0, .int .u8 0, .int .u8 0, .int .u8 0, .int .u8 0, .int .u8 0, .int .u8 0, .int .u8 0, .int .u8 0, .int .u8 0, .int .u8 0, .int .u8 0, .int .u8 0, .int .u8 0, .int .u8 0, .int .u8 0, .int .u8 0, .int .u8 0, .int .u8 0, .int .u8 0, .int .u8 0, .int .u8 0, .int .u8 0, .int .u8 0, .int .u8 0, .int .u8 0, .int .u8 0, .int .u8 0, .int .u8 0, .int .u8 0, .int .u8 0, .int .u8 0, .int .u8 0, .int .u8 0, .int .u8 0, .int .u8 0, .int .u8 0, .int .u8 0, .int .u8 0, .int .u8 0, .int .u8 0, .int .u8 0, .int .u8 0, .int .u8 0, .int .u8 0, .int .u8 0, .int .u8 0, .int .u64 0]) W := by kernel_rfl

theorem zero_block (W : World) : HB (W.alloc (.cells #[.int .u32 0, .int .u32 0, .int .u32 0, .int .u32 0, .int .u32 0, .int .u32 0, .int .u32 0, .int .u32 0, .int .u8 0, .int .u8 0, .int .u8 0, .int .u8 0, .int .u8 0, .int .u8 0, .int .u8 0, .int .u8 0, .int .u8 0, .int .u8 0, .int .u8 0, .int .u8 0, .int .u8 0, .int .u8 0, .int .u8 0, .int .u8 0, .int .u8 0, .int .u8 0, .int .u8 0, .int .u8 0, .int .u8 0, .int .u8 0, .int .u8 0, .int .u8 0, .int .u8 0, .int .u8 0, .int .u8 0, .int .u8 0, .int .u8 0, .int .u8 0, .int .u8 0, .int .u8 0, .int .u8 0, .int .u8 0, .int .u8 0, .int .u8 0, .int .u8 0, .int .u8 0, .int .u8 0, .int .u8 0, .int .u8 0, .int .u8 0, .int .u8 0, .int .u8 0, .int .u8 0, .int .u8 0, .int .u8 0, .int .u8 0, .int .u8 0, .int .u8 0, .int .u8 0, .int .u8 0, .int .u8 0, .int .u8 0, .int .u8 0, .int .u8 0, .int .u8 0, .int .u8 0, .int .u8 0, .int .u8 0, .int .u8 0, .int .u8 0, .int .u8 0, .int .u8 0, .int .u64 0] 122)) W.heap.size (List.replicate 8 0) (List.replicate 64 0) 0 := Block.new W _ _

set_option maxRecDepth 100000 in
set_option maxHeartbeats 1600000 in
theorem new_any (w : World) :
    Calls Tryd.prog 83 #[] w fun e w' => e = .returned (.pointer (some ⟨w.heap.size, 0, none⟩)) ∧ HashIs w' w.heap.size [] ∧ Below w.heap.size w w' := by
  have hz := zero_hash
  go_enter Tryd.func83, Tryd.ntmps83
  go_wp2_with fail
  go_ret
  exact ⟨rfl, ⟨List.replicate 64 0, Block.new w _ _, rfl, rfl⟩, (Below.refl _ _).alloc (Nat.le_refl _) _⟩

end Go.Proofs.YtdfgdchmeikigaaDoor.Sha
