/-
  Layer 21, merkle: the document's text of two sums, and their sum: contracts. Conditions: as each theorem names.
-/
import Derived.Test.YtdfgdchmeikigaaDoorMkC
namespace Go.Proofs.YtdfgdchmeikigaaDoor.Mk
open Go.ChangeShapes Go.WideShapes Go.ChangeAt Go.RowKit Go.Proofs.YtdfgdchmeikigaaDoor.Kit Go.Proofs.YtdfgdchmeikigaaDoor.Sha

set_option maxRecDepth 100000 in
set_option maxHeartbeats 1600000 in
theorem text_any (a b : List Int) (w : World) (ha : D32 a) (hb : D32 b) :
    Calls Tryd.prog 72 #[.agg (a.map (Value.int .u8)).toArray, .agg (b.map (Value.int .u8)).toArray] w (Rowed (1 :: (a ++ b)) w) := by
  have bx := boxed (w := w) (t := 24) (.cells #[.int .u8 1] 5) ha hb
  have b3 : ∀ o p q, Below w.heap.size w (((w.alloc o).alloc p).alloc q) := fun o p q => (below_two' o p).alloc (by simp; omega) q
  have r0 : ∀ o p, Arr (((w.alloc o).alloc p).alloc (.cells #[.int .u8 1] 5)) (w.heap.size + 2) 5 .u8 [1] := fun o p => by
    have := Arr.new ((w.alloc o).alloc p) 5 .u8 [1]
    rwa [show ((w.alloc o).alloc p).heap.size = w.heap.size + 2 by simp] at this
  have la := ha.1
  have lb := hb.1
  obtain ⟨W, hW⟩ : ∃ W, ((w.alloc (.cells (a.map (Value.int .u8)).toArray 24)).alloc (.cells (b.map (Value.int .u8)).toArray 24)) = W := ⟨_, rfl⟩
  have hB := b3 (.cells (a.map (Value.int .u8)).toArray 24) (.cells (b.map (Value.int .u8)).toArray 24) (.cells #[.int .u8 1] 5)
  have hr := r0 (.cells (a.map (Value.int .u8)).toArray 24) (.cells (b.map (Value.int .u8)).toArray 24)
  have hs : W.heap.size = w.heap.size + 2 := by rw [← hW]; simp
  rw [hW] at bx hB hr
  clear b3 r0
  have hr1 := RwOk.arr hr (by intro x hx; simp at hx; omega) (by decide)
  have hrows := rows_laid (w := (W.alloc (.cells #[.int .u8 1] 5)).drew) (t := 35) [⟨some ⟨w.heap.size + 2, 0, none⟩, 1, [1]⟩, ⟨some ⟨w.heap.size, 0, none⟩, 32, a⟩, ⟨some ⟨w.heap.size + 1, 0, none⟩, 32, b⟩] (by
    intro r hr'
    simp at hr'
    rcases hr' with rfl | rfl | rfl
    · exact hr1
    · exact bx.1
    · exact bx.2)
  have hB4 : Below w.heap.size w ((W.alloc (.cells #[.int .u8 1] 5)).alloc (.cells #[.slice (some ⟨w.heap.size + 2, 0, none⟩) 1 1, .slice (some ⟨w.heap.size, 0, none⟩) a.length 32, .slice (some ⟨w.heap.size + 1, 0, none⟩) b.length 32] 35)).drew := below_draws (hB.alloc hB.size _) 1
  have GM := joins_any (some ⟨(W.alloc (.cells #[.int .u8 1] 5)).drew.heap.size, 0, none⟩) [⟨some ⟨w.heap.size + 2, 0, none⟩, 1, [1]⟩, ⟨some ⟨w.heap.size, 0, none⟩, 32, a⟩, ⟨some ⟨w.heap.size + 1, 0, none⟩, 32, b⟩] 3 _ (Nat.le_refl _) (by decide) hrows (by simp) (by intro r hr'; simp at hr'; rcases hr' with rfl | rfl | rfl <;> first | exact (by omega : a.length ≤ 100000) | exact (by omega : b.length ≤ 100000) | exact (by decide : (1 : Nat) ≤ 100000))
  rw [joinL_three] at GM
  have GM : Calls Tryd.prog 68 #[.slice (some ⟨(W.alloc (.cells #[.int .u8 1] 5)).heap.size, 0, none⟩) 3 3] ((W.alloc (.cells #[.int .u8 1] 5)).alloc (.cells #[.slice (some ⟨w.heap.size + 2, 0, none⟩) 1 1, .slice (some ⟨w.heap.size, 0, none⟩) a.length 32, .slice (some ⟨w.heap.size + 1, 0, none⟩) b.length 32] 35)).drew (Rowed (1 :: (a ++ b)) ((W.alloc (.cells #[.int .u8 1] 5)).alloc (.cells #[.slice (some ⟨w.heap.size + 2, 0, none⟩) 1 1, .slice (some ⟨w.heap.size, 0, none⟩) a.length 32, .slice (some ⟨w.heap.size + 1, 0, none⟩) b.length 32] 35)).drew) := GM
  rw [la, lb] at *
  rw [show (W.alloc (.cells #[.int .u8 1] 5)).heap.size = w.heap.size + 3 by simp [hs]] at GM
  have GM := Lib.hid GM
  generalize 1 :: (a ++ b) = ys at *
  clear hrows bx hB hr hr1
  go_enter Tryd.func72, Tryd.ntmps72
  go_wp2_with fail
  refine wp_region_any (by kernel_rfl) ?_
  change wpAny _ _ _ _ _ _ _ (World.drew _)
  refine wpAny_take (i := 1) (v := .slice (some ⟨w.heap.size, 0, none⟩) 32 32) rfl (by kernel_rfl) (by kernel_rfl) (by kernel_rfl) (fun _ _ _ h => h) (Or.inl ⟨by rfl, fun W => by go_simp⟩) ?_
  refine wpAny_take (i := 2) (v := .slice (some ⟨w.heap.size + 1, 0, none⟩) 32 32) rfl (by kernel_rfl) (by kernel_rfl) (by kernel_rfl) (fun _ _ _ h => h) (Or.inl ⟨by rfl, fun W => by go_simp⟩) ?_
  refine wpAny_ready (rs := [0]) (by kernel_rfl) (by simp) ?_
  refine AllReady.cons rfl (fun K hK => ?_) AllReady.nil
  go_simp
  refine hK _ _ ?_
  clear hK K
  refine wpAny_ready (rs := [3]) (by kernel_rfl) (by simp) ?_
  refine AllReady.cons rfl (fun K hK => ?_) AllReady.nil
  go_simp
  refine hK _ _ ?_
  clear hK K
  refine wpAny_ready (rs := [4]) (by kernel_rfl) (by simp) ?_
  refine AllReady.cons rfl (fun K hK => ?_) AllReady.nil
  go_simp
  go_at_call 68
  with_reducible refine GM.out.mono ?_
  rintro e w4 ⟨v4, rfl, own4, hb4⟩
  refine hK _ _ ?_
  clear hK K
  refine wpAny_ready (rs := [5]) (by kernel_rfl) (by simp) ?_
  refine AllReady.cons rfl (fun K hK => ?_) AllReady.nil
  go_simp
  refine hK _ _ ?_
  clear hK K
  refine wpAny_done (by kernel_rfl) ?_ _
  go_wp2_with fail
  go_ret
  exact ⟨v4, rfl, own4.mono hB4.size, hB4.trans (hb4.mono hB4.size)⟩
end Go.Proofs.YtdfgdchmeikigaaDoor.Mk
