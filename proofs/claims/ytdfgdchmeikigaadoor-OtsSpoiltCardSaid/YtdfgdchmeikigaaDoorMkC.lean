/-
  Layer 21, merkle: the sum of two sums: contracts. Conditions: as each theorem names.
-/
import Derived.Test.YtdfgdchmeikigaaDoorMkB
namespace Go.Proofs.YtdfgdchmeikigaaDoor.Mk
open Go.ChangeShapes Go.WideShapes Go.ChangeAt Go.RowKit Go.Proofs.YtdfgdchmeikigaaDoor.Kit Go.Proofs.YtdfgdchmeikigaaDoor.Sha

/-- Two arrays boxed, and a third block. -/
theorem boxed {w : World} {t : TypeId} {a b : List Int} (o : Obj) (ha : D32 a) (hb : D32 b) :
    RwOk (((w.alloc (.cells (a.map (Value.int .u8)).toArray t)).alloc (.cells (b.map (Value.int .u8)).toArray t)).alloc o) (((w.alloc (.cells (a.map (Value.int .u8)).toArray t)).alloc (.cells (b.map (Value.int .u8)).toArray t)).alloc o).heap.size ⟨some ⟨w.heap.size, 0, none⟩, 32, a⟩ ∧
    RwOk (((w.alloc (.cells (a.map (Value.int .u8)).toArray t)).alloc (.cells (b.map (Value.int .u8)).toArray t)).alloc o) (((w.alloc (.cells (a.map (Value.int .u8)).toArray t)).alloc (.cells (b.map (Value.int .u8)).toArray t)).alloc o).heap.size ⟨some ⟨w.heap.size + 1, 0, none⟩, 32, b⟩ := by
  have h1 : Arr (w.alloc (.cells (a.map (Value.int .u8)).toArray t)) w.heap.size t .u8 a := Arr.new w t .u8 a
  have h2 : Arr ((w.alloc (.cells (a.map (Value.int .u8)).toArray t)).alloc (.cells (b.map (Value.int .u8)).toArray t)) (w.alloc (.cells (a.map (Value.int .u8)).toArray t)).heap.size t .u8 b := Arr.new _ t .u8 b
  rw [show (w.alloc (.cells (a.map (Value.int .u8)).toArray t)).heap.size = w.heap.size + 1 by simp] at h2
  have k1 := RwOk.arr ((h1.alloc (.cells (b.map (Value.int .u8)).toArray t)).alloc o) ha.2 (by rw [ha.1]; decide)
  have k2 := RwOk.arr (h2.alloc o) hb.2 (by rw [hb.1]; decide)
  rw [ha.1] at k1
  rw [hb.1] at k2
  exact ⟨k1, k2⟩

theorem joinL_two (A B : Option Addr) (c d : Nat) (xs ys : List Int) : joinL [⟨A, c, xs⟩, ⟨B, d, ys⟩] = xs ++ ys := by simp [joinL]
theorem joinL_three (A B C : Option Addr) (c d e : Nat) (xs ys zs : List Int) : joinL [⟨A, c, xs⟩, ⟨B, d, ys⟩, ⟨C, e, zs⟩] = xs ++ (ys ++ zs) := by simp [joinL]

set_option maxRecDepth 100000 in
set_option maxHeartbeats 1600000 in
theorem pair_any (a b : List Int) (w : World) (ha : D32 a) (hb : D32 b) (hL : LaidS w) :
    Calls Tryd.prog 31 #[.agg (a.map (Value.int .u8)).toArray, .agg (b.map (Value.int .u8)).toArray] w (Sums (pairL a b) w) := by
  have bx := fun o => boxed (w := w) (t := 26) o ha hb
  have b3 : ∀ o p q, Below w.heap.size w (((w.alloc o).alloc p).alloc q) := fun o p q => (below_two' o p).alloc (by simp; omega) q
  have r0 : ∀ o p, Arr (((w.alloc o).alloc p).alloc (.cells ((List.replicate 32 (0 : Int)).map (Value.int .u8)).toArray 26)) (w.heap.size + 2) 26 .u8 (List.replicate 32 0) := fun o p => by
    have := Arr.new ((w.alloc o).alloc p) 26 .u8 (List.replicate 32 0)
    rwa [show ((w.alloc o).alloc p).heap.size = w.heap.size + 2 by simp] at this
  have hsl := Lib.hid (pairL_d32 a b).1
  have la := ha.1
  have lb := hb.1
  go_enter Tryd.func31, Tryd.ntmps31
  go_wp2_with fail
  obtain ⟨W, hW⟩ : ∃ W, (((w.alloc (.cells (a.map (Value.int .u8)).toArray 26)).alloc (.cells (b.map (Value.int .u8)).toArray 26)).alloc (.cells #[.int .u8 0, .int .u8 0, .int .u8 0, .int .u8 0, .int .u8 0, .int .u8 0, .int .u8 0, .int .u8 0, .int .u8 0, .int .u8 0, .int .u8 0, .int .u8 0, .int .u8 0, .int .u8 0, .int .u8 0, .int .u8 0, .int .u8 0, .int .u8 0, .int .u8 0, .int .u8 0, .int .u8 0, .int .u8 0, .int .u8 0, .int .u8 0, .int .u8 0, .int .u8 0, .int .u8 0, .int .u8 0, .int .u8 0, .int .u8 0, .int .u8 0, .int .u8 0] 26)) = W := ⟨_, rfl⟩
  have hx := bx (.cells #[.int .u8 0, .int .u8 0, .int .u8 0, .int .u8 0, .int .u8 0, .int .u8 0, .int .u8 0, .int .u8 0, .int .u8 0, .int .u8 0, .int .u8 0, .int .u8 0, .int .u8 0, .int .u8 0, .int .u8 0, .int .u8 0, .int .u8 0, .int .u8 0, .int .u8 0, .int .u8 0, .int .u8 0, .int .u8 0, .int .u8 0, .int .u8 0, .int .u8 0, .int .u8 0, .int .u8 0, .int .u8 0, .int .u8 0, .int .u8 0, .int .u8 0, .int .u8 0] 26)
  have hB := b3 (.cells (a.map (Value.int .u8)).toArray 26) (.cells (b.map (Value.int .u8)).toArray 26) (.cells #[.int .u8 0, .int .u8 0, .int .u8 0, .int .u8 0, .int .u8 0, .int .u8 0, .int .u8 0, .int .u8 0, .int .u8 0, .int .u8 0, .int .u8 0, .int .u8 0, .int .u8 0, .int .u8 0, .int .u8 0, .int .u8 0, .int .u8 0, .int .u8 0, .int .u8 0, .int .u8 0, .int .u8 0, .int .u8 0, .int .u8 0, .int .u8 0, .int .u8 0, .int .u8 0, .int .u8 0, .int .u8 0, .int .u8 0, .int .u8 0, .int .u8 0, .int .u8 0] 26)
  have hr : Arr (((w.alloc (.cells (a.map (Value.int .u8)).toArray 26)).alloc (.cells (b.map (Value.int .u8)).toArray 26)).alloc (.cells #[.int .u8 0, .int .u8 0, .int .u8 0, .int .u8 0, .int .u8 0, .int .u8 0, .int .u8 0, .int .u8 0, .int .u8 0, .int .u8 0, .int .u8 0, .int .u8 0, .int .u8 0, .int .u8 0, .int .u8 0, .int .u8 0, .int .u8 0, .int .u8 0, .int .u8 0, .int .u8 0, .int .u8 0, .int .u8 0, .int .u8 0, .int .u8 0, .int .u8 0, .int .u8 0, .int .u8 0, .int .u8 0, .int .u8 0, .int .u8 0, .int .u8 0, .int .u8 0] 26)) (w.heap.size + 2) 26 .u8 (List.replicate 32 0) := r0 (.cells (a.map (Value.int .u8)).toArray 26) (.cells (b.map (Value.int .u8)).toArray 26)
  have hs : W.heap.size = w.heap.size + 3 := by rw [← hW]; simp
  rw [hW] at hx hB hr ⊢
  clear bx b3 r0 hW
  have hrows := rows_laid (w := W.drew) (t := 35) [⟨some ⟨w.heap.size, 0, none⟩, 32, a⟩, ⟨some ⟨w.heap.size + 1, 0, none⟩, 32, b⟩] (by
    intro r hr'
    simp at hr'
    rcases hr' with rfl | rfl
    · exact hx.1
    · exact hx.2)
  have hB4 : Below w.heap.size w ((W.alloc (.cells #[.slice (some ⟨w.heap.size, 0, none⟩) a.length 32, .slice (some ⟨w.heap.size + 1, 0, none⟩) b.length 32] 35)).drew) := (below_draws hB 1).alloc (by have := hB.size; exact this) _
  have hr4 : Arr ((W.alloc (.cells #[.slice (some ⟨w.heap.size, 0, none⟩) a.length 32, .slice (some ⟨w.heap.size + 1, 0, none⟩) b.length 32] 35)).drew) (w.heap.size + 2) 26 .u8 (List.replicate 32 0) := (hr.drewN 1).alloc _
  have GM := marked_any 1 (by omega) (some ⟨W.drew.heap.size, 0, none⟩) [⟨some ⟨w.heap.size, 0, none⟩, 32, a⟩, ⟨some ⟨w.heap.size + 1, 0, none⟩, 32, b⟩] 2 _ (Nat.le_refl _) (by decide) hrows (by simp) (by intro r hr'; simp at hr'; rcases hr' with rfl | rfl <;> first | exact (by omega : a.length ≤ 100000) | exact (by omega : b.length ≤ 100000)) (hL.below hB4)
  rw [joinL_two] at GM
  have GM : Calls Tryd.prog 66 #[.int .u8 1, .slice (some ⟨W.heap.size, 0, none⟩) 2 2] ((W.alloc (.cells #[.slice (some ⟨w.heap.size, 0, none⟩) a.length 32, .slice (some ⟨w.heap.size + 1, 0, none⟩) b.length 32] 35)).drew) (Sums (pairL a b) ((W.alloc (.cells #[.slice (some ⟨w.heap.size, 0, none⟩) a.length 32, .slice (some ⟨w.heap.size + 1, 0, none⟩) b.length 32] 35)).drew)) := GM
  rw [la, lb] at *
  rw [hs] at GM
  have GM := Lib.hid GM
  generalize pairL a b = ys at *
  clear hrows hx hB hr
  refine wp_region_still_tail 2 (by kernel_rfl) (by kernel_rfl) ?_
  simp only [List.take_succ_cons, List.take_zero, List.drop_succ_cons, List.drop_zero]
  still_step
  still_step
  refine wpStill_nil ?_
  change wpList _ _ _ _ _ W.drew
  go_wp2_with fail
  refine GM.out.mono ?_
  rintro e w5 ⟨rfl, hb5⟩
  have r5 : Arr w5 (w.heap.size + 2) 26 .u8 (List.replicate 32 0) := Block.below hr4 hb5 (Block.lt hr4)
  have b5 := hB4.trans (hb5.mono hB4.size)
  clear hr4 hB4 hb5
  go_wp2_with (have _t := r5; refine wpList_store_arr rfl _ _ _ rfl r5 rfl rfl (by rw [hsl.out]; rfl) (by rw [hsl.out]; kernel_rfl) ?_; intro w9 r9 g9)
  refine bodyPost_ret (v := arrV .u8 ys) (results_cell_row rfl _ _ (w.heap.size + 2) 26 _ (0, 0) _ rfl r9 arr32D rfl (by rw [show (ys.map (Value.int .u8)).toArray.size = 32 by simp [hsl.out]]; kernel_rfl)) rfl ⟨rfl, ?_⟩
  exact b5.trans (below_of_grown g9 b5.size fun b hb => by injection hb with hb; omega)
end Go.Proofs.YtdfgdchmeikigaaDoor.Mk
