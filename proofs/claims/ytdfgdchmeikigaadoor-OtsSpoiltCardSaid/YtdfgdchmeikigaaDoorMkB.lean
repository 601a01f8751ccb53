/-
  Layer 21, merkle: a leaf's sum, the sum of two: contracts. Conditions: as each theorem names.
-/
import Derived.Test.YtdfgdchmeikigaaDoorMkA
import Derived.StillTailTactics
import Derived.Deep.RegionWith
namespace Go.Proofs.YtdfgdchmeikigaaDoor.Mk
open Go.ChangeShapes Go.WideShapes Go.ChangeAt Go.RowKit Go.Proofs.YtdfgdchmeikigaaDoor.Kit Go.Proofs.YtdfgdchmeikigaaDoor.Sha

/-- A leaf's sum; the sum of two sums. -/
def leafL (xs : List Int) : List Int := sumL (0 :: xs)
def pairL (a b : List Int) : List Int := sumL (1 :: (a ++ b))
/-- 32 bytes. -/
def D32 (d : List Int) : Prop := d.length = 32 ∧ Octets d
theorem digL_octets (s : List Int) : Octets (digL s) := by
  intro x hx
  obtain ⟨i, _, rfl⟩ := List.mem_map.1 hx
  omega
theorem sumL_d32 (xs : List Int) : D32 (sumL xs) := ⟨sumL_length xs, digL_octets _⟩
theorem leafL_d32 (xs : List Int) : D32 (leafL xs) := sumL_d32 _
theorem pairL_d32 (a b : List Int) : D32 (pairL a b) := sumL_d32 _

theorem below_new {w : World} (o : Obj) : Below w.heap.size w (w.alloc o) := (Below.refl _ w).alloc (Nat.le_refl _) o

theorem rows_one {w : World} {t : TypeId} (o : Obj) (rs : List Rw) (h : ∀ r ∈ rs, RwOk w w.heap.size r) :
    HoldsW ((w.alloc o).alloc (.cells (rs.map Rw.val).toArray t)) ((w.alloc o).alloc (.cells (rs.map Rw.val).toArray t)).heap.size (some ⟨w.heap.size + 1, 0, none⟩) rs := by
  have := rows_laid (w := w.alloc o) (t := t) rs (fun r hr => (h r hr).on (below_new o))
  rwa [show (w.alloc o).heap.size = w.heap.size + 1 by simp] at this

theorem below_two' {w : World} (o p : Obj) : Below w.heap.size w ((w.alloc o).alloc p) := ((Below.refl _ w).alloc (Nat.le_refl _) o).alloc (by simp) p

set_option maxRecDepth 100000 in
set_option maxHeartbeats 1600000 in
theorem leaf_any (A : Option Addr) (xs : List Int) (c : Nat) (w : World) (hx : xs.length ≤ 100000) (hc : xs.length ≤ c) (hm : c ≤ maxLen) (ho : Octets xs) (hr : Holds w w.heap.size .u8 A xs) (hL : LaidS w) :
    Calls Tryd.prog 26 #[.slice A xs.length c] w (Sums (leafL xs) w) := by
  have GM : ∀ o, Calls Tryd.prog 66 #[.int .u8 0, .slice (some ⟨w.heap.size + 1, 0, none⟩) 1 1] ((w.alloc o).alloc (.cells #[.slice A xs.length c] 35)) (Sums (leafL xs) ((w.alloc o).alloc (.cells #[.slice A xs.length c] 35))) := fun o => by
    have := marked_any 0 (by omega) (some ⟨w.heap.size + 1, 0, none⟩) [⟨A, c, xs⟩] 1 _ (Nat.le_refl _) (by decide) (rows_one (w := w) (t := 35) o [⟨A, c, xs⟩] (by intro r hr'; simp at hr'; subst hr'; exact ⟨hc, hm, ho, hr⟩)) (by simp) (by intro r hr'; simp at hr'; subst hr'; exact hx) (hL.below (below_two' _ _))
    rw [show joinL [⟨A, c, xs⟩] = xs by simp [joinL]] at this
    exact this
  have r0 : ∀ o, Arr ((w.alloc (.cells ((List.replicate 32 (0 : Int)).map (Value.int .u8)).toArray 26)).alloc o) w.heap.size 26 .u8 (List.replicate 32 0) := fun o => (Arr.new w _ _ _).alloc o
  have hsl := Lib.hid (leafL_d32 xs).1
  have GM := Lib.hid GM
  have b2 := fun o p => below_two' (w := w) o p
  generalize leafL xs = ys at *
  unfold maxLen at hm
  go_enter Tryd.func26, Tryd.ntmps26
  go_wp2_with fail
  refine (GM.out _).mono ?_
  rintro e w5 ⟨rfl, hb5⟩
  have r5 : Arr w5 w.heap.size 26 .u8 (List.replicate 32 0) := Block.below (r0 _) hb5 (by simp; omega)
  have b5 := (b2 _ _).trans (hb5.mono (by simp; omega))
  clear b2 r0
  go_wp2_with (have _t := r5; refine wpList_store_arr rfl _ _ _ rfl r5 rfl rfl (by rw [hsl.out]; rfl) (by rw [hsl.out]; kernel_rfl) ?_; intro w9 r9 g9)
  refine bodyPost_ret (v := arrV .u8 ys) (results_cell_row rfl _ _ w.heap.size 26 _ (0, 0) _ rfl r9 arr32D rfl (by rw [show (ys.map (Value.int .u8)).toArray.size = 32 by simp [hsl.out]]; kernel_rfl)) rfl ⟨rfl, ?_⟩
  exact b5.trans (below_of_grown g9 b5.size fun b hb => by injection hb with hb; omega)

theorem arr32A : Tryd.prog.underlying 24 = some (.array 32 5) := Tryd.underlying24

theorem rows_leaf {w : World} {A : Option Addr} {xs : List Int} {c : Nat} (o : Obj) (hc : xs.length ≤ c) (hm : c ≤ maxLen) (ho : Octets xs) (hr : Holds w w.heap.size .u8 A xs) (m : Int) (hm0 : 0 ≤ m ∧ m ≤ 255) :
    HoldsW (((w.alloc o).alloc (.cells #[.int .u8 m] 5)).alloc (.cells #[.slice (some ⟨w.heap.size + 1, 0, none⟩) 1 1, .slice A xs.length c] 35)) (((w.alloc o).alloc (.cells #[.int .u8 m] 5)).alloc (.cells #[.slice (some ⟨w.heap.size + 1, 0, none⟩) 1 1, .slice A xs.length c] 35)).heap.size (some ⟨w.heap.size + 2, 0, none⟩) [⟨some ⟨w.heap.size + 1, 0, none⟩, 1, [m]⟩, ⟨A, c, xs⟩] := by
  have a1 : Arr ((w.alloc o).alloc (.cells #[.int .u8 m] 5)) (w.alloc o).heap.size 5 .u8 [m] := Arr.new _ _ _ [m]
  rw [show (w.alloc o).heap.size = w.heap.size + 1 by simp] at a1
  have := rows_laid (w := (w.alloc o).alloc (.cells #[.int .u8 m] 5)) (t := 35) [⟨some ⟨w.heap.size + 1, 0, none⟩, 1, [m]⟩, ⟨A, c, xs⟩] (by
    intro r hr'
    simp at hr'
    rcases hr' with rfl | rfl
    · exact RwOk.arr a1 (by intro x hx; simp at hx; omega) (by show 1 ≤ maxLen; decide)
    · exact RwOk.on (⟨hc, hm, ho, hr⟩ : RwOk w w.heap.size ⟨A, c, xs⟩) (below_two' _ _))
  rwa [show ((w.alloc o).alloc (.cells #[.int .u8 m] 5)).heap.size = w.heap.size + 2 by simp] at this

set_option maxRecDepth 100000 in
set_option maxHeartbeats 1600000 in
theorem rleaf_any (A : Option Addr) (xs : List Int) (c : Nat) (w : World) (hx : xs.length ≤ 90000) (hc : xs.length ≤ c) (hm : c ≤ maxLen) (ho : Octets xs) (hr : Holds w w.heap.size .u8 A xs) :
    Calls Tryd.prog 27 #[.slice A xs.length c] w (Sums (leafL xs) w) := by
  have HR := fun o => rows_leaf (w := w) o hc hm ho hr 0 (by omega)
  have GJ := Lib.hid (fun (o : Obj) => by
    have := joins_any _ _ 2 _ (Nat.le_refl _) (by decide) (HR o) (by simp) (by intro r hr'; simp at hr'; rcases hr' with rfl | rfl <;> (show List.length _ ≤ _) <;> simp <;> omega)
    rw [show joinL [⟨some ⟨w.heap.size + 1, 0, none⟩, 1, [0]⟩, ⟨A, c, xs⟩] = 0 :: xs by simp [joinL]] at this
    exact this)
  have GS := Lib.hid (fun W A2 c2 (h2 : (0 :: xs).length ≤ c2) (h3 : c2 ≤ maxLen) (h4 : Holds W W.heap.size .u8 A2 (0 :: xs)) => rsum_any A2 (0 :: xs) c2 W (by simp; omega) h2 h3 (by intro x hx; rcases List.mem_cons.1 hx with rfl | hx; omega; exact ho x hx) h4)
  have r0 : ∀ o p, Arr (((w.alloc (.cells ((List.replicate 32 (0 : Int)).map (Value.int .u8)).toArray 24)).alloc o).alloc p) w.heap.size 24 .u8 (List.replicate 32 0) := fun o p => ((Arr.new w _ _ _).alloc o).alloc p
  have b3 : ∀ o p q, Below w.heap.size w (((w.alloc o).alloc p).alloc q) := fun o p q => (below_two' o p).alloc (by simp; omega) q
  have hsl := Lib.hid (leafL_d32 xs).1
  unfold leafL at hsl ⊢
  clear HR
  unfold maxLen at hm
  go_enter Tryd.func27, Tryd.ntmps27
  go_wp2_with fail
  refine (GJ.out _).mono ?_
  rintro e w4 ⟨v4, rfl, own4, hb4⟩
  have r4 : Arr w4 w.heap.size 24 .u8 (List.replicate 32 0) := Block.below (r0 _ _) hb4 (by simp; omega)
  have b4 := (b3 _ _ _).trans (hb4.mono (by simp; omega))
  obtain ⟨A4, c4, rfl, k4, m4, hr4⟩ := own4.opened
  have GS := Lib.hid (GS.out w4 A4 c4 k4 m4 hr4)
  clear b3 r0 own4 hb4 hr4
  generalize sumL (0 :: xs) = ys at *
  go_wp2_with (first
    | (go_at_call 67; refine GS.out.mono ?_; rintro e w5 ⟨rfl, hb5⟩; have r5 : Arr w5 w.heap.size 24 .u8 (List.replicate 32 0) := Block.below r4 hb5 (Block.lt r4); have b5 := b4.trans (hb5.mono b4.size))
    | (have _t := r5; refine wpList_store_arr rfl _ _ _ rfl r5 rfl rfl (by rw [hsl.out]; rfl) (by rw [hsl.out]; kernel_rfl) ?_; intro w9 r9 g9))
  refine bodyPost_ret (v := arrV .u8 ys) (results_cell_row rfl _ _ w.heap.size 24 _ (0, 0) _ rfl r9 arr32A rfl (by rw [show (ys.map (Value.int .u8)).toArray.size = 32 by simp [hsl.out]]; kernel_rfl)) rfl ⟨rfl, ?_⟩
  exact b5.trans (below_of_grown g9 b5.size fun b hb => by injection hb with hb; omega)
end Go.Proofs.YtdfgdchmeikigaaDoor.Mk
