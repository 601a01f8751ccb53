/-
  Layer 3, ots: the document's public sum that a signature leads to: contracts. Conditions: as each theorem names.
  Layer 3, ots: the document's public sum that a signature leads to: contract. Conditions: as the theorem names.
-/
import Derived.Test.YtdfgdchmeikigaaDoorOD
import Derived.Test.YtdfgdchmeikigaaDoorOF
namespace Go.Proofs.YtdfgdchmeikigaaDoor.Ot
open Go.ChangeShapes Go.WideShapes Go.ChangeAt Go.RowKit Go.Proofs.YtdfgdchmeikigaaDoor.Kit Go.Proofs.YtdfgdchmeikigaaDoor.Sha Go.Proofs.YtdfgdchmeikigaaDoor.Mk Go.Proofs.YtdfgdchmeikigaaDoor.Oct

set_option maxRecDepth 100000 in
set_option maxHeartbeats 12800000 in
theorem rcand_no (k : Int) (hk : ¬ KindIn k) (id : List Int) (q : Int) (A : Option Addr) (sig : List Int) (cs : Nat) (A2 : Option Addr) (text : List Int) (c2 : Nat) (w : World) :
    Calls Tryd.prog 24 #[.int .u32 k, .agg (id.map (Value.int .u8)).toArray, .int .u32 q, .slice A sig.length cs, .slice A2 text.length c2] w (SumsN zeros32 21 w) := by
  have b0 := below_two' (w := w) (.cells (id.map (Value.int .u8)).toArray 23) (.cells ((List.replicate 32 (0 : Int)).map (Value.int .u8)).toArray 24)
  have i0 : Arr ((w.alloc (.cells (id.map (Value.int .u8)).toArray 23)).alloc (.cells ((List.replicate 32 (0 : Int)).map (Value.int .u8)).toArray 24)) w.heap.size 23 .u8 id := (Arr.new w _ _ _).alloc _
  have r0 : Arr ((w.alloc (.cells (id.map (Value.int .u8)).toArray 23)).alloc (.cells ((List.replicate 32 (0 : Int)).map (Value.int .u8)).toArray 24)) (w.heap.size + 1) 24 .u8 (List.replicate 32 0) := by
    have := Arr.new (w.alloc (.cells (id.map (Value.int .u8)).toArray 23)) 24 .u8 (List.replicate 32 0)
    rwa [show (w.alloc (.cells (id.map (Value.int .u8)).toArray 23)).heap.size = w.heap.size + 1 by simp] at this
  have z0 := res_new ((w.alloc (.cells (id.map (Value.int .u8)).toArray 23)).alloc (.cells ((List.replicate 32 (0 : Int)).map (Value.int .u8)).toArray 24)) 24
  have e0 : ((w.alloc (.cells (id.map (Value.int .u8)).toArray 23)).alloc (.cells ((List.replicate 32 (0 : Int)).map (Value.int .u8)).toArray 24)).heap.size = w.heap.size + 1 + 1 := by simp
  rw [e0] at z0
  have Hz := Lib.hid (show zeros32.length = 32 from rfl)
  have hBz := rbuild_zeros
  have HZ0 := Lib.hid (show zeros32 = List.replicate 32 0 from rfl)
  generalize zeros32 = ys at *
  have GC := Lib.hid (fun W => rwide_any k W)
  rw [(kind_none hk).1] at GC
  go_enter Tryd.func24, Tryd.ntmps24
  go_wp2_with (first
    | (refine wpList_build_known rfl _ _ rfl (arrV .u8 ys) (fun W => by simpa using hBz W) ?_)
    | (have _t := z0; refine wpList_store_arr rfl _ _ _ rfl (ys := ys) z0 rfl rfl (by rw [Hz.out]; rfl) (by rw [Hz.out]; kernel_rfl) ?_; clear _t; intro w3 N3 g3
       have g3 : (((w.alloc (.cells (id.map (Value.int .u8)).toArray 23)).alloc (.cells ((List.replicate 32 (0 : Int)).map (Value.int .u8)).toArray 24)).alloc (.cells ((List.replicate 32 (0 : Int)).map (Value.int .u8)).toArray 24)).grownBy w3 (some ((w.alloc (.cells (id.map (Value.int .u8)).toArray 23)).alloc (.cells ((List.replicate 32 (0 : Int)).map (Value.int .u8)).toArray 24)).heap.size) := by rw [e0]; exact g3
       have hb3 := below_fill (Below.refl _ _) (Nat.le_refl _) g3
       have i3 : Arr w3 w.heap.size 23 .u8 id := Block.below i0 hb3 (Block.lt i0)
       have r3 : Arr w3 (w.heap.size + 1) 24 .u8 (List.replicate 32 0) := Block.below r0 hb3 (Block.lt r0)
       have b3 := b0.trans (hb3.mono b0.size)
       clear z0 i0 r0 b0 g3 hb3 e0)
    | (have _t := N3; go_at_call 15; refine (GC.out _).mono ?_; clear _t; rintro e w4 ⟨rfl, rfl⟩)
    | (have _t := N3; refine wpList_load_arr rfl _ _ rfl N3 rfl arr32A rfl (by rw [Hz.out]; kernel_rfl) ?_)
    | (have _t := r3; refine wpList_store_arr rfl _ _ _ rfl (ys := ys) r3 rfl rfl (by rw [Hz.out]; rfl) (by rw [Hz.out]; kernel_rfl) ?_; intro w9 r9 g9))
  refine bodyPost_ret (v := .tuple #[arrV .u8 ys, .int .i64 21]) (results_row_tmp rfl _ _ (w.heap.size + 1) 24 _ (0, 0) _ rfl r9 _ rfl arr32A rfl (by rw [show (ys.map (Value.int .u8)).toArray.size = 32 by simp [Hz.out]]; kernel_rfl)) rfl ⟨rfl, ?_⟩
  exact b3.trans (below_of_grown g9 b3.size fun b hb => by injection hb with hb; omega)

set_option maxRecDepth 100000 in
set_option maxHeartbeats 12800000 in
theorem rcand_form (k : Int) (hk : KindIn k) (id : List Int) (q : Int) (A : Option Addr) (sig : List Int) (cs : Nat) (A2 : Option Addr) (text : List Int) (c2 : Nat) (w : World) (hsm : sig.length ≤ 9000) (hl : sig.length ≠ 36 + 32 * manyN k) :
    Calls Tryd.prog 24 #[.int .u32 k, .agg (id.map (Value.int .u8)).toArray, .int .u32 q, .slice A sig.length cs, .slice A2 text.length c2] w (SumsN zeros32 3 w) := by
  have b0 := below_two' (w := w) (.cells (id.map (Value.int .u8)).toArray 23) (.cells ((List.replicate 32 (0 : Int)).map (Value.int .u8)).toArray 24)
  have i0 : Arr ((w.alloc (.cells (id.map (Value.int .u8)).toArray 23)).alloc (.cells ((List.replicate 32 (0 : Int)).map (Value.int .u8)).toArray 24)) w.heap.size 23 .u8 id := (Arr.new w _ _ _).alloc _
  have r0 : Arr ((w.alloc (.cells (id.map (Value.int .u8)).toArray 23)).alloc (.cells ((List.replicate 32 (0 : Int)).map (Value.int .u8)).toArray 24)) (w.heap.size + 1) 24 .u8 (List.replicate 32 0) := by
    have := Arr.new (w.alloc (.cells (id.map (Value.int .u8)).toArray 23)) 24 .u8 (List.replicate 32 0)
    rwa [show (w.alloc (.cells (id.map (Value.int .u8)).toArray 23)).heap.size = w.heap.size + 1 by simp] at this
  have z0 := res_new ((w.alloc (.cells (id.map (Value.int .u8)).toArray 23)).alloc (.cells ((List.replicate 32 (0 : Int)).map (Value.int .u8)).toArray 24)) 24
  have e0 : ((w.alloc (.cells (id.map (Value.int .u8)).toArray 23)).alloc (.cells ((List.replicate 32 (0 : Int)).map (Value.int .u8)).toArray 24)).heap.size = w.heap.size + 1 + 1 := by simp
  rw [e0] at z0
  have Hz := Lib.hid (show zeros32.length = 32 from rfl)
  have hBz := rbuild_zeros
  have HZ0 := Lib.hid (show zeros32 = List.replicate 32 0 from rfl)
  generalize zeros32 = ys at *
  have hkw := kind_wide hk
  have hwz : decide (wideN k = 0) = false := decide_eq_false (by omega)
  have hwz2 : (wideN k == 0) = false := by rw [beq_eq_false_iff_ne]; omega
  have hk0 : 0 ≤ k ∧ k ≤ 4 := by unfold KindIn at hk; omega
  have GC := Lib.hid (fun W => rwide_any k W)
  have GH := Lib.hid (fun W => rchains_any k (by omega) W)
  have hmb := manyN_bd k
  generalize manyN k = m at *
  generalize wideN k = wd at *
  have d1 : ((sig.length : Int) != 36 + 32 * (m : Int)) = true := by rw [bne_iff_ne]; omega
  have d2 : ((sig.length : Int) == 36 + 32 * (m : Int)) = false := by rw [beq_eq_false_iff_ne]; omega
  clear hl hk hkw
  go_enter Tryd.func24, Tryd.ntmps24
  go_wp2_with (first
    | (refine wpList_build_known rfl _ _ rfl (arrV .u8 ys) (fun W => by simpa using hBz W) ?_)
    | (have _t := z0; refine wpList_store_arr rfl _ _ _ rfl (ys := ys) z0 rfl rfl (by rw [Hz.out]; rfl) (by rw [Hz.out]; kernel_rfl) ?_; clear _t; intro w3 N3 g3
       have g3 : (((w.alloc (.cells (id.map (Value.int .u8)).toArray 23)).alloc (.cells ((List.replicate 32 (0 : Int)).map (Value.int .u8)).toArray 24)).alloc (.cells ((List.replicate 32 (0 : Int)).map (Value.int .u8)).toArray 24)).grownBy w3 (some ((w.alloc (.cells (id.map (Value.int .u8)).toArray 23)).alloc (.cells ((List.replicate 32 (0 : Int)).map (Value.int .u8)).toArray 24)).heap.size) := by rw [e0]; exact g3
       have hb3 := below_fill (Below.refl _ _) (Nat.le_refl _) g3
       have i3 : Arr w3 w.heap.size 23 .u8 id := Block.below i0 hb3 (Block.lt i0)
       have r3 : Arr w3 (w.heap.size + 1) 24 .u8 (List.replicate 32 0) := Block.below r0 hb3 (Block.lt r0)
       have b3 := b0.trans (hb3.mono b0.size)
       clear z0 i0 r0 b0 g3 hb3 e0)
    | (have _t := N3; go_at_call 15; refine (GC.out _).mono ?_; clear _t; rintro e w4 ⟨rfl, rfl⟩)
    | (have _t := N3; go_at_call 13; refine (GH.out _).mono ?_; clear _t; rintro e w4 ⟨rfl, hb⟩
       have N4 : Arr w4 (w.heap.size + 1 + 1) 24 .u8 ys := Block.below N3 hb (Block.lt N3)
       have i4 : Arr w4 w.heap.size 23 .u8 id := Block.below i3 hb (Block.lt i3)
       have r4 : Arr w4 (w.heap.size + 1) 24 .u8 (List.replicate 32 0) := Block.below r3 hb (Block.lt r3)
       have b4 := b3.trans (hb.mono b3.size)
       clear N3 i3 r3 b3 hb)
    | (have _t := N4; refine wpList_load_arr rfl _ _ rfl N4 rfl arr32A rfl (by rw [Hz.out]; kernel_rfl) ?_)
    | (have _t := r4; refine wpList_store_arr rfl _ _ _ rfl (ys := ys) r4 rfl rfl (by rw [Hz.out]; rfl) (by rw [Hz.out]; kernel_rfl) ?_; intro w9 r9 g9))
  refine bodyPost_ret (v := .tuple #[arrV .u8 ys, .int .i64 3]) (results_row_tmp rfl _ _ (w.heap.size + 1) 24 _ (0, 0) _ rfl r9 _ rfl arr32A rfl (by rw [show (ys.map (Value.int .u8)).toArray.size = 32 by simp [Hz.out]]; kernel_rfl)) rfl ⟨rfl, ?_⟩
  exact b4.trans (below_of_grown g9 b4.size fun b hb => by injection hb with hb; omega)

set_option maxRecDepth 100000 in
set_option maxHeartbeats 12800000 in
theorem rcand_kind (k : Int) (hk : KindIn k) (id : List Int) (q : Int) (A : Option Addr) (sig : List Int) (cs : Nat) (A2 : Option Addr) (text : List Int) (c2 : Nat) (w : World) (hsm : sig.length ≤ 9000) (hsk : RwOk w w.heap.size ⟨A, cs, sig⟩) (hl : sig.length = 36 + 32 * manyN k) (hv : val (sig.take 4) ≠ k) :
    Calls Tryd.prog 24 #[.int .u32 k, .agg (id.map (Value.int .u8)).toArray, .int .u32 q, .slice A sig.length cs, .slice A2 text.length c2] w (SumsN zeros32 21 w) := by
  have b0 := below_two' (w := w) (.cells (id.map (Value.int .u8)).toArray 23) (.cells ((List.replicate 32 (0 : Int)).map (Value.int .u8)).toArray 24)
  have i0 : Arr ((w.alloc (.cells (id.map (Value.int .u8)).toArray 23)).alloc (.cells ((List.replicate 32 (0 : Int)).map (Value.int .u8)).toArray 24)) w.heap.size 23 .u8 id := (Arr.new w _ _ _).alloc _
  have r0 : Arr ((w.alloc (.cells (id.map (Value.int .u8)).toArray 23)).alloc (.cells ((List.replicate 32 (0 : Int)).map (Value.int .u8)).toArray 24)) (w.heap.size + 1) 24 .u8 (List.replicate 32 0) := by
    have := Arr.new (w.alloc (.cells (id.map (Value.int .u8)).toArray 23)) 24 .u8 (List.replicate 32 0)
    rwa [show (w.alloc (.cells (id.map (Value.int .u8)).toArray 23)).heap.size = w.heap.size + 1 by simp] at this
  have z0 := res_new ((w.alloc (.cells (id.map (Value.int .u8)).toArray 23)).alloc (.cells ((List.replicate 32 (0 : Int)).map (Value.int .u8)).toArray 24)) 24
  have e0 : ((w.alloc (.cells (id.map (Value.int .u8)).toArray 23)).alloc (.cells ((List.replicate 32 (0 : Int)).map (Value.int .u8)).toArray 24)).heap.size = w.heap.size + 1 + 1 := by simp
  rw [e0] at z0
  have Hz := Lib.hid (show zeros32.length = 32 from rfl)
  have hBz := rbuild_zeros
  have HZ0 := Lib.hid (show zeros32 = List.replicate 32 0 from rfl)
  generalize zeros32 = ys at *
  have hkw := kind_wide hk
  have hwz : decide (wideN k = 0) = false := decide_eq_false (by omega)
  have hwz2 : (wideN k == 0) = false := by rw [beq_eq_false_iff_ne]; omega
  have hk0 : 0 ≤ k ∧ k ≤ 4 := by unfold KindIn at hk; omega
  have GC := Lib.hid (fun W => rwide_any k W)
  have GH := Lib.hid (fun W => rchains_any k (by omega) W)
  have hmb := manyN_bd k
  have hvl : ((sig.drop 0).take 4).length = 4 := by rw [List.length_take, List.length_drop]; omega
  have GG : Hid (∀ W, Holds W w.heap.size .u8 A sig → Calls Tryd.prog 65 #[.slice A sig.length cs, .int .i64 0, .int .i64 4] W fun e w' => e = .returned (.tuple #[.int .u64 (val ((sig.drop 0).take 4)), .int .i64 0]) ∧ W = w') := Lib.hid (fun W h => rget_any A sig cs 0 4 w.heap.size W (by omega) hsk.1 (by decide) (by omega) hsk.2.2.1 h)
  rw [List.drop_zero] at GG
  have d4 : (val (sig.take 4) != k) = true := by rw [bne_iff_ne]; exact hv
  have d5 : (val (sig.take 4) == k) = false := by rw [beq_eq_false_iff_ne]; exact hv
  generalize val (sig.take 4) = v at *
  generalize manyN k = m at *
  generalize wideN k = wd at *
  have d1 : ((sig.length : Int) != 36 + 32 * (m : Int)) = false := by rw [bne_eq_false_iff_eq]; omega
  have d2 : ((sig.length : Int) == 36 + 32 * (m : Int)) = true := by rw [beq_iff_eq]; omega
  have hs2 := hsk.2.2.2
  clear hl hk hkw hv hvl hsk
  go_enter Tryd.func24, Tryd.ntmps24
  go_wp2_with (first
    | (refine wpList_build_known rfl _ _ rfl (arrV .u8 ys) (fun W => by simpa using hBz W) ?_)
    | (have _t := z0; refine wpList_store_arr rfl _ _ _ rfl (ys := ys) z0 rfl rfl (by rw [Hz.out]; rfl) (by rw [Hz.out]; kernel_rfl) ?_; clear _t; intro w3 N3 g3
       have g3 : (((w.alloc (.cells (id.map (Value.int .u8)).toArray 23)).alloc (.cells ((List.replicate 32 (0 : Int)).map (Value.int .u8)).toArray 24)).alloc (.cells ((List.replicate 32 (0 : Int)).map (Value.int .u8)).toArray 24)).grownBy w3 (some ((w.alloc (.cells (id.map (Value.int .u8)).toArray 23)).alloc (.cells ((List.replicate 32 (0 : Int)).map (Value.int .u8)).toArray 24)).heap.size) := by rw [e0]; exact g3
       have hb3 := below_fill (Below.refl _ _) (Nat.le_refl _) g3
       have i3 : Arr w3 w.heap.size 23 .u8 id := Block.below i0 hb3 (Block.lt i0)
       have r3 : Arr w3 (w.heap.size + 1) 24 .u8 (List.replicate 32 0) := Block.below r0 hb3 (Block.lt r0)
       have b3 := b0.trans (hb3.mono b0.size)
       clear z0 i0 r0 b0 g3 hb3 e0)
    | (have _t := N3; go_at_call 15; refine (GC.out _).mono ?_; clear _t; rintro e w4 ⟨rfl, rfl⟩)
    | (have _t := N3; go_at_call 13; refine (GH.out _).mono ?_; clear _t; rintro e w4 ⟨rfl, hb⟩
       have N4 : Arr w4 (w.heap.size + 1 + 1) 24 .u8 ys := Block.below N3 hb (Block.lt N3)
       have i4 : Arr w4 w.heap.size 23 .u8 id := Block.below i3 hb (Block.lt i3)
       have r4 : Arr w4 (w.heap.size + 1) 24 .u8 (List.replicate 32 0) := Block.below r3 hb (Block.lt r3)
       have b4 := b3.trans (hb.mono b3.size)
       clear N3 i3 r3 b3 hb)
    | (have _t := b4; go_at_call 65; refine (GG.out _ (hs2.below b4)).mono ?_; clear _t; rintro e w5 ⟨rfl, rfl⟩)
    | (have _t := N4; refine wpList_load_arr rfl _ _ rfl N4 rfl arr32A rfl (by rw [Hz.out]; kernel_rfl) ?_)
    | (have _t := r4; refine wpList_store_arr rfl _ _ _ rfl (ys := ys) r4 rfl rfl (by rw [Hz.out]; rfl) (by rw [Hz.out]; kernel_rfl) ?_; intro w9 r9 g9))
  refine bodyPost_ret (v := .tuple #[arrV .u8 ys, .int .i64 21]) (results_row_tmp rfl _ _ (w.heap.size + 1) 24 _ (0, 0) _ rfl r9 _ rfl arr32A rfl (by rw [show (ys.map (Value.int .u8)).toArray.size = 32 by simp [Hz.out]]; kernel_rfl)) rfl ⟨rfl, ?_⟩
  exact b4.trans (below_of_grown g9 b4.size fun b hb => by injection hb with hb; omega)

end Go.Proofs.YtdfgdchmeikigaaDoor.Ot

namespace Go.Proofs.YtdfgdchmeikigaaDoor.Ot
open Go.ChangeShapes Go.WideShapes Go.ChangeAt Go.RowKit Go.Proofs.YtdfgdchmeikigaaDoor.Kit Go.Proofs.YtdfgdchmeikigaaDoor.Sha Go.Proofs.YtdfgdchmeikigaaDoor.Mk Go.Proofs.YtdfgdchmeikigaaDoor.Oct

theorem endsL_len {g : Nat → List Int} {m : Nat} (h : ∀ i, i < m → D32 (g i)) : ∀ n, n ≤ m → (endsL g n).length = 32 * n
  | 0, _ => rfl
  | n + 1, hn => by rw [endsL_next, List.length_append, endsL_len h n (by omega), (h n hn).1]; omega
theorem endsL_oct {g : Nat → List Int} {m : Nat} (h : ∀ i, i < m → D32 (g i)) : Octets (endsL g m) := by
  intro x hx
  obtain ⟨i, hi, hx⟩ := List.mem_flatMap.1 hx
  exact (h i (List.mem_range.1 hi)).2 x hx
theorem fill_place (x : List Int) (i : Nat) (hx : x.length = 32) (hi : i < 32) (z : Int) (hz : x.getD i 0 = z) :
    (x.take i ++ List.replicate (32 - i) 0).set i z = x.take (i + 1) ++ List.replicate (32 - (i + 1)) 0 := fill_step x 32 i hx hi z (by rw [← hz, List.getD])

set_option maxRecDepth 100000 in
set_option maxHeartbeats 12800000 in
theorem rcand_in (k : Int) (hk : KindIn k) (id : List Int) (q : Int) (A : Option Addr) (sig : List Int) (cs : Nat) (A2 : Option Addr) (text : List Int) (c2 : Nat) (w : World) (hsm : sig.length ≤ 9000) (hsk : RwOk w w.heap.size ⟨A, cs, sig⟩) (hl : sig.length = 36 + 32 * manyN k) (hv : val (sig.take 4) = k) (hid : id.length = 16) (hio : Octets id) (hq : 0 ≤ q ∧ q < 4294967296) (htx : RwOk w w.heap.size ⟨A2, c2, text⟩) (htl : text.length ≤ 40000) :
    Calls Tryd.prog 24 #[.int .u32 k, .agg (id.map (Value.int .u8)).toArray, .int .u32 q, .slice A sig.length cs, .slice A2 text.length c2] w (SumsN (candL (nmL id q) k (dgsL (nmL id q) k ((sig.drop 4).take 32) text) sig) 0 w) := by
  have b0 := below_two' (w := w) (.cells (id.map (Value.int .u8)).toArray 23) (.cells ((List.replicate 32 (0 : Int)).map (Value.int .u8)).toArray 24)
  have i0 : Arr ((w.alloc (.cells (id.map (Value.int .u8)).toArray 23)).alloc (.cells ((List.replicate 32 (0 : Int)).map (Value.int .u8)).toArray 24)) w.heap.size 23 .u8 id := (Arr.new w _ _ _).alloc _
  have r0 : Arr ((w.alloc (.cells (id.map (Value.int .u8)).toArray 23)).alloc (.cells ((List.replicate 32 (0 : Int)).map (Value.int .u8)).toArray 24)) (w.heap.size + 1) 24 .u8 (List.replicate 32 0) := by
    have := Arr.new (w.alloc (.cells (id.map (Value.int .u8)).toArray 23)) 24 .u8 (List.replicate 32 0)
    rwa [show (w.alloc (.cells (id.map (Value.int .u8)).toArray 23)).heap.size = w.heap.size + 1 by simp] at this
  have z0 := res_new ((w.alloc (.cells (id.map (Value.int .u8)).toArray 23)).alloc (.cells ((List.replicate 32 (0 : Int)).map (Value.int .u8)).toArray 24)) 24
  have e0 : ((w.alloc (.cells (id.map (Value.int .u8)).toArray 23)).alloc (.cells ((List.replicate 32 (0 : Int)).map (Value.int .u8)).toArray 24)).heap.size = w.heap.size + 1 + 1 := by simp
  rw [e0] at z0
  have Hz := Lib.hid (show zeros32.length = 32 from rfl)
  have hBz := rbuild_zeros
  have HZ0 := Lib.hid (show zeros32 = List.replicate 32 0 from rfl)
  generalize zeros32 = ys at *
  have hkw := kind_wide hk
  have hwz : decide (wideN k = 0) = false := decide_eq_false (by omega)
  have hwz2 : (wideN k == 0) = false := by rw [beq_eq_false_iff_ne]; omega
  have hk0 : 0 ≤ k ∧ k ≤ 4 := by unfold KindIn at hk; omega
  have GC := Lib.hid (fun W => rwide_any k W)
  have GH := Lib.hid (fun W => rchains_any k (by omega) W)
  have hmb := manyN_bd k
  have hvl : ((sig.drop 0).take 4).length = 4 := by rw [List.length_take, List.length_drop]; omega
  have GG : Hid (∀ W, Holds W w.heap.size .u8 A sig → Calls Tryd.prog 65 #[.slice A sig.length cs, .int .i64 0, .int .i64 4] W fun e w' => e = .returned (.tuple #[.int .u64 (val ((sig.drop 0).take 4)), .int .i64 0]) ∧ W = w') := Lib.hid (fun W h => rget_any A sig cs 0 4 w.heap.size W (by omega) hsk.1 (by decide) (by omega) hsk.2.2.1 h)
  rw [List.drop_zero] at GG
  rw [hv] at GG
  have d4 : (k != k) = false := by rw [bne_eq_false_iff_eq]
  have hm1 := hkw.2.1
  obtain ⟨bs, os, rfl, hbs, hsc⟩ := hsk.2.2.2 (by show 0 < sig.length; omega)
  have hml : ((sig.drop 4).take 32).length = 32 := by rw [List.length_take, List.length_drop]; omega
  have GD := Lib.hid (fun W (h1 : RwOk W W.heap.size ⟨some ⟨bs, os + 4, none⟩, cs - 4, (sig.drop 4).take 32⟩) (h2 : RwOk W W.heap.size ⟨A2, c2, text⟩) => rdgs_any k hk id hid hio q hq (some ⟨bs, os + 4, none⟩) ((sig.drop 4).take 32) (cs - 4) A2 text c2 W h1 h2 (by rw [hml]; decide) (by omega))
  rw [hml] at GD
  have hdl := dgsL_length hk (nmL id q) ((sig.drop 4).take 32) text
  have hdb := dgsL_bd hk (nmL id q) ((sig.drop 4).take 32) text
  generalize hds : dgsL (nmL id q) k ((sig.drop 4).take 32) text = ds at *
  clear hds
  have HDL := Lib.hid hdl
  have hln := lastN_bd k
  have hpd : ∀ j, j < manyN k → D32 (placeL sig j) := fun j hj => placeL_d32 hsk.2.2.1 (by omega)
  have hcd : ∀ j, j < manyN k → D32 (cendL (nmL id q) k ds sig j) := fun j hj => walkL_d32 (hpd j hj)
  have GE : Hid (∀ W A c, Holds W W.heap.size .u8 A (endsL (cendL (nmL id q) k ds sig) (manyN k)) → Calls Tryd.prog 57 #[.agg (id.map (Value.int .u8)).toArray, .int .u32 q, .slice A (endsL (cendL (nmL id q) k ds sig) (manyN k)).length c] W (Sums (candL (nmL id q) k ds sig) W)) := Lib.hid (fun W A c h => rended_any id hid hio q hq A (endsL (cendL (nmL id q) k ds sig) (manyN k)) c W (by rw [endsL_len hcd _ (Nat.le_refl _)]; omega) (endsL_oct hcd) h)
  have GT := Lib.hid (fun W => steps_any k hk W)
  have GW := Lib.hid (fun (j f : Nat) (hj : j < manyN k) (hf : ds.getD j 0 = (f : Int)) (hfl : f ≤ lastN k) W => (show Calls Tryd.prog 54 #[.agg (id.map (Value.int .u8)).toArray, .int .u32 q, .int .i64 j, .int .i64 f, .int .i64 (lastN k), .agg ((placeL sig j).map (Value.int .u8)).toArray] W (Sums (cendL (nmL id q) k ds sig j) W) from by
    have := rwalk_any id hid hio q hq j (by omega) f (lastN k) hfl (by omega) (placeL sig j) (hpd j hj) W
    unfold cendL
    rw [hf, Int.toNat_natCast]
    exact this))
  have HON := Lib.hid (endsL_next (cendL (nmL id q) k ds sig))
  have HOL := Lib.hid (endsL_len hcd)
  have HGL := Lib.hid (fun j hj => (hcd j hj).1)
  have HPL := Lib.hid (fun j hj => (hpd j hj).1)
  have HPC := Lib.hid (fun (j i : Nat) (hi : i < 32) => (show sig.getD (36 + 32 * j + i) 0 = (placeL sig j).getD i 0 by unfold placeL; simp [List.getD, List.getElem?_take, List.getElem?_drop, hi]))
  have hyl := Lib.hid (show (candL (nmL id q) k ds sig).length = 32 from sumL_length _)
  generalize candL (nmL id q) k ds sig = out at *
  generalize cendL (nmL id q) k ds sig = g at *
  have HI := Lib.hid hid
  generalize nmL id q = nm at *
  have hsl36 : 36 ≤ sig.length := by omega
  have hcs1 := hsk.1
  simp only at hcs1
  have hcs2 : cs ≤ maxLen := hsk.2.1
  unfold maxLen at hcs2
  have hso : Octets sig := hsk.2.2.1
  have hs2 : Holds w w.heap.size .u8 (some ⟨bs, os, none⟩) sig := hsk.2.2.2
  have hmd := RwOk.mid hsk 4 32 (by show 4 + 32 ≤ sig.length; omega)
  generalize manyN k = m at *
  have d1 : ((sig.length : Int) != 36 + 32 * (m : Int)) = false := by rw [bne_eq_false_iff_eq]; omega
  have d2 : ((sig.length : Int) == 36 + 32 * (m : Int)) = true := by rw [beq_iff_eq]; omega
  have HLm := Lib.hid hl
  have hlm : sig.length = 36 + 32 * m := hl
  clear hl hk hv hvl hsk hsc hdl hio hid hml hpd hcd hkw
  have HLM := Lib.hid hlm
  generalize (sig.drop 4).take 32 = salt at *
  generalize wideN k = wd at *
  generalize lastN k = ln at *
  clear hlm
  go_enter Tryd.func24, Tryd.ntmps24
  go_wp2_with (first
    | (refine wpList_build_known rfl _ _ rfl (arrV .u8 ys) (fun W => by simpa using hBz W) ?_)
    | (have _t := z0; refine wpList_store_arr rfl _ _ _ rfl (ys := ys) z0 rfl rfl (by rw [Hz.out]; rfl) (by rw [Hz.out]; kernel_rfl) ?_; clear _t; intro w3 N3 g3
       have g3 : (((w.alloc (.cells (id.map (Value.int .u8)).toArray 23)).alloc (.cells ((List.replicate 32 (0 : Int)).map (Value.int .u8)).toArray 24)).alloc (.cells ((List.replicate 32 (0 : Int)).map (Value.int .u8)).toArray 24)).grownBy w3 (some ((w.alloc (.cells (id.map (Value.int .u8)).toArray 23)).alloc (.cells ((List.replicate 32 (0 : Int)).map (Value.int .u8)).toArray 24)).heap.size) := by rw [e0]; exact g3
       have hb3 := below_fill (Below.refl _ _) (Nat.le_refl _) g3
       have i3 : Arr w3 w.heap.size 23 .u8 id := Block.below i0 hb3 (Block.lt i0)
       have r3 : Arr w3 (w.heap.size + 1) 24 .u8 (List.replicate 32 0) := Block.below r0 hb3 (Block.lt r0)
       have b3 := b0.trans (hb3.mono b0.size)
       clear z0 i0 r0 b0 g3 hb3 e0)
    | (have _t := N3; go_at_call 15; refine (GC.out _).mono ?_; clear _t; rintro e w4 ⟨rfl, rfl⟩)
    | (have _t := N3; go_at_call 13; refine (GH.out _).mono ?_; clear _t; rintro e w4 ⟨rfl, hb⟩
       have N4 : Arr w4 (w.heap.size + 1 + 1) 24 .u8 ys := Block.below N3 hb (Block.lt N3)
       have i4 : Arr w4 w.heap.size 23 .u8 id := Block.below i3 hb (Block.lt i3)
       have r4 : Arr w4 (w.heap.size + 1) 24 .u8 (List.replicate 32 0) := Block.below r3 hb (Block.lt r3)
       have b4 := b3.trans (hb.mono b3.size)
       clear N3 i3 r3 b3 hb)
    | (have _t := b4; go_at_call 65; refine (GG.out _ (hs2.below b4)).mono ?_; clear _t; rintro e w5 ⟨rfl, rfl⟩))
  have n5 := i4.drewN 1
  have r5 := r4.drewN 1
  have b5 := below_draws b4 1
  have t5 := (htx.below b5).more b5.size
  have h5 := (hmd.below b5).more b5.size
  clear i4 r4 b4 htx hmd N4 GG GH GC
  refine wp_region_held_drew (S := (fun W => Arr W w.heap.size 23 .u8 id)) (by kernel_rfl) n5 (fun hS => ?_)
  refine wpAnyH_take (i := 0) (oi := ⟨some 44, _, _, _, _, _⟩) (v := .int .u32 k) rfl (by kernel_rfl) (by kernel_rfl) (by kernel_rfl) (fun _ _ _ h => h) (Or.inl ⟨by rfl, fun W hW => by go_simp⟩) hS ?_
  try simp only [Act.put, List.setIfInBounds_toArray, List.set_cons_zero, List.set_cons_succ]
  refine wpAnyH_take (i := 1) (oi := ⟨some 45, _, _, _, _, _⟩) (v := .agg (id.map (Value.int .u8)).toArray) rfl (by kernel_rfl) (by kernel_rfl) (by kernel_rfl) (fun _ _ _ h => h) (yieldsIf_load_mid (by rfl) _ _ rfl w.heap.size 0 rfl (id.map (Value.int .u8)) _ (fun W hW => Arr.range hW) arr16 rfl (by rw [List.length_map, HI.out]; kernel_rfl)) hS ?_
  try simp only [Act.put, List.setIfInBounds_toArray, List.set_cons_zero, List.set_cons_succ]
  refine wpAnyH_take (i := 2) (oi := ⟨some 46, _, _, _, _, _⟩) (v := .int .u32 q) rfl (by kernel_rfl) (by kernel_rfl) (by kernel_rfl) (fun _ _ _ h => h) (Or.inl ⟨by rfl, fun W hW => by go_simp⟩) hS ?_
  try simp only [Act.put, List.setIfInBounds_toArray, List.set_cons_zero, List.set_cons_succ]
  refine wpAnyH_take (i := 3) (oi := ⟨some 47, _, _, _, _, _⟩) (v := .slice (some ⟨bs, os, none⟩) sig.length cs) rfl (by kernel_rfl) (by kernel_rfl) (by kernel_rfl) (fun _ _ _ h => h) (Or.inl ⟨by rfl, fun W hW => by go_simp⟩) hS ?_
  try simp only [Act.put, List.setIfInBounds_toArray, List.set_cons_zero, List.set_cons_succ]
  refine wpAnyH_take (i := 5) (oi := ⟨some 49, _, _, _, _, _⟩) (v := .slice A2 text.length c2) rfl (by kernel_rfl) (by kernel_rfl) (by kernel_rfl) (fun _ _ _ h => h) (Or.inl ⟨by rfl, fun W hW => by go_simp⟩) hS ?_
  try simp only [Act.put, List.setIfInBounds_toArray, List.set_cons_zero, List.set_cons_succ]
  refine wpAnyH_take (i := 4) (oi := ⟨some 48, _, _, _, _, _⟩) (v := .slice (some ⟨bs, os + 4, none⟩) 32 (cs - 4)) rfl (by kernel_rfl) (by kernel_rfl) (by kernel_rfl) (fun _ _ _ h => h) (Or.inl ⟨by rfl, fun W hW => by go_simp; rw [if_pos (by omega), if_neg (by omega)]⟩) hS ?_
  try simp only [Act.put, List.setIfInBounds_toArray, List.set_cons_zero, List.set_cons_succ]
  obtain ⟨x0, e0⟩ : ∃ x0, x0 = w4.drew := ⟨_, rfl⟩
  have nx0 : Arr x0 w.heap.size 23 .u8 id := by rw [e0]; exact n5
  have rx0 : Arr x0 (w.heap.size + 1) 24 .u8 (List.replicate 32 0) := by rw [e0]; exact r5
  have bx0 : Below w.heap.size w x0 := by rw [e0]; exact b5
  have tx0 : RwOk x0 x0.heap.size ⟨A2, c2, text⟩ := by rw [e0]; exact t5
  have hx0 : RwOk x0 x0.heap.size ⟨some ⟨bs, os + 4, none⟩, cs - 4, salt⟩ := by rw [e0]; exact h5
  rw [← e0] at hS ⊢
  clear e0 n5 r5 b5 t5 h5
  refine wpAnyH_ready (rs := [6]) (by kernel_rfl) (by simp) ?_
  refine AllReadyH.cons rfl (fun K hK => ?_) AllReadyH.nil
  go_simp
  go_at_call 62
  refine (GD.out _ hx0 tx0).mono ?_
  rintro e x1 ⟨A5, c5, rfl, k5, m5, h5, a5, h⟩
  have nx1 : Arr x1 w.heap.size 23 .u8 id := Block.below nx0 h (Block.lt nx0)
  have rx1 : Arr x1 (w.heap.size + 1) 24 .u8 (List.replicate 32 0) := Block.below rx0 h (Block.lt rx0)
  have bx1 : Below w.heap.size w x1 := bx0.trans (h.mono bx0.size)
  have tx1 : RwOk x1 x1.heap.size ⟨A2, c2, text⟩ := RwOk.on tx0 h
  have hx1 : RwOk x1 x1.heap.size ⟨some ⟨bs, os + 4, none⟩, cs - 4, salt⟩ := RwOk.on hx0 h
  obtain ⟨bd, od, rfl, hbd, hdc⟩ := h5 (by rw [HDL.out]; omega)
  have h5 : Holds x1 x1.heap.size .i64 (some ⟨bd, od, none⟩) ds := h5
  have hbd : bd < x1.heap.size := hbd
  clear hdc a5
  rw [HDL.out]
  refine hK.out _ _ nx1 (fun hS => ?_)
  clear hK K
  try simp only [Act.put, List.setIfInBounds_toArray, List.set_cons_zero, List.set_cons_succ]
  refine wpAnyH_ready (rs := [7]) (by kernel_rfl) (by simp) ?_
  refine AllReadyH.cons rfl (fun K hK => ?_) AllReadyH.nil
  go_simp
  refine hK.out _ _ nx1 (fun hS => ?_)
  clear hK K
  try simp only [Act.put, List.setIfInBounds_toArray, List.set_cons_zero, List.set_cons_succ]
  refine wpAnyH_done (by kernel_rfl) ?_ _
  go_wp2_with fail
  rw [HDL.out] at k5
  have o6 := Own.empty (B := x1.heap.size) x1 5 .u8 (Nat.le_refl _)
  have hb6 := below_last x1 (.cells #[] 5)
  have n6 : Arr (x1.alloc (.cells #[] 5)) w.heap.size 23 .u8 id := Block.below nx1 hb6 (Block.lt nx1)
  have r6 : Arr (x1.alloc (.cells #[] 5)) (w.heap.size + 1) 24 .u8 (List.replicate 32 0) := Block.below rx1 hb6 (Block.lt rx1)
  have b6 := bx1.trans (hb6.mono bx1.size)
  have h6 := Holds.on h5 hb6
  have p6 := hb6.size
  have nv6 : (Value.slice (some ⟨x1.heap.size, 0, none⟩) 0 0).ownBlock ≠ some bd := by intro e; simp [Value.ownBlock] at e; omega
  have u1 := Block.lt nx1
  have u2 := Block.lt rx1
  have u3 := bx1.size
  clear nx1 rx1 bx1 tx1 hx1 h5 hb6 hbd nx0 rx0 bx0 tx0 hx0 GD
  generalize x1.heap.size = B5 at *
  generalize x1.alloc (.cells #[] 5) = w6 at *
  go_loopw [16, 54] (fun v i wr => ∃ (j : Nat) (v' : Value), v' = v ∧ j ≤ m ∧ i = .int .i64 j ∧ Own wr B5 5 .u8 v' (endsL g j) ∧ v'.ownBlock ≠ some bd ∧ Arr wr w.heap.size 23 .u8 id ∧ Arr wr (w.heap.size + 1) 24 .u8 (List.replicate 32 0) ∧ Holds wr wr.heap.size .i64 (some ⟨bd, od, none⟩) ds ∧ Below w.heap.size w wr ∧ B5 ≤ wr.heap.size) (fun _ i _ => m - (intOf i).toNat)
  case atStart => exact ⟨0, _, rfl, Nat.zero_le _, rfl, o6, nv6, n6, r6, h6, b6, p6⟩
  case round =>
    clear o6 nv6 n6 r6 h6 b6 p6
    obtain ⟨j, v, rfl, hj, rfl, o, nv, n, r, h, b, p⟩ := hrel
    by_cases hlt : j < m
    · obtain ⟨b', o', e', hbd, hdc⟩ := h (by rw [HDL.out]; omega)
      injection e' with e'
      injection e' with e1 e2
      subst e1 e2
      have hjb := hdb (ds.getD j 0) (by rw [List.getD, List.getElem?_eq_getElem (by rw [HDL.out]; exact hlt)]; exact List.getElem_mem _)
      obtain ⟨f, hf⟩ : ∃ f : Nat, ds.getD j 0 = (f : Int) := ⟨(ds.getD j 0).toNat, by omega⟩
      have HF := Lib.hid hf
      have GW := Lib.hid (GW.out j f hlt hf (by omega))
      have HX := Lib.hid (HGL.out j hlt)
      have HPx := Lib.hid (HPL.out j hlt)
      have HPC := Lib.hid (HPC.out j)
      have HO := Lib.hid (HON.out j)
      have HL := Lib.hid (HOL.out j (by omega))
      generalize hgx : g j = x at *
      generalize placeL sig j = y at *
      have d1' : decide ((j : Int) < (m : Int)) = true := decide_eq_true (by omega)
      have d2' : decide (j < m) = true := decide_eq_true hlt
      have hcm : m ≤ c5 := k5
      have hj265 : j < 265 := by omega
      have z6 := res_new wr 24
      clear hdc hjb hf hgx
      go_wp2_with (first
        | (refine wpList_build_known rfl _ _ rfl (arrV .u8 ys) (fun W => by simpa using hBz W) ?_)
        | (have _t := z6; refine wpList_store_arr rfl _ _ _ rfl (ys := ys) z6 rfl rfl (by rw [Hz.out]; rfl) (by rw [Hz.out]; kernel_rfl) ?_; clear _t; intro w7 x7 g7
           have hb7 := below_fill (Below.refl _ _) (Nat.le_refl _) g7
           have n7 : Arr w7 w.heap.size 23 .u8 id := Block.below n hb7 (Block.lt n)
           have r7 : Arr w7 (w.heap.size + 1) 24 .u8 (List.replicate 32 0) := Block.below r hb7 (Block.lt r)
           have b7 := b.trans (hb7.mono b.size)
           have o7 := o.below hb7
           have h7 := Holds.on h hb7
           have p7 := Nat.le_trans p hb7.size
           have q1 := Block.lt n
           have q2 := Block.lt r
           have q3 := b.size
           rw [HZ0.out] at x7
           clear z6 g7 hb7 n r b o h p))
      generalize wr.heap.size = xb at *
      go_loopw [19] (fun s w2 => ∃ i : Nat, i ≤ 32 ∧ s = .int .i64 i ∧ Arr w2 xb 24 .u8 (y.take i ++ List.replicate (32 - i) 0) ∧ Own w2 B5 5 .u8 v (endsL g j) ∧ Arr w2 w.heap.size 23 .u8 id ∧ Arr w2 (w.heap.size + 1) 24 .u8 (List.replicate 32 0) ∧ Holds w2 w2.heap.size .i64 (some ⟨bd, od, none⟩) ds ∧ Below w.heap.size w w2 ∧ B5 ≤ w2.heap.size) (fun s _ => 32 - (intOf s).toNat)
      case atStart => exact ⟨0, by omega, rfl, x7, o7, n7, r7, h7, b7, p7⟩
      case round =>
        clear x7 n7 r7 b7 o7 h7 p7
        obtain ⟨i, hi, rfl, X, o, n, r, h, b, p⟩ := hrel
        by_cases hi2 : i < 32
        · have hs3 := hs2.below b
          obtain ⟨b1, o1, e1, _, hcc⟩ := hs3 (by omega)
          injection e1 with e1
          injection e1 with e2 e3
          subst e2 e3
          have hc1 := hcc (36 + 32 * j + i) (by rw [HLM.out]; omega)
          have hbz : 0 ≤ sig.getD (36 + 32 * j + i) 0 ∧ sig.getD (36 + 32 * j + i) 0 ≤ 255 := by rw [List.getD]; exact hso.at_ _
          have hpc := Lib.hid (HPC.out i hi2)
          generalize sig.getD (36 + 32 * j + i) 0 = z at *
          have hix : (36 + 32 * (j : Int) + (i : Int)).toNat = 36 + 32 * j + i := by omega
          have hi0 : (0 : Int) ≤ 36 + 32 * (j : Int) + (i : Int) := by omega
          have hi1 : 36 + 32 * (j : Int) + (i : Int) < (sig.length : Int) := by have := HLM.out; omega
          have dd1 : decide (i < 32) = true := decide_eq_true hi2
          have dd2 : decide ((i : Int) < 32) = true := decide_eq_true (by omega)
          have hxl : (y.take i ++ List.replicate (32 - i) 0).length = 32 := by rw [List.length_append, List.length_take, List.length_replicate, HPx.out]; omega
          have hxc := X.cell (i := i) (by omega)
          have hxf := Block.frozen X i
          have HXL := Lib.hid hxl
          clear hs3 hcc hxl
          have X9 := X.set_ i z
          rw [fill_place y i HPx.out hi2 z hpc.out.symm] at X9
          have g9 := grown_cell wr xb i (.int .u8 z)
          have zne := o.ne_block X (by decide)
          have n9 : Arr _ w.heap.size 23 .u8 id := Arr.grown n g9 (by intro e; injection e with e; omega)
          have r9 : Arr _ (w.heap.size + 1) 24 .u8 (List.replicate 32 0) := Arr.grown r g9 (by intro e; injection e with e; omega)
          have b9 : Below w.heap.size w _ := b.trans (below_of_grown g9 b.size fun b hb => by injection hb with hb; omega)
          have o9 := o.kept g9 (.inr zne)
          have h9 := (Holds.grown h g9 (fun a ha => by injection ha with ha; subst ha; intro e; injection e with e; have e : bd = xb := e; omega)).more g9.size
          have p9 := Nat.le_trans p g9.size
          clear hpc
          go_wp2_with fail
          go_roundw
          case rel => exact ⟨i + 1, by omega, by go_num, X9, o9, n9, r9, h9, b9, p9⟩
          case measure => simp [intOf] <;> omega
        · obtain rfl : i = 32 := by omega
          have dd1 : decide (32 < 32) = false := by decide
          have dd2 : decide ((32 : Int) < 32) = false := by decide
          rw [List.take_of_length_le (by rw [HPx.out]; omega), show (32 - 32) = 0 from rfl, List.replicate_zero, List.append_nil] at X
          obtain ⟨b', o', e', hbd2, hdc⟩ := h (by rw [HDL.out]; omega)
          injection e' with e'
          injection e' with e1 e2
          subst e1 e2
          have hcj := hdc j (by rw [HDL.out]; omega)
          rw [HF.out] at hcj
          clear hdc
          go_wp2_with fail
          have n4 := n.drewN 1
          have r4 := r.drewN 1
          have b4 := below_draws b 1
          have x4 := X.drewN 1
          have o4 : Own (wr.drewN 1) B5 5 .u8 v (endsL g j) := o
          have h4 : Holds (wr.drewN 1) (wr.drewN 1).heap.size .i64 (some ⟨bd, od, none⟩) ds := h
          have e4 : (wr.drewN 1).cell? ⟨bd, od + j, none⟩ = some (.int .i64 f) := hcj
          have p4 : B5 ≤ (wr.drewN 1).heap.size := p
          have q4 : bd < (wr.drewN 1).heap.size := hbd2
          clear n r b o h p hbd2 hcj X
          refine wp_region_held_drew (S := (fun W => Arr W w.heap.size 23 .u8 id ∧ Arr W xb 24 .u8 y ∧ W.cell? ⟨bd, od + j, none⟩ = some (.int .i64 f))) (by kernel_rfl) ⟨n4, x4, e4⟩ (fun hS => ?_)
          refine wpAnyH_take (i := 0) (oi := ⟨some 72, _, _, _, _, _⟩) (v := .agg (id.map (Value.int .u8)).toArray) rfl (by kernel_rfl) (by kernel_rfl) (by kernel_rfl) (fun _ _ _ h => h) (yieldsIf_load_mid (by rfl) _ _ rfl w.heap.size 0 rfl (id.map (Value.int .u8)) _ (fun W hW => Arr.range hW.1) arr16 rfl (by rw [List.length_map, HI.out]; kernel_rfl)) hS ?_
          try simp only [Act.put, List.setIfInBounds_toArray, List.set_cons_zero, List.set_cons_succ]
          refine wpAnyH_take (i := 1) (oi := ⟨some 73, _, _, _, _, _⟩) (v := .int .u32 q) rfl (by kernel_rfl) (by kernel_rfl) (by kernel_rfl) (fun _ _ _ h => h) (Or.inl ⟨by rfl, fun W hW => by go_simp⟩) hS ?_
          try simp only [Act.put, List.setIfInBounds_toArray, List.set_cons_zero, List.set_cons_succ]
          refine wpAnyH_take (i := 2) (oi := ⟨some 74, _, _, _, _, _⟩) (v := .int .i64 j) rfl (by kernel_rfl) (by kernel_rfl) (by kernel_rfl) (fun _ _ _ h => h) (Or.inl ⟨by rfl, fun W hW => by go_simp⟩) hS ?_
          try simp only [Act.put, List.setIfInBounds_toArray, List.set_cons_zero, List.set_cons_succ]
          refine wpAnyH_take (i := 3) (oi := ⟨some 75, _, _, _, _, _⟩) (v := .slice (some ⟨bd, od, none⟩) m c5) rfl (by kernel_rfl) (by kernel_rfl) (by kernel_rfl) (fun _ _ _ h => h) (Or.inl ⟨by rfl, fun W hW => by go_simp⟩) hS ?_
          try simp only [Act.put, List.setIfInBounds_toArray, List.set_cons_zero, List.set_cons_succ]
          refine wpAnyH_take (i := 4) (oi := ⟨some 76, _, _, _, _, _⟩) (v := .int .i64 j) rfl (by kernel_rfl) (by kernel_rfl) (by kernel_rfl) (fun _ _ _ h => h) (Or.inl ⟨by rfl, fun W hW => by go_simp⟩) hS ?_
          try simp only [Act.put, List.setIfInBounds_toArray, List.set_cons_zero, List.set_cons_succ]
          refine wpAnyH_take (i := 5) (oi := ⟨some 77, _, _, _, _, _⟩) (v := .pointer (some ⟨bd, od + j, none⟩)) rfl (by kernel_rfl) (by kernel_rfl) (by kernel_rfl) (fun _ _ _ h => h) (Or.inl ⟨by rfl, fun W hW => by go_simp⟩) hS ?_
          try simp only [Act.put, List.setIfInBounds_toArray, List.set_cons_zero, List.set_cons_succ]
          refine wpAnyH_take (i := 6) (oi := ⟨some 78, _, _, _, _, _⟩) (v := .int .i64 f) rfl (by kernel_rfl) (by kernel_rfl) (by kernel_rfl) (fun _ _ _ h => h) (Or.inl ⟨by rfl, fun W hW => by obtain ⟨_, _, hc⟩ := hW; go_simp⟩) hS ?_
          try simp only [Act.put, List.setIfInBounds_toArray, List.set_cons_zero, List.set_cons_succ]
          refine wpAnyH_take (i := 7) (oi := ⟨some 79, _, _, _, _, _⟩) (v := .int .u32 k) rfl (by kernel_rfl) (by kernel_rfl) (by kernel_rfl) (fun _ _ _ h => h) (Or.inl ⟨by rfl, fun W hW => by go_simp⟩) hS ?_
          try simp only [Act.put, List.setIfInBounds_toArray, List.set_cons_zero, List.set_cons_succ]
          refine wpAnyH_take (i := 9) (oi := ⟨some 81, _, _, _, _, _⟩) (v := .agg (y.map (Value.int .u8)).toArray) rfl (by kernel_rfl) (by kernel_rfl) (by kernel_rfl) (fun _ _ _ h => h) (yieldsIf_load_mid (by rfl) _ _ rfl xb 0 rfl (y.map (Value.int .u8)) _ (fun W hW => Arr.range hW.2.1) arr32A rfl (by rw [List.length_map, HPx.out]; kernel_rfl)) hS ?_
          try simp only [Act.put, List.setIfInBounds_toArray, List.set_cons_zero, List.set_cons_succ]
          obtain ⟨x0, e0⟩ : ∃ x0, x0 = wr.drew := ⟨_, rfl⟩
          have nx0 : Arr x0 w.heap.size 23 .u8 id := by rw [e0]; exact n4
          have rx0 : Arr x0 (w.heap.size + 1) 24 .u8 (List.replicate 32 0) := by rw [e0]; exact r4
          have bx0 : Below w.heap.size w x0 := by rw [e0]; exact b4
          have xx0 : Arr x0 xb 24 .u8 y := by rw [e0]; exact x4
          have ox0 : Own x0 B5 5 .u8 v (endsL g j) := by rw [e0]; exact o4
          have hx0 : Holds x0 x0.heap.size .i64 (some ⟨bd, od, none⟩) ds := by rw [e0]; exact h4
          have ex0 : x0.cell? ⟨bd, od + j, none⟩ = some (.int .i64 f) := by rw [e0]; exact e4
          have px0 : B5 ≤ x0.heap.size := by rw [e0]; exact p4
          have qx0 : bd < x0.heap.size := by rw [e0]; exact q4
          rw [← e0] at hS ⊢
          clear e0 n4 r4 b4 x4 o4 h4 e4 p4 q4
          refine wpAnyH_ready (rs := [8, 11]) (by kernel_rfl) (by simp) ?_
          refine AllReadyH.cons rfl (fun K hK => ?_) (AllReadyH.cons rfl (fun K hK => ?_) AllReadyH.nil)
          · go_simp
            go_at_call 55
            refine (GT.out _).mono ?_
            rintro e _ ⟨rfl, rfl⟩
            refine hK.out _ _ ⟨nx0, xx0, ex0⟩ (fun hS => ?_)
            clear hK K
            try simp only [Act.put, List.setIfInBounds_toArray, List.set_cons_zero, List.set_cons_succ]
            refine wpAnyH_ready (rs := [10, 11]) (by kernel_rfl) (by simp) ?_
            refine AllReadyH.cons rfl (fun K hK => ?_) (AllReadyH.cons rfl (fun K hK => ?_) AllReadyH.nil)
            · go_simp
              go_at_call 54
              refine (GW.out _).mono ?_
              rintro e x1 ⟨rfl, h⟩
              have nx1 : Arr x1 w.heap.size 23 .u8 id := Block.below nx0 h (Block.lt nx0)
              have rx1 : Arr x1 (w.heap.size + 1) 24 .u8 (List.replicate 32 0) := Block.below rx0 h (Block.lt rx0)
              have bx1 : Below w.heap.size w x1 := bx0.trans (h.mono bx0.size)
              have xx1 : Arr x1 xb 24 .u8 y := Block.below xx0 h (Block.lt xx0)
              have ox1 : Own x1 B5 5 .u8 v (endsL g j) := ox0.below h
              have hx1 : Holds x1 x1.heap.size .i64 (some ⟨bd, od, none⟩) ds := Holds.on hx0 h
              have ex1 : x1.cell? ⟨bd, od + j, none⟩ = some (.int .i64 f) := (h.cell (p := ⟨bd, od + j, none⟩) (World.block_lt_of_cell? _ _ ex0)).trans ex0
              have px1 : B5 ≤ x1.heap.size := Nat.le_trans px0 h.size
              have qx1 : bd < x1.heap.size := Nat.le_trans qx0 h.size
              refine hK.out _ _ ⟨nx1, xx1, ex1⟩ (fun hS => ?_)
              clear hK K
              try simp only [Act.put, List.setIfInBounds_toArray, List.set_cons_zero, List.set_cons_succ]
              refine wpAnyH_ready (rs := [11]) (by kernel_rfl) (by simp) ?_
              refine AllReadyH.cons rfl (fun K hK => ?_) AllReadyH.nil
              have q1 := Block.lt nx1
              have q2 := Block.lt rx1
              have q7 := Block.lt xx1
              have q3 := bx1.size
              have q5 := qx1
              go_simp
              have h := below_last x1 (.cells #[.int .u8 0, .int .u8 0, .int .u8 0, .int .u8 0, .int .u8 0, .int .u8 0, .int .u8 0, .int .u8 0, .int .u8 0, .int .u8 0, .int .u8 0, .int .u8 0, .int .u8 0, .int .u8 0, .int .u8 0, .int .u8 0, .int .u8 0, .int .u8 0, .int .u8 0, .int .u8 0, .int .u8 0, .int .u8 0, .int .u8 0, .int .u8 0, .int .u8 0, .int .u8 0, .int .u8 0, .int .u8 0, .int .u8 0, .int .u8 0, .int .u8 0, .int .u8 0] 24)
              have new_z : Arr (x1.alloc (.cells #[.int .u8 0, .int .u8 0, .int .u8 0, .int .u8 0, .int .u8 0, .int .u8 0, .int .u8 0, .int .u8 0, .int .u8 0, .int .u8 0, .int .u8 0, .int .u8 0, .int .u8 0, .int .u8 0, .int .u8 0, .int .u8 0, .int .u8 0, .int .u8 0, .int .u8 0, .int .u8 0, .int .u8 0, .int .u8 0, .int .u8 0, .int .u8 0, .int .u8 0, .int .u8 0, .int .u8 0, .int .u8 0, .int .u8 0, .int .u8 0, .int .u8 0, .int .u8 0] 24)) x1.heap.size 24 .u8 (List.replicate 32 0) := Arr.new x1 24 .u8 (List.replicate 32 0)
              generalize hgen : x1.alloc (.cells #[.int .u8 0, .int .u8 0, .int .u8 0, .int .u8 0, .int .u8 0, .int .u8 0, .int .u8 0, .int .u8 0, .int .u8 0, .int .u8 0, .int .u8 0, .int .u8 0, .int .u8 0, .int .u8 0, .int .u8 0, .int .u8 0, .int .u8 0, .int .u8 0, .int .u8 0, .int .u8 0, .int .u8 0, .int .u8 0, .int .u8 0, .int .u8 0, .int .u8 0, .int .u8 0, .int .u8 0, .int .u8 0, .int .u8 0, .int .u8 0, .int .u8 0, .int .u8 0] 24) = x2 at *
              have nx2 : Arr x2 w.heap.size 23 .u8 id := Block.below nx1 h (Block.lt nx1)
              have rx2 : Arr x2 (w.heap.size + 1) 24 .u8 (List.replicate 32 0) := Block.below rx1 h (Block.lt rx1)
              have bx2 : Below w.heap.size w x2 := bx1.trans (h.mono bx1.size)
              have xx2 : Arr x2 xb 24 .u8 y := Block.below xx1 h (Block.lt xx1)
              have ox2 : Own x2 B5 5 .u8 v (endsL g j) := ox1.below h
              have hx2 : Holds x2 x2.heap.size .i64 (some ⟨bd, od, none⟩) ds := Holds.on hx1 h
              have ex2 : x2.cell? ⟨bd, od + j, none⟩ = some (.int .i64 f) := (h.cell (p := ⟨bd, od + j, none⟩) (World.block_lt_of_cell? _ _ ex1)).trans ex1
              have px2 : B5 ≤ x2.heap.size := Nat.le_trans px1 h.size
              have qx2 : bd < x2.heap.size := Nat.le_trans qx1 h.size
              have zx2 : Arr x2 x1.heap.size 24 .u8 (List.replicate 32 0) := new_z
              clear hgen h new_z
              refine hK.out _ _ ⟨nx2, xx2, ex2⟩ (fun hS => ?_)
              clear hK K
              try simp only [Act.put, List.setIfInBounds_toArray, List.set_cons_zero, List.set_cons_succ]
              refine wpAnyH_ready (rs := [12]) (by kernel_rfl) (by simp) ?_
              refine AllReadyH.cons rfl (fun K hK => ?_) AllReadyH.nil
              have zne : v.ownBlock ≠ some (x1.heap.size) := ox2.ne_block zx2 (by decide)
              refine step_store_arr rfl _ _ _ rfl (ys := x) zx2 rfl rfl (by rw [HX.out]; rfl) (by rw [HX.out]; kernel_rfl) ?_
              intro x3 zx3 g9
              have nx3 : Arr x3 w.heap.size 23 .u8 id := Arr.grown nx2 g9 (by intro e; injection e with e; omega)
              have rx3 : Arr x3 (w.heap.size + 1) 24 .u8 (List.replicate 32 0) := Arr.grown rx2 g9 (by intro e; injection e with e; omega)
              have bx3 : Below w.heap.size w x3 := bx2.trans (below_of_grown g9 bx2.size fun b hb => by injection hb with hb; omega)
              have xx3 : Arr x3 xb 24 .u8 y := Arr.grown xx2 g9 (by intro e; injection e with e; omega)
              have ox3 : Own x3 B5 5 .u8 v (endsL g j) := ox2.kept g9 (.inr (zne))
              have hx3 : Holds x3 x3.heap.size .i64 (some ⟨bd, od, none⟩) ds := (Holds.grown hx2 g9 (fun a ha => by injection ha with ha; subst ha; intro e; injection e with e; have e : bd = x1.heap.size := e; omega)).more g9.size
              have ex3 : x3.cell? ⟨bd, od + j, none⟩ = some (.int .i64 f) := g9.cell ex2 (by show some (bd) ≠ some (x1.heap.size); intro e; injection e with e; omega)
              have px3 : B5 ≤ x3.heap.size := Nat.le_trans px2 g9.size
              have qx3 : bd < x3.heap.size := Nat.le_trans qx2 g9.size
              refine hK.out _ _ ⟨nx3, xx3, ex3⟩ (fun hS => ?_)
              clear hK K
              try simp only [Act.put, List.setIfInBounds_toArray, List.set_cons_zero, List.set_cons_succ]
              refine wpAnyH_done (by kernel_rfl) ?_ _
              go_wp2_with (have _t := zx3; at_builtin; refine wpList_append_ints _ rfl (.tmp 83) (.tmp 84) 35 rfl Oct.elem8 ox3 rfl (by rw [HX.out]; rfl) (Arr.holds_all zx3) (by rw [HL.out, HX.out]; omega) px3 ?_; clear _t; intro v9 w9 own9 hg9 hb9 hloc)
              rw [← HO.out] at own9
              have n9 : Arr w9 w.heap.size 23 .u8 id := Block.below nx3 hb9 (by omega)
              have r9 : Arr w9 (w.heap.size + 1) 24 .u8 (List.replicate 32 0) := Block.below rx3 hb9 (by omega)
              have b9 := bx3.trans (hb9.mono (by omega))
              have h9 : Holds w9 w9.heap.size .i64 (some ⟨bd, od, none⟩) ds := (Holds.grown hx3 hg9 (fun a ha => by injection ha with ha; subst ha; exact fun e => nv e.symm)).more hg9.size
              have nv9 : v9.ownBlock ≠ some bd := fun e => by rcases hloc with h | h; exact nv (h.symm.trans e); (have e := h.symm.trans e; injection e with e; have := qx3; omega)
              have p9 := Nat.le_trans px3 hb9.size
              go_roundw
              case rel => exact ⟨j + 1, _, rfl, hlt, by go_num, own9, nv9, n9, r9, h9, b9, p9⟩
              case measure => simp [intOf] <;> omega
            · have q1 := Block.lt nx0
              have q2 := Block.lt rx0
              have q7 := Block.lt xx0
              have q3 := bx0.size
              have q5 := qx0
              go_simp
              have h := below_last x0 (.cells #[.int .u8 0, .int .u8 0, .int .u8 0, .int .u8 0, .int .u8 0, .int .u8 0, .int .u8 0, .int .u8 0, .int .u8 0, .int .u8 0, .int .u8 0, .int .u8 0, .int .u8 0, .int .u8 0, .int .u8 0, .int .u8 0, .int .u8 0, .int .u8 0, .int .u8 0, .int .u8 0, .int .u8 0, .int .u8 0, .int .u8 0, .int .u8 0, .int .u8 0, .int .u8 0, .int .u8 0, .int .u8 0, .int .u8 0, .int .u8 0, .int .u8 0, .int .u8 0] 24)
              have new_z : Arr (x0.alloc (.cells #[.int .u8 0, .int .u8 0, .int .u8 0, .int .u8 0, .int .u8 0, .int .u8 0, .int .u8 0, .int .u8 0, .int .u8 0, .int .u8 0, .int .u8 0, .int .u8 0, .int .u8 0, .int .u8 0, .int .u8 0, .int .u8 0, .int .u8 0, .int .u8 0, .int .u8 0, .int .u8 0, .int .u8 0, .int .u8 0, .int .u8 0, .int .u8 0, .int .u8 0, .int .u8 0, .int .u8 0, .int .u8 0, .int .u8 0, .int .u8 0, .int .u8 0, .int .u8 0] 24)) x0.heap.size 24 .u8 (List.replicate 32 0) := Arr.new x0 24 .u8 (List.replicate 32 0)
              generalize hgen : x0.alloc (.cells #[.int .u8 0, .int .u8 0, .int .u8 0, .int .u8 0, .int .u8 0, .int .u8 0, .int .u8 0, .int .u8 0, .int .u8 0, .int .u8 0, .int .u8 0, .int .u8 0, .int .u8 0, .int .u8 0, .int .u8 0, .int .u8 0, .int .u8 0, .int .u8 0, .int .u8 0, .int .u8 0, .int .u8 0, .int .u8 0, .int .u8 0, .int .u8 0, .int .u8 0, .int .u8 0, .int .u8 0, .int .u8 0, .int .u8 0, .int .u8 0, .int .u8 0, .int .u8 0] 24) = x1 at *
              have nx1 : Arr x1 w.heap.size 23 .u8 id := Block.below nx0 h (Block.lt nx0)
              have rx1 : Arr x1 (w.heap.size + 1) 24 .u8 (List.replicate 32 0) := Block.below rx0 h (Block.lt rx0)
              have bx1 : Below w.heap.size w x1 := bx0.trans (h.mono bx0.size)
              have xx1 : Arr x1 xb 24 .u8 y := Block.below xx0 h (Block.lt xx0)
              have ox1 : Own x1 B5 5 .u8 v (endsL g j) := ox0.below h
              have hx1 : Holds x1 x1.heap.size .i64 (some ⟨bd, od, none⟩) ds := Holds.on hx0 h
              have ex1 : x1.cell? ⟨bd, od + j, none⟩ = some (.int .i64 f) := (h.cell (p := ⟨bd, od + j, none⟩) (World.block_lt_of_cell? _ _ ex0)).trans ex0
              have px1 : B5 ≤ x1.heap.size := Nat.le_trans px0 h.size
              have qx1 : bd < x1.heap.size := Nat.le_trans qx0 h.size
              have zx1 : Arr x1 x0.heap.size 24 .u8 (List.replicate 32 0) := new_z
              clear hgen h new_z
              refine hK.out _ _ ⟨nx1, xx1, ex1⟩ (fun hS => ?_)
              clear hK K
              try simp only [Act.put, List.setIfInBounds_toArray, List.set_cons_zero, List.set_cons_succ]
              refine wpAnyH_ready (rs := [10]) (by kernel_rfl) (by simp) ?_
              refine AllReadyH.cons rfl (fun K hK => ?_) AllReadyH.nil
              go_simp
              go_at_call 54
              refine (GW.out _).mono ?_
              rintro e x2 ⟨rfl, h⟩
              have nx2 : Arr x2 w.heap.size 23 .u8 id := Block.below nx1 h (Block.lt nx1)
              have rx2 : Arr x2 (w.heap.size + 1) 24 .u8 (List.replicate 32 0) := Block.below rx1 h (Block.lt rx1)
              have bx2 : Below w.heap.size w x2 := bx1.trans (h.mono bx1.size)
              have xx2 : Arr x2 xb 24 .u8 y := Block.below xx1 h (Block.lt xx1)
              have ox2 : Own x2 B5 5 .u8 v (endsL g j) := ox1.below h
              have hx2 : Holds x2 x2.heap.size .i64 (some ⟨bd, od, none⟩) ds := Holds.on hx1 h
              have ex2 : x2.cell? ⟨bd, od + j, none⟩ = some (.int .i64 f) := (h.cell (p := ⟨bd, od + j, none⟩) (World.block_lt_of_cell? _ _ ex1)).trans ex1
              have px2 : B5 ≤ x2.heap.size := Nat.le_trans px1 h.size
              have qx2 : bd < x2.heap.size := Nat.le_trans qx1 h.size
              have zx2 : Arr x2 x0.heap.size 24 .u8 (List.replicate 32 0) := Block.below zx1 h (Block.lt zx1)
              refine hK.out _ _ ⟨nx2, xx2, ex2⟩ (fun hS => ?_)
              clear hK K
              try simp only [Act.put, List.setIfInBounds_toArray, List.set_cons_zero, List.set_cons_succ]
              refine wpAnyH_ready (rs := [12]) (by kernel_rfl) (by simp) ?_
              refine AllReadyH.cons rfl (fun K hK => ?_) AllReadyH.nil
              have zne : v.ownBlock ≠ some (x0.heap.size) := ox2.ne_block zx2 (by decide)
              refine step_store_arr rfl _ _ _ rfl (ys := x) zx2 rfl rfl (by rw [HX.out]; rfl) (by rw [HX.out]; kernel_rfl) ?_
              intro x3 zx3 g9
              have nx3 : Arr x3 w.heap.size 23 .u8 id := Arr.grown nx2 g9 (by intro e; injection e with e; omega)
              have rx3 : Arr x3 (w.heap.size + 1) 24 .u8 (List.replicate 32 0) := Arr.grown rx2 g9 (by intro e; injection e with e; omega)
              have bx3 : Below w.heap.size w x3 := bx2.trans (below_of_grown g9 bx2.size fun b hb => by injection hb with hb; omega)
              have xx3 : Arr x3 xb 24 .u8 y := Arr.grown xx2 g9 (by intro e; injection e with e; omega)
              have ox3 : Own x3 B5 5 .u8 v (endsL g j) := ox2.kept g9 (.inr (zne))
              have hx3 : Holds x3 x3.heap.size .i64 (some ⟨bd, od, none⟩) ds := (Holds.grown hx2 g9 (fun a ha => by injection ha with ha; subst ha; intro e; injection e with e; have e : bd = x0.heap.size := e; omega)).more g9.size
              have ex3 : x3.cell? ⟨bd, od + j, none⟩ = some (.int .i64 f) := g9.cell ex2 (by show some (bd) ≠ some (x0.heap.size); intro e; injection e with e; omega)
              have px3 : B5 ≤ x3.heap.size := Nat.le_trans px2 g9.size
              have qx3 : bd < x3.heap.size := Nat.le_trans qx2 g9.size
              refine hK.out _ _ ⟨nx3, xx3, ex3⟩ (fun hS => ?_)
              clear hK K
              try simp only [Act.put, List.setIfInBounds_toArray, List.set_cons_zero, List.set_cons_succ]
              refine wpAnyH_done (by kernel_rfl) ?_ _
              go_wp2_with (have _t := zx3; at_builtin; refine wpList_append_ints _ rfl (.tmp 83) (.tmp 84) 35 rfl Oct.elem8 ox3 rfl (by rw [HX.out]; rfl) (Arr.holds_all zx3) (by rw [HL.out, HX.out]; omega) px3 ?_; clear _t; intro v9 w9 own9 hg9 hb9 hloc)
              rw [← HO.out] at own9
              have n9 : Arr w9 w.heap.size 23 .u8 id := Block.below nx3 hb9 (by omega)
              have r9 : Arr w9 (w.heap.size + 1) 24 .u8 (List.replicate 32 0) := Block.below rx3 hb9 (by omega)
              have b9 := bx3.trans (hb9.mono (by omega))
              have h9 : Holds w9 w9.heap.size .i64 (some ⟨bd, od, none⟩) ds := (Holds.grown hx3 hg9 (fun a ha => by injection ha with ha; subst ha; exact fun e => nv e.symm)).more hg9.size
              have nv9 : v9.ownBlock ≠ some bd := fun e => by rcases hloc with h | h; exact nv (h.symm.trans e); (have e := h.symm.trans e; injection e with e; have := qx3; omega)
              have p9 := Nat.le_trans px3 hb9.size
              go_roundw
              case rel => exact ⟨j + 1, _, rfl, hlt, by go_num, own9, nv9, n9, r9, h9, b9, p9⟩
              case measure => simp [intOf] <;> omega
          · have q1 := Block.lt nx0
            have q2 := Block.lt rx0
            have q7 := Block.lt xx0
            have q3 := bx0.size
            have q5 := qx0
            go_simp
            have h := below_last x0 (.cells #[.int .u8 0, .int .u8 0, .int .u8 0, .int .u8 0, .int .u8 0, .int .u8 0, .int .u8 0, .int .u8 0, .int .u8 0, .int .u8 0, .int .u8 0, .int .u8 0, .int .u8 0, .int .u8 0, .int .u8 0, .int .u8 0, .int .u8 0, .int .u8 0, .int .u8 0, .int .u8 0, .int .u8 0, .int .u8 0, .int .u8 0, .int .u8 0, .int .u8 0, .int .u8 0, .int .u8 0, .int .u8 0, .int .u8 0, .int .u8 0, .int .u8 0, .int .u8 0] 24)
            have new_z : Arr (x0.alloc (.cells #[.int .u8 0, .int .u8 0, .int .u8 0, .int .u8 0, .int .u8 0, .int .u8 0, .int .u8 0, .int .u8 0, .int .u8 0, .int .u8 0, .int .u8 0, .int .u8 0, .int .u8 0, .int .u8 0, .int .u8 0, .int .u8 0, .int .u8 0, .int .u8 0, .int .u8 0, .int .u8 0, .int .u8 0, .int .u8 0, .int .u8 0, .int .u8 0, .int .u8 0, .int .u8 0, .int .u8 0, .int .u8 0, .int .u8 0, .int .u8 0, .int .u8 0, .int .u8 0] 24)) x0.heap.size 24 .u8 (List.replicate 32 0) := Arr.new x0 24 .u8 (List.replicate 32 0)
            generalize hgen : x0.alloc (.cells #[.int .u8 0, .int .u8 0, .int .u8 0, .int .u8 0, .int .u8 0, .int .u8 0, .int .u8 0, .int .u8 0, .int .u8 0, .int .u8 0, .int .u8 0, .int .u8 0, .int .u8 0, .int .u8 0, .int .u8 0, .int .u8 0, .int .u8 0, .int .u8 0, .int .u8 0, .int .u8 0, .int .u8 0, .int .u8 0, .int .u8 0, .int .u8 0, .int .u8 0, .int .u8 0, .int .u8 0, .int .u8 0, .int .u8 0, .int .u8 0, .int .u8 0, .int .u8 0] 24) = x1 at *
            have nx1 : Arr x1 w.heap.size 23 .u8 id := Block.below nx0 h (Block.lt nx0)
            have rx1 : Arr x1 (w.heap.size + 1) 24 .u8 (List.replicate 32 0) := Block.below rx0 h (Block.lt rx0)
            have bx1 : Below w.heap.size w x1 := bx0.trans (h.mono bx0.size)
            have xx1 : Arr x1 xb 24 .u8 y := Block.below xx0 h (Block.lt xx0)
            have ox1 : Own x1 B5 5 .u8 v (endsL g j) := ox0.below h
            have hx1 : Holds x1 x1.heap.size .i64 (some ⟨bd, od, none⟩) ds := Holds.on hx0 h
            have ex1 : x1.cell? ⟨bd, od + j, none⟩ = some (.int .i64 f) := (h.cell (p := ⟨bd, od + j, none⟩) (World.block_lt_of_cell? _ _ ex0)).trans ex0
            have px1 : B5 ≤ x1.heap.size := Nat.le_trans px0 h.size
            have qx1 : bd < x1.heap.size := Nat.le_trans qx0 h.size
            have zx1 : Arr x1 x0.heap.size 24 .u8 (List.replicate 32 0) := new_z
            clear hgen h new_z
            refine hK.out _ _ ⟨nx1, xx1, ex1⟩ (fun hS => ?_)
            clear hK K
            try simp only [Act.put, List.setIfInBounds_toArray, List.set_cons_zero, List.set_cons_succ]
            refine wpAnyH_ready (rs := [8]) (by kernel_rfl) (by simp) ?_
            refine AllReadyH.cons rfl (fun K hK => ?_) AllReadyH.nil
            go_simp
            go_at_call 55
            refine (GT.out _).mono ?_
            rintro e _ ⟨rfl, rfl⟩
            refine hK.out _ _ ⟨nx1, xx1, ex1⟩ (fun hS => ?_)
            clear hK K
            try simp only [Act.put, List.setIfInBounds_toArray, List.set_cons_zero, List.set_cons_succ]
            refine wpAnyH_ready (rs := [10]) (by kernel_rfl) (by simp) ?_
            refine AllReadyH.cons rfl (fun K hK => ?_) AllReadyH.nil
            go_simp
            go_at_call 54
            refine (GW.out _).mono ?_
            rintro e x2 ⟨rfl, h⟩
            have nx2 : Arr x2 w.heap.size 23 .u8 id := Block.below nx1 h (Block.lt nx1)
            have rx2 : Arr x2 (w.heap.size + 1) 24 .u8 (List.replicate 32 0) := Block.below rx1 h (Block.lt rx1)
            have bx2 : Below w.heap.size w x2 := bx1.trans (h.mono bx1.size)
            have xx2 : Arr x2 xb 24 .u8 y := Block.below xx1 h (Block.lt xx1)
            have ox2 : Own x2 B5 5 .u8 v (endsL g j) := ox1.below h
            have hx2 : Holds x2 x2.heap.size .i64 (some ⟨bd, od, none⟩) ds := Holds.on hx1 h
            have ex2 : x2.cell? ⟨bd, od + j, none⟩ = some (.int .i64 f) := (h.cell (p := ⟨bd, od + j, none⟩) (World.block_lt_of_cell? _ _ ex1)).trans ex1
            have px2 : B5 ≤ x2.heap.size := Nat.le_trans px1 h.size
            have qx2 : bd < x2.heap.size := Nat.le_trans qx1 h.size
            have zx2 : Arr x2 x0.heap.size 24 .u8 (List.replicate 32 0) := Block.below zx1 h (Block.lt zx1)
            refine hK.out _ _ ⟨nx2, xx2, ex2⟩ (fun hS => ?_)
            clear hK K
            try simp only [Act.put, List.setIfInBounds_toArray, List.set_cons_zero, List.set_cons_succ]
            refine wpAnyH_ready (rs := [12]) (by kernel_rfl) (by simp) ?_
            refine AllReadyH.cons rfl (fun K hK => ?_) AllReadyH.nil
            have zne : v.ownBlock ≠ some (x0.heap.size) := ox2.ne_block zx2 (by decide)
            refine step_store_arr rfl _ _ _ rfl (ys := x) zx2 rfl rfl (by rw [HX.out]; rfl) (by rw [HX.out]; kernel_rfl) ?_
            intro x3 zx3 g9
            have nx3 : Arr x3 w.heap.size 23 .u8 id := Arr.grown nx2 g9 (by intro e; injection e with e; omega)
            have rx3 : Arr x3 (w.heap.size + 1) 24 .u8 (List.replicate 32 0) := Arr.grown rx2 g9 (by intro e; injection e with e; omega)
            have bx3 : Below w.heap.size w x3 := bx2.trans (below_of_grown g9 bx2.size fun b hb => by injection hb with hb; omega)
            have xx3 : Arr x3 xb 24 .u8 y := Arr.grown xx2 g9 (by intro e; injection e with e; omega)
            have ox3 : Own x3 B5 5 .u8 v (endsL g j) := ox2.kept g9 (.inr (zne))
            have hx3 : Holds x3 x3.heap.size .i64 (some ⟨bd, od, none⟩) ds := (Holds.grown hx2 g9 (fun a ha => by injection ha with ha; subst ha; intro e; injection e with e; have e : bd = x0.heap.size := e; omega)).more g9.size
            have ex3 : x3.cell? ⟨bd, od + j, none⟩ = some (.int .i64 f) := g9.cell ex2 (by show some (bd) ≠ some (x0.heap.size); intro e; injection e with e; omega)
            have px3 : B5 ≤ x3.heap.size := Nat.le_trans px2 g9.size
            have qx3 : bd < x3.heap.size := Nat.le_trans qx2 g9.size
            refine hK.out _ _ ⟨nx3, xx3, ex3⟩ (fun hS => ?_)
            clear hK K
            try simp only [Act.put, List.setIfInBounds_toArray, List.set_cons_zero, List.set_cons_succ]
            refine wpAnyH_done (by kernel_rfl) ?_ _
            go_wp2_with (have _t := zx3; at_builtin; refine wpList_append_ints _ rfl (.tmp 83) (.tmp 84) 35 rfl Oct.elem8 ox3 rfl (by rw [HX.out]; rfl) (Arr.holds_all zx3) (by rw [HL.out, HX.out]; omega) px3 ?_; clear _t; intro v9 w9 own9 hg9 hb9 hloc)
            rw [← HO.out] at own9
            have n9 : Arr w9 w.heap.size 23 .u8 id := Block.below nx3 hb9 (by omega)
            have r9 : Arr w9 (w.heap.size + 1) 24 .u8 (List.replicate 32 0) := Block.below rx3 hb9 (by omega)
            have b9 := bx3.trans (hb9.mono (by omega))
            have h9 : Holds w9 w9.heap.size .i64 (some ⟨bd, od, none⟩) ds := (Holds.grown hx3 hg9 (fun a ha => by injection ha with ha; subst ha; exact fun e => nv e.symm)).more hg9.size
            have nv9 : v9.ownBlock ≠ some bd := fun e => by rcases hloc with h | h; exact nv (h.symm.trans e); (have e := h.symm.trans e; injection e with e; have := qx3; omega)
            have p9 := Nat.le_trans px3 hb9.size
            go_roundw
            case rel => exact ⟨j + 1, _, rfl, hlt, by go_num, own9, nv9, n9, r9, h9, b9, p9⟩
            case measure => simp [intOf] <;> omega
    · obtain rfl : j = m := by omega
      have d1' : decide ((j : Int) < (j : Int)) = false := decide_eq_false (by omega)
      have d2' : decide (j < j) = false := decide_eq_false hlt
      obtain ⟨A, c, rfl, k1, m1, h1⟩ := o.opened
      have GE := Lib.hid (GE.out wr A c h1)
      generalize endsL g j = es at *
      go_wp2_with (first
        | (have _t := n; refine wpList_load_arr rfl _ _ rfl n rfl arr16 rfl (by rw [HI.out]; kernel_rfl) ?_)
        | (have _t := r; go_at_call 57; refine GE.out.mono ?_; clear _t; rintro e w2 ⟨rfl, hb⟩
           have r2 : Arr w2 (w.heap.size + 1) 24 .u8 (List.replicate 32 0) := Block.below r hb (Block.lt r)
           have b2 := b.trans (hb.mono b.size))
        | (have _t := r2; refine wpList_store_arr rfl _ _ _ rfl (ys := out) r2 rfl rfl (by rw [hyl.out]; rfl) (by rw [hyl.out]; kernel_rfl) ?_; intro w9 r9 g9))
      refine bodyPost_ret (v := .tuple #[arrV .u8 out, .int .i64 0]) (results_row_tmp rfl _ _ (w.heap.size + 1) 24 _ (0, 0) _ rfl r9 _ rfl arr32A rfl (by rw [show (out.map (Value.int .u8)).toArray.size = 32 by simp [hyl.out]]; kernel_rfl)) rfl ⟨rfl, ?_⟩
      exact b2.trans (below_of_grown g9 b2.size fun b hb => by injection hb with hb; omega)
end Go.Proofs.YtdfgdchmeikigaaDoor.Ot
