/-
  Layer 21, merkle: the root of sums: contracts. Conditions: as each theorem names.
-/
import Derived.Test.YtdfgdchmeikigaaDoorMkE
import Derived.Test.YtdfgdchmeikigaaDoorStA
namespace Go.Proofs.YtdfgdchmeikigaaDoor.Mk
open Go.ChangeShapes Go.WideShapes Go.ChangeAt Go.RowKit Go.Proofs.YtdfgdchmeikigaaDoor.Kit Go.Proofs.YtdfgdchmeikigaaDoor.Sha

/-- The result's block, laid at the beginning. -/
theorem res_new (w : World) (t : TypeId) : Arr (w.alloc (.cells ((List.replicate 32 (0 : Int)).map (Value.int .u8)).toArray t)) w.heap.size t .u8 (List.replicate 32 0) := Arr.new w _ _ _

set_option maxRecDepth 100000 in
set_option maxHeartbeats 1600000 in
theorem root_any (n : Nat) : ∀ (A : Option Addr) (l : List (List Int)) (c : Nat) (w : World), l.length = n → l.length ≤ c → c ≤ maxLen → HoldsD w w.heap.size A l → LaidS w →
    Calls Tryd.prog 28 #[.slice A l.length c] w (Sums (rootL l) w) := by
  induction n using Nat.strongRecOn with
  | ind n ih =>
    intro A l c w hn hc hm hr hL
    unfold maxLen at hm
    have r0 := res_new w 26
    by_cases h2 : 2 ≤ l.length
    · obtain ⟨_, k1, k2, k3⟩ := half_bd h2 (by omega)
      have GS := Lib.hid (fun W => split_any l.length W h2 (by omega))
      obtain ⟨b, off, rfl, hb, _, _⟩ := hr.at_ (i := 0) (by omega)
      have G1 := Lib.hid (fun W (hB : Below w.heap.size w W) => ih (halfN l.length) (by omega) (some ⟨b, off, none⟩) (l.take (halfN l.length)) c W (by simp <;> omega) (by simp <;> omega) (by unfold maxLen; omega) ((hr.on hB).head _) (hL.below hB))
      rw [show (l.take (halfN l.length)).length = halfN l.length by simp <;> omega] at G1
      have G2 := Lib.hid (fun W (hB : Below w.heap.size w W) => ih (l.length - halfN l.length) (by omega) (some ⟨b, off + halfN l.length * 32, none⟩) (l.drop (halfN l.length)) (c - halfN l.length) W (by simp) (by simp <;> omega) (by unfold maxLen; omega) ((hr.on hB).tail _) (hL.below hB))
      rw [show (l.drop (halfN l.length)).length = l.length - halfN l.length by simp] at G2
      have hall := hr.all
      have G3 := Lib.hid (fun W (hB : Below w.heap.size w W) => pair_any (rootL (l.take (halfN l.length))) (rootL (l.drop (halfN l.length))) W (rootL_d32 (fun d hd => hall d (List.mem_of_mem_take hd)) (by simp <;> omega)) (rootL_d32 (fun d hd => hall d (List.mem_of_mem_drop hd)) (by simp <;> omega)) (hL.below hB))
      have hsl := Lib.hid (pairL_d32 (rootL (l.take (halfN l.length))) (rootL (l.drop (halfN l.length)))).1
      rw [rootL_two h2 (by omega)]
      generalize pairL (rootL (l.take (halfN l.length))) (rootL (l.drop (halfN l.length))) = ys at *
      generalize rootL (l.take (halfN l.length)) = x1 at *
      generalize rootL (l.drop (halfN l.length)) = x2 at *
      generalize halfN l.length = k at *
      subst hn
      clear ih
      have d1 : decide ((l.length : Int) = 0) = false := decide_eq_false (by omega)
      have d2 : decide ((l.length : Int) = 1) = false := decide_eq_false (by omega)
      go_enter Tryd.func28, Tryd.ntmps28
      go_wp2_with (go_at_call 70; refine (GS.out _).mono ?_; rintro e w1 ⟨rfl, rfl⟩)
      have B0 : Below w.heap.size w (w.alloc (.cells ((List.replicate 32 (0 : Int)).map (Value.int .u8)).toArray 26)).drew := below_draws (below_new _) 1
      have kl : k ≤ l.length := by omega
      have kc : ¬ c = k := by omega
      refine wp_region_any (by kernel_rfl) ?_
      change wpAny _ _ _ _ _ _ _ (World.drew _)
      refine wpAny_take (i := 0) (v := .slice (some ⟨b, off, none⟩) l.length c) rfl (by kernel_rfl) (by kernel_rfl) (by kernel_rfl) (fun _ _ _ h => h) (Or.inl ⟨by rfl, fun W => by go_simp⟩) ?_
      refine wpAny_take (i := 1) (v := .int .i64 k) rfl (by kernel_rfl) (by kernel_rfl) (by kernel_rfl) (fun _ _ _ h => h) (Or.inl ⟨by rfl, fun W => by go_simp⟩) ?_
      refine wpAny_take (i := 2) (v := .slice (some ⟨b, off, none⟩) k c) rfl (by kernel_rfl) (by kernel_rfl) (by kernel_rfl) (fun _ _ _ h => h) (Or.inl ⟨by rfl, fun W => by go_simp <;> first | (intro h; omega) | (rw [if_pos kl, if_neg kc])⟩) ?_
      go_simp
      refine wpAny_take (i := 4) (v := .slice (some ⟨b, off, none⟩) l.length c) rfl (by kernel_rfl) (by kernel_rfl) (by kernel_rfl) (fun _ _ _ h => h) (Or.inl ⟨by rfl, fun W => by go_simp⟩) ?_
      refine wpAny_take (i := 5) (v := .int .i64 k) rfl (by kernel_rfl) (by kernel_rfl) (by kernel_rfl) (fun _ _ _ h => h) (Or.inl ⟨by rfl, fun W => by go_simp⟩) ?_
      refine wpAny_take (i := 6) (v := .slice (some ⟨b, off + k * 32, none⟩) (l.length - k) (c - k)) rfl (by kernel_rfl) (by kernel_rfl) (by kernel_rfl) (fun _ _ _ h => h) (Or.inl ⟨by rfl, fun W => by go_simp <;> first | (intro h; omega) | (rw [if_pos kl, if_neg kc])⟩) ?_
      refine wpAny_ready (rs := [3]) (by kernel_rfl) (by simp) ?_
      refine AllReady.cons rfl (fun K hK => ?_) AllReady.nil
      go_simp
      go_at_call 28
      refine (G1.out _ B0).mono ?_
      rintro e w2 ⟨rfl, hb2⟩
      have B2 := B0.trans (hb2.mono B0.size)
      have r2 := Block.below (Block.drewN r0 1) hb2 (by simp [World.drewN])
      refine hK _ _ ?_
      clear hK K
      refine wpAny_ready (rs := [7]) (by kernel_rfl) (by simp) ?_
      refine AllReady.cons rfl (fun K hK => ?_) AllReady.nil
      go_simp
      go_at_call 28
      refine (G2.out _ B2).mono ?_
      rintro e w3 ⟨rfl, hb3⟩
      have B3 := B2.trans (hb3.mono B2.size)
      have r3 := Block.below r2 hb3 (Block.lt r2)
      refine hK _ _ ?_
      clear hK K
      refine wpAny_ready (rs := [8]) (by kernel_rfl) (by simp) ?_
      refine AllReady.cons rfl (fun K hK => ?_) AllReady.nil
      go_simp
      go_at_call 31
      refine (G3.out _ B3).mono ?_
      rintro e w4 ⟨rfl, hb4⟩
      have B4 := B3.trans (hb4.mono B3.size)
      have r4 : Arr w4 w.heap.size 26 .u8 (List.replicate 32 0) := Block.below r3 hb4 (Block.lt r3)
      refine hK _ _ ?_
      clear hK K
      refine wpAny_ready (rs := [9]) (by kernel_rfl) (by simp) ?_
      refine AllReady.cons rfl (fun K hK => ?_) AllReady.nil
      refine step_store_arr rfl _ _ _ rfl r4 rfl rfl (by rw [hsl.out]; rfl) (by rw [hsl.out]; kernel_rfl) ?_
      intro w9 r9 g9
      refine hK _ _ ?_
      clear hK K
      refine wpAny_done (by kernel_rfl) ?_ _
      go_wp2_with fail
      refine bodyPost_ret (v := arrV .u8 ys) (results_cell_row rfl _ _ w.heap.size 26 _ (0, 0) _ rfl r9 arr32D rfl (by rw [show (ys.map (Value.int .u8)).toArray.size = 32 by simp [hsl.out]]; kernel_rfl)) rfl ⟨rfl, ?_⟩
      exact B4.trans (below_of_grown g9 B4.size fun b hb => by injection hb with hb; omega)
    · clear ih
      subst hn
      by_cases h1 : l.length = 1
      · obtain ⟨d, rfl⟩ : ∃ d, l = [d] := by match l, h1 with | [d], _ => exact ⟨d, rfl⟩
        rw [rootL_one]
        obtain ⟨b, off, rfl, hb, hc0, hd⟩ := hr.at_ (i := 0) (by simp)
        have rg : ∀ o, (w.alloc o).rangeAt b off (d.map (Value.int .u8)) := fun o j v hj => (below_new o).cell (p := ⟨b, off + j, none⟩) hb ▸ by simpa using hc0 j v hj
        have hd : D32 d := hd
        have hd1 := Lib.hid hd.1
        clear hc0 h2 h1 hr
        simp only [List.length_cons, List.length_nil, Nat.zero_add] at hc ⊢
        go_enter Tryd.func28, Tryd.ntmps28
        go_wp2_with (first
          | (refine wpList_load_mid rfl _ _ rfl b off rfl (d.map (Value.int .u8)) _ (rg _) arr32D rfl (by rw [List.length_map, hd1.out]; kernel_rfl) ?_)
          | (refine wpList_store_arr rfl _ _ _ rfl (ys := d) r0 rfl rfl (by rw [hd1.out]; rfl) (by rw [hd1.out]; kernel_rfl) ?_; intro w9 r9 g9))
        refine bodyPost_ret (v := arrV .u8 d) (results_cell_row rfl _ _ w.heap.size 26 _ (0, 0) _ rfl r9 arr32D rfl (by rw [show (d.map (Value.int .u8)).toArray.size = 32 by simp [hd1.out]]; kernel_rfl)) rfl ⟨rfl, ?_⟩
        exact (below_new _).trans (below_of_grown g9 (by simp) fun b hb => by injection hb with hb; omega)
      · obtain rfl : l = [] := List.eq_nil_of_length_eq_zero (by omega)
        rw [rootL_nil]
        have hsl := Lib.hid (sumL_length [])
        have GE := Lib.hid (fun (o : Obj) => psum_any none [] 0 (w.alloc o) (by simp) (Nat.le_refl _) (Nat.zero_le _) (fun _ h => absurd h (by simp)) Holds.nil (hL.below (below_new o)))
        have BE := fun o => below_new (w := w) o
        have RE := r0
        simp only [List.length_nil] at hc ⊢
        clear h1 h2 hr
        go_enter Tryd.func28, Tryd.ntmps28
        go_wp2_with (first
          | (go_at_call 69; refine (GE.out _).mono ?_; rintro e w5 ⟨rfl, hb5⟩; have B5 := (BE _).trans (hb5.mono (by simp <;> omega)); have r5 : Arr w5 w.heap.size 26 .u8 (List.replicate 32 0) := Block.below RE hb5 (by simp <;> omega); generalize sumL [] = ys at *)
          | (have _t := r5; refine wpList_store_arr rfl _ _ _ rfl r5 rfl rfl (by rw [hsl.out]; rfl) (by rw [hsl.out]; kernel_rfl) ?_; intro w9 r9 g9))
        refine bodyPost_ret (v := arrV .u8 ys) (results_cell_row rfl _ _ w.heap.size 26 _ (0, 0) _ rfl r9 arr32D rfl (by rw [show (ys.map (Value.int .u8)).toArray.size = 32 by simp [hsl.out]]; kernel_rfl)) rfl ⟨rfl, ?_⟩
        exact B5.trans (below_of_grown g9 B5.size fun b hb => by injection hb with hb; omega)

set_option maxRecDepth 100000 in
set_option maxHeartbeats 1600000 in
theorem rroot_any (n : Nat) : ∀ (A : Option Addr) (l : List (List Int)) (c : Nat) (w : World), l.length = n → l.length ≤ c → c ≤ maxLen → HoldsD w w.heap.size A l →
    Calls Tryd.prog 30 #[.slice A l.length c] w (Sums (rootL l) w) := by
  induction n using Nat.strongRecOn with
  | ind n ih =>
    intro A l c w hn hc hm hr
    unfold maxLen at hm
    have r0 := res_new w 24
    by_cases h2 : 2 ≤ l.length
    · obtain ⟨_, k1, k2, k3⟩ := half_bd h2 (by omega)
      have GS := Lib.hid (fun W => rhalf_any l.length W h2 (by omega))
      obtain ⟨b, off, rfl, hb, _, _⟩ := hr.at_ (i := 0) (by omega)
      have G1 := Lib.hid (fun W (hB : Below w.heap.size w W) => ih (halfN l.length) (by omega) (some ⟨b, off, none⟩) (l.take (halfN l.length)) c W (by simp <;> omega) (by simp <;> omega) (by unfold maxLen; omega) ((hr.on hB).head _))
      rw [show (l.take (halfN l.length)).length = halfN l.length by simp <;> omega] at G1
      have G2 := Lib.hid (fun W (hB : Below w.heap.size w W) => ih (l.length - halfN l.length) (by omega) (some ⟨b, off + halfN l.length * 32, none⟩) (l.drop (halfN l.length)) (c - halfN l.length) W (by simp) (by simp <;> omega) (by unfold maxLen; omega) ((hr.on hB).tail _))
      rw [show (l.drop (halfN l.length)).length = l.length - halfN l.length by simp] at G2
      have hall := hr.all
      have G3 := Lib.hid (fun W (hB : Below w.heap.size w W) => rpair_any (rootL (l.take (halfN l.length))) (rootL (l.drop (halfN l.length))) W (rootL_d32 (fun d hd => hall d (List.mem_of_mem_take hd)) (by simp <;> omega)) (rootL_d32 (fun d hd => hall d (List.mem_of_mem_drop hd)) (by simp <;> omega)))
      have hsl := Lib.hid (pairL_d32 (rootL (l.take (halfN l.length))) (rootL (l.drop (halfN l.length)))).1
      rw [rootL_two h2 (by omega)]
      generalize pairL (rootL (l.take (halfN l.length))) (rootL (l.drop (halfN l.length))) = ys at *
      generalize rootL (l.take (halfN l.length)) = x1 at *
      generalize rootL (l.drop (halfN l.length)) = x2 at *
      generalize halfN l.length = k at *
      subst hn
      clear ih
      have d1 : decide ((l.length : Int) = 0) = false := decide_eq_false (by omega)
      have d2 : decide ((l.length : Int) = 1) = false := decide_eq_false (by omega)
      go_enter Tryd.func30, Tryd.ntmps30
      go_wp2_with (go_at_call 71; refine (GS.out _).mono ?_; rintro e w1 ⟨rfl, rfl⟩)
      have B0 : Below w.heap.size w (w.alloc (.cells ((List.replicate 32 (0 : Int)).map (Value.int .u8)).toArray 24)).drew := below_draws (below_new _) 1
      have kl : k ≤ l.length := by omega
      have kc : ¬ c = k := by omega
      refine wp_region_any (by kernel_rfl) ?_
      change wpAny _ _ _ _ _ _ _ (World.drew _)
      refine wpAny_take (i := 0) (v := .slice (some ⟨b, off, none⟩) l.length c) rfl (by kernel_rfl) (by kernel_rfl) (by kernel_rfl) (fun _ _ _ h => h) (Or.inl ⟨by rfl, fun W => by go_simp⟩) ?_
      refine wpAny_take (i := 1) (v := .int .i64 k) rfl (by kernel_rfl) (by kernel_rfl) (by kernel_rfl) (fun _ _ _ h => h) (Or.inl ⟨by rfl, fun W => by go_simp⟩) ?_
      refine wpAny_take (i := 2) (v := .slice (some ⟨b, off, none⟩) k c) rfl (by kernel_rfl) (by kernel_rfl) (by kernel_rfl) (fun _ _ _ h => h) (Or.inl ⟨by rfl, fun W => by go_simp <;> first | (intro h; omega) | (rw [if_pos kl, if_neg kc])⟩) ?_
      go_simp
      refine wpAny_take (i := 4) (v := .slice (some ⟨b, off, none⟩) l.length c) rfl (by kernel_rfl) (by kernel_rfl) (by kernel_rfl) (fun _ _ _ h => h) (Or.inl ⟨by rfl, fun W => by go_simp⟩) ?_
      refine wpAny_take (i := 5) (v := .int .i64 k) rfl (by kernel_rfl) (by kernel_rfl) (by kernel_rfl) (fun _ _ _ h => h) (Or.inl ⟨by rfl, fun W => by go_simp⟩) ?_
      refine wpAny_take (i := 6) (v := .slice (some ⟨b, off + k * 32, none⟩) (l.length - k) (c - k)) rfl (by kernel_rfl) (by kernel_rfl) (by kernel_rfl) (fun _ _ _ h => h) (Or.inl ⟨by rfl, fun W => by go_simp <;> first | (intro h; omega) | (rw [if_pos kl, if_neg kc])⟩) ?_
      refine wpAny_ready (rs := [3]) (by kernel_rfl) (by simp) ?_
      refine AllReady.cons rfl (fun K hK => ?_) AllReady.nil
      go_simp
      go_at_call 30
      refine (G1.out _ B0).mono ?_
      rintro e w2 ⟨rfl, hb2⟩
      have B2 := B0.trans (hb2.mono B0.size)
      have r2 := Block.below (Block.drewN r0 1) hb2 (by simp [World.drewN])
      refine hK _ _ ?_
      clear hK K
      refine wpAny_ready (rs := [7]) (by kernel_rfl) (by simp) ?_
      refine AllReady.cons rfl (fun K hK => ?_) AllReady.nil
      go_simp
      go_at_call 30
      refine (G2.out _ B2).mono ?_
      rintro e w3 ⟨rfl, hb3⟩
      have B3 := B2.trans (hb3.mono B2.size)
      have r3 := Block.below r2 hb3 (Block.lt r2)
      refine hK _ _ ?_
      clear hK K
      refine wpAny_ready (rs := [8]) (by kernel_rfl) (by simp) ?_
      refine AllReady.cons rfl (fun K hK => ?_) AllReady.nil
      go_simp
      go_at_call 32
      refine (G3.out _ B3).mono ?_
      rintro e w4 ⟨rfl, hb4⟩
      have B4 := B3.trans (hb4.mono B3.size)
      have r4 : Arr w4 w.heap.size 24 .u8 (List.replicate 32 0) := Block.below r3 hb4 (Block.lt r3)
      refine hK _ _ ?_
      clear hK K
      refine wpAny_ready (rs := [9]) (by kernel_rfl) (by simp) ?_
      refine AllReady.cons rfl (fun K hK => ?_) AllReady.nil
      refine step_store_arr rfl _ _ _ rfl r4 rfl rfl (by rw [hsl.out]; rfl) (by rw [hsl.out]; kernel_rfl) ?_
      intro w9 r9 g9
      refine hK _ _ ?_
      clear hK K
      refine wpAny_done (by kernel_rfl) ?_ _
      go_wp2_with fail
      refine bodyPost_ret (v := arrV .u8 ys) (results_cell_row rfl _ _ w.heap.size 24 _ (0, 0) _ rfl r9 arr32A rfl (by rw [show (ys.map (Value.int .u8)).toArray.size = 32 by simp [hsl.out]]; kernel_rfl)) rfl ⟨rfl, ?_⟩
      exact B4.trans (below_of_grown g9 B4.size fun b hb => by injection hb with hb; omega)
    · clear ih
      subst hn
      by_cases h1 : l.length = 1
      · obtain ⟨d, rfl⟩ : ∃ d, l = [d] := by match l, h1 with | [d], _ => exact ⟨d, rfl⟩
        rw [rootL_one]
        obtain ⟨b, off, rfl, hb, hc0, hd⟩ := hr.at_ (i := 0) (by simp)
        have rg : ∀ o, (w.alloc o).rangeAt b off (d.map (Value.int .u8)) := fun o j v hj => (below_new o).cell (p := ⟨b, off + j, none⟩) hb ▸ by simpa using hc0 j v hj
        have hd : D32 d := hd
        have hd1 := Lib.hid hd.1
        clear hc0 h2 h1 hr
        simp only [List.length_cons, List.length_nil, Nat.zero_add] at hc ⊢
        go_enter Tryd.func30, Tryd.ntmps30
        go_wp2_with (first
          | (refine wpList_load_mid rfl _ _ rfl b off rfl (d.map (Value.int .u8)) _ (rg _) arr32A rfl (by rw [List.length_map, hd1.out]; kernel_rfl) ?_)
          | (refine wpList_store_arr rfl _ _ _ rfl (ys := d) r0 rfl rfl (by rw [hd1.out]; rfl) (by rw [hd1.out]; kernel_rfl) ?_; intro w9 r9 g9))
        refine bodyPost_ret (v := arrV .u8 d) (results_cell_row rfl _ _ w.heap.size 24 _ (0, 0) _ rfl r9 arr32A rfl (by rw [show (d.map (Value.int .u8)).toArray.size = 32 by simp [hd1.out]]; kernel_rfl)) rfl ⟨rfl, ?_⟩
        exact (below_new _).trans (below_of_grown g9 (by simp) fun b hb => by injection hb with hb; omega)
      · obtain rfl : l = [] := List.eq_nil_of_length_eq_zero (by omega)
        rw [rootL_nil]
        have hsl := Lib.hid (sumL_length [])
        have GE := Lib.hid (fun (o : Obj) => rsum_any (some ⟨w.heap.size + 1, 0, none⟩) [] 0 ((w.alloc o).alloc (.cells #[] 5)) (by simp) (Nat.le_refl _) (Nat.zero_le _) (fun _ h => absurd h (by simp)) Holds.nil)
        have BE := fun o => below_two' (w := w) o (.cells #[] 5)
        have RE := Arr.alloc (res_new w 24) (.cells #[] 5)
        simp only [List.length_nil] at hc ⊢
        clear h1 h2 hr
        go_enter Tryd.func30, Tryd.ntmps30
        go_wp2_with (first
          | (go_at_call 67; refine (GE.out _).mono ?_; rintro e w5 ⟨rfl, hb5⟩; have B5 := (BE _).trans (hb5.mono (by simp <;> omega)); have r5 : Arr w5 w.heap.size 24 .u8 (List.replicate 32 0) := Block.below RE hb5 (by simp <;> omega); generalize sumL [] = ys at *)
          | (have _t := r5; refine wpList_store_arr rfl _ _ _ rfl r5 rfl rfl (by rw [hsl.out]; rfl) (by rw [hsl.out]; kernel_rfl) ?_; intro w9 r9 g9))
        refine bodyPost_ret (v := arrV .u8 ys) (results_cell_row rfl _ _ w.heap.size 24 _ (0, 0) _ rfl r9 arr32A rfl (by rw [show (ys.map (Value.int .u8)).toArray.size = 32 by simp [hsl.out]]; kernel_rfl)) rfl ⟨rfl, ?_⟩
        exact B5.trans (below_of_grown g9 B5.size fun b hb => by injection hb with hb; omega)
end Go.Proofs.YtdfgdchmeikigaaDoor.Mk
