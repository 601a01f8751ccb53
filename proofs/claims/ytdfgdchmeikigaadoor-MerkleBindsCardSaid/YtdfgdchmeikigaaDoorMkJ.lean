/-
  Layer 21, merkle: the way of a leaf: contracts. Conditions: as each theorem names.
-/
import Derived.Test.YtdfgdchmeikigaaDoorMkG
import Derived.Test.YtdfgdchmeikigaaDoorMkH
import Derived.IntWalk
namespace Go.Proofs.YtdfgdchmeikigaaDoor.Mk
open Go.ChangeShapes Go.WideShapes Go.ChangeAt Go.RowKit Go.Proofs.YtdfgdchmeikigaaDoor.Kit Go.Proofs.YtdfgdchmeikigaaDoor.Sha

/-- The way of leaf i. -/
def wayL (l : List (List Int)) (i : Nat) : List (List Int) :=
  if h : 2 ≤ l.length ∧ l.length < 18446744073709551616 then
    have := half_bd h.1 h.2
    if i < halfN l.length then wayL (l.take (halfN l.length)) i ++ [rootL (l.drop (halfN l.length))]
    else wayL (l.drop (halfN l.length)) (i - halfN l.length) ++ [rootL (l.take (halfN l.length))]
  else []
termination_by l.length
decreasing_by
  · simp; omega
  · simp; omega
theorem wayL_one {l : List (List Int)} {i : Nat} (h : l.length < 2) : wayL l i = [] := by rw [wayL, dif_neg (by omega)]
theorem wayL_lo {l : List (List Int)} {i : Nat} (h : 2 ≤ l.length) (hn : l.length < 18446744073709551616) (hi : i < halfN l.length) : wayL l i = wayL (l.take (halfN l.length)) i ++ [rootL (l.drop (halfN l.length))] := by
  conv => lhs; rw [wayL]
  rw [dif_pos ⟨h, hn⟩, if_pos hi]
theorem wayL_hi {l : List (List Int)} {i : Nat} (h : 2 ≤ l.length) (hn : l.length < 18446744073709551616) (hi : ¬ i < halfN l.length) : wayL l i = wayL (l.drop (halfN l.length)) (i - halfN l.length) ++ [rootL (l.take (halfN l.length))] := by
  conv => lhs; rw [wayL]
  rw [dif_pos ⟨h, hn⟩, if_neg hi]
theorem wayL_len (n : Nat) : ∀ (l : List (List Int)) (i : Nat), l.length = n → (wayL l i).length = stepsN i l.length := by
  induction n using Nat.strongRecOn with
  | ind n ih =>
    intro l i hn
    by_cases h : 2 ≤ l.length ∧ l.length < 18446744073709551616
    · obtain ⟨_, a, b, c⟩ := half_bd h.1 h.2
      by_cases hi : i < halfN l.length
      · have h1 := ih (halfN l.length) (by omega) (l.take (halfN l.length)) i (by simp <;> omega)
        rw [show (l.take (halfN l.length)).length = halfN l.length by simp <;> omega] at h1
        rw [wayL_lo h.1 h.2 hi, stepsN_lo h.1 h.2 hi, List.length_append, h1, List.length_singleton, Nat.add_comm]
      · have h1 := ih (l.length - halfN l.length) (by omega) (l.drop (halfN l.length)) (i - halfN l.length) (by simp)
        rw [show (l.drop (halfN l.length)).length = l.length - halfN l.length by simp] at h1
        rw [wayL_hi h.1 h.2 hi, stepsN_hi h.1 h.2 hi, List.length_append, h1, List.length_singleton, Nat.add_comm]
    · rw [wayL, dif_neg h, stepsN, dif_neg h]
      rfl
theorem wayL_le (n : Nat) (l : List (List Int)) (i : Nat) (hn : l.length = n) : (wayL l i).length ≤ l.length := by
  rw [wayL_len n l i hn]
  exact stepsN_lt _ _
theorem below_new' {w : World} : Below w.heap.size w w := Below.refl _ _

set_option maxRecDepth 100000 in
set_option maxHeartbeats 1600000 in
theorem way_any (n : Nat) : ∀ (A : Option Addr) (l : List (List Int)) (c i : Nat) (w : World), l.length = n → l.length ≤ c → c ≤ maxLen → HoldsD w w.heap.size A l → l.length ≤ 1000000 → i < l.length → LaidS w →
    Calls Tryd.prog 73 #[.slice A l.length c, .int .i64 i] w (RowedD 26 (wayL l i) w) := by
  induction n using Nat.strongRecOn with
  | ind n ih =>
    intro A l c i w hn hc hm hr hsz hi hL
    unfold maxLen at hm
    by_cases h2 : 2 ≤ l.length
    · obtain ⟨_, k1, k2, k3⟩ := half_bd h2 (by omega)
      have GS := Lib.hid (split_any l.length w h2 (by omega))
      obtain ⟨b, off, rfl, hb, _, _⟩ := hr.at_ (i := 0) (by omega)
      have hall := hr.all
      have d2 : decide ((l.length : Int) = 1) = false := decide_eq_false (by omega)
      have B0 : Below w.heap.size w w.drew := below_draws (Below.refl _ _) 1
      by_cases hlt : i < halfN l.length
      · have G1 := Lib.hid (fun W (hB : Below w.heap.size w W) => ih (halfN l.length) (by omega) (some ⟨b, off, none⟩) (l.take (halfN l.length)) c i W (by simp <;> omega) (by simp <;> omega) (by unfold maxLen; omega) ((hr.on hB).head _) (by simp <;> omega) (by simp <;> omega) (hL.below hB))
        rw [show (l.take (halfN l.length)).length = halfN l.length by simp <;> omega] at G1
        have G2 := Lib.hid (fun W (hB : Below w.heap.size w W) => root_any (l.length - halfN l.length) (some ⟨b, off + halfN l.length * 32, none⟩) (l.drop (halfN l.length)) (c - halfN l.length) W (by simp) (by simp <;> omega) (by unfold maxLen; omega) ((hr.on hB).tail _) (hL.below hB))
        rw [show (l.drop (halfN l.length)).length = l.length - halfN l.length by simp] at G2
        have hq := rootL_d32 (l := l.drop (halfN l.length)) (fun d hd => hall d (List.mem_of_mem_drop hd)) (by simp <;> omega)
        have hln : (wayL (l.take (halfN l.length)) i).length ≤ 1000000 := by
          have := wayL_le (l.take (halfN l.length)).length (l.take (halfN l.length)) i rfl
          have e : (l.take (halfN l.length)).length ≤ l.length := by simp <;> omega
          omega
        rw [wayL_lo h2 (by omega) hlt]
        generalize wayL (l.take (halfN l.length)) i = ws at *
        generalize rootL (l.drop (halfN l.length)) = q at *
        generalize halfN l.length = k at *
        subst hn
        clear ih
        have dl : decide ((i : Int) < k) = true := decide_eq_true (by omega)
        have kl : k ≤ l.length := by omega
        have kc : ¬ c = k := by omega
        go_enter Tryd.func73, Tryd.ntmps73
        go_wp2_with (go_at_call 70; refine GS.out.mono ?_; rintro e w1 ⟨rfl, rfl⟩)
        refine wp_region_any (by kernel_rfl) ?_
        change wpAny _ _ _ _ _ _ _ (World.drew _)
        refine wpAny_take (i := 0) (v := .slice (some ⟨b, off, none⟩) l.length c) rfl (by kernel_rfl) (by kernel_rfl) (by kernel_rfl) (fun _ _ _ h => h) (Or.inl ⟨by rfl, fun W => by go_simp⟩) ?_
        refine wpAny_take (i := 1) (v := .int .i64 k) rfl (by kernel_rfl) (by kernel_rfl) (by kernel_rfl) (fun _ _ _ h => h) (Or.inl ⟨by rfl, fun W => by go_simp⟩) ?_
        refine wpAny_take (i := 2) (v := .slice (some ⟨b, off, none⟩) k c) rfl (by kernel_rfl) (by kernel_rfl) (by kernel_rfl) (fun _ _ _ h => h) (Or.inl ⟨by rfl, fun W => by go_simp <;> first | (intro h; omega) | (rw [if_pos kl, if_neg kc])⟩) ?_
        go_simp
        refine wpAny_take (i := 3) (v := .int .i64 i) rfl (by kernel_rfl) (by kernel_rfl) (by kernel_rfl) (fun _ _ _ h => h) (Or.inl ⟨by rfl, fun W => by go_simp⟩) ?_
        refine wpAny_take (i := 5) (v := .slice (some ⟨b, off, none⟩) l.length c) rfl (by kernel_rfl) (by kernel_rfl) (by kernel_rfl) (fun _ _ _ h => h) (Or.inl ⟨by rfl, fun W => by go_simp⟩) ?_
        refine wpAny_take (i := 6) (v := .int .i64 k) rfl (by kernel_rfl) (by kernel_rfl) (by kernel_rfl) (fun _ _ _ h => h) (Or.inl ⟨by rfl, fun W => by go_simp⟩) ?_
        go_simp
        refine wpAny_take (i := 7) (v := .slice (some ⟨b, off + k * 32, none⟩) (l.length - k) (c - k)) rfl (by kernel_rfl) (by kernel_rfl) (by kernel_rfl) (fun _ _ _ h => h) (Or.inl ⟨by rfl, fun W => by go_simp <;> first | (intro h; omega) | (rw [if_pos kl, if_neg kc])⟩) ?_
        refine wpAny_ready (rs := [4]) (by kernel_rfl) (by simp) ?_
        refine AllReady.cons rfl (fun K hK => ?_) AllReady.nil
        go_simp
        go_at_call 73
        refine (G1.out _ B0).mono ?_
        rintro e w2 ⟨v2, rfl, own2, hb2⟩
        have B2 := B0.trans (hb2.mono B0.size)
        have own2 := own2.mono B0.size
        refine hK _ _ ?_
        clear hK K
        refine wpAny_ready (rs := [8]) (by kernel_rfl) (by simp) ?_
        refine AllReady.cons rfl (fun K hK => ?_) AllReady.nil
        go_simp
        go_at_call 28
        refine (G2.out _ B2).mono ?_
        rintro e w3 ⟨rfl, hb3⟩
        have B3 := B2.trans (hb3.mono B2.size)
        have own3 := own2.below hb3
        refine hK _ _ ?_
        clear hK K
        refine wpAny_ready (rs := [9]) (by kernel_rfl) (by simp) ?_
        refine AllReady.cons rfl (fun K hK => ?_) AllReady.nil
        refine step_build_dig rfl _ _ rfl elemD zeroD hq rfl ?_
        refine hK _ _ ?_
        clear hK K
        refine wpAny_ready (rs := [10]) (by kernel_rfl) (by simp) ?_
        refine AllReady.cons rfl (fun K hK => ?_) AllReady.nil
        refine step_append_dig rfl _ _ _ rfl elemD own3 rfl hq rfl hln B3.size ?_
        intro A4 c4 w4 own4 t4
        have B4 := B3.trans (own3.turned t4 B3.size)
        refine hK _ _ ?_
        clear hK K
        refine wpAny_ready (rs := [11]) (by kernel_rfl) (by simp) ?_
        refine AllReady.cons rfl (fun K hK => ?_) AllReady.nil
        go_simp
        refine hK _ _ ?_
        clear hK K
        refine wpAny_done (by kernel_rfl) ?_ _
        go_wp2_with fail
        go_ret
        exact ⟨_, rfl, own4, B4⟩
      · have G1 := Lib.hid (fun W (hB : Below w.heap.size w W) => ih (l.length - halfN l.length) (by omega) (some ⟨b, off + halfN l.length * 32, none⟩) (l.drop (halfN l.length)) (c - halfN l.length) (i - halfN l.length) W (by simp) (by simp <;> omega) (by unfold maxLen; omega) ((hr.on hB).tail _) (by simp <;> omega) (by simp <;> omega) (hL.below hB))
        rw [show (l.drop (halfN l.length)).length = l.length - halfN l.length by simp, show ((i - halfN l.length : Nat) : Int) = (i : Int) - (halfN l.length : Int) by omega] at G1
        have G2 := Lib.hid (fun W (hB : Below w.heap.size w W) => root_any (halfN l.length) (some ⟨b, off, none⟩) (l.take (halfN l.length)) c W (by simp <;> omega) (by simp <;> omega) (by unfold maxLen; omega) ((hr.on hB).head _) (hL.below hB))
        rw [show (l.take (halfN l.length)).length = halfN l.length by simp <;> omega] at G2
        have hq := rootL_d32 (l := l.take (halfN l.length)) (fun d hd => hall d (List.mem_of_mem_take hd)) (by simp <;> omega)
        have hln : (wayL (l.drop (halfN l.length)) (i - halfN l.length)).length ≤ 1000000 := by
          have := wayL_le (l.drop (halfN l.length)).length (l.drop (halfN l.length)) (i - halfN l.length) rfl
          have e : (l.drop (halfN l.length)).length ≤ l.length := by simp
          omega
        rw [wayL_hi h2 (by omega) hlt]
        generalize wayL (l.drop (halfN l.length)) (i - halfN l.length) = ws at *
        generalize rootL (l.take (halfN l.length)) = q at *
        generalize halfN l.length = k at *
        subst hn
        clear ih
        have dl : decide ((i : Int) < k) = false := decide_eq_false (by omega)
        have q1 : (0 : Int) ≤ (i : Int) - k := by omega
        have kl : k ≤ l.length := by omega
        have kc : ¬ c = k := by omega
        go_enter Tryd.func73, Tryd.ntmps73
        go_wp2_with (go_at_call 70; refine GS.out.mono ?_; rintro e w1 ⟨rfl, rfl⟩)
        refine wp_region_any (by kernel_rfl) ?_
        change wpAny _ _ _ _ _ _ _ (World.drew _)
        refine wpAny_take (i := 0) (v := .slice (some ⟨b, off, none⟩) l.length c) rfl (by kernel_rfl) (by kernel_rfl) (by kernel_rfl) (fun _ _ _ h => h) (Or.inl ⟨by rfl, fun W => by go_simp⟩) ?_
        refine wpAny_take (i := 1) (v := .int .i64 k) rfl (by kernel_rfl) (by kernel_rfl) (by kernel_rfl) (fun _ _ _ h => h) (Or.inl ⟨by rfl, fun W => by go_simp⟩) ?_
        refine wpAny_take (i := 2) (v := .slice (some ⟨b, off + k * 32, none⟩) (l.length - k) (c - k)) rfl (by kernel_rfl) (by kernel_rfl) (by kernel_rfl) (fun _ _ _ h => h) (Or.inl ⟨by rfl, fun W => by go_simp <;> first | (intro h; omega) | (rw [if_pos kl, if_neg kc])⟩) ?_
        go_simp
        refine wpAny_take (i := 3) (v := .int .i64 i) rfl (by kernel_rfl) (by kernel_rfl) (by kernel_rfl) (fun _ _ _ h => h) (Or.inl ⟨by rfl, fun W => by go_simp⟩) ?_
        refine wpAny_take (i := 4) (v := .int .i64 k) rfl (by kernel_rfl) (by kernel_rfl) (by kernel_rfl) (fun _ _ _ h => h) (Or.inl ⟨by rfl, fun W => by go_simp⟩) ?_
        refine wpAny_take (i := 5) (v := .int .i64 ((i : Int) - k)) rfl (by kernel_rfl) (by kernel_rfl) (by kernel_rfl) (fun _ _ _ h => h) (Or.inl ⟨by rfl, fun W => by go_simp; exact IntWalk.i64_in _ (by omega)⟩) ?_
        go_simp
        refine wpAny_take (i := 7) (v := .slice (some ⟨b, off, none⟩) l.length c) rfl (by kernel_rfl) (by kernel_rfl) (by kernel_rfl) (fun _ _ _ h => h) (Or.inl ⟨by rfl, fun W => by go_simp⟩) ?_
        refine wpAny_take (i := 8) (v := .int .i64 k) rfl (by kernel_rfl) (by kernel_rfl) (by kernel_rfl) (fun _ _ _ h => h) (Or.inl ⟨by rfl, fun W => by go_simp⟩) ?_
        refine wpAny_take (i := 9) (v := .slice (some ⟨b, off, none⟩) k c) rfl (by kernel_rfl) (by kernel_rfl) (by kernel_rfl) (fun _ _ _ h => h) (Or.inl ⟨by rfl, fun W => by go_simp <;> first | (intro h; omega) | (rw [if_pos kl, if_neg kc])⟩) ?_
        go_simp
        refine wpAny_ready (rs := [6]) (by kernel_rfl) (by simp) ?_
        refine AllReady.cons rfl (fun K hK => ?_) AllReady.nil
        go_simp
        go_at_call 73
        refine (G1.out _ B0).mono ?_
        rintro e w2 ⟨v2, rfl, own2, hb2⟩
        have B2 := B0.trans (hb2.mono B0.size)
        have own2 := own2.mono B0.size
        refine hK _ _ ?_
        clear hK K
        refine wpAny_ready (rs := [10]) (by kernel_rfl) (by simp) ?_
        refine AllReady.cons rfl (fun K hK => ?_) AllReady.nil
        go_simp
        go_at_call 28
        refine (G2.out _ B2).mono ?_
        rintro e w3 ⟨rfl, hb3⟩
        have B3 := B2.trans (hb3.mono B2.size)
        have own3 := own2.below hb3
        refine hK _ _ ?_
        clear hK K
        refine wpAny_ready (rs := [11]) (by kernel_rfl) (by simp) ?_
        refine AllReady.cons rfl (fun K hK => ?_) AllReady.nil
        refine step_build_dig rfl _ _ rfl elemD zeroD hq rfl ?_
        refine hK _ _ ?_
        clear hK K
        refine wpAny_ready (rs := [12]) (by kernel_rfl) (by simp) ?_
        refine AllReady.cons rfl (fun K hK => ?_) AllReady.nil
        refine step_append_dig rfl _ _ _ rfl elemD own3 rfl hq rfl hln B3.size ?_
        intro A4 c4 w4 own4 t4
        have B4 := B3.trans (own3.turned t4 B3.size)
        refine hK _ _ ?_
        clear hK K
        refine wpAny_ready (rs := [13]) (by kernel_rfl) (by simp) ?_
        refine AllReady.cons rfl (fun K hK => ?_) AllReady.nil
        go_simp
        refine hK _ _ ?_
        clear hK K
        refine wpAny_done (by kernel_rfl) ?_ _
        go_wp2_with fail
        go_ret
        exact ⟨_, rfl, own4, B4⟩
    · clear ih
      rw [wayL_one (by omega)]
      have h1 : l.length = 1 := by omega
      obtain ⟨d, rfl⟩ : ∃ d, l = [d] := by match l, h1 with | [d], _ => exact ⟨d, rfl⟩
      simp only [List.length_cons, List.length_nil, Nat.zero_add] at hc ⊢
      clear hn hr h2 h1 hsz hi
      have o0 := OwnD.empty (B := w.heap.size) w 26 (Nat.le_refl _)
      have on := OwnD.nil w w.heap.size 26
      have b0 := below_new (w := w) (.cells #[] 26)
      go_enter Tryd.func73, Tryd.ntmps73
      go_wp2_with fail
      go_ret
      exact ⟨_, rfl, on, Below.refl _ _⟩

set_option maxRecDepth 100000 in
set_option maxHeartbeats 1600000 in
theorem rway_any (n : Nat) : ∀ (A : Option Addr) (l : List (List Int)) (c i : Nat) (w : World), l.length = n → l.length ≤ c → c ≤ maxLen → HoldsD w w.heap.size A l → l.length ≤ 1000000 → i < l.length →
    Calls Tryd.prog 37 #[.slice A l.length c, .int .i64 i] w (RowedD 24 (wayL l i) w) := by
  induction n using Nat.strongRecOn with
  | ind n ih =>
    intro A l c i w hn hc hm hr hsz hi
    unfold maxLen at hm
    by_cases h2 : 2 ≤ l.length
    · obtain ⟨_, k1, k2, k3⟩ := half_bd h2 (by omega)
      have GS := Lib.hid (rhalf_any l.length w h2 (by omega))
      obtain ⟨b, off, rfl, hb, _, _⟩ := hr.at_ (i := 0) (by omega)
      have hall := hr.all
      have d2 : decide ((l.length : Int) = 1) = false := decide_eq_false (by omega)
      have B0 : Below w.heap.size w w.drew := below_draws (Below.refl _ _) 1
      by_cases hlt : i < halfN l.length
      · have G1 := Lib.hid (fun W (hB : Below w.heap.size w W) => ih (halfN l.length) (by omega) (some ⟨b, off, none⟩) (l.take (halfN l.length)) c i W (by simp <;> omega) (by simp <;> omega) (by unfold maxLen; omega) ((hr.on hB).head _) (by simp <;> omega) (by simp <;> omega))
        rw [show (l.take (halfN l.length)).length = halfN l.length by simp <;> omega] at G1
        have G2 := Lib.hid (fun W (hB : Below w.heap.size w W) => rroot_any (l.length - halfN l.length) (some ⟨b, off + halfN l.length * 32, none⟩) (l.drop (halfN l.length)) (c - halfN l.length) W (by simp) (by simp <;> omega) (by unfold maxLen; omega) ((hr.on hB).tail _))
        rw [show (l.drop (halfN l.length)).length = l.length - halfN l.length by simp] at G2
        have hq := rootL_d32 (l := l.drop (halfN l.length)) (fun d hd => hall d (List.mem_of_mem_drop hd)) (by simp <;> omega)
        have hln : (wayL (l.take (halfN l.length)) i).length ≤ 1000000 := by
          have := wayL_le (l.take (halfN l.length)).length (l.take (halfN l.length)) i rfl
          have e : (l.take (halfN l.length)).length ≤ l.length := by simp <;> omega
          omega
        rw [wayL_lo h2 (by omega) hlt]
        generalize wayL (l.take (halfN l.length)) i = ws at *
        generalize rootL (l.drop (halfN l.length)) = q at *
        generalize halfN l.length = k at *
        subst hn
        clear ih
        have dl : decide ((i : Int) < k) = true := decide_eq_true (by omega)
        have kl : k ≤ l.length := by omega
        have kc : ¬ c = k := by omega
        go_enter Tryd.func37, Tryd.ntmps37
        go_wp2_with (go_at_call 71; refine GS.out.mono ?_; rintro e w1 ⟨rfl, rfl⟩)
        refine wp_region_any (by kernel_rfl) ?_
        change wpAny _ _ _ _ _ _ _ (World.drew _)
        refine wpAny_take (i := 0) (v := .slice (some ⟨b, off, none⟩) l.length c) rfl (by kernel_rfl) (by kernel_rfl) (by kernel_rfl) (fun _ _ _ h => h) (Or.inl ⟨by rfl, fun W => by go_simp⟩) ?_
        refine wpAny_take (i := 1) (v := .int .i64 k) rfl (by kernel_rfl) (by kernel_rfl) (by kernel_rfl) (fun _ _ _ h => h) (Or.inl ⟨by rfl, fun W => by go_simp⟩) ?_
        refine wpAny_take (i := 2) (v := .slice (some ⟨b, off, none⟩) k c) rfl (by kernel_rfl) (by kernel_rfl) (by kernel_rfl) (fun _ _ _ h => h) (Or.inl ⟨by rfl, fun W => by go_simp <;> first | (intro h; omega) | (rw [if_pos kl, if_neg kc])⟩) ?_
        go_simp
        refine wpAny_take (i := 3) (v := .int .i64 i) rfl (by kernel_rfl) (by kernel_rfl) (by kernel_rfl) (fun _ _ _ h => h) (Or.inl ⟨by rfl, fun W => by go_simp⟩) ?_
        refine wpAny_take (i := 5) (v := .slice (some ⟨b, off, none⟩) l.length c) rfl (by kernel_rfl) (by kernel_rfl) (by kernel_rfl) (fun _ _ _ h => h) (Or.inl ⟨by rfl, fun W => by go_simp⟩) ?_
        refine wpAny_take (i := 6) (v := .int .i64 k) rfl (by kernel_rfl) (by kernel_rfl) (by kernel_rfl) (fun _ _ _ h => h) (Or.inl ⟨by rfl, fun W => by go_simp⟩) ?_
        go_simp
        refine wpAny_take (i := 7) (v := .slice (some ⟨b, off + k * 32, none⟩) (l.length - k) (c - k)) rfl (by kernel_rfl) (by kernel_rfl) (by kernel_rfl) (fun _ _ _ h => h) (Or.inl ⟨by rfl, fun W => by go_simp <;> first | (intro h; omega) | (rw [if_pos kl, if_neg kc])⟩) ?_
        refine wpAny_ready (rs := [4]) (by kernel_rfl) (by simp) ?_
        refine AllReady.cons rfl (fun K hK => ?_) AllReady.nil
        go_simp
        go_at_call 37
        refine (G1.out _ B0).mono ?_
        rintro e w2 ⟨v2, rfl, own2, hb2⟩
        have B2 := B0.trans (hb2.mono B0.size)
        have own2 := own2.mono B0.size
        refine hK _ _ ?_
        clear hK K
        refine wpAny_ready (rs := [8]) (by kernel_rfl) (by simp) ?_
        refine AllReady.cons rfl (fun K hK => ?_) AllReady.nil
        go_simp
        go_at_call 30
        refine (G2.out _ B2).mono ?_
        rintro e w3 ⟨rfl, hb3⟩
        have B3 := B2.trans (hb3.mono B2.size)
        have own3 := own2.below hb3
        refine hK _ _ ?_
        clear hK K
        refine wpAny_ready (rs := [9]) (by kernel_rfl) (by simp) ?_
        refine AllReady.cons rfl (fun K hK => ?_) AllReady.nil
        refine step_build_dig rfl _ _ rfl elemR zeroR hq rfl ?_
        refine hK _ _ ?_
        clear hK K
        refine wpAny_ready (rs := [10]) (by kernel_rfl) (by simp) ?_
        refine AllReady.cons rfl (fun K hK => ?_) AllReady.nil
        refine step_append_dig rfl _ _ _ rfl elemR own3 rfl hq rfl hln B3.size ?_
        intro A4 c4 w4 own4 t4
        have B4 := B3.trans (own3.turned t4 B3.size)
        refine hK _ _ ?_
        clear hK K
        refine wpAny_ready (rs := [11]) (by kernel_rfl) (by simp) ?_
        refine AllReady.cons rfl (fun K hK => ?_) AllReady.nil
        go_simp
        refine hK _ _ ?_
        clear hK K
        refine wpAny_done (by kernel_rfl) ?_ _
        go_wp2_with fail
        go_ret
        exact ⟨_, rfl, own4, B4⟩
      · have G1 := Lib.hid (fun W (hB : Below w.heap.size w W) => ih (l.length - halfN l.length) (by omega) (some ⟨b, off + halfN l.length * 32, none⟩) (l.drop (halfN l.length)) (c - halfN l.length) (i - halfN l.length) W (by simp) (by simp <;> omega) (by unfold maxLen; omega) ((hr.on hB).tail _) (by simp <;> omega) (by simp <;> omega))
        rw [show (l.drop (halfN l.length)).length = l.length - halfN l.length by simp, show ((i - halfN l.length : Nat) : Int) = (i : Int) - (halfN l.length : Int) by omega] at G1
        have G2 := Lib.hid (fun W (hB : Below w.heap.size w W) => rroot_any (halfN l.length) (some ⟨b, off, none⟩) (l.take (halfN l.length)) c W (by simp <;> omega) (by simp <;> omega) (by unfold maxLen; omega) ((hr.on hB).head _))
        rw [show (l.take (halfN l.length)).length = halfN l.length by simp <;> omega] at G2
        have hq := rootL_d32 (l := l.take (halfN l.length)) (fun d hd => hall d (List.mem_of_mem_take hd)) (by simp <;> omega)
        have hln : (wayL (l.drop (halfN l.length)) (i - halfN l.length)).length ≤ 1000000 := by
          have := wayL_le (l.drop (halfN l.length)).length (l.drop (halfN l.length)) (i - halfN l.length) rfl
          have e : (l.drop (halfN l.length)).length ≤ l.length := by simp
          omega
        rw [wayL_hi h2 (by omega) hlt]
        generalize wayL (l.drop (halfN l.length)) (i - halfN l.length) = ws at *
        generalize rootL (l.take (halfN l.length)) = q at *
        generalize halfN l.length = k at *
        subst hn
        clear ih
        have dl : decide ((i : Int) < k) = false := decide_eq_false (by omega)
        have q1 : (0 : Int) ≤ (i : Int) - k := by omega
        have kl : k ≤ l.length := by omega
        have kc : ¬ c = k := by omega
        go_enter Tryd.func37, Tryd.ntmps37
        go_wp2_with (go_at_call 71; refine GS.out.mono ?_; rintro e w1 ⟨rfl, rfl⟩)
        refine wp_region_any (by kernel_rfl) ?_
        change wpAny _ _ _ _ _ _ _ (World.drew _)
        refine wpAny_take (i := 0) (v := .slice (some ⟨b, off, none⟩) l.length c) rfl (by kernel_rfl) (by kernel_rfl) (by kernel_rfl) (fun _ _ _ h => h) (Or.inl ⟨by rfl, fun W => by go_simp⟩) ?_
        refine wpAny_take (i := 1) (v := .int .i64 k) rfl (by kernel_rfl) (by kernel_rfl) (by kernel_rfl) (fun _ _ _ h => h) (Or.inl ⟨by rfl, fun W => by go_simp⟩) ?_
        refine wpAny_take (i := 2) (v := .slice (some ⟨b, off + k * 32, none⟩) (l.length - k) (c - k)) rfl (by kernel_rfl) (by kernel_rfl) (by kernel_rfl) (fun _ _ _ h => h) (Or.inl ⟨by rfl, fun W => by go_simp <;> first | (intro h; omega) | (rw [if_pos kl, if_neg kc])⟩) ?_
        go_simp
        refine wpAny_take (i := 3) (v := .int .i64 i) rfl (by kernel_rfl) (by kernel_rfl) (by kernel_rfl) (fun _ _ _ h => h) (Or.inl ⟨by rfl, fun W => by go_simp⟩) ?_
        refine wpAny_take (i := 4) (v := .int .i64 k) rfl (by kernel_rfl) (by kernel_rfl) (by kernel_rfl) (fun _ _ _ h => h) (Or.inl ⟨by rfl, fun W => by go_simp⟩) ?_
        refine wpAny_take (i := 5) (v := .int .i64 ((i : Int) - k)) rfl (by kernel_rfl) (by kernel_rfl) (by kernel_rfl) (fun _ _ _ h => h) (Or.inl ⟨by rfl, fun W => by go_simp; exact IntWalk.i64_in _ (by omega)⟩) ?_
        go_simp
        refine wpAny_take (i := 7) (v := .slice (some ⟨b, off, none⟩) l.length c) rfl (by kernel_rfl) (by kernel_rfl) (by kernel_rfl) (fun _ _ _ h => h) (Or.inl ⟨by rfl, fun W => by go_simp⟩) ?_
        refine wpAny_take (i := 8) (v := .int .i64 k) rfl (by kernel_rfl) (by kernel_rfl) (by kernel_rfl) (fun _ _ _ h => h) (Or.inl ⟨by rfl, fun W => by go_simp⟩) ?_
        refine wpAny_take (i := 9) (v := .slice (some ⟨b, off, none⟩) k c) rfl (by kernel_rfl) (by kernel_rfl) (by kernel_rfl) (fun _ _ _ h => h) (Or.inl ⟨by rfl, fun W => by go_simp <;> first | (intro h; omega) | (rw [if_pos kl, if_neg kc])⟩) ?_
        go_simp
        refine wpAny_ready (rs := [6]) (by kernel_rfl) (by simp) ?_
        refine AllReady.cons rfl (fun K hK => ?_) AllReady.nil
        go_simp
        go_at_call 37
        refine (G1.out _ B0).mono ?_
        rintro e w2 ⟨v2, rfl, own2, hb2⟩
        have B2 := B0.trans (hb2.mono B0.size)
        have own2 := own2.mono B0.size
        refine hK _ _ ?_
        clear hK K
        refine wpAny_ready (rs := [10]) (by kernel_rfl) (by simp) ?_
        refine AllReady.cons rfl (fun K hK => ?_) AllReady.nil
        go_simp
        go_at_call 30
        refine (G2.out _ B2).mono ?_
        rintro e w3 ⟨rfl, hb3⟩
        have B3 := B2.trans (hb3.mono B2.size)
        have own3 := own2.below hb3
        refine hK _ _ ?_
        clear hK K
        refine wpAny_ready (rs := [11]) (by kernel_rfl) (by simp) ?_
        refine AllReady.cons rfl (fun K hK => ?_) AllReady.nil
        refine step_build_dig rfl _ _ rfl elemR zeroR hq rfl ?_
        refine hK _ _ ?_
        clear hK K
        refine wpAny_ready (rs := [12]) (by kernel_rfl) (by simp) ?_
        refine AllReady.cons rfl (fun K hK => ?_) AllReady.nil
        refine step_append_dig rfl _ _ _ rfl elemR own3 rfl hq rfl hln B3.size ?_
        intro A4 c4 w4 own4 t4
        have B4 := B3.trans (own3.turned t4 B3.size)
        refine hK _ _ ?_
        clear hK K
        refine wpAny_ready (rs := [13]) (by kernel_rfl) (by simp) ?_
        refine AllReady.cons rfl (fun K hK => ?_) AllReady.nil
        go_simp
        refine hK _ _ ?_
        clear hK K
        refine wpAny_done (by kernel_rfl) ?_ _
        go_wp2_with fail
        go_ret
        exact ⟨_, rfl, own4, B4⟩
    · clear ih
      rw [wayL_one (by omega)]
      have h1 : l.length = 1 := by omega
      obtain ⟨d, rfl⟩ : ∃ d, l = [d] := by match l, h1 with | [d], _ => exact ⟨d, rfl⟩
      simp only [List.length_cons, List.length_nil, Nat.zero_add] at hc ⊢
      clear hn hr h2 h1 hsz hi
      have o0 := OwnD.empty (B := w.heap.size) w 24 (Nat.le_refl _)
      have on := OwnD.nil w w.heap.size 24
      have b0 := below_new (w := w) (.cells #[] 24)
      go_enter Tryd.func37, Tryd.ntmps37
      go_wp2_with fail
      go_ret
      exact ⟨_, rfl, o0, b0⟩
end Go.Proofs.YtdfgdchmeikigaaDoor.Mk
