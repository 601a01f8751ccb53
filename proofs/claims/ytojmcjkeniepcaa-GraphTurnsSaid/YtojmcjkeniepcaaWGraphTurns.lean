/-
  GraphTurns: the walk: any lists, turned round, or the error, are the document's; turned round twice they are as they were.
-/
import Derived.Test.YtojmcjkeniepcaaGrV
import Derived.Test.YtojmcjkeniepcaaGrF
namespace Go.Proofs.Ytojmcjkeniepcaa.GraphTurns
open Go.ChangeShapes Go.WideShapes Go.ChangeAt Go.RowKit Go.Proofs.Ytojmcjkeniepcaa.Kit Go.Proofs.Ytojmcjkeniepcaa.Gr

theorem few_of {rs : List Ri} {n : Nat} (h : ∀ l ∈ rowsL rs, l.length ≤ n) (hn : n ≤ 1000000) : Few rs := fun r hr => Nat.le_trans (h r.zs (List.mem_map.2 ⟨r, hr, rfl⟩)) hn
theorem turned_few (L : List (List Int)) : ∀ l ∈ turnedL L, l.length ≤ L.length := by
  intro l hl
  obtain ⟨k, _, rfl⟩ := List.mem_map.1 hl
  exact turnTo_length _ _ _

set_option maxRecDepth 100000 in
set_option maxHeartbeats 12800000 in
theorem walk (A : Option Addr) (rs : List Ri) (c : Nat) (w : World) (hl : rs.length ≤ c) (hm : c ≤ maxLen) (hr : HoldsI w w.heap.size A rs) :
    Calls Try.prog 5 #[.slice A rs.length c] w fun e w' => e = .returned (.bool true) ∧ Below w.heap.size w w' := by
  have GG := Lib.hid (great_any A rs c w hl hm hr)
  have GA := Lib.hid awake_any
  cases hg : greatI rs with
  | true =>
    rw [hg] at GG
    clear hr hg
    go_enter Try.func5, Try.ntmps5
    go_wp2_with (first
      | (go_at_call 20; refine GG.out.mono ?_; rintro e w1 ⟨rfl, rfl⟩)
      | (go_at_call 10; refine (GA.out _).mono ?_; rintro e w5 ⟨rfl, hb5⟩))
    go_ret
    exact ⟨rfl, hb5⟩
  | false =>
    rw [hg] at GG
    obtain ⟨hf1, hf2⟩ := greatI_no hg
    have hfew : Few rs := fun r hr => by have := hf2 r hr; omega
    have G1 := Lib.hid (gturned_any A rs c w hr)
    have G2 := Lib.hid (fun W (hb : Below w.heap.size w W) => right_any A rs c W hfew ((hr.below hb).more hb.size))
    by_cases hR : RightL (rowsL rs)
    case neg =>
      rw [decide_eq_false hR] at G2
      have HG : Hid (∀ e w', GTurned (rowsL rs) w e w' → GivesIE [] 3 w e w') := Lib.hid (fun e w' h => by unfold GTurned at h; rwa [if_neg hR] at h)
      clear hg hf1 hf2 hR hr
      go_enter Try.func5, Try.ntmps5
      go_wp2_with (first
        | (go_at_call 20; refine GG.out.mono ?_; rintro e w1 ⟨rfl, rfl⟩)
        | (go_at_call 18; refine G1.out.mono ?_; intro e w2 h2; obtain ⟨A2, c2, qs, rfl, k1, k2, k3, k4, hb2⟩ := HG.out _ _ h2; clear h2; obtain rfl : qs = [] := (by cases qs with | nil => rfl | cons q l => simp [rowsL] at k3); simp only [List.length_nil]; clear k1 k2 k3 k4)
        | (go_at_call 21; refine (G2.out _ hb2).mono ?_; rintro e w3 ⟨rfl, n3, rfl⟩; have hb3 := below_draws hb2 n3)
        | (go_at_call 10; refine (GA.out _).mono ?_; rintro e w5 ⟨rfl, hb5⟩))
      go_ret
      exact ⟨rfl, hb3.trans (hb5.mono hb3.size)⟩
    case pos =>
      rw [decide_eq_true hR] at G2
      have hT := right_turned hR
      have HG : Hid (∀ e w', GTurned (rowsL rs) w e w' → GivesIE (turnedL (rowsL rs)) 0 w e w') := Lib.hid (fun e w' h => by unfold GTurned at h; rwa [if_pos hR] at h)
      have HG2 : Hid (∀ W e w', GTurned (turnedL (rowsL rs)) W e w' → GivesIE (rowsL rs) 0 W e w') := Lib.hid (fun W e w' h => by unfold GTurned at h; rw [if_pos hT, turned_twice hR] at h; exact h)
      have G3 := Lib.hid (fun W (hb : Below w.heap.size w W) => rturned_any A rs c W (by omega) hfew ((hr.below hb).more hb.size))
      have HF : Hid (∀ qs : List Ri, rowsL qs = turnedL (rowsL rs) → Few qs ∧ qs.length ≤ 40) := Lib.hid (fun qs h => ⟨few_of (n := (rowsL rs).length) (by rw [h]; exact turned_few _) (by rw [rowsL_length]; omega), by have := congrArg List.length h; rw [turnedL_length, rowsL_length, rowsL_length] at this; omega⟩)
      have HF2 : Hid (∀ qs : List Ri, rowsL qs = rowsL rs → Few qs ∧ qs.length ≤ 40) := Lib.hid (fun qs h => ⟨few_of (n := 60) (by rw [h]; intro l hl; obtain ⟨r, hr, rfl⟩ := List.mem_map.1 hl; exact hf2 r hr) (by omega), by have := congrArg List.length h; rw [rowsL_length, rowsL_length] at this; omega⟩)
      have GS : Hid (∀ (A1 A2 : Option Addr) (a b : List Ri) (c1 c2 : Nat) (W : World), rowsL a = rowsL b → a.length ≤ 40 → b.length ≤ 40 → Few a → Few b → HoldsI W W.heap.size A1 a → HoldsI W W.heap.size A2 b → Calls Try.prog 17 #[.slice A1 a.length c1, .slice A2 b.length c2] W fun e w' => e = .returned (.bool true) ∧ ∃ n, w' = W.drewN n) := Lib.hid (fun A1 A2 a b c1 c2 W hab ha hb fa fb h1 h2 => by
        have := sameall_any A1 A2 a b c1 c2 W (by omega) (by omega) fa fb h1 h2
        rwa [decide_eq_true hab] at this)
      have HR0 : Hid (∀ W, Below w.heap.size w W → HoldsI W W.heap.size A rs) := Lib.hid (fun W hb => (hr.below hb).more hb.size)
      have hfw := Lib.hid hfew
      clear hg hf2 hR hr hT hfew
      go_enter Try.func5, Try.ntmps5
      go_wp2_with (first
        | (go_at_call 20; refine GG.out.mono ?_; rintro e w1 ⟨rfl, rfl⟩; have tok1 : True := trivial)
        | (have _t := tok1; go_at_call 18; refine G1.out.mono ?_; clear _t tok1; intro e w2 h2; obtain ⟨A2, c2, qs, rfl, k1, k2, k3, k4, hb2⟩ := HG.out _ _ h2; clear h2; have K3 := Lib.hid k3; obtain ⟨f3, f4⟩ := HF.out qs k3; clear k3)
        | (go_at_call 21; refine (G2.out _ hb2).mono ?_; rintro e w3 ⟨rfl, n3, rfl⟩; have hb3 := below_draws hb2 n3; have k5 := (k4.below (below_draws (Below.refl _ w2) n3)).more (Nat.le_refl _))
        | (have _t := k5; go_at_call 18; refine (gturned_any A2 qs c2 _ k5).mono ?_; clear _t; intro e w4 h4; rw [K3.out] at h4; obtain ⟨A4, c4, ps, rfl, l1, l2, l3, l4, hb4⟩ := HG2.out _ _ _ h4; clear h4; have L3 := Lib.hid l3; obtain ⟨f5, f6⟩ := HF2.out ps l3; clear l3; have hb4' := hb3.trans (hb4.mono hb3.size); have k6 := (k5.below hb4).more hb4.size)
        | (go_at_call 19; refine (G3.out _ hb4').mono ?_; rintro e w5 ⟨A5, c5, us, rfl, m1, m2, m3, m4, hb5⟩; have M3 := Lib.hid m3; obtain ⟨f7, f8⟩ := HF.out us m3; clear m3; have hb5' := hb4'.trans (hb5.mono hb4'.size); have k7 := (k6.below hb5).more hb5.size; have l5 := (l4.below hb5).more hb5.size; have tok2 : True := trivial)
        | (have _t := tok2; go_at_call 17; refine (GS.out A2 A5 qs us c2 c5 _ (by rw [K3.out, M3.out]) f4 f8 f3 f7 k7 m4).mono ?_; clear _t tok2; rintro e w6 ⟨rfl, n6, rfl⟩; have hb6 := below_draws hb5' n6; have l6 := (l5.below (below_draws (Below.refl _ w5) n6)).more (Nat.le_refl _); have h6 := HR0.out _ hb6)
        | (have _t := h6; go_at_call 17; refine (GS.out A4 A ps rs c4 c _ L3.out f6 (by omega) f5 hfw.out l6 h6).mono ?_; clear _t; rintro e w7 ⟨rfl, n7, rfl⟩; have hb7 := below_draws hb6 n7)
        | (go_at_call 10; refine (GA.out _).mono ?_; rintro e w8 ⟨rfl, hb8⟩))
      go_ret
      rw [World.drewN_drewN] at hb7
      exact ⟨rfl, hb7.trans (hb8.mono hb7.size)⟩
end Go.Proofs.Ytojmcjkeniepcaa.GraphTurns
