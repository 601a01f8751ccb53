/-
  Layer 21, merkle: how many sums a way has: contracts. Conditions: as each theorem names.
-/
import Derived.Test.YtdfgdchmeikigaaDoorMkL
namespace Go.Proofs.YtdfgdchmeikigaaDoor.Mk
open Go.ChangeShapes Go.WideShapes Go.ChangeAt Go.RowKit Go.Proofs.YtdfgdchmeikigaaDoor.Kit

/-- How many sums the way of leaf i of n has. -/
def stepsN (i n : Nat) : Nat :=
  if h : 2 ≤ n ∧ n < 18446744073709551616 then
    have := half_bd h.1 h.2
    if i < halfN n then 1 + stepsN i (halfN n) else 1 + stepsN (i - halfN n) (n - halfN n)
  else 0
termination_by n
decreasing_by
  · omega
  · omega
theorem stepsN_one (i : Nat) {n : Nat} (h : n < 2) : stepsN i n = 0 := by rw [stepsN, dif_neg (by omega)]
theorem stepsN_lo {i n : Nat} (h : 2 ≤ n) (hn : n < 18446744073709551616) (hi : i < halfN n) : stepsN i n = 1 + stepsN i (halfN n) := by rw [stepsN, dif_pos ⟨h, hn⟩, if_pos hi]
theorem stepsN_hi {i n : Nat} (h : 2 ≤ n) (hn : n < 18446744073709551616) (hi : ¬ i < halfN n) : stepsN i n = 1 + stepsN (i - halfN n) (n - halfN n) := by rw [stepsN, dif_pos ⟨h, hn⟩, if_neg hi]
theorem stepsN_lt (n : Nat) : ∀ i, stepsN i n ≤ n := by
  induction n using Nat.strongRecOn with
  | ind n ih =>
    intro i
    by_cases h : 2 ≤ n ∧ n < 18446744073709551616
    · obtain ⟨_, a, b, c⟩ := half_bd h.1 h.2
      by_cases hi : i < halfN n
      · rw [stepsN_lo h.1 h.2 hi]
        have := ih _ a i
        omega
      · rw [stepsN_hi h.1 h.2 hi]
        have := ih (n - halfN n) (by omega) (i - halfN n)
        omega
    · rw [stepsN, dif_neg h]; omega

/-- What 'Steps' answers. -/
def stepsZ (i n : Int) : Int := if i < 0 ∨ n ≤ i then -1 else stepsN i.toNat n.toNat

set_option maxRecDepth 100000 in
set_option maxHeartbeats 1600000 in
theorem steps_any (i n : Int) (w : World) (hn : n ≤ 9223372036854775807) : Calls Tryd.prog 34 #[.int .i64 i, .int .i64 n] w fun e w' => e = .returned (.int .i64 (stepsZ i n)) ∧ w = w' := by
  by_cases h0 : i < 0
  · have e : stepsZ i n = -1 := by unfold stepsZ; rw [if_pos (.inl h0)]
    rw [e]
    have d0 : decide (i < 0) = true := decide_eq_true h0
    go_enter Tryd.func34, Tryd.ntmps34
    go_wp2_with fail
    go_ret
    exact ⟨rfl, rfl⟩
  by_cases h1 : n ≤ i
  · have e : stepsZ i n = -1 := by unfold stepsZ; rw [if_pos (.inr h1)]
    rw [e]
    have d0 : decide (i < 0) = false := decide_eq_false h0
    have d1 : decide (n ≤ i) = true := decide_eq_true h1
    go_enter Tryd.func34, Tryd.ntmps34
    go_wp2_with fail
    go_ret
    exact ⟨rfl, rfl⟩
  obtain ⟨I, rfl⟩ := Int.eq_ofNat_of_zero_le (show 0 ≤ i by omega)
  obtain ⟨N, rfl⟩ := Int.eq_ofNat_of_zero_le (show 0 ≤ n by omega)
  have e : stepsZ I N = stepsN I N := by unfold stepsZ; rw [if_neg (by omega), Int.toNat_natCast, Int.toNat_natCast]
  rw [e]
  have d0 : decide ((I : Int) < 0) = false := decide_eq_false h0
  have d1 : decide (N ≤ I) = false := decide_eq_false (by omega)
  have hS := Lib.hid (stepsN_lt N I)
  have hI : I < N := by omega
  have hN : N ≤ 9223372036854775807 := by omega
  clear e h0 h1
  go_enter Tryd.func34, Tryd.ntmps34
  go_wp2_with fail
  go_loop [0, 1, 5] (fun a b s => ∃ i n k : Nat, a = .int .i64 i ∧ b = .int .i64 n ∧ s = .int .i64 k ∧ i < n ∧ n ≤ N ∧ k + stepsN i n = stepsN I N) (fun _ b _ => (intOf b).toNat)
  case atStart => exact ⟨I, N, 0, rfl, rfl, rfl, hI, Nat.le_refl _, by omega⟩
  case round =>
    obtain ⟨i, n, k, rfl, rfl, rfl, hi, hle, hk⟩ := hrel
    have hSo := hS.out
    have hkb : k ≤ N := by omega
    by_cases h2 : 2 ≤ n
    · obtain ⟨_, k1, k2, k3⟩ := half_bd h2 (by omega)
      have GS := Lib.hid (split_any n w h2 (by omega))
      have dg : decide ((1 : Int) < n) = true := decide_eq_true (by omega)
      by_cases hlt : i < halfN n
      · have HK := Lib.hid (show (k + 1) + stepsN i (halfN n) = stepsN I N by rw [← hk, stepsN_lo h2 (by omega) hlt]; omega)
        generalize halfN n = q at *
        have dl : decide ((i : Int) < q) = true := decide_eq_true (by omega)
        have hk1 : (k : Int) + 1 ≤ 9223372036854775807 := by have := HK.out; omega
        clear hk hSo
        go_wp2_with (go_at_call 70; refine GS.out.mono ?_; rintro e w1 ⟨rfl, rfl⟩)
        go_round
        case rel => exact ⟨i, q, k + 1, rfl, rfl, by go_num, hlt, by omega, HK.out⟩
        case measure => simp [intOf] <;> omega
      · have HK := Lib.hid (show (k + 1) + stepsN (i - halfN n) (n - halfN n) = stepsN I N by rw [← hk, stepsN_hi h2 (by omega) hlt]; omega)
        generalize halfN n = q at *
        have dl : decide ((i : Int) < q) = false := decide_eq_false (by omega)
        have e1 : (i : Int) - q = ((i - q : Nat) : Int) := by omega
        have e2 : (n : Int) - q = ((n - q : Nat) : Int) := by omega
        have E1 := Lib.hid e1
        have E2 := Lib.hid e2
        have q1 : (0 : Int) ≤ (i : Int) - q := by omega
        have q2 : (0 : Int) ≤ (n : Int) - q := by omega
        have hk1 : (k : Int) + 1 ≤ 9223372036854775807 := by have := HK.out; omega
        clear hk hSo e1 e2
        go_wp2_with (go_at_call 70; refine GS.out.mono ?_; rintro e w1 ⟨rfl, rfl⟩)
        go_round
        case rel => exact ⟨i - q, n - q, k + 1, by rw [E1.out], by rw [E2.out], by go_num, by omega, by omega, HK.out⟩
        case measure => simp [intOf] <;> omega
    · obtain rfl : n = 1 := by omega
      obtain rfl : i = 0 := by omega
      rw [stepsN_one 0 (by omega), Nat.add_zero] at hk
      have dg : decide ((1 : Int) < ((1 : Nat) : Int)) = false := decide_eq_false (by omega)
      have HK := Lib.hid hk
      clear hk
      go_wp2_with fail
      go_ret
      exact ⟨by rw [← HK.out]; rfl, rfl⟩

set_option maxRecDepth 100000 in
set_option maxHeartbeats 1600000 in
theorem rsteps_any (n : Nat) : ∀ (i : Nat) (w : World), n ≤ 9223372036854775807 → i < n → Calls Tryd.prog 38 #[.int .i64 i, .int .i64 n] w fun e w' => e = .returned (.int .i64 (stepsN i n)) ∧ w = w' := by
  induction n using Nat.strongRecOn with
  | ind n ih =>
    intro i w hn hi
    by_cases h2 : 2 ≤ n
    · obtain ⟨_, k1, k2, k3⟩ := half_bd h2 (by omega)
      have GS := Lib.hid (rhalf_any n w h2 hn)
      have dg : decide ((n : Int) = 1) = false := decide_eq_false (by omega)
      by_cases hlt : i < halfN n
      · have GI := Lib.hid (ih (halfN n) k1 i w (by omega) hlt)
        have hb := stepsN_lt (halfN n) i
        rw [stepsN_lo h2 (by omega) hlt]
        generalize stepsN i (halfN n) = s at *
        generalize halfN n = q at *
        have dl : decide ((i : Int) < q) = true := decide_eq_true (by omega)
        clear ih
        go_enter Tryd.func38, Tryd.ntmps38
        go_wp2_with (first
          | (go_at_call 71; refine GS.out.mono ?_; rintro e w1 ⟨rfl, rfl⟩)
          | (go_at_call 38; refine GI.out.mono ?_; rintro e w1 ⟨rfl, rfl⟩))
        go_ret
        exact ⟨ret_int (by omega), rfl⟩
      · have GI := Lib.hid (ih (n - halfN n) (by omega) (i - halfN n) w (by omega) (by omega))
        have hb := stepsN_lt (n - halfN n) (i - halfN n)
        rw [stepsN_hi h2 (by omega) hlt]
        generalize stepsN (i - halfN n) (n - halfN n) = s at *
        generalize halfN n = q at *
        have dl : decide ((i : Int) < q) = false := decide_eq_false (by omega)
        rw [show ((i - q : Nat) : Int) = (i : Int) - q by omega, show ((n - q : Nat) : Int) = (n : Int) - q by omega] at GI
        have q1 : (0 : Int) ≤ (i : Int) - q := by omega
        have q2 : (0 : Int) ≤ (n : Int) - q := by omega
        clear ih
        go_enter Tryd.func38, Tryd.ntmps38
        go_wp2_with (first
          | (go_at_call 71; refine GS.out.mono ?_; rintro e w1 ⟨rfl, rfl⟩)
          | (go_at_call 38; refine GI.out.mono ?_; rintro e w1 ⟨rfl, rfl⟩))
        go_ret
        exact ⟨ret_int (by omega), rfl⟩
    · obtain rfl : n = 1 := by omega
      rw [stepsN_one i (by omega)]
      have dg : decide (((1 : Nat) : Int) = 1) = true := by decide
      clear ih
      go_enter Tryd.func38, Tryd.ntmps38
      go_wp2_with fail
      go_ret
      exact ⟨rfl, rfl⟩
end Go.Proofs.YtdfgdchmeikigaaDoor.Mk
