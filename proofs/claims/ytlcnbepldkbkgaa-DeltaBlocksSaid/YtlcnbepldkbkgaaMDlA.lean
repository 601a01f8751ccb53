/-
  Layer 17, delta: how many blocks, and how long a plan's writing may be: both functions: contracts. Conditions: as each theorem names.
-/
import Derived.Test.YtlcnbepldkbkgaaMGDcks17
namespace Go.Proofs.Ytlcnbepldkbkgaa.Dl
open Go.ChangeShapes Go.WideShapes Go.ChangeAt Go.RowKit Go.Proofs.Ytlcnbepldkbkgaa.Kit

def In64 (x : Int) : Prop := -9223372036854775808 ≤ x ∧ x ≤ 9223372036854775807
def blocksI (n b : Int) : Int := if n < 0 ∨ b < 1 then 0 else n / b + if 0 < n % b then 1 else 0
theorem div_bd {n b : Int} (hn : 0 ≤ n) (hb : 1 ≤ b) : 0 ≤ n / b ∧ n / b ≤ n ∧ 0 ≤ n % b ∧ n % b < b ∧ (0 < n % b → n / b + 1 ≤ n) ∧ n = b * (n / b) + n % b := by
  have h1 := Int.emod_nonneg n (show b ≠ 0 by omega)
  have h2 := Int.emod_lt_of_pos n (show 0 < b by omega)
  have h3 := Int.mul_ediv_add_emod n b
  have h4 : 0 ≤ n / b := Int.ediv_nonneg hn (by omega)
  have h5 : n / b ≤ b * (n / b) := by
    have := Int.mul_le_mul_of_nonneg_right hb h4
    omega
  exact ⟨h4, by omega, h1, h2, fun h => by omega, h3.symm⟩
theorem blocksI_bd {n b : Int} (hn : In64 n) : 0 ≤ blocksI n b ∧ (blocksI n b ≤ n ∨ blocksI n b = 0) := by
  unfold blocksI
  by_cases h : n < 0 ∨ b < 1
  · rw [if_pos h]; omega
  · rw [if_neg h]
    have h2 := div_bd (n := n) (b := b) (by omega) (by omega)
    generalize n / b = q at *
    generalize n % b = r at *
    split <;> omega

set_option maxRecDepth 100000 in
theorem blocks_any (n b : Int) (hn : In64 n) (hb : In64 b) (w : World) : Calls Try.prog 7 #[.int .i64 n, .int .i64 b] w fun e w' => e = .returned (.int .i64 (blocksI n b)) ∧ w = w' := by
  unfold In64 at hn hb
  by_cases h0 : n < 0
  · have d0 : decide (n < 0) = true := decide_eq_true h0
    have e : blocksI n b = 0 := if_pos (.inl h0)
    rw [e]
    go_enter Try.func7, Try.ntmps7
    go_wp2
    go_ret
    exact ⟨rfl, rfl⟩
  have d0 : decide (n < 0) = false := decide_eq_false h0
  by_cases h1 : b < 1
  · have d1 : decide (b < 1) = true := decide_eq_true h1
    have e : blocksI n b = 0 := if_pos (.inr h1)
    rw [e]
    go_enter Try.func7, Try.ntmps7
    go_wp2
    go_ret
    exact ⟨rfl, rfl⟩
  have d1 : decide (b < 1) = false := decide_eq_false h1
  have e : blocksI n b = n / b + if 0 < n % b then 1 else 0 := if_neg (by omega)
  have hd := div_bd (n := n) (b := b) (by omega) (by omega)
  have hq : Int.tdiv n b = n / b := Int.tdiv_eq_ediv_of_nonneg (by omega)
  have hr : Int.tmod n b = n % b := Int.tmod_eq_emod_of_nonneg (by omega)
  have hz : (b == 0) = false := by rw [beq_eq_false_iff_ne]; omega
  have hz2 : ¬ b = 0 := by omega
  rw [e]
  clear e
  obtain ⟨k1, k2, k3, k4, k5, k6⟩ := hd
  clear k6
  generalize n / b = q at *
  generalize n % b = r at *
  have w1 : IntKind.i64.wrap q = q := IntWalk.i64_in _ (by omega)
  have w2 : IntKind.i64.wrap r = r := IntWalk.i64_in _ (by omega)
  by_cases h2 : 0 < r
  · have d2 : decide (0 < r) = true := decide_eq_true h2
    have w3 : IntKind.i64.wrap (q + 1) = q + 1 := IntWalk.i64_in _ (by have := k5 h2; omega)
    rw [if_pos h2]
    clear k5
    go_enter Try.func7, Try.ntmps7
    go_wp2
    go_ret
    exact ⟨rfl, rfl⟩
  · have d2 : decide (0 < r) = false := decide_eq_false h2
    rw [if_neg h2, Int.add_zero]
    clear k5
    go_enter Try.func7, Try.ntmps7
    go_wp2
    go_ret
    exact ⟨rfl, rfl⟩

set_option maxRecDepth 100000 in
theorem rblocks_any (n b : Int) (hn : In64 n) (hb : In64 b) (w : World) : Calls Try.prog 8 #[.int .i64 n, .int .i64 b] w fun e w' => e = .returned (.int .i64 (blocksI n b)) ∧ w = w' := by
  unfold In64 at hn hb
  by_cases h0 : n < 1
  · have d0 : decide (n < 1) = true := decide_eq_true h0
    have e : blocksI n b = 0 := by
      by_cases hx : n < 0 ∨ b < 1
      · exact if_pos hx
      · obtain rfl : n = 0 := by omega
        simp [blocksI]
    rw [e]
    go_enter Try.func8, Try.ntmps8
    go_wp2
    go_ret
    exact ⟨rfl, rfl⟩
  have d0 : decide (n < 1) = false := decide_eq_false h0
  by_cases h1 : b < 1
  · have d1 : decide (b < 1) = true := decide_eq_true h1
    have e : blocksI n b = 0 := if_pos (.inr h1)
    rw [e]
    go_enter Try.func8, Try.ntmps8
    go_wp2
    go_ret
    exact ⟨rfl, rfl⟩
  have d1 : decide (b < 1) = false := decide_eq_false h1
  have e : blocksI n b = n / b + if 0 < n % b then 1 else 0 := if_neg (by omega)
  have hd := div_bd (n := n) (b := b) (by omega) (by omega)
  have hq : Int.tdiv n b = n / b := Int.tdiv_eq_ediv_of_nonneg (by omega)
  have hr : Int.tmod n b = n % b := Int.tmod_eq_emod_of_nonneg (by omega)
  have hz : (b == 0) = false := by rw [beq_eq_false_iff_ne]; omega
  have hz2 : ¬ b = 0 := by omega
  rw [e]
  clear e
  obtain ⟨k1, k2, k3, k4, k5, k6⟩ := hd
  clear k6
  generalize n / b = q at *
  generalize n % b = r at *
  have w1 : IntKind.i64.wrap q = q := IntWalk.i64_in _ (by omega)
  have w2 : IntKind.i64.wrap r = r := IntWalk.i64_in _ (by omega)
  by_cases h2 : 0 < r
  · have d2 : decide (0 < r) = true := decide_eq_true h2
    have w3 : IntKind.i64.wrap (q + 1) = q + 1 := IntWalk.i64_in _ (by have := k5 h2; omega)
    rw [if_pos h2]
    clear k5
    go_enter Try.func8, Try.ntmps8
    go_wp2
    go_ret
    exact ⟨rfl, rfl⟩
  · have d2 : decide (0 < r) = false := decide_eq_false h2
    rw [if_neg h2, Int.add_zero]
    clear k5
    go_enter Try.func8, Try.ntmps8
    go_wp2
    go_ret
    exact ⟨rfl, rfl⟩

def isBlkB (b : Int) : Bool := decide (128 ≤ b) && decide (b ≤ 4096)
theorem isBlock_any (b : Int) (w : World) : Calls Try.prog 17 #[.int .i64 b] w fun e w' => e = .returned (.bool (isBlkB b)) ∧ w = w' := by
  by_cases h0 : 128 ≤ b
  · have d0 : decide (128 ≤ b) = true := decide_eq_true h0
    by_cases h1 : b ≤ 4096
    · have d1 : decide (b ≤ 4096) = true := decide_eq_true h1
      have e : isBlkB b = true := by unfold isBlkB; rw [d0, d1]; rfl
      rw [e]
      go_enter Try.func17, Try.ntmps17
      go_wp2
      go_ret
      exact ⟨rfl, rfl⟩
    · have d1 : decide (b ≤ 4096) = false := decide_eq_false h1
      have e : isBlkB b = false := by unfold isBlkB; rw [d0, d1]; rfl
      rw [e]
      go_enter Try.func17, Try.ntmps17
      go_wp2
      go_ret
      exact ⟨rfl, rfl⟩
  · have d0 : decide (128 ≤ b) = false := decide_eq_false h0
    have e : isBlkB b = false := by unfold isBlkB; rw [d0]; rfl
    rw [e]
    go_enter Try.func17, Try.ntmps17
    go_wp2
    go_ret
    exact ⟨rfl, rfl⟩
def mostI (b : Int) : Int := if isBlkB b = true then b + 12 else 0
theorem most_any (b : Int) (w : World) : Calls Try.prog 13 #[.int .i64 b] w fun e w' => e = .returned (.int .i64 (mostI b)) ∧ w = w' := by
  have GB := Lib.hid (fun W => isBlock_any b W)
  obtain ⟨t, ht⟩ : ∃ t, isBlkB b = t := ⟨_, rfl⟩
  cases t with
  | true =>
    have e : mostI b = b + 12 := if_pos ht
    have hb : 128 ≤ b ∧ b ≤ 4096 := by simpa [isBlkB] using ht
    rw [e]
    rw [ht] at GB
    clear ht e
    go_enter Try.func13, Try.ntmps13
    go_wp2_with (go_at_call 17; (with_reducible refine (GB.out _).mono ?_); rintro e w1 ⟨rfl, rfl⟩)
    go_ret
    exact ⟨rfl, rfl⟩
  | false =>
    have e : mostI b = 0 := if_neg (by rw [ht]; decide)
    rw [e]
    rw [ht] at GB
    clear ht e
    go_enter Try.func13, Try.ntmps13
    go_wp2_with (go_at_call 17; (with_reducible refine (GB.out _).mono ?_); rintro e w1 ⟨rfl, rfl⟩)
    go_ret
    exact ⟨rfl, rfl⟩
end Go.Proofs.Ytlcnbepldkbkgaa.Dl
