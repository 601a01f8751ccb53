/-
  Layer 21, merkle: how many bits a number has; the greatest power of two that is less: contracts. Conditions: as each theorem names.
-/
import Derived.Test.YtdfgdchmeikigaaDoorMkS
import Derived.Test.YtdfgdchmeikigaaDoorRows
import Derived.Test.YtdfgdchmeikigaaDoorMem
import Derived.Lib.Walk
import Derived.Lib.BitFns
import Derived.Lib.ItoaNum
import Derived.LoopTactic
namespace Go.Proofs.YtdfgdchmeikigaaDoor.Mk
open Go.ChangeShapes Go.WideShapes Go.ChangeAt Go.RowKit Go.Proofs.YtdfgdchmeikigaaDoor.Kit

theorem ret_int {k : IntKind} {a b : Int} (h : a = b) : Ending.returned (.int k a) = .returned (.int k b) := by rw [h]

theorem len_all (x : Nat) (w : World) (hx : x < 18446744073709551616) : Calls Tryd.prog 93 #[.int .u64 x] w fun e w' => e = .returned (.int .i64 (Lib.bitLen x)) ∧ w = w' := by
  have G := Lib.hid (len64_all x w hx)
  have d2 : (x : Int) ≤ 18446744073709551615 := by omega
  clear hx
  go_enter Tryd.func93, Tryd.ntmps93
  go_wp2_with (go_at_call 100; refine G.out.mono ?_; rintro e w1 ⟨rfl, rfl⟩)
  go_ret
  exact ⟨rfl, rfl⟩

/-- The greatest power of two that is less. -/
def halfN (n : Nat) : Nat := 2 ^ (Lib.bitLen (n - 1) - 1)
theorem half_bd {n : Nat} (h : 2 ≤ n) (hn : n < 18446744073709551616) : 1 ≤ Lib.bitLen (n - 1) ∧ halfN n < n ∧ n ≤ 2 * halfN n ∧ 1 ≤ halfN n := by
  obtain ⟨a, b, c⟩ := Lib.bitLenAux_bounds 64 (n - 1) (by rw [show (2 : Nat) ^ 64 = 18446744073709551616 from rfl]; omega) (by omega)
  have e : Lib.bitLen (n - 1) = Lib.bitLenAux 64 (n - 1) := rfl
  unfold halfN
  rw [e]
  generalize Lib.bitLenAux 64 (n - 1) = L at *
  obtain ⟨k, rfl⟩ : ∃ k, L = k + 1 := ⟨L - 1, by omega⟩
  rw [Nat.add_sub_cancel] at b ⊢
  rw [Nat.pow_succ] at c
  have hp : 0 < 2 ^ k := Nat.pow_pos (by omega)
  omega
theorem half_of {n j : Nat} (h : 2 ≤ n) (hn : n < 18446744073709551616) (h1 : 2 ^ j < n) (h2 : n ≤ 2 * 2 ^ j) : halfN n = 2 ^ j := by
  obtain ⟨_, a, b, _⟩ := half_bd h hn
  unfold halfN at *
  generalize Lib.bitLen (n - 1) - 1 = k at *
  have e1 : k ≤ j := by
    rcases Nat.lt_or_ge j k with hlt | hge
    · have := Nat.pow_le_pow_right (n := 2) (by omega) (show j + 1 ≤ k from hlt)
      rw [Nat.pow_succ] at this
      omega
    · exact hge
  have e2 : j ≤ k := by
    rcases Nat.lt_or_ge k j with hlt | hge
    · have := Nat.pow_le_pow_right (n := 2) (by omega) (show k + 1 ≤ j from hlt)
      rw [Nat.pow_succ] at this
      omega
    · exact hge
  rw [Nat.le_antisymm e1 e2]

set_option maxRecDepth 100000 in
theorem split_any (n : Nat) (w : World) (h : 2 ≤ n) (hn : n ≤ 9223372036854775807) : Calls Tryd.prog 70 #[.int .i64 n] w fun e w' => e = .returned (.int .i64 (halfN n)) ∧ w = w' := by
  obtain ⟨a, b, c, d⟩ := half_bd h (by omega)
  have G := Lib.hid (len_all (n - 1) w (by omega))
  have hle : Lib.bitLen (n - 1) ≤ 63 := Lib.bitLen_le _ 63 (by omega) (by rw [show (2 : Nat) ^ 63 = 9223372036854775808 from rfl]; omega)
  obtain ⟨m, rfl⟩ : ∃ m, n = m + 1 := ⟨n - 1, by omega⟩
  rw [Nat.add_sub_cancel] at *
  have hh : halfN (m + 1) = 2 ^ (Lib.bitLen m - 1) := by unfold halfN; rw [Nat.add_sub_cancel]
  rw [hh] at b c d ⊢
  generalize Lib.bitLen m = L at *
  obtain ⟨k, rfl⟩ : ∃ k, L = k + 1 := ⟨L - 1, by omega⟩
  rw [Nat.add_sub_cancel] at b c d ⊢
  have hp : ((2 ^ k : Nat) : Int) ≤ 9223372036854775807 := by omega
  have hp0 : (1 : Int) ≤ ((2 ^ k : Nat) : Int) := by omega
  have Hp := Lib.hid hp
  clear hp hh b c d h a hp0
  go_enter Tryd.func70, Tryd.ntmps70
  go_wp2_with (go_at_call 93; refine G.out.mono ?_; rintro e w1 ⟨rfl, rfl⟩)
  go_ret
  refine ⟨ret_int ?_, rfl⟩
  have h1 := Hp.out
  have e : (2 : Int) ^ k = ((2 ^ k : Nat) : Int) := by rw [Int.natCast_pow]; rfl
  rw [e]
  generalize (2 : Nat) ^ k = q at h1 ⊢
  unfold wrap64
  omega

set_option maxRecDepth 100000 in
theorem rhalf_any (n : Nat) (w : World) (h : 2 ≤ n) (hn : n ≤ 9223372036854775807) : Calls Tryd.prog 71 #[.int .i64 n] w fun e w' => e = .returned (.int .i64 (halfN n)) ∧ w = w' := by
  have hB : n < 18446744073709551616 := by omega
  have HB := Lib.hid hB
  have hn2 : (n : Int) ≤ 9223372036854775807 := by omega
  clear hB hn
  go_enter Tryd.func71, Tryd.ntmps71
  go_wp2
  go_loop [3] (fun s => ∃ j k : Nat, k = 2 ^ j ∧ k < n ∧ s = .int .i64 k) (fun s => n - (intOf s).toNat)
  case atStart => exact ⟨0, 1, rfl, by omega, rfl⟩
  case round =>
    obtain ⟨j, k, hk, hlt, rfl⟩ := hrel
    have h0 : 0 < k := by rw [hk]; exact Nat.pow_pos (by omega)
    have Hk := Lib.hid hk
    clear hk
    by_cases hc : 2 * k < n
    · have d0 : decide ((k : Int) < (n : Int) - k) = true := decide_eq_true (by omega)
      have d1 : (k : Int) < (n : Int) - k := by omega
      go_wp2
      go_round
      case rel => exact ⟨j + 1, 2 * k, by rw [Nat.pow_succ, ← Hk.out]; omega, hc, by go_num⟩
      case measure => simp [intOf]; omega
    · have d0 : decide ((k : Int) < (n : Int) - k) = false := decide_eq_false (by omega)
      have d1 : ¬ (k : Int) < (n : Int) - k := by omega
      go_wp2
      go_ret
      exact ⟨ret_int (by rw [half_of h HB.out (j := j) (by rw [← Hk.out]; exact hlt) (by rw [← Hk.out]; omega), ← Hk.out]), rfl⟩
end Go.Proofs.YtdfgdchmeikigaaDoor.Mk
