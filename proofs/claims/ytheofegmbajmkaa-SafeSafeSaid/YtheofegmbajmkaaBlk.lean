/-
  How many blocks there are: delta.Blocks and the document's, one answer. Conditions: as each theorem names.
-/
import Derived.Test.YtheofegmbajmkaaRows
import Derived.Test.YtheofegmbajmkaaMem
import Derived.LoopTactic
namespace Go.Proofs.Ytheofegmbajmkaa.Blk
open Go.ChangeShapes Go.WideShapes Go.ChangeAt Go.RowKit Go.Proofs.Ytheofegmbajmkaa.Kit

def blocks (n b : Int) : Int := if n < 1 ∨ b < 1 then 0 else n / b + if 0 < n % b then 1 else 0

/-- The quotient, as the walk wants it. -/
theorem quot_bd (n b : Int) (hn : 1 ≤ n) (hb : 1 ≤ b) : 0 ≤ n / b ∧ n / b ≤ n ∧ 0 ≤ n % b ∧ n % b ≤ n ∧ (0 < n % b → n / b + 1 ≤ n) := by
  have h1 := Int.mul_ediv_add_emod n b
  have h2 := Int.emod_nonneg n (show b ≠ 0 by omega)
  have h3 : 0 ≤ n / b := Int.ediv_nonneg (by omega) (by omega)
  have h4 : 1 * (n / b) ≤ b * (n / b) := Int.mul_le_mul_of_nonneg_right hb h3
  have h5 : n % b < b := Int.emod_lt_of_pos n (by omega)
  refine ⟨h3, by omega, h2, by omega, fun h => by omega⟩

theorem blocks_bd (n b : Int) : 0 ≤ blocks n b ∧ (1 ≤ n → blocks n b ≤ n) ∧ (n < 1 → blocks n b = 0) ∧ (b < 1 → blocks n b = 0) := by
  unfold blocks
  by_cases h0 : n < 1
  · rw [if_pos (.inl h0)]; exact ⟨by omega, by omega, fun _ => rfl, fun _ => rfl⟩
  · by_cases h1 : b < 1
    · rw [if_pos (.inr h1)]; exact ⟨by omega, by omega, fun _ => rfl, fun _ => rfl⟩
    · rw [if_neg (by omega)]
      obtain ⟨a1, a2, a3, a4, a5⟩ := quot_bd n b (by omega) (by omega)
      by_cases h2 : 0 < n % b
      · rw [if_pos h2]; have := a5 h2; exact ⟨by omega, by omega, by omega, by omega⟩
      · rw [if_neg h2]; exact ⟨by omega, by omega, by omega, by omega⟩

set_option maxHeartbeats 800000 in
theorem blocks_any (n b : Int) (w : World) (hn : -9223372036854775808 ≤ n ∧ n ≤ 9223372036854775807) : Calls Try.prog 26 #[.int .i64 n, .int .i64 b] w fun e w' => e = .returned (.int .i64 (blocks n b)) ∧ w = w' := by
  unfold blocks
  by_cases h1 : b < 1
  · rw [if_pos (.inr h1)]
    by_cases h0 : n < 0 <;> (go_enter Try.func26, Try.ntmps26; go_wp2; go_ret; exact ⟨rfl, rfl⟩)
  · by_cases h0 : n < 0
    · rw [if_pos (.inl (by omega))]
      go_enter Try.func26, Try.ntmps26
      go_wp2
      go_ret
      exact ⟨rfl, rfl⟩
    · by_cases hz : n = 0
      · subst hz
        rw [if_pos (.inl (by omega))]
        have h2 : (0 : Int) / b = 0 := Int.zero_ediv b
        have h3 : (0 : Int) % b = 0 := Int.zero_emod b
        go_enter Try.func26, Try.ntmps26
        go_wp2
        go_ret
        exact ⟨rfl, rfl⟩
      · rw [if_neg (by omega)]
        obtain ⟨a1, a2, a3, a4, a5⟩ := quot_bd n b (by omega) (by omega)
        by_cases h2 : 0 < n % b
        · have a6 := a5 h2
          rw [if_pos h2]
          clear a5
          go_enter Try.func26, Try.ntmps26
          go_wp2
          go_ret
          exact ⟨rfl, rfl⟩
        · rw [if_neg h2, Int.add_zero]
          clear a5
          go_enter Try.func26, Try.ntmps26
          go_wp2
          go_ret
          exact ⟨rfl, rfl⟩

set_option maxHeartbeats 800000 in
theorem rblocks_any (n b : Int) (w : World) (hn : -9223372036854775808 ≤ n ∧ n ≤ 9223372036854775807) : Calls Try.prog 23 #[.int .i64 n, .int .i64 b] w fun e w' => e = .returned (.int .i64 (blocks n b)) ∧ w = w' := by
  unfold blocks
  by_cases h0 : n < 1
  · rw [if_pos (.inl h0)]
    go_enter Try.func23, Try.ntmps23
    go_wp2
    go_ret
    exact ⟨rfl, rfl⟩
  · by_cases h1 : b < 1
    · rw [if_pos (.inr h1)]
      go_enter Try.func23, Try.ntmps23
      go_wp2
      go_ret
      exact ⟨rfl, rfl⟩
    · rw [if_neg (by omega)]
      obtain ⟨a1, a2, a3, a4, a5⟩ := quot_bd n b (by omega) (by omega)
      by_cases h2 : 0 < n % b
      · have a6 := a5 h2
        rw [if_pos h2]
        clear a5
        go_enter Try.func23, Try.ntmps23
        go_wp2
        go_ret
        exact ⟨rfl, rfl⟩
      · rw [if_neg h2, Int.add_zero]
        clear a5
        go_enter Try.func23, Try.ntmps23
        go_wp2
        go_ret
        exact ⟨rfl, rfl⟩
end Go.Proofs.Ytheofegmbajmkaa.Blk
