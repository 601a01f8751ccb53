/-
  Layer 17, blocks one behind the other: plain. Conditions: as each theorem names.
-/
import Derived.Test.YtlcnbepldkbkgaaMDlF
namespace Go.Proofs.Ytlcnbepldkbkgaa.Dl

theorem blocks_cover {n b : Int} (hn : 0 ≤ n) (hb : 1 ≤ b) : n ≤ blocksI n b * b ∧ (∀ i, i < blocksI n b - 1 → i * b + b ≤ n) := by
  have hd := div_bd hn hb
  obtain ⟨k1, k2, k3, k4, k5, k6⟩ := hd
  have e : blocksI n b = n / b + if 0 < n % b then 1 else 0 := if_neg (by omega)
  rw [e]
  constructor
  · rw [Int.add_mul, Int.mul_comm (n / b) b]
    generalize b * (n / b) = p at *
    split <;> omega
  · intro i hi
    have h1 : i ≤ n / b - 1 := by split at hi <;> omega
    have h2 : i * b ≤ (n / b - 1) * b := Int.mul_le_mul_of_nonneg_right h1 (by omega)
    rw [Int.sub_mul, Int.one_mul, Int.mul_comm (n / b) b] at h2
    generalize b * (n / b) = p at *
    omega
theorem blockL_zero {xs : List Int} {b : Int} : (blockL xs b 0).length = 0 ↔ (b < 1 ∨ xs.length = 0) := by
  unfold blockL
  by_cases hb : b < 1
  · have e : blocksI xs.length b = 0 := if_pos (.inr hb)
    rw [e]
    simp [hb]
  · have hc := blocks_cover (n := xs.length) (b := b) (by omega) (by omega)
    have hbd := blocksI_bd (n := xs.length) (b := b)
    by_cases h0 : xs.length = 0
    · have e : blocksI xs.length b = 0 := by
        rw [h0]
        simp [blocksI]
      rw [e]
      simp [h0]
    · have h1 : ¬ ((0 : Int) < 0 ∨ blocksI xs.length b ≤ 0) := by
        intro h
        have h2 : blocksI xs.length b ≤ 0 := by omega
        have h3 : blocksI xs.length b * b ≤ 0 * b := Int.mul_le_mul_of_nonneg_right h2 (by omega)
        rw [Int.zero_mul] at h3
        omega
      rw [if_neg h1, Int.zero_mul, List.length_take, List.length_drop]
      omega
theorem blockL_next {xs : List Int} {B j : Nat} (hB : 1 ≤ B) (hj : (j : Int) < blocksI xs.length B) :
    xs.take (j * B) ++ blockL xs B j = xs.take ((j + 1) * B) ∧ 1 ≤ (blockL xs B j).length ∧ (blockL xs B j).length ≤ B ∧ ((j : Int) < blocksI xs.length B - 1 → (blockL xs B j).length = B) := by
  have hi := begins_in (n := xs.length) (b := B) (i := j) (by omega) hj
  have hc := blocks_cover (n := xs.length) (b := B) (by omega) (by omega)
  have e : blockL xs B j = (xs.drop (j * B)).take B := by
    unfold blockL
    rw [if_neg (by omega), ← Int.natCast_mul, Int.toNat_natCast, Int.toNat_natCast]
  have hK : ((j * B : Nat) : Int) = (j : Int) * B := Int.natCast_mul j B
  rw [e]
  refine ⟨?_, ?_, ?_, fun h => ?_⟩
  · rw [Nat.add_mul, Nat.one_mul, List.take_add]
  · rw [List.length_take, List.length_drop]; omega
  · rw [List.length_take]; omega
  · have := hc.2 j h
    rw [List.length_take, List.length_drop]
    omega
theorem take_all {xs : List Int} {B N : Nat} (hB : 1 ≤ B) (hN : (N : Int) = blocksI xs.length B) : xs.take (N * B) = xs := by
  have hc := blocks_cover (n := xs.length) (b := B) (by omega) (by omega)
  have hK : ((N * B : Nat) : Int) = (N : Int) * B := Int.natCast_mul N B
  rw [← hN] at hc
  exact List.take_of_length_le (by omega)
end Go.Proofs.Ytlcnbepldkbkgaa.Dl
