/-
  Layer 9, huff: a bit of Next's search: plain. No program. No conditions beyond what each theorem names.
-/
import Derived.Test.YtnmdjlnhocbhlaaHufP
namespace Go.Proofs.Ytnmdjlnhocbhlaa.Huf
open Go.RowKit Go.Proofs.Ytnmdjlnhocbhlaa.Kit Go.Proofs.Ytnmdjlnhocbhlaa.Bits

theorem val_one (b : Int) : val [b] = b := by simp [val]

/-- The next bit, and what it tells. -/
theorem bit_step {X : List Int} (hX : Bit X) {p k : Nat} (h : p + k < X.length) :
    ∃ b, 0 ≤ b ∧ b ≤ 1 ∧ (X.drop p).drop k = b :: (X.drop p).drop (k + 1) ∧ val ((X.drop (p + k)).take 1) = b ∧ mv ((X.drop p).take (k + 1)) = 2 * mv ((X.drop p).take k) + b := by
  have hb := hX _ (List.getElem_mem h)
  have hcons : X.drop (p + k) = X[p + k] :: X.drop (p + k + 1) := List.drop_eq_getElem_cons h
  refine ⟨X[p + k], hb.1, by omega, ?_, ?_, ?_⟩
  · rw [List.drop_drop, List.drop_drop, hcons]; rfl
  · rw [hcons]
    exact val_one _
  · have he : (X.drop p).take (k + 1) = (X.drop p).take k ++ [X[p + k]] := by
      rw [List.take_add_one, List.getElem?_drop, List.getElem?_eq_getElem h]
      rfl
    rw [he, mv_snoc]

theorem mv_small {X : List Int} (hX : Bit X) (p : Nat) {k : Nat} (hk : k ≤ 15) : 0 ≤ mv ((X.drop p).take k) ∧ mv ((X.drop p).take k) ≤ 32767 := by
  have h1 := mv_bd (p := (X.drop p).take k) (fun x hx => hX x (List.mem_of_mem_drop (List.mem_of_mem_take hx)))
  have h2 : ((X.drop p).take k).length ≤ 15 := Nat.le_trans (List.length_take_le _ _) hk
  have h3 : (2 : Int) ^ ((X.drop p).take k).length ≤ 2 ^ 15 := by
    have := Nat.pow_le_pow_right (n := 2) (by omega) h2
    have h4 := Int.ofNat_le.2 this
    rw [Int.natCast_pow, Int.natCast_pow] at h4
    exact h4
  rw [show (2 : Int) ^ 15 = 32768 by decide] at h3
  omega

theorem ahead_bd (l : List Int) (hs : (syms l 15).length ≤ 4500) (k : Nat) (hk : k ≤ 14) : 0 ≤ ahead l (k + 1) ∧ ahead l (k + 1) ≤ 4500 := by
  obtain ⟨t, ht⟩ := syms_prefix l k (15 - k)
  rw [show k + (15 - k) = 15 by omega] at ht
  have := congrArg List.length ht
  rw [List.length_append] at this
  unfold ahead
  rw [Nat.add_sub_cancel]
  omega

theorem fc_next (l : List Int) (k : Nat) : fc l (k + 1 + 1) = 2 * (fc l (k + 1) + cnt l ((k + 1 : Nat) : Int)) := by
  rw [fc, if_neg (by omega)]

theorem syms_mem {l : List Int} : ∀ {n : Nat} {x : Int}, x ∈ syms l n → 0 ≤ x ∧ x < l.length
  | 0, _, h => by simp [syms] at h
  | n + 1, x, h => by
    rw [syms] at h
    rcases List.mem_append.1 h with h | h
    · exact syms_mem h
    · unfold idx at h
      obtain ⟨j, hj, rfl⟩ := List.mem_map.1 h
      have := List.mem_range.1 (List.mem_filter.1 hj).1
      omega
theorem syms_bd (l : List Int) (hl : l.length ≤ 300) (i : Nat) : 0 ≤ (syms l 15)[i]?.getD 0 ∧ (syms l 15)[i]?.getD 0 ≤ 300 := by
  rcases Nat.lt_or_ge i (syms l 15).length with h | h
  · rw [List.getElem?_eq_getElem h]
    have := syms_mem (List.getElem_mem h)
    simp only [Option.getD_some]
    omega
  · rw [List.getElem?_eq_none h]
    simp
end Go.Proofs.Ytnmdjlnhocbhlaa.Huf
