/-
  Layer 16, plan: what bytes tell of a number: plain words. No program. No conditions beyond what each theorem names.
-/
import Derived.Test.YtjcofmeknpgjnaaPlN
import Derived.Laws.Bits128
namespace Go.Proofs.Ytjcofmeknpgjnaa.Pl
open Go.ChangeShapes Go.WideShapes Go.ChangeAt Go.RowKit Go.Proofs.Ytjcofmeknpgjnaa.Kit

/-- A number: at most so many more bytes, the next one's weight, the sum so far; it and what stands behind, or the error. -/
def numG : Nat → Int → Int → List Int → Except Int (Int × List Int)
  | 0, _, _, _ => .error 13
  | _ + 1, _, _, [] => .error 2
  | f + 1, p, n, c :: r => if c < 128 then (if c = 0 ∧ f < 4 then .error 13 else .ok (n + p * c, r)) else numG f (p * 128) (n + p * (c % 128)) r

theorem numG_rest : ∀ (f : Nat) (p n : Int) (l : List Int) (x : Int) (r : List Int), numG f p n l = .ok (x, r) → ∃ k, 1 ≤ k ∧ k ≤ f ∧ k ≤ l.length ∧ r = l.drop k
  | 0, _, _, _, _, _, h => by simp [numG] at h
  | _ + 1, _, _, [], _, _, h => by simp [numG] at h
  | f + 1, p, n, c :: l, x, r, h => by
    rw [numG] at h
    by_cases hc : c < 128
    · rw [if_pos hc] at h
      by_cases h0 : c = 0 ∧ f < 4
      · rw [if_pos h0] at h; cases h
      · rw [if_neg h0] at h
        injection h with h
        injection h with h1 h2
        exact ⟨1, by omega, by omega, by simp, by simp [h2]⟩
    · rw [if_neg hc] at h
      obtain ⟨k, h1, h2, h3, h4⟩ := numG_rest f _ _ l x r h
      exact ⟨k + 1, by omega, by omega, by simp; omega, by simp [h4]⟩

theorem numG_bd : ∀ (f : Nat) (p n : Int) (l : List Int) (x : Int) (r : List Int), 0 ≤ p → Octets l → numG f p n l = .ok (x, r) → n ≤ x ∧ x + p ≤ n + p * 128 ^ f
  | 0, _, _, _, _, _, _, _, h => by simp [numG] at h
  | _ + 1, _, _, [], _, _, _, _, h => by simp [numG] at h
  | f + 1, p, n, c :: l, x, r, hp, ho, h => by
    have hc0 : 0 ≤ c := (ho c (by simp)).1
    rw [numG] at h
    have hpow : (1 : Int) ≤ 128 ^ f := by
      have := Int.pow_pos (n := 128) (m := f) (by decide)
      omega
    have e1 : p * 128 ^ (f + 1) = p * 128 * 128 ^ f := by rw [Int.pow_succ, Int.mul_assoc, Int.mul_comm (128 ^ f)]
    by_cases hc : c < 128
    · rw [if_pos hc] at h
      by_cases h0 : c = 0 ∧ f < 4
      · rw [if_pos h0] at h; cases h
      · rw [if_neg h0] at h
        injection h with h
        injection h with h1 h2
        have q1 : 0 ≤ p * c := Int.mul_nonneg hp hc0
        have q2 : p * c ≤ p * 127 := Int.mul_le_mul_of_nonneg_left (by omega) hp
        have q3 : p * 128 * 1 ≤ p * 128 * 128 ^ f := Int.mul_le_mul_of_nonneg_left hpow (by omega)
        rw [e1]
        omega
    · rw [if_neg hc] at h
      have := numG_bd f _ _ l x r (by omega) (fun y hy => ho y (by simp [hy])) h
      have q1 : 0 ≤ p * (c % 128) := Int.mul_nonneg hp (by omega)
      have q2 : p * (c % 128) ≤ p * 127 := Int.mul_le_mul_of_nonneg_left (by omega) hp
      rw [e1]
      omega

/-- What was written is read. -/
theorem numG_of : ∀ (f g : Nat) (p n x : Int) (r : List Int), 0 ≤ x → x < 128 ^ f → f ≤ g + 1 → f ≤ 5 → 1 ≤ x ∨ f = 5 → numG f p n (numF g x ++ r) = .ok (n + p * x, r)
  | 0, _, _, _, x, _, h0, h1, _, _, h4 => by simp at h1; omega
  | f + 1, g, p, n, x, r, h0, h1, h2, h3, h4 => by
    by_cases hx : x < 128
    · have e : numF g x = [x] := by cases g <;> simp [numF, hx]
      rw [e, List.singleton_append, numG, if_pos hx, if_neg (by omega)]
    · cases g with
      | zero =>
        obtain rfl : f = 0 := by omega
        simp at h1
        omega
      | succ g =>
        have hd : x / 128 < 128 ^ f := by rw [Int.pow_succ] at h1; exact Int.ediv_lt_of_lt_mul (by omega) (by omega)
        have ih := numG_of f g (p * 128) (n + p * (x % 128)) (x / 128) r (by omega) hd (by omega) (by omega) (by omega)
        rw [numF, if_neg hx, List.cons_append, numG, if_neg (by omega), show (128 + x % 128) % 128 = x % 128 by omega, ih]
        have hx2 : x = x % 128 + 128 * (x / 128) := by omega
        congr 2
        have : p * x = p * (x % 128) + p * 128 * (x / 128) := by
          conv => lhs; rw [hx2]
          rw [Int.mul_add, Int.mul_assoc]
        omega

/-- What is read was written so. -/
theorem numG_is : ∀ (f g : Nat) (p n : Int) (l : List Int) (x : Int) (r : List Int), Octets l → f ≤ g + 1 → f ≤ 5 → numG f p n l = .ok (x, r) → ∃ y, x = n + p * y ∧ l = numF g y ++ r ∧ 0 ≤ y ∧ (f < 5 → 1 ≤ y)
  | 0, _, _, _, _, _, _, _, _, _, h => by simp [numG] at h
  | _ + 1, _, _, _, [], _, _, _, _, _, h => by simp [numG] at h
  | f + 1, g, p, n, c :: l, x, r, ho, hg, hf, h => by
    have hc0 := ho c (by simp)
    rw [numG] at h
    by_cases hc : c < 128
    · rw [if_pos hc] at h
      by_cases h0 : c = 0 ∧ f < 4
      · rw [if_pos h0] at h; cases h
      · rw [if_neg h0] at h
        injection h with h
        injection h with h1 h2
        have e : numF g c = [c] := by cases g <;> simp [numF, hc]
        exact ⟨c, h1.symm, by rw [e, h2]; rfl, hc0.1, by omega⟩
    · rw [if_neg hc] at h
      cases g with
      | zero =>
        obtain rfl : f = 0 := by omega
        simp [numG] at h
      | succ g =>
        obtain ⟨y, h1, h2, h3, h4⟩ := numG_is f g _ _ l x r (fun y hy => ho y (by simp [hy])) (by omega) (by omega) h
        have h5 := h4 (by omega)
        refine ⟨c % 128 + 128 * y, ?_, ?_, by omega, by omega⟩
        · rw [h1, Int.mul_add, Int.mul_assoc, Int.add_assoc]
        · rw [numF, if_neg (by omega), show 128 + (c % 128 + 128 * y) % 128 = c by omega, show (c % 128 + 128 * y) / 128 = y by omega, h2]
          rfl

/-- x | (c & 127) << 7i. -/
theorem or_seven (x c : Int) (i : Nat) (hi : i ≤ 4) (hx : 0 ≤ x ∧ x < 128 ^ i) : bits BinOp.or .i64 x (c % 128 * 128 ^ i) = x + 128 ^ i * (c % 128) := by
  have hw : ∀ n : Int, 0 ≤ n → n < 2 ^ 62 → IntKind.i64.wrap n = n := fun n h0 h1 => by rw [IntKind.wrap_i64]; omega
  have hcm : bits BinOp.or .i64 x (c % 128 * 128 ^ i) = bits BinOp.or .i64 (c % 128 * 128 ^ i) x := by simp only [bits, BitVec.or_comm]
  have hm : 0 ≤ c % 128 ∧ c % 128 ≤ 127 := by omega
  generalize c % 128 = y at *
  rw [hcm]
  match i, hi with
  | 0, _ => rw [bits_join .i64 62 (by decide) hw 0 _ x (by omega) (by omega) (by omega) hx.1 (by omega) (by omega)]; omega
  | 1, _ => rw [bits_join .i64 62 (by decide) hw 7 _ x (by omega) (by omega) (by omega) hx.1 (by omega) (by omega)]; omega
  | 2, _ => rw [bits_join .i64 62 (by decide) hw 14 _ x (by omega) (by omega) (by omega) hx.1 (by omega) (by omega)]; omega
  | 3, _ => rw [bits_join .i64 62 (by decide) hw 21 _ x (by omega) (by omega) (by omega) hx.1 (by omega) (by omega)]; omega
  | 4, _ => rw [bits_join .i64 62 (by decide) hw 28 _ x (by omega) (by omega) (by omega) hx.1 (by omega) (by omega)]; omega
end Go.Proofs.Ytjcofmeknpgjnaa.Pl
