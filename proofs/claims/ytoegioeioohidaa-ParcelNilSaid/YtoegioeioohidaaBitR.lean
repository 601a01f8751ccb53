/-
  Layer 8, bits: math/bits' Reverse32. Conditions: none.
-/
import Derived.Test.YtoegioeioohidaaBitP
namespace Go.Proofs.Ytoegioeioohidaa.Bits
open Go.ChangeShapes Go.WideShapes Go.ChangeAt Go.RowKit Go.Proofs.Ytoegioeioohidaa.Kit

/-- Every s bits change places, as the mask m says. -/
def sw (m k x : Int) : Int := bits BinOp.or IntKind.u32 (bits BinOp.and IntKind.u32 (x / k) m) (bits BinOp.and IntKind.u32 x m * k % 4294967296)
def swN (m s x : Nat) : Nat := (x / 2 ^ s &&& m) ||| ((x &&& m) * 2 ^ s % 2 ^ 32)

theorem swN_lt (m s x : Nat) (hm : m < 2 ^ 32) : swN m s x < 2 ^ 32 := Nat.or_lt_two_pow (Nat.and_lt_two_pow _ hm) (Nat.mod_lt _ (by decide))

theorem sw_nat (m s x : Nat) (hm : m < 2 ^ 32) (hx : x < 2 ^ 32) : sw m (2 ^ s : Nat) x = (swN m s x : Nat) := by
  have h1 : x / 2 ^ s < 2 ^ 32 := Nat.lt_of_le_of_lt (Nat.div_le_self _ _) hx
  have h2 : x / 2 ^ s &&& m < 2 ^ 32 := Nat.and_lt_two_pow _ hm
  have h3 : (x &&& m) * 2 ^ s % 2 ^ 32 < 2 ^ 32 := Nat.mod_lt _ (by decide)
  unfold sw swN
  rw [← Int.natCast_ediv, u32_and_nat _ _ (by simpa using h1) (by simpa using hm), u32_and_nat _ _ (by simpa using hx) (by simpa using hm)]
  rw [show (((x &&& m : Nat) : Int) * ((2 ^ s : Nat) : Int)) % 4294967296 = (((x &&& m) * 2 ^ s % 2 ^ 32 : Nat) : Int) by rw [Int.natCast_emod, Int.natCast_mul]; rfl]
  exact u32_or_nat _ _ (by simpa using h2) (by simpa using h3)

theorem swN_bit (m s x i : Nat) : (swN m s x).testBit i = ((x.testBit (i + s) && m.testBit i) || (decide (i < 32) && (decide (s ≤ i) && (x.testBit (i - s) && m.testBit (i - s))))) := by
  unfold swN
  rw [Nat.testBit_or, Nat.testBit_and, Nat.testBit_div_two_pow, Nat.testBit_mod_two_pow, Nat.testBit_mul_two_pow, Nat.testBit_and]

def revN (x : Nat) : Nat := swN 65535 16 (swN 16711935 8 (swN 252645135 4 (swN 858993459 2 (swN 1431655765 1 x))))

theorem revN_bit (x i : Nat) (hi : i < 32) : (revN x).testBit i = x.testBit (31 - i) := by
  unfold revN
  simp only [swN_bit]
  have h : i = 0 ∨ i = 1 ∨ i = 2 ∨ i = 3 ∨ i = 4 ∨ i = 5 ∨ i = 6 ∨ i = 7 ∨ i = 8 ∨ i = 9 ∨ i = 10 ∨ i = 11 ∨ i = 12 ∨ i = 13 ∨ i = 14 ∨ i = 15 ∨ i = 16 ∨ i = 17 ∨ i = 18 ∨ i = 19 ∨ i = 20 ∨ i = 21 ∨ i = 22 ∨ i = 23 ∨ i = 24 ∨ i = 25 ∨ i = 26 ∨ i = 27 ∨ i = 28 ∨ i = 29 ∨ i = 30 ∨ i = 31 := by omega
  rcases h with rfl | rfl | rfl | rfl | rfl | rfl | rfl | rfl | rfl | rfl | rfl | rfl | rfl | rfl | rfl | rfl | rfl | rfl | rfl | rfl | rfl | rfl | rfl | rfl | rfl | rfl | rfl | rfl | rfl | rfl | rfl | rfl <;> simp [Nat.testBit]

def rev (x : Int) : Int := (revN x.toNat : Nat)

theorem rev_bd (x : Int) : 0 ≤ rev x ∧ rev x < 4294967296 := by
  have h := swN_lt 65535 16 (swN 16711935 8 (swN 252645135 4 (swN 858993459 2 (swN 1431655765 1 x.toNat)))) (by decide)
  unfold rev revN
  omega

theorem last_sw (y : Nat) (hy : y < 2 ^ 32) : bits BinOp.or IntKind.u32 ((y : Int) / 65536) ((y : Int) * 65536 % 4294967296) = (swN 65535 16 y : Nat) := by
  have h1 : y / 65536 < 65536 := by omega
  have h2 : y / 2 ^ 16 &&& 65535 = y / 65536 := by
    have := Nat.and_two_pow_sub_one_eq_mod (y / 2 ^ 16) 16
    rw [show 2 ^ 16 - 1 = 65535 by decide] at this
    rw [this, show 2 ^ 16 = 65536 by decide, Nat.mod_eq_of_lt h1]
  have h3 : (y &&& 65535) * 2 ^ 16 % 2 ^ 32 = y * 65536 % 4294967296 := by
    have := Nat.and_two_pow_sub_one_eq_mod y 16
    rw [show 2 ^ 16 - 1 = 65535 by decide] at this
    rw [this, show 2 ^ 16 = 65536 by decide, show 2 ^ 32 = 4294967296 by decide]
    omega
  unfold swN
  rw [h2, h3, show (y : Int) / 65536 = ((y / 65536 : Nat) : Int) by omega, show (y : Int) * 65536 % 4294967296 = ((y * 65536 % 4294967296 : Nat) : Int) by omega]
  exact u32_or_nat _ _ (by omega) (by omega)

def revb (x : Int) : Int := bits BinOp.or IntKind.u32 (sw 16711935 256 x / 65536) (sw 16711935 256 x * 65536 % 4294967296)

theorem revb_nat (x : Nat) (hx : x < 2 ^ 32) : revb x = (swN 65535 16 (swN 16711935 8 x) : Nat) := by
  have h := sw_nat 16711935 8 x (by decide) hx
  rw [show ((2 ^ 8 : Nat) : Int) = 256 by decide, show ((16711935 : Nat) : Int) = 16711935 by decide] at h
  unfold revb
  rw [h]
  exact last_sw _ (swN_lt _ _ _ (by decide))

theorem rev_eq (x : Int) (hx : 0 ≤ x ∧ x < 4294967296) : revb (sw 252645135 16 (sw 858993459 4 (sw 1431655765 2 x))) = rev x := by
  obtain ⟨X, rfl⟩ := Int.eq_ofNat_of_zero_le hx.1
  have h1 := sw_nat 1431655765 1 X (by decide) (by omega)
  have h2 := sw_nat 858993459 2 _ (by decide) (swN_lt 1431655765 1 X (by decide))
  have h3 := sw_nat 252645135 4 _ (by decide) (swN_lt 858993459 2 (swN 1431655765 1 X) (by decide))
  rw [show ((2 ^ 1 : Nat) : Int) = 2 by decide, show ((1431655765 : Nat) : Int) = 1431655765 by decide] at h1
  rw [show ((2 ^ 2 : Nat) : Int) = 4 by decide, show ((858993459 : Nat) : Int) = 858993459 by decide] at h2
  rw [show ((2 ^ 4 : Nat) : Int) = 16 by decide, show ((252645135 : Nat) : Int) = 252645135 by decide] at h3
  rw [h1, h2, h3, revb_nat _ (swN_lt _ _ _ (by decide))]
  rfl

theorem bit_of (x i : Nat) : (x : Int) / 2 ^ i % 2 = if x.testBit i then 1 else 0 := by
  rw [Nat.testBit_eq_decide_div_mod_eq]
  have h : (x : Int) / 2 ^ i % 2 = ((x / 2 ^ i % 2 : Nat) : Int) := by simp
  rw [h]
  rcases Nat.mod_two_eq_zero_or_one (x / 2 ^ i) with h | h <;> simp [h]

/-- The lowest n bits, turned round: the highest n of the number turned round. -/
theorem num_rev (x : Int) (n : Nat) (hx : 0 ≤ x ∧ x < 4294967296) (hn : n ≤ 32) : num (rev x / 2 ^ (32 - n)) n = (num x n).reverse := by
  obtain ⟨X, rfl⟩ := Int.eq_ofNat_of_zero_le hx.1
  apply List.ext_getElem?
  intro i
  rcases Nat.lt_or_ge i n with h | h
  · rw [num_get n _ i h, List.getElem?_reverse (by rw [num_length]; exact h), num_length, num_get n _ (n - 1 - i) (by omega)]
    rw [Int.ediv_ediv_of_nonneg (by have := p2_pos (32 - n); omega), ← Int.pow_add, bit_of]
    unfold rev
    rw [bit_of, Int.toNat_natCast, revN_bit X _ (by omega), show 31 - (32 - n + i) = n - 1 - i by omega]
  · rw [List.getElem?_eq_none (by rw [num_length]; exact h), List.getElem?_eq_none (by rw [List.length_reverse, num_length]; exact h)]

end Go.Proofs.Ytoegioeioohidaa.Bits
