/-
  Layer 8, bits: the plain arithmetic of reading. No program. No conditions beyond what each theorem names.
-/
import Derived.Test.YtoegioeioohidaaBitM
namespace Go.Proofs.Ytoegioeioohidaa.Bits
open Go.RowKit Go.Proofs.Ytoegioeioohidaa.Kit

theorem bitsOf_drop : ∀ (i : Nat) (bs : List Int), (bitsOf bs).drop (8 * i) = bitsOf (bs.drop i)
  | 0, _ => by simp
  | i + 1, [] => by simp [bitsOf]
  | i + 1, b :: bs => by
    rw [bitsOf, List.drop_succ_cons, ← bitsOf_drop i bs, show 8 * (i + 1) = (num b 8).length + 8 * i by rw [num_length]; omega, List.drop_append, List.drop_eq_nil_of_le (by omega), Nat.add_sub_cancel_left, List.nil_append]
theorem bitsOf_take : ∀ (i : Nat) (bs : List Int), (bitsOf bs).take (8 * i) = bitsOf (bs.take i)
  | 0, _ => by simp [bitsOf]
  | i + 1, [] => by simp [bitsOf]
  | i + 1, b :: bs => by
    rw [bitsOf, List.take_succ_cons, bitsOf, ← bitsOf_take i bs, show 8 * (i + 1) = (num b 8).length + 8 * i by rw [num_length]; omega, List.take_append, List.take_of_length_le (by omega), Nat.add_sub_cancel_left]
theorem val_num8 (b : Int) (hb : 0 ≤ b ∧ b ≤ 255) : val (num b 8) = b := by
  rw [val_num, show (2 : Int) ^ 8 = 256 by decide]
  omega
theorem val_bits_snoc (bs : List Int) (b : Int) (hb : 0 ≤ b ∧ b ≤ 255) : val (bitsOf (bs ++ [b])) = val (bitsOf bs) + 2 ^ (8 * bs.length) * b := by
  rw [bitsOf_append, val_append, bitsOf_length, bitsOf, bitsOf, List.append_nil, val_num8 b hb]
/-- What the bytes from the one on that a bit lies in tell of n bits from that bit on. -/
theorem read_val (bs : List Int) (at_ n : Nat) (hn : n ≤ 32) (h : at_ + n ≤ 8 * bs.length) :
    val (bitsOf ((bs.drop (at_ / 8)).take 5)) / 2 ^ (at_ % 8) % 2 ^ n = val (((bitsOf bs).drop at_).take n) := by
  rw [← bitsOf_take, ← bitsOf_drop]
  have hb : Bit (((bitsOf bs).drop (8 * (at_ / 8))).take (8 * 5)) := ((bitsOf_bit bs).drop _).take _
  have hl : (((bitsOf bs).drop (8 * (at_ / 8))).take (8 * 5)).length = min 40 (8 * bs.length - 8 * (at_ / 8)) := by simp [bitsOf_length]
  rw [(val_mod hb (at_ % 8) (by rw [hl]; omega)).2, (val_mod (hb.drop (at_ % 8)) n (by rw [List.length_drop, hl]; omega)).1]
  congr 1
  apply List.ext_getElem?
  intro i
  rcases Nat.lt_or_ge i n with hi | hi
  · rw [List.getElem?_take_of_lt hi, List.getElem?_take_of_lt hi, List.getElem?_drop, List.getElem?_take_of_lt (by omega), List.getElem?_drop, List.getElem?_drop]
    congr 1
    omega
  · rw [List.getElem?_eq_none (by simp; omega), List.getElem?_eq_none (by simp; omega)]
end Go.Proofs.Ytoegioeioohidaa.Bits
