/-
  Layer 2, octet: the plain arithmetic. No program. No conditions beyond what each theorem names.
-/
import Derived.Test.YtcppceonflkihaaKit
import Derived.Laws.BitsAllLaws
namespace Go.Proofs.Ytcppceonflkihaa.Oct
open Go.RowKit Go.Proofs.Ytcppceonflkihaa.Kit

def val (xs : List Int) : Int := xs.foldl (fun x c => x * 256 + c) 0

theorem val_snoc (l : List Int) (a : Int) : val (l ++ [a]) = val l * 256 + a := by simp [val]

theorem take_snoc (xs : List Int) (k : Nat) (h : k < xs.length) : xs.take (k + 1) = xs.take k ++ [xs[k]?.getD 0] := by
  rw [List.take_add_one]; simp [h]

theorem val_take (xs : List Int) (k : Nat) (h : k < xs.length) : val (xs.take (k + 1)) = val (xs.take k) * 256 + xs[k]?.getD 0 := by
  rw [take_snoc xs k h, val_snoc]

theorem val_bd (xs : List Int) (ho : Octets xs) : ∀ k, k ≤ xs.length → 0 ≤ val (xs.take k) ∧ val (xs.take k) < (256 : Int) ^ k
  | 0, _ => by simp [val]
  | k + 1, h => by
    have h1 := val_bd xs ho k (by omega)
    have h2 := ho.at_ k
    rw [val_take xs k (by omega), Int.pow_succ]
    omega

theorem pow_up (k : Nat) : ∀ d, 0 < (256 : Int) ^ k ∧ (256 : Int) ^ k ≤ 256 ^ (k + d)
  | 0 => by
    refine ⟨?_, Int.le_refl _⟩
    induction k with
    | zero => decide
    | succ k ih => rw [Int.pow_succ]; omega
  | d + 1 => by
    have := pow_up k d
    rw [← Nat.add_assoc, Int.pow_succ]
    omega

theorem val_lt (xs : List Int) (ho : Octets xs) (k : Nat) (hk : k ≤ xs.length) (h : k ≤ 7) : 0 ≤ val (xs.take k) ∧ val (xs.take k) < 72057594037927936 := by
  have h1 := val_bd xs ho k hk
  have h2 : (256 : Int) ^ k ≤ 256 ^ 7 := by
    have := (pow_up k (7 - k)).2
    rwa [show k + (7 - k) = 7 from by omega] at this
  have h3 : (256 : Int) ^ 7 = 72057594037927936 := by decide
  omega

theorem val_lt8 (xs : List Int) (ho : Octets xs) (k : Nat) (hk : k ≤ xs.length) (h : k ≤ 8) : 0 ≤ val (xs.take k) ∧ val (xs.take k) < 18446744073709551616 := by
  have h1 := val_bd xs ho k hk
  have h2 : (256 : Int) ^ k ≤ 256 ^ 8 := by
    have := (pow_up k (8 - k)).2
    rwa [show k + (8 - k) = 8 from by omega] at this
  have h3 : (256 : Int) ^ 8 = 18446744073709551616 := by decide
  omega

/-- x<<8 | c, in 64 bits. -/
theorem shl8_or (x c : Int) (hx : 0 ≤ x ∧ x < 72057594037927936) (hc : 0 ≤ c ∧ c ≤ 255) :
    bits BinOp.or IntKind.u64 (IntKind.u64.wrap (x * 256)) (IntKind.u64.wrap c) = x * 256 + c := by
  obtain ⟨X, rfl⟩ := Int.eq_ofNat_of_zero_le hx.1
  obtain ⟨C, rfl⟩ := Int.eq_ofNat_of_zero_le hc.1
  rw [IntWalk.u64_in _ (by omega), IntWalk.u64_in _ (by omega)]
  have h := u64_or_nat (X * 256) C (by omega) (by omega)
  rw [nat_join 8 (X * 256) C (by omega) (by omega)] at h
  simpa using h

/-- Byte i of a number, from the lowest on. -/
def byteAt (x : Int) (i : Nat) : Int := x / (2 : Int) ^ (8 * i) % 256
/-- n bytes of a number, the highest first. -/
def be (n : Nat) (x : Int) : List Int := (List.range n).map fun i => byteAt x (n - 1 - i)

theorem be_length (n : Nat) (x : Int) : (be n x).length = n := by simp [be]
theorem byteAt_bd (x : Int) (i : Nat) : 0 ≤ byteAt x i ∧ byteAt x i ≤ 255 := by unfold byteAt; omega
theorem be_octets (n : Nat) (x : Int) : Octets (be n x) := by
  intro z hz
  obtain ⟨i, _, rfl⟩ := List.mem_map.1 hz
  exact byteAt_bd _ _
theorem be_get (n : Nat) (x : Int) (j : Nat) (h : j < n) : (be n x)[j]?.getD 0 = byteAt x (n - 1 - j) := by simp [be, h]
theorem be_take (n : Nat) (x : Int) (j : Nat) (h : j < n) : (be n x).take (j + 1) = (be n x).take j ++ [byteAt x (n - 1 - j)] := by
  rw [take_snoc _ _ (by rw [be_length]; exact h), be_get n x j h]

/-- Digit i of bytes, by w bits each. -/
def dg (xs : List Int) (w i : Nat) : Int := xs[i / (8 / w)]?.getD 0 / (2 : Int) ^ (w * (8 / w - 1 - i % (8 / w))) % (2 : Int) ^ w

theorem i64_and_nat (a b : Nat) (ha : a < 9223372036854775808) (hb : b < 9223372036854775808) : bits .and .i64 (a : Int) (b : Int) = ((a &&& b : Nat) : Int) := by
  have hx : a &&& b < 2 ^ 63 := Nat.and_lt_two_pow a (by omega)
  show IntKind.i64.wrap ((BitVec.ofInt 64 (a : Int) &&& BitVec.ofInt 64 (b : Int)).toNat : Int) = _
  rw [BitVec.toNat_and, ofInt_u64 a (by omega), ofInt_u64 b (by omega)]
  exact IntWalk.i64_in _ (by omega)

theorem div_pow_nat (x d : Nat) : (x : Int) / (2 : Int) ^ d = ((x / 2 ^ d : Nat) : Int) := by
  rw [Int.natCast_ediv, Int.natCast_pow]; rfl

theorem mask1 (x : Int) (d : Nat) (hx : 0 ≤ x ∧ x ≤ 255) : bits .and .i64 (x / 2 ^ d) 1 = x / 2 ^ d % 2 := by
  obtain ⟨X, rfl⟩ := Int.eq_ofNat_of_zero_le hx.1
  have : X / 2 ^ d ≤ X := Nat.div_le_self _ _
  rw [div_pow_nat]
  have h := i64_and_nat (X / 2 ^ d) 1 (by omega) (by omega)
  rw [nat_mask1] at h
  exact h
theorem mask2 (x : Int) (d : Nat) (hx : 0 ≤ x ∧ x ≤ 255) : bits .and .i64 (x / 2 ^ d) 3 = x / 2 ^ d % 4 := by
  obtain ⟨X, rfl⟩ := Int.eq_ofNat_of_zero_le hx.1
  have : X / 2 ^ d ≤ X := Nat.div_le_self _ _
  rw [div_pow_nat]
  have h := i64_and_nat (X / 2 ^ d) 3 (by omega) (by omega)
  rw [nat_mask2] at h
  exact h
theorem mask4 (x : Int) (d : Nat) (hx : 0 ≤ x ∧ x ≤ 255) : bits .and .i64 (x / 2 ^ d) 15 = x / 2 ^ d % 16 := by
  obtain ⟨X, rfl⟩ := Int.eq_ofNat_of_zero_le hx.1
  have : X / 2 ^ d ≤ X := Nat.div_le_self _ _
  rw [div_pow_nat]
  have h := i64_and_nat (X / 2 ^ d) 15 (by omega) (by omega)
  rw [nat_mask4] at h
  exact h
theorem mask8 (x : Int) (hx : 0 ≤ x ∧ x ≤ 255) : bits .and .i64 x 255 = x := by
  obtain ⟨X, rfl⟩ := Int.eq_ofNat_of_zero_le hx.1
  have h := i64_and_nat X 255 (by omega) (by omega)
  rw [nat_mask8, Nat.mod_eq_of_lt (by omega)] at h
  exact h
end Go.Proofs.Ytcppceonflkihaa.Oct
