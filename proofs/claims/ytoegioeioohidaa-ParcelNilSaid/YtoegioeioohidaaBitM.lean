/-
  Layer 8, bits: the plain arithmetic of lists of bits. No program. No conditions beyond what each theorem names.
-/
import Derived.Test.YtoegioeioohidaaKit
import Derived.Laws.BitsAllLaws
import Derived.Laws.Bits64b
namespace Go.Proofs.Ytoegioeioohidaa.Bits
open Go.RowKit Go.Proofs.Ytoegioeioohidaa.Kit

/-- What bits tell, the lowest first. -/
def val : List Int → Int
  | [] => 0
  | b :: l => b + 2 * val l
def Bit (l : List Int) : Prop := ∀ b ∈ l, 0 ≤ b ∧ b ≤ 1
/-- The lowest n bits of a number. -/
def num (x : Int) : Nat → List Int
  | 0 => []
  | n + 1 => x % 2 :: num (x / 2) n
/-- The first k bytes of bits. -/
def bytesOf : Nat → List Int → List Int
  | 0, _ => []
  | k + 1, l => val (l.take 8) :: bytesOf k (l.drop 8)
def bitsOf : List Int → List Int
  | [] => []
  | b :: l => num b 8 ++ bitsOf l
/-- Bits, and zeros up to a whole byte. -/
def pad (l : List Int) : List Int := l ++ List.replicate ((8 - l.length % 8) % 8) 0

theorem p2_pos (n : Nat) : (0 : Int) < 2 ^ n := Int.pow_pos (by omega)
theorem Bit.nil : Bit [] := fun _ h => by simp at h
theorem Bit.append {a b : List Int} (ha : Bit a) (hb : Bit b) : Bit (a ++ b) := fun x hx => (List.mem_append.1 hx).elim (ha x) (hb x)
theorem Bit.take {l : List Int} (h : Bit l) (n : Nat) : Bit (l.take n) := fun x hx => h x (List.mem_of_mem_take hx)
theorem Bit.drop {l : List Int} (h : Bit l) (n : Nat) : Bit (l.drop n) := fun x hx => h x (List.mem_of_mem_drop hx)
theorem Bit.zeros (n : Nat) : Bit (List.replicate n 0) := fun x hx => by rw [(List.mem_replicate.1 hx).2]; decide

theorem num_length : ∀ (n : Nat) (x : Int), (num x n).length = n
  | 0, _ => rfl
  | n + 1, x => by simp [num, num_length n]
theorem num_bit : ∀ (n : Nat) (x : Int), Bit (num x n)
  | 0, _ => Bit.nil
  | n + 1, x => fun b hb => by
    rcases List.mem_cons.1 hb with rfl | hb
    · omega
    · exact num_bit n _ b hb
theorem div_two_pow (x : Int) (n : Nat) : x / 2 / 2 ^ n = x / 2 ^ (n + 1) := by
  rw [Int.ediv_ediv_of_nonneg (by omega), Int.pow_succ, Int.mul_comm]
theorem num_snoc : ∀ (n : Nat) (x : Int), num x (n + 1) = num x n ++ [x / 2 ^ n % 2]
  | 0, x => by simp [num]
  | n + 1, x => by
    rw [num, num_snoc n (x / 2), div_two_pow]
    rfl
theorem num_get : ∀ (n : Nat) (x : Int) (i : Nat), i < n → (num x n)[i]? = some (x / 2 ^ i % 2)
  | n + 1, x, 0, _ => by simp [num]
  | n + 1, x, i + 1, h => by
    rw [num, List.getElem?_cons_succ, num_get n (x / 2) i (by omega), div_two_pow]
theorem num_append : ∀ (a b : Nat) (x : Int), num x (a + b) = num x a ++ num (x / 2 ^ a) b
  | 0, b, x => by simp [num]
  | a + 1, b, x => by
    rw [show a + 1 + b = (a + b) + 1 by omega, num, num_append a b, div_two_pow]
    rfl
theorem val_bd : ∀ {l : List Int}, Bit l → 0 ≤ val l ∧ val l < 2 ^ l.length
  | [], _ => by simp [val]
  | b :: l, h => by
    have h1 := val_bd (l := l) fun x hx => h x (List.mem_cons_of_mem _ hx)
    have h2 := h b (List.mem_cons_self ..)
    simp only [val, List.length_cons, Int.pow_succ]
    omega
theorem val_append : ∀ (a b : List Int), val (a ++ b) = val a + 2 ^ a.length * val b
  | [], b => by simp [val]
  | x :: a, b => by
    simp only [List.cons_append, val, val_append a b, List.length_cons, Int.pow_succ]
    rw [Int.mul_comm (2 ^ a.length) 2, Int.mul_assoc, Int.mul_add]
    omega
theorem val_zeros : ∀ n, val (List.replicate n 0) = 0
  | 0 => rfl
  | n + 1 => by simp [List.replicate_succ, val, val_zeros n]
theorem val_append_zeros (l : List Int) (n : Nat) : val (l ++ List.replicate n 0) = val l := by rw [val_append, val_zeros]; omega
theorem val_num : ∀ (n : Nat) (x : Int), val (num x n) = x % 2 ^ n
  | 0, x => by simp [num, val, Int.emod_one]
  | n + 1, x => by
    rw [num, val, val_num n (x / 2), Int.pow_succ, Int.mul_comm (2 ^ n) 2]
    have h1 := Int.mul_ediv_add_emod (x / 2) (2 ^ n)
    have h2 := Int.emod_nonneg (x / 2) (by have := p2_pos n; omega : (2 : Int) ^ n ≠ 0)
    have h3 := Int.emod_lt_of_pos (x / 2) (p2_pos n)
    have h4 : x = (x % 2 + 2 * (x / 2 % 2 ^ n)) + 2 * 2 ^ n * (x / 2 / 2 ^ n) := by
      rw [Int.mul_assoc]
      omega
    have h5 : x % (2 * 2 ^ n) = (x % 2 + 2 * (x / 2 % 2 ^ n)) % (2 * 2 ^ n) := by
      conv => lhs; rw [h4]
      exact Int.add_mul_emod_self_left ..
    rw [h5]
    exact (Int.emod_eq_of_lt (by omega) (by omega)).symm
theorem num_val : ∀ {l : List Int}, Bit l → num (val l) l.length = l
  | [], _ => rfl
  | b :: l, h => by
    have h2 := h b (List.mem_cons_self ..)
    have h3 := num_val (l := l) fun x hx => h x (List.mem_cons_of_mem _ hx)
    rw [List.length_cons, num, val, show (b + 2 * val l) % 2 = b by omega, show (b + 2 * val l) / 2 = val l by omega, h3]
theorem val_take_drop (l : List Int) (n : Nat) (h : n ≤ l.length) : val l = val (l.take n) + 2 ^ n * val (l.drop n) := by
  have := val_append (l.take n) (l.drop n)
  rwa [List.take_append_drop, List.length_take, Nat.min_eq_left h] at this
theorem val_mod {l : List Int} (hb : Bit l) (n : Nat) (h : n ≤ l.length) : val l % 2 ^ n = val (l.take n) ∧ val l / 2 ^ n = val (l.drop n) := by
  have h1 := val_bd (hb.take n)
  rw [List.length_take, Nat.min_eq_left h] at h1
  rw [val_take_drop l n h]
  exact ⟨by rw [Int.add_mul_emod_self_left, Int.emod_eq_of_lt h1.1 h1.2], by rw [Int.add_mul_ediv_left _ _ (by have := p2_pos n; omega), Int.ediv_eq_zero_of_lt h1.1 h1.2]; omega⟩
theorem val_mod_small {l : List Int} (hb : Bit l) (n : Nat) (h : l.length ≤ n) : val l % 2 ^ n = val l := by
  have h1 := val_bd hb
  have h2 : (2 : Int) ^ l.length ≤ 2 ^ n := by
    rw [show n = l.length + (n - l.length) by omega, Int.pow_add]
    have := p2_pos l.length
    have := p2_pos (n - l.length)
    calc (2 : Int) ^ l.length = 2 ^ l.length * 1 := by omega
      _ ≤ _ := Int.mul_le_mul_of_nonneg_left (by omega) (by omega)
  exact Int.emod_eq_of_lt h1.1 (by omega)

theorem bytesOf_length : ∀ (k : Nat) (l : List Int), (bytesOf k l).length = k
  | 0, _ => rfl
  | k + 1, l => by simp [bytesOf, bytesOf_length k]
theorem val8_bd {l : List Int} (h : Bit l) : 0 ≤ val (l.take 8) ∧ val (l.take 8) ≤ 255 := by
  have h1 := val_bd (h.take 8)
  have h2 : (2 : Int) ^ (l.take 8).length ≤ 256 := by
    have : (l.take 8).length ≤ 8 := List.length_take_le 8 l
    generalize (l.take 8).length = n at this
    match n, this with
    | 0, _ | 1, _ | 2, _ | 3, _ | 4, _ | 5, _ | 6, _ | 7, _ | 8, _ => decide
  omega
theorem bytesOf_octets : ∀ (k : Nat) {l : List Int}, Bit l → Octets (bytesOf k l)
  | 0, _, _ => fun _ h => by simp [bytesOf] at h
  | k + 1, l, h => fun x hx => by
    rcases List.mem_cons.1 hx with rfl | hx
    · exact val8_bd h
    · exact bytesOf_octets k (h.drop 8) x hx
theorem bytesOf_snoc : ∀ (k : Nat) (l : List Int), bytesOf (k + 1) l = bytesOf k l ++ [val ((l.drop (8 * k)).take 8)]
  | 0, l => by simp [bytesOf]
  | k + 1, l => by
    rw [bytesOf, bytesOf_snoc k (l.drop 8), List.drop_drop, bytesOf, show 8 + 8 * k = 8 * (k + 1) by omega]
    rfl
theorem bytesOf_left : ∀ (k : Nat) (a b : List Int), 8 * k ≤ a.length → bytesOf k (a ++ b) = bytesOf k a
  | 0, _, _, _ => rfl
  | k + 1, a, b, h => by
    rw [bytesOf, bytesOf, List.take_append_of_le_length (by omega), List.drop_append_of_le_length (by omega), bytesOf_left k (a.drop 8) b (by simp; omega)]
theorem bytesOf_zeros : ∀ (k : Nat) (l : List Int) (z : Nat), bytesOf k (l ++ List.replicate z 0) = bytesOf k l
  | 0, _, _ => rfl
  | k + 1, l, z => by
    have h1 : val ((l ++ List.replicate z 0).take 8) = val (l.take 8) := by
      rw [List.take_append, List.take_replicate, val_append_zeros]
    have h2 : (l ++ List.replicate z 0).drop 8 = l.drop 8 ++ List.replicate (z - (8 - l.length)) 0 := by
      rw [List.drop_append, List.drop_replicate]
    rw [bytesOf, h1, h2, bytesOf_zeros k (l.drop 8)]
    rfl
theorem bytesOf_bits : ∀ (b : List Int), Octets b → bytesOf b.length (bitsOf b) = b
  | [], _ => rfl
  | x :: b, h => by
    have hx := h x (List.mem_cons_self ..)
    rw [List.length_cons, bytesOf, bitsOf, List.take_append_of_le_length (by simp [num_length]), List.drop_append_of_le_length (by simp [num_length])]
    rw [List.take_of_length_le (by simp [num_length]), List.drop_eq_nil_of_le (by simp [num_length]), val_num, List.nil_append, bytesOf_bits b fun y hy => h y (List.mem_cons_of_mem _ hy)]
    rw [show (2 : Int) ^ 8 = 256 by decide]
    congr 1
    omega
theorem bytesOf_join : ∀ (k n : Nat) (a b : List Int), a.length = 8 * k → bytesOf (k + n) (a ++ b) = bytesOf k a ++ bytesOf n b
  | 0, n, a, b, h => by
    obtain rfl : a = [] := List.eq_nil_of_length_eq_zero (by omega)
    simp [bytesOf]
  | k + 1, n, a, b, h => by
    rw [show k + 1 + n = (k + n) + 1 by omega, bytesOf, bytesOf, List.take_append_of_le_length (by omega), List.drop_append_of_le_length (by omega), bytesOf_join k n (a.drop 8) b (by simp; omega)]
    rfl
theorem bitsOf_length : ∀ (b : List Int), (bitsOf b).length = 8 * b.length
  | [] => rfl
  | x :: b => by simp [bitsOf, num_length, bitsOf_length b]; omega
theorem bitsOf_bit : ∀ (b : List Int), Bit (bitsOf b)
  | [] => Bit.nil
  | x :: b => (num_bit 8 x).append (bitsOf_bit b)
theorem bitsOf_append : ∀ (a b : List Int), bitsOf (a ++ b) = bitsOf a ++ bitsOf b
  | [], _ => rfl
  | x :: a, b => by simp [bitsOf, bitsOf_append a b]
theorem bits_bytesOf : ∀ (k : Nat) {l : List Int}, Bit l → l.length = 8 * k → bitsOf (bytesOf k l) = l
  | 0, l, _, h => by
    obtain rfl : l = [] := List.eq_nil_of_length_eq_zero (by omega)
    rfl
  | k + 1, l, hb, h => by
    have hlen : (l.take 8).length = 8 := by simp; omega
    have h1 := num_val (hb.take 8)
    rw [hlen] at h1
    rw [bytesOf, bitsOf, h1, bits_bytesOf k (hb.drop 8) (by simp; omega), List.take_append_drop]
theorem pad_length (l : List Int) : (pad l).length = 8 * ((l.length + 7) / 8) := by simp [pad]; omega
theorem pad_bit {l : List Int} (h : Bit l) : Bit (pad l) := h.append (Bit.zeros _)
theorem bits_bytes_pad {l : List Int} (h : Bit l) : bitsOf (bytesOf ((l.length + 7) / 8) l) = pad l := by
  have h1 := bits_bytesOf ((l.length + 7) / 8) (pad_bit h) (pad_length l)
  rw [← h1, pad, bytesOf_zeros]

/-- One bit more, in the document's row of bytes: a new byte. -/
theorem bytes_new (l : List Int) (b : Int) (k : Nat) (h : l.length = 8 * k) : bytesOf (k + 1) (l ++ [b]) = bytesOf k l ++ [b] := by
  rw [bytesOf_join k 1 l [b] h]
  simp [bytesOf, val]
/-- One bit more, in the document's row of bytes: in the last one. -/
theorem bytes_more (l : List Int) (b : Int) (k j : Nat) (h : l.length = 8 * k + j) (hj : 0 < j ∧ j < 8) :
    bytesOf (k + 1) (l ++ [b]) = (bytesOf (k + 1) l).set k (val (l.drop (8 * k)) + b * 2 ^ j) ∧ (bytesOf (k + 1) l)[k]? = some (val (l.drop (8 * k))) := by
  have hd : (l.drop (8 * k)).length = j := by simp; omega
  have h1 : (l.drop (8 * k)).take 8 = l.drop (8 * k) := List.take_of_length_le (by omega)
  have h2 : ((l ++ [b]).drop (8 * k)).take 8 = l.drop (8 * k) ++ [b] := by
    rw [List.drop_append_of_le_length (by omega)]
    exact List.take_of_length_le (by simp; omega)
  have h3 : bytesOf k (l ++ [b]) = bytesOf k l := bytesOf_left k l [b] (by omega)
  rw [bytesOf_snoc, bytesOf_snoc, h1, h2, h3, val_append, hd]
  refine ⟨?_, ?_⟩
  · rw [List.set_append_right _ _ (by rw [bytesOf_length]; omega), bytesOf_length, Nat.sub_self, List.set_cons_zero]
    simp [val, Int.mul_comm]
  · rw [List.getElem?_append_right (by rw [bytesOf_length]; omega), bytesOf_length, Nat.sub_self]
    rfl

theorem p2_le {a b : Nat} (h : a ≤ b) : (2 : Int) ^ a ≤ 2 ^ b := by
  obtain ⟨c, rfl⟩ : ∃ c, b = a + c := ⟨b - a, by omega⟩
  rw [Int.pow_add]
  have h1 := p2_pos a
  have h2 := p2_pos c
  calc (2 : Int) ^ a = 2 ^ a * 1 := by omega
    _ ≤ _ := Int.mul_le_mul_of_nonneg_left (by omega) (by omega)

/-- x & (1<<n - 1), in 64 bits. -/
theorem and_low (x : Int) (N : Nat) (hx : 0 ≤ x ∧ x < 18446744073709551616) (hN : N ≤ 62) :
    bits BinOp.and IntKind.u64 x (IntKind.u64.wrap (IntKind.u64.wrap (2 ^ N) - 1)) = x % 2 ^ N := by
  have h1 := p2_pos N
  have h2 : (2 : Int) ^ N ≤ 2 ^ 62 := p2_le hN
  have h3 : (2 : Int) ^ 62 = 4611686018427387904 := by decide
  obtain ⟨X, rfl⟩ := Int.eq_ofNat_of_zero_le hx.1
  rw [IntWalk.u64_in ((2 : Int) ^ N) (by omega), IntWalk.u64_in ((2 : Int) ^ N - 1) (by omega)]
  have h4 : (2 : Int) ^ N - 1 = ((2 ^ N - 1 : Nat) : Int) := by
    have h5 : ((2 ^ N : Nat) : Int) = (2 : Int) ^ N := by simp
    have h6 := Nat.two_pow_pos N
    omega
  have h6 : 2 ^ N - 1 < 18446744073709551616 := by omega
  rw [h4, u64_and_nat X (2 ^ N - 1) (by omega) h6, Nat.and_two_pow_sub_one_eq_mod]
  simp

/-- r | y<<f, r below 2^f, in 64 bits. -/
theorem or_high (r y : Int) (f n : Nat) (hr : 0 ≤ r ∧ r < 2 ^ f) (hy : 0 ≤ y ∧ y < 2 ^ n) (h : f + n ≤ 62) :
    bits BinOp.or IntKind.u64 r (IntKind.u64.wrap (y * 2 ^ f)) = r + 2 ^ f * y := by
  have h1 := p2_pos f
  have h3 : (2 : Int) ^ 62 = 4611686018427387904 := by decide
  have h2 : (2 : Int) ^ (f + n) ≤ 2 ^ 62 := p2_le h
  have h4 : y * 2 ^ f < 2 ^ (f + n) := by
    rw [Int.pow_add, Int.mul_comm]
    exact Int.mul_lt_mul_of_pos_left hy.2 h1
  have h5 : 0 ≤ y * 2 ^ f := Int.mul_nonneg hy.1 (by omega)
  have h7 : (2 : Int) ^ f ≤ 2 ^ 62 := p2_le (by omega)
  obtain ⟨R, rfl⟩ := Int.eq_ofNat_of_zero_le hr.1
  obtain ⟨Y, rfl⟩ := Int.eq_ofNat_of_zero_le hy.1
  rw [IntWalk.u64_in _ (by omega)]
  have h6 : (Y : Int) * 2 ^ f = ((Y * 2 ^ f : Nat) : Int) := by simp
  have h8 : R < 2 ^ f := by
    have : (R : Int) < ((2 ^ f : Nat) : Int) := by simpa using hr.2
    omega
  rw [h6] at h4 h5 ⊢
  rw [u64_or_nat R (Y * 2 ^ f) (by omega) (by omega), Nat.or_comm, nat_join f _ _ (by simp) h8, Int.natCast_add, Int.mul_comm (2 ^ f), ← h6]
  omega

/-- What Put makes of the bits that make no byte yet. -/
theorem put_bits (l : List Int) (x : Int) (N : Nat) (hl : Bit l) (hf : l.length < 8) (hN : N ≤ 32) (hx : 0 ≤ x ∧ x < 4294967296) :
    bits BinOp.or IntKind.u64 (val l) (IntKind.u64.wrap (bits BinOp.and IntKind.u64 x (IntKind.u64.wrap (IntKind.u64.wrap (2 ^ N) - 1)) * 2 ^ l.length)) = val (l ++ num x N) := by
  rw [and_low x N (by omega) (by omega), or_high (val l) (x % 2 ^ N) l.length N (val_bd hl) ⟨Int.emod_nonneg _ (by have := p2_pos N; omega), Int.emod_lt_of_pos _ (p2_pos N)⟩ (by omega), val_append, val_num]
end Go.Proofs.Ytoegioeioohidaa.Bits
