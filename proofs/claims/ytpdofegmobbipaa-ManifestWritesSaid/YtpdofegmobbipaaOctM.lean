/-
  Layer 2, octet: the plain arithmetic. No program. No conditions beyond what each theorem names.
-/
import Derived.Test.YtpdofegmobbipaaKit
import Derived.Laws.BitsAllLaws
namespace Go.Proofs.Ytpdofegmobbipaa.Oct
open Go.RowKit Go.Proofs.Ytpdofegmobbipaa.Kit

def val (xs : List Int) : Int := xs.foldl (fun x c => x * 256 + c) 0

theorem val_snoc (l : List Int) (a : Int) : val (l ++ [a]) = val l * 256 + a := by simp [val]

theorem take_snoc (xs : List Int) (k : Nat) (h : k < xs.length) : xs.take (k + 1) = xs.take k ++ [xs[k]?.getD 0] := by
  rw [List.take_add_one]; simp [h]

theorem val_take (xs : List Int) (k : Nat) (h : k < xs.length) : val (xs.take (k + 1)) = val (xs.take k) * 256 + xs[k]?.getD 0 := by
  rw [take_snoc xs k h, val_snoc]

theorem val_bd (xs : List Int) (ho : Octets xs) : ∀ k, k ≤ xs.length → 0 ≤ val (xs.take k) ∧ val (xs.take k) < (256 : Int) ^ k
  | 0, _ => by simp [val]
  | k + 1, h => by
    have h1 := val_bd xs ho k (by omega)
    have h2 := ho.at_ k
    rw [val_take xs k (by omega), Int.pow_succ]
    omega

theorem pow_up (k : Nat) : ∀ d, 0 < (256 : Int) ^ k ∧ (256 : Int) ^ k ≤ 256 ^ (k + d)
  | 0 => by
    refine ⟨?_, Int.le_refl _⟩
    induction k with
    | zero => decide
    | succ k ih => rw [Int.pow_succ]; omega
  | d + 1 => by
    have := pow_up k d
    rw [← Nat.add_assoc, Int.pow_succ]
    omega

theorem val_lt (xs : List Int) (ho : Octets xs) (k : Nat) (hk : k ≤ xs.length) (h : k ≤ 7) : 0 ≤ val (xs.take k) ∧ val (xs.take k) < 72057594037927936 := by
  have h1 := val_bd xs ho k hk
  have h2 : (256 : Int) ^ k ≤ 256 ^ 7 := by
    have := (pow_up k (7 - k)).2
    rwa [show k + (7 - k) = 7 from by omega] at this
  have h3 : (256 : Int) ^ 7 = 72057594037927936 := by decide
  omega

theorem val_lt8 (xs : List Int) (ho : Octets xs) (k : Nat) (hk : k ≤ xs.length) (h : k ≤ 8) : 0 ≤ val (xs.take k) ∧ val (xs.take k) < 18446744073709551616 := by
  have h1 := val_bd xs ho k hk
  have h2 : (256 : Int) ^ k ≤ 256 ^ 8 := by
    have := (pow_up k (8 - k)).2
    rwa [show k + (8 - k) = 8 from by omega] at this
  have h3 : (256 : Int) ^ 8 = 18446744073709551616 := by decide
  omega

/-- x<<8 | c, in 64 bits. -/
theorem shl8_or (x c : Int) (hx : 0 ≤ x ∧ x < 72057594037927936) (hc : 0 ≤ c ∧ c ≤ 255) :
    bits BinOp.or IntKind.u64 (IntKind.u64.wrap (x * 256)) (IntKind.u64.wrap c) = x * 256 + c := by
  obtain ⟨X, rfl⟩ := Int.eq_ofNat_of_zero_le hx.1
  obtain ⟨C, rfl⟩ := Int.eq_ofNat_of_zero_le hc.1
  rw [IntWalk.u64_in _ (by omega), IntWalk.u64_in _ (by omega)]
  have h := u64_or_nat (X * 256) C (by omega) (by omega)
  rw [nat_join 8 (X * 256) C (by omega) (by omega)] at h
  simpa using h

/-- Byte i of a number, from the lowest on. -/
def byteAt (x : Int) (i : Nat) : Int := x / (2 : Int) ^ (8 * i) % 256
/-- n bytes of a number, the highest first. -/
def be (n : Nat) (x : Int) : List Int := (List.range n).map fun i => byteAt x (n - 1 - i)

theorem be_length (n : Nat) (x : Int) : (be n x).length = n := by simp [be]
theorem byteAt_bd (x : Int) (i : Nat) : 0 ≤ byteAt x i ∧ byteAt x i ≤ 255 := by unfold byteAt; omega
theorem be_octets (n : Nat) (x : Int) : Octets (be n x) := by
  intro z hz
  obtain ⟨i, _, rfl⟩ := List.mem_map.1 hz
  exact byteAt_bd _ _
theorem be_get (n : Nat) (x : Int) (j : Nat) (h : j < n) : (be n x)[j]?.getD 0 = byteAt x (n - 1 - j) := by simp [be, h]
theorem be_take (n : Nat) (x : Int) (j : Nat) (h : j < n) : (be n x).take (j + 1) = (be n x).take j ++ [byteAt x (n - 1 - j)] := by
  rw [take_snoc _ _ (by rw [be_length]; exact h), be_get n x j h]

theorem be_succ (n : Nat) (x : Int) : be (n + 1) x = be n (x / 256) ++ [x % 256] := by
  unfold be
  rw [List.range_succ, List.map_append]
  congr 1
  · apply List.map_congr_left
    intro i hi
    have hi := List.mem_range.1 hi
    unfold byteAt
    rw [show n + 1 - 1 - i = (n - 1 - i) + 1 by omega, show 8 * (n - 1 - i + 1) = 8 + 8 * (n - 1 - i) by omega, Int.pow_add]
    rw [show (2 : Int) ^ 8 = 256 by decide, Int.ediv_ediv_of_nonneg (by omega)]
  · simp [byteAt]

theorem emod_256_mul (x M : Int) (hM : 0 < M) : x % (256 * M) = 256 * (x / 256 % M) + x % 256 := by
  have h1 := Int.mul_ediv_add_emod (x / 256) M
  have h2 := Int.emod_nonneg (x / 256) (by omega : M ≠ 0)
  have h3 := Int.emod_lt_of_pos (x / 256) hM
  have h4 : x = (256 * (x / 256 % M) + x % 256) + 256 * M * (x / 256 / M) := by
    have : 256 * M * (x / 256 / M) = 256 * (M * (x / 256 / M)) := Int.mul_assoc _ _ _
    rw [this]
    omega
  generalize x / 256 % M = s at *
  generalize x / 256 / M = q at *
  rw [h4, Int.add_mul_emod_self_left, Int.emod_eq_of_lt (by omega) (by omega)]
  omega

theorem val_be : ∀ (n : Nat) (x : Int), val (be n x) = x % (256 : Int) ^ n
  | 0, x => by simp [be, val]
  | n + 1, x => by
    have h256 : (0 : Int) < 256 ^ n := (pow_up n 0).1
    rw [be_succ, val_snoc, val_be n (x / 256), Int.pow_succ, Int.mul_comm ((256 : Int) ^ n) 256, emod_256_mul x _ h256]
    omega

theorem val_be8 (x : Int) (hx : 0 ≤ x ∧ x < 18446744073709551616) : val (be 8 x) = x := by
  rw [val_be 8 x, show (256 : Int) ^ 8 = 18446744073709551616 by decide]
  omega

/-- Digit i of bytes, by w bits each. -/
def dg (xs : List Int) (w i : Nat) : Int := xs[i / (8 / w)]?.getD 0 / (2 : Int) ^ (w * (8 / w - 1 - i % (8 / w))) % (2 : Int) ^ w

theorem i64_and_nat (a b : Nat) (ha : a < 9223372036854775808) (hb : b < 9223372036854775808) : bits .and .i64 (a : Int) (b : Int) = ((a &&& b : Nat) : Int) := by
  have hx : a &&& b < 2 ^ 63 := Nat.and_lt_two_pow a (by omega)
  show IntKind.i64.wrap ((BitVec.ofInt 64 (a : Int) &&& BitVec.ofInt 64 (b : Int)).toNat : Int) = _
  rw [BitVec.toNat_and, ofInt_u64 a (by omega), ofInt_u64 b (by omega)]
  exact IntWalk.i64_in _ (by omega)

theorem div_pow_nat (x d : Nat) : (x : Int) / (2 : Int) ^ d = ((x / 2 ^ d : Nat) : Int) := by
  rw [Int.natCast_ediv, Int.natCast_pow]; rfl

theorem mask1 (x : Int) (d : Nat) (hx : 0 ≤ x ∧ x ≤ 255) : bits .and .i64 (x / 2 ^ d) 1 = x / 2 ^ d % 2 := by
  obtain ⟨X, rfl⟩ := Int.eq_ofNat_of_zero_le hx.1
  have : X / 2 ^ d ≤ X := Nat.div_le_self _ _
  rw [div_pow_nat]
  have h := i64_and_nat (X / 2 ^ d) 1 (by omega) (by omega)
  rw [nat_mask1] at h
  exact h
theorem mask2 (x : Int) (d : Nat) (hx : 0 ≤ x ∧ x ≤ 255) : bits .and .i64 (x / 2 ^ d) 3 = x / 2 ^ d % 4 := by
  obtain ⟨X, rfl⟩ := Int.eq_ofNat_of_zero_le hx.1
  have : X / 2 ^ d ≤ X := Nat.div_le_self _ _
  rw [div_pow_nat]
  have h := i64_and_nat (X / 2 ^ d) 3 (by omega) (by omega)
  rw [nat_mask2] at h
  exact h
theorem mask4 (x : Int) (d : Nat) (hx : 0 ≤ x ∧ x ≤ 255) : bits .and .i64 (x / 2 ^ d) 15 = x / 2 ^ d % 16 := by
  obtain ⟨X, rfl⟩ := Int.eq_ofNat_of_zero_le hx.1
  have : X / 2 ^ d ≤ X := Nat.div_le_self _ _
  rw [div_pow_nat]
  have h := i64_and_nat (X / 2 ^ d) 15 (by omega) (by omega)
  rw [nat_mask4] at h
  exact h
theorem mask8 (x : Int) (hx : 0 ≤ x ∧ x ≤ 255) : bits .and .i64 x 255 = x := by
  obtain ⟨X, rfl⟩ := Int.eq_ofNat_of_zero_le hx.1
  have h := i64_and_nat X 255 (by omega) (by omega)
  rw [nat_mask8, Nat.mod_eq_of_lt (by omega)] at h
  exact h

/-- All digits of bytes, by w bits each. -/
def dgs (xs : List Int) (w : Nat) : List Int := (List.range (xs.length * (8 / w))).map (dg xs w)

theorem dgs_length (xs : List Int) (w : Nat) : (dgs xs w).length = xs.length * (8 / w) := by simp [dgs]

theorem fill_step (ds : List Int) (L j : Nat) (hL : ds.length = L) (hj : j < L) (z : Int) (hz : ds[j]?.getD 0 = z) :
    (ds.take j ++ List.replicate (L - j) 0).set j z = ds.take (j + 1) ++ List.replicate (L - (j + 1)) 0 := by
  rw [take_snoc ds j (by omega), hz, List.set_append_right _ _ (by simp; omega)]
  simp only [List.length_take, Nat.min_eq_left (show j ≤ ds.length by omega), Nat.sub_self, List.append_assoc]
  congr 1
  rw [show L - j = (L - (j + 1)) + 1 by omega, List.replicate_succ]
  rfl

theorem dgs_get (xs : List Int) (w j : Nat) (hj : j < xs.length * (8 / w)) : (dgs xs w)[j]?.getD 0 = dg xs w j := by simp [dgs, hj]

/-- The digits of one byte, and of all. -/
def one (x : Int) (w : Nat) : List Int := (List.range (8 / w)).map fun r => x / (2 : Int) ^ (w * (8 / w - 1 - r)) % (2 : Int) ^ w
def all (xs : List Int) (w : Nat) : List Int := xs.flatMap (one · w)

theorem one_length (x : Int) (w : Nat) : (one x w).length = 8 / w := by simp [one]
theorem all_snoc (xs : List Int) (x : Int) (w : Nat) : all (xs ++ [x]) w = all xs w ++ one x w := by simp [all]

theorem dgs_snoc (xs : List Int) (x : Int) (w : Nat) (hw : 0 < 8 / w) : dgs (xs ++ [x]) w = dgs xs w ++ one x w := by
  unfold dgs one
  rw [List.length_append, List.length_singleton, Nat.add_mul, Nat.one_mul, List.range_add, List.map_append, List.map_map]
  congr 1
  · apply List.map_congr_left
    intro i hi
    have hi := List.mem_range.1 hi
    unfold dg
    rw [List.getElem?_append_left (Nat.div_lt_of_lt_mul (by rw [Nat.mul_comm]; exact hi))]
  · apply List.map_congr_left
    intro r hr
    have hr := List.mem_range.1 hr
    show dg (xs ++ [x]) w (xs.length * (8 / w) + r) = _
    unfold dg
    rw [Nat.mul_comm xs.length, Nat.mul_add_div hw, Nat.div_eq_of_lt hr, Nat.mul_add_mod, Nat.mod_eq_of_lt hr]
    simp

theorem dgs_all (w : Nat) (hw : 0 < 8 / w) (xs : List Int) : dgs xs w = all xs w := by
  have h : ∀ n (xs : List Int), xs.length = n → dgs xs w = all xs w := by
    intro n
    induction n with
    | zero => intro xs h; obtain rfl : xs = [] := List.eq_nil_of_length_eq_zero h; simp [dgs, all]
    | succ n ih =>
      intro xs h
      have hx : xs = xs.take n ++ [xs[n]?.getD 0] := by
        rw [← take_snoc xs n (by omega), List.take_of_length_le (by omega)]
      rw [hx, dgs_snoc _ _ _ hw, all_snoc, ih _ (by simp; omega)]
  exact h _ xs rfl

/-- The bits of x's next digit that were gone through, behind k bits. -/
def part (x : Int) (w k : Nat) : Int := x / (2 : Int) ^ (8 - k) % (2 : Int) ^ (k % w)

theorem part_in (x : Int) (w k : Nat) (hw : w = 1 ∨ w = 2 ∨ w = 4 ∨ w = 8) (hk : k < 8) (h : k % w ≠ w - 1) (hx : 0 ≤ x ∧ x ≤ 255) :
    part x w (k + 1) = 2 * part x w k + x / (2 : Int) ^ (7 - k) % 2 ∧ (k + 1) / w = k / w := by
  rcases (by omega : k = 0 ∨ k = 1 ∨ k = 2 ∨ k = 3 ∨ k = 4 ∨ k = 5 ∨ k = 6 ∨ k = 7) with rfl | rfl | rfl | rfl | rfl | rfl | rfl | rfl <;>
    rcases hw with rfl | rfl | rfl | rfl <;> (first | (exfalso; omega) | (simp [part]; omega) | simp [part])

theorem part_end (x : Int) (w k : Nat) (hw : w = 1 ∨ w = 2 ∨ w = 4 ∨ w = 8) (hk : k < 8) (h : k % w = w - 1) (hx : 0 ≤ x ∧ x ≤ 255) :
    part x w (k + 1) = 0 ∧ (one x w).take ((k + 1) / w) = (one x w).take (k / w) ++ [2 * part x w k + x / (2 : Int) ^ (7 - k) % 2] := by
  rcases (by omega : k = 0 ∨ k = 1 ∨ k = 2 ∨ k = 3 ∨ k = 4 ∨ k = 5 ∨ k = 6 ∨ k = 7) with rfl | rfl | rfl | rfl | rfl | rfl | rfl | rfl <;>
    rcases hw with rfl | rfl | rfl | rfl <;> (first | (exfalso; omega) | (simp [part, one, List.range_succ]; omega) | (simp [part, one, List.range_succ]))

theorem part_bd (x : Int) (w k : Nat) (hw : w = 1 ∨ w = 2 ∨ w = 4 ∨ w = 8) : 0 ≤ part x w k ∧ part x w k ≤ 127 := by
  have hm : k % w < w ∧ w ≤ 8 := by
    rcases hw with rfl | rfl | rfl | rfl <;> omega
  unfold part
  rcases (by omega : k % w = 0 ∨ k % w = 1 ∨ k % w = 2 ∨ k % w = 3 ∨ k % w = 4 ∨ k % w = 5 ∨ k % w = 6 ∨ k % w = 7) with h | h | h | h | h | h | h | h <;> rw [h] <;> simp <;> omega

theorem div_bd (x : Int) (d : Nat) (hx : 0 ≤ x ∧ x ≤ 255) : 0 ≤ x / (2 : Int) ^ d ∧ x / (2 : Int) ^ d ≤ 255 := by
  obtain ⟨X, rfl⟩ := Int.eq_ofNat_of_zero_le hx.1
  have : X / 2 ^ d ≤ X := Nat.div_le_self _ _
  rw [div_pow_nat]
  generalize X / 2 ^ d = q at *
  omega

/-- The sum of what each digit lacks to the most m. -/
def lack (zs : List Int) (m : Int) : Int := zs.foldl (fun s z => s + (m - z)) 0
theorem lack_snoc (l : List Int) (m z : Int) : lack (l ++ [z]) m = lack l m + (m - z) := by simp [lack]
theorem lack_take (zs : List Int) (m : Int) (k : Nat) (h : k < zs.length) : lack (zs.take (k + 1)) m = lack (zs.take k) m + (m - zs[k]?.getD 0) := by
  rw [take_snoc zs k h, lack_snoc]
theorem lack_bd (zs : List Int) (m : Int) (h0 : 0 ≤ m ∧ m ≤ 255) (hz : ∀ z ∈ zs, 0 ≤ z ∧ z ≤ m) : ∀ k, k ≤ zs.length → 0 ≤ lack (zs.take k) m ∧ lack (zs.take k) m ≤ 255 * k
  | 0, _ => by simp [lack]
  | k + 1, hk => by
    have h1 := lack_bd zs m h0 hz k (by omega)
    have h2 := hz (zs[k]?.getD 0) (by rw [List.getElem?_eq_getElem (by omega)]; exact List.getElem_mem _)
    rw [lack_take zs m k (by omega)]
    omega

theorem dg_bd (xs : List Int) (w i : Nat) (hw : w = 1 ∨ w = 2 ∨ w = 4 ∨ w = 8) : 0 ≤ dg xs w i ∧ dg xs w i ≤ (2 : Int) ^ w - 1 := by
  unfold dg
  rcases hw with rfl | rfl | rfl | rfl
  · show _ ∧ _ ≤ (2 : Int) ^ 1 - 1; rw [show (2 : Int) ^ 1 = 2 by decide]; omega
  · rw [show (2 : Int) ^ 2 = 4 by decide]; omega
  · rw [show (2 : Int) ^ 4 = 16 by decide]; omega
  · rw [show (2 : Int) ^ 8 = 256 by decide]; omega

theorem dgs_bd (xs : List Int) (w : Nat) (hw : w = 1 ∨ w = 2 ∨ w = 4 ∨ w = 8) : ∀ z ∈ dgs xs w, 0 ≤ z ∧ z ≤ (2 : Int) ^ w - 1 := by
  intro z hz
  obtain ⟨i, _, rfl⟩ := List.mem_map.1 hz
  exact dg_bd xs w i hw

theorem w16_add (L d : Int) : IntKind.u16.wrap (L % 65536 + d) = (L + d) % 65536 := by rw [IntKind.wrap_u16]; omega
theorem w16_mul (L d : Int) : IntKind.u16.wrap (L % 65536 * d) = L * d % 65536 := by rw [IntKind.wrap_u16, Int.mul_emod, Int.emod_emod, ← Int.mul_emod]
end Go.Proofs.Ytpdofegmobbipaa.Oct
