/-
  Layer 2, octet: the plain arithmetic of OctetLess: bits that are set make the check less. No program. No conditions beyond what each theorem names.
-/
import Derived.Test.YtcppceonflkihaaOctM
namespace Go.Proofs.Ytcppceonflkihaa.Oct
open Go.RowKit Go.Proofs.Ytcppceonflkihaa.Kit

theorem lack_append (a b : List Int) (m : Int) : lack (a ++ b) m = lack a m + lack b m := by
  have h : ∀ (l : List Int) (s : Int), l.foldl (fun s z => s + (m - z)) s = s + l.foldl (fun s z => s + (m - z)) 0 := by
    intro l
    induction l with
    | nil => intro s; simp
    | cons z l ih => intro s; rw [List.foldl_cons, ih, List.foldl_cons, ih (0 + (m - z))]; omega
  unfold lack
  rw [List.foldl_append, h]

theorem lack_nonneg (m : Int) : ∀ (zs : List Int), (∀ z ∈ zs, 0 ≤ z ∧ z ≤ m) → 0 ≤ lack zs m ∧ lack zs m ≤ m * zs.length
  | [], _ => by simp [lack]
  | z :: zs, h => by
    have h1 := lack_nonneg m zs (fun y hy => h y (by simp [hy]))
    have h2 := h z (by simp)
    have e : lack (z :: zs) m = lack [z] m + lack zs m := lack_append [z] zs m
    have e2 : lack [z] m = m - z := by simp [lack]
    rw [e, e2, List.length_cons, Int.natCast_succ, Int.mul_add, Int.mul_one]
    omega

/-- A digit of a byte. -/
def dgt (x : Int) (w s : Nat) : Int := x / (2 : Int) ^ s % (2 : Int) ^ w

theorem dgt_or (X B w s : Nat) : dgt (X : Int) w s ≤ dgt ((X ||| B : Nat) : Int) w s := by
  have key : X / 2 ^ s % 2 ^ w ≤ (X ||| B) / 2 ^ s % 2 ^ w := by
    rw [← Nat.shiftRight_eq_div_pow, ← Nat.shiftRight_eq_div_pow, Nat.shiftRight_or_distrib, Nat.or_mod_two_pow]
    exact Nat.left_le_or
  unfold dgt
  rw [div_pow_nat, div_pow_nat, show (2 : Int) ^ w = ((2 ^ w : Nat) : Int) by rw [Int.natCast_pow]; rfl]
  exact_mod_cast key

theorem sum1 (x : Int) (h : 0 ≤ x ∧ x < 256) : x = dgt x 1 0 + 2 * dgt x 1 1 + 4 * dgt x 1 2 + 8 * dgt x 1 3 + 16 * dgt x 1 4 + 32 * dgt x 1 5 + 64 * dgt x 1 6 + 128 * dgt x 1 7 := by
  simp only [dgt, show (2 : Int) ^ 0 = 1 by decide, show (2 : Int) ^ 1 = 2 by decide, show (2 : Int) ^ 2 = 4 by decide, show (2 : Int) ^ 3 = 8 by decide, show (2 : Int) ^ 4 = 16 by decide, show (2 : Int) ^ 5 = 32 by decide, show (2 : Int) ^ 6 = 64 by decide, show (2 : Int) ^ 7 = 128 by decide]
  omega
theorem sum2 (x : Int) (h : 0 ≤ x ∧ x < 256) : x = dgt x 2 0 + 4 * dgt x 2 2 + 16 * dgt x 2 4 + 64 * dgt x 2 6 := by
  simp only [dgt, show (2 : Int) ^ 0 = 1 by decide, show (2 : Int) ^ 2 = 4 by decide, show (2 : Int) ^ 4 = 16 by decide, show (2 : Int) ^ 6 = 64 by decide]
  omega
theorem sum4 (x : Int) (h : 0 ≤ x ∧ x < 256) : x = dgt x 4 0 + 16 * dgt x 4 4 := by
  simp only [dgt, show (2 : Int) ^ 0 = 1 by decide, show (2 : Int) ^ 4 = 16 by decide]
  omega
theorem sum8 (x : Int) (h : 0 ≤ x ∧ x < 256) : x = dgt x 8 0 := by
  simp only [dgt, show (2 : Int) ^ 0 = 1 by decide, show (2 : Int) ^ 8 = 256 by decide]
  omega
theorem lack1 (x m : Int) : lack (one x 1) m = 8 * m - (dgt x 1 7 + dgt x 1 6 + dgt x 1 5 + dgt x 1 4 + dgt x 1 3 + dgt x 1 2 + dgt x 1 1 + dgt x 1 0) := by
  rw [show one x 1 = [dgt x 1 7, dgt x 1 6, dgt x 1 5, dgt x 1 4, dgt x 1 3, dgt x 1 2, dgt x 1 1, dgt x 1 0] from rfl]
  simp only [lack, List.foldl_cons, List.foldl_nil]; omega
theorem lack2 (x m : Int) : lack (one x 2) m = 4 * m - (dgt x 2 6 + dgt x 2 4 + dgt x 2 2 + dgt x 2 0) := by
  rw [show one x 2 = [dgt x 2 6, dgt x 2 4, dgt x 2 2, dgt x 2 0] from rfl]
  simp only [lack, List.foldl_cons, List.foldl_nil]; omega
theorem lack4 (x m : Int) : lack (one x 4) m = 2 * m - (dgt x 4 4 + dgt x 4 0) := by
  rw [show one x 4 = [dgt x 4 4, dgt x 4 0] from rfl]
  simp only [lack, List.foldl_cons, List.foldl_nil]; omega
theorem lack8 (x m : Int) : lack (one x 8) m = m - dgt x 8 0 := by
  rw [show one x 8 = [dgt x 8 0] from rfl]
  simp only [lack, List.foldl_cons, List.foldl_nil]; omega

theorem one_less (X B w : Nat) (hw : w = 1 ∨ w = 2 ∨ w = 4 ∨ w = 8) (m : Int) (hX : X < 256) (hB : B < 256) (hne : (X ||| B) ≠ X) : lack (one ((X ||| B : Nat) : Int) w) m < lack (one (X : Int) w) m := by
  have hV : (X ||| B) < 2 ^ 8 := Nat.or_lt_two_pow (by omega) (by omega)
  have d := fun s => dgt_or X B w s
  generalize (X ||| B) = V at *
  have hV2 : 0 ≤ (V : Int) ∧ (V : Int) < 256 := by omega
  have hX2 : 0 ≤ (X : Int) ∧ (X : Int) < 256 := by omega
  have hne2 : (V : Int) ≠ (X : Int) := by omega
  rcases hw with rfl | rfl | rfl | rfl
  · have d0 := d 0; have d1 := d 1; have d2 := d 2; have d3 := d 3; have d4 := d 4; have d5 := d 5; have d6 := d 6; have d7 := d 7
    have s1 := sum1 _ hV2
    have s2 := sum1 _ hX2
    rw [lack1, lack1]
    omega
  · have d0 := d 0; have d2 := d 2; have d4 := d 4; have d6 := d 6
    have s1 := sum2 _ hV2
    have s2 := sum2 _ hX2
    rw [lack2, lack2]
    omega
  · have d0 := d 0; have d4 := d 4
    have s1 := sum4 _ hV2
    have s2 := sum4 _ hX2
    rw [lack4, lack4]
    omega
  · have d0 := d 0
    have s1 := sum8 _ hV2
    have s2 := sum8 _ hX2
    rw [lack8, lack8]
    omega

theorem all_set (xs : List Int) (j : Nat) (hj : j < xs.length) (v : Int) (w : Nat) (m : Int) :
    lack (all (xs.set j v) w) m = lack (all xs w) m - lack (one (xs[j]?.getD 0) w) m + lack (one v w) m := by
  have e1 : xs = xs.take j ++ xs[j]?.getD 0 :: xs.drop (j + 1) := by
    rw [show xs[j]?.getD 0 = xs[j] by simp [hj], ← List.drop_eq_getElem_cons hj, List.take_append_drop]
  have e2 : xs.set j v = xs.take j ++ v :: xs.drop (j + 1) := by
    rw [List.set_eq_take_append_cons_drop, if_pos hj]
  have e3 : all xs w = all (xs.take j) w ++ (one (xs[j]?.getD 0) w ++ all (xs.drop (j + 1)) w) := by
    conv => lhs; rw [e1]
    simp [all]
  have e4 : all (xs.set j v) w = all (xs.take j) w ++ (one v w ++ all (xs.drop (j + 1)) w) := by rw [e2]; simp [all]
  rw [e3, e4, lack_append, lack_append, lack_append, lack_append]
  omega

/-- The check is less where a byte has more bits. -/
theorem less_all (xs : List Int) (hl : xs.length = 32) (ho : Octets xs) (j : Nat) (hj : j < 32) (B w : Nat) (hw : w = 1 ∨ w = 2 ∨ w = 4 ∨ w = 8) (m f : Int) (hm : m = (2 : Int) ^ w - 1)
    (hf : w = 1 ∧ f = 128 ∨ w = 2 ∧ f = 64 ∨ w = 4 ∧ f = 16 ∨ w = 8 ∧ f = 1) (hB : B < 256)
    (hne : xs.set j (((xs[j]?.getD 0).toNat ||| B : Nat) : Int) ≠ xs) :
    lack (dgs (xs.set j (((xs[j]?.getD 0).toNat ||| B : Nat) : Int)) w) m * f % 65536 < lack (dgs xs w) m * f % 65536 := by
  have hx := ho.at_ j
  have hnx : ((xs[j]?.getD 0).toNat ||| B) ≠ (xs[j]?.getD 0).toNat := by
    intro h
    apply hne
    rw [h, Int.toNat_of_nonneg hx.1]
    apply List.ext_getElem?
    intro i
    rw [List.getElem?_set]
    split
    · rename_i h'; subst h'; simp [show j < xs.length by omega]
    · rfl
  have h8 : 0 < 8 / w := by rcases hw with rfl | rfl | rfl | rfl <;> decide
  have h1 := one_less (xs[j]?.getD 0).toNat B w hw m (by omega) hB hnx
  rw [Int.toNat_of_nonneg hx.1] at h1
  have hb1 := lack_nonneg m (dgs xs w) (by rw [hm]; exact dgs_bd xs w hw)
  have hb2 := lack_nonneg m (dgs (xs.set j (((xs[j]?.getD 0).toNat ||| B : Nat) : Int)) w) (by rw [hm]; exact dgs_bd _ w hw)
  have hs := all_set xs j (by omega) (((xs[j]?.getD 0).toNat ||| B : Nat) : Int) w m
  rw [dgs_length, List.length_set] at hb2
  rw [dgs_length] at hb1
  rw [← dgs_all w h8, ← dgs_all w h8] at hs
  generalize lack (dgs (xs.set j (((xs[j]?.getD 0).toNat ||| B : Nat) : Int)) w) m = L2 at *
  generalize lack (dgs xs w) m = L1 at *
  rw [hl] at hb1 hb2
  have hlt : L2 < L1 := by omega
  rcases hf with ⟨rfl, rfl⟩ | ⟨rfl, rfl⟩ | ⟨rfl, rfl⟩ | ⟨rfl, rfl⟩ <;> subst hm
  · have : L1 ≤ 256 := by have := hb1.2; simpa using this
    omega
  · have : L1 ≤ 384 := by have := hb1.2; simpa using this
    omega
  · have : L1 ≤ 960 := by have := hb1.2; simpa using this
    omega
  · have : L1 ≤ 8160 := by have := hb1.2; simpa using this
    omega
end Go.Proofs.Ytcppceonflkihaa.Oct
