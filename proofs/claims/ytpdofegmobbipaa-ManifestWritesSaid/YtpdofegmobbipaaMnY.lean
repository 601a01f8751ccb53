/-
  Layer 22, manifest: what is read is written as it stood, plain. Conditions: as each theorem names.
-/
import Derived.Test.YtpdofegmobbipaaMnW
namespace Go.Proofs.Ytpdofegmobbipaa.Mn
open Go.ChangeShapes Go.WideShapes Go.ChangeAt Go.RowKit Go.Proofs.Ytpdofegmobbipaa.Kit Go.Proofs.Ytpdofegmobbipaa.Oct Go.Proofs.Ytpdofegmobbipaa.Ordr

theorem be_val : ∀ (n : Nat) (ys : List Int), ys.length = n → Octets ys → be n (val ys) = ys
  | 0, ys, h, _ => by rw [List.eq_nil_of_length_eq_zero h]; rfl
  | n + 1, ys, h, ho => by
    obtain ⟨l, a, rfl⟩ : ∃ l a, ys = l ++ [a] := ⟨ys.dropLast, ys.getLast (by intro e; rw [e] at h; simp at h), (List.dropLast_concat_getLast _).symm⟩
    have ha := ho a (by simp)
    rw [val_snoc, be_succ, show (val l * 256 + a) / 256 = val l by omega, show (val l * 256 + a) % 256 = a by omega, be_val n l (by simpa using h) (fun x hx => ho x (by simp [hx]))]
theorem be_num (xs : List Int) (p n : Nat) (ho : Octets xs) (h : p + n ≤ xs.length) : be n (numA xs p n) = (xs.drop p).take n :=
  be_val n _ (by rw [List.length_take, List.length_drop]; omega) ((ho.tail p).head n)
theorem take_on (xs : List Int) (a n : Nat) : (xs.drop a).take n ++ xs.drop (a + n) = xs.drop a := by
  rw [← List.drop_drop, List.take_append_drop]
theorem ordL_drop (xs : List Int) (ho : Octets xs) : ∀ (k : Nat), 118 + 2 * k ≤ xs.length → ordL (ordN xs k) ++ xs.drop (118 + 2 * k) = xs.drop 118
  | 0, _ => by simp [ordN, ordL]
  | k + 1, h => by
    have ih := ordL_drop xs ho k (by omega)
    rw [ordN_snoc, ordL_snoc, List.append_assoc]
    have hb := be_num xs (118 + 2 * k) 2 ho (by omega)
    have h2 : be 2 (numA xs (118 + 2 * k) 2) = [numA xs (118 + 2 * k) 2 / 256, numA xs (118 + 2 * k) 2 % 256] := by
      have hz := numA_two xs (118 + 2 * k) ho (by omega)
      show [byteAt _ 1, byteAt _ 0] = _
      unfold byteAt
      rw [show (2 : Int) ^ (8 * 1) = 256 from rfl, show (2 : Int) ^ (8 * 0) = 1 from rfl, Int.ediv_one, Int.emod_eq_of_lt (show 0 ≤ numA xs (118 + 2 * k) 2 / 256 by omega) (by omega)]
    rw [← h2, hb, show 118 + 2 * (k + 1) = 118 + 2 * k + 2 by omega, take_on]
    exact ih
/-- What is read is written as it stood. -/
theorem putL_manN (xs : List Int) (k : Nat) (A : Option Addr) (cap : Nat) (ho : Octets xs) (h0 : xs.getD 0 0 = 1) (hl : xs.length = 118 + 2 * k) : (manN xs k A cap).putL = xs := by
  have hd : ordL (ordN xs k) = xs.drop 118 := by
    have := ordL_drop xs ho k (by omega)
    rwa [show 118 + 2 * k = xs.length by omega, List.drop_length, List.append_nil] at this
  unfold Man.putL Man.p6 Man.p5 Man.p4 Man.p3 Man.p2 Man.p1 Man.p0 manN
  simp only
  rw [be_num xs 2 8 ho (by omega), be_num xs 10 4 ho (by omega), be_num xs 14 4 ho (by omega), be_num xs 18 4 ho (by omega), hd]
  simp only [List.append_assoc]
  rw [take_on xs 86 32, take_on xs 54 32, take_on xs 22 32, take_on xs 18 4, take_on xs 14 4, take_on xs 10 4, take_on xs 2 8]
  match xs, hl, h0 with
  | [], hl, _ => simp at hl; omega
  | [a], hl, _ => simp at hl; omega
  | a :: b :: l, _, h0 =>
    simp at h0
    subst h0
    rfl
theorem pairs_of {xs : List Int} {k : Nat} (h : xs.length = 118 + 2 * k) : pairs xs = k := by unfold pairs; omega
theorem ord_none {xs : List Int} {k : Nat} (h : (manN xs k none 0).May) (h2 : xs.getD 1 0 ≠ 2) : k = 0 := by
  have ho := h.2.2.2.2.2.2.1
  have hl : (manN xs k none 0).ord.length = k := ordN_length xs k
  rw [hl] at ho
  have hw : (manN xs k none 0).want = 0 := if_neg h2
  omega
/-- The document's way to read comes to the same. -/
theorem got_iff {xs : List Int} (ho : Octets xs) (h : 118 ≤ xs.length) (h4 : xs.length ≤ 400) {k : Nat} (hk : k = if xs.getD 1 0 = 2 then pairs xs else 0) : ((manN xs k none 0).May ∧ (manN xs k none 0).putL = xs) ↔ gotOk xs := by
  have hok := manN_ok xs k none k ho h (by rw [hk]; split <;> (try unfold pairs) <;> omega) ⟨Nat.le_refl _, by unfold maxLen; rw [hk]; split <;> (try unfold pairs) <;> omega⟩
  constructor
  · rintro ⟨hm, hp⟩
    have hl : xs.length = 118 + 2 * k := by
      have h1 := (manN xs k none k).putL_length hok
      have e : (manN xs k none k).putL = (manN xs k none 0).putL := rfl
      have h2 : (manN xs k none k).ord.length = k := ordN_length xs k
      rw [e, hp, h2] at h1
      exact h1
    refine ⟨?_, by rw [pairs_of hl]; exact hm, by rw [pairs_of hl]; exact hl⟩
    rw [← hp]
    rfl
  · rintro ⟨h0, hm, hl⟩
    have hkp : k = pairs xs := by
      rw [hk]
      split
      · rfl
      · rename_i h2
        exact (ord_none hm h2).symm
    rw [hkp]
    exact ⟨hm, putL_manN xs _ none 0 ho h0 hl⟩
theorem got_many {xs : List Int} (h : gotOk xs) : (if xs.getD 1 0 = 2 then pairs xs else 0) = pairs xs := by
  split
  · rfl
  · rename_i h2
    exact (ord_none h.2.1 h2).symm
end Go.Proofs.Ytpdofegmobbipaa.Mn
