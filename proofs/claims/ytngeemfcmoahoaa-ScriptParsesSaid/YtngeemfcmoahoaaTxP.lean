/-
  Layer 30, texts: hexadecimal digits: plain words. No program. No conditions beyond what each theorem names.
-/
import Derived.Test.YtngeemfcmoahoaaStI
namespace Go.Proofs.Ytngeemfcmoahoaa.Tx
open Go.ChangeShapes Go.WideShapes Go.ChangeAt Go.RowKit Go.Proofs.Ytngeemfcmoahoaa.Kit

/-- A text's bytes as numbers. -/
def numsOf (s : ByteArray) : List Int := s.data.toList.map fun b => (b.toNat : Int)
theorem numsOf_length (s : ByteArray) : (numsOf s).length = s.size := by simp [numsOf]
theorem numsOf_octets (s : ByteArray) : Octets (numsOf s) := by
  intro x hx
  obtain ⟨b, _, rfl⟩ := List.mem_map.1 hx
  have := b.toNat_lt
  omega
theorem numsOf_get (s : ByteArray) (i : Nat) (h : i < s.size) : (numsOf s).getD i 0 = (s[i].toNat : Int) := by
  have h1 : i < s.data.toList.length := by simpa using h
  simp [numsOf, List.getD, List.getElem?_eq_getElem h1]
  rfl
theorem str_nums (s : ByteArray) : strOfNums (numsOf s) = s := by
  unfold strOfNums numsOf
  have : (s.data.toList.map fun b => (b.toNat : Int)).map (fun n => UInt8.ofNat n.toNat) = s.data.toList := by
    rw [List.map_map]
    refine (List.map_congr_left fun b _ => ?_).trans (List.map_id _)
    simp
  rw [this]
theorem nums_str {xs : List Int} (h : Octets xs) : numsOf (strOfNums xs) = xs :=
  strOfNums_inj (numsOf_octets _) h (str_nums _)

def dig (n : Int) : Int := if n < 10 then 48 + n else 87 + n
theorem dig_bd {n : Int} (h : 0 ≤ n ∧ n < 16) : 48 ≤ dig n ∧ dig n ≤ 102 := by unfold dig; split <;> omega
/-- Bytes as a text. -/
def twoD (x : Int) : List Int := [dig (x / 16), dig (x % 16)]
def hexL (xs : List Int) : List Int := if xs = [] then [46] else xs.flatMap twoD
theorem flat_length (xs : List Int) : (xs.flatMap twoD).length = 2 * xs.length := by
  induction xs with
  | nil => rfl
  | cons x xs ih => rw [List.flatMap_cons, List.length_append, ih]; simp [twoD]; omega
theorem flat_octets {xs : List Int} (h : Octets xs) : Octets (xs.flatMap twoD) := by
  intro x hx
  obtain ⟨y, hy, hxy⟩ := List.mem_flatMap.1 hx
  have hb := h y hy
  have h1 := dig_bd (n := y / 16) (by omega)
  have h2 := dig_bd (n := y % 16) (by omega)
  simp [twoD] at hxy
  omega
theorem hexL_octets {xs : List Int} (h : Octets xs) : Octets (hexL xs) := by
  unfold hexL
  split
  · intro x hx
    obtain rfl : x = 46 := by simpa using hx
    omega
  · exact flat_octets h

/-- A digit's value; below 0: it is none. -/
def valD (c : Int) : Int := if 48 ≤ c ∧ c ≤ 57 then c - 48 else if 97 ≤ c ∧ c ≤ 102 then c - 87 else -1
theorem valD_bd (c : Int) : -1 ≤ valD c ∧ valD c < 16 := by unfold valD; split <;> (try split) <;> omega
theorem valD_dig {n : Int} (h : 0 ≤ n ∧ n < 16) : valD (dig n) = n := by unfold valD dig; split <;> (try split) <;> (try split) <;> omega
/-- The bytes of two digits each; none, if one of them is no digit. -/
def pairs : List Int → Option (List Int)
  | [] => some []
  | [_] => none
  | a :: b :: r => if valD a < 0 ∨ valD b < 0 then none else match pairs r with
    | none => none
    | some l => some ((16 * valD a + valD b) :: l)
def unhexL (cs : List Int) : Option (List Int) := if cs = [46] then some [] else if cs = [] then none else pairs cs
theorem pairs_flat {xs : List Int} (h : Octets xs) : pairs (xs.flatMap twoD) = some xs := by
  induction xs with
  | nil => rfl
  | cons x xs ih =>
    have hx := h x (by simp)
    have h1 := valD_dig (n := x / 16) (by omega)
    have h2 := valD_dig (n := x % 16) (by omega)
    rw [List.flatMap_cons]
    show pairs (dig (x / 16) :: dig (x % 16) :: xs.flatMap twoD) = _
    rw [pairs, h1, h2, if_neg (by omega), ih fun y hy => h y (by simp [hy])]
    simp only [Option.some.injEq, List.cons.injEq, and_true]
    omega
theorem unhex_hex {xs : List Int} (h : Octets xs) : unhexL (hexL xs) = some xs := by
  unfold hexL
  by_cases h0 : xs = []
  · rw [if_pos h0, h0]; rfl
  · rw [if_neg h0]
    unfold unhexL
    have hl := flat_length xs
    have hp : 0 < xs.length := by cases xs with | nil => exact absurd rfl h0 | cons _ _ => simp
    rw [if_neg (by intro he; rw [he] at hl; simp at hl; omega), if_neg (by intro he; rw [he] at hl; simp at hl; omega)]
    exact pairs_flat h
/-- What Unhex answers: the bytes, and whether it is a text. -/
def unB (cs : List Int) : Bool := (unhexL cs).isSome
def unL (cs : List Int) : List Int := (unhexL cs).getD []
theorem pairs_octets : ∀ {cs l : List Int}, pairs cs = some l → Octets l
  | [], l, h => by rw [pairs] at h; injection h with h; subst h; intro x hx; simp at hx
  | [_], l, h => by rw [pairs] at h; cases h
  | a :: b :: r, l, h => by
    rw [pairs] at h
    split at h
    · cases h
    · next hn =>
      cases hr : pairs r with
      | none => rw [hr] at h; cases h
      | some q =>
        rw [hr] at h
        injection h with h
        subst h
        have h1 := valD_bd a
        have h2 := valD_bd b
        intro x hx
        rcases List.mem_cons.1 hx with rfl | hx
        · omega
        · exact pairs_octets hr x hx
/-- The first 2 k digits are such, and make these bytes. -/
theorem pairs_take : ∀ (k : Nat) (cs l : List Int), pairs (cs.take (2 * k)) = some l → 2 * k + 2 ≤ cs.length → pairs (cs.take (2 * (k + 1))) = if valD (cs.getD (2 * k) 0) < 0 ∨ valD (cs.getD (2 * k + 1) 0) < 0 then none else some (l ++ [16 * valD (cs.getD (2 * k) 0) + valD (cs.getD (2 * k + 1) 0)])
  | 0, cs, l, h, hl => by
    match cs, hl with
    | a :: b :: r, _ =>
      simp [pairs] at h
      subst h
      simp [pairs]
  | k + 1, cs, l, h, hl => by
    match cs, hl with
    | a :: b :: r, hl =>
      rw [show 2 * (k + 1) = 2 * k + 1 + 1 by omega, List.take_succ_cons, List.take_succ_cons, pairs] at h
      rw [show 2 * (k + 1 + 1) = 2 * (k + 1) + 1 + 1 by omega, List.take_succ_cons, List.take_succ_cons, pairs]
      split at h
      · cases h
      · next hn =>
        rw [if_neg hn]
        cases hr : pairs (r.take (2 * k)) with
        | none => rw [hr] at h; cases h
        | some q =>
          rw [hr] at h
          injection h with h
          subst h
          have ih := pairs_take k r q hr (by simp at hl; omega)
          rw [ih]
          have e1 : (a :: b :: r).getD (2 * (k + 1)) 0 = r.getD (2 * k) 0 := by rw [show 2 * (k + 1) = 2 * k + 1 + 1 by omega]; simp [List.getD]
          have e2 : (a :: b :: r).getD (2 * (k + 1) + 1) 0 = r.getD (2 * k + 1) 0 := by rw [show 2 * (k + 1) + 1 = 2 * k + 1 + 1 + 1 by omega]; simp [List.getD]
          rw [e1, e2]
          by_cases hP : valD (r.getD (2 * k) 0) < 0 ∨ valD (r.getD (2 * k + 1) 0) < 0
          · rw [if_pos hP, if_pos hP]
          · rw [if_neg hP, if_neg hP]
            rfl
/-- A wrong digit ahead makes all wrong. -/
theorem pairs_none : ∀ (k : Nat) (cs : List Int), pairs (cs.take (2 * k)) = none → 2 * k ≤ cs.length → pairs cs = none
  | 0, cs, h, _ => by simp [pairs] at h
  | k + 1, cs, h, hl => by
    match cs, hl with
    | a :: b :: r, hl =>
      rw [show 2 * (k + 1) = 2 * k + 1 + 1 by omega, List.take_succ_cons, List.take_succ_cons, pairs] at h
      rw [pairs]
      split at h
      · next hn => rw [if_pos hn]
      · next hn =>
        rw [if_neg hn]
        cases hr : pairs (r.take (2 * k)) with
        | none => rw [pairs_none k r hr (by simp at hl; omega)]
        | some q => rw [hr] at h; cases h
/-- An odd number of digits is none. -/
theorem pairs_odd : ∀ (cs : List Int), cs.length % 2 = 1 → pairs cs = none
  | [], h => by simp at h
  | [_], _ => rfl
  | a :: b :: r, h => by
    rw [pairs, pairs_odd r (by simp at h; omega)]
    split <;> rfl
/-- The bytes, when so many digits are read. -/
def fillH (cs : List Int) (n i : Nat) : List Int := (List.range n).map fun j => if 2 * j + 1 < i then 16 * valD (cs.getD (2 * j) 0) + valD (cs.getD (2 * j + 1) 0) else if 2 * j < i then valD (cs.getD (2 * j) 0) else 0
theorem fillH_length (cs : List Int) (n i : Nat) : (fillH cs n i).length = n := by simp [fillH]
theorem fillH_zero (cs : List Int) (n : Nat) : fillH cs n 0 = List.replicate n 0 := by
  refine List.ext_getElem (by simp [fillH]) fun j h1 h2 => ?_
  simp [fillH]
theorem fillH_get (cs : List Int) (n i : Nat) (h : i < 2 * n) : (fillH cs n i)[i / 2]?.getD 0 = if i % 2 = 0 then 0 else valD (cs.getD (i - 1) 0) := by
  have hj : i / 2 < n := by omega
  simp only [fillH, List.getElem?_map, List.getElem?_range hj, Option.map_some, Option.getD_some]
  rw [if_neg (by omega)]
  by_cases he : i % 2 = 0
  · rw [if_neg (by omega), if_pos he]
  · rw [if_pos (by omega), if_neg he, show 2 * (i / 2) = i - 1 by omega]
theorem fillH_next (cs : List Int) (n i : Nat) (h : i < 2 * n) : fillH cs n (i + 1) = (fillH cs n i).set (i / 2) (if i % 2 = 0 then valD (cs.getD i 0) else 16 * valD (cs.getD (i - 1) 0) + valD (cs.getD i 0)) := by
  refine List.ext_getElem (by simp [fillH]) fun j h1 h2 => ?_
  rw [List.getElem_set]
  by_cases hj : i / 2 = j
  · subst hj
    rw [if_pos rfl]
    simp only [fillH, List.getElem_map, List.getElem_range]
    by_cases he : i % 2 = 0
    · rw [if_neg (by omega), if_pos (by omega), if_pos he, show 2 * (i / 2) = i by omega]
    · rw [if_pos (by omega), if_neg he, show 2 * (i / 2) = i - 1 by omega, show i - 1 + 1 = i by omega]
  · rw [if_neg hj]
    simp only [fillH, List.getElem_map, List.getElem_range]
    by_cases h3 : 2 * j + 1 < i
    · rw [if_pos (by omega), if_pos h3]
    · rw [if_neg (by omega), if_neg h3]
      by_cases h4 : 2 * j < i
      · rw [if_pos (by omega), if_pos h4]
      · rw [if_neg (by omega), if_neg h4]
theorem pairs_full : ∀ (n : Nat) (cs : List Int), cs.length = 2 * n → (∀ j, j < 2 * n → 0 ≤ valD (cs.getD j 0)) → pairs cs = some (fillH cs n (2 * n))
  | 0, cs, h, _ => by
    obtain rfl : cs = [] := List.eq_nil_of_length_eq_zero (by omega)
    rfl
  | n + 1, cs, h, hv => by
    match cs, h with
    | a :: b :: r, h =>
      have ha := hv 0 (by omega)
      have hb := hv 1 (by omega)
      simp [List.getD] at ha hb
      have ih := pairs_full n r (by simp at h; omega) fun j hj => by
        have := hv (j + 2) (by omega)
        simpa [List.getD] using this
      rw [pairs, if_neg (by omega), ih]
      simp only [Option.some.injEq]
      refine List.ext_getElem (by simp [fillH]) fun j h1 h2 => ?_
      cases j with
      | zero => simp [fillH, List.getD]; omega
      | succ j =>
        simp only [fillH, List.length_map, List.length_range] at h2
        have hj : j < n := by omega
        simp only [List.getElem_cons_succ, fillH, List.getElem_map, List.getElem_range]
        rw [if_pos (by omega), if_pos (by omega)]
        rw [show 2 * (j + 1) = 2 * j + 1 + 1 by omega]
        simp [List.getD]
theorem pairs_bad : ∀ (cs : List Int) (j : Nat), j < cs.length → valD (cs.getD j 0) < 0 → pairs cs = none
  | [], j, h, _ => by simp at h
  | [_], _, _, _ => rfl
  | a :: b :: r, 0, _, h => by
    rw [pairs, if_pos (.inl (by simpa [List.getD] using h))]
  | a :: b :: r, 1, _, h => by
    rw [pairs, if_pos (.inr (by simpa [List.getD] using h))]
  | a :: b :: r, j + 2, hl, h => by
    rw [pairs, pairs_bad r j (by simp at hl; omega) (by simpa [List.getD] using h)]
    split <;> rfl
theorem fillH_octets {cs : List Int} {n i : Nat} (hv : ∀ j, j < i → 0 ≤ valD (cs.getD j 0)) : Octets (fillH cs n i) := by
  intro x hx
  obtain ⟨j, _, rfl⟩ := List.mem_map.1 hx
  have h1 := valD_bd (cs.getD (2 * j) 0)
  have h2 := valD_bd (cs.getD (2 * j + 1) 0)
  by_cases h3 : 2 * j + 1 < i
  · have h4 := hv (2 * j) (by omega)
    have h5 := hv (2 * j + 1) h3
    rw [if_pos h3]; omega
  · rw [if_neg h3]
    by_cases h6 : 2 * j < i
    · have h4 := hv (2 * j) h6
      rw [if_pos h6]; omega
    · rw [if_neg h6]; omega
/-- What a text is: of even length, and all digits: its bytes. -/
theorem unhex_full {cs : List Int} {n : Nat} (h1 : cs ≠ [46]) (h2 : cs.length = 2 * n) (h3 : 0 < n) (hv : ∀ j, j < 2 * n → 0 ≤ valD (cs.getD j 0)) : unB cs = true ∧ unL cs = fillH cs n (2 * n) := by
  have e : unhexL cs = some (fillH cs n (2 * n)) := by
    unfold unhexL
    rw [if_neg h1, if_neg (by intro h; rw [h] at h2; simp at h2; omega)]
    exact pairs_full n cs h2 hv
  unfold unB unL
  rw [e]
  exact ⟨rfl, rfl⟩
theorem unhex_none {cs : List Int} (h1 : cs ≠ [46]) (h : cs = [] ∨ cs.length % 2 = 1 ∨ ∃ j, j < cs.length ∧ valD (cs.getD j 0) < 0) : unB cs = false ∧ unL cs = [] := by
  have e : unhexL cs = none := by
    unfold unhexL
    rw [if_neg h1]
    by_cases h2 : cs = []
    · rw [if_pos h2]
    · rw [if_neg h2]
      rcases h with h | h | ⟨j, hj, h⟩
      · exact absurd h h2
      · exact pairs_odd cs h
      · exact pairs_bad cs j hj h
  unfold unB unL
  rw [e]
  exact ⟨rfl, rfl⟩
end Go.Proofs.Ytngeemfcmoahoaa.Tx
