/-
  Layer 18: lists turned round, plainly. No program. Conditions: as each theorem names.
-/
import Derived.Test.YtojmcjkeniepcaaMGrC
namespace Go.Proofs.Ytojmcjkeniepcaa.Gr
open Go.ChangeShapes Go.WideShapes Go.ChangeAt Go.RowKit Go.Proofs.Ytojmcjkeniepcaa.Kit

/-- Who of the first m reads block k. -/
def turnTo (L : List (List Int)) (k m : Nat) : List Int := ((List.range m).filter fun i => decide ((k : Int) ∈ L.getD i [])).map fun i : Nat => (i : Int)
def turnedL (L : List (List Int)) : List (List Int) := (List.range L.length).map fun k => turnTo L k L.length
theorem turnTo_next (L : List (List Int)) (k m : Nat) : turnTo L k (m + 1) = turnTo L k m ++ (if (k : Int) ∈ L.getD m [] then [(m : Int)] else []) := by
  unfold turnTo
  rw [List.range_succ, List.filter_append, List.map_append]
  congr 1
  by_cases h : (k : Int) ∈ L.getD m []
  · rw [if_pos h]
    simp only [List.filter_cons, decide_eq_true h, if_true, List.filter_nil, List.map_cons, List.map_nil]
  · rw [if_neg h]
    simp only [List.filter_cons, decide_eq_false h, List.filter_nil]
    rfl
theorem turnTo_length (L : List (List Int)) (k m : Nat) : (turnTo L k m).length ≤ m := by
  unfold turnTo
  rw [List.length_map]
  exact Nat.le_trans (List.length_filter_le _ _) (by simp)
theorem turnedL_length (L : List (List Int)) : (turnedL L).length = L.length := by simp [turnedL]
theorem turnedL_getD (L : List (List Int)) {k : Nat} (h : k < L.length) : (turnedL L).getD k [] = turnTo L k L.length := by
  unfold turnedL
  rw [List.getD, List.getElem?_map, List.getElem?_range h]
  rfl
theorem mem_turnTo {L : List (List Int)} {k m : Nat} {x : Int} : x ∈ turnTo L k m ↔ ∃ i : Nat, i < m ∧ x = i ∧ (k : Int) ∈ L.getD i [] := by
  unfold turnTo
  constructor
  · intro h
    obtain ⟨i, hi, rfl⟩ := List.mem_map.1 h
    obtain ⟨h1, h2⟩ := List.mem_filter.1 hi
    exact ⟨i, List.mem_range.1 h1, rfl, of_decide_eq_true h2⟩
  · rintro ⟨i, hi, rfl, h⟩
    exact List.mem_map.2 ⟨i, List.mem_filter.2 ⟨List.mem_range.2 hi, decide_eq_true h⟩, rfl⟩
theorem turnTo_up (L : List (List Int)) (k m : Nat) : (turnTo L k m).Pairwise (· < ·) := by
  unfold turnTo
  rw [List.pairwise_map]
  refine (List.Pairwise.filter _ (List.pairwise_lt_range)).imp ?_
  intro a b h
  omega

/-- Rising lists of the same numbers are the same. -/
theorem up_ext : ∀ {a b : List Int}, a.Pairwise (· < ·) → b.Pairwise (· < ·) → (∀ x, x ∈ a ↔ x ∈ b) → a = b
  | [], [], _, _, _ => rfl
  | [], y :: _, _, _, h => absurd ((h y).2 (by simp)) (by simp)
  | x :: _, [], _, _, h => absurd ((h x).1 (by simp)) (by simp)
  | x :: a, y :: b, ha, hb, h => by
    rw [List.pairwise_cons] at ha hb
    have hxy : x = y := by
      have h1 := (h x).1 (by simp)
      have h2 := (h y).2 (by simp)
      rw [List.mem_cons] at h1 h2
      rcases h1 with h1 | h1
      · exact h1
      · rcases h2 with h2 | h2
        · exact h2.symm
        · have := ha.1 y h2
          have := hb.1 x h1
          omega
    subst hxy
    rw [up_ext ha.2 hb.2 (fun z => ?_)]
    have hz := h z
    rw [List.mem_cons, List.mem_cons] at hz
    constructor
    · intro hm
      have := ha.1 z hm
      rcases hz.1 (Or.inr hm) with e | e
      · omega
      · exact e
    · intro hm
      have := hb.1 z hm
      rcases hz.2 (Or.inr hm) with e | e
      · omega
      · exact e
theorem up_steps : ∀ {l : List Int}, (∀ k, 0 < k → k < l.length → l.getD (k - 1) 0 < l.getD k 0) → l.Pairwise (· < ·)
  | [], _ => List.Pairwise.nil
  | [_], _ => by simp
  | x :: y :: l, h => by
    have ih : (y :: l).Pairwise (· < ·) := up_steps (fun k h1 h2 => by
      have := h (k + 1) (by omega) (by simp at h2 ⊢; omega)
      obtain ⟨j, rfl⟩ : ∃ j, k = j + 1 := ⟨k - 1, by omega⟩
      simpa using this)
    have hxy : x < y := by
      have := h 1 (by omega) (by simp)
      simpa using this
    rw [List.pairwise_cons]
    refine ⟨fun z hz => ?_, ih⟩
    rcases List.mem_cons.1 hz with rfl | hz
    · exact hxy
    · have := (List.pairwise_cons.1 ih).1 z hz
      omega
theorem steps_up {l : List Int} (h : l.Pairwise (· < ·)) (k : Nat) (h0 : 0 < k) (hk : k < l.length) : l.getD (k - 1) 0 < l.getD k 0 := by
  rw [List.getD, List.getD, List.getElem?_eq_getElem (by omega), List.getElem?_eq_getElem hk]
  exact List.pairwise_iff_getElem.1 h (k - 1) k (by omega) hk (by omega)

theorem GoodRow.up {n i : Nat} {l : List Int} (h : GoodRow n i l) : l.Pairwise (· < ·) := up_steps fun k h0 hk => (h k hk).2.2.2 h0
theorem GoodRow.mem {n i : Nat} {l : List Int} (h : GoodRow n i l) {x : Int} (hx : x ∈ l) : 0 ≤ x ∧ x < n ∧ x ≠ i := by
  obtain ⟨k, hk, rfl⟩ := List.getElem_of_mem hx
  have := h k hk
  unfold GoodAt at this
  rw [List.getD, List.getElem?_eq_getElem hk] at this
  exact ⟨this.1, this.2.1, this.2.2.1⟩
theorem goodRow_of {n i : Nat} {l : List Int} (hu : l.Pairwise (· < ·)) (h : ∀ x ∈ l, 0 ≤ x ∧ x < n ∧ x ≠ i) : GoodRow n i l := by
  intro k hk
  have hm := h (l.getD k 0) (getD_mem hk)
  exact ⟨hm.1, hm.2.1, hm.2.2, fun h0 => steps_up hu k h0 hk⟩
theorem GoodRow.length {n i : Nat} {l : List Int} (h : GoodRow n i l) : l.length ≤ n := by
  have e : l = ((List.range n).filter fun j : Nat => decide ((j : Int) ∈ l)).map fun j : Nat => (j : Int) := by
    refine up_ext h.up ?_ fun x => ?_
    · rw [List.pairwise_map]
      exact (List.Pairwise.filter _ (List.pairwise_lt_range)).imp (fun h => by omega)
    · constructor
      · intro hx
        obtain ⟨h1, h2, _⟩ := h.mem hx
        exact List.mem_map.2 ⟨x.toNat, List.mem_filter.2 ⟨List.mem_range.2 (by omega), decide_eq_true (by rw [Int.toNat_of_nonneg h1]; exact hx)⟩, Int.toNat_of_nonneg h1⟩
      · intro hx
        obtain ⟨j, hj, rfl⟩ := List.mem_map.1 hx
        exact of_decide_eq_true (List.mem_filter.1 hj).2
  rw [e, List.length_map]
  exact Nat.le_trans (List.length_filter_le _ _) (by simp)

theorem right_turned {L : List (List Int)} (h : RightL L) : RightL (turnedL L) := by
  refine ⟨by rw [turnedL_length]; exact h.1, fun k hk => ?_⟩
  rw [turnedL_length] at hk ⊢
  rw [turnedL_getD L hk]
  refine goodRow_of (turnTo_up _ _ _) fun x hx => ?_
  obtain ⟨i, hi, rfl, hm⟩ := mem_turnTo.1 hx
  have := (h.2 i hi).mem hm
  exact ⟨by omega, by omega, fun e => this.2.2 (by omega)⟩
theorem turned_twice {L : List (List Int)} (h : RightL L) : turnedL (turnedL L) = L := by
  refine List.ext_getElem? fun k => ?_
  by_cases hk : k < L.length
  · have h1 : (turnedL (turnedL L)).getD k [] = L.getD k [] := by
      rw [turnedL_getD _ (by rw [turnedL_length]; exact hk), turnedL_length]
      refine up_ext (turnTo_up _ _ _) (h.2 k hk).up fun x => ?_
      rw [mem_turnTo]
      constructor
      · rintro ⟨i, hi, rfl, hm⟩
        rw [turnedL_getD _ hi] at hm
        obtain ⟨j, _, e, hm⟩ := mem_turnTo.1 hm
        obtain rfl : k = j := by omega
        exact hm
      · intro hx
        obtain ⟨h1, h2, _⟩ := (h.2 k hk).mem hx
        refine ⟨x.toNat, by omega, by omega, ?_⟩
        rw [turnedL_getD _ (by omega)]
        exact mem_turnTo.2 ⟨k, hk, rfl, by rw [Int.toNat_of_nonneg h1]; exact hx⟩
    have l1 : k < (turnedL (turnedL L)).length := by rw [turnedL_length, turnedL_length]; exact hk
    rw [List.getElem?_eq_getElem l1, List.getElem?_eq_getElem hk]
    rw [List.getD, List.getD, List.getElem?_eq_getElem l1, List.getElem?_eq_getElem hk] at h1
    exact congrArg some h1
  · rw [List.getElem?_eq_none (by rw [turnedL_length, turnedL_length]; omega), List.getElem?_eq_none (by omega)]
end Go.Proofs.Ytojmcjkeniepcaa.Gr
