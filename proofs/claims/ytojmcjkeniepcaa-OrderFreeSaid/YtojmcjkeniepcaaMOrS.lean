/-
  Layer 19: the order that is made is right; where each reads none but lower ones, none is broken: plain. Conditions: as each theorem names.
-/
import Derived.Test.YtojmcjkeniepcaaMOrP
namespace Go.Proofs.Ytojmcjkeniepcaa.Ord
open Go.ChangeShapes Go.WideShapes Go.ChangeAt Go.RowKit Go.Proofs.Ytojmcjkeniepcaa.Kit Go.Proofs.Ytojmcjkeniepcaa.Gr Go.Proofs.Ytojmcjkeniepcaa.Ordr Go.Proofs.Ytojmcjkeniepcaa.Hp

def StepsOk (L : List (List Int)) (o b : List Int) : Prop := ∀ k (h : k < o.length), StepOk L b (o.take k) o[k]
theorem steps_found {L : List (List Int)} {o b : List Int} {k : Nat} (h : StepsOk L o b) (hk : foundF L o b = some k) : StepsOk L (o ++ [(k : Int)]) b := by
  intro i hi
  rw [List.length_append, List.length_singleton] at hi
  by_cases hio : i < o.length
  · rw [List.take_append_of_le_length (by omega), List.getElem_append_left hio]
    exact h i hio
  · obtain rfl : i = o.length := by omega
    rw [List.take_left, List.getElem_concat_length rfl]
    obtain ⟨⟨h1, h2⟩, h3, _⟩ := found_some.1 hk
    refine ⟨by omega, by omega, h1, fun r hr => ?_⟩
    rw [Int.toNat_natCast] at hr
    have h4 := List.countP_eq_zero.1 h2 r hr
    simp only [decide_eq_true_eq, Classical.not_not] at h4
    exact List.mem_append.1 h4
theorem steps_more {L : List (List Int)} {o b : List Int} {x : Int} (h : StepsOk L o b) : StepsOk L o (b ++ [x]) := by
  intro i hi
  obtain ⟨h1, h2, h3, h4⟩ := h i hi
  exact ⟨h1, h2, h3, fun r hr => (h4 r hr).imp id (fun h => List.mem_append_left _ h)⟩
theorem ofGo_keeps (L : List (List Int)) : ∀ (f : Nat) (o b : List Int), f + o.length + b.length = 2 * L.length → GoodO o L.length → GoodO b L.length → StepsOk L o b →
    ∃ o' b', ofGo L f (o, b) = (o', b') ∧ o'.length = L.length ∧ GoodO o' L.length ∧ GoodO b' L.length ∧ StepsOk L o' b'
  | 0, o, b, hf, ho, hb, hs => ⟨o, b, rfl, by have := good_len ho; have := good_len hb; omega, ho, hb, hs⟩
  | f + 1, o, b, hf, ho, hb, hs => by
    unfold ofGo
    by_cases hl : o.length < L.length
    · rw [if_pos hl]
      unfold ofStep
      cases hk : foundF L o b with
      | some k =>
        simp only
        have h1 := found_some.1 hk
        exact ofGo_keeps L f _ _ (by simp; omega) (GoodO.snoc.2 ⟨ho, by omega, by omega, h1.1.1⟩) hb (steps_found hs hk)
      | none =>
        obtain ⟨k, hk2⟩ := left_is hl hk
        simp only [hk2]
        have h1 := left_some.1 hk2
        exact ofGo_keeps L f _ _ (by simp [optI]; omega) ho (GoodO.snoc.2 ⟨hb, by show (0 : Int) ≤ (k : Int); omega, by show (k : Int) < _; omega, h1.1.2⟩) (steps_more hs)
    · rw [if_neg hl]
      exact ⟨o, b, rfl, by have := good_len ho; omega, ho, hb, hs⟩
theorem of_right {L : List (List Int)} (hR : RightL L) : (GoodO (ofL L).1 L.length ∧ GoodO (ofL L).2 L.length) ∧ rightR L (ofL L).1 (ofL L).2 = true := by
  obtain ⟨o, b, e, h1, h2, h3, h4⟩ := ofGo_keeps L (2 * L.length) [] [] (by simp) ⟨by simp, List.nodup_nil⟩ ⟨by simp, List.nodup_nil⟩ (fun k h => absurd h (by simp))
  unfold ofL
  rw [e]
  refine ⟨⟨h2, h3⟩, ?_⟩
  unfold rightR
  rw [if_pos hR, if_pos h1, goR_all]
  intro k hk
  rw [List.nil_append]
  exact h4 k hk

/-- Each reads none but lower ones. -/
def LowL (L : List (List Int)) : Prop := ∀ i, i < L.length → ∀ x ∈ L.getD i [], x < i
theorem max_missing {p : Nat → Prop} [DecidablePred p] : ∀ n : Nat, (∃ k, k < n ∧ p k) → ∃ k, k < n ∧ p k ∧ ∀ j, k < j → j < n → ¬ p j
  | 0, ⟨k, hk, _⟩ => absurd hk (by omega)
  | n + 1, ⟨k, hk, hp⟩ => by
    by_cases hn : p n
    · exact ⟨n, by omega, hn, fun j h1 h2 => absurd h1 (by omega)⟩
    · obtain ⟨m, h1, h2, h3⟩ := max_missing n ⟨k, by have : k ≠ n := fun e => hn (e ▸ hp); omega, hp⟩
      refine ⟨m, by omega, h2, fun j h4 h5 => ?_⟩
      by_cases hj : j = n
      · subst hj; exact hn
      · exact h3 j h4 (by omega)
theorem low_found {L : List (List Int)} (hL : LowL L) {o b : List Int} (hl : o.length < L.length) : ∃ k, foundF L o b = some k := by
  obtain ⟨k, hk, h1, h2⟩ := max_missing (p := fun k => (k : Int) ∉ o) L.length (missing _ _ hl)
  cases e : foundF L o b with
  | some j => exact ⟨j, rfl⟩
  | none =>
    refine absurd ?_ (found_none.1 e k hk)
    refine ⟨h1, List.countP_eq_zero.2 fun r hr => ?_⟩
    obtain ⟨i, hi, rfl, hm⟩ := mem_turnTo.1 hr
    have h3 := hL i hi _ hm
    have h4 := h2 i (by omega) hi
    simp only [decide_eq_true_eq, Classical.not_not]
    exact List.mem_append_left _ (Classical.not_not.1 h4)
theorem ofGo_low {L : List (List Int)} (hL : LowL L) : ∀ (f : Nat) (o : List Int), (ofGo L f (o, [])).2 = []
  | 0, _ => rfl
  | f + 1, o => by
    unfold ofGo
    by_cases hl : o.length < L.length
    · rw [if_pos hl]
      unfold ofStep
      obtain ⟨k, hk⟩ := low_found hL (b := []) hl
      simp only [hk]
      exact ofGo_low hL f _
    · rw [if_neg hl]
theorem of_low {L : List (List Int)} (hL : LowL L) : (ofL L).2 = [] := ofGo_low hL _ _
theorem of_len {L : List (List Int)} : (ofL L).1.length = L.length := by
  obtain ⟨o, b, e, h1, _⟩ := ofGo_keeps L (2 * L.length) [] [] (by simp) ⟨by simp, List.nodup_nil⟩ ⟨by simp, List.nodup_nil⟩ (fun k h => absurd h (by simp))
  unfold ofL
  rw [e]
  exact h1

/-- What is kept of a row, so that it reads none but lower ones, and rises. -/
def keepStep (i : Nat) (acc : List Int) (x : Int) : List Int := if 0 ≤ x ∧ x < i ∧ (acc = [] ∨ acc.getD (acc.length - 1) 0 < x) then acc ++ [x] else acc
def kept (i : Nat) (l : List Int) : List Int := l.foldl (keepStep i) []
theorem kept_snoc (i : Nat) (l : List Int) (x : Int) : kept i (l ++ [x]) = keepStep i (kept i l) x := by unfold kept; rw [List.foldl_append]; rfl
theorem kept_next (i : Nat) (l : List Int) {k : Nat} (h : k < l.length) : kept i (l.take (k + 1)) = keepStep i (kept i (l.take k)) (l.getD k 0) := by rw [take_nextI l k h, kept_snoc]
/-- In bounds, rising, none longer than what it was kept of. -/
def KeptOk (i : Nat) (l : List Int) : Prop := (∀ x ∈ l, 0 ≤ x ∧ x < (i : Int)) ∧ l.Pairwise (· < ·)
theorem keepStep_ok {i : Nat} {acc : List Int} (h : KeptOk i acc) (x : Int) : KeptOk i (keepStep i acc x) ∧ (keepStep i acc x).length ≤ acc.length + 1 := by
  unfold keepStep
  split
  · rename_i hx
    refine ⟨⟨fun y hy => ?_, ?_⟩, by simp⟩
    · rcases List.mem_append.1 hy with hy | hy
      · exact h.1 y hy
      · obtain rfl := List.mem_singleton.1 hy; exact ⟨hx.1, hx.2.1⟩
    · rw [List.pairwise_append]
      refine ⟨h.2, by simp, fun a ha b hb => ?_⟩
      obtain rfl := List.mem_singleton.1 hb
      rcases hx.2.2 with e | e
      · subst e; simp at ha
      · obtain ⟨j, hj, rfl⟩ := List.getElem_of_mem ha
        rw [Hp.getD_eq (by omega)] at e
        by_cases hj2 : j = acc.length - 1
        · subst hj2; exact e
        · have := (List.pairwise_iff_getElem.1 h.2) j (acc.length - 1) hj (by omega) (by omega)
          omega
  · exact ⟨h, by omega⟩
theorem foldl_keep (i : Nat) : ∀ (l acc : List Int), KeptOk i acc → KeptOk i (l.foldl (keepStep i) acc) ∧ (l.foldl (keepStep i) acc).length ≤ acc.length + l.length
  | [], acc, h => ⟨h, by simp⟩
  | x :: l, acc, h => by
    have h1 := keepStep_ok h x
    have h2 := foldl_keep i l _ h1.1
    rw [List.foldl_cons]
    exact ⟨h2.1, by rw [List.length_cons]; omega⟩
theorem kept_ok (i : Nat) (l : List Int) : KeptOk i (kept i l) ∧ (kept i l).length ≤ l.length := by
  have h := foldl_keep i l [] ⟨by simp, List.Pairwise.nil⟩
  exact ⟨h.1, by have := h.2; rw [List.length_nil, Nat.zero_add] at this; exact this⟩
def lowTo (L : List (List Int)) (k : Nat) : List (List Int) := (List.range k).map fun i => kept i (L.getD i [])
theorem lowTo_next (L : List (List Int)) (k : Nat) : lowTo L (k + 1) = lowTo L k ++ [kept k (L.getD k [])] := by simp [lowTo, List.range_succ]
theorem lowTo_length (L : List (List Int)) (k : Nat) : (lowTo L k).length = k := by simp [lowTo]
theorem lowTo_getD {L : List (List Int)} {k i : Nat} (h : i < k) : (lowTo L k).getD i [] = kept i (L.getD i []) := by
  unfold lowTo
  rw [List.getD, List.getElem?_map, List.getElem?_range h]
  rfl
theorem low_right (L : List (List Int)) {k : Nat} (hk : k ≤ 4096) : RightL (lowTo L k) ∧ LowL (lowTo L k) := by
  refine ⟨⟨by rw [lowTo_length]; exact hk, fun i hi => ?_⟩, fun i hi x hx => ?_⟩
  · rw [lowTo_length] at hi ⊢
    rw [lowTo_getD hi]
    obtain ⟨⟨h1, h2⟩, _⟩ := kept_ok i (L.getD i [])
    intro j hj
    have h3 := h1 _ (List.getElem_mem hj)
    unfold GoodAt
    rw [Hp.getD_eq hj]
    refine ⟨h3.1, by omega, by omega, fun hj0 => ?_⟩
    rw [Hp.getD_eq (by omega)]
    exact (List.pairwise_iff_getElem.1 h2) (j - 1) j (by omega) hj (by omega)
  · rw [lowTo_length] at hi
    rw [lowTo_getD hi] at hx
    exact ((kept_ok i _).1.1 x hx).2
theorem low_answers (L : List (List Int)) {k : Nat} (hk : k ≤ 4096) : (ofL (lowTo L k)).2 = [] ∧ (ofL (lowTo L k)).1.length = k ∧ rightR (lowTo L k) (ofL (lowTo L k)).1 [] = true := by
  obtain ⟨h1, h2⟩ := low_right L hk
  have h3 := of_low h2
  have h4 := (of_right h1).2
  rw [h3] at h4
  exact ⟨h3, by rw [of_len, lowTo_length], h4⟩
end Go.Proofs.Ytojmcjkeniepcaa.Ord
