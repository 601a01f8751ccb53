/-
  Layer 19: the order that is made is right; where each reads none but lower ones, none is broken: plain. Conditions: as each theorem names.
-/
import Derived.Test.YtojmcjkeniepcaaMOrP
namespace Go.Proofs.Ytojmcjkeniepcaa.Ord
open Go.ChangeShapes Go.WideShapes Go.ChangeAt Go.RowKit Go.Proofs.Ytojmcjkeniepcaa.Kit Go.Proofs.Ytojmcjkeniepcaa.Gr Go.Proofs.Ytojmcjkeniepcaa.Ordr Go.Proofs.Ytojmcjkeniepcaa.Hp

def StepsOk (L : List (List Int)) (o b : List Int) : Prop := ∀ k (h : k < o.length), StepOk L b (o.take k) o[k]
theorem steps_found {L : List (List Int)} {o b : List Int} {k : Nat} (h : StepsOk L o b) (hk : foundF L o b = some k) : StepsOk L (o ++ [(k : Int)]) b := by
  intro i hi
  rw [List.length_append, List.length_singleton] at hi
  by_cases hio : i < o.length
  · rw [List.take_append_of_le_length (by omega), List.getElem_append_left hio]
    exact h i hio
  · obtain rfl : i = o.length := by omega
    rw [List.take_left, List.getElem_concat_length rfl]
    obtain ⟨⟨h1, h2⟩, h3, _⟩ := found_some.1 hk
    refine ⟨by omega, by omega, h1, fun r hr => ?_⟩
    rw [Int.toNat_natCast] at hr
    have h4 := List.countP_eq_zero.1 h2 r hr
    simp only [decide_eq_true_eq, Classical.not_not] at h4
    exact List.mem_append.1 h4
theorem steps_more {L : List (List Int)} {o b : List Int} {x : Int} (h : StepsOk L o b) : StepsOk L o (b ++ [x]) := by
  intro i hi
  obtain ⟨h1, h2, h3, h4⟩ := h i hi
  exact ⟨h1, h2, h3, fun r hr => (h4 r hr).imp id (fun h => List.mem_append_left _ h)⟩
theorem ofGo_keeps (L : List (List Int)) : ∀ (f : Nat) (o b : List Int), f + o.length + b.length = 2 * L.length → GoodO o L.length → GoodO b L.length → StepsOk L o b →
    ∃ o' b', ofGo L f (o, b) = (o', b') ∧ o'.length = L.length ∧ GoodO o' L.length ∧ GoodO b' L.length ∧ StepsOk L o' b'
  | 0, o, b, hf, ho, hb, hs => ⟨o, b, rfl, by have := good_len ho; have := good_len hb; omega, ho, hb, hs⟩
  | f + 1, o, b, hf, ho, hb, hs => by
    unfold ofGo
    by_cases hl : o.length < L.length
    · rw [if_pos hl]
      unfold ofStep
      cases hk : foundF L o b with
      | some k =>
        simp only
        have h1 := found_some.1 hk
        exact ofGo_keeps L f _ _ (by simp; omega) (GoodO.snoc.2 ⟨ho, by omega, by omega, h1.1.1⟩) hb (steps_found hs hk)
      | none =>
        obtain ⟨k, hk2⟩ := left_is hl hk
        simp only [hk2]
        have h1 := left_some.1 hk2
        exact ofGo_keeps L f _ _ (by simp [optI]; omega) ho (GoodO.snoc.2 ⟨hb, by show (0 : Int) ≤ (k : Int); omega, by show (k : Int) < _; omega, h1.1.2⟩) (steps_more hs)
    · rw [if_neg hl]
      exact ⟨o, b, rfl, by have := good_len ho; omega, ho, hb, hs⟩
theorem of_right {L : List (List Int)} (hR : RightL L) : (GoodO (ofL L).1 L.length ∧ GoodO (ofL L).2 L.length) ∧ rightR L (ofL L).1 (ofL L).2 = true := by
  obtain ⟨o, b, e, h1, h2, h3, h4⟩ := ofGo_keeps L (2 * L.length) [] [] (by simp) ⟨by simp, List.nodup_nil⟩ ⟨by simp, List.nodup_nil⟩ (fun k h => absurd h (by simp))
  unfold ofL
  rw [e]
  refine ⟨⟨h2, h3⟩, ?_⟩
  unfold rightR
  rw [if_pos hR, if_pos h1, goR_all]
  intro k hk
  rw [List.nil_append]
  exact h4 k hk

/-- Each reads none but lower ones. -/
def LowL (L : List (List Int)) : Prop := ∀ i, i < L.length → ∀ x ∈ L.getD i [], x < i
theorem max_missing {p : Nat → Prop} [DecidablePred p] : ∀ n : Nat, (∃ k, k < n ∧ p k) → ∃ k, k < n ∧ p k ∧ ∀ j, k < j → j < n → ¬ p j
  | 0, ⟨k, hk, _⟩ => absurd hk (by omega)
  | n + 1, ⟨k, hk, hp⟩ => by
    by_cases hn : p n
    · exact ⟨n, by omega, hn, fun j h1 h2 => absurd h1 (by omega)⟩
    · obtain ⟨m, h1, h2, h3⟩ := max_missing n ⟨k, by have : k ≠ n := fun e => hn (e ▸ hp); omega, hp⟩
      refine ⟨m, by omega, h2, fun j h4 h5 => ?_⟩
      by_cases hj : j = n
      · subst hj; exact hn
      · exact h3 j h4 (by omega)
theorem low_found {L : List (List Int)} (hL : LowL L) {o b : List Int} (hl : o.length < L.length) : ∃ k, foundF L o b = some k := by
  obtain ⟨k, hk, h1, h2⟩ := max_missing (p := fun k => (k : Int) ∉ o) L.length (missing _ _ hl)
  cases e : foundF L o b with
  | some j => exact ⟨j, rfl⟩
  | none =>
    refine absurd ?_ (found_none.1 e k hk)
    refine ⟨h1, List.countP_eq_zero.2 fun r hr => ?_⟩
    obtain ⟨i, hi, rfl, hm⟩ := mem_turnTo.1 hr
    have h3 := hL i hi _ hm
    have h4 := h2 i (by omega) hi
    simp only [decide_eq_true_eq, Classical.not_not]
    exact List.mem_append_left _ (Classical.not_not.1 h4)
theorem ofGo_low {L : List (List Int)} (hL : LowL L) : ∀ (f : Nat) (o : List Int), (ofGo L f (o, [])).2 = []
  | 0, _ => rfl
  | f + 1, o => by
    unfold ofGo
    by_cases hl : o.length < L.length
    · rw [if_pos hl]
      unfold ofStep
      obtain ⟨k, hk⟩ := low_found hL (b := []) hl
      simp only [hk]
      exact ofGo_low hL f _
    · rw [if_neg hl]
theorem of_low {L : List (List Int)} (hL : LowL L) : (ofL L).2 = [] := ofGo_low hL _ _
theorem of_len {L : List (List Int)} : (ofL L).1.length = L.length := by
  obtain ⟨o, b, e, h1, _⟩ := ofGo_keeps L (2 * L.length) [] [] (by simp) ⟨by simp, List.nodup_nil⟩ ⟨by simp, List.nodup_nil⟩ (fun k h => absurd h (by simp))
  unfold ofL
  rw [e]
  exact h1

/-- What is kept of a row, so that it reads none but lower ones, and rises. -/
def keepL (i : Nat) : List Int → List Int → List Int
  | acc, [] => acc
  | acc, x :: r => keepL i (if 0 ≤ x ∧ x < i ∧ (acc = [] ∨ acc.getD (acc.length - 1) 0 < x) then acc ++ [x] else acc) r
end Go.Proofs.Ytojmcjkeniepcaa.Ord
