/-
  Layer 6, sector: lists of sectors, plain. Conditions: as each theorem names.
-/
import Derived.Test.YtpnodocjpedcmaaDoorSeA
namespace Go.Proofs.YtpnodocjpedcmaaDoor.Sec
open Go.Proofs.YtpnodocjpedcmaaDoor.Kit

theorem getS_low {l : Sl} {k : Int} (h : ∀ p ∈ l, k < p.1) : getS l k = none := by
  induction l with
  | nil => rfl
  | cons q r ih =>
    obtain ⟨j, u⟩ := q
    have := h (j, u) (by simp)
    simp only at this
    unfold getS
    rw [if_neg (by omega)]
    exact ih fun p hp => h p (List.mem_cons_of_mem _ hp)
theorem getS_putS {l : Sl} (hu : Up l) (k j : Int) (o : Option (List Int)) : getS (putS l k o) j = if j = k then some o else getS l j := by
  induction l with
  | nil =>
    unfold putS getS
    by_cases c : k = j
    · rw [if_pos c, if_pos c.symm]
    · rw [if_neg c, if_neg (fun e => c e.symm)]
      rfl
  | cons q r ih =>
    obtain ⟨i, u⟩ := q
    obtain ⟨h1, h2⟩ := List.pairwise_cons.1 hu
    unfold putS
    by_cases c1 : k < i
    · rw [if_pos c1]
      conv => lhs; unfold getS
      by_cases c : k = j
      · rw [if_pos c, if_pos c.symm]
      · rw [if_neg c, if_neg (fun e => c e.symm)]
    · rw [if_neg c1]
      by_cases c2 : k = i
      · rw [if_pos c2]
        subst c2
        conv => lhs; unfold getS
        by_cases c : k = j
        · rw [if_pos c, if_pos c.symm]
        · rw [if_neg c, if_neg (fun e => c e.symm)]
          conv => rhs; unfold getS
          rw [if_neg c]
      · rw [if_neg c2]
        conv => lhs; unfold getS
        rw [ih h2]
        conv => rhs; unfold getS
        by_cases c : i = j
        · rw [if_pos c, if_pos c, if_neg (by omega)]
        · rw [if_neg c, if_neg c]
theorem getS_some {l : Sl} (hu : Up l) {p : Int × Option (List Int)} (h : p ∈ l) : getS l p.1 = some p.2 := by
  induction l with
  | nil => cases h
  | cons q r ih =>
    obtain ⟨j, u⟩ := q
    obtain ⟨h1, h2⟩ := List.pairwise_cons.1 hu
    rcases List.mem_cons.1 h with rfl | h
    · unfold getS; rw [if_pos rfl]
    · have : j < p.1 := h1 p h
      unfold getS
      rw [if_neg (by omega)]
      exact ih h2 h
theorem sl_ext : ∀ {l m : Sl}, Up l → Up m → (∀ k, getS l k = getS m k) → l = m
  | [], [], _, _, _ => rfl
  | [], q :: r, _, hm, h => by
    have := h q.1
    rw [getS_some hm (by simp)] at this
    cases this
  | q :: r, [], hl, _, h => by
    have := h q.1
    rw [getS_some hl (by simp)] at this
    cases this
  | (i, u) :: r, (j, v) :: t, hl, hm, h => by
    obtain ⟨a1, a2⟩ := List.pairwise_cons.1 hl
    obtain ⟨b1, b2⟩ := List.pairwise_cons.1 hm
    have e : i = j := by
      rcases Int.lt_trichotomy i j with c | c | c
      · have := h i
        rw [getS_low (l := (j, v) :: t) (fun p hp => by
          rcases List.mem_cons.1 hp with rfl | hp
          · exact c
          · have : j < p.1 := b1 p hp
            omega)] at this
        unfold getS at this
        rw [if_pos rfl] at this
        cases this
      · exact c
      · have := h j
        rw [getS_low (l := (i, u) :: r) (fun p hp => by
          rcases List.mem_cons.1 hp with rfl | hp
          · exact c
          · have : i < p.1 := a1 p hp
            omega)] at this
        unfold getS at this
        rw [if_pos rfl] at this
        cases this
    subst e
    have ev : u = v := by
      have := h i
      unfold getS at this
      rw [if_pos rfl, if_pos rfl] at this
      injection this
    subst ev
    congr 1
    refine sl_ext a2 b2 fun k => ?_
    have := h k
    unfold getS at this
    by_cases c : i = k
    · subst c
      rw [getS_low (fun p hp => a1 p hp), getS_low (fun p hp => b1 p hp)]
    · rw [if_neg c, if_neg c] at this
      exact this

/-- What waits is kept. -/
def merge (k w : Sl) : Sl := w.foldl (fun k p => putS k p.1 p.2) k
theorem merge_up {k w : Sl} (h : Up k) : Up (merge k w) := by
  induction w generalizing k with
  | nil => exact h
  | cons q r ih => exact ih (h.putS q.1 q.2)
theorem mem_merge {k w : Sl} {p : Int × Option (List Int)} (h : p ∈ merge k w) : p ∈ k ∨ p ∈ w := by
  induction w generalizing k with
  | nil => exact Or.inl h
  | cons q r ih =>
    rcases ih h with h | h
    · rcases mem_putS h with rfl | h
      · exact Or.inr (by simp)
      · exact Or.inl h
    · exact Or.inr (List.mem_cons_of_mem _ h)
theorem getS_merge {k w : Sl} (h : Up k) (hw : Up w) (j : Int) : getS (merge k w) j = match getS w j with | some o => some o | none => getS k j := by
  induction w generalizing k with
  | nil => rfl
  | cons q r ih =>
    obtain ⟨i, u⟩ := q
    obtain ⟨a1, a2⟩ := List.pairwise_cons.1 hw
    show getS (merge (putS k i u) r) j = _
    have e : getS ((i, u) :: r) j = if i = j then some u else getS r j := rfl
    rw [ih (h.putS i u) a2, getS_putS h, e]
    by_cases c : i = j
    · subst c
      rw [getS_low (fun p hp => a1 p hp), if_pos rfl, if_pos rfl]
    · rw [if_neg c, if_neg (fun e => c e.symm)]
end Go.Proofs.YtpnodocjpedcmaaDoor.Sec
