/-
  Layer 6, sector: what steps keep, and what is behind a fall; plain. Conditions: as each theorem names.
-/
import Derived.Test.YtfngmdojogdodaaSeU
namespace Go.Proofs.Ytfngmdojogdodaa.Sec
open Go.ChangeShapes Go.WideShapes Go.ChangeAt Go.RowKit Go.Proofs.Ytfngmdojogdodaa.Kit

theorem Dv.tick_kept (s : Dv) : s.tick.kept = s.kept := by
  unfold Dv.tick
  split
  · rfl
  · split
    · exact s.down_kept
    · rfl
theorem Dv.tick_waits (s : Dv) : s.tick.waits = s.waits := by
  unfold Dv.tick
  split
  · rfl
  · split
    · exact s.down_waits
    · rfl
theorem Dv.Ok.back {s : Dv} (h : s.Ok) (picks : List Int) : (s.back picks).Ok := by
  have hd := h.down
  obtain ⟨h1, h2⟩ := backK_ok hd picks s.down.waits.length (Nat.le_refl _)
  rw [back_form]
  exact ⟨hd.s1, hd.s2, hd.c1, hd.c2, h1, up_nil, h2, fun _ h => (List.not_mem_nil h).elim, fun _ h => (List.not_mem_nil h).elim, Int.le_refl _, by show (-1 : Int) ≤ _; omega, hd.o1, hd.w1⟩
theorem stepD_ok {n : Nat} {s : Dv} {o : Step6} (h : s.Ok) (hi : o.i ≤ 9223372036854775807) : (stepD n s o).Ok := by
  unfold stepD
  split
  · unfold Dv.write
    split
    · exact h
    split
    · exact h
    split
    · exact h
    rename_i hr _
    have ht := (h.writes (xs := stepB n o.b o.long) (by omega : 0 ≤ o.i) (by omega)).tick
    split
    · exact ht
    · exact ⟨ht.s1, ht.s2, ht.c1, ht.c2, ht.ku, ht.wu, ht.kr, ht.wr_, ht.wn, ht.f1, ht.f2, ht.o1, by have := h.w1; show 0 ≤ s.wr + 1; omega⟩
  split
  · unfold Dv.sync
    split
    · exact h
    split
    · exact h.tick
    · exact h.tick.flush
  split
  · exact ⟨h.s1, h.s2, h.c1, h.c2, h.ku, h.wu, h.kr, h.wr_, h.wn, by show -1 ≤ max o.i 0; omega, by show max o.i 0 ≤ _; omega, h.o1, h.w1⟩
  split
  · exact h.down
  split
  · exact h.back _
  exact h

/-! ### the kept ones -/
theorem wait_at {s : Dv} (h : s.Ok) {k t : Nat} (hk : k < s.waits.length) (ht : t < s.waits.length) : (s.waits.getD k (0, none)).1 = (s.waits.getD t (0, none)).1 ↔ k = t := by
  have hp := List.pairwise_iff_getElem.1 h.wu
  rw [List.getD, List.getD, List.getElem?_eq_getElem hk, List.getElem?_eq_getElem ht]
  simp only [Option.getD_some]
  constructor
  · intro e
    rcases Nat.lt_trichotomy k t with hl | hl | hl
    · have := hp k t hk ht hl
      omega
    · exact hl
    · have := hp t k ht hk hl
      omega
  · rintro rfl
    rfl
theorem getS_backK_out {s : Dv} (h : s.Ok) (picks : List Int) {j : Int} (hj : getS s.waits j = none) : ∀ k, k ≤ s.waits.length → getS (backK s picks k) j = getS s.kept j
  | 0, _ => rfl
  | k + 1, hk => by
    have ih := getS_backK_out h picks hj k (by omega)
    obtain ⟨hu, _⟩ := backK_ok h picks k (by omega)
    have hne : j ≠ (s.waits.getD k (0, none)).1 := by
      intro e
      have hm : s.waits.getD k (0, none) ∈ s.waits := by
        rw [List.getD, List.getElem?_eq_getElem (by omega : k < s.waits.length)]
        exact List.getElem_mem _
      have := getS_some h.wu hm
      rw [← e, hj] at this
      cases this
    rw [backK_next]
    unfold backStep
    split
    · rw [getS_putS hu, if_neg hne, ih]
    · split
      · rw [getS_putS hu, if_neg hne, ih]
      · exact ih
theorem getS_backK_in {s : Dv} (h : s.Ok) (picks : List Int) {t : Nat} (ht : t < s.waits.length) : ∀ k, k ≤ s.waits.length →
    getS (backK s picks k) (s.waits.getD t (0, none)).1 = if t < k then (if picks.getD t 0 = 1 then some (s.waits.getD t (0, none)).2 else if picks.getD t 0 = 2 then some none else getS s.kept (s.waits.getD t (0, none)).1) else getS s.kept (s.waits.getD t (0, none)).1
  | 0, _ => by rw [if_neg (by omega)]; rfl
  | k + 1, hk => by
    have ih := getS_backK_in h picks ht k (by omega)
    obtain ⟨hu, _⟩ := backK_ok h picks k (by omega)
    have hw := wait_at h (by omega : k < s.waits.length) ht
    rw [backK_next]
    by_cases hkt : k = t
    · subst hkt
      rw [if_neg (by omega)] at ih
      rw [if_pos (by omega)]
      unfold backStep
      split
      · rw [getS_putS hu, if_pos rfl]
      · split
        · rw [getS_putS hu, if_pos rfl]
        · exact ih
    · have hne : (s.waits.getD t (0, none)).1 ≠ (s.waits.getD k (0, none)).1 := fun e => hkt (hw.1 e.symm)
      have e : getS (backStep picks (backK s picks k) k (s.waits.getD k (0, none))) (s.waits.getD t (0, none)).1 = getS (backK s picks k) (s.waits.getD t (0, none)).1 := by
        unfold backStep
        split
        · rw [getS_putS hu, if_neg hne]
        · split
          · rw [getS_putS hu, if_neg hne]
          · rfl
      rw [e, ih]
      by_cases htk : t < k
      · rw [if_pos htk, if_pos (by omega : t < k + 1)]
      · rw [if_neg htk, if_neg (by omega : ¬ t < k + 1)]
theorem getS_mem {l : Sl} {j : Int} {o : Option (List Int)} (h : getS l j = some o) : ∃ t, t < l.length ∧ l.getD t (0, none) = (j, o) := by
  have hm := mem_getS h
  obtain ⟨t, ht, e⟩ := List.mem_iff_getElem.1 hm
  exact ⟨t, ht, by rw [List.getD, List.getElem?_eq_getElem ht, e]; rfl⟩

/-- Behind a fall: as it was synced last, as it was written last, or torn. -/
theorem back_read {s : Dv} (h : s.Ok) (picks : List Int) (i : Int) :
    (s.back picks).read i = ({ s with waits := [], off := false } : Dv).read i ∨ (s.back picks).read i = ({ s with off := false } : Dv).read i ∨ (((s.back picks).read i).2 = 7 ∧ 2 ∈ picks) := by
  have hc : s.down.count = s.count := (near_down s).2.2.2
  have hz : s.down.size = s.size := (near_down s).2.2.1
  unfold Dv.back Dv.read
  simp only [hc, hz, Bool.false_eq_true, if_false]
  by_cases hi : i < 0 ∨ (s.count : Int) ≤ i
  · rw [if_pos hi, if_pos hi]
    exact Or.inl rfl
  rw [if_neg hi, if_neg hi, if_neg hi]
  have hn : getS [] i = none := rfl
  rw [hn]
  cases hw : getS s.waits i with
  | none =>
    rw [getS_backK_out h picks hw _ (Nat.le_refl _)]
    exact Or.inl rfl
  | some o =>
    obtain ⟨t, ht, e⟩ := getS_mem hw
    have hb := getS_backK_in h picks ht _ (Nat.le_refl _)
    rw [e, if_pos ht] at hb
    rw [hb]
    simp only
    by_cases h1 : picks.getD t 0 = 1
    · rw [if_pos h1]
      cases o with
      | none => exact absurd rfl (h.wn _ (mem_getS hw))
      | some xs => exact Or.inr (Or.inl rfl)
    · rw [if_neg h1]
      by_cases h2 : picks.getD t 0 = 2
      · rw [if_pos h2]
        refine Or.inr (Or.inr ⟨rfl, ?_⟩)
        by_cases hl : t < picks.length
        · rw [List.getD, List.getElem?_eq_getElem hl] at h2
          exact h2 ▸ List.getElem_mem hl
        · rw [List.getD, List.getElem?_eq_none (by omega)] at h2
          cases h2
      · rw [if_neg h2]
        exact Or.inl rfl

/-! ### what was synced -/
def Keep2 (s : Dv) (X : List Int) : Prop := getS s.kept 2 = some (some X) ∧ getS s.waits 2 = none
theorem keep2_same {s t : Dv} {X : List Int} (h : Keep2 s X) (h1 : t.kept = s.kept) (h2 : t.waits = s.waits) : Keep2 t X := by
  unfold Keep2
  rw [h1, h2]
  exact h
theorem keep2_back {s : Dv} {X : List Int} (hs : s.Ok) (h : Keep2 s X) (picks : List Int) : Keep2 (s.back picks) X :=
  ⟨(getS_backK_out hs picks h.2 _ (Nat.le_refl _)).trans h.1, rfl⟩
theorem keep2_step {n : Nat} {s : Dv} {o : Step6} {X : List Int} (hs : s.Ok) (h : Keep2 s X) (ho : ¬ (o.k = 0 ∧ o.i = 2)) : Keep2 (stepD n s o) X := by
  unfold stepD
  split
  · rename_i h0
    have hi : (2 : Int) ≠ o.i := fun e => ho ⟨h0, e.symm⟩
    have hw : Keep2 (s.writes o.i (stepB n o.b o.long)) X := ⟨h.1, by
      show getS (putS s.waits o.i _) 2 = none
      rw [getS_putS hs.wu, if_neg hi]
      exact h.2⟩
    have ht := keep2_same hw (Dv.tick_kept _) (Dv.tick_waits _)
    unfold Dv.write
    split
    · exact h
    split
    · exact h
    split
    · exact h
    split
    · exact ht
    · exact ⟨ht.1, ht.2⟩
  split
  · have ht := keep2_same h (Dv.tick_kept s) (Dv.tick_waits s)
    unfold Dv.sync
    split
    · exact h
    split
    · exact ht
    · refine ⟨?_, rfl⟩
      show getS (merge s.tick.kept s.tick.waits) 2 = _
      rw [getS_merge hs.tick.ku hs.tick.wu, ht.2]
      exact ht.1
  split
  · exact ⟨h.1, h.2⟩
  split
  · exact keep2_same h s.down_kept s.down_waits
  split
  · exact keep2_back hs h _
  exact h
theorem keep2_read {s : Dv} {X : List Int} (hs : s.Ok) (h : Keep2 s X) (hc : 2 < s.count) : (s.back []).read 2 = (X, 0) := by
  have hb := keep2_back hs h []
  have hd : (s.back []).count = s.count := (near_down s).2.2.2
  unfold Dv.read
  rw [if_neg (by show ¬ (false = true); decide), hd, if_neg (by omega), hb.2, hb.1]
end Go.Proofs.Ytfngmdojogdodaa.Sec
