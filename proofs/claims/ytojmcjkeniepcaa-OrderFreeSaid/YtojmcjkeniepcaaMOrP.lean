/-
  Layer 19: the order that is made, plainly: who is free, who is left, what a release does. Conditions: as each theorem names.
-/
import Derived.Test.YtojmcjkeniepcaaMOrB
import Derived.Test.YtojmcjkeniepcaaMHpP
namespace Go.Proofs.Ytojmcjkeniepcaa.Ord
open Go.ChangeShapes Go.WideShapes Go.ChangeAt Go.RowKit Go.Proofs.Ytojmcjkeniepcaa.Kit Go.Proofs.Ytojmcjkeniepcaa.Gr Go.Proofs.Ytojmcjkeniepcaa.Ordr Go.Proofs.Ytojmcjkeniepcaa.Hp

/-- How many that read block j aren't among those that are done. -/
def countW (L : List (List Int)) (d : List Int) (j : Nat) : Nat := (turnTo L j L.length).countP fun r => decide (r ∉ d)
theorem countW_congr {L : List (List Int)} {d d' : List Int} (h : ∀ r, r ∈ d ↔ r ∈ d') (j : Nat) : countW L d j = countW L d' j := by
  unfold countW
  congr 1
  funext r
  rw [decide_eq_decide, h r]
theorem countP_less {l d : List Int} {i : Int} (hn : l.Nodup) (hi : i ∉ d) : l.countP (fun r => decide (r ∉ d)) = l.countP (fun r => decide (r ∉ d ++ [i])) + if i ∈ l then 1 else 0 := by
  induction l with
  | nil => simp
  | cons a l ih =>
    rw [List.nodup_cons] at hn
    have ih := ih hn.2
    rw [List.countP_cons, List.countP_cons, ih]
    by_cases ha : a = i
    · subst ha
      rw [if_neg hn.1]
      simp [hi]
    · have e : decide (a ∉ d ++ [i]) = decide (a ∉ d) := by
        rw [decide_eq_decide]
        simp [ha]
      rw [e]
      have e2 : (i ∈ a :: l) ↔ i ∈ l := by
        rw [List.mem_cons]
        exact ⟨fun h => h.resolve_left (fun h => ha h.symm), .inr⟩
      by_cases hil : i ∈ l
      · rw [if_pos hil, if_pos (e2.2 hil)]
        omega
      · rw [if_neg hil, if_neg (fun h => hil (e2.1 h))]
        omega
theorem turnTo_nodup (L : List (List Int)) (k m : Nat) : (turnTo L k m).Nodup := (turnTo_up L k m).imp (fun h => by omega)
theorem mem_turn {L : List (List Int)} {i j : Nat} (hi : i < L.length) : (i : Int) ∈ turnTo L j L.length ↔ (j : Int) ∈ L.getD i [] := by
  rw [mem_turnTo]
  constructor
  · rintro ⟨k, _, e, h⟩
    obtain rfl : i = k := by omega
    exact h
  · intro h
    exact ⟨i, hi, rfl, h⟩
theorem count_rel {L : List (List Int)} {d : List Int} {i : Nat} (hi : i < L.length) (hd : (i : Int) ∉ d) (j : Nat) :
    countW L d j = countW L (d ++ [(i : Int)]) j + if (j : Int) ∈ L.getD i [] then 1 else 0 := by
  unfold countW
  rw [countP_less (turnTo_nodup L j L.length) hd]
  congr 1
  by_cases h : (j : Int) ∈ L.getD i []
  · rw [if_pos h, if_pos ((mem_turn hi).2 h)]
  · rw [if_neg h, if_neg (fun h2 => h ((mem_turn hi).1 h2))]

/-- A row of how many each waits for. -/
def waitL (L : List (List Int)) (d : List Int) : List Int := (List.range L.length).map fun j => (countW L d j : Int)
theorem waitL_length (L : List (List Int)) (d : List Int) : (waitL L d).length = L.length := by simp [waitL]
theorem waitL_getD {L : List (List Int)} {d : List Int} {j : Nat} (h : j < L.length) : (waitL L d).getD j 0 = countW L d j := by
  unfold waitL
  rw [List.getD, List.getElem?_map, List.getElem?_range h]
  rfl
theorem waitL_congr {L : List (List Int)} {d d' : List Int} (h : ∀ r, r ∈ d ↔ r ∈ d') : waitL L d = waitL L d' := by
  unfold waitL
  congr 1
  funext j
  rw [countW_congr h j]
/-- What a row of numbers is, when those of a list have one less each. -/
def relW (ws E : List Int) : List Int := (List.range ws.length).map fun j => ws.getD j 0 - if (j : Int) ∈ E then 1 else 0
theorem relW_length (ws E : List Int) : (relW ws E).length = ws.length := by simp [relW]
theorem relW_getD {ws E : List Int} {j : Nat} (h : j < ws.length) : (relW ws E).getD j 0 = ws.getD j 0 - if (j : Int) ∈ E then 1 else 0 := by
  unfold relW
  rw [List.getD, List.getElem?_map, List.getElem?_range h]
  rfl
theorem list_ext0 {a b : List Int} (hl : a.length = b.length) (h : ∀ i, i < a.length → a.getD i 0 = b.getD i 0) : a = b := by
  refine List.ext_getElem hl fun i h1 h2 => ?_
  have := h i h1
  rwa [Hp.getD_eq h1, Hp.getD_eq h2] at this
theorem relW_nil (ws : List Int) : relW ws [] = ws := list_ext0 (relW_length _ _) fun i hi => by
  rw [relW_length] at hi
  rw [relW_getD hi]
  simp
theorem relW_next {ws E : List Int} {j : Nat} (h : j < ws.length) (hE : (j : Int) ∉ E) : (relW ws E).set j (ws.getD j 0 - 1) = relW ws (E ++ [(j : Int)]) := by
  refine list_ext0 (by rw [List.length_set, relW_length, relW_length]) fun i hi => ?_
  rw [List.length_set, relW_length] at hi
  rw [Hp.getD_set, relW_getD hi, relW_getD hi, relW_length]
  by_cases hij : i = j
  · subst hij
    rw [if_pos ⟨rfl, h⟩, if_pos (by simp)]
  · rw [if_neg (fun h => hij h.1)]
    congr 1
    have : ((i : Int) ∈ E ++ [(j : Int)]) ↔ (i : Int) ∈ E := by
      rw [List.mem_append, List.mem_singleton]
      exact ⟨fun h => h.resolve_right (by omega), .inl⟩
    by_cases h2 : (i : Int) ∈ E
    · rw [if_pos h2, if_pos (this.2 h2)]
    · rw [if_neg h2, if_neg (fun h => h2 (this.1 h))]
theorem relW_wait {L : List (List Int)} {d : List Int} {i : Nat} (hi : i < L.length) (hd : (i : Int) ∉ d) : relW (waitL L d) (L.getD i []) = waitL L (d ++ [(i : Int)]) := by
  refine list_ext0 (by rw [relW_length, waitL_length, waitL_length]) fun j hj => ?_
  rw [relW_length, waitL_length] at hj
  rw [relW_getD (by rw [waitL_length]; exact hj), waitL_getD hj, waitL_getD hj, count_rel hi hd j]
  split <;> omega
/-- Who of a list is put to the free ones, when they have one less. -/
def relH (ws E : List Int) : List Int := E.filter fun j => decide (ws.getD j.toNat 0 = 1)

def FreeK (L : List (List Int)) (o b : List Int) (k : Nat) : Prop := (k : Int) ∉ o ∧ countW L (o ++ b) k = 0
instance (L : List (List Int)) (o b : List Int) (k : Nat) : Decidable (FreeK L o b k) := by unfold FreeK; infer_instance
def foundF (L : List (List Int)) (o b : List Int) : Option Nat := (List.range L.length).find? fun k => decide (FreeK L o b k)
def leftF (L : List (List Int)) (o b : List Int) : Option Nat := (List.range L.length).find? fun k => decide ((k : Int) ∉ o ∧ (k : Int) ∉ b)
def optI : Option Nat → Int | some k => k | none => -1
def ofStep (L : List (List Int)) (s : List Int × List Int) : List Int × List Int := match foundF L s.1 s.2 with
  | some k => (s.1 ++ [(k : Int)], s.2)
  | none => (s.1, s.2 ++ [optI (leftF L s.1 s.2)])
def ofGo (L : List (List Int)) : Nat → List Int × List Int → List Int × List Int
  | 0, s => s
  | f + 1, s => if s.1.length < L.length then ofGo L f (ofStep L s) else s
def ofL (L : List (List Int)) : List Int × List Int := ofGo L (2 * L.length) ([], [])
theorem found_some {L : List (List Int)} {o b : List Int} {k : Nat} : foundF L o b = some k ↔ FreeK L o b k ∧ k < L.length ∧ ∀ j, j < k → ¬ FreeK L o b j := by
  unfold foundF
  rw [List.find?_range_eq_some]
  simp
theorem found_none {L : List (List Int)} {o b : List Int} : foundF L o b = none ↔ ∀ j, j < L.length → ¬ FreeK L o b j := by
  unfold foundF
  rw [List.find?_range_eq_none]
  simp
theorem left_some {L : List (List Int)} {o b : List Int} {k : Nat} : leftF L o b = some k ↔ ((k : Int) ∉ o ∧ (k : Int) ∉ b) ∧ k < L.length ∧ ∀ j, j < k → (j : Int) ∈ o ∨ (j : Int) ∈ b := by
  unfold leftF
  rw [List.find?_range_eq_some]
  simp only [decide_eq_true_eq, List.mem_range, Bool.not_eq_true', decide_eq_false_iff_not]
  constructor
  · rintro ⟨h1, h2, h3⟩
    exact ⟨h1, h2, fun j hj => Classical.byContradiction fun h => h3 j hj ⟨fun h4 => h (.inl h4), fun h4 => h (.inr h4)⟩⟩
  · rintro ⟨h1, h2, h3⟩
    exact ⟨h1, h2, fun j hj h => (h3 j hj).elim h.1 h.2⟩

/-- As long as one is missing, one is missing. -/
theorem missing : ∀ (n : Nat) (o : List Int), o.length < n → ∃ k : Nat, k < n ∧ (k : Int) ∉ o
  | 0, o, h => absurd h (by omega)
  | n + 1, o, h => by
    by_cases hn : (n : Int) ∈ o
    · obtain ⟨k, hk, hko⟩ := missing n (o.erase n) (by rw [List.length_erase_of_mem hn]; have := List.length_pos_of_mem hn; omega)
      exact ⟨k, by omega, fun hm => hko ((List.mem_erase_of_ne (by omega)).2 hm)⟩
    · exact ⟨n, by omega, hn⟩

theorem left_is {L : List (List Int)} {o b : List Int} (hlt : o.length < L.length) (hf : foundF L o b = none) : ∃ k, leftF L o b = some k := by
  obtain ⟨k, hk, hko⟩ := missing _ _ hlt
  have hnf := found_none.1 hf k hk
  have hc : 0 < countW L (o ++ b) k := by
    rcases Nat.eq_zero_or_pos (countW L (o ++ b) k) with h | h
    · exact absurd ⟨hko, h⟩ hnf
    · exact h
  unfold countW at hc
  obtain ⟨r, hr, hd⟩ := List.countP_pos_iff.1 hc
  obtain ⟨i, hi, rfl, _⟩ := mem_turnTo.1 hr
  have hd := of_decide_eq_true hd
  cases e : leftF L o b with
  | some k => exact ⟨k, rfl⟩
  | none =>
    unfold leftF at e
    rw [List.find?_range_eq_none] at e
    have := e i hi
    simp at this
    simp at hd
    rcases this with h | h
    · exact absurd h hd.1
    · exact absurd h hd.2

/-- What is so between two steps. -/
structure Inv (L : List (List Int)) (o b hs : List Int) : Prop where
  ho : GoodO o L.length
  hb : GoodO b L.length
  z : ∀ k : Nat, (k : Int) ∈ o → countW L (o ++ b) k = 0
  h : IsHeap hs
  n : hs.Nodup
  m : ∀ x : Int, x ∈ hs ↔ ∃ k : Nat, k < L.length ∧ x = k ∧ FreeK L o b k

theorem good_nodup {L : List (List Int)} (hR : RightL L) {i : Nat} (hi : i < L.length) : (L.getD i []).Nodup ∧ ∀ x ∈ L.getD i [], ∃ k : Nat, k < L.length ∧ x = k ∧ k ≠ i := by
  have hg := hR.2 i hi
  constructor
  · have := up_steps (l := L.getD i []) (fun k hk hkl => (hg k hkl).2.2.2 hk)
    exact this.imp (fun h => by omega)
  · intro x hx
    obtain ⟨k, hk, rfl⟩ := List.getElem_of_mem hx
    have := hg k hk
    unfold GoodAt at this
    rw [Hp.getD_eq hk] at this
    exact ⟨((L.getD i [])[k]).toNat, by omega, by omega, by omega⟩

theorem mem_relH {L : List (List Int)} (hR : RightL L) {d : List Int} {i : Nat} (hi : i < L.length) {x : Int} : x ∈ relH (waitL L d) (L.getD i []) ↔ ∃ k : Nat, k < L.length ∧ x = k ∧ (k : Int) ∈ L.getD i [] ∧ countW L d k = 1 := by
  unfold relH
  rw [List.mem_filter]
  constructor
  · rintro ⟨h1, h2⟩
    obtain ⟨k, hk, rfl, _⟩ := (good_nodup hR hi).2 x h1
    have h2 := of_decide_eq_true h2
    rw [Int.toNat_natCast, waitL_getD hk] at h2
    exact ⟨k, hk, rfl, h1, by omega⟩
  · rintro ⟨k, hk, rfl, h1, h2⟩
    refine ⟨h1, decide_eq_true ?_⟩
    rw [Int.toNat_natCast, waitL_getD hk]
    omega

theorem inv_none {L : List (List Int)} {o b : List Int} (h : Inv L o b []) : foundF L o b = none := found_none.2 fun j hj hf => by
  have := (h.m j).2 ⟨j, hj, rfl, hf⟩
  simp at this

/-- Who is done: one more. -/
theorem free_more {L : List (List Int)} {o b o' b' : List Int} {i k : Nat} (hi : i < L.length) (hd : (i : Int) ∉ o ++ b) (hm : ∀ r, r ∈ o' ++ b' ↔ r ∈ o ++ b ++ [(i : Int)]) :
    countW L (o' ++ b') k = 0 ↔ countW L (o ++ b) k = 0 ∨ (k : Int) ∈ L.getD i [] ∧ countW L (o ++ b) k = 1 := by
  rw [countW_congr hm k]
  have := count_rel hi hd k
  split at this
  · rename_i h
    constructor
    · intro h0; exact .inr ⟨h, by omega⟩
    · rintro (h0 | ⟨_, h0⟩) <;> omega
  · rename_i h
    constructor
    · intro h0; exact .inl (by omega)
    · rintro (h0 | ⟨h1, _⟩)
      · omega
      · exact absurd h1 h

theorem inv_pop {L : List (List Int)} (hR : RightL L) {o b hs ys : List Int} {x : Int} (h : Inv L o b hs) (hp : PopR hs x ys) :
    ∃ k : Nat, k < L.length ∧ x = k ∧ foundF L o b = some k ∧ ((k : Int) ∈ b → Inv L (o ++ [(k : Int)]) b ys ∧ waitL L (o ++ [(k : Int)] ++ b) = waitL L (o ++ b)) ∧
      ((k : Int) ∉ b → waitL L (o ++ [(k : Int)] ++ b) = relW (waitL L (o ++ b)) (L.getD k []) ∧ ∀ zs, IsHeap zs → zs.Perm (ys ++ relH (waitL L (o ++ b)) (L.getD k [])) → Inv L (o ++ [(k : Int)]) b zs) := by
  obtain ⟨p1, p2, p3⟩ := hp
  have hx : x ∈ hs := p2.mem_iff.2 (by simp)
  obtain ⟨k, hk, rfl, hf⟩ := (h.m x).1 hx
  have hnd := p2.nodup_iff.1 h.n
  rw [List.nodup_cons] at hnd
  have hym : ∀ y : Int, y ∈ ys ↔ ∃ j : Nat, j < L.length ∧ y = j ∧ FreeK L o b j ∧ j ≠ k := fun y => by
    constructor
    · intro hy
      obtain ⟨j, hj, rfl, hfj⟩ := (h.m y).1 (p2.mem_iff.2 (List.mem_cons_of_mem _ hy))
      exact ⟨j, hj, rfl, hfj, fun e => hnd.1 (e ▸ hy)⟩
    · rintro ⟨j, hj, rfl, hfj, hjk⟩
      have := p2.mem_iff.1 ((h.m j).2 ⟨j, hj, rfl, hfj⟩)
      rw [List.mem_cons] at this
      exact this.resolve_left (by omega)
  have go : GoodO (o ++ [(k : Int)]) L.length := GoodO.snoc.2 ⟨h.ho, by omega, by omega, hf.1⟩
  refine ⟨k, hk, rfl, found_some.2 ⟨hf, hk, fun j hj hfj => ?_⟩, fun hb => ?_, fun hb => ?_⟩
  · have h1 := (h.m j).2 ⟨j, by omega, rfl, hfj⟩
    have h2 := p2.mem_iff.1 h1
    rw [List.mem_cons] at h2
    rcases h2 with h2 | h2
    · omega
    · have := p3 j h2
      omega
  · have hm : ∀ r, r ∈ o ++ [(k : Int)] ++ b ↔ r ∈ o ++ b := fun r => by
      simp only [List.mem_append, List.mem_singleton]
      constructor
      · rintro ((h | rfl) | h)
        · exact .inl h
        · exact .inr hb
        · exact .inr h
      · rintro (h | h)
        · exact .inl (.inl h)
        · exact .inr h
    refine ⟨⟨go, h.hb, fun j hj => ?_, p1, hnd.2, fun y => ?_⟩, waitL_congr hm⟩
    · rw [countW_congr hm]
      rw [List.mem_append, List.mem_singleton] at hj
      rcases hj with hj | hj
      · exact h.z j hj
      · obtain rfl : j = k := by omega
        exact hf.2
    · rw [hym]
      unfold FreeK
      constructor
      · rintro ⟨j, hj, rfl, hfj, hjk⟩
        refine ⟨j, hj, rfl, ?_, ?_⟩
        · rw [List.mem_append, List.mem_singleton]
          rintro (h1 | h1)
          · exact hfj.1 h1
          · omega
        · rw [countW_congr hm]; exact hfj.2
      · rintro ⟨j, hj, rfl, h1, h2⟩
        rw [countW_congr hm] at h2
        rw [List.mem_append, List.mem_singleton] at h1
        exact ⟨j, hj, rfl, ⟨fun h3 => h1 (.inl h3), h2⟩, fun h3 => h1 (.inr (by omega))⟩
  · have hd : (k : Int) ∉ o ++ b := by
      rw [List.mem_append]
      rintro (h1 | h1)
      · exact hf.1 h1
      · exact hb h1
    have hm : ∀ r, r ∈ o ++ [(k : Int)] ++ b ↔ r ∈ o ++ b ++ [(k : Int)] := fun r => by
      simp only [List.mem_append, List.mem_singleton]
      constructor
      · rintro ((h | h) | h)
        · exact .inl (.inl h)
        · exact .inr h
        · exact .inl (.inr h)
      · rintro ((h | h) | h)
        · exact .inl (.inl h)
        · exact .inr h
        · exact .inl (.inr h)
    refine ⟨by rw [waitL_congr hm, relW_wait hk hd], fun zs hz hzp => ?_⟩
    have hrm := fun x => mem_relH (d := o ++ b) hR hk (x := x)
    refine ⟨go, h.hb, fun j hj => ?_, hz, ?_, fun y => ?_⟩
    · rw [List.mem_append, List.mem_singleton] at hj
      refine (free_more hk hd hm).2 (.inl ?_)
      rcases hj with hj | hj
      · exact h.z j hj
      · obtain rfl : j = k := by omega
        exact hf.2
    · refine hzp.nodup_iff.2 (List.nodup_append.2 ⟨hnd.2, (good_nodup hR hk).1.filter _, ?_⟩)
      intro a ha c hc
      obtain ⟨j, hj, rfl, hfj, _⟩ := (hym a).1 ha
      obtain ⟨j2, hj2, rfl, _, h2⟩ := (hrm c).1 hc
      intro e
      obtain rfl : j = j2 := by omega
      have := hfj.2
      omega
    · rw [hzp.mem_iff, List.mem_append, hym, hrm]
      unfold FreeK
      constructor
      · rintro (⟨j, hj, rfl, hfj, hjk⟩ | ⟨j, hj, rfl, h1, h2⟩)
        · refine ⟨j, hj, rfl, ?_, (free_more hk hd hm).2 (.inl hfj.2)⟩
          rw [List.mem_append, List.mem_singleton]
          rintro (h1 | h1)
          · exact hfj.1 h1
          · omega
        · refine ⟨j, hj, rfl, ?_, (free_more hk hd hm).2 (.inr ⟨h1, h2⟩)⟩
          rw [List.mem_append, List.mem_singleton]
          rintro (h3 | h3)
          · have := h.z j h3
            omega
          · obtain rfl : j = k := by omega
            have := hf.2
            omega
      · rintro ⟨j, hj, rfl, h1, h2⟩
        rw [List.mem_append, List.mem_singleton] at h1
        rcases (free_more hk hd hm).1 h2 with h3 | ⟨h3, h4⟩
        · exact .inl ⟨j, hj, rfl, ⟨fun h4 => h1 (.inl h4), h3⟩, fun h4 => h1 (.inr (by omega))⟩
        · exact .inr ⟨j, hj, rfl, h3, h4⟩

theorem inv_break {L : List (List Int)} (hR : RightL L) {o b : List Int} {k : Nat} (h : Inv L o b []) (hl : leftF L o b = some k) :
    waitL L (o ++ (b ++ [(k : Int)])) = relW (waitL L (o ++ b)) (L.getD k []) ∧ ∀ zs, IsHeap zs → zs.Perm (relH (waitL L (o ++ b)) (L.getD k [])) → Inv L o (b ++ [(k : Int)]) zs := by
  obtain ⟨⟨ho, hb⟩, hk, _⟩ := left_some.1 hl
  have hd : (k : Int) ∉ o ++ b := by
    rw [List.mem_append]
    rintro (h1 | h1)
    · exact ho h1
    · exact hb h1
  have hm : ∀ r, r ∈ o ++ (b ++ [(k : Int)]) ↔ r ∈ o ++ b ++ [(k : Int)] := fun r => by rw [List.append_assoc]
  refine ⟨by rw [waitL_congr hm, relW_wait hk hd], fun zs hz hzp => ?_⟩
  have hrm := fun x => mem_relH (d := o ++ b) hR hk (x := x)
  have hnf := found_none.1 (inv_none h)
  refine ⟨h.ho, GoodO.snoc.2 ⟨h.hb, by omega, by omega, hb⟩, fun j hj => (free_more hk hd hm).2 (.inl (h.z j hj)), hz, hzp.nodup_iff.2 ((good_nodup hR hk).1.filter _), fun y => ?_⟩
  rw [hzp.mem_iff, hrm]
  unfold FreeK
  constructor
  · rintro ⟨j, hj, rfl, h1, h2⟩
    refine ⟨j, hj, rfl, fun h3 => ?_, (free_more hk hd hm).2 (.inr ⟨h1, h2⟩)⟩
    have := h.z j h3
    omega
  · rintro ⟨j, hj, rfl, h1, h2⟩
    rcases (free_more hk hd hm).1 h2 with h3 | ⟨h3, h4⟩
    · exact absurd ⟨h1, h3⟩ (hnf j hj)
    · exact ⟨j, hj, rfl, h3, h4⟩

/-- Who of the first m has no reader. -/
def noneL (L : List (List Int)) (m : Nat) : List Int := ((List.range m).filter fun k => decide (turnTo L k L.length = [])).map fun k : Nat => (k : Int)
theorem noneL_next (L : List (List Int)) (m : Nat) : noneL L (m + 1) = noneL L m ++ if turnTo L m L.length = [] then [(m : Int)] else [] := by
  unfold noneL
  rw [List.range_succ, List.filter_append, List.map_append]
  congr 1
  by_cases h : turnTo L m L.length = []
  · rw [if_pos h]
    simp only [List.filter_cons, decide_eq_true h, if_true, List.filter_nil, List.map_cons, List.map_nil]
  · rw [if_neg h]
    simp only [List.filter_cons, decide_eq_false h, List.filter_nil]
    rfl
theorem mem_noneL {L : List (List Int)} {m : Nat} {x : Int} : x ∈ noneL L m ↔ ∃ k : Nat, k < m ∧ x = k ∧ turnTo L k L.length = [] := by
  unfold noneL
  constructor
  · intro h
    obtain ⟨i, hi, rfl⟩ := List.mem_map.1 h
    obtain ⟨h1, h2⟩ := List.mem_filter.1 hi
    exact ⟨i, List.mem_range.1 h1, rfl, of_decide_eq_true h2⟩
  · rintro ⟨i, hi, rfl, h⟩
    exact List.mem_map.2 ⟨i, List.mem_filter.2 ⟨List.mem_range.2 hi, decide_eq_true h⟩, rfl⟩
theorem noneL_nodup (L : List (List Int)) (m : Nat) : (noneL L m).Nodup := by
  unfold noneL List.Nodup
  rw [List.pairwise_map]
  refine (List.Pairwise.filter _ (List.pairwise_lt_range)).imp ?_
  intro a b h
  omega
theorem count_nil (L : List (List Int)) (j : Nat) : countW L [] j = (turnTo L j L.length).length := by
  unfold countW
  rw [List.countP_eq_length]
  intro a _
  simp
theorem inv_start {L : List (List Int)} {hs : List Int} (h : IsHeap hs) (hp : hs.Perm (noneL L L.length)) : Inv L [] [] hs := by
  refine ⟨⟨by simp, List.nodup_nil⟩, ⟨by simp, List.nodup_nil⟩, fun k hk => absurd hk (by simp), h, hp.nodup_iff.2 (noneL_nodup _ _), fun x => ?_⟩
  rw [hp.mem_iff, mem_noneL]
  unfold FreeK
  constructor
  · rintro ⟨k, hk, rfl, e⟩
    exact ⟨k, hk, rfl, by simp, by rw [List.append_nil, count_nil, e]; rfl⟩
  · rintro ⟨k, hk, rfl, _, e⟩
    rw [List.append_nil, count_nil] at e
    exact ⟨k, hk, rfl, List.eq_nil_of_length_eq_zero e⟩

theorem good_len {o : List Int} {n : Nat} (h : GoodO o n) : o.length ≤ n := by
  rcases Nat.lt_or_ge n o.length with hlt | hge
  · exfalso
    have h2 : (o.take (n + 1)).Nodup := h.2.sublist (List.take_sublist _ _)
    have hlen : (o.take (n + 1)).length = n + 1 := by rw [List.length_take]; omega
    have := order_has (n + 1) (o.take (n + 1)) ⟨hlen, fun x hx => by have := h.1 x (List.mem_of_mem_take hx); omega, h2⟩ n (by omega)
    have := h.1 n (List.mem_of_mem_take this)
    omega
  · exact hge

/-- What the two loops keep. -/
structure St (L : List (List Int)) (R : List Int × List Int) (f : Nat) (o b : List Int) : Prop where
  go : ofGo L f (o, b) = R
  fu : f + o.length + b.length = 2 * L.length
  ho : GoodO o L.length
  hb : GoodO b L.length
theorem st_start (L : List (List Int)) : St L (ofL L) (2 * L.length) [] [] := ⟨rfl, by simp, ⟨by simp, List.nodup_nil⟩, ⟨by simp, List.nodup_nil⟩⟩
theorem st_end {L : List (List Int)} {R : List Int × List Int} {f : Nat} {o b : List Int} (h : St L R f o b) (hl : ¬ o.length < L.length) : (o, b) = R := by
  have := h.go
  cases f with
  | zero => exact this
  | succ f => unfold ofGo at this; rw [if_neg hl] at this; exact this
theorem st_more {L : List (List Int)} {R : List Int × List Int} {f : Nat} {o b : List Int} (h : St L R f o b) (hl : o.length < L.length) : ∃ f', f = f' + 1 := by
  cases f with
  | zero => have := h.fu; have := good_len h.hb; omega
  | succ f => exact ⟨f, rfl⟩
theorem st_found {L : List (List Int)} {R : List Int × List Int} {f k : Nat} {o b : List Int} (h : St L R (f + 1) o b) (hl : o.length < L.length) (hk : foundF L o b = some k) : St L R f (o ++ [(k : Int)]) b := by
  have := h.go
  unfold ofGo at this
  rw [if_pos hl] at this
  unfold ofStep at this
  simp only [hk] at this
  have hf := found_some.1 hk
  exact ⟨this, by have := h.fu; simp; omega, GoodO.snoc.2 ⟨h.ho, by omega, by omega, hf.1.1⟩, h.hb⟩
theorem st_left {L : List (List Int)} {R : List Int × List Int} {f k : Nat} {o b : List Int} (h : St L R (f + 1) o b) (hl : o.length < L.length) (hn : foundF L o b = none) (hk : leftF L o b = some k) : St L R f o (b ++ [(k : Int)]) := by
  have := h.go
  unfold ofGo at this
  rw [if_pos hl] at this
  unfold ofStep at this
  simp only [hn, hk] at this
  have hf := left_some.1 hk
  exact ⟨this, by have := h.fu; simp; omega, h.ho, GoodO.snoc.2 ⟨h.hb, by omega, by omega, hf.1.2⟩⟩
end Go.Proofs.Ytojmcjkeniepcaa.Ord
