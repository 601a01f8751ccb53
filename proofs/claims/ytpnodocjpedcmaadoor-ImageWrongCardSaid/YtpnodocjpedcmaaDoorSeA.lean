/-
  Layer 6, sector: what is kept of sectors, as a list and as a map in memory. Conditions: as each theorem names.
-/
import Derived.Test.YtpnodocjpedcmaaDoorOut
import Derived.Maps.OwnSet
namespace Go.Proofs.YtpnodocjpedcmaaDoor.Sec
open Go.ChangeShapes Go.WideShapes Go.ChangeAt Go.RowKit Go.Proofs.YtpnodocjpedcmaaDoor.Kit Go.Maps

/-- Sectors: their numbers, rising; the bytes of each, or none, where it is torn. -/
abbrev Sl := List (Int × Option (List Int))
def putS : Sl → Int → Option (List Int) → Sl
  | [], k, o => [(k, o)]
  | (j, u) :: r, k, o => if k < j then (k, o) :: (j, u) :: r else if k = j then (k, o) :: r else (j, u) :: putS r k o
def getS : Sl → Int → Option (Option (List Int))
  | [], _ => none
  | (j, u) :: r, k => if j = k then some u else getS r k
def Up (l : Sl) : Prop := l.Pairwise (fun p q => p.1 < q.1)

theorem mem_putS {l : Sl} {k : Int} {o : Option (List Int)} {p : Int × Option (List Int)} (h : p ∈ putS l k o) : p = (k, o) ∨ p ∈ l := by
  induction l with
  | nil => simp [putS] at h; exact Or.inl h
  | cons q r ih =>
    obtain ⟨j, u⟩ := q
    unfold putS at h
    split at h
    · rcases List.mem_cons.1 h with h | h
      · exact Or.inl h
      · exact Or.inr h
    · split at h
      · rcases List.mem_cons.1 h with h | h
        · exact Or.inl h
        · exact Or.inr (List.mem_cons_of_mem _ h)
      · rcases List.mem_cons.1 h with h | h
        · exact Or.inr (h ▸ List.mem_cons_self)
        · rcases ih h with h | h
          · exact Or.inl h
          · exact Or.inr (List.mem_cons_of_mem _ h)
theorem up_nil : Up [] := List.Pairwise.nil
theorem Up.putS {l : Sl} (h : Up l) (k : Int) (o : Option (List Int)) : Up (putS l k o) := by
  induction l with
  | nil => exact List.pairwise_singleton _ _
  | cons q r ih =>
    obtain ⟨j, u⟩ := q
    obtain ⟨h1, h2⟩ := List.pairwise_cons.1 h
    unfold Sec.putS
    split
    · rename_i hk
      exact List.pairwise_cons.2 ⟨fun p hp => by
        rcases List.mem_cons.1 hp with rfl | hp
        · exact hk
        · have : j < p.1 := h1 p hp
          show k < p.1
          omega, h⟩
    · split
      · rename_i hk
        exact List.pairwise_cons.2 ⟨fun p hp => by have : j < p.1 := h1 p hp; show k < p.1; omega, h2⟩
      · exact List.pairwise_cons.2 ⟨fun p hp => by
          rcases mem_putS hp with rfl | hp
          · show j < k; omega
          · exact h1 p hp, ih h2⟩
theorem up_length {c : Int} : ∀ (l : Sl) (a : Int), Up l → (∀ p ∈ l, a ≤ p.1 ∧ p.1 < c) → (l.length : Int) ≤ max (c - a) 0
  | [], _, _, _ => by simp; omega
  | q :: r, a, h, hb => by
    obtain ⟨h1, h2⟩ := List.pairwise_cons.1 h
    have hq := hb q (by simp)
    have := up_length r (q.1 + 1) h2 (fun p hp => ⟨by have : q.1 < p.1 := h1 p hp; omega, (hb p (List.mem_cons_of_mem _ hp)).2⟩)
    simp only [List.length_cons, Int.natCast_add]
    omega

/-! ### in memory -/
def codeS (g m c : Nat) : DataW Unit := .agg [.lit (.int .i64 g), .lit (.int .i64 m), .lit (.int .i64 c)]
/-- How the bytes of a sector that waits read. -/
def RW (v : Value) : Option (DataW Unit × List MemPlace) :=
  match v with
  | .slice (some ⟨g, 0, none⟩) m c => some (codeS g m c, [])
  | .slice none 0 0 => some (.lit (.bool false), [])
  | _ => none
/-- How what is kept of a sector reads. -/
def RK (v : Value) : Option (DataW Unit × List MemPlace) :=
  match v with
  | .agg cs =>
    match cs.toList with
    | [.slice (some ⟨g, 0, none⟩) m c, .bool false] => some (codeS g m c, [])
    | [.slice none 0 0, .bool t] => some (.lit (.bool t), [])
    | _ => none
  | _ => none
theorem codeS_inj {g m c g' m' c' : Nat} (h : codeS g m c = codeS g' m' c') : g = g' ∧ m = m' ∧ c = c' := by
  unfold codeS at h
  simp at h
  omega
theorem RW_some {v : Value} {g m c : Nat} {ps : List MemPlace} (h : RW v = some (codeS g m c, ps)) : v = .slice (some ⟨g, 0, none⟩) m c := by
  unfold RW at h
  split at h
  · simp only [Option.some.injEq, Prod.mk.injEq] at h
    obtain ⟨rfl, rfl, rfl⟩ := codeS_inj h.1
    rfl
  · simp [codeS] at h
  · cases h
theorem RW_none {v : Value} {ps : List MemPlace} (h : RW v = some (.lit (.bool false), ps)) : v = .slice none 0 0 := by
  unfold RW at h
  split at h
  · simp [codeS] at h
  · rfl
  · cases h
theorem RK_some {v : Value} {g m c : Nat} {ps : List MemPlace} (h : RK v = some (codeS g m c, ps)) : v = .agg #[.slice (some ⟨g, 0, none⟩) m c, .bool false] := by
  unfold RK at h
  split at h
  · rename_i cs
    split at h
    · rename_i h2
      simp only [Option.some.injEq, Prod.mk.injEq] at h
      obtain ⟨rfl, rfl, rfl⟩ := codeS_inj h.1
      congr 1
      exact Array.toList_inj.1 h2
    · simp [codeS] at h
    · cases h
  · cases h
theorem RK_lit {v : Value} {t : Bool} {ps : List MemPlace} (h : RK v = some (.lit (.bool t), ps)) : v = .agg #[.slice none 0 0, .bool t] := by
  unfold RK at h
  split at h
  · rename_i cs
    split at h
    · simp [codeS] at h
    · rename_i h2
      simp only [Option.some.injEq, Prod.mk.injEq, DataW.lit.injEq, Lit.bool.injEq] at h
      obtain ⟨rfl, _⟩ := h
      congr 1
      exact Array.toList_inj.1 h2
    · cases h
  · cases h

/-- An entry of a map is a sector of the list. -/
def Tie (w : World) (I : Nat → Prop) (n : Nat) (p : Lit × DataW Unit) (q : Int × Option (List Int)) : Prop :=
  p.1 = .int .i64 q.1 ∧ match q.2 with
    | some xs => ∃ g c, p.2 = codeS g n c ∧ xs.length = n ∧ Octets xs ∧ I g ∧ Own w 0 5 .u8 (.slice (some ⟨g, 0, none⟩) n c) xs
    | none => p.2 = .lit (.bool true)
inductive Ties (w : World) (I : Nat → Prop) (n : Nat) : List (Lit × DataW Unit) → Sl → Prop
  | nil : Ties w I n [] []
  | cons {p q es l} : Tie w I n p q → Ties w I n es l → Ties w I n (p :: es) (q :: l)
theorem Ties.length {w : World} {I : Nat → Prop} {n : Nat} {es : List (Lit × DataW Unit)} {l : Sl} (h : Ties w I n es l) : es.length = l.length := by
  induction h with
  | nil => rfl
  | cons _ _ ih => simp [ih]

theorem same_int (j k : Int) : (Lit.int .i64 j).sameKey (.int .i64 k) = decide (j = k) := by simp [Lit.sameKey]
theorem before_int (j k : Int) : (Lit.int .i64 j).before (.int .i64 k) = decide (j < k) := rfl

/-- Where all numbers are above k, no entry is k's. -/
theorem Ties.none_same {w : World} {I : Nat → Prop} {n : Nat} {es : List (Lit × DataW Unit)} {l : Sl} (h : Ties w I n es l) (k : Int) (hk : ∀ p ∈ l, k < p.1) : es.filter (fun p => !p.1.sameKey (.int .i64 k)) = es := by
  induction h with
  | nil => rfl
  | @cons p q es l ht _ ih =>
    have hq := hk q (by simp)
    rw [List.filter_cons, ht.1, same_int, decide_eq_false (by omega), ih (fun x hx => hk x (List.mem_cons_of_mem _ hx))]
    rfl
theorem Ties.insert_front {w : World} {I : Nat → Prop} {n : Nat} {es : List (Lit × DataW Unit)} {l : Sl} (h : Ties w I n es l) (k : Int) (d : DataW Unit) (hk : ∀ p ∈ l, k < p.1) : DataW.insert (.int .i64 k, d) es = (.int .i64 k, d) :: es := by
  cases h with
  | nil => rfl
  | @cons p q es l ht _ =>
    have hq := hk q (by simp)
    unfold DataW.insert
    rw [ht.1]
    rw [before_int, decide_eq_true hq]
    rfl

theorem Ties.put {w : World} {I : Nat → Prop} {n : Nat} {es : List (Lit × DataW Unit)} {l : Sl} (h : Ties w I n es l) (hu : Up l) (k : Int) (d : DataW Unit) (o : Option (List Int)) (ht : Tie w I n (.int .i64 k, d) (k, o)) :
    Ties w I n (DataW.insert (.int .i64 k, d) (es.filter fun p => !p.1.sameKey (.int .i64 k))) (putS l k o) := by
  induction h with
  | nil => exact .cons ht .nil
  | @cons p q es l hp hr ih =>
    obtain ⟨j, u⟩ := q
    obtain ⟨h1, h2⟩ := List.pairwise_cons.1 hu
    have hp1 : p.1 = .int .i64 j := hp.1
    rw [List.filter_cons, hp1, same_int]
    unfold putS
    by_cases c1 : k < j
    · rw [if_pos c1, decide_eq_false (by omega), hr.none_same k (fun x hx => by have : j < x.1 := h1 x hx; omega)]
      show Ties w I n (DataW.insert _ (p :: es)) _
      unfold DataW.insert
      rw [hp1, before_int, decide_eq_true c1]
      exact .cons ht (.cons hp hr)
    · by_cases c2 : k = j
      · rw [if_neg c1, if_pos c2, decide_eq_true c2.symm, hr.none_same k (fun x hx => by have : j < x.1 := h1 x hx; omega)]
        show Ties w I n (DataW.insert _ es) _
        rw [hr.insert_front k d (fun x hx => by have : j < x.1 := h1 x hx; omega)]
        exact .cons ht hr
      · rw [if_neg c1, if_neg c2, decide_eq_false (fun e => c2 e.symm)]
        show Ties w I n (DataW.insert _ (p :: _)) _
        unfold DataW.insert
        rw [hp1, before_int, decide_eq_false (by omega)]
        exact .cons hp (ih h2)

theorem atKey_map (es : List (Lit × DataW Unit)) (k : Lit) (z : DataW Unit) : (DataW.map es).atKey k z = ((es.find? (fun p => p.1.sameKey k)).map (·.2)).getD z := by
  unfold DataW.atKey
  simp only
  split
  · rename_i h; rw [h]; rfl
  · rename_i h; rw [h]; rfl

theorem Ties.get_yes {w : World} {I : Nat → Prop} {n : Nat} {es : List (Lit × DataW Unit)} {l : Sl} (h : Ties w I n es l) (k : Int) (o : Option (List Int)) (hg : getS l k = some o) :
    Maps.has (.map es) (.int .i64 k) = true ∧ ∃ d, (∀ z, (DataW.map es).atKey (.int .i64 k) z = d) ∧ Tie w I n (.int .i64 k, d) (k, o) := by
  induction h with
  | nil => cases hg
  | @cons p q es l hp hr ih =>
    obtain ⟨j, u⟩ := q
    have hp1 : p.1 = .int .i64 j := hp.1
    unfold getS at hg
    rw [Maps.has_eq, List.any_cons, hp1, same_int]
    by_cases c : j = k
    · subst c
      rw [if_pos rfl] at hg
      injection hg with hg
      subst hg
      refine ⟨by simp, p.2, fun z => ?_, by rw [← hp1]; exact hp⟩
      rw [atKey_map, List.find?_cons, hp1, same_int]
      simp
    · rw [if_neg c] at hg
      obtain ⟨h1, d, h2, h3⟩ := ih hg
      rw [Maps.has_eq] at h1
      refine ⟨by rw [h1]; simp, d, fun z => ?_, h3⟩
      rw [atKey_map, List.find?_cons, hp1, same_int, decide_eq_false c, ← h2 z, atKey_map]
theorem Ties.get_no {w : World} {I : Nat → Prop} {n : Nat} {es : List (Lit × DataW Unit)} {l : Sl} (h : Ties w I n es l) (k : Int) (hg : getS l k = none) :
    Maps.has (.map es) (.int .i64 k) = false ∧ ∀ z, (DataW.map es).atKey (.int .i64 k) z = z := by
  induction h with
  | nil => exact ⟨rfl, fun _ => rfl⟩
  | @cons p q es l hp hr ih =>
    obtain ⟨j, u⟩ := q
    have hp1 : p.1 = .int .i64 j := hp.1
    unfold getS at hg
    rw [Maps.has_eq, List.any_cons, hp1, same_int]
    by_cases c : j = k
    · rw [if_pos c] at hg; cases hg
    · rw [if_neg c] at hg
      obtain ⟨h1, h2⟩ := ih hg
      rw [Maps.has_eq] at h1
      refine ⟨by rw [h1]; simp [c], fun z => ?_⟩
      rw [atKey_map, List.find?_cons, hp1, same_int, decide_eq_false c]
      have := h2 z
      rw [atKey_map] at this
      exact this

/-- The rows of a list stay, where no map or other block of the call's own is a row. -/
theorem Tie.out {S : Nat → Prop} {w w' : World} {I : Nat → Prop} {n : Nat} {p : Lit × DataW Unit} {q : Int × Option (List Int)} (h : Tie w I n p q) (t : TurnsIn S w w') (hS : ∀ b, S b → I b → ∀ cs f, w.heap[b]? ≠ some (.cells cs 5 f)) : Tie w' I n p q := by
  obtain ⟨h1, h2⟩ := h
  refine ⟨h1, ?_⟩
  cases hq : q.2 with
  | none => rw [hq] at h2; exact h2
  | some xs =>
    rw [hq] at h2
    obtain ⟨g, c, e1, e2, e3, eI, e4⟩ := h2
    refine ⟨g, c, e1, e2, e3, eI, e4.out t fun x hx hs => ?_⟩
    have hxg : g = x := by simpa [Value.ownBlock] using hx
    subst hxg
    rcases e4.2 with ⟨h0, _⟩ | ⟨g', cap, cur, he, _, hg, _⟩
    · cases h0
    · injection he with he _
      injection he with he
      injection he with he
      exact hS g hs eI _ _ (he ▸ hg)
theorem Ties.out {S : Nat → Prop} {w w' : World} {I : Nat → Prop} {n : Nat} {es : List (Lit × DataW Unit)} {l : Sl} (h : Ties w I n es l) (t : TurnsIn S w w') (hS : ∀ b, S b → I b → ∀ cs f, w.heap[b]? ≠ some (.cells cs 5 f)) : Ties w' I n es l := by
  induction h with
  | nil => exact .nil
  | cons hp _ ih => exact .cons (hp.out t hS) ih
theorem Tie.mono {w : World} {I J : Nat → Prop} {n : Nat} {p : Lit × DataW Unit} {q : Int × Option (List Int)} (h : Tie w I n p q) (hJ : ∀ g, g < w.heap.size → I g → J g) : Tie w J n p q := by
  obtain ⟨h1, h2⟩ := h
  refine ⟨h1, ?_⟩
  cases hq : q.2 with
  | none => rw [hq] at h2; exact h2
  | some xs =>
    rw [hq] at h2
    obtain ⟨g, c, e1, e2, e3, eI, e4⟩ := h2
    exact ⟨g, c, e1, e2, e3, hJ g (e4.lt g rfl).2 eI, e4⟩
theorem Ties.mono {w : World} {I J : Nat → Prop} {n : Nat} {es : List (Lit × DataW Unit)} {l : Sl} (h : Ties w I n es l) (hJ : ∀ g, g < w.heap.size → I g → J g) : Ties w J n es l := by
  induction h with
  | nil => exact .nil
  | cons hp _ ih => exact .cons (hp.mono hJ) ih
end Go.Proofs.YtpnodocjpedcmaaDoor.Sec
