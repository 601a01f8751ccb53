/-
  Layer 17, delta: what a plan of a block is: plain words. No program. No conditions beyond what each theorem names.
-/
import Derived.Test.YtlcnbepldkbkgaaMGDkes4
import Derived.Test.YtlcnbepldkbkgaaMDlB
namespace Go.Proofs.Ytlcnbepldkbkgaa.Dl
open Go.ChangeShapes Go.WideShapes Go.ChangeAt Go.RowKit Go.Proofs.Ytlcnbepldkbkgaa.Kit Go.Proofs.Ytlcnbepldkbkgaa.Mx Go.Proofs.Ytlcnbepldkbkgaa.Sx Go.Proofs.Ytlcnbepldkbkgaa.Pl Go.Proofs.Ytlcnbepldkbkgaa.Mt

/-- The bytes from one place up to another one. -/
def cutL (b : List Int) (i e : Nat) : List Int := (b.drop i).take (e - i)
theorem cutL_length {b : List Int} {i e : Nat} (h : e ≤ b.length) : (cutL b i e).length = e - i := by unfold cutL; rw [List.length_take, List.length_drop]; omega
theorem cutL_empty (b : List Int) (i : Nat) : cutL b i i = [] := by unfold cutL; simp
theorem cutL_end {b : List Int} {i e : Nat} (h : b.length ≤ e) : cutL b i e = b.drop i := by unfold cutL; exact List.take_of_length_le (by rw [List.length_drop]; omega)
theorem cutL_octets {b : List Int} (h : Octets b) (i e : Nat) : Octets (cutL b i e) := fun x hx => h x (List.mem_of_mem_drop (List.mem_of_mem_take hx))
theorem take_cut {b : List Int} {i e : Nat} (h : i ≤ e) : b.take i ++ cutL b i e = b.take e := by
  unfold cutL
  have := List.take_add (l := b) (i := i) (j := e - i)
  rw [show i + (e - i) = e by omega] at this
  exact this.symm

def madeQ (old : List Int) (s : Sq) : Option (List Int) := if s.a = 1 then some s.zs else if okRange old s.b s.x = true then some (addB (rangeB old s.b s.x) s.zs) else none
def evalQ (old : List Int) : List Sq → Option (List Int)
  | [] => some []
  | s :: ss => match madeQ old s, evalQ old ss with
    | some a, some b => some (a ++ b)
    | _, _ => none
theorem evalO_q (old : List Int) : ∀ ss : List Stp, evalO (some old) ss = evalQ old (ss.map sqS)
  | [] => rfl
  | s :: ss => by
    rw [evalO, List.map_cons, evalQ, evalO_q old ss]
    rfl
theorem evalQ_snoc (old : List Int) (s : Sq) : ∀ (l : List Sq), evalQ old (l ++ [s]) = match evalQ old l, madeQ old s with
    | some a, some b => some (a ++ b)
    | _, _ => none
  | [] => by cases h : madeQ old s <;> simp [evalQ, h]
  | q :: l => by
    rw [List.cons_append, evalQ, evalQ, evalQ_snoc old s l]
    cases madeQ old q <;> cases evalQ old l <;> cases madeQ old s <;> simp
theorem rightS_q (ss : List Stp) : ss.all rightS = (ss.map sqS).all rightQ := by rw [List.all_map]; rfl
def putBQ (l : List Sq) : List Int := l.flatMap putQ
theorem putB_q (ss : List Stp) : putB ss = putBQ (ss.map sqS) := by
  unfold putB putBQ
  rw [List.flatMap_map]
  rfl
def sumXQ (l : List Sq) : Int := (l.map (·.x)).sum
theorem sumX_q (ss : List Stp) : sumX ss = sumXQ (ss.map sqS) := by
  unfold sumX sumXQ
  rw [List.map_map]
  rfl
theorem sumXQ_snoc (l : List Sq) (s : Sq) : sumXQ (l ++ [s]) = sumXQ l + s.x := by simp [sumXQ]

/-- These steps make these bytes of that image. -/
structure Makes (old : List Int) (l : List Sq) (bs : List Int) : Prop where
  right : l.all rightQ = true
  eval : evalQ old l = some bs
  sum : sumXQ l = bs.length
  oct : ∀ s ∈ l, Octets s.zs
theorem Makes.nil (old : List Int) : Makes old [] [] := ⟨rfl, rfl, rfl, by simp⟩
theorem Makes.snoc {old : List Int} {l : List Sq} {b1 bs : List Int} {s : Sq} (h : Makes old l b1) (hr : rightQ s = true) (hm : madeQ old s = some bs) (hx : s.x = bs.length) (ho : Octets s.zs) : Makes old (l ++ [s]) (b1 ++ bs) := by
  refine ⟨?_, ?_, ?_, ?_⟩
  · rw [List.all_append, h.right]; simp [hr]
  · rw [evalQ_snoc, h.eval, hm]
  · rw [sumXQ_snoc, h.sum, hx, List.length_append]; omega
  · intro q hq
    rcases List.mem_append.1 hq with hq | hq
    · exact h.oct q hq
    · obtain rfl : q = s := by simpa using hq
      exact ho
theorem Makes.len {old : List Int} {l : List Sq} {bs : List Int} (h : Makes old l bs) : l.length ≤ bs.length := by
  have h1 := h.sum
  have h2 := h.right
  clear h
  have : (l.length : Int) ≤ sumXQ l := by
    clear h1
    induction l with
    | nil => simp [sumXQ]
    | cons s l ih =>
      rw [List.all_cons, Bool.and_eq_true] at h2
      have h3 := ih h2.2
      have h4 := of_decide_eq_true (h2.1 : decide _ = true)
      simp only [sumXQ, List.map_cons, List.sum_cons, List.length_cons] at h3 ⊢
      omega
  omega

/-- A plan, and behind it bytes as they are: put to the last step, if that has such, too. -/
def litQ (l : List Sq) (bs : List Int) : List Sq :=
  match l.getLast? with
  | some s => if s.a = 1 then l.dropLast ++ [⟨1, s.b, ((s.zs ++ bs).length : Int), s.zs ++ bs⟩] else if bs = [] then l else l ++ [⟨1, 0, (bs.length : Int), bs⟩]
  | none => if bs = [] then [] else [⟨1, 0, (bs.length : Int), bs⟩]
theorem litQ_last (l : List Sq) (s : Sq) (bs : List Int) (h : s.a = 1) : litQ (l ++ [s]) bs = l ++ [⟨1, s.b, ((s.zs ++ bs).length : Int), s.zs ++ bs⟩] := by
  simp [litQ, h]
theorem litQ_new {l : List Sq} {bs : List Int} (h : ∀ s, l.getLast? = some s → s.a ≠ 1) : litQ l bs = if bs = [] then l else l ++ [⟨1, 0, (bs.length : Int), bs⟩] := by
  unfold litQ
  cases hl : l.getLast? with
  | none => obtain rfl : l = [] := List.getLast?_eq_none_iff.1 hl; simp
  | some s => simp only; rw [if_neg (h s hl)]
theorem rightQ_lit {bs : List Int} (h1 : 1 ≤ bs.length) (h2 : bs.length ≤ 4096) : rightQ ⟨1, 0, (bs.length : Int), bs⟩ = true := decide_eq_true ⟨⟨by simp only; omega, by simp only; omega⟩, .inl ⟨rfl, rfl, rfl⟩⟩
theorem Makes.lit {old : List Int} {l : List Sq} {b1 bs : List Int} (h : Makes old l b1) (ho : Octets bs) (hl : b1.length + bs.length ≤ 4096) : Makes old (litQ l bs) (b1 ++ bs) := by
  by_cases hl0 : ∀ s, l.getLast? = some s → s.a ≠ 1
  · rw [litQ_new hl0]
    by_cases hb : bs = []
    · rw [if_pos hb, hb, List.append_nil]; exact h
    · rw [if_neg hb]
      have : 1 ≤ bs.length := by cases bs with | nil => exact absurd rfl hb | cons _ _ => simp
      exact h.snoc (rightQ_lit this (by omega)) (by simp [madeQ]) rfl ho
  · have ⟨s, hs, ha⟩ : ∃ s, l.getLast? = some s ∧ s.a = 1 := by
      cases hq : l.getLast? with
      | none => exact absurd (fun s h => by rw [hq] at h; cases h) hl0
      | some s => exact ⟨s, rfl, Classical.byContradiction fun hn => hl0 fun t ht => by rw [hq] at ht; injection ht with ht; subst ht; exact hn⟩
    obtain ⟨l0, rfl⟩ := List.getLast?_eq_some_iff.1 hs
    rw [litQ_last _ _ _ ha]
    have hr := h.right
    rw [List.all_append, Bool.and_eq_true] at hr
    have hrs : rightQ s = true := by simpa using hr.2
    have hf := of_decide_eq_true (hrs : decide _ = true)
    have he := h.eval
    rw [evalQ_snoc, show madeQ old s = some s.zs from if_pos ha] at he
    cases h0 : evalQ old l0 with
    | none => rw [h0] at he; simp at he
    | some b0 =>
      rw [h0] at he
      injection he with he
      have hsum := h.sum
      rw [sumXQ_snoc] at hsum
      have hbl : b1.length = b0.length + s.zs.length := by rw [← he, List.length_append]
      have hsx : (s.zs.length : Int) = s.x := by omega
      have hb0 : s.b = 0 := by omega
      have h00 : Makes old l0 b0 := ⟨hr.1, h0, by omega, fun q hq => h.oct q (List.mem_append_left _ hq)⟩
      rw [← he, List.append_assoc, hb0]
      have hos := h.oct s (by simp)
      refine h00.snoc (rightQ_lit (by rw [List.length_append]; omega) (by rw [List.length_append]; omega)) (by simp [madeQ]) rfl ?_
      intro x hx
      rcases List.mem_append.1 hx with hx | hx
      · exact hos x hx
      · exact ho x hx

/-- What is to be added to some bytes to come to others. -/
def subL (p q : List Int) : List Int := (List.range p.length).map fun j => (p.getD j 0 - q.getD j 0) % 256
/-- A plan, and behind it a part of a block. -/
def partQ (l : List Sq) (old b : List Int) (i e : Nat) (o : Int) : List Sq :=
  let part := cutL b i e
  let like := cutL old (i + o).toNat (e + o).toNat
  if part = like ∧ (8 ≤ e - i ∨ e - i = b.length) then l ++ [⟨2, i + o, ((e - i : Nat) : Int), []⟩]
  else if e - i < 64 then litQ l part
  else l ++ [⟨3, i + o, ((e - i : Nat) : Int), subL part like⟩]
theorem addB_nil {xs : List Int} (h : Octets xs) : addB xs [] = xs := by
  unfold addB
  refine List.ext_getElem (by simp) fun j h1 h2 => ?_
  have := h xs[j] (List.getElem_mem h2)
  simp only [List.getElem_map, List.getElem_range, List.getD_eq_getElem?_getD, List.getElem?_eq_getElem h2, Option.getD_some, List.getElem?_nil, Option.getD_none]
  omega
theorem addB_sub {p q : List Int} (hl : p.length = q.length) (hp : Octets p) : addB q (subL p q) = p := by
  unfold addB subL
  refine List.ext_getElem (by simp [hl]) fun j h1 h2 => ?_
  have := hp p[j] (List.getElem_mem h2)
  have h3 : j < q.length := by omega
  simp only [List.getElem_map, List.getElem_range, List.getD_eq_getElem?_getD, List.getElem?_eq_getElem h2, List.getElem?_eq_getElem h3, Option.getD_some, List.getElem?_map, List.getElem?_range h2, Option.map_some]
  omega
theorem Makes.part {old : List Int} {l : List Sq} {b1 b : List Int} {i e : Nat} {o : Int} (h : Makes old l b1) (hoo : Octets old) (hob : Octets b) (hie : i < e) (he : e ≤ b.length) (hb : b.length ≤ 4096) (h0 : 0 ≤ i + o) (h1 : e + o ≤ old.length) (hold : old.length ≤ 2147483647)
    (hl : b1.length + (e - i) ≤ 4096) : Makes old (partQ l old b i e o) (b1 ++ cutL b i e) := by
  unfold partQ
  have hpl := cutL_length (b := b) (i := i) he
  have hll := cutL_length (b := old) (i := (i + o).toNat) (e := (e + o).toNat) (by omega)
  have hop := cutL_octets hob i e
  have hol := cutL_octets hoo (i + o).toNat (e + o).toNat
  have hrng : rangeB old (i + o) ((e - i : Nat) : Int) = cutL old (i + o).toNat (e + o).toNat := by
    unfold rangeB cutL
    congr 1
    omega
  have hok : okRange old (i + o) ((e - i : Nat) : Int) = true := decide_eq_true ⟨h0, by omega, by omega⟩
  generalize cutL b i e = part at *
  generalize cutL old (i + o).toNat (e + o).toNat = like at *
  simp only
  split
  · next hc =>
    obtain ⟨rfl, hc⟩ := hc
    refine h.snoc (decide_eq_true ⟨⟨by simp only; omega, by simp only; omega⟩, .inr (.inl ⟨rfl, ⟨by simp only; omega, by simp only; omega⟩, rfl⟩)⟩) ?_ (by simp only; omega) (by intro x hx; simp at hx)
    simp only [madeQ, hok, hrng, if_true]
    rw [addB_nil hol]
    rfl
  · split
    · exact h.lit hop (by omega)
    · have hsl : (subL part like).length = part.length := by simp [subL]
      refine h.snoc (decide_eq_true ⟨⟨by simp only; omega, by simp only; omega⟩, .inr (.inr ⟨rfl, ⟨by simp only; omega, by simp only; omega⟩, by simp only; omega⟩)⟩) ?_ (by simp only; omega) ?_
      · simp only [madeQ, hok, hrng, if_true]
        rw [addB_sub (by omega) hop]
        rfl
      · intro x hx
        obtain ⟨j, _, rfl⟩ := List.mem_map.1 hx
        omega

/-- The steps up to where the pieces, or the block, end. -/
def planGo (old b : List Int) (fr : Int) : List Sq → Nat → List Pc → List Sq
  | l, i, [] => litQ l (b.drop i)
  | l, i, p :: ps =>
    let bg := (max (p.n - fr) i).toNat
    let en := (min (p.n + p.l - fr) b.length).toNat
    if b.length ≤ bg then litQ l (b.drop i) else planGo old b fr (partQ (litQ l (cutL b i bg)) old b bg en (p.o - p.n + fr)) en ps
def planQ (old b : List Int) (fr : Int) (ps : List Pc) : List Sq :=
  let l := planGo old b fr [] 0 ps
  if b.length + 12 < (putBQ l).length then [⟨1, 0, (b.length : Int), b⟩] else l

theorem planGo_makes {old b : List Int} {fr f : Int} {new : Int} (hoo : Octets old) (hob : Octets b) (hb : b.length ≤ 4096) (hold : old.length ≤ 2147483647) :
    ∀ (ps : List Pc) (l : List Sq) (i : Nat) (e : Int), Makes old l (b.take i) → i ≤ b.length → runL old.length new e ps f → ((i : Int) = b.length ∨ (i : Int) ≤ e - fr ∨ (i = 0 ∧ ∀ p ∈ ps, fr < p.n + p.l)) → Makes old (planGo old b fr l i ps) b
  | [], l, i, e, h, hi, _, _ => by
    have := h.lit (bs := b.drop i) (fun x hx => hob x (List.mem_of_mem_drop hx)) (by rw [List.length_take, List.length_drop]; omega)
    rwa [List.take_append_drop] at this
  | p :: ps, l, i, e, h, hi, hr, hd => by
    obtain ⟨r1, r2, r3⟩ := hr
    have hbd := one_bd r1
    rw [planGo]
    split
    · next hg =>
      have := h.lit (bs := b.drop i) (fun x hx => hob x (List.mem_of_mem_drop hx)) (by rw [List.length_take, List.length_drop]; omega)
      rwa [List.take_append_drop] at this
    · next hg =>
      have hpd : fr < p.n + p.l ∨ ((i : Int) = b.length ∨ (i : Int) ≤ e - fr) := by
        rcases hd with hd | hd | hd
        · exact .inr (.inl hd)
        · exact .inr (.inr hd)
        · exact .inl (hd.2 p (by simp))
      have hi0 : i = 0 ∨ ((i : Int) = b.length ∨ (i : Int) ≤ e - fr) := by
        rcases hd with hd | hd | hd
        · exact .inr (.inl hd)
        · exact .inr (.inr hd)
        · exact .inl hd.1
      obtain ⟨B, hB⟩ : ∃ B, (max (p.n - fr) i).toNat = B := ⟨_, rfl⟩
      obtain ⟨E, hE⟩ : ∃ E, (min (p.n + p.l - fr) b.length).toNat = E := ⟨_, rfl⟩
      rw [hB] at hg ⊢
      rw [hE]
      have hBE : i ≤ B ∧ B < E ∧ E ≤ b.length ∧ 0 ≤ (B : Int) + (p.o - p.n + fr) ∧ (E : Int) + (p.o - p.n + fr) ≤ old.length := by omega
      have h1 := h.lit (cutL_octets hob i B) (by rw [List.length_take, cutL_length (by omega)]; omega)
      rw [take_cut hBE.1] at h1
      have h2 := h1.part hoo hob hBE.2.1 hBE.2.2.1 hb hBE.2.2.2.1 hBE.2.2.2.2 hold (by rw [List.length_take]; omega)
      rw [take_cut (by omega)] at h2
      refine planGo_makes hoo hob hb hold ps _ _ (p.n + p.l) h2 hBE.2.2.1 r3 ?_
      omega

theorem numB_small {n : Int} : (numB n).length ≤ 9 := (numB_length n).2
theorem planQ_makes {old b : List Int} {fr f new e : Int} {ps : List Pc} (hoo : Octets old) (hob : Octets b) (h1 : 1 ≤ b.length) (hb : b.length ≤ 4096) (hold : old.length ≤ 2147483647) (hr : runL old.length new e ps f) (hd : ∀ p ∈ ps, fr < p.n + p.l) :
    Makes old (planQ old b fr ps) b ∧ (putBQ (planQ old b fr ps)).length ≤ b.length + 12 := by
  have h := planGo_makes hoo hob hb hold ps [] 0 e (by simpa using Makes.nil old) (Nat.zero_le _) hr (.inr (.inr ⟨rfl, hd⟩))
  unfold planQ
  simp only
  split
  · have h2 := (Makes.nil old).snoc (rightQ_lit h1 hb) (by simp [madeQ]) rfl hob
    refine ⟨by simpa using h2, ?_⟩
    have := numB_length (b.length : Int)
    simp [putBQ, putQ]
    omega
  · exact ⟨h, by omega⟩
/-- The pieces that don't end ahead of a place. -/
def aheadP (fr : Int) (ps : List Pc) : List Pc := ps.dropWhile fun p => decide (p.n + p.l ≤ fr)
end Go.Proofs.Ytlcnbepldkbkgaa.Dl
