/-
  Layer 17, delta.withLit: a contract. Conditions: as each theorem names.
-/
import Derived.Test.YtlcnbepldkbkgaaMDlI
import Derived.Test.YtlcnbepldkbkgaaMGDkes2
import Derived.Deep.RegionLaw
namespace Go.Proofs.Ytlcnbepldkbkgaa.Dl
open Go.ChangeShapes Go.WideShapes Go.ChangeAt Go.RowKit Go.Proofs.Ytlcnbepldkbkgaa.Kit Go.Proofs.Ytlcnbepldkbkgaa.Pl

def slS (s : Stp) : Value := .slice s.A s.zs.length s.cap
/-- Steps of the call's own, with bytes of the call's own, each in a block by itself. -/
structure OwnPlan (w : World) (B : Nat) (v : Value) (ss : List Stp) : Prop where
  st : OwnSteps w B v ss
  dat : ∀ s ∈ ss, Own w B 5 .u8 (slS s) s.zs
  apart : ss.Pairwise fun s t => ∀ g, (slS s).ownBlock = some g → (slS t).ownBlock ≠ some g

/-- Where such a plan lies. -/
def footP (v : Value) (ss : List Stp) (b : Nat) : Prop := v.ownBlock = some b ∨ ∃ s ∈ ss, (slS s).ownBlock = some b
theorem OwnPlan.nil (w : World) (B : Nat) : OwnPlan w B (.slice none 0 0) [] := ⟨OwnSteps.nil w B, by simp, .nil⟩
theorem OwnPlan.form {w : World} {B : Nat} {v : Value} {ss : List Stp} (h : OwnPlan w B v ss) (hx : 0 < ss.length) : ∃ g c : Nat, v = .slice (some ⟨g, 0, none⟩) ss.length c ∧ B ≤ g ∧ g < w.heap.size ∧ ss.length ≤ c ∧ c ≤ maxLen := by
  rcases h.st.2 with ⟨rfl, h0⟩ | ⟨g, cap, cur, rfl, hb, hg, hnc, hcm, hcs, htake⟩
  · omega
  · exact ⟨g, cap, rfl, hb, (Array.getElem?_eq_some_iff.1 hg).1, hnc, hcm⟩
theorem OwnPlan.opened {w : World} {B : Nat} {v : Value} {ss : List Stp} (h : OwnPlan w B v ss) : ∃ (A : Option Addr) (c : Nat), v = .slice A ss.length c ∧ ss.length ≤ c ∧ c ≤ maxLen := by
  rcases h.st.2 with ⟨rfl, h0⟩ | ⟨g, cap, cur, rfl, hb, hg, hnc, hcm, hcs, htake⟩
  · exact ⟨none, 0, by rw [h0], by omega, Nat.zero_le _⟩
  · exact ⟨some ⟨g, 0, none⟩, cap, rfl, hnc, hcm⟩
/-- What another part of memory does leaves it. -/
theorem OwnPlan.out {S : Nat → Prop} {w w' : World} {B : Nat} {v : Value} {ss : List Stp} (h : OwnPlan w B v ss) (ho : TurnsIn S w w') (hv : ∀ g, v.ownBlock = some g → ¬ S g) (hd : ∀ s ∈ ss, ∀ g, (slS s).ownBlock = some g → ¬ S g) : OwnPlan w' B v ss :=
  ⟨h.st.out ho hv, fun s hs => (h.dat s hs).out ho (hd s hs), h.apart⟩
theorem OwnPlan.below {w w' : World} {B : Nat} {v : Value} {ss : List Stp} (h : OwnPlan w B v ss) (hb : Below w.heap.size w w') : OwnPlan w' B v ss :=
  h.out (TurnsIn.ofNew (S := fun _ => False) hb) (fun _ _ h => h) fun _ _ _ _ h => h
theorem flat_set (l : List Stp) (s s' : Stp) : (((l ++ [s]).flatMap cellsS).set (l.length * 4 + 3) (.slice s'.A s'.zs.length s'.cap)).set (l.length * 4 + 2) (.int .i64 s'.x) = (l ++ [({a := s.a, b := s.b, x := s'.x, A := s'.A, cap := s'.cap, zs := s'.zs} : Stp)]).flatMap cellsS := by
  have hl : (l.flatMap cellsS).length = l.length * 4 := by
    induction l with
    | nil => rfl
    | cons a l ih => rw [List.flatMap_cons, List.length_append, ih]; simp [cellsS]; omega
  rw [List.flatMap_append, List.flatMap_append, List.set_append_right _ _ (by omega), List.set_append_right _ _ (by omega), hl]
  simp [cellsS]
theorem OwnPlan.cellOf {w : World} {B g c n : Nat} {l : List Stp} {s : Stp} (h : OwnPlan w B (.slice (some ⟨g, 0, none⟩) n c) (l ++ [s])) (j : Nat) (u : Value) (hu : (cellsS s)[j]? = some u) : w.cell? ⟨g, l.length * 4 + j, none⟩ = some u := by
  have hcell := World.ownsRow.cells h.st (g := g) rfl (l.length * 4 + j) u (flat_get (l ++ [s]) l.length j s u (by simp) hu)
  rw [add_plain, Nat.zero_add] at hcell
  exact hcell
/-- The last step's bytes have grown. -/
theorem OwnPlan.more {w w5 : World} {B g c n c5 : Nat} {A5 : Option Addr} {l : List Stp} {s : Stp} {xs : List Int} (h : OwnPlan w B (.slice (some ⟨g, 0, none⟩) n c) (l ++ [s])) (hn : n = (l ++ [s]).length) (hB : B ≤ w.heap.size)
    (own5 : Own w5 B 5 .u8 (.slice A5 (s.zs ++ xs).length c5) (s.zs ++ xs)) (hg5 : w.grownBy w5 (slS s).ownBlock) (hv5 : (Value.slice A5 (s.zs ++ xs).length c5).ownBlock = (slS s).ownBlock ∨ (Value.slice A5 (s.zs ++ xs).length c5).ownBlock = some w.heap.size) :
    OwnPlan ((w5.setCell ⟨g, l.length * 4 + 3, none⟩ (.slice A5 (s.zs ++ xs).length c5)).setCell ⟨g, l.length * 4 + 2, none⟩ (.int .i64 ((s.zs ++ xs).length : Nat))) B (.slice (some ⟨g, 0, none⟩) n c) (l ++ [⟨s.a, s.b, ((s.zs ++ xs).length : Nat), A5, c5, s.zs ++ xs⟩]) ∧
      Below B w ((w5.setCell ⟨g, l.length * 4 + 3, none⟩ (.slice A5 (s.zs ++ xs).length c5)).setCell ⟨g, l.length * 4 + 2, none⟩ (.int .i64 ((s.zs ++ xs).length : Nat))) ∧
      TurnsIn (footP (.slice (some ⟨g, 0, none⟩) n c) (l ++ [s])) w ((w5.setCell ⟨g, l.length * 4 + 3, none⟩ (.slice A5 (s.zs ++ xs).length c5)).setCell ⟨g, l.length * 4 + 2, none⟩ (.int .i64 ((s.zs ++ xs).length : Nat))) := by
  subst hn
  have hdl := h.dat s (by simp)
  have t5 : TurnsIn (fun b => (slS s).ownBlock = some b) w w5 := .ofGrown hg5 fun b hb => hb
  have st5 : OwnSteps w5 B (.slice (some ⟨g, 0, none⟩) (l ++ [s]).length c) (l ++ [s]) := h.st.out t5 fun b hb he => h.st.ne_own hdl (by decide) b he hb
  obtain ⟨st6, g6⟩ := World.ownsRow.stored (show w5.ownsRow B 30 4 _ _ _ from st5) (l.length * 4 + 3) (.slice A5 (s.zs ++ xs).length c5)
  obtain ⟨st7, g7⟩ := World.ownsRow.stored st6 (l.length * 4 + 2) (.int .i64 ((s.zs ++ xs).length : Nat))
  rw [flat_set l s ⟨s.a, s.b, ((s.zs ++ xs).length : Nat), A5, c5, s.zs ++ xs⟩] at st7
  have t7 : TurnsIn (· = g) w5 ((w5.setCell ⟨g, l.length * 4 + 3, none⟩ (.slice A5 (s.zs ++ xs).length c5)).setCell ⟨g, l.length * 4 + 2, none⟩ (.int .i64 ((s.zs ++ xs).length : Nat))) :=
    ((TurnsIn.refl (· = g) w5).setCell (p := ⟨g, l.length * 4 + 3, none⟩) (.inl rfl) _).setCell (p := ⟨g, l.length * 4 + 2, none⟩) (.inl rfl) _
  have hap := List.pairwise_append.1 h.apart
  have hgB := h.st.lt g rfl
  refine ⟨⟨?_, ?_, ?_⟩, ?_, ?_⟩
  · unfold OwnSteps
    have e : (l ++ [({a := s.a, b := s.b, x := ((s.zs ++ xs).length : Nat), A := A5, cap := c5, zs := s.zs ++ xs} : Stp)]).length = (l ++ [s]).length := by simp
    rw [e]
    exact st7
  · intro t ht
    rcases List.mem_append.1 ht with ht | ht
    · have h1 := (h.dat t (List.mem_append_left _ ht)).out t5 (fun b hb he => hap.2.2 t ht s (by simp) b hb he)
      exact h1.out t7 fun b hb he => by
        subst he
        exact st5.ne_own h1 (by decide) b hb rfl
    · obtain rfl : t = _ := by simpa using ht
      exact own5.out t7 fun b hb he => by
        subst he
        exact st5.ne_own own5 (by decide) b hb rfl
  · refine List.pairwise_append.2 ⟨hap.1, by simp, fun t ht q hq b hb he => ?_⟩
    obtain rfl : q = _ := by simpa using hq
    rcases hv5 with hv | hv
    · exact hap.2.2 t ht s (by simp) b hb (by rw [← hv]; exact he)
    · have hlt := ((h.dat t (List.mem_append_left _ ht)).lt b hb).2
      have he' : (Value.slice A5 (s.zs ++ xs).length c5).ownBlock = some b := he
      rw [hv] at he'
      injection he' with he'
      omega
  · exact ((below_of_grown hg5 hB fun b hb => (hdl.lt b hb).1).setCell (p := ⟨g, l.length * 4 + 3, none⟩) hgB.1 _).setCell (p := ⟨g, l.length * 4 + 2, none⟩) hgB.1 _
  · have t5' : TurnsIn (footP (.slice (some ⟨g, 0, none⟩) (l ++ [s]).length c) (l ++ [s])) w w5 := .ofGrown hg5 fun b hb => .inr ⟨s, by simp, hb⟩
    exact (t5'.setCell (p := ⟨g, l.length * 4 + 3, none⟩) (.inl (.inl rfl)) _).setCell (p := ⟨g, l.length * 4 + 2, none⟩) (.inl (.inl rfl)) _

theorem OwnPlan.after {w w5 : World} {B g c n : Nat} {l : List Stp} {s : Stp} (h : OwnPlan w B (.slice (some ⟨g, 0, none⟩) n c) (l ++ [s])) (hn : n = (l ++ [s]).length) (hg5 : w.grownBy w5 (slS s).ownBlock) :
    (∀ j u, (cellsS s)[j]? = some u → w5.cell? ⟨g, l.length * 4 + j, none⟩ = some u) ∧ ∀ i, w5.frozen? ⟨g, i, none⟩ = false := by
  subst hn
  have hdl := h.dat s (by simp)
  have st5 : OwnSteps w5 B (.slice (some ⟨g, 0, none⟩) (l ++ [s]).length c) (l ++ [s]) := h.st.out (TurnsIn.ofGrown (S := fun b => (slS s).ownBlock = some b) hg5 fun b hb => hb) fun b hb he => h.st.ne_own hdl (by decide) b he hb
  refine ⟨fun j u hu => ?_, fun i => World.ownsRow.frozenAt st5 i⟩
  have hcell := World.ownsRow.cells st5 (g := g) rfl (l.length * 4 + j) u (flat_get (l ++ [s]) l.length j s u (by simp) hu)
  rw [add_plain, Nat.zero_add] at hcell
  exact hcell
set_option maxRecDepth 100000 in
set_option maxHeartbeats 6400000 in
theorem withLit_last {v : Value} {l : List Stp} {s : Stp} {B : Nat} {w : World} (A : Option Addr) (xs : List Int) (c : Nat) (h : OwnPlan w B v (l ++ [s])) (ha : s.a = 1) (hB : B ≤ w.heap.size) (hl : l.length ≤ 100000) (hz : s.zs.length + xs.length ≤ 1000000) (hr : Holds w B .u8 A xs) :
    Calls Try.prog 26 #[v, .slice A xs.length c] w fun e w' => ∃ (v' : Value) (ss : List Stp), e = .returned v' ∧ OwnPlan w' B v' ss ∧ ss.map sqS = (l.map sqS) ++ [⟨1, s.b, ((s.zs ++ xs).length : Int), s.zs ++ xs⟩] ∧ Below B w w' ∧ TurnsIn (footP v (l ++ [s])) w w' := by
  obtain ⟨g, c0, rfl, _, _, k1, k2⟩ := h.form (by simp)
  have q0 := h.cellOf 0 _ rfl
  have q3 := h.cellOf 3 _ rfl
  have own := h.dat s (by simp)
  rw [ha, Nat.add_zero] at q0
  have HP := Lib.hid h
  have HR := Lib.hid hr
  have hln : (l ++ [s]).length = l.length + 1 := by simp
  rw [hln] at HP k1 ⊢
  have hk : l.length < l.length + 1 := by omega
  have HLN := Lib.hid hln
  clear h hr hln
  go_enter Try.func26, Try.ntmps26
  go_wp2_with (at_builtin; go_loud (refine wpList_append_ints (ys := xs) _ rfl _ _ _ rfl elem8 own rfl rfl HR.out (by omega) hB ?_; intro v5 w5 own5 hg5 hb5 hv5; obtain ⟨A5, c5, rfl, kk5, km5, hh5⟩ := own5.opened; clear hh5; obtain ⟨r1, r2⟩ := HP.out.after HLN.out.symm hg5; have q5 := r1 3 _ rfl; have q6 := r1 2 _ rfl; have MR := Lib.hid (HP.out.more HLN.out.symm hB own5 hg5 hv5); clear r1 own5 hg5 hb5 hv5))
  go_ret
  obtain ⟨p, b, t⟩ := MR.out
  have hm : (l ++ [({a := s.a, b := s.b, x := ((s.zs ++ xs).length : Nat), A := A5, cap := c5, zs := s.zs ++ xs} : Stp)]).map sqS = (l.map sqS) ++ [⟨1, s.b, ((s.zs ++ xs).length : Int), s.zs ++ xs⟩] := by simp [sqS, ha]
  simp only [List.length_append, Int.natCast_add] at p b t hm ⊢
  exact ⟨_, _, rfl, p, hm, b, t⟩
end Go.Proofs.Ytlcnbepldkbkgaa.Dl
