/-
  Layer 18, rows of numbers of the call's own; the document's Turned: a contract. Conditions: as each theorem names.
-/
import Derived.Test.YtojmcjkeniepcaaMGrP
import Derived.Test.YtojmcjkeniepcaaMGOree8
namespace Go.Proofs.Ytojmcjkeniepcaa.Kit
open Go.ChangeShapes Go.WideShapes Go.ChangeAt Go.RowKit

def Ri.val (r : Ri) : Value := .slice r.A r.zs.length r.cap
/-- A row of numbers of the call's own. -/
def RiOwn (w : World) (B : Nat) (r : Ri) : Prop := Own w B 3 .i64 r.val r.zs ∧ In64 r.zs
section
variable {w w' : World} {B B' : Nat} {e : TypeId} {v : Value} {us : List Value} {r : Ri} {rs : List Ri}
theorem RiOwn.below (h : RiOwn w B r) (hb : Below w.heap.size w w') : RiOwn w' B r := ⟨h.1.below hb, h.2⟩
theorem RiOwn.mono (h : RiOwn w B r) (hB : B' ≤ B) : RiOwn w B' r := ⟨h.1.mono hB, h.2⟩
/-- Rows of different types of cells never share a block. -/
theorem Own.apart {k : IntKind} {u : Value} {xs : List Int} {e2 : TypeId} (h : Own w B e k u xs) (g : OwnV w B' e2 v us) (hne : e ≠ e2) : u.ownBlock = none ∨ u.ownBlock ≠ v.ownBlock := by
  rcases h.2 with ⟨rfl, _⟩ | ⟨g1, cap, cur, rfl, _, hh, _⟩
  · exact .inl rfl
  · refine .inr fun he => ?_
    rcases g.2 with ⟨rfl, _⟩ | ⟨g2, cap2, cur2, rfl, _, hh2, _⟩
    · simp [Value.ownBlock] at he
    · obtain rfl : g1 = g2 := by simpa [Value.ownBlock] using he
      rw [hh] at hh2
      injection hh2 with hh2
      injection hh2 with _ ht
      exact hne ht
theorem RiOwn.grown (h : RiOwn w B r) (g : OwnV w B' e v us) (hne : 3 ≠ e) (hg : w.grownBy w' v.ownBlock) : RiOwn w' B r := ⟨h.1.kept hg (h.1.apart g hne), h.2⟩
theorem RiOwn.riIn (h : RiOwn w B r) : RiIn w w.heap.size r [r.val] := by
  obtain ⟨A, cap, e, h1, h2, h3⟩ := h.1.opened
  unfold Ri.val at e
  injection e with e1 e2 e3
  subst e1 e3
  exact ⟨rfl, h1, h2, h.2, h3⟩
theorem OwnV.ints {A : Option Addr} {n cap : Nat} (h : OwnV w B e (.slice A n cap) (rs.map Ri.val)) (hr : ∀ r ∈ rs, RiOwn w B' r) : HoldsI w w.heap.size A rs := by
  intro hx
  obtain ⟨g, rfl, hlt, _⟩ := h.cellAt (i := 0) (by simpa using hx)
  refine ⟨g, 0, rfl, hlt, fun i r hi => ?_⟩
  refine ⟨_, (hr r (List.mem_of_getElem? hi)).riIn, rfl, fun j u hj => ?_⟩
  have hj0 : j = 0 := by
    rcases j with _ | j
    · rfl
    · simp at hj
  subst hj0
  obtain ⟨hil, hir⟩ := List.getElem?_eq_some_iff.1 hi
  obtain ⟨g2, e2, _, hc⟩ := h.cellAt (i := i) (by simpa using hil)
  injection e2 with e2
  injection e2 with e2
  subst e2
  rw [Nat.zero_add, Nat.mul_one, Nat.add_zero, hc]
  have hu : u = r.val := by simpa using hj.symm
  subst hu
  rw [List.getElem_map, hir]
end
theorem elemI : IntElem Try.prog 25 3 .i64 8 := ⟨by kernel_rfl, by kernel_rfl, by decide⟩
theorem elemR : ValElem Try.prog 35 25 (.slice none 0 0) 24 := ⟨by kernel_rfl, by kernel_rfl, rfl, by decide⟩
end Go.Proofs.Ytojmcjkeniepcaa.Kit
namespace Go.Proofs.Ytojmcjkeniepcaa.Gr
open Go.ChangeShapes Go.WideShapes Go.ChangeAt Go.RowKit Go.Proofs.Ytojmcjkeniepcaa.Kit

theorem below_last (w : World) (o : Obj) : Below w.heap.size w (w.alloc o) := (Below.refl _ _).alloc (Nat.le_refl _) _
/-- Rows of numbers in new memory. -/
def GivesI (L : List (List Int)) (w : World) (e : Ending) (w' : World) : Prop :=
  ∃ (A : Option Addr) (cap : Nat) (qs : List Ri), e = .returned (.slice A qs.length cap) ∧ qs.length ≤ cap ∧ cap ≤ maxLen ∧ rowsL qs = L ∧ HoldsI w' w'.heap.size A qs ∧ Below w.heap.size w w'
theorem turnTo_in (L : List (List Int)) (k m : Nat) (hm : m ≤ 1000000) : In64 (turnTo L k m) := by
  intro z hz
  obtain ⟨i, hi, rfl, _⟩ := mem_turnTo.1 hz
  omega
theorem rowsL_snoc (qs : List Ri) (q : Ri) : rowsL (qs ++ [q]) = rowsL qs ++ [q.zs] := by simp [rowsL]
/-- The first k rows, turned round. -/
def turnedTo (L : List (List Int)) (k : Nat) : List (List Int) := (List.range k).map fun j => turnTo L j L.length
theorem turnedTo_next (L : List (List Int)) (k : Nat) : turnedTo L (k + 1) = turnedTo L k ++ [turnTo L k L.length] := by simp [turnedTo, List.range_succ]
theorem turnedTo_length (L : List (List Int)) (k : Nat) : (turnedTo L k).length = k := by simp [turnedTo]

set_option maxRecDepth 100000 in
set_option maxHeartbeats 6400000 in
theorem rturned_any (A : Option Addr) (rs : List Ri) (c : Nat) (w : World) (hn : rs.length ≤ 4096) (f : Few rs) (hr : HoldsI w w.heap.size A rs) :
    Calls Try.prog 19 #[.slice A rs.length c] w (GivesI (turnedL (rowsL rs)) w) := by
  have O0 := OwnV.empty w 25 (B := w.heap.size) (Nat.le_refl _)
  have B0 : Below w.heap.size w (w.alloc (.cells #[] 25)) := (Below.refl _ _).alloc (Nat.le_refl _) _
  go_enter Try.func19, Try.ntmps19
  go_wp2_with fail
  go_loopw [3, 10] (fun v i wr => ∃ (k : Nat) (qs : List Ri), k ≤ rs.length ∧ i = .int .i64 k ∧ rowsL qs = turnedTo (rowsL rs) k ∧ OwnV wr w.heap.size 25 v (qs.map Ri.val) ∧ (∀ q ∈ qs, RiOwn wr 0 q) ∧ Below w.heap.size w wr) (fun _ i _ => rs.length - (intOf i).toNat)
  case atStart => exact ⟨0, [], Nat.zero_le _, rfl, rfl, O0, fun q hq => absurd hq (by simp), B0⟩
  case round =>
    obtain ⟨k, qs, hk, rfl, hqs, O, hq, B⟩ := hrel
    clear O0 B0
    obtain ⟨wo, rfl⟩ : ∃ wo : World, wo = wr := ⟨_, rfl⟩
    have hql : qs.length = k := by have := congrArg List.length hqs; rw [turnedTo_length] at this; simpa [rowsL] using this
    have HQL := Lib.hid hql
    have HQS := Lib.hid hqs
    clear hql hqs
    by_cases hlt : k < rs.length
    · have d0 : decide (k < rs.length) = true := decide_eq_true hlt
      have R0 := Own.empty (w := wo) 3 .i64 (B := wo.heap.size) (Nat.le_refl _)
      have B1 : Below wo.heap.size wo (wo.alloc (.cells #[] 3)) := (Below.refl _ _).alloc (Nat.le_refl _) _
      go_wp2_with fail
      go_loopw [5, 16] (fun v i wi => ∃ m : Nat, m ≤ rs.length ∧ i = .int .i64 m ∧ Own wi wo.heap.size 3 .i64 v (turnTo (rowsL rs) k m) ∧ Below wo.heap.size wo wi) (fun _ i _ => rs.length - (intOf i).toNat)
      case atStart => exact ⟨0, Nat.zero_le _, rfl, R0, B1⟩
      case round =>
        obtain ⟨m, hm, rfl, R, Bi⟩ := hrel
        clear R0 B1
        obtain ⟨wi, rfl⟩ : ∃ wi : World, wi = wr := ⟨_, rfl⟩
        have hmx := turnTo_length (rowsL rs) k m
        by_cases hltm : m < rs.length
        · have d1 : decide (m < rs.length) = true := decide_eq_true hltm
          have Bw := B.trans (Bi.mono B.size)
          obtain ⟨b, off, rfl, -, hc1, -, -, -, hh⟩ := riAt (hr.below Bw) hltm
          have i1 : (m : Int) < (rs.length : Int) := by omega
          have HNX := Lib.hid (turnTo_next (rowsL rs) k m)
          rw [rowsL_getD hltm] at HNX
          have G := Lib.hid (has_any rs[m].A rs[m].zs rs[m].cap (k : Int) wi (f _ (List.getElem_mem hltm)) (hh.more Bw.size))
          obtain ⟨A5, c5, l, hx⟩ : ∃ A5 c5 l, rs[m] = ⟨A5, c5, l⟩ := ⟨_, _, _, rfl⟩
          rw [hx] at hc1 HNX G
          simp only at hc1 HNX G
          clear hx hh hr
          generalize hT : turnTo (rowsL rs) k m = T at *
          clear hT
          by_cases hmem : (k : Int) ∈ l
          · rw [decide_eq_true hmem] at G
            rw [if_pos hmem] at HNX
            clear hmem
            have hz := Lib.hid Bi.size
            go_wp2_with (first
              | (go_at_call 34; refine G.out.mono ?_; rintro e w' ⟨rfl, rfl⟩)
              | (at_builtin; refine wpList_append_one _ rfl (.tmp 25) (.tmp 27) 25 rfl elemI R rfl rfl (by omega) hz.out ?_; intro v' w1 h1 h2 h3))
            go_roundw
            case rel => exact ⟨m + 1, by omega, by go_num, by rw [HNX.out]; exact h1, Bi.trans h3⟩
            case measure => simp [intOf]; omega
          · rw [decide_eq_false hmem] at G
            rw [if_neg hmem, List.append_nil] at HNX
            clear hmem
            go_wp2_with (go_at_call 34; refine G.out.mono ?_; rintro e w' ⟨rfl, rfl⟩)
            go_roundw
            case rel => exact ⟨m + 1, by omega, by go_num, by rw [HNX.out]; exact R, Bi⟩
            case measure => simp [intOf]; omega
        · have d1 : decide (m < rs.length) = false := decide_eq_false hltm
          obtain rfl : m = rs.length := by omega
          have O2 := O.below Bi
          have hq2 : ∀ q ∈ qs, RiOwn wi 0 q := fun q hqq => (hq q hqq).below Bi
          have Bw := B.trans (Bi.mono B.size)
          have hzw := Lib.hid Bw.size
          have HT := Lib.hid (turnTo_in (rowsL rs) k rs.length (by omega))
          have HN : Hid (turnedTo (rowsL rs) (k + 1) = turnedTo (rowsL rs) k ++ [turnTo (rowsL rs) k rs.length]) := Lib.hid (by rw [turnedTo_next, rowsL_length])
          generalize hT : turnTo (rowsL rs) k rs.length = T at *
          clear hT O hq hr f
          obtain ⟨Ar, cr, rfl, -, -, -⟩ := R.opened
          go_wp2_with (at_builtin; refine wpList_append_val rfl (.tmp 30) (.tmp 32) 35 rfl elemR O2 rfl (u := .slice Ar T.length cr) rfl rfl (by rw [List.length_map, HQL.out]; omega) hzw.out ?_; intro v4 w4 O4 g4 hb4)
          go_roundw
          case rel => exact ⟨k + 1, qs ++ [⟨Ar, cr, T⟩], by omega, by go_num, by rw [rowsL_snoc, HN.out, HQS.out], by rw [List.map_append]; exact O4, (by
            intro q hqq
            rcases List.mem_append.1 hqq with hqq | hqq
            · exact (((hq2 q hqq).below (below_last _ _)).grown (O2.alloc _) (by decide) g4)
            · obtain rfl : q = ⟨Ar, cr, T⟩ := by simpa using hqq
              exact RiOwn.grown (RiOwn.below ⟨R.mono (Nat.zero_le _), HT.out⟩ (below_last _ _)) (O2.alloc _) (by decide) g4), Bw.trans (hb4.mono (Nat.le_refl _))⟩
          case measure => simp [intOf]; omega
    · have d0 : decide (k < rs.length) = false := decide_eq_false hlt
      obtain rfl : k = rs.length := by omega
      obtain ⟨Ar, cr, rfl, h1, h2⟩ := O.opened
      have HH := Lib.hid (O.ints hq)
      rw [List.length_map] at h1 ⊢
      clear O hq
      go_wp2_with fail
      go_ret
      exact ⟨Ar, cr, qs, rfl, h1, h2, by rw [HQS.out]; unfold turnedTo turnedL; rw [rowsL_length], HH.out, B⟩
end Go.Proofs.Ytojmcjkeniepcaa.Gr
