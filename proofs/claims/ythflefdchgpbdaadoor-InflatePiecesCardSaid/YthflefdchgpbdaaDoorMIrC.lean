/-
  Layer 13, inflate: the document's reader: get, next, made, fixed, over what is read: contracts. Conditions: as each theorem names.
-/
import Derived.Test.YthflefdchgpbdaaDoorMIrB
import Derived.Test.YthflefdchgpbdaaDoorMHufE
import Derived.Test.YthflefdchgpbdaaDoorMGIces18
namespace Go.Proofs.YthflefdchgpbdaaDoor.Inf
open Go.ChangeShapes Go.WideShapes Go.ChangeAt Go.RowKit Go.Proofs.YthflefdchgpbdaaDoor.Kit Go.Proofs.YthflefdchgpbdaaDoor.Bits Go.Proofs.YthflefdchgpbdaaDoor.Huf Go.Proofs.YthflefdchgpbdaaDoor.Df

/-- The bits that are read. -/
structure Rx (w : World) (AL : Option Addr) (bits : List Int) (cL : Nat) : Prop where
  h : Holds w w.heap.size .u8 AL bits
  p : 0 < bits.length
  m : bits.length ≤ 100000
  b : Bit bits
  c : bits.length ≤ cL
/-- A table's lengths and numbers. -/
structure Cx9 (w : World) (A1 : Option Addr) (l : List Int) (A2 : Option Addr) : Prop where
  h : Holds w w.heap.size .u8 A1 l
  h2 : Holds w w.heap.size .u16 A2 (codes l)
  m : mayB l = true
  o : Octets l
section
variable {w w' : World} {AL A1 A2 : Option Addr} {bits l : List Int} {cL : Nat}
theorem Rx.below (h : Rx w AL bits cL) (hb : Below w.heap.size w w') : Rx w' AL bits cL := ⟨(h.h.below hb).more hb.size, h.p, h.m, h.b, h.c⟩
theorem Cx9.below (h : Cx9 w A1 l A2) (hb : Below w.heap.size w w') : Cx9 w' A1 l A2 := ⟨(h.h.below hb).more hb.size, (h.h2.below hb).more hb.size, h.m, h.o⟩
end
def sD (AL : Option Addr) (nL cL : Nat) (Ao : Option Addr) (no co : Nat) (most : Int) (d : DS) : Value := .agg (sC AL nL cL (d.p : Int) Ao no co most d.e)

theorem get_any (k : Nat) (AL : Option Addr) (bits : List Int) (cL : Nat) (Ao : Option Addr) (no co : Nat) (most : Int) (d : DS) (w : World) (X : Rx w AL bits cL) (hk : k ≤ 32) (hp : d.p ≤ bits.length) :
    Calls Tryd.prog 24 #[sD AL bits.length cL Ao no co most d, .int .i64 k] w fun x w' => x = .returned (.tuple #[.int .i64 (numD k bits d).1, sD AL bits.length cL Ao no co most (numD k bits d).2]) ∧ Below w.heap.size w w' := by
  unfold sD numD
  by_cases he : d.e ≠ 0
  · rw [if_pos he]
    exact get_idle k AL bits.length cL d.p Ao no co most d.e w he
  · rw [if_neg he, show d.e = 0 by omega]
    by_cases hm : bits.length < d.p + k
    · rw [if_pos hm]
      exact get_miss k AL bits.length cL d.p Ao no co most w (by omega) hp hm
    · rw [if_neg hm]
      obtain ⟨b, off, rfl, _, _⟩ := X.h X.p
      have := get_ok k b off bits cL d.p Ao no co most w hk (by have := X.m; omega) (by omega) X.b X.c X.h
      exact this
theorem next_any (A1 A2 : Option Addr) (l : List Int) (c1 c2 : Nat) (AL : Option Addr) (bits : List Int) (cL : Nat) (Ao : Option Addr) (no co : Nat) (most : Int) (d : DS) (w : World) (X : Rx w AL bits cL) (T : Cx9 w A1 l A2) (hp : d.p ≤ bits.length) :
    Calls Tryd.prog 40 #[sD AL bits.length cL Ao no co most d, .agg (cC A1 l.length c1 A2 c2)] w fun x w' => x = .returned (.tuple #[.int .i64 (symD l bits d).1, sD AL bits.length cL Ao no co most (symD l bits d).2]) ∧ Below w.heap.size w w' := by
  unfold sD
  by_cases he : d.e ≠ 0
  · unfold symD
    rw [if_pos he]
    exact next_idle A1 l.length c1 A2 c2 AL bits.length cL d.p Ao no co most d.e w he
  · obtain ⟨b, off, rfl, _, _⟩ := X.h X.p
    have := next_live l bits A1 c1 A2 c2 b off cL d.p Ao no co most w T.m T.o (may_yes T.m).1 X.b (by have := X.m; omega) hp X.c T.h T.h2 X.h
    have e0 : d.e = 0 := by omega
    have e1 : (symD l bits d).1 = (symD l bits ⟨d.p, [], 0⟩).1 ∧ (symD l bits d).2.p = (symD l bits ⟨d.p, [], 0⟩).2.p ∧ (symD l bits d).2.e = (symD l bits ⟨d.p, [], 0⟩).2.e := by
      unfold symD
      rw [if_neg he, if_neg (by simp)]
      simp only
      split <;> simp [e0]
    rw [e1.1, e1.2.1, e1.2.2, e0]
    exact this

theorem refuse_any (is : Bool) (E : Int) (AL : Option Addr) (nL cL : Nat) (Ao : Option Addr) (no co : Nat) (most : Int) (d : DS) (w : World) :
    Calls Tryd.prog 17 #[sD AL nL cL Ao no co most d, .bool is, .int .i64 E] w fun x w' => x = .returned (sD AL nL cL Ao no co most (failD is E d)) ∧ Below w.heap.size w w' := by
  have := fail_any is E AL nL cL d.p Ao no co most d.e w
  have e : sD AL nL cL Ao no co most (failD is E d) = .agg (sC AL nL cL d.p Ao no co most (failE is E d.e)) := by
    unfold sD failD failE
    split <;> rfl
  rw [e]
  exact this

/-- made: a table. -/
def MadeTo (A : Option Addr) (l : List Int) (c : Nat) (w : World) (e : Ending) (w' : World) : Prop := ∃ A2 c2, e = .returned (.agg (cC A l.length c A2 c2)) ∧ Cx9 w' A l A2 ∧ Below w.heap.size w w'
set_option maxRecDepth 100000 in
set_option maxHeartbeats 1600000 in
theorem made_any (A : Option Addr) (l : List Int) (c : Nat) (w : World) (ho : Octets l) (hm : mayB l = true) (hr : Holds w w.heap.size .u8 A l) :
    Calls Tryd.prog 29 #[.slice A l.length c] w (MadeTo A l c w) := by
  have b1 : ∀ cs, Below w.heap.size w (w.alloc (.cells cs 65)) := fun cs => (Below.refl _ _).alloc (Nat.le_refl _) _
  have x1 := Block.new w 65 #[.slice none 0 0, .slice none 0 0]
  have G := Lib.hid (rcodes_any A l c (w.alloc (.cells #[.slice none 0 0, .slice none 0 0] 65)) ho (may_yes hm).1 (may_yes hm).2 ((hr.below (b1 _)).more (b1 _).size))
  have HR := Lib.hid hr
  have hb1 := b1 #[.slice none 0 0, .slice none 0 0]
  have HO := Lib.hid (And.intro hm ho)
  clear hr b1 hm ho
  go_enter Tryd.func29, Tryd.ntmps29
  go_wp2_with fail
  refine G.out.mono ?_
  rintro e w4 ⟨v, rfl, own, hb4⟩
  have x4 := x1.below hb4 (by simp)
  have B4 := hb1.trans (hb4.mono hb1.size)
  have hne : v.ownBlock ≠ some w.heap.size := fun h => by have := (own.lt _ h).1; simp at this; omega
  obtain ⟨A2, c2, rfl, _, _, _⟩ := own.opened
  have HN := Lib.hid hne
  clear hne hb4 hb1 x1
  rw [codes_length] at *
  go_wp2_with (have _t := x4; refine wpList_store_blk rfl _ _ _ rfl (ds := [.slice A l.length c, .slice A2 l.length c2]) x4 rfl rfl rfl (by kernel_rfl) (by intro u hu; simp only [List.mem_cons, List.not_mem_nil, or_false] at hu; rcases hu with rfl | rfl <;> rfl) ?_; clear _t; intro w5 X5 g5)
  have own5 := own.kept g5 (.inr HN.out)
  have H5 := own5.opened
  obtain ⟨A3, c3, e3, _, _, H3⟩ := H5
  rw [codes_length] at e3
  injection e3 with e3 e4 e5
  subst e3
  have B5 := B4.trans (below_of_grown g5 B4.size (fun x hx => by injection hx with hx; have := X5.lt; omega))
  exact bodyPost_ret (v := .agg #[.slice A l.length c, .slice A2 l.length c2]) (results_cell_row rfl _ _ w.heap.size 65 _ (0, 0) _ rfl X5 Tryd.underlying65 rfl (by kernel_rfl)) rfl
    ⟨A2, c2, rfl, ⟨(HR.out.below B5).more B5.size, H3, HO.out.1, HO.out.2⟩, B5⟩
end Go.Proofs.YthflefdchgpbdaaDoor.Inf
