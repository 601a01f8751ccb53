/-
  Layer 23, parcel: what is no package is refused with its fourth byte; the document's example: contracts. Conditions: as each theorem names.
-/
import Derived.Test.YtoegioeioohidaaPcB
import Derived.BigQuiet
namespace Go.Proofs.Ytoegioeioohidaa.Pc
open Go.ChangeShapes Go.WideShapes Go.ChangeAt Go.RowKit Go.Conc Go.Proofs.Ytoegioeioohidaa.Kit Go.Proofs.Ytoegioeioohidaa.Bits

set_option maxRecDepth 100000 in
set_option maxHeartbeats 6400000 in
theorem feed_bad (p c : Nat) (Ab : Option Addr) (cb : Nat) (B : Nat) (w : World) (hB : B ≤ p) (hcb : 4 ≤ cb) (hp : Block w p 50 (pC (.slice none 0 0) 4 c 0)) (hc : w.heap[c]? = some (.chan 1 #[] false 0 0 false)) (hb : Holds w w.heap.size .u8 Ab [68, 82, 71, 88]) (hno : ∀ b off, Ab = some ⟨b, off, none⟩ → b ≠ p) :
    Calls Try.prog 5 #[.pointer (some ⟨p, 0, none⟩), .slice Ab 4 cb] w fun e w' => e = .returned (.tuple #[.int .i64 0, .int .i64 3]) ∧ Below B w w' := by
  have hlt := hp.lt
  have hcl : c < w.heap.size := by
    rcases Nat.lt_or_ge c w.heap.size with h | h
    · exact h
    · rw [Array.getElem?_eq_none h] at hc; cases hc
  have GD := Lib.hid (fun (hd : Value) (er : Int) W (h : Block W p 50 (pC hd 4 c er)) => done_new p c hd er W h)
  have GT := Lib.hid (fun W (h : Block W p 50 (pC (.slice none 0 0) 4 c 0)) (h2 : W.heap[c]? = some (.chan 1 #[] false 0 0 false)) (h3 : Holds W W.heap.size .u8 Ab [68, 82, 71, 88]) => take_any p c [68, 82, 71, 88] Ab cb W rfl h h2 h3 hno)
  unfold TakeTo at GT
  have GL := Lib.hid (fun (A : Option Addr) (c' : Nat) W (h : Block W p 50 (pC (.slice A 4 c') 4 c 0)) (h2 : Holds W W.heap.size .u8 A [68, 82, 71, 88]) => look_bad p c A c' W h h2)
  have k4 : w.cell? ⟨p, 4, none⟩ = some (.int .i64 0) := hp.cell 4
  go_enter Try.func5, Try.ntmps5
  go_upto_region 5 with (have _t := GD; go_at_call 10; refine (GD.out _ _ _ hp).mono ?_; rintro e w1 ⟨rfl, b1⟩; clear _t)
  have p1 := hp.below b1 hlt
  have c1 := (b1.block c hcl).trans hc
  have h1 := (hb.below b1).more b1.size
  have t1 := b1.mono (Nat.le_of_lt (Nat.lt_of_le_of_lt hB hlt))
  have l1 := p1.lt
  have lc1 : c < w1.heap.size := Nat.lt_of_lt_of_le hcl b1.size
  clear k4 hp hc hb b1 hlt hcl
  have k4 : w1.cell? ⟨p, 4, none⟩ = some (.int .i64 0) := p1.cell 4
  go_upto_region 7 with (have _t := GD; go_at_call 10; refine (GD.out _ _ _ p1).mono ?_; rintro e w2 ⟨rfl, b2⟩; clear _t)
  have p2 := p1.below b2 l1
  have c2 := (b2.block c lc1).trans c1
  have h2 := (h1.below b2).more b2.size
  have t2 : Below B w w2 := t1.trans (b2.mono (by omega))
  have l2 := p2.lt
  clear k4 p1 c1 h1 t1 b2 l1 lc1
  go_wp2_with fail
  go_loopw [6] (fun s wr => s = .int .i64 0 ∧ wr = w2) (fun _ _ => 0)
  case atStart => exact ⟨rfl, rfl⟩
  case round =>
    obtain ⟨rfl, rfl⟩ := hrel
    have k3 : wr.cell? ⟨p, 3, none⟩ = some (.bool false) := p2.cell 3
    have k1 : ∀ n, (wr.drewN n).cell? ⟨p, 1, none⟩ = some (.int .i64 4) := fun n => (p2.drewN n).cell 1
    have k0 : ∀ n, (wr.drewN n).cell? ⟨p, 0, none⟩ = some (.slice none 0 0) := fun n => (p2.drewN n).cell 0
    go_upto_region 9 with fail
    go_quiet (fail)
    have p3 := p2.drewN nq
    have b3 : Below wr.heap.size wr (wr.drewN nq) := below_draws (Below.refl _ _) nq
    have c3 : (wr.drewN nq).heap[c]? = some (.chan 1 #[] false 0 0 false) := c2
    have h3 := (h2.below b3).more b3.size
    have t3 : Below B w (wr.drewN nq) := below_draws t2 nq
    have l3 := p3.lt
    clear k3 k1 k0 p2 c2 h2 t2 b3 l2
    generalize wr.drewN nq = w3 at *
    have cb0 : (0 : Int) ≤ 4 := by omega
    have cb1 : (4 : Int) ≤ (cb : Int) := by omega
    have cb2 : ¬ cb = 0 := by omega
    go_upto_region 11 with (have _t := GT; go_at_call 16; refine (GT.out _ p3 c3 h3).mono ?_; rintro e w4 ⟨rfl, A4, c4, p4, h4, t4⟩; clear _t)
    have p4 : Block w4 p 50 (pC (.slice A4 4 c4) 4 c 0) := p4
    have z4 := t4.size
    have b4 : Below B w w4 := t3.trans (t4.toBelow (by omega) (fun b hb e => by omega))
    clear p3 c3 h3 t3 t4 cb0 cb1 cb2
    have k1 : ∀ n, (w4.drewN n).cell? ⟨p, 1, none⟩ = some (.int .i64 4) := fun n => (p4.drewN n).cell 1
    have k0 : ∀ n, (w4.drewN n).cell? ⟨p, 0, none⟩ = some (.slice A4 4 c4) := fun n => (p4.drewN n).cell 0
    go_upto_region 12 with fail
    go_quiet (fail)
    have p5 := p4.drewN nq
    have b45 : Below w4.heap.size w4 (w4.drewN nq) := below_draws (Below.refl _ _) nq
    have h5 := (h4.below b45).more b45.size
    have b5 : Below B w (w4.drewN nq) := below_draws b4 nq
    clear k1 k0 p4 h4 b4 b45
    generalize w4.drewN nq = w5 at *
    go_upto_region 14 with (have _t := GL; go_at_call 17; (refine (GL.out _ _ _ p5 h5).mono ?_; rintro e w5b ⟨rfl, rfl⟩; have kk4 : w5b.cell? ⟨p, 4, none⟩ = some (.int .i64 0) := p5.cell 4; have f4 := p5.frozen 4; clear _t))
    have p6 := p5.set_ 4 (.int .i64 3)
    unfold pC at p6
    simp only [List.setIfInBounds_toArray, List.set_cons_zero, List.set_cons_succ] at p6
    have b6 : Below B w (w5b.setCell ⟨p, 4, none⟩ (.int .i64 3)) := b5.trans (below_of_grown (grown_cell w5b p 4 (.int .i64 3)) (by have := p5.lt; omega) (fun x hx => by injection hx with hx; omega))
    generalize w5b.setCell ⟨p, 4, none⟩ (.int .i64 3) = w6 at *
    have k4 : w6.cell? ⟨p, 4, none⟩ = some (.int .i64 3) := p6.cell 4
    have kn : ∀ n, (w6.drewN n).cell? ⟨p, 4, none⟩ = some (.int .i64 3) := fun n => (p6.drewN n).cell 4
    go_upto_region 15 with fail
    go_quiet (fail)
    have b7 : Below B w (w6.drewN nq) := below_draws b6 nq
    go_wp2_with fail
    go_ret2
    exact ⟨rfl, b7⟩
end Go.Proofs.Ytoegioeioohidaa.Pc
