/-
  Layer 25, image: Open: a contract. Conditions: as each theorem names.
-/
import Derived.Test.YtpnodocjpedcmaaDoorMGIays6
import Derived.Test.YtpnodocjpedcmaaDoorMGIays0
namespace Go.Proofs.YtpnodocjpedcmaaDoor.Im
open Go.ChangeShapes Go.WideShapes Go.ChangeAt Go.RowKit Go.Proofs.YtpnodocjpedcmaaDoor.Kit Go.Proofs.YtpnodocjpedcmaaDoor.Sec Go.Proofs.YtpnodocjpedcmaaDoor.Pt

def allV (S B sl : Int) : Int := 2 + B / S + sl * (B / S) + sl * (B / S)
def opensB (s : Dv) (S B sl : Int) : Bool := Prt.mayB S B sl && decide (S = s.size) && decide (allV S B sl ≤ s.count)
/-- An image lies at x: its layout, its parts on the device at a. -/
structure ImAt (w : World) (x a : Nat) (S B sl : Int) (p0 p1 p2 : Nat) : Prop where
  x : Block w x 121 #[.int .i64 S, .int .i64 B, .int .i64 sl, .pointer (some ⟨p0, 0, none⟩), .pointer (some ⟨p1, 0, none⟩), .pointer (some ⟨p2, 0, none⟩)]
  p0 : PartAt w p0 a (2 + B / S) (sl * (B / S))
  p1 : PartAt w p1 a (2 + B / S + sl * (B / S)) (sl * (B / S))
  p2 : PartAt w p2 a 2 (B / S)
def GOpen (a : Nat) (s : Dv) (S B sl : Int) (w : World) (e : Ending) (w' : World) : Prop :=
  Below w.heap.size w w' ∧ if opensB s S B sl = true then ∃ x p0 p1 p2, w.heap.size ≤ x ∧ w.heap.size ≤ p0 ∧ w.heap.size ≤ p1 ∧ w.heap.size ≤ p2 ∧ e = .returned (.tuple #[.pointer (some ⟨x, 0, none⟩), .int .i64 0]) ∧ ImAt w' x a S B sl p0 p1 p2
    else e = .returned (.tuple #[.pointer none, .int .i64 1])

theorem may_q {S B sl : Int} (h : Prt.mayB S B sl = true) : 1 ≤ B / S ∧ B / S ≤ 32 ∧ 1 ≤ sl * (B / S) ∧ sl * (B / S) ≤ 131072 ∧ 2 + B / S + sl * (B / S) + sl * (B / S) ≤ 1048576 := by
  unfold Prt.mayB at h
  obtain ⟨h1, h2, h3, h4, h5⟩ := of_decide_eq_true h
  obtain ⟨q1, q2, q3⟩ := Prt.q_bd S B sl (B / S) h1 h2 h4 rfl
  have q1 := q1 (by omega)
  have hq : 1 ≤ B / S := by
    have hd : B / S * S = B := Int.ediv_mul_cancel (Int.dvd_of_emod_eq_zero h3)
    by_cases hlt : B / S < 1
    · have h0 : B / S = 0 := by omega
      rw [h0, Int.zero_mul] at hd
      omega
    · omega
  have hp : 1 * 1 ≤ sl * (B / S) := Int.mul_le_mul h4.1 hq (by omega) (by omega)
  exact ⟨hq, q1.2, by omega, q3, h5⟩

set_option maxRecDepth 100000 in
set_option maxHeartbeats 6400000 in
theorem iopen_no1 (a : Nat) (S B sl : Int) (w : World) (hm : Prt.mayB S B sl = false) : Calls Tryd.prog 28 #[.pointer (some ⟨a, 0, none⟩), .agg #[.int .i64 S, .int .i64 B, .int .i64 sl]] w fun e w' => Below w.heap.size w w' ∧ e = .returned (.tuple #[.pointer none, .int .i64 1]) := by
  have GL := Lib.hid (fun W => Prt.layout_no S B sl W hm)
  unfold Prt.zeroMap at GL
  have B0 : Below w.heap.size w (w.alloc (.cells #[.int .i64 S, .int .i64 B, .int .i64 sl] 61)) := (Below.refl _ _).alloc (Nat.le_refl _) _
  clear hm
  go_enter Tryd.func28, Tryd.ntmps28
  go_wp2_with (go_at_call 56; refine (GL.out _).mono ?_; rintro e w1 ⟨rfl, hb1⟩; have B1 := B0.trans (hb1.mono B0.size))
  have B2 := B1.alloc B1.size (.cells #[.int .i64 0, .int .i64 0, .int .i64 0, .int .i64 0, .int .i64 0, .int .i64 0, .int .i64 0, .int .i64 0, .int .i64 0, .int .i64 0, .int .i64 0] 45)
  clear GL
  go_quiet (fail)
  go_wp2_with fail
  go_ret2
  exact ⟨below_draws B2 _, rfl⟩

set_option maxRecDepth 100000 in
set_option maxHeartbeats 6400000 in
theorem iopen_no2 (I : Nat → Prop) (a mk mw : Nat) (s : Dv) (S B sl : Int) (w : World) (h : DvAt w I a mk mw s) (hm : Prt.mayB S B sl = true) (hn : ¬ (S = s.size ∧ allV S B sl ≤ s.count)) : Calls Tryd.prog 28 #[.pointer (some ⟨a, 0, none⟩), .agg #[.int .i64 S, .int .i64 B, .int .i64 sl]] w fun e w' => Below w.heap.size w w' ∧ e = .returned (.tuple #[.pointer none, .int .i64 1]) := by
  have GL := Lib.hid (fun W => Prt.layout_yes S B sl (B / S) W hm rfl)
  unfold Prt.mapV at GL
  unfold allV at hn
  obtain ⟨q1, q2, q3, q4, q5⟩ := may_q hm
  generalize B / S = q at *
  generalize sl * q = p at *
  have B0 : Below w.heap.size w (w.alloc (.cells #[.int .i64 S, .int .i64 B, .int .i64 sl] 61)) := (Below.refl _ _).alloc (Nat.le_refl _) _
  have X0 := Block.new w 61 #[.int .i64 S, .int .i64 B, .int .i64 sl]
  clear hm
  by_cases hS : (s.size : Int) = S
  · have d1 : ((s.size : Int) != S) = false := by simpa using hS
    have d2 : decide ((s.count : Int) < 2 + q + p + p) = true := decide_eq_true (by omega)
    clear hn hS
    go_enter Tryd.func28, Tryd.ntmps28
    go_wp2_with (go_at_call 56; refine (GL.out _).mono ?_; rintro e w1 ⟨rfl, hb1⟩; have B1 := B0.trans (hb1.mono B0.size); have X1 := X0.below hb1 X0.lt)
    have B2 := B1.alloc B1.size (.cells #[.int .i64 0, .int .i64 1, .int .i64 1, .int .i64 1, .int .i64 2, .int .i64 q, .int .i64 (2 + q), .int .i64 p, .int .i64 (2 + q + p), .int .i64 p, .int .i64 (2 + q + p + p)] 45)
    have M2 := Block.new w1 45 #[.int .i64 0, .int .i64 1, .int .i64 1, .int .i64 1, .int .i64 2, .int .i64 q, .int .i64 (2 + q), .int .i64 p, .int .i64 (2 + q + p), .int .i64 p, .int .i64 (2 + q + p + p)]
    have X2 := X1.alloc (.cells #[.int .i64 0, .int .i64 1, .int .i64 1, .int .i64 1, .int .i64 2, .int .i64 q, .int .i64 (2 + q), .int .i64 p, .int .i64 (2 + q + p), .int .i64 p, .int .i64 (2 + q + p + p)] 45)
    have HD : Hid (∀ n, DvAt ((w1.alloc (.cells #[.int .i64 0, .int .i64 1, .int .i64 1, .int .i64 1, .int .i64 2, .int .i64 q, .int .i64 (2 + q), .int .i64 p, .int .i64 (2 + q + p), .int .i64 p, .int .i64 (2 + q + p + p)] 45)).drewN n) I a mk mw s) := Lib.hid (fun n => (h.below B2).below (below_draws (Below.refl _ _) n))
    generalize w1.alloc (.cells #[.int .i64 0, .int .i64 1, .int .i64 1, .int .i64 1, .int .i64 2, .int .i64 q, .int .i64 (2 + q), .int .i64 p, .int .i64 (2 + q + p), .int .i64 p, .int .i64 (2 + q + p + p)] 45) = W at *
    have c0 := X2.cell 0
    have c1 := M2.cell 10
    simp at c0 c1
    clear GL X1 hb1 X0 h
    go_quiet (first | (go_at_call 57; exact Calls.quiet_of_same ((size_any I a mk mw s _ (HD.out _)).mono fun _ _ h => ⟨h.1, h.2.symm⟩)) | (go_at_call 58; exact Calls.quiet_of_same ((count_any I a mk mw s _ (HD.out _)).mono fun _ _ h => ⟨h.1, h.2.symm⟩)))
    go_wp2_with fail
    go_ret2
    exact ⟨below_draws B2 _, rfl⟩
  · have d1 : ((s.size : Int) != S) = true := by simpa using hS
    clear hn hS
    go_enter Tryd.func28, Tryd.ntmps28
    go_wp2_with (go_at_call 56; refine (GL.out _).mono ?_; rintro e w1 ⟨rfl, hb1⟩; have B1 := B0.trans (hb1.mono B0.size); have X1 := X0.below hb1 X0.lt)
    have B2 := B1.alloc B1.size (.cells #[.int .i64 0, .int .i64 1, .int .i64 1, .int .i64 1, .int .i64 2, .int .i64 q, .int .i64 (2 + q), .int .i64 p, .int .i64 (2 + q + p), .int .i64 p, .int .i64 (2 + q + p + p)] 45)
    have X2 := X1.alloc (.cells #[.int .i64 0, .int .i64 1, .int .i64 1, .int .i64 1, .int .i64 2, .int .i64 q, .int .i64 (2 + q), .int .i64 p, .int .i64 (2 + q + p), .int .i64 p, .int .i64 (2 + q + p + p)] 45)
    have HD : Hid (∀ n, DvAt ((w1.alloc (.cells #[.int .i64 0, .int .i64 1, .int .i64 1, .int .i64 1, .int .i64 2, .int .i64 q, .int .i64 (2 + q), .int .i64 p, .int .i64 (2 + q + p), .int .i64 p, .int .i64 (2 + q + p + p)] 45)).drewN n) I a mk mw s) := Lib.hid (fun n => (h.below B2).below (below_draws (Below.refl _ _) n))
    generalize w1.alloc (.cells #[.int .i64 0, .int .i64 1, .int .i64 1, .int .i64 1, .int .i64 2, .int .i64 q, .int .i64 (2 + q), .int .i64 p, .int .i64 (2 + q + p), .int .i64 p, .int .i64 (2 + q + p + p)] 45) = W at *
    have c0 := X2.cell 0
    simp at c0
    clear GL X1 hb1 X0 h
    go_quiet (first | (go_at_call 57; exact Calls.quiet_of_same ((size_any I a mk mw s _ (HD.out _)).mono fun _ _ h => ⟨h.1, h.2.symm⟩)) | (go_at_call 58; exact Calls.quiet_of_same ((count_any I a mk mw s _ (HD.out _)).mono fun _ _ h => ⟨h.1, h.2.symm⟩)))
    go_wp2_with fail
    go_ret2
    exact ⟨below_draws B2 _, rfl⟩
set_option maxRecDepth 100000 in
set_option maxHeartbeats 12800000 in
theorem iopen_yes (I : Nat → Prop) (a mk mw : Nat) (s : Dv) (S B sl : Int) (w : World) (h : DvAt w I a mk mw s) (hm : Prt.mayB S B sl = true) (hS : S = s.size) (hA : allV S B sl ≤ s.count) : Calls Tryd.prog 28 #[.pointer (some ⟨a, 0, none⟩), .agg #[.int .i64 S, .int .i64 B, .int .i64 sl]] w fun e w' => Below w.heap.size w w' ∧ ∃ x p0 p1 p2, w.heap.size ≤ x ∧ w.heap.size ≤ p0 ∧ w.heap.size ≤ p1 ∧ w.heap.size ≤ p2 ∧ e = .returned (.tuple #[.pointer (some ⟨x, 0, none⟩), .int .i64 0]) ∧ ImAt w' x a S B sl p0 p1 p2 := by
  have GL := Lib.hid (fun W => Prt.layout_yes S B sl (B / S) W hm rfl)
  unfold Prt.mapV at GL
  unfold allV at hA
  obtain ⟨q1, q2, q3, q4, q5⟩ := may_q hm
  have HIM : Hid (∀ w' x p0 p1 p2, Block w' x 121 #[.int .i64 S, .int .i64 B, .int .i64 sl, .pointer (some ⟨p0, 0, none⟩), .pointer (some ⟨p1, 0, none⟩), .pointer (some ⟨p2, 0, none⟩)] → PartAt w' p0 a (2 + B / S) (sl * (B / S)) → PartAt w' p1 a (2 + B / S + sl * (B / S)) (sl * (B / S)) → PartAt w' p2 a 2 (B / S) → ImAt w' x a S B sl p0 p1 p2) := Lib.hid (fun w' x p0 p1 p2 h1 h2 h3 h4 => ⟨h1, h2, h3, h4⟩)
  generalize B / S = q at *
  generalize sl * q = p at *
  have d1 : ((s.size : Int) != S) = false := by simp [hS]
  have d2 : decide ((s.count : Int) < 2 + q + p + p) = false := decide_eq_false (by omega)
  have GP : Hid (∀ W F C, IsThere s.count F C → DvAt W I a mk mw s → Calls Tryd.prog 48 #[.pointer (some ⟨a, 0, none⟩), .agg #[.int .i64 F, .int .i64 C]] W fun e w' => ∃ p, W.heap.size ≤ p ∧ e = .returned (.tuple #[.pointer (some ⟨p, 0, none⟩), .int .i64 0]) ∧ PartAt w' p a F C ∧ Below W.heap.size W w') := Lib.hid (fun W F C hi hd => by
    have hc := hd.ok.c2
    unfold IsThere at hi
    refine (open_any I a mk mw F C s W hd (by omega) (by omega)).mono fun e w' ⟨h1, h2, _⟩ => ?_
    obtain ⟨p, hp, he, hP⟩ := h2 hi
    exact ⟨p, hp, he, hP, h1⟩)
  have GO0 := Lib.hid (fun W => GP.out W (2 + q) p (by unfold IsThere; omega))
  have GO1 := Lib.hid (fun W => GP.out W (2 + q + p) p (by unfold IsThere; omega))
  have GO2 := Lib.hid (fun W => GP.out W 2 q (by unfold IsThere; omega))
  have B0 : Below w.heap.size w (w.alloc (.cells #[.int .i64 S, .int .i64 B, .int .i64 sl] 61)) := (Below.refl _ _).alloc (Nat.le_refl _) _
  have X0 := Block.new w 61 #[.int .i64 S, .int .i64 B, .int .i64 sl]
  clear hm GP hS hA
  go_enter Tryd.func28, Tryd.ntmps28
  go_wp2_with (go_at_call 56; refine (GL.out _).mono ?_; rintro e w1 ⟨rfl, hb1⟩; have B1 := B0.trans (hb1.mono B0.size); have X1 := X0.below hb1 X0.lt)
  have B2 := B1.alloc B1.size (.cells #[.int .i64 0, .int .i64 1, .int .i64 1, .int .i64 1, .int .i64 2, .int .i64 q, .int .i64 (2 + q), .int .i64 p, .int .i64 (2 + q + p), .int .i64 p, .int .i64 (2 + q + p + p)] 45)
  have M2 := Block.new w1 45 #[.int .i64 0, .int .i64 1, .int .i64 1, .int .i64 1, .int .i64 2, .int .i64 q, .int .i64 (2 + q), .int .i64 p, .int .i64 (2 + q + p), .int .i64 p, .int .i64 (2 + q + p + p)]
  have X2 := X1.alloc (.cells #[.int .i64 0, .int .i64 1, .int .i64 1, .int .i64 1, .int .i64 2, .int .i64 q, .int .i64 (2 + q), .int .i64 p, .int .i64 (2 + q + p), .int .i64 p, .int .i64 (2 + q + p + p)] 45)
  have z1 : w1.heap.size < (w1.alloc (.cells #[.int .i64 0, .int .i64 1, .int .i64 1, .int .i64 1, .int .i64 2, .int .i64 q, .int .i64 (2 + q), .int .i64 p, .int .i64 (2 + q + p), .int .i64 p, .int .i64 (2 + q + p + p)] 45)).heap.size := by simp
  have HW : Hid (∀ V, Below w.heap.size w V → DvAt V I a mk mw s) := Lib.hid (fun V hb => h.below hb)
  have HDW : Hid (DvAt (w1.alloc (.cells #[.int .i64 0, .int .i64 1, .int .i64 1, .int .i64 1, .int .i64 2, .int .i64 q, .int .i64 (2 + q), .int .i64 p, .int .i64 (2 + q + p), .int .i64 p, .int .i64 (2 + q + p + p)] 45)) I a mk mw s) := Lib.hid (h.below B2)
  generalize w1.alloc (.cells #[.int .i64 0, .int .i64 1, .int .i64 1, .int .i64 1, .int .i64 2, .int .i64 q, .int .i64 (2 + q), .int .i64 p, .int .i64 (2 + q + p), .int .i64 p, .int .i64 (2 + q + p + p)] 45) = W at *
  have HD : Hid (∀ n, DvAt (W.drewN n) I a mk mw s) := Lib.hid (fun n => HDW.out.below (below_draws (Below.refl _ _) n))
  have c0 := X2.cell 0
  have c1 := X2.cell 1
  have c2 := X2.cell 2
  have m4 := M2.cell 4
  have m5 := M2.cell 5
  have m6 := M2.cell 6
  have m7 := M2.cell 7
  have m8 := M2.cell 8
  have m9 := M2.cell 9
  have m10 := M2.cell 10
  simp at c0 c1 c2 m4 m5 m6 m7 m8 m9 m10
  clear GL X1 hb1 X0 h
  go_quiet (first | (go_at_call 57; exact Calls.quiet_of_same ((size_any I a mk mw s _ (HD.out _)).mono fun _ _ h => ⟨h.1, h.2.symm⟩)) | (go_at_call 58; exact Calls.quiet_of_same ((count_any I a mk mw s _ (HD.out _)).mono fun _ _ h => ⟨h.1, h.2.symm⟩)))
  have i0 : ∀ w, (Instr.index 43 (.agg #[.int .i64 (2 + q), .int .i64 p, .int .i64 (2 + q + p), .int .i64 p]) (.int .i64 0)).run Tryd.prog w = .ok (.agg #[.int .i64 (2 + q), .int .i64 p]) w := fun _ => by kernel_rfl
  have i1 : ∀ w, (Instr.index 43 (.agg #[.int .i64 (2 + q), .int .i64 p, .int .i64 (2 + q + p), .int .i64 p]) (.int .i64 1)).run Tryd.prog w = .ok (.agg #[.int .i64 (2 + q + p), .int .i64 p]) w := fun _ => by kernel_rfl
  have X3 := Block.new (W.drewN nq) 121 #[.int .i64 S, .int .i64 B, .int .i64 sl, .pointer none, .pointer none, .pointer none]
  have M3 := (M2.drewN nq).alloc (.cells #[.int .i64 S, .int .i64 B, .int .i64 sl, .pointer none, .pointer none, .pointer none] 121)
  have e4 := M3.cell 4
  have e5 := M3.cell 5
  have e6 := M3.cell 6
  have e7 := M3.cell 7
  have e8 := M3.cell 8
  have e9 := M3.cell 9
  have B3 : Below w.heap.size w ((W.drewN nq).alloc (.cells #[.int .i64 S, .int .i64 B, .int .i64 sl, .pointer none, .pointer none, .pointer none] 121)) := (below_draws B2 nq).alloc B2.size _
  have HD3 := Lib.hid ((HD.out nq).alloc (.cells #[.int .i64 S, .int .i64 B, .int .i64 sl, .pointer none, .pointer none, .pointer none] 121))
  have z3 : ((W.drewN nq).alloc (.cells #[.int .i64 S, .int .i64 B, .int .i64 sl, .pointer none, .pointer none, .pointer none] 121)).heap.size = W.heap.size + 1 := by simp [World.drewN]
  rw [show (W.drewN nq).heap.size = W.heap.size from rfl] at X3
  simp at e4 e5 e6 e7 e8 e9
  clear m4 m5 m6 m7 m8 m9 m10
  go_wp2_with fail
  obtain ⟨V, hV⟩ : ∃ V, V = (W.drewN nq).alloc (.cells #[.int .i64 S, .int .i64 B, .int .i64 sl, .pointer none, .pointer none, .pointer none] 121) := ⟨_, rfl⟩
  obtain ⟨x, hxe⟩ : ∃ x, x = W.heap.size := ⟨_, rfl⟩
  rw [← hV] at X3 B3 z3 M3 ⊢
  rw [← hxe] at X3 z3 ⊢
  have hwx : w.heap.size ≤ x := by rw [hxe]; exact B2.size
  have hw1 : w1.heap.size < x := by rw [hxe]; exact z1
  obtain ⟨m, hme⟩ : ∃ m, m = w1.heap.size := ⟨_, rfl⟩
  rw [← hme] at M3 hw1 ⊢
  clear hV hxe HD3 e4 e5 e6 e7 e8 e9 HD HDW X2 M2 B2 z1 c0 c2 hme
  have r0 : Block (V.alloc (.cells #[.int .i64 (2 + q), .int .i64 p] 42)) (x + 1) 42 #[.int .i64 (2 + q), .int .i64 p] := by
    have := Block.new V 42 #[.int .i64 (2 + q), .int .i64 p]
    rwa [z3] at this
  have X0 := X3.alloc (.cells #[.int .i64 (2 + q), .int .i64 p] 42)
  have M0 := M3.alloc (.cells #[.int .i64 (2 + q), .int .i64 p] 42)
  have B4 := B3.alloc B3.size (.cells #[.int .i64 (2 + q), .int .i64 p] 42)
  have HD0 : Hid (∀ n, DvAt ((V.alloc (.cells #[.int .i64 (2 + q), .int .i64 p] 42)).drewN n) I a mk mw s) := Lib.hid (fun n => HW.out _ (below_draws B4 n))
  have z4 : (V.alloc (.cells #[.int .i64 (2 + q), .int .i64 p] 42)).heap.size = x + 2 := by simp [z3]
  refine wp_loop_rounds 3 ?_
  rw [rounds_succ]
  go_wp2_with fail
  obtain ⟨V1, hV1⟩ : ∃ V1, V1 = V.alloc (.cells #[.int .i64 (2 + q), .int .i64 p] 42) := ⟨_, rfl⟩
  rw [← hV1] at r0 X0 M0 B4 HD0 z4
  try rw [z3]
  rw [← hV1]
  clear X3 M3 B3 hV1
  ·
    refine wp_region_held_drew (S := (fun W => Block W (x + 1) 42 #[.int .i64 (2 + q), .int .i64 p])) (by kernel_rfl) r0 (fun hS => ?_)
    refine wpAnyH_take (i := 0) (oi := ⟨some 42, _, _, _, _, _⟩) (v := .pointer (some ⟨x, 0, none⟩)) rfl (by kernel_rfl) (by kernel_rfl) (by kernel_rfl) (fun _ _ _ h => h) (Or.inl ⟨by rfl, fun W hW => by go_simp⟩) hS ?_
    try simp only [Act.put, List.setIfInBounds_toArray, List.set_cons_zero, List.set_cons_succ]
    refine wpAnyH_take (i := 1) (oi := ⟨some 43, _, _, _, _, _⟩) (v := .int .i64 0) rfl (by kernel_rfl) (by kernel_rfl) (by kernel_rfl) (fun _ _ _ h => h) (Or.inl ⟨by rfl, fun W hW => by go_simp⟩) hS ?_
    try simp only [Act.put, List.setIfInBounds_toArray, List.set_cons_zero, List.set_cons_succ]
    refine wpAnyH_take (i := 2) (oi := ⟨some 44, _, _, _, _, _⟩) (v := .pointer (some ⟨a, 0, none⟩)) rfl (by kernel_rfl) (by kernel_rfl) (by kernel_rfl) (fun _ _ _ h => h) (Or.inl ⟨by rfl, fun W hW => by go_simp⟩) hS ?_
    try simp only [Act.put, List.setIfInBounds_toArray, List.set_cons_zero, List.set_cons_succ]
    refine wpAnyH_take (i := 3) (oi := ⟨some 45, _, _, _, _, _⟩) (v := .agg #[.int .i64 (2 + q), .int .i64 p]) rfl (by kernel_rfl) (by kernel_rfl) (by kernel_rfl) (fun _ _ _ h => h) (Or.inl ⟨by rfl, fun W hW => by have q0 : W.cell? ⟨(x + 1), 0, none⟩ = some (.int .i64 (2 + q)) := Block.cell hW 0; have q1 : W.cell? ⟨(x + 1), 1, none⟩ = some (.int .i64 p) := Block.cell hW 1; go_simp⟩) hS ?_
    try simp only [Act.put, List.setIfInBounds_toArray, List.set_cons_zero, List.set_cons_succ]
    refine wpAnyH_take (i := 8) (oi := ⟨some 49, _, _, _, _, _⟩) (v := .pointer (some ⟨x, 0, none⟩)) rfl (by kernel_rfl) (by kernel_rfl) (by kernel_rfl) (fun _ _ _ h => h) (Or.inl ⟨by rfl, fun W hW => by go_simp⟩) hS ?_
    try simp only [Act.put, List.setIfInBounds_toArray, List.set_cons_zero, List.set_cons_succ]
    refine wpAnyH_take (i := 9) (oi := ⟨some 50, _, _, _, _, _⟩) (v := .pointer (some ⟨x, 3, none⟩)) rfl (by kernel_rfl) (by kernel_rfl) (by kernel_rfl) (fun _ _ _ h => h) (Or.inl ⟨by rfl, fun W hW => by go_simp⟩) hS ?_
    try simp only [Act.put, List.setIfInBounds_toArray, List.set_cons_zero, List.set_cons_succ]
    refine wpAnyH_ready (rs := [4]) (by kernel_rfl) (by simp) ?_
    refine AllReadyH.cons rfl (fun K hK => ?_) AllReadyH.nil
    go_simp
    go_at_call 48
    refine (GO0.out _ (HD0.out 1)).mono ?_
    rintro e y0 ⟨p0, hp0, rfl, P0, hb0⟩
    have rr0 : Block y0 (x + 1) 42 #[.int .i64 (2 + q), .int .i64 p] := (r0.drewN 1).below hb0 (r0.drewN 1).lt
    have X0y : Block y0 x 121 #[.int .i64 S, .int .i64 B, .int .i64 sl, .pointer none, .pointer none, .pointer none] := (X0.drewN 1).below hb0 (X0.drewN 1).lt
    refine hK.out _ _ rr0 (fun hS => ?_)
    clear hK K
    try simp only [Act.put, List.setIfInBounds_toArray, List.set_cons_zero, List.set_cons_succ]
    refine wpAnyH_take (i := 5) (oi := ⟨some 41, _, _, _, _, _⟩) (v := .tuple #[.pointer (some ⟨p0, 0, none⟩), .int .i64 0]) rfl (by kernel_rfl) (by kernel_rfl) (by kernel_rfl) (fun _ _ _ h => h) (Or.inl ⟨by rfl, fun W hW => by go_simp⟩) hS ?_
    try simp only [Act.put, List.setIfInBounds_toArray, List.set_cons_zero, List.set_cons_succ]
    refine wpAnyH_take (i := 6) (oi := ⟨some 47, _, _, _, _, _⟩) (v := .pointer (some ⟨p0, 0, none⟩)) rfl (by kernel_rfl) (by kernel_rfl) (by kernel_rfl) (fun _ _ _ h => h) (Or.inl ⟨by rfl, fun W hW => by go_simp⟩) hS ?_
    try simp only [Act.put, List.setIfInBounds_toArray, List.set_cons_zero, List.set_cons_succ]
    refine wpAnyH_take (i := 7) (oi := ⟨some 48, _, _, _, _, _⟩) (v := .int .i64 0) rfl (by kernel_rfl) (by kernel_rfl) (by kernel_rfl) (fun _ _ _ h => h) (Or.inl ⟨by rfl, fun W hW => by go_simp⟩) hS ?_
    try simp only [Act.put, List.setIfInBounds_toArray, List.set_cons_zero, List.set_cons_succ]
    refine wpAnyH_take (i := 10) (oi := ⟨some 51, _, _, _, _, _⟩) (v := .pointer (some ⟨x, 3, none⟩)) rfl (by kernel_rfl) (by kernel_rfl) (by kernel_rfl) (fun _ _ _ h => h) (Or.inl ⟨by rfl, fun W hW => by go_simp⟩) hS ?_
    try simp only [Act.put, List.setIfInBounds_toArray, List.set_cons_zero, List.set_cons_succ]
    refine wpAnyH_ready (rs := [11]) (by kernel_rfl) (by simp) ?_
    refine AllReadyH.cons rfl (fun K hK => ?_) AllReadyH.nil
    have s0 : y0.cell? ⟨x, 3, none⟩ = some (.pointer none) := X0y.cell 3
    have z0 : y0.frozen? ⟨x, 3, none⟩ = false := X0y.frozen 3
    go_simp
    have q0 : Block (y0.setCell ⟨x, 3, none⟩ (.pointer (some ⟨p0, 0, none⟩))) (x + 1) 42 #[.int .i64 (2 + q), .int .i64 p] := rr0.far (by show _ ≠ x; omega) _
    refine hK.out _ _ q0 (fun hS => ?_)
    clear hK K
    try simp only [Act.put, List.setIfInBounds_toArray, List.set_cons_zero, List.set_cons_succ]
    refine wpAnyH_ready (rs := [12]) (by kernel_rfl) (by simp) ?_
    refine AllReadyH.cons rfl (fun K hK => ?_) AllReadyH.nil
    go_simp
    refine hK.out _ _ q0 (fun hS => ?_)
    clear hK K
    try simp only [Act.put, List.setIfInBounds_toArray, List.set_cons_zero, List.set_cons_succ]
    refine wpAnyH_done (by kernel_rfl) ?_ _

    have X1 : Block (y0.setCell ⟨x, 3, none⟩ (.pointer (some ⟨p0, 0, none⟩))) x 121 #[.int .i64 S, .int .i64 B, .int .i64 sl, .pointer (some ⟨p0, 0, none⟩), .pointer none, .pointer none] := by
      have := X0y.set_ 3 (.pointer (some ⟨p0, 0, none⟩))
      simpa using this
    have hp0 : x + 2 ≤ p0 := by rw [← z4]; exact hp0
    have P0 : PartAt (y0.setCell ⟨x, 3, none⟩ (.pointer (some ⟨p0, 0, none⟩))) p0 a (2 + q) p := Block.far P0 (by show p0 ≠ x; omega) _
    have B5 : Below w.heap.size w (y0.setCell ⟨x, 3, none⟩ (.pointer (some ⟨p0, 0, none⟩))) := ((below_draws B4 1).trans (hb0.mono B4.size)).setCell (by show _ ≤ x; exact hwx) _
    have M1 : Block (y0.setCell ⟨x, 3, none⟩ (.pointer (some ⟨p0, 0, none⟩))) m 45 #[.int .i64 0, .int .i64 1, .int .i64 1, .int .i64 1, .int .i64 2, .int .i64 q, .int .i64 (2 + q), .int .i64 p, .int .i64 (2 + q + p), .int .i64 p, .int .i64 (2 + q + p + p)] := ((M0.drewN 1).below hb0 (M0.drewN 1).lt).far (by show m ≠ x; omega) _
    have z5 : x + 2 ≤ (y0.setCell ⟨x, 3, none⟩ (.pointer (some ⟨p0, 0, none⟩))).heap.size := by
      have := hb0.size
      rw [show (V1.drewN 1).heap.size = x + 2 from z4] at this
      simpa [World.setCell] using this
    obtain ⟨V2, hV2⟩ : ∃ V2, V2 = y0.setCell ⟨x, 3, none⟩ (.pointer (some ⟨p0, 0, none⟩)) := ⟨_, rfl⟩
    rw [← hV2] at X1 P0 B5 M1 z5 ⊢
    obtain ⟨m1, hm1⟩ : ∃ m1, V2.heap.size = m1 := ⟨_, rfl⟩
    rw [hm1] at z5
    clear hV2 hb0 X0y rr0 s0 z0 q0 X0 M0 B4 HD0 z4 r0 z3 hS
    have r1 : Block (V2.alloc (.cells #[.int .i64 (2 + q + p), .int .i64 p] 42)) m1 42 #[.int .i64 (2 + q + p), .int .i64 p] := by
      have := Block.new V2 42 #[.int .i64 (2 + q + p), .int .i64 p]
      rwa [hm1] at this
    have X1 := X1.alloc (.cells #[.int .i64 (2 + q + p), .int .i64 p] 42)
    have M1 := M1.alloc (.cells #[.int .i64 (2 + q + p), .int .i64 p] 42)
    have P0 : PartAt (V2.alloc (.cells #[.int .i64 (2 + q + p), .int .i64 p] 42)) p0 a (2 + q) p := Block.alloc P0 _
    have B6 := B5.alloc B5.size (.cells #[.int .i64 (2 + q + p), .int .i64 p] 42)
    have z6 : (V2.alloc (.cells #[.int .i64 (2 + q + p), .int .i64 p] 42)).heap.size = m1 + 1 := by simp [hm1]
    have HD1 : Hid (∀ n, DvAt ((V2.alloc (.cells #[.int .i64 (2 + q + p), .int .i64 p] 42)).drewN n) I a mk mw s) := Lib.hid (fun n => HW.out _ (below_draws B6 n))
    have HM1 := Lib.hid hm1
    clear hm1
    go_wp2_with fail
    rw [rounds_succ]
    go_wp2_with fail
    rw [HM1.out]
    obtain ⟨V3, hV3⟩ : ∃ V3, V3 = V2.alloc (.cells #[.int .i64 (2 + q + p), .int .i64 p] 42) := ⟨_, rfl⟩
    rw [← hV3] at r1 X1 M1 B6 HD1 z6 P0 ⊢
    clear hV3
    refine wp_region_held_drew (S := (fun W => Block W m1 42 #[.int .i64 (2 + q + p), .int .i64 p])) (by kernel_rfl) r1 (fun hS => ?_)
    refine wpAnyH_take (i := 0) (oi := ⟨some 42, _, _, _, _, _⟩) (v := .pointer (some ⟨x, 0, none⟩)) rfl (by kernel_rfl) (by kernel_rfl) (by kernel_rfl) (fun _ _ _ h => h) (Or.inl ⟨by rfl, fun W hW => by go_simp⟩) hS ?_
    try simp only [Act.put, List.setIfInBounds_toArray, List.set_cons_zero, List.set_cons_succ]
    refine wpAnyH_take (i := 1) (oi := ⟨some 43, _, _, _, _, _⟩) (v := .int .i64 1) rfl (by kernel_rfl) (by kernel_rfl) (by kernel_rfl) (fun _ _ _ h => h) (Or.inl ⟨by rfl, fun W hW => by go_simp⟩) hS ?_
    try simp only [Act.put, List.setIfInBounds_toArray, List.set_cons_zero, List.set_cons_succ]
    refine wpAnyH_take (i := 2) (oi := ⟨some 44, _, _, _, _, _⟩) (v := .pointer (some ⟨a, 0, none⟩)) rfl (by kernel_rfl) (by kernel_rfl) (by kernel_rfl) (fun _ _ _ h => h) (Or.inl ⟨by rfl, fun W hW => by go_simp⟩) hS ?_
    try simp only [Act.put, List.setIfInBounds_toArray, List.set_cons_zero, List.set_cons_succ]
    refine wpAnyH_take (i := 3) (oi := ⟨some 45, _, _, _, _, _⟩) (v := .agg #[.int .i64 (2 + q + p), .int .i64 p]) rfl (by kernel_rfl) (by kernel_rfl) (by kernel_rfl) (fun _ _ _ h => h) (Or.inl ⟨by rfl, fun W hW => by have q0 : W.cell? ⟨m1, 0, none⟩ = some (.int .i64 (2 + q + p)) := Block.cell hW 0; have q1 : W.cell? ⟨m1, 1, none⟩ = some (.int .i64 p) := Block.cell hW 1; go_simp⟩) hS ?_
    try simp only [Act.put, List.setIfInBounds_toArray, List.set_cons_zero, List.set_cons_succ]
    refine wpAnyH_take (i := 8) (oi := ⟨some 49, _, _, _, _, _⟩) (v := .pointer (some ⟨x, 0, none⟩)) rfl (by kernel_rfl) (by kernel_rfl) (by kernel_rfl) (fun _ _ _ h => h) (Or.inl ⟨by rfl, fun W hW => by go_simp⟩) hS ?_
    try simp only [Act.put, List.setIfInBounds_toArray, List.set_cons_zero, List.set_cons_succ]
    refine wpAnyH_take (i := 9) (oi := ⟨some 50, _, _, _, _, _⟩) (v := .pointer (some ⟨x, 3, none⟩)) rfl (by kernel_rfl) (by kernel_rfl) (by kernel_rfl) (fun _ _ _ h => h) (Or.inl ⟨by rfl, fun W hW => by go_simp⟩) hS ?_
    try simp only [Act.put, List.setIfInBounds_toArray, List.set_cons_zero, List.set_cons_succ]
    refine wpAnyH_ready (rs := [4]) (by kernel_rfl) (by simp) ?_
    refine AllReadyH.cons rfl (fun K hK => ?_) AllReadyH.nil
    go_simp
    go_at_call 48
    refine (GO1.out _ (HD1.out 1)).mono ?_
    rintro e y1 ⟨p1, hp1, rfl, P1, hb1⟩
    have rr1 : Block y1 m1 42 #[.int .i64 (2 + q + p), .int .i64 p] := (r1.drewN 1).below hb1 (r1.drewN 1).lt
    have X1y : Block y1 x 121 #[.int .i64 S, .int .i64 B, .int .i64 sl, .pointer (some ⟨p0, 0, none⟩), .pointer none, .pointer none] := (X1.drewN 1).below hb1 (X1.drewN 1).lt
    refine hK.out _ _ rr1 (fun hS => ?_)
    clear hK K
    try simp only [Act.put, List.setIfInBounds_toArray, List.set_cons_zero, List.set_cons_succ]
    refine wpAnyH_take (i := 5) (oi := ⟨some 41, _, _, _, _, _⟩) (v := .tuple #[.pointer (some ⟨p1, 0, none⟩), .int .i64 0]) rfl (by kernel_rfl) (by kernel_rfl) (by kernel_rfl) (fun _ _ _ h => h) (Or.inl ⟨by rfl, fun W hW => by go_simp⟩) hS ?_
    try simp only [Act.put, List.setIfInBounds_toArray, List.set_cons_zero, List.set_cons_succ]
    refine wpAnyH_take (i := 6) (oi := ⟨some 47, _, _, _, _, _⟩) (v := .pointer (some ⟨p1, 0, none⟩)) rfl (by kernel_rfl) (by kernel_rfl) (by kernel_rfl) (fun _ _ _ h => h) (Or.inl ⟨by rfl, fun W hW => by go_simp⟩) hS ?_
    try simp only [Act.put, List.setIfInBounds_toArray, List.set_cons_zero, List.set_cons_succ]
    refine wpAnyH_take (i := 7) (oi := ⟨some 48, _, _, _, _, _⟩) (v := .int .i64 0) rfl (by kernel_rfl) (by kernel_rfl) (by kernel_rfl) (fun _ _ _ h => h) (Or.inl ⟨by rfl, fun W hW => by go_simp⟩) hS ?_
    try simp only [Act.put, List.setIfInBounds_toArray, List.set_cons_zero, List.set_cons_succ]
    refine wpAnyH_take (i := 10) (oi := ⟨some 51, _, _, _, _, _⟩) (v := .pointer (some ⟨x, 4, none⟩)) rfl (by kernel_rfl) (by kernel_rfl) (by kernel_rfl) (fun _ _ _ h => h) (Or.inl ⟨by rfl, fun W hW => by go_simp⟩) hS ?_
    try simp only [Act.put, List.setIfInBounds_toArray, List.set_cons_zero, List.set_cons_succ]
    refine wpAnyH_ready (rs := [11]) (by kernel_rfl) (by simp) ?_
    refine AllReadyH.cons rfl (fun K hK => ?_) AllReadyH.nil
    have s1 : y1.cell? ⟨x, 4, none⟩ = some (.pointer none) := X1y.cell 4
    have z1 : y1.frozen? ⟨x, 4, none⟩ = false := X1y.frozen 4
    go_simp
    have q1 : Block (y1.setCell ⟨x, 4, none⟩ (.pointer (some ⟨p1, 0, none⟩))) m1 42 #[.int .i64 (2 + q + p), .int .i64 p] := rr1.far (by show _ ≠ x; omega) _
    refine hK.out _ _ q1 (fun hS => ?_)
    clear hK K
    try simp only [Act.put, List.setIfInBounds_toArray, List.set_cons_zero, List.set_cons_succ]
    refine wpAnyH_ready (rs := [12]) (by kernel_rfl) (by simp) ?_
    refine AllReadyH.cons rfl (fun K hK => ?_) AllReadyH.nil
    go_simp
    refine hK.out _ _ q1 (fun hS => ?_)
    clear hK K
    try simp only [Act.put, List.setIfInBounds_toArray, List.set_cons_zero, List.set_cons_succ]
    refine wpAnyH_done (by kernel_rfl) ?_ _

    have X2 : Block (y1.setCell ⟨x, 4, none⟩ (.pointer (some ⟨p1, 0, none⟩))) x 121 #[.int .i64 S, .int .i64 B, .int .i64 sl, .pointer (some ⟨p0, 0, none⟩), .pointer (some ⟨p1, 0, none⟩), .pointer none] := by
      have := X1y.set_ 4 (.pointer (some ⟨p1, 0, none⟩))
      simpa using this
    have hp1 : m1 + 1 ≤ p1 := by rw [← z6]; exact hp1
    have P0 : PartAt (y1.setCell ⟨x, 4, none⟩ (.pointer (some ⟨p1, 0, none⟩))) p0 a (2 + q) p := Block.far ((Block.drewN P0 1).below hb1 (Block.lt (Block.drewN P0 1))) (by show p0 ≠ x; omega) _
    have P1 : PartAt (y1.setCell ⟨x, 4, none⟩ (.pointer (some ⟨p1, 0, none⟩))) p1 a (2 + q + p) p := Block.far P1 (by show p1 ≠ x; omega) _
    have B7 : Below w.heap.size w (y1.setCell ⟨x, 4, none⟩ (.pointer (some ⟨p1, 0, none⟩))) := ((below_draws B6 1).trans (hb1.mono B6.size)).setCell (by show _ ≤ x; exact hwx) _
    have M2 : Block (y1.setCell ⟨x, 4, none⟩ (.pointer (some ⟨p1, 0, none⟩))) m 45 #[.int .i64 0, .int .i64 1, .int .i64 1, .int .i64 1, .int .i64 2, .int .i64 q, .int .i64 (2 + q), .int .i64 p, .int .i64 (2 + q + p), .int .i64 p, .int .i64 (2 + q + p + p)] := ((M1.drewN 1).below hb1 (M1.drewN 1).lt).far (by show m ≠ x; omega) _
    have z7 : m1 + 1 ≤ (y1.setCell ⟨x, 4, none⟩ (.pointer (some ⟨p1, 0, none⟩))).heap.size := by
      have := hb1.size
      rw [show (V3.drewN 1).heap.size = m1 + 1 from z6] at this
      simpa [World.setCell] using this
    obtain ⟨V4, hV4⟩ : ∃ V4, V4 = y1.setCell ⟨x, 4, none⟩ (.pointer (some ⟨p1, 0, none⟩)) := ⟨_, rfl⟩
    rw [← hV4] at X2 P0 P1 B7 M2 z7 ⊢
    have D4 := HW.out _ B7
    have e4 := M2.cell 4
    have e5 := M2.cell 5
    simp at e4 e5
    clear hV4 hb1 X1y rr1 s1 z1 q1 X1 M1 B6 HD1 z6 r1 hS M2 i0 i1
    go_wp2_with fail
    rw [rounds_succ]
    go_wp2_with (go_at_call 48; refine (GO2.out _ D4).mono ?_; rintro e V5 ⟨p2, hp2, rfl, P2, hb2⟩; have X3 := X2.below hb2 X2.lt; have f5 := X3.frozen 5; have c5 := X3.cell 5; simp at c5)
    go_ret2
    have B8 := B7.trans (hb2.mono B7.size)
    have hz := hb2.size
    refine ⟨B8.setCell (by show _ ≤ x; exact hwx) _, x, p0, p1, p2, by omega, by omega, by omega, by omega, rfl, HIM.out _ _ _ _ _ ?_ ?_ ?_ ?_⟩
    · have := X3.set_ 5 (.pointer (some ⟨p2, 0, none⟩))
      simpa using this
    · exact Block.far (Block.below P0 hb2 (Block.lt P0)) (by show p0 ≠ x; omega) _
    · exact Block.far (Block.below P1 hb2 (Block.lt P1)) (by show p1 ≠ x; omega) _
    · exact Block.far P2 (by show p2 ≠ x; omega) _

theorem iopen_any (I : Nat → Prop) (a mk mw : Nat) (s : Dv) (S B sl : Int) (w : World) (h : DvAt w I a mk mw s) : Calls Tryd.prog 28 #[.pointer (some ⟨a, 0, none⟩), .agg #[.int .i64 S, .int .i64 B, .int .i64 sl]] w (GOpen a s S B sl w) := by
  cases hm : Prt.mayB S B sl with
  | false =>
    refine (iopen_no1 a S B sl w hm).mono fun e w' ⟨h1, h2⟩ => ⟨h1, ?_⟩
    rw [if_neg (by unfold opensB; rw [hm]; simp)]
    exact h2
  | true =>
    by_cases hn : S = s.size ∧ allV S B sl ≤ s.count
    · refine (iopen_yes I a mk mw s S B sl w h hm hn.1 hn.2).mono fun e w' ⟨h1, h2⟩ => ⟨h1, ?_⟩
      rw [if_pos (by unfold opensB; rw [hm, decide_eq_true hn.1, decide_eq_true hn.2]; rfl)]
      exact h2
    · refine (iopen_no2 I a mk mw s S B sl w h hm hn).mono fun e w' ⟨h1, h2⟩ => ⟨h1, ?_⟩
      rw [if_neg (by
        intro hc
        unfold opensB at hc
        rw [Bool.and_eq_true, Bool.and_eq_true] at hc
        exact hn ⟨of_decide_eq_true hc.1.2, of_decide_eq_true hc.2⟩)]
      exact h2
end Go.Proofs.YtpnodocjpedcmaaDoor.Im
