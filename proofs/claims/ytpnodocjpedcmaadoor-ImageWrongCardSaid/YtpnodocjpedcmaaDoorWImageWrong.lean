/-
  ImageWrong: the walk: layouts that may not be, and devices that are too small, or of other sectors, have no image; a nil one has nothing.
-/
import Derived.Test.YtpnodocjpedcmaaDoorImC
import Derived.Test.YtpnodocjpedcmaaDoorPart5
import Derived.BigQuiet
namespace Go.Proofs.YtpnodocjpedcmaaDoor.ImageWrong
open Go.ChangeShapes Go.WideShapes Go.ChangeAt Go.RowKit Go.Proofs.YtpnodocjpedcmaaDoor.Kit Go.Proofs.YtpnodocjpedcmaaDoor.Sec Go.Proofs.YtpnodocjpedcmaaDoor.Pt Go.Proofs.YtpnodocjpedcmaaDoor.Im

set_option maxRecDepth 100000 in
set_option maxHeartbeats 12800000 in
theorem walk (S B sl size count : Int) (m : Step25) (w : World) (_ : (Lit.int .i64 S).wf = true) (_ : (Lit.int .i64 B).wf = true) (_ : (Lit.int .i64 sl).wf = true) (_ : (Lit.int .i64 size).wf = true) (_ : (Lit.int .i64 count).wf = true) (_ : m.Ok) (_ : m.In w w.heap.size) :
    Calls Tryd.prog 8 #[.agg #[.int .i64 S, .int .i64 B, .int .i64 sl], .int .i64 size, .int .i64 count, .agg m.cells.toArray] w fun e w' => e = .returned (.bool true) ∧ Below w.heap.size w w' := by
  obtain ⟨k, blk, at_, n, view, slot, A, cap, bs, A2, cap2, zs⟩ := m
  unfold Step25.cells
  simp only
  have GA := Lib.hid Im.awake_any
  have B0 : Below w.heap.size w ((w.alloc (.cells #[.int .i64 S, .int .i64 B, .int .i64 sl] 61)).alloc (.cells #[.int .i64 k, .int .i64 blk, .int .i64 at_, .int .i64 n, .int .i64 view, .int .u8 slot, .slice A bs.length cap, .slice A2 zs.length cap2] 73)) := ((Below.refl _ _).alloc (Nat.le_refl _) _).alloc (by simp) _
  have Y0 := Block.new (w.alloc (.cells #[.int .i64 S, .int .i64 B, .int .i64 sl] 61)) 73 #[.int .i64 k, .int .i64 blk, .int .i64 at_, .int .i64 n, .int .i64 view, .int .u8 slot, .slice A bs.length cap, .slice A2 zs.length cap2]
  have X0 := (Block.new w 61 #[.int .i64 S, .int .i64 B, .int .i64 sl]).alloc (.cells #[.int .i64 k, .int .i64 blk, .int .i64 at_, .int .i64 n, .int .i64 view, .int .u8 slot, .slice A bs.length cap, .slice A2 zs.length cap2] 73)
  rw [show (w.alloc (.cells #[.int .i64 S, .int .i64 B, .int .i64 sl] 61)).heap.size = w.heap.size + 1 by simp] at Y0
  have y6 := Y0.cell 6
  simp at y6
  by_cases hin : 128 ≤ size ∧ size ≤ 4096 ∧ 1 ≤ count ∧ count ≤ 1000 ∧ (bs.length : Int) ≤ 1000
  case neg =>
    have hd : decide (size < 128) = true ∨ (decide (size < 128) = false ∧ (decide (4096 < size) = true ∨ (decide (4096 < size) = false ∧ (decide (count < 1) = true ∨ (decide (count < 1) = false ∧ (decide (1000 < count) = true ∨ (decide (1000 < count) = false ∧ decide ((1000 : Int) < (bs.length : Int)) = true))))))) := by
      simp only [decide_eq_true_eq, decide_eq_false_iff_not]
      omega
    clear hin Y0 X0
    rcases hd with h1 | ⟨h1, h2 | ⟨h2, h3 | ⟨h3, h4 | ⟨h4, h5⟩⟩⟩⟩
    all_goals
      go_enter Tryd.func8, Tryd.ntmps8
      go_wp2_with (go_at_call 26; refine (GA.out _).mono ?_; rintro e w5 ⟨rfl, hb5⟩)
      go_ret
      exact ⟨rfl, B0.trans (hb5.mono B0.size)⟩
  case pos =>
    obtain ⟨h1, h2, h3, h4, h5⟩ := hin
    obtain ⟨z, rfl⟩ : ∃ z : Nat, size = z := ⟨size.toNat, by omega⟩
    obtain ⟨c, rfl⟩ : ∃ c : Nat, count = c := ⟨count.toNat, by omega⟩
    have d1 : decide ((z : Int) < 128) = false := decide_eq_false (by omega)
    have d2 : decide ((4096 : Int) < (z : Int)) = false := decide_eq_false (by omega)
    have d3 : decide ((c : Int) < 1) = false := decide_eq_false (by omega)
    have d4 : decide ((1000 : Int) < (c : Int)) = false := decide_eq_false (by omega)
    have d5 : decide ((1000 : Int) < (bs.length : Int)) = false := decide_eq_false (by omega)
    have GN := Lib.hid (fun W => new_any (fun _ => True) z c W (by omega) (by omega) (by omega) (by omega))
    have GI := Lib.hid (fun (a mk mw : Nat) (W : World) (h : DvAt W (fun _ => True) a mk mw (Dv.new z c)) => iopen_any (fun _ => True) a mk mw (Dv.new z c) S B sl W h)
    have GM := Lib.hid (fun W => Prt.rmay_any S B sl W)
    have HOB : Hid (opensB (Dv.new z c) S B sl = (Prt.mayB S B sl && decide (S = (z : Int)) && decide (allV S B sl ≤ (c : Int)))) := Lib.hid rfl
    have Hz := Lib.hid (show zeros32.length = 32 from rfl)
    have GS : Hid (∀ k n W, Calls Tryd.prog 33 #[.pointer none, .int .u8 k, .int .i64 n] W fun e w' => e = .returned (.tuple #[arrV .u8 zeros32, .int .i64 1]) ∧ Below W.heap.size W w') := Lib.hid (fun k n W => sum_nil k n W)
    generalize zeros32 = ys at *
    have hcases : (opensB (Dv.new z c) S B sl = true ∧ Prt.mayB S B sl = true ∧ ((S : Int) == (z : Int)) = true ∧ decide (allV S B sl ≤ (c : Int)) = true) ∨ (opensB (Dv.new z c) S B sl = false ∧ (Prt.mayB S B sl = false ∨ (Prt.mayB S B sl = true ∧ ((S : Int) == (z : Int)) = false) ∨ (Prt.mayB S B sl = true ∧ ((S : Int) == (z : Int)) = true ∧ decide (allV S B sl ≤ (c : Int)) = false))) := by
      rw [HOB.out]
      cases Prt.mayB S B sl <;> by_cases hs : S = (z : Int) <;> cases decide (allV S B sl ≤ (c : Int)) <;> simp [hs]
    have GL : Hid (Prt.mayB S B sl = true → ∀ W, Calls Tryd.prog 27 #[.agg #[.int .i64 S, .int .i64 B, .int .i64 sl]] W (Prt.Gives (Prt.mapV (B / S) sl) W)) := Lib.hid (fun hm W => by
      obtain ⟨hS, hB, hs⟩ := Prt.may_facts hm
      exact Prt.rlayout_any S B sl (B / S) W hS hB hs rfl)
    have HGT : Hid (opensB (Dv.new z c) S B sl = true → ∀ a W e w', GOpen a (Dv.new z c) S B sl W e w' → Below W.heap.size W w' ∧ ∃ x, e = .returned (.tuple #[.pointer (some ⟨x, 0, none⟩), .int .i64 0])) := Lib.hid (fun ho a W e w' ⟨h1, h2⟩ => by
      rw [if_pos ho] at h2
      obtain ⟨x, _, _, _, _, _, _, _, he, _⟩ := h2
      exact ⟨h1, x, he⟩)
    have HGF : Hid (opensB (Dv.new z c) S B sl = false → ∀ a W e w', GOpen a (Dv.new z c) S B sl W e w' → Below W.heap.size W w' ∧ e = .returned (.tuple #[.pointer none, .int .i64 1])) := Lib.hid (fun ho a W e w' ⟨h1, h2⟩ => by
      rw [if_neg (by rw [ho]; simp)] at h2
      exact ⟨h1, h2⟩)
    unfold allV at hcases
    unfold Prt.mapV at GL
    clear HOB
    rcases hcases with ⟨ho, hm, e1, e2⟩ | ⟨ho, hm | ⟨hm, e1⟩ | ⟨hm, e1, e2⟩⟩
    case' inl => have HOT := Lib.hid (HGT.out ho); have GLt := Lib.hid (GL.out hm)
    case' inr.inl => have HOF := Lib.hid (HGF.out ho)
    case' inr.inr.inl => have HOF := Lib.hid (HGF.out ho)
    case' inr.inr.inr => have HOF := Lib.hid (HGF.out ho); have GLt := Lib.hid (GL.out hm)
    all_goals
      rw [hm] at GM
      clear ho hm GL HGT HGF
      generalize B / S = q at *
      generalize sl * q = p at *
      have hf3 := fun w => Prt.field3 (.int .i64 0) (.int .i64 1) (.int .i64 1) (.int .i64 1) (.int .i64 2) (.int .i64 q) (.int .i64 (2 + q)) (.int .i64 p) (.int .i64 (2 + q + p)) (.int .i64 p) (.int .i64 (2 + q + p + p)) w
      go_enter Tryd.func8, Tryd.ntmps8
      go_upto_region 11 with (first
        | (go_at_call 10; refine (GN.out _).mono ?_; rintro e w1 ⟨a, mk, mw, rfl, D1, hb1, ga, gk, gw⟩; have B1 := B0.trans (hb1.mono B0.size); have X1 := X0.below hb1 X0.lt; have Y1 := Y0.below hb1 Y0.lt; have x0 := X1.cell 0; have x1 := X1.cell 1; have x2 := X1.cell 2; simp at x0 x1 x2)
        | (have _t := HOT; go_at_call 28; refine (GI.out a mk mw _ D1).mono ?_; clear _t; intro e w2 h2; obtain ⟨hb2, x, rfl⟩ := HOT.out _ _ _ _ h2; clear h2; have B2 := B1.trans (hb2.mono B1.size); have X2 := X1.below hb2 X1.lt; have Y2 := Y1.below hb2 Y1.lt; clear x0 x1 x2 X1 Y1 D1; have x0 := X2.cell 0; have x1 := X2.cell 1; have x2 := X2.cell 2; simp at x0 x1 x2)
        | (have _t := HOF; go_at_call 28; refine (GI.out a mk mw _ D1).mono ?_; clear _t; intro e w2 h2; obtain ⟨hb2, rfl⟩ := HOF.out _ _ _ _ h2; clear h2; have B2 := B1.trans (hb2.mono B1.size); have X2 := X1.below hb2 X1.lt; have Y2 := Y1.below hb2 Y1.lt; clear x0 x1 x2 X1 Y1 D1; have x0 := X2.cell 0; have x1 := X2.cell 1; have x2 := X2.cell 2; simp at x0 x1 x2)
        | (go_at_call 39; refine (GM.out _).mono ?_; rintro e w3 ⟨rfl, hb3⟩; have B3 := B2.trans (hb3.mono B2.size); have X3 := X2.below hb3 X2.lt; have Y3 := Y2.below hb3 Y2.lt; clear x0 x1 x2 X2 Y2; have x0 := X3.cell 0; have x1 := X3.cell 1; have x2 := X3.cell 2; simp at x0 x1 x2)
        | (go_at_call 27; refine (GLt.out _).mono ?_; rintro e w4 ⟨rfl, hb4⟩; have B4 := B3.trans (hb4.mono B3.size); have Y4 := Y3.below hb4 Y3.lt; clear x0 x1 x2))
      first
        | (have Yt := Y4; have Bt := B4; clear Y4 Y3)
        | (have Yt := Y3; have Bt := B3; clear Y3)
      have t2 := Yt.cell 2
      have t3 := Yt.cell 3
      have t4 := Yt.cell 4
      have t5 := Yt.cell 5
      simp at t2 t3 t4 t5
      have HYt := Lib.hid Yt
      have HBt := Lib.hid Bt
      clear Yt Bt
      go_quiet (first
        | (go_at_call 36; exact Calls.quiet_of_same (view_nil _ _ _))
        | (go_at_call 37; exact Calls.quiet_of_same (range_nil _ _ _)))
      go_wp2_with (first
        | (go_at_call 33; refine (GS.out _ _ _).mono ?_; rintro e w6 ⟨rfl, hb6⟩; have Y6 := (HYt.out.drewN nq).below hb6 (HYt.out.drewN nq).lt; have B6 := (below_draws HBt.out nq).trans (hb6.mono HBt.out.size); have r0 := res_new w6 48; clear t2 t3 t4 t5)
        | (have _t := r0; refine wpList_store_arr rfl _ _ _ rfl (ys := ys) r0 rfl rfl (by rw [Hz.out]; rfl) (by rw [Hz.out]; kernel_rfl) ?_; clear _t; intro w9 r9 g9; have Y9 := (Y6.alloc (.cells ((List.replicate 32 (0 : Int)).map (Value.int .u8)).toArray 48)).grown g9 (by intro e; injection e with e; have := Y6.lt; omega); have B9 := below_fill B6 B6.size g9; clear r0 Y6; have u1 := Y9.cell 1; have u3 := Y9.cell 3; have u5 := Y9.cell 5; have u6 := Y9.cell 6; simp at u1 u3 u5 u6; clear r9 g9)
        | (go_at_call 38; refine (kept_nil _ _).mono ?_; rintro e w' ⟨rfl, rfl⟩)
        | (go_at_call 34; refine (put_nil _ _ _ _).mono ?_; rintro e w' ⟨rfl, rfl⟩)
        | (go_at_call 35; refine (keep_nil _ _).mono ?_; rintro e w' ⟨rfl, rfl⟩)
        | (go_at_call 29; refine (cap_nil _).mono ?_; rintro e w' ⟨rfl, rfl⟩)
        | (go_at_call 26; refine (GA.out _).mono ?_; rintro e w10 ⟨rfl, hb10⟩))
      go_ret
      exact ⟨rfl, B9.trans (hb10.mono B9.size)⟩
end Go.Proofs.YtpnodocjpedcmaaDoor.ImageWrong
