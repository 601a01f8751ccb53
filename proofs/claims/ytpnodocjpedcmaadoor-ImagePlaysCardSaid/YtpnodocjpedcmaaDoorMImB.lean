/-
  Layer 25, image: what a nil image answers; Cap; the law's example: contracts. Conditions: as each theorem names.
-/
import Derived.Test.YtpnodocjpedcmaaDoorMImA
import Derived.Test.YtpnodocjpedcmaaDoorMGIays2
import Derived.Test.YtpnodocjpedcmaaDoorMGIays5
namespace Go.Proofs.YtpnodocjpedcmaaDoor.Im
open Go.ChangeShapes Go.WideShapes Go.ChangeAt Go.RowKit Go.Proofs.YtpnodocjpedcmaaDoor.Kit Go.Proofs.YtpnodocjpedcmaaDoor.Sec Go.Proofs.YtpnodocjpedcmaaDoor.Pt

theorem view_nil (k n : Int) (w : World) : Calls Tryd.prog 36 #[.pointer none, .int .u8 k, .int .i64 n] w fun e w' => e = .returned (.pointer none) ∧ w' = w := by
  go_enter Tryd.func36, Tryd.ntmps36
  go_wp2_with fail
  go_ret
  exact ⟨rfl, rfl⟩
theorem range_nil (k n : Int) (w : World) : Calls Tryd.prog 37 #[.pointer none, .int .i64 k, .int .i64 n] w fun e w' => e = .returned (.tuple #[.slice none 0 0, .int .i64 5]) ∧ w' = w := by
  go_enter Tryd.func37, Tryd.ntmps37
  go_wp2_with fail
  go_ret2
  exact ⟨rfl, rfl⟩
theorem kept_nil (n : Int) (w : World) : Calls Tryd.prog 38 #[.pointer none, .int .i64 n] w fun e w' => e = .returned (.tuple #[.slice none 0 0, .int .i64 1]) ∧ w' = w := by
  go_enter Tryd.func38, Tryd.ntmps38
  go_wp2_with fail
  go_ret2
  exact ⟨rfl, rfl⟩
theorem put_nil (k n : Int) (v : Value) (w : World) : Calls Tryd.prog 34 #[.pointer none, .int .u8 k, .int .i64 n, v] w fun e w' => e = .returned (.int .i64 1) ∧ w' = w := by
  go_enter Tryd.func34, Tryd.ntmps34
  go_wp2_with fail
  go_ret
  exact ⟨rfl, rfl⟩
theorem keep_nil (v : Value) (w : World) : Calls Tryd.prog 35 #[.pointer none, v] w fun e w' => e = .returned (.int .i64 1) ∧ w' = w := by
  go_enter Tryd.func35, Tryd.ntmps35
  go_wp2_with fail
  go_ret
  exact ⟨rfl, rfl⟩
theorem cap_nil (w : World) : Calls Tryd.prog 29 #[.pointer none] w fun e w' => e = .returned (.int .i64 0) ∧ w' = w := by
  go_enter Tryd.func29, Tryd.ntmps29
  go_wp2_with fail
  go_ret
  exact ⟨rfl, rfl⟩
def zeros32 : List Int := List.replicate 32 0
def zero32 : Value := arrV .u8 zeros32
theorem build_zeros (w : World) : (Instr.build 48 #[]).run Tryd.prog w = .ok (arrV .u8 zeros32) w := by kernel_rfl
theorem wpList_build_zeros {P : Program} {w : World} {ops : Array Oper} {rest : List Oper} {o : Oper} {a : Act} {Q : Exit → Act → World → Prop} (hgd : o.guard = none) (ty : TypeId) (parts : Array (Nat × Operand)) (ho : o.op = .build ty parts)
    (V : Value) (hrun : ∀ W, (Instr.build ty (parts.map fun (i, x) => (i, a.eval x))).run P W = .ok V W) (h : wpList P ops Q rest (a.put o.dst V) w) : wpList P ops Q (o :: rest) a w := by
  refine wpList_plain hgd fun K hK => ?_
  unfold Oper.wp
  simp only [execOp, ho, Sem.run_bind, Sem.run_pure]
  rw [hrun]
  exact hK _ _ h
set_option maxRecDepth 100000 in
set_option maxHeartbeats 3200000 in
theorem sum_nil (k n : Int) (w : World) : Calls Tryd.prog 33 #[.pointer none, .int .u8 k, .int .i64 n] w fun e w' => e = .returned (.tuple #[zero32, .int .i64 1]) ∧ Below w.heap.size w w' := by
  have Hz := Lib.hid (show zeros32.length = 32 from rfl)
  have hBz := build_zeros
  have r0 := res_new w 48
  have b0 : Below w.heap.size w (w.alloc (.cells ((List.replicate 32 (0 : Int)).map (Value.int .u8)).toArray 48)) := (Below.refl _ _).alloc (Nat.le_refl _) _
  unfold zero32
  generalize zeros32 = ys at *
  go_enter Tryd.func33, Tryd.ntmps33
  go_wp2_with (first
    | (have _t := r0; refine wpList_build_zeros rfl _ _ rfl (arrV .u8 ys) (fun W => by simpa using hBz W) ?_)
    | (have _t := r0; refine wpList_store_arr rfl _ _ _ rfl (ys := ys) r0 rfl rfl (by rw [Hz.out]; rfl) (by rw [Hz.out]; kernel_rfl) ?_; intro w9 r9 g9))
  refine bodyPost_ret (v := .tuple #[arrV .u8 ys, .int .i64 1]) (results_row_tmp rfl _ _ w.heap.size 48 _ (0, 0) _ rfl r9 _ rfl Tryd.underlying48 rfl (by rw [show (ys.map (Value.int .u8)).toArray.size = 32 by simp [Hz.out]]; kernel_rfl)) rfl ⟨rfl, ?_⟩
  exact b0.trans (below_of_grown g9 b0.size fun b hb => by injection hb with hb; omega)

set_option maxRecDepth 100000 in
set_option maxHeartbeats 3200000 in
theorem cap_any (x a : Nat) (S B sl : Int) (p0 p1 p2 : Nat) (w : World) (h : ImAt w x a S B sl p0 p1 p2) (h0 : 0 ≤ B * sl ∧ B * sl ≤ 16777216) : Calls Tryd.prog 29 #[.pointer (some ⟨x, 0, none⟩)] w fun e w' => e = .returned (.int .i64 (B * sl)) ∧ ∃ n, w' = w.drewN n := by
  have c1 : w.cell? ⟨x, 1, none⟩ = some (.int .i64 B) := h.x.cell 1
  have c2 : w.cell? ⟨x, 2, none⟩ = some (.int .i64 sl) := h.x.cell 2
  have hw : IntKind.i64.wrap (B * sl) = B * sl := IntWalk.i64_in _ (by omega)
  clear h h0
  go_enter Tryd.func29, Tryd.ntmps29
  go_wp2_with fail
  go_quiet (fail)
  go_wp2_with fail
  go_ret
  exact ⟨rfl, nq, rfl⟩

set_option maxRecDepth 100000 in
set_option maxHeartbeats 6400000 in
theorem awake_any (w : World) : Calls Tryd.prog 26 #[] w fun e w' => e = .returned (.bool true) ∧ Below w.heap.size w w' := by
  have GN := Lib.hid (new_any (fun _ => True) 128 9 w (by decide) (by decide) (by decide) (by decide))
  have HO1 : Hid (opensB (Dv.new 128 9) 128 128 3 = true) := Lib.hid (by decide +kernel)
  have HO2 : Hid (opensB (Dv.new 128 9) 128 128 4 = false) := Lib.hid (by decide +kernel)
  have GI := Lib.hid (fun (a mk mw : Nat) (S B sl : Int) (W : World) (h : DvAt W (fun _ => True) a mk mw (Dv.new 128 9)) => iopen_any (fun _ => True) a mk mw (Dv.new 128 9) S B sl W h)
  go_enter Tryd.func26, Tryd.ntmps26
  go_wp2_with (first
    | (go_at_call 10; refine GN.out.mono ?_; rintro e w1 ⟨a, mk, mw, rfl, D1, hb1, ga, gk, gw⟩)
    | (have _t := D1; go_at_call 28; refine (GI.out a mk mw 128 128 3 _ D1).mono ?_; clear _t; rintro e w2 ⟨hb2, h2⟩; rw [if_pos HO1.out] at h2; obtain ⟨x, p0, p1, p2, hx, hp0, hp1, hp2, rfl, X⟩ := h2; have D2 := D1.below hb2; clear D1)
    | (have _t := D2; go_at_call 28; refine (GI.out a mk mw 128 128 4 _ D2).mono ?_; clear _t; rintro e w3 ⟨hb3, h3⟩; rw [if_neg (by rw [HO2.out]; simp)] at h3; subst h3; have X3 : ImAt w3 x a 128 128 3 p0 p1 p2 := ⟨X.x.below hb3 X.x.lt, Block.below X.p0 hb3 (Block.lt X.p0), Block.below X.p1 hb3 (Block.lt X.p1), Block.below X.p2 hb3 (Block.lt X.p2)⟩)
    | (go_at_call 29; refine (cap_any x a 128 128 3 p0 p1 p2 _ X3 (by decide)).mono ?_; rintro e w4 ⟨rfl, n4, rfl⟩))
  go_ret
  have hb := hb1.trans ((hb2.trans (hb3.mono hb2.size)).mono hb1.size)
  exact ⟨rfl, below_draws hb n4⟩
end Go.Proofs.YtpnodocjpedcmaaDoor.Im
