/-
  Layer 23, parcel: a select whose default is taken, within a method; the parser's take at its beginning: a contract. Conditions: as each theorem names.
-/
import Derived.Test.YtoegioeioohidaaBitX
import Derived.Conc.LoneCalls
import Derived.StillTailTactics
import Derived.Deep.QuietTactic
import Derived.Deep.CutBlock
namespace Go.Proofs.Ytoegioeioohidaa.Pc
open Go.ChangeShapes Go.WideShapes Go.ChangeAt Go.RowKit Go.Conc Go.Proofs.Ytoegioeioohidaa.Kit Go.Proofs.Ytoegioeioohidaa.Bits

/-- What is left of a body, walked as code, is where the machine comes to. -/
theorem loneTo_of_wp {P : Program} {f : FuncId} {fn : Func} {c : Code} {R : Ending → World → Prop} {a : Act} {w : World} {cs : List Frame} (hf : P.funcs[f]? = some fn) (hno : ∀ w', ¬ R .outgrown w') (h : c.wp P (bodyPost P fn R) a w) :
    LoneTo P (fun g' w' => ∃ e fr, g' = G fr cs ∧ R e w' ∧ fr.fn = f ∧ fr.leaving P w' e) (G ((base f).at a [.code c]) cs) w := by
  obtain ⟨e, a', w', hq, harr⟩ := h (base f) [] cs
  cases e with
  | normal =>
    obtain ⟨hd, v, hr, hR⟩ := hq
    exact ⟨_, w', Steps.trans harr (.one step_end), .returned v, _, rfl, hR, rfl, rfl, hd, rfl, fn, hf, hr⟩
  | ret =>
    obtain ⟨hd, v, hr, hR⟩ := hq
    obtain ⟨todo, hs⟩ := harr
    exact ⟨_, w', hs, .returned v, _, rfl, hR, rfl, rfl, hd, rfl, fn, hf, hr⟩
  | panic chain =>
    obtain ⟨hd, hR⟩ := hq
    obtain ⟨todo, hs⟩ := harr
    exact ⟨_, w', hs, .panicked chain, _, rfl, hR, rfl, rfl, hd, fn, hf⟩
  | exit id => exact hq.elim
  | goto l => exact hq.elim
  | outgrown => exact absurd hq (hno _)

theorem grown_cell (w : World) (g i : Nat) (u : Value) : w.grownBy (w.setCell ⟨g, i, none⟩ u) (some g) := ⟨rfl, rfl, rfl, by simp, fun k _ hk => Below.heap_setCell w ⟨g, i, none⟩ u k (fun e => hk (by rw [e]))⟩
/-- The parser's cells. -/
def pC (held : Value) (want : Int) (c : Nat) (err : Int) : Array Value := #[held, .int .i64 want, .int .u8 0, .bool false, .int .i64 err, .chan (some c), .slice none 0 0, .bool false, .int .i64 0, .int .i64 0, .int .i64 0, .slice none 0 0]
/-- What take answers. -/
def TakeTo (p c : Nat) (xs : List Int) (w : World) (e : Ending) (w' : World) : Prop :=
  e = .returned (.tuple #[]) ∧ ∃ A c', Block w' p 50 (pC (.slice A xs.length c') 4 c 0) ∧ Holds w' w'.heap.size .u8 A xs ∧ TurnsIn (fun b => b = p) w w'

set_option maxRecDepth 100000 in
set_option maxHeartbeats 3200000 in
theorem take_any (p c : Nat) (xs : List Int) (Ab : Option Addr) (cb : Nat) (w : World) (hx : xs.length = 4) (hp : Block w p 50 (pC (.slice none 0 0) 4 c 0)) (hc : w.heap[c]? = some (.chan 1 #[] false 0 0 false)) (hb : Holds w w.heap.size .u8 Ab xs) (hno : ∀ b off, Ab = some ⟨b, off, none⟩ → b ≠ p) :
    Calls Try.prog 16 #[.pointer (some ⟨p, 0, none⟩), .slice Ab 4 cb] w (TakeTo p c xs w) := by
  have k0 : w.cell? ⟨p, 0, none⟩ = some (.slice none 0 0) := hp.cell 0
  have k5 : w.cell? ⟨p, 5, none⟩ = some (.chan (some c)) := hp.cell 5
  refine calls_of_loneTo (hno := fun w' h => by cases h.1) fun cs => ?_
  have e : Frame.enter Try.prog 16 #[.pointer (some ⟨p, 0, none⟩), .slice Ab 4 cb] .normal = (base 16).at ⟨#[.pointer (some ⟨p, 0, none⟩), .slice Ab 4 cb, undef, undef, undef, undef, undef, undef, undef, undef, undef, undef, undef, undef, undef, undef, undef, undef, undef, undef, undef, undef, undef, undef, undef, undef, undef, undef, undef, undef, undef, undef, undef, undef, undef, undef, undef, undef, undef, undef, undef, undef, undef, undef, undef, undef, undef, undef, undef, undef, undef, undef, undef, undef, undef, undef, undef, undef, undef, undef], []⟩ [.code (Try.f16.body.getD .skip)] := by
    simp [Frame.enter, Frame.at, Try.func16, base, Try.f16]
  rw [e]
  refine LoneTo.goes (n := 40) ?_
  simp only [Try.f16, Option.getD_some]
  s_c stepG_seq
  s_c stepG_seq
  s_reg
  s_op
  s_op
  s_op
  s_op
  s_op
  s_c stepG_region_end
  try simp only [Option.isNone_none, Act.put, List.setIfInBounds_toArray, List.set_cons_zero, List.set_cons_succ]
  s_cond true
  s_c stepG_seq
  s_reg
  s_op
  s_op
  s_op
  s_op
  s_c stepG_region_end
  try simp only [Option.isNone_none, Act.put, List.setIfInBounds_toArray, List.set_cons_zero, List.set_cons_succ]
  s_c stepG_seq
  s_reg
  s_stop
  refine LoneTo.step (step_lone_select_default (c := c) (z := .slice none 0 0) (cap := 1) (s := 0) (r := 0) (tm := false) (stepG_comm (cases := #[rcase c (.slice none 0 0)]) (blocking := false) (shape := .select) (w' := w) rfl rfl (by decide) (by simp [go_sem, execOp, rcase, Act.eval])) hc) ?_
  rw [Frame.finish_at]
  walk_nrm
  refine LoneTo.goes (n := 8) ?_
  s_op
  s_op
  s_c stepG_region_end
  s_c stepG_block
  try simp only [Option.isNone_none, Act.put, List.setIfInBounds_toArray, List.set_cons_zero, List.set_cons_succ]
  s_cond false
  s_c stepG_skip
  s_c stepG_inBlock
  s_stop
  refine loneTo_of_wp Try.func16 (fun w' h => by cases h.1) ?_
  clear e
  have k1 : ∀ n, (w.drewN n).cell? ⟨p, 1, none⟩ = some (.int .i64 4) := fun n => (hp.drewN n).cell 1
  have k0 : ∀ n, (w.drewN n).cell? ⟨p, 0, none⟩ = some (.slice none 0 0) := fun n => (hp.drewN n).cell 0
  go_upto_region 4 with fail
  go_quiet (fail)
  go_upto_region 5 with fail
  have P4 := hp.drewN nq
  have b4 : Below w.heap.size w (w.drewN nq) := below_draws (Below.refl _ _) nq
  have H4 := hb.below b4
  have t4 : TurnsIn (fun b => b = p) w (w.drewN nq) := (TurnsIn.refl _ w).drewN nq
  clear k0 k1 hp hb hc
  have hwp : p < (w.drewN nq).heap.size := P4.lt
  have s4 : w.heap.size ≤ (w.drewN nq).heap.size := b4.size
  generalize w.drewN nq = w4 at *
  have P5 : Block w4.drew p 50 (pC (.slice none 0 0) 4 c 0) := P4.drewN 1
  have b5 : Below w4.heap.size w4 w4.drew := below_draws (Below.refl _ _) 1
  have k0 : w4.drew.cell? ⟨p, 0, none⟩ = some (.slice none 0 0) := P5.cell 0
  have k1 : w4.drew.cell? ⟨p, 1, none⟩ = some (.int .i64 4) := P5.cell 1
  refine wp_region_still_tail 9 (by kernel_rfl) (by kernel_rfl) ?_
  simp only [List.take_succ_cons, List.take_zero, List.drop_succ_cons, List.drop_zero]
  repeat still_step
  try refine wpStill_nil ?_
  change wpList _ _ _ _ _ w4.drew
  have H5 := H4.below (b5.mono s4)
  have t5 : TurnsIn (fun b => b = p) w w4.drew := t4.then_ (.ofNew b5) (fun b hb e => e)
  clear k0 k1 P4 H4 t4 b4 hwp s4
  have z5 := t5.size
  generalize w4.drew = w5 at *
  go_upto_region 6 with (at_make; refine wpList_make_ints _ rfl _ _ _ rfl elem8 0 4 rfl rfl rfl rfl (by omega) (by omega) ?_; intro w6 O6 b6 s6)
  have P6 := P5.below b6 P5.lt
  have H6 := H5.below (b6.mono z5)
  have t6 : TurnsIn (fun b => b = p) w w6 := t5.then_ (.ofNew b6) (fun b hb e => e)
  have o6 := O6.mono z5
  clear P5 H5 t5 O6 b5
  have k0 : w6.cell? ⟨p, 0, none⟩ = some (.slice none 0 0) := P6.cell 0
  have f0 := P6.frozen 0
  have hz6 := o6.lt _ rfl
  go_upto_region 7 with (refine wpList_copy_ints (xs := []) (ys := []) (A := none) (c := 0) (B' := 0) _ rfl _ _ _ rfl elem8 o6 rfl rfl (fun h => absurd h (by simp)) (Nat.zero_le _) (by omega) ?_; intro w7 o7 g7 b7)
  have P7 := P6.grown g7 (o6.ne_block P6 (by decide))
  have H7 := H6.below b7
  have t7 : TurnsIn (fun b => b = p) w w7 := t6.then_ (.ofGrown g7 (S := fun b => b = w5.heap.size) fun b e => by injection e with e; exact e.symm) (fun b hb e => by omega)
  have k0 : w7.cell? ⟨p, 0, none⟩ = some (.slice none 0 0) := P7.cell 0
  have f0 := P7.frozen 0
  clear P6 H6 t6
  go_upto_region 8 with fail
  have P8 := P7.set_ 0 (.slice (some ⟨w5.heap.size, 0, none⟩) 0 4)
  have g8 := grown_cell w7 p 0 (.slice (some ⟨w5.heap.size, 0, none⟩) 0 4)
  have o8 := o7.kept g8 (.inr (o7.ne_block P7 (by decide)))
  have Hx : Holds (w7.setCell ⟨p, 0, none⟩ (.slice (some ⟨w5.heap.size, 0, none⟩) 0 4)) w.heap.size .u8 Ab xs := by
    intro hl
    obtain ⟨b, off, eA, hb, hcs⟩ := H7 hl
    refine ⟨b, off, eA, hb, fun j hj => ?_⟩
    exact (World.cell?_of_block (w := w7) (a := ⟨b, off + j, none⟩) (g8.block b (by have := t7.size; omega) (fun e => by injection e with e; exact hno b off eA e))).trans (hcs j hj)
  have t8 : TurnsIn (fun b => b = p) w (w7.setCell ⟨p, 0, none⟩ (.slice (some ⟨w5.heap.size, 0, none⟩) 0 4)) := t7.then_ (.ofGrown g8 (S := fun b => b = p) fun b e => by injection e with e; exact e.symm) (fun b hb e => e)
  unfold pC at P8
  simp only [List.setIfInBounds_toArray, List.set_cons_zero] at P8
  have z8 := t8.size
  generalize w7.setCell ⟨p, 0, none⟩ (.slice (some ⟨w5.heap.size, 0, none⟩) 0 4) = w8 at *
  have k0 : w8.cell? ⟨p, 0, none⟩ = some (.slice (some ⟨w5.heap.size, 0, none⟩) 0 4) := P8.cell 0
  have f0 := P8.frozen 0
  clear P7 H7 t7 g8 o7
  go_wp2_with (at_builtin; refine wpList_append_ints (ys := xs) _ rfl _ _ _ rfl elem8 o8 rfl (by show Value.slice Ab 4 cb = .slice Ab xs.length cb; rw [hx]) Hx (by simp; omega) (by omega) ?_; intro v9 w9 o9 g9 b9 hv9; have o9 : Own w9 w.heap.size 5 .u8 v9 xs := o9; obtain ⟨A9, c9, rfl, _, _, H9⟩ := o9.opened; have P9 := P8.grown g9 (o8.ne_block P8 (by decide)); have k9 := P9.cell 0; have f9 := P9.frozen 0; have t9 : TurnsIn (fun b => b = p) w w9 := t8.then_ (.ofGrown g9 (S := fun b => b = w5.heap.size) fun b e => by injection e with e; exact e.symm) (fun b hb e => by omega))
  have P10 := P9.set_ 0 (.slice A9 xs.length c9)
  have g10 := grown_cell w9 p 0 (.slice A9 xs.length c9)
  have o10 := o9.kept g10 (.inr (o9.ne_block P9 (by decide)))
  have t10 := t9.then_ (.ofGrown g10 (S := fun b => b = p) fun b e => by injection e with e; exact e.symm) (fun b hb e => e)
  obtain ⟨A10, c10, e10, _, _, H10⟩ := o10.opened
  injection e10 with e1 e2 e3
  subst e1
  simp only [List.setIfInBounds_toArray, List.set_cons_zero] at P10
  rw [hx] at P10 H10 t10
  go_end0
  exact ⟨rfl, A9, c9, by rw [hx]; exact P10, H10, t10⟩
  -- END
end Go.Proofs.Ytoegioeioohidaa.Pc
