/-
  Layer 24, journal: the example; nil journals: contracts. Conditions: as each theorem names.
-/
import Derived.Test.YtpnodocjpedcmaaDoorMJrC
namespace Go.Proofs.YtpnodocjpedcmaaDoor.Jr
open Go.ChangeShapes Go.WideShapes Go.ChangeAt Go.RowKit Go.Proofs.YtpnodocjpedcmaaDoor.Kit Go.Proofs.YtpnodocjpedcmaaDoor.Oct Go.Proofs.YtpnodocjpedcmaaDoor.Sha

def rec0 : Rec := ⟨0, 0, 0, 0, 0, 0, List.replicate 32 0, 0, 0, 0, 0, 0, 0⟩
theorem rec0_ok : rec0.Ok := by
  refine ⟨?_, ?_, ?_, ?_, ?_, ?_, rfl, ?_, ?_, ?_, ?_, ?_, ?_, ?_⟩
  case refine_7 => intro x hx; have := List.eq_of_mem_replicate hx; omega
  all_goals (unfold rec0; simp only; omega)
theorem rec0_may : rec0.may = true := by decide
theorem rec0_put : rec0.putV.length = 99 ∧ rec0.putE = 0 := by
  have h : rec0.putV = rec0.putL := if_pos rec0_may
  refine ⟨?_, if_pos rec0_may⟩
  rw [h]
  unfold Rec.putL
  rw [List.length_append, List.length_take, sumL_length, (rec0.q_length rfl).2.2.2.2.2.2.2.2.2]
  rfl

theorem wpList_build_known {P : Program} {w : World} {ops : Array Oper} {rest : List Oper} {o : Oper} {a : Act} {Q : Exit → Act → World → Prop} (hgd : o.guard = none) (ty : TypeId) (parts : Array (Nat × Operand)) (ho : o.op = .build ty parts)
    (V : Value) (hrun : ∀ W, (Instr.build ty (parts.map fun (i, x) => (i, a.eval x))).run P W = .ok V W) (h : wpList P ops Q rest (a.put o.dst V) w) : wpList P ops Q (o :: rest) a w := by
  refine wpList_plain hgd fun K hK => ?_
  unfold Oper.wp
  simp only [execOp, ho, Sem.run_bind, Sem.run_pure]
  rw [hrun]
  exact hK _ _ h

/-- A whole block is stored over. -/
theorem wpList_store_blk {P : Program} {w : World} {ops : Array Oper} {rest : List Oper} {o : Oper} {a : Act} {Q : Exit → Act → World → Prop} (hgd : o.guard = none) (ty : TypeId) (x y : Operand) (ho : o.op = .store ty x y)
    {g : Nat} {t : TypeId} {cs : Array Value} {ds : List Value} (h : Block w g t cs) (hx : a.eval x = .pointer (some ⟨g, 0, none⟩)) (hy : a.eval y = .agg ds.toArray) (hl : ds.length = cs.size) (hi : (P.info? ty).map (·.size) = some ds.length) (hone : ∀ u ∈ ds, u.oneCell' = true)
    (hK : ∀ w', Block w' g t ds.toArray → w.grownBy w' (some g) → wpList P ops Q rest (a.put o.dst undef) w') : wpList P ops Q (o :: rest) a w := by
  refine wpList_store_mid hgd ty x y ho g 0 ds.toArray hx hy ?_ (by simpa using hi) (all_oneCell_toArray hone) ?_
  · intro j hj
    have hj' : j < cs.size := by simpa [hl] using hj
    exact ⟨by rw [Nat.zero_add, h.cell, Array.getElem?_eq_getElem hj']; rfl, by rw [Nat.zero_add]; exact h.frozen j⟩
  · refine hK _ ?_ (setCells_grown g _ 0 w)
    have := setCells_block ds 0 w _ h (by omega)
    have e : (cs.toList.take 0 ++ (ds ++ cs.toList.drop (0 + ds.length))).toArray = ds.toArray := by
      rw [List.drop_of_length_le (by simp [hl])]
      simp
    rw [e] at this
    simpa using this

theorem Rec.cells_one (r : Rec) : ∀ u ∈ r.cells, u.oneCell' = true := by
  intro u hu
  unfold Rec.cells at hu
  simp only [List.mem_cons, List.mem_append, List.mem_map, List.not_mem_nil, or_false] at hu
  rcases hu with rfl | rfl | rfl | rfl | rfl | rfl | ⟨z, _, rfl⟩ | rfl | rfl | rfl | rfl | rfl | rfl <;> rfl

/-- == on records, where a guard may stand. -/
theorem wpList_eql_rec {w : World} {ops : Array Oper} {rest : List Oper} {o : Oper} {a : Act} {Q : Exit → Act → World → Prop} (hw : Region.wanted o (yielded ops a.tmps) = true) (x y : Operand) (tt : TypeId) (ho : o.op = .binOp .eql 50 x y tt)
    {r s : Array Value} {b : Bool} (hx : a.eval x = .agg r) (hy : a.eval y = .agg s) (hrun : ∀ W, (binOp .eql 50 (.agg r) (.agg s)).run Tryd.prog W = .ok (.bool b) W) (hK : wpList Tryd.prog ops Q rest (a.put o.dst (.bool b)) w) : wpList Tryd.prog ops Q (o :: rest) a w :=
  wpList_step fun K hK' => by
    rw [if_pos hw]
    have h2 : (eqGuard .eql 50 x y (.agg r) (.agg s)).run Tryd.prog w = .ok () w := run_eqGuard_agg w .eql 50 x y _ _ (by kernel_rfl)
    unfold Oper.wp execOp
    simp only [ho, hx, hy, Sem.run_bind, Sem.run_pure, h2, Result.andThen_ok, hrun]
    exact hK' _ _ hK
theorem eql_zero (W : World) : (binOp .eql 50 (.agg rec0.cells.toArray) (.agg rec0.cells.toArray)).run Tryd.prog W = .ok (.bool true) W := by kernel_rfl
theorem zero_build (W : World) : (Instr.build 50 #[]).run Tryd.prog W = .ok (.agg rec0.cells.toArray) W := by kernel_rfl

set_option maxRecDepth 100000 in
set_option maxHeartbeats 1600000 in
theorem awake_any (w : World) (hL : LaidS w) : Calls Tryd.prog 9 #[] w fun e w' => e = .returned (.bool true) ∧ Below w.heap.size w w' := by
  have GS := jput_any rec0 rec0_ok w hL
  obtain ⟨h1, h2⟩ := rec0_put
  rw [h2] at GS
  generalize rec0.putV = P at *
  have HB := Lib.hid zero_build
  have GS := Lib.hid GS
  have HP := Lib.hid h1
  obtain ⟨L, hLL⟩ : ∃ L, rec0.cells = L := ⟨_, rfl⟩
  rw [hLL] at HB GS
  clear hLL h1 h2
  go_enter Tryd.func9, Tryd.ntmps9
  go_wp2_with (first
    | (refine wpList_build_known rfl _ _ rfl (.agg L.toArray) ?_ ?_; (intro W; have hw9 := HB.out W; simpa [Act.eval] using hw9))
    | (go_at_call 40; (refine GS.out.mono ?_); rintro e w2 ⟨A, c, rfl, hl, hm, hr, hb⟩; rw [HP.out]))
  go_ret
  exact ⟨rfl, hb⟩

set_option maxRecDepth 100000 in
set_option maxHeartbeats 1600000 in
theorem last_nil (w : World) : Calls Tryd.prog 18 #[.pointer none] w fun e w' => e = .returned (.agg rec0.cells.toArray) ∧ Below w.heap.size w w' := by
  have HB := Lib.hid zero_build
  have r0 : Block (w.alloc (.cells rec0.cells.toArray 50)) w.heap.size 50 rec0.cells.toArray := Block.new w _ _
  have hb0 := below_last w (.cells rec0.cells.toArray 50)
  have HL := Lib.hid (rec0.cells_length rfl)
  have HO := Lib.hid rec0.cells_one
  go_enter Tryd.func18, Tryd.ntmps18
  go_wp2_with (first
    | (refine wpList_build_known rfl _ _ rfl (.agg rec0.cells.toArray) ?_ ?_; (intro W; have hw9 := HB.out W; simpa [Act.eval] using hw9))
    | (have _t := r0; refine wpList_store_blk rfl _ _ _ rfl (ds := rec0.cells) r0 rfl rfl (by simp) (by rw [HL.out]; kernel_rfl) HO.out ?_; intro w9 r9 g9))
  refine bodyPost_ret (v := .agg rec0.cells.toArray) (results_cell_row rfl _ _ w.heap.size 50 _ (0, 0) _ rfl r9 Tryd.underlying50 rfl (by rw [show rec0.cells.toArray.size = 44 from HL.out]; kernel_rfl)) rfl ⟨rfl, ?_⟩
  exact hb0.trans (below_of_grown g9 hb0.size fun b hb => by injection hb with hb; omega)

set_option maxRecDepth 100000 in
set_option maxHeartbeats 1600000 in
theorem write_nil (r : Rec) (w : World) : Calls Tryd.prog 21 #[.pointer none, .agg r.cells.toArray] w fun e w' => e = .returned (.int .i64 1) ∧ Below w.heap.size w w' := by
  have B1 := below_last w (.cells r.cells.toArray 50)
  generalize r.cells.toArray = Z at *
  go_enter Tryd.func21, Tryd.ntmps21
  go_wp2_with fail
  go_ret
  exact ⟨rfl, B1⟩
end Go.Proofs.YtpnodocjpedcmaaDoor.Jr
