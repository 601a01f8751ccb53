/-
  Layer 21, merkle: sums that came in; the example: contracts. Conditions: as each theorem names.
-/
import Derived.Test.YtdfgdchmeikigaaDoorMkG
import Derived.Test.YtdfgdchmeikigaaDoorMkH
import Derived.DataReads
import Derived.Lib.QuietBelow
import Derived.BigQuiet
import Derived.ChangeArms
namespace Go.Proofs.YtdfgdchmeikigaaDoor.Mk
open Go.ChangeShapes Go.WideShapes Go.ChangeAt Go.RowKit Go.Proofs.YtdfgdchmeikigaaDoor.Kit Go.Proofs.YtdfgdchmeikigaaDoor.Sha

section
variable {H : Type} {enc : TypeId × Value → H} {P : Program} {w : World} {b0 : Nat}
theorem read_digest {t e : TypeId} (ht : P.underlying t = some (.array 32 e)) (he : P.underlying e = some (.int .u8)) (hc : P.cellsOf e = 1) (hct : P.cellsOf t = 32)
    {n : Nat} {cs : List Value} {y : DataW H × List MemPlace} (h : DataW.trod enc P w 0 (fun _ => true) true n t cs = some y) : ∃ d, DgIn d cs := by
  obtain ⟨ys, m, _, _, hl, hyl, hg⟩ := DataW.trod_array ht h
  have each : ∀ i, i < 32 → ∃ q, cs[i]? = some (.int .u8 q) ∧ (Lit.int .u8 q).wf = true := by
    intro i hi
    have h1 := hg i hi
    rw [hc, Nat.mul_one] at h1
    have hx : ys[i]? = some (ys[i]'(by omega)) := List.getElem?_eq_getElem (by omega)
    rw [hx] at h1
    obtain ⟨q, hq, _, hw⟩ := DataW.trod_int he h1
    refine ⟨q, ?_, hw⟩
    rw [List.drop_eq_getElem_cons (by omega)] at hq
    simp only [List.take_succ_cons, List.take_zero, List.cons.injEq, and_true] at hq
    rw [List.getElem?_eq_getElem (by omega), hq]
  have hlen : cs.length = 32 := by omega
  refine ⟨cs.map (fun v => match v with | .int _ q => q | _ => 0), ?_, by rw [List.length_map, hlen], fun z hz => ?_⟩
  · apply List.ext_getElem?
    intro i
    by_cases hi : i < 32
    · obtain ⟨q, hq, _⟩ := each i hi
      simp only [List.map_map, List.getElem?_map, hq]
      rfl
    · rw [List.getElem?_eq_none (by omega), List.getElem?_eq_none (by simp; omega)]
  · obtain ⟨v, hv, rfl⟩ := List.mem_map.1 hz
    obtain ⟨i, hi, rfl⟩ := List.mem_iff_getElem.1 hv
    obtain ⟨q, hq, hw⟩ := each i (by omega)
    rw [List.getElem?_eq_getElem hi] at hq
    injection hq with hq
    rw [hq]
    exact bounds_u8 hw

theorem open_digests {t e u : TypeId} (ht : P.underlying t = some (.slice e)) (he : P.underlying e = some (.array 32 u)) (hu : P.underlying u = some (.int .u8)) (hc : P.cellsOf u = 1) (hct : P.cellsOf e = 32)
    {v : Value} {d : DataW H} {ps : List MemPlace} (hval : Value.okWide P w .any b0 t v) (h : DataW.Trod enc P w 0 (fun _ => true) true t v d ps) (hlt : ∀ x ∈ ps, x.block < w.heap.size) :
    ∃ (A : Option Addr) (cap : Nat) (l : List (List Int)), v = .slice A l.length cap ∧ l.length ≤ cap ∧ cap ≤ maxLen ∧ HoldsD w w.heap.size A l :=
  open_slice_of DgIn 32 ht hct (by omega) (fun _ _ _ h _ => read_digest he hu hc hct h) hval h hlt
end

/-- A whole row is loaded, in a region whose callees make memory. -/
theorem quiet_load_row {P : Program} {ops : Array Oper} {o : Oper} {a : Act} {C : World → Prop} {K : Act → Prop} {E : Prop}
    (hw : Region.wanted o (yielded ops a.tmps) = true) (ty : TypeId) (x : Operand) (ho : o.op = .load ty x) (b f : Nat) (hx : a.eval x = .pointer (some ⟨b, f, none⟩)) (cs : List Value) (d : TypeDesc) (hc : ∀ W, C W → W.rangeAt b f cs)
    (hu : P.underlying ty = some d) (hd : d.isRow = true) (hi : (P.info? ty).map (·.size) = some cs.length) (hK : K (a.put o.dst (.agg cs.toArray))) :
    if Region.wanted o (yielded ops a.tmps) = true then o.quiet P a C K else E := by
  rw [if_pos hw]
  refine ⟨.agg cs.toArray, fun W hW => ?_, hK⟩
  unfold Oper.quietAt execOp
  simp only [ho, hx, Instr.loadAt, Instr.sureAddr, Sem.run_bind, Sem.run_pure, Result.andThen_ok, run_loadVar_mid W b f ty cs d (hc W hW) hu hd hi, Oper.quietUpon]
  trivial
theorem range_regrown {w : World} {b f : Nat} {cs : List Value} (h : w.rangeAt b f cs) : ∀ W, (∃ p : Regrown, W = Go.Sort.grow (redrawn w p.d) p.os) → W.rangeAt b f cs := by
  rintro W ⟨p, rfl⟩ j v hj
  exact cell_regrown (h j v hj) p.d p.os

theorem run_equal_dig (ys zs : List Int) (hy : D32 ys) (hz : D32 zs) (w : World) : (Op.equal 26 (arrV .u8 ys) (arrV .u8 zs)).run Tryd.prog w = .ok (decide (ys = zs)) w := by
  have h1 := run_equalIn_array (P := Tryd.prog) (w := w) (t := 26) 9999 (ys.map (Value.int .u8)).toArray (zs.map (Value.int .u8)).toArray (n := 32) (e := 5) arr32D (Option.eq_some_of_isSome (by kernel_rfl))
  have h2 := run_eqItems_ints (P := Tryd.prog) (w := w) (e := 5) (k := .u8) (k' := .u8) 9998 (by kernel_rfl) Tryd.underlying5 (by kernel_rfl) ys zs (List.range 32) (fun j hj => by have := List.mem_range.1 hj; have := hy.1; have := hz.1; omega)
  have e1 : decide (∀ j ∈ List.range 32, ys[j]?.getD 0 = zs[j]?.getD 0) = decide (ys = zs) := by
    rw [decide_eq_decide]
    constructor
    · intro h
      apply List.ext_getElem (by rw [hy.1, hz.1])
      intro j hj hj'
      have := h j (List.mem_range.2 (by rw [← hy.1]; exact hj))
      simpa [hj, hj'] using this
    · rintro rfl j _; rfl
  rw [e1] at h2
  rw [h2] at h1
  unfold arrV
  simp [Op.equal, Op.maxDepth, h1]
theorem dig_neq2 (ys zs : List Int) (hy : D32 ys) (hz : D32 zs) (w : World) : (binOp .neq 26 (arrV .u8 ys) (arrV .u8 zs)).run Tryd.prog w = .ok (.bool (!decide (ys = zs))) w := by
  have h := run_equal_dig ys zs hy hz w
  unfold arrV at h ⊢
  simp only [binOp]
  simp [h]
theorem dig_eq2 (ys zs : List Int) (hy : D32 ys) (hz : D32 zs) (w : World) : (binOp .eql 26 (arrV .u8 ys) (arrV .u8 zs)).run Tryd.prog w = .ok (.bool (decide (ys = zs))) w := by
  have h := run_equal_dig ys zs hy hz w
  unfold arrV at h ⊢
  simp only [binOp]
  simp [h]
theorem dig_neq (ys : List Int) (hy : D32 ys) (w : World) : (binOp .neq 26 (arrV .u8 ys) (arrV .u8 ys)).run Tryd.prog w = .ok (.bool false) w := by
  rw [dig_neq2 ys ys hy hy]; simp
theorem dig_eq (ys : List Int) (hy : D32 ys) (w : World) : (binOp .eql 26 (arrV .u8 ys) (arrV .u8 ys)).run Tryd.prog w = .ok (.bool true) w := by
  rw [dig_eq2 ys ys hy hy]; simp
theorem dig_guardn (ys : List Int) (x y : Operand) (w : World) : (eqGuard .neq 26 x y (arrV .u8 ys) (arrV .u8 ys)).run Tryd.prog w = .ok () w := run_eqGuard_agg w .neq 26 x y _ _ (by kernel_rfl)
theorem dig_guard (ys : List Int) (x y : Operand) (w : World) : (eqGuard .eql 26 x y (arrV .u8 ys) (arrV .u8 ys)).run Tryd.prog w = .ok () w := run_eqGuard_agg w .eql 26 x y _ _ (by kernel_rfl)

theorem leaf_nil : (leafL []).take 1 = [110] := by unfold leafL; decide +kernel
theorem half_3 : halfN 3 = 2 := by decide +kernel
theorem half_2 : halfN 2 = 1 := by decide +kernel
theorem steps_23 : stepsZ 2 3 = 1 := by
  have e : stepsZ 2 3 = stepsN 2 3 := by unfold stepsZ; rw [if_neg (by omega)]; rfl
  rw [e, stepsN_hi (by omega) (by omega) (by rw [half_3]; omega), half_3, stepsN_one _ (by omega)]
  rfl
theorem steps_03 : stepsZ 0 3 = 2 := by
  have e : stepsZ 0 3 = stepsN 0 3 := by unfold stepsZ; rw [if_neg (by omega)]; rfl
  rw [e, stepsN_lo (by omega) (by omega) (by rw [half_3]; omega), half_3, stepsN_lo (by omega) (by omega) (by rw [half_2]; omega), half_2, stepsN_one _ (by omega)]
  rfl

set_option maxRecDepth 100000 in
set_option maxHeartbeats 1600000 in
theorem awake_any (w : World) (hL : LaidS w) :
    Calls Tryd.prog 25 #[] w fun e w' => e = .returned (.bool true) ∧ Below w.heap.size w w' := by
  have hsl := (leafL_d32 []).1
  have h4 := leaf_nil
  have GL := Lib.hid (leaf_any none [] 0 w (by simp) (Nat.le_refl _) (Nat.zero_le _) (fun _ h => absurd h (by simp)) Holds.nil hL)
  have G1 := Lib.hid (fun W => steps_any 2 3 W (by omega))
  have G2 := Lib.hid (fun W => steps_any 0 3 W (by omega))
  rw [steps_23] at G1
  rw [steps_03] at G2
  generalize leafL [] = ys at *
  have y0 : ys[0]?.getD 0 = 110 := by have := congrArg (fun l : List Int => l[0]?.getD 0) h4; simpa [List.getElem?_take] using this
  have Y := Lib.hid (And.intro hsl y0)
  have hz : ∀ W, (zeroValue 26).run Tryd.prog W = .ok (.agg #[.int .u8 0, .int .u8 0, .int .u8 0, .int .u8 0, .int .u8 0, .int .u8 0, .int .u8 0, .int .u8 0, .int .u8 0, .int .u8 0, .int .u8 0, .int .u8 0, .int .u8 0, .int .u8 0, .int .u8 0, .int .u8 0, .int .u8 0, .int .u8 0, .int .u8 0, .int .u8 0, .int .u8 0, .int .u8 0, .int .u8 0, .int .u8 0, .int .u8 0, .int .u8 0, .int .u8 0, .int .u8 0, .int .u8 0, .int .u8 0, .int .u8 0, .int .u8 0]) W := fun _ => by kernel_rfl
  clear hsl h4 y0
  go_enter Tryd.func25, Tryd.ntmps25
  go_wp2_with fail
  refine GL.out.mono ?_
  rintro e w1 ⟨rfl, hb1⟩
  have z1 : Arr (w1.alloc (.cells ((List.replicate 32 (0 : Int)).map (Value.int .u8)).toArray 26)) w1.heap.size 26 .u8 (List.replicate 32 0) := Arr.new w1 _ _ _
  go_wp2_with (first
    | (have _t := z1; refine wpList_store_arr rfl _ _ _ rfl z1 rfl rfl (by rw [Y.out.1]; rfl) (by rw [Y.out.1]; kernel_rfl) ?_; intro w2 k2 g2; have c0 := k2.cell (i := 0) (by rw [Y.out.1]; omega); rw [Y.out.2] at c0; have hb2 := (hb1.alloc hb1.size (.cells ((List.replicate 32 (0 : Int)).map (Value.int .u8)).toArray 26)).trans (below_of_grown g2 (by have := hb1.size; simp; omega) fun b hb => by injection hb with hb; have := hb1.size; omega); clear _t z1 k2))
  refine (G1.out _).mono ?_
  rintro e w3 ⟨rfl, rfl⟩
  go_wp2_with fail
  refine (G2.out _).mono ?_
  rintro e w3 ⟨rfl, rfl⟩
  go_wp2_with fail
  go_ret
  exact ⟨rfl, hb2⟩
end Go.Proofs.YtdfgdchmeikigaaDoor.Mk
