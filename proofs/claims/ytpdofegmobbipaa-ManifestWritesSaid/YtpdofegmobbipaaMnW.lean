/-
  Layer 22, manifest: Get: contract. Conditions: as each theorem names.
-/
import Derived.Test.YtpdofegmobbipaaMnV
import Derived.Deep.RegionHeld
import Derived.RegionTactic
import Derived.Deep.DeepCutAuto
import Derived.Test.YtpdofegmobbipaaStB
import Derived.Test.YtpdofegmobbipaaStr
import Derived.IntWalk
namespace Go.Proofs.Ytpdofegmobbipaa.Kit
open Go.ChangeShapes Go.WideShapes Go.ChangeAt Go.RowKit
theorem Holds.on {w w' : World} {k : IntKind} {A : Option Addr} {xs : List Int} (h : Holds w w.heap.size k A xs) (hb : Below w.heap.size w w') : Holds w' w'.heap.size k A xs := (h.below hb).more hb.size
end Go.Proofs.Ytpdofegmobbipaa.Kit
namespace Go.Proofs.Ytpdofegmobbipaa.Mn
open Go.ChangeShapes Go.WideShapes Go.ChangeAt Go.RowKit Go.Proofs.Ytpdofegmobbipaa.Kit Go.Proofs.Ytpdofegmobbipaa.Oct

theorem list32 (a : List Int) (h : a.length = 32) : ∃ x0 x1 x2 x3 x4 x5 x6 x7 x8 x9 x10 x11 x12 x13 x14 x15 x16 x17 x18 x19 x20 x21 x22 x23 x24 x25 x26 x27 x28 x29 x30 x31 : Int, a = [x0, x1, x2, x3, x4, x5, x6, x7, x8, x9, x10, x11, x12, x13, x14, x15, x16, x17, x18, x19, x20, x21, x22, x23, x24, x25, x26, x27, x28, x29, x30, x31] := by
  rcases a with _ | ⟨x0, a⟩
  · simp at h
  rcases a with _ | ⟨x1, a⟩
  · simp at h
  rcases a with _ | ⟨x2, a⟩
  · simp at h
  rcases a with _ | ⟨x3, a⟩
  · simp at h
  rcases a with _ | ⟨x4, a⟩
  · simp at h
  rcases a with _ | ⟨x5, a⟩
  · simp at h
  rcases a with _ | ⟨x6, a⟩
  · simp at h
  rcases a with _ | ⟨x7, a⟩
  · simp at h
  rcases a with _ | ⟨x8, a⟩
  · simp at h
  rcases a with _ | ⟨x9, a⟩
  · simp at h
  rcases a with _ | ⟨x10, a⟩
  · simp at h
  rcases a with _ | ⟨x11, a⟩
  · simp at h
  rcases a with _ | ⟨x12, a⟩
  · simp at h
  rcases a with _ | ⟨x13, a⟩
  · simp at h
  rcases a with _ | ⟨x14, a⟩
  · simp at h
  rcases a with _ | ⟨x15, a⟩
  · simp at h
  rcases a with _ | ⟨x16, a⟩
  · simp at h
  rcases a with _ | ⟨x17, a⟩
  · simp at h
  rcases a with _ | ⟨x18, a⟩
  · simp at h
  rcases a with _ | ⟨x19, a⟩
  · simp at h
  rcases a with _ | ⟨x20, a⟩
  · simp at h
  rcases a with _ | ⟨x21, a⟩
  · simp at h
  rcases a with _ | ⟨x22, a⟩
  · simp at h
  rcases a with _ | ⟨x23, a⟩
  · simp at h
  rcases a with _ | ⟨x24, a⟩
  · simp at h
  rcases a with _ | ⟨x25, a⟩
  · simp at h
  rcases a with _ | ⟨x26, a⟩
  · simp at h
  rcases a with _ | ⟨x27, a⟩
  · simp at h
  rcases a with _ | ⟨x28, a⟩
  · simp at h
  rcases a with _ | ⟨x29, a⟩
  · simp at h
  rcases a with _ | ⟨x30, a⟩
  · simp at h
  rcases a with _ | ⟨x31, a⟩
  · simp at h
  rcases a with _ | ⟨y, a⟩
  · exact ⟨x0, x1, x2, x3, x4, x5, x6, x7, x8, x9, x10, x11, x12, x13, x14, x15, x16, x17, x18, x19, x20, x21, x22, x23, x24, x25, x26, x27, x28, x29, x30, x31, rfl⟩
  · simp at h
set_option maxRecDepth 100000 in
/-- A manifest's fields, built. -/
theorem build_man (a b c d e : Int) (x y z : List Int) (hx : x.length = 32) (hy : y.length = 32) (hz : z.length = 32) (W : World) :
    (Instr.build 27 #[(0, .int .u8 a), (1, .int .u64 b), (2, .int .i64 c), (3, .int .i64 d), (4, .int .i64 e), (5, arrV .u8 x), (6, arrV .u8 y), (7, arrV .u8 z)]).run Try.prog W = .ok (.agg (Man.mk a b c d e x y z none 0 []).cells.toArray) W := by
  obtain ⟨x0, x1, x2, x3, x4, x5, x6, x7, x8, x9, x10, x11, x12, x13, x14, x15, x16, x17, x18, x19, x20, x21, x22, x23, x24, x25, x26, x27, x28, x29, x30, x31, rfl⟩ := list32 x hx
  obtain ⟨y0, y1, y2, y3, y4, y5, y6, y7, y8, y9, y10, y11, y12, y13, y14, y15, y16, y17, y18, y19, y20, y21, y22, y23, y24, y25, y26, y27, y28, y29, y30, y31, rfl⟩ := list32 y hy
  obtain ⟨z0, z1, z2, z3, z4, z5, z6, z7, z8, z9, z10, z11, z12, z13, z14, z15, z16, z17, z18, z19, z20, z21, z22, z23, z24, z25, z26, z27, z28, z29, z30, z31, rfl⟩ := list32 z hz
  kernel_rfl
set_option maxRecDepth 100000 in
theorem zero_man (W : World) : (zeroValue 27).run Try.prog W = .ok (.agg man0.cells.toArray) W := by kernel_rfl
set_option maxRecDepth 100000 in
theorem build_man0 (W : World) : (Instr.build 27 #[]).run Try.prog W = .ok (.agg man0.cells.toArray) W := by kernel_rfl

theorem wpList_store_blk {P : Program} {w : World} {ops : Array Oper} {rest : List Oper} {o : Oper} {a : Act} {Q : Exit → Act → World → Prop} (hgd : o.guard = none) (ty : TypeId) (x y : Operand) (ho : o.op = .store ty x y)
    {g : Nat} {t : TypeId} {cs : Array Value} {ds : List Value} (h : Block w g t cs) (hx : a.eval x = .pointer (some ⟨g, 0, none⟩)) (hy : a.eval y = .agg ds.toArray) (hl : ds.length = cs.size) (hi : (P.info? ty).map (·.size) = some ds.length) (hone : ∀ u ∈ ds, u.oneCell' = true)
    (hK : ∀ w', Block w' g t ds.toArray → w.grownBy w' (some g) → wpList P ops Q rest (a.put o.dst undef) w') : wpList P ops Q (o :: rest) a w := by
  refine wpList_store_mid hgd ty x y ho g 0 ds.toArray hx hy ?_ (by simpa using hi) (all_oneCell_toArray hone) ?_
  · intro j hj
    have hj' : j < cs.size := by simpa [hl] using hj
    exact ⟨by rw [Nat.zero_add, h.cell, Array.getElem?_eq_getElem hj']; rfl, by rw [Nat.zero_add]; exact h.frozen j⟩
  · refine hK _ ?_ (setCells_grown g _ 0 w)
    have := setCells_block ds 0 w _ h (by omega)
    have e : (cs.toList.take 0 ++ (ds ++ cs.toList.drop (0 + ds.length))).toArray = ds.toArray := by
      rw [List.drop_of_length_le (by simp [hl])]
      simp
    rw [e] at this
    simpa using this
theorem step_store_blk {P : Program} {ops : Array Oper} {o : Oper} {a : Act} {w : World} {K : Act → World → Prop} {Q : Exit → Act → World → Prop} {E : Prop} (hgd : o.guard = none) (ty : TypeId) (x y : Operand) (ho : o.op = .store ty x y)
    {g : Nat} {t : TypeId} {cs : Array Value} {ds : List Value} (h : Block w g t cs) (hx : a.eval x = .pointer (some ⟨g, 0, none⟩)) (hy : a.eval y = .agg ds.toArray) (hl : ds.length = cs.size) (hi : (P.info? ty).map (·.size) = some ds.length) (hone : ∀ u ∈ ds, u.oneCell' = true)
    (hK : ∀ w', Block w' g t ds.toArray → w.grownBy w' (some g) → K (a.put o.dst undef) w') : if Region.wanted o (yielded ops a.tmps) = true then Oper.wp P o a w K Q else E :=
  step_of_list (by simp [Region.wanted, hgd]) fun Q' hn => wpList_store_blk hgd ty x y ho h hx hy hl hi hone fun w' h1 h2 => hn _ _ (hK w' h1 h2)
theorem yieldsIf_build {P : Program} {ops : Array Oper} {S : World → Prop} {op : Oper} {a : Act} (hw : Region.wanted op (yielded ops a.tmps) = true) (ty : TypeId) (parts : Array (Nat × Operand)) (ho : op.op = .build ty parts)
    (V : Value) (hrun : ∀ W, (Instr.build ty (parts.map fun (i, x) => (i, a.eval x))).run P W = .ok V W) : YieldsIf P ops S op V a :=
  .inl ⟨hw, fun w _ => by
    unfold execOp
    simp only [ho, Sem.run_bind, Sem.run_pure]
    rw [hrun]
    rfl⟩
theorem results_cell_tmp {P : Program} {fn : Func} {p q : Tmp} {ty : TypeId} (h : fn.results = #[.cell p ty, .tmp q]) (tmps : Array Value) (w : World) (g : Nat) (t : TypeId) (cs : Array Value) (fr : Nat × Nat) (d : TypeDesc)
    (hp : tmps.getD p undef = .pointer (some ⟨g, 0, none⟩)) (hg : w.heap[g]? = some (.cells cs t fr)) (v : Value) (hq : tmps.getD q undef = v)
    (hu : P.underlying ty = some d) (hd : (match d with | .struct _ | .array _ _ => true | _ => false) = true) (hi : (P.info? ty).map (·.size) = some cs.size) :
    (results fn tmps).run P w = .ok (.tuple #[.agg cs, v]) w := by
  have hp' : tmps[p]?.getD undef = .pointer (some ⟨g, 0, none⟩) := by simpa using hp
  have hq' : tmps[q]?.getD undef = v := by simpa using hq
  simp [results, h, hp', hq', asAddr, run_loadVar_row w g t ty cs fr d hg hu hd hi]
theorem holds_at {w : World} {B b off : Nat} {xs : List Int} (h : Holds w B .u8 (some ⟨b, off, none⟩) xs) {j : Nat} (hj : j < xs.length) : w.cell? ⟨b, off + j, none⟩ = some (.int .u8 (xs.getD j 0)) := by
  obtain ⟨b2, o2, e, _, hc⟩ := h (by omega)
  injection e with e
  injection e with e1 e2 _
  subst e1 e2
  exact hc j hj
theorem holds_drop {w : World} {B b off : Nat} {xs : List Int} (h : Holds w B .u8 (some ⟨b, off, none⟩) xs) (p : Nat) (hp : p ≤ xs.length) : Holds w B .u8 (some ⟨b, off + p, none⟩) (xs.drop p) := by
  have := h.sub p (xs.length - p) (by omega)
  rwa [List.take_of_length_le (by rw [List.length_drop]; exact Nat.le_refl _)] at this
theorem Man.cells_one (m : Man) : ∀ u ∈ m.cells, u.oneCell' = true := by
  intro u hu
  unfold Man.cells at hu
  simp only [List.mem_cons, List.mem_append, List.mem_map, List.not_mem_nil, or_false] at hu
  rcases hu with rfl | rfl | rfl | rfl | rfl | ⟨x, _, rfl⟩ | ⟨x, _, rfl⟩ | ⟨x, _, rfl⟩ | rfl <;> rfl
theorem Man.cells_set (m : Man) (h : m.Ok) (A : Option Addr) (l : List Int) (c : Nat) : m.cells.toArray.setIfInBounds 101 (.slice A l.length c) = ({ m with A := A, cap := c, ord := l } : Man).cells.toArray := by
  rw [List.setIfInBounds_toArray]
  congr 1
  unfold Man.cells
  simp only [List.set_cons_succ]
  rw [List.set_append_right _ _ (by rw [List.length_map, h.odl]; omega), List.length_map, h.odl, List.set_append_right _ _ (by rw [List.length_map, h.ndl]; omega), List.length_map, h.ndl, List.set_append_right _ _ (by rw [List.length_map, h.rtl]; omega), List.length_map, h.rtl]
  rfl

def gotOk (xs : List Int) : Prop := xs.getD 0 0 = 1 ∧ (manN xs (pairs xs) none 0).May ∧ xs.length = 118 + 2 * pairs xs
instance (xs : List Int) : Decidable (gotOk xs) := by unfold gotOk; exact inferInstance
/-- The error of bytes. -/
def gotE (xs : List Int) : Int := if xs.length < 118 then 2 else if gotOk xs then 0 else 3
/-- What bytes give. -/
def GotM (xs : List Int) (w : World) (e : Ending) (w' : World) : Prop :=
  ∃ m : Man, m.Ok ∧ Holds w' w'.heap.size .i64 m.A m.ord ∧ (∃ A cap, m = if gotE xs = 0 then manN xs (pairs xs) A cap else man0) ∧ e = .returned (.tuple #[.agg m.cells.toArray, .int .i64 (gotE xs)]) ∧ Below w.heap.size w w'
theorem got_no {xs : List Int} {E : Int} {w w' : World} {e : Ending} (hE : gotE xs = E) (h0 : E ≠ 0) (he : e = .returned (.tuple #[.agg man0.cells.toArray, .int .i64 E])) (hb : Below w.heap.size w w') : GotM xs w e w' :=
  ⟨man0, man0_ok, Holds.nil, ⟨none, 0, by rw [hE, if_neg h0]⟩, by rw [hE]; exact he, hb⟩

/-- Where Get stands while it reads the order. -/
structure MG (w wr : World) (g4 : Nat) (xs : List Int) (k : Nat) (Ak : Option Addr) (ck : Nat) : Prop where
  M : Block wr w.heap.size 27 man0.cells.toArray
  Z : Block wr g4 27 (manN xs k Ak ck).cells.toArray
  O : Own wr w.heap.size 3 .i64 (.slice Ak k ck) (ordN xs k)
  B : Below w.heap.size w wr
  g : w.heap.size < g4
theorem MG.below {w wr w' : World} {g4 : Nat} {xs : List Int} {k : Nat} {Ak : Option Addr} {ck : Nat} (h : MG w wr g4 xs k Ak ck) (hb : Below wr.heap.size wr w') : MG w w' g4 xs k Ak ck :=
  ⟨h.M.below hb h.M.lt, h.Z.below hb h.Z.lt, Own.below h.O hb, h.B.trans (hb.mono h.B.size), h.g⟩
theorem MG.next {w wr w' : World} {g4 : Nat} {xs : List Int} {k : Nat} {Ak : Option Addr} {ck : Nat} (h : MG w wr g4 xs k Ak ck) (hok : (manN xs k Ak ck).Ok) {A' : Option Addr} {c' : Nat}
    (ho : Own w' w.heap.size 3 .i64 (.slice A' (k + 1) c') (ordN xs (k + 1))) (t : TurnsIn (fun b => (Value.slice Ak k ck).ownBlock = some b) wr w') (hz : Block w' g4 27 (manN xs k Ak ck).cells.toArray) :
    MG w (w'.setCell ⟨g4, 101, none⟩ (.slice A' (k + 1) c')) g4 xs (k + 1) A' c' := by
  have gr : w'.grownBy (w'.setCell ⟨g4, 101, none⟩ (.slice A' (k + 1) c')) (some g4) := by
    have t2 : TurnsIn (fun b => b = g4) w' (w'.setCell ⟨g4, 101, none⟩ (.slice A' (k + 1) c')) := TurnsIn.setCell (S := fun b => b = g4) (p := ⟨g4, 101, none⟩) (TurnsIn.refl _ w') (Or.inl rfl) _
    exact ⟨t2.os, t2.tape, t2.output, t2.size, fun j hj hne => t2.block j hj (fun e => hne (by rw [e]))⟩
  have hM := h.M.out t (h.O.ne_block h.M (by decide))
  have hB := h.B.trans (t.toBelow h.B.size fun b hb e => by have := (h.O.lt b e).1; omega)
  have hs := hz.set_ 101 (.slice A' (k + 1) c')
  have e := (manN xs k Ak ck).cells_set hok A' (ordN xs (k + 1)) c'
  rw [ordN_length] at e
  rw [e] at hs
  refine ⟨hM.grown gr (by intro e; injection e with e; have := h.g; omega), hs, ho.kept gr (Or.inr (ho.ne_block hz (by decide))), hB.trans (below_of_grown gr hB.size fun b hb => by injection hb with hb; have := h.g; omega), h.g⟩

theorem elemI : IntElem Try.prog 25 3 .i64 8 := ⟨Try.underlying25, by kernel_rfl, by decide⟩

set_option maxRecDepth 100000 in
set_option maxHeartbeats 12800000 in
theorem mget_any (A : Option Addr) (xs : List Int) (c : Nat) (w : World) (hc : xs.length ≤ c) (hm : c ≤ maxLen) (hl4 : xs.length ≤ 400) (ho : Octets xs) (hr : Holds w w.heap.size .u8 A xs) :
    Calls Try.prog 13 #[.slice A xs.length c] w (GotM xs w) := by
  unfold maxLen at hm
  have hl : xs.length ≤ 1000000 := by omega
  have HB0 := Lib.hid build_man0
  have HL0 := Lib.hid (man0.cells_length man0_ok)
  have hzv := zero_man
  have B1 := below_last w (.cells man0.cells.toArray 27)
  have M1 : Block (w.alloc (.cells man0.cells.toArray 27)) w.heap.size 27 man0.cells.toArray := Block.new w 27 _
  obtain ⟨w1, hw1⟩ : ∃ w1, w.alloc (.cells man0.cells.toArray 27) = w1 := ⟨_, rfl⟩
  rw [hw1] at B1 M1
  have HW1 := Lib.hid hw1
  have HM1 := Lib.hid M1
  have HB1 := Lib.hid B1
  clear hw1 M1 B1
  by_cases h118 : xs.length < 118
  · have d1 : decide ((xs.length : Int) < 118) = true := decide_eq_true (by omega)
    have HE : Hid (gotE xs = 2) := Lib.hid (by unfold gotE; rw [if_pos h118])
    clear hr ho h118
    go_enter Try.func13, Try.ntmps13
    go_upto_region 1 with fail
    rw [HW1.out]
    go_wp2_with (first
      | (refine wpList_build_known rfl _ _ rfl (.agg man0.cells.toArray) ?_ ?_; (intro W; have hw9 := HB0.out W; simpa [Act.eval] using hw9))
      | (have _t := HM1; refine wpList_store_blk rfl _ _ _ rfl (ds := man0.cells) HM1.out rfl rfl (by simp) (by rw [HL0.out]; kernel_rfl) man0.cells_one ?_; clear _t HM1; intro w9 r9 g9))
    refine bodyPost_ret (v := .tuple #[.agg man0.cells.toArray, .int .i64 2]) (results_cell_tmp rfl _ _ w.heap.size 27 _ (0, 0) _ rfl r9 _ rfl Try.underlying27 rfl (by rw [show man0.cells.toArray.size = 102 from HL0.out]; kernel_rfl)) rfl ?_
    exact got_no HE.out (by decide) rfl (HB1.out.trans (below_of_grown g9 HB1.out.size fun b hb => by injection hb with hb; omega))
  obtain ⟨b0, off, rfl, hb0, -⟩ := hr (by omega)
  have d1 : decide ((xs.length : Int) < 118) = false := decide_eq_false (by omega)
  have HH1 := Lib.hid ((hr.below HB1.out).more HB1.out.size)
  by_cases hx0 : xs.getD 0 0 = 1
  case neg =>
    have HE : Hid (gotE xs = 3) := Lib.hid (by unfold gotE; rw [if_neg h118, if_neg (fun h => hx0 h.1)])
    have c0 := holds_at HH1.out (j := 0) (by omega)
    have d2 : (xs.getD 0 0 != 1) = true := by simpa using hx0
    have h0 : 0 < xs.length := by omega
    generalize xs.getD 0 0 = z0 at *
    rw [Nat.add_zero] at c0
    clear hr ho h118 hx0 HH1
    go_enter Try.func13, Try.ntmps13
    go_upto_region 1 with fail
    rw [HW1.out]
    go_wp2_with (first
      | (refine wpList_build_known rfl _ _ rfl (.agg man0.cells.toArray) ?_ ?_; (intro W; have hw9 := HB0.out W; simpa [Act.eval] using hw9))
      | (have _t := HM1; refine wpList_store_blk rfl _ _ _ rfl (ds := man0.cells) HM1.out rfl rfl (by simp) (by rw [HL0.out]; kernel_rfl) man0.cells_one ?_; clear _t HM1; intro w9 r9 g9))
    refine bodyPost_ret (v := .tuple #[.agg man0.cells.toArray, .int .i64 3]) (results_cell_tmp rfl _ _ w.heap.size 27 _ (0, 0) _ rfl r9 _ rfl Try.underlying27 rfl (by rw [show man0.cells.toArray.size = 102 from HL0.out]; kernel_rfl)) rfl ?_
    exact got_no HE.out (by decide) rfl (HB1.out.trans (below_of_grown g9 HB1.out.size fun b hb => by injection hb with hb; omega))
  case pos =>
    have c0 := holds_at HH1.out (j := 0) (by omega)
    rw [hx0, Nat.add_zero] at c0
    have h0 : 0 < xs.length := by omega
    have HBM : Hid (∀ W, (Instr.build 27 #[(0, .int .u8 (xs.getD 1 0)), (1, .int .u64 (numA xs 2 8)), (2, .int .i64 (numA xs 10 4)), (3, .int .i64 (numA xs 14 4)), (4, .int .i64 (numA xs 18 4)), (5, arrV .u8 ((xs.drop 22).take 32)), (6, arrV .u8 ((xs.drop 54).take 32)), (7, arrV .u8 ((xs.drop 86).take 32))]).run Try.prog W = .ok (.agg (manN xs 0 none 0).cells.toArray) W) :=
      Lib.hid (fun W => build_man _ _ _ _ _ _ _ _ (by rw [List.length_take, List.length_drop]; omega) (by rw [List.length_take, List.length_drop]; omega) (by rw [List.length_take, List.length_drop]; omega) W)
    have HLN := Lib.hid ((manN xs 0 none 0).cells_length (manN_ok xs 0 none 0 ho (by omega) (by omega) ⟨Nat.le_refl _, Nat.zero_le _⟩))
    have i1 : (1 : Int) < (xs.length : Int) := by omega
    have i22 : (22 : Int) ≤ (xs.length : Int) := by omega
    have i54 : (54 : Int) ≤ (xs.length : Int) := by omega
    have i86 : (86 : Int) ≤ (xs.length : Int) := by omega
    have j22 : (22 : Int) ≤ (c : Int) := by omega
    have j54 : (54 : Int) ≤ (c : Int) := by omega
    have j86 : (86 : Int) ≤ (c : Int) := by omega
    have n22 : ¬ c = 22 := by omega
    have n54 : ¬ c = 54 := by omega
    have n86 : ¬ c = 86 := by omega
    go_enter Try.func13, Try.ntmps13
    go_upto_region 1 with fail
    rw [HW1.out]
    go_upto_region 5 with fail
    clear c0
    have Hw1 := HH1.out
    have Mw1 := HM1.out
    have Bw1 : Below w.heap.size w w1.drew := below_draws HB1.out 1
    go_cut [4] (fun v4 wx => ∃ g4, v4 = .pointer (some ⟨g4, 0, none⟩) ∧ MG w wx g4 xs 0 none 0)
    case first =>
      refine wp_region_held_drew (S := (fun W => Holds W W.heap.size .u8 (some ⟨b0, off, none⟩) xs)) (by kernel_rfl) Hw1 (fun hS => ?_)
      obtain ⟨x0, e0⟩ : ∃ x0, x0 = w1.drew := ⟨_, rfl⟩
      have Hx0 : Holds x0 x0.heap.size .u8 (some ⟨b0, off, none⟩) xs := by rw [e0]; exact Hw1
      have Mx0 : Block x0 w.heap.size 27 man0.cells.toArray := by rw [e0]; exact Mw1
      have Bx0 : Below w.heap.size w x0 := by rw [e0]; exact Bw1
      rw [← e0] at hS ⊢
      clear e0 Hw1 Mw1 Bw1
      refine wpAnyH_take (i := 0) (oi := ⟨some 15, _, _, _, _, _⟩) (v := .slice (some ⟨b0, off, none⟩) xs.length c) rfl (by kernel_rfl) (by kernel_rfl) (by kernel_rfl) (fun _ _ _ h => h) (Or.inl ⟨by rfl, fun W hW => by go_simp⟩) hS ?_
      try simp only [Act.put, List.setIfInBounds_toArray, List.set_cons_zero, List.set_cons_succ]
      refine wpAnyH_take (i := 3) (oi := ⟨some 18, _, _, _, _, _⟩) (v := .slice (some ⟨b0, off, none⟩) xs.length c) rfl (by kernel_rfl) (by kernel_rfl) (by kernel_rfl) (fun _ _ _ h => h) (Or.inl ⟨by rfl, fun W hW => by go_simp⟩) hS ?_
      try simp only [Act.put, List.setIfInBounds_toArray, List.set_cons_zero, List.set_cons_succ]
      refine wpAnyH_take (i := 5) (oi := ⟨some 20, _, _, _, _, _⟩) (v := .slice (some ⟨b0, off, none⟩) xs.length c) rfl (by kernel_rfl) (by kernel_rfl) (by kernel_rfl) (fun _ _ _ h => h) (Or.inl ⟨by rfl, fun W hW => by go_simp⟩) hS ?_
      try simp only [Act.put, List.setIfInBounds_toArray, List.set_cons_zero, List.set_cons_succ]
      refine wpAnyH_take (i := 8) (oi := ⟨some 23, _, _, _, _, _⟩) (v := .slice (some ⟨b0, off, none⟩) xs.length c) rfl (by kernel_rfl) (by kernel_rfl) (by kernel_rfl) (fun _ _ _ h => h) (Or.inl ⟨by rfl, fun W hW => by go_simp⟩) hS ?_
      try simp only [Act.put, List.setIfInBounds_toArray, List.set_cons_zero, List.set_cons_succ]
      refine wpAnyH_take (i := 11) (oi := ⟨some 26, _, _, _, _, _⟩) (v := .slice (some ⟨b0, off, none⟩) xs.length c) rfl (by kernel_rfl) (by kernel_rfl) (by kernel_rfl) (fun _ _ _ h => h) (Or.inl ⟨by rfl, fun W hW => by go_simp⟩) hS ?_
      try simp only [Act.put, List.setIfInBounds_toArray, List.set_cons_zero, List.set_cons_succ]
      refine wpAnyH_take (i := 14) (oi := ⟨some 29, _, _, _, _, _⟩) (v := .slice (some ⟨b0, off, none⟩) xs.length c) rfl (by kernel_rfl) (by kernel_rfl) (by kernel_rfl) (fun _ _ _ h => h) (Or.inl ⟨by rfl, fun W hW => by go_simp⟩) hS ?_
      try simp only [Act.put, List.setIfInBounds_toArray, List.set_cons_zero, List.set_cons_succ]
      refine wpAnyH_take (i := 17) (oi := ⟨some 32, _, _, _, _, _⟩) (v := .slice (some ⟨b0, off, none⟩) xs.length c) rfl (by kernel_rfl) (by kernel_rfl) (by kernel_rfl) (fun _ _ _ h => h) (Or.inl ⟨by rfl, fun W hW => by go_simp⟩) hS ?_
      try simp only [Act.put, List.setIfInBounds_toArray, List.set_cons_zero, List.set_cons_succ]
      refine wpAnyH_take (i := 20) (oi := ⟨some 35, _, _, _, _, _⟩) (v := .slice (some ⟨b0, off, none⟩) xs.length c) rfl (by kernel_rfl) (by kernel_rfl) (by kernel_rfl) (fun _ _ _ h => h) (Or.inl ⟨by rfl, fun W hW => by go_simp⟩) hS ?_
      try simp only [Act.put, List.setIfInBounds_toArray, List.set_cons_zero, List.set_cons_succ]
      refine wpAnyH_take (i := 1) (oi := ⟨some 16, _, _, _, _, _⟩) (v := .pointer (some ⟨b0, off + 1, none⟩)) rfl (by kernel_rfl) (by kernel_rfl) (by kernel_rfl) (fun _ _ _ h => h) (Or.inl ⟨by rfl, fun W hW => by go_simp⟩) hS ?_
      try simp only [Act.put, List.setIfInBounds_toArray, List.set_cons_zero, List.set_cons_succ]
      refine wpAnyH_take (i := 15) (oi := ⟨some 30, _, _, _, _, _⟩) (v := .slice (some ⟨b0, off + 22, none⟩) (xs.length - 22) (c - 22)) rfl (by kernel_rfl) (by kernel_rfl) (by kernel_rfl) (fun _ _ _ h => h) (Or.inl ⟨by rfl, fun W hW => by go_simp⟩) hS ?_
      try simp only [Act.put, List.setIfInBounds_toArray, List.set_cons_zero, List.set_cons_succ]
      refine wpAnyH_take (i := 18) (oi := ⟨some 33, _, _, _, _, _⟩) (v := .slice (some ⟨b0, off + 54, none⟩) (xs.length - 54) (c - 54)) rfl (by kernel_rfl) (by kernel_rfl) (by kernel_rfl) (fun _ _ _ h => h) (Or.inl ⟨by rfl, fun W hW => by go_simp⟩) hS ?_
      try simp only [Act.put, List.setIfInBounds_toArray, List.set_cons_zero, List.set_cons_succ]
      refine wpAnyH_take (i := 21) (oi := ⟨some 36, _, _, _, _, _⟩) (v := .slice (some ⟨b0, off + 86, none⟩) (xs.length - 86) (c - 86)) rfl (by kernel_rfl) (by kernel_rfl) (by kernel_rfl) (fun _ _ _ h => h) (Or.inl ⟨by rfl, fun W hW => by go_simp⟩) hS ?_
      try simp only [Act.put, List.setIfInBounds_toArray, List.set_cons_zero, List.set_cons_succ]
      refine wpAnyH_take (i := 2) (oi := ⟨some 17, _, _, _, _, _⟩) (v := .int .u8 (xs.getD 1 0)) rfl (by kernel_rfl) (by kernel_rfl) (by kernel_rfl) (fun _ _ _ h => h) (Or.inl ⟨by rfl, fun W hW => by have q0 := holds_at hW (j := 1) (by omega); go_simp⟩) hS ?_
      try simp only [Act.put, List.setIfInBounds_toArray, List.set_cons_zero, List.set_cons_succ]
      refine wpAnyH_ready (rs := [4, 24]) (by kernel_rfl) (by simp) ?_
      refine AllReadyH.cons rfl (fun K hK => ?_) (AllReadyH.cons rfl (fun K hK => ?_) AllReadyH.nil)
      · go_simp
        go_at_call 33
        refine (number_any (some ⟨b0, off, none⟩) xs c 2 8 _ hl hc (by decide) (by omega) ho Hx0).mono ?_
        rintro e _ ⟨rfl, rfl⟩
        refine hK.out _ _ Hx0 (fun hS => ?_)
        clear hK K
        try simp only [Act.put, List.setIfInBounds_toArray, List.set_cons_zero, List.set_cons_succ]
        refine wpAnyH_ready (rs := [6, 24]) (by kernel_rfl) (by simp) ?_
        refine AllReadyH.cons rfl (fun K hK => ?_) (AllReadyH.cons rfl (fun K hK => ?_) AllReadyH.nil)
        · go_simp
          go_at_call 33
          refine (number_any (some ⟨b0, off, none⟩) xs c 10 4 _ hl hc (by decide) (by omega) ho Hx0).mono ?_
          rintro e _ ⟨rfl, rfl⟩
          refine hK.out _ _ Hx0 (fun hS => ?_)
          clear hK K
          try simp only [Act.put, List.setIfInBounds_toArray, List.set_cons_zero, List.set_cons_succ]
          refine wpAnyH_take (i := 7) (oi := ⟨some 22, _, _, _, _, _⟩) (v := .int .i64 (numA xs 10 4)) rfl (by kernel_rfl) (by kernel_rfl) (by kernel_rfl) (fun _ _ _ h => h) (Or.inl ⟨by rfl, fun W hW => by have q0 := numA_four xs 10 ho (by omega); go_simp; exact IntWalk.i64_in _ (by omega)⟩) hS ?_
          try simp only [Act.put, List.setIfInBounds_toArray, List.set_cons_zero, List.set_cons_succ]
          refine wpAnyH_ready (rs := [9, 24]) (by kernel_rfl) (by simp) ?_
          refine AllReadyH.cons rfl (fun K hK => ?_) (AllReadyH.cons rfl (fun K hK => ?_) AllReadyH.nil)
          · go_simp
            go_at_call 33
            refine (number_any (some ⟨b0, off, none⟩) xs c 14 4 _ hl hc (by decide) (by omega) ho Hx0).mono ?_
            rintro e _ ⟨rfl, rfl⟩
            refine hK.out _ _ Hx0 (fun hS => ?_)
            clear hK K
            try simp only [Act.put, List.setIfInBounds_toArray, List.set_cons_zero, List.set_cons_succ]
            refine wpAnyH_take (i := 10) (oi := ⟨some 25, _, _, _, _, _⟩) (v := .int .i64 (numA xs 14 4)) rfl (by kernel_rfl) (by kernel_rfl) (by kernel_rfl) (fun _ _ _ h => h) (Or.inl ⟨by rfl, fun W hW => by have q0 := numA_four xs 14 ho (by omega); go_simp; exact IntWalk.i64_in _ (by omega)⟩) hS ?_
            try simp only [Act.put, List.setIfInBounds_toArray, List.set_cons_zero, List.set_cons_succ]
            refine wpAnyH_ready (rs := [12, 24]) (by kernel_rfl) (by simp) ?_
            refine AllReadyH.cons rfl (fun K hK => ?_) (AllReadyH.cons rfl (fun K hK => ?_) AllReadyH.nil)
            · go_simp
              go_at_call 33
              refine (number_any (some ⟨b0, off, none⟩) xs c 18 4 _ hl hc (by decide) (by omega) ho Hx0).mono ?_
              rintro e _ ⟨rfl, rfl⟩
              refine hK.out _ _ Hx0 (fun hS => ?_)
              clear hK K
              try simp only [Act.put, List.setIfInBounds_toArray, List.set_cons_zero, List.set_cons_succ]
              refine wpAnyH_take (i := 13) (oi := ⟨some 28, _, _, _, _, _⟩) (v := .int .i64 (numA xs 18 4)) rfl (by kernel_rfl) (by kernel_rfl) (by kernel_rfl) (fun _ _ _ h => h) (Or.inl ⟨by rfl, fun W hW => by have q0 := numA_four xs 18 ho (by omega); go_simp; exact IntWalk.i64_in _ (by omega)⟩) hS ?_
              try simp only [Act.put, List.setIfInBounds_toArray, List.set_cons_zero, List.set_cons_succ]
              refine wpAnyH_ready (rs := [16, 24]) (by kernel_rfl) (by simp) ?_
              refine AllReadyH.cons rfl (fun K hK => ?_) (AllReadyH.cons rfl (fun K hK => ?_) AllReadyH.nil)
              · go_simp
                go_at_call 34
                refine (digest_any b0 (off + 22) (xs.drop 22) (xs.length - 22) (c - 22) _ (by rw [List.length_drop]) (by omega) (by omega) (by omega) (holds_drop Hx0 22 (by omega))).mono ?_
                rintro e x1 ⟨rfl, h⟩
                have Hx1 : Holds x1 x1.heap.size .u8 (some ⟨b0, off, none⟩) xs := Holds.on Hx0 h
                have Mx1 : Block x1 w.heap.size 27 man0.cells.toArray := Block.below Mx0 h (Block.lt Mx0)
                have Bx1 : Below w.heap.size w x1 := Bx0.trans (h.mono Bx0.size)
                refine hK.out _ _ Hx1 (fun hS => ?_)
                clear hK K
                try simp only [Act.put, List.setIfInBounds_toArray, List.set_cons_zero, List.set_cons_succ]
                refine wpAnyH_ready (rs := [19, 24]) (by kernel_rfl) (by simp) ?_
                refine AllReadyH.cons rfl (fun K hK => ?_) (AllReadyH.cons rfl (fun K hK => ?_) AllReadyH.nil)
                · go_simp
                  go_at_call 34
                  refine (digest_any b0 (off + 54) (xs.drop 54) (xs.length - 54) (c - 54) _ (by rw [List.length_drop]) (by omega) (by omega) (by omega) (holds_drop Hx1 54 (by omega))).mono ?_
                  rintro e x2 ⟨rfl, h⟩
                  have Hx2 : Holds x2 x2.heap.size .u8 (some ⟨b0, off, none⟩) xs := Holds.on Hx1 h
                  have Mx2 : Block x2 w.heap.size 27 man0.cells.toArray := Block.below Mx1 h (Block.lt Mx1)
                  have Bx2 : Below w.heap.size w x2 := Bx1.trans (h.mono Bx1.size)
                  refine hK.out _ _ Hx2 (fun hS => ?_)
                  clear hK K
                  try simp only [Act.put, List.setIfInBounds_toArray, List.set_cons_zero, List.set_cons_succ]
                  refine wpAnyH_ready (rs := [22, 24]) (by kernel_rfl) (by simp) ?_
                  refine AllReadyH.cons rfl (fun K hK => ?_) (AllReadyH.cons rfl (fun K hK => ?_) AllReadyH.nil)
                  · go_simp
                    go_at_call 34
                    refine (digest_any b0 (off + 86) (xs.drop 86) (xs.length - 86) (c - 86) _ (by rw [List.length_drop]) (by omega) (by omega) (by omega) (holds_drop Hx2 86 (by omega))).mono ?_
                    rintro e x3 ⟨rfl, h⟩
                    have Hx3 : Holds x3 x3.heap.size .u8 (some ⟨b0, off, none⟩) xs := Holds.on Hx2 h
                    have Mx3 : Block x3 w.heap.size 27 man0.cells.toArray := Block.below Mx2 h (Block.lt Mx2)
                    have Bx3 : Below w.heap.size w x3 := Bx2.trans (h.mono Bx2.size)
                    refine hK.out _ _ Hx3 (fun hS => ?_)
                    clear hK K
                    try simp only [Act.put, List.setIfInBounds_toArray, List.set_cons_zero, List.set_cons_succ]
                    refine wpAnyH_take (i := 23) (oi := ⟨some 38, _, _, _, _, _⟩) (v := .agg (manN xs 0 none 0).cells.toArray) rfl (by kernel_rfl) (by kernel_rfl) (by kernel_rfl) (fun _ _ _ h => h) (yieldsIf_build (by rfl) _ _ rfl _ (fun W => by have hb := HBM.out W; simpa [Act.eval] using hb)) hS ?_
                    try simp only [Act.put, List.setIfInBounds_toArray, List.set_cons_zero, List.set_cons_succ]
                    refine wpAnyH_ready (rs := [24]) (by kernel_rfl) (by simp) ?_
                    refine AllReadyH.cons rfl (fun K hK => ?_) AllReadyH.nil
                    go_simp
                    have hgzx4 := Mx3.lt
                    have hgyx4 := Bx3.size
                    have h := below_last x3 (.cells man0.cells.toArray 27)
                    have new_Z : Block (x3.alloc (.cells man0.cells.toArray 27)) x3.heap.size 27 man0.cells.toArray := Block.new _ _ _
                    generalize hgen : x3.alloc (.cells man0.cells.toArray 27) = x4 at *
                    have Hx4 : Holds x4 x4.heap.size .u8 (some ⟨b0, off, none⟩) xs := Holds.on Hx3 h
                    have Mx4 : Block x4 w.heap.size 27 man0.cells.toArray := Block.below Mx3 h (Block.lt Mx3)
                    have Bx4 : Below w.heap.size w x4 := Bx3.trans (h.mono Bx3.size)
                    have Zx4 : Block x4 x3.heap.size 27 man0.cells.toArray := new_Z
                    clear hgen h new_Z
                    refine hK.out _ _ Hx4 (fun hS => ?_)
                    clear hK K
                    try simp only [Act.put, List.setIfInBounds_toArray, List.set_cons_zero, List.set_cons_succ]
                    refine wpAnyH_ready (rs := [25]) (by kernel_rfl) (by simp) ?_
                    refine AllReadyH.cons rfl (fun K hK => ?_) AllReadyH.nil
                    refine step_store_blk rfl _ _ _ rfl (ds := (manN xs 0 none 0).cells) Zx4 rfl rfl (by rw [List.size_toArray, HL0.out, HLN.out]) (by rw [HLN.out]; kernel_rfl) (manN xs 0 none 0).cells_one ?_
                    intro x5 Zx5 g9
                    have Mx5 := Block.grown Mx4 g9 (by intro e; injection e with e; omega)
                    have Bx5 := Bx4.trans (below_of_grown g9 Bx4.size fun b hb => by injection hb with hb; omega)
                    have Hx5 := (hr.below Bx5).more Bx5.size
                    refine hK.out _ _ Hx5 (fun hS => ?_)
                    clear hK K
                    try simp only [Act.put, List.setIfInBounds_toArray, List.set_cons_zero, List.set_cons_succ]
                    refine wpAnyH_done (by kernel_rfl) ?_ _
                    go_wp2_with fail
                    go_meet
                    exact ⟨_, rfl, Mx5, Zx5, Own.nil _ _ _ _, Bx5, by omega⟩
                  · go_simp
                    have hgzx3 := Mx2.lt
                    have hgyx3 := Bx2.size
                    have h := below_last x2 (.cells man0.cells.toArray 27)
                    have new_Z : Block (x2.alloc (.cells man0.cells.toArray 27)) x2.heap.size 27 man0.cells.toArray := Block.new _ _ _
                    generalize hgen : x2.alloc (.cells man0.cells.toArray 27) = x3 at *
                    have Hx3 : Holds x3 x3.heap.size .u8 (some ⟨b0, off, none⟩) xs := Holds.on Hx2 h
                    have Mx3 : Block x3 w.heap.size 27 man0.cells.toArray := Block.below Mx2 h (Block.lt Mx2)
                    have Bx3 : Below w.heap.size w x3 := Bx2.trans (h.mono Bx2.size)
                    have Zx3 : Block x3 x2.heap.size 27 man0.cells.toArray := new_Z
                    clear hgen h new_Z
                    refine hK.out _ _ Hx3 (fun hS => ?_)
                    clear hK K
                    try simp only [Act.put, List.setIfInBounds_toArray, List.set_cons_zero, List.set_cons_succ]
                    refine wpAnyH_ready (rs := [22]) (by kernel_rfl) (by simp) ?_
                    refine AllReadyH.cons rfl (fun K hK => ?_) AllReadyH.nil
                    go_simp
                    go_at_call 34
                    refine (digest_any b0 (off + 86) (xs.drop 86) (xs.length - 86) (c - 86) _ (by rw [List.length_drop]) (by omega) (by omega) (by omega) (holds_drop Hx3 86 (by omega))).mono ?_
                    rintro e x4 ⟨rfl, h⟩
                    have Hx4 : Holds x4 x4.heap.size .u8 (some ⟨b0, off, none⟩) xs := Holds.on Hx3 h
                    have Mx4 : Block x4 w.heap.size 27 man0.cells.toArray := Block.below Mx3 h (Block.lt Mx3)
                    have Bx4 : Below w.heap.size w x4 := Bx3.trans (h.mono Bx3.size)
                    have Zx4 : Block x4 x2.heap.size 27 man0.cells.toArray := Block.below Zx3 h (Block.lt Zx3)
                    refine hK.out _ _ Hx4 (fun hS => ?_)
                    clear hK K
                    try simp only [Act.put, List.setIfInBounds_toArray, List.set_cons_zero, List.set_cons_succ]
                    refine wpAnyH_take (i := 23) (oi := ⟨some 38, _, _, _, _, _⟩) (v := .agg (manN xs 0 none 0).cells.toArray) rfl (by kernel_rfl) (by kernel_rfl) (by kernel_rfl) (fun _ _ _ h => h) (yieldsIf_build (by rfl) _ _ rfl _ (fun W => by have hb := HBM.out W; simpa [Act.eval] using hb)) hS ?_
                    try simp only [Act.put, List.setIfInBounds_toArray, List.set_cons_zero, List.set_cons_succ]
                    refine wpAnyH_ready (rs := [25]) (by kernel_rfl) (by simp) ?_
                    refine AllReadyH.cons rfl (fun K hK => ?_) AllReadyH.nil
                    refine step_store_blk rfl _ _ _ rfl (ds := (manN xs 0 none 0).cells) Zx4 rfl rfl (by rw [List.size_toArray, HL0.out, HLN.out]) (by rw [HLN.out]; kernel_rfl) (manN xs 0 none 0).cells_one ?_
                    intro x5 Zx5 g9
                    have Mx5 := Block.grown Mx4 g9 (by intro e; injection e with e; omega)
                    have Bx5 := Bx4.trans (below_of_grown g9 Bx4.size fun b hb => by injection hb with hb; omega)
                    have Hx5 := (hr.below Bx5).more Bx5.size
                    refine hK.out _ _ Hx5 (fun hS => ?_)
                    clear hK K
                    try simp only [Act.put, List.setIfInBounds_toArray, List.set_cons_zero, List.set_cons_succ]
                    refine wpAnyH_done (by kernel_rfl) ?_ _
                    go_wp2_with fail
                    go_meet
                    exact ⟨_, rfl, Mx5, Zx5, Own.nil _ _ _ _, Bx5, by omega⟩
                · go_simp
                  have hgzx2 := Mx1.lt
                  have hgyx2 := Bx1.size
                  have h := below_last x1 (.cells man0.cells.toArray 27)
                  have new_Z : Block (x1.alloc (.cells man0.cells.toArray 27)) x1.heap.size 27 man0.cells.toArray := Block.new _ _ _
                  generalize hgen : x1.alloc (.cells man0.cells.toArray 27) = x2 at *
                  have Hx2 : Holds x2 x2.heap.size .u8 (some ⟨b0, off, none⟩) xs := Holds.on Hx1 h
                  have Mx2 : Block x2 w.heap.size 27 man0.cells.toArray := Block.below Mx1 h (Block.lt Mx1)
                  have Bx2 : Below w.heap.size w x2 := Bx1.trans (h.mono Bx1.size)
                  have Zx2 : Block x2 x1.heap.size 27 man0.cells.toArray := new_Z
                  clear hgen h new_Z
                  refine hK.out _ _ Hx2 (fun hS => ?_)
                  clear hK K
                  try simp only [Act.put, List.setIfInBounds_toArray, List.set_cons_zero, List.set_cons_succ]
                  refine wpAnyH_ready (rs := [19]) (by kernel_rfl) (by simp) ?_
                  refine AllReadyH.cons rfl (fun K hK => ?_) AllReadyH.nil
                  go_simp
                  go_at_call 34
                  refine (digest_any b0 (off + 54) (xs.drop 54) (xs.length - 54) (c - 54) _ (by rw [List.length_drop]) (by omega) (by omega) (by omega) (holds_drop Hx2 54 (by omega))).mono ?_
                  rintro e x3 ⟨rfl, h⟩
                  have Hx3 : Holds x3 x3.heap.size .u8 (some ⟨b0, off, none⟩) xs := Holds.on Hx2 h
                  have Mx3 : Block x3 w.heap.size 27 man0.cells.toArray := Block.below Mx2 h (Block.lt Mx2)
                  have Bx3 : Below w.heap.size w x3 := Bx2.trans (h.mono Bx2.size)
                  have Zx3 : Block x3 x1.heap.size 27 man0.cells.toArray := Block.below Zx2 h (Block.lt Zx2)
                  refine hK.out _ _ Hx3 (fun hS => ?_)
                  clear hK K
                  try simp only [Act.put, List.setIfInBounds_toArray, List.set_cons_zero, List.set_cons_succ]
                  refine wpAnyH_ready (rs := [22]) (by kernel_rfl) (by simp) ?_
                  refine AllReadyH.cons rfl (fun K hK => ?_) AllReadyH.nil
                  go_simp
                  go_at_call 34
                  refine (digest_any b0 (off + 86) (xs.drop 86) (xs.length - 86) (c - 86) _ (by rw [List.length_drop]) (by omega) (by omega) (by omega) (holds_drop Hx3 86 (by omega))).mono ?_
                  rintro e x4 ⟨rfl, h⟩
                  have Hx4 : Holds x4 x4.heap.size .u8 (some ⟨b0, off, none⟩) xs := Holds.on Hx3 h
                  have Mx4 : Block x4 w.heap.size 27 man0.cells.toArray := Block.below Mx3 h (Block.lt Mx3)
                  have Bx4 : Below w.heap.size w x4 := Bx3.trans (h.mono Bx3.size)
                  have Zx4 : Block x4 x1.heap.size 27 man0.cells.toArray := Block.below Zx3 h (Block.lt Zx3)
                  refine hK.out _ _ Hx4 (fun hS => ?_)
                  clear hK K
                  try simp only [Act.put, List.setIfInBounds_toArray, List.set_cons_zero, List.set_cons_succ]
                  refine wpAnyH_take (i := 23) (oi := ⟨some 38, _, _, _, _, _⟩) (v := .agg (manN xs 0 none 0).cells.toArray) rfl (by kernel_rfl) (by kernel_rfl) (by kernel_rfl) (fun _ _ _ h => h) (yieldsIf_build (by rfl) _ _ rfl _ (fun W => by have hb := HBM.out W; simpa [Act.eval] using hb)) hS ?_
                  try simp only [Act.put, List.setIfInBounds_toArray, List.set_cons_zero, List.set_cons_succ]
                  refine wpAnyH_ready (rs := [25]) (by kernel_rfl) (by simp) ?_
                  refine AllReadyH.cons rfl (fun K hK => ?_) AllReadyH.nil
                  refine step_store_blk rfl _ _ _ rfl (ds := (manN xs 0 none 0).cells) Zx4 rfl rfl (by rw [List.size_toArray, HL0.out, HLN.out]) (by rw [HLN.out]; kernel_rfl) (manN xs 0 none 0).cells_one ?_
                  intro x5 Zx5 g9
                  have Mx5 := Block.grown Mx4 g9 (by intro e; injection e with e; omega)
                  have Bx5 := Bx4.trans (below_of_grown g9 Bx4.size fun b hb => by injection hb with hb; omega)
                  have Hx5 := (hr.below Bx5).more Bx5.size
                  refine hK.out _ _ Hx5 (fun hS => ?_)
                  clear hK K
                  try simp only [Act.put, List.setIfInBounds_toArray, List.set_cons_zero, List.set_cons_succ]
                  refine wpAnyH_done (by kernel_rfl) ?_ _
                  go_wp2_with fail
                  go_meet
                  exact ⟨_, rfl, Mx5, Zx5, Own.nil _ _ _ _, Bx5, by omega⟩
              · go_simp
                have hgzx1 := Mx0.lt
                have hgyx1 := Bx0.size
                have h := below_last x0 (.cells man0.cells.toArray 27)
                have new_Z : Block (x0.alloc (.cells man0.cells.toArray 27)) x0.heap.size 27 man0.cells.toArray := Block.new _ _ _
                generalize hgen : x0.alloc (.cells man0.cells.toArray 27) = x1 at *
                have Hx1 : Holds x1 x1.heap.size .u8 (some ⟨b0, off, none⟩) xs := Holds.on Hx0 h
                have Mx1 : Block x1 w.heap.size 27 man0.cells.toArray := Block.below Mx0 h (Block.lt Mx0)
                have Bx1 : Below w.heap.size w x1 := Bx0.trans (h.mono Bx0.size)
                have Zx1 : Block x1 x0.heap.size 27 man0.cells.toArray := new_Z
                clear hgen h new_Z
                refine hK.out _ _ Hx1 (fun hS => ?_)
                clear hK K
                try simp only [Act.put, List.setIfInBounds_toArray, List.set_cons_zero, List.set_cons_succ]
                refine wpAnyH_ready (rs := [16]) (by kernel_rfl) (by simp) ?_
                refine AllReadyH.cons rfl (fun K hK => ?_) AllReadyH.nil
                go_simp
                go_at_call 34
                refine (digest_any b0 (off + 22) (xs.drop 22) (xs.length - 22) (c - 22) _ (by rw [List.length_drop]) (by omega) (by omega) (by omega) (holds_drop Hx1 22 (by omega))).mono ?_
                rintro e x2 ⟨rfl, h⟩
                have Hx2 : Holds x2 x2.heap.size .u8 (some ⟨b0, off, none⟩) xs := Holds.on Hx1 h
                have Mx2 : Block x2 w.heap.size 27 man0.cells.toArray := Block.below Mx1 h (Block.lt Mx1)
                have Bx2 : Below w.heap.size w x2 := Bx1.trans (h.mono Bx1.size)
                have Zx2 : Block x2 x0.heap.size 27 man0.cells.toArray := Block.below Zx1 h (Block.lt Zx1)
                refine hK.out _ _ Hx2 (fun hS => ?_)
                clear hK K
                try simp only [Act.put, List.setIfInBounds_toArray, List.set_cons_zero, List.set_cons_succ]
                refine wpAnyH_ready (rs := [19]) (by kernel_rfl) (by simp) ?_
                refine AllReadyH.cons rfl (fun K hK => ?_) AllReadyH.nil
                go_simp
                go_at_call 34
                refine (digest_any b0 (off + 54) (xs.drop 54) (xs.length - 54) (c - 54) _ (by rw [List.length_drop]) (by omega) (by omega) (by omega) (holds_drop Hx2 54 (by omega))).mono ?_
                rintro e x3 ⟨rfl, h⟩
                have Hx3 : Holds x3 x3.heap.size .u8 (some ⟨b0, off, none⟩) xs := Holds.on Hx2 h
                have Mx3 : Block x3 w.heap.size 27 man0.cells.toArray := Block.below Mx2 h (Block.lt Mx2)
                have Bx3 : Below w.heap.size w x3 := Bx2.trans (h.mono Bx2.size)
                have Zx3 : Block x3 x0.heap.size 27 man0.cells.toArray := Block.below Zx2 h (Block.lt Zx2)
                refine hK.out _ _ Hx3 (fun hS => ?_)
                clear hK K
                try simp only [Act.put, List.setIfInBounds_toArray, List.set_cons_zero, List.set_cons_succ]
                refine wpAnyH_ready (rs := [22]) (by kernel_rfl) (by simp) ?_
                refine AllReadyH.cons rfl (fun K hK => ?_) AllReadyH.nil
                go_simp
                go_at_call 34
                refine (digest_any b0 (off + 86) (xs.drop 86) (xs.length - 86) (c - 86) _ (by rw [List.length_drop]) (by omega) (by omega) (by omega) (holds_drop Hx3 86 (by omega))).mono ?_
                rintro e x4 ⟨rfl, h⟩
                have Hx4 : Holds x4 x4.heap.size .u8 (some ⟨b0, off, none⟩) xs := Holds.on Hx3 h
                have Mx4 : Block x4 w.heap.size 27 man0.cells.toArray := Block.below Mx3 h (Block.lt Mx3)
                have Bx4 : Below w.heap.size w x4 := Bx3.trans (h.mono Bx3.size)
                have Zx4 : Block x4 x0.heap.size 27 man0.cells.toArray := Block.below Zx3 h (Block.lt Zx3)
                refine hK.out _ _ Hx4 (fun hS => ?_)
                clear hK K
                try simp only [Act.put, List.setIfInBounds_toArray, List.set_cons_zero, List.set_cons_succ]
                refine wpAnyH_take (i := 23) (oi := ⟨some 38, _, _, _, _, _⟩) (v := .agg (manN xs 0 none 0).cells.toArray) rfl (by kernel_rfl) (by kernel_rfl) (by kernel_rfl) (fun _ _ _ h => h) (yieldsIf_build (by rfl) _ _ rfl _ (fun W => by have hb := HBM.out W; simpa [Act.eval] using hb)) hS ?_
                try simp only [Act.put, List.setIfInBounds_toArray, List.set_cons_zero, List.set_cons_succ]
                refine wpAnyH_ready (rs := [25]) (by kernel_rfl) (by simp) ?_
                refine AllReadyH.cons rfl (fun K hK => ?_) AllReadyH.nil
                refine step_store_blk rfl _ _ _ rfl (ds := (manN xs 0 none 0).cells) Zx4 rfl rfl (by rw [List.size_toArray, HL0.out, HLN.out]) (by rw [HLN.out]; kernel_rfl) (manN xs 0 none 0).cells_one ?_
                intro x5 Zx5 g9
                have Mx5 := Block.grown Mx4 g9 (by intro e; injection e with e; omega)
                have Bx5 := Bx4.trans (below_of_grown g9 Bx4.size fun b hb => by injection hb with hb; omega)
                have Hx5 := (hr.below Bx5).more Bx5.size
                refine hK.out _ _ Hx5 (fun hS => ?_)
                clear hK K
                try simp only [Act.put, List.setIfInBounds_toArray, List.set_cons_zero, List.set_cons_succ]
                refine wpAnyH_done (by kernel_rfl) ?_ _
                go_wp2_with fail
                go_meet
                exact ⟨_, rfl, Mx5, Zx5, Own.nil _ _ _ _, Bx5, by omega⟩
            · go_simp
              have hgzx1 := Mx0.lt
              have hgyx1 := Bx0.size
              have h := below_last x0 (.cells man0.cells.toArray 27)
              have new_Z : Block (x0.alloc (.cells man0.cells.toArray 27)) x0.heap.size 27 man0.cells.toArray := Block.new _ _ _
              generalize hgen : x0.alloc (.cells man0.cells.toArray 27) = x1 at *
              have Hx1 : Holds x1 x1.heap.size .u8 (some ⟨b0, off, none⟩) xs := Holds.on Hx0 h
              have Mx1 : Block x1 w.heap.size 27 man0.cells.toArray := Block.below Mx0 h (Block.lt Mx0)
              have Bx1 : Below w.heap.size w x1 := Bx0.trans (h.mono Bx0.size)
              have Zx1 : Block x1 x0.heap.size 27 man0.cells.toArray := new_Z
              clear hgen h new_Z
              refine hK.out _ _ Hx1 (fun hS => ?_)
              clear hK K
              try simp only [Act.put, List.setIfInBounds_toArray, List.set_cons_zero, List.set_cons_succ]
              refine wpAnyH_ready (rs := [12]) (by kernel_rfl) (by simp) ?_
              refine AllReadyH.cons rfl (fun K hK => ?_) AllReadyH.nil
              go_simp
              go_at_call 33
              refine (number_any (some ⟨b0, off, none⟩) xs c 18 4 _ hl hc (by decide) (by omega) ho Hx1).mono ?_
              rintro e _ ⟨rfl, rfl⟩
              refine hK.out _ _ Hx1 (fun hS => ?_)
              clear hK K
              try simp only [Act.put, List.setIfInBounds_toArray, List.set_cons_zero, List.set_cons_succ]
              refine wpAnyH_take (i := 13) (oi := ⟨some 28, _, _, _, _, _⟩) (v := .int .i64 (numA xs 18 4)) rfl (by kernel_rfl) (by kernel_rfl) (by kernel_rfl) (fun _ _ _ h => h) (Or.inl ⟨by rfl, fun W hW => by have q0 := numA_four xs 18 ho (by omega); go_simp; exact IntWalk.i64_in _ (by omega)⟩) hS ?_
              try simp only [Act.put, List.setIfInBounds_toArray, List.set_cons_zero, List.set_cons_succ]
              refine wpAnyH_ready (rs := [16]) (by kernel_rfl) (by simp) ?_
              refine AllReadyH.cons rfl (fun K hK => ?_) AllReadyH.nil
              go_simp
              go_at_call 34
              refine (digest_any b0 (off + 22) (xs.drop 22) (xs.length - 22) (c - 22) _ (by rw [List.length_drop]) (by omega) (by omega) (by omega) (holds_drop Hx1 22 (by omega))).mono ?_
              rintro e x2 ⟨rfl, h⟩
              have Hx2 : Holds x2 x2.heap.size .u8 (some ⟨b0, off, none⟩) xs := Holds.on Hx1 h
              have Mx2 : Block x2 w.heap.size 27 man0.cells.toArray := Block.below Mx1 h (Block.lt Mx1)
              have Bx2 : Below w.heap.size w x2 := Bx1.trans (h.mono Bx1.size)
              have Zx2 : Block x2 x0.heap.size 27 man0.cells.toArray := Block.below Zx1 h (Block.lt Zx1)
              refine hK.out _ _ Hx2 (fun hS => ?_)
              clear hK K
              try simp only [Act.put, List.setIfInBounds_toArray, List.set_cons_zero, List.set_cons_succ]
              refine wpAnyH_ready (rs := [19]) (by kernel_rfl) (by simp) ?_
              refine AllReadyH.cons rfl (fun K hK => ?_) AllReadyH.nil
              go_simp
              go_at_call 34
              refine (digest_any b0 (off + 54) (xs.drop 54) (xs.length - 54) (c - 54) _ (by rw [List.length_drop]) (by omega) (by omega) (by omega) (holds_drop Hx2 54 (by omega))).mono ?_
              rintro e x3 ⟨rfl, h⟩
              have Hx3 : Holds x3 x3.heap.size .u8 (some ⟨b0, off, none⟩) xs := Holds.on Hx2 h
              have Mx3 : Block x3 w.heap.size 27 man0.cells.toArray := Block.below Mx2 h (Block.lt Mx2)
              have Bx3 : Below w.heap.size w x3 := Bx2.trans (h.mono Bx2.size)
              have Zx3 : Block x3 x0.heap.size 27 man0.cells.toArray := Block.below Zx2 h (Block.lt Zx2)
              refine hK.out _ _ Hx3 (fun hS => ?_)
              clear hK K
              try simp only [Act.put, List.setIfInBounds_toArray, List.set_cons_zero, List.set_cons_succ]
              refine wpAnyH_ready (rs := [22]) (by kernel_rfl) (by simp) ?_
              refine AllReadyH.cons rfl (fun K hK => ?_) AllReadyH.nil
              go_simp
              go_at_call 34
              refine (digest_any b0 (off + 86) (xs.drop 86) (xs.length - 86) (c - 86) _ (by rw [List.length_drop]) (by omega) (by omega) (by omega) (holds_drop Hx3 86 (by omega))).mono ?_
              rintro e x4 ⟨rfl, h⟩
              have Hx4 : Holds x4 x4.heap.size .u8 (some ⟨b0, off, none⟩) xs := Holds.on Hx3 h
              have Mx4 : Block x4 w.heap.size 27 man0.cells.toArray := Block.below Mx3 h (Block.lt Mx3)
              have Bx4 : Below w.heap.size w x4 := Bx3.trans (h.mono Bx3.size)
              have Zx4 : Block x4 x0.heap.size 27 man0.cells.toArray := Block.below Zx3 h (Block.lt Zx3)
              refine hK.out _ _ Hx4 (fun hS => ?_)
              clear hK K
              try simp only [Act.put, List.setIfInBounds_toArray, List.set_cons_zero, List.set_cons_succ]
              refine wpAnyH_take (i := 23) (oi := ⟨some 38, _, _, _, _, _⟩) (v := .agg (manN xs 0 none 0).cells.toArray) rfl (by kernel_rfl) (by kernel_rfl) (by kernel_rfl) (fun _ _ _ h => h) (yieldsIf_build (by rfl) _ _ rfl _ (fun W => by have hb := HBM.out W; simpa [Act.eval] using hb)) hS ?_
              try simp only [Act.put, List.setIfInBounds_toArray, List.set_cons_zero, List.set_cons_succ]
              refine wpAnyH_ready (rs := [25]) (by kernel_rfl) (by simp) ?_
              refine AllReadyH.cons rfl (fun K hK => ?_) AllReadyH.nil
              refine step_store_blk rfl _ _ _ rfl (ds := (manN xs 0 none 0).cells) Zx4 rfl rfl (by rw [List.size_toArray, HL0.out, HLN.out]) (by rw [HLN.out]; kernel_rfl) (manN xs 0 none 0).cells_one ?_
              intro x5 Zx5 g9
              have Mx5 := Block.grown Mx4 g9 (by intro e; injection e with e; omega)
              have Bx5 := Bx4.trans (below_of_grown g9 Bx4.size fun b hb => by injection hb with hb; omega)
              have Hx5 := (hr.below Bx5).more Bx5.size
              refine hK.out _ _ Hx5 (fun hS => ?_)
              clear hK K
              try simp only [Act.put, List.setIfInBounds_toArray, List.set_cons_zero, List.set_cons_succ]
              refine wpAnyH_done (by kernel_rfl) ?_ _
              go_wp2_with fail
              go_meet
              exact ⟨_, rfl, Mx5, Zx5, Own.nil _ _ _ _, Bx5, by omega⟩
          · go_simp
            have hgzx1 := Mx0.lt
            have hgyx1 := Bx0.size
            have h := below_last x0 (.cells man0.cells.toArray 27)
            have new_Z : Block (x0.alloc (.cells man0.cells.toArray 27)) x0.heap.size 27 man0.cells.toArray := Block.new _ _ _
            generalize hgen : x0.alloc (.cells man0.cells.toArray 27) = x1 at *
            have Hx1 : Holds x1 x1.heap.size .u8 (some ⟨b0, off, none⟩) xs := Holds.on Hx0 h
            have Mx1 : Block x1 w.heap.size 27 man0.cells.toArray := Block.below Mx0 h (Block.lt Mx0)
            have Bx1 : Below w.heap.size w x1 := Bx0.trans (h.mono Bx0.size)
            have Zx1 : Block x1 x0.heap.size 27 man0.cells.toArray := new_Z
            clear hgen h new_Z
            refine hK.out _ _ Hx1 (fun hS => ?_)
            clear hK K
            try simp only [Act.put, List.setIfInBounds_toArray, List.set_cons_zero, List.set_cons_succ]
            refine wpAnyH_ready (rs := [9]) (by kernel_rfl) (by simp) ?_
            refine AllReadyH.cons rfl (fun K hK => ?_) AllReadyH.nil
            go_simp
            go_at_call 33
            refine (number_any (some ⟨b0, off, none⟩) xs c 14 4 _ hl hc (by decide) (by omega) ho Hx1).mono ?_
            rintro e _ ⟨rfl, rfl⟩
            refine hK.out _ _ Hx1 (fun hS => ?_)
            clear hK K
            try simp only [Act.put, List.setIfInBounds_toArray, List.set_cons_zero, List.set_cons_succ]
            refine wpAnyH_take (i := 10) (oi := ⟨some 25, _, _, _, _, _⟩) (v := .int .i64 (numA xs 14 4)) rfl (by kernel_rfl) (by kernel_rfl) (by kernel_rfl) (fun _ _ _ h => h) (Or.inl ⟨by rfl, fun W hW => by have q0 := numA_four xs 14 ho (by omega); go_simp; exact IntWalk.i64_in _ (by omega)⟩) hS ?_
            try simp only [Act.put, List.setIfInBounds_toArray, List.set_cons_zero, List.set_cons_succ]
            refine wpAnyH_ready (rs := [12]) (by kernel_rfl) (by simp) ?_
            refine AllReadyH.cons rfl (fun K hK => ?_) AllReadyH.nil
            go_simp
            go_at_call 33
            refine (number_any (some ⟨b0, off, none⟩) xs c 18 4 _ hl hc (by decide) (by omega) ho Hx1).mono ?_
            rintro e _ ⟨rfl, rfl⟩
            refine hK.out _ _ Hx1 (fun hS => ?_)
            clear hK K
            try simp only [Act.put, List.setIfInBounds_toArray, List.set_cons_zero, List.set_cons_succ]
            refine wpAnyH_take (i := 13) (oi := ⟨some 28, _, _, _, _, _⟩) (v := .int .i64 (numA xs 18 4)) rfl (by kernel_rfl) (by kernel_rfl) (by kernel_rfl) (fun _ _ _ h => h) (Or.inl ⟨by rfl, fun W hW => by have q0 := numA_four xs 18 ho (by omega); go_simp; exact IntWalk.i64_in _ (by omega)⟩) hS ?_
            try simp only [Act.put, List.setIfInBounds_toArray, List.set_cons_zero, List.set_cons_succ]
            refine wpAnyH_ready (rs := [16]) (by kernel_rfl) (by simp) ?_
            refine AllReadyH.cons rfl (fun K hK => ?_) AllReadyH.nil
            go_simp
            go_at_call 34
            refine (digest_any b0 (off + 22) (xs.drop 22) (xs.length - 22) (c - 22) _ (by rw [List.length_drop]) (by omega) (by omega) (by omega) (holds_drop Hx1 22 (by omega))).mono ?_
            rintro e x2 ⟨rfl, h⟩
            have Hx2 : Holds x2 x2.heap.size .u8 (some ⟨b0, off, none⟩) xs := Holds.on Hx1 h
            have Mx2 : Block x2 w.heap.size 27 man0.cells.toArray := Block.below Mx1 h (Block.lt Mx1)
            have Bx2 : Below w.heap.size w x2 := Bx1.trans (h.mono Bx1.size)
            have Zx2 : Block x2 x0.heap.size 27 man0.cells.toArray := Block.below Zx1 h (Block.lt Zx1)
            refine hK.out _ _ Hx2 (fun hS => ?_)
            clear hK K
            try simp only [Act.put, List.setIfInBounds_toArray, List.set_cons_zero, List.set_cons_succ]
            refine wpAnyH_ready (rs := [19]) (by kernel_rfl) (by simp) ?_
            refine AllReadyH.cons rfl (fun K hK => ?_) AllReadyH.nil
            go_simp
            go_at_call 34
            refine (digest_any b0 (off + 54) (xs.drop 54) (xs.length - 54) (c - 54) _ (by rw [List.length_drop]) (by omega) (by omega) (by omega) (holds_drop Hx2 54 (by omega))).mono ?_
            rintro e x3 ⟨rfl, h⟩
            have Hx3 : Holds x3 x3.heap.size .u8 (some ⟨b0, off, none⟩) xs := Holds.on Hx2 h
            have Mx3 : Block x3 w.heap.size 27 man0.cells.toArray := Block.below Mx2 h (Block.lt Mx2)
            have Bx3 : Below w.heap.size w x3 := Bx2.trans (h.mono Bx2.size)
            have Zx3 : Block x3 x0.heap.size 27 man0.cells.toArray := Block.below Zx2 h (Block.lt Zx2)
            refine hK.out _ _ Hx3 (fun hS => ?_)
            clear hK K
            try simp only [Act.put, List.setIfInBounds_toArray, List.set_cons_zero, List.set_cons_succ]
            refine wpAnyH_ready (rs := [22]) (by kernel_rfl) (by simp) ?_
            refine AllReadyH.cons rfl (fun K hK => ?_) AllReadyH.nil
            go_simp
            go_at_call 34
            refine (digest_any b0 (off + 86) (xs.drop 86) (xs.length - 86) (c - 86) _ (by rw [List.length_drop]) (by omega) (by omega) (by omega) (holds_drop Hx3 86 (by omega))).mono ?_
            rintro e x4 ⟨rfl, h⟩
            have Hx4 : Holds x4 x4.heap.size .u8 (some ⟨b0, off, none⟩) xs := Holds.on Hx3 h
            have Mx4 : Block x4 w.heap.size 27 man0.cells.toArray := Block.below Mx3 h (Block.lt Mx3)
            have Bx4 : Below w.heap.size w x4 := Bx3.trans (h.mono Bx3.size)
            have Zx4 : Block x4 x0.heap.size 27 man0.cells.toArray := Block.below Zx3 h (Block.lt Zx3)
            refine hK.out _ _ Hx4 (fun hS => ?_)
            clear hK K
            try simp only [Act.put, List.setIfInBounds_toArray, List.set_cons_zero, List.set_cons_succ]
            refine wpAnyH_take (i := 23) (oi := ⟨some 38, _, _, _, _, _⟩) (v := .agg (manN xs 0 none 0).cells.toArray) rfl (by kernel_rfl) (by kernel_rfl) (by kernel_rfl) (fun _ _ _ h => h) (yieldsIf_build (by rfl) _ _ rfl _ (fun W => by have hb := HBM.out W; simpa [Act.eval] using hb)) hS ?_
            try simp only [Act.put, List.setIfInBounds_toArray, List.set_cons_zero, List.set_cons_succ]
            refine wpAnyH_ready (rs := [25]) (by kernel_rfl) (by simp) ?_
            refine AllReadyH.cons rfl (fun K hK => ?_) AllReadyH.nil
            refine step_store_blk rfl _ _ _ rfl (ds := (manN xs 0 none 0).cells) Zx4 rfl rfl (by rw [List.size_toArray, HL0.out, HLN.out]) (by rw [HLN.out]; kernel_rfl) (manN xs 0 none 0).cells_one ?_
            intro x5 Zx5 g9
            have Mx5 := Block.grown Mx4 g9 (by intro e; injection e with e; omega)
            have Bx5 := Bx4.trans (below_of_grown g9 Bx4.size fun b hb => by injection hb with hb; omega)
            have Hx5 := (hr.below Bx5).more Bx5.size
            refine hK.out _ _ Hx5 (fun hS => ?_)
            clear hK K
            try simp only [Act.put, List.setIfInBounds_toArray, List.set_cons_zero, List.set_cons_succ]
            refine wpAnyH_done (by kernel_rfl) ?_ _
            go_wp2_with fail
            go_meet
            exact ⟨_, rfl, Mx5, Zx5, Own.nil _ _ _ _, Bx5, by omega⟩
        · go_simp
          have hgzx1 := Mx0.lt
          have hgyx1 := Bx0.size
          have h := below_last x0 (.cells man0.cells.toArray 27)
          have new_Z : Block (x0.alloc (.cells man0.cells.toArray 27)) x0.heap.size 27 man0.cells.toArray := Block.new _ _ _
          generalize hgen : x0.alloc (.cells man0.cells.toArray 27) = x1 at *
          have Hx1 : Holds x1 x1.heap.size .u8 (some ⟨b0, off, none⟩) xs := Holds.on Hx0 h
          have Mx1 : Block x1 w.heap.size 27 man0.cells.toArray := Block.below Mx0 h (Block.lt Mx0)
          have Bx1 : Below w.heap.size w x1 := Bx0.trans (h.mono Bx0.size)
          have Zx1 : Block x1 x0.heap.size 27 man0.cells.toArray := new_Z
          clear hgen h new_Z
          refine hK.out _ _ Hx1 (fun hS => ?_)
          clear hK K
          try simp only [Act.put, List.setIfInBounds_toArray, List.set_cons_zero, List.set_cons_succ]
          refine wpAnyH_ready (rs := [6]) (by kernel_rfl) (by simp) ?_
          refine AllReadyH.cons rfl (fun K hK => ?_) AllReadyH.nil
          go_simp
          go_at_call 33
          refine (number_any (some ⟨b0, off, none⟩) xs c 10 4 _ hl hc (by decide) (by omega) ho Hx1).mono ?_
          rintro e _ ⟨rfl, rfl⟩
          refine hK.out _ _ Hx1 (fun hS => ?_)
          clear hK K
          try simp only [Act.put, List.setIfInBounds_toArray, List.set_cons_zero, List.set_cons_succ]
          refine wpAnyH_take (i := 7) (oi := ⟨some 22, _, _, _, _, _⟩) (v := .int .i64 (numA xs 10 4)) rfl (by kernel_rfl) (by kernel_rfl) (by kernel_rfl) (fun _ _ _ h => h) (Or.inl ⟨by rfl, fun W hW => by have q0 := numA_four xs 10 ho (by omega); go_simp; exact IntWalk.i64_in _ (by omega)⟩) hS ?_
          try simp only [Act.put, List.setIfInBounds_toArray, List.set_cons_zero, List.set_cons_succ]
          refine wpAnyH_ready (rs := [9]) (by kernel_rfl) (by simp) ?_
          refine AllReadyH.cons rfl (fun K hK => ?_) AllReadyH.nil
          go_simp
          go_at_call 33
          refine (number_any (some ⟨b0, off, none⟩) xs c 14 4 _ hl hc (by decide) (by omega) ho Hx1).mono ?_
          rintro e _ ⟨rfl, rfl⟩
          refine hK.out _ _ Hx1 (fun hS => ?_)
          clear hK K
          try simp only [Act.put, List.setIfInBounds_toArray, List.set_cons_zero, List.set_cons_succ]
          refine wpAnyH_take (i := 10) (oi := ⟨some 25, _, _, _, _, _⟩) (v := .int .i64 (numA xs 14 4)) rfl (by kernel_rfl) (by kernel_rfl) (by kernel_rfl) (fun _ _ _ h => h) (Or.inl ⟨by rfl, fun W hW => by have q0 := numA_four xs 14 ho (by omega); go_simp; exact IntWalk.i64_in _ (by omega)⟩) hS ?_
          try simp only [Act.put, List.setIfInBounds_toArray, List.set_cons_zero, List.set_cons_succ]
          refine wpAnyH_ready (rs := [12]) (by kernel_rfl) (by simp) ?_
          refine AllReadyH.cons rfl (fun K hK => ?_) AllReadyH.nil
          go_simp
          go_at_call 33
          refine (number_any (some ⟨b0, off, none⟩) xs c 18 4 _ hl hc (by decide) (by omega) ho Hx1).mono ?_
          rintro e _ ⟨rfl, rfl⟩
          refine hK.out _ _ Hx1 (fun hS => ?_)
          clear hK K
          try simp only [Act.put, List.setIfInBounds_toArray, List.set_cons_zero, List.set_cons_succ]
          refine wpAnyH_take (i := 13) (oi := ⟨some 28, _, _, _, _, _⟩) (v := .int .i64 (numA xs 18 4)) rfl (by kernel_rfl) (by kernel_rfl) (by kernel_rfl) (fun _ _ _ h => h) (Or.inl ⟨by rfl, fun W hW => by have q0 := numA_four xs 18 ho (by omega); go_simp; exact IntWalk.i64_in _ (by omega)⟩) hS ?_
          try simp only [Act.put, List.setIfInBounds_toArray, List.set_cons_zero, List.set_cons_succ]
          refine wpAnyH_ready (rs := [16]) (by kernel_rfl) (by simp) ?_
          refine AllReadyH.cons rfl (fun K hK => ?_) AllReadyH.nil
          go_simp
          go_at_call 34
          refine (digest_any b0 (off + 22) (xs.drop 22) (xs.length - 22) (c - 22) _ (by rw [List.length_drop]) (by omega) (by omega) (by omega) (holds_drop Hx1 22 (by omega))).mono ?_
          rintro e x2 ⟨rfl, h⟩
          have Hx2 : Holds x2 x2.heap.size .u8 (some ⟨b0, off, none⟩) xs := Holds.on Hx1 h
          have Mx2 : Block x2 w.heap.size 27 man0.cells.toArray := Block.below Mx1 h (Block.lt Mx1)
          have Bx2 : Below w.heap.size w x2 := Bx1.trans (h.mono Bx1.size)
          have Zx2 : Block x2 x0.heap.size 27 man0.cells.toArray := Block.below Zx1 h (Block.lt Zx1)
          refine hK.out _ _ Hx2 (fun hS => ?_)
          clear hK K
          try simp only [Act.put, List.setIfInBounds_toArray, List.set_cons_zero, List.set_cons_succ]
          refine wpAnyH_ready (rs := [19]) (by kernel_rfl) (by simp) ?_
          refine AllReadyH.cons rfl (fun K hK => ?_) AllReadyH.nil
          go_simp
          go_at_call 34
          refine (digest_any b0 (off + 54) (xs.drop 54) (xs.length - 54) (c - 54) _ (by rw [List.length_drop]) (by omega) (by omega) (by omega) (holds_drop Hx2 54 (by omega))).mono ?_
          rintro e x3 ⟨rfl, h⟩
          have Hx3 : Holds x3 x3.heap.size .u8 (some ⟨b0, off, none⟩) xs := Holds.on Hx2 h
          have Mx3 : Block x3 w.heap.size 27 man0.cells.toArray := Block.below Mx2 h (Block.lt Mx2)
          have Bx3 : Below w.heap.size w x3 := Bx2.trans (h.mono Bx2.size)
          have Zx3 : Block x3 x0.heap.size 27 man0.cells.toArray := Block.below Zx2 h (Block.lt Zx2)
          refine hK.out _ _ Hx3 (fun hS => ?_)
          clear hK K
          try simp only [Act.put, List.setIfInBounds_toArray, List.set_cons_zero, List.set_cons_succ]
          refine wpAnyH_ready (rs := [22]) (by kernel_rfl) (by simp) ?_
          refine AllReadyH.cons rfl (fun K hK => ?_) AllReadyH.nil
          go_simp
          go_at_call 34
          refine (digest_any b0 (off + 86) (xs.drop 86) (xs.length - 86) (c - 86) _ (by rw [List.length_drop]) (by omega) (by omega) (by omega) (holds_drop Hx3 86 (by omega))).mono ?_
          rintro e x4 ⟨rfl, h⟩
          have Hx4 : Holds x4 x4.heap.size .u8 (some ⟨b0, off, none⟩) xs := Holds.on Hx3 h
          have Mx4 : Block x4 w.heap.size 27 man0.cells.toArray := Block.below Mx3 h (Block.lt Mx3)
          have Bx4 : Below w.heap.size w x4 := Bx3.trans (h.mono Bx3.size)
          have Zx4 : Block x4 x0.heap.size 27 man0.cells.toArray := Block.below Zx3 h (Block.lt Zx3)
          refine hK.out _ _ Hx4 (fun hS => ?_)
          clear hK K
          try simp only [Act.put, List.setIfInBounds_toArray, List.set_cons_zero, List.set_cons_succ]
          refine wpAnyH_take (i := 23) (oi := ⟨some 38, _, _, _, _, _⟩) (v := .agg (manN xs 0 none 0).cells.toArray) rfl (by kernel_rfl) (by kernel_rfl) (by kernel_rfl) (fun _ _ _ h => h) (yieldsIf_build (by rfl) _ _ rfl _ (fun W => by have hb := HBM.out W; simpa [Act.eval] using hb)) hS ?_
          try simp only [Act.put, List.setIfInBounds_toArray, List.set_cons_zero, List.set_cons_succ]
          refine wpAnyH_ready (rs := [25]) (by kernel_rfl) (by simp) ?_
          refine AllReadyH.cons rfl (fun K hK => ?_) AllReadyH.nil
          refine step_store_blk rfl _ _ _ rfl (ds := (manN xs 0 none 0).cells) Zx4 rfl rfl (by rw [List.size_toArray, HL0.out, HLN.out]) (by rw [HLN.out]; kernel_rfl) (manN xs 0 none 0).cells_one ?_
          intro x5 Zx5 g9
          have Mx5 := Block.grown Mx4 g9 (by intro e; injection e with e; omega)
          have Bx5 := Bx4.trans (below_of_grown g9 Bx4.size fun b hb => by injection hb with hb; omega)
          have Hx5 := (hr.below Bx5).more Bx5.size
          refine hK.out _ _ Hx5 (fun hS => ?_)
          clear hK K
          try simp only [Act.put, List.setIfInBounds_toArray, List.set_cons_zero, List.set_cons_succ]
          refine wpAnyH_done (by kernel_rfl) ?_ _
          go_wp2_with fail
          go_meet
          exact ⟨_, rfl, Mx5, Zx5, Own.nil _ _ _ _, Bx5, by omega⟩
      · go_simp
        have hgzx1 := Mx0.lt
        have hgyx1 := Bx0.size
        have h := below_last x0 (.cells man0.cells.toArray 27)
        have new_Z : Block (x0.alloc (.cells man0.cells.toArray 27)) x0.heap.size 27 man0.cells.toArray := Block.new _ _ _
        generalize hgen : x0.alloc (.cells man0.cells.toArray 27) = x1 at *
        have Hx1 : Holds x1 x1.heap.size .u8 (some ⟨b0, off, none⟩) xs := Holds.on Hx0 h
        have Mx1 : Block x1 w.heap.size 27 man0.cells.toArray := Block.below Mx0 h (Block.lt Mx0)
        have Bx1 : Below w.heap.size w x1 := Bx0.trans (h.mono Bx0.size)
        have Zx1 : Block x1 x0.heap.size 27 man0.cells.toArray := new_Z
        clear hgen h new_Z
        refine hK.out _ _ Hx1 (fun hS => ?_)
        clear hK K
        try simp only [Act.put, List.setIfInBounds_toArray, List.set_cons_zero, List.set_cons_succ]
        refine wpAnyH_ready (rs := [4]) (by kernel_rfl) (by simp) ?_
        refine AllReadyH.cons rfl (fun K hK => ?_) AllReadyH.nil
        go_simp
        go_at_call 33
        refine (number_any (some ⟨b0, off, none⟩) xs c 2 8 _ hl hc (by decide) (by omega) ho Hx1).mono ?_
        rintro e _ ⟨rfl, rfl⟩
        refine hK.out _ _ Hx1 (fun hS => ?_)
        clear hK K
        try simp only [Act.put, List.setIfInBounds_toArray, List.set_cons_zero, List.set_cons_succ]
        refine wpAnyH_ready (rs := [6]) (by kernel_rfl) (by simp) ?_
        refine AllReadyH.cons rfl (fun K hK => ?_) AllReadyH.nil
        go_simp
        go_at_call 33
        refine (number_any (some ⟨b0, off, none⟩) xs c 10 4 _ hl hc (by decide) (by omega) ho Hx1).mono ?_
        rintro e _ ⟨rfl, rfl⟩
        refine hK.out _ _ Hx1 (fun hS => ?_)
        clear hK K
        try simp only [Act.put, List.setIfInBounds_toArray, List.set_cons_zero, List.set_cons_succ]
        refine wpAnyH_take (i := 7) (oi := ⟨some 22, _, _, _, _, _⟩) (v := .int .i64 (numA xs 10 4)) rfl (by kernel_rfl) (by kernel_rfl) (by kernel_rfl) (fun _ _ _ h => h) (Or.inl ⟨by rfl, fun W hW => by have q0 := numA_four xs 10 ho (by omega); go_simp; exact IntWalk.i64_in _ (by omega)⟩) hS ?_
        try simp only [Act.put, List.setIfInBounds_toArray, List.set_cons_zero, List.set_cons_succ]
        refine wpAnyH_ready (rs := [9]) (by kernel_rfl) (by simp) ?_
        refine AllReadyH.cons rfl (fun K hK => ?_) AllReadyH.nil
        go_simp
        go_at_call 33
        refine (number_any (some ⟨b0, off, none⟩) xs c 14 4 _ hl hc (by decide) (by omega) ho Hx1).mono ?_
        rintro e _ ⟨rfl, rfl⟩
        refine hK.out _ _ Hx1 (fun hS => ?_)
        clear hK K
        try simp only [Act.put, List.setIfInBounds_toArray, List.set_cons_zero, List.set_cons_succ]
        refine wpAnyH_take (i := 10) (oi := ⟨some 25, _, _, _, _, _⟩) (v := .int .i64 (numA xs 14 4)) rfl (by kernel_rfl) (by kernel_rfl) (by kernel_rfl) (fun _ _ _ h => h) (Or.inl ⟨by rfl, fun W hW => by have q0 := numA_four xs 14 ho (by omega); go_simp; exact IntWalk.i64_in _ (by omega)⟩) hS ?_
        try simp only [Act.put, List.setIfInBounds_toArray, List.set_cons_zero, List.set_cons_succ]
        refine wpAnyH_ready (rs := [12]) (by kernel_rfl) (by simp) ?_
        refine AllReadyH.cons rfl (fun K hK => ?_) AllReadyH.nil
        go_simp
        go_at_call 33
        refine (number_any (some ⟨b0, off, none⟩) xs c 18 4 _ hl hc (by decide) (by omega) ho Hx1).mono ?_
        rintro e _ ⟨rfl, rfl⟩
        refine hK.out _ _ Hx1 (fun hS => ?_)
        clear hK K
        try simp only [Act.put, List.setIfInBounds_toArray, List.set_cons_zero, List.set_cons_succ]
        refine wpAnyH_take (i := 13) (oi := ⟨some 28, _, _, _, _, _⟩) (v := .int .i64 (numA xs 18 4)) rfl (by kernel_rfl) (by kernel_rfl) (by kernel_rfl) (fun _ _ _ h => h) (Or.inl ⟨by rfl, fun W hW => by have q0 := numA_four xs 18 ho (by omega); go_simp; exact IntWalk.i64_in _ (by omega)⟩) hS ?_
        try simp only [Act.put, List.setIfInBounds_toArray, List.set_cons_zero, List.set_cons_succ]
        refine wpAnyH_ready (rs := [16]) (by kernel_rfl) (by simp) ?_
        refine AllReadyH.cons rfl (fun K hK => ?_) AllReadyH.nil
        go_simp
        go_at_call 34
        refine (digest_any b0 (off + 22) (xs.drop 22) (xs.length - 22) (c - 22) _ (by rw [List.length_drop]) (by omega) (by omega) (by omega) (holds_drop Hx1 22 (by omega))).mono ?_
        rintro e x2 ⟨rfl, h⟩
        have Hx2 : Holds x2 x2.heap.size .u8 (some ⟨b0, off, none⟩) xs := Holds.on Hx1 h
        have Mx2 : Block x2 w.heap.size 27 man0.cells.toArray := Block.below Mx1 h (Block.lt Mx1)
        have Bx2 : Below w.heap.size w x2 := Bx1.trans (h.mono Bx1.size)
        have Zx2 : Block x2 x0.heap.size 27 man0.cells.toArray := Block.below Zx1 h (Block.lt Zx1)
        refine hK.out _ _ Hx2 (fun hS => ?_)
        clear hK K
        try simp only [Act.put, List.setIfInBounds_toArray, List.set_cons_zero, List.set_cons_succ]
        refine wpAnyH_ready (rs := [19]) (by kernel_rfl) (by simp) ?_
        refine AllReadyH.cons rfl (fun K hK => ?_) AllReadyH.nil
        go_simp
        go_at_call 34
        refine (digest_any b0 (off + 54) (xs.drop 54) (xs.length - 54) (c - 54) _ (by rw [List.length_drop]) (by omega) (by omega) (by omega) (holds_drop Hx2 54 (by omega))).mono ?_
        rintro e x3 ⟨rfl, h⟩
        have Hx3 : Holds x3 x3.heap.size .u8 (some ⟨b0, off, none⟩) xs := Holds.on Hx2 h
        have Mx3 : Block x3 w.heap.size 27 man0.cells.toArray := Block.below Mx2 h (Block.lt Mx2)
        have Bx3 : Below w.heap.size w x3 := Bx2.trans (h.mono Bx2.size)
        have Zx3 : Block x3 x0.heap.size 27 man0.cells.toArray := Block.below Zx2 h (Block.lt Zx2)
        refine hK.out _ _ Hx3 (fun hS => ?_)
        clear hK K
        try simp only [Act.put, List.setIfInBounds_toArray, List.set_cons_zero, List.set_cons_succ]
        refine wpAnyH_ready (rs := [22]) (by kernel_rfl) (by simp) ?_
        refine AllReadyH.cons rfl (fun K hK => ?_) AllReadyH.nil
        go_simp
        go_at_call 34
        refine (digest_any b0 (off + 86) (xs.drop 86) (xs.length - 86) (c - 86) _ (by rw [List.length_drop]) (by omega) (by omega) (by omega) (holds_drop Hx3 86 (by omega))).mono ?_
        rintro e x4 ⟨rfl, h⟩
        have Hx4 : Holds x4 x4.heap.size .u8 (some ⟨b0, off, none⟩) xs := Holds.on Hx3 h
        have Mx4 : Block x4 w.heap.size 27 man0.cells.toArray := Block.below Mx3 h (Block.lt Mx3)
        have Bx4 : Below w.heap.size w x4 := Bx3.trans (h.mono Bx3.size)
        have Zx4 : Block x4 x0.heap.size 27 man0.cells.toArray := Block.below Zx3 h (Block.lt Zx3)
        refine hK.out _ _ Hx4 (fun hS => ?_)
        clear hK K
        try simp only [Act.put, List.setIfInBounds_toArray, List.set_cons_zero, List.set_cons_succ]
        refine wpAnyH_take (i := 23) (oi := ⟨some 38, _, _, _, _, _⟩) (v := .agg (manN xs 0 none 0).cells.toArray) rfl (by kernel_rfl) (by kernel_rfl) (by kernel_rfl) (fun _ _ _ h => h) (yieldsIf_build (by rfl) _ _ rfl _ (fun W => by have hb := HBM.out W; simpa [Act.eval] using hb)) hS ?_
        try simp only [Act.put, List.setIfInBounds_toArray, List.set_cons_zero, List.set_cons_succ]
        refine wpAnyH_ready (rs := [25]) (by kernel_rfl) (by simp) ?_
        refine AllReadyH.cons rfl (fun K hK => ?_) AllReadyH.nil
        refine step_store_blk rfl _ _ _ rfl (ds := (manN xs 0 none 0).cells) Zx4 rfl rfl (by rw [List.size_toArray, HL0.out, HLN.out]) (by rw [HLN.out]; kernel_rfl) (manN xs 0 none 0).cells_one ?_
        intro x5 Zx5 g9
        have Mx5 := Block.grown Mx4 g9 (by intro e; injection e with e; omega)
        have Bx5 := Bx4.trans (below_of_grown g9 Bx4.size fun b hb => by injection hb with hb; omega)
        have Hx5 := (hr.below Bx5).more Bx5.size
        refine hK.out _ _ Hx5 (fun hS => ?_)
        clear hK K
        try simp only [Act.put, List.setIfInBounds_toArray, List.set_cons_zero, List.set_cons_succ]
        refine wpAnyH_done (by kernel_rfl) ?_ _
        go_wp2_with fail
        go_meet
        exact ⟨_, rfl, Mx5, Zx5, Own.nil _ _ _ _, Bx5, by omega⟩
    case rest =>
      clear HBM HLN i22 i54 i86 j22 j54 j86 n22 n54 n86 HM1 HB1 Hw1 Mw1 Bw1 HW1 HH1
      obtain ⟨g4, rfl, G0⟩ := hcut
      rename World => w2
      have HG0 := Lib.hid G0
      clear G0
      go_wp2_with fail
      go_loopw [5] (fun q wr => ∃ (k : Nat) (Ak : Option Addr) (ck : Nat), k ≤ pairs xs ∧ q = .int .i64 ((118 + 2 * k : Nat) : Int) ∧ MG w wr g4 xs k Ak ck) (fun q _ => 1000 - (intOf q).toNat)
      case atStart => exact ⟨0, none, 0, Nat.zero_le _, rfl, HG0.out⟩
      case round =>
        clear HG0
        obtain ⟨k, Ak, ck, hk, rfl, P⟩ := hrel
        have hpb : 118 + 2 * pairs xs ≤ xs.length := by unfold pairs; omega
        obtain ⟨A9, c9, he9, hl9, hm9, hh9⟩ := P.O.opened
        rw [ordN_length] at hl9
        injection he9 with e1 e2 e3
        subst e1 e3
        have hok := manN_ok xs k Ak ck ho (by omega) (by omega) ⟨hl9, hm9⟩
        have HX2 : ∀ W, Block W g4 27 (manN xs k Ak ck).cells.toArray → W.cell? ⟨g4, 101, none⟩ = some (.slice Ak k ck) := fun W hW => by
          have h1 := (hW.cell 101).trans ((manN xs k Ak ck).cell_ord hok)
          have h2 : (manN xs k Ak ck).ord.length = k := ordN_length xs k
          rw [h2] at h1
          exact h1
        have HP := Lib.hid P
        have HOK := Lib.hid hok
        have HHX := Lib.hid hh9
        clear hh9 e2
        by_cases hlt : k < pairs xs
        · have d0 : decide ((118 + 2 * k : Int) + 2 ≤ (xs.length : Int)) = true := decide_eq_true (by omega)
          have d0' : decide (((118 + 2 * k : Nat) : Int) + 2 ≤ (xs.length : Int)) = true := decide_eq_true (by omega)
          have d1' : decide (((118 + 2 * k : Nat) : Int) < 8310) = true := decide_eq_true (by omega)
          obtain ⟨at_, hat⟩ : ∃ at_ : Nat, 118 + 2 * k = at_ := ⟨_, rfl⟩
          rw [hat] at d0' d1' ⊢
          have HAT := Lib.hid hat
          go_wp2_with fail
          have HXL := ordN_length xs k
          have q101 := HX2 wr P.Z
          have qf := fun i => P.Z.frozen i
          have qa : ∀ o, (wr.alloc o).cell? ⟨g4, 101, none⟩ = some (.slice Ak k ck) := fun o => HX2 _ (P.Z.alloc o)
          have hBs := P.B.size
          have hnb := numA_two xs at_ ho (by omega)
          have GNU := Lib.hid (number_any (some ⟨b0, off, none⟩) xs c at_ 2 wr.drew hl hc (by decide) (by omega) ho ((hr.below (below_draws P.B 1)).more P.B.size))
          generalize hz : numA xs at_ 2 = z at *
          have hwz := IntWalk.i64_in z (by omega)
          have HHX2 := Lib.hid HX2
          have hk400 : k ≤ 400 := by omega
          have HZZ := Lib.hid hz
          have HXX := Lib.hid HXL
          clear hz HXL HX2 hpb
          go_region_law (first
            | (go_simp; go_at_call 33; (refine GNU.out.mono ?_); rintro e _ ⟨rfl, rfl⟩)
            | (refine step_append_one_drew (z := z) (by rfl) _ _ _ (by rfl) elemI (by exact HP.out.O) (by rfl) (by rfl) (by rw [HXX.out]; omega) hBs (by exact HP.out.Z) (by decide) ?_; intro A' c' w7 O7 T7 N7 Z7; rw [HXX.out, ← HZZ.out, ← HAT.out, ← ordN_snoc] at O7; rw [HXX.out]; have s101 := HHX2.out w7 Z7; have sf := fun i => Z7.frozen i))
          all_goals
            have HP9 := Lib.hid (HP.out.next HOK.out O7 T7 Z7)
            clear s101 sf q101 qf qa O7 T7 N7 Z7 P
            go_wp2_with fail
            go_roundw
            case rel => exact ⟨k + 1, A', c', by omega, by rw [show 118 + 2 * (k + 1) = at_ + 2 by omega]; go_num, HP9.out⟩
            case measure => simp [intOf]; omega
        · have d0' : decide (((118 + 2 * k : Nat) : Int) + 2 ≤ (xs.length : Int)) = false := decide_eq_false (by unfold pairs at hlt; omega)
          obtain rfl : k = pairs xs := by omega
          have hk2 : pairs xs ≤ 200 := by unfold pairs; omega
          have hlo : 118 ≤ xs.length := by omega
          have HMY : Hid ((manN xs (pairs xs) Ak ck).May ↔ (manN xs (pairs xs) none 0).May) := Lib.hid Iff.rfl
          have HLN := Lib.hid ((manN xs (pairs xs) Ak ck).cells_length HOK.out)
          have RZ := Lib.hid (block_range P.Z)
          have GM := Lib.hid (may_any (manN xs (pairs xs) Ak ck) HOK.out wr HHX.out)
          obtain ⟨bm, hbm⟩ : ∃ bm : Bool, decide (manN xs (pairs xs) Ak ck).May = bm := ⟨_, rfl⟩
          rw [hbm] at GM
          have HBM := Lib.hid hbm
          have HX3 := Lib.hid HX2
          have HPZ : Hid (∀ W, MG w W g4 xs (pairs xs) Ak ck → Block W g4 27 (manN xs (pairs xs) Ak ck).cells.toArray) := Lib.hid (fun W h => h.Z)
          obtain ⟨np, hnp⟩ : ∃ np, pairs xs = np := ⟨_, rfl⟩
          rw [hnp] at d0' hk2 HP HOK HHX HMY HLN RZ GM HX3 HPZ HBM ⊢
          have HNP := Lib.hid hnp
          obtain ⟨at_, hat⟩ : ∃ at_ : Nat, 118 + 2 * np = at_ := ⟨_, rfl⟩
          rw [hat] at d0' ⊢
          have hat6 : at_ ≤ 600 := by omega
          clear hat
          have hd9 : ∀ b : Bool, ((xs.length : Int) != 118 + 2 * (np : Int)) = !decide (xs.length = 118 + 2 * np) := fun _ => by
            by_cases h : xs.length = 118 + 2 * np
            · rw [decide_eq_true h, h]; simp
            · rw [decide_eq_false h]; simp; omega
          have HD9 := Lib.hid (hd9 true)
          clear hd9 hbm hpb hlt hk hok HX2 P hnp h118
          generalize hN : manN xs np Ak ck = mm at *
          have HMM := Lib.hid hN
          clear hN
          cases bm with
          | false =>
            have HE : Hid (gotE xs = 3) := Lib.hid (by unfold gotE; rw [if_neg (by omega), if_neg (fun h => by have := h.2.1; rw [HNP.out] at this; exact of_decide_eq_false HBM.out (HMY.out.2 this))])
            go_wp2_with (first
              | (have _t := RZ; refine wpList_load_midV (o := ⟨some 59, _, _, _, _, _⟩) (by rfl) _ _ rfl g4 0 rfl mm.cells RZ.out Try.underlying27 rfl (by rw [HLN.out]; kernel_rfl) ?_; clear _t RZ)
              | (go_at_call 11; (with_reducible refine GM.out.mono ?_); rintro e w8 ⟨rfl, hb8⟩; have P8 := Lib.hid (HP.out.below hb8); have HM8 := Lib.hid P8.out.M)
              | (have _t := HM8; refine wpList_build_known rfl _ _ rfl (.agg man0.cells.toArray) ?_ ?_; (intro W; have hw9 := HB0.out W; simpa [Act.eval] using hw9))
              | (have _t := HM8; refine wpList_store_blk rfl _ _ _ rfl (ds := man0.cells) HM8.out rfl rfl (by simp) (by rw [HL0.out]; kernel_rfl) man0.cells_one ?_; clear _t HM8; intro w9 r9 g9))
            refine bodyPost_ret (v := .tuple #[.agg man0.cells.toArray, .int .i64 3]) (results_cell_tmp rfl _ _ w.heap.size 27 _ (0, 0) _ rfl r9 _ rfl Try.underlying27 rfl (by rw [show man0.cells.toArray.size = 102 from HL0.out]; kernel_rfl)) rfl ?_
            exact got_no HE.out (by decide) rfl (P8.out.B.trans (below_of_grown g9 P8.out.B.size fun b hb => by injection hb with hb; omega))
          | true =>
            cases hbl : decide (xs.length = 118 + 2 * np) with
            | false =>
              rw [hbl] at HD9
              have HE : Hid (gotE xs = 3) := Lib.hid (by unfold gotE; rw [if_neg (by omega), if_neg (fun h => by have := h.2.2; rw [HNP.out] at this; exact of_decide_eq_false hbl this)])
              go_wp2_with (first
                | (have _t := RZ; refine wpList_load_midV (o := ⟨some 59, _, _, _, _, _⟩) (by rfl) _ _ rfl g4 0 rfl mm.cells RZ.out Try.underlying27 rfl (by rw [HLN.out]; kernel_rfl) ?_; clear _t RZ)
                | (go_at_call 11; (with_reducible refine GM.out.mono ?_); rintro e w8 ⟨rfl, hb8⟩; have P8 := Lib.hid (HP.out.below hb8); have HM8 := Lib.hid P8.out.M; have q8 := HX3.out w8 (HPZ.out _ P8.out); have hd9 := HD9.out)
                | (have _t := HM8; refine wpList_build_known rfl _ _ rfl (.agg man0.cells.toArray) ?_ ?_; (intro W; have hw9 := HB0.out W; simpa [Act.eval] using hw9))
                | (have _t := HM8; refine wpList_store_blk rfl _ _ _ rfl (ds := man0.cells) HM8.out rfl rfl (by simp) (by rw [HL0.out]; kernel_rfl) man0.cells_one ?_; clear _t HM8; intro w9 r9 g9))
              refine bodyPost_ret (v := .tuple #[.agg man0.cells.toArray, .int .i64 3]) (results_cell_tmp rfl _ _ w.heap.size 27 _ (0, 0) _ rfl r9 _ rfl Try.underlying27 rfl (by rw [show man0.cells.toArray.size = 102 from HL0.out]; kernel_rfl)) rfl ?_
              exact got_no HE.out (by decide) rfl (P8.out.B.trans (below_of_grown g9 P8.out.B.size fun b hb => by injection hb with hb; omega))
            | true =>
              rw [hbl] at HD9
              have HE : Hid (gotE xs = 0) := Lib.hid (by unfold gotE; rw [if_neg (by omega), if_pos ⟨hx0, by rw [HNP.out]; exact HMY.out.1 (of_decide_eq_true HBM.out), by rw [HNP.out]; exact of_decide_eq_true hbl⟩])
              go_wp2_with (first
                | (have _t := RZ; refine wpList_load_midV (o := ⟨some 59, _, _, _, _, _⟩) (by rfl) _ _ rfl g4 0 rfl mm.cells RZ.out Try.underlying27 rfl (by rw [HLN.out]; kernel_rfl) ?_; clear _t RZ)
                | (go_at_call 11; (with_reducible refine GM.out.mono ?_); rintro e w8 ⟨rfl, hb8⟩; have P8 := Lib.hid (HP.out.below hb8); have HM8 := Lib.hid P8.out.M; have q8 := HX3.out w8 (HPZ.out _ P8.out); have hd9 := HD9.out; have RZ8 := Lib.hid (block_range (HPZ.out _ P8.out)))
                | (have _t := RZ8; refine wpList_load_midV (o := ⟨some 73, _, _, _, _, _⟩) (by rfl) _ _ rfl g4 0 rfl mm.cells RZ8.out Try.underlying27 rfl (by rw [HLN.out]; kernel_rfl) ?_; clear _t RZ8)
                | (have _t := HM8; refine wpList_store_blk rfl _ _ _ rfl (ds := mm.cells) HM8.out rfl rfl (by rw [List.size_toArray, HL0.out, HLN.out]) (by rw [HLN.out]; kernel_rfl) mm.cells_one ?_; clear _t HM8; intro w9 r9 g9))
              refine bodyPost_ret (v := .tuple #[.agg mm.cells.toArray, .int .i64 0]) (results_cell_tmp rfl _ _ w.heap.size 27 _ (0, 0) _ rfl r9 _ rfl Try.underlying27 rfl (by rw [show mm.cells.toArray.size = 102 from HLN.out]; kernel_rfl)) rfl ?_
              have B9 : Below w.heap.size w w9 := P8.out.B.trans (below_of_grown g9 P8.out.B.size fun b hb => by injection hb with hb; omega)
              have O9 := P8.out.O.kept g9 (Or.inr (P8.out.O.ne_block P8.out.M (by decide)))
              obtain ⟨A5, c5, he5, -, -, hh5⟩ := O9.opened
              injection he5 with e1 e2 e3
              subst e1
              refine ⟨mm, HOK.out, ?_, ⟨Ak, ck, by rw [HE.out, if_pos rfl, HNP.out]; exact HMM.out.symm⟩, by rw [HE.out], B9⟩
              rw [← HMM.out]
              exact hh5

end Go.Proofs.Ytpdofegmobbipaa.Mn
