/-
  Layer 23, parcel: a nil parser: contracts. Conditions: as each theorem names.
-/
import Derived.Test.YtoegioeioohidaaPcD
import Derived.Test.YtoegioeioohidaaStB
import Derived.Test.YtoegioeioohidaaArr
import Derived.Deep.RegionHeld
import Derived.Deep.MidRow
namespace Go.Proofs.Ytoegioeioohidaa.Pc
open Go.ChangeShapes Go.WideShapes Go.ChangeAt Go.RowKit Go.Conc Go.Proofs.Ytoegioeioohidaa.Kit Go.Proofs.Ytoegioeioohidaa.Bits

/-- A whole block is stored over. -/
theorem wpList_store_blk {P : Program} {w : World} {ops : Array Oper} {rest : List Oper} {o : Oper} {a : Act} {Q : Exit → Act → World → Prop} (hgd : o.guard = none) (ty : TypeId) (x y : Operand) (ho : o.op = .store ty x y)
    {g : Nat} {t : TypeId} {cs : Array Value} {ds : List Value} (h : Block w g t cs) (hx : a.eval x = .pointer (some ⟨g, 0, none⟩)) (hy : a.eval y = .agg ds.toArray) (hl : ds.length = cs.size) (hi : (P.info? ty).map (·.size) = some ds.length) (hone : ∀ u ∈ ds, u.oneCell' = true)
    (hK : ∀ w', Block w' g t ds.toArray → w.grownBy w' (some g) → wpList P ops Q rest (a.put o.dst undef) w') : wpList P ops Q (o :: rest) a w := by
  refine wpList_store_mid hgd ty x y ho g 0 ds.toArray hx hy ?_ (by simpa using hi) (all_oneCell_toArray hone) ?_
  · intro j hj
    have hj' : j < cs.size := by simpa [hl] using hj
    exact ⟨by rw [Nat.zero_add, h.cell, Array.getElem?_eq_getElem hj']; rfl, by rw [Nat.zero_add]; exact h.frozen j⟩
  · refine hK _ ?_ (setCells_grown g _ 0 w)
    have := setCells_block ds 0 w _ h (by omega)
    have e : (cs.toList.take 0 ++ (ds ++ cs.toList.drop (0 + ds.length))).toArray = ds.toArray := by
      rw [List.drop_of_length_le (by simp [hl])]
      simp
    rw [e] at this
    simpa using this
theorem results_cell_tmp2 {P : Program} {fn : Func} {p q r : Tmp} {ty : TypeId} (h : fn.results = #[.cell p ty, .tmp q, .tmp r]) (tmps : Array Value) (w : World) (g : Nat) (t : TypeId) (cs : Array Value) (fr : Nat × Nat) (d : TypeDesc)
    (v u : Value) (hq : tmps.getD q undef = v) (hr : tmps.getD r undef = u) (hp : tmps.getD p undef = .pointer (some ⟨g, 0, none⟩)) (hg : w.heap[g]? = some (.cells cs t fr))
    (hu : P.underlying ty = some d) (hd : (match d with | .struct _ | .array _ _ => true | _ => false) = true) (hi : (P.info? ty).map (·.size) = some cs.size) :
    (results fn tmps).run P w = .ok (.tuple #[.agg cs, v, u]) w := by
  have hp' : tmps[p]?.getD undef = .pointer (some ⟨g, 0, none⟩) := by simpa using hp
  have hq' : tmps[q]?.getD undef = v := by simpa using hq
  have hr' : tmps[r]?.getD undef = u := by simpa using hr
  simp [results, h, hp', hq', hr', asAddr, run_loadVar_row w g t ty cs fr d hg hu hd hi]
/-- A manifest's zero. -/
theorem zero_man : ∃ cs : List Value, cs.length = 102 ∧ (∀ u ∈ cs, u.oneCell' = true) ∧ ∀ W : World, (zeroValue 33).run Try.prog W = .ok (.agg cs.toArray) W :=
  ⟨[.int .u8 0, .int .u64 0, .int .i64 0, .int .i64 0, .int .i64 0] ++ (List.replicate 96 (.int .u8 0) ++ [.slice none 0 0]), by decide, by decide +kernel, fun W => by kernel_rfl⟩
def HeadTo (cs : List Value) (w : World) (e : Ending) (w' : World) : Prop := e = .returned (.tuple #[.agg cs.toArray, .slice none 0 0, .slice none 0 0]) ∧ Below w.heap.size w w'
set_option maxRecDepth 100000 in
set_option maxHeartbeats 3200000 in
theorem header_nil (cs : List Value) (hl : cs.length = 102) (h1 : ∀ u ∈ cs, u.oneCell' = true) (hzv : ∀ W : World, (zeroValue 33).run Try.prog W = .ok (.agg cs.toArray) W) (w : World) :
    Calls Try.prog 7 #[.pointer none] w (HeadTo cs w) := by
  have X := Block.new w 33 cs.toArray
  have b1 : Below w.heap.size w (w.alloc (.cells cs.toArray 33)) := (Below.refl _ _).alloc (Nat.le_refl _) _
  have hi : (Try.prog.info? 33).map (·.size) = some cs.length := by rw [hl]; kernel_rfl
  have HI := Lib.hid hi
  have H1 := Lib.hid h1
  clear hi h1
  go_enter Try.func7, Try.ntmps7
  go_wp2_with (have _t := X; refine wpList_store_blk rfl _ _ _ rfl (ds := cs) X rfl rfl (by simp) HI.out H1.out ?_; clear _t; intro w5 X5 g5)
  have b5 : Below w.heap.size w w5 := b1.trans (below_of_grown g5 b1.size (fun x hx => by injection hx with hx; omega))
  exact bodyPost_ret (v := .tuple #[.agg cs.toArray, .slice none 0 0, .slice none 0 0]) (results_cell_tmp2 rfl _ _ w.heap.size 33 _ (0, 0) _ _ _ rfl rfl rfl X5 Try.underlying33 rfl (by simpa using HI.out)) rfl ⟨rfl, b5⟩
set_option maxRecDepth 100000 in
set_option maxHeartbeats 1600000 in
theorem done_nil (w : World) : Calls Try.prog 10 #[.pointer none] w fun e w' => e = .returned (.bool false) ∧ Below w.heap.size w w' := by
  have hb : ∀ n, Below w.heap.size w (w.drewN n) := fun n => below_draws (Below.refl _ _) n
  have HB := Lib.hid hb
  clear hb
  go_enter Try.func10, Try.ntmps10
  go_wp2_with fail
  go_quiet (fail)
  go_wp2_with fail
  go_ret
  exact ⟨rfl, HB.out _⟩
theorem ready_nil (w : World) : Calls Try.prog 9 #[.pointer none] w fun e w' => e = .returned (.bool false) ∧ w' = w := by
  go_enter Try.func9, Try.ntmps9
  go_wp2
  go_ret
  exact ⟨rfl, rfl⟩
theorem held_nil (w : World) : Calls Try.prog 11 #[.pointer none] w fun e w' => e = .returned (.int .i64 0) ∧ w' = w := by
  go_enter Try.func11, Try.ntmps11
  go_wp2
  go_ret
  exact ⟨rfl, rfl⟩
theorem skip_nil (k : Int) (w : World) : Calls Try.prog 12 #[.pointer none, .int .i64 k] w fun e w' => e = .returned (.int .i64 1) ∧ w' = w := by
  go_enter Try.func12, Try.ntmps12
  go_wp2
  go_ret
  exact ⟨rfl, rfl⟩
theorem feed_nil (v : Value) (w : World) : Calls Try.prog 5 #[.pointer none, v] w fun e w' => e = .returned (.tuple #[.int .i64 0, .int .i64 1]) ∧ w' = w := by
  go_enter Try.func5, Try.ntmps5
  go_wp2
  go_ret2
  exact ⟨rfl, rfl⟩
theorem next_nil (w : World) : Calls Try.prog 6 #[.pointer none] w fun e w' => e = .returned (.tuple #[]) ∧ w' = w := by
  go_enter Try.func6, Try.ntmps6
  go_wp2_with (go_at_call 9; refine (ready_nil _).mono ?_; rintro e w1 ⟨rfl, rfl⟩)
  exact bodyPost_ret (v := .tuple #[]) (results_none (by rfl) _ _ _) rfl ⟨rfl, rfl⟩
def chunk0 : Value := .agg #[.int .i64 0, .slice none 0 0, .slice none 0 0]
set_option maxHeartbeats 1600000 in
theorem chunk_nil (w : World) : Calls Try.prog 8 #[.pointer none] w fun e w' => e = .returned chunk0 ∧ Below w.heap.size w w' := by
  have b1 : Below w.heap.size w (w.alloc (.cells #[.int .i64 0, .slice none 0 0, .slice none 0 0] 38)) := (Below.refl _ _).alloc (Nat.le_refl _) _
  have HB := Lib.hid b1
  have X := Block.new w 38 #[.int .i64 0, .slice none 0 0, .slice none 0 0]
  go_enter Try.func8, Try.ntmps8
  go_wp2_with (go_at_call 9; refine (ready_nil _).mono ?_; rintro e w1 ⟨rfl, rfl⟩)
  exact bodyPost_ret (v := chunk0) (results_cell_row rfl _ _ w.heap.size 38 _ (0, 0) _ rfl X Try.underlying38 rfl (by kernel_rfl)) rfl ⟨rfl, HB.out⟩
set_option maxRecDepth 100000 in
set_option maxHeartbeats 3200000 in
theorem same_nil (w : World) : Calls Try.prog 13 #[chunk0, chunk0] w fun e w' => e = .returned (.bool true) ∧ Below w.heap.size w w' := by
  have cv : ∀ W : World, (convert 22 9 (.slice none 0 0)).run Try.prog W = .ok (.string (strOfNums [])) W := fun W => conv_any W none [] 0 0 (fun h => absurd h (by simp))
  have b1 : Below w.heap.size w ((w.alloc (.cells #[.int .i64 0, .slice none 0 0, .slice none 0 0] 38)).alloc (.cells #[.int .i64 0, .slice none 0 0, .slice none 0 0] 38)) := ((Below.refl _ _).alloc (Nat.le_refl _) _).alloc (by simp) _
  have HB := Lib.hid b1
  clear b1
  unfold chunk0
  go_enter Try.func13, Try.ntmps13
  go_upto_region 4 with fail
  generalize ((w.alloc (.cells #[.int .i64 0, .slice none 0 0, .slice none 0 0] 38)).alloc (.cells #[.int .i64 0, .slice none 0 0, .slice none 0 0] 38)) = w2 at *
  go_loopw [32] (fun s wr => s = .int .i64 0 ∧ wr = w2) (fun _ _ => 0)
  case atStart => exact ⟨rfl, rfl⟩
  case round =>
    obtain ⟨rfl, rfl⟩ := hrel
    go_wp2_with fail
    go_ret
    exact ⟨rfl, HB.out⟩
end Go.Proofs.Ytoegioeioohidaa.Pc
