/-
  Layer 1, sha: the example, nil hashes, how two sums are compared: contracts. Conditions: as each theorem names.
-/
import Derived.Test.YtfdafjlmglbepaaDoorShV
import Derived.Test.YtfdafjlmglbepaaDoorShEx
import Derived.Lib.SlBytesConst
namespace Go.Proofs.YtfdafjlmglbepaaDoor.Sha
open Go.ChangeShapes Go.WideShapes Go.ChangeAt Go.RowKit Go.Proofs.YtfdafjlmglbepaaDoor.Kit

theorem sum_eq (xs : List Int) (w : World) : (binOp .eql 25 (arrV .u8 (sumL xs)) (arrV .u8 (sumL xs))).run Tryd.prog w = .ok (.bool true) w := by
  rw [run_eql_arr (P := Tryd.prog) (w := w) (t := 25) (e := 5) (k := .u8) (k' := .u8) (sumL xs) (sumL xs) (by rw [sumL_length]; exact Tryd.underlying25) (Option.eq_some_of_isSome (by kernel_rfl)) (by kernel_rfl) Tryd.underlying5 (by kernel_rfl) rfl]
  simp
theorem sum_guard (xs : List Int) (x y : Operand) (w : World) : (eqGuard .eql 25 x y (arrV .u8 (sumL xs)) (arrV .u8 (sumL xs))).run Tryd.prog w = .ok () w := run_eqGuard_agg w .eql 25 x y _ _ (by kernel_rfl)
theorem sum_neq (xs : List Int) (w : World) : (binOp .neq 25 (arrV .u8 (sumL xs)) (arrV .u8 (sumL xs))).run Tryd.prog w = .ok (.bool false) w := by
  have h1 := run_equalIn_array (P := Tryd.prog) (w := w) (t := 25) 9999 ((sumL xs).map (Value.int .u8)).toArray ((sumL xs).map (Value.int .u8)).toArray (n := (sumL xs).length) (e := 5) (by rw [sumL_length]; exact Tryd.underlying25) (Option.eq_some_of_isSome (by kernel_rfl))
  have h2 := run_eqItems_ints (P := Tryd.prog) (w := w) (e := 5) (k := .u8) (k' := .u8) 9998 (by kernel_rfl) Tryd.underlying5 (by kernel_rfl) (sumL xs) (sumL xs) (List.range (sumL xs).length) (fun j hj => by have := List.mem_range.1 hj; omega)
  have e1 : decide (∀ j ∈ List.range (sumL xs).length, (sumL xs)[j]?.getD 0 = (sumL xs)[j]?.getD 0) = true := decide_eq_true fun _ _ => rfl
  rw [e1] at h2
  rw [h2] at h1
  unfold arrV
  simp only [binOp]
  simp [Op.equal, Op.maxDepth, h1]

theorem sum_guardn (xs : List Int) (x y : Operand) (w : World) : (eqGuard .neq 25 x y (arrV .u8 (sumL xs)) (arrV .u8 (sumL xs))).run Tryd.prog w = .ok () w := run_eqGuard_agg w .neq 25 x y _ _ (by kernel_rfl)
theorem zero_digest (W : World) : (zeroValue 25).run Tryd.prog W = .ok (.agg #[.int .u8 0, .int .u8 0, .int .u8 0, .int .u8 0, .int .u8 0, .int .u8 0, .int .u8 0, .int .u8 0, .int .u8 0, .int .u8 0, .int .u8 0, .int .u8 0, .int .u8 0, .int .u8 0, .int .u8 0, .int .u8 0, .int .u8 0, .int .u8 0, .int .u8 0, .int .u8 0, .int .u8 0, .int .u8 0, .int .u8 0, .int .u8 0, .int .u8 0, .int .u8 0, .int .u8 0, .int .u8 0, .int .u8 0, .int .u8 0, .int .u8 0, .int .u8 0]) W := by kernel_rfl

theorem holds_const {w : World} {t : TypeId} {zs : List Int} (m : Nat × Nat) : Holds (w.alloc (.cells (zs.map (Value.int .u8)).toArray t m)) (w.alloc (.cells (zs.map (Value.int .u8)).toArray t m)).heap.size .u8 (some ⟨w.heap.size, 0, none⟩) zs := by
  intro _
  refine ⟨w.heap.size, 0, rfl, by simp, fun j hj => ?_⟩
  have := World.cell?_alloc_mark w (zs.map (Value.int .u8)).toArray t m (0 + j)
  rw [this]
  simp [List.getD, List.getElem?_eq_getElem hj]
theorem abc_any (A : Option Addr) (w : World) (hL : LaidS w) (h : Holds w w.heap.size .u8 A [97, 98, 99]) :
    Calls Tryd.prog 9 #[.slice A 3 3] w fun e w' => e = .returned (arrV .u8 (sumL [97, 98, 99])) ∧ Below w.heap.size w w' :=
  psum_any A [97, 98, 99] 3 w (by decide) (by decide) (by unfold maxLen; omega) (by intro x hx; simp at hx; omega) h hL

set_option maxRecDepth 100000 in
set_option maxHeartbeats 1600000 in
theorem awake_any (w : World) (hL : LaidS w) :
    Calls Tryd.prog 8 #[] w fun e w' => e = .returned (.bool true) ∧ Below w.heap.size w w' := by
  have hsl := sumL_length [97, 98, 99]
  have h4 := abc_sum
  have kc : (convert 22 22 (.slice (some ⟨w.heap.size, 0, none⟩) 3 3)).run Tryd.prog (w.alloc (.cells #[.int .u8 97, .int .u8 98, .int .u8 99] 5)) = .ok (.slice (some ⟨w.heap.size, 0, none⟩) 3 3) (w.alloc (.cells #[.int .u8 97, .int .u8 98, .int .u8 99] 5 (3, 4))) := Lib.run_convert_bytes_const (P := Tryd.prog) w 22 5 #[.int .u8 97, .int .u8 98, .int .u8 99] 3 3 Tryd.underlying22 Tryd.underlying5
  have a0 : Holds (w.alloc (.cells #[.int .u8 97, .int .u8 98, .int .u8 99] 5 (3, 4))) (w.alloc (.cells #[.int .u8 97, .int .u8 98, .int .u8 99] 5 (3, 4))).heap.size .u8 (some ⟨w.heap.size, 0, none⟩) [97, 98, 99] := holds_const (w := w) (t := 5) (zs := [97, 98, 99]) (3, 4)
  have hb0 := (Below.refl w.heap.size w).alloc (Nat.le_refl _) (.cells #[.int .u8 97, .int .u8 98, .int .u8 99] 5 (3, 4))
  have GA := Lib.hid (fun W (h : Holds W W.heap.size .u8 (some ⟨w.heap.size, 0, none⟩) [97, 98, 99]) (hb : Below w.heap.size w W) => abc_any (some ⟨w.heap.size, 0, none⟩) W (hL.below hb) h)
  generalize sumL [97, 98, 99] = ys at *
  have y0 : ys[0]?.getD 0 = 186 := by have := congrArg (fun l : List Int => l[0]?.getD 0) h4; simpa [List.getElem?_take] using this
  have y1 : ys[1]?.getD 0 = 120 := by have := congrArg (fun l : List Int => l[1]?.getD 0) h4; simpa [List.getElem?_take] using this
  have y2 : ys[2]?.getD 0 = 22 := by have := congrArg (fun l : List Int => l[2]?.getD 0) h4; simpa [List.getElem?_take] using this
  have y3 : ys[3]?.getD 0 = 191 := by have := congrArg (fun l : List Int => l[3]?.getD 0) h4; simpa [List.getElem?_take] using this
  have Y := Lib.hid (And.intro hsl (And.intro y0 (And.intro y1 (And.intro y2 y3))))
  have hz := zero_digest
  clear hsl h4 y0 y1 y2 y3
  go_enter Tryd.func8, Tryd.ntmps8
  go_wp2_with fail
  refine (GA.out _ a0 hb0).mono ?_
  rintro e w1 ⟨rfl, hb1⟩
  have hb01 := hb0.trans (hb1.mono hb0.size)
  have z1 : Arr (w1.alloc (.cells ((List.replicate 32 (0 : Int)).map (Value.int .u8)).toArray 25)) w1.heap.size 25 .u8 (List.replicate 32 0) := Arr.new w1 _ _ _
  go_wp2_with (have _t := z1; refine wpList_store_arr rfl _ _ _ rfl z1 rfl rfl (by rw [Y.out.1]; rfl) (by rw [Y.out.1]; kernel_rfl) ?_; intro w2 k2 g2; have c0 := k2.cell (i := 0) (by rw [Y.out.1]; omega); have c1 := k2.cell (i := 1) (by rw [Y.out.1]; omega); have c2 := k2.cell (i := 2) (by rw [Y.out.1]; omega); have c3 := k2.cell (i := 3) (by rw [Y.out.1]; omega); rw [Y.out.2.1] at c0; rw [Y.out.2.2.1] at c1; rw [Y.out.2.2.2.1] at c2; rw [Y.out.2.2.2.2] at c3; have hb2 := (hb01.alloc hb01.size (.cells ((List.replicate 32 (0 : Int)).map (Value.int .u8)).toArray 25)).trans (below_of_grown g2 (by have := hb01.size; simp; omega) fun b hb => by injection hb with hb; have := hb01.size; omega); clear _t z1 k2)
  go_ret
  exact ⟨rfl, hb2⟩
end Go.Proofs.YtfdafjlmglbepaaDoor.Sha
