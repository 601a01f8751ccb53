/-
  Layer 7, part: a map is equal to itself; the document's example. Conditions: as each theorem names.
-/
import Derived.Test.YtchbgmpkdkecgaaPart4
import Derived.Laws.StructEq
import Derived.ChangeKeysEq
namespace Go.Proofs.Ytchbgmpkdkecgaa.Prt
open Go.ChangeShapes Go.WideShapes Go.ChangeAt Go.RowKit Go.Proofs.Ytchbgmpkdkecgaa.Kit

theorem eq_region (d : Nat) (a b : Int) (w : World) : (Op.equalIn (d + 2) 25 (.agg #[.int .i64 a, .int .i64 b]) (.agg #[.int .i64 a, .int .i64 b])).run Try.prog w = .ok true w := by
  have hf : (Try.prog.fieldsOf 25).toList.map (fun f => (f.name != "_", f.type, f.offset)) = [(true, 3, 0), (true, 3, 1)] := by kernel_rfl
  have p0 : (part 3 #[.int .i64 a, .int .i64 b] 0).run Try.prog w = .ok (.int .i64 a) w := by kernel_rfl
  have p1 : (part 3 #[.int .i64 a, .int .i64 b] 1).run Try.prog w = .ok (.int .i64 b) w := by kernel_rfl
  rw [run_equalIn_struct w (d + 1) _ _ _ (by kernel_rfl) (by kernel_rfl)]
  generalize (Try.prog.fieldsOf 25).toList = fs at *
  match fs, (show fs.length = 2 by simpa using congrArg List.length hf), hf with
  | [f0, f1], _, hf =>
    simp at hf
    obtain ⟨⟨n0, t0, o0⟩, ⟨n1, t1, o1⟩⟩ := hf
    have q0 := run_equalIn_int (P := Try.prog) w d 3 .i64 .i64 a a Try.underlying3
    have q1 := run_equalIn_int (P := Try.prog) w d 3 .i64 .i64 b b Try.underlying3
    simp [Op.eqFields, n0, n1, t0, t1, o0, o1, p0, p1, q0, q1]

theorem eq_two (d : Nat) (a b c e : Int) (w : World) : (Op.equalIn (d + 3) 26 (.agg #[.int .i64 a, .int .i64 b, .int .i64 c, .int .i64 e]) (.agg #[.int .i64 a, .int .i64 b, .int .i64 c, .int .i64 e])).run Try.prog w = .ok true w := by
  obtain ⟨i, hi⟩ : ∃ i, Try.prog.info? 25 = some i := Option.isSome_iff_exists.1 (by kernel_rfl)
  have hu : Try.prog.underlying 26 = some (.array 2 25) := by kernel_rfl
  have hc : Try.prog.cellsOf 25 = 2 := by kernel_rfl
  rw [run_equalIn_array (P := Try.prog) (w := w) (d + 2) _ _ hu hi, hc]
  have p0 : (part 25 #[.int .i64 a, .int .i64 b, .int .i64 c, .int .i64 e] (0 * 2)).run Try.prog w = .ok (.agg #[.int .i64 a, .int .i64 b]) w := by kernel_rfl
  have p1 : (part 25 #[.int .i64 a, .int .i64 b, .int .i64 c, .int .i64 e] (1 * 2)).run Try.prog w = .ok (.agg #[.int .i64 c, .int .i64 e]) w := by kernel_rfl
  have q0 := eq_region d a b w
  have q1 := eq_region d c e w
  rw [show List.range 2 = [0, 1] from rfl]
  simp only [Op.eqItems, Sem.run_bind, p0, p1, q0, q1, Result.andThen_ok, Bool.not_true, Bool.false_eq_true, if_false, Sem.run_pure]

theorem eq_map (v0 v1 v2 v3 v4 v5 v6 v7 v8 v9 v10 : Int) (w : World) :
    (binOp .eql 28 (.agg #[.int .i64 v0, .int .i64 v1, .int .i64 v2, .int .i64 v3, .int .i64 v4, .int .i64 v5, .int .i64 v6, .int .i64 v7, .int .i64 v8, .int .i64 v9, .int .i64 v10])
      (.agg #[.int .i64 v0, .int .i64 v1, .int .i64 v2, .int .i64 v3, .int .i64 v4, .int .i64 v5, .int .i64 v6, .int .i64 v7, .int .i64 v8, .int .i64 v9, .int .i64 v10])).run Try.prog w = .ok (.bool true) w := by
  have hf : (Try.prog.fieldsOf 28).toList.map (fun f => (f.name != "_", f.type, f.offset)) = [(true, 26, 0), (true, 25, 4), (true, 26, 6), (true, 3, 10)] := by kernel_rfl
  have p0 : (part 26 #[.int .i64 v0, .int .i64 v1, .int .i64 v2, .int .i64 v3, .int .i64 v4, .int .i64 v5, .int .i64 v6, .int .i64 v7, .int .i64 v8, .int .i64 v9, .int .i64 v10] 0).run Try.prog w = .ok (.agg #[.int .i64 v0, .int .i64 v1, .int .i64 v2, .int .i64 v3]) w := by kernel_rfl
  have p1 : (part 25 #[.int .i64 v0, .int .i64 v1, .int .i64 v2, .int .i64 v3, .int .i64 v4, .int .i64 v5, .int .i64 v6, .int .i64 v7, .int .i64 v8, .int .i64 v9, .int .i64 v10] 4).run Try.prog w = .ok (.agg #[.int .i64 v4, .int .i64 v5]) w := by kernel_rfl
  have p2 : (part 26 #[.int .i64 v0, .int .i64 v1, .int .i64 v2, .int .i64 v3, .int .i64 v4, .int .i64 v5, .int .i64 v6, .int .i64 v7, .int .i64 v8, .int .i64 v9, .int .i64 v10] 6).run Try.prog w = .ok (.agg #[.int .i64 v6, .int .i64 v7, .int .i64 v8, .int .i64 v9]) w := by kernel_rfl
  have p3 : (part 3 #[.int .i64 v0, .int .i64 v1, .int .i64 v2, .int .i64 v3, .int .i64 v4, .int .i64 v5, .int .i64 v6, .int .i64 v7, .int .i64 v8, .int .i64 v9, .int .i64 v10] 10).run Try.prog w = .ok (.int .i64 v10) w := by kernel_rfl
  rw [run_eql_struct, run_equalIn_struct w 9999 _ _ _ (by kernel_rfl) (by kernel_rfl)]
  generalize (Try.prog.fieldsOf 28).toList = fs at *
  match fs, (show fs.length = 4 by simpa using congrArg List.length hf), hf with
  | [f0, f1, f2, f3], _, hf =>
    simp at hf
    obtain ⟨⟨n0, t0, o0⟩, ⟨n1, t1, o1⟩, ⟨n2, t2, o2⟩, ⟨n3, t3, o3⟩⟩ := hf
    have q0 := eq_two 9996 v0 v1 v2 v3 w
    have q1 := eq_region 9997 v4 v5 w
    have q2 := eq_two 9996 v6 v7 v8 v9 w
    have q3 := run_equalIn_int (P := Try.prog) w 9998 3 .i64 .i64 v10 v10 Try.underlying3
    simp [Op.eqFields, n0, n1, n2, n3, t0, t1, t2, t3, o0, o1, o2, o3, p0, p1, p2, p3, q0, q1, q2, q3]

theorem awake_any (w : World) : Calls Try.prog 10 #[] w (Gives (.bool true) w) := by
  have g1 := fun W => layout_yes 128 256 3 2 W (by decide) (by decide)
  have hm : mapV 2 3 = .agg #[.int .i64 0, .int .i64 1, .int .i64 1, .int .i64 1, .int .i64 2, .int .i64 2, .int .i64 4, .int .i64 6, .int .i64 10, .int .i64 6, .int .i64 16] := by simp [mapV]
  rw [hm] at g1
  have G1 := Lib.hid g1
  clear g1 hm
  go_enter Try.func10, Try.ntmps10
  go_wp2_with (go_at_call 7; refine (G1.out _).mono ?_; rintro e w1 ⟨rfl, hb1⟩)
  go_ret
  exact ⟨rfl, hb1.alloc hb1.size _⟩
end Go.Proofs.Ytchbgmpkdkecgaa.Prt
