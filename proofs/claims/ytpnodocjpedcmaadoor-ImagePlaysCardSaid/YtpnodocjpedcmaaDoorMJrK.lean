/-
  Layer 24, journal: any record is itself. Conditions: as each theorem names.
-/
import Derived.Test.YtpnodocjpedcmaaDoorMJrD
namespace Go.Proofs.YtpnodocjpedcmaaDoor.Jr
open Go.ChangeShapes Go.WideShapes Go.ChangeAt Go.RowKit Go.Proofs.YtpnodocjpedcmaaDoor.Kit Go.Proofs.YtpnodocjpedcmaaDoor.Oct

theorem arr_same (xs : List Int) (h : xs.length = 32) (w : World) : (Op.equalIn 9999 48 (.agg (xs.map (Value.int .u8)).toArray) (.agg (xs.map (Value.int .u8)).toArray)).run Tryd.prog w = .ok true w := by
  have h1 := run_equalIn_array (P := Tryd.prog) (w := w) (t := 48) 9998 (xs.map (Value.int .u8)).toArray (xs.map (Value.int .u8)).toArray (n := xs.length) (e := 5) (by rw [h]; exact Tryd.underlying48) (Option.eq_some_of_isSome (by kernel_rfl))
  have h2 := run_eqItems_ints (P := Tryd.prog) (w := w) (e := 5) (k := .u8) (k' := .u8) 9997 (by kernel_rfl) Tryd.underlying5 (by kernel_rfl) xs xs (List.range xs.length) (fun j hj => by have := List.mem_range.1 hj; omega)
  have e1 : decide (∀ j ∈ List.range xs.length, xs[j]?.getD 0 = xs[j]?.getD 0) = true := decide_eq_true fun _ _ => rfl
  rw [e1] at h2
  rw [h2] at h1
  exact h1

set_option maxRecDepth 100000 in
set_option maxHeartbeats 3200000 in
theorem eql_same (r : Rec) (h : r.man.length = 32) (W : World) : (binOp .eql 50 (.agg r.cells.toArray) (.agg r.cells.toArray)).run Tryd.prog W = .ok (.bool true) W := by
  match hm : r.man, h with
  | [a0, a1, a2, a3, a4, a5, a6, a7, a8, a9, a10, a11, a12, a13, a14, a15, a16, a17, a18, a19, a20, a21, a22, a23, a24, a25, a26, a27, a28, a29, a30, a31], _ =>
    have hE := arr_same [a0, a1, a2, a3, a4, a5, a6, a7, a8, a9, a10, a11, a12, a13, a14, a15, a16, a17, a18, a19, a20, a21, a22, a23, a24, a25, a26, a27, a28, a29, a30, a31] rfl W
    simp only [List.map_cons, List.map_nil] at hE
    unfold Rec.cells
    rw [hm]
    simp only [List.map_cons, List.map_nil, List.cons_append, List.nil_append]
    go_simp
end Go.Proofs.YtpnodocjpedcmaaDoor.Jr
