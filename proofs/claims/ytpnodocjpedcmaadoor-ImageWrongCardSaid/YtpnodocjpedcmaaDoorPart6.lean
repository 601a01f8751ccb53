/-
  Layer 7, part: what a nil part answers, and a part of a nil device. Conditions: none.
-/
import Derived.Test.YtpnodocjpedcmaaDoorPart5
import Derived.BigQuiet
namespace Go.Proofs.YtpnodocjpedcmaaDoor.Prt
open Go.ChangeShapes Go.WideShapes Go.ChangeAt Go.RowKit Go.Proofs.YtpnodocjpedcmaaDoor.Kit

theorem count_nil (w : World) : Calls Tryd.prog 58 #[.pointer none] w fun e w' => e = .returned (.int .i64 0) ∧ w' = w := by
  go_enter Tryd.func58, Tryd.ntmps58
  go_wp2
  go_ret
  exact ⟨rfl, rfl⟩

theorem size_nil (w : World) : Calls Tryd.prog 97 #[.pointer none] w fun e w' => e = .returned (.int .i64 0) ∧ w' = w := by
  go_enter Tryd.func97, Tryd.ntmps97
  go_wp2
  go_ret
  exact ⟨rfl, rfl⟩

theorem read_nil (at_ n : Int) (w : World) : Calls Tryd.prog 49 #[.pointer none, .int .i64 at_, .int .i64 n] w fun e w' => e = .returned (.tuple #[.slice none 0 0, .int .i64 1]) ∧ w' = w := by
  go_enter Tryd.func49, Tryd.ntmps49
  go_wp2
  go_ret2
  exact ⟨rfl, rfl⟩

theorem write_nil (at_ : Int) (v : Value) (w : World) : Calls Tryd.prog 54 #[.pointer none, .int .i64 at_, v] w fun e w' => e = .returned (.int .i64 1) ∧ w' = w := by
  go_enter Tryd.func54, Tryd.ntmps54
  go_wp2
  go_ret
  exact ⟨rfl, rfl⟩

set_option maxRecDepth 100000 in
set_option maxHeartbeats 1600000 in
theorem open_nil (F N : Int) (w : World) : Calls Tryd.prog 48 #[.pointer none, .agg #[.int .i64 F, .int .i64 N]] w (Gives (.tuple #[.pointer none, .int .i64 1]) w) := by
  have hb0 : Below w.heap.size w (w.alloc (.cells #[.int .i64 F, .int .i64 N] 42)) := (Below.refl _ _).alloc (Nat.le_refl _) _
  have blk := Block.new w 42 #[.int .i64 F, .int .i64 N]
  have c0 : (w.alloc (.cells #[.int .i64 F, .int .i64 N] 42)).cell? ⟨w.heap.size, 0, none⟩ = some (.int .i64 F) := blk.cell 0
  have c1 : (w.alloc (.cells #[.int .i64 F, .int .i64 N] 42)).cell? ⟨w.heap.size, 1, none⟩ = some (.int .i64 N) := blk.cell 1
  clear blk
  by_cases h0 : F < 0
  · have h0 : decide (F < 0) = true := decide_eq_true h0
    go_enter Tryd.func48, Tryd.ntmps48
    go_wp2_with fail
    go_quiet (fail)
    go_wp2_with fail
    go_ret2
    exact ⟨rfl, below_draws hb0 _⟩
  by_cases h1 : N < 1
  · have h0 : decide (F < 0) = false := decide_eq_false h0
    have h1 : decide (N < 1) = true := decide_eq_true h1
    go_enter Tryd.func48, Tryd.ntmps48
    go_wp2_with fail
    go_quiet (fail)
    go_wp2_with fail
    go_ret2
    exact ⟨rfl, below_draws hb0 _⟩
  have h2 : decide (0 < N) = true := decide_eq_true (by omega)
  have h0 : decide (F < 0) = false := decide_eq_false h0
  have h1 : decide (N < 1) = false := decide_eq_false h1
  have G := Lib.hid count_nil
  go_enter Tryd.func48, Tryd.ntmps48
  go_wp2_with fail
  go_quiet ((go_at_call 58; exact Calls.quiet_of_same (G.out _)))
  go_wp2_with fail
  go_ret2
  exact ⟨rfl, below_draws hb0 _⟩
end Go.Proofs.YtpnodocjpedcmaaDoor.Prt
