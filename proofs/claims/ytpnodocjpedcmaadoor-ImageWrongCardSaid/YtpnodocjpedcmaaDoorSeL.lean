/-
  Layer 6, sector: nil devices, what may not be made, the bytes of a step: contracts. Conditions: as each theorem names.
-/
import Derived.Test.YtpnodocjpedcmaaDoorSeK
namespace Go.Proofs.YtpnodocjpedcmaaDoor.Sec
open Go.ChangeShapes Go.WideShapes Go.ChangeAt Go.RowKit Go.Proofs.YtpnodocjpedcmaaDoor.Kit Go.Maps

/-- The world stays. -/
def Tells (v : Value) (w : World) (e : Ending) (w' : World) : Prop := e = .returned v ∧ w = w'

theorem size_nil (w : World) : Calls Tryd.prog 57 #[.pointer none] w (Tells (.int .i64 0) w) := by
  go_enter Tryd.func57, Tryd.ntmps57
  go_wp2
  go_ret
  exact ⟨rfl, rfl⟩
theorem count_nil (w : World) : Calls Tryd.prog 58 #[.pointer none] w (Tells (.int .i64 0) w) := by
  go_enter Tryd.func58, Tryd.ntmps58
  go_wp2
  go_ret
  exact ⟨rfl, rfl⟩
theorem waits_nil (w : World) : Calls Tryd.prog 31 #[.pointer none] w (Tells (.int .i64 0) w) := by
  go_enter Tryd.func31, Tryd.ntmps31
  go_wp2
  go_ret
  exact ⟨rfl, rfl⟩
theorem writes_nil (w : World) : Calls Tryd.prog 32 #[.pointer none] w (Tells (.int .u64 0) w) := by
  go_enter Tryd.func32, Tryd.ntmps32
  go_wp2
  go_ret
  exact ⟨rfl, rfl⟩
theorem isOn_nil (w : World) : Calls Tryd.prog 41 #[.pointer none] w (Tells (.bool false) w) := by
  go_enter Tryd.func41, Tryd.ntmps41
  go_wp2
  go_ret
  exact ⟨rfl, rfl⟩
theorem fuse_nil (n : Int) (w : World) : Calls Tryd.prog 23 #[.pointer none, .int .i64 n] w (Tells (.tuple #[]) w) := by
  go_enter Tryd.func23, Tryd.ntmps23
  go_wp2
  exact bodyPost_end (results_none rfl _ _ _) rfl ⟨rfl, rfl⟩
theorem off_nil (w : World) : Calls Tryd.prog 20 #[.pointer none] w (Tells (.tuple #[]) w) := by
  go_enter Tryd.func20, Tryd.ntmps20
  go_wp2_with (go_at_call 41; refine (isOn_nil _).mono ?_; rintro e w1 ⟨rfl, rfl⟩)
  exact bodyPost_end (results_none rfl _ _ _) rfl ⟨rfl, rfl⟩
theorem back_nil (v : Value) (w : World) : Calls Tryd.prog 14 #[.pointer none, v] w (Tells (.tuple #[]) w) := by
  go_enter Tryd.func14, Tryd.ntmps14
  go_wp2
  exact bodyPost_ret (results_none rfl _ _ _) rfl ⟨rfl, rfl⟩
theorem read_nil (n : Int) (w : World) : Calls Tryd.prog 77 #[.pointer none, .int .i64 n] w (Tells (.tuple #[.slice none 0 0, .int .i64 8]) w) := by
  go_enter Tryd.func77, Tryd.ntmps77
  go_wp2_with (go_at_call 41; refine (isOn_nil _).mono ?_; rintro e w1 ⟨rfl, rfl⟩)
  go_ret2
  exact ⟨rfl, rfl⟩
theorem write_nil (n : Int) (v : Value) (w : World) : Calls Tryd.prog 12 #[.pointer none, .int .i64 n, v] w (Tells (.int .i64 8) w) := by
  go_enter Tryd.func12, Tryd.ntmps12
  go_wp2_with (go_at_call 41; refine (isOn_nil _).mono ?_; rintro e w1 ⟨rfl, rfl⟩)
  go_ret
  exact ⟨rfl, rfl⟩
theorem sync_nil (w : World) : Calls Tryd.prog 53 #[.pointer none] w (Tells (.int .i64 8) w) := by
  go_enter Tryd.func53, Tryd.ntmps53
  go_wp2_with (go_at_call 41; refine (isOn_nil _).mono ?_; rintro e w1 ⟨rfl, rfl⟩)
  go_ret
  exact ⟨rfl, rfl⟩

theorem new_arg (n m : Int) (w : World) (h : n < 128 ∨ 4096 < n ∨ m < 1 ∨ 1048576 < m) : Calls Tryd.prog 10 #[.int .i64 n, .int .i64 m] w (Tells (.tuple #[.pointer none, .int .i64 1]) w) := by
  cases h1 : decide (n < 128) <;> (try cases h2 : decide ((4096 : Int) < n)) <;> (try cases h3 : decide (m < 1)) <;> (try cases h4 : decide ((1048576 : Int) < m))
  case false.false.false.false =>
    simp only [decide_eq_false_iff_not] at h1 h2 h3 h4
    omega
  all_goals
    go_enter Tryd.func10, Tryd.ntmps10
    go_wp2
    go_ret2
    exact ⟨rfl, rfl⟩
end Go.Proofs.YtpnodocjpedcmaaDoor.Sec
