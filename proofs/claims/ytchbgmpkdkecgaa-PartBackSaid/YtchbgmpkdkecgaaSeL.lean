/-
  Layer 6, sector: nil devices, what may not be made, the bytes of a step: contracts. Conditions: as each theorem names.
-/
import Derived.Test.YtchbgmpkdkecgaaSeK
namespace Go.Proofs.Ytchbgmpkdkecgaa.Sec
open Go.ChangeShapes Go.WideShapes Go.ChangeAt Go.RowKit Go.Proofs.Ytchbgmpkdkecgaa.Kit Go.Maps

/-- The world stays. -/
def Tells (v : Value) (w : World) (e : Ending) (w' : World) : Prop := e = .returned v ∧ w = w'

theorem size_nil (w : World) : Calls Try.prog 30 #[.pointer none] w (Tells (.int .i64 0) w) := by
  go_enter Try.func30, Try.ntmps30
  go_wp2
  go_ret
  exact ⟨rfl, rfl⟩
theorem count_nil (w : World) : Calls Try.prog 29 #[.pointer none] w (Tells (.int .i64 0) w) := by
  go_enter Try.func29, Try.ntmps29
  go_wp2
  go_ret
  exact ⟨rfl, rfl⟩
theorem waits_nil (w : World) : Calls Try.prog 25 #[.pointer none] w (Tells (.int .i64 0) w) := by
  go_enter Try.func25, Try.ntmps25
  go_wp2
  go_ret
  exact ⟨rfl, rfl⟩
theorem writes_nil (w : World) : Calls Try.prog 26 #[.pointer none] w (Tells (.int .u64 0) w) := by
  go_enter Try.func26, Try.ntmps26
  go_wp2
  go_ret
  exact ⟨rfl, rfl⟩
theorem isOn_nil (w : World) : Calls Try.prog 42 #[.pointer none] w (Tells (.bool false) w) := by
  go_enter Try.func42, Try.ntmps42
  go_wp2
  go_ret
  exact ⟨rfl, rfl⟩
theorem fuse_nil (n : Int) (w : World) : Calls Try.prog 20 #[.pointer none, .int .i64 n] w (Tells (.tuple #[]) w) := by
  go_enter Try.func20, Try.ntmps20
  go_wp2
  exact bodyPost_end (results_none rfl _ _ _) rfl ⟨rfl, rfl⟩
theorem off_nil (w : World) : Calls Try.prog 34 #[.pointer none] w (Tells (.tuple #[]) w) := by
  go_enter Try.func34, Try.ntmps34
  go_wp2_with (go_at_call 42; refine (isOn_nil _).mono ?_; rintro e w1 ⟨rfl, rfl⟩)
  exact bodyPost_end (results_none rfl _ _ _) rfl ⟨rfl, rfl⟩
theorem back_nil (v : Value) (w : World) : Calls Try.prog 21 #[.pointer none, v] w (Tells (.tuple #[]) w) := by
  go_enter Try.func21, Try.ntmps21
  go_wp2
  exact bodyPost_ret (results_none rfl _ _ _) rfl ⟨rfl, rfl⟩
theorem read_nil (n : Int) (w : World) : Calls Try.prog 39 #[.pointer none, .int .i64 n] w (Tells (.tuple #[.slice none 0 0, .int .i64 8]) w) := by
  go_enter Try.func39, Try.ntmps39
  go_wp2_with (go_at_call 42; refine (isOn_nil _).mono ?_; rintro e w1 ⟨rfl, rfl⟩)
  go_ret2
  exact ⟨rfl, rfl⟩
theorem write_nil (n : Int) (v : Value) (w : World) : Calls Try.prog 32 #[.pointer none, .int .i64 n, v] w (Tells (.int .i64 8) w) := by
  go_enter Try.func32, Try.ntmps32
  go_wp2_with (go_at_call 42; refine (isOn_nil _).mono ?_; rintro e w1 ⟨rfl, rfl⟩)
  go_ret
  exact ⟨rfl, rfl⟩
theorem new_arg (n m : Int) (w : World) (h : n < 128 ∨ 4096 < n ∨ m < 1 ∨ 1048576 < m) : Calls Try.prog 13 #[.int .i64 n, .int .i64 m] w (Tells (.tuple #[.pointer none, .int .i64 1]) w) := by
  cases h1 : decide (n < 128) <;> (try cases h2 : decide ((4096 : Int) < n)) <;> (try cases h3 : decide (m < 1)) <;> (try cases h4 : decide ((1048576 : Int) < m))
  case false.false.false.false =>
    simp only [decide_eq_false_iff_not] at h1 h2 h3 h4
    omega
  all_goals
    go_enter Try.func13, Try.ntmps13
    go_wp2
    go_ret2
    exact ⟨rfl, rfl⟩
end Go.Proofs.Ytchbgmpkdkecgaa.Sec
