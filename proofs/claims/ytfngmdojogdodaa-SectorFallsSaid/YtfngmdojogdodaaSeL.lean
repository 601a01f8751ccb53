/-
  Layer 6, sector: nil devices, what may not be made, the bytes of a step: contracts. Conditions: as each theorem names.
-/
import Derived.Test.YtfngmdojogdodaaSeK
namespace Go.Proofs.Ytfngmdojogdodaa.Sec
open Go.ChangeShapes Go.WideShapes Go.ChangeAt Go.RowKit Go.Proofs.Ytfngmdojogdodaa.Kit Go.Maps

/-- The world stays. -/
def Tells (v : Value) (w : World) (e : Ending) (w' : World) : Prop := e = .returned v ∧ w = w'

theorem size_nil (w : World) : Calls Try.prog 9 #[.pointer none] w (Tells (.int .i64 0) w) := by
  go_enter Try.func9, Try.ntmps9
  go_wp2
  go_ret
  exact ⟨rfl, rfl⟩
theorem count_nil (w : World) : Calls Try.prog 10 #[.pointer none] w (Tells (.int .i64 0) w) := by
  go_enter Try.func10, Try.ntmps10
  go_wp2
  go_ret
  exact ⟨rfl, rfl⟩
theorem offs_nil (w : World) : Calls Try.prog 15 #[.pointer none] w (Tells (.int .i64 0) w) := by
  go_enter Try.func15, Try.ntmps15
  go_wp2
  go_ret
  exact ⟨rfl, rfl⟩
theorem waits_nil (w : World) : Calls Try.prog 16 #[.pointer none] w (Tells (.int .i64 0) w) := by
  go_enter Try.func16, Try.ntmps16
  go_wp2
  go_ret
  exact ⟨rfl, rfl⟩
theorem writes_nil (w : World) : Calls Try.prog 17 #[.pointer none] w (Tells (.int .u64 0) w) := by
  go_enter Try.func17, Try.ntmps17
  go_wp2
  go_ret
  exact ⟨rfl, rfl⟩
theorem isOn_nil (w : World) : Calls Try.prog 14 #[.pointer none] w (Tells (.bool false) w) := by
  go_enter Try.func14, Try.ntmps14
  go_wp2
  go_ret
  exact ⟨rfl, rfl⟩
theorem fuse_nil (n : Int) (w : World) : Calls Try.prog 24 #[.pointer none, .int .i64 n] w (Tells (.tuple #[]) w) := by
  go_enter Try.func24, Try.ntmps24
  go_wp2
  exact bodyPost_end (results_none rfl _ _ _) rfl ⟨rfl, rfl⟩
theorem off_nil (w : World) : Calls Try.prog 25 #[.pointer none] w (Tells (.tuple #[]) w) := by
  go_enter Try.func25, Try.ntmps25
  go_wp2_with (go_at_call 14; refine (isOn_nil _).mono ?_; rintro e w1 ⟨rfl, rfl⟩)
  exact bodyPost_end (results_none rfl _ _ _) rfl ⟨rfl, rfl⟩
theorem back_nil (v : Value) (w : World) : Calls Try.prog 21 #[.pointer none, v] w (Tells (.tuple #[]) w) := by
  go_enter Try.func21, Try.ntmps21
  go_wp2
  exact bodyPost_ret (results_none rfl _ _ _) rfl ⟨rfl, rfl⟩
theorem read_nil (n : Int) (w : World) : Calls Try.prog 22 #[.pointer none, .int .i64 n] w (Tells (.tuple #[.slice none 0 0, .int .i64 8]) w) := by
  go_enter Try.func22, Try.ntmps22
  go_wp2_with (go_at_call 14; refine (isOn_nil _).mono ?_; rintro e w1 ⟨rfl, rfl⟩)
  go_ret2
  exact ⟨rfl, rfl⟩
theorem write_nil (n : Int) (v : Value) (w : World) : Calls Try.prog 19 #[.pointer none, .int .i64 n, v] w (Tells (.int .i64 8) w) := by
  go_enter Try.func19, Try.ntmps19
  go_wp2_with (go_at_call 14; refine (isOn_nil _).mono ?_; rintro e w1 ⟨rfl, rfl⟩)
  go_ret
  exact ⟨rfl, rfl⟩
theorem sync_nil (w : World) : Calls Try.prog 20 #[.pointer none] w (Tells (.int .i64 8) w) := by
  go_enter Try.func20, Try.ntmps20
  go_wp2_with (go_at_call 14; refine (isOn_nil _).mono ?_; rintro e w1 ⟨rfl, rfl⟩)
  go_ret
  exact ⟨rfl, rfl⟩

theorem new_arg (n m : Int) (w : World) (h : n < 128 ∨ 4096 < n ∨ m < 1 ∨ 1048576 < m) : Calls Try.prog 7 #[.int .i64 n, .int .i64 m] w (Tells (.tuple #[.pointer none, .int .i64 1]) w) := by
  cases h1 : decide (n < 128) <;> (try cases h2 : decide ((4096 : Int) < n)) <;> (try cases h3 : decide (m < 1)) <;> (try cases h4 : decide ((1048576 : Int) < m))
  case false.false.false.false =>
    simp only [decide_eq_false_iff_not] at h1 h2 h3 h4
    omega
  all_goals
    go_enter Try.func7, Try.ntmps7
    go_wp2
    go_ret2
    exact ⟨rfl, rfl⟩
end Go.Proofs.Ytfngmdojogdodaa.Sec
