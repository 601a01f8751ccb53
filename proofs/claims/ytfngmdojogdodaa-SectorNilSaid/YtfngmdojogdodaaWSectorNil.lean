/-
  SectorNil: the walk: a nil device is off, and has nothing.
-/
import Derived.Test.YtfngmdojogdodaaSeN
namespace Go.Proofs.Ytfngmdojogdodaa.SectorNil
open Go.ChangeShapes Go.WideShapes Go.ChangeAt Go.RowKit Go.Proofs.Ytfngmdojogdodaa.Kit Go.Proofs.Ytfngmdojogdodaa.Sec

set_option maxRecDepth 100000 in
set_option maxHeartbeats 1600000 in
theorem walk (i : Int) (A : Option Addr) (xs : List Int) (c : Nat) (A2 : Option Addr) (ys : List Int) (c2 : Nat) (w : World) (_ : (Lit.int .i64 i).wf = true)
    (hl : xs.length ≤ c) (hm : c ≤ maxLen) (_ : Octets xs) (_ : Holds w w.heap.size .u8 A xs) (hl2 : ys.length ≤ c2) (hm2 : c2 ≤ maxLen) (_ : Octets ys) (_ : Holds w w.heap.size .u8 A2 ys) :
    Calls Try.prog 6 #[.int .i64 i, .slice A xs.length c, .slice A2 ys.length c2] w fun e w' => e = .returned (.bool true) ∧ Below w.heap.size w w' := by
  have GA := Lib.hid awake_any
  cases h1 : decide ((500 : Int) < (xs.length : Int)) <;> cases h2 : decide ((60 : Int) < (ys.length : Int))
  case false.false =>
    go_enter Try.func6, Try.ntmps6
    go_wp2_with (first
      | (go_at_call 24; refine (fuse_nil _ _).mono ?_; rintro e w1 ⟨rfl, rfl⟩)
      | (go_at_call 25; refine (off_nil _).mono ?_; rintro e w1 ⟨rfl, rfl⟩)
      | (go_at_call 21; refine (back_nil _ _).mono ?_; rintro e w1 ⟨rfl, rfl⟩)
      | (go_at_call 22; refine (read_nil _ _).mono ?_; rintro e w1 ⟨rfl, rfl⟩)
      | (go_at_call 19; refine (write_nil _ _ _).mono ?_; rintro e w1 ⟨rfl, rfl⟩)
      | (go_at_call 20; refine (sync_nil _).mono ?_; rintro e w1 ⟨rfl, rfl⟩)
      | (go_at_call 14; refine (isOn_nil _).mono ?_; rintro e w1 ⟨rfl, rfl⟩)
      | (go_at_call 15; refine (offs_nil _).mono ?_; rintro e w1 ⟨rfl, rfl⟩)
      | (go_at_call 16; refine (waits_nil _).mono ?_; rintro e w1 ⟨rfl, rfl⟩)
      | (go_at_call 17; refine (writes_nil _).mono ?_; rintro e w1 ⟨rfl, rfl⟩)
      | (go_at_call 9; refine (size_nil _).mono ?_; rintro e w1 ⟨rfl, rfl⟩)
      | (go_at_call 10; refine (count_nil _).mono ?_; rintro e w1 ⟨rfl, rfl⟩)
      | (go_at_call 8; refine (GA.out _).mono ?_; rintro e w5 ⟨rfl, hb5⟩))
    go_ret
    exact ⟨rfl, hb5⟩
  all_goals
    go_enter Try.func6, Try.ntmps6
    go_wp2_with (go_at_call 8; refine (GA.out _).mono ?_; rintro e w5 ⟨rfl, hb5⟩)
    go_ret
    exact ⟨rfl, hb5⟩
end Go.Proofs.Ytfngmdojogdodaa.SectorNil
