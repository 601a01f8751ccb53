/-
  HuffNil: the walk: a nil table and a nil reader are told.
-/
import Derived.Test.YtnmdjlnhocbhlaaWHuffCodes
namespace Go.Proofs.Ytnmdjlnhocbhlaa.HuffNil
open Go.ChangeShapes Go.WideShapes Go.ChangeAt Go.RowKit Go.Proofs.Ytnmdjlnhocbhlaa.Kit Go.Proofs.Ytnmdjlnhocbhlaa.Bits Go.Proofs.Ytnmdjlnhocbhlaa.Huf

theorem next_none (v : Option Addr) (w : World) : Calls Try.prog 16 #[.pointer none, .pointer v] w fun e w' => e = .returned (.tuple #[.int .i64 0, .int .i64 1]) ∧ w = w' := by
  go_enter Try.func16, Try.ntmps16
  go_wp2_with fail
  go_ret2
  exact ⟨rfl, rfl⟩

theorem next_nil (a : Addr) (w : World) : Calls Try.prog 16 #[.pointer (some a), .pointer none] w fun e w' => e = .returned (.tuple #[.int .i64 0, .int .i64 1]) ∧ w = w' := by
  go_enter Try.func16, Try.ntmps16
  go_wp2_with fail
  go_ret2
  exact ⟨rfl, rfl⟩

set_option maxRecDepth 100000 in
set_option maxHeartbeats 3200000 in
theorem walk (A : Option Addr) (l : List Int) (c : Nat) (w : World) (_ : l.length ≤ c) (_ : c ≤ maxLen) (_ : Octets l) (hr : Holds w w.heap.size .u8 A l) :
    Calls Try.prog 6 #[.slice A l.length c] w fun e w' => e = .returned (.bool true) ∧ Below w.heap.size w w' := by
  by_cases h1 : l.length ≤ 100
  · have d0 : decide ((100 : Int) < (l.length : Int)) = false := decide_eq_false (by omega)
    go_enter Try.func6, Try.ntmps6
    go_wp2_with fail
    refine (newr_any A l c w (by omega) hr).mono ?_
    rintro e w1 ⟨g, v, rfl, hg, R, b1⟩
    clear R
    go_wp2_with fail
    refine (next_none _ w1).mono ?_
    rintro e w2 ⟨rfl, rfl⟩
    have hr2 : Holds (w1.alloc (.cells #[.int .u8 1, .int .u8 1] 5)) (w1.alloc (.cells #[.int .u8 1, .int .u8 1] 5)).heap.size .u8 (some ⟨w1.heap.size, 0, none⟩) [1, 1] := by
      intro _
      refine ⟨w1.heap.size, 0, rfl, by simp, fun j hj => ?_⟩
      have hb := (Block.new w1 5 #[.int .u8 1, .int .u8 1]).cell j
      match j, hj with
      | 0, _ | 1, _ => exact hb
    have b2 := b1.alloc b1.size (.cells #[.int .u8 1, .int .u8 1] 5)
    have G := Lib.hid (new_yes (some ⟨w1.heap.size, 0, none⟩) [1, 1] 2 _ (by intro x hx; simp at hx; omega) (by decide) (by decide) hr2 (by decide))
    clear hr2 hr
    go_wp2_with fail
    refine G.out.mono ?_
    rintro e w3 ⟨g2, vt, rfl, hg2, tb, b3⟩
    clear tb
    have b23 := b2.trans (b3.mono b2.size)
    go_wp2_with fail
    refine (next_nil _ w3).mono ?_
    rintro e w4 ⟨rfl, rfl⟩
    go_wp2_with fail
    refine (awake9_any _).mono ?_
    rintro e w5 ⟨rfl, b5⟩
    go_wp2_with fail
    go_ret
    exact ⟨rfl, b23.trans (b5.mono b23.size)⟩
  · have d0 : decide ((100 : Int) < (l.length : Int)) = true := decide_eq_true (by omega)
    go_enter Try.func6, Try.ntmps6
    go_wp2_with fail
    refine (awake9_any _).mono ?_
    rintro e w1 ⟨rfl, hb⟩
    go_wp2_with fail
    go_ret
    exact ⟨rfl, hb⟩
end Go.Proofs.Ytnmdjlnhocbhlaa.HuffNil
