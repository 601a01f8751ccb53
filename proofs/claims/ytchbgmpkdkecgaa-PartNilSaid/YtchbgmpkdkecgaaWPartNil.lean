/-
  PartNil: the walk: a nil part answers with the error of a bad argument, and a nil device has no part.
-/
import Derived.Test.YtchbgmpkdkecgaaPart6
import Derived.Test.YtchbgmpkdkecgaaRec
namespace Go.Proofs.Ytchbgmpkdkecgaa.PartNil
open Go.ChangeShapes Go.WideShapes Go.ChangeAt Go.RowKit Go.Proofs.Ytchbgmpkdkecgaa.Kit Go.Proofs.Ytchbgmpkdkecgaa.Prt

set_option maxRecDepth 100000 in
set_option maxHeartbeats 1600000 in
theorem walk (F N a n : Int) (A : Option Addr) (xs : List Int) (c : Nat) (w : World) (_ : (Lit.int .i64 F).wf = true) (_ : (Lit.int .i64 N).wf = true) (_ : (Lit.int .i64 a).wf = true) (_ : (Lit.int .i64 n).wf = true)
    (hl : xs.length ≤ c) (hm : c ≤ maxLen) (_ : Octets xs) (_ : Holds w w.heap.size .u8 A xs) :
    Calls Try.prog 6 #[.agg #[.int .i64 F, .int .i64 N], .int .i64 a, .int .i64 n, .slice A xs.length c] w fun e w' => e = .returned (.bool true) ∧ Below w.heap.size w w' := by
  have hb0 : Below w.heap.size w (w.alloc (.cells #[.int .i64 F, .int .i64 N] 25)) := (Below.refl _ _).alloc (Nat.le_refl _) _
  have G1 := Lib.hid open_nil
  have G2 := Lib.hid read_nil
  have G3 := Lib.hid write_nil
  have G4 := Lib.hid size_nil
  have G5 := Lib.hid awake_any
  by_cases h : xs.length ≤ 2000
  · have hd : decide ((2000 : Int) < (xs.length : Int)) = false := decide_eq_false (by omega)
    go_enter Try.func6, Try.ntmps6
    go_wp2_with (first
      | (go_at_call 14; refine (G1.out _ _ _).mono ?_; rintro e w1 ⟨rfl, hb1⟩)
      | (go_at_call 23; refine (G2.out _ _ _).mono ?_; rintro e w2 ⟨rfl, rfl⟩)
      | (go_at_call 18; refine (G3.out _ _ _).mono ?_; rintro e w3 ⟨rfl, rfl⟩)
      | (go_at_call 16; refine (G4.out _).mono ?_; rintro e w4 ⟨rfl, rfl⟩)
      | (go_at_call 10; refine (G5.out _).mono ?_; rintro e w5 ⟨rfl, hb5⟩))
    go_ret
    exact ⟨rfl, hb0.trans ((hb1.trans (hb5.mono hb1.size)).mono hb0.size)⟩
  · have hd : decide ((2000 : Int) < (xs.length : Int)) = true := decide_eq_true (by omega)
    go_enter Try.func6, Try.ntmps6
    go_wp2_with (go_at_call 10; refine (G5.out _).mono ?_; rintro e w5 ⟨rfl, hb5⟩)
    go_ret
    exact ⟨rfl, hb0.trans (hb5.mono hb0.size)⟩
end Go.Proofs.Ytchbgmpkdkecgaa.PartNil
