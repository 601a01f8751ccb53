/-
  MatchSame: the walk: of an image and the same one piece is found, of all bytes.
-/
import Derived.Test.YtlojimhllbicjaaMtD
namespace Go.Proofs.Ytlojimhllbicjaa.MatchSame
open Go.ChangeShapes Go.WideShapes Go.ChangeAt Go.RowKit Go.Proofs.Ytlojimhllbicjaa.Kit Go.Proofs.Ytlojimhllbicjaa.Mt

set_option maxRecDepth 100000 in
set_option maxHeartbeats 3200000 in
theorem walk (A : Option Addr) (xs : List Int) (c : Nat) (w : World) (l1 : xs.length ≤ c) (m1 : c ≤ maxLen) (_ : Octets xs) (r1 : Holds w w.heap.size .u8 A xs) :
    Calls Try.prog 5 #[.slice A xs.length c] w fun e w' => e = .returned (.bool true) ∧ Below w.heap.size w w' := by
  unfold maxLen at m1
  have GA := Lib.hid (fun W => awake_any W)
  have GN := Lib.hid (fun W => find_nil W)
  by_cases h7 : 1000 < xs.length
  · have d2 : decide ((1000 : Int) < (xs.length : Int)) = true := decide_eq_true (by omega)
    go_enter Try.func5, Try.ntmps5
    go_wp2_with (first
      | (go_at_call 12; refine (GN.out _).mono ?_; rintro e w1 ⟨rfl, hb1⟩)
      | (go_at_call 7; (with_reducible refine (GA.out _).mono ?_); rintro e w2 ⟨rfl, hb⟩))
    go_ret
    exact ⟨rfl, hb1.trans (hb.mono hb1.size)⟩
  have d2 : decide ((1000 : Int) < (xs.length : Int)) = false := decide_eq_false (by omega)
  by_cases h0 : xs.length = 0
  · have d3 : ((xs.length : Int) == 0) = true := by rw [h0]; rfl
    clear r1 d2
    rw [h0] at d3 ⊢
    have d4 : decide ((1000 : Int) < 0) = false := by decide
    go_enter Try.func5, Try.ntmps5
    go_wp2_with (first
      | (go_at_call 12; refine (GN.out _).mono ?_; rintro e w1 ⟨rfl, hb1⟩)
      | (go_at_call 7; (with_reducible refine (GA.out _).mono ?_); rintro e w2 ⟨rfl, hb⟩))
    go_ret
    exact ⟨rfl, hb1.trans (hb.mono hb1.size)⟩
  · have d3 : ((xs.length : Int) == 0) = false := by rw [beq_eq_false_iff_ne]; omega
    have GF := Lib.hid (find_same A A xs c c w (by omega) (by omega) r1 r1)
    have B1 := below_last w (.cells #[.int .i64 0, .int .i64 0, .int .i64 xs.length] 25)
    go_enter Try.func5, Try.ntmps5
    go_wp2_with (first
      | (go_at_call 12; (with_reducible refine GF.out.mono ?_); rintro e w1 ⟨rfl, rfl⟩)
      | (go_at_call 7; (with_reducible refine (GA.out _).mono ?_); rintro e w2 ⟨rfl, hb⟩))
    go_ret
    exact ⟨rfl, B1.trans (hb.mono B1.size)⟩
end Go.Proofs.Ytlojimhllbicjaa.MatchSame
