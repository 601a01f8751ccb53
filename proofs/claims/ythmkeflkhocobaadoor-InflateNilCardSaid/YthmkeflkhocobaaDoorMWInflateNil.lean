/-
  InflateNil: the walk: a nil inflater reads nothing.
-/
import Derived.Test.YthmkeflkhocobaaDoorMInY
namespace Go.Proofs.YthmkeflkhocobaaDoor.InflateNil
open Go.ChangeShapes Go.WideShapes Go.ChangeAt Go.RowKit Go.Proofs.YthmkeflkhocobaaDoor.Kit Go.Proofs.YthmkeflkhocobaaDoor.Inf Go.Proofs.YthmkeflkhocobaaDoor.Df

set_option maxRecDepth 100000 in
set_option maxHeartbeats 1600000 in
theorem walk (A : Option Addr) (xs : List Int) (c : Nat) (w : World) (hc : xs.length ≤ c) (hm : c ≤ maxLen) (ho : Octets xs) (hr : Holds w w.heap.size .u8 A xs) (hL : Laid 3 turnsL w) :
    Calls Tryd.prog 9 #[.slice A xs.length c] w fun e w' => e = .returned (.bool true) ∧ Below w.heap.size w w' := by
  unfold maxLen at hm
  have GA := Lib.hid (awake13 w hL)
  unfold AwakeTo at GA
  clear ho hr hL
  by_cases h3 : 500 < xs.length
  · have hd : decide ((500 : Int) < (xs.length : Int)) = true := decide_eq_true (by omega)
    have hd2 : decide (500 < xs.length) = true := decide_eq_true h3
    go_enter Tryd.func9, Tryd.ntmps9
    go_wp2_with (go_at_call 18; refine GA.out.mono ?_; rintro e w1 ⟨rfl, hb1⟩)
    go_ret
    exact ⟨rfl, hb1⟩
  · have hd : decide ((500 : Int) < (xs.length : Int)) = false := decide_eq_false (by omega)
    have hd2 : decide (500 < xs.length) = false := decide_eq_false h3
    go_enter Tryd.func9, Tryd.ntmps9
    go_wp2_with (first
      | (go_at_call 25; refine (write_nil _ _).mono ?_; rintro e w1 ⟨rfl, rfl⟩)
      | (go_at_call 27; refine (done_nil _).mono ?_; rintro e w1 ⟨rfl, rfl⟩)
      | (go_at_call 26; refine (out_nil _).mono ?_; rintro e w1 ⟨rfl, rfl⟩)
      | (go_at_call 28; refine (held_nil _).mono ?_; rintro e w1 ⟨rfl, rfl⟩)
      | (go_at_call 18; refine GA.out.mono ?_; rintro e w3 ⟨rfl, hb3⟩))
    go_ret
    exact ⟨rfl, hb3⟩
end Go.Proofs.YthmkeflkhocobaaDoor.InflateNil
