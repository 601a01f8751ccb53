/-
  ShaNil: the walk: a nil hash takes nothing.
-/
import Derived.Test.YtfdafjlmglbepaaDoorShF
namespace Go.Proofs.YtfdafjlmglbepaaDoor.ShaNil
open Go.ChangeShapes Go.WideShapes Go.ChangeAt Go.RowKit Go.Proofs.YtfdafjlmglbepaaDoor.Kit Go.Proofs.YtfdafjlmglbepaaDoor.Sha

set_option maxRecDepth 100000 in
set_option maxHeartbeats 1600000 in
theorem walk (A : Option Addr) (xs : List Int) (c : Nat) (w : World) (hc : xs.length ≤ c) (hm : c ≤ maxLen) (ho : Octets xs) (hr : Holds w w.heap.size .u8 A xs) (hL : LaidS w) :
    Calls Tryd.prog 7 #[.slice A xs.length c] w fun e w' => e = .returned (.bool true) ∧ Below w.heap.size w w' := by
  unfold maxLen at hm
  by_cases h3 : (400 : Int) < xs.length
  · have hd : decide ((400 : Int) < (xs.length : Int)) = true := decide_eq_true h3
    go_enter Tryd.func7, Tryd.ntmps7
    go_wp2_with (go_at_call 8; refine (awake_any _ hL).mono ?_; rintro e w1 ⟨rfl, hb1⟩)
    go_ret
    exact ⟨rfl, hb1⟩
  · have hd : decide ((400 : Int) < (xs.length : Int)) = false := decide_eq_false h3
    have g2 := Lib.hid (fun W (a : Option Addr) (h : Holds W W.heap.size .u8 a []) => rsum_any a [] 0 W (by simp) (Nat.le_refl _) (Nat.zero_le _) (fun _ h => absurd h (by simp)) h)
    have heq := sum_eq []
    have hgd := sum_guard []
    go_enter Tryd.func7, Tryd.ntmps7
    go_wp2_with (first
      | (go_at_call 13; refine (write_nil _ _).mono ?_; rintro e w1 ⟨rfl, rfl⟩)
      | (go_at_call 15; refine (sum_nil _ hL).mono ?_; rintro e w1 ⟨rfl, hb1⟩; have hb1' := hb1.alloc hb1.size (.cells #[] 5))
      | (go_at_call 10; refine (g2.out _ _ Holds.nil).mono ?_; rintro e w2 ⟨rfl, hb2⟩; have hb2 := hb1'.trans (hb2.mono hb1'.size); generalize sumL [] = ys at *)
      | (go_at_call 14; refine (len_nil _).mono ?_; rintro e w4 ⟨rfl, rfl⟩)
      | (go_at_call 17; refine (copy_nil _).mono ?_; rintro e w4 ⟨rfl, rfl⟩)
      | (go_at_call 8; refine (awake_any _ (hL.below hb2)).mono ?_; rintro e w3 ⟨rfl, hb3⟩; have hb3 := hb2.trans (hb3.mono hb2.size)))
    go_ret
    exact ⟨rfl, hb3⟩
end Go.Proofs.YtfdafjlmglbepaaDoor.ShaNil
