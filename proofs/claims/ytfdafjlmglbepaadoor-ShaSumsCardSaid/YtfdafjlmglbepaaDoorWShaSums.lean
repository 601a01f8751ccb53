/-
  ShaSums: the walk: the sum of any bytes is the document's.
-/
import Derived.Test.YtfdafjlmglbepaaDoorShE
namespace Go.Proofs.YtfdafjlmglbepaaDoor.ShaSums
open Go.ChangeShapes Go.WideShapes Go.ChangeAt Go.RowKit Go.Proofs.YtfdafjlmglbepaaDoor.Kit Go.Proofs.YtfdafjlmglbepaaDoor.Sha

set_option maxRecDepth 100000 in
set_option maxHeartbeats 1600000 in
theorem walk (A : Option Addr) (xs : List Int) (c : Nat) (w : World) (hc : xs.length ≤ c) (hm : c ≤ maxLen) (ho : Octets xs) (hr : Holds w w.heap.size .u8 A xs) (hL : LaidS w) :
    Calls Tryd.prog 3 #[.slice A xs.length c] w fun e w' => e = .returned (.bool true) ∧ Below w.heap.size w w' := by
  unfold maxLen at hm
  by_cases h3 : (3000 : Int) < xs.length
  · have hd : decide ((3000 : Int) < (xs.length : Int)) = true := decide_eq_true h3
    go_enter Tryd.func3, Tryd.ntmps3
    go_wp2_with (go_at_call 8; refine (awake_any _ hL).mono ?_; rintro e w1 ⟨rfl, hb1⟩)
    go_ret
    exact ⟨rfl, hb1⟩
  · have hd : decide ((3000 : Int) < (xs.length : Int)) = false := decide_eq_false h3
    have g1 := Lib.hid (psum_any A xs c w (by omega) hc hm ho hr hL)
    have g2 := Lib.hid (fun W (hb : Below w.heap.size w W) => rsum_any A xs c W (by omega) hc hm ho ((hr.below hb).more hb.size))
    have heq := sum_eq xs
    have hgd := sum_guard xs
    generalize sumL xs = ys at *
    go_enter Tryd.func3, Tryd.ntmps3
    go_wp2_with (first
      | (go_at_call 9; refine g1.out.mono ?_; rintro e w1 ⟨rfl, hb1⟩)
      | (go_at_call 10; refine (g2.out _ hb1).mono ?_; rintro e w2 ⟨rfl, hb2⟩; have hb2 := hb1.trans (hb2.mono hb1.size))
      | (go_at_call 8; refine (awake_any _ (hL.below hb2)).mono ?_; rintro e w3 ⟨rfl, hb3⟩; have hb3 := hb2.trans (hb3.mono hb2.size)))
    go_ret
    exact ⟨rfl, hb3⟩
end Go.Proofs.YtfdafjlmglbepaaDoor.ShaSums
