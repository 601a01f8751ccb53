/-
  OctetChecks: the walk: the check of any bytes is the document's.
-/
import Derived.Test.YtcppceonflkihaaChk
namespace Go.Proofs.Ytcppceonflkihaa.OctetChecks
open Go.ChangeShapes Go.WideShapes Go.ChangeAt Go.RowKit Go.Proofs.Ytcppceonflkihaa.Kit Go.Proofs.Ytcppceonflkihaa.Oct

theorem walk (A : Option Addr) (xs : List Int) (c : Nat) (wd : Int) (w : World) (hl : xs.length ≤ c) (hx : c ≤ maxLen) (ho : Octets xs) (hr : Holds w w.heap.size .u8 A xs)
    (ww : (Lit.int .i64 wd).wf = true) :
    Calls Try.prog 6 #[.slice A xs.length c, .int .i64 wd] w fun e w' => e = .returned (.bool true) ∧ Below w.heap.size w w' := by
  unfold maxLen at hx
  clear ww
  by_cases h5 : xs.length ≤ 500
  · have hn : xs.length ≤ 1000000 := by omega
    have g1 := fun W (h : Holds W W.heap.size .u8 A xs) => check_as A xs c wd W hn ho h
    have g2 := fun W (h : Holds W W.heap.size .u8 A xs) => rcheck_as A xs c wd W hn ho h
    generalize chk xs wd = V at *
    have G1 := Lib.hid g1
    have G2 := Lib.hid g2
    clear g1 g2
    go_enter Try.func6, Try.ntmps6
    go_wp2_with (first
      | (go_at_call 16; refine (G1.out _ hr).mono ?_; rintro e w1 ⟨rfl, hb1⟩)
      | (go_at_call 17; refine (G2.out _ ((hr.below hb1).more hb1.size)).mono ?_; rintro e w2 ⟨rfl, hb2⟩)
      | (go_at_call 8; refine (awake_any _).mono ?_; rintro e w3 ⟨rfl, hb3⟩))
    go_ret
    exact ⟨rfl, hb1.trans ((hb2.trans (hb3.mono hb2.size)).mono hb1.size)⟩
  · go_enter Try.func6, Try.ntmps6
    go_wp2_with (go_at_call 8; refine (awake_any _).mono ?_; rintro e w1 ⟨rfl, hb1⟩)
    go_ret
    exact ⟨rfl, hb1⟩
end Go.Proofs.Ytcppceonflkihaa.OctetChecks
