/-
  HuffCodes: the walk: whether lengths may be, and their codes, are the document's.
-/
import Derived.Test.YtnmdjlnhocbhlaaHufE
import Derived.Test.YtnmdjlnhocbhlaaHufT
import Derived.BigQuiet
namespace Go.Proofs.Ytnmdjlnhocbhlaa.Huf
open Go.ChangeShapes Go.WideShapes Go.ChangeAt Go.RowKit Go.Proofs.Ytnmdjlnhocbhlaa.Kit Go.Proofs.Ytnmdjlnhocbhlaa.Bits

set_option maxHeartbeats 1600000 in
theorem awake9_any (w : World) : Calls Try.prog 7 #[] w fun e w' => e = .returned (.bool true) ∧ Below w.heap.size w w' := by
  have hr : Holds (w.alloc (.cells #[.int .u8 2, .int .u8 1, .int .u8 2] 5)) (w.alloc (.cells #[.int .u8 2, .int .u8 1, .int .u8 2] 5)).heap.size .u8 (some ⟨w.heap.size, 0, none⟩) [2, 1, 2] := by
    intro _
    refine ⟨w.heap.size, 0, rfl, by simp, fun j hj => ?_⟩
    have hb := (Block.new w 5 #[.int .u8 2, .int .u8 1, .int .u8 2]).cell j
    match j, hj with
    | 0, _ | 1, _ | 2, _ => exact hb
  have b0 := (Below.refl w.heap.size w).alloc (Nat.le_refl _) (.cells #[.int .u8 2, .int .u8 1, .int .u8 2] 5)
  have G := Lib.hid (codes_yes (some ⟨w.heap.size, 0, none⟩) [2, 1, 2] 3 _ (by intro x hx; simp at hx; omega) (by decide) (by decide) hr (by decide))
  have hcd : codes [2, 1, 2] = [2, 0, 3] := by decide
  have Hcd := Lib.hid hcd
  clear hr hcd
  go_enter Try.func7, Try.ntmps7
  go_wp2_with fail
  refine G.out.mono ?_
  rintro e w1 ⟨v, rfl, own, b1⟩
  rw [Hcd.out] at own
  obtain ⟨g, cap, rfl, hg, _, _, _⟩ := own.form (by simp)
  have c0 : w1.cell? ⟨g, 0, none⟩ = some (.int .u16 2) := own.cellAt rfl (i := 0) (by simp)
  have c1 : w1.cell? ⟨g, 1, none⟩ = some (.int .u16 0) := own.cellAt rfl (i := 1) (by simp)
  have c2 : w1.cell? ⟨g, 2, none⟩ = some (.int .u16 3) := own.cellAt rfl (i := 2) (by simp)
  have b2 := b0.trans (b1.mono b0.size)
  clear own
  simp only [List.length_cons, List.length_nil, Nat.zero_add, Nat.reduceAdd]
  go_wp2_with fail
  go_ret
  exact ⟨rfl, b2⟩
end Go.Proofs.Ytnmdjlnhocbhlaa.Huf

namespace Go.Proofs.Ytnmdjlnhocbhlaa.HuffCodes
open Go.ChangeShapes Go.WideShapes Go.ChangeAt Go.RowKit Go.Proofs.Ytnmdjlnhocbhlaa.Kit Go.Proofs.Ytnmdjlnhocbhlaa.Bits Go.Proofs.Ytnmdjlnhocbhlaa.Huf

set_option maxRecDepth 100000 in
set_option maxHeartbeats 3200000 in
theorem walk (A : Option Addr) (l : List Int) (c : Nat) (w : World) (hc : l.length ≤ c) (hm : c ≤ maxLen) (ho : Octets l) (hr : Holds w w.heap.size .u8 A l) :
    Calls Try.prog 3 #[.slice A l.length c] w fun e w' => e = .returned (.bool true) ∧ Below w.heap.size w w' := by
  have g1 := may_any A l c
  by_cases h4 : l.length ≤ 400
  · have d0 : decide ((400 : Int) < (l.length : Int)) = false := decide_eq_false (by omega)
    cases hM : mayB l with
    | false =>
      have H1 := Lib.hid (codes_no A l c w ho hc hm hr hM)
      have H2 := Lib.hid (new_no A l c w ho hc hm hr hM)
      have g3 := rmay_any A l c w ho hc hm hr
      have g4 := may_any A l c w ho hc hm hr
      rw [hM] at g3 g4
      have H3 := Lib.hid g3
      have H4 := Lib.hid g4
      clear g1 g3 g4 hM
      go_enter Try.func3, Try.ntmps3
      go_wp2_with (first
        | (go_at_call 8; refine H1.out.mono ?_; rintro e w1 ⟨rfl, rfl⟩)
        | (go_at_call 9; refine H2.out.mono ?_; rintro e w1 ⟨rfl, rfl⟩)
        | (go_at_call 10; refine H3.out.mono ?_; rintro e w1 ⟨rfl, rfl⟩)
        | (go_at_call 11; refine H4.out.mono ?_; rintro e w1 ⟨rfl, rfl⟩)
        | (go_at_call 7; refine (awake9_any _).mono ?_; rintro e w1 ⟨rfl, hb⟩))
      go_ret
      exact ⟨rfl, hb⟩
    | true =>
      obtain ⟨hl, h15⟩ := may_yes hM
      have HM := Lib.hid hM
      clear g1 hM
      go_enter Try.func3, Try.ntmps3
      go_wp2_with fail
      refine (codes_yes A l c w ho hc hm hr HM.out).mono ?_
      rintro e w1 ⟨v1, rfl, own1, b1⟩
      go_wp2_with fail
      refine (new_yes A l c w1 ho hc hm ((hr.below b1).more b1.size) HM.out).mono ?_
      rintro e w2 ⟨g, vt, rfl, hg, tb, b2⟩
      have b12 := b1.trans (b2.mono b1.size)
      have hr2 := (hr.below b12).more b12.size
      have g3 := rmay_any A l c w2 ho hc hm hr2
      have g4 := rcodes_any A l c w2 ho hl h15 hr2
      rw [HM.out] at g3
      have H3 := Lib.hid g3
      have H4 := Lib.hid g4
      clear g3 g4 hr2
      go_wp2_with (first
        | (go_at_call 10; refine H3.out.mono ?_; rintro e w3 ⟨rfl, rfl⟩)
        | (go_at_call 12; refine H4.out.mono ?_; rintro e w3 ⟨v3, rfl, own3, b3⟩))
      have b13 := b12.trans (b3.mono b12.size)
      have g5 := may_any A l c w3 ho hc hm ((hr.below b13).more b13.size)
      rw [HM.out] at g5
      have H5 := Lib.hid g5
      have own1' := own1.below (b2.trans (b3.mono b2.size))
      clear g5 own1
      have hcl : (codes l).length ≤ 300 := by simp [codes]; omega
      generalize codes l = cs at *
      obtain ⟨A1, c1, rfl, _, _, hr1⟩ := own1'.opened
      obtain ⟨A3, c3, rfl, _, _, hr3⟩ := own3.opened
      go_wp2_with (go_at_call 11; refine H5.out.mono ?_; rintro e w4 ⟨rfl, rfl⟩)
      go_loopw [8] (fun s wr => ∃ i : Nat, i ≤ cs.length ∧ s = .int .i64 i ∧ Below w3.heap.size w3 wr) (fun s _ => cs.length - (intOf s).toNat)
      case atStart => exact ⟨0, Nat.zero_le _, rfl, Below.refl _ _⟩
      case round =>
        obtain ⟨i, hi, rfl, hb⟩ := hrel
        by_cases hlt : i < cs.length
        · obtain ⟨bb1, o1, rfl, hb1, hc1⟩ := hr1 (by omega)
          obtain ⟨bb3, o3, rfl, hb3, hc3⟩ := hr3 (by omega)
          have e1 := (hb.cell (p := ⟨bb1, o1 + i, none⟩) hb1).trans (hc1 i hlt)
          have e3 := (hb.cell (p := ⟨bb3, o3 + i, none⟩) hb3).trans (hc3 i hlt)
          generalize cs.getD i 0 = z at *
          have hil : (i : Int) < (cs.length : Int) := by omega
          have hi0 : (0 : Int) ≤ (i : Int) := by omega
          clear hc1 hc3
          go_wp2_with fail
          go_quiet (fail)
          go_wp2_with fail
          go_roundw
          case rel => exact ⟨i + 1, by omega, by go_num, below_draws hb _⟩
          case measure => simp [intOf] <;> omega
        · go_wp2_with fail
          refine (awake9_any _).mono ?_
          rintro e w5 ⟨rfl, hb5⟩
          go_wp2_with fail
          go_ret
          have b14 := b13.trans (hb.mono b13.size)
          exact ⟨rfl, b14.trans (hb5.mono b14.size)⟩
  · have d0 : decide ((400 : Int) < (l.length : Int)) = true := decide_eq_true (by omega)
    clear g1
    go_enter Try.func3, Try.ntmps3
    go_wp2_with fail
    refine (awake9_any _).mono ?_
    rintro e w1 ⟨rfl, hb⟩
    go_wp2_with fail
    go_ret
    exact ⟨rfl, hb⟩
end Go.Proofs.Ytnmdjlnhocbhlaa.HuffCodes
