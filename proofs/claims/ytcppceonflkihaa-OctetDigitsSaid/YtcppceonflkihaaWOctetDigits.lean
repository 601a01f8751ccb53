/-
  OctetDigits: the walk: all digits of any bytes, and any one of them, by any width, are the document's.
-/
import Derived.Test.YtcppceonflkihaaDigs2
namespace Go.Proofs.Ytcppceonflkihaa.OctetDigits
open Go.ChangeShapes Go.WideShapes Go.ChangeAt Go.RowKit Go.Proofs.Ytcppceonflkihaa.Kit Go.Proofs.Ytcppceonflkihaa.Oct

set_option maxHeartbeats 3200000 in
theorem walk (A : Option Addr) (xs : List Int) (c : Nat) (i wd : Int) (w : World) (hl : xs.length ≤ c) (hx : c ≤ maxLen) (ho : Octets xs) (hr : Holds w w.heap.size .u8 A xs)
    (wi : (Lit.int .i64 i).wf = true) (ww : (Lit.int .i64 wd).wf = true) :
    Calls Try.prog 5 #[.slice A xs.length c, .int .i64 i, .int .i64 wd] w fun e w' => e = .returned (.bool true) ∧ Below w.heap.size w w' := by
  unfold maxLen at hx
  have hib := bounds_i64 wi
  clear wi ww
  by_cases h5 : xs.length ≤ 500
  · have hn : xs.length ≤ 1000000 := by omega
    obtain ⟨zs, hz⟩ : ∃ zs, digs xs wd = zs := ⟨_, rfl⟩
    have hzl : zs.length ≤ 8000000 := by rw [← hz]; exact digs_len xs wd hn
    have g1 := fun W (h : Holds W W.heap.size .u8 A xs) => digits_as A xs zs c wd W hz hn ho h
    have g2 := fun W (h : Holds W W.heap.size .u8 A xs) => rdigits_as A xs zs c wd W hz hn ho h
    have g3 := fun W B j hj (h : Holds W B .u8 A xs) => digit_as A xs zs c B j wd W hz hn hj ho h
    have G1 := Lib.hid g1
    have G2 := Lib.hid g2
    have G3 := Lib.hid g3
    clear g1 g2 g3 hz
    go_enter Try.func5, Try.ntmps5
    go_wp2_with (first
      | (go_at_call 13; refine (G1.out _ hr).mono ?_; rintro e w1 ⟨A1, c1, rfl, hl1, hm1, hr1, hb1⟩)
      | (go_at_call 14; refine (G2.out _ ((hr.below hb1).more hb1.size)).mono ?_; rintro e w2 ⟨A2, c2, rfl, hl2, hm2, hr2, hb2⟩))
    have hr1' := hr1.below hb2
    have hs12 := hb2.size
    have hb12 := hb1.trans (hb2.mono hb1.size)
    have hr' := hr.below hb12
    clear hr1 hb1 hb2 hr
    go_loopw [9] (fun s wr => ∃ k : Nat, k ≤ zs.length ∧ s = .int .i64 k ∧ Below w2.heap.size w2 wr) (fun s _ => zs.length - (intOf s).toNat)
    case atStart => exact ⟨0, Nat.zero_le _, rfl, Below.refl _ _⟩
    case round =>
      obtain ⟨k, hk, rfl, hbr⟩ := hrel
      have hr3 := hr'.below (hbr.mono hb12.size)
      by_cases hlt : k < zs.length
      · obtain ⟨b1, o1, rfl, hbl1, hc1⟩ := (hr1'.below (hbr.mono hs12)) (by omega)
        obtain ⟨b2, o2, rfl, hbl2, hc2⟩ := (hr2.below hbr) (by omega)
        have e1 := hc1 k hlt
        have e2 := hc2 k hlt
        have hdz : digOr zs k = zs.getD k 0 := by unfold digOr; rw [if_pos (by omega)]; simp [List.getD]
        have g4 := fun W (h : Holds W w.heap.size .u8 A xs) => G3.out W w.heap.size (k : Int) (by omega) h
        rw [hdz] at g4
        generalize zs.getD k 0 = z at *
        have G4 := Lib.hid g4
        clear hc1 hc2 hdz g4
        go_wp2_with fail
        go_quiet ((go_at_call 15; exact Calls.quiet_of (G4.out _ hr3)))
        go_wp2
        go_roundw
        case rel => exact ⟨k + 1, by omega, by go_num, below_draws hbr _⟩
        case measure => simp [intOf]; omega
      · have g4 := fun W (h : Holds W w.heap.size .u8 A xs) => G3.out W w.heap.size i hib h
        by_cases hi0 : 0 ≤ i
        · obtain ⟨q, rfl⟩ := Int.eq_ofNat_of_zero_le hi0
          by_cases hi1 : q < zs.length
          · obtain ⟨b2, o2, rfl, hbl2, hc2⟩ := (hr2.below hbr) (by omega)
            have e2 := hc2 q hi1
            have hdz : digOr zs q = zs.getD q 0 := by unfold digOr; rw [if_pos (by omega)]; simp [List.getD]
            rw [hdz] at g4
            generalize zs.getD q 0 = z at *
            have G4 := Lib.hid g4
            clear hc2 hdz g4
            go_wp2_with (first
              | (go_at_call 15; refine (G4.out _ hr3).mono ?_; rintro e w4 ⟨rfl, n4, rfl⟩)
              | (go_at_call 8; refine (awake_any _).mono ?_; rintro e w5 ⟨rfl, hb5⟩))
            go_ret
            exact ⟨rfl, hb12.trans ((below_draws hbr n4).trans (hb5.mono hbr.size) |>.mono hb12.size)⟩
          · have hdz : digOr zs q = 0 := by unfold digOr; rw [if_neg (by omega)]
            rw [hdz] at g4
            have G4 := Lib.hid g4
            clear hdz g4
            go_wp2_with (first
              | (go_at_call 15; refine (G4.out _ hr3).mono ?_; rintro e w4 ⟨rfl, n4, rfl⟩)
              | (go_at_call 8; refine (awake_any _).mono ?_; rintro e w5 ⟨rfl, hb5⟩))
            go_ret
            exact ⟨rfl, hb12.trans ((below_draws hbr n4).trans (hb5.mono hbr.size) |>.mono hb12.size)⟩
        · have hdz : digOr zs i = 0 := by unfold digOr; rw [if_neg (by omega)]
          rw [hdz] at g4
          have G4 := Lib.hid g4
          clear hdz g4
          go_wp2_with (first
            | (go_at_call 15; refine (G4.out _ hr3).mono ?_; rintro e w4 ⟨rfl, n4, rfl⟩)
            | (go_at_call 8; refine (awake_any _).mono ?_; rintro e w5 ⟨rfl, hb5⟩))
          go_ret
          exact ⟨rfl, hb12.trans ((below_draws hbr n4).trans (hb5.mono hbr.size) |>.mono hb12.size)⟩
  · go_enter Try.func5, Try.ntmps5
    go_wp2_with (go_at_call 8; refine (awake_any _).mono ?_; rintro e w1 ⟨rfl, hb1⟩)
    go_ret
    exact ⟨rfl, hb1⟩
end Go.Proofs.Ytcppceonflkihaa.OctetDigits
