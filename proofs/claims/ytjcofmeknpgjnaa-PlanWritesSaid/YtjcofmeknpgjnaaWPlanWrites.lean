/-
  PlanWrites: the walk: whether steps are right, and their writing, are the document's; it is got as they were.
-/
import Derived.Test.YtjcofmeknpgjnaaPlP2
import Derived.Test.YtjcofmeknpgjnaaPlQ
import Derived.Test.YtjcofmeknpgjnaaPlH
import Derived.Test.YtjcofmeknpgjnaaPlDg
import Derived.Lib.QuietBelow
namespace Go.Proofs.Ytjcofmeknpgjnaa.PlanWrites
open Go.ChangeShapes Go.WideShapes Go.ChangeAt Go.RowKit Go.Proofs.Ytjcofmeknpgjnaa.Kit Go.Proofs.Ytjcofmeknpgjnaa.Pl

theorem getA_of {ss : List Stp} (h : ss.all rightS = true) : getA (putB ss) (putB ss).length = (ss.map sqS, 0) := by
  have h1 := right_sq ss ▸ h
  have h2 := putsQ_three _ h1
  unfold getA
  rw [if_neg (by omega), putB_sq, getG_of _ _ h1 (by omega)]
  rfl
theorem getA_less (xs : List Int) : getA xs (xs.length - 1) = ([], 12) := by
  unfold getA
  rw [if_pos (by omega)]

set_option maxRecDepth 100000 in
set_option maxHeartbeats 6400000 in
theorem walk (A : Option Addr) (ss : List Stp) (c : Nat) (w : World) (hc : ss.length ≤ c) (hm : c ≤ maxLen) (hr : HoldsE (StpIn .u8 .i64 .i64 w w.heap.size) 4 w w.heap.size A ss) :
    Calls Try.prog 3 #[.slice A ss.length c] w fun e w' => e = .returned (.bool true) ∧ Below w.heap.size w w' := by
  have hr : HoldsS w A ss := hr
  have G := Lib.hid (great_any A ss c w hc hm hr)
  cases hg : greatB ss with
  | true =>
    rw [hg] at G
    go_enter Try.func3, Try.ntmps3
    go_wp2_with (first
      | (go_at_call 7; refine G.out.mono ?_; rintro e w1 ⟨rfl, hb1⟩)
      | (go_at_call 8; refine (awake_any _).mono ?_; rintro e w2 ⟨rfl, hb2⟩))
    go_ret
    exact ⟨rfl, hb1.trans (hb2.mono hb1.size)⟩
  | false =>
    rw [hg] at G
    have hl := (great_no hg).1
    clear hg
    go_enter Try.func3, Try.ntmps3
    go_wp2_with (go_at_call 7; refine G.out.mono ?_; rintro e w1 ⟨rfl, hb1⟩)
    have hmx := hm
    unfold maxLen at hm
    go_loopw [3] (fun s wr => ∃ i : Nat, i ≤ ss.length ∧ s = .int .i64 i ∧ Below w.heap.size w wr) (fun s _ => ss.length - (intOf s).toNat)
    case atStart => exact ⟨0, Nat.zero_le _, rfl, hb1⟩
    case round =>
      obtain ⟨i, hi, rfl, hb⟩ := hrel
      by_cases hlt : i < ss.length
      · obtain ⟨b, off, rfl, hbl, c0, c1, c2, c3, _, _, _, _, _, _, _⟩ := stepAt (steps_below hr hb) hlt
        have G1 := fun W => right_any ss[i].a ss[i].b ss[i].x ss[i].A ss[i].zs.length ss[i].cap W
        have G2 := fun W => rright_any ss[i].a ss[i].b ss[i].x ss[i].A ss[i].zs.length ss[i].cap W
        generalize rightB ss[i].a ss[i].b ss[i].x ss[i].zs.length = M at *
        generalize ss[i] = s at *
        obtain ⟨a, n, x, Az, cz, us⟩ := s
        simp only at c0 c1 c2 c3 G1 G2
        have G1 := Lib.hid G1
        have G2 := Lib.hid G2
        have k0 := cell_regrown c0
        have k1 := cell_regrown c1
        have k2 := cell_regrown c2
        have k3 := cell_regrown c3
        have hM : (M != M) = false := by simp
        clear hr G
        go_upto_region 6 with (fail)
        refine wp_region_quiet_below (by kernel_rfl) (by kernel_rfl) ?_
        repeat (quiet_step (first | exact Calls.regrown_of (G1.out _) | exact Calls.regrown_of (G2.out _)))
        refine wpQuiet_nil ?_
        intro _ hw'
        obtain ⟨⟨dq, osq⟩, hw''⟩ := hw'
        have hbq := below_regrown wr dq osq
        subst hw''
        go_wp2_with fail
        go_roundw
        case rel => exact ⟨i + 1, by omega, by go_num, hb.trans (hbq.mono hb.size)⟩
        case measure => simp [intOf] <;> omega
      · obtain rfl : i = ss.length := by omega
        have hrw := holdsS_later hr hb
        cases hall : ss.all rightS with
        | false =>
          have GP := Lib.hid (put_no A ss c wr hc hmx hrw hall)
          have GR := Lib.hid (fun W (h : HoldsS W A ss) => rput_any A ss c W (by omega) hc hmx h [] 3 (.inl ⟨hall, rfl, rfl⟩))
          have GS := fun W (h : HoldsS W A ss) => size_any A ss c W (by omega) hc hmx h
          simp only [hall] at GS
          have GS := Lib.hid GS
          clear G hall
          go_wp2_with (first
            | (go_at_call 11; refine GP.out.mono ?_; rintro e w2 ⟨rfl, hb2⟩; have hr2 := holdsS_later hrw hb2)
            | (go_at_call 12; refine (GR.out _ hr2).mono ?_; rintro e w3 ⟨A3, c3, rfl, hh3, hl3, hm3, hb3⟩; have hr3 := holdsS_later hr2 hb3; have f1 : (convert 26 9 (.slice none 0 0)).run Try.prog w3 = .ok (.string (strOfNums [])) w3 := (conv_any w3 none [] 0 0 Holds.nil); have f2 : (convert 26 9 (.slice A3 0 c3)).run Try.prog w3 = .ok (.string (strOfNums [])) w3 := (conv_any w3 A3 [] c3 _ hh3))
            | (go_at_call 13; refine (GS.out _ hr3).mono ?_; rintro e w4 ⟨rfl, hb4⟩)
            | (go_at_call 8; refine (awake_any _).mono ?_; rintro e w5 ⟨rfl, hb5⟩))
          go_ret
          have h2 := hb.trans (hb2.mono hb.size)
          have h3 := h2.trans (hb3.mono h2.size)
          have h4 := h3.trans (hb4.mono h3.size)
          exact ⟨rfl, h4.trans (hb5.mono h4.size)⟩
        | true =>
          have hA := getA_of hall
          have hbd := putB_bd ss hall
          have hoc := putB_octets hall (holdsS_octets hr)
          have GP := put_yes A ss c wr (by omega) hc hmx hrw hall
          have GR := fun W (h : HoldsS W A ss) => rput_any A ss c W (by omega) hc hmx h (putB ss) 0 (.inr ⟨hall, rfl, rfl⟩)
          have GS := fun W (h : HoldsS W A ss) => size_any A ss c W (by omega) hc hmx h
          simp only [hall, if_true] at GS
          unfold PutsB at GP
          generalize putB ss = ps at *
          have GG := fun A2 c2 W (hc : ps.length ≤ c2) (hm : c2 ≤ maxLen) (h : Holds W W.heap.size .u8 A2 ps) => get_any A2 ps c2 ps.length W (by omega) hc hm hoc h
          simp only [hA] at GG
          have GL := fun A2 c2 W (hc : ps.length ≤ c2) (hm : c2 ≤ maxLen) (h : Holds W W.heap.size .u8 A2 ps) => get_any A2 ps c2 (ps.length - 1) W (by omega) hc hm hoc h
          simp only [getA_less] at GL
          have GP := Lib.hid GP
          have GR := Lib.hid GR
          have GS := Lib.hid GS
          have GG := Lib.hid GG
          have GL := Lib.hid GL
          have hpl : ps.length ≤ 300000 := by omega
          clear G hall hA hoc hbd
          go_wp2_with (first
            | (go_at_call 11; refine GP.out.mono ?_; rintro e w2 ⟨A2, c2, rfl, own2, hb2⟩; have hr2 := holdsS_later hrw hb2; obtain ⟨A9, c9, he9, hl9, hm9, hh2⟩ := own2.opened; injection he9 with e1 e2 e3; subst e1 e3; clear e2)
            | (go_at_call 12; refine (GR.out _ hr2).mono ?_; rintro e w3 ⟨A3, c3, rfl, hh3, hl3, hm3, hb3⟩; have hr3 := holdsS_later hr2 hb3; have hh3' := (hh2.below hb3).more hb3.size; have f1 := conv_any w3 A2 ps c2 _ hh3'; have f2 := conv_any w3 A3 ps c3 _ hh3)
            | (go_at_call 13; refine (GS.out _ hr3).mono ?_; rintro e w4 ⟨rfl, hb4⟩; have hr4 := holdsS_later hr3 hb4; have hh4 := (hh3'.below hb4).more hb4.size)
            | (have _t := GG; go_at_call 14; refine (GG.out _ _ _ hl9 hm9 hh4).mono ?_; clear _t; rintro e w5 ⟨A5, c5, s5, rfl, hs5, hl5, hm5, hr5, hb5⟩; have hr5' := holdsS_later hr4 hb5; have hh5 := (hh4.below hb5).more hb5.size; have HS5 := Lib.hid hs5; clear hs5 GG)
            | (have _t := GL; go_at_call 14; refine (GL.out _ _ _ hl9 hm9 hh5).mono ?_; clear _t; rintro e w6 ⟨A6, c6, s6, rfl, hs6, hl6, hm6, hr6, hb6⟩; have hr6' := holdsS_later hr5' hb6; have hr6 := holdsS_later hr5 hb6; clear hs6 GL)
            | (go_at_call 15; refine (same_any A5 s5 c5 A ss c _ HS5.out (by have := congrArg List.length HS5.out; simp at this; omega) hl5 hm5 hc hmx hr6 hr6').mono ?_; rintro e w7 ⟨rfl, hb7⟩)
            | (go_at_call 8; refine (awake_any _).mono ?_; rintro e w8 ⟨rfl, hb8⟩))
          go_ret
          have h2 := hb.trans (hb2.mono hb.size)
          have h3 := h2.trans (hb3.mono h2.size)
          have h4 := h3.trans (hb4.mono h3.size)
          have h5 := h4.trans (hb5.mono h4.size)
          have h6 := h5.trans (hb6.mono h5.size)
          have h7 := h6.trans (hb7.mono h6.size)
          exact ⟨rfl, h7.trans (hb8.mono h7.size)⟩
end Go.Proofs.Ytjcofmeknpgjnaa.PlanWrites
