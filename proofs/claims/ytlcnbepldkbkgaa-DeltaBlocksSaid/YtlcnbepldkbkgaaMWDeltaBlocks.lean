/-
  DeltaBlocks: the walk: how many blocks an image has, the bytes of any one, its literal plan, and how long a plan's writing may be, are the document's.
-/
import Derived.Test.YtlcnbepldkbkgaaMDlG
import Derived.Test.YtlcnbepldkbkgaaMGDcks7
import Derived.Deep.RegionWith
import Derived.Deep.RegionLaw
import Derived.Deep.DeepCutAuto
namespace Go.Proofs.Ytlcnbepldkbkgaa.DeltaBlocks
open Go.ChangeShapes Go.WideShapes Go.ChangeAt Go.RowKit Go.Proofs.Ytlcnbepldkbkgaa.Kit Go.Proofs.Ytlcnbepldkbkgaa.Dl Go.Proofs.Ytlcnbepldkbkgaa.Pl

theorem steps_more {k0 k1 k2 : IntKind} {w : World} {B B' : Nat} {A : Option Addr} {ss : List Stp} (h : HoldsE (StpIn k0 k1 k2 w B) 4 w B A ss) (hB : B ≤ B') : HoldsE (StpIn k0 k1 k2 w B') 4 w B' A ss := by
  intro hx
  obtain ⟨b, off, e, hb, hc⟩ := h hx
  refine ⟨b, off, e, by omega, fun i r hi => ?_⟩
  obtain ⟨cs, ⟨r0, r1, r2, r3, r4, r5, r6, r7⟩, h2, h3⟩ := hc i r hi
  exact ⟨cs, ⟨r0, r1, r2, r3, r4, r5, r6, r7.more hB⟩, h2, h3⟩
theorem lit_holds {w3 : World} {A3 : Option Addr} {c3 : Nat} {xs : List Int} (h1 : 1 ≤ xs.length) (h2 : xs.length ≤ 4096) (ho : Octets xs) (hh : Holds w3 w3.heap.size .u8 A3 xs) (hk : xs.length ≤ c3) (hm : c3 ≤ maxLen) :
    HoldsS (w3.alloc (.cells #[.int .u8 1, .int .i64 0, .int .i64 xs.length, .slice A3 xs.length c3] 30)) (some ⟨w3.heap.size, 0, none⟩) [⟨1, 0, xs.length, A3, c3, xs⟩] := by
  have hB : Below w3.heap.size w3 (w3.alloc (.cells #[.int .u8 1, .int .i64 0, .int .i64 xs.length, .slice A3 xs.length c3] 30)) := (Below.refl _ w3).alloc (Nat.le_refl _) _
  have own : OwnSteps (w3.alloc (.cells #[.int .u8 1, .int .i64 0, .int .i64 xs.length, .slice A3 xs.length c3] 30)) 0 (.slice (some ⟨w3.heap.size, 0, none⟩) 1 1) [⟨1, 0, xs.length, A3, c3, xs⟩] :=
    World.ownsRow_lit (size := 4) w3 #[.int .u8 1, .int .i64 0, .int .i64 xs.length, .slice A3 xs.length c3] 1 (Nat.zero_le _) (by unfold maxLen; omega) rfl
  refine (own.holds fun s hs => ?_).2.2.2
  obtain rfl : s = _ := by simpa using hs
  refine ⟨⟨rfl, rfl, ?_, hk, hm, ho⟩, (hh.below hB).more hB.size⟩
  show (decide (-9223372036854775808 ≤ (xs.length : Int)) && decide ((xs.length : Int) ≤ 9223372036854775807)) = true
  rw [decide_eq_true (by omega), decide_eq_true (by omega)]; rfl

theorem fin3 {w w3 w6 w9 : World} {o1 o2 : Obj} (h : Below w.heap.size w w3) (h6 : Below ((w3.alloc o1).alloc o2).heap.size ((w3.alloc o1).alloc o2) w6) (h9 : Below w6.heap.size w6 w9) : Below w.heap.size w w9 := by
  have h4 := h.alloc h.size o1
  have h5 := h4.alloc h4.size o2
  have h7 := h5.trans (h6.mono h5.size)
  exact h7.trans (h9.mono h7.size)
theorem same_of {w wx w3 : World} {A A3 : Option Addr} {c c3 : Nat} {xs : List Int} (hr : Holds w w.heap.size .u8 A xs) (hbx : Below w.heap.size w wx) (h2 : ¬ xs.length < 1) (h3 : ¬ 4096 < xs.length) (ho : Octets xs) (hl : xs.length ≤ c) (hm : c ≤ maxLen) (own3 : Own w3 wx.heap.size 5 .u8 (.slice A3 xs.length c3) xs) (kk1 : xs.length ≤ c3) (kk2 : c3 ≤ maxLen) (hb3 : Below wx.heap.size wx w3) :
    Calls Try.prog 12 #[.slice (some ⟨w3.heap.size, 0, none⟩) 1 1, .slice (some ⟨w3.heap.size + 1, 0, none⟩) 1 1] ((w3.alloc (.cells #[.int .u8 1, .int .i64 0, .int .i64 xs.length, .slice A3 xs.length c3] 30)).alloc (.cells #[.int .u8 1, .int .i64 0, .int .i64 xs.length, .slice A xs.length c] 30)) (Gives (.bool true) ((w3.alloc (.cells #[.int .u8 1, .int .i64 0, .int .i64 xs.length, .slice A3 xs.length c3] 30)).alloc (.cells #[.int .u8 1, .int .i64 0, .int .i64 xs.length, .slice A xs.length c] 30))) := by
  have hB1 : Below w3.heap.size w3 (w3.alloc (.cells #[.int .u8 1, .int .i64 0, .int .i64 xs.length, .slice A3 xs.length c3] 30)) := (Below.refl _ w3).alloc (Nat.le_refl _) _
  have hB2 := (Below.refl _ (w3.alloc (.cells #[.int .u8 1, .int .i64 0, .int .i64 xs.length, .slice A3 xs.length c3] 30))).alloc (Nat.le_refl _) (.cells #[.int .u8 1, .int .i64 0, .int .i64 xs.length, .slice A xs.length c] 30)
  have hx1 : Holds w3 w3.heap.size .u8 A3 xs := by
    obtain ⟨_, _, e1, _, _, hh⟩ := own3.opened
    injection e1 with e2 e3 e4
    subst e2
    exact hh
  have q1 := lit_holds (A3 := A3) (c3 := c3) (by omega) (by omega) ho hx1 kk1 kk2
  have h3 := hbx.trans (hb3.mono hbx.size)
  have hx2 : Holds (w3.alloc (.cells #[.int .u8 1, .int .i64 0, .int .i64 xs.length, .slice A3 xs.length c3] 30)) (w3.alloc (.cells #[.int .u8 1, .int .i64 0, .int .i64 xs.length, .slice A3 xs.length c3] 30)).heap.size .u8 A xs :=
    ((((hr.below h3).more h3.size).below hB1).more hB1.size)
  have q2 := lit_holds (A3 := A) (c3 := c) (by omega) (by omega) ho hx2 hl hm
  rw [show (w3.alloc (.cells #[.int .u8 1, .int .i64 0, .int .i64 xs.length, .slice A3 xs.length c3] 30)).heap.size = w3.heap.size + 1 by simp] at q2
  exact same_any _ [⟨1, 0, xs.length, A3, c3, xs⟩] 1 _ [⟨1, 0, xs.length, A, c, xs⟩] 1 _ rfl (by simp) (by simp) (by unfold maxLen; omega) (by simp) (by unfold maxLen; omega) (steps_more (steps_below q1 hB2) hB2.size) q2

set_option maxRecDepth 100000 in
set_option maxHeartbeats 12800000 in
theorem walk (A : Option Addr) (xs : List Int) (c : Nat) (n b i : Int) (w : World) (hl : xs.length ≤ c) (hm : c ≤ maxLen) (ho : Octets xs) (hr : Holds w w.heap.size .u8 A xs)
    (wn : (Lit.int .i64 n).wf = true) (wb : (Lit.int .i64 b).wf = true) (wi : (Lit.int .i64 i).wf = true) :
    Calls Try.prog 3 #[.slice A xs.length c, .int .i64 n, .int .i64 b, .int .i64 i] w fun e w' => e = .returned (.bool true) ∧ Below w.heap.size w w' := by
  have hn : In64 n := bounds_i64 wn
  have hb : In64 b := bounds_i64 wb
  have hi : In64 i := bounds_i64 wi
  have GA := Lib.hid (fun W => Dl.awake_any W)
  have HM := Lib.hid hm
  unfold maxLen at hm
  by_cases h1 : 5000 < xs.length
  · have d1 : decide ((5000 : Int) < (xs.length : Int)) = true := decide_eq_true (by omega)
    have d2 : decide (5000 < xs.length) = true := decide_eq_true h1
    go_enter Try.func3, Try.ntmps3
    go_wp2_with (go_at_call 6; (with_reducible refine (GA.out _).mono ?_); rintro e w1 ⟨rfl, hb1⟩)
    go_ret
    exact ⟨rfl, hb1⟩
  have d1 : decide ((5000 : Int) < (xs.length : Int)) = false := decide_eq_false (by omega)
  have d2 : decide (5000 < xs.length) = false := decide_eq_false h1
  have GB := Lib.hid (fun W => blocks_any n b hn hb W)
  have GR := Lib.hid (fun W => rblocks_any n b hn hb W)
  have GK := Lib.hid (fun W (hW : Below w.heap.size w W) => block_any A xs c b i W hb hi (by omega) hl ((hr.below hW).more hW.size))
  have GQ := Lib.hid (fun W (hW : Below w.heap.size w W) => rblock_any A xs c b i W hb hi (by omega) hl ((hr.below hW).more hW.size))
  have GM := Lib.hid (fun W => most_any b W)
  obtain ⟨K, hK⟩ : ∃ K, blocksI n b = K := ⟨_, rfl⟩
  rw [hK] at GB GR
  clear hK
  have h00 : Below w.heap.size w w.drew := (Below.refl w.heap.size w).drew
  have H00 := Lib.hid h00
  have HR := Lib.hid hr
  clear h00 hr wn wb wi
  generalize blockL xs b i = X at *
  go_enter Try.func3, Try.ntmps3
  go_wp2_with fail
  go_cut [34] (fun s wx => s = .bool false ∧ Below w.heap.size w wx)
  case first =>
    go_region_with (first
      | (go_at_call 7; (with_reducible refine (GB.out _).mono ?_); rintro e w1 ⟨rfl, rfl⟩)
      | (go_at_call 8; (with_reducible refine (GR.out _).mono ?_); rintro e w1 ⟨rfl, rfl⟩)
      | (go_at_call 9; refine (GK.out _ H00.out).mono ?_; rintro e w3 ⟨v3, rfl, own3, hb3⟩; obtain ⟨A3, c3, rfl, _, _, hh3⟩ := own3.opened; have f3 := conv_any w3 A3 X c3 _ hh3; have HB3 := Lib.hid (H00.out.trans (hb3.mono H00.out.size)); have HH3 := Lib.hid hh3; clear own3 hb3 hh3)
      | (go_at_call 10; have _t := HB3; clear _t; refine (GQ.out _ HB3.out).mono ?_; rintro e w4 ⟨A4, c4, rfl, hh4, hb4⟩; have f4 := conv_any w4 A4 X c4 _ hh4; have f5 := conv_any w4 A3 X c3 _ (HH3.out.below hb4); have HB4 := Lib.hid (HB3.out.trans (hb4.mono HB3.out.size)); clear hh4 hb4))
    all_goals (go_wp2_with fail; go_meet; exact ⟨rfl, HB4.out⟩)
  case rest =>
    obtain ⟨rfl, hbx⟩ := hcut
    have HBX := Lib.hid hbx
    clear hbx
    unfold In64 at hb
    by_cases h2 : xs.length < 1
    · have e0 : ((xs.length : Int) == 0) = true := by rw [beq_iff_eq]; omega
      have e1 : (xs.length == 0) = true := by rw [beq_iff_eq]; omega
      have GL := Lib.hid (fun W => literal_no A xs c W (by omega) (.inl h2))
      by_cases hb0 : b < 128
      · have hbl : b < 128 := hb0
        have b1 : decide (128 ≤ b) = false := decide_eq_false (by omega)
        have hmo : mostI b = 0 := if_neg (by unfold isBlkB; rw [b1]; simp)
        rw [hmo] at GM
        clear hmo
        go_wp2_with (first
          | (go_at_call 11; (with_reducible refine (GL.out _).mono ?_); rintro e w5 ⟨rfl, rfl⟩)
          | (go_at_call 13; (with_reducible refine (GM.out _).mono ?_); rintro e w8 ⟨rfl, rfl⟩)
          | (go_at_call 6; (with_reducible refine (GA.out _).mono ?_); rintro e w9 ⟨rfl, hb9⟩))
        go_ret
        exact ⟨rfl, HBX.out.trans (hb9.mono HBX.out.size)⟩
      by_cases hb3 : 4096 < b
      · have b1 : decide (128 ≤ b) = true := decide_eq_true (by omega)
        have b2 : decide (b ≤ 4096) = false := decide_eq_false (by omega)
        have hmo : mostI b = 0 := if_neg (by unfold isBlkB; rw [b1, b2]; simp)
        rw [hmo] at GM
        clear hmo
        go_wp2_with (first
          | (go_at_call 11; (with_reducible refine (GL.out _).mono ?_); rintro e w5 ⟨rfl, rfl⟩)
          | (go_at_call 13; (with_reducible refine (GM.out _).mono ?_); rintro e w8 ⟨rfl, rfl⟩)
          | (go_at_call 6; (with_reducible refine (GA.out _).mono ?_); rintro e w9 ⟨rfl, hb9⟩))
        go_ret
        exact ⟨rfl, HBX.out.trans (hb9.mono HBX.out.size)⟩
      have b1 : decide (128 ≤ b) = true := decide_eq_true (by omega)
      have b2 : decide (b ≤ 4096) = true := decide_eq_true (by omega)
      have hmo : mostI b = b + 12 := if_pos (by unfold isBlkB; rw [b1, b2]; rfl)
      rw [hmo] at GM
      have bw : IntKind.i64.wrap (b + 12) = b + 12 := IntWalk.i64_in _ (by omega)
      clear hmo
      go_wp2_with (first
        | (go_at_call 11; (with_reducible refine (GL.out _).mono ?_); rintro e w5 ⟨rfl, rfl⟩)
        | (go_at_call 13; (with_reducible refine (GM.out _).mono ?_); rintro e w8 ⟨rfl, rfl⟩)
        | (go_at_call 6; (with_reducible refine (GA.out _).mono ?_); rintro e w9 ⟨rfl, hb9⟩))
      go_ret
      exact ⟨rfl, HBX.out.trans (hb9.mono HBX.out.size)⟩
    have e0 : ((xs.length : Int) == 0) = false := by rw [beq_eq_false_iff_ne]; omega
    have e1 : (xs.length == 0) = false := by rw [beq_eq_false_iff_ne]; omega
    by_cases h3 : 4096 < xs.length
    · have e2 : decide ((4096 : Int) < (xs.length : Int)) = true := decide_eq_true (by omega)
      have e3 : decide (4096 < xs.length) = true := decide_eq_true h3
      have GL := Lib.hid (fun W => literal_no A xs c W (by omega) (.inr h3))
      by_cases hb0 : b < 128
      · have hbl : b < 128 := hb0
        have b1 : decide (128 ≤ b) = false := decide_eq_false (by omega)
        have hmo : mostI b = 0 := if_neg (by unfold isBlkB; rw [b1]; simp)
        rw [hmo] at GM
        clear hmo
        go_wp2_with (first
          | (go_at_call 11; (with_reducible refine (GL.out _).mono ?_); rintro e w5 ⟨rfl, rfl⟩)
          | (go_at_call 13; (with_reducible refine (GM.out _).mono ?_); rintro e w8 ⟨rfl, rfl⟩)
          | (go_at_call 6; (with_reducible refine (GA.out _).mono ?_); rintro e w9 ⟨rfl, hb9⟩))
        go_ret
        exact ⟨rfl, HBX.out.trans (hb9.mono HBX.out.size)⟩
      by_cases hb3 : 4096 < b
      · have b1 : decide (128 ≤ b) = true := decide_eq_true (by omega)
        have b2 : decide (b ≤ 4096) = false := decide_eq_false (by omega)
        have hmo : mostI b = 0 := if_neg (by unfold isBlkB; rw [b1, b2]; simp)
        rw [hmo] at GM
        clear hmo
        go_wp2_with (first
          | (go_at_call 11; (with_reducible refine (GL.out _).mono ?_); rintro e w5 ⟨rfl, rfl⟩)
          | (go_at_call 13; (with_reducible refine (GM.out _).mono ?_); rintro e w8 ⟨rfl, rfl⟩)
          | (go_at_call 6; (with_reducible refine (GA.out _).mono ?_); rintro e w9 ⟨rfl, hb9⟩))
        go_ret
        exact ⟨rfl, HBX.out.trans (hb9.mono HBX.out.size)⟩
      have b1 : decide (128 ≤ b) = true := decide_eq_true (by omega)
      have b2 : decide (b ≤ 4096) = true := decide_eq_true (by omega)
      have hmo : mostI b = b + 12 := if_pos (by unfold isBlkB; rw [b1, b2]; rfl)
      rw [hmo] at GM
      have bw : IntKind.i64.wrap (b + 12) = b + 12 := IntWalk.i64_in _ (by omega)
      clear hmo
      go_wp2_with (first
        | (go_at_call 11; (with_reducible refine (GL.out _).mono ?_); rintro e w5 ⟨rfl, rfl⟩)
        | (go_at_call 13; (with_reducible refine (GM.out _).mono ?_); rintro e w8 ⟨rfl, rfl⟩)
        | (go_at_call 6; (with_reducible refine (GA.out _).mono ?_); rintro e w9 ⟨rfl, hb9⟩))
      go_ret
      exact ⟨rfl, HBX.out.trans (hb9.mono HBX.out.size)⟩
    have e2 : decide ((4096 : Int) < (xs.length : Int)) = false := decide_eq_false (by omega)
    have e3 : decide (4096 < xs.length) = false := decide_eq_false h3
    have GL := Lib.hid (literal_yes A xs c _ (by omega) (by omega) ((HR.out.below HBX.out).more HBX.out.size))
    by_cases hb0 : b < 128
    · have hbl : b < 128 := hb0
      have b1 : decide (128 ≤ b) = false := decide_eq_false (by omega)
      have hmo : mostI b = 0 := if_neg (by unfold isBlkB; rw [b1]; simp)
      rw [hmo] at GM
      clear hmo
      go_wp2_with (first
        | (go_at_call 11; go_loud (refine GL.out.mono ?_; rintro e w5 ⟨A3, c3, w3, rfl, rfl, own3, kk1, kk2, hb3⟩; have HSM := Lib.hid (same_of HR.out HBX.out h2 h3 ho hl HM.out own3 kk1 kk2 hb3); have HB3 := Lib.hid (HBX.out.trans (hb3.mono HBX.out.size)); clear own3 hb3 kk2))
        | (go_at_call 12; refine HSM.out.mono ?_; rintro e w6 ⟨rfl, hb6⟩)
        | (go_at_call 13; (with_reducible refine (GM.out _).mono ?_); rintro e w8 ⟨rfl, rfl⟩)
        | (go_at_call 6; (with_reducible refine (GA.out _).mono ?_); rintro e w9 ⟨rfl, hb9⟩))
      go_ret
      exact ⟨rfl, fin3 HB3.out hb6 hb9⟩
    by_cases hb3 : 4096 < b
    · have b1 : decide (128 ≤ b) = true := decide_eq_true (by omega)
      have b2 : decide (b ≤ 4096) = false := decide_eq_false (by omega)
      have hmo : mostI b = 0 := if_neg (by unfold isBlkB; rw [b1, b2]; simp)
      rw [hmo] at GM
      clear hmo
      go_wp2_with (first
        | (go_at_call 11; go_loud (refine GL.out.mono ?_; rintro e w5 ⟨A3, c3, w3, rfl, rfl, own3, kk1, kk2, hb3⟩; have HSM := Lib.hid (same_of HR.out HBX.out h2 h3 ho hl HM.out own3 kk1 kk2 hb3); have HB3 := Lib.hid (HBX.out.trans (hb3.mono HBX.out.size)); clear own3 hb3 kk2))
        | (go_at_call 12; refine HSM.out.mono ?_; rintro e w6 ⟨rfl, hb6⟩)
        | (go_at_call 13; (with_reducible refine (GM.out _).mono ?_); rintro e w8 ⟨rfl, rfl⟩)
        | (go_at_call 6; (with_reducible refine (GA.out _).mono ?_); rintro e w9 ⟨rfl, hb9⟩))
      go_ret
      exact ⟨rfl, fin3 HB3.out hb6 hb9⟩
    have b1 : decide (128 ≤ b) = true := decide_eq_true (by omega)
    have b2 : decide (b ≤ 4096) = true := decide_eq_true (by omega)
    have hmo : mostI b = b + 12 := if_pos (by unfold isBlkB; rw [b1, b2]; rfl)
    rw [hmo] at GM
    have bw : IntKind.i64.wrap (b + 12) = b + 12 := IntWalk.i64_in _ (by omega)
    clear hmo
    go_wp2_with (first
      | (go_at_call 11; go_loud (refine GL.out.mono ?_; rintro e w5 ⟨A3, c3, w3, rfl, rfl, own3, kk1, kk2, hb3⟩; have HSM := Lib.hid (same_of HR.out HBX.out h2 h3 ho hl HM.out own3 kk1 kk2 hb3); have HB3 := Lib.hid (HBX.out.trans (hb3.mono HBX.out.size)); clear own3 hb3 kk2))
      | (go_at_call 12; refine HSM.out.mono ?_; rintro e w6 ⟨rfl, hb6⟩)
      | (go_at_call 13; (with_reducible refine (GM.out _).mono ?_); rintro e w8 ⟨rfl, rfl⟩)
      | (go_at_call 6; (with_reducible refine (GA.out _).mono ?_); rintro e w9 ⟨rfl, hb9⟩))
    go_ret
    exact ⟨rfl, fin3 HB3.out hb6 hb9⟩
end Go.Proofs.Ytlcnbepldkbkgaa.DeltaBlocks
