/-
  JournalKeeps: the walk: whatever records are written, each is the last one then, with the next number, and is there when it is opened anew.
-/
import Derived.Test.YtpnodocjpedcmaaDoorMGJeps24
namespace Go.Proofs.YtpnodocjpedcmaaDoor.JournalKeeps
open Go.ChangeShapes Go.WideShapes Go.ChangeAt Go.RowKit Go.Proofs.YtpnodocjpedcmaaDoor.Kit Go.Proofs.YtpnodocjpedcmaaDoor.Jr
open Go.Proofs.YtpnodocjpedcmaaDoor.Sec (new_any Dev Dv DvAt DSet Sl NewDev)
open Go.Proofs.YtpnodocjpedcmaaDoor.Sha (LaidS)

theorem range_below {w w' : World} {B b f : Nat} {cs : List Value} (h : w.rangeAt b f cs) (hb : Below B w w') (hlt : b < B) : w'.rangeAt b f cs :=
  fun j v hj => (hb.cell (p := ⟨b, f + j, none⟩) hlt).trans (h j v hj)

set_option maxRecDepth 100000 in
set_option maxHeartbeats 12800000 in
theorem walk (A : Option Addr) (rs : List Rec) (c : Nat) (w : World) (hl : rs.length ≤ c) (hmx : c ≤ maxLen) (hr : HoldsE RecIn 44 w w.heap.size A rs) (hL : LaidS w) :
    Calls Tryd.prog 4 #[.slice A rs.length c] w fun e w' => e = .returned (.bool true) ∧ Below w.heap.size w w' := by
  have GA := Lib.hid (fun W hB => Jr.awake_any W (hL.below hB))
  have GN := Lib.hid (fun W => new_any (fun _ => True) 128 4 W (by decide) (by decide) (by decide) (by decide))
  have GP := Lib.hid (fun W => places_any W)
  have GO : Hid (∀ W a mk mw, Dev w W a mk mw (Dv.new 128 4) → Calls Tryd.prog 16 #[.pointer (some ⟨a, 0, none⟩), .agg placesV.toArray] W fun e w' => ∃ j p0 p1, e = .returned (.tuple #[.pointer (some ⟨j, 0, none⟩), .int .i64 0]) ∧ JDev w w' a mk mw j p0 p1 (Dv.new 128 4) rec0) := Lib.hid (fun W a mk mw h => open_new h hL)
  have HKS : Hid (∀ W a mk mw j p0 p1, JDev w W a mk mw j p0 p1 (Dv.new 128 4) rec0 → ∃ s0, KAt w W a mk mw j p0 p1 0 0 s0 rec0) := Lib.hid (fun W a mk mw j p0 p1 h => ⟨_, KAt.start h⟩)
  have HL0 := Lib.hid hL
  have HR := Lib.hid hr
  generalize hn0 : Dv.new 128 4 = m0 at GN GO HKS
  generalize hp0 : placesV.toArray = PV at GP GO
  clear hn0 hL hr
  by_cases hg : rs.length ≤ 30
  case neg =>
    have d1 : decide ((30 : Int) < (rs.length : Int)) = true := decide_eq_true (by omega)
    clear hg HKS
    go_enter Tryd.func4, Tryd.ntmps4
    go_wp2_with (first
      | (go_at_call 10; refine (GN.out _).mono ?_; rintro e w1 ⟨a, mk, mw, rfl, D1, hb1, ga, gk, gw⟩; have E1 : Dev w w1 a mk mw m0 := ⟨D1, hb1, ga, gk, gw⟩)
      | (go_at_call 17; (with_reducible refine (GP.out _).mono ?_); rintro e w2 ⟨rfl, hb2⟩; have E2 := E1.below hb2)
      | (have _t := E2; go_at_call 16; (with_reducible refine (GO.out _ a mk mw E2).mono ?_); clear _t; rintro e w3 ⟨j, p0, p1, rfl, J3⟩; have B3 := J3.b)
      | (go_at_call 9; (with_reducible refine (GA.out _ B3).mono ?_); rintro e w4 ⟨rfl, hb4⟩))
    go_ret
    exact ⟨rfl, B3.trans (hb4.mono B3.size)⟩
  case pos =>
    have d1 : decide ((30 : Int) < (rs.length : Int)) = false := decide_eq_false (by omega)
    go_enter Tryd.func4, Tryd.ntmps4
    go_wp2_with (first
      | (go_at_call 10; refine (GN.out _).mono ?_; rintro e w1 ⟨a, mk, mw, rfl, D1, hb1, ga, gk, gw⟩; have E1 : Dev w w1 a mk mw m0 := ⟨D1, hb1, ga, gk, gw⟩)
      | (go_at_call 17; (with_reducible refine (GP.out _).mono ?_); rintro e w2 ⟨rfl, hb2⟩; have E2 := E1.below hb2)
      | (have _t := E2; go_at_call 16; (with_reducible refine (GO.out _ a mk mw E2).mono ?_); clear _t; rintro e w3 ⟨j, p0, p1, rfl, J3⟩; have B3 := J3.b))
    obtain ⟨s0, K3⟩ := HKS.out _ _ _ _ _ _ _ J3
    clear HKS J3 E2 E1 D1 hb1 GN GO d1 ga gk gw hb2
    go_loopw [8, 7] (fun i q W => ∃ (n k : Nat) (s : Dv) (r : Rec), n ≤ rs.length ∧ i = .int .i64 n ∧ q = .int .u64 k ∧ KAt w W a mk mw j p0 p1 n k s r) (fun i _ _ => rs.length - (intOf i).toNat)
    case atStart => exact ⟨0, 0, s0, rec0, Nat.zero_le _, rfl, rfl, K3⟩
    case round =>
      obtain ⟨n, k, s, r, hn, rfl, rfl, K⟩ := hrel
      clear K3 B3
      by_cases hlt : n < rs.length
      case neg =>
        have d2 : decide (n < rs.length) = false := decide_eq_false hlt
        have d3 : decide ((n : Int) < (rs.length : Int)) = false := decide_eq_false (by omega)
        have B := K.g.b
        go_wp2_with (go_at_call 9; (with_reducible refine (GA.out _ B).mono ?_); rintro e w4 ⟨rfl, hb4⟩)
        go_ret
        exact ⟨rfl, B.trans (hb4.mono B.size)⟩
      case pos =>
        obtain ⟨b0, off, rfl, hb0, hra, hox⟩ := recAt (recs_below HR.out K.g.b) hlt
        obtain ⟨x, hx⟩ : ∃ x, rs[n] = x := ⟨_, rfl⟩
        rw [hx] at hra hox
        clear hx
        have d2 : decide (n < rs.length) = true := decide_eq_true hlt
        have d3 : decide ((n : Int) < (rs.length : Int)) = true := decide_eq_true (by omega)
        have d4 : (0 : Int) ≤ (n : Int) := by omega
        have d5 : (n : Int) < (rs.length : Int) := by omega
        have hk := K.k
        have hw1 : IntKind.u64.wrap ((k : Int) + 1) = (k : Int) + 1 := IntWalk.u64_in _ (by omega)
        have hro := K.st.ok
        have GL := Lib.hid (fun W (h : JDev w W a mk mw j p0 p1 s r) => last_dev h hro)
        have HLr := Lib.hid (r.cells_length hro.man)
        have HOr := Lib.hid r.cells_one
        have HLx := Lib.hid (x.cells_length hox.man)
        have HOx := Lib.hid x.cells_one
        have hot : (x.num ((k : Int) + 1)).Ok := Rec.num_ok hox (by omega) (by omega)
        have HLt := Lib.hid ((x.num ((k : Int) + 1)).cells_length hot.man)
        have HS0 := Lib.hid (cells_set0 x ((k : Int) + 1))
        have HX0 : Hid (x.cells[0]? = some (.int .u64 x.seq)) := Lib.hid rfl
        have GM := Lib.hid (fun W => rmay_any (x.num ((k : Int) + 1)) hot W)
        have HNr := Lib.hid (neq_same r hro.man)
        have HNt := Lib.hid (neq_same (x.num ((k : Int) + 1)) hot.man)
        have HK := Lib.hid K
        have G0 := K.g
        have GW : Hid (∀ W, JDev w W a mk mw j p0 p1 s r → (((x.num ((k : Int) + 1)).may = false → Calls Tryd.prog 21 #[.pointer (some ⟨j, 0, none⟩), .agg x.cells.toArray] W fun e W' => e = .returned (.int .i64 3) ∧ Below W.heap.size W W') ∧ ((x.num ((k : Int) + 1)).may = true → Calls Tryd.prog 21 #[.pointer (some ⟨j, 0, none⟩), .agg x.cells.toArray] W fun e W' => e = .returned (.int .i64 0) ∧ TurnsIn (JSet a mk mw j) W W' ∧ ∃ s', KAt w W' a mk mw j p0 p1 (n + 1) (k + 1) s' (x.num ((k : Int) + 1))))) :=
          Lib.hid (fun W h => ⟨fun hm => kwrite_no (HK.out.dev h) (by omega) hox hm HL0.out, fun hm => kwrite_yes (HK.out.dev h) (by omega) hox hm HL0.out⟩)
        clear K hro hox hot
        generalize x.num ((k : Int) + 1) = t at *
        obtain ⟨Lr, hLr⟩ : ∃ L, r.cells = L := ⟨_, rfl⟩
        rw [hLr] at HLr HOr GL HNr
        obtain ⟨Lx, hLx⟩ : ∃ L, x.cells = L := ⟨_, rfl⟩
        rw [hLx] at HLx HOx HS0 HX0 GW hra
        obtain ⟨Lt, hLt⟩ : ∃ L, t.cells = L := ⟨_, rfl⟩
        rw [hLt] at HLt HS0 GM HNt
        obtain ⟨xq, hxq⟩ : ∃ q, x.seq = q := ⟨_, rfl⟩
        rw [hxq] at HX0
        have HLT := Lib.hid hLt
        clear hLr hLx hxq hLt
        have hraH := Lib.hid hra
        clear hra
        go_upto_region 11 with (first
          | (go_at_call 18; (with_reducible refine (GL.out _ G0).mono ?_); rintro e w1 ⟨rfl, hb1⟩; have G1 := G0.below hb1)
          | (have _t := G1; refine wpList_store_blk rfl _ _ _ rfl (ds := Lr) (Block.new w1 50 rec0.cells.toArray) rfl rfl (by rw [HLr.out]; rfl) (by rw [HLr.out]; kernel_rfl) HOr.out ?_; clear _t; intro w2 N2 g2; have b2 : Below w1.heap.size w1 w2 := (below_last w1 _).trans (below_of_grown g2 (below_last w1 _).size fun b hb => by injection hb with hb; omega); have G2 := G1.below b2; have R2 : w2.rangeAt b0 (off + n * 44) Lx := range_below (range_below hraH.out hb1 (Nat.lt_of_lt_of_le hb0 G0.b.size)) b2 (Nat.lt_of_lt_of_le hb0 G1.b.size); clear g2)
          | (have _t := R2; refine wpList_load_midV (by rfl) _ _ rfl b0 (off + n * 44) rfl Lx R2 Tryd.underlying50 rfl (by rw [HLx.out]; kernel_rfl) ?_; clear R2)
          | (have _t := G2; refine wpList_store_blk rfl _ _ _ rfl (ds := Lx) (Block.new w2 50 rec0.cells.toArray) rfl rfl (by rw [HLx.out]; rfl) (by rw [HLx.out]; kernel_rfl) HOx.out ?_; clear _t; intro w3 N3 g3; have b3 : Below w2.heap.size w2 w3 := (below_last w2 _).trans (below_of_grown g3 (below_last w2 _).size fun b hb => by injection hb with hb; omega); have G3 := G2.below b3; have P3 := Block.below N2 b3 (Block.lt N2); clear g3))
        obtain ⟨q3, hq3⟩ : ∃ q, w2.heap.size = q := ⟨_, rfl⟩
        rw [hq3] at N3
        try rw [hq3]
        obtain ⟨q2, hq2⟩ : ∃ q, w1.heap.size = q := ⟨_, rfl⟩
        rw [hq2] at P3
        try rw [hq2]
        have hq3w : w.heap.size ≤ q3 := by rw [← hq3]; exact Nat.le_trans G1.b.size b2.size
        have hq23 : q2 < q3 := by rw [← hq3, ← hq2]; exact Block.lt N2
        clear hq3 hq2 b2 b3 G2 G1 G0 hb1 N2
        have R3 := block_range N3
        have hneq : ((0 : Int) != 0) = false := by decide
        cases hm : t.may with
        | false =>
          have GW3 := Lib.hid ((GW.out w3 G3).1 hm)
          rw [hm] at GM
          clear hm GW
          go_upto_region 12 with (first
            | (refine wpList_load_midV (by rfl) _ _ rfl q3 0 rfl Lx R3 Tryd.underlying50 rfl (by rw [HLx.out]; kernel_rfl) ?_)
            | (go_at_call 21; (with_reducible refine GW3.out.mono ?_); rintro e w4 ⟨rfl, hb4⟩; have G4 := G3.below hb4; have N4 := Block.below N3 hb4 (Block.lt N3); have P4 := Block.below P3 hb4 (Block.lt P3)))
          clear R3 G3 N3 P3 hb4
          have n4 : w4.cell? ⟨q3, 0, none⟩ = some (.int .u64 xq) := (Block.cell N4 0).trans (by simpa using HX0.out)
          have f4 := Block.frozen N4 0
          have G5 := G4.beside N4 hq3w 0 (.int .u64 ((k : Int) + 1))
          have N5 := Block.set_ N4 0 (.int .u64 ((k : Int) + 1))
          rw [HS0.out] at N5
          have P5 := Block.far P4 (p := ⟨q3, 0, none⟩) (by show q2 ≠ q3; omega) (.int .u64 ((k : Int) + 1))
          clear G4 N4 P4
          go_upto_region 13 with fail
          obtain ⟨w5, hw5⟩ : ∃ w5, w5 = w4.setCell ⟨q3, 0, none⟩ (.int .u64 ((k : Int) + 1)) := ⟨_, rfl⟩
          rw [← hw5] at G5 N5 P5 ⊢
          clear hw5 n4 f4
          have R5 := block_range N5
          go_upto_region 14 with (first
            | (refine wpList_load_midV (by rfl) _ _ rfl q3 0 rfl Lt R5 Tryd.underlying50 rfl (by rw [HLt.out]; kernel_rfl) ?_)
            | (go_at_call 22; (with_reducible refine (GM.out _).mono ?_); rintro e w6 ⟨rfl, hb6⟩; have G6 := G5.below hb6; have P6 := Block.below P5 hb6 (Block.lt P5)))
          clear R5 G5 N5 P5 hb6
          have R6 := block_range P6
          have GQ := Lib.hid (fun d os => GL.out _ (G6.below (below_regrown w6 d os)))
          have HN := HNr.out
          refine wp_region_quiet_below (by kernel_rfl) (by kernel_rfl) ?_
          repeat (go_big_quiet_step (fail))
          go_big_quiet_step (exact Calls.regrown_of (GQ.out _ _))
          refine wpQuiet_step (fun K hK => ?_)
          refine qload_row (by rfl) 50 _ (by rfl) q2 0 (by rfl) Lr _ (qrange R6) Tryd.underlying50 (by rfl) (by rw [HLr.out]; kernel_rfl) ?_
          go_simp
          refine hK _ ?_
          clear hK K
          repeat (go_big_quiet_step (fail))
          refine wpQuiet_nil ?_
          intro _ hw'
          obtain ⟨⟨dq, osq⟩, hw''⟩ := hw'
          have hbq := below_regrown w6 dq osq
          subst hw''
          have G7 := G6.below hbq
          generalize Go.Sort.grow (redrawn w6 dq) osq = w7 at *
          clear R6 P6 GQ G6 hbq HN
          go_wp2_with fail
          go_roundw
          case rel => exact ⟨n + 1, k, s, r, hlt, by go_num, rfl, (HK.out.dev G7).more⟩
          case measure => simp [intOf] <;> omega
        | true =>
          have GW3 := Lib.hid ((GW.out w3 G3).2 hm)
          rw [hm] at GM
          clear hm GW
          go_upto_region 12 with (first
            | (refine wpList_load_midV (by rfl) _ _ rfl q3 0 rfl Lx R3 Tryd.underlying50 rfl (by rw [HLx.out]; kernel_rfl) ?_)
            | (go_at_call 21; (with_reducible refine GW3.out.mono ?_); rintro e w4 ⟨rfl, T4, s4, K4⟩; have N4 : Block w4 q3 50 Lx.toArray := G3.keeps T4 N3 (by decide) (by decide)))
          clear R3 G3 N3 P3 T4
          have n4 : w4.cell? ⟨q3, 0, none⟩ = some (.int .u64 xq) := (Block.cell N4 0).trans (by simpa using HX0.out)
          have f4 := Block.frozen N4 0
          have G5 := K4.g.beside N4 hq3w 0 (.int .u64 ((k : Int) + 1))
          have N5 := Block.set_ N4 0 (.int .u64 ((k : Int) + 1))
          rw [HS0.out] at N5
          have HK4 := Lib.hid K4
          clear N4 K4
          go_upto_region 13 with fail
          obtain ⟨w5, hw5⟩ : ∃ w5, w5 = w4.setCell ⟨q3, 0, none⟩ (.int .u64 ((k : Int) + 1)) := ⟨_, rfl⟩
          rw [← hw5] at G5 N5 ⊢
          clear hw5 n4 f4
          have R5 := block_range N5
          have hto := HK4.out.st.ok
          have hlast := HK4.out.last
          have GOP : Hid (∀ W, JDev w W a mk mw j p0 p1 s4 t → Calls Tryd.prog 16 #[.pointer (some ⟨a, 0, none⟩), .agg placesV.toArray] W fun e w' => ∃ j' p0' p1', e = .returned (.tuple #[.pointer (some ⟨j', 0, none⟩), .int .i64 0]) ∧ Below W.heap.size W w' ∧ JAt w' j' a p0' p1' t ∧ JDev w w' a mk mw j p0 p1 s4 t) := Lib.hid (fun W h => by
            have := open_dev h (by rw [HK4.out.c]; omega) HK4.out.on.off HL0.out
            rwa [hlast] at this)
          have GLt : Hid (∀ W (h : JDev w W a mk mw j p0 p1 s4 t), Calls Tryd.prog 18 #[.pointer (some ⟨j, 0, none⟩)] W fun e w' => e = .returned (.agg Lt.toArray) ∧ Below W.heap.size W w') := Lib.hid (fun W h => by
            have := last_dev h hto
            rwa [HLT.out] at this)
          have GLu : Hid (∀ W j' p0' p1' (h : JAt W j' a p0' p1' t), Calls Tryd.prog 18 #[.pointer (some ⟨j', 0, none⟩)] W fun e w' => e = .returned (.agg Lt.toArray) ∧ Below W.heap.size W w') := Lib.hid (fun W j' p0' p1' h => by
            have := last_any j' a p0' p1' t W h hto.man
            rwa [HLT.out] at this)
          clear hto hlast
          rw [hp0] at GOP
          go_upto_region 18 with (first
            | (have _t := R5; refine wpList_load_midV (by rfl) _ _ rfl q3 0 rfl Lt R5 Tryd.underlying50 rfl (by rw [HLt.out]; kernel_rfl) ?_; clear R5)
            | (go_at_call 22; (with_reducible refine (GM.out _).mono ?_); rintro e w6 ⟨rfl, hb6⟩; have G6 := G5.below hb6; have P6 := Block.below N5 hb6 (Block.lt N5))
            | (go_at_call 17; (with_reducible refine (GP.out _).mono ?_); rintro e w7 ⟨rfl, hb7⟩; have G7 := G6.below hb7; have P7 := Block.below P6 hb7 (Block.lt P6))
            | (have _t := G7; go_at_call 16; (with_reducible refine (GOP.out _ G7).mono ?_); clear _t; rintro e w8 ⟨j', p0', p1', rfl, hb8, U8, G8⟩; have P8 := Block.below P7 hb8 (Block.lt P7)))
          clear G5 N5 hb6 G6 P6 hb7 G7 P7 hb8
          have R8 := block_range P8
          have GQ := Lib.hid (fun d os => GLt.out _ (G8.below (below_regrown w8 d os)))
          have GR := Lib.hid (fun d os => GLu.out _ j' p0' p1' (U8.below (below_regrown w8 d os)))
          have HN := HNt.out
          refine wp_region_quiet_below (by kernel_rfl) (by kernel_rfl) ?_
          repeat (go_big_quiet_step (fail))
          go_big_quiet_step (exact Calls.regrown_of (GQ.out _ _))
          refine wpQuiet_step (fun K hK => ?_)
          refine qload_row (by rfl) 50 _ (by rfl) q3 0 (by rfl) Lt _ (qrange R8) Tryd.underlying50 (by rfl) (by rw [HLt.out]; kernel_rfl) ?_
          go_simp
          refine hK _ ?_
          clear hK K
          repeat (go_big_quiet_step (fail))
          go_big_quiet_step (exact Calls.regrown_of (GR.out _ _))
          refine wpQuiet_step (fun K hK => ?_)
          refine qload_row (by rfl) 50 _ (by rfl) q3 0 (by rfl) Lt _ (qrange R8) Tryd.underlying50 (by rfl) (by rw [HLt.out]; kernel_rfl) ?_
          go_simp
          refine hK _ ?_
          clear hK K
          repeat (go_big_quiet_step (fail))
          refine wpQuiet_nil ?_
          intro _ hw'
          obtain ⟨⟨dq, osq⟩, hw''⟩ := hw'
          have hbq := below_regrown w8 dq osq
          subst hw''
          have G9 := G8.below hbq
          generalize Go.Sort.grow (redrawn w8 dq) osq = w9 at *
          clear R8 P8 GQ GR G8 U8 hbq HN
          go_wp2_with fail
          go_roundw
          case rel => exact ⟨n + 1, k + 1, s4, t, hlt, by go_num, by go_num, HK4.out.dev G9⟩
          case measure => simp [intOf] <;> omega
end Go.Proofs.YtpnodocjpedcmaaDoor.JournalKeeps
