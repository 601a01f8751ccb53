/-
  PartPlays: the walk: any row of reads and writes of any region, with falls in between, is answered, and leaves the device, as the document says.
-/
import Derived.Test.YtchbgmpkdkecgaaPaN
import Derived.Test.YtchbgmpkdkecgaaPart5
import Derived.BigQuiet
namespace Go.Proofs.Ytchbgmpkdkecgaa.PartPlays
open Go.ChangeShapes Go.WideShapes Go.ChangeAt Go.RowKit Go.Proofs.Ytchbgmpkdkecgaa.Kit Go.Proofs.Ytchbgmpkdkecgaa.Sec Go.Proofs.Ytchbgmpkdkecgaa.Pt

set_option maxRecDepth 100000 in
set_option maxHeartbeats 6400000 in
theorem walk (n m F C : Int) (A : Option Addr) (ss : List Step7) (c : Nat) (w : World) (hn : (Lit.int .i64 n).wf = true) (hm : (Lit.int .i64 m).wf = true) (hF : (Lit.int .i64 F).wf = true) (hC : (Lit.int .i64 C).wf = true) (hl : ss.length ≤ c) (hmx : c ≤ maxLen) (hr : HoldsQ w w.heap.size A ss) :
    Calls Try.prog 4 #[.int .i64 n, .int .i64 m, .agg #[.int .i64 F, .int .i64 C], .slice A ss.length c] w fun e w' => e = .returned (.bool true) ∧ Below w.heap.size w w' := by
  have GA : Hid (∀ W, Calls Try.prog 10 #[] W fun e w' => e = .returned (.bool true) ∧ Below W.heap.size W w') := Lib.hid (fun W => Prt.awake_any W)
  have hn := bounds_i64 hn
  have hm := bounds_i64 hm
  have hF := bounds_i64 hF
  have hC := bounds_i64 hC
  have hB0 := Lib.hid (show Below w.heap.size w (w.alloc (.cells #[.int .i64 F, .int .i64 C] 25)) from (Below.refl _ _).alloc (Nat.le_refl _) _)
  by_cases hbad : n < 128 ∨ 512 < n ∨ m < 1 ∨ 40 < m
  · cases h1 : decide (n < 128) <;> (try cases h2 : decide ((512 : Int) < n)) <;> (try cases h3 : decide (m < 1)) <;> (try cases h4 : decide ((40 : Int) < m))
    all_goals first
      | (exfalso; simp only [decide_eq_false_iff_not] at h1 h2 h3 h4; omega)
      | (clear hbad hr
         go_enter Try.func4, Try.ntmps4
         go_wp2_with (go_at_call 10; refine (GA.out _).mono ?_; rintro e w5 ⟨rfl, hb5⟩)
         go_ret
         exact ⟨rfl, hB0.out.trans (hb5.mono hB0.out.size)⟩)
  obtain ⟨N, rfl⟩ : ∃ N : Nat, n = (N : Int) := ⟨n.toNat, by omega⟩
  obtain ⟨M, rfl⟩ : ∃ M : Nat, m = (M : Int) := ⟨m.toNat, by omega⟩
  have h1 : decide ((N : Int) < 128) = false := decide_eq_false (by omega)
  have h2 : decide ((512 : Int) < (N : Int)) = false := decide_eq_false (by omega)
  have h3 : decide ((M : Int) < 1) = false := decide_eq_false (by omega)
  have h4 : decide ((40 : Int) < (M : Int)) = false := decide_eq_false (by omega)
  have GN := Lib.hid (fun W => new_any (fun _ => True) N M W (by omega) (by omega) (by omega) (by omega))
  have hgr := great_no (ss := ss)
  have GG := Lib.hid (fun W (hb : Below w.heap.size w W) => great_any A ss c w.heap.size W hl hmx (hr.below hb))
  have GO := Lib.hid (fun W => on_any M F C W (by omega))
  have GR := Lib.hid (fun W => rnew_any N M W)
  have hS0 : (Dv.new N M).offs = 0 ∧ (Dv.new N M).wr = 0 ∧ (Dv.new N M).size = N ∧ (Dv.new N M).count = M := ⟨rfl, rfl, rfl, rfl⟩
  have HS0 := Lib.hid hS0
  have GP := Lib.hid (fun W a mk mw (h : Dev w W a mk mw (Dv.new N M)) => open_any _ a mk mw F C (Dv.new N M) W h.d hF hC)
  have HR := Lib.hid hr
  have HNM : Hid (128 ≤ N ∧ N ≤ 512 ∧ 1 ≤ M ∧ M ≤ 40) := Lib.hid (by omega)
  generalize greatB ss = gr at *
  clear hS0 hbad hr
  cases gr with
  | true =>
    clear hgr
    go_enter Try.func4, Try.ntmps4
    go_wp2_with (first
      | (go_at_call 12; refine (GG.out _ hB0.out).mono ?_; rintro e w9 ⟨rfl, rfl⟩)
      | (go_at_call 10; refine (GA.out _).mono ?_; rintro e w5 ⟨rfl, hb5⟩))
    go_ret
    exact ⟨rfl, hB0.out.trans (hb5.mono hB0.out.size)⟩
  | false =>
    obtain ⟨hg1, hg2⟩ := hgr rfl
    clear hgr
    by_cases hth : IsThere M F C
    case neg =>
      rw [decide_eq_false hth] at GO
      have HTH := Lib.hid hth
      clear hth
      generalize hs0 : Dv.new N M = s0 at *
      have hcn : Hid (s0.count = M) := Lib.hid HS0.out.2.2.2
      clear hs0 hn hm
      go_enter Try.func4, Try.ntmps4
      go_wp2_with (first
        | (go_at_call 12; refine (GG.out _ hB0.out).mono ?_; rintro e w9 ⟨rfl, rfl⟩)
        | (go_at_call 13; refine (GN.out _).mono ?_; rintro e w1 ⟨a, mk, mw, rfl, D, hb1, ga, gk, gw⟩; have B1 := hB0.out.trans (hb1.mono hB0.out.size); have hz0 := hB0.out.size; have D1 : Dev w w1 a mk mw s0 := ⟨D, B1, by omega, by omega, by omega⟩; have Y1 := (Block.new w 25 #[.int .i64 F, .int .i64 C]).below hb1 (by simp); have c0 := Y1.cell 0; have c1 := Y1.cell 1; clear D hb1 ga gk gw)
        | (go_at_call 14; refine (GP.out _ _ _ _ D1).mono ?_; rintro e w2 ⟨hb2, -, hno⟩; have hno2 := hno (by rw [hcn.out]; exact HTH.out); clear hno; subst hno2; have Y2 := Y1.below hb2 Y1.lt; have B2 := B1.trans (hb2.mono B1.size); clear c0 c1; have c0 := Y2.cell 0; have c1 := Y2.cell 1)
        | (go_at_call 15; refine (GO.out _).mono ?_; rintro e w3 ⟨rfl, hb3⟩; have B3 := B2.trans (hb3.mono B2.size))
        | (go_at_call 10; refine (GA.out _).mono ?_; rintro e w5 ⟨rfl, hb5⟩))
      go_ret
      exact ⟨rfl, B3.trans (hb5.mono B3.size)⟩
    case pos =>
      rw [decide_eq_true hth] at GO
      have HTH := Lib.hid hth
      obtain ⟨hf0, hc1, hcm, hfc⟩ := hth
      obtain ⟨T, hT⟩ : ∃ T : Nat, C * (N : Int) = (T : Int) := ⟨(C * (N : Int)).toNat, by have := Int.mul_nonneg (show 0 ≤ C by omega) (show 0 ≤ (N : Int) by omega); omega⟩
      have hl0 : Lies (Dv.new N M) F C T := ⟨hf0, hc1, by show F + C ≤ (M : Int); omega, hT⟩
      have GSz := Lib.hid (fun W p a mk mw (hp : PartAt W p a F C) (h : Dev w W a mk mw (Dv.new N M)) => psize_any (fun _ => True) p a mk mw F C T (Dv.new N M) W hp h.d hl0)
      have hTT : ((T : Int) != (T : Int)) = false := by simp
      have hT9 := hl0.most (Dv.new_ok HNM.out.1 (Nat.le_trans HNM.out.2.1 (by decide)) HNM.out.2.2.1 (Nat.le_trans HNM.out.2.2.2 (by decide)))
      have HL0 := Lib.hid hl0
      have HT := Lib.hid hT
      clear hl0
      generalize hs0 : Dv.new N M = s0 at *
      have hcn : Hid (s0.count = M) := Lib.hid HS0.out.2.2.2
      clear hs0 hn hm hF hC hf0 hc1 hcm hfc
      go_enter Try.func4, Try.ntmps4
      go_wp2_with (first
        | (go_at_call 12; refine (GG.out _ hB0.out).mono ?_; rintro e w9 ⟨rfl, rfl⟩)
        | (go_at_call 13; refine (GN.out _).mono ?_; rintro e w1 ⟨a, mk, mw, rfl, D, hb1, ga, gk, gw⟩; have B1 := hB0.out.trans (hb1.mono hB0.out.size); have hz0 := hB0.out.size; have D1 : Dev w w1 a mk mw s0 := ⟨D, B1, by omega, by omega, by omega⟩; have Y1 := (Block.new w 25 #[.int .i64 F, .int .i64 C]).below hb1 (by simp); have c0 := Y1.cell 0; have c1 := Y1.cell 1; clear D hb1 ga gk gw)
        | (go_at_call 14; refine (GP.out _ _ _ _ D1).mono ?_; rintro e w2 ⟨hb2, hyes, -⟩; obtain ⟨p, -, he2, P2⟩ := hyes (by rw [hcn.out]; exact HTH.out); clear hyes; subst he2; have Y2 := Y1.below hb2 Y1.lt; have D2 := D1.below hb2; clear c0 c1; have c0 := Y2.cell 0; have c1 := Y2.cell 1)
        | (go_at_call 15; refine (GO.out _).mono ?_; rintro e w3 ⟨rfl, hb3⟩; have D3 := D2.below hb3; have Y3 := Y2.below hb3 Y2.lt; have P3 : PartAt w3 p a F C := Block.below P2 hb3 (Block.lt P2); clear c0 c1; have c0 := Y3.cell 0; have c1 := Y3.cell 1))
      have GQ := Lib.hid (fun n => GSz.out (w3.drewN n) p a mk mw P3 (D3.below (below_draws (Below.refl _ _) n)))
      have hTC : C * (N : Int) = (T : Int) := HT.out
      clear D1 Y1 D2 Y2 P2 GSz
      go_quiet ((go_at_call 16; exact Calls.quiet_of (GQ.out _)))
      have D4 := D3.below (below_draws (Below.refl _ _) nq)
      have Y4 := Block.drewN Y3 nq
      have P4 : PartAt (w3.drewN nq) p a F C := Block.drewN P3 nq
      clear D3 Y3 P3 GQ c0 c1 hTT hTC
      generalize w3.drewN nq = w4 at *
      go_wp2_with (go_at_call 17; refine (GR.out _).mono ?_; rintro e w5 ⟨v2, rfl, hv2, hb5⟩; obtain ⟨Ak0, ck0, Aw0, cw0, hve, hr2⟩ := hv2; have RV5 : RDv w5 (.agg (dCells Ak0 ck0 Aw0 cw0 s0)) s0 := ⟨Ak0, ck0, Aw0, cw0, rfl, hr2⟩; subst hve; have D5 := D4.below hb5; have Y5 := Y4.below hb5 Y4.lt; have P5 : PartAt w5 p a F C := Block.below P4 hb5 (Block.lt P4); clear hr2 hb5 D4 Y4 P4; unfold dCells)
      have B6 : Below w5.heap.size w5 (w5.alloc (.cells #[.int .i64 s0.size, .int .i64 s0.count, .slice Ak0 s0.kept.length ck0, .slice Aw0 s0.waits.length cw0, .bool s0.off, .int .i64 s0.offs, .int .i64 s0.fuse, .int .u64 s0.wr] 49)) := (Below.refl _ _).alloc (Nat.le_refl _) _
      have Q0 : Plays7 w (w5.alloc (.cells #[.int .i64 s0.size, .int .i64 s0.count, .slice Ak0 s0.kept.length ck0, .slice Aw0 s0.waits.length cw0, .bool s0.off, .int .i64 s0.offs, .int .i64 s0.fuse, .int .u64 s0.wr] 49)) a mk mw p w5.heap.size w.heap.size F C s0 s0 (dCells Ak0 ck0 Aw0 cw0 s0) := ⟨D5.below B6, P5.below B6 (Block.lt P5), Block.new _ _ _, Y5.below B6 Y5.lt, RV5.below B6, D5.b.size⟩
      generalize w5.alloc (.cells #[.int .i64 s0.size, .int .i64 s0.count, .slice Ak0 s0.kept.length ck0, .slice Aw0 s0.waits.length cw0, .bool s0.off, .int .i64 s0.offs, .int .i64 s0.fuse, .int .u64 s0.wr] 49) = w6 at *
      clear B6 D5 Y5 P5 RV5
      generalize w5.heap.size = g at *
      generalize hq : w.heap.size = q at Q0 ⊢
      have HQ := Lib.hid hq
      have HQ0 := Lib.hid Q0
      clear Q0 GN GR GG GO GP hq
      go_loopw [14] (fun v wr => ∃ (i : Nat) (s : Dv) (cs : Array Value), i ≤ ss.length ∧ v = .int .i64 i ∧ Plays7 w wr a mk mw p g q F C s s cs ∧ s.offs ≤ 2001 * i ∧ s.wr ≤ 2001 * i ∧ s.size = N ∧ s.count = M) (fun v _ => ss.length - (intOf v).toNat)
      case atStart => exact ⟨0, s0, _, Nat.zero_le _, rfl, HQ0.out, by rw [HS0.out.1]; decide, by rw [HS0.out.2.1]; decide, HS0.out.2.2.1, HS0.out.2.2.2⟩
      case round =>
        clear HQ0
        obtain ⟨i, s, cs, hi, rfl, P, hof, hwr, hsz, hct⟩ := hrel
        by_cases hlt : i < ss.length
        · obtain ⟨Ak, ck, Aw, cw, hce, -⟩ := P.r
          injection hce with hce
          subst hce
          obtain ⟨b, off, hA, hbl, hra, k0, k1, k2, ⟨zb1, zb2, zb3, zb4⟩, ⟨zz1, zz2, zz3, zz4⟩⟩ := stepAt7 HR.out hlt
          subst hA
          have zl := hg2 ss[i] (List.getElem_mem hlt)
          generalize ss[i] = o at *
          obtain ⟨k, x, n, A, cap, bs, A2, cap2, zs⟩ := o
          simp only at *
          unfold Step7.cells at hra
          simp only at hra
          have HRA : Hid (∀ W, Below w.heap.size w W → W.rangeAt b (off + i * 5) [.int .i64 k, .int .i64 x, .int .i64 n, .slice A bs.length cap, .slice A2 zs.length cap2]) := Lib.hid (fun W hB j u hu => (hB.cell (p := ⟨b, _, none⟩) hbl).trans (hra j u hu))
          have HB := Lib.hid (fun W (hB : Below w.heap.size w W) => (zb4.below hB).more hB.size)
          have HZB := Lib.hid (fun W (hB : Below w.heap.size w W) => (zz4.below hB).more hB.size)
          have hx := bounds_i64 k1
          have hnb := bounds_i64 k2
          have hli : Hid (Lies s F C T) := Lib.hid ⟨HL0.out.f0, HL0.out.c1, by rw [hct, ← HS0.out.2.2.2]; exact HL0.out.fc, by rw [hsz, ← HS0.out.2.2.1]; exact HL0.out.t⟩
          have d0 : decide ((i : Int) < (ss.length : Int)) = true := decide_eq_true (by omega)
          clear hra zb4 zz4 k0 k1 k2
          go_upto_region 16 with (have _t := P; refine wpList_load_midV (o := ⟨some 100, _, _, _, _, _⟩) (by rfl) _ _ rfl b (off + i * 5) rfl [.int .i64 k, .int .i64 x, .int .i64 n, .slice A bs.length cap, .slice A2 zs.length cap2] (HRA.out _ P.d.b) Try.underlying53 rfl (by kernel_rfl) ?_)
          have hAl : Below wr.heap.size wr (wr.alloc (.cells #[.int .i64 k, .int .i64 x, .int .i64 n, .slice A bs.length cap, .slice A2 zs.length cap2] 53)) := (Below.refl _ _).alloc (Nat.le_refl _) _
          have P1 := P.below hAl
          have Q1 := Block.new wr 53 #[.int .i64 k, .int .i64 x, .int .i64 n, .slice A bs.length cap, .slice A2 zs.length cap2]
          clear P hAl
          generalize wr.alloc (.cells #[.int .i64 k, .int .i64 x, .int .i64 n, .slice A bs.length cap, .slice A2 zs.length cap2] 53) = w1 at *
          generalize wr.heap.size = e at *
          have y0 := Q1.cell 0
          have y1 := Q1.cell 1
          have y2 := Q1.cell 2
          have y3 := Q1.cell 3
          have y4 := Q1.cell 4
          have hsok := P1.d.d.ok
          have HSO := Lib.hid hsok
          have HWH := Lib.hid (whole_of P1.d.d)
          have HNS : Hid (s.size = N ∧ s.count = M) := Lib.hid ⟨hsz, hct⟩
          have hs0 : 0 ≤ s.offs := hsok.o1
          clear hsz hct hsok
          by_cases hk0 : k = 0
          · subst hk0
            have GW := Lib.hid (fun W (hp : PartAt W p a F C) (h : Dev w W a mk mw s) (hh : Holds W W.heap.size .u8 A bs) => pwrite_any (fun _ => True) p a mk mw F C T s x A bs cap W hp h.d (fun _ _ => trivial) hli.out hx (by omega) zb1 zb2 zb3 hh (by omega) (by omega))
            have GV := Lib.hid (fun v W (h : RDv W v s) => rpwrite_any v s F C T x bs W h HSO.out hli.out hx (by omega) (by omega) (by omega))
            have HNR := Lib.hid (fun r (h : PWrite s F T x bs r) => pwrite_near (s := s) (by have := HSO.out.s1; omega) zl.1 h)
            clear hx hnb
            go_upto_region 24 with (first
              | (have _t := P1; go_at_call 18; refine (GW.out _ P1.p P1.d (HB.out _ P1.d.b)).mono ?_; rintro e w4 ⟨r, hPW, rfl, D4, T4⟩; have P4 := P1.turn D4 T4; have Q4 := Block.dset P1.d.d T4 Q1 (by decide); clear y0 y1 y2 y3 y4; have y1 := Q4.cell 1; have y3 := Q4.cell 3; have kc := conv_bytes (P := Try.prog) Try.underlying51 Try.underlying5 Try.underlying9 w4 A bs cap _ (HB.out _ P4.d.b); clear P1 Q1 D4 T4)
              | (have _t := P4; refine wpList_load_midV (o := ⟨some 140, _, _, _, _, _⟩) (by rfl) _ _ rfl g 0 rfl (dCells Ak ck Aw cw s).toList (block_range P4.x) Try.underlying49 rfl (by kernel_rfl) ?_)
              | (have _t := P4; refine wpList_load_midV (o := ⟨some 141, _, _, _, _, _⟩) (by rfl) _ _ rfl q 0 rfl [.int .i64 F, .int .i64 C] (block_range (L := [.int .i64 F, .int .i64 C]) P4.y) Try.underlying25 rfl (by kernel_rfl) ?_)
              | (have _t := P4; go_at_call 19; refine (GV.out _ _ P4.r).mono ?_; rintro e w5 ⟨r2, hPW2, v5, rfl, RV5, hb5⟩; obtain rfl := pwrite_one hPW2 hPW; have P5 := P4.below hb5; obtain ⟨Ak5, ck5, Aw5, cw5, hve, hr5⟩ := RV5; have RV5 : RDv w5 (.agg (dCells Ak5 ck5 Aw5 cw5 r2.2)) r2.2 := ⟨Ak5, ck5, Aw5, cw5, rfl, hr5⟩; subst hve; clear P4 hr5 hPW2 Q4 y1 y3 kc; unfold dCells))
            have hA5 : Below w5.heap.size w5 (w5.alloc (.cells #[.int .i64 r2.2.size, .int .i64 r2.2.count, .slice Ak5 r2.2.kept.length ck5, .slice Aw5 r2.2.waits.length cw5, .bool r2.2.off, .int .i64 r2.2.offs, .int .i64 r2.2.fuse, .int .u64 r2.2.wr] 49)) := (Below.refl _ _).alloc (Nat.le_refl _) _
            have P6 := P5.below hA5
            have RV6 := RV5.below hA5
            have Z6 : Block (w5.alloc (.cells #[.int .i64 r2.2.size, .int .i64 r2.2.count, .slice Ak5 r2.2.kept.length ck5, .slice Aw5 r2.2.waits.length cw5, .bool r2.2.off, .int .i64 r2.2.offs, .int .i64 r2.2.fuse, .int .u64 r2.2.wr] 49)) w5.heap.size 49 (dCells Ak5 ck5 Aw5 cw5 r2.2) := Block.new w5 _ _
            generalize w5.alloc (.cells #[.int .i64 r2.2.size, .int .i64 r2.2.count, .slice Ak5 r2.2.kept.length ck5, .slice Aw5 r2.2.waits.length cw5, .bool r2.2.off, .int .i64 r2.2.offs, .int .i64 r2.2.fuse, .int .u64 r2.2.wr] 49) = w6 at *
            generalize w5.heap.size = g2 at *
            clear hA5 P5 RV5 hb5
            have f1 : (r2.1 != r2.1) = false := by simp
            have HNR2 := Lib.hid (HNR.out r2 hPW)
            clear hPW GW GV HNR
            go_upto_region 25 with (first
              | (have _t := Z6; refine wpList_load_midV (o := ⟨some 150, _, _, _, _, _⟩) (by rfl) _ _ rfl g2 0 rfl (dCells Ak5 ck5 Aw5 cw5 r2.2).toList (block_range Z6) Try.underlying49 rfl (by kernel_rfl) ?_; clear _t Z6)
              | (have _t := P6; refine wpList_store_blk (cs := dCells Ak ck Aw cw s) rfl _ _ _ rfl (ds := (dCells Ak5 ck5 Aw5 cw5 r2.2).toList) (by exact P6.x) rfl rfl rfl (by kernel_rfl) (dCells_one _ _ _ _ _) ?_; clear _t; intro w7 X7 g7))
            try simp only [Act.put]
            have P7 := P6.store (RV6.kept P6.x (dCells_noText _ _ _ _ _) g7) X7 g7
            clear P6 RV6 X7 g7
            go_wp2_with fail
            have HP7 : Hid (Plays7 w w7 a mk mw p g q F C (r2.2) (r2.2) (dCells Ak5 ck5 Aw5 cw5 (r2.2))) := Lib.hid P7
            have HD7 : Hid (∀ k, DvAt (w7.drewN k) (fun _ => True) a mk mw (r2.2)) := Lib.hid (fun k => (HP7.out.d.below (below_draws (Below.refl _ _) k)).d)
            have y3 : w7.cell? ⟨g, 3, none⟩ = some (.slice Aw5 (r2.2).waits.length cw5) := P7.x.cell 3
            have y7 : w7.cell? ⟨g, 7, none⟩ = some (.int .u64 (r2.2).wr) := P7.x.cell 7
            have f3 : (((r2.2).waits.length : Int) != ((r2.2).waits.length : Int)) = false := by simp
            have f4 : ((r2.2).wr != (r2.2).wr) = false := by simp
            have HNX : Hid (Near s (r2.2)) := Lib.hid (HNR2.out)
            clear P7
            go_quiet (first
              | (go_at_call 25; exact Calls.quiet_of_same ((waits_any _ a mk mw _ _ (HD7.out _)).mono fun _ _ h => ⟨h.1, h.2.symm⟩))
              | (go_at_call 26; exact Calls.quiet_of_same ((writes_any _ a mk mw _ _ (HD7.out _)).mono fun _ _ h => ⟨h.1, h.2.symm⟩)))
            have HP8 := Lib.hid (Plays7.below HP7.out (below_draws (Below.refl _ _) nq))
            clear HD7 HP7 y3 y7 f3 f4
            generalize w7.drewN nq = w8 at *
            go_wp2_with fail
            go_roundw
            case rel => exact ⟨i + 1, _, _, by omega, by go_num, HP8.out, by have := HNX.out.1; omega, by have := HNX.out.2.1; omega, HNX.out.2.2.1.trans HNS.out.1, HNX.out.2.2.2.trans HNS.out.2⟩
            case measure => simp [intOf]; omega
          by_cases hk1 : k = 1
          · subst hk1
            have GF := Lib.hid (fun W (h : Dev w W a mk mw s) => fuse_any _ a mk mw s x W h.d hx)
            obtain ⟨sf, hsf⟩ : ∃ sf, s.fused x = sf := ⟨_, rfl⟩
            have HSF := Lib.hid hsf
            rw [hsf] at GF
            clear hx hnb hsf
            go_upto_region 33 with (have _t := P1; go_at_call 20; refine (GF.out _ P1.d).mono ?_; rintro e w4 ⟨rfl, D4, T4⟩; have P4 := P1.turn D4 T4; have Q4 := Block.dset P1.d.d T4 Q1 (by decide); clear y0 y1 y2 y3 y4; have y1 := Q4.cell 1; have q6 := P4.x.frozen 6; have x6 : w4.cell? ⟨g, 6, none⟩ = some (.int .i64 s.fuse) := P4.x.cell 6; clear _t P1 Q1 D4 T4)
            have X7 := P4.x.set_ 6 (.int .i64 (max x 0))
            have RV7 := fuse_row P4.r P4.x rfl (max x 0)
            have P7 : Plays7 w (w4.setCell ⟨g, 6, none⟩ (.int .i64 (max x 0))) a mk mw p g q F C sf sf (dCells Ak ck Aw cw sf) := by
              have h := P4.store RV7 X7 (grown_set w4 g 6 _)
              have e : ({ s with fuse := max x 0 } : Dv) = sf := HSF.out
              rw [e] at h
              exact h
            clear P4 Q4 y1 q6 x6 X7 RV7
            generalize w4.setCell ⟨g, 6, none⟩ (.int .i64 (max x 0)) = w7 at *
            have HP7 : Hid (Plays7 w w7 a mk mw p g q F C (sf) (sf) (dCells Ak ck Aw cw (sf))) := Lib.hid P7
            have HD7 : Hid (∀ k, DvAt (w7.drewN k) (fun _ => True) a mk mw (sf)) := Lib.hid (fun k => (HP7.out.d.below (below_draws (Below.refl _ _) k)).d)
            have y3 : w7.cell? ⟨g, 3, none⟩ = some (.slice Aw (sf).waits.length cw) := P7.x.cell 3
            have y7 : w7.cell? ⟨g, 7, none⟩ = some (.int .u64 (sf).wr) := P7.x.cell 7
            have f3 : (((sf).waits.length : Int) != ((sf).waits.length : Int)) = false := by simp
            have f4 : ((sf).wr != (sf).wr) = false := by simp
            have HNX : Hid (Near s (sf)) := Lib.hid (by rw [← HSF.out]; exact fused_near s x)
            clear P7
            go_quiet (first
              | (go_at_call 25; exact Calls.quiet_of_same ((waits_any _ a mk mw _ _ (HD7.out _)).mono fun _ _ h => ⟨h.1, h.2.symm⟩))
              | (go_at_call 26; exact Calls.quiet_of_same ((writes_any _ a mk mw _ _ (HD7.out _)).mono fun _ _ h => ⟨h.1, h.2.symm⟩)))
            have HP8 := Lib.hid (Plays7.below HP7.out (below_draws (Below.refl _ _) nq))
            clear HD7 HP7 y3 y7 f3 f4
            generalize w7.drewN nq = w8 at *
            go_wp2_with fail
            go_roundw
            case rel => exact ⟨i + 1, _, _, by omega, by go_num, HP8.out, by have := HNX.out.1; omega, by have := HNX.out.2.1; omega, HNX.out.2.2.1.trans HNS.out.1, HNX.out.2.2.2.trans HNS.out.2⟩
            case measure => simp [intOf]; omega
          by_cases hk2 : k = 2
          · subst hk2
            have GB := Lib.hid (fun W (h : Dev w W a mk mw s) (hh : Holds W W.heap.size .u8 A2 zs) => back_any _ a mk mw s A2 zs cap2 W h.d (fun _ _ => trivial) (by omega) zz3 hh (by omega))
            have GD := Lib.hid (fun (v : Value) (W : World) (h : RDv W v s) (hh : Holds W W.heap.size .u8 A2 zs) => rback_any v s A2 zs cap2 W h HSO.out (by omega) hh (by omega))
            have HNB := Lib.hid (back_near s zs)
            obtain ⟨sb, hsb⟩ : ∃ sb, s.back zs = sb := ⟨_, rfl⟩
            rw [hsb] at GB GD HNB
            clear hx hnb hsb
            go_upto_region 33 with (first
              | (have _t := P1; go_at_call 21; refine (GB.out _ P1.d (HZB.out _ P1.d.b)).mono ?_; rintro e w4 ⟨rfl, D4, T4⟩; have P4 := P1.turn D4 T4; have Q4 := Block.dset P1.d.d T4 Q1 (by decide); clear y0 y1 y2 y3 y4; have y4 := Q4.cell 4; clear _t P1 Q1 D4 T4)
              | (have _t := P4; refine wpList_load_midV (o := ⟨some 170, _, _, _, _, _⟩) (by rfl) _ _ rfl g 0 rfl (dCells Ak ck Aw cw s).toList (block_range P4.x) Try.underlying49 rfl (by kernel_rfl) ?_)
              | (have _t := P4; go_at_call 22; refine (GD.out _ _ P4.r (HZB.out _ P4.d.b)).mono ?_; rintro e w5 ⟨v5, rfl, RV5, hb5⟩; have P5 := P4.below hb5; obtain ⟨Ak5, ck5, Aw5, cw5, hve, hr5⟩ := RV5; have RV5 : RDv w5 (.agg (dCells Ak5 ck5 Aw5 cw5 sb)) sb := ⟨Ak5, ck5, Aw5, cw5, rfl, hr5⟩; subst hve; clear _t P4 hr5 Q4 y4)
              | (have _t := P5; refine wpList_store_blk (cs := dCells Ak ck Aw cw s) rfl _ _ _ rfl (ds := (dCells Ak5 ck5 Aw5 cw5 sb).toList) (by exact P5.x) rfl rfl rfl (by kernel_rfl) (dCells_one _ _ _ _ _) ?_; clear _t; intro w7 X7 g7))
            try simp only [Act.put]
            have P7 := P5.store (RV5.kept P5.x (dCells_noText _ _ _ _ _) g7) X7 g7
            clear P5 RV5 X7 g7
            have HP7 : Hid (Plays7 w w7 a mk mw p g q F C (sb) (sb) (dCells Ak5 ck5 Aw5 cw5 (sb))) := Lib.hid P7
            have HD7 : Hid (∀ k, DvAt (w7.drewN k) (fun _ => True) a mk mw (sb)) := Lib.hid (fun k => (HP7.out.d.below (below_draws (Below.refl _ _) k)).d)
            have y3 : w7.cell? ⟨g, 3, none⟩ = some (.slice Aw5 (sb).waits.length cw5) := P7.x.cell 3
            have y7 : w7.cell? ⟨g, 7, none⟩ = some (.int .u64 (sb).wr) := P7.x.cell 7
            have f3 : (((sb).waits.length : Int) != ((sb).waits.length : Int)) = false := by simp
            have f4 : ((sb).wr != (sb).wr) = false := by simp
            have HNX : Hid (Near s (sb)) := Lib.hid (HNB.out)
            clear P7
            go_quiet (first
              | (go_at_call 25; exact Calls.quiet_of_same ((waits_any _ a mk mw _ _ (HD7.out _)).mono fun _ _ h => ⟨h.1, h.2.symm⟩))
              | (go_at_call 26; exact Calls.quiet_of_same ((writes_any _ a mk mw _ _ (HD7.out _)).mono fun _ _ h => ⟨h.1, h.2.symm⟩)))
            have HP8 := Lib.hid (Plays7.below HP7.out (below_draws (Below.refl _ _) nq))
            clear HD7 HP7 y3 y7 f3 f4
            generalize w7.drewN nq = w8 at *
            go_wp2_with fail
            go_roundw
            case rel => exact ⟨i + 1, _, _, by omega, by go_num, HP8.out, by have := HNX.out.1; omega, by have := HNX.out.2.1; omega, HNX.out.2.2.1.trans HNS.out.1, HNX.out.2.2.2.trans HNS.out.2⟩
            case measure => simp [intOf]; omega
          · have e0 : (k == 0) = false := by simpa using hk0
            have e1 : (k == 1) = false := by simpa using hk1
            have e2 : (k == 2) = false := by simpa using hk2
            have GR := Lib.hid (fun W (hp : PartAt W p a F C) (h : Dev w W a mk mw s) => pread_any (fun _ => True) p a mk mw F C T s x n W hp h.d hli.out hx)
            have GV := Lib.hid (fun v W (h : RDv W v s) => rpread_any v s F C T x n W h HSO.out HWH.out hli.out hx)
            clear hx hnb
            go_upto_region 33 with (first
              | (have _t := P1; go_at_call 23; refine (GR.out _ P1.p P1.d).mono ?_; rintro e w4 ⟨r, hPR, v4, rfl, own4, hb4⟩; have P4 := P1.below hb4; have Q4 := Q1.below hb4 Q1.lt; clear y0 y1 y2 y3 y4; have y1 := Q4.cell 1; have y2 := Q4.cell 2; clear _t P1 Q1)
              | (have _t := P4; refine wpList_load_midV (o := ⟨some 113, _, _, _, _, _⟩) (by rfl) _ _ rfl g 0 rfl (dCells Ak ck Aw cw s).toList (block_range P4.x) Try.underlying49 rfl (by kernel_rfl) ?_)
              | (have _t := P4; refine wpList_load_midV (o := ⟨some 114, _, _, _, _, _⟩) (by rfl) _ _ rfl q 0 rfl [.int .i64 F, .int .i64 C] (block_range (L := [.int .i64 F, .int .i64 C]) P4.y) Try.underlying25 rfl (by kernel_rfl) ?_))
            go_at_call 24
            refine (GV.out _ _ P4.r).mono ?_
            rintro e w5 ⟨r2, hPR2, rfl, hb5⟩
            obtain rfl := pread_one hPR2 hPR
            have P5 := P4.below hb5
            obtain ⟨A6, c6, he6, -, -, hh6⟩ := (Own.below own4 hb5).opened
            have kc := conv_bytes (P := Try.prog) Try.underlying51 Try.underlying5 Try.underlying9 w5 A6 r2.1 c6 _ hh6
            rw [← he6] at kc
            have f1 : (r2.2 != r2.2) = false := by simp
            generalize strOfNums r2.1 = SS at *
            clear P4 hh6 he6 hPR2 hPR Q4 y1 y2 own4
            go_upto_region 33 with fail
            have P7 := P5
            clear P5
            have HP7 : Hid (Plays7 w w5 a mk mw p g q F C (s) (s) (dCells Ak ck Aw cw (s))) := Lib.hid P7
            have HD7 : Hid (∀ k, DvAt (w5.drewN k) (fun _ => True) a mk mw (s)) := Lib.hid (fun k => (HP7.out.d.below (below_draws (Below.refl _ _) k)).d)
            have y3 : w5.cell? ⟨g, 3, none⟩ = some (.slice Aw (s).waits.length cw) := P7.x.cell 3
            have y7 : w5.cell? ⟨g, 7, none⟩ = some (.int .u64 (s).wr) := P7.x.cell 7
            have f3 : (((s).waits.length : Int) != ((s).waits.length : Int)) = false := by simp
            have f4 : ((s).wr != (s).wr) = false := by simp
            have HNX : Hid (Near s (s)) := Lib.hid (Near.refl s)
            clear P7
            go_quiet (first
              | (go_at_call 25; exact Calls.quiet_of_same ((waits_any _ a mk mw _ _ (HD7.out _)).mono fun _ _ h => ⟨h.1, h.2.symm⟩))
              | (go_at_call 26; exact Calls.quiet_of_same ((writes_any _ a mk mw _ _ (HD7.out _)).mono fun _ _ h => ⟨h.1, h.2.symm⟩)))
            have HP8 := Lib.hid (Plays7.below HP7.out (below_draws (Below.refl _ _) nq))
            clear HD7 HP7 y3 y7 f3 f4
            generalize w5.drewN nq = w8 at *
            go_wp2_with fail
            go_roundw
            case rel => exact ⟨i + 1, _, _, by omega, by go_num, HP8.out, by have := HNX.out.1; omega, by have := HNX.out.2.1; omega, HNX.out.2.2.1.trans HNS.out.1, HNX.out.2.2.2.trans HNS.out.2⟩
            case measure => simp [intOf]; omega
        · have d0 : decide ((i : Int) < (ss.length : Int)) = false := decide_eq_false (by omega)
          obtain rfl : i = ss.length := by omega
          have hb := P.d.b
          clear P hof hwr hlt
          go_wp2_with (go_at_call 10; refine (GA.out _).mono ?_; rintro e w5 ⟨rfl, hb5⟩)
          go_ret
          exact ⟨rfl, hb.trans (hb5.mono hb.size)⟩
end Go.Proofs.Ytchbgmpkdkecgaa.PartPlays
