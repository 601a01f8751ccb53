/-
  SectorKeeps: the walk: what was synced, and not written since, is there whatever comes.
-/
import Derived.Test.YtfngmdojogdodaaSeW
import Derived.BigQuiet
namespace Go.Proofs.Ytfngmdojogdodaa.SectorKeeps
open Go.ChangeShapes Go.WideShapes Go.ChangeAt Go.RowKit Go.Proofs.Ytfngmdojogdodaa.Kit Go.Proofs.Ytfngmdojogdodaa.Sec

/-- A row of 128 bytes as a text. -/
theorem conv_own {W : World} {B g c : Nat} {X : List Int} (h : Own W B 5 .u8 (.slice (some ⟨g, 0, none⟩) 128 c) X) (hl : X.length = 128) : (convert 37 9 (.slice (some ⟨g, 0, none⟩) 128 c)).run Try.prog W = .ok (.string (strOfNums X)) W := by
  obtain ⟨A, d, he, -, -, hh⟩ := h.opened
  injection he with e1 e2 e3
  subst e1 e3
  have := conv_bytes (P := Try.prog) Try.underlying37 Try.underlying5 Try.underlying9 W (some ⟨g, 0, none⟩) X c _ hh
  rwa [hl] at this
theorem begins (X : List Int) (hX : X.length = 128) : ∃ s1 s2 : Dv, (Dv.new 128 4).write 2 X = (0, s1) ∧ s1.sync = (0, s2) ∧ (s1.offs = 0 ∧ s2.offs = 0 ∧ s2.wr = 1 ∧ s2.count = 4) ∧ Keep2 s2 X := by
  refine ⟨⟨128, 4, [], [(2, some X)], false, 0, -1, 1⟩, ⟨128, 4, [(2, some X)], [], false, 0, -1, 1⟩, ?_, ?_, ⟨rfl, rfl, rfl, rfl⟩, rfl, rfl⟩
  · simp [Dv.write, Dv.writes, Dv.tick, Dv.new, putS, hX]
  · rfl

set_option maxRecDepth 100000 in
set_option maxHeartbeats 6400000 in
theorem walk (z : Int) (A : Option Addr) (ss : List Step6) (c : Nat) (w : World) (hz : (Lit.int .u8 z).wf = true) (hl : ss.length ≤ c) (hmx : c ≤ maxLen) (hr : HoldsQ w w.heap.size A ss) :
    Calls Try.prog 4 #[.int .u8 z, .slice A ss.length c] w fun e w' => e = .returned (.bool true) ∧ Below w.heap.size w w' := by
  have GA := Lib.hid awake_any
  have hz := bounds_u8 hz
  obtain ⟨X, hX⟩ : ∃ X, stepB 128 z false = X := ⟨_, rfl⟩
  have hXl : X.length = 128 := by rw [← hX]; simp [stepB]
  have hXo : Octets X := by
    intro x hx
    rw [← hX] at hx
    simp [stepB] at hx
    omega
  obtain ⟨s1, s2, e1, e2, ⟨q1, q2, q3, q4⟩, hk0⟩ := begins X hXl
  have GN := Lib.hid (fun W => new_any (fun _ => True) 128 4 W (by decide) (by decide) (by decide) (by decide))
  have hgr := great_no (ss := ss)
  have GG := Lib.hid (fun W (hb : Below w.heap.size w W) => great_any A ss c w.heap.size W hl hmx (hr.below hb))
  have GY : Hid (∀ W, Calls Try.prog 18 #[.int .i64 128, .agg #[.int .i64 0, .int .i64 0, .int .u8 z, .bool false, .slice none 0 0]] W fun e w' => ∃ v, e = .returned v ∧ Own w' W.heap.size 5 .u8 v X ∧ Below W.heap.size W w') := Lib.hid (fun W => by
    have := bytes_any 128 0 0 z false (.slice none 0 0) W (by decide)
    rwa [hX] at this)
  have GW : Hid (∀ a mk mw W A c, Dev w W a mk mw (Dv.new 128 4) → Holds W W.heap.size .u8 A X → Calls Try.prog 19 #[.pointer (some ⟨a, 0, none⟩), .int .i64 2, .slice A 128 c] W (Moves w a mk mw W s1 (.int .i64 0))) := Lib.hid (fun a mk mw W A c D hh => by
    have := D.moves (write_any _ a mk mw (Dv.new 128 4) 2 A X c W D.d (fun _ _ => trivial) (by decide) (by omega) hXo hh (by decide) (by decide))
    rwa [e1, hXl] at this)
  have GS : Hid (∀ a mk mw W, Dev w W a mk mw s1 → Calls Try.prog 20 #[.pointer (some ⟨a, 0, none⟩)] W (Moves w a mk mw W s2 (.int .i64 0))) := Lib.hid (fun a mk mw W D => by
    have := D.moves (sync_any _ a mk mw s1 W D.d (by omega))
    rwa [e2] at this)
  have GR := Lib.hid (fun W => rnew_any 128 4 W)
  have GB := Lib.hid (fun (s : Dv) a mk mw W (D : Dev w W a mk mw s) (ho : s.offs ≤ 1000000000) => D.moves (back_any _ a mk mw s none [] 0 W D.d (fun _ _ => trivial) (by simp) (fun x hx => (List.not_mem_nil hx).elim) Holds.nil ho))
  have GE : Hid (∀ (s : Dv) a mk mw W, Dev w W a mk mw s → s.read 2 = (X, 0) → Calls Try.prog 22 #[.pointer (some ⟨a, 0, none⟩), .int .i64 2] W (GivesB X 0 W)) := Lib.hid (fun s a mk mw W D e => by
    have := read_any _ a mk mw s 2 W D.d (by decide)
    rwa [e] at this)
  have HR := Lib.hid hr
  have HL := Lib.hid hXl
  have HK0 := Lib.hid hk0
  generalize greatB ss = gr at *
  have HM0 : Hid ((Dv.new 128 4).Ok ∧ (Dv.new 128 4).offs = 0 ∧ (Dv.new 128 4).wr = 0 ∧ (Dv.new 128 4).size = 128) := Lib.hid ⟨Dv.new_ok (by decide) (by decide) (by decide) (by decide), rfl, rfl, rfl⟩
  generalize Dv.new 128 4 = m0 at *
  clear e1 e2 hk0 hr hXl hXo hX hz
  go_enter Try.func4, Try.ntmps4
  cases gr with
  | true =>
    go_wp2_with (first
      | (go_at_call 7; refine (GN.out _).mono ?_; rintro e w1 ⟨a, mk, mw, rfl, D, hb1, ga, gk, gw⟩; have D1 : Dev w w1 a mk mw m0 := ⟨D, hb1, ga, gk, gw⟩; clear D hb1 ga gk gw)
      | (go_at_call 11; refine (GG.out _ D1.b).mono ?_; rintro e w9 ⟨rfl, rfl⟩)
      | (go_at_call 8; refine (GA.out _).mono ?_; rintro e w5 ⟨rfl, hb5⟩))
    go_ret
    exact ⟨rfl, D1.b.trans (hb5.mono D1.b.size)⟩
  | false =>
    obtain ⟨hg1, hg2⟩ := hgr rfl
    clear hgr
    go_wp2_with (first
      | (go_at_call 7; refine (GN.out _).mono ?_; rintro e w1 ⟨a, mk, mw, rfl, D, hb1, ga, gk, gw⟩; have D1 : Dev w w1 a mk mw m0 := ⟨D, hb1, ga, gk, gw⟩; clear D hb1 ga gk gw)
      | (go_at_call 11; refine (GG.out _ D1.b).mono ?_; rintro e w9 ⟨rfl, rfl⟩)
      | (have _t := D1; go_at_call 18; refine (GY.out _).mono ?_; rintro e w2 ⟨v2, rfl, own2, hb2⟩; obtain ⟨g7, c7, he2⟩ := own_block own2 HL.out; subst he2; obtain ⟨A2, d2, he3, -, -, h2⟩ := own2.opened; injection he3 with p1 p2 p3; subst p1; clear p2 p3; have D2 := D1.below hb2; have own2 := own2.mono D1.b.size; clear _t D1 hb2)
      | (have _t := D2; go_at_call 19; refine (GW.out _ _ _ _ _ _ D2 h2).mono ?_; rintro e w3 ⟨rfl, D3, T3⟩; have own3 := D2.d.own_new T3 own2; clear _t D2 T3 h2 own2)
      | (have _t := D3; go_at_call 20; refine (GS.out _ _ _ _ D3).mono ?_; rintro e w4 ⟨rfl, D4, T4⟩; have own4 := D3.d.own_new T4 own3; clear _t D3 T4 own3)
      | (have _t := D4; go_at_call 12; refine (GR.out _).mono ?_; rintro e w5 ⟨v5, rfl, hv5, hb5⟩; obtain ⟨Ak0, ck0, Aw0, cw0, hve, hr5⟩ := hv5; have RV5 : RDv w5 (.agg (dCells Ak0 ck0 Aw0 cw0 m0)) m0 := ⟨Ak0, ck0, Aw0, cw0, rfl, hr5⟩; subst hve; have D5 := D4.below hb5; have own5 := own4.below hb5; clear _t hr5 D4 hb5 own4; unfold dCells))
    have B6 : Below w5.heap.size w5 (w5.alloc (.cells #[.int .i64 m0.size, .int .i64 m0.count, .slice Ak0 m0.kept.length ck0, .slice Aw0 m0.waits.length cw0, .bool m0.off, .int .i64 m0.offs, .int .i64 m0.fuse, .int .u64 m0.wr] 33)) := (Below.refl _ _).alloc (Nat.le_refl _) _
    have P0 : Two w (w5.alloc (.cells #[.int .i64 m0.size, .int .i64 m0.count, .slice Ak0 m0.kept.length ck0, .slice Aw0 m0.waits.length cw0, .bool m0.off, .int .i64 m0.offs, .int .i64 m0.fuse, .int .u64 m0.wr] 33)) a mk mw w5.heap.size s2 m0 (dCells Ak0 ck0 Aw0 cw0 m0) := ⟨D5.below B6, Block.new _ _ _, RV5.below B6, D5.b.size⟩
    have own6 := own5.below B6
    generalize w5.alloc (.cells #[.int .i64 m0.size, .int .i64 m0.count, .slice Ak0 m0.kept.length ck0, .slice Aw0 m0.waits.length cw0, .bool m0.off, .int .i64 m0.offs, .int .i64 m0.fuse, .int .u64 m0.wr] 33) = w6 at *
    clear B6 D5 RV5 own5
    generalize w5.heap.size = g at *
    have HP0 := Lib.hid P0
    have HO6 := Lib.hid own6
    clear P0 own6 GN GG GR GY GW GS
    go_loopw [9] (fun q wr => ∃ (i : Nat) (s m : Dv) (cs : Array Value), i ≤ ss.length ∧ q = .int .i64 i ∧ Two w wr a mk mw g s m cs ∧ Own wr w.heap.size 5 .u8 (.slice (some ⟨g7, 0, none⟩) 128 c7) X ∧ (s.offs ≤ i ∧ s.wr ≤ i + 1 ∧ m.offs ≤ i ∧ m.wr ≤ i) ∧ m.Ok ∧ m.size = 128 ∧ s.count = 4 ∧ Keep2 s X) (fun q _ => ss.length - (intOf q).toNat)
    case atStart => exact ⟨0, s2, m0, _, Nat.zero_le _, rfl, HP0.out, HO6.out, ⟨by omega, by omega, by rw [HM0.out.2.1]; decide, by rw [HM0.out.2.2.1]; decide⟩, HM0.out.1, HM0.out.2.2.2, q4, HK0.out⟩
    case round =>
      clear HP0 HO6 HM0 HK0 q1 q2 q3 q4
      obtain ⟨i, s, m, cs, hi, rfl, P, own, ⟨hof, hwr, hmf, hmw⟩, hok, hms, hct, hkp⟩ := hrel
      have HOK := Lib.hid hok
      have HKP := Lib.hid hkp
      clear hok hkp
      by_cases hlt : i < ss.length
      · obtain ⟨Ak, ck, Aw, cw, hce, -⟩ := P.r
        injection hce with hce
        subst hce
        obtain ⟨b, off, hA, hbl, hra, k0, k1, k2, z1, z2, zo, zr⟩ := stepAt6 HR.out hlt
        subst hA
        have zl := hg2 ss[i] (List.getElem_mem hlt)
        generalize ss[i] = o at *
        have HRA : Hid (∀ W, Below w.heap.size w W → W.rangeAt b (off + i * 5) o.cells) := Lib.hid (fun W hB j u hu => (hB.cell (p := ⟨b, _, none⟩) hbl).trans (hra j u hu))
        have hib := bounds_i64 k1
        have hbb := bounds_u8 k2
        have y0 : wr.cell? ⟨b, off + i * 5, none⟩ = some (.int .i64 o.k) := by simpa using HRA.out _ P.d.b 0 _ rfl
        have y1 : wr.cell? ⟨b, off + i * 5 + 1, none⟩ = some (.int .i64 o.i) := HRA.out _ P.d.b 1 _ rfl
        have d0 : decide ((i : Int) < (ss.length : Int)) = true := decide_eq_true (by omega)
        by_cases hskip : o.k = 0 ∧ o.i = 2
        · have f0 : (o.k == 0) = true := by rw [hskip.1]; rfl
          have f1 : (o.i == 2) = true := by rw [hskip.2]; rfl
          have HP := Lib.hid P
          have HO := Lib.hid own
          clear hra zl zo zr z1 z2 k0 k1 k2 hib hbb HRA hskip P own
          go_wp2_with fail
          go_roundw
          case rel => exact ⟨i + 1, s, m, _, by omega, by go_num, HP.out, HO.out, ⟨by omega, by omega, by omega, by omega⟩, HOK.out, hms, hct, HKP.out⟩
          case measure => simp [intOf]; omega
        obtain ⟨s1, hs1⟩ : ∃ s1, stepD m.size s o = s1 := ⟨_, rfl⟩
        obtain ⟨m1, hm1⟩ : ∃ m1, stepD m.size m o = m1 := ⟨_, rfl⟩
        have hnear := stepD_near m.size s o
        have hnearm := stepD_near m.size m o
        have hok1 : Hid m1.Ok := Lib.hid (by rw [← hm1]; exact stepD_ok HOK.out hib.2)
        have hkp1 : Hid (Keep2 s1 X) := Lib.hid (by rw [← hs1]; exact keep2_step P.d.d.ok HKP.out hskip)
        rw [hs1] at hnear
        rw [hm1] at hnearm
        have HDO : Hid (∀ W, Two w W a mk mw g s m (dCells Ak ck Aw cw m) → Calls Try.prog 13 #[.pointer (some ⟨a, 0, none⟩), .agg (dCells Ak ck Aw cw m), .agg o.cells.toArray] W (Does w W a mk mw s1 m1 (s = m))) := Lib.hid (fun W P => by
          have := does_any w W a mk mw s m o (.agg (dCells Ak ck Aw cw m)) P.d P.r HOK.out ⟨by omega, by omega⟩ ⟨by omega, by omega⟩ hib hbb (by omega) zo ((zr.below P.d.b).more P.d.b.size)
          rwa [hs1, hm1] at this)
        obtain ⟨n1, n2, n3, n4⟩ := hnear
        obtain ⟨n5, n6, n7, n8⟩ := hnearm
        have ftest : ((o.k == 0) = true ∧ (o.i == 2) = false) ∨ (o.k == 0) = false := by
          by_cases h0 : o.k = 0
          · exact Or.inl ⟨by rw [h0]; rfl, by simpa using fun h => hskip ⟨h0, h⟩⟩
          · exact Or.inr (by simpa using h0)
        clear hs1 hm1 hra zl zo zr z1 z2 k0 k1 k2 hib hbb hskip
        have hP := Lib.hid P
        clear P
        rcases ftest with ⟨f0, f1⟩ | f0
        all_goals
          go_wp2_with fail
          go_cut [10, 11] (fun _ v12 wx => Mid2 w wr wx a mk mw g s1 m1 v12)
          case first =>
            have P := hP.out
            clear hP
            have P : Two w wr.drew a mk mw g s m (dCells Ak ck Aw cw m) := Two.below P (below_draws (Below.refl _ _) 1)
            have TD : TurnsIn (DSet a mk mw) wr wr.drew := (TurnsIn.refl _ wr).drewN 1
            refine wp_region_held_drew (S := fun W => Block W g 33 (dCells Ak ck Aw cw m) ∧ W.rangeAt b (off + i * 5) o.cells) (by kernel_rfl) ⟨P.x, HRA.out _ P.d.b⟩ (fun hS => ?_)
            refine wpAnyH_take (i := 0) (oi := ⟨some 67, _, _, _, _, _⟩) (v := .pointer (some ⟨a, 0, none⟩)) rfl (by kernel_rfl) (by kernel_rfl) (by kernel_rfl) (fun _ _ _ h => h) (Or.inl ⟨by rfl, fun W hW => by go_simp⟩) hS ?_
            try simp only [Act.put, List.setIfInBounds_toArray, List.set_cons_zero, List.set_cons_succ]
            refine wpAnyH_take (i := 1) (oi := ⟨some 68, _, _, _, _, _⟩) (v := .agg (dCells Ak ck Aw cw m)) rfl (by kernel_rfl) (by kernel_rfl) (by kernel_rfl) (fun _ _ _ h => h) (yieldsIf_load_mid (by rfl) _ _ rfl g (0) rfl (dCells Ak ck Aw cw m).toList _ (fun W hW => block_range hW.1) Try.underlying33 rfl (by kernel_rfl)) hS ?_
            try simp only [Act.put, List.setIfInBounds_toArray, List.set_cons_zero, List.set_cons_succ]
            refine wpAnyH_take (i := 2) (oi := ⟨some 69, _, _, _, _, _⟩) (v := .slice (some ⟨b, off, none⟩) ss.length c) rfl (by kernel_rfl) (by kernel_rfl) (by kernel_rfl) (fun _ _ _ h => h) (Or.inl ⟨by rfl, fun W hW => by go_simp⟩) hS ?_
            try simp only [Act.put, List.setIfInBounds_toArray, List.set_cons_zero, List.set_cons_succ]
            refine wpAnyH_take (i := 3) (oi := ⟨some 70, _, _, _, _, _⟩) (v := .int .i64 i) rfl (by kernel_rfl) (by kernel_rfl) (by kernel_rfl) (fun _ _ _ h => h) (Or.inl ⟨by rfl, fun W hW => by go_simp⟩) hS ?_
            try simp only [Act.put, List.setIfInBounds_toArray, List.set_cons_zero, List.set_cons_succ]
            refine wpAnyH_take (i := 4) (oi := ⟨some 71, _, _, _, _, _⟩) (v := .pointer (some ⟨b, off + i * 5, none⟩)) rfl (by kernel_rfl) (by kernel_rfl) (by kernel_rfl) (fun _ _ _ h => h) (Or.inl ⟨by rfl, fun W hW => by go_simp⟩) hS ?_
            try simp only [Act.put, List.setIfInBounds_toArray, List.set_cons_zero, List.set_cons_succ]
            refine wpAnyH_take (i := 5) (oi := ⟨some 72, _, _, _, _, _⟩) (v := .agg o.cells.toArray) rfl (by kernel_rfl) (by kernel_rfl) (by kernel_rfl) (fun _ _ _ h => h) (yieldsIf_load_mid (by rfl) _ _ rfl b (off + i * 5) rfl o.cells _ (fun W hW => hW.2) Try.underlying39 rfl (by kernel_rfl)) hS ?_
            try simp only [Act.put, List.setIfInBounds_toArray, List.set_cons_zero, List.set_cons_succ]
            refine wpAnyH_ready (rs := [6, 10]) (by kernel_rfl) (by simp) ?_
            refine AllReadyH.cons rfl (fun K hK => ?_) (AllReadyH.cons rfl (fun K hK => ?_) AllReadyH.nil)
            · go_simp
              go_at_call 13
              refine (HDO.out _ P).mono ?_
              rintro e x1 ⟨r, v1, rfl, -, D1, RV1, T1⟩
              obtain ⟨Ak1, ck1, Aw1, cw1, rfl, hr1⟩ := RV1
              have RV1 : RDv x1 (.agg (dCells Ak1 ck1 Aw1 cw1 m1)) m1 := ⟨Ak1, ck1, Aw1, cw1, rfl, hr1⟩
              have X1 := Block.dset P.d.d T1 P.x (by decide)
              clear hr1
              refine hK.out _ _ ⟨X1, HRA.out _ D1.b⟩ (fun hS => ?_)
              clear hK K
              try simp only [Act.put, List.setIfInBounds_toArray, List.set_cons_zero, List.set_cons_succ]
              refine wpAnyH_take (i := 7) (oi := ⟨some 66, _, _, _, _, _⟩) (v := .tuple #[.bool r, .agg (dCells Ak1 ck1 Aw1 cw1 m1)]) rfl (by kernel_rfl) (by kernel_rfl) (by kernel_rfl) (fun _ _ _ h => h) (Or.inl ⟨by rfl, fun W hW => by go_simp⟩) hS ?_
              try simp only [Act.put, List.setIfInBounds_toArray, List.set_cons_zero, List.set_cons_succ]
              refine wpAnyH_take (i := 8) (oi := ⟨some 74, _, _, _, _, _⟩) (v := .bool r) rfl (by kernel_rfl) (by kernel_rfl) (by kernel_rfl) (fun _ _ _ h => h) (Or.inl ⟨by rfl, fun W hW => by go_simp⟩) hS ?_
              try simp only [Act.put, List.setIfInBounds_toArray, List.set_cons_zero, List.set_cons_succ]
              refine wpAnyH_take (i := 9) (oi := ⟨some 75, _, _, _, _, _⟩) (v := .agg (dCells Ak1 ck1 Aw1 cw1 m1)) rfl (by kernel_rfl) (by kernel_rfl) (by kernel_rfl) (fun _ _ _ h => h) (Or.inl ⟨by rfl, fun W hW => by go_simp⟩) hS ?_
              try simp only [Act.put, List.setIfInBounds_toArray, List.set_cons_zero, List.set_cons_succ]
              refine wpAnyH_ready (rs := [10]) (by kernel_rfl) (by simp) ?_
              refine AllReadyH.cons rfl (fun K hK => ?_) AllReadyH.nil
              go_simp
              have B2 : Below x1.heap.size x1 (x1.alloc (.cells zD 33)) := (Below.refl _ _).alloc (Nat.le_refl _) _
              have Z2 : Block (x1.alloc (.cells zD 33)) x1.heap.size 33 zD := Block.new _ _ _
              have D2 := D1.below B2
              have X2 := X1.below B2 X1.lt
              have RV2 := RV1.below B2
              have hg2 := D1.b.size
              have hne := X1.lt
              have T2 := (TD.trans T1).trans (.ofNew B2)
              have hg3 : wr.heap.size ≤ x1.heap.size := T1.size
              refine hK.out _ _ ⟨X2, HRA.out _ D2.b⟩ (fun hS => ?_)
              clear hK K
              try simp only [Act.put, List.setIfInBounds_toArray, List.set_cons_zero, List.set_cons_succ]
              refine wpAnyH_ready (rs := [11]) (by kernel_rfl) (by simp) ?_
              refine AllReadyH.cons rfl (fun K hK => ?_) AllReadyH.nil
              go_simp
              refine hK.out _ _ ⟨X2, HRA.out _ D2.b⟩ (fun hS => ?_)
              clear hK K
              try simp only [Act.put, List.setIfInBounds_toArray, List.set_cons_zero, List.set_cons_succ]
              refine wpAnyH_ready (rs := [12]) (by kernel_rfl) (by simp) ?_
              refine AllReadyH.cons rfl (fun K hK => ?_) AllReadyH.nil
              refine step_store_blk rfl _ _ _ rfl (cs := zD) (ds := (dCells Ak1 ck1 Aw1 cw1 m1).toList) (by exact Z2) rfl rfl rfl (by kernel_rfl) (dCells_one _ _ _ _ _) ?_
              intro x3 Z3 g3
              have D3 := D2.grown Z2 (by decide) (by decide) hg2 g3
              have RV3 := RV2.kept Z2 zD_noText g3
              have X3 := X2.grown g3 (by intro h; injection h with h; omega)
              have T3 := turn_new T2 hg3 g3
              refine hK.out _ _ ⟨X3, HRA.out _ D3.b⟩ (fun hS => ?_)
              clear hK K
              try simp only [Act.put, List.setIfInBounds_toArray, List.set_cons_zero, List.set_cons_succ]
              refine wpAnyH_done (by kernel_rfl) ?_ _
              go_wp2_with fail
              go_meet
              exact ⟨_, _, _, rfl, ⟨rfl, dCells_noText _ _ _ _ _⟩, D3, X3, Z3, RV3, P.g, by omega, T3⟩
            · go_simp
              have B0 : Below wr.drew.heap.size wr.drew (wr.drew.alloc (.cells zD 33)) := (Below.refl _ _).alloc (Nat.le_refl _) _
              have Z0 : Block (wr.drew.alloc (.cells zD 33)) wr.drew.heap.size 33 zD := Block.new _ _ _
              have P2 := Two.below P B0
              have hg2 : w.heap.size ≤ wr.heap.size := P.d.b.size
              have hne : g < wr.heap.size := P.x.lt
              refine hK.out _ _ ⟨P2.x, HRA.out _ P2.d.b⟩ (fun hS => ?_)
              clear hK K
              try simp only [Act.put, List.setIfInBounds_toArray, List.set_cons_zero, List.set_cons_succ]
              refine wpAnyH_ready (rs := [6]) (by kernel_rfl) (by simp) ?_
              refine AllReadyH.cons rfl (fun K hK => ?_) AllReadyH.nil
              go_simp
              go_at_call 13
              refine (HDO.out _ P2).mono ?_
              rintro e x1 ⟨r, v1, rfl, -, D1, RV1, T1⟩
              obtain ⟨Ak1, ck1, Aw1, cw1, rfl, hr1⟩ := RV1
              have RV1 : RDv x1 (.agg (dCells Ak1 ck1 Aw1 cw1 m1)) m1 := ⟨Ak1, ck1, Aw1, cw1, rfl, hr1⟩
              have X1 := Block.dset P2.d.d T1 P2.x (by decide)
              clear hr1
              refine hK.out _ _ ⟨X1, HRA.out _ D1.b⟩ (fun hS => ?_)
              clear hK K
              try simp only [Act.put, List.setIfInBounds_toArray, List.set_cons_zero, List.set_cons_succ]
              refine wpAnyH_take (i := 7) (oi := ⟨some 66, _, _, _, _, _⟩) (v := .tuple #[.bool r, .agg (dCells Ak1 ck1 Aw1 cw1 m1)]) rfl (by kernel_rfl) (by kernel_rfl) (by kernel_rfl) (fun _ _ _ h => h) (Or.inl ⟨by rfl, fun W hW => by go_simp⟩) hS ?_
              try simp only [Act.put, List.setIfInBounds_toArray, List.set_cons_zero, List.set_cons_succ]
              refine wpAnyH_take (i := 8) (oi := ⟨some 74, _, _, _, _, _⟩) (v := .bool r) rfl (by kernel_rfl) (by kernel_rfl) (by kernel_rfl) (fun _ _ _ h => h) (Or.inl ⟨by rfl, fun W hW => by go_simp⟩) hS ?_
              try simp only [Act.put, List.setIfInBounds_toArray, List.set_cons_zero, List.set_cons_succ]
              refine wpAnyH_take (i := 9) (oi := ⟨some 75, _, _, _, _, _⟩) (v := .agg (dCells Ak1 ck1 Aw1 cw1 m1)) rfl (by kernel_rfl) (by kernel_rfl) (by kernel_rfl) (fun _ _ _ h => h) (Or.inl ⟨by rfl, fun W hW => by go_simp⟩) hS ?_
              try simp only [Act.put, List.setIfInBounds_toArray, List.set_cons_zero, List.set_cons_succ]
              have Z2 := Block.dset P2.d.d T1 Z0 (by decide)
              have X2 := X1
              have D2 := D1
              have RV2 := RV1
              have T2 := (TD.trans (.ofNew B0)).trans T1
              have hg3 : wr.heap.size ≤ wr.heap.size := Nat.le_refl _
              refine wpAnyH_ready (rs := [11]) (by kernel_rfl) (by simp) ?_
              refine AllReadyH.cons rfl (fun K hK => ?_) AllReadyH.nil
              go_simp
              refine hK.out _ _ ⟨X2, HRA.out _ D2.b⟩ (fun hS => ?_)
              clear hK K
              try simp only [Act.put, List.setIfInBounds_toArray, List.set_cons_zero, List.set_cons_succ]
              refine wpAnyH_ready (rs := [12]) (by kernel_rfl) (by simp) ?_
              refine AllReadyH.cons rfl (fun K hK => ?_) AllReadyH.nil
              refine step_store_blk rfl _ _ _ rfl (cs := zD) (ds := (dCells Ak1 ck1 Aw1 cw1 m1).toList) (by exact Z2) rfl rfl rfl (by kernel_rfl) (dCells_one _ _ _ _ _) ?_
              intro x3 Z3 g3
              have D3 := D2.grown Z2 (by decide) (by decide) hg2 g3
              have RV3 := RV2.kept Z2 zD_noText g3
              have X3 := X2.grown g3 (by intro h; injection h with h; omega)
              have T3 := turn_new T2 hg3 g3
              refine hK.out _ _ ⟨X3, HRA.out _ D3.b⟩ (fun hS => ?_)
              clear hK K
              try simp only [Act.put, List.setIfInBounds_toArray, List.set_cons_zero, List.set_cons_succ]
              refine wpAnyH_done (by kernel_rfl) ?_ _
              go_wp2_with fail
              go_meet
              exact ⟨_, _, _, rfl, ⟨rfl, dCells_noText _ _ _ _ _⟩, D3, X3, Z3, RV3, P.g, by omega, T3⟩
          case rest =>
          have P := hP.out
          clear HDO HRA hP y0 y1
          obtain ⟨g2, cs, cs2, rfl, ⟨hsz, hnt⟩, D4, X4, Z4, RV4, hgw, hne, T4⟩ := hcut
          rename World => w4
          have own4 := P.d.d.own_new T4 own
          obtain ⟨Ak1, ck1, Aw1, cw1, hce, hr4⟩ := RV4
          injection hce with hce
          subst hce
          have RV4 : RDv w4 (.agg (dCells Ak1 ck1 Aw1 cw1 m1)) m1 := ⟨Ak1, ck1, Aw1, cw1, rfl, hr4⟩
          clear hr4 own P T4
          go_wp2_with (first
            | (have _t := Z4; refine wpList_load_midV (by rfl) _ _ rfl g2 0 rfl (dCells Ak1 ck1 Aw1 cw1 m1).toList (block_range Z4) Try.underlying33 rfl (by kernel_rfl) ?_; clear _t Z4)
            | (have _t := X4; refine wpList_store_blk (cs := cs) rfl _ _ _ rfl (ds := (dCells Ak1 ck1 Aw1 cw1 m1).toList) (by exact X4) rfl rfl (by rw [hsz]; rfl) (by kernel_rfl) (dCells_one _ _ _ _ _) ?_; clear _t; intro w5 X5 g5))
          try simp only [Act.put]
          have HP5 : Hid (Two w w5 a mk mw g s1 m1 (dCells Ak1 ck1 Aw1 cw1 m1)) := Lib.hid ⟨D4.grown X4 (by decide) (by decide) hgw g5, X5, RV4.kept X4 hnt g5, hgw⟩
          have HO5 := Lib.hid (own4.kept g5 (Or.inr (own4.ne_block X4 (by decide))))
          clear X4 D4 RV4 g5 X5 hsz hnt hne own4
          go_wp2_with fail
          go_roundw
          case rel => exact ⟨i + 1, s1, m1, _, by omega, by go_num, HP5.out, HO5.out, ⟨by omega, by omega, by omega, by omega⟩, hok1.out, by omega, by omega, hkp1.out⟩
          case measure => simp [intOf]; omega
      · have d0 : decide ((i : Int) < (ss.length : Int)) = false := decide_eq_false (by omega)
        obtain rfl : i = ss.length := by omega
        have hq : ((strOfNums X).toList == (strOfNums X).toList) = true := beq_self_eq_true _
        have HD := Lib.hid P.d
        have HRD : Hid ((s.back []).read 2 = (X, 0)) := Lib.hid (keep2_read P.d.d.ok HKP.out (by omega))
        clear P hlt
        go_wp2_with (first
          | (go_at_call 21; refine (GB.out s _ _ _ _ HD.out (by omega)).mono ?_; rintro e w7 ⟨rfl, D7, T7⟩; have own7 := HD.out.d.own_new T7 own; clear HD T7 own)
          | (have _t := D7; go_at_call 22; refine (GE.out _ _ _ _ _ D7 HRD.out).mono ?_; rintro e w8 ⟨v8, rfl, own8, hb8⟩; obtain ⟨g8, c8, he8⟩ := own_block own8 HL.out; subst he8; have own7 := own7.below hb8; have D8 := D7.below hb8; clear _t D7 hb8
             have kc := conv_own own7 HL.out
             have kd := conv_own own8 HL.out)
          | (go_at_call 8; refine (GA.out _).mono ?_; rintro e w9 ⟨rfl, hb9⟩))
        go_ret
        exact ⟨rfl, D8.b.trans (hb9.mono D8.b.size)⟩
end Go.Proofs.Ytfngmdojogdodaa.SectorKeeps
