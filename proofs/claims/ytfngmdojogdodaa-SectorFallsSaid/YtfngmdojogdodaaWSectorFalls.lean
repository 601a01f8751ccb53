/-
  SectorFalls: the walk: behind a fall each sector is as it was when it was synced last, as it was written last, or torn, if that was picked for one.
-/
import Derived.Test.YtfngmdojogdodaaSeW
import Derived.BigQuiet
namespace Go.Proofs.Ytfngmdojogdodaa.SectorFalls
open Go.ChangeShapes Go.WideShapes Go.ChangeAt Go.RowKit Go.Proofs.Ytfngmdojogdodaa.Kit Go.Proofs.Ytfngmdojogdodaa.Sec

/-- The ways that a sector may be right, as they are gone through. -/
theorem nine {p1 e1 p2 e2 tn e7 : Bool} (h : (p1 = true ∧ e1 = true) ∨ (p2 = true ∧ e2 = true) ∨ (tn = true ∧ e7 = true)) :
    (p1 = true ∧ e1 = true ∧ p2 = false) ∨ (p1 = true ∧ e1 = true ∧ p2 = true ∧ e2 = false) ∨ (p1 = true ∧ e1 = true ∧ p2 = true ∧ e2 = true) ∨ (p1 = false ∧ p2 = true ∧ e2 = true) ∨ (p1 = true ∧ e1 = false ∧ p2 = true ∧ e2 = true) ∨
    (p1 = false ∧ p2 = false ∧ tn = true ∧ e7 = true) ∨ (p1 = false ∧ p2 = true ∧ e2 = false ∧ tn = true ∧ e7 = true) ∨ (p1 = true ∧ e1 = false ∧ p2 = false ∧ tn = true ∧ e7 = true) ∨ (p1 = true ∧ e1 = false ∧ p2 = true ∧ e2 = false ∧ tn = true ∧ e7 = true) := by
  revert h
  cases p1 <;> cases e1 <;> cases p2 <;> cases e2 <;> cases tn <;> cases e7 <;> decide
/-- Behind the fall: the device, and what is to be compared with it. -/
structure Fell (w0 W : World) (a mk mw K L : Nat) (t m : Dv) (C1 C2 : Array Value) : Prop where
  d : Dev w0 W a mk mw t
  xk : Block W K 33 C1
  xl : Block W L 33 C2
  rk : RDv W (.agg C1) { m with waits := [], off := false }
  rl : RDv W (.agg C2) { m with off := false }
theorem Fell.below {w0 w w' : World} {a mk mw K L : Nat} {t m : Dv} {C1 C2 : Array Value} (h : Fell w0 w a mk mw K L t m C1 C2) (hb : Below w.heap.size w w') : Fell w0 w' a mk mw K L t m C1 C2 :=
  ⟨h.d.below hb, h.xk.below hb h.xk.lt, h.xl.below hb h.xl.lt, h.rk.below hb, h.rl.below hb⟩

set_option maxRecDepth 100000 in
set_option maxHeartbeats 6400000 in
theorem walk (A : Option Addr) (ss : List Step6) (c : Nat) (Ap : Option Addr) (ps : List Int) (cp : Nat) (w : World) (hl : ss.length ≤ c) (hmx : c ≤ maxLen) (hr : HoldsQ w w.heap.size A ss) (hpl : ps.length ≤ cp) (hpm : cp ≤ maxLen) (hpo : Octets ps) (hpr : Holds w w.heap.size .u8 Ap ps) :
    Calls Try.prog 5 #[.slice A ss.length c, .slice Ap ps.length cp] w fun e w' => e = .returned (.bool true) ∧ Below w.heap.size w w' := by
  have GA := Lib.hid awake_any
  have GN := Lib.hid (fun W => new_any (fun _ => True) 128 4 W (by decide) (by decide) (by decide) (by decide))
  have hgr := great_no (ss := ss)
  have GG := Lib.hid (fun W (hb : Below w.heap.size w W) => great_any A ss c w.heap.size W hl hmx (hr.below hb))
  have GR := Lib.hid (fun W => rnew_any 128 4 W)
  have HR := Lib.hid hr
  have HPR := Lib.hid hpr
  generalize greatB ss = gr at *
  have HM0 : Hid ((Dv.new 128 4).Ok ∧ (Dv.new 128 4).offs = 0 ∧ (Dv.new 128 4).wr = 0 ∧ (Dv.new 128 4).size = 128 ∧ (Dv.new 128 4).count = 4) := Lib.hid ⟨Dv.new_ok (by decide) (by decide) (by decide) (by decide), rfl, rfl, rfl, rfl⟩
  generalize Dv.new 128 4 = m0 at *
  clear hr hpr
  have hcase : gr = true ∨ (gr = false ∧ decide ((60 : Int) < (ps.length : Int)) = true) ∨ (gr = false ∧ decide ((60 : Int) < (ps.length : Int)) = false) := by
    cases gr <;> cases decide ((60 : Int) < (ps.length : Int)) <;> simp
  rcases hcase with rfl | ⟨rfl, hp6⟩ | ⟨rfl, hp6⟩
  iterate 2
    · go_enter Try.func5, Try.ntmps5
      go_wp2_with (first
        | (go_at_call 7; refine (GN.out _).mono ?_; rintro e w1 ⟨a, mk, mw, rfl, D, hb1, ga, gk, gw⟩; have D1 : Dev w w1 a mk mw m0 := ⟨D, hb1, ga, gk, gw⟩; clear D hb1 ga gk gw)
        | (go_at_call 11; refine (GG.out _ D1.b).mono ?_; rintro e w9 ⟨rfl, rfl⟩)
        | (go_at_call 8; refine (GA.out _).mono ?_; rintro e w5 ⟨rfl, hb5⟩))
      go_ret
      exact ⟨rfl, D1.b.trans (hb5.mono D1.b.size)⟩
  obtain ⟨hg1, hg2⟩ := hgr rfl
  clear hgr
  go_enter Try.func5, Try.ntmps5
  go_wp2_with (first
    | (go_at_call 7; refine (GN.out _).mono ?_; rintro e w1 ⟨a, mk, mw, rfl, D, hb1, ga, gk, gw⟩; have D1 : Dev w w1 a mk mw m0 := ⟨D, hb1, ga, gk, gw⟩; clear D hb1 ga gk gw)
    | (go_at_call 11; refine (GG.out _ D1.b).mono ?_; rintro e w9 ⟨rfl, rfl⟩)
    | (have _t := D1; go_at_call 12; refine (GR.out _).mono ?_; rintro e w5 ⟨v5, rfl, hv5, hb5⟩; obtain ⟨Ak0, ck0, Aw0, cw0, hve, hr5⟩ := hv5; have RV5 : RDv w5 (.agg (dCells Ak0 ck0 Aw0 cw0 m0)) m0 := ⟨Ak0, ck0, Aw0, cw0, rfl, hr5⟩; subst hve; have D5 := D1.below hb5; clear _t hr5 D1 hb5; unfold dCells))
  have B6 : Below w5.heap.size w5 (w5.alloc (.cells #[.int .i64 m0.size, .int .i64 m0.count, .slice Ak0 m0.kept.length ck0, .slice Aw0 m0.waits.length cw0, .bool m0.off, .int .i64 m0.offs, .int .i64 m0.fuse, .int .u64 m0.wr] 33)) := (Below.refl _ _).alloc (Nat.le_refl _) _
  have P0 : Two w (w5.alloc (.cells #[.int .i64 m0.size, .int .i64 m0.count, .slice Ak0 m0.kept.length ck0, .slice Aw0 m0.waits.length cw0, .bool m0.off, .int .i64 m0.offs, .int .i64 m0.fuse, .int .u64 m0.wr] 33)) a mk mw w5.heap.size m0 m0 (dCells Ak0 ck0 Aw0 cw0 m0) := ⟨D5.below B6, Block.new _ _ _, RV5.below B6, D5.b.size⟩
  generalize w5.alloc (.cells #[.int .i64 m0.size, .int .i64 m0.count, .slice Ak0 m0.kept.length ck0, .slice Aw0 m0.waits.length cw0, .bool m0.off, .int .i64 m0.offs, .int .i64 m0.fuse, .int .u64 m0.wr] 33) = w6 at *
  clear B6 D5 RV5
  generalize w5.heap.size = g at *
  have HP0 := Lib.hid P0
  clear P0 GN GG GR
  go_loopw [8] (fun q wr => ∃ (i : Nat) (m : Dv) (cs : Array Value), i ≤ ss.length ∧ q = .int .i64 i ∧ Two w wr a mk mw g m m cs ∧ (m.offs ≤ i ∧ m.wr ≤ i) ∧ m.count = 4) (fun q _ => ss.length - (intOf q).toNat)
  case atStart => exact ⟨0, m0, _, Nat.zero_le _, rfl, HP0.out, ⟨by rw [HM0.out.2.1]; decide, by rw [HM0.out.2.2.1]; decide⟩, HM0.out.2.2.2.2⟩
  case round =>
    clear HP0 HM0
    obtain ⟨i, m, cs, hi, rfl, P, ⟨hmf, hmw⟩, hct⟩ := hrel
    by_cases hlt : i < ss.length
    · obtain ⟨Ak, ck, Aw, cw, hce, -⟩ := P.r
      injection hce with hce
      subst hce
      obtain ⟨b, off, hA, hbl, hra, k0, k1, k2, z1, z2, zo, zr⟩ := stepAt6 HR.out hlt
      subst hA
      have zl := hg2 ss[i] (List.getElem_mem hlt)
      generalize ss[i] = o at *
      have HRA : Hid (∀ W, Below w.heap.size w W → W.rangeAt b (off + i * 5) o.cells) := Lib.hid (fun W hB j u hu => (hB.cell (p := ⟨b, _, none⟩) hbl).trans (hra j u hu))
      have hib := bounds_i64 k1
      have hbb := bounds_u8 k2
      have d0 : decide ((i : Int) < (ss.length : Int)) = true := decide_eq_true (by omega)
      obtain ⟨m1, hm1⟩ : ∃ m1, stepD m.size m o = m1 := ⟨_, rfl⟩
      have hnearm := stepD_near m.size m o
      rw [hm1] at hnearm
      have HDO : Hid (∀ W, Two w W a mk mw g m m (dCells Ak ck Aw cw m) → Calls Try.prog 13 #[.pointer (some ⟨a, 0, none⟩), .agg (dCells Ak ck Aw cw m), .agg o.cells.toArray] W (Does w W a mk mw m1 m1 (m = m))) := Lib.hid (fun W P => by
        have := does_any w W a mk mw m m o (.agg (dCells Ak ck Aw cw m)) P.d P.r P.d.d.ok ⟨by omega, by omega⟩ ⟨by omega, by omega⟩ hib hbb (by omega) zo ((zr.below P.d.b).more P.d.b.size)
        rwa [hm1] at this)
      obtain ⟨n5, n6, n7, n8⟩ := hnearm
      clear hm1 hra zl zo zr z1 z2 k0 k1 k2 hib hbb
      go_wp2_with fail
      go_cut [9, 10] (fun _ v12 wx => Mid2 w wr wx a mk mw g m1 m1 v12)
      case first =>
        have P : Two w wr.drew a mk mw g m m (dCells Ak ck Aw cw m) := Two.below P (below_draws (Below.refl _ _) 1)
        have TD : TurnsIn (DSet a mk mw) wr wr.drew := (TurnsIn.refl _ wr).drewN 1
        refine wp_region_held_drew (S := fun W => Block W g 33 (dCells Ak ck Aw cw m) ∧ W.rangeAt b (off + i * 5) o.cells) (by kernel_rfl) ⟨P.x, HRA.out _ P.d.b⟩ (fun hS => ?_)
        refine wpAnyH_take (i := 0) (oi := ⟨some 56, _, _, _, _, _⟩) (v := .pointer (some ⟨a, 0, none⟩)) rfl (by kernel_rfl) (by kernel_rfl) (by kernel_rfl) (fun _ _ _ h => h) (Or.inl ⟨by rfl, fun W hW => by go_simp⟩) hS ?_
        try simp only [Act.put, List.setIfInBounds_toArray, List.set_cons_zero, List.set_cons_succ]
        refine wpAnyH_take (i := 1) (oi := ⟨some 57, _, _, _, _, _⟩) (v := .agg (dCells Ak ck Aw cw m)) rfl (by kernel_rfl) (by kernel_rfl) (by kernel_rfl) (fun _ _ _ h => h) (yieldsIf_load_mid (by rfl) _ _ rfl g (0) rfl (dCells Ak ck Aw cw m).toList _ (fun W hW => block_range hW.1) Try.underlying33 rfl (by kernel_rfl)) hS ?_
        try simp only [Act.put, List.setIfInBounds_toArray, List.set_cons_zero, List.set_cons_succ]
        refine wpAnyH_take (i := 2) (oi := ⟨some 58, _, _, _, _, _⟩) (v := .slice (some ⟨b, off, none⟩) ss.length c) rfl (by kernel_rfl) (by kernel_rfl) (by kernel_rfl) (fun _ _ _ h => h) (Or.inl ⟨by rfl, fun W hW => by go_simp⟩) hS ?_
        try simp only [Act.put, List.setIfInBounds_toArray, List.set_cons_zero, List.set_cons_succ]
        refine wpAnyH_take (i := 3) (oi := ⟨some 59, _, _, _, _, _⟩) (v := .int .i64 i) rfl (by kernel_rfl) (by kernel_rfl) (by kernel_rfl) (fun _ _ _ h => h) (Or.inl ⟨by rfl, fun W hW => by go_simp⟩) hS ?_
        try simp only [Act.put, List.setIfInBounds_toArray, List.set_cons_zero, List.set_cons_succ]
        refine wpAnyH_take (i := 4) (oi := ⟨some 60, _, _, _, _, _⟩) (v := .pointer (some ⟨b, off + i * 5, none⟩)) rfl (by kernel_rfl) (by kernel_rfl) (by kernel_rfl) (fun _ _ _ h => h) (Or.inl ⟨by rfl, fun W hW => by go_simp⟩) hS ?_
        try simp only [Act.put, List.setIfInBounds_toArray, List.set_cons_zero, List.set_cons_succ]
        refine wpAnyH_take (i := 5) (oi := ⟨some 61, _, _, _, _, _⟩) (v := .agg o.cells.toArray) rfl (by kernel_rfl) (by kernel_rfl) (by kernel_rfl) (fun _ _ _ h => h) (yieldsIf_load_mid (by rfl) _ _ rfl b (off + i * 5) rfl o.cells _ (fun W hW => hW.2) Try.underlying39 rfl (by kernel_rfl)) hS ?_
        try simp only [Act.put, List.setIfInBounds_toArray, List.set_cons_zero, List.set_cons_succ]
        refine wpAnyH_ready (rs := [6, 10]) (by kernel_rfl) (by simp) ?_
        refine AllReadyH.cons rfl (fun K hK => ?_) (AllReadyH.cons rfl (fun K hK => ?_) AllReadyH.nil)
        · go_simp
          go_at_call 13
          refine (HDO.out _ P).mono ?_
          rintro e x1 ⟨r, v1, rfl, -, D1, RV1, T1⟩
          obtain ⟨Ak1, ck1, Aw1, cw1, rfl, hr1⟩ := RV1
          have RV1 : RDv x1 (.agg (dCells Ak1 ck1 Aw1 cw1 m1)) m1 := ⟨Ak1, ck1, Aw1, cw1, rfl, hr1⟩
          have X1 := Block.dset P.d.d T1 P.x (by decide)
          clear hr1
          refine hK.out _ _ ⟨X1, HRA.out _ D1.b⟩ (fun hS => ?_)
          clear hK K
          try simp only [Act.put, List.setIfInBounds_toArray, List.set_cons_zero, List.set_cons_succ]
          refine wpAnyH_take (i := 7) (oi := ⟨some 55, _, _, _, _, _⟩) (v := .tuple #[.bool r, .agg (dCells Ak1 ck1 Aw1 cw1 m1)]) rfl (by kernel_rfl) (by kernel_rfl) (by kernel_rfl) (fun _ _ _ h => h) (Or.inl ⟨by rfl, fun W hW => by go_simp⟩) hS ?_
          try simp only [Act.put, List.setIfInBounds_toArray, List.set_cons_zero, List.set_cons_succ]
          refine wpAnyH_take (i := 8) (oi := ⟨some 63, _, _, _, _, _⟩) (v := .bool r) rfl (by kernel_rfl) (by kernel_rfl) (by kernel_rfl) (fun _ _ _ h => h) (Or.inl ⟨by rfl, fun W hW => by go_simp⟩) hS ?_
          try simp only [Act.put, List.setIfInBounds_toArray, List.set_cons_zero, List.set_cons_succ]
          refine wpAnyH_take (i := 9) (oi := ⟨some 64, _, _, _, _, _⟩) (v := .agg (dCells Ak1 ck1 Aw1 cw1 m1)) rfl (by kernel_rfl) (by kernel_rfl) (by kernel_rfl) (fun _ _ _ h => h) (Or.inl ⟨by rfl, fun W hW => by go_simp⟩) hS ?_
          try simp only [Act.put, List.setIfInBounds_toArray, List.set_cons_zero, List.set_cons_succ]
          refine wpAnyH_ready (rs := [10]) (by kernel_rfl) (by simp) ?_
          refine AllReadyH.cons rfl (fun K hK => ?_) AllReadyH.nil
          go_simp
          have B2 : Below x1.heap.size x1 (x1.alloc (.cells zD 33)) := (Below.refl _ _).alloc (Nat.le_refl _) _
          have Z2 : Block (x1.alloc (.cells zD 33)) x1.heap.size 33 zD := Block.new _ _ _
          have D2 := D1.below B2
          have X2 := X1.below B2 X1.lt
          have RV2 := RV1.below B2
          have hg2 := D1.b.size
          have hne := X1.lt
          have T2 := (TD.trans T1).trans (.ofNew B2)
          have hg3 : wr.heap.size ≤ x1.heap.size := T1.size
          refine hK.out _ _ ⟨X2, HRA.out _ D2.b⟩ (fun hS => ?_)
          clear hK K
          try simp only [Act.put, List.setIfInBounds_toArray, List.set_cons_zero, List.set_cons_succ]
          refine wpAnyH_ready (rs := [11]) (by kernel_rfl) (by simp) ?_
          refine AllReadyH.cons rfl (fun K hK => ?_) AllReadyH.nil
          go_simp
          refine hK.out _ _ ⟨X2, HRA.out _ D2.b⟩ (fun hS => ?_)
          clear hK K
          try simp only [Act.put, List.setIfInBounds_toArray, List.set_cons_zero, List.set_cons_succ]
          refine wpAnyH_ready (rs := [12]) (by kernel_rfl) (by simp) ?_
          refine AllReadyH.cons rfl (fun K hK => ?_) AllReadyH.nil
          refine step_store_blk rfl _ _ _ rfl (cs := zD) (ds := (dCells Ak1 ck1 Aw1 cw1 m1).toList) (by exact Z2) rfl rfl rfl (by kernel_rfl) (dCells_one _ _ _ _ _) ?_
          intro x3 Z3 g3
          have D3 := D2.grown Z2 (by decide) (by decide) hg2 g3
          have RV3 := RV2.kept Z2 zD_noText g3
          have X3 := X2.grown g3 (by intro h; injection h with h; omega)
          have T3 := turn_new T2 hg3 g3
          refine hK.out _ _ ⟨X3, HRA.out _ D3.b⟩ (fun hS => ?_)
          clear hK K
          try simp only [Act.put, List.setIfInBounds_toArray, List.set_cons_zero, List.set_cons_succ]
          refine wpAnyH_done (by kernel_rfl) ?_ _
          go_wp2_with fail
          go_meet
          exact ⟨_, _, _, rfl, ⟨rfl, dCells_noText _ _ _ _ _⟩, D3, X3, Z3, RV3, P.g, by omega, T3⟩
        · go_simp
          have B0 : Below wr.drew.heap.size wr.drew (wr.drew.alloc (.cells zD 33)) := (Below.refl _ _).alloc (Nat.le_refl _) _
          have Z0 : Block (wr.drew.alloc (.cells zD 33)) wr.drew.heap.size 33 zD := Block.new _ _ _
          have P2 := Two.below P B0
          have hg2 : w.heap.size ≤ wr.heap.size := P.d.b.size
          have hne : g < wr.heap.size := P.x.lt
          refine hK.out _ _ ⟨P2.x, HRA.out _ P2.d.b⟩ (fun hS => ?_)
          clear hK K
          try simp only [Act.put, List.setIfInBounds_toArray, List.set_cons_zero, List.set_cons_succ]
          refine wpAnyH_ready (rs := [6]) (by kernel_rfl) (by simp) ?_
          refine AllReadyH.cons rfl (fun K hK => ?_) AllReadyH.nil
          go_simp
          go_at_call 13
          refine (HDO.out _ P2).mono ?_
          rintro e x1 ⟨r, v1, rfl, -, D1, RV1, T1⟩
          obtain ⟨Ak1, ck1, Aw1, cw1, rfl, hr1⟩ := RV1
          have RV1 : RDv x1 (.agg (dCells Ak1 ck1 Aw1 cw1 m1)) m1 := ⟨Ak1, ck1, Aw1, cw1, rfl, hr1⟩
          have X1 := Block.dset P2.d.d T1 P2.x (by decide)
          clear hr1
          refine hK.out _ _ ⟨X1, HRA.out _ D1.b⟩ (fun hS => ?_)
          clear hK K
          try simp only [Act.put, List.setIfInBounds_toArray, List.set_cons_zero, List.set_cons_succ]
          refine wpAnyH_take (i := 7) (oi := ⟨some 55, _, _, _, _, _⟩) (v := .tuple #[.bool r, .agg (dCells Ak1 ck1 Aw1 cw1 m1)]) rfl (by kernel_rfl) (by kernel_rfl) (by kernel_rfl) (fun _ _ _ h => h) (Or.inl ⟨by rfl, fun W hW => by go_simp⟩) hS ?_
          try simp only [Act.put, List.setIfInBounds_toArray, List.set_cons_zero, List.set_cons_succ]
          refine wpAnyH_take (i := 8) (oi := ⟨some 63, _, _, _, _, _⟩) (v := .bool r) rfl (by kernel_rfl) (by kernel_rfl) (by kernel_rfl) (fun _ _ _ h => h) (Or.inl ⟨by rfl, fun W hW => by go_simp⟩) hS ?_
          try simp only [Act.put, List.setIfInBounds_toArray, List.set_cons_zero, List.set_cons_succ]
          refine wpAnyH_take (i := 9) (oi := ⟨some 64, _, _, _, _, _⟩) (v := .agg (dCells Ak1 ck1 Aw1 cw1 m1)) rfl (by kernel_rfl) (by kernel_rfl) (by kernel_rfl) (fun _ _ _ h => h) (Or.inl ⟨by rfl, fun W hW => by go_simp⟩) hS ?_
          try simp only [Act.put, List.setIfInBounds_toArray, List.set_cons_zero, List.set_cons_succ]
          have Z2 := Block.dset P2.d.d T1 Z0 (by decide)
          have X2 := X1
          have D2 := D1
          have RV2 := RV1
          have T2 := (TD.trans (.ofNew B0)).trans T1
          have hg3 : wr.heap.size ≤ wr.heap.size := Nat.le_refl _
          refine wpAnyH_ready (rs := [11]) (by kernel_rfl) (by simp) ?_
          refine AllReadyH.cons rfl (fun K hK => ?_) AllReadyH.nil
          go_simp
          refine hK.out _ _ ⟨X2, HRA.out _ D2.b⟩ (fun hS => ?_)
          clear hK K
          try simp only [Act.put, List.setIfInBounds_toArray, List.set_cons_zero, List.set_cons_succ]
          refine wpAnyH_ready (rs := [12]) (by kernel_rfl) (by simp) ?_
          refine AllReadyH.cons rfl (fun K hK => ?_) AllReadyH.nil
          refine step_store_blk rfl _ _ _ rfl (cs := zD) (ds := (dCells Ak1 ck1 Aw1 cw1 m1).toList) (by exact Z2) rfl rfl rfl (by kernel_rfl) (dCells_one _ _ _ _ _) ?_
          intro x3 Z3 g3
          have D3 := D2.grown Z2 (by decide) (by decide) hg2 g3
          have RV3 := RV2.kept Z2 zD_noText g3
          have X3 := X2.grown g3 (by intro h; injection h with h; omega)
          have T3 := turn_new T2 hg3 g3
          refine hK.out _ _ ⟨X3, HRA.out _ D3.b⟩ (fun hS => ?_)
          clear hK K
          try simp only [Act.put, List.setIfInBounds_toArray, List.set_cons_zero, List.set_cons_succ]
          refine wpAnyH_done (by kernel_rfl) ?_ _
          go_wp2_with fail
          go_meet
          exact ⟨_, _, _, rfl, ⟨rfl, dCells_noText _ _ _ _ _⟩, D3, X3, Z3, RV3, P.g, by omega, T3⟩
      case rest =>
      clear HDO HRA
      obtain ⟨g2, cs, cs2, rfl, ⟨hsz, hnt⟩, D4, X4, Z4, RV4, hgw, hne, T4⟩ := hcut
      rename World => w4
      obtain ⟨Ak1, ck1, Aw1, cw1, hce, hr4⟩ := RV4
      injection hce with hce
      subst hce
      have RV4 : RDv w4 (.agg (dCells Ak1 ck1 Aw1 cw1 m1)) m1 := ⟨Ak1, ck1, Aw1, cw1, rfl, hr4⟩
      clear hr4 P T4
      go_wp2_with (first
        | (have _t := Z4; refine wpList_load_midV (by rfl) _ _ rfl g2 0 rfl (dCells Ak1 ck1 Aw1 cw1 m1).toList (block_range Z4) Try.underlying33 rfl (by kernel_rfl) ?_; clear _t Z4)
        | (have _t := X4; refine wpList_store_blk (cs := cs) rfl _ _ _ rfl (ds := (dCells Ak1 ck1 Aw1 cw1 m1).toList) (by exact X4) rfl rfl (by rw [hsz]; rfl) (by kernel_rfl) (dCells_one _ _ _ _ _) ?_; clear _t; intro w5 X5 g5))
      try simp only [Act.put]
      have HP5 : Hid (Two w w5 a mk mw g m1 m1 (dCells Ak1 ck1 Aw1 cw1 m1)) := Lib.hid ⟨D4.grown X4 (by decide) (by decide) hgw g5, X5, RV4.kept X4 hnt g5, hgw⟩
      clear X4 D4 RV4 g5 X5 hsz hnt hne
      go_wp2_with fail
      go_roundw
      case rel => exact ⟨i + 1, m1, _, by omega, by go_num, HP5.out, ⟨by omega, by omega⟩, by omega⟩
      case measure => simp [intOf]; omega
    · have d0 : decide ((i : Int) < (ss.length : Int)) = false := decide_eq_false (by omega)
      obtain rfl : i = ss.length := by omega
      obtain ⟨Ak, ck, Aw, cw, hce, hrr⟩ := P.r
      injection hce with hce
      subst hce
      have HCT := Lib.hid hct
      have hp60 : ps.length ≤ 60 := by have := of_decide_eq_false hp6; omega
      have HB3 : Hid (∀ o p q, Below wr.heap.size wr (((wr.alloc o).alloc p).alloc q)) := Lib.hid (fun o p q => (below_two wr o p).alloc (by simp; omega) q)
      have HBK : Hid (∀ o p q, Calls Try.prog 21 #[.pointer (some ⟨a, 0, none⟩), .slice Ap ps.length cp] (((wr.alloc o).alloc p).alloc q) (Moves w a mk mw (((wr.alloc o).alloc p).alloc q) (m.back ps) (.tuple #[]))) := Lib.hid (fun o p q => by
        have D3 := P.d.below (HB3.out o p q)
        exact D3.moves (back_any _ a mk mw m Ap ps cp _ D3.d (fun _ _ => trivial) (by omega) hpo ((HPR.out.below D3.b).more D3.b.size) (by omega)))
      have HF : Hid (∀ W, TurnsIn (DSet a mk mw) (((wr.alloc (.cells (dCells Ak ck (some ⟨wr.heap.size + 1, 0, none⟩) 0 { m with waits := [], off := false }) 33)).alloc (.cells #[] 74)).alloc (.cells (dCells Ak ck Aw cw { m with off := false }) 33)) W → Dev w W a mk mw (m.back ps) →
          Fell w W a mk mw wr.heap.size (wr.heap.size + 1 + 1) (m.back ps) m (dCells Ak ck (some ⟨wr.heap.size + 1, 0, none⟩) 0 { m with waits := [], off := false }) (dCells Ak ck Aw cw { m with off := false })) := Lib.hid (fun W t D => by
        have D3 := P.d.below (HB3.out (.cells (dCells Ak ck (some ⟨wr.heap.size + 1, 0, none⟩) 0 { m with waits := [], off := false }) 33) (.cells #[] 74) (.cells (dCells Ak ck Aw cw { m with off := false }) 33))
        have b3 := HB3.out (.cells (dCells Ak ck (some ⟨wr.heap.size + 1, 0, none⟩) 0 { m with waits := [], off := false }) 33) (.cells #[] 74) (.cells (dCells Ak ck Aw cw { m with off := false }) 33)
        have hz2 : ((wr.alloc (.cells (dCells Ak ck (some ⟨wr.heap.size + 1, 0, none⟩) 0 { m with waits := [], off := false }) 33)).alloc (.cells #[] 74)).heap.size = wr.heap.size + 1 + 1 := by simp
        obtain ⟨h1, h2, l1, l2, l3, l4⟩ := hrr
        refine ⟨D, Block.dset D3.d t (((Block.new wr _ _).alloc _).alloc _) (by decide), ?_, RDv.dset D3.d t ⟨Ak, ck, _, 0, rfl, (h1.below b3).more b3.size, HoldsF.nil, l1, l2, Nat.le_refl _, Nat.zero_le _⟩, RDv.dset D3.d t ⟨Ak, ck, Aw, cw, rfl, (h1.below b3).more b3.size, (h2.below b3).more b3.size, l1, l2, l3, l4⟩⟩
        have := Block.new ((wr.alloc (.cells (dCells Ak ck (some ⟨wr.heap.size + 1, 0, none⟩) 0 { m with waits := [], off := false }) 33)).alloc (.cells #[] 74)) 33 (dCells Ak ck Aw cw { m with off := false })
        rw [hz2] at this
        exact Block.dset D3.d t this (by decide))
      have XG : Hid (∀ o p, Block ((wr.alloc o).alloc p) g 33 (dCells Ak ck Aw cw m)) := Lib.hid (fun o p => (P.x.alloc o).alloc p)
      have hok := Lib.hid P.d.d.ok
      have hs2 : Hid (m.size ≤ 4096) := Lib.hid P.d.d.ok.s2
      clear hrr hlt hct
      go_wp2_with (first
        | (have _t := P; refine wpList_load_midV (by rfl) _ _ rfl g 0 rfl [.int .i64 m.size, .int .i64 m.count, .slice Ak m.kept.length ck, .slice Aw m.waits.length cw, .bool m.off, .int .i64 m.offs, .int .i64 m.fuse, .int .u64 m.wr] (block_range P.x) Try.underlying33 rfl (by kernel_rfl) ?_; clear _t P)
        | (refine wpList_load_midV (by rfl) _ _ rfl g 0 rfl [.int .i64 m.size, .int .i64 m.count, .slice Ak m.kept.length ck, .slice Aw m.waits.length cw, .bool m.off, .int .i64 m.offs, .int .i64 m.fuse, .int .u64 m.wr] (block_range (XG.out _ _)) Try.underlying33 rfl (by kernel_rfl) ?_)
        | (go_at_call 21; refine (HBK.out _ _ _).mono ?_; rintro e w7 ⟨rfl, D7, T7⟩; have F7 := HF.out w7 T7 D7; clear T7 D7 HBK HF XG HB3))
      have HON : Hid ((m.back ps).off = false ∧ (m.back ps).waits.length = 0) := Lib.hid ⟨rfl, rfl⟩
      have HBR := Lib.hid (fun j => back_read hok.out ps j)
      have HOK1 : Hid ({ m with waits := [], off := false } : Dv).Ok := Lib.hid ⟨hok.out.s1, hok.out.s2, hok.out.c1, hok.out.c2, hok.out.ku, up_nil, hok.out.kr, fun _ h => (List.not_mem_nil h).elim, fun _ h => (List.not_mem_nil h).elim, hok.out.f1, hok.out.f2, hok.out.o1, hok.out.w1⟩
      have HOK2 : Hid ({ m with off := false } : Dv).Ok := Lib.hid ⟨hok.out.s1, hok.out.s2, hok.out.c1, hok.out.c2, hok.out.ku, hok.out.wu, hok.out.kr, hok.out.wr_, hok.out.wn, hok.out.f1, hok.out.f2, hok.out.o1, hok.out.w1⟩
      generalize m.back ps = t at *
      have HF7 := Lib.hid F7
      clear F7 hok hs2 hmf hmw
      generalize hK : wr.heap.size = K at *
      clear hK
      go_loopw [13, 14] (fun tv q wx => ∃ j : Nat, j ≤ ps.length ∧ tv = .bool ((ps.take j).any (fun x => x == 2)) ∧ q = .int .i64 j ∧ wx = w7) (fun _ q _ => ps.length - (intOf q).toNat)
      case atStart => exact ⟨0, Nat.zero_le _, rfl, rfl, rfl⟩
      case round =>
        obtain ⟨j, hj, rfl, rfl, rfl⟩ := hrel
        by_cases hlt : j < ps.length
        · have hpx := HPR.out.below HF7.out.d.b
          obtain ⟨bp, op, rfl, _, hcp⟩ := hpx (by omega)
          have hc := hcp j hlt
          have d0 : decide ((j : Int) < (ps.length : Int)) = true := decide_eq_true (by omega)
          have hnext : (ps.take (j + 1)).any (fun x => x == 2) = ((ps.take j).any (fun x => x == 2) || (ps.getD j 0 == 2)) := by
            rw [show ps.take (j + 1) = ps.take j ++ [ps[j]] from (List.take_append_getElem hlt).symm, List.any_append]
            simp [List.getD, List.getElem?_eq_getElem hlt]
          have HN := Lib.hid hnext
          clear hcp hnext hpx
          generalize (ps.take j).any (fun x => x == 2) = tj at *
          generalize ps.getD j 0 = pj at *
          cases tj with
          | true =>
            go_wp2_with fail
            go_roundw
            case rel => exact ⟨j + 1, by omega, by rw [HN.out]; rfl, by go_num, by first | rfl | trivial⟩
            case measure => simp [intOf]; omega
          | false =>
            go_wp2_with fail
            go_roundw
            case rel => exact ⟨j + 1, by omega, by rw [HN.out]; rfl, by go_num, by first | rfl | trivial⟩
            case measure => simp [intOf]; omega
        have d0 : decide ((j : Int) < (ps.length : Int)) = false := decide_eq_false (by omega)
        obtain rfl : j = ps.length := by omega
        have HTN : Hid (2 ∈ ps → (ps.take ps.length).any (fun x => x == 2) = true) := Lib.hid (fun h => by rw [List.take_length]; exact List.any_eq_true.2 ⟨2, h, rfl⟩)
        generalize (ps.take ps.length).any (fun x => x == 2) = tn at *
        clear hlt hj
        go_wp2_with fail
        go_loopw [15] (fun q wx => ∃ j : Nat, j ≤ 4 ∧ q = .int .i64 j ∧ Fell w wx a mk mw K (K + 1 + 1) t m (dCells Ak ck (some ⟨K + 1, 0, none⟩) 0 { m with waits := [], off := false }) (dCells Ak ck Aw cw { m with off := false })) (fun q _ => 4 - (intOf q).toNat)
        case atStart => exact ⟨0, by decide, rfl, HF7.out⟩
        case round =>
          obtain ⟨j, hj, rfl, F⟩ := hrel
          clear HF7
          by_cases hlt : j < 4
          · have d0 : decide ((j : Int) < 4) = true := decide_eq_true (by omega)
            have hb := HBR.out (j : Int)
            have GX := Lib.hid (fun W (D : Dev w W a mk mw t) => read_any _ a mk mw t (j : Int) W D.d (by omega))
            have GK := Lib.hid (fun W v (R : RDv W v { m with waits := [], off := false }) => rread_any v _ (j : Int) W R HOK1.out)
            have GL := Lib.hid (fun W v (R : RDv W v { m with off := false }) => rread_any v _ (j : Int) W R HOK2.out)
            generalize t.read (j : Int) = tr at *
            generalize ({ m with waits := [], off := false } : Dv).read (j : Int) = kr at *
            generalize ({ m with off := false } : Dv).read (j : Int) = lr at *
            obtain ⟨xs, E⟩ := tr
            obtain ⟨ys, E1⟩ := kr
            obtain ⟨zs, E2⟩ := lr
            have hcond : (((strOfNums xs).toList == (strOfNums ys).toList) = true ∧ (E == E1) = true) ∨ (((strOfNums xs).toList == (strOfNums zs).toList) = true ∧ (E == E2) = true) ∨ (tn = true ∧ (E == 7) = true) := by
              rcases hb with hb | hb | ⟨hb, h2⟩
              · injection hb with e1 e2
                subst e1 e2
                exact Or.inl ⟨beq_self_eq_true _, beq_self_eq_true _⟩
              · injection hb with e1 e2
                subst e1 e2
                exact Or.inr (Or.inl ⟨beq_self_eq_true _, beq_self_eq_true _⟩)
              · exact Or.inr (Or.inr ⟨HTN.out h2, by simpa using hb⟩)
            clear hb HTN HBR
            have h9 := nine hcond
            clear hcond
            rcases h9 with ⟨f1, f2, f3⟩ | ⟨f1, f2, f3, f4⟩ | ⟨f1, f2, f3, f4⟩ | ⟨f1, f2, f3⟩ | ⟨f1, f2, f3, f4⟩ | ⟨f1, f2, rfl, f4⟩ | ⟨f1, f2, f3, rfl, f5⟩ | ⟨f1, f2, f3, rfl, f5⟩ | ⟨f1, f2, f3, f4, rfl, f6⟩
            all_goals
              go_wp2_with (first
                | (go_at_call 22; refine (GX.out _ F.d).mono ?_; rintro e w8 ⟨v8, rfl, own8, hb8⟩; obtain ⟨A8, c8, rfl, -, -, hh8⟩ := own8.opened; have F8 := F.below hb8; clear F own8 hb8)
                | (have _t := F8; refine wpList_load_midV (by rfl) _ _ rfl K 0 rfl (dCells Ak ck (some ⟨K + 1, 0, none⟩) 0 { m with waits := [], off := false }).toList (block_range F8.xk) Try.underlying33 rfl (by kernel_rfl) ?_)
                | (have _t := F8; go_at_call 23; refine (GK.out _ _ F8.rk).mono ?_; rintro e w9 ⟨rfl, hb9⟩; have F9 := F8.below hb9; have hh9 := (hh8.below hb9).more hb9.size; clear _t F8 hh8 hb9)
                | (have _t := F9; refine wpList_load_midV (by rfl) _ _ rfl (K + 1 + 1) 0 rfl (dCells Ak ck Aw cw { m with off := false }).toList (block_range F9.xl) Try.underlying33 rfl (by kernel_rfl) ?_)
                | (have _t := F9; go_at_call 23; refine (GL.out _ _ F9.rl).mono ?_; rintro e wA ⟨rfl, hbA⟩; have HFA := Lib.hid (F9.below hbA); have hhA := (hh9.below hbA).more hbA.size; clear _t F9 hh9 hbA
                   have kc := conv_bytes (P := Try.prog) Try.underlying37 Try.underlying5 Try.underlying9 wA A8 xs c8 _ hhA
                   clear hhA))
              go_roundw
              case rel => exact ⟨j + 1, by omega, by go_num, HFA.out⟩
              case measure => simp [intOf]; omega
          · have d0 : decide ((j : Int) < 4) = false := decide_eq_false (by omega)
            have hion : Hid (∀ W, Dev w W a mk mw t → Calls Try.prog 14 #[.pointer (some ⟨a, 0, none⟩)] W fun e w' => e = .returned (.bool true) ∧ W = w') := Lib.hid (fun W D => by
              have := isOn_any _ a mk mw t W D.d
              rwa [HON.out.1] at this)
            have hwts : Hid (∀ W, Dev w W a mk mw t → Calls Try.prog 16 #[.pointer (some ⟨a, 0, none⟩)] W fun e w' => e = .returned (.int .i64 0) ∧ W = w') := Lib.hid (fun W D => by
              have := waits_any _ a mk mw t W D.d
              rwa [HON.out.2] at this)
            have HD := Lib.hid F.d
            clear F
            go_wp2_with (first
              | (go_at_call 14; refine (hion.out _ HD.out).mono ?_; rintro e w9 ⟨rfl, rfl⟩)
              | (go_at_call 16; refine (hwts.out _ HD.out).mono ?_; rintro e w9 ⟨rfl, rfl⟩)
              | (go_at_call 8; refine (GA.out _).mono ?_; rintro e w9 ⟨rfl, hb9⟩))
            go_ret
            exact ⟨rfl, HD.out.b.trans (hb9.mono HD.out.b.size)⟩
end Go.Proofs.Ytfngmdojogdodaa.SectorFalls
