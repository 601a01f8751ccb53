/-
  SectorPlays: the walk: any row of steps is answered, and leaves a device, as the document says.
-/
import Derived.Test.YtfngmdojogdodaaSeU
import Derived.Deep.RegionHeld
import Derived.BigQuiet
namespace Go.Proofs.Ytfngmdojogdodaa.SectorPlays
open Go.ChangeShapes Go.WideShapes Go.ChangeAt Go.RowKit Go.Proofs.Ytfngmdojogdodaa.Kit Go.Proofs.Ytfngmdojogdodaa.Sec

theorem Plays.below {w0 w w' : World} {a mk mw g : Nat} {s : Dv} {cs : Array Value} (h : Plays w0 w a mk mw g s cs) (hb : Below w.heap.size w w') : Plays w0 w' a mk mw g s cs :=
  ⟨h.d.below hb, h.x.below hb h.x.lt, h.r.below hb, h.g⟩
/-- Behind a step: the document's next device lies in a block beside. -/
def Mid (w0 w : World) (a mk mw g : Nat) (s : Dv) (v : Value) : Prop :=
  ∃ (g2 : Nat) (cs cs2 : Array Value), v = .pointer (some ⟨g2, 0, none⟩) ∧ (cs.size = 8 ∧ NoText cs) ∧ Dev w0 w a mk mw s ∧ Block w g 33 cs ∧ Block w g2 33 cs2 ∧ RDv w (.agg cs2) s ∧ w0.heap.size ≤ g ∧ g ≠ g2

set_option maxRecDepth 100000 in
set_option maxHeartbeats 6400000 in
theorem walk (n m : Int) (A : Option Addr) (ss : List Step6) (c : Nat) (w : World) (hn : (Lit.int .i64 n).wf = true) (hm : (Lit.int .i64 m).wf = true) (hl : ss.length ≤ c) (hmx : c ≤ maxLen) (hr : HoldsQ w w.heap.size A ss) :
    Calls Try.prog 3 #[.int .i64 n, .int .i64 m, .slice A ss.length c] w fun e w' => e = .returned (.bool true) ∧ Below w.heap.size w w' := by
  have GA := Lib.hid awake_any
  have hn := bounds_i64 hn
  have hm := bounds_i64 hm
  by_cases hbad : n < 128 ∨ 4096 < n ∨ m < 1 ∨ 1048576 < m
  · have GN := Lib.hid (fun W => new_arg n m W hbad)
    cases h1 : decide (n < 128) <;> (try cases h2 : decide ((4096 : Int) < n)) <;> (try cases h3 : decide (m < 1)) <;> (try cases h4 : decide ((1048576 : Int) < m))
    all_goals first
      | (exfalso; simp only [decide_eq_false_iff_not] at h1 h2 h3 h4; omega)
      | (clear hbad
         go_enter Try.func3, Try.ntmps3
         go_wp2_with (first
           | (go_at_call 7; refine (GN.out _).mono ?_; rintro e w1 ⟨rfl, rfl⟩)
           | (go_at_call 8; refine (GA.out _).mono ?_; rintro e w5 ⟨rfl, hb5⟩))
         go_ret
         exact ⟨rfl, hb5⟩)
  obtain ⟨N, rfl⟩ : ∃ N : Nat, n = (N : Int) := ⟨n.toNat, by omega⟩
  obtain ⟨M, rfl⟩ : ∃ M : Nat, m = (M : Int) := ⟨m.toNat, by omega⟩
  have h1 : decide ((N : Int) < 128) = false := decide_eq_false (by omega)
  have h2 : decide ((4096 : Int) < (N : Int)) = false := decide_eq_false (by omega)
  have h3 : decide ((M : Int) < 1) = false := decide_eq_false (by omega)
  have h4 : decide ((1048576 : Int) < (M : Int)) = false := decide_eq_false (by omega)
  have b1 : ((N : Int) != (N : Int)) = false := by simp
  have b2 : ((M : Int) != (M : Int)) = false := by simp
  have GN := Lib.hid (fun W => new_any (fun _ => True) N M W (by omega) (by omega) (by omega) (by omega))
  have hgr := great_no (ss := ss)
  have GG := Lib.hid (fun W (hb : Below w.heap.size w W) => great_any A ss c w.heap.size W hl hmx (hr.below hb))
  have GS : Hid (∀ W a mk mw, Dev w W a mk mw (Dv.new N M) → Calls Try.prog 9 #[.pointer (some ⟨a, 0, none⟩)] W fun e w' => e = .returned (.int .i64 (N : Int)) ∧ W = w') := Lib.hid (fun W a mk mw h => size_any _ a mk mw _ W h.d)
  have GC : Hid (∀ W a mk mw, Dev w W a mk mw (Dv.new N M) → Calls Try.prog 10 #[.pointer (some ⟨a, 0, none⟩)] W fun e w' => e = .returned (.int .i64 (M : Int)) ∧ W = w') := Lib.hid (fun W a mk mw h => count_any _ a mk mw _ W h.d)
  have GR := Lib.hid (fun W => rnew_any N M W)
  have hS0 : (Dv.new N M).offs = 0 ∧ (Dv.new N M).wr = 0 := ⟨rfl, rfl⟩
  have HS0 := Lib.hid hS0
  have HR := Lib.hid hr
  generalize greatB ss = gr at *
  clear hS0 hbad hr
  generalize hs0 : Dv.new N M = s0 at *
  clear hs0 hn hm
  go_enter Try.func3, Try.ntmps3
  cases gr with
  | true =>
    go_wp2_with (first
      | (go_at_call 7; refine (GN.out _).mono ?_; rintro e w1 ⟨a, mk, mw, rfl, D, hb1, ga, gk, gw⟩; have D1 : Dev w w1 a mk mw s0 := ⟨D, hb1, ga, gk, gw⟩; clear D hb1 ga gk gw)
      | (go_at_call 9; refine (GS.out _ _ _ _ D1).mono ?_; rintro e w9 ⟨rfl, rfl⟩)
      | (go_at_call 10; refine (GC.out _ _ _ _ D1).mono ?_; rintro e w9 ⟨rfl, rfl⟩)
      | (go_at_call 11; refine (GG.out _ D1.b).mono ?_; rintro e w9 ⟨rfl, rfl⟩)
      | (go_at_call 8; refine (GA.out _).mono ?_; rintro e w5 ⟨rfl, hb5⟩))
    go_ret
    exact ⟨rfl, D1.b.trans (hb5.mono D1.b.size)⟩
  | false =>
    obtain ⟨hg1, hg2⟩ := hgr rfl
    clear hgr
    go_wp2_with (first
      | (go_at_call 7; refine (GN.out _).mono ?_; rintro e w1 ⟨a, mk, mw, rfl, D, hb1, ga, gk, gw⟩; have D1 : Dev w w1 a mk mw s0 := ⟨D, hb1, ga, gk, gw⟩; clear D hb1 ga gk gw)
      | (go_at_call 9; refine (GS.out _ _ _ _ D1).mono ?_; rintro e w9 ⟨rfl, rfl⟩)
      | (go_at_call 10; refine (GC.out _ _ _ _ D1).mono ?_; rintro e w9 ⟨rfl, rfl⟩)
      | (go_at_call 11; refine (GG.out _ D1.b).mono ?_; rintro e w9 ⟨rfl, rfl⟩)
      | (go_at_call 12; refine (GR.out _).mono ?_; rintro e w2 ⟨v2, rfl, hv2, hb2⟩; obtain ⟨Ak0, ck0, Aw0, cw0, hve, hr2⟩ := hv2; have RV2 : RDv w2 (.agg (dCells Ak0 ck0 Aw0 cw0 s0)) s0 := ⟨Ak0, ck0, Aw0, cw0, rfl, hr2⟩; subst hve; have D2 := D1.below hb2; clear hr2 D1 hb2; unfold dCells))
    have B3 : Below w2.heap.size w2 (w2.alloc (.cells #[.int .i64 s0.size, .int .i64 s0.count, .slice Ak0 s0.kept.length ck0, .slice Aw0 s0.waits.length cw0, .bool s0.off, .int .i64 s0.offs, .int .i64 s0.fuse, .int .u64 s0.wr] 33)) := (Below.refl _ _).alloc (Nat.le_refl _) _
    have P0 : Plays w (w2.alloc (.cells #[.int .i64 s0.size, .int .i64 s0.count, .slice Ak0 s0.kept.length ck0, .slice Aw0 s0.waits.length cw0, .bool s0.off, .int .i64 s0.offs, .int .i64 s0.fuse, .int .u64 s0.wr] 33)) a mk mw w2.heap.size s0 (dCells Ak0 ck0 Aw0 cw0 s0) := ⟨D2.below B3, Block.new _ _ _, RV2.below B3, D2.b.size⟩
    generalize w2.alloc (.cells #[.int .i64 s0.size, .int .i64 s0.count, .slice Ak0 s0.kept.length ck0, .slice Aw0 s0.waits.length cw0, .bool s0.off, .int .i64 s0.offs, .int .i64 s0.fuse, .int .u64 s0.wr] 33) = w3 at *
    clear B3 D2 RV2
    generalize w2.heap.size = g at *
    have HP0 := Lib.hid P0
    clear P0 GN GS GC GR GG
    go_loopw [10] (fun q wr => ∃ (i : Nat) (s : Dv) (cs : Array Value), i ≤ ss.length ∧ q = .int .i64 i ∧ Plays w wr a mk mw g s cs ∧ s.offs ≤ i ∧ s.wr ≤ i) (fun q _ => ss.length - (intOf q).toNat)
    case atStart => exact ⟨0, s0, _, Nat.zero_le _, rfl, HP0.out, by rw [HS0.out.1]; decide, by rw [HS0.out.2]; decide⟩
    case round =>
      clear HP0
      obtain ⟨i, s, cs, hi, rfl, P, hof, hwr⟩ := hrel
      by_cases hlt : i < ss.length
      · obtain ⟨Ak, ck, Aw, cw, hce, -⟩ := P.r
        injection hce with hce
        subst hce
        obtain ⟨b, off, hA, hbl, hra, k0, k1, k2, z1, z2, zo, zr⟩ := stepAt6 HR.out hlt
        subst hA
        have zl := hg2 ss[i] (List.getElem_mem hlt)
        generalize ss[i] = o at *
        have HRA : Hid (∀ W, Below w.heap.size w W → W.rangeAt b (off + i * 5) o.cells) := Lib.hid (fun W hB j u hu => (hB.cell (p := ⟨b, _, none⟩) hbl).trans (hra j u hu))
        have hib := bounds_i64 k1
        have hbb := bounds_u8 k2
        obtain ⟨s1, hs1⟩ : ∃ s1, stepD s.size s o = s1 := ⟨_, rfl⟩
        have hnear := stepD_near s.size s o
        rw [hs1] at hnear
        have HDO : Hid (∀ W, Plays w W a mk mw g s (dCells Ak ck Aw cw s) → Calls Try.prog 13 #[.pointer (some ⟨a, 0, none⟩), .agg (dCells Ak ck Aw cw s), .agg o.cells.toArray] W (Does w W a mk mw s1 s1 (s = s))) := Lib.hid (fun W P => by
          have := does_any w W a mk mw s s o (.agg (dCells Ak ck Aw cw s)) P.d P.r P.d.d.ok ⟨by omega, by omega⟩ ⟨by omega, by omega⟩ hib hbb (by omega) zo ((zr.below P.d.b).more P.d.b.size)
          rwa [hs1] at this)
        have hn1 := hnear.1
        have hn2 := hnear.2.1
        clear hs1 hnear hra zl zo zr z1 z2 k0 k1 k2 hib hbb
        have d0 : decide ((i : Int) < (ss.length : Int)) = true := decide_eq_true (by omega)
        go_wp2_with fail
        go_cut [11, 12] (fun v11 v12 wx => v11 = .bool true ∧ Mid w wx a mk mw g s1 v12)
        case first =>
          have P : Plays w wr.drew a mk mw g s (dCells Ak ck Aw cw s) := Plays.below P (below_draws (Below.refl _ _) 1)
          refine wp_region_held_drew (S := fun W => Block W g 33 (dCells Ak ck Aw cw s) ∧ W.rangeAt b (off + i * 5) o.cells) (by kernel_rfl) ⟨P.x, HRA.out _ P.d.b⟩ (fun hS => ?_)
          refine wpAnyH_take (i := 0) (oi := ⟨some 73, _, _, _, _, _⟩) (v := .pointer (some ⟨a, 0, none⟩)) rfl (by kernel_rfl) (by kernel_rfl) (by kernel_rfl) (fun _ _ _ h => h) (Or.inl ⟨by rfl, fun W hW => by go_simp⟩) hS ?_
          try simp only [Act.put, List.setIfInBounds_toArray, List.set_cons_zero, List.set_cons_succ]
          refine wpAnyH_take (i := 1) (oi := ⟨some 74, _, _, _, _, _⟩) (v := .agg (dCells Ak ck Aw cw s)) rfl (by kernel_rfl) (by kernel_rfl) (by kernel_rfl) (fun _ _ _ h => h) (yieldsIf_load_mid (by rfl) _ _ rfl g (0) rfl (dCells Ak ck Aw cw s).toList _ (fun W hW => block_range hW.1) Try.underlying33 rfl (by kernel_rfl)) hS ?_
          try simp only [Act.put, List.setIfInBounds_toArray, List.set_cons_zero, List.set_cons_succ]
          refine wpAnyH_take (i := 2) (oi := ⟨some 75, _, _, _, _, _⟩) (v := .slice (some ⟨b, off, none⟩) ss.length c) rfl (by kernel_rfl) (by kernel_rfl) (by kernel_rfl) (fun _ _ _ h => h) (Or.inl ⟨by rfl, fun W hW => by go_simp⟩) hS ?_
          try simp only [Act.put, List.setIfInBounds_toArray, List.set_cons_zero, List.set_cons_succ]
          refine wpAnyH_take (i := 3) (oi := ⟨some 76, _, _, _, _, _⟩) (v := .int .i64 i) rfl (by kernel_rfl) (by kernel_rfl) (by kernel_rfl) (fun _ _ _ h => h) (Or.inl ⟨by rfl, fun W hW => by go_simp⟩) hS ?_
          try simp only [Act.put, List.setIfInBounds_toArray, List.set_cons_zero, List.set_cons_succ]
          refine wpAnyH_take (i := 4) (oi := ⟨some 77, _, _, _, _, _⟩) (v := .pointer (some ⟨b, off + i * 5, none⟩)) rfl (by kernel_rfl) (by kernel_rfl) (by kernel_rfl) (fun _ _ _ h => h) (Or.inl ⟨by rfl, fun W hW => by go_simp⟩) hS ?_
          try simp only [Act.put, List.setIfInBounds_toArray, List.set_cons_zero, List.set_cons_succ]
          refine wpAnyH_take (i := 5) (oi := ⟨some 78, _, _, _, _, _⟩) (v := .agg o.cells.toArray) rfl (by kernel_rfl) (by kernel_rfl) (by kernel_rfl) (fun _ _ _ h => h) (yieldsIf_load_mid (by rfl) _ _ rfl b (off + i * 5) rfl o.cells _ (fun W hW => hW.2) Try.underlying39 rfl (by kernel_rfl)) hS ?_
          try simp only [Act.put, List.setIfInBounds_toArray, List.set_cons_zero, List.set_cons_succ]
          refine wpAnyH_ready (rs := [6, 10]) (by kernel_rfl) (by simp) ?_
          refine AllReadyH.cons rfl (fun K hK => ?_) (AllReadyH.cons rfl (fun K hK => ?_) AllReadyH.nil)
          · go_simp
            go_at_call 13
            refine (HDO.out _ P).mono ?_
            rintro e x1 ⟨r, v1, rfl, hgd, D1, RV1, T1⟩
            obtain rfl := hgd (by first | rfl | trivial)
            obtain ⟨Ak1, ck1, Aw1, cw1, rfl, hr1⟩ := RV1
            have RV1 : RDv x1 (.agg (dCells Ak1 ck1 Aw1 cw1 s1)) s1 := ⟨Ak1, ck1, Aw1, cw1, rfl, hr1⟩
            have X1 := Block.dset P.d.d T1 P.x (by decide)
            clear hr1
            refine hK.out _ _ ⟨X1, HRA.out _ D1.b⟩ (fun hS => ?_)
            clear hK K
            try simp only [Act.put, List.setIfInBounds_toArray, List.set_cons_zero, List.set_cons_succ]
            refine wpAnyH_take (i := 7) (oi := ⟨some 72, _, _, _, _, _⟩) (v := .tuple #[.bool true, .agg (dCells Ak1 ck1 Aw1 cw1 s1)]) rfl (by kernel_rfl) (by kernel_rfl) (by kernel_rfl) (fun _ _ _ h => h) (Or.inl ⟨by rfl, fun W hW => by go_simp⟩) hS ?_
            try simp only [Act.put, List.setIfInBounds_toArray, List.set_cons_zero, List.set_cons_succ]
            refine wpAnyH_take (i := 8) (oi := ⟨some 80, _, _, _, _, _⟩) (v := .bool true) rfl (by kernel_rfl) (by kernel_rfl) (by kernel_rfl) (fun _ _ _ h => h) (Or.inl ⟨by rfl, fun W hW => by go_simp⟩) hS ?_
            try simp only [Act.put, List.setIfInBounds_toArray, List.set_cons_zero, List.set_cons_succ]
            refine wpAnyH_take (i := 9) (oi := ⟨some 81, _, _, _, _, _⟩) (v := .agg (dCells Ak1 ck1 Aw1 cw1 s1)) rfl (by kernel_rfl) (by kernel_rfl) (by kernel_rfl) (fun _ _ _ h => h) (Or.inl ⟨by rfl, fun W hW => by go_simp⟩) hS ?_
            try simp only [Act.put, List.setIfInBounds_toArray, List.set_cons_zero, List.set_cons_succ]
            refine wpAnyH_ready (rs := [10]) (by kernel_rfl) (by simp) ?_
            refine AllReadyH.cons rfl (fun K hK => ?_) AllReadyH.nil
            go_simp
            have B2 : Below x1.heap.size x1 (x1.alloc (.cells zD 33)) := (Below.refl _ _).alloc (Nat.le_refl _) _
            have Z2 : Block (x1.alloc (.cells zD 33)) x1.heap.size 33 zD := Block.new _ _ _
            have D2 := D1.below B2
            have X2 := X1.below B2 X1.lt
            have RV2 := RV1.below B2
            have hg2 := D1.b.size
            have hne := X1.lt
            refine hK.out _ _ ⟨X2, HRA.out _ D2.b⟩ (fun hS => ?_)
            clear hK K
            try simp only [Act.put, List.setIfInBounds_toArray, List.set_cons_zero, List.set_cons_succ]
            refine wpAnyH_ready (rs := [11]) (by kernel_rfl) (by simp) ?_
            refine AllReadyH.cons rfl (fun K hK => ?_) AllReadyH.nil
            go_simp
            refine hK.out _ _ ⟨X2, HRA.out _ D2.b⟩ (fun hS => ?_)
            clear hK K
            try simp only [Act.put, List.setIfInBounds_toArray, List.set_cons_zero, List.set_cons_succ]
            refine wpAnyH_ready (rs := [12]) (by kernel_rfl) (by simp) ?_
            refine AllReadyH.cons rfl (fun K hK => ?_) AllReadyH.nil
            refine step_store_blk rfl _ _ _ rfl (cs := zD) (ds := (dCells Ak1 ck1 Aw1 cw1 s1).toList) (by exact Z2) rfl rfl rfl (by kernel_rfl) (dCells_one _ _ _ _ _) ?_
            intro x3 Z3 g3
            have D3 := D2.grown Z2 (by decide) (by decide) hg2 g3
            have RV3 := RV2.kept Z2 zD_noText g3
            have X3 := X2.grown g3 (by intro h; injection h with h; omega)
            refine hK.out _ _ ⟨X3, HRA.out _ D3.b⟩ (fun hS => ?_)
            clear hK K
            try simp only [Act.put, List.setIfInBounds_toArray, List.set_cons_zero, List.set_cons_succ]
            refine wpAnyH_done (by kernel_rfl) ?_ _
            go_wp2_with fail
            go_meet
            exact ⟨rfl, _, _, _, rfl, ⟨rfl, dCells_noText _ _ _ _ _⟩, D3, X3, Z3, RV3, P.g, by omega⟩
          · go_simp
            have B0 : Below wr.drew.heap.size wr.drew (wr.drew.alloc (.cells zD 33)) := (Below.refl _ _).alloc (Nat.le_refl _) _
            have Z0 : Block (wr.drew.alloc (.cells zD 33)) wr.drew.heap.size 33 zD := Block.new _ _ _
            have P2 := Plays.below P B0
            have hg2 : w.heap.size ≤ wr.heap.size := P.d.b.size
            have hne : g < wr.heap.size := P.x.lt
            refine hK.out _ _ ⟨P2.x, HRA.out _ P2.d.b⟩ (fun hS => ?_)
            clear hK K
            try simp only [Act.put, List.setIfInBounds_toArray, List.set_cons_zero, List.set_cons_succ]
            refine wpAnyH_ready (rs := [6]) (by kernel_rfl) (by simp) ?_
            refine AllReadyH.cons rfl (fun K hK => ?_) AllReadyH.nil
            go_simp
            go_at_call 13
            refine (HDO.out _ P2).mono ?_
            rintro e x1 ⟨r, v1, rfl, hgd, D1, RV1, T1⟩
            obtain rfl := hgd (by first | rfl | trivial)
            obtain ⟨Ak1, ck1, Aw1, cw1, rfl, hr1⟩ := RV1
            have RV1 : RDv x1 (.agg (dCells Ak1 ck1 Aw1 cw1 s1)) s1 := ⟨Ak1, ck1, Aw1, cw1, rfl, hr1⟩
            have X1 := Block.dset P2.d.d T1 P2.x (by decide)
            clear hr1
            refine hK.out _ _ ⟨X1, HRA.out _ D1.b⟩ (fun hS => ?_)
            clear hK K
            try simp only [Act.put, List.setIfInBounds_toArray, List.set_cons_zero, List.set_cons_succ]
            refine wpAnyH_take (i := 7) (oi := ⟨some 72, _, _, _, _, _⟩) (v := .tuple #[.bool true, .agg (dCells Ak1 ck1 Aw1 cw1 s1)]) rfl (by kernel_rfl) (by kernel_rfl) (by kernel_rfl) (fun _ _ _ h => h) (Or.inl ⟨by rfl, fun W hW => by go_simp⟩) hS ?_
            try simp only [Act.put, List.setIfInBounds_toArray, List.set_cons_zero, List.set_cons_succ]
            refine wpAnyH_take (i := 8) (oi := ⟨some 80, _, _, _, _, _⟩) (v := .bool true) rfl (by kernel_rfl) (by kernel_rfl) (by kernel_rfl) (fun _ _ _ h => h) (Or.inl ⟨by rfl, fun W hW => by go_simp⟩) hS ?_
            try simp only [Act.put, List.setIfInBounds_toArray, List.set_cons_zero, List.set_cons_succ]
            refine wpAnyH_take (i := 9) (oi := ⟨some 81, _, _, _, _, _⟩) (v := .agg (dCells Ak1 ck1 Aw1 cw1 s1)) rfl (by kernel_rfl) (by kernel_rfl) (by kernel_rfl) (fun _ _ _ h => h) (Or.inl ⟨by rfl, fun W hW => by go_simp⟩) hS ?_
            try simp only [Act.put, List.setIfInBounds_toArray, List.set_cons_zero, List.set_cons_succ]
            have Z2 := Block.dset P2.d.d T1 Z0 (by decide)
            have X2 := X1
            have D2 := D1
            have RV2 := RV1
            refine wpAnyH_ready (rs := [11]) (by kernel_rfl) (by simp) ?_
            refine AllReadyH.cons rfl (fun K hK => ?_) AllReadyH.nil
            go_simp
            refine hK.out _ _ ⟨X2, HRA.out _ D2.b⟩ (fun hS => ?_)
            clear hK K
            try simp only [Act.put, List.setIfInBounds_toArray, List.set_cons_zero, List.set_cons_succ]
            refine wpAnyH_ready (rs := [12]) (by kernel_rfl) (by simp) ?_
            refine AllReadyH.cons rfl (fun K hK => ?_) AllReadyH.nil
            refine step_store_blk rfl _ _ _ rfl (cs := zD) (ds := (dCells Ak1 ck1 Aw1 cw1 s1).toList) (by exact Z2) rfl rfl rfl (by kernel_rfl) (dCells_one _ _ _ _ _) ?_
            intro x3 Z3 g3
            have D3 := D2.grown Z2 (by decide) (by decide) hg2 g3
            have RV3 := RV2.kept Z2 zD_noText g3
            have X3 := X2.grown g3 (by intro h; injection h with h; omega)
            refine hK.out _ _ ⟨X3, HRA.out _ D3.b⟩ (fun hS => ?_)
            clear hK K
            try simp only [Act.put, List.setIfInBounds_toArray, List.set_cons_zero, List.set_cons_succ]
            refine wpAnyH_done (by kernel_rfl) ?_ _
            go_wp2_with fail
            go_meet
            exact ⟨rfl, _, _, _, rfl, ⟨rfl, dCells_noText _ _ _ _ _⟩, D3, X3, Z3, RV3, P.g, by omega⟩
        case rest =>
        clear P HDO HRA
        obtain ⟨rfl, g2, cs, cs2, rfl, ⟨hsz, hnt⟩, D4, X4, Z4, RV4, hgw, hne⟩ := hcut
        rename World => w4
        obtain ⟨Ak1, ck1, Aw1, cw1, hce, hr4⟩ := RV4
        injection hce with hce
        subst hce
        have RV4 : RDv w4 (.agg (dCells Ak1 ck1 Aw1 cw1 s1)) s1 := ⟨Ak1, ck1, Aw1, cw1, rfl, hr4⟩
        clear hr4
        go_wp2_with (first
          | (have _t := Z4; refine wpList_load_midV (by rfl) _ _ rfl g2 0 rfl (dCells Ak1 ck1 Aw1 cw1 s1).toList (block_range Z4) Try.underlying33 rfl (by kernel_rfl) ?_; clear _t Z4)
          | (have _t := X4; refine wpList_store_blk (cs := cs) rfl _ _ _ rfl (ds := (dCells Ak1 ck1 Aw1 cw1 s1).toList) (by exact X4) rfl rfl (by rw [hsz]; rfl) (by kernel_rfl) (dCells_one _ _ _ _ _) ?_; clear _t; intro w5 X5 g5))
        try simp only [Act.put]
        have D5 := D4.grown X4 (by decide) (by decide) hgw g5
        have RV5 := RV4.kept X4 hnt g5
        have HP5 : Hid (Plays w w5 a mk mw g s1 (dCells Ak1 ck1 Aw1 cw1 s1)) := Lib.hid ⟨D5, X5, RV5, hgw⟩
        have HD5 : Hid (∀ k, DvAt (w5.drewN k) (fun _ => True) a mk mw s1) := Lib.hid (fun k => (D5.below (below_draws (Below.refl _ _) k)).d)
        have y3 : w5.cell? ⟨g, 3, none⟩ = some (.slice Aw1 s1.waits.length cw1) := X5.cell 3
        have y4 : w5.cell? ⟨g, 4, none⟩ = some (.bool s1.off) := X5.cell 4
        have y5 : w5.cell? ⟨g, 5, none⟩ = some (.int .i64 s1.offs) := X5.cell 5
        have y7 : w5.cell? ⟨g, 7, none⟩ = some (.int .u64 s1.wr) := X5.cell 7
        have f1 : ((!s1.off) == s1.off) = false := by cases s1.off <;> rfl
        have f2 : (s1.offs != s1.offs) = false := by simp
        have f3 : ((s1.waits.length : Int) != (s1.waits.length : Int)) = false := by simp
        have f4 : (s1.wr != s1.wr) = false := by simp
        clear X4 D4 RV4 g5 X5 RV5 hsz hnt hne
        go_wp2_with fail
        go_quiet (first
          | (go_at_call 14; exact Calls.quiet_of_same ((isOn_any _ a mk mw s1 _ (HD5.out _)).mono fun _ _ h => ⟨h.1, h.2.symm⟩))
          | (go_at_call 15; exact Calls.quiet_of_same ((offs_any _ a mk mw s1 _ (HD5.out _)).mono fun _ _ h => ⟨h.1, h.2.symm⟩))
          | (go_at_call 16; exact Calls.quiet_of_same ((waits_any _ a mk mw s1 _ (HD5.out _)).mono fun _ _ h => ⟨h.1, h.2.symm⟩))
          | (go_at_call 17; exact Calls.quiet_of_same ((writes_any _ a mk mw s1 _ (HD5.out _)).mono fun _ _ h => ⟨h.1, h.2.symm⟩)))
        have HP6 : Hid (Plays w (w5.drewN nq) a mk mw g s1 (dCells Ak1 ck1 Aw1 cw1 s1)) := Lib.hid (Plays.below HP5.out (below_draws (Below.refl _ _) nq))
        clear HD5 HP5 D5 y3 y4 y5 y7 f1 f2 f3 f4
        generalize w5.drewN nq = w6 at *
        go_wp2_with fail
        go_roundw
        case rel => exact ⟨i + 1, s1, _, by omega, by go_num, HP6.out, by omega, by omega⟩
        case measure => simp [intOf]; omega
      · have d0 : decide ((i : Int) < (ss.length : Int)) = false := decide_eq_false (by omega)
        obtain rfl : i = ss.length := by omega
        have hb := P.d.b
        clear P hof hwr hlt
        go_wp2_with (go_at_call 8; refine (GA.out _).mono ?_; rintro e w5 ⟨rfl, hb5⟩)
        go_ret
        exact ⟨rfl, hb.trans (hb5.mono hb.size)⟩
end Go.Proofs.Ytfngmdojogdodaa.SectorPlays
