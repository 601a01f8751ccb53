/-
  ImagePlays: the walk: any row of steps is answered, and leaves the device, as the document says.
-/
import Derived.Test.YtpnodocjpedcmaaDoorMImJ
import Derived.Test.YtpnodocjpedcmaaDoorMGIays29
import Derived.Deep.RegionHeld
import Derived.BigQuiet
namespace Go.Proofs.YtpnodocjpedcmaaDoor.ImagePlays
open Go.ChangeShapes Go.WideShapes Go.ChangeAt Go.RowKit Go.Proofs.YtpnodocjpedcmaaDoor.Kit Go.Proofs.YtpnodocjpedcmaaDoor.Pt Go.Proofs.YtpnodocjpedcmaaDoor.Im
open Go.Proofs.YtpnodocjpedcmaaDoor.Sec (new_any Dev Dv DvAt DSet RDv dCells dCells_one dCells_noText zD zD_noText rnew_any block_range wpList_load_midV)
open Go.Proofs.YtpnodocjpedcmaaDoor.Sha (LaidS)

/-- Between steps: both devices are the same, the document's one lies in a block of the call's own. -/
structure Plays25 (w0 w : World) (x a mk mw p0 p1 p2 g : Nat) (S B sl : Int) (s : Dv) (cs : Array Value) : Prop where
  d : Dev w0 w a mk mw s
  i : ImAt w x a S B sl p0 p1 p2
  x : Block w g 31 cs
  c : Block w w0.heap.size 61 #[.int .i64 S, .int .i64 B, .int .i64 sl]
  r : RDv w (.agg cs) s
  g : w0.heap.size < g
theorem Plays25.below {w0 w w' : World} {x a mk mw p0 p1 p2 g : Nat} {S B sl : Int} {s : Dv} {cs : Array Value} (h : Plays25 w0 w x a mk mw p0 p1 p2 g S B sl s cs) (hb : Below w.heap.size w w') : Plays25 w0 w' x a mk mw p0 p1 p2 g S B sl s cs :=
  ⟨h.d.below hb, h.i.below hb, h.x.below hb h.x.lt, h.c.below hb h.c.lt, h.r.below hb, h.g⟩

/-- Behind a step: the document's next device lies in a block beside. -/
def Mid25 (w0 w : World) (x a mk mw p0 p1 p2 g : Nat) (S B sl : Int) (s : Dv) (v : Value) : Prop :=
  ∃ (g2 : Nat) (cs cs2 : Array Value) (t : Dv), v = .pointer (some ⟨g2, 0, none⟩) ∧ cs.size = 8 ∧ Sec.NoText cs ∧ Dev w0 w a mk mw t ∧ ImAt w x a S B sl p0 p1 p2 ∧ Block w g 31 cs ∧ Block w w0.heap.size 61 #[.int .i64 S, .int .i64 B, .int .i64 sl] ∧ Block w g2 31 cs2 ∧ RDv w (.agg cs2) t ∧ g ≠ g2 ∧ w0.heap.size < g ∧ Near s t
theorem im_grown {w w' : World} {x a p0 p1 p2 g : Nat} {S B sl : Int} {cs : Array Value} (i : ImAt w x a S B sl p0 p1 p2) (X : Block w g 31 cs) (gr : w.grownBy w' (some g)) : ImAt w' x a S B sl p0 p1 p2 := by
  have tt : TurnsIn (fun b => b = g) w w' := .ofGrown gr fun b hb => by injection hb with hb; exact hb.symm
  have ne : ∀ {h : Nat} {ty : TypeId} {cs : Array Value}, Block w h ty cs → ty ≠ 31 → h ≠ g := fun hg hne e => block_ne hg X hne e
  exact ⟨Block.out i.x tt (ne i.x (by decide)), Block.out i.p0 tt (ne i.p0 (by decide)), Block.out i.p1 tt (ne i.p1 (by decide)), Block.out i.p2 tt (ne i.p2 (by decide))⟩

set_option maxRecDepth 100000 in
set_option maxHeartbeats 12800000 in
theorem walk (S B sl : Int) (A : Option Addr) (ss : List Step25) (c : Nat) (w : World) (_ : (Lit.int .i64 S).wf = true) (_ : (Lit.int .i64 B).wf = true) (_ : (Lit.int .i64 sl).wf = true) (hl : ss.length ≤ c) (hmx : c ≤ maxLen) (hr : HoldsQ w w.heap.size A ss) (hLS : LaidS w) :
    Calls Tryd.prog 6 #[.agg #[.int .i64 S, .int .i64 B, .int .i64 sl], .slice A ss.length c] w fun e w' => e = .returned (.bool true) ∧ Below w.heap.size w w' := by
  have GA := Lib.hid Im.awake_any
  have B0 : Below w.heap.size w (w.alloc (.cells #[.int .i64 S, .int .i64 B, .int .i64 sl] 61)) := (Below.refl _ _).alloc (Nat.le_refl _) _
  have X0 := Block.new w 61 #[.int .i64 S, .int .i64 B, .int .i64 sl]
  have GM := Lib.hid (fun W => small_any S B sl W)
  have GG := Lib.hid (fun W (hb : Below w.heap.size w W) => Im.great_any A ss c w.heap.size W (hr.below hb))
  by_cases hin : smallB S B sl = true ∧ greatB ss = false
  case neg =>
    have hd : smallB S B sl = false ∨ (smallB S B sl = true ∧ greatB ss = true) := by
      cases hs : smallB S B sl with
      | false => exact Or.inl rfl
      | true =>
        cases hg : greatB ss with
        | true => exact Or.inr ⟨rfl, rfl⟩
        | false => exact absurd ⟨hs, hg⟩ hin
    clear hin hr
    rcases hd with h1 | ⟨h1, h2⟩
    all_goals
      rw [h1] at GM
      try rw [h2] at GG
      clear h1
      go_enter Tryd.func6, Tryd.ntmps6
      go_wp2_with (first
        | (go_at_call 24; (with_reducible refine (GM.out _).mono ?_); rintro e w1 ⟨rfl, hb1⟩; have B1 := B0.trans (hb1.mono B0.size))
        | (have _t := B1; go_at_call 25; (with_reducible refine (GG.out _ B1).mono ?_); clear _t; rintro e w2 ⟨rfl, rfl⟩)
        | (go_at_call 26; (with_reducible refine (GA.out _).mono ?_); rintro e w5 ⟨rfl, hb5⟩))
      go_ret
      exact ⟨rfl, B1.trans (hb5.mono B1.size)⟩
  case pos =>
    obtain ⟨hsm, hgr⟩ := hin
    obtain ⟨hg1, hg2⟩ := Im.great_no hgr
    rw [hsm] at GM
    rw [hgr] at GG
    have hmay : Prt.mayB S B sl = true := by
      unfold smallB at hsm
      rw [Bool.and_eq_true] at hsm
      exact hsm.1
    obtain ⟨q1, q2, q3, q4, q5⟩ := may_q hmay
    obtain ⟨hS, hB, hs⟩ := Prt.may_facts hmay
    obtain ⟨N, rfl⟩ : ∃ N : Nat, S = N := ⟨S.toNat, by omega⟩
    obtain ⟨M, hM⟩ : ∃ M : Nat, allV N B sl = M := ⟨(allV N B sl).toNat, by unfold allV; omega⟩
    have hMb : 1 ≤ M ∧ M ≤ 1048576 := by unfold allV at hM; omega
    have GL := Lib.hid (fun W => Prt.rlayout_any N B sl (B / N) W hS hB hs rfl)
    unfold Prt.mapV at GL
    have hM' : 2 + B / (N : Int) + sl * (B / (N : Int)) + sl * (B / (N : Int)) = (M : Int) := hM
    rw [hM'] at GL
    have GN := Lib.hid (fun W => new_any (fun _ => True) N M W (by omega) (by omega) (by omega) (by omega))
    have GRN := Lib.hid (fun W => rnew_any N M W)
    have hlay : LayOk N B sl (Dv.new N M) := ⟨hmay, rfl, by rw [hM]; exact Int.le_refl _⟩
    have HOB : Hid (opensB (Dv.new N M) N B sl = true) := Lib.hid (by
      unfold opensB
      rw [hmay, hM]
      show (true && decide ((N : Int) = (N : Int)) && decide ((M : Int) ≤ (M : Int))) = true
      simp)
    have GI := Lib.hid (fun (a mk mw : Nat) (W : World) (h : DvAt W (fun _ => True) a mk mw (Dv.new N M)) => iopen_any (fun _ => True) a mk mw (Dv.new N M) N B sl W h)
    have hf3 := fun w => Prt.field3 (.int .i64 0) (.int .i64 1) (.int .i64 1) (.int .i64 1) (.int .i64 2) (.int .i64 (B / N)) (.int .i64 (2 + B / N)) (.int .i64 (sl * (B / N))) (.int .i64 (2 + B / N + sl * (B / N))) (.int .i64 (sl * (B / N))) (.int .i64 M) w
    have HLAY := Lib.hid hlay
    have HOF : Hid ((Dv.new N M).offs = 0 ∧ (Dv.new N M).wr = 0) := Lib.hid ⟨rfl, rfl⟩
    generalize Dv.new N M = s0 at *
    obtain ⟨hN, hB', hs', hdd, hq, h0, h1, h2, h3⟩ := hlay.facts
    clear hsm hM hM' hlay hmay q1 q2 q3 q4 q5
    generalize B / (N : Int) = q at GL hf3
    generalize sl * q = p at GL hf3
    obtain ⟨C, hC⟩ : ∃ C, B * sl = C := ⟨_, rfl⟩
    have hw : IntKind.i64.wrap (B * sl) = C := by rw [hC]; exact IntWalk.i64_in _ (by omega)
    have hcc : (C != C) = false := by simp
    have HOT : Hid (∀ a W e w', GOpen a s0 N B sl W e w' → Below W.heap.size W w' ∧ ∃ x p0 p1 p2, W.heap.size ≤ x ∧ e = .returned (.tuple #[.pointer (some ⟨x, 0, none⟩), .int .i64 0]) ∧ ImAt w' x a N B sl p0 p1 p2) := Lib.hid (fun a W e w' ⟨g1, g2⟩ => by
      rw [if_pos HOB.out] at g2
      obtain ⟨x, p0, p1, p2, g3, _, _, _, g4, g5⟩ := g2
      exact ⟨g1, x, p0, p1, p2, g3, g4, g5⟩)
    have GC : Hid (∀ W x a p0 p1 p2, ImAt W x a N B sl p0 p1 p2 → Calls Tryd.prog 29 #[.pointer (some ⟨x, 0, none⟩)] W fun e w' => e = .returned (.int .i64 C) ∧ ∃ n, w' = W.drewN n) := Lib.hid (fun W x a p0 p1 p2 h => by
      have := cap_any x a N B sl p0 p1 p2 W h ⟨h0, h1⟩
      rwa [hC] at this)
    have HR := Lib.hid hr
    have HLS := Lib.hid hLS
    have hz0 := B0.size
    clear hdd hq h0 h1 h2 h3 hC hr hLS HOB hgr hS hB hs
    go_enter Tryd.func6, Tryd.ntmps6
    go_upto_region 6 with (first
      | (go_at_call 24; (with_reducible refine (GM.out _).mono ?_); rintro e w1 ⟨rfl, hb1⟩; have B1 := B0.trans (hb1.mono B0.size); have X1 := X0.below hb1 X0.lt; have x0 : w1.cell? ⟨w.heap.size, 0, none⟩ = some (.int .i64 N) := X1.cell 0; have x1 : w1.cell? ⟨w.heap.size, 1, none⟩ = some (.int .i64 B) := X1.cell 1; have x2 : w1.cell? ⟨w.heap.size, 2, none⟩ = some (.int .i64 sl) := X1.cell 2)
      | (have _t := B1; go_at_call 25; (with_reducible refine (GG.out _ B1).mono ?_); clear _t; rintro e w9 ⟨rfl, rfl⟩)
      | (have _t := X1; go_at_call 27; (with_reducible refine (GL.out _).mono ?_); rintro e w2 ⟨rfl, hb2⟩; have X2 := X1.below hb2 X1.lt; have B2 := B1.trans (hb2.mono B1.size); clear _t x0 x1 x2; have x0 : w2.cell? ⟨w.heap.size, 0, none⟩ = some (.int .i64 N) := X2.cell 0)
      | (have _t := X2; go_at_call 10; refine (GN.out _).mono ?_; rintro e w3 ⟨a, mk, mw, rfl, D3, hb3, ga, gk, gw⟩; have X3 := X2.below hb3 X2.lt; have B3 := B2.trans (hb3.mono B2.size); have hz2 := B2.size; clear _t x0; have x0 : w3.cell? ⟨w.heap.size, 0, none⟩ = some (.int .i64 N) := X3.cell 0; have x1 : w3.cell? ⟨w.heap.size, 1, none⟩ = some (.int .i64 B) := X3.cell 1; have x2 : w3.cell? ⟨w.heap.size, 2, none⟩ = some (.int .i64 sl) := X3.cell 2)
      | (have _t := D3; go_at_call 28; refine (GI.out a mk mw _ D3).mono ?_; intro e w4 h4; obtain ⟨hb4, x, p0, p1, p2, hx, rfl, I4⟩ := HOT.out _ _ _ _ h4; clear h4; have D4 := D3.below hb4; have X4 := X3.below hb4 X3.lt; have B4 := B3.trans (hb4.mono B3.size); clear _t x0 x1 x2))
    have hza : w.heap.size ≤ a ∧ w.heap.size ≤ mk ∧ w.heap.size ≤ mw := by omega
    have GQ := Lib.hid (fun n => GC.out (w4.drewN n) x a p0 p1 p2 (I4.below (below_draws (Below.refl _ _) n)))
    have x1 : w4.cell? ⟨w.heap.size, 1, none⟩ = some (.int .i64 B) := X4.cell 1
    have x2 : w4.cell? ⟨w.heap.size, 2, none⟩ = some (.int .i64 sl) := X4.cell 2
    have HI4 := Lib.hid I4
    have HX4 := Lib.hid X4
    have HD4 := Lib.hid (show Dev w w4 a mk mw s0 from ⟨D4, B4, hza.1, hza.2.1, hza.2.2⟩)
    clear I4 X4 D4 B4 X3 X2 X1 B3 B2 B1 hb1 hb2 hb3 hb4 D3 hx GC GI GL GN GM GG hf3 HOT
    go_quiet ((go_at_call 29; exact Calls.quiet_of (GQ.out _)))
    have D5 := HD4.out.below (below_draws (Below.refl _ _) nq)
    have I5 := HI4.out.below (below_draws (Below.refl _ _) nq)
    have X5 := Block.drewN HX4.out nq
    clear HI4 HX4 HD4 GQ x1 x2 hcc hw
    generalize w4.drewN nq = w5 at *
    have x0 : w5.cell? ⟨w.heap.size, 0, none⟩ = some (.int .i64 N) := X5.cell 0
    go_wp2_with (have _t := X5; go_at_call 11; refine (GRN.out _).mono ?_; rintro e w6 ⟨v2, rfl, hv2, hb6⟩; obtain ⟨Ak0, ck0, Aw0, cw0, hve, hr2⟩ := hv2; have RV6 : RDv w6 (.agg (dCells Ak0 ck0 Aw0 cw0 s0)) s0 := ⟨Ak0, ck0, Aw0, cw0, rfl, hr2⟩; subst hve; have D6 := D5.below hb6; have I6 := I5.below hb6; have X6 := X5.below hb6 X5.lt; clear _t hr2 D5 I5 X5 x0 hb6; unfold dCells)
    have B7 : Below w6.heap.size w6 (w6.alloc (.cells #[.int .i64 s0.size, .int .i64 s0.count, .slice Ak0 s0.kept.length ck0, .slice Aw0 s0.waits.length cw0, .bool s0.off, .int .i64 s0.offs, .int .i64 s0.fuse, .int .u64 s0.wr] 31)) := (Below.refl _ _).alloc (Nat.le_refl _) _
    have P0 : Plays25 w (w6.alloc (.cells #[.int .i64 s0.size, .int .i64 s0.count, .slice Ak0 s0.kept.length ck0, .slice Aw0 s0.waits.length cw0, .bool s0.off, .int .i64 s0.offs, .int .i64 s0.fuse, .int .u64 s0.wr] 31)) x a mk mw p0 p1 p2 w6.heap.size N B sl s0 (dCells Ak0 ck0 Aw0 cw0 s0) := ⟨D6.below B7, I6.below B7, Block.new _ _ _, X6.below B7 X6.lt, RV6.below B7, X6.lt⟩
    generalize w6.alloc (.cells #[.int .i64 s0.size, .int .i64 s0.count, .slice Ak0 s0.kept.length ck0, .slice Aw0 s0.waits.length cw0, .bool s0.off, .int .i64 s0.offs, .int .i64 s0.fuse, .int .u64 s0.wr] 31) = w7 at *
    clear B7 D6 I6 X6 RV6
    generalize w6.heap.size = g at *
    have HP0 := Lib.hid P0
    clear P0 GRN
    go_loopw [11] (fun v wr => ∃ (i : Nat) (s : Dv) (cs : Array Value), i ≤ ss.length ∧ v = .int .i64 i ∧ Plays25 w wr x a mk mw p0 p1 p2 g N B sl s cs ∧ s.offs ≤ 2001 * i ∧ s.wr ≤ 2001 * i ∧ s.size = s0.size ∧ s.count = s0.count) (fun v _ => ss.length - (intOf v).toNat)
    case atStart => exact ⟨0, s0, _, Nat.zero_le _, rfl, HP0.out, by rw [HOF.out.1]; decide, by rw [HOF.out.2]; decide, rfl, rfl⟩
    case round =>
      clear HP0
      obtain ⟨i, s, cs, hi, rfl, P, hof, hwr, hsz, hct⟩ := hrel
      by_cases hlt : i < ss.length
      · obtain ⟨Ak, ck, Aw, cw, hce, -⟩ := P.r
        injection hce with hce
        subst hce
        obtain ⟨b, off, hA, hbl, hra, hok, hin⟩ := stepAt25 HR.out hlt
        subst hA
        have zl := hg2 ss[i] (List.getElem_mem hlt)
        generalize ss[i] = o at *
        have HRA : Hid (∀ W, Below w.heap.size w W → W.rangeAt b (off + i * 8) o.cells) := Lib.hid (fun W hB j u hu => (hB.cell (p := ⟨b, _, none⟩) hbl).trans (hra j u hu))
        have HDO : Hid (∀ W, Plays25 w W x a mk mw p0 p1 p2 g N B sl s (dCells Ak ck Aw cw s) → Calls Tryd.prog 30 #[.pointer (some ⟨x, 0, none⟩), .pointer (some ⟨a, 0, none⟩), .agg (dCells Ak ck Aw cw s), .agg #[.int .i64 N, .int .i64 B, .int .i64 sl], .agg o.cells.toArray] W (Does25 w W x a mk mw p0 p1 p2 N B sl s)) := Lib.hid (fun W P => does_any w W x a mk mw p0 p1 p2 N B sl s o _ P.d P.i P.r ⟨HLAY.out.m, by rw [hsz]; exact HLAY.out.z, by rw [hct]; exact HLAY.out.c⟩ hok hin zl.1 zl.2 (by omega) (by omega) HLS.out)
        have d0 : decide ((i : Int) < (ss.length : Int)) = true := decide_eq_true (by omega)
        clear hra zl hok hin
        go_wp2_with fail
        go_cut [12, 13] (fun v12 v13 wx => v12 = .bool true ∧ Mid25 w wx x a mk mw p0 p1 p2 g N B sl s v13)
        case first =>
          have P : Plays25 w wr.drew x a mk mw p0 p1 p2 g N B sl s (dCells Ak ck Aw cw s) := Plays25.below P (below_draws (Below.refl _ _) 1)
          refine wp_region_held_drew (S := fun W => Block W g 31 (dCells Ak ck Aw cw s) ∧ Block W w.heap.size 61 #[.int .i64 N, .int .i64 B, .int .i64 sl] ∧ W.rangeAt b (off + i * 8) o.cells) (by kernel_rfl) ⟨P.x, P.c, HRA.out _ P.d.b⟩ (fun hS => ?_)
          refine wpAnyH_take (i := 0) (oi := ⟨some 73, _, _, _, _, _⟩) (v := .pointer (some ⟨x, 0, none⟩)) rfl (by kernel_rfl) (by kernel_rfl) (by kernel_rfl) (fun _ _ _ h => h) (Or.inl ⟨by rfl, fun W hW => by go_simp⟩) hS ?_
          try simp only [Act.put, List.setIfInBounds_toArray, List.set_cons_zero, List.set_cons_succ]
          refine wpAnyH_take (i := 1) (oi := ⟨some 74, _, _, _, _, _⟩) (v := .pointer (some ⟨a, 0, none⟩)) rfl (by kernel_rfl) (by kernel_rfl) (by kernel_rfl) (fun _ _ _ h => h) (Or.inl ⟨by rfl, fun W hW => by go_simp⟩) hS ?_
          try simp only [Act.put, List.setIfInBounds_toArray, List.set_cons_zero, List.set_cons_succ]
          refine wpAnyH_take (i := 2) (oi := ⟨some 75, _, _, _, _, _⟩) (v := .agg (dCells Ak ck Aw cw s)) rfl (by kernel_rfl) (by kernel_rfl) (by kernel_rfl) (fun _ _ _ h => h) (yieldsIf_load_mid (by rfl) _ _ rfl g (0) rfl (dCells Ak ck Aw cw s).toList _ (fun W hW => block_range hW.1) Tryd.underlying31 rfl (by kernel_rfl)) hS ?_
          try simp only [Act.put, List.setIfInBounds_toArray, List.set_cons_zero, List.set_cons_succ]
          refine wpAnyH_take (i := 3) (oi := ⟨some 76, _, _, _, _, _⟩) (v := .agg #[.int .i64 N, .int .i64 B, .int .i64 sl]) rfl (by kernel_rfl) (by kernel_rfl) (by kernel_rfl) (fun _ _ _ h => h) (yieldsIf_load_mid (by rfl) _ _ rfl w.heap.size (0) rfl [.int .i64 N, .int .i64 B, .int .i64 sl] _ (fun W hW => block_range (L := [.int .i64 N, .int .i64 B, .int .i64 sl]) hW.2.1) Tryd.underlying61 rfl (by kernel_rfl)) hS ?_
          try simp only [Act.put, List.setIfInBounds_toArray, List.set_cons_zero, List.set_cons_succ]
          refine wpAnyH_take (i := 4) (oi := ⟨some 77, _, _, _, _, _⟩) (v := .slice (some ⟨b, off, none⟩) ss.length c) rfl (by kernel_rfl) (by kernel_rfl) (by kernel_rfl) (fun _ _ _ h => h) (Or.inl ⟨by rfl, fun W hW => by go_simp⟩) hS ?_
          try simp only [Act.put, List.setIfInBounds_toArray, List.set_cons_zero, List.set_cons_succ]
          refine wpAnyH_take (i := 5) (oi := ⟨some 78, _, _, _, _, _⟩) (v := .int .i64 i) rfl (by kernel_rfl) (by kernel_rfl) (by kernel_rfl) (fun _ _ _ h => h) (Or.inl ⟨by rfl, fun W hW => by go_simp⟩) hS ?_
          try simp only [Act.put, List.setIfInBounds_toArray, List.set_cons_zero, List.set_cons_succ]
          refine wpAnyH_take (i := 6) (oi := ⟨some 79, _, _, _, _, _⟩) (v := .pointer (some ⟨b, off + i * 8, none⟩)) rfl (by kernel_rfl) (by kernel_rfl) (by kernel_rfl) (fun _ _ _ h => h) (Or.inl ⟨by rfl, fun W hW => by go_simp⟩) hS ?_
          try simp only [Act.put, List.setIfInBounds_toArray, List.set_cons_zero, List.set_cons_succ]
          refine wpAnyH_take (i := 7) (oi := ⟨some 80, _, _, _, _, _⟩) (v := .agg o.cells.toArray) rfl (by kernel_rfl) (by kernel_rfl) (by kernel_rfl) (fun _ _ _ h => h) (yieldsIf_load_mid (by rfl) _ _ rfl b (off + i * 8) rfl o.cells _ (fun W hW => hW.2.2) Tryd.underlying73 rfl (by kernel_rfl)) hS ?_
          try simp only [Act.put, List.setIfInBounds_toArray, List.set_cons_zero, List.set_cons_succ]
          refine wpAnyH_ready (rs := [8, 12]) (by kernel_rfl) (by simp) ?_
          refine AllReadyH.cons rfl (fun K hK => ?_) (AllReadyH.cons rfl (fun K hK => ?_) AllReadyH.nil)
          · go_simp
            go_at_call 30
            refine (HDO.out _ P).mono ?_
            rintro e x1 ⟨t, v1, rfl, RV1, D1, I1, T1, hnear⟩
            obtain ⟨Ak1, ck1, Aw1, cw1, rfl, hr1⟩ := RV1
            have RV1 : RDv x1 (.agg (dCells Ak1 ck1 Aw1 cw1 t)) t := ⟨Ak1, ck1, Aw1, cw1, rfl, hr1⟩
            have X1 := Sec.Block.dset P.d.d T1 P.x (by decide)
            have C1 := Sec.Block.dset P.d.d T1 P.c (by decide)
            clear hr1
            refine hK.out _ _ ⟨X1, C1, HRA.out _ D1.b⟩ (fun hS => ?_)
            clear hK K
            try simp only [Act.put, List.setIfInBounds_toArray, List.set_cons_zero, List.set_cons_succ]
            refine wpAnyH_take (i := 9) (oi := ⟨some 72, _, _, _, _, _⟩) (v := .tuple #[.bool true, .agg (dCells Ak1 ck1 Aw1 cw1 t)]) rfl (by kernel_rfl) (by kernel_rfl) (by kernel_rfl) (fun _ _ _ h => h) (Or.inl ⟨by rfl, fun W hW => by go_simp⟩) hS ?_
            try simp only [Act.put, List.setIfInBounds_toArray, List.set_cons_zero, List.set_cons_succ]
            refine wpAnyH_take (i := 10) (oi := ⟨some 82, _, _, _, _, _⟩) (v := .bool true) rfl (by kernel_rfl) (by kernel_rfl) (by kernel_rfl) (fun _ _ _ h => h) (Or.inl ⟨by rfl, fun W hW => by go_simp⟩) hS ?_
            try simp only [Act.put, List.setIfInBounds_toArray, List.set_cons_zero, List.set_cons_succ]
            refine wpAnyH_take (i := 11) (oi := ⟨some 83, _, _, _, _, _⟩) (v := .agg (dCells Ak1 ck1 Aw1 cw1 t)) rfl (by kernel_rfl) (by kernel_rfl) (by kernel_rfl) (fun _ _ _ h => h) (Or.inl ⟨by rfl, fun W hW => by go_simp⟩) hS ?_
            try simp only [Act.put, List.setIfInBounds_toArray, List.set_cons_zero, List.set_cons_succ]
            refine wpAnyH_ready (rs := [12]) (by kernel_rfl) (by simp) ?_
            refine AllReadyH.cons rfl (fun K hK => ?_) AllReadyH.nil
            go_simp
            have B2 : Below x1.heap.size x1 (x1.alloc (.cells zD 31)) := (Below.refl _ _).alloc (Nat.le_refl _) _
            have Z2 : Block (x1.alloc (.cells zD 31)) x1.heap.size 31 zD := Block.new _ _ _
            have D2 := D1.below B2
            have I2 := I1.below B2
            have X2 := X1.below B2 X1.lt
            have C2 := C1.below B2 C1.lt
            have RV2 := RV1.below B2
            have hg2 := D1.b.size
            have hne := X1.lt
            have hne2 := C1.lt
            refine hK.out _ _ ⟨X2, C2, HRA.out _ D2.b⟩ (fun hS => ?_)
            clear hK K
            try simp only [Act.put, List.setIfInBounds_toArray, List.set_cons_zero, List.set_cons_succ]
            refine wpAnyH_ready (rs := [13]) (by kernel_rfl) (by simp) ?_
            refine AllReadyH.cons rfl (fun K hK => ?_) AllReadyH.nil
            go_simp
            refine hK.out _ _ ⟨X2, C2, HRA.out _ D2.b⟩ (fun hS => ?_)
            clear hK K
            try simp only [Act.put, List.setIfInBounds_toArray, List.set_cons_zero, List.set_cons_succ]
            refine wpAnyH_ready (rs := [14]) (by kernel_rfl) (by simp) ?_
            refine AllReadyH.cons rfl (fun K hK => ?_) AllReadyH.nil
            refine step_store_blk rfl _ _ _ rfl (cs := zD) (ds := (dCells Ak1 ck1 Aw1 cw1 t).toList) (by exact Z2) rfl rfl rfl (by kernel_rfl) (dCells_one _ _ _ _ _) ?_
            intro x3 Z3 g3
            have D3 := D2.grown Z2 (by decide) (by decide) (by omega) g3
            have RV3 := RV2.kept Z2 zD_noText g3
            have X3 := X2.grown g3 (by intro h; injection h with h; omega)
            have C3 := C2.grown g3 (by intro h; injection h with h; omega)
            have I3 := im_grown I2 Z2 g3
            refine hK.out _ _ ⟨X3, C3, HRA.out _ D3.b⟩ (fun hS => ?_)
            clear hK K
            try simp only [Act.put, List.setIfInBounds_toArray, List.set_cons_zero, List.set_cons_succ]
            refine wpAnyH_done (by kernel_rfl) ?_ _
            go_wp2_with fail
            go_meet
            exact ⟨rfl, _, _, _, t, rfl, rfl, dCells_noText _ _ _ _ _, D3, I3, X3, C3, Z3, RV3, by omega, P.g, hnear⟩
          · go_simp
            have B2 : Below wr.drew.heap.size wr.drew (wr.drew.alloc (.cells zD 31)) := (Below.refl _ _).alloc (Nat.le_refl _) _
            have Z0 : Block (wr.drew.alloc (.cells zD 31)) wr.drew.heap.size 31 zD := Block.new _ _ _
            have P2 := Plays25.below P B2
            have hg2 : w.heap.size ≤ wr.heap.size := P.d.b.size
            have hne : g < wr.heap.size := P.x.lt
            have hne2 : w.heap.size < wr.heap.size := P.c.lt
            refine hK.out _ _ ⟨P2.x, P2.c, HRA.out _ P2.d.b⟩ (fun hS => ?_)
            clear hK K
            try simp only [Act.put, List.setIfInBounds_toArray, List.set_cons_zero, List.set_cons_succ]
            refine wpAnyH_ready (rs := [8]) (by kernel_rfl) (by simp) ?_
            refine AllReadyH.cons rfl (fun K hK => ?_) AllReadyH.nil
            go_simp
            go_at_call 30
            refine (HDO.out _ P2).mono ?_
            rintro e x1 ⟨t, v1, rfl, RV1, D1, I1, T1, hnear⟩
            obtain ⟨Ak1, ck1, Aw1, cw1, rfl, hr1⟩ := RV1
            have RV1 : RDv x1 (.agg (dCells Ak1 ck1 Aw1 cw1 t)) t := ⟨Ak1, ck1, Aw1, cw1, rfl, hr1⟩
            have X1 := Sec.Block.dset P2.d.d T1 P2.x (by decide)
            have C1 := Sec.Block.dset P2.d.d T1 P2.c (by decide)
            clear hr1
            refine hK.out _ _ ⟨X1, C1, HRA.out _ D1.b⟩ (fun hS => ?_)
            clear hK K
            try simp only [Act.put, List.setIfInBounds_toArray, List.set_cons_zero, List.set_cons_succ]
            refine wpAnyH_take (i := 9) (oi := ⟨some 72, _, _, _, _, _⟩) (v := .tuple #[.bool true, .agg (dCells Ak1 ck1 Aw1 cw1 t)]) rfl (by kernel_rfl) (by kernel_rfl) (by kernel_rfl) (fun _ _ _ h => h) (Or.inl ⟨by rfl, fun W hW => by go_simp⟩) hS ?_
            try simp only [Act.put, List.setIfInBounds_toArray, List.set_cons_zero, List.set_cons_succ]
            refine wpAnyH_take (i := 10) (oi := ⟨some 82, _, _, _, _, _⟩) (v := .bool true) rfl (by kernel_rfl) (by kernel_rfl) (by kernel_rfl) (fun _ _ _ h => h) (Or.inl ⟨by rfl, fun W hW => by go_simp⟩) hS ?_
            try simp only [Act.put, List.setIfInBounds_toArray, List.set_cons_zero, List.set_cons_succ]
            refine wpAnyH_take (i := 11) (oi := ⟨some 83, _, _, _, _, _⟩) (v := .agg (dCells Ak1 ck1 Aw1 cw1 t)) rfl (by kernel_rfl) (by kernel_rfl) (by kernel_rfl) (fun _ _ _ h => h) (Or.inl ⟨by rfl, fun W hW => by go_simp⟩) hS ?_
            try simp only [Act.put, List.setIfInBounds_toArray, List.set_cons_zero, List.set_cons_succ]
            have Z2 := Sec.Block.dset P2.d.d T1 Z0 (by decide)
            have hz0 : wr.drew.heap.size = wr.heap.size := rfl
            rw [hz0] at Z2
            have X2 := X1
            have C2 := C1
            have D2 := D1
            have I2 := I1
            have RV2 := RV1
            refine wpAnyH_ready (rs := [13]) (by kernel_rfl) (by simp) ?_
            refine AllReadyH.cons rfl (fun K hK => ?_) AllReadyH.nil
            go_simp
            refine hK.out _ _ ⟨X2, C2, HRA.out _ D2.b⟩ (fun hS => ?_)
            clear hK K
            try simp only [Act.put, List.setIfInBounds_toArray, List.set_cons_zero, List.set_cons_succ]
            refine wpAnyH_ready (rs := [14]) (by kernel_rfl) (by simp) ?_
            refine AllReadyH.cons rfl (fun K hK => ?_) AllReadyH.nil
            refine step_store_blk rfl _ _ _ rfl (cs := zD) (ds := (dCells Ak1 ck1 Aw1 cw1 t).toList) (by exact Z2) rfl rfl rfl (by kernel_rfl) (dCells_one _ _ _ _ _) ?_
            intro x3 Z3 g3
            have D3 := D2.grown Z2 (by decide) (by decide) (by omega) g3
            have RV3 := RV2.kept Z2 zD_noText g3
            have X3 := X2.grown g3 (by intro h; injection h with h; omega)
            have C3 := C2.grown g3 (by intro h; injection h with h; omega)
            have I3 := im_grown I2 Z2 g3
            refine hK.out _ _ ⟨X3, C3, HRA.out _ D3.b⟩ (fun hS => ?_)
            clear hK K
            try simp only [Act.put, List.setIfInBounds_toArray, List.set_cons_zero, List.set_cons_succ]
            refine wpAnyH_done (by kernel_rfl) ?_ _
            go_wp2_with fail
            go_meet
            exact ⟨rfl, _, _, _, t, rfl, rfl, dCells_noText _ _ _ _ _, D3, I3, X3, C3, Z3, RV3, by omega, P.g, hnear⟩
        case rest =>
        clear P HDO HRA
        obtain ⟨rfl, g2, cs, cs2, t, rfl, hsz8, hnt, D4, I4, X4, C4, Z4, RV4, hne, hgw, hnear⟩ := hcut
        rename World => w4
        obtain ⟨Ak1, ck1, Aw1, cw1, hce, hr4⟩ := RV4
        injection hce with hce
        subst hce
        have RV4 : RDv w4 (.agg (dCells Ak1 ck1 Aw1 cw1 t)) t := ⟨Ak1, ck1, Aw1, cw1, rfl, hr4⟩
        clear hr4
        go_wp2_with (first
          | (have _t := Z4; refine wpList_load_midV (by rfl) _ _ rfl g2 0 rfl (dCells Ak1 ck1 Aw1 cw1 t).toList (block_range Z4) Tryd.underlying31 rfl (by kernel_rfl) ?_; clear _t Z4)
          | (have _t := X4; refine Sec.wpList_store_blk (cs := cs) rfl _ _ _ rfl (ds := (dCells Ak1 ck1 Aw1 cw1 t).toList) (by exact X4) rfl rfl (by rw [hsz8]; rfl) (by kernel_rfl) (dCells_one _ _ _ _ _) ?_; clear _t; intro w5 X5 g5))
        try simp only [Act.put]
        have D5 := D4.grown X4 (by decide) (by decide) (by omega) g5
        have RV5 := RV4.kept X4 hnt g5
        have C5 := C4.grown g5 (by intro h; injection h with h; omega)
        have I5 := im_grown I4 X4 g5
        have HP5 : Hid (Plays25 w w5 x a mk mw p0 p1 p2 g N B sl t (dCells Ak1 ck1 Aw1 cw1 t)) := Lib.hid ⟨D5, I5, X5, C5, RV5, hgw⟩
        have HD5 : Hid (∀ k, DvAt (w5.drewN k) (fun _ => True) a mk mw t) := Lib.hid (fun k => (D5.below (below_draws (Below.refl _ _) k)).d)
        have y3 : w5.cell? ⟨g, 3, none⟩ = some (.slice Aw1 t.waits.length cw1) := X5.cell 3
        have y7 : w5.cell? ⟨g, 7, none⟩ = some (.int .u64 t.wr) := X5.cell 7
        have f3 : ((t.waits.length : Int) != (t.waits.length : Int)) = false := by simp
        have f4 : (t.wr != t.wr) = false := by simp
        clear X4 D4 I4 C4 RV4 g5 X5 RV5 hsz8 hnt hne C5 I5 D5
        go_wp2_with fail
        go_quiet (first
          | (go_at_call 31; exact Calls.quiet_of_same ((Sec.waits_any _ a mk mw _ _ (HD5.out _)).mono fun _ _ h => ⟨h.1, h.2.symm⟩))
          | (go_at_call 32; exact Calls.quiet_of_same ((Sec.writes_any _ a mk mw _ _ (HD5.out _)).mono fun _ _ h => ⟨h.1, h.2.symm⟩)))
        have HP6 := Lib.hid (Plays25.below HP5.out (below_draws (Below.refl _ _) nq))
        clear HD5 HP5 y3 y7 f3 f4
        generalize w5.drewN nq = w6 at *
        go_wp2_with fail
        go_roundw
        case rel => exact ⟨i + 1, t, _, by omega, by go_num, HP6.out, by have := hnear.1; omega, by have := hnear.2.1; omega, hnear.2.2.1.trans hsz, hnear.2.2.2.trans hct⟩
        case measure => simp [intOf]; omega
      · have d0 : decide ((i : Int) < (ss.length : Int)) = false := decide_eq_false (by omega)
        obtain rfl : i = ss.length := by omega
        have hb := P.d.b
        clear P hof hwr hlt
        go_wp2_with (go_at_call 26; (with_reducible refine (GA.out _).mono ?_); rintro e w8 ⟨rfl, hb8⟩)
        go_ret
        exact ⟨rfl, hb.trans (hb8.mono hb.size)⟩
end Go.Proofs.YtpnodocjpedcmaaDoor.ImagePlays
