/-
  DeltaMakes: the walk: each plan for any new image, of any old one, makes its block; its writing isn't longer than it may be.
-/
import Derived.Test.YtlcnbepldkbkgaaMGDkes24
import Derived.Test.YtlcnbepldkbkgaaMGDkes4
namespace Go.Proofs.Ytlcnbepldkbkgaa.DeltaMakes
open Go.ChangeShapes Go.WideShapes Go.ChangeAt Go.RowKit Go.Proofs.Ytlcnbepldkbkgaa.Kit Go.Proofs.Ytlcnbepldkbkgaa.Dl Go.Proofs.Ytlcnbepldkbkgaa.Pl
open Go.Proofs.Ytlcnbepldkbkgaa.Mx (runL)
open Go.Proofs.Ytlcnbepldkbkgaa.Mt (Pc one_bd)

theorem ahead_run {x old new f : Int} : ∀ {ps : List Pc} {e : Int}, runL old new e ps f → (∃ e', runL old new e' (aheadP x ps) f) ∧ ∀ p ∈ aheadP x ps, x < p.n + p.l
  | [], e, h => ⟨⟨e, h⟩, by intro p hp; simp [aheadP] at hp⟩
  | q :: qs, e, h => by
    by_cases hq : q.n + q.l ≤ x
    · rw [ahead_drop hq (Int.le_refl _)]
      exact ahead_run h.2.2
    · have hst : aheadP x (q :: qs) = q :: qs := ahead_stay fun p hp => by
        obtain rfl : q = p := by simpa using hp
        omega
      rw [hst]
      exact ⟨⟨e, h⟩, runL_ahead h fun p hp => by
        obtain rfl : q = p := by simpa using hp
        omega⟩
theorem eval_makes {old Y : List Int} {ss : List Stp} (h : Makes old (ss.map sqS) Y) : evalE (some old) ss (Y.length : Int) = (Y, 0) := by
  unfold evalE
  rw [rightS_q, h.right, if_neg (by simp), sumX_q, h.sum, if_neg (by simp), evalO_q, h.eval]

set_option maxRecDepth 100000 in
set_option maxHeartbeats 6400000 in
theorem plans_bad (v0 v1 : Value) (b : Int) (w : World) (h : b < 128 ∨ 4096 < b) : Calls Try.prog 14 #[v0, v1, .int .i64 b] w fun e w' => e = .returned (.tuple #[.slice none 0 0, .int .i64 1]) ∧ w = w' := by
  have GI := Lib.hid (fun W => isBlock_any b W)
  rw [show isBlkB b = false by
    unfold isBlkB
    rcases h with h | h
    · rw [decide_eq_false (by omega)]; rfl
    · rw [decide_eq_false (show ¬ b ≤ 4096 by omega)]; simp] at GI
  go_enter Try.func14, Try.ntmps14
  go_wp2_with (go_at_call 17; (with_reducible refine (GI.out _).mono ?_); rintro e w1 ⟨rfl, rfl⟩)
  go_ret2
  exact ⟨rfl, rfl⟩

set_option maxRecDepth 100000 in
set_option maxHeartbeats 12800000 in
theorem walk (A1 : Option Addr) (xs : List Int) (c1 : Nat) (A2 : Option Addr) (ys : List Int) (c2 : Nat) (b : Int) (w : World) (hl1 : xs.length ≤ c1) (hm1 : c1 ≤ maxLen) (ho1 : Octets xs) (hr1 : Holds w w.heap.size .u8 A1 xs)
    (hl2 : ys.length ≤ c2) (hm2 : c2 ≤ maxLen) (ho2 : Octets ys) (hr2 : Holds w w.heap.size .u8 A2 ys) (wb : (Lit.int .i64 b).wf = true) :
    Calls Try.prog 4 #[.slice A1 xs.length c1, .slice A2 ys.length c2, .int .i64 b] w fun e w' => e = .returned (.bool true) ∧ Below w.heap.size w w' := by
  have hb := bounds_i64 wb
  have GA := Lib.hid (fun W => Dl.awake_any W)
  unfold maxLen at hm1 hm2
  by_cases h1 : 2000 < xs.length
  · have d1 : decide ((2000 : Int) < (xs.length : Int)) = true := decide_eq_true (by omega)
    have d2 : decide (2000 < xs.length) = true := decide_eq_true h1
    go_enter Try.func4, Try.ntmps4
    go_wp2_with (go_at_call 6; (with_reducible refine (GA.out _).mono ?_); rintro e w1 ⟨rfl, hb1⟩)
    go_ret
    exact ⟨rfl, hb1⟩
  have d1 : decide ((2000 : Int) < (xs.length : Int)) = false := decide_eq_false (by omega)
  have d2 : decide (2000 < xs.length) = false := decide_eq_false h1
  by_cases h2 : 2000 < ys.length
  · have d3 : decide ((2000 : Int) < (ys.length : Int)) = true := decide_eq_true (by omega)
    have d4 : decide (2000 < ys.length) = true := decide_eq_true h2
    go_enter Try.func4, Try.ntmps4
    go_wp2_with (go_at_call 6; (with_reducible refine (GA.out _).mono ?_); rintro e w1 ⟨rfl, hb1⟩)
    go_ret
    exact ⟨rfl, hb1⟩
  have d3 : decide ((2000 : Int) < (ys.length : Int)) = false := decide_eq_false (by omega)
  have d4 : decide (2000 < ys.length) = false := decide_eq_false h2
  by_cases h3 : b < 128 ∨ 4096 < b
  · have GP := Lib.hid (fun v0 v1 W => plans_bad v0 v1 b W h3)
    by_cases h4 : b < 128
    · have d5 : decide (b < 128) = true := decide_eq_true h4
      go_enter Try.func4, Try.ntmps4
      go_wp2_with (first
        | (go_at_call 14; (with_reducible refine (GP.out _ _ _).mono ?_); rintro e w1 ⟨rfl, rfl⟩)
        | (go_at_call 6; (with_reducible refine (GA.out _).mono ?_); rintro e w1 ⟨rfl, hb1⟩))
      go_ret
      exact ⟨rfl, hb1⟩
    · have d5 : decide (b < 128) = false := decide_eq_false h4
      have d6 : decide (4096 < b) = true := decide_eq_true (by omega)
      go_enter Try.func4, Try.ntmps4
      go_wp2_with (first
        | (go_at_call 14; (with_reducible refine (GP.out _ _ _).mono ?_); rintro e w1 ⟨rfl, rfl⟩)
        | (go_at_call 6; (with_reducible refine (GA.out _).mono ?_); rintro e w1 ⟨rfl, hb1⟩))
      go_ret
      exact ⟨rfl, hb1⟩
  have d5 : decide (b < 128) = false := decide_eq_false (by omega)
  have d6 : decide (4096 < b) = false := decide_eq_false (by omega)
  obtain ⟨blk, rfl⟩ : ∃ blk : Nat, b = (blk : Int) := ⟨b.toNat, by omega⟩
  have e5 : decide (blk < 128) = false := decide_eq_false (by omega)
  have e6 : decide (4096 < blk) = false := decide_eq_false (by omega)
  have hn64 : In64 (ys.length : Int) := by unfold In64; omega
  have hb64 : In64 (blk : Int) := by unfold In64; omega
  have GP := Lib.hid (plans_any w A1 xs c1 A2 ys c2 blk hr1 hr2 ho1 ho2 hl1 hl2 (by omega) (by omega) (by omega) (by omega))
  have GB := Lib.hid (fun W => rblocks_any ys.length blk hn64 hb64 W)
  have hbd := blocksI_bd (b := (blk : Int)) hn64
  obtain ⟨N, hN⟩ : ∃ N : Nat, (N : Int) = blocksI ys.length blk := ⟨(blocksI ys.length blk).toNat, by omega⟩
  have HX := Lib.hid (fun (j : Nat) (hj : (j : Int) < blocksI ys.length blk) => blockL_next (xs := ys) (B := blk) (j := j) (by omega) hj)
  rw [← hN] at GB hbd HX
  have HR1 := Lib.hid hr1
  have HR2 := Lib.hid hr2
  have HN := Lib.hid hN
  have hNb : N ≤ 2000 := by omega
  have hk1 : 128 ≤ blk := by omega
  have hk2 : blk ≤ 4096 := by omega
  clear hr1 hr2 hn64 hbd wb h3 hN
  go_enter Try.func4, Try.ntmps4
  go_wp2_with (first
    | (go_at_call 14; refine GP.out.mono ?_; rintro e w2 ⟨A, c, pls, ps, e9, rfl, hfl, hpn, hpa, hb2⟩; have hpl : pls.length = N := (by have := HN.out; omega); have HFL := Lib.hid hfl; have HPA := Lib.hid hpa; have HB := Lib.hid hb2; have HPL := Lib.hid hpl; rw [hpl]; clear hfl hpn hpa hb2 hpl)
    | (go_at_call 8; (with_reducible refine (GB.out _).mono ?_); rintro e w1 ⟨rfl, rfl⟩))
  have HGB := Lib.hid (fun W (hW : Below w2.heap.size w2 W) (j : Nat) (hj : j ≤ 2000) => rblock_any A2 ys c2 blk j W hb64 (by unfold In64; omega) (by omega) hl2 ((HR2.out.below (HB.out.trans (hW.mono HB.out.size))).more (HB.out.trans (hW.mono HB.out.size)).size))
  go_loopw [9] (fun s wr => ∃ i : Nat, i ≤ N ∧ s = .int .i64 i ∧ Below w2.heap.size w2 wr) (fun s _ => N - (intOf s).toNat)
  case atStart => exact ⟨0, Nat.zero_le _, rfl, Below.refl _ _⟩
  case round =>
    obtain ⟨i, hi, rfl, hB⟩ := hrel
    have HBR := Lib.hid hB
    have HPR := Lib.hid (HPA.out.below hB)
    clear hB
    by_cases hlt : i < N
    · have di : decide ((i : Int) < (N : Int)) = true := decide_eq_true (by omega)
      have di2 : decide (i < N) = true := decide_eq_true hlt
      have hil : i < pls.length := by rw [HPL.out]; exact hlt
      obtain ⟨hop, hsq⟩ := HPR.out.each i _ (List.getElem?_eq_getElem hil)
      obtain ⟨g, hA, hg, hcell⟩ := HPR.out.own.cellAt (i := i) (by rw [List.length_map]; exact hil)
      subst hA
      rw [List.getElem_map] at hcell
      generalize pls[i] = p at *
      obtain ⟨pv, ss⟩ := p
      simp only at hop hsq hcell
      obtain ⟨Ai, ci, rfl, ki, mi⟩ := hop.opened
      obtain ⟨x1, x2, x3, x4⟩ := HX.out i (by omega)
      obtain ⟨⟨e', hrun⟩, hhd⟩ := ahead_run (x := (i : Int) * blk) HFL.out.run
      obtain ⟨hmk, hfit⟩ := planQ_makes ho1 (blockL_octets (b := (blk : Int)) (i := (i : Int)) ho2) x2 (by omega) (by omega) hrun hhd
      rw [← hsq] at hmk hfit
      have gk := HGB.out wr HBR.out i (by omega)
      generalize blockL ys blk i = Y at *
      have hev := eval_makes hmk
      have hss : ss.length ≤ 5000 := by have := hmk.len; rw [List.length_map] at this; omega
      have GK := Lib.hid gk
      have GE := Lib.hid (fun W (hW : Below wr.heap.size wr W) => reval_any Ai ss ci A1 xs c1 Y.length W hss ki mi ((hop.below hW).holds hmk (Nat.le_refl _)).2.2.2 (by omega) hl1 (by unfold maxLen; omega) ho1 ((HR1.out.below (HB.out.trans ((HBR.out.trans (hW.mono HBR.out.size)).mono HB.out.size))).more (HB.out.trans ((HBR.out.trans (hW.mono HBR.out.size)).mono HB.out.size)).size))
      rw [hev] at GE
      have GPt := Lib.hid (fun W (hW : Below wr.heap.size wr W) => rput_any Ai ss ci W hss ki mi ((hop.below hW).holds hmk (Nat.le_refl _)).2.2.2 (putB ss) 0 (.inr ⟨by rw [rightS_q]; exact hmk.right, rfl, rfl⟩))
      rw [← putB_q] at hfit
      obtain ⟨Z, hZ⟩ : ∃ Z, putB ss = Z := ⟨_, rfl⟩
      rw [hZ] at hfit GPt
      have hcm : ∀ (W : World), Below wr.heap.size wr W → W.cell? ⟨g, i, none⟩ = some (.slice Ai ss.length ci) := fun W hW => (hW.cell (p := ⟨g, i, none⟩) hg).trans hcell
      have HCM := Lib.hid hcm
      have hzf : ((Z.length : Nat) : Int) ≤ (blk : Int) + 12 := by omega
      have d8 : decide ((blk : Int) + 12 < (Z.length : Int)) = false := decide_eq_false (by omega)
      have d9 : decide (blk + 12 < Z.length) = false := decide_eq_false (by omega)
      clear hZ hcm gk hev hop hsq hmk hrun hhd x1 x4 hcell
      go_wp2_with (first
        | (go_at_call 10; refine GK.out.mono ?_; rintro e w5 ⟨A5, c5, rfl, hh5, hb5⟩; have q5 := HCM.out _ hb5; have HB5 := Lib.hid hb5; have HH5 := Lib.hid hh5; have GE5 := Lib.hid (GE.out _ hb5); clear hh5 hb5)
        | (go_at_call 15; have _t := GE5; clear _t; refine GE5.out.mono ?_; rintro e w6 ⟨A6, c6, rfl, hh6, _, _, hb6⟩; have hb56 := HB5.out.trans (hb6.mono HB5.out.size); have q6 := HCM.out _ hb56; have HB6 := Lib.hid hb6; have HH6 := Lib.hid hh6; have HB56 := Lib.hid hb56; have GP6 := Lib.hid (GPt.out _ hb56); clear hh6 hb6 hb56)
        | (go_at_call 16; have _t := GP6; clear _t; refine GP6.out.mono ?_; rintro e w7 ⟨A7, c7, rfl, hh7, _, _, hb7⟩; have f6 := conv_bytes Try.underlying22 Try.underlying5 Try.underlying9 w7 A6 Y c6 _ (HH6.out.below hb7); have f5 := conv_bytes Try.underlying22 Try.underlying5 Try.underlying9 w7 A5 Y c5 _ ((HH5.out.below HB6.out).below (hb7.mono HB6.out.size)); generalize strOfNums Y = sY at *; have HB57 := Lib.hid (HB56.out.trans (hb7.mono HB56.out.size)); clear hh7 hb7))
      go_roundw
      case rel => exact ⟨i + 1, hlt, by go_num, HBR.out.trans (HB57.out.mono HBR.out.size)⟩
      case measure => simp [intOf] <;> omega
    · have di : decide ((i : Int) < (N : Int)) = false := decide_eq_false (by omega)
      have di2 : decide (i < N) = false := decide_eq_false hlt
      go_wp2_with (go_at_call 6; (with_reducible refine (GA.out _).mono ?_); rintro e w4 ⟨rfl, hb4⟩)
      go_ret
      exact ⟨rfl, HB.out.trans ((HBR.out.trans (hb4.mono HBR.out.size)).mono HB.out.size)⟩
end Go.Proofs.Ytlcnbepldkbkgaa.DeltaMakes
