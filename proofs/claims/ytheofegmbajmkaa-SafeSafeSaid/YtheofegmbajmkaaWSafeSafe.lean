/-
  SafeSafe: the walk: what is checked makes in place what it makes of the old image, block by block.
-/
import Derived.Test.YtheofegmbajmkaaSaO
namespace Go.Proofs.Ytheofegmbajmkaa.SafeSafe
open Go.ChangeShapes Go.WideShapes Go.ChangeAt Go.RowKit Go.Proofs.Ytheofegmbajmkaa.Kit Go.Proofs.Ytheofegmbajmkaa.Pl Go.Proofs.Ytheofegmbajmkaa.Gr Go.Proofs.Ytheofegmbajmkaa.Sa

theorem plans_oct {w : World} {B : Nat} {A : Option Addr} {ps : List Plan} (h : HoldsP w B A ps) : ∀ p ∈ ps, ∀ s ∈ p.ss, Octets s.zs := by
  intro p hp s hs
  obtain ⟨i, hi, rfl⟩ := List.getElem_of_mem hp
  obtain ⟨_, _, _, _, _, _, _, h6⟩ := planAt h hi
  obtain ⟨j, hj, rfl⟩ := List.getElem_of_mem hs
  obtain ⟨_, _, _, _, _, _, _, _, _, _, _, _, _, ho, _⟩ := stepAt h6 hj
  exact ho

theorem planS_oct {ps : List Plan} (h : ∀ p ∈ ps, ∀ s ∈ p.ss, Octets s.zs) : ∀ i, ∀ s ∈ planS ps i, Octets s.zs := by
  intro i s hs
  unfold planS at hs
  by_cases hi : i.toNat < ps.length
  · rw [List.getElem?_map, List.getElem?_eq_getElem hi] at hs
    exact h _ (List.getElem_mem hi) s (by simpa using hs)
  · rw [List.getElem?_eq_none (by simpa using hi)] at hs
    simp at hs

set_option maxRecDepth 100000 in
set_option maxHeartbeats 6400000 in
theorem walk (Ab : Option Addr) (b : List Int) (cb : Nat) (A : Option Addr) (ps : List Plan) (c : Nat) (A1 : Option Addr) (xs : List Int) (c1 : Nat) (bl new : Int) (w : World) (hl0 : b.length ≤ cb) (hm0 : cb ≤ maxLen) (ho0 : Octets b) (hr0 : Holds w w.heap.size .u8 Ab b) (hl : ps.length ≤ c) (hm : c ≤ maxLen) (hr : HoldsP w w.heap.size A ps)
    (hl1 : xs.length ≤ c1) (hm1 : c1 ≤ maxLen) (_ : ∀ n ∈ xs, (Lit.int .i64 n).wf = true) (hr1 : Holds w w.heap.size .i64 A1 xs) (_ : (Lit.int .i64 bl).wf = true) (wn : (Lit.int .i64 new).wf = true) :
    Calls Try.prog 5 #[.slice Ab b.length cb, .slice A ps.length c, .slice A1 xs.length c1, .int .i64 bl, .int .i64 new] w fun e w' => e = .returned (.bool true) ∧ Below w.heap.size w w' := by
  have GG := Lib.hid (greatp_any A ps c w hl hm hr)
  have GA := Lib.hid Sa.awake_any
  cases hg : greatP ps with
  | true =>
    rw [hg] at GG
    clear hr hr0 hr1 hg
    go_enter Try.func5, Try.ntmps5
    go_wp2_with (first
      | (go_at_call 6; refine GG.out.mono ?_; rintro e w1 ⟨rfl, hb1⟩)
      | (go_at_call 7; refine (GA.out _).mono ?_; rintro e w5 ⟨rfl, hb5⟩))
    go_ret
    exact ⟨rfl, hb1.trans (hb5.mono hb1.size)⟩
  | false =>
    rw [hg] at GG
    obtain ⟨hf1, hf2⟩ := greatP_no hg
    by_cases h60 : (60 : Int) < (xs.length : Int)
    · have d1 : decide ((60 : Int) < (xs.length : Int)) = true := decide_eq_true h60
      clear hr hr0 hr1 hg
      go_enter Try.func5, Try.ntmps5
      go_wp2_with (first
        | (go_at_call 6; refine GG.out.mono ?_; rintro e w1 ⟨rfl, hb1⟩)
        | (go_at_call 7; refine (GA.out _).mono ?_; rintro e w5 ⟨rfl, hb5⟩))
      go_ret
      exact ⟨rfl, hb1.trans (hb5.mono hb1.size)⟩
    have d1 : decide ((60 : Int) < (xs.length : Int)) = false := decide_eq_false h60
    by_cases h5 : (5000 : Int) < (b.length : Int)
    · have d2 : decide ((5000 : Int) < (b.length : Int)) = true := decide_eq_true h5
      clear hr hr0 hr1 hg
      go_enter Try.func5, Try.ntmps5
      go_wp2_with (first
        | (go_at_call 6; refine GG.out.mono ?_; rintro e w1 ⟨rfl, hb1⟩)
        | (go_at_call 7; refine (GA.out _).mono ?_; rintro e w5 ⟨rfl, hb5⟩))
      go_ret
      exact ⟨rfl, hb1.trans (hb5.mono hb1.size)⟩
    have d2 : decide ((5000 : Int) < (b.length : Int)) = false := decide_eq_false h5
    by_cases h6 : (5000 : Int) < new
    · have d3 : decide ((5000 : Int) < new) = true := decide_eq_true h6
      clear hr hr0 hr1 hg
      go_enter Try.func5, Try.ntmps5
      go_wp2_with (first
        | (go_at_call 6; refine GG.out.mono ?_; rintro e w1 ⟨rfl, hb1⟩)
        | (go_at_call 7; refine (GA.out _).mono ?_; rintro e w5 ⟨rfl, hb5⟩))
      go_ret
      exact ⟨rfl, hb1.trans (hb5.mono hb1.size)⟩
    have d3 : decide ((5000 : Int) < new) = false := decide_eq_false h6
    have hwn : -9223372036854775808 ≤ new ∧ new ≤ 9223372036854775807 := by simpa [Lit.wf, IntKind.min, IntKind.max, IntKind.signed, IntKind.bits] using wn
    have hpo := plans_oct hr
    have G0 := Lib.hid (fun W (hb : Below w.heap.size w W) => scheck_any A ps c A1 xs c1 bl b.length new W hf1 hf2 (by omega) hwn ((hr.below hb).more hb.size) ((hr1.below hb).more hb.size))
    by_cases hx0 : checkE ps xs bl b.length new = 0
    · rw [hx0] at G0
      obtain ⟨x, hfo, hxl, hall⟩ := safe_all (planS_oct hpo) hx0
      have h0 : aheadE ps.length xs bl b.length new = 0 := by
        unfold checkE at hx0
        by_cases h : aheadE ps.length xs bl b.length new = 0
        · exact h
        · rw [if_neg h] at hx0; exact absurd hx0 h
      have G1 := Lib.hid (fun W (hb : Below w.heap.size w W) => sfold_any Ab b cb A ps c A1 xs c1 bl new W (by omega) hl0 hm0 ho0 ((hr0.below hb).more hb.size) hf1 hf2 (by omega) (by omega) hpo ((hr.below hb).more hb.size) ((hr1.below hb).more hb.size))
      rw [hfo] at G1
      simp only at G1
      obtain ⟨hA, hO⟩ := ahead_zero h0
      have hq : (ps.length : Int) = Blk.blocks new bl := by
        unfold aheadE at h0
        rw [if_pos hA] at h0
        split at h0
        · rename_i h1; exact h1
        · cases h0
      have HIN := Lib.hid (fun (k : Nat) (hk : k < ps.length) => size_in h0 (Ordr.order_has _ _ hO k hk))
      unfold ArgOk at hA
      have HALL := Lib.hid hall
      have HPA := Lib.hid (fun (k : Nat) (h : k < ps.length) => planS_at h)
      have HPS := Lib.hid (fun (k : Nat) (h : k < ps.length) => hf2 ps[k] (List.getElem_mem h))
      have HPB := Lib.hid (fun W (h : Below w.heap.size w W) => (hr.below h).more h.size)
      have HR0 := Lib.hid (fun W (h : Below w.heap.size w W) => (hr0.below h).more h.size)
      obtain ⟨N, hN⟩ : ∃ N : Nat, new = (N : Int) := ⟨new.toNat, by omega⟩
      subst hN
      have hxN : x.length = N := by omega
      have HXN := Lib.hid hxN
      have HQ := Lib.hid hq.symm
      have hN5 : N ≤ 5000 := by omega
      have hb5 : b.length ≤ 5000 := by omega
      have hp40 : ps.length ≤ 40 := hf1
      have e0 : ((0 : Int) != 0) = false := rfl
      have HBO := Lib.hid ho0
      clear hr hr0 hr1 hg hf1 hf2 hwn hpo hfo hall hO h0 hx0 hxl wn h5 h60 h6 hq hxN ho0
      go_enter Try.func5, Try.ntmps5
      go_wp2_with (first
        | (go_at_call 6; refine GG.out.mono ?_; rintro e w1 ⟨rfl, hb1⟩)
        | (go_at_call 8; refine (G0.out _ hb1).mono ?_; rintro e w2 ⟨rfl, hb2⟩; have hb2' := hb1.trans (hb2.mono hb1.size))
        | (go_at_call 10; refine (G1.out _ hb2').mono ?_; rintro e w4 ⟨A4, c4, rfl, hh4, hc4, hm4, hb4⟩; rw [HXN.out] at hc4 ⊢; have hb4' := hb2'.trans (hb4.mono hb2'.size)))
      go_loopw [13] (fun s wr => ∃ k : Nat, k ≤ ps.length ∧ s = .int .i64 k ∧ Below w4.heap.size w4 wr) (fun s _ => ps.length - (intOf s).toNat)
      case atStart => exact ⟨0, Nat.zero_le _, rfl, Below.refl _ _⟩
      case round =>
        obtain ⟨k, hk, rfl, hb⟩ := hrel
        have hbw := hb4'.trans (hb.mono hb4'.size)
        by_cases hlt : k < ps.length
        · have hin := HIN.out k hlt
          have hall := HALL.out k hlt
          have hp9 := HPA.out k hlt
          have hlen := HPS.out k hlt
          obtain ⟨p, hp⟩ : ∃ p : Nat, (k : Int) * bl = (p : Int) := ⟨((k : Int) * bl).toNat, by omega⟩
          obtain ⟨sz, hsz⟩ : ∃ sz : Nat, sizeE k bl N = (sz : Int) := ⟨(sizeE k bl N).toNat, by omega⟩
          rw [hp9, hp, hsz, Int.toNat_natCast, Int.toNat_natCast] at hall
          rw [hp, hsz] at hin
          have d7 : decide ((k : Int) < (ps.length : Int)) = true := decide_eq_true (by omega)
          have d8 : decide (k < ps.length) = true := decide_eq_true hlt
          have hx := (hh4.below hb).more hb.size
          obtain ⟨g, off, hAe, -, -⟩ := hx (by rw [HXN.out]; omega)
          subst hAe
          have hfit : p + sz ≤ x.length := by rw [HXN.out]; omega
          have hsub := hx.sub p sz hfit
          rw [HXN.out] at hfit
          have GB := Lib.hid (block_any g off c4 N k p sz ps.length bl wr (by omega) hN5 hc4 hm4 hlt HQ.out hp hsz hfit (by omega))
          obtain ⟨bp, offp, hPe, hbp, hcp, hq1, hq2, hq3⟩ := planAt (HPB.out _ hbw) hlt
          subst hPe
          have GE := reval_any ps[k].A ps[k].ss ps[k].cap Ab b cb sz wr (by omega) hq1 hq2 hq3 (by omega) hl0 hm0 HBO.out (HR0.out _ hbw)
          have hYL : ((x.drop p).take sz).length = sz := by rw [List.length_take, List.length_drop, HXN.out]; omega
          generalize ps[k] = p9 at *
          obtain ⟨A9, c9, ss9⟩ := p9
          simp only at hcp GE hq1 hq2 hall
          obtain ⟨⟨ys, e9⟩, hE⟩ : ∃ E, evalE (some b) ss9 sz = E := ⟨_, rfl⟩
          rw [hE] at GE hall
          simp only at GE hall
          obtain ⟨ha1, rfl⟩ := hall
          subst ha1
          generalize (x.drop p).take sz = Y at *
          have HYL := Lib.hid hYL
          have GEH := Lib.hid GE
          have hsw := hbw.size
          clear hE GE hq3 hp9 hlen hx hYL hin hp hsz
          go_wp2_with (first
            | (go_at_call 12; refine GB.out.mono ?_; rintro e w5 ⟨rfl, rfl⟩)
            | (go_at_call 13; refine GEH.out.mono ?_; rintro e w6 ⟨A6, c6, rfl, hh6, hc6, hm6, hb6⟩; have hsub6 := (hsub.below hb6).more hb6.size; have f1 := conv_any w6 (some ⟨g, off + p, none⟩) Y (c4 - p) _ hsub6; have f2 := conv_any w6 A6 Y c6 _ hh6; rw [HYL.out] at f1 f2 ⊢; have hbn := hb.trans (hb6.mono hb.size); generalize strOfNums Y = s1 at f1 f2))
          go_roundw
          case rel => exact ⟨k + 1, hlt, by go_num, hbn⟩
          case measure => simp [intOf] <;> omega
        · obtain rfl : k = ps.length := by omega
          have d7 : decide ((ps.length : Int) < (ps.length : Int)) = false := decide_eq_false (by omega)
          have d8 : decide (ps.length < ps.length) = false := decide_eq_false (by omega)
          go_wp2_with (go_at_call 7; refine (GA.out _).mono ?_; rintro e w7 ⟨rfl, hb7⟩)
          go_ret
          exact ⟨rfl, hbw.trans (hb7.mono hbw.size)⟩
    · obtain ⟨E, hE⟩ : ∃ E, checkE ps xs bl b.length new = E := ⟨_, rfl⟩
      rw [hE] at G0 hx0
      have e1 : (E != 0) = true := by rw [bne_iff_ne]; exact hx0
      have e2 : (E == 0) = false := by rw [beq_eq_false_iff_ne]; exact hx0
      clear hr hr0 hr1 hg hf1 hf2 hwn hpo hE ho0 wn h5 h60
      go_enter Try.func5, Try.ntmps5
      go_wp2_with (first
        | (go_at_call 6; refine GG.out.mono ?_; rintro e w1 ⟨rfl, hb1⟩)
        | (go_at_call 8; refine (G0.out _ hb1).mono ?_; rintro e w2 ⟨rfl, hb2⟩; have hb2' := hb1.trans (hb2.mono hb1.size))
        | (go_at_call 7; refine (GA.out _).mono ?_; rintro e w7 ⟨rfl, hb7⟩))
      go_ret
      exact ⟨rfl, hb2'.trans (hb7.mono hb2'.size)⟩
end Go.Proofs.Ytheofegmbajmkaa.SafeSafe
