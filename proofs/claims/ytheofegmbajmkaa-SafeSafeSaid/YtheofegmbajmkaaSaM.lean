/-
  Layer 20, safe: Fold: the document's. Conditions: as each theorem names.
-/
import Derived.Test.YtheofegmbajmkaaSaL
namespace Go.Proofs.Ytheofegmbajmkaa.Sa
open Go.ChangeShapes Go.WideShapes Go.ChangeAt Go.RowKit Go.Proofs.Ytheofegmbajmkaa.Kit Go.Proofs.Ytheofegmbajmkaa.Ordr Go.Proofs.Ytheofegmbajmkaa.Blk Go.Proofs.Ytheofegmbajmkaa.Pl

set_option maxRecDepth 100000 in
set_option maxHeartbeats 6400000 in
theorem rfold_any (Ab : Option Addr) (b : List Int) (cb : Nat) (P : Option Addr) (ps : List Plan) (pc : Nat) (A : Option Addr) (xs : List Int) (c : Nat) (bl new : Int) (w : World) (hbl : b.length ≤ 5000) (hbc : b.length ≤ cb) (hcb : cb ≤ maxLen) (hbo : Octets b) (hrb : Holds w w.heap.size .u8 Ab b)
    (hp : ps.length ≤ 40) (hps : ∀ p ∈ ps, p.ss.length ≤ 60) (hl : xs.length ≤ 60) (hnew : -9223372036854775808 ≤ new ∧ new ≤ 5000) (hpo : ∀ p ∈ ps, ∀ s ∈ p.ss, Octets s.zs)
    (hrp : HoldsP w w.heap.size P ps) (hr : Holds w w.heap.size .i64 A xs) :
    Calls Try.prog 11 #[.slice Ab b.length cb, .slice P ps.length pc, .slice A xs.length c, .int .i64 bl, .int .i64 new] w (GivesE (foldE b ps xs bl new).1 (foldE b ps xs bl new).2 w) := by
  obtain ⟨⟨R, er⟩, hD⟩ : ∃ D, foldE b ps xs bl new = D := ⟨_, rfl⟩
  have HD := Lib.hid hD
  rw [hD]
  simp only
  clear hD
  unfold foldE at HD
  have GA := ahead_any P ps.length pc A xs c bl b.length new w hp hl (by omega) hr
  by_cases h0 : aheadE ps.length xs bl b.length new = 0
  · obtain ⟨hA, hO⟩ := ahead_zero h0
    have HIN := Lib.hid (fun (i : Int) (hi : i ∈ xs) => size_in h0 hi)
    rw [h0] at GA
    rw [if_pos h0] at HD
    have GAH := Lib.hid GA
    have HX := Lib.hid hO.2.1
    have hA2 := hA
    unfold ArgOk at hA2
    obtain ⟨N, hN⟩ : ∃ N : Nat, new = (N : Int) := ⟨new.toNat, by omega⟩
    subst hN
    rw [Int.toNat_natCast] at HD
    obtain ⟨M, hM⟩ : ∃ M, max b.length N = M := ⟨_, rfl⟩
    rw [hM] at HD
    have HST := Lib.hid (fun (L : List Int) (k : Nat) (h : k < xs.length) => goF_step ps b.length bl N L xs h)
    have HEN := Lib.hid (fun L => goF_end ps b.length bl N L xs)
    have HPB := Lib.hid (fun W (h : Below w.heap.size w W) => (hrp.below h).more h.size)
    have HPA := Lib.hid (fun (k : Nat) (h : k < ps.length) => planS_at h)
    have HPS := Lib.hid (fun (k : Nat) (h : k < ps.length) => hps ps[k] (List.getElem_mem h))
    have HPO := Lib.hid (fun (k : Nat) (h : k < ps.length) => hpo ps[k] (List.getElem_mem h))
    have HBO := Lib.hid hbo
    have hNM : N ≤ M ∧ b.length ≤ M ∧ M ≤ 5000 := by omega
    have own0 := Own.empty (B := w.heap.size) w 5 .u8 (Nat.le_refl _)
    have hb0 : Below w.heap.size w (w.alloc (.cells #[] 5)) := (Below.refl _ _).alloc (Nat.le_refl _) _
    have hrb0 := hrb.below hb0
    have hs0 := hb0.size
    clear h0 hA hO GA hrp hps hpo hbo hrb hM
    go_enter Try.func11, Try.ntmps11
    go_wp2_with (first
      | (go_at_call 18; refine GAH.out.mono ?_; rintro e w1 ⟨rfl, rfl⟩)
      | (at_builtin; refine wpList_append_ints (xs := []) (ys := b) _ rfl _ _ _ rfl elem8 own0 rfl rfl hrb0 (by simp; omega) hs0 ?_; intro v1 w1 own1 g1 hb1 hv1))
    have B1 := hb0.trans hb1
    rw [List.nil_append] at own1
    clear own0 hb0 hrb0 hs0 hb1 g1 hv1
    go_loopw [13, 35] (fun v s wr => ∃ (k : Nat) (I : List Int) (A3 : Option Addr) (c3 : Nat), k ≤ xs.length ∧ s = .int .i64 k ∧ v = .slice A3 I.length c3 ∧ Own wr w.heap.size 5 .u8 (.slice A3 I.length c3) I ∧ (b.length ≤ I.length ∧ I.length ≤ M) ∧ Octets I ∧ goF ps b.length bl N (pad I M) (xs.drop k) = (R, er) ∧ Below w.heap.size w wr) (fun _ s _ => xs.length - (intOf s).toNat)
    case atStart =>
      obtain ⟨A1, c1, rfl, _⟩ := own1.opened
      exact ⟨0, b, A1, c1, Nat.zero_le _, rfl, rfl, own1, ⟨Nat.le_refl _, hNM.2.1⟩, HBO.out, HD.out, B1⟩
    case round =>
      clear own1 B1
      obtain ⟨k, I, A3, c3, hk, rfl, rfl, own3, hIl, hIo, hg, hb⟩ := hrel
      have HG := Lib.hid hg
      clear hg
      obtain ⟨A3', c3', hv3, hc3, hm3, hrI⟩ := own3.opened
      injection hv3 with hv1 hv2 hv3
      subst hv1 hv3
      clear hv2
      by_cases hlt : k < xs.length
      · obtain ⟨b0, off, rfl, hbo, hcs⟩ := (hr.below hb) (by omega)
        have hck := hcs k hlt
        have HSK := Lib.hid (HST.out (pad I M) k hlt)
        have hmem := getD_mem hlt
        have hrg := HX.out (xs.getD k 0) hmem
        have hin := HIN.out (xs.getD k 0) hmem
        have d1 : decide ((k : Int) < (xs.length : Int)) = true := decide_eq_true (by omega)
        have d2 : decide (k < xs.length) = true := decide_eq_true hlt
        clear hcs hmem
        obtain ⟨z, hz⟩ : ∃ z, xs.getD k 0 = z := ⟨_, rfl⟩
        rw [hz] at hck hrg HSK hin
        clear hz
        obtain ⟨j, rfl⟩ : ∃ j : Nat, z = (j : Int) := ⟨z.toNat, by omega⟩
        obtain ⟨p, hjp⟩ : ∃ p : Nat, (j : Int) * bl = (p : Int) := ⟨((j : Int) * bl).toNat, by omega⟩
        have hjn : j < ps.length := by omega
        have hp9 := HPA.out j hjn
        have hlen := HPS.out j hjn
        have hsb := hb.size
        have BD : Below w.heap.size w wr.drew := ⟨hb.os, hb.tape, hb.output, hb.size, hb.block⟩
        obtain ⟨bp, offp, hPe, hbp, hcp, hq1, hq2, hq3⟩ := planAt (HPB.out _ hb) hjn
        subst hPe
        have GZ := Lib.hid (fun W => rsize_any (j : Int) bl N W (by omega) (by omega) (by omega))
        rw [hp9, hjp, Int.toNat_natCast, pad_take I M hIl.1] at HSK
        rw [hjp] at hin
        have hs9 : HoldsS wr.drew ps[j].A ps[j].ss := hq3
        have hoc := HPO.out j hjn
        generalize sizeE (j : Int) bl N = want at *
        generalize ps[j] = p9 at *
        have hlb : (I.take b.length).length = b.length := by rw [List.length_take]; omega
        have GE := reval_any p9.A p9.ss p9.cap A3 (I.take b.length) c3 want wr.drew (by omega) hq1 hq2 hs9 (by omega) (by omega) hm3 (fun x hx => hIo x (List.mem_of_mem_take hx)) (holds_first b.length (show Holds wr.drew wr.drew.heap.size .u8 A3 I from hrI))
        rw [hlb] at GE
        have hok := evalE_ok (old := I.take b.length) (ss := p9.ss) (want := want) hoc
        have hno := evalE_no (old := I.take b.length) (ss := p9.ss) (want := want)
        obtain ⟨A9, c9, ss9⟩ := p9
        simp only at hcp HSK GE hq1 hq2 hok hno
        obtain ⟨⟨ys, e9⟩, hE⟩ : ∃ E, evalE (some (I.take b.length)) ss9 want = E := ⟨_, rfl⟩
        rw [hE] at GE HSK hok hno
        simp only at GE HSK hok hno
        have GEH := Lib.hid GE
        have HRI : Hid (Holds wr.drew wr.drew.heap.size .u8 A3 I) := Lib.hid hrI
        have hbI : b.length ≤ c3 := by omega
        clear hE GE hq3 hs9 hp9 hlen hoc hlb own3 hrI
        by_cases he0 : e9 = 0
        · subst he0
          rw [if_pos rfl] at HSK
          obtain ⟨hyl, hyo⟩ := hok rfl
          have hpM : p + ys.length ≤ M := by omega
          have HGN : Hid (goF ps b.length bl N (pad (writeL I p ys) M) (xs.drop (k + 1)) = (R, er)) := Lib.hid (by rw [writeL_pad I p ys hpM]; exact HSK.out.symm.trans HG.out)
          have HLN : Hid (b.length ≤ (writeL I p ys).length ∧ (writeL I p ys).length ≤ M) := Lib.hid (by rw [writeL_length]; omega)
          have HLO : Hid (Octets (writeL I p ys)) := Lib.hid (putAt_oct p (pad_oct hIo _) hyo)
          have GW := Lib.hid (fun (A4 : Option Addr) (c4 : Nat) (W : World) (h1 : Holds W W.heap.size .u8 A3 I) (h2 : Holds W W.heap.size .u8 A4 ys) => write_any A3 I c3 p A4 ys c4 W (by omega) (by omega) h1 h2)
          clear hok hno hyo hIo
          go_wp2_with fail
          go_region_law (first
            | (go_simp; go_at_call 20; refine (GZ.out _).mono ?_; rintro e w2 ⟨rfl, rfl⟩)
            | (go_simp; go_at_call 13; refine GEH.out.mono ?_; rintro e w4 ⟨A4, c4, rfl, hh4, hc4, hm4, hb4⟩; have B4 := BD.trans (hb4.mono (show w.heap.size ≤ wr.drew.heap.size from hsb)); have hI4 := (HRI.out.below hb4).more hb4.size))
          all_goals
            go_wp2_with (go_at_call 22; refine (GW.out _ _ _ hI4 hh4).mono ?_; rintro e w5 ⟨v5, rfl, own5, hb5⟩; have B5 := B4.trans (hb5.mono B4.size); have own6 := own5.mono B4.size; obtain ⟨A6, c6, rfl, _⟩ := own6.opened)
            go_roundw
            case rel => exact ⟨k + 1, writeL I p ys, A6, c6, hlt, by go_num, rfl, own6, HLN.out, HLO.out, HGN.out, B5⟩
            case measure => simp [intOf] <;> omega
        · rw [if_neg he0] at HSK
          have hR := HSK.out.symm.trans HG.out
          injection hR with hR1 hR2
          subst hR1 hR2
          have hy0 := hno he0
          subst hy0
          have e1 : (e9 != 0) = true := by rw [bne_iff_ne]; exact he0
          have e2 : (e9 == 0) = false := by rw [beq_eq_false_iff_ne]; exact he0
          clear hok hno hIo
          go_wp2_with fail
          go_region_law (first
            | (go_simp; go_at_call 20; refine (GZ.out _).mono ?_; rintro e w2 ⟨rfl, rfl⟩)
            | (go_simp; go_at_call 13; refine GEH.out.mono ?_; rintro e w4 ⟨A4, c4, rfl, hh4, hc4, hm4, hb4⟩; have B4 := BD.trans (hb4.mono (show w.heap.size ≤ wr.drew.heap.size from hsb)); have B5 := B4.alloc B4.size (.cells #[] 5)))
          all_goals
            go_wp2_with fail
            go_ret2
            exact ⟨_, 0, rfl, Holds.nil, Nat.le_refl _, Nat.zero_le _, B5⟩
      · obtain rfl : k = xs.length := by omega
        have d1 : decide ((xs.length : Int) < (xs.length : Int)) = false := decide_eq_false (by omega)
        have d2 : decide (xs.length < xs.length) = false := decide_eq_false (by omega)
        have hR := (HEN.out (pad I M)).symm.trans HG.out
        rw [Int.toNat_natCast] at hR
        injection hR with hR1 hR2
        have HR1 := Lib.hid hR1
        subst hR2
        clear hR1 hrI HG HST HEN HIN HX
        go_wp2_with fail
        go_loopw [13] (fun v wr => ∃ (m : Nat) (A5 : Option Addr) (c5 : Nat), I.length ≤ m ∧ (m = I.length ∨ m ≤ N) ∧ v = .slice A5 m c5 ∧ Own wr w.heap.size 5 .u8 (.slice A5 m c5) (pad I m) ∧ Below w.heap.size w wr) (fun v _ => N - lenV v)
        case atStart => exact ⟨I.length, A3, c3, Nat.le_refl _, .inl rfl, rfl, by rw [pad_none I (Nat.le_refl _)]; exact own3, hb⟩
        case round =>
          clear own3 hb
          obtain ⟨m, A5, c5, hm1, hm2, rfl, own5, B5⟩ := hrel
          have hs5 := B5.size
          have HLM : Hid ((pad I m).length = m) := Lib.hid (by rw [pad_length]; omega)
          by_cases hlt : m < N
          · have d3 : decide ((m : Int) < (N : Int)) = true := decide_eq_true (by omega)
            have d4 : decide (m < N) = true := decide_eq_true hlt
            have HS := Lib.hid (pad_snoc I hm1)
            have hql : (pad I m).length ≤ 10000 := by have := HLM.out; omega
            generalize pad I m = q at *
            go_wp2_with (at_builtin; refine wpList_append_one (z := 0) _ rfl _ _ _ rfl elem8 own5 rfl rfl (by omega) (by omega) ?_; intro v6 w6 own6 hg6 hb6)
            obtain ⟨A6, c6, rfl, _⟩ := own6.opened
            have HL6 : Hid ((q ++ [0]).length = m + 1) := Lib.hid (by rw [List.length_append, HLM.out]; rfl)
            rw [HL6.out] at own6 ⊢
            go_roundw
            case rel => exact ⟨m + 1, A6, c6, by omega, .inr (by omega), rfl, by rw [← HS.out]; exact own6, B5.trans hb6⟩
            case measure => simp [lenV] <;> omega
          · have d3 : decide ((m : Int) < (N : Int)) = false := decide_eq_false (by omega)
            have d4 : decide (m < N) = false := decide_eq_false hlt
            obtain ⟨A6, c6, hv6, hc6, hm6, hr6⟩ := own5.opened
            injection hv6 with hv1 hv2 hv3
            subst hv1 hv3
            clear hv2
            rw [HLM.out] at hc6
            have hRR : R = (pad I m).take N := by
              rw [← HR1.out, ← pad_pad I (show m ≤ M by omega), pad_take _ _ (by rw [HLM.out]; omega)]
            subst hRR
            have hh := holds_first N hr6
            have HLT : Hid (((pad I m).take N).length = N) := Lib.hid (by rw [List.length_take, HLM.out]; omega)
            have hNc : N ≤ c5 := by omega
            clear hr6 own5 HR1
            go_wp2_with fail
            go_ret2
            exact ⟨A5, c5, by rw [HLT.out]; rfl, hh, by rw [HLT.out]; exact hNc, hm6, B5⟩
  · rw [if_neg h0] at HD
    have hR := HD.out
    obtain ⟨E, hE⟩ : ∃ E, aheadE ps.length xs bl b.length new = E := ⟨_, rfl⟩
    rw [hE] at GA h0 hR
    injection hR with hR1 hR2
    subst hR1 hR2
    have GAH := Lib.hid GA
    have e1 : (E != 0) = true := by rw [bne_iff_ne]; exact h0
    have e2 : (E == 0) = false := by rw [beq_eq_false_iff_ne]; exact h0
    have B0 := below_last w (.cells #[] 5)
    clear hE hrp hr hrb HD GA
    go_enter Try.func11, Try.ntmps11
    go_wp2_with (go_at_call 18; refine GAH.out.mono ?_; rintro e w1 ⟨rfl, rfl⟩)
    go_ret2
    exact ⟨_, 0, rfl, Holds.nil, Nat.le_refl _, Nat.zero_le _, B0⟩
end Go.Proofs.Ytheofegmbajmkaa.Sa
