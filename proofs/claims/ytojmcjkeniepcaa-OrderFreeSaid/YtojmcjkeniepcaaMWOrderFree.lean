/-
  OrderFree: the walk: where each block reads none but lower ones, none is broken.
-/
import Derived.Test.YtojmcjkeniepcaaMGOree21
import Derived.Test.YtojmcjkeniepcaaMOrS
namespace Go.Proofs.Ytojmcjkeniepcaa.OrderFree
open Go.ChangeShapes Go.WideShapes Go.ChangeAt Go.RowKit Go.Proofs.Ytojmcjkeniepcaa.Kit Go.Proofs.Ytojmcjkeniepcaa.Gr Go.Proofs.Ytojmcjkeniepcaa.Ord Go.Proofs.Ytojmcjkeniepcaa.Ordr

set_option maxRecDepth 100000 in
set_option maxHeartbeats 25600000 in
theorem walk (A : Option Addr) (rs : List Ri) (c : Nat) (w : World) (hl : rs.length ≤ c) (hm : c ≤ maxLen) (hr : HoldsI w w.heap.size A rs) :
    Calls Try.prog 8 #[.slice A rs.length c] w fun e w' => e = .returned (.bool true) ∧ Below w.heap.size w w' := by
  have GG := Lib.hid (great_any A rs c w hl hm hr)
  have GA := Lib.hid Ord.awake_any
  cases hg : greatI rs with
  | true =>
    rw [hg] at GG
    clear hr hg
    go_enter Try.func8, Try.ntmps8
    go_wp2_with (first
      | (go_at_call 20; refine GG.out.mono ?_; rintro e w1 ⟨rfl, rfl⟩)
      | (go_at_call 22; refine (GA.out _).mono ?_; rintro e w5 ⟨rfl, hb5⟩))
    go_ret
    exact ⟨rfl, hb5⟩
  | false =>
    rw [hg] at GG
    obtain ⟨hf1, hf2⟩ := greatI_no hg
    have HF2 := Lib.hid (fun i (h : i < rs.length) => hf2 _ (List.getElem_mem h))
    have HRD := Lib.hid (fun i (h : i < rs.length) => rowsL_getD h)
    have HR := Lib.hid (fun W (hb : Below w.heap.size w W) => hr.below hb)
    obtain ⟨n, hnn⟩ : ∃ n, rs.length = n := ⟨_, rfl⟩
    have HN := Lib.hid hnn
    generalize rowsL rs = L at HRD
    rw [hnn] at GG hf1 ⊢
    have O0 := Lib.hid (OwnV.empty w 25 (B := w.heap.size) (Nat.le_refl _))
    have B0 : Hid (Below w.heap.size w (w.alloc (.cells #[] 25))) := Lib.hid ((Below.refl _ _).alloc (Nat.le_refl _) _)
    clear hr hg hf2 hl hnn
    go_enter Try.func8, Try.ntmps8
    go_wp2_with (go_at_call 20; refine GG.out.mono ?_; rintro e w1 ⟨rfl, rfl⟩)
    go_loopw [3, 4] (fun v i wr => ∃ (k : Nat) (qs : List Ri), k ≤ n ∧ i = .int .i64 k ∧ rowsL qs = lowTo L k ∧ OwnV wr w.heap.size 25 v (qs.map Ri.val) ∧ (∀ q ∈ qs, RiOwn wr 0 q) ∧ Below w.heap.size w wr) (fun _ i _ => n - (intOf i).toNat)
    case atStart => exact ⟨0, [], Nat.zero_le _, rfl, rfl, O0.out, fun q hq => absurd hq (by simp), B0.out⟩
    case round =>
      clear O0 B0 GG
      obtain ⟨k, qs, hk, rfl, hqs, O, hq, B⟩ := hrel
      obtain ⟨wo, rfl⟩ : ∃ wo : World, wo = wr := ⟨_, rfl⟩
      have hql : qs.length = k := by have := congrArg List.length hqs; rw [lowTo_length] at this; simpa [rowsL] using this
      have HQL := Lib.hid hql
      have HQS := Lib.hid hqs
      have HO := Lib.hid O
      have HQ := Lib.hid hq
      have HB := Lib.hid B
      clear hql hqs O hq B
      by_cases hlt : k < n
      · have d0 : decide (k < n) = true := decide_eq_true hlt
        have hkr : k < rs.length := by rw [HN.out]; exact hlt
        have R0 := Lib.hid (Own.empty (w := wo) 3 .i64 (B := wo.heap.size) (Nat.le_refl _))
        have B1 : Hid (Below wo.heap.size wo (wo.alloc (.cells #[] 3))) := Lib.hid ((Below.refl _ _).alloc (Nat.le_refl _) _)
        have HLK := Lib.hid (HRD.out k hkr)
        have hz60 := HF2.out k hkr
        obtain ⟨b, off, eA, -, hcell, -, -, -, hh⟩ := riAt (HR.out _ HB.out) hkr
        subst eA
        have HC := Lib.hid (fun W (hb : Below wo.heap.size wo W) => (riAt (HR.out _ (HB.out.trans (hb.mono HB.out.size))) hkr))
        generalize rs[k] = q at *
        obtain ⟨Aq, cq, zs⟩ := q
        simp only at hz60 HLK HC hcell hh
        clear hcell hh
        go_wp2_with fail
        go_loopw [5, 6] (fun v i wi => ∃ m : Nat, m ≤ zs.length ∧ i = .int .i64 m ∧ Own wi wo.heap.size 3 .i64 v (kept k (zs.take m)) ∧ Below wo.heap.size wo wi) (fun _ i _ => zs.length - (intOf i).toNat)
        case atStart => exact ⟨0, Nat.zero_le _, rfl, R0.out, B1.out⟩
        case round =>
          obtain ⟨m, hm, rfl, R, Bi⟩ := hrel
          clear R0 B1
          obtain ⟨wi, rfl⟩ : ∃ wi : World, wi = wr := ⟨_, rfl⟩
          obtain ⟨b2, off2, eA, -, hcell, -, -, -, hh⟩ := HC.out _ Bi
          injection eA with eA
          injection eA with eA1 eA2
          subst eA1; subst eA2
          have HRW := Lib.hid R
          have HBI := Lib.hid Bi
          by_cases hltm : m < zs.length
          · have d1 : decide ((m : Int) < (zs.length : Int)) = true := decide_eq_true (by omega)
            have d2 : decide (m < zs.length) = true := decide_eq_true hltm
            obtain ⟨b3, off3, rfl, -, hc3⟩ := hh (by omega)
            have hx := hc3 m hltm
            have HK := Lib.hid (kept_next k zs hltm)
            generalize zs.getD m 0 = x at *
            have hTl : (kept k (zs.take m)).length ≤ 60 := by have := (kept_ok k (zs.take m)).2; rw [List.length_take] at this; omega
            generalize kept k (zs.take m) = T at *
            obtain ⟨AT, cT, rfl, -, -, -⟩ := R.opened
            have hBz := Bi.size
            clear hc3 hh Bi
            by_cases h0 : 0 ≤ x
            case neg =>
              have e1 : decide (0 ≤ x) = false := decide_eq_false h0
              have HSK : Hid (kept k (zs.take (m + 1)) = T) := Lib.hid (by rw [HK.out]; unfold keepStep; rw [if_neg (fun h => h0 h.1)])
              clear h0
              go_wp2_with fail
              go_roundw
              case rel => exact ⟨m + 1, hltm, by go_num, by rw [HSK.out]; exact HRW.out, HBI.out⟩
              case measure => simp [intOf] <;> omega
            case pos =>
            have e1 : decide (0 ≤ x) = true := decide_eq_true h0
            by_cases h1 : x < k
            case neg =>
              have e2 : decide (x < (k : Int)) = false := decide_eq_false h1
              have HSK : Hid (kept k (zs.take (m + 1)) = T) := Lib.hid (by rw [HK.out]; unfold keepStep; rw [if_neg (fun h => h1 h.2.1)])
              clear h0 h1
              go_wp2_with fail
              go_roundw
              case rel => exact ⟨m + 1, hltm, by go_num, by rw [HSK.out]; exact HRW.out, HBI.out⟩
              case measure => simp [intOf] <;> omega
            case pos =>
            have e2 : decide (x < (k : Int)) = true := decide_eq_true h1
            by_cases h2 : T = []
            case pos =>
              have HSK : Hid (kept k (zs.take (m + 1)) = T ++ [x]) := Lib.hid (by rw [HK.out]; unfold keepStep; rw [if_pos ⟨h0, h1, .inl h2⟩])
              subst h2
              simp only [List.length_nil] at *
              clear h0 h1
              go_wp2_with (at_builtin; refine wpList_append_one _ rfl _ _ _ rfl elemI HRW.out rfl rfl (by simp) hBz ?_; intro v' w1 h1 h2 h3; have HA1 := Lib.hid h1; have HA3 := Lib.hid (HBI.out.trans h3); clear h1 h2 h3)
              go_roundw
              case rel => exact ⟨m + 1, hltm, by go_num, by rw [HSK.out]; exact HA1.out, HA3.out⟩
              case measure => simp [intOf] <;> omega
            case neg =>
            obtain ⟨j, hj⟩ : ∃ j, T.length = j + 1 := ⟨T.length - 1, by have : T.length ≠ 0 := fun h => h2 (List.eq_nil_of_length_eq_zero h); omega⟩
            obtain ⟨g, c2, eA, q2, q3, q4, q5, -⟩ := own_at R (by omega)
            have HSZ : Hid (T.length + 1 ≤ 1099511627776) := Lib.hid (by omega)
            injection eA with eA _ eC
            subst eA; subst eC
            have hy := q5 j (by omega)
            have HST : Hid (kept k (zs.take (m + 1)) = if T.getD j 0 < x then T ++ [x] else T) := Lib.hid (by
              rw [HK.out]; unfold keepStep; rw [hj, Nat.add_sub_cancel]
              by_cases h3 : T.getD j 0 < x
              · rw [if_pos ⟨h0, h1, .inr h3⟩, if_pos h3]
              · rw [if_neg (fun h => h.2.2.elim h2 h3), if_neg h3])
            have HRX : Hid (Own wi wo.heap.size 3 .i64 (.slice (some ⟨g, 0, none⟩) (j + 1) cT) T) := Lib.hid (by have := HRW.out; rw [hj] at this; exact this)
            generalize T.getD j 0 = y at *
            have e3 : (((j + 1 : Nat) : Int) == 0) = false := by rw [beq_eq_false_iff_ne]; omega
            have e4 : ((j : Int) + 1 == 0) = false := by rw [beq_eq_false_iff_ne]; omega
            have hj60 : j ≤ 60 := by omega
            rw [hj]
            clear R q5 hj h0 h1 h2
            by_cases h3 : y < x
            · have e5 : decide (y < x) = true := decide_eq_true h3
              rw [if_pos h3] at HST
              clear h3
              go_wp2_with (at_builtin; refine wpList_append_one _ rfl _ _ _ rfl elemI HRX.out rfl rfl HSZ.out hBz ?_; intro v' w1 h1 h2 h3; have HA1 := Lib.hid h1; have HA3 := Lib.hid (HBI.out.trans h3); clear h1 h2 h3)
              go_roundw
              case rel => exact ⟨m + 1, hltm, by go_num, by rw [HST.out]; exact HA1.out, HA3.out⟩
              case measure => simp [intOf] <;> omega
            · have e5 : decide (y < x) = false := decide_eq_false h3
              rw [if_neg h3] at HST
              clear h3
              go_wp2_with fail
              go_roundw
              case rel => exact ⟨m + 1, hltm, by go_num, by rw [HST.out]; exact HRX.out, HBI.out⟩
              case measure => simp [intOf] <;> omega
          · have d1 : decide ((m : Int) < (zs.length : Int)) = false := decide_eq_false (by omega)
            have d2 : decide (m < zs.length) = false := decide_eq_false hltm
            obtain rfl : m = zs.length := by omega
            have O2 := HO.out.below Bi
            have HQ2 : Hid (∀ q ∈ qs, RiOwn wi 0 q) := Lib.hid (fun q hqq => (HQ.out q hqq).below Bi)
            have Bw := HB.out.trans (Bi.mono HB.out.size)
            have hzw := Bw.size
            have HBW := Lib.hid Bw
            have HO2 := Lib.hid O2
            have HN2 : Hid (lowTo L (k + 1) = lowTo L k ++ [kept k (zs.take zs.length)]) := Lib.hid (by rw [lowTo_next, HLK.out, List.take_length])
            have HT : Hid (In64 (kept k (zs.take zs.length))) := Lib.hid (fun z hz => by have := (kept_ok k (zs.take zs.length)).1.1 z hz; omega)
            generalize kept k (zs.take zs.length) = T at *
            obtain ⟨Ar, cr, rfl, -, -, -⟩ := R.opened
            have hq6 : (qs.map Ri.val).length + 1 ≤ 1099511627776 := by rw [List.length_map, HQL.out]; omega
            clear hh Bi O2 Bw R
            go_wp2_with (at_builtin; refine wpList_append_val rfl _ _ 35 rfl elemR HO2.out rfl (u := .slice Ar T.length cr) rfl rfl hq6 hzw ?_; intro v4 w4 O4 g4 hb4; have HO4 := Lib.hid O4; have HG4 := Lib.hid g4; have HB4 := Lib.hid hb4; clear O4 g4 hb4)
            go_roundw
            case rel => exact ⟨k + 1, qs ++ [⟨Ar, cr, T⟩], by omega, by go_num, by rw [rowsL_snoc, HN2.out, HQS.out], by rw [List.map_append]; exact HO4.out, (by
              intro q hqq
              rcases List.mem_append.1 hqq with hqq | hqq
              · exact (((HQ2.out q hqq).below (below_last _ _)).grown (HO2.out.alloc _) (by decide) HG4.out)
              · obtain rfl : q = ⟨Ar, cr, T⟩ := by simpa using hqq
                exact RiOwn.grown (RiOwn.below ⟨HRW.out.mono (Nat.zero_le _), HT.out⟩ (below_last _ _)) (HO2.out.alloc _) (by decide) HG4.out), HBW.out.trans HB4.out⟩
            case measure => simp [intOf] <;> omega
      · have d0 : decide (k < n) = false := decide_eq_false hlt
        obtain rfl : k = n := by omega
        obtain ⟨Ar, cr, rfl, h1, h2⟩ := HO.out.opened
        have hh := HO.out.ints HQ.out
        rw [List.length_map] at h1
        have GO := of_any Ar qs cr wo hh
        unfold OfR at GO
        rw [HQS.out] at GO
        simp only [if_pos (low_right L (k := k) (by omega)).1] at GO
        obtain ⟨l1, l2, l3⟩ := low_answers L (k := k) (by omega)
        have hfew : Few qs := fun q hqq => by
          obtain ⟨i, hi, rfl⟩ := List.getElem_of_mem hqq
          have hik : i < k := by rw [HQL.out] at hi; exact hi
          have e := rowsL_getD hi
          rw [HQS.out, lowTo_getD hik, HRD.out i (by rw [HN.out]; exact hik)] at e
          rw [← e]
          have := (kept_ok i (rs[i]'(by rw [HN.out]; exact hik)).zs).2
          have := HF2.out i (by rw [HN.out]; exact hik)
          omega
        have GR := Lib.hid (fun W (hb : Below wo.heap.size wo W) (Ao : Option Addr) (co : Nat) (ho : Holds W W.heap.size .i64 Ao (ofL (lowTo L k)).1) =>
          rright_any Ar qs cr Ao _ co none [] 0 W hfew (by rw [HQL.out]; omega) (by rw [l2]; omega) (by simp) ((hh.below hb).more hb.size) ho Holds.nil)
        rw [HQS.out, l3] at GR
        rw [l1] at GO
        have GOH := Lib.hid GO
        have HL2 := Lib.hid l2
        rw [List.length_map, HQL.out]
        rw [HQL.out] at GOH GR
        clear GO hh l1 l2 l3 hfew h1 h2
        generalize (ofL (lowTo L k)).1 = o at *
        have e9 : ((o.length : Int) == (k : Int)) = true := by rw [HL2.out]; simp
        simp only [List.length_nil] at GOH GR
        go_wp2_with (first
          | (go_at_call 23; refine GOH.out.mono ?_; rintro e w2 ⟨Ao, co, Ab, cb, rfl, ho, hb, hb2⟩; have HB2 := Lib.hid (HB.out.trans (hb2.mono HB.out.size)); have GR2 := Lib.hid (GR.out _ hb2 Ao co ho); clear ho hb hb2)
          | (go_at_call 26; have _t := GR2; clear _t; refine GR2.out.mono ?_; rintro e w3 ⟨rfl, hb3⟩; have HB3 := Lib.hid (HB2.out.trans (hb3.mono HB2.out.size)); clear hb3)
          | (go_at_call 22; refine (GA.out _).mono ?_; rintro e w5 ⟨rfl, hb5⟩))
        go_ret
        exact ⟨rfl, HB3.out.trans (hb5.mono HB3.out.size)⟩
end Go.Proofs.Ytojmcjkeniepcaa.OrderFree
