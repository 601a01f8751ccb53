/-
  Layer 20, safe: Fold: the program's. Conditions: as each theorem names.
-/
import Derived.Test.YtheofegmbajmkaaSaJ
namespace Go.Proofs.Ytheofegmbajmkaa.Sa
open Go.ChangeShapes Go.WideShapes Go.ChangeAt Go.RowKit Go.Proofs.Ytheofegmbajmkaa.Kit Go.Proofs.Ytheofegmbajmkaa.Ordr Go.Proofs.Ytheofegmbajmkaa.Blk Go.Proofs.Ytheofegmbajmkaa.Pl

/-- copy into a block's middle. -/
theorem wpList_copy_mid {P : Program} {w : World} {ops : Array Oper} {rest : List Oper} {o : Oper} {a : Act} {Q : Exit → Act → World → Prop} (hgd : o.guard = none) (d s : Operand) (t : TypeId)
    (ho : o.op = .call { callee := .builtin .copy, args := #[d, s], argTypes := #[t, t] }) {e : TypeId} {k : IntKind} {bytes : Nat} (he : IntElem P t e k bytes)
    {g off dLen dCap : Nat} (hd : a.eval d = .slice (some ⟨g, off, none⟩) dLen dCap) {B : Nat} {A : Option Addr} {ys : List Int} {c : Nat} (hs : a.eval s = .slice A ys.length c) (hr : Holds w B k A ys)
    {tg : TypeId} {cur : List Value} (hg : Block w g tg cur.toArray) (hfit : off + dLen ≤ cur.length)
    (h : ∀ w', Block w' g tg (cur.take off ++ ((ys.take dLen).map (Value.int k) ++ cur.drop (off + (ys.take dLen).length))).toArray → w.grownBy w' (some g) → wpList P ops Q rest (a.put o.dst (goInt (ys.take dLen).length)) w') :
    wpList P ops Q (o :: rest) a w := by
  obtain ⟨ht, hinfo, hb8⟩ := he
  obtain ⟨i, hi, hz, hsi, hby⟩ := info_parts hinfo
  have hsz : (P.info? e).map (·.size) = some 1 := by rw [hi]; simp [hsi]
  have hmin : (ys.take dLen).length = Nat.min ys.length dLen := by rw [List.length_take]; exact Nat.min_comm _ _
  rcases Nat.eq_zero_or_pos (Nat.min ys.length dLen) with h0 | h0
  · have e0 : ys.take dLen = [] := List.eq_nil_of_length_eq_zero (by omega)
    refine wpList_copy_nothing hgd d s t t ho e ht hsz _ _ _ _ _ _ hd hs h0 ?_
    have := h w (by rw [e0]; simpa using hg) (World.grownBy.refl w _)
    rw [e0] at this
    exact this
  · have hyl : 0 < ys.length := by rw [← hmin, List.length_take] at h0; omega
    obtain ⟨b, o2, rfl, hb, hc⟩ := hr hyl
    refine wpList_copy_own hgd d s t t ho e ht hsz g off dLen dCap ⟨b, o2, none⟩ ys.length c hd hs cur.toArray tg hg ((ys.take dLen).map (Value.int k)) (by rw [List.length_map, hmin]) ?_ (by simp; omega) (ints_one k _) ?_
    · intro j u hu
      obtain ⟨hj, rfl⟩ := get_ints hu
      rw [List.length_take] at hj
      rw [add_plain, hc j (by omega)]
      simp [List.getD, show j < dLen by omega]
    · have hh := h (w.setRow g (cur.take off ++ ((ys.take dLen).map (Value.int k) ++ cur.drop (off + (ys.take dLen).length))).toArray) (setRow_heap w g _ _ tg _ hg)
        ⟨rfl, rfl, rfl, by simp [World.setRow], fun j _ hj => setRow_other w g j _ (fun e => hj (by rw [e]))⟩
      simpa using hh
/-- The same, said of an array of bytes: ys fits behind place off. -/
theorem arr_put {w : World} {g n m : Nat} {t : TypeId} {L ys : List Int} (hn : ys.length ≤ n) (h : Block w g t ((L.map (Value.int .u8)).take m ++ ((ys.take n).map (Value.int .u8) ++ (L.map (Value.int .u8)).drop (m + (ys.take n).length))).toArray) : Arr w g t .u8 (putAt L m ys) := by
  rw [List.take_of_length_le hn] at h
  unfold Arr putAt
  simpa [List.map_append, List.map_take, List.map_drop] using h

set_option maxRecDepth 100000 in
set_option maxHeartbeats 6400000 in
theorem sfold_any (Ab : Option Addr) (b : List Int) (cb : Nat) (P : Option Addr) (ps : List Plan) (pc : Nat) (A : Option Addr) (xs : List Int) (c : Nat) (bl new : Int) (w : World) (hbl : b.length ≤ 5000) (hbc : b.length ≤ cb) (hcb : cb ≤ maxLen) (hbo : Octets b) (hrb : Holds w w.heap.size .u8 Ab b)
    (hp : ps.length ≤ 40) (hps : ∀ p ∈ ps, p.ss.length ≤ 60) (hl : xs.length ≤ 60) (hnew : -9223372036854775808 ≤ new ∧ new ≤ 5000) (hpo : ∀ p ∈ ps, ∀ s ∈ p.ss, Octets s.zs)
    (hrp : HoldsP w w.heap.size P ps) (hr : Holds w w.heap.size .i64 A xs) :
    Calls Try.prog 10 #[.slice Ab b.length cb, .slice P ps.length pc, .slice A xs.length c, .int .i64 bl, .int .i64 new] w (GivesE (foldE b ps xs bl new).1 (foldE b ps xs bl new).2 w) := by
  obtain ⟨⟨R, er⟩, hD⟩ : ∃ D, foldE b ps xs bl new = D := ⟨_, rfl⟩
  have HD := Lib.hid hD
  rw [hD]
  simp only
  clear hD
  unfold foldE at HD
  have GA := asked_any P ps.length pc A xs c bl b.length new w hp hl (by omega) hr
  by_cases h0 : aheadE ps.length xs bl b.length new = 0
  · obtain ⟨hA, hO⟩ := ahead_zero h0
    have HIN := Lib.hid (fun (i : Int) (hi : i ∈ xs) => size_in h0 hi)
    rw [h0] at GA
    rw [if_pos h0] at HD
    have GAH := Lib.hid GA
    have HX := Lib.hid hO.2.1
    have hA2 := hA
    unfold ArgOk at hA2
    obtain ⟨N, hN⟩ : ∃ N : Nat, new = (N : Int) := ⟨new.toNat, by omega⟩
    subst hN
    rw [Int.toNat_natCast] at HD
    obtain ⟨M, hM⟩ : ∃ M, max b.length N = M := ⟨_, rfl⟩
    rw [hM] at HD
    have HST := Lib.hid (fun (L : List Int) (k : Nat) (h : k < xs.length) => goF_step ps b.length bl N L xs h)
    have HEN := Lib.hid (fun L => goF_end ps b.length bl N L xs)
    have HPB := Lib.hid (fun W (h : Below w.heap.size w W) => (hrp.below h).more h.size)
    have HPA := Lib.hid (fun (k : Nat) (h : k < ps.length) => planS_at h)
    have HPS := Lib.hid (fun (k : Nat) (h : k < ps.length) => hps ps[k] (List.getElem_mem h))
    have HPO := Lib.hid (fun (k : Nat) (h : k < ps.length) => hpo ps[k] (List.getElem_mem h))
    have HBO := Lib.hid hbo
    have hmk : ∀ W, (Instr.makeSlice 30 (.int .i64 (M : Int)) (.int .i64 (M : Int))).run Try.prog W = .ok (.slice (some ⟨W.heap.size, 0, none⟩) M M) (W.alloc (.cells (madeCells #[.int .u8 0] M) 5)) := fun W =>
      run_make_row' (P := Try.prog) 30 5 (.int .u8 0) 1 Try.underlying30 (by kernel_rfl) rfl .i64 .i64 M (by omega) (by omega) W
    have hNM : N ≤ M ∧ b.length ≤ M ∧ M ≤ 5000 := by omega
    have HMK : Hid (∀ W : World, Arr (W.alloc (.cells (madeCells #[.int .u8 0] M) 5)) W.heap.size 5 .u8 (List.replicate M 0)) := Lib.hid fun W => by
      have hc : madeCells #[Value.int .u8 0] M = ((List.replicate M (0 : Int)).map (Value.int .u8)).toArray := by
        apply Array.toList_inj.1
        rw [toList_madeCells_one]
        simp
      rw [hc]
      exact Arr.new W _ _ _
    clear h0 hA hO GA hrp hps hpo hbo
    go_enter Try.func10, Try.ntmps10
    go_upto_region 4 with (go_at_call 15; refine GAH.out.mono ?_; rintro e w1 ⟨rfl, hb1⟩)
    have hge := hb1.size
    go_cut [13] (fun v wx => v = .slice (some ⟨w1.heap.size, 0, none⟩) M M ∧ Arr wx w1.heap.size 5 .u8 (List.replicate M 0) ∧ Below w.heap.size w wx)
    case first =>
      have A1 := HMK.out w1
      have B1 := hb1.alloc hb1.size (.cells (madeCells #[.int .u8 0] M) 5)
      by_cases hmx : b.length < N
      · obtain rfl : M = N := by omega
        go_wp2_with fail
        go_meet
        exact ⟨rfl, A1, B1⟩
      · obtain rfl : M = b.length := by omega
        go_wp2_with fail
        go_meet
        exact ⟨rfl, A1, B1⟩
    case rest =>
    obtain ⟨rfl, A2, B2⟩ := hcut
    rename_i w2
    have HA2 := Lib.hid A2
    clear A2
    go_wp2_with (refine wpList_copy_mid rfl (.tmp 33) (.tmp 34) 30 rfl elem8 rfl rfl (hrb.below B2) HA2.out (by simp) ?_; intro w3 b3 g3)
    have A3 : Arr w3 w1.heap.size 5 .u8 (pad b M) := by
      have h1 := arr_put (m := 0) (n := M) (L := List.replicate M 0) hNM.2.1 b3
      unfold putAt at h1
      unfold pad
      rwa [List.take_zero, List.nil_append, List.drop_replicate, Nat.zero_add] at h1
    have B3 := B2.grown g3 B2.size (fun g hg => by cases hg; exact hge)
    clear b3 g3 HA2 B2 hrb
    go_loopw [38] (fun s wr => ∃ (k : Nat) (L : List Int), k ≤ xs.length ∧ s = .int .i64 k ∧ goF ps b.length bl N L (xs.drop k) = (R, er) ∧ L.length = M ∧ Octets L ∧ Arr wr w1.heap.size 5 .u8 L ∧ Below w.heap.size w wr) (fun s _ => xs.length - (intOf s).toNat)
    case atStart => exact ⟨0, pad b M, Nat.zero_le _, rfl, HD.out, by rw [pad_length]; omega, pad_oct HBO.out M, A3, B3⟩
    case round =>
      obtain ⟨k, L, hk, rfl, hg, hLM, hLo, hAr, hb⟩ := hrel
      have HG := Lib.hid hg
      clear hg A3 B3
      by_cases hlt : k < xs.length
      · obtain ⟨b0, off, rfl, hbo, hcs⟩ := (hr.below hb) (by omega)
        have hck := hcs k hlt
        have HSK := Lib.hid (HST.out L k hlt)
        have hmem := getD_mem hlt
        have hrg := HX.out (xs.getD k 0) hmem
        have hin := HIN.out (xs.getD k 0) hmem
        have d1 : decide ((k : Int) < (xs.length : Int)) = true := decide_eq_true (by omega)
        have d2 : decide (k < xs.length) = true := decide_eq_true hlt
        clear hcs hmem
        obtain ⟨z, hz⟩ : ∃ z, xs.getD k 0 = z := ⟨_, rfl⟩
        rw [hz] at hck hrg HSK hin
        clear hz
        obtain ⟨j, rfl⟩ : ∃ j : Nat, z = (j : Int) := ⟨z.toNat, by omega⟩
        obtain ⟨p, hjp⟩ : ∃ p : Nat, (j : Int) * bl = (p : Int) := ⟨((j : Int) * bl).toNat, by omega⟩
        have hjn : j < ps.length := by omega
        have hp9 := HPA.out j hjn
        have hlen := HPS.out j hjn
        have hsb := hb.size
        have BD : Below w.heap.size w wr.drew := ⟨hb.os, hb.tape, hb.output, hb.size, hb.block⟩
        obtain ⟨bp, offp, hPe, hbp, hcp, hq1, hq2, hq3⟩ := planAt (HPB.out _ hb) hjn
        subst hPe
        have GZ := Lib.hid (fun W => size_any (j : Int) bl N W (by omega) (by omega) (by omega))
        rw [hp9, hjp, Int.toNat_natCast] at HSK
        rw [hjp] at hin
        have hs9 : HoldsS wr.drew ps[j].A ps[j].ss := hq3
        have hoc := HPO.out j hjn
        generalize sizeE (j : Int) bl N = want at *
        generalize ps[j] = p9 at *
        have hlb : (L.take b.length).length = b.length := by rw [List.length_take]; omega
        have hSrc : Src wr.drew (.iface 50 (.slice (some ⟨w1.heap.size, 0, none⟩) b.length M)) (some (L.take b.length)) := by
          refine ⟨some ⟨w1.heap.size, 0, none⟩, M, by rw [hlb], by omega, by omega, by unfold maxLen; omega, fun x hx => hLo x (List.mem_of_mem_take hx), ?_⟩
          have := (show Arr wr.drew w1.heap.size 5 .u8 L from hAr).holds 0 b.length
          rwa [List.drop_zero] at this
        have GE := eval_any p9.A p9.ss p9.cap _ _ want wr.drew (by omega) hq1 hq2 hs9 hSrc
        have hok := evalE_ok (old := L.take b.length) (ss := p9.ss) (want := want) hoc
        have hno := evalE_no (old := L.take b.length) (ss := p9.ss) (want := want)
        obtain ⟨A9, c9, ss9⟩ := p9
        simp only at hcp HSK GE hq1 hq2 hok hno
        obtain ⟨⟨ys, e9⟩, hE⟩ : ∃ E, evalE (some (L.take b.length)) ss9 want = E := ⟨_, rfl⟩
        rw [hE] at GE HSK hok hno
        simp only at GE HSK hok hno
        have GEH := Lib.hid GE
        have hAlt : w1.heap.size < wr.drew.heap.size := hAr.lt
        have HAD : Hid (Arr wr.drew w1.heap.size 5 .u8 L) := Lib.hid hAr
        have hbM : b.length ≤ M := hNM.2.1
        clear hE GE hq3 hs9 hp9 hlen hoc hSrc hlb hAr
        by_cases he0 : e9 = 0
        · subst he0
          rw [if_pos rfl] at HSK
          obtain ⟨hyl, hyo⟩ := hok rfl
          have HGN := Lib.hid (HSK.out.symm.trans HG.out)
          have hpM : p ≤ M := by omega
          have hpM2 : ¬ M = p := by omega
          have hyM : ys.length ≤ M - p := by omega
          have HLN : Hid ((putAt L p ys).length = M) := Lib.hid (by rw [putAt_length (by omega)]; exact hLM)
          have HLO : Hid (Octets (putAt L p ys)) := Lib.hid (putAt_oct p hLo hyo)
          clear hok hno hyo hLo
          go_wp2_with fail
          go_region_law (first
            | (go_simp; go_at_call 17; refine (GZ.out _).mono ?_; rintro e w2 ⟨rfl, rfl⟩)
            | (go_simp; go_at_call 21; refine GEH.out.mono ?_; rintro e w4 ⟨A4, c4, rfl, hh4, hc4, hm4, hb4⟩; have B4 := BD.trans (hb4.mono (show w.heap.size ≤ wr.drew.heap.size from hsb)); have A5 := HAD.out.below hb4 hAlt))
          all_goals
            have HA5 := Lib.hid A5
            clear A5
            go_wp2_with (refine wpList_copy_mid rfl (.tmp 66) (.tmp 67) 30 rfl elem8 rfl rfl hh4 HA5.out (by simp; omega) ?_; intro w6 b6 g6)
            have A6 := arr_put hyM b6
            have B6 := B4.grown g6 B4.size (fun g hg => by cases hg; exact hge)
            clear b6 g6 HA5
            go_roundw
            case rel => exact ⟨k + 1, putAt L p ys, hlt, by go_num, HGN.out, HLN.out, HLO.out, A6, B6⟩
            case measure => simp [intOf] <;> omega
        · rw [if_neg he0] at HSK
          have hR := HSK.out.symm.trans HG.out
          injection hR with hR1 hR2
          subst hR1 hR2
          have hy0 := hno he0
          subst hy0
          have e1 : (e9 != 0) = true := by rw [bne_iff_ne]; exact he0
          have e2 : (e9 == 0) = false := by rw [beq_eq_false_iff_ne]; exact he0
          clear hok hno hLo
          go_wp2_with fail
          go_region_law (first
            | (go_simp; go_at_call 17; refine (GZ.out _).mono ?_; rintro e w2 ⟨rfl, rfl⟩)
            | (go_simp; go_at_call 21; refine GEH.out.mono ?_; rintro e w4 ⟨A4, c4, rfl, hh4, hc4, hm4, hb4⟩; have B4 := BD.trans (hb4.mono (show w.heap.size ≤ wr.drew.heap.size from hsb))))
          all_goals
            go_wp2_with fail
            go_ret2
            exact ⟨none, 0, rfl, Holds.nil, Nat.le_refl _, Nat.zero_le _, B4⟩
      · obtain rfl : k = xs.length := by omega
        have d1 : decide ((xs.length : Int) < (xs.length : Int)) = false := decide_eq_false (by omega)
        have d2 : decide (xs.length < xs.length) = false := decide_eq_false (by omega)
        have hR := (HEN.out L).symm.trans HG.out
        rw [Int.toNat_natCast] at hR
        injection hR with hR1 hR2
        subst hR1 hR2
        have hhN := hAr.holds 0 N
        rw [List.drop_zero] at hhN
        have HLT : Hid ((L.take N).length = N) := Lib.hid (by rw [List.length_take]; omega)
        have hN2 : N ≤ M := hNM.1
        have hM2 : M ≤ maxLen := by unfold maxLen; omega
        clear hAr hLo
        go_wp2_with fail
        go_ret2
        exact ⟨some ⟨w1.heap.size, 0, none⟩, M, by rw [HLT.out]; rfl, hhN, by rw [HLT.out]; exact hN2, hM2, hb⟩
  · rw [if_neg h0] at HD
    have hR := HD.out
    obtain ⟨E, hE⟩ : ∃ E, aheadE ps.length xs bl b.length new = E := ⟨_, rfl⟩
    rw [hE] at GA h0 hR
    injection hR with hR1 hR2
    subst hR1 hR2
    have GAH := Lib.hid GA
    have e1 : (E != 0) = true := by rw [bne_iff_ne]; exact h0
    have e2 : (E == 0) = false := by rw [beq_eq_false_iff_ne]; exact h0
    clear hE hrp hr hrb HD GA
    go_enter Try.func10, Try.ntmps10
    go_wp2_with (go_at_call 15; refine GAH.out.mono ?_; rintro e w1 ⟨rfl, hb1⟩)
    go_ret2
    exact ⟨none, 0, rfl, Holds.nil, Nat.le_refl _, Nat.zero_le _, hb1⟩
end Go.Proofs.Ytheofegmbajmkaa.Sa
