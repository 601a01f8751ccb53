/-
  Layer 20, safe: the error of a plan: the document's. Conditions: as each theorem names.
-/
import Derived.Test.YtheofegmbajmkaaSaE
import Derived.Deep.RegionLaw
namespace Go.Proofs.Ytheofegmbajmkaa.Sa
open Go.ChangeShapes Go.WideShapes Go.ChangeAt Go.RowKit Go.Proofs.Ytheofegmbajmkaa.Kit Go.Proofs.Ytheofegmbajmkaa.Ordr Go.Proofs.Ytheofegmbajmkaa.Blk Go.Proofs.Ytheofegmbajmkaa.Pl

theorem getD_mem {xs : List Int} {j : Nat} (h : j < xs.length) : xs.getD j 0 ∈ xs := by
  rw [show xs.getD j 0 = xs[j] by simp [List.getD, List.getElem?_eq_getElem h]]
  exact List.getElem_mem h
theorem anyI_next {p : Int → Bool} {xs : List Int} {j : Nat} (h : j < xs.length) : (xs.take (j + 1)).any p = ((xs.take j).any p || p (xs.getD j 0)) := by
  rw [Sa.take_next xs j h, List.any_append]; simp

set_option maxRecDepth 100000 in
set_option maxHeartbeats 6400000 in
theorem one_any (bl old : Int) (Aw : Option Addr) (l : List Int) (cw : Nat) (A : Option Addr) (ss : List Stp) (c : Nat) (want : Int) (w : World) (hlen : ss.length ≤ 60) (hc : ss.length ≤ c) (hm : c ≤ maxLen) (hr : HoldsS w A ss) (hrw : Holds w w.heap.size .i64 Aw l) (hll : l.length ≤ 60) (hbl : 128 ≤ bl ∧ bl ≤ 4096) (hl : ∀ i ∈ l, 0 ≤ i ∧ i ≤ 4000) :
    Calls Try.prog 19 #[.slice A ss.length c, .slice Aw l.length cw, .int .i64 bl, .int .i64 old, .int .i64 want] w (Gives (.int .i64 (oneE ss l bl old want)) w) := by
  obtain ⟨D, hD⟩ : ∃ D, oneE ss l bl old want = D := ⟨_, rfl⟩
  have HD := Lib.hid hD
  rw [hD]
  clear hD
  unfold oneE at HD
  have HN := Lib.hid (fun (i : Nat) (h : i < ss.length) => sumX_next h)
  have HT := Lib.hid (fun (i : Nat) (h : i < ss.length) => Pl.take_next h)
  have HE : Hid (ss.take ss.length = ss) := Lib.hid List.take_length
  have HR : Hid (∀ W, Below w.heap.size w W → HoldsE (StpIn .u8 .i64 .i64 W w.heap.size) 4 W w.heap.size A ss) := Lib.hid fun W h => steps_below hr h
  have HRW : Hid (∀ W, Below w.heap.size w W → Holds W w.heap.size .i64 Aw l) := Lib.hid fun W h => hrw.below h
  have HL := Lib.hid hl
  have HBL := Lib.hid hbl
  have HH := Lib.hid hc
  have HM := Lib.hid hm
  unfold maxLen at hm
  clear hl hbl hr hrw
  go_enter Try.func19, Try.ntmps19
  go_wp2_with fail
  go_loopw [11, 18] (fun v s wr => ∃ i : Nat, i ≤ ss.length ∧ s = .int .i64 i ∧ v = .int .i64 (sumX (ss.take i)) ∧ (ss.take i).all rightS = true ∧ Below w.heap.size w wr) (fun _ s _ => ss.length - (intOf s).toNat)
  case atStart => exact ⟨0, Nat.zero_le _, rfl, by simp [sumX], by simp, Below.refl _ _⟩
  case round =>
    obtain ⟨i, hi, rfl, rfl, hpre, hb⟩ := hrel
    by_cases hlt : i < ss.length
    · obtain ⟨b, off, rfl, hbo, c0, c1, c2, c3, k0, k1, k2, h1, h2, hoz, hrz⟩ := stepAt (HR.out _ hb) hlt
      have hnext := HT.out i hlt
      have HSN := Lib.hid (HN.out i hlt)
      have hbd := sumX_bd hpre
      have hlx : ((ss.take i).length : Int) ≤ 60 := by rw [List.length_take]; omega
      have d1 : decide ((i : Int) < (ss.length : Int)) = true := decide_eq_true (by omega)
      have d2 : decide (i < ss.length) = true := decide_eq_true hlt
      generalize ss[i] = s at *
      cases hri : rightS s with
      | true =>
        have HP : Hid ((ss.take (i + 1)).all rightS = true) := Lib.hid (by rw [hnext, List.all_append, hpre]; simp [hri])
        have hok := right_ok hri
        unfold StpOk at hok
        unfold rightS at hri
        obtain ⟨a, n', x, Az, cz, zs⟩ := s
        simp only at c0 c1 c2 c3 hri hok HSN
        have G := Lib.hid (fun W => hri ▸ rright_any a n' x Az zs.length cz W)
        have x1 : 1 ≤ x ∧ x ≤ 4096 := hok.1
        have y1 : 0 ≤ sumX (ss.take i) ∧ sumX (ss.take i) ≤ 245760 := by omega
        have hsz := hb.size
        clear hri k0 k1 k2 h1 h2 hoz hrz hnext hpre hok hbd hlx
        generalize sumX (ss.take i) = y at *
        go_wp2_with (go_at_call 24; refine (G.out _).mono ?_; rintro e w2 ⟨rfl, hb2⟩; have hb3 := hb.trans (hb2.mono hsz); have kc := (hb2.cell (p := ⟨b, off + i * 4 + 2, none⟩) (Nat.lt_of_lt_of_le hbo hsz)).trans c2)
        go_roundw
        case rel => exact ⟨i + 1, by omega, by go_num, by rw [HSN.out], HP.out, hb3⟩
        case measure => simp [intOf] <;> omega
      | false =>
        obtain rfl : D = 3 := by
          rw [← HD.out, if_neg]
          intro hall
          have := all_take hall (i + 1)
          rw [hnext, List.all_append] at this
          simp [hri] at this
        unfold rightS at hri
        obtain ⟨a, n', x, Az, cz, zs⟩ := s
        simp only at c0 c1 c2 c3 hri
        have G := Lib.hid (fun W => hri ▸ rright_any a n' x Az zs.length cz W)
        clear hri k0 k1 k2 h1 h2 hoz hrz hnext hpre hbd hlx HSN
        generalize sumX (ss.take i) = y at *
        go_wp2_with (go_at_call 24; refine (G.out _).mono ?_; rintro e w2 ⟨rfl, hb2⟩; have hb3 := hb.trans (hb2.mono hb.size))
        go_ret
        exact ⟨rfl, hb3⟩
    · obtain rfl : i = ss.length := by omega
      have d1 : decide ((ss.length : Int) < (ss.length : Int)) = false := decide_eq_false (by omega)
      have d2 : decide (ss.length < ss.length) = false := decide_eq_false (by omega)
      rw [HE.out] at hpre ⊢
      rw [if_pos hpre] at HD
      have HOK := Lib.hid (fun (i : Nat) (h : i < ss.length) => right_ok (List.all_eq_true.1 hpre ss[i] (List.getElem_mem h)))
      clear hpre HN HT
      generalize sumX ss = y at *
      by_cases hy : y = want
      · have e1 : (y != want) = false := by rw [hy]; simp
        have e2 : (y == want) = true := by rw [beq_iff_eq]; exact hy
        rw [if_pos hy] at HD
        have HY := Lib.hid hy
        have HNF := Lib.hid (fun (i : Nat) (h : i < ss.length) => any_next (p := fun s => farB old s.a s.b s.x) h)
        clear hy
        obtain ⟨wo, rfl⟩ : ∃ wo : World, wo = wr := ⟨_, rfl⟩
        go_wp2_with fail
        go_loopw [40] (fun s wr => ∃ i : Nat, i ≤ ss.length ∧ s = .int .i64 i ∧ ((ss.take i).any fun s => farB old s.a s.b s.x) = false ∧ Below w.heap.size w wr) (fun s _ => ss.length - (intOf s).toNat)
        case atStart => exact ⟨0, Nat.zero_le _, rfl, by simp, hb⟩
        case round =>
          obtain ⟨i, hi, rfl, ha, hb⟩ := hrel
          have Ha := Lib.hid ha
          clear ha
          by_cases hlt : i < ss.length
          · obtain ⟨b, off, rfl, hbo, c0, c1, c2, c3, k0, k1, k2, h1, h2, hoz, hrz⟩ := stepAt (HR.out _ hb) hlt
            have HNI := HNF.out i hlt
            have hok := HOK.out i hlt
            have HMM : Hid (ss[i] ∈ ss) := Lib.hid (List.getElem_mem hlt)
            have d3 : decide ((i : Int) < (ss.length : Int)) = true := decide_eq_true (by omega)
            have d4 : decide (i < ss.length) = true := decide_eq_true hlt
            generalize ss[i] = s at *
            obtain ⟨a, n', x, Az, cz, zs⟩ := s
            simp only at c0 c1 c2 c3 HNI hok
            unfold StpOk at hok
            have HNH := Lib.hid HNI
            clear HNI k0 k1 k2 h1 h2 hoz hrz
            by_cases g1 : 1 < a
            · have e3 : decide (1 < a) = true := decide_eq_true g1
              by_cases g2 : old < n' + x
              · have e4 : decide (old < n' + x) = true := decide_eq_true g2
                have hf : farB old a n' x = true := decide_eq_true ⟨g1, g2⟩
                obtain rfl : D = 5 := by rw [← HD.out, if_pos (List.any_eq_true.2 ⟨_, HMM.out, hf⟩)]
                clear hf
                go_wp2_with fail
                go_quiet (fail)
                go_wp2_with fail
                go_ret
                exact ⟨rfl, below_drewN hb _⟩
              · have e4 : decide (old < n' + x) = false := decide_eq_false g2
                have hf : Hid (farB old a n' x = false) := Lib.hid (decide_eq_false (by omega))
                go_wp2_with fail
                go_quiet (fail)
                go_wp2_with fail
                go_roundw
                case rel => exact ⟨i + 1, by omega, by go_num, by rw [HNH.out, Ha.out, hf.out]; rfl, below_drewN hb _⟩
                case measure => simp [intOf] <;> omega
            · have e3 : decide (1 < a) = false := decide_eq_false g1
              have hf : Hid (farB old a n' x = false) := Lib.hid (decide_eq_false (by omega))
              go_wp2_with fail
              go_quiet (fail)
              go_wp2_with fail
              go_roundw
              case rel => exact ⟨i + 1, by omega, by go_num, by rw [HNH.out, Ha.out, hf.out]; rfl, below_drewN hb _⟩
              case measure => simp [intOf] <;> omega
          · obtain rfl : i = ss.length := by omega
            have d3 : decide ((ss.length : Int) < (ss.length : Int)) = false := decide_eq_false (by omega)
            have d4 : decide (ss.length < ss.length) = false := decide_eq_false (by omega)
            rw [HE.out] at Ha
            rw [Ha.out, if_neg (by decide)] at HD
            have HNL := Lib.hid (fun (i : Nat) (h : i < ss.length) => any_next (p := fun s => l.any fun i => meetsB bl i s.a s.b s.x) h)
            obtain ⟨wp, rfl⟩ : ∃ wp : World, wp = wr := ⟨_, rfl⟩
            clear Ha HNF
            go_wp2_with fail
            go_loopw [67] (fun s wr => ∃ i : Nat, i ≤ ss.length ∧ s = .int .i64 i ∧ ((ss.take i).any fun s => l.any fun i => meetsB bl i s.a s.b s.x) = false ∧ Below w.heap.size w wr) (fun s _ => ss.length - (intOf s).toNat)
            case atStart => exact ⟨0, Nat.zero_le _, rfl, by simp, hb⟩
            case round =>
              obtain ⟨i, hi, rfl, ha, hb⟩ := hrel
              have Ha := Lib.hid ha
              clear ha
              by_cases hlt : i < ss.length
              · have HNI := HNL.out i hlt
                have hok := HOK.out i hlt
                have HMM : Hid (ss[i] ∈ ss) := Lib.hid (List.getElem_mem hlt)
                have HSA := Lib.hid (fun W (h : Below w.heap.size w W) => stepAt (HR.out W h) hlt)
                have d5 : decide ((i : Int) < (ss.length : Int)) = true := decide_eq_true (by omega)
                have d6 : decide (i < ss.length) = true := decide_eq_true hlt
                generalize ss[i] = s at *
                obtain ⟨a, n', x, Az, cz, zs⟩ := s
                simp only at HNI hok HSA
                have HNH := Lib.hid HNI
                have HNM := Lib.hid (fun (j : Nat) (h : j < l.length) => anyI_next (p := fun i => meetsB bl i a n' x) h)
                have HLE : Hid (l.take l.length = l) := Lib.hid List.take_length
                have GM := Lib.hid (fun W (i : Int) (h : 0 ≤ i ∧ i ≤ 4000) => meets_any bl i a n' x Az zs.length cz W hok h HBL.out)
                clear HNI hok
                obtain ⟨wq, rfl⟩ : ∃ wq : World, wq = wr := ⟨_, rfl⟩
                go_wp2_with fail
                go_loopw [72] (fun s wr => ∃ j : Nat, j ≤ l.length ∧ s = .int .i64 j ∧ ((l.take j).any fun i => meetsB bl i a n' x) = false ∧ Below w.heap.size w wr) (fun s _ => l.length - (intOf s).toNat)
                case atStart => exact ⟨0, Nat.zero_le _, rfl, by simp, hb⟩
                case round =>
                  obtain ⟨j, hj, rfl, hja, hb⟩ := hrel
                  have Hj := Lib.hid hja
                  clear hja
                  by_cases hjl : j < l.length
                  · obtain ⟨b, off, rfl, hbo, c0, c1, c2, c3, k0, k1, k2, h1, h2, hoz, hrz⟩ := HSA.out _ hb
                    obtain ⟨bw, offw, rfl, hbw, hcw⟩ := (HRW.out _ hb) (by omega)
                    have hcj := hcw j hjl
                    have hrg := HL.out (l.getD j 0) (getD_mem hjl)
                    have HMJ : Hid (l.getD j 0 ∈ l) := Lib.hid (getD_mem hjl)
                    have HNJ := Lib.hid (HNM.out j hjl)
                    have d7 : decide ((j : Int) < (l.length : Int)) = true := decide_eq_true (by omega)
                    have d8 : decide (j < l.length) = true := decide_eq_true hjl
                    generalize l.getD j 0 = z at *
                    have G := GM.out wr.drew z hrg
                    have hsz := hb.size
                    have BD : Below w.heap.size w wr.drew := ⟨hb.os, hb.tape, hb.output, hb.size, hb.block⟩
                    obtain ⟨t, ht⟩ : ∃ t, meetsB bl z a n' x = t := ⟨_, rfl⟩
                    rw [ht] at G HNJ
                    have GH := Lib.hid G
                    clear G hcw k0 k1 k2 h1 h2 hoz hrz
                    cases t with
                    | true =>
                      obtain rfl : D = 23 := by
                        rw [← HD.out, if_pos]
                        exact List.any_eq_true.2 ⟨_, HMM.out, List.any_eq_true.2 ⟨z, HMJ.out, ht⟩⟩
                      clear ht
                      go_wp2_with fail
                      go_region_law (go_simp; go_at_call 33; refine GH.out.mono ?_; rintro e w2 ⟨rfl, hb2⟩; have hb3 := BD.trans (hb2.mono (show w.heap.size ≤ wr.drew.heap.size from hsz)))
                      all_goals
                        go_wp2_with fail
                        go_ret
                        exact ⟨rfl, hb3⟩
                    | false =>
                      clear ht
                      go_wp2_with fail
                      go_region_law (go_simp; go_at_call 33; refine GH.out.mono ?_; rintro e w2 ⟨rfl, hb2⟩; have hb3 := BD.trans (hb2.mono (show w.heap.size ≤ wr.drew.heap.size from hsz)))
                      all_goals
                        go_wp2_with fail
                        go_roundw
                        case rel => exact ⟨j + 1, by omega, by go_num, by rw [HNJ.out, Hj.out]; rfl, hb3⟩
                        case measure => simp [intOf] <;> omega
                  · obtain rfl : j = l.length := by omega
                    have d7 : decide ((l.length : Int) < (l.length : Int)) = false := decide_eq_false (by omega)
                    have d8 : decide (l.length < l.length) = false := decide_eq_false (by omega)
                    rw [HLE.out] at Hj
                    go_wp2_with fail
                    go_roundw
                    case rel => exact ⟨i + 1, by omega, by go_num, by rw [HNH.out, Ha.out, Hj.out]; rfl, hb⟩
                    case measure => simp [intOf] <;> omega
              · obtain rfl : i = ss.length := by omega
                have d5 : decide ((ss.length : Int) < (ss.length : Int)) = false := decide_eq_false (by omega)
                have d6 : decide (ss.length < ss.length) = false := decide_eq_false (by omega)
                rw [HE.out] at Ha
                rw [Ha.out, if_neg (by decide)] at HD
                obtain rfl := HD.out
                go_wp2_with fail
                go_ret
                exact ⟨rfl, hb⟩
      · have e1 : (y != want) = true := by rw [bne_iff_ne]; exact hy
        have e2 : (y == want) = false := by rw [beq_eq_false_iff_ne]; exact hy
        rw [if_neg hy] at HD
        obtain rfl := HD.out
        clear hy
        go_wp2_with fail
        go_ret
        exact ⟨rfl, hb⟩
end Go.Proofs.Ytheofegmbajmkaa.Sa
