/-
  Layer 18, the document's Edges: a contract. Conditions: as each theorem names.
-/
import Derived.Test.YtojmcjkeniepcaaGrX
namespace Go.Proofs.Ytojmcjkeniepcaa.Gr
open Go.ChangeShapes Go.WideShapes Go.ChangeAt Go.RowKit Go.Proofs.Ytojmcjkeniepcaa.Kit Go.Proofs.Ytojmcjkeniepcaa.Pl Go.Proofs.Ytojmcjkeniepcaa.Sk

def othersL (l : List Int) (k j : Nat) : List Int := (l.take j).filter fun x => decide (x ≠ (k : Int))
theorem othersL_next {l : List Int} {k j : Nat} (h : j < l.length) : othersL l k (j + 1) = othersL l k j ++ (if l.getD j 0 ≠ (k : Int) then [l.getD j 0] else []) := by
  unfold othersL
  rw [take_all_next h, List.filter_append]
  congr 1
  generalize l.getD j 0 = x
  by_cases hx : x = (k : Int)
  · rw [if_neg (fun h => h hx)]
    simp only [List.filter_cons, hx, decide_eq_false (show ¬ ((k : Int) ≠ (k : Int)) from fun h => h rfl), List.filter_nil]
    rfl
  · rw [if_pos hx]
    simp only [List.filter_cons, decide_eq_true hx, if_true, List.filter_nil]
theorem othersL_length (l : List Int) (k j : Nat) : (othersL l k j).length ≤ l.length := Nat.le_trans (List.length_filter_le _ _) (List.length_take_le' _ _)
theorem readsL_no {ss : List Stp} {block n : Int} (hm : mayB block n = true) (h : ss.all rightS = false) : readsL ss block n = ([], 3) := by
  unfold readsL
  rw [if_neg (by rw [hm]; simp), if_neg (by rw [h]; simp)]
theorem readsL_yes {ss : List Stp} {block n : Int} (hm : mayB block n = true) (h : ss.all rightS = true) : readsL ss block n = (askedTo ss block n n.toNat, 0) := by
  unfold readsL
  rw [if_neg (by rw [hm]; simp), if_pos h]
theorem gives_empty {x : Int} {w w' : World} {g : Nat} (hb : Below w.heap.size w w') : GivesIE [] x w (.returned (.tuple #[.slice (some ⟨g, 0, none⟩) 0 0, .int .i64 x])) w' :=
  ⟨some ⟨g, 0, none⟩, 0, [], rfl, Nat.le_refl _, Nat.zero_le _, rfl, fun h => absurd h (by simp), hb⟩

set_option maxRecDepth 100000 in
set_option maxHeartbeats 12800000 in
theorem redges_any (A : Option Addr) (ps : List Plan) (c : Nat) (block : Int) (w : World) (hn : ps.length ≤ 1000) (hf : ∀ p ∈ ps, p.ss.length ≤ 1000) (hr : HoldsP w w.heap.size A ps) :
    Calls Try.prog 16 #[.slice A ps.length c, .int .i64 block] w (GivesIE (edgesR ps block).1 (edgesR ps block).2 w) := by
  have B0 : Below w.heap.size w (w.alloc (.cells #[] 25)) := (Below.refl _ _).alloc (Nat.le_refl _) _
  have d3 : decide ((4096 : Int) < (ps.length : Int)) = false := decide_eq_false (by omega)
  cases hm : mayB block ps.length with
  | false =>
    have hno : ¬ (128 ≤ block ∧ block ≤ 4096 ∧ 0 ≤ (ps.length : Int) ∧ (ps.length : Int) ≤ 4096) := of_decide_eq_false hm
    unfold edgesR
    rw [if_pos hm]
    clear hr hm hf
    by_cases h1 : block < 128
    · have d1 : decide (block < 128) = true := decide_eq_true h1
      clear hno
      go_enter Try.func16, Try.ntmps16
      go_wp2_with fail
      go_ret2
      exact gives_empty B0
    have d1 : decide (block < 128) = false := decide_eq_false h1
    have d2 : decide (4096 < block) = true := decide_eq_true (by omega)
    clear hno
    go_enter Try.func16, Try.ntmps16
    go_wp2_with fail
    go_ret2
    exact gives_empty B0
  | true =>
    have hm' := hm
    unfold mayB at hm'
    obtain ⟨b1, b2, b3, b4⟩ := of_decide_eq_true hm'
    have d1 : decide (block < 128) = false := decide_eq_false (by omega)
    have d2 : decide (4096 < block) = false := decide_eq_false (by omega)
    have HRN : Hid (∀ k, ∀ h : k < ps.length, ps[k].ss.all rightS = false → edgesR ps block = ([], 3)) := Lib.hid (fun k h hs => by
      unfold edgesR
      rw [if_neg (by rw [hm]; simp), if_neg (by rw [allR_no h hs]; simp)])
    have HRY : Hid (allR ps = true → edgesR ps block = (edgesTo ps block ps.length, 0)) := Lib.hid (fun h => by
      unfold edgesR
      rw [if_neg (by rw [hm]; simp), if_pos h])
    have HNO : Hid (∀ ss : List Stp, ss.all rightS = false → readsL ss block ps.length = ([], 3)) := Lib.hid (fun ss h => readsL_no hm h)
    have HYES : Hid (∀ ss : List Stp, ss.all rightS = true → readsL ss block ps.length = (askedTo ss block ps.length ps.length, 0)) := Lib.hid (fun ss h => by rw [readsL_yes hm h, Int.toNat_natCast])
    obtain ⟨R, hR⟩ : ∃ R, edgesR ps block = R := ⟨_, rfl⟩
    rw [hR] at HRN HRY ⊢
    have O0 := OwnV.empty (w.alloc (.cells #[] 25)) 25 (B := w.heap.size) (by simp)
    rw [show (w.alloc (.cells #[] 25)).heap.size = w.heap.size + 1 by simp] at O0
    have B1 : Below w.heap.size w ((w.alloc (.cells #[] 25)).alloc (.cells #[] 25)) := B0.alloc B0.size _
    clear hm hm' hR b3
    go_enter Try.func16, Try.ntmps16
    go_wp2_with fail
    go_loopw [7, 29] (fun v i wr => ∃ (k : Nat) (qs : List Ri), k ≤ ps.length ∧ i = .int .i64 k ∧ rowsL qs = edgesTo ps block k ∧ allR (ps.take k) = true ∧ OwnV wr w.heap.size 25 v (qs.map Ri.val) ∧ (∀ q ∈ qs, RiOwn wr 0 q) ∧ Below w.heap.size w wr) (fun _ i _ => ps.length - (intOf i).toNat)
    case atStart => exact ⟨0, [], Nat.zero_le _, rfl, rfl, by simp [allR], O0, fun q hq => absurd hq (by simp), B1⟩
    case round =>
      clear O0 B0 B1
      obtain ⟨k, qs, hk, rfl, hqs, hall, O, hq, B⟩ := hrel
      obtain ⟨wo, rfl⟩ : ∃ wo : World, wo = wr := ⟨_, rfl⟩
      have hql : qs.length = k := by have := congrArg List.length hqs; rw [edgesTo_length] at this; simpa [rowsL] using this
      have HQL := Lib.hid hql
      have HQS := Lib.hid hqs
      have HALL := Lib.hid hall
      clear hql hqs hall
      by_cases hlt : k < ps.length
      · have d0 : decide (k < ps.length) = true := decide_eq_true hlt
        obtain ⟨b, off, rfl, -, hc1, hl1, hm1, hh⟩ := planAt (hr.below B) hlt
        have i1 : (k : Int) < (ps.length : Int) := by omega
        have HN : Hid (edgesTo ps block (k + 1) = edgesTo ps block k ++ [edgeL ps[k].ss block ps.length k]) := Lib.hid (edgesTo_next ps block hlt)
        have HA1 : Hid (ps[k].ss.all rightS = true → allR (ps.take (k + 1)) = true) := Lib.hid (allR_next hlt HALL.out)
        have HR1 := Lib.hid (HRN.out k hlt)
        have GR := rreads_any ps[k].A ps[k].ss ps[k].cap block ps.length wo (hf _ (List.getElem_mem hlt)) (steps_more hh B.size)
        have HIN := Lib.hid (edgeL_in ps[k].ss block ps.length k (by omega))
        obtain ⟨A5, c5, ss, hx⟩ : ∃ A5 c5 ss, ps[k] = ⟨A5, c5, ss⟩ := ⟨_, _, _, rfl⟩
        rw [hx] at hc1 HN HA1 HR1 GR HIN
        simp only at hc1 HN HA1 HR1 GR HIN
        clear hx hh hl1 hm1 hr HRN HRY
        cases hs : ss.all rightS with
        | false =>
          rw [HNO.out ss hs] at GR
          have GR := Lib.hid GR
          obtain rfl : R = ([], 3) := HR1.out hs
          clear hs O hq
          go_wp2_with (go_at_call 12; refine GR.out.mono ?_; rintro e w2 ⟨A2, c2, rfl, k1, k2, k3, hb2⟩; simp only [List.length_nil] at k1 k2 k3 ⊢)
          go_ret2
          exact gives_empty (B.trans (hb2.mono B.size))
        | true =>
          rw [HYES.out ss hs] at GR
          have HA2 := Lib.hid (HA1.out hs)
          have hal := askedTo_length ss block ps.length ps.length
          have HE : Hid (edgeL ss block ps.length k = othersL (askedTo ss block ps.length ps.length) k (askedTo ss block ps.length ps.length).length) := Lib.hid (by unfold othersL edgeL; rw [List.take_of_length_le (Nat.le_refl _)])
          obtain ⟨l, hlL⟩ : ∃ l, askedTo ss block ps.length ps.length = l := ⟨_, rfl⟩
          rw [hlL] at GR hal HE
          obtain ⟨T, hT⟩ : ∃ T, edgeL ss block ps.length k = T := ⟨_, rfl⟩
          rw [hT] at HN HIN HE
          have GR := Lib.hid GR
          clear hs hT hlL HA1 HR1
          go_wp2_with (go_at_call 12; refine GR.out.mono ?_; rintro e w2 ⟨A2, c2, rfl, k1, k2, k3, hb2⟩; simp only at k1 k2 k3 ⊢; have R0 := Own.empty (w := w2) 3 .i64 (B := w2.heap.size) (Nat.le_refl _); have Bi0 : Below w2.heap.size w2 (w2.alloc (.cells #[] 3)) := (Below.refl _ _).alloc (Nat.le_refl _) _)
          go_loopw [11, 50] (fun v i wi => ∃ m : Nat, m ≤ l.length ∧ i = .int .i64 m ∧ Own wi w2.heap.size 3 .i64 v (othersL l k m) ∧ Below w2.heap.size w2 wi) (fun _ i _ => l.length - (intOf i).toNat)
          case atStart => exact ⟨0, Nat.zero_le _, rfl, R0, Bi0⟩
          case round =>
            clear R0 Bi0
            obtain ⟨m, hmm, rfl, Rw, Bi⟩ := hrel
            obtain ⟨wi, rfl⟩ : ∃ wi : World, wi = wr := ⟨_, rfl⟩
            by_cases hltm : m < l.length
            · have e0 : decide (m < l.length) = true := decide_eq_true hltm
              obtain ⟨b3, o3, rfl, -, hcl⟩ := (k3.below Bi) (by omega)
              have q3 := hcl m hltm
              have i3 : (m : Int) < (l.length : Int) := by omega
              have HNX := Lib.hid (othersL_next (k := k) hltm)
              have hol := othersL_length l k m
              generalize l.getD m 0 = x at *
              generalize othersL l k m = T2 at *
              have hz := Lib.hid Bi.size
              clear hcl
              by_cases hxk : x = (k : Int)
              · have e1 : (x != (k : Int)) = false := by simp [hxk]
                rw [if_neg (by simp [hxk]), List.append_nil] at HNX
                clear hxk
                go_wp2_with fail
                go_roundw
                case rel => exact ⟨m + 1, by omega, by go_num, by rw [HNX.out]; exact Rw, Bi⟩
                case measure => simp [intOf]; omega
              · have e1 : (x != (k : Int)) = true := by simpa using hxk
                rw [if_pos hxk] at HNX
                clear hxk
                go_wp2_with (at_builtin; refine wpList_append_one _ rfl (.tmp 59) (.tmp 64) 25 rfl elemI Rw rfl rfl (by omega) hz.out ?_; intro v' w4 h1 h2 h3)
                go_roundw
                case rel => exact ⟨m + 1, by omega, by go_num, by rw [HNX.out]; exact h1, Bi.trans h3⟩
                case measure => simp [intOf]; omega
            · have e0 : decide (m < l.length) = false := decide_eq_false hltm
              obtain rfl : m = l.length := by omega
              rw [← HE.out] at Rw
              have Bu := hb2.trans (Bi.mono hb2.size)
              have O2 := O.below Bu
              have hq2 : ∀ q ∈ qs, RiOwn wi 0 q := fun q hqq => (hq q hqq).below Bu
              have Bw := B.trans (Bu.mono B.size)
              have hzw := Lib.hid Bw.size
              obtain ⟨Ar, cr, rfl, -, -, -⟩ := Rw.opened
              clear O hq
              go_wp2_with (at_builtin; refine wpList_append_val rfl (.tmp 67) (.tmp 69) 35 rfl elemR O2 rfl (u := .slice Ar T.length cr) rfl rfl (by rw [List.length_map, HQL.out]; omega) hzw.out ?_; intro v5 w5 O5 g5 hb5)
              go_roundw
              case rel => exact ⟨k + 1, qs ++ [⟨Ar, cr, T⟩], by omega, by go_num, by rw [rowsL_snoc, HN.out, HQS.out], HA2.out, by rw [List.map_append]; exact O5, (by
                intro q hqq
                rcases List.mem_append.1 hqq with hqq | hqq
                · exact (((hq2 q hqq).below (below_last _ _)).grown (O2.alloc _) (by decide) g5)
                · obtain rfl : q = ⟨Ar, cr, T⟩ := by simpa using hqq
                  exact RiOwn.grown (RiOwn.below ⟨Rw.mono (Nat.zero_le _), HIN.out⟩ (below_last _ _)) (O2.alloc _) (by decide) g5), Bw.trans (hb5.mono (Nat.le_refl _))⟩
              case measure => simp [intOf]; omega
      · have d0 : decide (k < ps.length) = false := decide_eq_false hlt
        obtain rfl : k = ps.length := by omega
        obtain ⟨Ar, cr, rfl, h1, h2⟩ := O.opened
        have HH := Lib.hid (O.ints hq)
        have hal := HALL.out
        rw [List.take_of_length_le (Nat.le_refl _)] at hal
        obtain rfl : R = _ := HRY.out hal
        rw [List.length_map] at h1 ⊢
        clear O hq hr hal HRN HRY
        go_wp2_with fail
        go_ret2
        exact ⟨Ar, cr, qs, rfl, h1, h2, HQS.out, HH.out, B⟩
end Go.Proofs.Ytojmcjkeniepcaa.Gr
