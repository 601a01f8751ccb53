/-
  Layer 18, graph.Edges: a contract. Conditions: as each theorem names.
-/
import Derived.Test.YtojmcjkeniepcaaGrW
import Derived.Test.YtojmcjkeniepcaaPls
import Derived.Test.YtojmcjkeniepcaaGrF
namespace Go.Proofs.Ytojmcjkeniepcaa.Gr
open Go.ChangeShapes Go.WideShapes Go.ChangeAt Go.RowKit Go.Proofs.Ytojmcjkeniepcaa.Kit Go.Proofs.Ytojmcjkeniepcaa.Pl Go.Proofs.Ytojmcjkeniepcaa.Sk

/-- Which others a block reads. -/
def edgeL (ss : List Stp) (block : Int) (n k : Nat) : List Int := (askedTo ss block n n).filter fun x => decide (x ≠ (k : Int))
def edgesTo (ps : List Plan) (block : Int) (m : Nat) : List (List Int) := (List.range m).map fun k => edgeL ((ps[k]?.map (·.ss)).getD []) block ps.length k
theorem edgesTo_next (ps : List Plan) (block : Int) {m : Nat} (h : m < ps.length) : edgesTo ps block (m + 1) = edgesTo ps block m ++ [edgeL ps[m].ss block ps.length m] := by
  unfold edgesTo
  rw [List.range_succ, List.map_append, List.map_singleton, List.getElem?_eq_getElem h]
  rfl
theorem edgesTo_length (ps : List Plan) (block : Int) (m : Nat) : (edgesTo ps block m).length = m := by simp [edgesTo]
theorem edgeL_length (ss : List Stp) (block : Int) (n k : Nat) : (edgeL ss block n k).length ≤ n := Nat.le_trans (List.length_filter_le _ _) (askedTo_length _ _ _ _)
theorem edgeL_up (ss : List Stp) (block : Int) (n k : Nat) : (edgeL ss block n k).Pairwise (· < ·) := List.Pairwise.filter _ (askedTo_up _ _ _ _)
theorem mem_edgeL {ss : List Stp} {block : Int} {n k : Nat} {x : Int} : x ∈ edgeL ss block n k ↔ x ∈ askedTo ss block n n ∧ x ≠ (k : Int) := by
  unfold edgeL
  rw [List.mem_filter]
  simp
theorem edgeL_good (ss : List Stp) (block : Int) (n k : Nat) : GoodRow n k (edgeL ss block n k) := goodRow_of (edgeL_up _ _ _ _) fun x hx => by
  obtain ⟨h1, h2⟩ := mem_edgeL.1 hx
  obtain ⟨i, hi, rfl, _⟩ := mem_askedTo.1 h1
  exact ⟨by omega, by omega, h2⟩
theorem edgeL_in (ss : List Stp) (block : Int) (n k : Nat) (hn : n ≤ 1000000) : In64 (edgeL ss block n k) := by
  intro z hz
  have := (edgeL_good ss block n k).mem hz
  omega
theorem edges_right (ps : List Plan) (block : Int) (h : ps.length ≤ 4096) : RightL (edgesTo ps block ps.length) := by
  refine ⟨by rw [edgesTo_length]; exact h, fun i hi => ?_⟩
  rw [edgesTo_length] at hi ⊢
  unfold edgesTo
  rw [List.getD, List.getElem?_map, List.getElem?_range hi]
  exact edgeL_good _ _ _ _
def allR (ps : List Plan) : Bool := ps.all fun p => p.ss.all rightS
/-- What Edges answers. -/
def edgesR (ps : List Plan) (block : Int) : List (List Int) × Int :=
  if mayB block ps.length = false then ([], 1) else if allR ps = true then (edgesTo ps block ps.length, 0) else ([], 3)
theorem allR_next {ps : List Plan} {k : Nat} (h : k < ps.length) (hp : allR (ps.take k) = true) (hs : ps[k].ss.all rightS = true) : allR (ps.take (k + 1)) = true := by
  unfold allR at *
  rw [List.take_succ_eq_append_getElem h, List.all_append, hp]
  simp [hs]
theorem allR_no {ps : List Plan} {k : Nat} (h : k < ps.length) (hs : ps[k].ss.all rightS = false) : allR ps = false := by
  rw [Bool.eq_false_iff]
  intro ha
  have := List.all_eq_true.1 ha _ (List.getElem_mem h)
  rw [hs] at this
  cases this

set_option maxRecDepth 100000 in
set_option maxHeartbeats 12800000 in
theorem edges_any (A : Option Addr) (ps : List Plan) (c : Nat) (block : Int) (w : World) (hf : ∀ p ∈ ps, p.ss.length ≤ 1000) (hr : HoldsP w w.heap.size A ps) :
    Calls Try.prog 15 #[.slice A ps.length c, .int .i64 block] w (GivesIE (edgesR ps block).1 (edgesR ps block).2 w) := by
  have GM := Lib.hid (fun W => may_any block ps.length W)
  cases hm : mayB block ps.length with
  | false =>
    have hm' := hm
    unfold mayB at hm'
    rw [hm'] at GM
    unfold edgesR
    rw [if_pos hm]
    clear hr hm hm' hf
    go_enter Try.func15, Try.ntmps15
    go_wp2_with (go_at_call 27; refine (GM.out _).mono ?_; rintro e w1 ⟨rfl, rfl⟩)
    go_ret2
    exact gives_none (Below.refl _ _)
  | true =>
    have hm' := hm
    unfold mayB at hm'
    obtain ⟨b1, b2, b3, b4⟩ := of_decide_eq_true hm'
    rw [hm'] at GM
    have HRN : Hid (∀ k, ∀ h : k < ps.length, ps[k].ss.all rightS = false → edgesR ps block = ([], 3)) := Lib.hid (fun k h hs => by
      unfold edgesR
      rw [if_neg (by rw [hm]; simp), if_neg (by rw [allR_no h hs]; simp)])
    have HRY : Hid (allR ps = true → edgesR ps block = (edgesTo ps block ps.length, 0)) := Lib.hid (fun h => by
      unfold edgesR
      rw [if_neg (by rw [hm]; simp), if_pos h])
    obtain ⟨R, hR⟩ : ∃ R, edgesR ps block = R := ⟨_, rfl⟩
    rw [hR] at HRN HRY ⊢
    have O0 := OwnV.nil w w.heap.size 25
    have B0 := Below.refl w.heap.size w
    clear hm hm' hR b3
    go_enter Try.func15, Try.ntmps15
    go_wp2_with (go_at_call 27; refine (GM.out _).mono ?_; rintro e w1 ⟨rfl, rfl⟩)
    go_loopw [6, 18] (fun v i wr => ∃ (k : Nat) (qs : List Ri), k ≤ ps.length ∧ i = .int .i64 k ∧ rowsL qs = edgesTo ps block k ∧ allR (ps.take k) = true ∧ OwnV wr w.heap.size 25 v (qs.map Ri.val) ∧ (∀ q ∈ qs, RiOwn wr 0 q) ∧ Below w.heap.size w wr) (fun _ i _ => ps.length - (intOf i).toNat)
    case atStart => exact ⟨0, [], Nat.zero_le _, rfl, rfl, by simp [allR], O0, fun q hq => absurd hq (by simp), B0⟩
    case round =>
      clear O0 B0
      obtain ⟨k, qs, hk, rfl, hqs, hall, O, hq, B⟩ := hrel
      obtain ⟨wo, rfl⟩ : ∃ wo : World, wo = wr := ⟨_, rfl⟩
      have hql : qs.length = k := by have := congrArg List.length hqs; rw [edgesTo_length] at this; simpa [rowsL] using this
      have HQL := Lib.hid hql
      have HQS := Lib.hid hqs
      have HALL := Lib.hid hall
      clear hql hqs hall
      by_cases hlt : k < ps.length
      · have d0 : decide (k < ps.length) = true := decide_eq_true hlt
        obtain ⟨b, off, rfl, -, hc1, hl1, hm1, hh⟩ := planAt (hr.below B) hlt
        have i1 : (k : Int) < (ps.length : Int) := by omega
        have HN : Hid (edgesTo ps block (k + 1) = edgesTo ps block k ++ [edgeL ps[k].ss block ps.length k]) := Lib.hid (edgesTo_next ps block hlt)
        have HA1 : Hid (ps[k].ss.all rightS = true → allR (ps.take (k + 1)) = true) := Lib.hid (allR_next hlt HALL.out)
        have HR1 := Lib.hid (HRN.out k hlt)
        have Bb := below_last wo (.cells #[.int .i64 k] 3)
        have PB := Block.new wo 3 #[.int .i64 k]
        have GA := Lib.hid (asked_any ps[k].A ps[k].ss ps[k].cap block ps.length (wo.alloc (.cells #[.int .i64 k] 3)) (hf _ (List.getElem_mem hlt)) b1 b2 (by omega) b4 (steps_more (steps_below (steps_more hh B.size) Bb) Bb.size))
        have hgb : ∀ y, ps[k].ss.all rightS = true → AskL ps[k].ss block ps.length y → 0 ≤ y ∧ y < (ps.length : Int) := fun y h1 h2 => ask_bounds (by omega) h1 h2
        have HGB := Lib.hid hgb
        obtain ⟨A5, c5, ss, hx⟩ : ∃ A5 c5 ss, ps[k] = ⟨A5, c5, ss⟩ := ⟨_, _, _, rfl⟩
        rw [hx] at hc1 HN HA1 HR1 GA HGB
        simp only at hc1 HN HA1 HR1 GA HGB
        clear hx hh hl1 hm1 hgb hr HRN HRY
        cases hs : ss.all rightS with
        | false =>
          have HG : Hid (∀ W e w', GAsked ss block ps.length W e w' → e = .returned (.tuple #[.map none, .int .i64 3]) ∧ Below W.heap.size W w') := Lib.hid (fun W e w' h => by
            unfold GAsked at h
            rw [if_neg (by rw [hs]; simp)] at h
            exact h)
          obtain rfl : R = ([], 3) := HR1.out hs
          clear hs O hq
          go_wp2_with (go_at_call 28; refine GA.out.mono ?_; intro e w2 h2; obtain ⟨rfl, hb2⟩ := HG.out _ _ _ h2; clear h2)
          go_ret2
          exact gives_none (B.trans ((Bb.trans (hb2.mono Bb.size)).mono B.size))
        | true =>
          have HG : Hid (∀ W e w', GAsked ss block ps.length W e w' → ∃ b N, e = .returned (.tuple #[.map (some b), .int .i64 0]) ∧ N < 900000000 ∧ SetAt w' b N (AskL ss block ps.length) ∧ W.heap.size ≤ b ∧ Below W.heap.size W w') := Lib.hid (fun W e w' h => by
            unfold GAsked at h
            rw [if_pos hs] at h
            exact h)
          have HL : Hid (∀ x, x ∈ edgeL ss block ps.length k ↔ AskL ss block ps.length x ∧ x ≠ (k : Int)) := Lib.hid (fun x => by
            rw [mem_edgeL, mem_askedTo]
            constructor
            · rintro ⟨⟨i, _, rfl, h⟩, h2⟩
              exact ⟨h, h2⟩
            · rintro ⟨h, h2⟩
              have := HGB.out x hs h
              exact ⟨⟨x.toNat, by omega, by omega, by rw [Int.toNat_of_nonneg this.1]; exact h⟩, h2⟩)
          have HU := Lib.hid (edgeL_up ss block ps.length k)
          have HIN := Lib.hid (edgeL_in ss block ps.length k (by omega))
          have HA2 := Lib.hid (HA1.out hs)
          obtain ⟨T, hT⟩ : ∃ T, edgeL ss block ps.length k = T := ⟨_, rfl⟩
          rw [hT] at HN HL HU HIN
          clear hs hT HA1 HR1
          have hzb : wo.heap.size < (wo.alloc (.cells #[.int .i64 k] 3)).heap.size := by simp
          go_wp2_with (first
            | (go_at_call 28; refine GA.out.mono ?_; intro e w2 h2; obtain ⟨mb, N, rfl, hN, hS, hmb, hb2⟩ := HG.out _ _ _ h2; clear h2; have PB2 := PB.below hb2 PB.lt; have hlp := PB2.lt; have qp : w2.cell? ⟨wo.heap.size, 0, none⟩ = some (.int .i64 k) := PB2.cell 0; have GD := Lib.hid (strike_any k mb N wo.heap.size _ w2 hS qp hlp (by omega)); clear hS PB GA qp)
            | (have _t := GD; go_at_call 32; refine GD.out.mono ?_; clear _t; rintro e w3 ⟨rfl, hS3, hg3⟩; have Bt : Below wo.heap.size wo w3 := (Bb.trans (hb2.mono Bb.size)).grown hg3 (by have := hb2.size; omega) (fun g hg => by injection hg with hg; omega); have GR := Lib.hid (rising_any hS3 (by omega) HU.out HL.out); clear GD hS3)
            | (have _t := GR; go_at_call 29; refine GR.out.mono ?_; clear _t; rintro e w4 ⟨v4, rfl, hO4, hb4⟩; obtain ⟨Ar, cr, rfl, -, -, -⟩ := hO4.opened; have Bu := Bt.trans (hb4.mono Bt.size); have O2 := O.below Bu; have hq2 : ∀ q ∈ qs, RiOwn w4 0 q := fun q hqq => (hq q hqq).below Bu; have Bw := B.trans (Bu.mono B.size); have hzw := Lib.hid Bw.size; have hO4 := hO4.mono (Nat.zero_le _); clear GR O hq)
            | (have _t := O2; at_builtin; refine wpList_append_val rfl (.tmp 37) (.tmp 40) 35 rfl elemR O2 rfl (u := .slice Ar T.length cr) rfl rfl (by rw [List.length_map, HQL.out]; omega) hzw.out ?_; clear _t; intro v5 w5 O5 g5 hb5))
          go_roundw
          case rel => exact ⟨k + 1, qs ++ [⟨Ar, cr, T⟩], by omega, by go_num, by rw [rowsL_snoc, HN.out, HQS.out], HA2.out, by rw [List.map_append]; exact O5, (by
            intro q hqq
            rcases List.mem_append.1 hqq with hqq | hqq
            · exact (((hq2 q hqq).below (below_last _ _)).grown (O2.alloc _) (by decide) g5)
            · obtain rfl : q = ⟨Ar, cr, T⟩ := by simpa using hqq
              exact RiOwn.grown (RiOwn.below ⟨hO4, HIN.out⟩ (below_last _ _)) (O2.alloc _) (by decide) g5), Bw.trans (hb5.mono (Nat.le_refl _))⟩
          case measure => simp [intOf]; omega
      · have d0 : decide (k < ps.length) = false := decide_eq_false hlt
        obtain rfl : k = ps.length := by omega
        obtain ⟨Ar, cr, rfl, h1, h2⟩ := O.opened
        have HH := Lib.hid (O.ints hq)
        have hal := HALL.out
        rw [List.take_of_length_le (Nat.le_refl _)] at hal
        obtain rfl : R = _ := HRY.out hal
        rw [List.length_map] at h1 ⊢
        clear O hq hr hal HRN HRY
        go_wp2_with fail
        go_ret2
        exact ⟨Ar, cr, qs, rfl, h1, h2, HQS.out, HH.out, B⟩
end Go.Proofs.Ytojmcjkeniepcaa.Gr
