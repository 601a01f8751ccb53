/-
  Layer 18, graph.Turned: a contract. Conditions: as each theorem names.
-/
import Derived.Test.YtojmcjkeniepcaaMGrE
namespace Go.Proofs.Ytojmcjkeniepcaa.Gr
open Go.ChangeShapes Go.WideShapes Go.ChangeAt Go.RowKit Go.Proofs.Ytojmcjkeniepcaa.Kit

theorem good_lt {n i : Nat} {l : List Int} : ∀ k, (∀ j, j ≤ k → GoodAt n i l j) → ∀ j, j < k → l.getD j 0 < l.getD k 0
  | 0, _, _, h => absurd h (by omega)
  | k + 1, hg, j, hj => by
    have h1 := (hg (k + 1) (Nat.le_refl _)).2.2.2 (by omega)
    rw [Nat.add_sub_cancel] at h1
    by_cases hjk : j < k
    · have := good_lt k (fun j hj => hg j (by omega)) j hjk
      omega
    · obtain rfl : j = k := by omega
      exact h1
section
variable {w w' : World} {B g : Nat} {rs : List Ri}
theorem _root_.Go.Proofs.Ytojmcjkeniepcaa.Kit.RiRows.mid (h : RiRows w B g rs) {i : Nat} (hi : i < rs.length) (hg : w.grownBy w' rs[i].val.ownBlock) : (∃ u, w'.cell? ⟨g, i, none⟩ = some u) ∧ w'.frozen? ⟨g, i, none⟩ = false := by
  have hR := h.r _ (List.getElem_mem hi)
  have o1 : OwnV w' B 25 (.slice (some ⟨g, 0, none⟩) rs.length rs.length) (rs.map Ri.val) := by
    refine h.o.kept hg ?_
    rcases hR.1.apart h.o (by decide) with hh | hh
    · rw [hh]; exact .inr (by simp [Value.ownBlock])
    · exact .inr (Ne.symm hh)
  obtain ⟨g', e, _, hc⟩ := o1.cellAt (i := i) (by simpa using hi)
  injection e with e
  injection e with e
  subst e
  exact ⟨⟨_, hc⟩, o1.frozenAt (by simp) i⟩
theorem _root_.Go.Proofs.Ytojmcjkeniepcaa.Kit.RiRows.cell (h : RiRows w B g rs) {i : Nat} (hi : i < rs.length) : w.cell? ⟨g, i, none⟩ = some (.slice rs[i].A rs[i].zs.length rs[i].cap) := by
  obtain ⟨g', e, _, hc⟩ := h.o.cellAt (i := i) (by simpa using hi)
  injection e with e
  injection e with e
  subst e
  rw [hc, List.getElem_map]
  rfl
theorem rows_new {N : Nat} {B : Nat} (h : OwnV w B 25 (.slice (some ⟨g, 0, none⟩) N N) (List.replicate N (.slice none 0 0))) : RiRows w B g (List.replicate N (⟨none, 0, []⟩ : Ri)) := by
  refine ⟨by rw [List.length_replicate, List.map_replicate]; exact h, fun r hr => ?_, fun i j hi hj _ => .inl ?_⟩
  · obtain rfl := List.eq_of_mem_replicate hr
    exact ⟨Own.nil _ _ _ _, fun z hz => absurd hz (by simp)⟩
  · rw [List.getElem_replicate]
    rfl
end
theorem rows_nil (L : List (List Int)) : rowsL (List.replicate L.length (⟨none, 0, []⟩ : Ri)) = midL L 0 0 := by
  rw [midL_zero]
  unfold rowsL turnTo
  rw [List.map_replicate]
  refine List.ext_getElem? fun i => ?_
  by_cases hi : i < L.length
  · rw [List.getElem?_eq_getElem (by simpa using hi), List.getElem?_eq_getElem (by simpa using hi)]
    simp
  · rw [List.getElem?_eq_none (by simp; omega), List.getElem?_eq_none (by simp; omega)]
theorem midL_getD {L : List (List Int)} {m k i : Nat} (h : i < L.length) : (midL L m k).getD i [] = midRow L m k i := by
  unfold midL
  rw [List.getD, List.getElem?_map, List.getElem?_range h]
  rfl
def GTurned (L : List (List Int)) (w : World) (e : Ending) (w' : World) : Prop := if RightL L then GivesIE (turnedL L) 0 w e w' else GivesIE [] 3 w e w'

set_option maxRecDepth 100000 in
set_option maxHeartbeats 12800000 in
theorem gturned_any (A : Option Addr) (rs : List Ri) (c : Nat) (w : World) (hr : HoldsI w w.heap.size A rs) :
    Calls Try.prog 18 #[.slice A rs.length c] w (GTurned (rowsL rs) w) := by
  by_cases h40 : 4096 < rs.length
  · have d0 : decide ((4096 : Int) < (rs.length : Int)) = true := decide_eq_true (by omega)
    clear hr
    go_enter Try.func18, Try.ntmps18
    go_wp2_with fail
    go_ret2
    unfold GTurned
    rw [if_neg (fun h => by have := h.1; rw [rowsL_length] at this; omega)]
    exact gives_none (Below.refl _ _)
  · have d0 : decide ((4096 : Int) < (rs.length : Int)) = false := decide_eq_false (by omega)
    have HBAD : Hid (∀ i, ∀ h : i < rs.length, ∀ k, k < rs[i].zs.length → ¬ GoodAt rs.length i rs[i].zs k → ∀ w', Below w.heap.size w w' → GTurned (rowsL rs) w (.returned (.tuple #[.slice none 0 0, .int .i64 3])) w') := Lib.hid (fun i h k hk hg w' hb => by
      unfold GTurned
      rw [if_neg]
      · exact gives_none hb
      · intro hR
        refine hg ?_
        have := hR.2 i (by rw [rowsL_length]; exact h)
        rw [rowsL_length, rowsL_getD h] at this
        exact this k hk)
    obtain ⟨n, hn⟩ : ∃ n, rs.length = n := ⟨_, rfl⟩
    have HLen : Hid ((rowsL rs).length = n) := Lib.hid (by rw [rowsL_length]; exact hn)
    have HGD : Hid (∀ i, ∀ h : i < rs.length, (rowsL rs).getD i [] = rs[i].zs) := Lib.hid (fun i h => rowsL_getD h)
    have HNil := Lib.hid (rows_nil (rowsL rs))
    rw [HLen.out] at HNil
    have HN := Lib.hid hn
    generalize hL : rowsL rs = L at *
    rw [hn] at d0 ⊢
    have hn4 : n ≤ 4096 := by omega
    clear hn h40 hL
    go_enter Try.func18, Try.ntmps18
    go_wp2_with (at_make; refine wpList_make_vals _ rfl _ _ _ rfl elemR rfl n n rfl rfl rfl rfl (Nat.le_refl _) (by omega) ?_; intro w1 O1 B1 hz1)
    have R1 := rows_new O1
    clear O1
    go_loopw [17] (fun v wr => ∃ (m : Nat) (qs : List Ri), m ≤ n ∧ v = .int .i64 m ∧ rowsL qs = midL L m 0 ∧ (∀ i, i < m → GoodRow n i (L.getD i [])) ∧ RiRows wr w.heap.size w.heap.size qs ∧ Below w.heap.size w wr) (fun v _ => n - (intOf v).toNat)
    case atStart => exact ⟨0, _, Nat.zero_le _, rfl, HNil.out, fun i hi => absurd hi (by omega), R1, B1⟩
    case round =>
      clear R1 B1 hz1
      obtain ⟨m, qs, hm, rfl, hqs, hg, R, B⟩ := hrel
      obtain ⟨wo, rfl⟩ : ∃ wo : World, wo = wr := ⟨_, rfl⟩
      have HQS := Lib.hid hqs
      have HG := Lib.hid hg
      clear hqs hg
      by_cases hlt : m < n
      · have d1 : decide (m < n) = true := decide_eq_true hlt
        have hltr : m < rs.length := by rw [HN.out]; exact hlt
        obtain ⟨b, off, rfl, -, hc1, hl5, hl6, -, hh⟩ := riAt (hr.below B) hltr
        unfold maxLen at hl6
        have hl7 : rs[m].zs.length ≤ 9223372036854775807 := by omega
        clear hl5 hl6
        have i1 : (m : Int) < (n : Int) := by omega
        have HB1 := Lib.hid (HBAD.out m hltr)
        have HLm : Hid (L.getD m [] = rs[m].zs) := Lib.hid (HGD.out m hltr)
        have HNX : Hid (GoodRow n m rs[m].zs → ∀ j, j < m + 1 → GoodRow n j (L.getD j [])) := Lib.hid (fun h j hj => by
          by_cases hji : j < m
          · exact HG.out j hji
          · obtain rfl : j = m := by omega
            rw [HLm.out]; exact h)
        have HH := Lib.hid (hh.below (Below.refl _ _))
        rw [HN.out] at HB1
        clear hr HBAD hh HNil
        obtain ⟨A5, c5, l, hx⟩ : ∃ A5 c5 l, rs[m] = ⟨A5, c5, l⟩ := ⟨_, _, _, rfl⟩
        rw [hx] at hc1 HB1 HLm HNX HH hl7
        simp only at hc1 HB1 HLm HNX HH hl7
        clear hx
        go_wp2_with fail
        go_loopw [24] (fun v wr => ∃ (k : Nat) (qs : List Ri), k ≤ l.length ∧ v = .int .i64 k ∧ rowsL qs = midL L m k ∧ (∀ j, j < k → GoodAt n m l j) ∧ RiRows wr w.heap.size w.heap.size qs ∧ Below w.heap.size w wr ∧ Holds wr w.heap.size .i64 A5 l) (fun v _ => l.length - (intOf v).toNat)
        case atStart => exact ⟨0, qs, Nat.zero_le _, rfl, HQS.out, fun j hj => absurd hj (by omega), R, B, HH.out⟩
        case round =>
          clear hc1 R B HH HQS qs
          obtain ⟨k, qs, hk, rfl, hqs, hgk, R, B, hh⟩ := hrel
          obtain ⟨wi, rfl⟩ : ∃ wi : World, wi = wr := ⟨_, rfl⟩
          have HGK := Lib.hid hgk
          have HQS := Lib.hid hqs
          clear hgk hqs
          by_cases hlk : k < l.length
          · have dk : decide (k < l.length) = true := decide_eq_true hlk
            obtain ⟨b2, o2, rfl, -, hcl⟩ := hh (by omega)
            have q2 := hcl k hlk
            have i2 : (k : Int) < (l.length : Int) := by omega
            have HB2 := Lib.hid (fun h => HB1.out k hlk h wi B)
            have HQ3 : Hid (0 < k → wi.cell? ⟨b2, o2 + (k - 1), none⟩ = some (.int .i64 (l.getD (k - 1) 0))) := Lib.hid (fun h => hcl (k - 1) (by omega))
            have HN2 : Hid (GoodAt n m l k → ∀ j, j < k + 1 → GoodAt n m l j) := Lib.hid (fun h j hj => by
              by_cases hjk : j < k
              · exact HGK.out j hjk
              · obtain rfl : j = k := by omega
                exact h)
            have HMD : Hid (GoodAt n m l k → ∀ i : Nat, l.getD k 0 = (i : Int) → i < n → midL L m (k + 1) = (midL L m k).set i (midRow L m k i ++ [(m : Int)])) := Lib.hid (fun h i hi hin => by
              refine midL_next HLm.out (fun j hj => ?_) hlk hi (by rw [HLen.out]; exact hin)
              have := good_lt k (fun j hj => HN2.out h j (by omega)) j hj
              omega)
            have HGA : Hid (GoodAt n m l k ↔ (0 ≤ l.getD k 0 ∧ l.getD k 0 < n ∧ l.getD k 0 ≠ m ∧ (0 < k → l.getD (k - 1) 0 < l.getD k 0))) := Lib.hid Iff.rfl
            generalize hpg : GoodAt n m l k = PG at HB2 HN2 HMD HGA
            generalize l.getD k 0 = x at *
            generalize l.getD (k - 1) 0 = y at *
            clear hpg hcl HB1
            by_cases hx0 : x < 0
            · have e1 : decide (x < 0) = true := decide_eq_true hx0
              go_wp2_with fail
              go_ret2
              exact HB2.out (fun h => by have := HGA.out.1 h; omega)
            · have e1 : decide (x < 0) = false := decide_eq_false hx0
              by_cases hxn : (n : Int) ≤ x
              · have e2 : decide ((n : Int) ≤ x) = true := decide_eq_true hxn
                go_wp2_with fail
                go_ret2
                exact HB2.out (fun h => by have := HGA.out.1 h; omega)
              · have e2 : decide ((n : Int) ≤ x) = false := decide_eq_false hxn
                obtain ⟨i, rfl⟩ : ∃ i : Nat, x = i := ⟨x.toNat, by omega⟩
                have hin : i < n := by omega
                by_cases hxi : i = m
                · have e3 : ((i : Int) == (m : Int)) = true := by rw [hxi]; simp
                  have HB3 := Lib.hid (HB2.out (fun h => by have := HGA.out.1 h; omega))
                  clear hxi
                  go_wp2_with fail
                  go_ret2
                  exact HB3.out
                · have e3 : ((i : Int) == (m : Int)) = false := by simp; omega
                  have hqlen : qs.length = n := by have := congrArg List.length HQS.out; rw [midL_length, HLen.out] at this; simpa [rowsL] using this
                  have hiq : i < qs.length := by omega
                  have q4 := R.cell hiq
                  have hzs : qs[i].zs = midRow L m k i := by rw [← rowsL_getD hiq, HQS.out, midL_getD (by rw [HLen.out]; exact hin)]
                  have Rx := Lib.hid (fun w' x => RiRows.grow (w' := w') (x := x) (R.below (below_last wi (.cells #[.int .i64 m] 3))) hiq)
                  have Ry := Lib.hid (fun w' => RiRows.mid (w' := w') (R.below (below_last wi (.cells #[.int .i64 m] 3))) hiq)
                  have hO := (R.r _ (List.getElem_mem hiq)).1
                  have hil : qs[i].zs.length ≤ m + 1 := by rw [hzs]; exact midRow_length _ _ _ _
                  have HIN : Hid (In64 (qs[i].zs ++ [(m : Int)])) := Lib.hid (by rw [hzs]; exact midRow_in _ _ _ _ (by omega))
                  have HSET : Hid (PG → ∀ q : Ri, q.zs = qs[i].zs ++ [(m : Int)] → rowsL (qs.set i q) = midL L m (k + 1)) := Lib.hid (fun h q hq => by rw [rowsL_set, HQS.out, HMD.out h i rfl hin, hq, hzs])
                  have hzB := Lib.hid B.size
                  have HNE := Lib.hid hxi
                  obtain ⟨Aq, cq, zs, hx⟩ : ∃ Aq cq zs, qs[i] = ⟨Aq, cq, zs⟩ := ⟨_, _, _, rfl⟩
                  rw [hx] at q4 Rx Ry hO hil HIN HSET
                  simp only [Ri.val] at q4 Rx Ry hO hil HIN HSET
                  clear hx hzs hqlen R HMD hxi
                  by_cases hk0 : 0 < k
                  · have e4 : decide ((0 : Int) < (k : Int)) = true := decide_eq_true (by omega)
                    have q3 := HQ3.out hk0
                    have i3 : (k : Int) - 1 < (l.length : Int) := by omega
                    have i4 : (1 : Int) ≤ (k : Int) := by omega
                    have i5 : (k : Int) ≤ 9223372036854775807 := by omega
                    by_cases hyx : (i : Int) ≤ y
                    · have e5 : decide ((i : Int) ≤ y) = true := decide_eq_true hyx
                      have HB3 := Lib.hid (HB2.out (fun h => by have := (HGA.out.1 h).2.2.2 hk0; omega))
                      go_wp2_with fail
                      go_ret2
                      exact HB3.out
                    · have e5 : decide ((i : Int) ≤ y) = false := decide_eq_false hyx
                      have HPG := Lib.hid (HGA.out.2 ⟨by omega, by omega, fun h => HNE.out (by omega), fun _ => by omega⟩)
                      go_wp2_with (at_builtin; refine wpList_append_ints (ys := [(m : Int)]) _ rfl (.tmp 60) (.tmp 62) 25 rfl elemI (hO.alloc _) rfl rfl (Holds.new wi .i64 m 3) (by simp; omega) (by have := hzB.out; simp; omega) ?_; intro v' w2 h1 h2 h3 h4; obtain ⟨⟨u5, q5⟩, f5⟩ := Ry.out w2 h2; obtain ⟨A7, c7, rfl, -, -, -⟩ := h1.opened; have HX := Lib.hid (Rx.out w2 ⟨A7, c7, zs ++ [(m : Int)]⟩ ⟨h1, HIN.out⟩ h2 h4); simp only [Ri.val] at HX; generalize (zs ++ [(m : Int)]).length = NN at *; have hb2 : Below w.heap.size wi w2 := ((below_last wi (.cells #[.int .i64 m] 3)).mono hzB.out).trans h3; clear h1 h3 h4 Rx Ry)
                      go_roundw
                      case rel => exact ⟨k + 1, _, by omega, by go_num, HSET.out HPG.out _ rfl, HN2.out HPG.out, HX.out, (B.trans hb2).setCell (by simp) _, hh.below (hb2.setCell (by simp) _)⟩
                      case measure => simp [intOf]; omega
                  · have e4 : decide ((0 : Int) < (k : Int)) = false := decide_eq_false (by omega)
                    have HPG := Lib.hid (HGA.out.2 ⟨by omega, by omega, fun h => HNE.out (by omega), fun h => absurd h hk0⟩)
                    go_wp2_with (at_builtin; refine wpList_append_ints (ys := [(m : Int)]) _ rfl (.tmp 60) (.tmp 62) 25 rfl elemI (hO.alloc _) rfl rfl (Holds.new wi .i64 m 3) (by simp; omega) (by have := hzB.out; simp; omega) ?_; intro v' w2 h1 h2 h3 h4; obtain ⟨⟨u5, q5⟩, f5⟩ := Ry.out w2 h2; obtain ⟨A7, c7, rfl, -, -, -⟩ := h1.opened; have HX := Lib.hid (Rx.out w2 ⟨A7, c7, zs ++ [(m : Int)]⟩ ⟨h1, HIN.out⟩ h2 h4); simp only [Ri.val] at HX; generalize (zs ++ [(m : Int)]).length = NN at *; have hb2 : Below w.heap.size wi w2 := ((below_last wi (.cells #[.int .i64 m] 3)).mono hzB.out).trans h3; clear h1 h3 h4 Rx Ry)
                    go_roundw
                    case rel => exact ⟨k + 1, _, by omega, by go_num, HSET.out HPG.out _ rfl, HN2.out HPG.out, HX.out, (B.trans hb2).setCell (by simp) _, hh.below (hb2.setCell (by simp) _)⟩
                    case measure => simp [intOf]; omega
          · have dk : decide (k < l.length) = false := decide_eq_false hlk
            go_wp2_with fail
            go_roundw
            case rel => exact ⟨m + 1, qs, by omega, by go_num, by rw [HQS.out, midL_all L m k (by rw [HLm.out]; omega)], HNX.out (fun j hj => HGK.out j (by omega)), R, B⟩
            case measure => simp [intOf]; omega
      · have d1 : decide (m < n) = false := decide_eq_false hlt
        obtain rfl : m = n := by omega
        have hql : qs.length = m := by have := congrArg List.length HQS.out; rw [midL_length, HLen.out] at this; simpa [rowsL] using this
        have HR := Lib.hid R
        clear hr R
        go_wp2_with fail
        go_ret2
        unfold GTurned
        have hR : RightL L := ⟨by rw [HLen.out]; omega, fun i hi => by rw [HLen.out]; exact HG.out i (by rw [HLen.out] at hi; exact hi)⟩
        rw [if_pos hR]
        refine ⟨some ⟨w.heap.size, 0, none⟩, qs.length, qs, by rw [hql]; rfl, Nat.le_refl _, by unfold maxLen; omega, ?_, ?_, B⟩
        · rw [HQS.out, midL_zero]
          unfold turnedL
          rw [HLen.out]
        · exact HR.out.o.ints HR.out.r
end Go.Proofs.Ytojmcjkeniepcaa.Gr
