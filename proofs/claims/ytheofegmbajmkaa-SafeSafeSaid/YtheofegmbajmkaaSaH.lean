/-
  Layer 20, safe: Check: the document's. Conditions: as each theorem names.
-/
import Derived.Test.YtheofegmbajmkaaSaG
namespace Go.Proofs.Ytheofegmbajmkaa.Sa
open Go.ChangeShapes Go.WideShapes Go.ChangeAt Go.RowKit Go.Proofs.Ytheofegmbajmkaa.Kit Go.Proofs.Ytheofegmbajmkaa.Ordr Go.Proofs.Ytheofegmbajmkaa.Blk Go.Proofs.Ytheofegmbajmkaa.Pl

theorem holds_first {w : World} {B : Nat} {k : IntKind} {A : Option Addr} {xs : List Int} (n : Nat) (h : Holds w B k A xs) : Holds w B k A (xs.take n) := by
  intro hx
  rw [List.length_take] at hx
  obtain ⟨b, off, rfl, hb, hcs⟩ := h (by omega)
  refine ⟨b, off, rfl, hb, fun j hj => ?_⟩
  rw [List.length_take] at hj
  rw [hcs j (by omega)]
  simp [List.getD, List.getElem?_take, show j < n by omega]

set_option maxRecDepth 100000 in
set_option maxHeartbeats 6400000 in
theorem rcheck_any (P : Option Addr) (ps : List Plan) (pc : Nat) (A : Option Addr) (xs : List Int) (c : Nat) (bl old new : Int) (w : World) (hp : ps.length ≤ 40) (hps : ∀ p ∈ ps, p.ss.length ≤ 60) (hl : xs.length ≤ 60) (hxc : xs.length ≤ c) (hcm : c ≤ maxLen) (hnew : -9223372036854775808 ≤ new ∧ new ≤ 9223372036854775807)
    (hrp : HoldsP w w.heap.size P ps) (hr : Holds w w.heap.size .i64 A xs) :
    Calls Try.prog 9 #[.slice P ps.length pc, .slice A xs.length c, .int .i64 bl, .int .i64 old, .int .i64 new] w (Gives (.int .i64 (checkE ps xs bl old new)) w) := by
  obtain ⟨D, hD⟩ : ∃ D, checkE ps xs bl old new = D := ⟨_, rfl⟩
  have HD := Lib.hid hD
  rw [hD]
  clear hD
  unfold checkE at HD
  unfold maxLen at hcm
  have GA := ahead_any P ps.length pc A xs c bl old new w hp hl hnew hr
  have hbd := ahead_bd ps.length xs bl old new
  by_cases h0 : aheadE ps.length xs bl old new = 0
  · obtain ⟨hA, hO⟩ := ahead_zero h0
    rw [h0] at GA
    rw [if_pos h0] at HD
    have GAH := Lib.hid GA
    have HB := Lib.hid (order_bd hO)
    have HX := Lib.hid hO.2.1
    have HST := Lib.hid (fun (k : Nat) (h : k < xs.length) => goE_step ps bl old new xs h)
    have HEN := Lib.hid (goE_end ps bl old new xs)
    have HPB := Lib.hid (fun W (h : Below w.heap.size w W) => (hrp.below h).more h.size)
    have HRB := Lib.hid (fun W (h : Below w.heap.size w W) (k : Nat) => holds_first k ((hr.below h).more h.size))
    have HPA := Lib.hid (fun (k : Nat) (h : k < ps.length) => planS_at h)
    have HPS := Lib.hid (fun (k : Nat) (h : k < ps.length) => hps ps[k] (List.getElem_mem h))
    have hA2 := hA
    unfold ArgOk at hA2
    clear h0 hA hO GA hrp hps hbd
    go_enter Try.func9, Try.ntmps9
    go_wp2_with (go_at_call 18; refine GAH.out.mono ?_; rintro e w1 ⟨rfl, rfl⟩)
    go_loopw [25] (fun s wr => ∃ k : Nat, k ≤ xs.length ∧ s = .int .i64 k ∧ goE ps bl old new (xs.take k) (xs.drop k) = D ∧ Below w.heap.size w wr) (fun s _ => xs.length - (intOf s).toNat)
    case atStart => exact ⟨0, Nat.zero_le _, rfl, HD.out, Below.refl _ _⟩
    case round =>
      obtain ⟨k, hk, rfl, hg, hb⟩ := hrel
      have HG := Lib.hid hg
      clear hg
      by_cases hlt : k < xs.length
      · have hrt := HRB.out wr.drew (⟨hb.os, hb.tape, hb.output, hb.size, hb.block⟩ : Below w.heap.size w wr.drew) k
        obtain ⟨b, off, rfl, hbo, hcs⟩ := (hr.below hb) (by omega)
        have hck := hcs k hlt
        have HSK := Lib.hid (HST.out k hlt)
        have hrg := HX.out (xs.getD k 0) (getD_mem hlt)
        have d1 : decide ((k : Int) < (xs.length : Int)) = true := decide_eq_true (by omega)
        have d2 : decide (k < xs.length) = true := decide_eq_true hlt
        clear hcs
        obtain ⟨z, hz⟩ : ∃ z, xs.getD k 0 = z := ⟨_, rfl⟩
        rw [hz] at hck hrg HSK
        clear hz
        obtain ⟨j, rfl⟩ : ∃ j : Nat, z = (j : Int) := ⟨z.toNat, by omega⟩
        have hjn : j < ps.length := by omega
        have hp9 := HPA.out j hjn
        have hlen := HPS.out j hjn
        have hsb := hb.size
        have BD : Below w.heap.size w wr.drew := ⟨hb.os, hb.tape, hb.output, hb.size, hb.block⟩
        obtain ⟨bp, offp, hPe, hbp, hcp, hq1, hq2, hq3⟩ := planAt (HPB.out _ hb) hjn
        subst hPe
        have GZ := Lib.hid (fun W => rsize_any (j : Int) bl new W (by omega) (by omega) (by omega))
        rw [hp9] at HSK
        have hs9 : HoldsS wr.drew ps[j].A ps[j].ss := hq3
        generalize sizeE (j : Int) bl new = want at *
        generalize ps[j] = p9 at *
        have hkl : (xs.take k).length = k := by rw [List.length_take]; omega
        have GC := one_any bl old (some ⟨b, off, none⟩) (xs.take k) c p9.A p9.ss p9.cap want wr.drew hlen hq1 hq2 hs9 hrt (by omega) (by omega) (fun i hi => by have := HB.out k i hi; omega)
        rw [hkl] at GC
        obtain ⟨A9, c9, ss9⟩ := p9
        simp only at hcp HSK GC hq1 hq2
        have hkc : k ≤ c := by omega
        clear hq3 hs9 hp9 hlen hrt hkl
        obtain ⟨E, hE⟩ : ∃ E, oneE ss9 (xs.take k) bl old want = E := ⟨_, rfl⟩
        rw [hE] at GC HSK
        have GCH := Lib.hid GC
        clear GC hE
        by_cases hE0 : E = 0
        · subst hE0
          rw [if_pos rfl] at HSK
          have HGN := Lib.hid (HSK.out.symm.trans HG.out)
          go_wp2_with fail
          go_region_law (first
            | (go_simp; go_at_call 20; refine (GZ.out _).mono ?_; rintro e w2 ⟨rfl, rfl⟩)
            | (go_simp; go_at_call 19; refine GCH.out.mono ?_; rintro e w3 ⟨rfl, hb3⟩; have B3 := BD.trans (hb3.mono (show w.heap.size ≤ wr.drew.heap.size from hsb))))
          all_goals
            go_wp2_with fail
            go_roundw
            case rel => exact ⟨k + 1, hlt, by go_num, HGN.out, B3⟩
            case measure => simp [intOf] <;> omega
        · rw [if_neg hE0] at HSK
          obtain rfl : D = E := (HSK.out.symm.trans HG.out).symm
          have e1 : (D != 0) = true := by rw [bne_iff_ne]; exact hE0
          have e2 : (D == 0) = false := by rw [beq_eq_false_iff_ne]; exact hE0
          go_wp2_with fail
          go_region_law (first
            | (go_simp; go_at_call 20; refine (GZ.out _).mono ?_; rintro e w2 ⟨rfl, rfl⟩)
            | (go_simp; go_at_call 19; refine GCH.out.mono ?_; rintro e w3 ⟨rfl, hb3⟩; have B3 := BD.trans (hb3.mono (show w.heap.size ≤ wr.drew.heap.size from hsb))))
          all_goals
            go_wp2_with fail
            go_ret
            exact ⟨rfl, B3⟩
      · obtain rfl : k = xs.length := by omega
        have d1 : decide ((xs.length : Int) < (xs.length : Int)) = false := decide_eq_false (by omega)
        have d2 : decide (xs.length < xs.length) = false := decide_eq_false (by omega)
        obtain rfl : D = 0 := HG.out.symm.trans (HEN.out _)
        go_wp2_with fail
        go_ret
        exact ⟨rfl, hb⟩
  · rw [if_neg h0] at HD
    have GAH := Lib.hid GA
    obtain ⟨E, hE⟩ : ∃ E, aheadE ps.length xs bl old new = E := ⟨_, rfl⟩
    rw [hE] at HD GAH h0 hbd
    obtain rfl := HD.out
    have e1 : (E != 0) = true := by rw [bne_iff_ne]; exact h0
    have e2 : (E == 0) = false := by rw [beq_eq_false_iff_ne]; exact h0
    clear hE hrp hr HD GA
    go_enter Try.func9, Try.ntmps9
    go_wp2_with (go_at_call 18; refine GAH.out.mono ?_; rintro e w1 ⟨rfl, rfl⟩)
    go_ret
    exact ⟨rfl, Below.refl _ _⟩
end Go.Proofs.Ytheofegmbajmkaa.Sa
