/-
  Layer 20, safe: Check: the program's. Conditions: as each theorem names.
-/
import Derived.Test.YtheofegmbajmkaaSaF
import Derived.Test.YtheofegmbajmkaaPlt
namespace Go.Proofs.Ytheofegmbajmkaa.Sa
open Go.ChangeShapes Go.WideShapes Go.ChangeAt Go.RowKit Go.Proofs.Ytheofegmbajmkaa.Kit Go.Proofs.Ytheofegmbajmkaa.Ordr Go.Proofs.Ytheofegmbajmkaa.Blk Go.Proofs.Ytheofegmbajmkaa.Pl

/-- The plan of a block. -/
def planS (ps : List Plan) (i : Int) : List Stp := ((ps.map Plan.ss)[i.toNat]?).getD []
theorem planS_at {ps : List Plan} {k : Nat} (h : k < ps.length) : planS ps (k : Int) = ps[k].ss := by
  unfold planS
  simp [h]
/-- The first error, block by block in the order, behind those done. -/
def goE (ps : List Plan) (bl old new : Int) : List Int → List Int → Int
  | _, [] => 0
  | l, i :: r => if oneE (planS ps i) l bl old (sizeE i bl new) = 0 then goE ps bl old new (l ++ [i]) r else oneE (planS ps i) l bl old (sizeE i bl new)
theorem goE_step (ps : List Plan) (bl old new : Int) (xs : List Int) {k : Nat} (h : k < xs.length) : goE ps bl old new (xs.take k) (xs.drop k) =
    if oneE (planS ps (xs.getD k 0)) (xs.take k) bl old (sizeE (xs.getD k 0) bl new) = 0 then goE ps bl old new (xs.take (k + 1)) (xs.drop (k + 1)) else oneE (planS ps (xs.getD k 0)) (xs.take k) bl old (sizeE (xs.getD k 0) bl new) := by
  have e : xs.getD k 0 = xs[k] := by simp [List.getD, List.getElem?_eq_getElem h]
  rw [Sa.take_next xs k h, List.drop_eq_getElem_cons h, e]
  rfl
theorem goE_end (ps : List Plan) (bl old new : Int) (xs l : List Int) : goE ps bl old new l (xs.drop xs.length) = 0 := by
  rw [List.drop_length]; rfl
/-- Check's answer. -/
def checkE (ps : List Plan) (xs : List Int) (bl old new : Int) : Int := if aheadE ps.length xs bl old new = 0 then goE ps bl old new [] xs else aheadE ps.length xs bl old new
theorem ahead_zero {np : Nat} {xs : List Int} {bl old new : Int} (h : aheadE np xs bl old new = 0) : ArgOk bl old new ∧ OrderOk xs np := by
  unfold aheadE at h
  split at h
  · rename_i h1
    split at h
    · split at h
      · rename_i h3
        exact ⟨h1, h3⟩
      · cases h
    · cases h
  · cases h
theorem ahead_bd (np : Nat) (xs : List Int) (bl old new : Int) : aheadE np xs bl old new = 0 ∨ aheadE np xs bl old new = 1 ∨ aheadE np xs bl old new = 23 := by
  unfold aheadE
  split
  · split
    · split
      · exact .inl rfl
      · exact .inr (.inr rfl)
    · exact .inr (.inr rfl)
  · exact .inr (.inl rfl)
theorem order_bd {xs : List Int} {np : Nat} (h : OrderOk xs np) (k : Nat) : ∀ i ∈ xs.take k, 0 ≤ i ∧ i < (np : Int) := fun i hi => h.2.1 i (List.mem_of_mem_take hi)

theorem Place.put {w : World} {g gT n : Nat} {bl old : Int} {l : List Int} (h : Place w g gT n bl old l) (k : Nat) : Place (w.setCell ⟨gT, k, none⟩ (.bool true)) g gT n bl old (l ++ [(k : Int)]) :=
  ⟨h.o.far h.d _, there_put h.r k, h.d⟩

set_option maxRecDepth 100000 in
set_option maxHeartbeats 6400000 in
theorem scheck_any (P : Option Addr) (ps : List Plan) (pc : Nat) (A : Option Addr) (xs : List Int) (c : Nat) (bl old new : Int) (w : World) (hp : ps.length ≤ 40) (hps : ∀ p ∈ ps, p.ss.length ≤ 60) (hl : xs.length ≤ 60) (hnew : -9223372036854775808 ≤ new ∧ new ≤ 9223372036854775807)
    (hrp : HoldsP w w.heap.size P ps) (hr : Holds w w.heap.size .i64 A xs) :
    Calls Try.prog 8 #[.slice P ps.length pc, .slice A xs.length c, .int .i64 bl, .int .i64 old, .int .i64 new] w (Gives (.int .i64 (checkE ps xs bl old new)) w) := by
  obtain ⟨D, hD⟩ : ∃ D, checkE ps xs bl old new = D := ⟨_, rfl⟩
  have HD := Lib.hid hD
  rw [hD]
  clear hD
  unfold checkE at HD
  have GA := asked_any P ps.length pc A xs c bl old new w hp hl hnew hr
  have hbd := ahead_bd ps.length xs bl old new
  by_cases h0 : aheadE ps.length xs bl old new = 0
  · obtain ⟨hA, hO⟩ := ahead_zero h0
    rw [h0] at GA
    rw [if_pos h0] at HD
    have GAH := Lib.hid GA
    have HB := Lib.hid (order_bd hO)
    have HX := Lib.hid hO.2.1
    have HST := Lib.hid (fun (k : Nat) (h : k < xs.length) => goE_step ps bl old new xs h)
    have HEN := Lib.hid (goE_end ps bl old new xs)
    have HPB := Lib.hid (fun W (h : Below w.heap.size w W) => (hrp.below h).more h.size)
    have HPA := Lib.hid (fun (k : Nat) (h : k < ps.length) => planS_at h)
    have HPS := Lib.hid (fun (k : Nat) (h : k < ps.length) => hps ps[k] (List.getElem_mem h))
    have hA2 := hA
    unfold ArgOk at hA2
    have hmk : ∀ W, (Instr.makeSlice 43 (.int .i64 (ps.length : Int)) (.int .i64 (ps.length : Int))).run Try.prog W = .ok (.slice (some ⟨W.heap.size, 0, none⟩) ps.length ps.length) (W.alloc (.cells (madeCells #[.bool false] ps.length) 4)) := fun W =>
      run_make_row' (P := Try.prog) 43 4 (.bool false) 1 Try.underlying43 (by kernel_rfl) rfl .i64 .i64 ps.length (by omega) (by omega) W
    have HPL : Hid (∀ W : World, Place ((W.alloc (.cells (madeCells #[.bool false] ps.length) 4)).alloc (.cells #[.int .i64 bl, .int .i64 old, .slice (some ⟨W.heap.size, 0, none⟩) ps.length ps.length] 45)) (W.heap.size + 1) W.heap.size ps.length bl old []) := Lib.hid fun W => by
      refine ⟨?_, ?_, by omega⟩
      · have := Block.new (W.alloc (.cells (madeCells #[.bool false] ps.length) 4)) 45 #[.int .i64 bl, .int .i64 old, .slice (some ⟨W.heap.size, 0, none⟩) ps.length ps.length]
        simpa using this
      · exact ((World.rowIs_made W (.bool false) ps.length 4).congr fun i _ => by unfold thereF; simp).alloc _
    clear h0 hA hO GA hrp hps hbd
    go_enter Try.func8, Try.ntmps8
    go_wp2_with (go_at_call 15; refine GAH.out.mono ?_; rintro e w1 ⟨rfl, hb1⟩; have P1 := HPL.out w1)
    have B1 := (hb1.alloc hb1.size (.cells (madeCells #[.bool false] ps.length) 4))
    have B2 := (B1.alloc B1.size (.cells #[.int .i64 bl, .int .i64 old, .slice (some ⟨w1.heap.size, 0, none⟩) ps.length ps.length] 45))
    have hs1 := hb1.size
    go_loopw [34] (fun s wr => ∃ k : Nat, k ≤ xs.length ∧ s = .int .i64 k ∧ goE ps bl old new (xs.take k) (xs.drop k) = D ∧ Place wr (w1.heap.size + 1) w1.heap.size ps.length bl old (xs.take k) ∧ Below w.heap.size w wr) (fun s _ => xs.length - (intOf s).toNat)
    case atStart => exact ⟨0, Nat.zero_le _, rfl, HD.out, P1, B2⟩
    case round =>
      obtain ⟨k, hk, rfl, hg, hP, hb⟩ := hrel
      have HG := Lib.hid hg
      clear hg P1 B1 B2
      by_cases hlt : k < xs.length
      · obtain ⟨b, off, rfl, hbo, hcs⟩ := (hr.below hb) (by omega)
        have hck := hcs k hlt
        have HSK := Lib.hid (HST.out k hlt)
        have HTK := Lib.hid (Sa.take_next xs k hlt)
        have hrg := HX.out (xs.getD k 0) (getD_mem hlt)
        have d1 : decide ((k : Int) < (xs.length : Int)) = true := decide_eq_true (by omega)
        have d2 : decide (k < xs.length) = true := decide_eq_true hlt
        clear hcs
        obtain ⟨z, hz⟩ : ∃ z, xs.getD k 0 = z := ⟨_, rfl⟩
        rw [hz] at hck hrg HSK HTK
        clear hz
        obtain ⟨j, rfl⟩ : ∃ j : Nat, z = (j : Int) := ⟨z.toNat, by omega⟩
        have hjn : j < ps.length := by omega
        have hp9 := HPA.out j hjn
        have hlen := HPS.out j hjn
        have hsb := hb.size
        have BD : Below w.heap.size w wr.drew := ⟨hb.os, hb.tape, hb.output, hb.size, hb.block⟩
        obtain ⟨bp, offp, hPe, hbp, hcp, hq1, hq2, hq3⟩ := planAt (HPB.out _ hb) hjn
        subst hPe
        have hplt := hP.lt
        have GZ := Lib.hid (fun W => size_any (j : Int) bl new W (by omega) (by omega) (by omega))
        have PD : Place wr.drew (w1.heap.size + 1) w1.heap.size ps.length bl old (xs.take k) := ⟨hP.o, hP.r.drew, hP.d⟩
        rw [hp9] at HSK
        have hs9 : HoldsS wr.drew ps[j].A ps[j].ss := hq3
        generalize sizeE (j : Int) bl new = want at *
        generalize ps[j] = p9 at *
        have GC := check_any (w1.heap.size + 1) w1.heap.size ps.length bl old (xs.take k) p9.A p9.ss p9.cap want wr.drew PD hlen hq1 hq2 hs9 hp (by omega) (HB.out k)
        obtain ⟨A9, c9, ss9⟩ := p9
        simp only at hcp HSK GC hq1 hq2
        have HW3 := Lib.hid (fun W (h : Below wr.drew.heap.size wr.drew W) => PD.below h hplt.1 hplt.2)
        clear hq3 hs9 PD hP hp9 hlen
        obtain ⟨E, hE⟩ : ∃ E, oneE ss9 (xs.take k) bl old want = E := ⟨_, rfl⟩
        rw [hE] at GC HSK
        have GCH := Lib.hid GC
        clear GC hE
        by_cases hE0 : E = 0
        · subst hE0
          rw [if_pos rfl] at HSK
          have HGN := Lib.hid (HSK.out.symm.trans HG.out)
          go_wp2_with fail
          go_region_law (first
            | (go_simp; go_at_call 17; refine (GZ.out _).mono ?_; rintro e w2 ⟨rfl, rfl⟩)
            | (go_simp; go_at_call 16; refine GCH.out.mono ?_; rintro e w3 ⟨rfl, hb3⟩; have B3 := BD.trans (hb3.mono (show w.heap.size ≤ wr.drew.heap.size from hsb)); have P3 := HW3.out w3 hb3))
          all_goals
            have r2 := P3.o.cell 2
            have fz := P3.r.frozen j
            have th := P3.r.cell hjn
            have PN := P3.put j
            rw [← HTK.out] at PN
            have PNH := Lib.hid PN
            have BN := B3.setCell (p := ⟨w1.heap.size, j, none⟩) hs1 (.bool true)
            clear PN P3
            go_wp2_with fail
            go_roundw
            case rel => exact ⟨k + 1, hlt, by go_num, HGN.out, PNH.out, BN⟩
            case measure => simp [intOf] <;> omega
        · rw [if_neg hE0] at HSK
          obtain rfl : D = E := (HSK.out.symm.trans HG.out).symm
          have e1 : (D != 0) = true := by rw [bne_iff_ne]; exact hE0
          have e2 : (D == 0) = false := by rw [beq_eq_false_iff_ne]; exact hE0
          go_wp2_with fail
          go_region_law (first
            | (go_simp; go_at_call 17; refine (GZ.out _).mono ?_; rintro e w2 ⟨rfl, rfl⟩)
            | (go_simp; go_at_call 16; refine GCH.out.mono ?_; rintro e w3 ⟨rfl, hb3⟩; have B3 := BD.trans (hb3.mono (show w.heap.size ≤ wr.drew.heap.size from hsb))))
          all_goals
            go_wp2_with fail
            go_ret
            exact ⟨rfl, B3⟩
      · obtain rfl : k = xs.length := by omega
        have d1 : decide ((xs.length : Int) < (xs.length : Int)) = false := decide_eq_false (by omega)
        have d2 : decide (xs.length < xs.length) = false := decide_eq_false (by omega)
        obtain rfl : D = 0 := HG.out.symm.trans (HEN.out _)
        clear hP
        go_wp2_with fail
        go_ret
        exact ⟨rfl, hb⟩
  · rw [if_neg h0] at HD
    have GAH := Lib.hid GA
    obtain ⟨E, hE⟩ : ∃ E, aheadE ps.length xs bl old new = E := ⟨_, rfl⟩
    rw [hE] at HD GAH h0 hbd
    obtain rfl := HD.out
    have e1 : (E != 0) = true := by rw [bne_iff_ne]; exact h0
    have e2 : (E == 0) = false := by rw [beq_eq_false_iff_ne]; exact h0
    clear hE hrp hr HD GA
    go_enter Try.func8, Try.ntmps8
    go_wp2_with (go_at_call 15; refine GAH.out.mono ?_; rintro e w1 ⟨rfl, hb1⟩)
    go_ret
    exact ⟨rfl, hb1⟩
end Go.Proofs.Ytheofegmbajmkaa.Sa
