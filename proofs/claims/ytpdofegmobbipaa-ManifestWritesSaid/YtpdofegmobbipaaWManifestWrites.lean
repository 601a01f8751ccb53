/-
  ManifestWrites: the walk: whether any manifest may be, its writing, or the error, are the document's; it is got as it was.
-/
import Derived.Test.YtpdofegmobbipaaMnN
import Derived.Test.YtpdofegmobbipaaMnM
import Derived.Deep.DeepCutAuto
namespace Go.Proofs.Ytpdofegmobbipaa.ManifestWrites
open Go.ChangeShapes Go.WideShapes Go.ChangeAt Go.RowKit Go.Proofs.Ytpdofegmobbipaa.Kit Go.Proofs.Ytpdofegmobbipaa.Mn

set_option maxRecDepth 100000 in
set_option maxHeartbeats 6400000 in
theorem walk (m : Man) (w : World) (ho : m.Ok) (hr : Holds w w.heap.size .i64 m.A m.ord) :
    Calls Try.prog 3 #[.agg m.cells.toArray] w fun e w' => e = .returned (.bool true) ∧ Below w.heap.size w w' := by
  have B1 := below_last w (.cells m.cells.toArray 27)
  have M1 : ManAt (w.alloc (.cells m.cells.toArray 27)) w.heap.size m := Block.new w _ _
  have f5 := M1.order ho
  have hord := ho.ordl
  unfold maxLen at hord
  have HL := Lib.hid (m.cells_length ho)
  have GA := Lib.hid (fun W => awake22_any W)
  obtain ⟨w1, hw1⟩ : ∃ w1, w.alloc (.cells m.cells.toArray 27) = w1 := ⟨_, rfl⟩
  rw [hw1] at B1 M1 f5
  have HW1 := Lib.hid hw1
  have R1 := Lib.hid (show Block w1 w.heap.size 27 m.cells.toArray from M1)
  have HB1 := Lib.hid B1
  clear hw1 M1 B1
  by_cases h6 : 60 < m.ord.length
  · have d6 : decide ((60 : Int) < (m.ord.length : Int)) = true := decide_eq_true (by omega)
    obtain ⟨L, hL⟩ : ∃ L, m.cells = L := ⟨_, rfl⟩
    rw [hL] at HW1 ⊢
    clear hr ho hL R1 HL
    generalize m.ord = ord at *
    go_enter Try.func3, Try.ntmps3
    go_upto_region 1 with fail
    rw [HW1.out]
    go_wp2_with (go_at_call 8; (with_reducible refine (GA.out _).mono ?_); rintro e w2 ⟨rfl, hb⟩)
    go_ret
    exact ⟨rfl, HB1.out.trans (hb.mono HB1.out.size)⟩
  have d6 : decide ((60 : Int) < (m.ord.length : Int)) = false := decide_eq_false (by omega)
  have HR := Lib.hid (fun W (hB : Below w.heap.size w W) => ((hr.below hB).more hB.size : Holds W W.heap.size .i64 m.A m.ord))
  have GP := Lib.hid (fun W (hB : Below w.heap.size w W) => mput_any m ho W (HR.out W hB) (by omega))
  have GRP := Lib.hid (fun W (hB : Below w.heap.size w W) => rmput_any m ho W (HR.out W hB) (by omega))
  have GM := Lib.hid (fun W (hB : Below w.heap.size w W) => may_any m ho W (HR.out W hB))
  have GRM := Lib.hid (fun W (hB : Below w.heap.size w W) => rmay_any m ho W (HR.out W hB) (by omega))
  have GG : Hid (∀ W A2 c2, m.May → m.putV.length ≤ c2 → c2 ≤ maxLen → Holds W W.heap.size .u8 A2 m.putV → Calls Try.prog 13 #[.slice A2 m.putV.length c2] W (GotM m.putL W)) := Lib.hid (fun W A2 c2 hmay h1 h2 h3 => by
    have e : m.putV = m.putL := by unfold Man.putV; rw [if_pos hmay]
    rw [e] at h1 h3 ⊢
    exact mget_any A2 m.putL c2 W h1 h2 (by rw [m.putL_length ho]; omega) (put_octets ho hmay) h3)
  have HPE : Hid (m.putE = if m.May then 0 else 3) := Lib.hid rfl
  have HGM : Hid (∀ A cap, m.May → (if gotE m.putL = 0 then manN m.putL (pairs m.putL) A cap else man0) = ({ m with A := A, cap := cap } : Man)) := Lib.hid (fun A cap hmay => by rw [if_pos (got_put ho hmay), got_man ho hmay])
  have HGE := Lib.hid (fun hmay => got_put (m := m) ho hmay)
  have GS := Lib.hid (fun W A5 c5 (hok : ({ m with A := A5, cap := c5 } : Man).Ok) (h5 : Holds W W.heap.size .i64 A5 m.ord) (hB : Below w.heap.size w W) => same_yes ({ m with A := A5, cap := c5 } : Man) hok m.A m.cap W h5 (by show m.ord.length ≤ 5000; omega) (HR.out W hB) ho)
  have HO := Lib.hid ho
  have hzv := zero_man
  have HL0 := Lib.hid (man0.cells_length man0_ok)
  obtain ⟨bm, hbm⟩ : ∃ bm : Bool, decide m.May = bm := ⟨_, rfl⟩
  rw [hbm] at GM GRM
  have HBM := Lib.hid hbm
  have HM := Lib.hid (rfl : m = m)
  obtain ⟨L, hL⟩ : ∃ L, m.cells = L := ⟨_, rfl⟩
  rw [hL] at HW1 R1 HL GP GRP GM GRM ⊢
  have HLE := Lib.hid hL
  obtain ⟨V, hV⟩ : ∃ V, m.putV = V := ⟨_, rfl⟩
  obtain ⟨E, hE⟩ : ∃ E, m.putE = E := ⟨_, rfl⟩
  rw [hV] at GP GRP GG
  rw [hE] at GP GRP HPE
  have hEE : (E != E) = false := by simp
  clear hr hL hV hE hbm ho h6
  go_enter Try.func3, Try.ntmps3
  go_upto_region 1 with fail
  rw [HW1.out]
  have K0 : Hid True := Lib.hid trivial
  go_upto_region 5 with (first
    | (have _t := K0; clear _t; refine wpList_load_midV (o := ⟨some 15, _, _, _, _, _⟩) (by rfl) _ _ rfl w.heap.size 0 rfl L (block_range R1.out) Try.underlying27 rfl (by rw [HL.out]; kernel_rfl) ?_; clear K0)
    | (go_at_call 9; ((with_reducible refine (GP.out _ HB1.out).mono ?_); rintro e w2 ⟨A2, c2, rfl, hl2, hm2, hr2, hb2⟩); have R2 := Lib.hid (R1.out.below hb2 R1.out.lt); have B2 := Lib.hid (HB1.out.trans (hb2.mono HB1.out.size)); have h2' := Lib.hid hr2; have HC2 := Lib.hid (⟨hl2, hm2⟩ : _ ∧ _); clear R1 HB1 hr2 hb2 GP f5 hl2 hm2; have K1 : Hid True := Lib.hid trivial)
    | (have _t := K1; clear _t; refine wpList_load_midV (o := ⟨some 20, _, _, _, _, _⟩) (by rfl) _ _ rfl w.heap.size 0 rfl L (block_range R2.out) Try.underlying27 rfl (by rw [HL.out]; kernel_rfl) ?_; clear K1)
    | (go_at_call 10; ((with_reducible refine (GRP.out _ B2.out).mono ?_); rintro e w3 ⟨A3, c3, rfl, hl3, hm3, hr3, hb3⟩); have R3 := Lib.hid (R2.out.below hb3 R2.out.lt); have B3 := Lib.hid (B2.out.trans (hb3.mono B2.out.size)); have h2 := Lib.hid (h2'.out.on hb3); have h3 := Lib.hid hr3; clear R2 B2 h2' hr3 hb3 GRP hl3 hm3))
  go_cut [40] (fun v wx => v = .bool false ∧ Block wx w.heap.size 27 L.toArray ∧ Holds wx wx.heap.size .u8 A2 V ∧ Below w.heap.size w wx)
  case first =>
    have HS3 := Lib.hid (⟨R3.out, h2.out, h3.out⟩ : Block w3 w.heap.size 27 L.toArray ∧ Holds w3 w3.heap.size .u8 A2 V ∧ Holds w3 w3.heap.size .u8 A3 V)
    refine wp_region_held_drew (S := fun W => Block W w.heap.size 27 L.toArray ∧ Holds W W.heap.size .u8 A2 V ∧ Holds W W.heap.size .u8 A3 V) (by kernel_rfl) HS3.out (fun hS => ?_)
    refine wpAnyH_take (i := 0) (oi := ⟨some 24, _, _, _, _, _⟩) (v := .slice A2 V.length c2) rfl (by kernel_rfl) (by kernel_rfl) (by kernel_rfl) (fun _ _ _ h => h) (Or.inl ⟨by rfl, fun W hW => by go_simp⟩) hS ?_
    try simp only [Act.put, List.setIfInBounds_toArray, List.set_cons_zero, List.set_cons_succ]
    refine wpAnyH_take (i := 2) (oi := ⟨some 26, _, _, _, _, _⟩) (v := .slice A3 V.length c3) rfl (by kernel_rfl) (by kernel_rfl) (by kernel_rfl) (fun _ _ _ h => h) (Or.inl ⟨by rfl, fun W hW => by go_simp⟩) hS ?_
    try simp only [Act.put, List.setIfInBounds_toArray, List.set_cons_zero, List.set_cons_succ]
    refine wpAnyH_take (i := 1) (oi := ⟨some 25, _, _, _, _, _⟩) (v := .string (strOfNums V)) rfl (by kernel_rfl) (by kernel_rfl) (by kernel_rfl) (fun _ _ _ h => h) (Or.inl ⟨by rfl, fun W hW => by have q0 := conv_bytes (P := Try.prog) Try.underlying29 Try.underlying5 Try.underlying9 W A2 V c2 _ hW.2.1; go_simp⟩) hS ?_
    try simp only [Act.put, List.setIfInBounds_toArray, List.set_cons_zero, List.set_cons_succ]
    refine wpAnyH_take (i := 3) (oi := ⟨some 27, _, _, _, _, _⟩) (v := .string (strOfNums V)) rfl (by kernel_rfl) (by kernel_rfl) (by kernel_rfl) (fun _ _ _ h => h) (Or.inl ⟨by rfl, fun W hW => by have q0 := conv_bytes (P := Try.prog) Try.underlying29 Try.underlying5 Try.underlying9 W A3 V c3 _ hW.2.2; go_simp⟩) hS ?_
    try simp only [Act.put, List.setIfInBounds_toArray, List.set_cons_zero, List.set_cons_succ]
    refine wpAnyH_take (i := 4) (oi := ⟨some 28, _, _, _, _, _⟩) (v := .bool false) rfl (by kernel_rfl) (by kernel_rfl) (by kernel_rfl) (fun _ _ _ h => h) (Or.inl ⟨by rfl, fun W hW => by go_simp⟩) hS ?_
    try simp only [Act.put, List.setIfInBounds_toArray, List.set_cons_zero, List.set_cons_succ]
    refine wpAnyH_take (i := 5) (oi := ⟨some 29, _, _, _, _, _⟩) (v := .bool false) rfl (by kernel_rfl) (by kernel_rfl) (by kernel_rfl) (fun _ _ _ h => h) (Or.inl ⟨by rfl, fun W hW => by go_simp⟩) hS ?_
    try simp only [Act.put, List.setIfInBounds_toArray, List.set_cons_zero, List.set_cons_succ]
    refine wpAnyH_take (i := 6) (oi := ⟨some 30, _, _, _, _, _⟩) (v := .int .i64 E) rfl (by kernel_rfl) (by kernel_rfl) (by kernel_rfl) (fun _ _ _ h => h) (Or.inl ⟨by rfl, fun W hW => by go_simp⟩) hS ?_
    try simp only [Act.put, List.setIfInBounds_toArray, List.set_cons_zero, List.set_cons_succ]
    refine wpAnyH_take (i := 7) (oi := ⟨some 31, _, _, _, _, _⟩) (v := .int .i64 E) rfl (by kernel_rfl) (by kernel_rfl) (by kernel_rfl) (fun _ _ _ h => h) (Or.inl ⟨by rfl, fun W hW => by go_simp⟩) hS ?_
    try simp only [Act.put, List.setIfInBounds_toArray, List.set_cons_zero, List.set_cons_succ]
    refine wpAnyH_take (i := 8) (oi := ⟨some 32, _, _, _, _, _⟩) (v := .bool false) rfl (by kernel_rfl) (by kernel_rfl) (by kernel_rfl) (fun _ _ _ h => h) (Or.inl ⟨by rfl, fun W hW => by go_simp⟩) hS ?_
    try simp only [Act.put, List.setIfInBounds_toArray, List.set_cons_zero, List.set_cons_succ]
    refine wpAnyH_take (i := 9) (oi := ⟨some 33, _, _, _, _, _⟩) (v := .bool false) rfl (by kernel_rfl) (by kernel_rfl) (by kernel_rfl) (fun _ _ _ h => h) (Or.inl ⟨by rfl, fun W hW => by go_simp⟩) hS ?_
    try simp only [Act.put, List.setIfInBounds_toArray, List.set_cons_zero, List.set_cons_succ]
    refine wpAnyH_take (i := 10) (oi := ⟨some 34, _, _, _, _, _⟩) (v := .bool false) rfl (by kernel_rfl) (by kernel_rfl) (by kernel_rfl) (fun _ _ _ h => h) (Or.inl ⟨by rfl, fun W hW => by go_simp⟩) hS ?_
    try simp only [Act.put, List.setIfInBounds_toArray, List.set_cons_zero, List.set_cons_succ]
    refine wpAnyH_take (i := 11) (oi := ⟨some 35, _, _, _, _, _⟩) (v := .agg L.toArray) rfl (by kernel_rfl) (by kernel_rfl) (by kernel_rfl) (fun _ _ _ h => h) (yieldsIf_load_mid (by rfl) _ _ rfl w.heap.size 0 rfl L _ (fun W hW => block_range hW.1) Try.underlying27 rfl (by rw [HL.out]; kernel_rfl)) hS ?_
    try simp only [Act.put, List.setIfInBounds_toArray, List.set_cons_zero, List.set_cons_succ]
    refine wpAnyH_take (i := 13) (oi := ⟨some 37, _, _, _, _, _⟩) (v := .agg L.toArray) rfl (by kernel_rfl) (by kernel_rfl) (by kernel_rfl) (fun _ _ _ h => h) (yieldsIf_load_mid (by rfl) _ _ rfl w.heap.size 0 rfl L _ (fun W hW => block_range hW.1) Try.underlying27 rfl (by rw [HL.out]; kernel_rfl)) hS ?_
    try simp only [Act.put, List.setIfInBounds_toArray, List.set_cons_zero, List.set_cons_succ]
    refine wpAnyH_ready (rs := [12]) (by kernel_rfl) (by simp) ?_
    refine AllReadyH.cons rfl (fun K hK => ?_) AllReadyH.nil
    go_simp
    go_at_call 11
    refine (GM.out w3.drew (below_draws B3.out 1)).mono ?_
    rintro e x1 ⟨rfl, hbx1⟩
    have hbx1 : Below w3.heap.size w3 x1 := (show Below w3.heap.size w3 w3.drew from below_draws (Below.refl _ _) 1).trans hbx1
    have BX1 := Lib.hid (B3.out.trans (hbx1.mono B3.out.size))
    have HX1 : Hid (Block x1 w.heap.size 27 L.toArray ∧ Holds x1 x1.heap.size .u8 A2 V ∧ Holds x1 x1.heap.size .u8 A3 V) := Lib.hid ⟨Block.below (w := w3) HS3.out.1 hbx1 (Block.lt HS3.out.1), (HS3.out.2.1).on hbx1, (HS3.out.2.2).on hbx1⟩
    clear hbx1
    refine hK.out _ _ HX1.out (fun hS => ?_)
    clear hK K
    try simp only [Act.put, List.setIfInBounds_toArray, List.set_cons_zero, List.set_cons_succ]
    refine wpAnyH_ready (rs := [14]) (by kernel_rfl) (by simp) ?_
    refine AllReadyH.cons rfl (fun K hK => ?_) AllReadyH.nil
    go_simp
    go_at_call 12
    refine (GRM.out x1 BX1.out).mono ?_
    rintro e x2 ⟨rfl, hbx2⟩
    have BX2 := Lib.hid (BX1.out.trans (hbx2.mono BX1.out.size))
    have HX2 : Hid (Block x2 w.heap.size 27 L.toArray ∧ Holds x2 x2.heap.size .u8 A2 V ∧ Holds x2 x2.heap.size .u8 A3 V) := Lib.hid ⟨Block.below (w := x1) HX1.out.1 hbx2 (Block.lt HX1.out.1), (HX1.out.2.1).on hbx2, (HX1.out.2.2).on hbx2⟩
    clear hbx2
    refine hK.out _ _ HX2.out (fun hS => ?_)
    clear hK K
    try simp only [Act.put, List.setIfInBounds_toArray, List.set_cons_zero, List.set_cons_succ]
    refine wpAnyH_take (i := 15) (oi := ⟨some 39, _, _, _, _, _⟩) (v := .bool false) rfl (by kernel_rfl) (by kernel_rfl) (by kernel_rfl) (fun _ _ _ h => h) (Or.inl ⟨by rfl, fun W hW => by cases bm <;> go_simp⟩) hS ?_
    try simp only [Act.put, List.setIfInBounds_toArray, List.set_cons_zero, List.set_cons_succ]
    refine wpAnyH_take (i := 16) (oi := ⟨some 40, _, _, _, _, _⟩) (v := .bool false) rfl (by kernel_rfl) (by kernel_rfl) (by kernel_rfl) (fun _ _ _ h => h) (Or.inl ⟨by rfl, fun W hW => by go_simp⟩) hS ?_
    try simp only [Act.put, List.setIfInBounds_toArray, List.set_cons_zero, List.set_cons_succ]
    refine wpAnyH_done (by kernel_rfl) ?_ _
    go_wp2_with fail
    go_meet
    exact ⟨rfl, HX2.out.1, HX2.out.2.1, BX2.out⟩
  case rest =>
    obtain ⟨rfl, X4, h4, B4⟩ := hcut
    rename World => w4
    have HX4 := Lib.hid X4
    have HB4 := Lib.hid B4
    have HH4 := Lib.hid h4
    clear X4 h4 B4 R3 h2 h3 B3 GM GRM hEE
    cases bm with
    | false =>
      have he : E = 3 := HPE.out.trans (if_neg (of_decide_eq_false HBM.out))
      subst he
      go_wp2_with (go_at_call 8; (with_reducible refine (GA.out _).mono ?_); rintro e w9 ⟨rfl, hb9⟩)
      go_ret
      exact ⟨rfl, HB4.out.trans (hb9.mono HB4.out.size)⟩
    | true =>
      have hmay := of_decide_eq_true HBM.out
      have he : E = 0 := HPE.out.trans (if_pos hmay)
      subst he
      have GG4 := Lib.hid (GG.out w4 A2 c2 hmay HC2.out.1 HC2.out.2 HH4.out)
      have HGE0 := HGE.out hmay
      go_upto_region 10 with (first
        | (go_at_call 13; refine GG4.out.mono ?_; rintro e w5 ⟨m1, ok1, h1, ⟨A5, c5, hm1⟩, rfl, hb5⟩; rw [HGM.out A5 c5 hmay] at hm1; have HL1 := Lib.hid (m1.cells_length ok1); have N5 := Lib.hid (Block.new w5 27 man0.cells.toArray); have B5 := Lib.hid (HB4.out.trans (hb5.mono HB4.out.size)); have HX5 := Lib.hid (HX4.out.below hb5 HX4.out.lt); have HH5 := Lib.hid h1; have OK5 := Lib.hid ok1; have HM5 := Lib.hid hm1; rw [HGE0]; clear h1 ok1 hb5 hm1 HX4 HB4 HH4 GG4)
        | (have _t := N5; clear _t; refine wpList_store_blk rfl _ _ _ rfl (ds := m1.cells) N5.out rfl rfl (by rw [List.size_toArray, HL0.out, HL1.out]) (by rw [HL1.out]; kernel_rfl) m1.cells_one ?_; clear N5; intro w6 X6 g6))
      try simp only [Act.put, List.setIfInBounds_toArray, List.set_cons_zero, List.set_cons_succ]
      have hg5 := HX5.out.lt
      have Q6 : Below w5.heap.size w5 w6 := (below_last w5 (.cells man0.cells.toArray 27)).trans (below_of_grown g6 (by simp) fun b hb => by injection hb with hb; omega)
      have B6 := Lib.hid (B5.out.trans (Q6.mono B5.out.size))
      have HH6 := Lib.hid (HH5.out.on Q6)
      have HY6 := Lib.hid (HX5.out.below Q6 hg5)
      have HX6 := Lib.hid X6
      clear X6 g6 Q6 HX5 HH5 B5 hg5 HGE0
      generalize w5.heap.size = g7 at *
      have hm1 := HM5.out
      subst hm1
      have GS6 := Lib.hid (GS.out w6 A5 c5 OK5.out HH6.out B6.out)
      have GS7 : Hid (Calls Try.prog 14 #[.agg ({ m with A := A5, cap := c5 } : Man).cells.toArray, .agg L.toArray] w6 fun e w' => e = .returned (.bool true) ∧ Below w6.heap.size w6 w') := Lib.hid (by rw [← HLE.out]; exact GS6.out)
      obtain ⟨L1, hL1⟩ : ∃ L1, ({ m with A := A5, cap := c5 } : Man).cells = L1 := ⟨_, rfl⟩
      rw [hL1] at GS7 HX6 HL1 ⊢
      have K2 : Hid True := Lib.hid trivial
      clear hmay HM5 GS GS6 hL1 GG HGM HGE
      go_wp2_with (first
        | (have _t := K2; clear _t; refine wpList_load_midV (o := ⟨some 52, _, _, _, _, _⟩) (by rfl) _ _ rfl g7 0 rfl L1 (block_range HX6.out) Try.underlying27 rfl (by rw [HL1.out]; kernel_rfl) ?_; clear K2; have K3 : Hid True := Lib.hid trivial)
        | (have _t := K3; clear _t; refine wpList_load_midV (o := ⟨some 53, _, _, _, _, _⟩) (by rfl) _ _ rfl w.heap.size 0 rfl L (block_range HY6.out) Try.underlying27 rfl (by rw [HL.out]; kernel_rfl) ?_; clear K3)
        | (go_at_call 14; ((with_reducible refine GS7.out.mono ?_); rintro e w8 ⟨rfl, hb8⟩); have B8 := Lib.hid (B6.out.trans (hb8.mono B6.out.size)); clear GS7)
        | (go_at_call 8; (with_reducible refine (GA.out _).mono ?_); rintro e w9 ⟨rfl, hb9⟩))
      go_ret
      exact ⟨rfl, B8.out.trans (hb9.mono B8.out.size)⟩
end Go.Proofs.Ytpdofegmobbipaa.ManifestWrites
