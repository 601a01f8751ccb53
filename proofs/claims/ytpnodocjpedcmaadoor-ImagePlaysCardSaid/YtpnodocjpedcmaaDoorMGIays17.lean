/-
  Layer 25, the document's answers: Put and Keep. Conditions: the device's row, a layout that may be on it.
  Layer 25, image: a step of an image on a device, and of the document's: contracts. Conditions: as each theorem names.
  Layer 25, image: a step of an image on a device, and of the document's: Put, Keep: contracts. Conditions: as each theorem names.
  Layer 25, image: a step of an image on a device, and of the document's: Sync: contracts. Conditions: as each theorem names.
  Layer 25, image: a step of an image on a device, and of the document's: Range: contracts. Conditions: as each theorem names.
  Layer 25, image: a step of an image on a device, and of the document's: Sum: contracts. Conditions: as each theorem names.
  Layer 25, image: a step of an image on a device, and of the document's: Fuse, Back: contracts. Conditions: as each theorem names.
  Layer 25, image: a step of an image on a device, and of the document's, whatever its kind: contract. Conditions: as the theorem names.
  Layer 25, image: on a device that stays on; plain. Conditions: as each theorem names.
  Layer 25, image: on a device that stays on, in the layout's words; the law's small words: contracts. Conditions: as each theorem names.
-/
import Derived.Test.YtpnodocjpedcmaaDoorMGIays16
import Derived.Test.YtpnodocjpedcmaaDoorMGIays32
import Derived.Test.YtpnodocjpedcmaaDoorMGIays2
import Derived.Deep.RegionHeld
namespace Go.Proofs.YtpnodocjpedcmaaDoor.Im
open Go.ChangeShapes Go.WideShapes Go.ChangeAt Go.RowKit Go.Proofs.YtpnodocjpedcmaaDoor.Kit Go.Proofs.YtpnodocjpedcmaaDoor.Pt
open Go.Proofs.YtpnodocjpedcmaaDoor.Sec (Dv RDv dCells dCells_one zD zD_noText RDv.kept block_range GivesED results_tmp_row)

/-- The document's device, its layout and a result's place, side by side where a call begins. -/
structure WGo (w W : World) (s : Dv) (Ak : Option Addr) (ck : Nat) (Aw : Option Addr) (cw : Nat) (S B sl : Int) : Prop where
  x : Block W w.heap.size 31 (dCells Ak ck Aw cw s)
  y : Block W (w.heap.size + 1) 61 #[.int .i64 S, .int .i64 B, .int .i64 sl]
  z : Block W (w.heap.size + 1 + 1) 31 zD
  v : RDv W (.agg (dCells Ak ck Aw cw s)) s
  b : Below w.heap.size w W
section
variable {w W W' : World} {s : Dv} {Ak : Option Addr} {ck : Nat} {Aw : Option Addr} {cw : Nat} {S B sl : Int}
theorem WGo.below (h : WGo w W s Ak ck Aw cw S B sl) (hb : Below W.heap.size W W') : WGo w W' s Ak ck Aw cw S B sl :=
  ⟨h.x.below hb h.x.lt, h.y.below hb h.y.lt, h.z.below hb h.z.lt, h.v.below hb, h.b.trans (hb.mono h.b.size)⟩
theorem WGo.start (h : RDv w (.agg (dCells Ak ck Aw cw s)) s) : WGo w (((w.alloc (.cells (dCells Ak ck Aw cw s) 31)).alloc (.cells #[.int .i64 S, .int .i64 B, .int .i64 sl] 61)).alloc (.cells zD 31)) s Ak ck Aw cw S B sl := by
  have g := RGo.start (S := S) (B := B) (sl := sl) h
  have hz : ((w.alloc (.cells (dCells Ak ck Aw cw s) 31)).alloc (.cells #[.int .i64 S, .int .i64 B, .int .i64 sl] 61)).heap.size = w.heap.size + 1 + 1 := by simp
  generalize (w.alloc _).alloc _ = W at *
  have Z := Block.new W 31 zD
  rw [hz] at Z
  have g2 := g.below (show Below W.heap.size W (W.alloc (.cells zD 31)) from (Below.refl _ _).alloc (Nat.le_refl _) _)
  exact ⟨g2.x, g2.y, Z, g2.r, g2.b⟩
end

set_option maxRecDepth 100000 in
set_option maxHeartbeats 3200000 in
/-- A block is kept aside, the document's. -/
theorem rkeep_any (v : Value) (s : Dv) (S B sl : Int) (bs : List Int) (w : World) (h : RDv w v s) (hok : s.Ok) (hL : LayOk S B sl s) (hbl : bs.length ≤ 1000000) (hof : s.offs ≤ 100000000) (hwr : s.wr ≤ 100000000) :
    Calls Tryd.prog 60 #[v, .agg #[.int .i64 S, .int .i64 B, .int .i64 sl], .string (strOfNums bs)] w fun e w' =>
      (¬ (1 ≤ bs.length ∧ (bs.length : Int) ≤ B) ∧ GivesED 3 s w e w') ∨ ((1 ≤ bs.length ∧ (bs.length : Int) ≤ B) ∧ ∃ r, PWrite s 2 B.toNat 0 bs r ∧ GivesED r.1 r.2 w e w') := by
  obtain ⟨hS, hB, hs⟩ := Prt.may_facts hL.m
  have GL := Lib.hid (fun W => Prt.rlayout_any S B sl (B / S) W hS hB hs rfl)
  unfold Prt.mapV at GL
  have GW := Lib.hid (fun v W (h : RDv W v s) => rpwrite_any v s 2 (B / S) B.toNat 0 bs W h hok hL.aside (by omega) hbl hof hwr)
  have HSz := Lib.hid (strOfNums_size bs)
  obtain ⟨Ak, ck, Aw, cw, rfl, hr⟩ := h
  have HG := Lib.hid (WGo.start (S := S) (B := B) (sl := sl) (show RDv w (.agg (dCells Ak ck Aw cw s)) s from ⟨Ak, ck, Aw, cw, rfl, hr⟩))
  have hf := field1
  obtain ⟨SS, hSS⟩ : ∃ SS, strOfNums bs = SS := ⟨_, rfl⟩
  rw [hSS] at HSz GW ⊢
  have hsz : SS.size = bs.length := HSz.out
  generalize B / S = q at GL GW
  generalize sl * q = p at GL
  unfold zD at HG
  unfold dCells at HG ⊢
  clear hr hSS hok hL hS hs hof hwr
  by_cases hin : 1 ≤ bs.length ∧ (bs.length : Int) ≤ B
  case neg =>
    have hd9 : (((bs.length : Int) == 0) = true) ∨ (((bs.length : Int) == 0) = false ∧ decide (B < (bs.length : Int)) = true) := by
      by_cases h0 : bs.length = 0
      · exact Or.inl (by simp [h0])
      · exact Or.inr ⟨by simpa using h0, decide_eq_true (by omega)⟩
    have HN := Lib.hid hin
    clear hin GW GL hB
    generalize bs.length = L at *
    rcases hd9 with e1 | ⟨e1, e2⟩
    all_goals
      go_enter Tryd.func60, Tryd.ntmps60
      go_upto_region 1 with fail
      generalize hW3 : ((w.alloc _).alloc _).alloc _ = w3 at *
      clear hW3
      have c1 : w3.cell? ⟨w.heap.size + 1, 1, none⟩ = some (.int .i64 B) := HG.out.y.cell 1
      have c2 : w3.cell? ⟨w.heap.size + 1, 2, none⟩ = some (.int .i64 sl) := HG.out.y.cell 2
      go_upto_region 2 with fail
      have P : WGo w w3.drew s Ak ck Aw cw S B sl := WGo.below HG.out (below_draws (Below.refl _ _) 1)
      clear c1 c2
      refine wp_region_held_drew (S := fun W => Block W (w.heap.size) 31 (dCells Ak ck Aw cw s) ∧ Block W (w.heap.size + 1) 61 #[.int .i64 S, .int .i64 B, .int .i64 sl]) (by kernel_rfl) ⟨HG.out.x, HG.out.y⟩ (fun hS => ?_)
      refine wpAnyH_take (i := 0) (oi := ⟨some 18, _, _, _, _, _⟩) (v := .agg (dCells Ak ck Aw cw s)) rfl (by kernel_rfl) (by kernel_rfl) (by kernel_rfl) (fun _ _ _ h => h) (yieldsIf_load_mid (by rfl) _ _ rfl (w.heap.size) (0) rfl (dCells Ak ck Aw cw s).toList _ (fun W hW => block_range hW.1) Tryd.underlying31 rfl (by kernel_rfl)) hS ?_
      try simp only [Act.put, List.setIfInBounds_toArray, List.set_cons_zero, List.set_cons_succ]
      refine wpAnyH_ready (rs := [1]) (by kernel_rfl) (by simp) ?_
      refine AllReadyH.cons rfl (fun K hK => ?_) AllReadyH.nil
      go_simp
      refine hK.out _ _ ⟨P.x, P.y⟩ (fun hS => ?_)
      clear hK K
      try simp only [Act.put, List.setIfInBounds_toArray, List.set_cons_zero, List.set_cons_succ]
      refine wpAnyH_ready (rs := [2]) (by kernel_rfl) (by simp) ?_
      refine AllReadyH.cons rfl (fun K hK => ?_) AllReadyH.nil
      refine step_store_blk rfl _ _ _ rfl (cs := zD) (ds := (dCells Ak ck Aw cw s).toList) (by exact P.z) rfl rfl rfl (by kernel_rfl) (dCells_one _ _ _ _ _) ?_
      intro x9 Z9 g9
      have X9 := P.x.grown g9 (by intro h; injection h with h; omega)
      have Y9 := P.y.grown g9 (by intro h; injection h with h; omega)
      have RV9 := P.v.kept P.z zD_noText g9
      have B9 := P.b.trans (below_of_grown g9 P.b.size fun b hb => by injection hb with hb; omega)
      refine hK.out _ _ ⟨X9, Y9⟩ (fun hS => ?_)
      clear hK K
      try simp only [Act.put, List.setIfInBounds_toArray, List.set_cons_zero, List.set_cons_succ]
      refine wpAnyH_done (by kernel_rfl) ?_ _
      go_wp2_with fail
      exact bodyPost_ret (v := .tuple #[.int .i64 3, .agg (dCells Ak ck Aw cw s)]) (results_tmp_row rfl _ _ (w.heap.size + 1 + 1) 31 _ (0, 0) _ _ rfl rfl Z9 Tryd.underlying31 rfl (by kernel_rfl)) rfl (Or.inl ⟨HN.out, ⟨_, rfl, RV9, B9⟩⟩)
  case pos =>
    have e1 : ((bs.length : Int) == 0) = false := by rw [beq_eq_false_iff_ne]; omega
    have e2 : decide (B < (bs.length : Int)) = false := decide_eq_false (by omega)
    have HN := Lib.hid hin
    clear hin hB
    generalize bs.length = L at *
    go_enter Tryd.func60, Tryd.ntmps60
    go_upto_region 1 with fail
    generalize hW3 : ((w.alloc _).alloc _).alloc _ = w3 at *
    clear hW3
    have c1 : w3.cell? ⟨w.heap.size + 1, 1, none⟩ = some (.int .i64 B) := HG.out.y.cell 1
    have c2 : w3.cell? ⟨w.heap.size + 1, 2, none⟩ = some (.int .i64 sl) := HG.out.y.cell 2
    go_upto_region 3 with fail
    have P : WGo w w3.drew s Ak ck Aw cw S B sl := WGo.below HG.out (below_draws (Below.refl _ _) 1)
    clear c1 c2
    refine wp_region_held_drew (S := fun W => Block W (w.heap.size) 31 (dCells Ak ck Aw cw s) ∧ Block W (w.heap.size + 1) 61 #[.int .i64 S, .int .i64 B, .int .i64 sl]) (by kernel_rfl) ⟨HG.out.x, HG.out.y⟩ (fun hS => ?_)
    refine wpAnyH_take (i := 0) (oi := ⟨some 19, _, _, _, _, _⟩) (v := .agg (dCells Ak ck Aw cw s)) rfl (by kernel_rfl) (by kernel_rfl) (by kernel_rfl) (fun _ _ _ h => h) (yieldsIf_load_mid (by rfl) _ _ rfl (w.heap.size) (0) rfl (dCells Ak ck Aw cw s).toList _ (fun W hW => block_range hW.1) Tryd.underlying31 rfl (by kernel_rfl)) hS ?_
    try simp only [Act.put, List.setIfInBounds_toArray, List.set_cons_zero, List.set_cons_succ]
    refine wpAnyH_take (i := 1) (oi := ⟨some 20, _, _, _, _, _⟩) (v := .agg #[.int .i64 S, .int .i64 B, .int .i64 sl]) rfl (by kernel_rfl) (by kernel_rfl) (by kernel_rfl) (fun _ _ _ h => h) (yieldsIf_load_mid (by rfl) _ _ rfl (w.heap.size + 1) (0) rfl #[.int .i64 S, .int .i64 B, .int .i64 sl].toList _ (fun W hW => block_range hW.2) Tryd.underlying61 rfl (by kernel_rfl)) hS ?_
    try simp only [Act.put, List.setIfInBounds_toArray, List.set_cons_zero, List.set_cons_succ]
    refine wpAnyH_take (i := 4) (oi := ⟨some 23, _, _, _, _, _⟩) (v := .string SS) rfl (by kernel_rfl) (by kernel_rfl) (by kernel_rfl) (fun _ _ _ h => h) (Or.inl ⟨by rfl, fun W hW => by go_simp⟩) hS ?_
    try simp only [Act.put, List.setIfInBounds_toArray, List.set_cons_zero, List.set_cons_succ]
    refine wpAnyH_ready (rs := [2]) (by kernel_rfl) (by simp) ?_
    refine AllReadyH.cons rfl (fun K hK => ?_) AllReadyH.nil
    go_simp
    go_at_call 27
    refine (GL.out _).mono ?_
    rintro e x1 ⟨rfl, hb1⟩
    have P1 := P.below hb1
    refine hK.out _ _ ⟨P1.x, P1.y⟩ (fun hS => ?_)
    clear hK K
    try simp only [Act.put, List.setIfInBounds_toArray, List.set_cons_zero, List.set_cons_succ]
    refine wpAnyH_take (i := 3) (oi := ⟨some 22, _, _, _, _, _⟩) (v := .agg #[.int .i64 2, .int .i64 q]) rfl (by kernel_rfl) (by kernel_rfl) (by kernel_rfl) (fun _ _ _ h => h) (Or.inl ⟨by rfl, fun W hW => by go_simp⟩) hS ?_
    try simp only [Act.put, List.setIfInBounds_toArray, List.set_cons_zero, List.set_cons_succ]
    refine wpAnyH_ready (rs := [5]) (by kernel_rfl) (by simp) ?_
    refine AllReadyH.cons rfl (fun K hK => ?_) AllReadyH.nil
    go_simp
    go_at_call 85
    refine (GW.out _ _ P1.v).mono ?_
    rintro e x2 ⟨r, hr, v1, rfl, RV1, hb2⟩
    obtain ⟨Ak1, ck1, Aw1, cw1, rfl, hr1⟩ := RV1
    have RV1 : RDv x2 (.agg (dCells Ak1 ck1 Aw1 cw1 r.2)) r.2 := ⟨Ak1, ck1, Aw1, cw1, rfl, hr1⟩
    have P2 := P1.below hb2
    clear hr1
    refine hK.out _ _ ⟨P2.x, P2.y⟩ (fun hS => ?_)
    clear hK K
    try simp only [Act.put, List.setIfInBounds_toArray, List.set_cons_zero, List.set_cons_succ]
    refine wpAnyH_take (i := 6) (oi := ⟨some 25, _, _, _, _, _⟩) (v := .int .i64 r.1) rfl (by kernel_rfl) (by kernel_rfl) (by kernel_rfl) (fun _ _ _ h => h) (Or.inl ⟨by rfl, fun W hW => by go_simp⟩) hS ?_
    try simp only [Act.put, List.setIfInBounds_toArray, List.set_cons_zero, List.set_cons_succ]
    refine wpAnyH_take (i := 7) (oi := ⟨some 26, _, _, _, _, _⟩) (v := .agg (dCells Ak1 ck1 Aw1 cw1 r.2)) rfl (by kernel_rfl) (by kernel_rfl) (by kernel_rfl) (fun _ _ _ h => h) (Or.inl ⟨by rfl, fun W hW => by go_simp⟩) hS ?_
    try simp only [Act.put, List.setIfInBounds_toArray, List.set_cons_zero, List.set_cons_succ]
    refine wpAnyH_ready (rs := [8]) (by kernel_rfl) (by simp) ?_
    refine AllReadyH.cons rfl (fun K hK => ?_) AllReadyH.nil
    go_simp
    refine hK.out _ _ ⟨P2.x, P2.y⟩ (fun hS => ?_)
    clear hK K
    try simp only [Act.put, List.setIfInBounds_toArray, List.set_cons_zero, List.set_cons_succ]
    refine wpAnyH_ready (rs := [9]) (by kernel_rfl) (by simp) ?_
    refine AllReadyH.cons rfl (fun K hK => ?_) AllReadyH.nil
    refine step_store_blk rfl _ _ _ rfl (cs := zD) (ds := (dCells Ak1 ck1 Aw1 cw1 r.2).toList) (by exact P2.z) rfl rfl rfl (by kernel_rfl) (dCells_one _ _ _ _ _) ?_
    intro x3 Z3 g3
    have X3 := P2.x.grown g3 (by intro h; injection h with h; omega)
    have Y3 := P2.y.grown g3 (by intro h; injection h with h; omega)
    have RV3 := RV1.kept P2.z zD_noText g3
    have B3 := P2.b.trans (below_of_grown g3 P2.b.size fun b hb => by injection hb with hb; omega)
    refine hK.out _ _ ⟨X3, Y3⟩ (fun hS => ?_)
    clear hK K
    try simp only [Act.put, List.setIfInBounds_toArray, List.set_cons_zero, List.set_cons_succ]
    refine wpAnyH_done (by kernel_rfl) ?_ _
    go_wp2_with fail
    exact bodyPost_ret (v := .tuple #[.int .i64 r.1, .agg (dCells Ak1 ck1 Aw1 cw1 r.2)]) (results_tmp_row rfl _ _ (w.heap.size + 1 + 1) 31 _ (0, 0) _ _ rfl rfl Z3 Tryd.underlying31 rfl (by kernel_rfl)) rfl (Or.inr ⟨HN.out, r, hr, _, rfl, RV3, B3⟩)

set_option maxRecDepth 100000 in
set_option maxHeartbeats 3200000 in
/-- A block is put, the document's. -/
theorem rput_any (v : Value) (s : Dv) (S B sl i k : Int) (bs : List Int) (w : World) (h : RDv w v s) (hok : s.Ok) (hL : LayOk S B sl s) (hbl : bs.length ≤ 1000000) (hof : s.offs ≤ 100000000) (hwr : s.wr ≤ 100000000) :
    Calls Tryd.prog 59 #[v, .agg #[.int .i64 S, .int .i64 B, .int .i64 sl], .int .u8 i, .int .i64 k, .string (strOfNums bs)] w fun e w' =>
      (¬ (0 ≤ k ∧ k < sl) ∧ GivesED 5 s w e w') ∨ ((0 ≤ k ∧ k < sl) ∧ ¬ (1 ≤ bs.length ∧ (bs.length : Int) ≤ B) ∧ GivesED 3 s w e w') ∨
        ((0 ≤ k ∧ k < sl) ∧ (1 ≤ bs.length ∧ (bs.length : Int) ≤ B) ∧ ∃ r, PWrite s (slotF S B sl i) (B * sl).toNat (k * B) bs r ∧ GivesED r.1 r.2 w e w') := by
  obtain ⟨hS, hB, hs, hdd, hq, h0, h1, h2, h3⟩ := hL.facts
  have GL := Lib.hid (fun W => rslot_any S B sl i W hL.m)
  have hkb : 0 ≤ k → k < sl → 0 ≤ k * B ∧ k * B ≤ 16777216 := fun u0 u1 => by
    have t1 : k * B ≤ sl * B := Int.mul_le_mul_of_nonneg_right (by omega) (by omega)
    have t2 : 0 ≤ k * B := Int.mul_nonneg u0 (by omega)
    rw [Int.mul_comm sl B] at t1
    omega
  have GW : 0 ≤ k → k < sl → Hid (∀ v W, RDv W v s → Calls Tryd.prog 85 #[v, .agg #[.int .i64 (slotF S B sl i), .int .i64 (sl * (B / S))], .int .i64 (k * B), .string (strOfNums bs)] W fun e w' => ∃ r, PWrite s (slotF S B sl i) (B * sl).toNat (k * B) bs r ∧ GivesED r.1 r.2 W e w') := fun u0 u1 => Lib.hid (fun v W h => rpwrite_any v s _ _ _ (k * B) bs W h hok (hL.lies i) (by have := hkb u0 u1; omega) hbl hof hwr)
  have HSz := Lib.hid (strOfNums_size bs)
  obtain ⟨Ak, ck, Aw, cw, rfl, hr⟩ := h
  have HG := Lib.hid (WGo.start (S := S) (B := B) (sl := sl) (show RDv w (.agg (dCells Ak ck Aw cw s)) s from ⟨Ak, ck, Aw, cw, rfl, hr⟩))
  obtain ⟨SS, hSS⟩ : ∃ SS, strOfNums bs = SS := ⟨_, rfl⟩
  rw [hSS] at HSz GW ⊢
  have hsz : SS.size = bs.length := HSz.out
  generalize sl * (B / S) = p at GL GW
  generalize slotF S B sl i = F at GL GW ⊢
  generalize (B * sl).toNat = T at GW ⊢
  unfold zD at HG
  unfold dCells at HG ⊢
  clear hr hSS hok hL hS hdd hq h0 h1 h2 h3 hof hwr
  by_cases hkr : 0 ≤ k ∧ k < sl
  case neg =>
    have hd9 : decide (k < 0) = true ∨ (decide (k < 0) = false ∧ decide (sl ≤ k) = true) := by
      simp only [decide_eq_true_eq, decide_eq_false_iff_not]
      omega
    have HN := Lib.hid hkr
    clear hkr GW GL hB hs hkb
    generalize bs.length = L at *
    rcases hd9 with e1 | ⟨e1, e2⟩
    all_goals
      go_enter Tryd.func59, Tryd.ntmps59
      go_upto_region 1 with fail
      generalize hW3 : ((w.alloc _).alloc _).alloc _ = w3 at *
      clear hW3
      have c1 : w3.cell? ⟨w.heap.size + 1, 1, none⟩ = some (.int .i64 B) := HG.out.y.cell 1
      have c2 : w3.cell? ⟨w.heap.size + 1, 2, none⟩ = some (.int .i64 sl) := HG.out.y.cell 2
      go_upto_region 2 with fail
      have P : WGo w w3.drew s Ak ck Aw cw S B sl := WGo.below HG.out (below_draws (Below.refl _ _) 1)
      clear c1 c2
      refine wp_region_held_drew (S := fun W => Block W (w.heap.size) 31 (dCells Ak ck Aw cw s) ∧ Block W (w.heap.size + 1) 61 #[.int .i64 S, .int .i64 B, .int .i64 sl]) (by kernel_rfl) ⟨HG.out.x, HG.out.y⟩ (fun hS => ?_)
      refine wpAnyH_take (i := 0) (oi := ⟨some 20, _, _, _, _, _⟩) (v := .agg (dCells Ak ck Aw cw s)) rfl (by kernel_rfl) (by kernel_rfl) (by kernel_rfl) (fun _ _ _ h => h) (yieldsIf_load_mid (by rfl) _ _ rfl (w.heap.size) (0) rfl (dCells Ak ck Aw cw s).toList _ (fun W hW => block_range hW.1) Tryd.underlying31 rfl (by kernel_rfl)) hS ?_
      try simp only [Act.put, List.setIfInBounds_toArray, List.set_cons_zero, List.set_cons_succ]
      refine wpAnyH_ready (rs := [1]) (by kernel_rfl) (by simp) ?_
      refine AllReadyH.cons rfl (fun K hK => ?_) AllReadyH.nil
      go_simp
      refine hK.out _ _ ⟨P.x, P.y⟩ (fun hS => ?_)
      clear hK K
      try simp only [Act.put, List.setIfInBounds_toArray, List.set_cons_zero, List.set_cons_succ]
      refine wpAnyH_ready (rs := [2]) (by kernel_rfl) (by simp) ?_
      refine AllReadyH.cons rfl (fun K hK => ?_) AllReadyH.nil
      refine step_store_blk rfl _ _ _ rfl (cs := zD) (ds := (dCells Ak ck Aw cw s).toList) (by exact P.z) rfl rfl rfl (by kernel_rfl) (dCells_one _ _ _ _ _) ?_
      intro x9 Z9 g9
      have X9 := P.x.grown g9 (by intro h; injection h with h; omega)
      have Y9 := P.y.grown g9 (by intro h; injection h with h; omega)
      have RV9 := P.v.kept P.z zD_noText g9
      have B9 := P.b.trans (below_of_grown g9 P.b.size fun b hb => by injection hb with hb; omega)
      refine hK.out _ _ ⟨X9, Y9⟩ (fun hS => ?_)
      clear hK K
      try simp only [Act.put, List.setIfInBounds_toArray, List.set_cons_zero, List.set_cons_succ]
      refine wpAnyH_done (by kernel_rfl) ?_ _
      go_wp2_with fail
      exact bodyPost_ret (v := .tuple #[.int .i64 5, .agg (dCells Ak ck Aw cw s)]) (results_tmp_row rfl _ _ (w.heap.size + 1 + 1) 31 _ (0, 0) _ _ rfl rfl Z9 Tryd.underlying31 rfl (by kernel_rfl)) rfl (Or.inl ⟨HN.out, ⟨_, rfl, RV9, B9⟩⟩)
  case pos =>
    have e1 : decide (k < 0) = false := decide_eq_false (by omega)
    have e2 : decide (sl ≤ k) = false := decide_eq_false (by omega)
    have HK := Lib.hid hkr
    have hkb := hkb hkr.1 hkr.2
    have GW := GW hkr.1 hkr.2
    obtain ⟨kB, hkB⟩ : ∃ kB, k * B = kB := ⟨_, rfl⟩
    have HWK : Hid (IntKind.i64.wrap (k * B) = kB) := Lib.hid (by rw [← hkB]; exact IntWalk.i64_in _ (by omega))
    rw [hkB] at GW ⊢
    clear hkB hkb hkr
    by_cases hin : 1 ≤ bs.length ∧ (bs.length : Int) ≤ B
    case neg =>
      have hd9 : (((bs.length : Int) == 0) = true) ∨ (((bs.length : Int) == 0) = false ∧ decide (B < (bs.length : Int)) = true) := by
        by_cases h0 : bs.length = 0
        · exact Or.inl (by simp [h0])
        · exact Or.inr ⟨by simpa using h0, decide_eq_true (by omega)⟩
      have HN := Lib.hid hin
      clear hin GW GL hB hs
      generalize bs.length = L at *
      rcases hd9 with e3 | ⟨e3, e4⟩
      all_goals
        go_enter Tryd.func59, Tryd.ntmps59
        go_upto_region 1 with fail
        generalize hW3 : ((w.alloc _).alloc _).alloc _ = w3 at *
        clear hW3
        have c1 : w3.cell? ⟨w.heap.size + 1, 1, none⟩ = some (.int .i64 B) := HG.out.y.cell 1
        have c2 : w3.cell? ⟨w.heap.size + 1, 2, none⟩ = some (.int .i64 sl) := HG.out.y.cell 2
        go_upto_region 4 with fail
        have P : WGo w w3.drew s Ak ck Aw cw S B sl := WGo.below HG.out (below_draws (Below.refl _ _) 1)
        clear c1 c2
        refine wp_region_held_drew (S := fun W => Block W (w.heap.size) 31 (dCells Ak ck Aw cw s) ∧ Block W (w.heap.size + 1) 61 #[.int .i64 S, .int .i64 B, .int .i64 sl]) (by kernel_rfl) ⟨HG.out.x, HG.out.y⟩ (fun hS => ?_)
        refine wpAnyH_take (i := 0) (oi := ⟨some 31, _, _, _, _, _⟩) (v := .agg (dCells Ak ck Aw cw s)) rfl (by kernel_rfl) (by kernel_rfl) (by kernel_rfl) (fun _ _ _ h => h) (yieldsIf_load_mid (by rfl) _ _ rfl (w.heap.size) (0) rfl (dCells Ak ck Aw cw s).toList _ (fun W hW => block_range hW.1) Tryd.underlying31 rfl (by kernel_rfl)) hS ?_
        try simp only [Act.put, List.setIfInBounds_toArray, List.set_cons_zero, List.set_cons_succ]
        refine wpAnyH_ready (rs := [1]) (by kernel_rfl) (by simp) ?_
        refine AllReadyH.cons rfl (fun K hK => ?_) AllReadyH.nil
        go_simp
        refine hK.out _ _ ⟨P.x, P.y⟩ (fun hS => ?_)
        clear hK K
        try simp only [Act.put, List.setIfInBounds_toArray, List.set_cons_zero, List.set_cons_succ]
        refine wpAnyH_ready (rs := [2]) (by kernel_rfl) (by simp) ?_
        refine AllReadyH.cons rfl (fun K hK => ?_) AllReadyH.nil
        refine step_store_blk rfl _ _ _ rfl (cs := zD) (ds := (dCells Ak ck Aw cw s).toList) (by exact P.z) rfl rfl rfl (by kernel_rfl) (dCells_one _ _ _ _ _) ?_
        intro x9 Z9 g9
        have X9 := P.x.grown g9 (by intro h; injection h with h; omega)
        have Y9 := P.y.grown g9 (by intro h; injection h with h; omega)
        have RV9 := P.v.kept P.z zD_noText g9
        have B9 := P.b.trans (below_of_grown g9 P.b.size fun b hb => by injection hb with hb; omega)
        refine hK.out _ _ ⟨X9, Y9⟩ (fun hS => ?_)
        clear hK K
        try simp only [Act.put, List.setIfInBounds_toArray, List.set_cons_zero, List.set_cons_succ]
        refine wpAnyH_done (by kernel_rfl) ?_ _
        go_wp2_with fail
        exact bodyPost_ret (v := .tuple #[.int .i64 3, .agg (dCells Ak ck Aw cw s)]) (results_tmp_row rfl _ _ (w.heap.size + 1 + 1) 31 _ (0, 0) _ _ rfl rfl Z9 Tryd.underlying31 rfl (by kernel_rfl)) rfl (Or.inr (Or.inl ⟨HK.out, HN.out, ⟨_, rfl, RV9, B9⟩⟩))
    case pos =>
      have e3 : ((bs.length : Int) == 0) = false := by rw [beq_eq_false_iff_ne]; omega
      have e4 : decide (B < (bs.length : Int)) = false := decide_eq_false (by omega)
      have HN := Lib.hid hin
      clear hin hB hs
      generalize bs.length = L at *
      go_enter Tryd.func59, Tryd.ntmps59
      go_upto_region 1 with fail
      generalize hW3 : ((w.alloc _).alloc _).alloc _ = w3 at *
      clear hW3
      have c1 : w3.cell? ⟨w.heap.size + 1, 1, none⟩ = some (.int .i64 B) := HG.out.y.cell 1
      have c2 : w3.cell? ⟨w.heap.size + 1, 2, none⟩ = some (.int .i64 sl) := HG.out.y.cell 2
      go_upto_region 5 with fail
      have P : WGo w w3.drew s Ak ck Aw cw S B sl := WGo.below HG.out (below_draws (Below.refl _ _) 1)
      clear c1 c2
      refine wp_region_held_drew (S := fun W => Block W (w.heap.size) 31 (dCells Ak ck Aw cw s) ∧ Block W (w.heap.size + 1) 61 #[.int .i64 S, .int .i64 B, .int .i64 sl]) (by kernel_rfl) ⟨HG.out.x, HG.out.y⟩ (fun hS => ?_)
      refine wpAnyH_take (i := 0) (oi := ⟨some 32, _, _, _, _, _⟩) (v := .agg (dCells Ak ck Aw cw s)) rfl (by kernel_rfl) (by kernel_rfl) (by kernel_rfl) (fun _ _ _ h => h) (yieldsIf_load_mid (by rfl) _ _ rfl (w.heap.size) (0) rfl (dCells Ak ck Aw cw s).toList _ (fun W hW => block_range hW.1) Tryd.underlying31 rfl (by kernel_rfl)) hS ?_
      try simp only [Act.put, List.setIfInBounds_toArray, List.set_cons_zero, List.set_cons_succ]
      refine wpAnyH_take (i := 1) (oi := ⟨some 33, _, _, _, _, _⟩) (v := .agg #[.int .i64 S, .int .i64 B, .int .i64 sl]) rfl (by kernel_rfl) (by kernel_rfl) (by kernel_rfl) (fun _ _ _ h => h) (yieldsIf_load_mid (by rfl) _ _ rfl (w.heap.size + 1) (0) rfl #[.int .i64 S, .int .i64 B, .int .i64 sl].toList _ (fun W hW => block_range hW.2) Tryd.underlying61 rfl (by kernel_rfl)) hS ?_
      try simp only [Act.put, List.setIfInBounds_toArray, List.set_cons_zero, List.set_cons_succ]
      refine wpAnyH_take (i := 2) (oi := ⟨some 34, _, _, _, _, _⟩) (v := .int .u8 i) rfl (by kernel_rfl) (by kernel_rfl) (by kernel_rfl) (fun _ _ _ h => h) (Or.inl ⟨by rfl, fun W hW => by go_simp⟩) hS ?_
      try simp only [Act.put, List.setIfInBounds_toArray, List.set_cons_zero, List.set_cons_succ]
      refine wpAnyH_take (i := 4) (oi := ⟨some 36, _, _, _, _, _⟩) (v := .int .i64 k) rfl (by kernel_rfl) (by kernel_rfl) (by kernel_rfl) (fun _ _ _ h => h) (Or.inl ⟨by rfl, fun W hW => by go_simp⟩) hS ?_
      try simp only [Act.put, List.setIfInBounds_toArray, List.set_cons_zero, List.set_cons_succ]
      refine wpAnyH_take (i := 5) (oi := ⟨some 37, _, _, _, _, _⟩) (v := .pointer (some ⟨w.heap.size + 1, 1, none⟩)) rfl (by kernel_rfl) (by kernel_rfl) (by kernel_rfl) (fun _ _ _ h => h) (Or.inl ⟨by rfl, fun W hW => by go_simp⟩) hS ?_
      try simp only [Act.put, List.setIfInBounds_toArray, List.set_cons_zero, List.set_cons_succ]
      refine wpAnyH_take (i := 8) (oi := ⟨some 40, _, _, _, _, _⟩) (v := .string SS) rfl (by kernel_rfl) (by kernel_rfl) (by kernel_rfl) (fun _ _ _ h => h) (Or.inl ⟨by rfl, fun W hW => by go_simp⟩) hS ?_
      try simp only [Act.put, List.setIfInBounds_toArray, List.set_cons_zero, List.set_cons_succ]
      refine wpAnyH_take (i := 6) (oi := ⟨some 38, _, _, _, _, _⟩) (v := .int .i64 B) rfl (by kernel_rfl) (by kernel_rfl) (by kernel_rfl) (fun _ _ _ h => h) (Or.inl ⟨by rfl, fun W hW => by have q0 : W.cell? ⟨w.heap.size + 1, 1, none⟩ = some (.int .i64 B) := Block.cell hW.2 1; go_simp⟩) hS ?_
      try simp only [Act.put, List.setIfInBounds_toArray, List.set_cons_zero, List.set_cons_succ]
      refine wpAnyH_take (i := 7) (oi := ⟨some 39, _, _, _, _, _⟩) (v := .int .i64 kB) rfl (by kernel_rfl) (by kernel_rfl) (by kernel_rfl) (fun _ _ _ h => h) (Or.inl ⟨by rfl, fun W hW => by go_simp; exact HWK.out⟩) hS ?_
      try simp only [Act.put, List.setIfInBounds_toArray, List.set_cons_zero, List.set_cons_succ]
      refine wpAnyH_ready (rs := [3]) (by kernel_rfl) (by simp) ?_
      refine AllReadyH.cons rfl (fun K hK => ?_) AllReadyH.nil
      go_simp
      go_at_call 86
      refine (GL.out _).mono ?_
      rintro e x1 ⟨rfl, hb1⟩
      have P1 := P.below hb1
      refine hK.out _ _ ⟨P1.x, P1.y⟩ (fun hS => ?_)
      clear hK K
      try simp only [Act.put, List.setIfInBounds_toArray, List.set_cons_zero, List.set_cons_succ]
      refine wpAnyH_ready (rs := [9]) (by kernel_rfl) (by simp) ?_
      refine AllReadyH.cons rfl (fun K hK => ?_) AllReadyH.nil
      go_simp
      go_at_call 85
      refine (GW.out _ _ P1.v).mono ?_
      rintro e x2 ⟨r, hr, v1, rfl, RV1, hb2⟩
      obtain ⟨Ak1, ck1, Aw1, cw1, rfl, hr1⟩ := RV1
      have RV1 : RDv x2 (.agg (dCells Ak1 ck1 Aw1 cw1 r.2)) r.2 := ⟨Ak1, ck1, Aw1, cw1, rfl, hr1⟩
      have P2 := P1.below hb2
      clear hr1
      refine hK.out _ _ ⟨P2.x, P2.y⟩ (fun hS => ?_)
      clear hK K
      try simp only [Act.put, List.setIfInBounds_toArray, List.set_cons_zero, List.set_cons_succ]
      refine wpAnyH_take (i := 10) (oi := ⟨some 42, _, _, _, _, _⟩) (v := .int .i64 r.1) rfl (by kernel_rfl) (by kernel_rfl) (by kernel_rfl) (fun _ _ _ h => h) (Or.inl ⟨by rfl, fun W hW => by go_simp⟩) hS ?_
      try simp only [Act.put, List.setIfInBounds_toArray, List.set_cons_zero, List.set_cons_succ]
      refine wpAnyH_take (i := 11) (oi := ⟨some 43, _, _, _, _, _⟩) (v := .agg (dCells Ak1 ck1 Aw1 cw1 r.2)) rfl (by kernel_rfl) (by kernel_rfl) (by kernel_rfl) (fun _ _ _ h => h) (Or.inl ⟨by rfl, fun W hW => by go_simp⟩) hS ?_
      try simp only [Act.put, List.setIfInBounds_toArray, List.set_cons_zero, List.set_cons_succ]
      refine wpAnyH_ready (rs := [12]) (by kernel_rfl) (by simp) ?_
      refine AllReadyH.cons rfl (fun K hK => ?_) AllReadyH.nil
      go_simp
      refine hK.out _ _ ⟨P2.x, P2.y⟩ (fun hS => ?_)
      clear hK K
      try simp only [Act.put, List.setIfInBounds_toArray, List.set_cons_zero, List.set_cons_succ]
      refine wpAnyH_ready (rs := [13]) (by kernel_rfl) (by simp) ?_
      refine AllReadyH.cons rfl (fun K hK => ?_) AllReadyH.nil
      refine step_store_blk rfl _ _ _ rfl (cs := zD) (ds := (dCells Ak1 ck1 Aw1 cw1 r.2).toList) (by exact P2.z) rfl rfl rfl (by kernel_rfl) (dCells_one _ _ _ _ _) ?_
      intro x3 Z3 g3
      have X3 := P2.x.grown g3 (by intro h; injection h with h; omega)
      have Y3 := P2.y.grown g3 (by intro h; injection h with h; omega)
      have RV3 := RV1.kept P2.z zD_noText g3
      have B3 := P2.b.trans (below_of_grown g3 P2.b.size fun b hb => by injection hb with hb; omega)
      refine hK.out _ _ ⟨X3, Y3⟩ (fun hS => ?_)
      clear hK K
      try simp only [Act.put, List.setIfInBounds_toArray, List.set_cons_zero, List.set_cons_succ]
      refine wpAnyH_done (by kernel_rfl) ?_ _
      go_wp2_with fail
      exact bodyPost_ret (v := .tuple #[.int .i64 r.1, .agg (dCells Ak1 ck1 Aw1 cw1 r.2)]) (results_tmp_row rfl _ _ (w.heap.size + 1 + 1) 31 _ (0, 0) _ _ rfl rfl Z3 Tryd.underlying31 rfl (by kernel_rfl)) rfl (Or.inr (Or.inr ⟨HK.out, HN.out, r, hr, _, rfl, RV3, B3⟩))
end Go.Proofs.YtpnodocjpedcmaaDoor.Im

namespace Go.Proofs.YtpnodocjpedcmaaDoor.Im
open Go.ChangeShapes Go.WideShapes Go.ChangeAt Go.RowKit Go.Proofs.YtpnodocjpedcmaaDoor.Kit Go.Proofs.YtpnodocjpedcmaaDoor.Pt
open Go.Proofs.YtpnodocjpedcmaaDoor.Sec (Dv DvAt DSet Dev RDv dCells dCells_one zD zD_noText GivesED GivesD GivesS GivesB results_tmp_row block_range wpList_load_midV)

/-- Within a step: the boxes and the result's cell lie behind the world that was called in. -/
structure In25 (w0 w W : World) (x a mk mw p0 p1 p2 : Nat) (S B sl : Int) (s : Dv) (m : Step25) (cs : Array Value) : Prop where
  d : Dev w0 W a mk mw s
  i : ImAt W x a S B sl p0 p1 p2
  t : TurnsIn (DSet a mk mw) w W
  x : Block W w.heap.size 31 cs
  c : Block W (w.heap.size + 1) 61 #[.int .i64 S, .int .i64 B, .int .i64 sl]
  y : Block W (w.heap.size + 1 + 1) 73 m.cells.toArray
  z : Block W (w.heap.size + 1 + 1 + 1) 31 zD
  g : w0.heap.size ≤ w.heap.size
section
variable {w0 w W W' : World} {x a mk mw p0 p1 p2 : Nat} {S B sl : Int} {s s' : Dv} {m : Step25} {cs cs' : Array Value}
theorem In25.below (h : In25 w0 w W x a mk mw p0 p1 p2 S B sl s m cs) (hb : Below W.heap.size W W') : In25 w0 w W' x a mk mw p0 p1 p2 S B sl s m cs :=
  ⟨h.d.below hb, h.i.below hb, h.t.trans (.ofNew hb), h.x.below hb h.x.lt, h.c.below hb h.c.lt, h.y.below hb h.y.lt, h.z.below hb h.z.lt, h.g⟩
theorem In25.turn (h : In25 w0 w W x a mk mw p0 p1 p2 S B sl s m cs) {I : Nat → Prop} (hd : DvAt W' I a mk mw s') (t : TurnsIn (DSet a mk mw) W W') : In25 w0 w W' x a mk mw p0 p1 p2 S B sl s' m cs :=
  ⟨h.d.turn hd t, h.i.turn h.d.d t, h.t.trans t, Sec.Block.dset h.d.d t h.x (by decide), Sec.Block.dset h.d.d t h.c (by decide), Sec.Block.dset h.d.d t h.y (by decide), Sec.Block.dset h.d.d t h.z (by decide), h.g⟩
theorem In25.start (h : Dev w0 w a mk mw s) (i : ImAt w x a S B sl p0 p1 p2) (m : Step25) (cs : Array Value) : In25 w0 w ((((w.alloc (.cells cs 31)).alloc (.cells #[.int .i64 S, .int .i64 B, .int .i64 sl] 61)).alloc (.cells m.cells.toArray 73)).alloc (.cells zD 31)) x a mk mw p0 p1 p2 S B sl s m cs := by
  have hX := Block.new w 31 cs
  have b1 : Below w.heap.size w (w.alloc (.cells cs 31)) := (Below.refl _ _).alloc (Nat.le_refl _) _
  have z1 : (w.alloc (.cells cs 31)).heap.size = w.heap.size + 1 := by simp
  generalize w.alloc (.cells cs 31) = W1 at *
  have hC := Block.new W1 61 #[.int .i64 S, .int .i64 B, .int .i64 sl]
  rw [z1] at hC
  have c2 : Below W1.heap.size W1 (W1.alloc (.cells #[.int .i64 S, .int .i64 B, .int .i64 sl] 61)) := (Below.refl _ _).alloc (Nat.le_refl _) _
  have z2 : (W1.alloc (.cells #[.int .i64 S, .int .i64 B, .int .i64 sl] 61)).heap.size = w.heap.size + 1 + 1 := by simp [z1]
  generalize W1.alloc (.cells #[.int .i64 S, .int .i64 B, .int .i64 sl] 61) = W2 at *
  have hY := Block.new W2 73 m.cells.toArray
  rw [z2] at hY
  have c3 : Below W2.heap.size W2 (W2.alloc (.cells m.cells.toArray 73)) := (Below.refl _ _).alloc (Nat.le_refl _) _
  have z3 : (W2.alloc (.cells m.cells.toArray 73)).heap.size = w.heap.size + 1 + 1 + 1 := by simp [z2]
  generalize W2.alloc (.cells m.cells.toArray 73) = W3 at *
  have hZ := Block.new W3 31 zD
  rw [z3] at hZ
  have c4 : Below W3.heap.size W3 (W3.alloc (.cells zD 31)) := (Below.refl _ _).alloc (Nat.le_refl _) _
  generalize W3.alloc (.cells zD 31) = W4 at *
  have b4 : Below w.heap.size w W4 := ((b1.trans (c2.mono b1.size)).trans ((c3.trans (c4.mono c3.size)).mono (by omega)))
  exact ⟨h.below b4, i.below b4, .ofNew b4, (((hX.below c2 hX.lt).below c3 (by have := hX.lt; omega)).below c4 (by have := hX.lt; omega)), ((hC.below c3 hC.lt).below c4 (by have := hC.lt; omega)), hY.below c4 hY.lt, hZ, h.b.size⟩
theorem own_conv {W : World} {B0 : Nat} {v : Value} {xs : List Int} (h : Own W B0 5 .u8 v xs) : (convert 22 9 v).run Tryd.prog W = .ok (.string (strOfNums xs)) W := by
  obtain ⟨A, c, rfl, -, -, hh⟩ := h.opened
  exact conv_bytes (P := Tryd.prog) Tryd.underlying22 Tryd.underlying5 Tryd.underlying9 W A xs c _ hh
/-- What a step leaves: both told alike, and the device and the document's are the same. -/
def Does25 (w0 w : World) (x a mk mw p0 p1 p2 : Nat) (S B sl : Int) (s : Dv) (e : Ending) (w' : World) : Prop :=
  ∃ t v, e = .returned (.tuple #[.bool true, v]) ∧ RDv w' v t ∧ Dev w0 w' a mk mw t ∧ ImAt w' x a S B sl p0 p1 p2 ∧ TurnsIn (DSet a mk mw) w w' ∧ Near s t
/-- The result's cell is filled. -/
theorem In25.done {t : Dv} (h : In25 w0 w W x a mk mw p0 p1 p2 S B sl t m cs) {Ak : Option Addr} {ck : Nat} {Aw : Option Addr} {cw : Nat} (hr : RDv W (.agg (dCells Ak ck Aw cw t)) t) (gr : W.grownBy W' (some (w.heap.size + 1 + 1 + 1))) (hn : Near s t) :
    Does25 w0 w x a mk mw p0 p1 p2 S B sl s (.returned (.tuple #[.bool true, .agg (dCells Ak ck Aw cw t)])) W' := by
  have hg := h.g
  have bw : Below w.heap.size w w := Below.refl _ _
  have tt : TurnsIn (fun b => b = w.heap.size + 1 + 1 + 1) W W' := .ofGrown gr fun b hb => by injection hb with hb; exact hb.symm
  have hz := h.z
  refine ⟨t, _, rfl, hr.kept hz zD_noText gr, h.d.grown hz (by decide) (by decide) (by omega) gr, ?_, h.t.then_ tt (fun b hb e => by omega), hn⟩
  have ne : ∀ {g : Nat} {ty : TypeId} {cs : Array Value}, Block W g ty cs → ty ≠ 31 → g ≠ w.heap.size + 1 + 1 + 1 := by
    intro g ty cs hg hne e
    exact block_ne hg hz hne e
  exact ⟨Block.out h.i.x tt (ne h.i.x (by decide)), Block.out h.i.p0 tt (ne h.i.p0 (by decide)), Block.out h.i.p1 tt (ne h.i.p1 (by decide)), Block.out h.i.p2 tt (ne h.i.p2 (by decide))⟩
end

set_option maxRecDepth 100000 in
set_option maxHeartbeats 6400000 in
/-- Kept of both. -/
theorem does_kept (w0 w : World) (x a mk mw p0 p1 p2 : Nat) (S B sl : Int) (s : Dv) (m : Step25) (dv : Value) (hd : Dev w0 w a mk mw s) (hi : ImAt w x a S B sl p0 p1 p2) (hr : RDv w dv s) (hL : LayOk S B sl s) (hm : m.Ok) (hin : m.In w0 w0.heap.size) (hbl : m.bs.length ≤ 1000) (hzl : m.zs.length ≤ 60) (hof : s.offs ≤ 100000000) (hwr : s.wr ≤ 100000000) (hk : m.k = 2) :
    Calls Tryd.prog 30 #[.pointer (some ⟨x, 0, none⟩), .pointer (some ⟨a, 0, none⟩), dv, .agg #[.int .i64 S, .int .i64 B, .int .i64 sl], .agg m.cells.toArray] w (Does25 w0 w x a mk mw p0 p1 p2 S B sl s) := by
  have hok : s.Ok := hd.d.ok
  have hwh : Whole s := whole_of hd.d
  have HBs := Lib.hid (fun W (hb : Below w0.heap.size w0 W) => (hin.1.below hb).more hb.size)
  have HZs := Lib.hid (fun W (hb : Below w0.heap.size w0 W) => (hin.2.below hb).more hb.size)
  have GK := Lib.hid (fun W (h : ImAt W x a S B sl p0 p1 p2) (hd : DvAt W (fun _ => True) a mk mw s) => kept_any _ x a mk mw p0 p1 p2 S B sl m.n s W h hd hL)
  have GD := Lib.hid (fun v W (h : RDv W v s) => rkept_any v s S B sl m.n W h hok hwh hL)
  have HR := Lib.hid (fun W (t : TurnsIn (DSet a mk mw) w W) => Sec.RDv.dset hd.d t hr)
  have h3 := Lib.hid (fun cs => In25.start hd hi m cs)
  obtain ⟨Ak, ck, Aw, cw, rfl, hkr⟩ := hr
  have H3 := Lib.hid (h3.out (dCells Ak ck Aw cw s))
  clear h3 hkr hd hi hin hL hof hwr hm hbl hzl hwh
  obtain ⟨k, blk, at_, n, view, sn, A, cap, bs, A2, cap2, zs⟩ := m
  simp only at *
  subst hk
  unfold Step25.cells zD at H3
  unfold dCells at HR H3 ⊢
  unfold Step25.cells
  simp only at H3 ⊢
  go_enter Tryd.func30, Tryd.ntmps30
  go_upto_region 1 with fail
  generalize (((w.alloc _).alloc _).alloc _).alloc _ = w4 at *
  have J4 := H3.out
  have q0 : w4.cell? ⟨w.heap.size + 1 + 1, 0, none⟩ = some (.int .i64 2) := J4.y.cell 0
  have q3 : w4.cell? ⟨w.heap.size + 1 + 1, 3, none⟩ = some (.int .i64 n) := J4.y.cell 3
  go_upto_region 12 with (have _t := J4; go_at_call 38; (with_reducible refine (GK.out _ J4.i J4.d.d).mono ?_); rintro e w5 ⟨r, hr, v5, rfl, own5, hb5⟩; have J5 := J4.below hb5; clear _t J4 q0 q3)
  have q3 : w5.cell? ⟨w.heap.size + 1 + 1, 3, none⟩ = some (.int .i64 n) := J5.y.cell 3
  have R5 := HR.out _ J5.t
  go_upto_region 13 with (first
    | (have _t := J5; refine wpList_load_midV (o := ⟨some 91, _, _, _, _, _⟩) (by rfl) _ _ rfl (w.heap.size) 0 rfl [.int .i64 s.size, .int .i64 s.count, .slice Ak s.kept.length ck, .slice Aw s.waits.length cw, .bool s.off, .int .i64 s.offs, .int .i64 s.fuse, .int .u64 s.wr] (block_range (L := [.int .i64 s.size, .int .i64 s.count, .slice Ak s.kept.length ck, .slice Aw s.waits.length cw, .bool s.off, .int .i64 s.offs, .int .i64 s.fuse, .int .u64 s.wr]) J5.x) Tryd.underlying31 rfl (by kernel_rfl) ?_)
    | (have _t := J5; refine wpList_load_midV (o := ⟨some 92, _, _, _, _, _⟩) (by rfl) _ _ rfl (w.heap.size + 1) 0 rfl [.int .i64 S, .int .i64 B, .int .i64 sl] (block_range (L := [.int .i64 S, .int .i64 B, .int .i64 sl]) J5.c) Tryd.underlying61 rfl (by kernel_rfl) ?_)
    | (have _t := R5; go_at_call 61; refine (GD.out _ _ R5).mono ?_; rintro e w6 ⟨r2, hr2, rfl, hb6⟩; obtain rfl := pread_one hr2 hr; have J6 := J5.below hb6; have R6 := R5.below hb6; have own6 := Own.below own5 hb6; clear _t J5 R5 own5 hr2 q3))
  have kc : ∀ W, Own W w4.heap.size 5 .u8 v5 r2.1 → (convert 22 9 v5).run Tryd.prog W = .ok (.string (strOfNums r2.1)) W := fun W h => own_conv h
  have P6 : In25 w0 w w6.drew x a mk mw p0 p1 p2 S B sl s _ _ := J6.below (below_draws (Below.refl _ _) 1)
  have RD6 := R6.below (show Below w6.heap.size w6 w6.drew from below_draws (Below.refl _ _) 1)
  have od6 := Own.drewN own6 1
  generalize strOfNums r2.1 = SS at *
  generalize r2.1 = xs at *
  generalize r2.2 = E at *
  refine wp_region_held_drew (S := fun W => Block W (w.heap.size) 31 #[.int .i64 s.size, .int .i64 s.count, .slice Ak s.kept.length ck, .slice Aw s.waits.length cw, .bool s.off, .int .i64 s.offs, .int .i64 s.fuse, .int .u64 s.wr] ∧ Own W w4.heap.size 5 .u8 v5 xs) (by kernel_rfl) ⟨J6.x, own6⟩ (fun hS => ?_)
  refine wpAnyH_take (i := 0) (oi := ⟨some 98, _, _, _, _, _⟩) (v := v5) rfl (by kernel_rfl) (by kernel_rfl) (by kernel_rfl) (fun _ _ _ h => h) (Or.inl ⟨by rfl, fun W hW => by go_simp⟩) hS ?_
  try simp only [Act.put, List.setIfInBounds_toArray, List.set_cons_zero, List.set_cons_succ]
  refine wpAnyH_take (i := 1) (oi := ⟨some 99, _, _, _, _, _⟩) (v := .string SS) rfl (by kernel_rfl) (by kernel_rfl) (by kernel_rfl) (fun _ _ _ h => h) (Or.inl ⟨by rfl, fun W hW => by have q := kc W hW.2; go_simp⟩) hS ?_
  try simp only [Act.put, List.setIfInBounds_toArray, List.set_cons_zero, List.set_cons_succ]
  refine wpAnyH_take (i := 2) (oi := ⟨some 100, _, _, _, _, _⟩) (v := .string SS) rfl (by kernel_rfl) (by kernel_rfl) (by kernel_rfl) (fun _ _ _ h => h) (Or.inl ⟨by rfl, fun W hW => by go_simp⟩) hS ?_
  try simp only [Act.put, List.setIfInBounds_toArray, List.set_cons_zero, List.set_cons_succ]
  refine wpAnyH_take (i := 3) (oi := ⟨some 101, _, _, _, _, _⟩) (v := .bool true) rfl (by kernel_rfl) (by kernel_rfl) (by kernel_rfl) (fun _ _ _ h => h) (Or.inl ⟨by rfl, fun W hW => by go_simp⟩) hS ?_
  try simp only [Act.put, List.setIfInBounds_toArray, List.set_cons_zero, List.set_cons_succ]
  refine wpAnyH_take (i := 4) (oi := ⟨some 102, _, _, _, _, _⟩) (v := .bool true) rfl (by kernel_rfl) (by kernel_rfl) (by kernel_rfl) (fun _ _ _ h => h) (Or.inl ⟨by rfl, fun W hW => by go_simp⟩) hS ?_
  try simp only [Act.put, List.setIfInBounds_toArray, List.set_cons_zero, List.set_cons_succ]
  refine wpAnyH_take (i := 5) (oi := ⟨some 103, _, _, _, _, _⟩) (v := .int .i64 E) rfl (by kernel_rfl) (by kernel_rfl) (by kernel_rfl) (fun _ _ _ h => h) (Or.inl ⟨by rfl, fun W hW => by go_simp⟩) hS ?_
  try simp only [Act.put, List.setIfInBounds_toArray, List.set_cons_zero, List.set_cons_succ]
  refine wpAnyH_take (i := 6) (oi := ⟨some 104, _, _, _, _, _⟩) (v := .int .i64 E) rfl (by kernel_rfl) (by kernel_rfl) (by kernel_rfl) (fun _ _ _ h => h) (Or.inl ⟨by rfl, fun W hW => by go_simp⟩) hS ?_
  try simp only [Act.put, List.setIfInBounds_toArray, List.set_cons_zero, List.set_cons_succ]
  refine wpAnyH_take (i := 7) (oi := ⟨some 105, _, _, _, _, _⟩) (v := .bool true) rfl (by kernel_rfl) (by kernel_rfl) (by kernel_rfl) (fun _ _ _ h => h) (Or.inl ⟨by rfl, fun W hW => by go_simp⟩) hS ?_
  try simp only [Act.put, List.setIfInBounds_toArray, List.set_cons_zero, List.set_cons_succ]
  refine wpAnyH_take (i := 8) (oi := ⟨some 106, _, _, _, _, _⟩) (v := .bool true) rfl (by kernel_rfl) (by kernel_rfl) (by kernel_rfl) (fun _ _ _ h => h) (Or.inl ⟨by rfl, fun W hW => by go_simp⟩) hS ?_
  try simp only [Act.put, List.setIfInBounds_toArray, List.set_cons_zero, List.set_cons_succ]
  refine wpAnyH_take (i := 9) (oi := ⟨some 107, _, _, _, _, _⟩) (v := .agg #[.int .i64 s.size, .int .i64 s.count, .slice Ak s.kept.length ck, .slice Aw s.waits.length cw, .bool s.off, .int .i64 s.offs, .int .i64 s.fuse, .int .u64 s.wr]) rfl (by kernel_rfl) (by kernel_rfl) (by kernel_rfl) (fun _ _ _ h => h) (yieldsIf_load_mid (by rfl) _ _ rfl (w.heap.size) (0) rfl [.int .i64 s.size, .int .i64 s.count, .slice Ak s.kept.length ck, .slice Aw s.waits.length cw, .bool s.off, .int .i64 s.offs, .int .i64 s.fuse, .int .u64 s.wr] _ (fun W hW => block_range (L := [.int .i64 s.size, .int .i64 s.count, .slice Ak s.kept.length ck, .slice Aw s.waits.length cw, .bool s.off, .int .i64 s.offs, .int .i64 s.fuse, .int .u64 s.wr]) hW.1) Tryd.underlying31 rfl (by kernel_rfl)) hS ?_
  try simp only [Act.put, List.setIfInBounds_toArray, List.set_cons_zero, List.set_cons_succ]
  refine wpAnyH_ready (rs := [10]) (by kernel_rfl) (by simp) ?_
  refine AllReadyH.cons rfl (fun K hK => ?_) AllReadyH.nil
  go_simp
  refine hK.out _ _ ⟨P6.x, od6⟩ (fun hS => ?_)
  clear hK K
  try simp only [Act.put, List.setIfInBounds_toArray, List.set_cons_zero, List.set_cons_succ]
  refine wpAnyH_ready (rs := [11]) (by kernel_rfl) (by simp) ?_
  refine AllReadyH.cons rfl (fun K hK => ?_) AllReadyH.nil
  refine step_store_blk rfl _ _ _ rfl (cs := zD) (ds := (dCells Ak ck Aw cw s).toList) (by exact P6.z) rfl rfl rfl (by kernel_rfl) (dCells_one _ _ _ _ _) ?_
  intro x9 Z9 g9
  have hfin := In25.done P6 RD6 g9 (Near.refl s)
  refine hK.out _ _ ⟨P6.x.grown g9 (by intro h; injection h with h; omega), od6.kept g9 (Or.inr (od6.ne_block P6.z (by decide)))⟩ (fun hS => ?_)
  clear hK K
  try simp only [Act.put, List.setIfInBounds_toArray, List.set_cons_zero, List.set_cons_succ]
  refine wpAnyH_done (by kernel_rfl) ?_ _
  go_wp2_with fail
  exact bodyPost_ret (v := .tuple #[.bool true, .agg (dCells Ak ck Aw cw s)]) (results_tmp_row rfl _ _ (w.heap.size + 1 + 1 + 1) 31 _ (0, 0) _ _ rfl rfl Z9 Tryd.underlying31 rfl (by kernel_rfl)) rfl hfin
end Go.Proofs.YtpnodocjpedcmaaDoor.Im

namespace Go.Proofs.YtpnodocjpedcmaaDoor.Im
open Go.ChangeShapes Go.WideShapes Go.ChangeAt Go.RowKit Go.Proofs.YtpnodocjpedcmaaDoor.Kit Go.Proofs.YtpnodocjpedcmaaDoor.Pt
open Go.Proofs.YtpnodocjpedcmaaDoor.Sec (Dv DvAt DSet Dev RDv dCells dCells_one zD zD_noText GivesED GivesD GivesS GivesB results_tmp_row block_range wpList_load_midV)


def PutR (s : Dv) (S B sl i k : Int) (bs : List Int) (r : Int × Dv) : Prop :=
  (¬ (0 ≤ k ∧ k < sl) ∧ r = (5, s)) ∨ ((0 ≤ k ∧ k < sl) ∧ ¬ (1 ≤ bs.length ∧ (bs.length : Int) ≤ B) ∧ r = (3, s)) ∨ ((0 ≤ k ∧ k < sl) ∧ (1 ≤ bs.length ∧ (bs.length : Int) ≤ B) ∧ PWrite s (slotF S B sl i) (B * sl).toNat (k * B) bs r)
theorem putR_one {s : Dv} {S B sl i k : Int} {bs : List Int} {r t : Int × Dv} (h : PutR s S B sl i k bs r) (g : PutR s S B sl i k bs t) : r = t := by
  rcases h with ⟨h1, rfl⟩ | ⟨h1, h2, rfl⟩ | ⟨h1, h2, h3⟩ <;> rcases g with ⟨g1, rfl⟩ | ⟨g1, g2, rfl⟩ | ⟨g1, g2, g3⟩
  all_goals first
    | rfl
    | exact absurd h1 g1
    | exact absurd g1 h1
    | exact absurd h2 g2
    | exact absurd g2 h2
    | exact pwrite_one h3 g3
theorem putR_near {s : Dv} {S B sl i k : Int} {bs : List Int} {r : Int × Dv} (hs : 1 ≤ s.size) (hb : bs.length ≤ 2000) (h : PutR s S B sl i k bs r) : Near s r.2 := by
  rcases h with ⟨_, rfl⟩ | ⟨_, _, rfl⟩ | ⟨_, _, h3⟩
  · exact Near.refl s
  · exact Near.refl s
  · exact pwrite_near hs hb h3
def KeepR (s : Dv) (B : Int) (bs : List Int) (r : Int × Dv) : Prop :=
  (¬ (1 ≤ bs.length ∧ (bs.length : Int) ≤ B) ∧ r = (3, s)) ∨ ((1 ≤ bs.length ∧ (bs.length : Int) ≤ B) ∧ PWrite s 2 B.toNat 0 bs r)
theorem keepR_one {s : Dv} {B : Int} {bs : List Int} {r t : Int × Dv} (h : KeepR s B bs r) (g : KeepR s B bs t) : r = t := by
  rcases h with ⟨h1, rfl⟩ | ⟨h1, h3⟩ <;> rcases g with ⟨g1, rfl⟩ | ⟨g1, g3⟩
  all_goals first
    | rfl
    | exact absurd h1 g1
    | exact absurd g1 h1
    | exact pwrite_one h3 g3
theorem keepR_near {s : Dv} {B : Int} {bs : List Int} {r : Int × Dv} (hs : 1 ≤ s.size) (hb : bs.length ≤ 2000) (h : KeepR s B bs r) : Near s r.2 := by
  rcases h with ⟨_, rfl⟩ | ⟨_, h3⟩
  · exact Near.refl s
  · exact pwrite_near hs hb h3

set_option maxRecDepth 100000 in
set_option maxHeartbeats 6400000 in
/-- Put of both. -/
theorem does_put (w0 w : World) (x a mk mw p0 p1 p2 : Nat) (S B sl : Int) (s : Dv) (m : Step25) (dv : Value) (hd : Dev w0 w a mk mw s) (hi : ImAt w x a S B sl p0 p1 p2) (hr : RDv w dv s) (hL : LayOk S B sl s) (hm : m.Ok) (hin : m.In w0 w0.heap.size) (hbl : m.bs.length ≤ 1000) (hzl : m.zs.length ≤ 60) (hof : s.offs ≤ 100000000) (hwr : s.wr ≤ 100000000) (hk : m.k = 0) :
    Calls Tryd.prog 30 #[.pointer (some ⟨x, 0, none⟩), .pointer (some ⟨a, 0, none⟩), dv, .agg #[.int .i64 S, .int .i64 B, .int .i64 sl], .agg m.cells.toArray] w (Does25 w0 w x a mk mw p0 p1 p2 S B sl s) := by
  have hok : s.Ok := hd.d.ok
  have hwh : Whole s := whole_of hd.d
  have HBs := Lib.hid (fun W (hb : Below w0.heap.size w0 W) => (hin.1.below hb).more hb.size)
  have HZs := Lib.hid (fun W (hb : Below w0.heap.size w0 W) => (hin.2.below hb).more hb.size)
  have GP : Hid (∀ W, ImAt W x a S B sl p0 p1 p2 → DvAt W (fun _ => True) a mk mw s → Holds W W.heap.size .u8 m.A m.bs → Calls Tryd.prog 34 #[.pointer (some ⟨x, 0, none⟩), .int .u8 m.slot, .int .i64 m.blk, .slice m.A m.bs.length m.cap] W fun e w' => ∃ r, PutR s S B sl m.slot m.blk m.bs r ∧ e = .returned (.int .i64 r.1) ∧ DvAt w' (fun _ => True) a mk mw r.2 ∧ TurnsIn (DSet a mk mw) W w') := Lib.hid (fun W h hd hh => by
    refine (put_any _ x a mk mw p0 p1 p2 S B sl m.slot m.blk m.A m.bs m.cap s W h hd hL (fun _ _ => trivial) hm.slot hm.blk (by omega) hm.b1 hm.b2 hm.bo hh hof hwr).mono ?_
    rintro e w' (⟨h1, rfl, rfl⟩ | ⟨h1, h2, rfl, rfl⟩ | ⟨h1, h2, r, h3, rfl, h4, h5⟩)
    · exact ⟨_, Or.inl ⟨h1, rfl⟩, rfl, hd, TurnsIn.refl _ _⟩
    · exact ⟨_, Or.inr (Or.inl ⟨h1, h2, rfl⟩), rfl, hd, TurnsIn.refl _ _⟩
    · exact ⟨r, Or.inr (Or.inr ⟨h1, h2, h3⟩), rfl, h4, h5⟩)
  have GD : Hid (∀ v W, RDv W v s → Calls Tryd.prog 59 #[v, .agg #[.int .i64 S, .int .i64 B, .int .i64 sl], .int .u8 m.slot, .int .i64 m.blk, .string (strOfNums m.bs)] W fun e w' => ∃ r, PutR s S B sl m.slot m.blk m.bs r ∧ GivesED r.1 r.2 W e w') := Lib.hid (fun v W h => by
    refine (rput_any v s S B sl m.slot m.blk m.bs W h hok hL (by omega) hof hwr).mono ?_
    rintro e w' (⟨h1, h2⟩ | ⟨h1, h2, h3⟩ | ⟨h1, h2, r, h3, h4⟩)
    · exact ⟨_, Or.inl ⟨h1, rfl⟩, h2⟩
    · exact ⟨_, Or.inr (Or.inl ⟨h1, h2, rfl⟩), h3⟩
    · exact ⟨r, Or.inr (Or.inr ⟨h1, h2, h3⟩), h4⟩)
  have HN : Hid (∀ r, PutR s S B sl m.slot m.blk m.bs r → Near s r.2) := Lib.hid (fun r h => putR_near (by have := hok.s1; omega) (by omega) h)
  have HR := Lib.hid (fun W (t : TurnsIn (DSet a mk mw) w W) => Sec.RDv.dset hd.d t hr)
  have h3 := Lib.hid (fun cs => In25.start hd hi m cs)
  obtain ⟨Ak, ck, Aw, cw, rfl, hkr⟩ := hr
  have H3 := Lib.hid (h3.out (dCells Ak ck Aw cw s))
  clear h3 hkr hd hi hin hL hof hwr hm hbl hzl hwh
  obtain ⟨k, blk, at_, n, view, sn, A, cap, bs, A2, cap2, zs⟩ := m
  simp only at *
  subst hk
  unfold Step25.cells zD at H3
  unfold dCells at HR H3 ⊢
  unfold Step25.cells
  simp only at H3 ⊢
  go_enter Tryd.func30, Tryd.ntmps30
  go_upto_region 1 with fail
  generalize (((w.alloc _).alloc _).alloc _).alloc _ = w4 at *
  have J4 := H3.out
  have q0 : w4.cell? ⟨w.heap.size + 1 + 1, 0, none⟩ = some (.int .i64 0) := J4.y.cell 0
  have q5 : w4.cell? ⟨w.heap.size + 1 + 1, 5, none⟩ = some (.int .u8 sn) := J4.y.cell 5
  have q1 : w4.cell? ⟨w.heap.size + 1 + 1, 1, none⟩ = some (.int .i64 blk) := J4.y.cell 1
  have q6 : w4.cell? ⟨w.heap.size + 1 + 1, 6, none⟩ = some (.slice A bs.length cap) := J4.y.cell 6
  go_upto_region 4 with (have _t := J4; go_at_call 34; (with_reducible refine (GP.out _ J4.i J4.d.d (HBs.out _ J4.d.b)).mono ?_); rintro e w5 ⟨r, hr, rfl, D5, T5⟩; have J5 := J4.turn D5 T5; clear _t J4 q0 q5 q1 q6 D5 T5)
  have q5 : w5.cell? ⟨w.heap.size + 1 + 1, 5, none⟩ = some (.int .u8 sn) := J5.y.cell 5
  have q1 : w5.cell? ⟨w.heap.size + 1 + 1, 1, none⟩ = some (.int .i64 blk) := J5.y.cell 1
  have q6 : w5.cell? ⟨w.heap.size + 1 + 1, 6, none⟩ = some (.slice A bs.length cap) := J5.y.cell 6
  have R5 := HR.out _ J5.t
  have kc := conv_bytes (P := Tryd.prog) Tryd.underlying22 Tryd.underlying5 Tryd.underlying9 w5 A bs cap _ (HBs.out _ J5.d.b)
  go_upto_region 5 with (first
    | (have _t := J5; refine wpList_load_midV (o := ⟨some 46, _, _, _, _, _⟩) (by rfl) _ _ rfl (w.heap.size) 0 rfl [.int .i64 s.size, .int .i64 s.count, .slice Ak s.kept.length ck, .slice Aw s.waits.length cw, .bool s.off, .int .i64 s.offs, .int .i64 s.fuse, .int .u64 s.wr] (block_range (L := [.int .i64 s.size, .int .i64 s.count, .slice Ak s.kept.length ck, .slice Aw s.waits.length cw, .bool s.off, .int .i64 s.offs, .int .i64 s.fuse, .int .u64 s.wr]) J5.x) Tryd.underlying31 rfl (by kernel_rfl) ?_)
    | (have _t := J5; refine wpList_load_midV (o := ⟨some 47, _, _, _, _, _⟩) (by rfl) _ _ rfl (w.heap.size + 1) 0 rfl [.int .i64 S, .int .i64 B, .int .i64 sl] (block_range (L := [.int .i64 S, .int .i64 B, .int .i64 sl]) J5.c) Tryd.underlying61 rfl (by kernel_rfl) ?_)
    | (have _t := R5; go_at_call 59; refine (GD.out _ _ R5).mono ?_; rintro e w6 ⟨r2, hr2, v6, rfl, RV6, hb6⟩; obtain rfl := putR_one hr2 hr; have J6 := J5.below hb6; obtain ⟨Ak6, ck6, Aw6, cw6, hve, hr6⟩ := RV6; have R6 : RDv w6 (.agg (dCells Ak6 ck6 Aw6 cw6 r2.2)) r2.2 := ⟨Ak6, ck6, Aw6, cw6, rfl, hr6⟩; have hz6 := J6.z.lt; subst hve; clear _t J5 R5 hr6 q5 q1 q6 kc; unfold dCells))
  have B7 : Below w6.heap.size w6 (w6.alloc (.cells #[.int .i64 r2.2.size, .int .i64 r2.2.count, .slice Ak6 r2.2.kept.length ck6, .slice Aw6 r2.2.waits.length cw6, .bool r2.2.off, .int .i64 r2.2.offs, .int .i64 r2.2.fuse, .int .u64 r2.2.wr] 31)) := (Below.refl _ _).alloc (Nat.le_refl _) _
  have X7 : Block (w6.alloc (.cells #[.int .i64 r2.2.size, .int .i64 r2.2.count, .slice Ak6 r2.2.kept.length ck6, .slice Aw6 r2.2.waits.length cw6, .bool r2.2.off, .int .i64 r2.2.offs, .int .i64 r2.2.fuse, .int .u64 r2.2.wr] 31)) w6.heap.size 31 #[.int .i64 r2.2.size, .int .i64 r2.2.count, .slice Ak6 r2.2.kept.length ck6, .slice Aw6 r2.2.waits.length cw6, .bool r2.2.off, .int .i64 r2.2.offs, .int .i64 r2.2.fuse, .int .u64 r2.2.wr] := Block.new _ _ _
  have J7 := J6.below B7
  have R7 := R6.below B7
  generalize w6.alloc (.cells #[.int .i64 r2.2.size, .int .i64 r2.2.count, .slice Ak6 r2.2.kept.length ck6, .slice Aw6 r2.2.waits.length cw6, .bool r2.2.off, .int .i64 r2.2.offs, .int .i64 r2.2.fuse, .int .u64 r2.2.wr] 31) = w7 at *
  clear J6 R6 B7
  have hne7 := Nat.ne_of_gt hz6
  generalize w6.heap.size = K7 at *
  have P7 : In25 w0 w w7.drew x a mk mw p0 p1 p2 S B sl r2.2 _ _ := J7.below (below_draws (Below.refl _ _) 1)
  have RD7 := R7.below (show Below w7.heap.size w7 w7.drew from below_draws (Below.refl _ _) 1)
  have XD7 : Block w7.drew K7 31 #[.int .i64 r2.2.size, .int .i64 r2.2.count, .slice Ak6 r2.2.kept.length ck6, .slice Aw6 r2.2.waits.length cw6, .bool r2.2.off, .int .i64 r2.2.offs, .int .i64 r2.2.fuse, .int .u64 r2.2.wr] := Block.drewN X7 1
  refine wp_region_held_drew (S := fun W => Block W K7 31 #[.int .i64 r2.2.size, .int .i64 r2.2.count, .slice Ak6 r2.2.kept.length ck6, .slice Aw6 r2.2.waits.length cw6, .bool r2.2.off, .int .i64 r2.2.offs, .int .i64 r2.2.fuse, .int .u64 r2.2.wr]) (by kernel_rfl) X7 (fun hS => ?_)
  refine wpAnyH_take (i := 0) (oi := ⟨some 58, _, _, _, _, _⟩) (v := .int .i64 r2.1) rfl (by kernel_rfl) (by kernel_rfl) (by kernel_rfl) (fun _ _ _ h => h) (Or.inl ⟨by rfl, fun W hW => by go_simp⟩) hS ?_
  try simp only [Act.put, List.setIfInBounds_toArray, List.set_cons_zero, List.set_cons_succ]
  refine wpAnyH_take (i := 1) (oi := ⟨some 59, _, _, _, _, _⟩) (v := .int .i64 r2.1) rfl (by kernel_rfl) (by kernel_rfl) (by kernel_rfl) (fun _ _ _ h => h) (Or.inl ⟨by rfl, fun W hW => by go_simp⟩) hS ?_
  try simp only [Act.put, List.setIfInBounds_toArray, List.set_cons_zero, List.set_cons_succ]
  refine wpAnyH_take (i := 2) (oi := ⟨some 60, _, _, _, _, _⟩) (v := .bool true) rfl (by kernel_rfl) (by kernel_rfl) (by kernel_rfl) (fun _ _ _ h => h) (Or.inl ⟨by rfl, fun W hW => by go_simp⟩) hS ?_
  try simp only [Act.put, List.setIfInBounds_toArray, List.set_cons_zero, List.set_cons_succ]
  refine wpAnyH_take (i := 3) (oi := ⟨some 61, _, _, _, _, _⟩) (v := .agg #[.int .i64 r2.2.size, .int .i64 r2.2.count, .slice Ak6 r2.2.kept.length ck6, .slice Aw6 r2.2.waits.length cw6, .bool r2.2.off, .int .i64 r2.2.offs, .int .i64 r2.2.fuse, .int .u64 r2.2.wr]) rfl (by kernel_rfl) (by kernel_rfl) (by kernel_rfl) (fun _ _ _ h => h) (yieldsIf_load_mid (by rfl) _ _ rfl (K7) (0) rfl [.int .i64 r2.2.size, .int .i64 r2.2.count, .slice Ak6 r2.2.kept.length ck6, .slice Aw6 r2.2.waits.length cw6, .bool r2.2.off, .int .i64 r2.2.offs, .int .i64 r2.2.fuse, .int .u64 r2.2.wr] _ (fun W hW => block_range (L := [.int .i64 r2.2.size, .int .i64 r2.2.count, .slice Ak6 r2.2.kept.length ck6, .slice Aw6 r2.2.waits.length cw6, .bool r2.2.off, .int .i64 r2.2.offs, .int .i64 r2.2.fuse, .int .u64 r2.2.wr]) hW) Tryd.underlying31 rfl (by kernel_rfl)) hS ?_
  try simp only [Act.put, List.setIfInBounds_toArray, List.set_cons_zero, List.set_cons_succ]
  refine wpAnyH_ready (rs := [4]) (by kernel_rfl) (by simp) ?_
  refine AllReadyH.cons rfl (fun K hK => ?_) AllReadyH.nil
  go_simp
  refine hK.out _ _ XD7 (fun hS => ?_)
  clear hK K
  try simp only [Act.put, List.setIfInBounds_toArray, List.set_cons_zero, List.set_cons_succ]
  refine wpAnyH_ready (rs := [5]) (by kernel_rfl) (by simp) ?_
  refine AllReadyH.cons rfl (fun K hK => ?_) AllReadyH.nil
  refine step_store_blk rfl _ _ _ rfl (cs := zD) (ds := (dCells Ak6 ck6 Aw6 cw6 r2.2).toList) (by exact P7.z) rfl rfl rfl (by kernel_rfl) (dCells_one _ _ _ _ _) ?_
  intro x9 Z9 g9
  have hfin := In25.done P7 RD7 g9 (HN.out _ hr2)
  refine hK.out _ _ (XD7.grown g9 (by intro h; injection h with h; omega)) (fun hS => ?_)
  clear hK K
  try simp only [Act.put, List.setIfInBounds_toArray, List.set_cons_zero, List.set_cons_succ]
  refine wpAnyH_done (by kernel_rfl) ?_ _
  go_wp2_with fail
  exact bodyPost_ret (v := .tuple #[.bool true, .agg (dCells Ak6 ck6 Aw6 cw6 r2.2)]) (results_tmp_row rfl _ _ (w.heap.size + 1 + 1 + 1) 31 _ (0, 0) _ _ rfl rfl Z9 Tryd.underlying31 rfl (by kernel_rfl)) rfl hfin

set_option maxRecDepth 100000 in
set_option maxHeartbeats 6400000 in
/-- Keep of both. -/
theorem does_keep (w0 w : World) (x a mk mw p0 p1 p2 : Nat) (S B sl : Int) (s : Dv) (m : Step25) (dv : Value) (hd : Dev w0 w a mk mw s) (hi : ImAt w x a S B sl p0 p1 p2) (hr : RDv w dv s) (hL : LayOk S B sl s) (hm : m.Ok) (hin : m.In w0 w0.heap.size) (hbl : m.bs.length ≤ 1000) (hzl : m.zs.length ≤ 60) (hof : s.offs ≤ 100000000) (hwr : s.wr ≤ 100000000) (hk : m.k = 1) :
    Calls Tryd.prog 30 #[.pointer (some ⟨x, 0, none⟩), .pointer (some ⟨a, 0, none⟩), dv, .agg #[.int .i64 S, .int .i64 B, .int .i64 sl], .agg m.cells.toArray] w (Does25 w0 w x a mk mw p0 p1 p2 S B sl s) := by
  have hok : s.Ok := hd.d.ok
  have hwh : Whole s := whole_of hd.d
  have HBs := Lib.hid (fun W (hb : Below w0.heap.size w0 W) => (hin.1.below hb).more hb.size)
  have HZs := Lib.hid (fun W (hb : Below w0.heap.size w0 W) => (hin.2.below hb).more hb.size)
  have GP : Hid (∀ W, ImAt W x a S B sl p0 p1 p2 → DvAt W (fun _ => True) a mk mw s → Holds W W.heap.size .u8 m.A m.bs → Calls Tryd.prog 35 #[.pointer (some ⟨x, 0, none⟩), .slice m.A m.bs.length m.cap] W fun e w' => ∃ r, KeepR s B m.bs r ∧ e = .returned (.int .i64 r.1) ∧ DvAt w' (fun _ => True) a mk mw r.2 ∧ TurnsIn (DSet a mk mw) W w') := Lib.hid (fun W h hd hh => by
    refine (keep_any _ x a mk mw p0 p1 p2 S B sl m.A m.bs m.cap s W h hd hL (fun _ _ => trivial) (by omega) hm.b1 hm.b2 hm.bo hh hof hwr).mono ?_
    rintro e w' (⟨h1, rfl, rfl⟩ | ⟨h1, r, h3, rfl, h4, h5⟩)
    · exact ⟨_, Or.inl ⟨h1, rfl⟩, rfl, hd, TurnsIn.refl _ _⟩
    · exact ⟨r, Or.inr ⟨h1, h3⟩, rfl, h4, h5⟩)
  have GD : Hid (∀ v W, RDv W v s → Calls Tryd.prog 60 #[v, .agg #[.int .i64 S, .int .i64 B, .int .i64 sl], .string (strOfNums m.bs)] W fun e w' => ∃ r, KeepR s B m.bs r ∧ GivesED r.1 r.2 W e w') := Lib.hid (fun v W h => by
    refine (rkeep_any v s S B sl m.bs W h hok hL (by omega) hof hwr).mono ?_
    rintro e w' (⟨h1, h2⟩ | ⟨h1, r, h3, h4⟩)
    · exact ⟨_, Or.inl ⟨h1, rfl⟩, h2⟩
    · exact ⟨r, Or.inr ⟨h1, h3⟩, h4⟩)
  have HN : Hid (∀ r, KeepR s B m.bs r → Near s r.2) := Lib.hid (fun r h => keepR_near (by have := hok.s1; omega) (by omega) h)
  have HR := Lib.hid (fun W (t : TurnsIn (DSet a mk mw) w W) => Sec.RDv.dset hd.d t hr)
  have h3 := Lib.hid (fun cs => In25.start hd hi m cs)
  obtain ⟨Ak, ck, Aw, cw, rfl, hkr⟩ := hr
  have H3 := Lib.hid (h3.out (dCells Ak ck Aw cw s))
  clear h3 hkr hd hi hin hL hof hwr hm hbl hzl hwh
  obtain ⟨k, blk, at_, n, view, sn, A, cap, bs, A2, cap2, zs⟩ := m
  simp only at *
  subst hk
  unfold Step25.cells zD at H3
  unfold dCells at HR H3 ⊢
  unfold Step25.cells
  simp only at H3 ⊢
  go_enter Tryd.func30, Tryd.ntmps30
  go_upto_region 1 with fail
  generalize (((w.alloc _).alloc _).alloc _).alloc _ = w4 at *
  have J4 := H3.out
  have q0 : w4.cell? ⟨w.heap.size + 1 + 1, 0, none⟩ = some (.int .i64 1) := J4.y.cell 0
  have q6 : w4.cell? ⟨w.heap.size + 1 + 1, 6, none⟩ = some (.slice A bs.length cap) := J4.y.cell 6
  go_upto_region 8 with (have _t := J4; go_at_call 35; (with_reducible refine (GP.out _ J4.i J4.d.d (HBs.out _ J4.d.b)).mono ?_); rintro e w5 ⟨r, hr, rfl, D5, T5⟩; have J5 := J4.turn D5 T5; clear _t J4 q0 q6 D5 T5)
  have q6 : w5.cell? ⟨w.heap.size + 1 + 1, 6, none⟩ = some (.slice A bs.length cap) := J5.y.cell 6
  have R5 := HR.out _ J5.t
  have kc := conv_bytes (P := Tryd.prog) Tryd.underlying22 Tryd.underlying5 Tryd.underlying9 w5 A bs cap _ (HBs.out _ J5.d.b)
  go_upto_region 9 with (first
    | (have _t := J5; refine wpList_load_midV (o := ⟨some 69, _, _, _, _, _⟩) (by rfl) _ _ rfl (w.heap.size) 0 rfl [.int .i64 s.size, .int .i64 s.count, .slice Ak s.kept.length ck, .slice Aw s.waits.length cw, .bool s.off, .int .i64 s.offs, .int .i64 s.fuse, .int .u64 s.wr] (block_range (L := [.int .i64 s.size, .int .i64 s.count, .slice Ak s.kept.length ck, .slice Aw s.waits.length cw, .bool s.off, .int .i64 s.offs, .int .i64 s.fuse, .int .u64 s.wr]) J5.x) Tryd.underlying31 rfl (by kernel_rfl) ?_)
    | (have _t := J5; refine wpList_load_midV (o := ⟨some 70, _, _, _, _, _⟩) (by rfl) _ _ rfl (w.heap.size + 1) 0 rfl [.int .i64 S, .int .i64 B, .int .i64 sl] (block_range (L := [.int .i64 S, .int .i64 B, .int .i64 sl]) J5.c) Tryd.underlying61 rfl (by kernel_rfl) ?_)
    | (have _t := R5; go_at_call 60; refine (GD.out _ _ R5).mono ?_; rintro e w6 ⟨r2, hr2, v6, rfl, RV6, hb6⟩; obtain rfl := keepR_one hr2 hr; have J6 := J5.below hb6; obtain ⟨Ak6, ck6, Aw6, cw6, hve, hr6⟩ := RV6; have R6 : RDv w6 (.agg (dCells Ak6 ck6 Aw6 cw6 r2.2)) r2.2 := ⟨Ak6, ck6, Aw6, cw6, rfl, hr6⟩; have hz6 := J6.z.lt; subst hve; clear _t J5 R5 hr6 q6 kc; unfold dCells))
  have B7 : Below w6.heap.size w6 (w6.alloc (.cells #[.int .i64 r2.2.size, .int .i64 r2.2.count, .slice Ak6 r2.2.kept.length ck6, .slice Aw6 r2.2.waits.length cw6, .bool r2.2.off, .int .i64 r2.2.offs, .int .i64 r2.2.fuse, .int .u64 r2.2.wr] 31)) := (Below.refl _ _).alloc (Nat.le_refl _) _
  have X7 : Block (w6.alloc (.cells #[.int .i64 r2.2.size, .int .i64 r2.2.count, .slice Ak6 r2.2.kept.length ck6, .slice Aw6 r2.2.waits.length cw6, .bool r2.2.off, .int .i64 r2.2.offs, .int .i64 r2.2.fuse, .int .u64 r2.2.wr] 31)) w6.heap.size 31 #[.int .i64 r2.2.size, .int .i64 r2.2.count, .slice Ak6 r2.2.kept.length ck6, .slice Aw6 r2.2.waits.length cw6, .bool r2.2.off, .int .i64 r2.2.offs, .int .i64 r2.2.fuse, .int .u64 r2.2.wr] := Block.new _ _ _
  have J7 := J6.below B7
  have R7 := R6.below B7
  generalize w6.alloc (.cells #[.int .i64 r2.2.size, .int .i64 r2.2.count, .slice Ak6 r2.2.kept.length ck6, .slice Aw6 r2.2.waits.length cw6, .bool r2.2.off, .int .i64 r2.2.offs, .int .i64 r2.2.fuse, .int .u64 r2.2.wr] 31) = w7 at *
  clear J6 R6 B7
  have hne7 := Nat.ne_of_gt hz6
  generalize w6.heap.size = K7 at *
  have P7 : In25 w0 w w7.drew x a mk mw p0 p1 p2 S B sl r2.2 _ _ := J7.below (below_draws (Below.refl _ _) 1)
  have RD7 := R7.below (show Below w7.heap.size w7 w7.drew from below_draws (Below.refl _ _) 1)
  have XD7 : Block w7.drew K7 31 #[.int .i64 r2.2.size, .int .i64 r2.2.count, .slice Ak6 r2.2.kept.length ck6, .slice Aw6 r2.2.waits.length cw6, .bool r2.2.off, .int .i64 r2.2.offs, .int .i64 r2.2.fuse, .int .u64 r2.2.wr] := Block.drewN X7 1
  refine wp_region_held_drew (S := fun W => Block W K7 31 #[.int .i64 r2.2.size, .int .i64 r2.2.count, .slice Ak6 r2.2.kept.length ck6, .slice Aw6 r2.2.waits.length cw6, .bool r2.2.off, .int .i64 r2.2.offs, .int .i64 r2.2.fuse, .int .u64 r2.2.wr]) (by kernel_rfl) X7 (fun hS => ?_)
  refine wpAnyH_take (i := 0) (oi := ⟨some 77, _, _, _, _, _⟩) (v := .int .i64 r2.1) rfl (by kernel_rfl) (by kernel_rfl) (by kernel_rfl) (fun _ _ _ h => h) (Or.inl ⟨by rfl, fun W hW => by go_simp⟩) hS ?_
  try simp only [Act.put, List.setIfInBounds_toArray, List.set_cons_zero, List.set_cons_succ]
  refine wpAnyH_take (i := 1) (oi := ⟨some 78, _, _, _, _, _⟩) (v := .int .i64 r2.1) rfl (by kernel_rfl) (by kernel_rfl) (by kernel_rfl) (fun _ _ _ h => h) (Or.inl ⟨by rfl, fun W hW => by go_simp⟩) hS ?_
  try simp only [Act.put, List.setIfInBounds_toArray, List.set_cons_zero, List.set_cons_succ]
  refine wpAnyH_take (i := 2) (oi := ⟨some 79, _, _, _, _, _⟩) (v := .bool true) rfl (by kernel_rfl) (by kernel_rfl) (by kernel_rfl) (fun _ _ _ h => h) (Or.inl ⟨by rfl, fun W hW => by go_simp⟩) hS ?_
  try simp only [Act.put, List.setIfInBounds_toArray, List.set_cons_zero, List.set_cons_succ]
  refine wpAnyH_take (i := 3) (oi := ⟨some 80, _, _, _, _, _⟩) (v := .agg #[.int .i64 r2.2.size, .int .i64 r2.2.count, .slice Ak6 r2.2.kept.length ck6, .slice Aw6 r2.2.waits.length cw6, .bool r2.2.off, .int .i64 r2.2.offs, .int .i64 r2.2.fuse, .int .u64 r2.2.wr]) rfl (by kernel_rfl) (by kernel_rfl) (by kernel_rfl) (fun _ _ _ h => h) (yieldsIf_load_mid (by rfl) _ _ rfl (K7) (0) rfl [.int .i64 r2.2.size, .int .i64 r2.2.count, .slice Ak6 r2.2.kept.length ck6, .slice Aw6 r2.2.waits.length cw6, .bool r2.2.off, .int .i64 r2.2.offs, .int .i64 r2.2.fuse, .int .u64 r2.2.wr] _ (fun W hW => block_range (L := [.int .i64 r2.2.size, .int .i64 r2.2.count, .slice Ak6 r2.2.kept.length ck6, .slice Aw6 r2.2.waits.length cw6, .bool r2.2.off, .int .i64 r2.2.offs, .int .i64 r2.2.fuse, .int .u64 r2.2.wr]) hW) Tryd.underlying31 rfl (by kernel_rfl)) hS ?_
  try simp only [Act.put, List.setIfInBounds_toArray, List.set_cons_zero, List.set_cons_succ]
  refine wpAnyH_ready (rs := [4]) (by kernel_rfl) (by simp) ?_
  refine AllReadyH.cons rfl (fun K hK => ?_) AllReadyH.nil
  go_simp
  refine hK.out _ _ XD7 (fun hS => ?_)
  clear hK K
  try simp only [Act.put, List.setIfInBounds_toArray, List.set_cons_zero, List.set_cons_succ]
  refine wpAnyH_ready (rs := [5]) (by kernel_rfl) (by simp) ?_
  refine AllReadyH.cons rfl (fun K hK => ?_) AllReadyH.nil
  refine step_store_blk rfl _ _ _ rfl (cs := zD) (ds := (dCells Ak6 ck6 Aw6 cw6 r2.2).toList) (by exact P7.z) rfl rfl rfl (by kernel_rfl) (dCells_one _ _ _ _ _) ?_
  intro x9 Z9 g9
  have hfin := In25.done P7 RD7 g9 (HN.out _ hr2)
  refine hK.out _ _ (XD7.grown g9 (by intro h; injection h with h; omega)) (fun hS => ?_)
  clear hK K
  try simp only [Act.put, List.setIfInBounds_toArray, List.set_cons_zero, List.set_cons_succ]
  refine wpAnyH_done (by kernel_rfl) ?_ _
  go_wp2_with fail
  exact bodyPost_ret (v := .tuple #[.bool true, .agg (dCells Ak6 ck6 Aw6 cw6 r2.2)]) (results_tmp_row rfl _ _ (w.heap.size + 1 + 1 + 1) 31 _ (0, 0) _ _ rfl rfl Z9 Tryd.underlying31 rfl (by kernel_rfl)) rfl hfin
end Go.Proofs.YtpnodocjpedcmaaDoor.Im

namespace Go.Proofs.YtpnodocjpedcmaaDoor.Im
open Go.ChangeShapes Go.WideShapes Go.ChangeAt Go.RowKit Go.Proofs.YtpnodocjpedcmaaDoor.Kit Go.Proofs.YtpnodocjpedcmaaDoor.Pt
open Go.Proofs.YtpnodocjpedcmaaDoor.Sec (Dv DvAt DSet Dev RDv dCells dCells_one zD zD_noText GivesED GivesD GivesS GivesB results_tmp_row block_range wpList_load_midV)


set_option maxRecDepth 100000 in
set_option maxHeartbeats 6400000 in
/-- Sync of both. -/
theorem does_sync (w0 w : World) (x a mk mw p0 p1 p2 : Nat) (S B sl : Int) (s : Dv) (m : Step25) (dv : Value) (hd : Dev w0 w a mk mw s) (hi : ImAt w x a S B sl p0 p1 p2) (hr : RDv w dv s) (hL : LayOk S B sl s) (hm : m.Ok) (hin : m.In w0 w0.heap.size) (hbl : m.bs.length ≤ 1000) (hzl : m.zs.length ≤ 60) (hof : s.offs ≤ 100000000) (hwr : s.wr ≤ 100000000) (hk : m.k = 6) :
    Calls Tryd.prog 30 #[.pointer (some ⟨x, 0, none⟩), .pointer (some ⟨a, 0, none⟩), dv, .agg #[.int .i64 S, .int .i64 B, .int .i64 sl], .agg m.cells.toArray] w (Does25 w0 w x a mk mw p0 p1 p2 S B sl s) := by
  have hok : s.Ok := hd.d.ok
  have hwh : Whole s := whole_of hd.d
  have HBs := Lib.hid (fun W (hb : Below w0.heap.size w0 W) => (hin.1.below hb).more hb.size)
  have HZs := Lib.hid (fun W (hb : Below w0.heap.size w0 W) => (hin.2.below hb).more hb.size)
  obtain ⟨r2, hr2⟩ : ∃ r2, s.sync = r2 := ⟨_, rfl⟩
  have GP := Lib.hid (fun W (hd : DvAt W (fun _ => True) a mk mw s) => Sec.sync_any _ a mk mw s W hd (by omega))
  have GD := Lib.hid (fun v W (h : RDv W v s) => Sec.rsync_any v s W h hok (by omega))
  have HN : Hid (Near s s.sync.2) := Lib.hid (by have h := Jr.sync_near s; exact ⟨by omega, by omega, h.2.2.1, h.2.2.2⟩)
  rw [hr2] at GP GD HN
  clear hr2
  have HR := Lib.hid (fun W (t : TurnsIn (DSet a mk mw) w W) => Sec.RDv.dset hd.d t hr)
  have h3 := Lib.hid (fun cs => In25.start hd hi m cs)
  obtain ⟨Ak, ck, Aw, cw, rfl, hkr⟩ := hr
  have H3 := Lib.hid (h3.out (dCells Ak ck Aw cw s))
  clear h3 hkr hd hi hin hL hof hwr hm hbl hzl hwh
  obtain ⟨k, blk, at_, n, view, sn, A, cap, bs, A2, cap2, zs⟩ := m
  simp only at *
  subst hk
  unfold Step25.cells zD at H3
  unfold dCells at HR H3 ⊢
  unfold Step25.cells
  simp only at H3 ⊢
  go_enter Tryd.func30, Tryd.ntmps30
  go_upto_region 1 with fail
  generalize (((w.alloc _).alloc _).alloc _).alloc _ = w4 at *
  have J4 := H3.out
  have q0 : w4.cell? ⟨w.heap.size + 1 + 1, 0, none⟩ = some (.int .i64 6) := J4.y.cell 0
  go_upto_region 27 with (have _t := J4; go_at_call 53; refine (GP.out _ J4.d.d).mono ?_; rintro e w5 ⟨rfl, D5, T5⟩; have J5 := J4.turn D5 T5; clear _t J4 q0  D5 T5)
  have R5 := HR.out _ J5.t
  go_upto_region 28 with (first
    | (have _t := J5; refine wpList_load_midV (o := ⟨some 164, _, _, _, _, _⟩) (by rfl) _ _ rfl (w.heap.size) 0 rfl [.int .i64 s.size, .int .i64 s.count, .slice Ak s.kept.length ck, .slice Aw s.waits.length cw, .bool s.off, .int .i64 s.offs, .int .i64 s.fuse, .int .u64 s.wr] (block_range (L := [.int .i64 s.size, .int .i64 s.count, .slice Ak s.kept.length ck, .slice Aw s.waits.length cw, .bool s.off, .int .i64 s.offs, .int .i64 s.fuse, .int .u64 s.wr]) J5.x) Tryd.underlying31 rfl (by kernel_rfl) ?_)
    | (have _t := R5; go_at_call 63; refine (GD.out _ _ R5).mono ?_; rintro e w6 ⟨v6, rfl, RV6, hb6⟩; have J6 := J5.below hb6; obtain ⟨Ak6, ck6, Aw6, cw6, hve, hr6⟩ := RV6; have R6 : RDv w6 (.agg (dCells Ak6 ck6 Aw6 cw6 r2.2)) r2.2 := ⟨Ak6, ck6, Aw6, cw6, rfl, hr6⟩; have hz6 := J6.z.lt; subst hve; clear _t J5 R5 hr6  ; unfold dCells))
  have B7 : Below w6.heap.size w6 (w6.alloc (.cells #[.int .i64 r2.2.size, .int .i64 r2.2.count, .slice Ak6 r2.2.kept.length ck6, .slice Aw6 r2.2.waits.length cw6, .bool r2.2.off, .int .i64 r2.2.offs, .int .i64 r2.2.fuse, .int .u64 r2.2.wr] 31)) := (Below.refl _ _).alloc (Nat.le_refl _) _
  have X7 : Block (w6.alloc (.cells #[.int .i64 r2.2.size, .int .i64 r2.2.count, .slice Ak6 r2.2.kept.length ck6, .slice Aw6 r2.2.waits.length cw6, .bool r2.2.off, .int .i64 r2.2.offs, .int .i64 r2.2.fuse, .int .u64 r2.2.wr] 31)) w6.heap.size 31 #[.int .i64 r2.2.size, .int .i64 r2.2.count, .slice Ak6 r2.2.kept.length ck6, .slice Aw6 r2.2.waits.length cw6, .bool r2.2.off, .int .i64 r2.2.offs, .int .i64 r2.2.fuse, .int .u64 r2.2.wr] := Block.new _ _ _
  have J7 := J6.below B7
  have R7 := R6.below B7
  generalize w6.alloc (.cells #[.int .i64 r2.2.size, .int .i64 r2.2.count, .slice Ak6 r2.2.kept.length ck6, .slice Aw6 r2.2.waits.length cw6, .bool r2.2.off, .int .i64 r2.2.offs, .int .i64 r2.2.fuse, .int .u64 r2.2.wr] 31) = w7 at *
  clear J6 R6 B7
  have hne7 := Nat.ne_of_gt hz6
  generalize w6.heap.size = K7 at *
  have P7 : In25 w0 w w7.drew x a mk mw p0 p1 p2 S B sl r2.2 _ _ := J7.below (below_draws (Below.refl _ _) 1)
  have RD7 := R7.below (show Below w7.heap.size w7 w7.drew from below_draws (Below.refl _ _) 1)
  have XD7 : Block w7.drew K7 31 #[.int .i64 r2.2.size, .int .i64 r2.2.count, .slice Ak6 r2.2.kept.length ck6, .slice Aw6 r2.2.waits.length cw6, .bool r2.2.off, .int .i64 r2.2.offs, .int .i64 r2.2.fuse, .int .u64 r2.2.wr] := Block.drewN X7 1
  refine wp_region_held_drew (S := fun W => Block W K7 31 #[.int .i64 r2.2.size, .int .i64 r2.2.count, .slice Ak6 r2.2.kept.length ck6, .slice Aw6 r2.2.waits.length cw6, .bool r2.2.off, .int .i64 r2.2.offs, .int .i64 r2.2.fuse, .int .u64 r2.2.wr]) (by kernel_rfl) X7 (fun hS => ?_)
  refine wpAnyH_take (i := 0) (oi := ⟨some 168, _, _, _, _, _⟩) (v := .int .i64 r2.1) rfl (by kernel_rfl) (by kernel_rfl) (by kernel_rfl) (fun _ _ _ h => h) (Or.inl ⟨by rfl, fun W hW => by go_simp⟩) hS ?_
  try simp only [Act.put, List.setIfInBounds_toArray, List.set_cons_zero, List.set_cons_succ]
  refine wpAnyH_take (i := 1) (oi := ⟨some 169, _, _, _, _, _⟩) (v := .int .i64 r2.1) rfl (by kernel_rfl) (by kernel_rfl) (by kernel_rfl) (fun _ _ _ h => h) (Or.inl ⟨by rfl, fun W hW => by go_simp⟩) hS ?_
  try simp only [Act.put, List.setIfInBounds_toArray, List.set_cons_zero, List.set_cons_succ]
  refine wpAnyH_take (i := 2) (oi := ⟨some 170, _, _, _, _, _⟩) (v := .bool true) rfl (by kernel_rfl) (by kernel_rfl) (by kernel_rfl) (fun _ _ _ h => h) (Or.inl ⟨by rfl, fun W hW => by go_simp⟩) hS ?_
  try simp only [Act.put, List.setIfInBounds_toArray, List.set_cons_zero, List.set_cons_succ]
  refine wpAnyH_take (i := 3) (oi := ⟨some 171, _, _, _, _, _⟩) (v := .agg #[.int .i64 r2.2.size, .int .i64 r2.2.count, .slice Ak6 r2.2.kept.length ck6, .slice Aw6 r2.2.waits.length cw6, .bool r2.2.off, .int .i64 r2.2.offs, .int .i64 r2.2.fuse, .int .u64 r2.2.wr]) rfl (by kernel_rfl) (by kernel_rfl) (by kernel_rfl) (fun _ _ _ h => h) (yieldsIf_load_mid (by rfl) _ _ rfl (K7) (0) rfl [.int .i64 r2.2.size, .int .i64 r2.2.count, .slice Ak6 r2.2.kept.length ck6, .slice Aw6 r2.2.waits.length cw6, .bool r2.2.off, .int .i64 r2.2.offs, .int .i64 r2.2.fuse, .int .u64 r2.2.wr] _ (fun W hW => block_range (L := [.int .i64 r2.2.size, .int .i64 r2.2.count, .slice Ak6 r2.2.kept.length ck6, .slice Aw6 r2.2.waits.length cw6, .bool r2.2.off, .int .i64 r2.2.offs, .int .i64 r2.2.fuse, .int .u64 r2.2.wr]) hW) Tryd.underlying31 rfl (by kernel_rfl)) hS ?_
  try simp only [Act.put, List.setIfInBounds_toArray, List.set_cons_zero, List.set_cons_succ]
  refine wpAnyH_ready (rs := [4]) (by kernel_rfl) (by simp) ?_
  refine AllReadyH.cons rfl (fun K hK => ?_) AllReadyH.nil
  go_simp
  refine hK.out _ _ XD7 (fun hS => ?_)
  clear hK K
  try simp only [Act.put, List.setIfInBounds_toArray, List.set_cons_zero, List.set_cons_succ]
  refine wpAnyH_ready (rs := [5]) (by kernel_rfl) (by simp) ?_
  refine AllReadyH.cons rfl (fun K hK => ?_) AllReadyH.nil
  refine step_store_blk rfl _ _ _ rfl (cs := zD) (ds := (dCells Ak6 ck6 Aw6 cw6 r2.2).toList) (by exact P7.z) rfl rfl rfl (by kernel_rfl) (dCells_one _ _ _ _ _) ?_
  intro x9 Z9 g9
  have hfin := In25.done P7 RD7 g9 HN.out
  refine hK.out _ _ (XD7.grown g9 (by intro h; injection h with h; omega)) (fun hS => ?_)
  clear hK K
  try simp only [Act.put, List.setIfInBounds_toArray, List.set_cons_zero, List.set_cons_succ]
  refine wpAnyH_done (by kernel_rfl) ?_ _
  go_wp2_with fail
  exact bodyPost_ret (v := .tuple #[.bool true, .agg (dCells Ak6 ck6 Aw6 cw6 r2.2)]) (results_tmp_row rfl _ _ (w.heap.size + 1 + 1 + 1) 31 _ (0, 0) _ _ rfl rfl Z9 Tryd.underlying31 rfl (by kernel_rfl)) rfl hfin
end Go.Proofs.YtpnodocjpedcmaaDoor.Im

namespace Go.Proofs.YtpnodocjpedcmaaDoor.Im
open Go.ChangeShapes Go.WideShapes Go.ChangeAt Go.RowKit Go.Proofs.YtpnodocjpedcmaaDoor.Kit Go.Proofs.YtpnodocjpedcmaaDoor.Pt
open Go.Proofs.YtpnodocjpedcmaaDoor.Sec (Dv DvAt DSet Dev RDv dCells dCells_one zD zD_noText GivesED GivesD GivesS GivesB results_tmp_row block_range wpList_load_midV)


def RangeR (s : Dv) (S B sl i view from_ n : Int) (r : List Int × Int) : Prop :=
  (¬ (0 ≤ from_ ∧ from_ ≤ min (max view 0) (B * sl) ∧ 0 ≤ n ∧ n ≤ min (max view 0) (B * sl) - from_) ∧ r = ([], 5)) ∨
    ((0 ≤ from_ ∧ from_ ≤ min (max view 0) (B * sl) ∧ 0 ≤ n ∧ n ≤ min (max view 0) (B * sl) - from_) ∧ PRead s (slotF S B sl i) (B * sl).toNat from_ n r)
theorem rangeR_one {s : Dv} {S B sl i view from_ n : Int} {r t : List Int × Int} (h : RangeR s S B sl i view from_ n r) (g : RangeR s S B sl i view from_ n t) : r = t := by
  rcases h with ⟨h1, rfl⟩ | ⟨h1, h3⟩ <;> rcases g with ⟨g1, rfl⟩ | ⟨g1, g3⟩
  all_goals first
    | rfl
    | exact absurd h1 g1
    | exact absurd g1 h1
    | exact pread_one h3 g3

set_option maxRecDepth 100000 in
set_option maxHeartbeats 6400000 in
/-- Range of both. -/
theorem does_range (w0 w : World) (x a mk mw p0 p1 p2 : Nat) (S B sl : Int) (s : Dv) (m : Step25) (dv : Value) (hd : Dev w0 w a mk mw s) (hi : ImAt w x a S B sl p0 p1 p2) (hr : RDv w dv s) (hL : LayOk S B sl s) (hm : m.Ok) (hin : m.In w0 w0.heap.size) (hbl : m.bs.length ≤ 1000) (hzl : m.zs.length ≤ 60) (hof : s.offs ≤ 100000000) (hwr : s.wr ≤ 100000000) (hk : m.k ≠ 0 ∧ m.k ≠ 1 ∧ m.k ≠ 2 ∧ m.k ≠ 3 ∧ m.k ≠ 4 ∧ m.k ≠ 5 ∧ m.k ≠ 6) :
    Calls Tryd.prog 30 #[.pointer (some ⟨x, 0, none⟩), .pointer (some ⟨a, 0, none⟩), dv, .agg #[.int .i64 S, .int .i64 B, .int .i64 sl], .agg m.cells.toArray] w (Does25 w0 w x a mk mw p0 p1 p2 S B sl s) := by
  have hok : s.Ok := hd.d.ok
  have hwh : Whole s := whole_of hd.d
  have HBs := Lib.hid (fun W (hb : Below w0.heap.size w0 W) => (hin.1.below hb).more hb.size)
  have HZs := Lib.hid (fun W (hb : Below w0.heap.size w0 W) => (hin.2.below hb).more hb.size)
  obtain ⟨hS, hB, hs, hdd, hq, h00, h01, h02, h03⟩ := hL.facts
  have GV := Lib.hid (fun W (h : ImAt W x a S B sl p0 p1 p2) => view_any x a p0 p1 p2 S B sl m.slot m.view s W h hL hm.slot)
  have GR : Hid (∀ W v, ViewAt W v (slotP p0 p1 m.slot) (min (max m.view 0) (B * sl)) → ImAt W x a S B sl p0 p1 p2 → DvAt W (fun _ => True) a mk mw s → Calls Tryd.prog 37 #[.pointer (some ⟨v, 0, none⟩), .int .i64 m.at_, .int .i64 m.n] W fun e w' => ∃ r, RangeR s S B sl m.slot m.view m.at_ m.n r ∧ GivesB r.1 r.2 W e w') := Lib.hid (fun W v hv h hd => by
    refine (range_any _ v (slotP p0 p1 m.slot) a mk mw _ _ (B * sl).toNat (min (max m.view 0) (B * sl)) m.at_ m.n s W hv (h.slot m.slot) hd (hL.lies m.slot) (by omega) hm.at_).mono ?_
    rintro e w' (⟨h1, h2⟩ | ⟨h1, r, h3, h4⟩)
    · exact ⟨_, Or.inl ⟨h1, rfl⟩, h2⟩
    · exact ⟨r, Or.inr ⟨h1, h3⟩, h4⟩)
  have GD : Hid (∀ v W, RDv W v s → Calls Tryd.prog 64 #[v, .agg #[.int .i64 S, .int .i64 B, .int .i64 sl], .int .u8 m.slot, .int .i64 m.view, .int .i64 m.at_, .int .i64 m.n] W fun e w' => ∃ r, RangeR s S B sl m.slot m.view m.at_ m.n r ∧ GivesS r.1 r.2 W e w') := Lib.hid (fun v W h => by
    refine (rrange_any v s S B sl m.slot m.view m.at_ m.n W h hok hwh hL hm.at_).mono ?_
    rintro e w' (⟨h1, h2⟩ | ⟨h1, r, h3, h4⟩)
    · exact ⟨_, Or.inl ⟨h1, rfl⟩, h2⟩
    · exact ⟨r, Or.inr ⟨h1, h3⟩, h4⟩)
  have e0 : (m.k == 0) = false := by simpa using hk.1
  have e1 : (m.k == 1) = false := by simpa using hk.2.1
  have e2 : (m.k == 2) = false := by simpa using hk.2.2.1
  have e3 : (m.k == 3) = false := by simpa using hk.2.2.2.1
  have e4 : (m.k == 4) = false := by simpa using hk.2.2.2.2.1
  have e5 : (m.k == 5) = false := by simpa using hk.2.2.2.2.2.1
  have e6 : (m.k == 6) = false := by simpa using hk.2.2.2.2.2.2
  clear hk hS hB hs hdd hq h00 h01 h02 h03
  generalize min (max m.view 0) (B * sl) = V at GV GR
  have HR := Lib.hid (fun W (t : TurnsIn (DSet a mk mw) w W) => Sec.RDv.dset hd.d t hr)
  have h3 := Lib.hid (fun cs => In25.start hd hi m cs)
  obtain ⟨Ak, ck, Aw, cw, rfl, hkr⟩ := hr
  have H3 := Lib.hid (h3.out (dCells Ak ck Aw cw s))
  clear h3 hkr hd hi hin hL hof hwr hm hbl hzl hwh
  obtain ⟨k, blk, at_, n, view, sn, A, cap, bs, A2, cap2, zs⟩ := m
  simp only at *
  unfold Step25.cells zD at H3
  unfold dCells at HR H3 ⊢
  unfold Step25.cells
  simp only at H3 ⊢
  go_enter Tryd.func30, Tryd.ntmps30
  go_upto_region 1 with fail
  generalize (((w.alloc _).alloc _).alloc _).alloc _ = w4 at *
  have J4 := H3.out
  have q0 : w4.cell? ⟨w.heap.size + 1 + 1, 0, none⟩ = some (.int .i64 k) := J4.y.cell 0
  go_upto_region 29 with fail
  have q2 : w4.cell? ⟨w.heap.size + 1 + 1, 2, none⟩ = some (.int .i64 at_) := J4.y.cell 2
  have q3 : w4.cell? ⟨w.heap.size + 1 + 1, 3, none⟩ = some (.int .i64 n) := J4.y.cell 3
  have q4 : w4.cell? ⟨w.heap.size + 1 + 1, 4, none⟩ = some (.int .i64 view) := J4.y.cell 4
  have q5 : w4.cell? ⟨w.heap.size + 1 + 1, 5, none⟩ = some (.int .u8 sn) := J4.y.cell 5
  have Jd := J4.below (show Below w4.heap.size w4 w4.drew from below_draws (Below.refl _ _) 1)
  have HJd := Lib.hid Jd
  have HJ4 := Lib.hid J4
  clear Jd J4 q0 e0 e1 e2 e3 e4 e5 e6
  go_region_held3 (fun W' => W'.cell? ⟨w.heap.size + 1 + 1, 2, none⟩ = some (.int .i64 at_) ∧ W'.cell? ⟨w.heap.size + 1 + 1, 3, none⟩ = some (.int .i64 n) ∧ W'.cell? ⟨w.heap.size + 1 + 1, 4, none⟩ = some (.int .i64 view) ∧ W'.cell? ⟨w.heap.size + 1 + 1, 5, none⟩ = some (.int .u8 sn))
    (first | exact ⟨q2, q3, q4, q5⟩ | exact ⟨HJd.out.y.cell 2, HJd.out.y.cell 3, HJd.out.y.cell 4, HJd.out.y.cell 5⟩ | exact ⟨J5.y.cell 2, J5.y.cell 3, J5.y.cell 4, J5.y.cell 5⟩ | exact ⟨Jv.y.cell 2, Jv.y.cell 3, Jv.y.cell 4, Jv.y.cell 5⟩)
    (first
      | (go_at_call 36; refine (GV.out _ HJd.out.i).mono ?_; rintro e wv ⟨vv, rfl, hv, Vv, hbv⟩; have Jv := HJd.out.below hbv)
      | (have _t := Vv; go_at_call 37; refine (GR.out _ vv Vv Jv.i Jv.d.d).mono ?_; rintro e w5 ⟨r, hr, v5, rfl, own5, hb5⟩; have J5 := Jv.below hb5))
  have own5 := Own.mono own5 (show w4.heap.size ≤ wv.heap.size from hbv.size)
  clear q2 q3 q4 q5 HJd HJ4 Jv Vv hbv hb5 hv GV GR
  have q2 : w5.cell? ⟨w.heap.size + 1 + 1, 2, none⟩ = some (.int .i64 at_) := J5.y.cell 2
  have q3 : w5.cell? ⟨w.heap.size + 1 + 1, 3, none⟩ = some (.int .i64 n) := J5.y.cell 3
  have q4 : w5.cell? ⟨w.heap.size + 1 + 1, 4, none⟩ = some (.int .i64 view) := J5.y.cell 4
  have q5 : w5.cell? ⟨w.heap.size + 1 + 1, 5, none⟩ = some (.int .u8 sn) := J5.y.cell 5
  have R5 := HR.out _ J5.t
  go_upto_region 31 with (first
    | (have _t := J5; refine wpList_load_midV (o := ⟨some 187, _, _, _, _, _⟩) (by rfl) _ _ rfl (w.heap.size) 0 rfl [.int .i64 s.size, .int .i64 s.count, .slice Ak s.kept.length ck, .slice Aw s.waits.length cw, .bool s.off, .int .i64 s.offs, .int .i64 s.fuse, .int .u64 s.wr] (block_range (L := [.int .i64 s.size, .int .i64 s.count, .slice Ak s.kept.length ck, .slice Aw s.waits.length cw, .bool s.off, .int .i64 s.offs, .int .i64 s.fuse, .int .u64 s.wr]) J5.x) Tryd.underlying31 rfl (by kernel_rfl) ?_)
    | (have _t := J5; refine wpList_load_midV (o := ⟨some 188, _, _, _, _, _⟩) (by rfl) _ _ rfl (w.heap.size + 1) 0 rfl [.int .i64 S, .int .i64 B, .int .i64 sl] (block_range (L := [.int .i64 S, .int .i64 B, .int .i64 sl]) J5.c) Tryd.underlying61 rfl (by kernel_rfl) ?_)
    | (have _t := R5; go_at_call 64; refine (GD.out _ _ R5).mono ?_; rintro e w6 ⟨r2, hr2, rfl, hb6⟩; obtain rfl := rangeR_one hr2 hr; have J6 := J5.below hb6; have R6 := R5.below hb6; have own6 := Own.below own5 hb6; clear _t J5 R5 own5 hr2 q2 q3 q4 q5))
  have kc : ∀ W, Own W w4.heap.size 5 .u8 v5 r2.1 → (convert 22 9 v5).run Tryd.prog W = .ok (.string (strOfNums r2.1)) W := fun W h => own_conv h
  have P6 : In25 w0 w w6.drew x a mk mw p0 p1 p2 S B sl s _ _ := J6.below (below_draws (Below.refl _ _) 1)
  have RD6 := R6.below (show Below w6.heap.size w6 w6.drew from below_draws (Below.refl _ _) 1)
  have od6 := Own.drewN own6 1
  generalize strOfNums r2.1 = SS at *
  generalize r2.1 = xs at *
  generalize r2.2 = E at *
  refine wp_region_held_drew (S := fun W => Block W (w.heap.size) 31 #[.int .i64 s.size, .int .i64 s.count, .slice Ak s.kept.length ck, .slice Aw s.waits.length cw, .bool s.off, .int .i64 s.offs, .int .i64 s.fuse, .int .u64 s.wr] ∧ Own W w4.heap.size 5 .u8 v5 xs) (by kernel_rfl) ⟨J6.x, own6⟩ (fun hS => ?_)
  refine wpAnyH_take (i := 0) (oi := ⟨some 200, _, _, _, _, _⟩) (v := v5) rfl (by kernel_rfl) (by kernel_rfl) (by kernel_rfl) (fun _ _ _ h => h) (Or.inl ⟨by rfl, fun W hW => by go_simp⟩) hS ?_
  try simp only [Act.put, List.setIfInBounds_toArray, List.set_cons_zero, List.set_cons_succ]
  refine wpAnyH_take (i := 1) (oi := ⟨some 201, _, _, _, _, _⟩) (v := .string SS) rfl (by kernel_rfl) (by kernel_rfl) (by kernel_rfl) (fun _ _ _ h => h) (Or.inl ⟨by rfl, fun W hW => by have q := kc W hW.2; go_simp⟩) hS ?_
  try simp only [Act.put, List.setIfInBounds_toArray, List.set_cons_zero, List.set_cons_succ]
  refine wpAnyH_take (i := 2) (oi := ⟨some 202, _, _, _, _, _⟩) (v := .string SS) rfl (by kernel_rfl) (by kernel_rfl) (by kernel_rfl) (fun _ _ _ h => h) (Or.inl ⟨by rfl, fun W hW => by go_simp⟩) hS ?_
  try simp only [Act.put, List.setIfInBounds_toArray, List.set_cons_zero, List.set_cons_succ]
  refine wpAnyH_take (i := 3) (oi := ⟨some 203, _, _, _, _, _⟩) (v := .bool true) rfl (by kernel_rfl) (by kernel_rfl) (by kernel_rfl) (fun _ _ _ h => h) (Or.inl ⟨by rfl, fun W hW => by go_simp⟩) hS ?_
  try simp only [Act.put, List.setIfInBounds_toArray, List.set_cons_zero, List.set_cons_succ]
  refine wpAnyH_take (i := 4) (oi := ⟨some 204, _, _, _, _, _⟩) (v := .bool true) rfl (by kernel_rfl) (by kernel_rfl) (by kernel_rfl) (fun _ _ _ h => h) (Or.inl ⟨by rfl, fun W hW => by go_simp⟩) hS ?_
  try simp only [Act.put, List.setIfInBounds_toArray, List.set_cons_zero, List.set_cons_succ]
  refine wpAnyH_take (i := 5) (oi := ⟨some 205, _, _, _, _, _⟩) (v := .int .i64 E) rfl (by kernel_rfl) (by kernel_rfl) (by kernel_rfl) (fun _ _ _ h => h) (Or.inl ⟨by rfl, fun W hW => by go_simp⟩) hS ?_
  try simp only [Act.put, List.setIfInBounds_toArray, List.set_cons_zero, List.set_cons_succ]
  refine wpAnyH_take (i := 6) (oi := ⟨some 206, _, _, _, _, _⟩) (v := .int .i64 E) rfl (by kernel_rfl) (by kernel_rfl) (by kernel_rfl) (fun _ _ _ h => h) (Or.inl ⟨by rfl, fun W hW => by go_simp⟩) hS ?_
  try simp only [Act.put, List.setIfInBounds_toArray, List.set_cons_zero, List.set_cons_succ]
  refine wpAnyH_take (i := 7) (oi := ⟨some 207, _, _, _, _, _⟩) (v := .bool true) rfl (by kernel_rfl) (by kernel_rfl) (by kernel_rfl) (fun _ _ _ h => h) (Or.inl ⟨by rfl, fun W hW => by go_simp⟩) hS ?_
  try simp only [Act.put, List.setIfInBounds_toArray, List.set_cons_zero, List.set_cons_succ]
  refine wpAnyH_take (i := 8) (oi := ⟨some 208, _, _, _, _, _⟩) (v := .bool true) rfl (by kernel_rfl) (by kernel_rfl) (by kernel_rfl) (fun _ _ _ h => h) (Or.inl ⟨by rfl, fun W hW => by go_simp⟩) hS ?_
  try simp only [Act.put, List.setIfInBounds_toArray, List.set_cons_zero, List.set_cons_succ]
  refine wpAnyH_take (i := 9) (oi := ⟨some 209, _, _, _, _, _⟩) (v := .agg #[.int .i64 s.size, .int .i64 s.count, .slice Ak s.kept.length ck, .slice Aw s.waits.length cw, .bool s.off, .int .i64 s.offs, .int .i64 s.fuse, .int .u64 s.wr]) rfl (by kernel_rfl) (by kernel_rfl) (by kernel_rfl) (fun _ _ _ h => h) (yieldsIf_load_mid (by rfl) _ _ rfl (w.heap.size) (0) rfl [.int .i64 s.size, .int .i64 s.count, .slice Ak s.kept.length ck, .slice Aw s.waits.length cw, .bool s.off, .int .i64 s.offs, .int .i64 s.fuse, .int .u64 s.wr] _ (fun W hW => block_range (L := [.int .i64 s.size, .int .i64 s.count, .slice Ak s.kept.length ck, .slice Aw s.waits.length cw, .bool s.off, .int .i64 s.offs, .int .i64 s.fuse, .int .u64 s.wr]) hW.1) Tryd.underlying31 rfl (by kernel_rfl)) hS ?_
  try simp only [Act.put, List.setIfInBounds_toArray, List.set_cons_zero, List.set_cons_succ]
  refine wpAnyH_ready (rs := [10]) (by kernel_rfl) (by simp) ?_
  refine AllReadyH.cons rfl (fun K hK => ?_) AllReadyH.nil
  go_simp
  refine hK.out _ _ ⟨P6.x, od6⟩ (fun hS => ?_)
  clear hK K
  try simp only [Act.put, List.setIfInBounds_toArray, List.set_cons_zero, List.set_cons_succ]
  refine wpAnyH_ready (rs := [11]) (by kernel_rfl) (by simp) ?_
  refine AllReadyH.cons rfl (fun K hK => ?_) AllReadyH.nil
  refine step_store_blk rfl _ _ _ rfl (cs := zD) (ds := (dCells Ak ck Aw cw s).toList) (by exact P6.z) rfl rfl rfl (by kernel_rfl) (dCells_one _ _ _ _ _) ?_
  intro x9 Z9 g9
  have hfin := In25.done P6 RD6 g9 (Near.refl s)
  refine hK.out _ _ ⟨P6.x.grown g9 (by intro h; injection h with h; omega), od6.kept g9 (Or.inr (od6.ne_block P6.z (by decide)))⟩ (fun hS => ?_)
  clear hK K
  try simp only [Act.put, List.setIfInBounds_toArray, List.set_cons_zero, List.set_cons_succ]
  refine wpAnyH_done (by kernel_rfl) ?_ _
  go_wp2_with fail
  exact bodyPost_ret (v := .tuple #[.bool true, .agg (dCells Ak ck Aw cw s)]) (results_tmp_row rfl _ _ (w.heap.size + 1 + 1 + 1) 31 _ (0, 0) _ _ rfl rfl Z9 Tryd.underlying31 rfl (by kernel_rfl)) rfl hfin
end Go.Proofs.YtpnodocjpedcmaaDoor.Im

namespace Go.Proofs.YtpnodocjpedcmaaDoor.Im
open Go.ChangeShapes Go.WideShapes Go.ChangeAt Go.RowKit Go.Proofs.YtpnodocjpedcmaaDoor.Kit Go.Proofs.YtpnodocjpedcmaaDoor.Pt
open Go.Proofs.YtpnodocjpedcmaaDoor.Sec (Dv DvAt DSet Dev RDv dCells dCells_one zD zD_noText GivesED GivesD GivesS GivesB results_tmp_row block_range wpList_load_midV)


open Go.Proofs.YtpnodocjpedcmaaDoor.Sha (LaidS sumL_length)
def SumR (s : Dv) (S B sl i n : Int) (r : List Int × Int) : Prop :=
  (¬ (0 ≤ n ∧ n ≤ B * sl) ∧ r = ([], 5)) ∨ ((0 ≤ n ∧ n ≤ B * sl) ∧ ReadsP s (slotF S B sl i) 0 n.toNat r)
theorem sumR_one {s : Dv} {S B sl i n : Int} {r t : List Int × Int} (h : SumR s S B sl i n r) (g : SumR s S B sl i n t) : r = t := by
  rcases h with ⟨h1, rfl⟩ | ⟨h1, h3⟩ <;> rcases g with ⟨g1, rfl⟩ | ⟨g1, g3⟩
  all_goals first
    | rfl
    | exact absurd h1 g1
    | exact absurd g1 h1
    | exact reads_one h3 g3
theorem lay_last (w : World) (o : Obj) : Below w.heap.size w (w.alloc o) := (Below.refl _ _).alloc (Nat.le_refl _) _
theorem dig_eq (ys : List Int) (h : ys.length = 32) (w : World) : (Op.equalIn 10000 48 (.agg (ys.map (Value.int .u8)).toArray) (.agg (ys.map (Value.int .u8)).toArray)).run Tryd.prog w = .ok true w := by
  have h1 := run_equalIn_array (P := Tryd.prog) (w := w) (t := 48) 9999 (ys.map (Value.int .u8)).toArray (ys.map (Value.int .u8)).toArray (n := ys.length) (e := 5) (by rw [h]; exact Tryd.underlying48) (Option.eq_some_of_isSome (by kernel_rfl))
  have h2 := run_eqItems_ints (P := Tryd.prog) (w := w) (e := 5) (k := .u8) (k' := .u8) 9998 (by kernel_rfl) Tryd.underlying5 (by kernel_rfl) ys ys (List.range ys.length) (fun j hj => by have := List.mem_range.1 hj; omega)
  rw [h2] at h1
  rw [show decide (∀ j ∈ List.range ys.length, ys[j]?.getD 0 = ys[j]?.getD 0) = true from decide_eq_true (fun _ _ => rfl)] at h1
  exact h1
theorem dig_gd (ys : List Int) (x y : Operand) (w : World) : (eqGuard .eql 48 x y (.agg (ys.map (Value.int .u8)).toArray) (.agg (ys.map (Value.int .u8)).toArray)).run Tryd.prog w = .ok () w := run_eqGuard_agg w .eql 48 x y _ _ (by kernel_rfl)

set_option maxRecDepth 100000 in
set_option maxHeartbeats 6400000 in
/-- Sum of both. -/
theorem does_sum (w0 w : World) (x a mk mw p0 p1 p2 : Nat) (S B sl : Int) (s : Dv) (m : Step25) (dv : Value) (hd : Dev w0 w a mk mw s) (hi : ImAt w x a S B sl p0 p1 p2) (hr : RDv w dv s) (hL : LayOk S B sl s) (hm : m.Ok) (hin : m.In w0 w0.heap.size) (hbl : m.bs.length ≤ 1000) (hzl : m.zs.length ≤ 60) (hof : s.offs ≤ 100000000) (hwr : s.wr ≤ 100000000) (hLS : LaidS w0) (hk : m.k = 3) :
    Calls Tryd.prog 30 #[.pointer (some ⟨x, 0, none⟩), .pointer (some ⟨a, 0, none⟩), dv, .agg #[.int .i64 S, .int .i64 B, .int .i64 sl], .agg m.cells.toArray] w (Does25 w0 w x a mk mw p0 p1 p2 S B sl s) := by
  have hok : s.Ok := hd.d.ok
  have hwh : Whole s := whole_of hd.d
  have HBs := Lib.hid (fun W (hb : Below w0.heap.size w0 W) => (hin.1.below hb).more hb.size)
  have HZs := Lib.hid (fun W (hb : Below w0.heap.size w0 W) => (hin.2.below hb).more hb.size)
  have GP : Hid (∀ W, ImAt W x a S B sl p0 p1 p2 → DvAt W (fun _ => True) a mk mw s → Below w0.heap.size w0 W → Calls Tryd.prog 33 #[.pointer (some ⟨x, 0, none⟩), .int .u8 m.slot, .int .i64 m.n] W fun e w' => ∃ r, SumR s S B sl m.slot m.n r ∧ e = .returned (.tuple #[arrV .u8 (sumOf r), .int .i64 r.2]) ∧ Below W.heap.size W w') := Lib.hid (fun W h hd hb => by
    by_cases hn : 0 ≤ m.n ∧ m.n ≤ B * sl
    · obtain ⟨N, hN⟩ : ∃ N : Nat, m.n = N := ⟨m.n.toNat, by omega⟩
      rw [hN] at hn ⊢
      refine (isum_yes _ x a mk mw p0 p1 p2 S B sl m.slot N s W h hd hL hm.slot hn.2 (hLS.below hb)).mono ?_
      rintro e w' ⟨r, h1, h2, h3⟩
      exact ⟨r, Or.inr ⟨hn, by rw [Int.toNat_natCast]; exact h1⟩, h2, h3⟩
    · refine (isum_no x a p0 p1 p2 S B sl m.slot m.n s W h hL hn).mono ?_
      rintro e w' ⟨h1, h2⟩
      exact ⟨([], 5), Or.inl ⟨hn, rfl⟩, h1, h2⟩)
  have GD : Hid (∀ v W, RDv W v s → Calls Tryd.prog 62 #[v, .agg #[.int .i64 S, .int .i64 B, .int .i64 sl], .int .u8 m.slot, .int .i64 m.n] W fun e w' => ∃ r, SumR s S B sl m.slot m.n r ∧ e = .returned (.tuple #[arrV .u8 (sumOf r), .int .i64 r.2]) ∧ Below W.heap.size W w') := Lib.hid (fun v W h => by
    by_cases hn : 0 ≤ m.n ∧ m.n ≤ B * sl
    · obtain ⟨N, hN⟩ : ∃ N : Nat, m.n = N := ⟨m.n.toNat, by omega⟩
      rw [hN] at hn ⊢
      refine (rsum_yes v s S B sl m.slot N W h hok hwh hL hn.2).mono ?_
      rintro e w' ⟨r, h1, h2, h3⟩
      exact ⟨r, Or.inr ⟨hn, by rw [Int.toNat_natCast]; exact h1⟩, h2, h3⟩
    · refine (rsum_no v s S B sl m.slot m.n W h hL hn).mono ?_
      rintro e w' ⟨h1, h2⟩
      exact ⟨([], 5), Or.inl ⟨hn, rfl⟩, h1, h2⟩)
  have HR := Lib.hid (fun W (t : TurnsIn (DSet a mk mw) w W) => Sec.RDv.dset hd.d t hr)
  have h3 := Lib.hid (fun cs => In25.start hd hi m cs)
  obtain ⟨Ak, ck, Aw, cw, rfl, hkr⟩ := hr
  have H3 := Lib.hid (h3.out (dCells Ak ck Aw cw s))
  clear h3 hkr hd hi hin hL hof hwr hm hbl hzl hwh
  obtain ⟨k, blk, at_, n, view, sn, A, cap, bs, A2, cap2, zs⟩ := m
  simp only at *
  subst hk
  unfold Step25.cells zD at H3
  unfold dCells at HR H3 ⊢
  unfold Step25.cells
  simp only at H3 ⊢
  go_enter Tryd.func30, Tryd.ntmps30
  go_upto_region 1 with fail
  generalize (((w.alloc _).alloc _).alloc _).alloc _ = w4 at *
  have J4 := H3.out
  have q0 : w4.cell? ⟨w.heap.size + 1 + 1, 0, none⟩ = some (.int .i64 3) := J4.y.cell 0
  have q3 : w4.cell? ⟨w.heap.size + 1 + 1, 3, none⟩ = some (.int .i64 n) := J4.y.cell 3
  have q5 : w4.cell? ⟨w.heap.size + 1 + 1, 5, none⟩ = some (.int .u8 sn) := J4.y.cell 5
  go_upto_region 16 with (first
    | (have _t := J4; go_at_call 33; (with_reducible refine (GP.out _ J4.i J4.d.d J4.d.b).mono ?_); rintro e w5 ⟨r, hr, rfl, hb5⟩; have J5 := J4.below hb5; have hl5 := sumOf_length r; have HL5 := Lib.hid hl5; clear _t J4 q0 q3 q5 hl5)
    | (have _t := J5; refine wpList_store_arr rfl _ _ _ rfl (ys := sumOf r) (res_new w5 48) rfl rfl (by rw [HL5.out]; rfl) (by rw [HL5.out]; kernel_rfl) ?_; clear _t; intro w6 r6 g6))
  have hb6 : Below w5.heap.size w5 w6 := (lay_last w5 _).trans (below_of_grown g6 (lay_last w5 _).size fun b hb => by injection hb with hb; omega)
  have J6 := J5.below hb6
  have hzq := J5.z.lt
  clear J5 g6 hb6 hb5
  generalize w5.heap.size = Q at *
  have q3 : w6.cell? ⟨w.heap.size + 1 + 1, 3, none⟩ = some (.int .i64 n) := J6.y.cell 3
  have q5 : w6.cell? ⟨w.heap.size + 1 + 1, 5, none⟩ = some (.int .u8 sn) := J6.y.cell 5
  have R6 := HR.out _ J6.t
  go_upto_region 17 with (first
    | (have _t := J6; refine wpList_load_midV (o := ⟨some 120, _, _, _, _, _⟩) (by rfl) _ _ rfl (w.heap.size) 0 rfl [.int .i64 s.size, .int .i64 s.count, .slice Ak s.kept.length ck, .slice Aw s.waits.length cw, .bool s.off, .int .i64 s.offs, .int .i64 s.fuse, .int .u64 s.wr] (block_range (L := [.int .i64 s.size, .int .i64 s.count, .slice Ak s.kept.length ck, .slice Aw s.waits.length cw, .bool s.off, .int .i64 s.offs, .int .i64 s.fuse, .int .u64 s.wr]) J6.x) Tryd.underlying31 rfl (by kernel_rfl) ?_)
    | (have _t := J6; refine wpList_load_midV (o := ⟨some 121, _, _, _, _, _⟩) (by rfl) _ _ rfl (w.heap.size + 1) 0 rfl [.int .i64 S, .int .i64 B, .int .i64 sl] (block_range (L := [.int .i64 S, .int .i64 B, .int .i64 sl]) J6.c) Tryd.underlying61 rfl (by kernel_rfl) ?_)
    | (have _t := R6; go_at_call 62; refine (GD.out _ _ R6).mono ?_; rintro e w7 ⟨r2, hr2, rfl, hb7⟩; obtain rfl := sumR_one hr2 hr; have J7 := J6.below hb7; have R7 := R6.below hb7; have a7 := Block.below r6 hb7 (Block.lt r6); clear _t J6 R6 r6 hr2 q3 q5)
    | (have _t := J7; refine wpList_store_arr rfl _ _ _ rfl (ys := sumOf r2) (res_new w7 47) rfl rfl (by rw [HL5.out]; rfl) (by rw [HL5.out]; kernel_rfl) ?_; clear _t; intro w8 r8 g8))
  have hb8 : Below w7.heap.size w7 w8 := (lay_last w7 _).trans (below_of_grown g8 (lay_last w7 _).size fun b hb => by injection hb with hb; omega)
  have J8 := J7.below hb8
  have R8 := R7.below hb8
  have a8 : Arr w8 Q 48 .u8 (sumOf r2) := Block.below a7 hb8 (Block.lt a7)
  have hz8 := J7.z.lt
  clear J7 R7 a7 g8 hb8 hb7 hr
  generalize w7.heap.size = Q8 at *
  have P8 := J8.below (show Below w8.heap.size w8 w8.drew from below_draws (Below.refl _ _) 1)
  have RD8 := R8.below (show Below w8.heap.size w8 w8.drew from below_draws (Below.refl _ _) 1)
  have a9 := Arr.drewN a8 1
  have r9 := Arr.drewN r8 1
  generalize sumOf r2 = ys at *
  generalize r2.2 = E at *
  refine wp_region_held_drew (S := fun W => Block W (w.heap.size) 31 #[.int .i64 s.size, .int .i64 s.count, .slice Ak s.kept.length ck, .slice Aw s.waits.length cw, .bool s.off, .int .i64 s.offs, .int .i64 s.fuse, .int .u64 s.wr] ∧ Arr W Q 48 .u8 ys ∧ Arr W Q8 47 .u8 ys) (by kernel_rfl) ⟨J8.x, a8, r8⟩ (fun hS => ?_)
  refine wpAnyH_take (i := 0) (oi := ⟨some 129, _, _, _, _, _⟩) (v := .agg (ys.map (Value.int .u8)).toArray) rfl (by kernel_rfl) (by kernel_rfl) (by kernel_rfl) (fun _ _ _ h => h) (yieldsIf_load_mid (by rfl) _ _ rfl Q 0 rfl (ys.map (Value.int .u8)) _ (fun W hW => Arr.range hW.2.1) Tryd.underlying48 rfl (by rw [List.length_map, HL5.out]; kernel_rfl)) hS ?_
  try simp only [Act.put, List.setIfInBounds_toArray, List.set_cons_zero, List.set_cons_succ]
  refine wpAnyH_take (i := 1) (oi := ⟨some 130, _, _, _, _, _⟩) (v := .agg (ys.map (Value.int .u8)).toArray) rfl (by kernel_rfl) (by kernel_rfl) (by kernel_rfl) (fun _ _ _ h => h) (yieldsIf_load_mid (by rfl) _ _ rfl Q8 0 rfl (ys.map (Value.int .u8)) _ (fun W hW => Arr.range hW.2.2) Tryd.underlying47 rfl (by rw [List.length_map, HL5.out]; kernel_rfl)) hS ?_
  try simp only [Act.put, List.setIfInBounds_toArray, List.set_cons_zero, List.set_cons_succ]
  refine wpAnyH_take (i := 2) (oi := ⟨some 131, _, _, _, _, _⟩) (v := .bool true) rfl (by kernel_rfl) (by kernel_rfl) (by kernel_rfl) (fun _ _ _ h => h) (Or.inl ⟨by rfl, fun W hW => by have q1 := dig_eq ys HL5.out W; have q2 := fun x y => dig_gd ys x y W; go_simp⟩) hS ?_
  try simp only [Act.put, List.setIfInBounds_toArray, List.set_cons_zero, List.set_cons_succ]
  refine wpAnyH_take (i := 3) (oi := ⟨some 132, _, _, _, _, _⟩) (v := .bool true) rfl (by kernel_rfl) (by kernel_rfl) (by kernel_rfl) (fun _ _ _ h => h) (Or.inl ⟨by rfl, fun W hW => by go_simp⟩) hS ?_
  try simp only [Act.put, List.setIfInBounds_toArray, List.set_cons_zero, List.set_cons_succ]
  refine wpAnyH_take (i := 4) (oi := ⟨some 133, _, _, _, _, _⟩) (v := .int .i64 E) rfl (by kernel_rfl) (by kernel_rfl) (by kernel_rfl) (fun _ _ _ h => h) (Or.inl ⟨by rfl, fun W hW => by go_simp⟩) hS ?_
  try simp only [Act.put, List.setIfInBounds_toArray, List.set_cons_zero, List.set_cons_succ]
  refine wpAnyH_take (i := 5) (oi := ⟨some 134, _, _, _, _, _⟩) (v := .int .i64 E) rfl (by kernel_rfl) (by kernel_rfl) (by kernel_rfl) (fun _ _ _ h => h) (Or.inl ⟨by rfl, fun W hW => by go_simp⟩) hS ?_
  try simp only [Act.put, List.setIfInBounds_toArray, List.set_cons_zero, List.set_cons_succ]
  refine wpAnyH_take (i := 6) (oi := ⟨some 135, _, _, _, _, _⟩) (v := .bool true) rfl (by kernel_rfl) (by kernel_rfl) (by kernel_rfl) (fun _ _ _ h => h) (Or.inl ⟨by rfl, fun W hW => by go_simp⟩) hS ?_
  try simp only [Act.put, List.setIfInBounds_toArray, List.set_cons_zero, List.set_cons_succ]
  refine wpAnyH_take (i := 7) (oi := ⟨some 136, _, _, _, _, _⟩) (v := .bool true) rfl (by kernel_rfl) (by kernel_rfl) (by kernel_rfl) (fun _ _ _ h => h) (Or.inl ⟨by rfl, fun W hW => by go_simp⟩) hS ?_
  try simp only [Act.put, List.setIfInBounds_toArray, List.set_cons_zero, List.set_cons_succ]
  refine wpAnyH_take (i := 8) (oi := ⟨some 137, _, _, _, _, _⟩) (v := .agg #[.int .i64 s.size, .int .i64 s.count, .slice Ak s.kept.length ck, .slice Aw s.waits.length cw, .bool s.off, .int .i64 s.offs, .int .i64 s.fuse, .int .u64 s.wr]) rfl (by kernel_rfl) (by kernel_rfl) (by kernel_rfl) (fun _ _ _ h => h) (yieldsIf_load_mid (by rfl) _ _ rfl (w.heap.size) (0) rfl [.int .i64 s.size, .int .i64 s.count, .slice Ak s.kept.length ck, .slice Aw s.waits.length cw, .bool s.off, .int .i64 s.offs, .int .i64 s.fuse, .int .u64 s.wr] _ (fun W hW => block_range (L := [.int .i64 s.size, .int .i64 s.count, .slice Ak s.kept.length ck, .slice Aw s.waits.length cw, .bool s.off, .int .i64 s.offs, .int .i64 s.fuse, .int .u64 s.wr]) hW.1) Tryd.underlying31 rfl (by kernel_rfl)) hS ?_
  try simp only [Act.put, List.setIfInBounds_toArray, List.set_cons_zero, List.set_cons_succ]
  refine wpAnyH_ready (rs := [9]) (by kernel_rfl) (by simp) ?_
  refine AllReadyH.cons rfl (fun K hK => ?_) AllReadyH.nil
  go_simp
  refine hK.out _ _ ⟨P8.x, a9, r9⟩ (fun hS => ?_)
  clear hK K
  try simp only [Act.put, List.setIfInBounds_toArray, List.set_cons_zero, List.set_cons_succ]
  refine wpAnyH_ready (rs := [10]) (by kernel_rfl) (by simp) ?_
  refine AllReadyH.cons rfl (fun K hK => ?_) AllReadyH.nil
  refine step_store_blk rfl _ _ _ rfl (cs := zD) (ds := (dCells Ak ck Aw cw s).toList) (by exact P8.z) rfl rfl rfl (by kernel_rfl) (dCells_one _ _ _ _ _) ?_
  intro x9 Z9 g9
  have hfin := In25.done P8 RD8 g9 (Near.refl s)
  refine hK.out _ _ ⟨P8.x.grown g9 (by intro h; injection h with h; omega), Arr.grown a9 g9 (by intro h; injection h with h; omega), Arr.grown r9 g9 (by intro h; injection h with h; omega)⟩ (fun hS => ?_)
  clear hK K
  try simp only [Act.put, List.setIfInBounds_toArray, List.set_cons_zero, List.set_cons_succ]
  refine wpAnyH_done (by kernel_rfl) ?_ _
  go_wp2_with fail
  exact bodyPost_ret (v := .tuple #[.bool true, .agg (dCells Ak ck Aw cw s)]) (results_tmp_row rfl _ _ (w.heap.size + 1 + 1 + 1) 31 _ (0, 0) _ _ rfl rfl Z9 Tryd.underlying31 rfl (by kernel_rfl)) rfl hfin
end Go.Proofs.YtpnodocjpedcmaaDoor.Im

namespace Go.Proofs.YtpnodocjpedcmaaDoor.Im
open Go.ChangeShapes Go.WideShapes Go.ChangeAt Go.RowKit Go.Proofs.YtpnodocjpedcmaaDoor.Kit Go.Proofs.YtpnodocjpedcmaaDoor.Pt
open Go.Proofs.YtpnodocjpedcmaaDoor.Sec (Dv DvAt DSet Dev RDv dCells dCells_one zD zD_noText GivesED GivesD GivesS GivesB results_tmp_row block_range wpList_load_midV)


/-- The document's device is stored over in its box. -/
theorem In25.store {w0 w W W' : World} {x a mk mw p0 p1 p2 : Nat} {S B sl : Int} {s : Dv} {m : Step25} {cs cs' : Array Value} (h : In25 w0 w W x a mk mw p0 p1 p2 S B sl s m cs) (X : Block W' w.heap.size 31 cs') (gr : W.grownBy W' (some w.heap.size)) : In25 w0 w W' x a mk mw p0 p1 p2 S B sl s m cs' := by
  have hg := h.g
  have tt : TurnsIn (fun b => b = w.heap.size) W W' := .ofGrown gr fun b hb => by injection hb with hb; exact hb.symm
  have ne : ∀ {g : Nat} {ty : TypeId} {cs : Array Value}, Block W g ty cs → ty ≠ 31 → g ≠ w.heap.size := by
    intro g ty cs hg hne e
    exact block_ne hg h.x hne e
  exact ⟨h.d.grown h.x (by decide) (by decide) hg gr, ⟨Block.out h.i.x tt (ne h.i.x (by decide)), Block.out h.i.p0 tt (ne h.i.p0 (by decide)), Block.out h.i.p1 tt (ne h.i.p1 (by decide)), Block.out h.i.p2 tt (ne h.i.p2 (by decide))⟩,
    h.t.then_ tt (fun b hb e => by omega), X, Block.out h.c tt (by omega), Block.out h.y tt (by omega), Block.out h.z tt (by omega), hg⟩

set_option maxRecDepth 100000 in
set_option maxHeartbeats 6400000 in
/-- A fuse of both. -/
theorem does_fuse (w0 w : World) (x a mk mw p0 p1 p2 : Nat) (S B sl : Int) (s : Dv) (m : Step25) (dv : Value) (hd : Dev w0 w a mk mw s) (hi : ImAt w x a S B sl p0 p1 p2) (hr : RDv w dv s) (hL : LayOk S B sl s) (hm : m.Ok) (hin : m.In w0 w0.heap.size) (hbl : m.bs.length ≤ 1000) (hzl : m.zs.length ≤ 60) (hof : s.offs ≤ 100000000) (hwr : s.wr ≤ 100000000) (hk : m.k = 4) :
    Calls Tryd.prog 30 #[.pointer (some ⟨x, 0, none⟩), .pointer (some ⟨a, 0, none⟩), dv, .agg #[.int .i64 S, .int .i64 B, .int .i64 sl], .agg m.cells.toArray] w (Does25 w0 w x a mk mw p0 p1 p2 S B sl s) := by
  have hok : s.Ok := hd.d.ok
  have hwh : Whole s := whole_of hd.d
  have HBs := Lib.hid (fun W (hb : Below w0.heap.size w0 W) => (hin.1.below hb).more hb.size)
  have HZs := Lib.hid (fun W (hb : Below w0.heap.size w0 W) => (hin.2.below hb).more hb.size)
  have GF := Lib.hid (fun W (hd : DvAt W (fun _ => True) a mk mw s) => Sec.fuse_any _ a mk mw s m.n W hd hm.n)
  have HR := Lib.hid (fun W (t : TurnsIn (DSet a mk mw) w W) => Sec.RDv.dset hd.d t hr)
  have h3 := Lib.hid (fun cs => In25.start hd hi m cs)
  obtain ⟨Ak, ck, Aw, cw, rfl, hkr⟩ := hr
  have H3 := Lib.hid (h3.out (dCells Ak ck Aw cw s))
  clear h3 hkr hd hi hin hL hof hwr hm hbl hzl hwh
  obtain ⟨k, blk, at_, n, view, sn, A, cap, bs, A2, cap2, zs⟩ := m
  simp only at *
  subst hk
  unfold Step25.cells zD at H3
  unfold dCells at HR H3 ⊢
  unfold Step25.cells
  simp only at H3 ⊢
  go_enter Tryd.func30, Tryd.ntmps30
  go_upto_region 1 with fail
  generalize (((w.alloc _).alloc _).alloc _).alloc _ = w4 at *
  have J4 := H3.out
  have q0 : w4.cell? ⟨w.heap.size + 1 + 1, 0, none⟩ = some (.int .i64 4) := J4.y.cell 0
  have q3 : w4.cell? ⟨w.heap.size + 1 + 1, 3, none⟩ = some (.int .i64 n) := J4.y.cell 3
  go_upto_region 20 with (have _t := J4; go_at_call 23; refine (GF.out _ J4.d.d).mono ?_; rintro e w5 ⟨rfl, D5, T5⟩; have J5 := J4.turn D5 T5; clear _t J4 q0 q3 D5 T5)
  have q3 : w5.cell? ⟨w.heap.size + 1 + 1, 3, none⟩ = some (.int .i64 n) := J5.y.cell 3
  have q6 := J5.x.frozen 6
  have x6 : w5.cell? ⟨w.heap.size, 6, none⟩ = some (.int .i64 s.fuse) := J5.x.cell 6
  have R5 := HR.out _ J5.t
  go_upto_region 21 with fail
  have X7 : Block (w5.setCell ⟨w.heap.size, 6, none⟩ (.int .i64 (max n 0))) w.heap.size 31 #[.int .i64 (s.fused n).size, .int .i64 (s.fused n).count, .slice Ak (s.fused n).kept.length ck, .slice Aw (s.fused n).waits.length cw, .bool (s.fused n).off, .int .i64 (s.fused n).offs, .int .i64 (s.fused n).fuse, .int .u64 (s.fused n).wr] := J5.x.set_ 6 (.int .i64 (max n 0))
  have R7 : RDv (w5.setCell ⟨w.heap.size, 6, none⟩ (.int .i64 (max n 0))) (.agg (dCells Ak ck Aw cw (s.fused n))) (s.fused n) := Sec.fuse_row R5 J5.x rfl (max n 0)
  have J7 := J5.store X7 (grown_set w5 w.heap.size 6 _)
  clear J5 q3 q6 x6 R5
  generalize w5.setCell ⟨w.heap.size, 6, none⟩ (.int .i64 (max n 0)) = w7 at *
  have P7 := J7.below (show Below w7.heap.size w7 w7.drew from below_draws (Below.refl _ _) 1)
  have RD7 := R7.below (show Below w7.heap.size w7 w7.drew from below_draws (Below.refl _ _) 1)
  refine wp_region_held_drew (S := fun W => Block W (w.heap.size) 31 #[.int .i64 (s.fused n).size, .int .i64 (s.fused n).count, .slice Ak (s.fused n).kept.length ck, .slice Aw (s.fused n).waits.length cw, .bool (s.fused n).off, .int .i64 (s.fused n).offs, .int .i64 (s.fused n).fuse, .int .u64 (s.fused n).wr]) (by kernel_rfl) X7 (fun hS => ?_)
  refine wpAnyH_take (i := 0) (oi := ⟨some 148, _, _, _, _, _⟩) (v := .agg #[.int .i64 (s.fused n).size, .int .i64 (s.fused n).count, .slice Ak (s.fused n).kept.length ck, .slice Aw (s.fused n).waits.length cw, .bool (s.fused n).off, .int .i64 (s.fused n).offs, .int .i64 (s.fused n).fuse, .int .u64 (s.fused n).wr]) rfl (by kernel_rfl) (by kernel_rfl) (by kernel_rfl) (fun _ _ _ h => h) (yieldsIf_load_mid (by rfl) _ _ rfl (w.heap.size) (0) rfl [.int .i64 (s.fused n).size, .int .i64 (s.fused n).count, .slice Ak (s.fused n).kept.length ck, .slice Aw (s.fused n).waits.length cw, .bool (s.fused n).off, .int .i64 (s.fused n).offs, .int .i64 (s.fused n).fuse, .int .u64 (s.fused n).wr] _ (fun W hW => block_range (L := [.int .i64 (s.fused n).size, .int .i64 (s.fused n).count, .slice Ak (s.fused n).kept.length ck, .slice Aw (s.fused n).waits.length cw, .bool (s.fused n).off, .int .i64 (s.fused n).offs, .int .i64 (s.fused n).fuse, .int .u64 (s.fused n).wr]) hW) Tryd.underlying31 rfl (by kernel_rfl)) hS ?_
  try simp only [Act.put, List.setIfInBounds_toArray, List.set_cons_zero, List.set_cons_succ]
  refine wpAnyH_ready (rs := [1]) (by kernel_rfl) (by simp) ?_
  refine AllReadyH.cons rfl (fun K hK => ?_) AllReadyH.nil
  go_simp
  refine hK.out _ _ P7.x (fun hS => ?_)
  clear hK K
  try simp only [Act.put, List.setIfInBounds_toArray, List.set_cons_zero, List.set_cons_succ]
  refine wpAnyH_ready (rs := [2]) (by kernel_rfl) (by simp) ?_
  refine AllReadyH.cons rfl (fun K hK => ?_) AllReadyH.nil
  refine step_store_blk rfl _ _ _ rfl (cs := zD) (ds := (dCells Ak ck Aw cw (s.fused n)).toList) (by exact P7.z) rfl rfl rfl (by kernel_rfl) (dCells_one _ _ _ _ _) ?_
  intro x9 Z9 g9
  have hfin := In25.done P7 RD7 g9 (fused_near s n)
  refine hK.out _ _ (P7.x.grown g9 (by intro h; injection h with h; omega)) (fun hS => ?_)
  clear hK K
  try simp only [Act.put, List.setIfInBounds_toArray, List.set_cons_zero, List.set_cons_succ]
  refine wpAnyH_done (by kernel_rfl) ?_ _
  go_wp2_with fail
  exact bodyPost_ret (v := .tuple #[.bool true, .agg (dCells Ak ck Aw cw (s.fused n))]) (results_tmp_row rfl _ _ (w.heap.size + 1 + 1 + 1) 31 _ (0, 0) _ _ rfl rfl Z9 Tryd.underlying31 rfl (by kernel_rfl)) rfl hfin

set_option maxRecDepth 100000 in
set_option maxHeartbeats 6400000 in
/-- Back of both. -/
theorem does_back (w0 w : World) (x a mk mw p0 p1 p2 : Nat) (S B sl : Int) (s : Dv) (m : Step25) (dv : Value) (hd : Dev w0 w a mk mw s) (hi : ImAt w x a S B sl p0 p1 p2) (hr : RDv w dv s) (hL : LayOk S B sl s) (hm : m.Ok) (hin : m.In w0 w0.heap.size) (hbl : m.bs.length ≤ 1000) (hzl : m.zs.length ≤ 60) (hof : s.offs ≤ 100000000) (hwr : s.wr ≤ 100000000) (hk : m.k = 5) :
    Calls Tryd.prog 30 #[.pointer (some ⟨x, 0, none⟩), .pointer (some ⟨a, 0, none⟩), dv, .agg #[.int .i64 S, .int .i64 B, .int .i64 sl], .agg m.cells.toArray] w (Does25 w0 w x a mk mw p0 p1 p2 S B sl s) := by
  have hok : s.Ok := hd.d.ok
  have hwh : Whole s := whole_of hd.d
  have HBs := Lib.hid (fun W (hb : Below w0.heap.size w0 W) => (hin.1.below hb).more hb.size)
  have HZs := Lib.hid (fun W (hb : Below w0.heap.size w0 W) => (hin.2.below hb).more hb.size)
  have GB := Lib.hid (fun W (hd : DvAt W (fun _ => True) a mk mw s) (hh : Holds W W.heap.size .u8 m.A2 m.zs) => Sec.back_any _ a mk mw s m.A2 m.zs m.cap2 W hd (fun _ _ => trivial) (by omega) hm.zo hh (by omega))
  have GD := Lib.hid (fun v W (h : RDv W v s) (hh : Holds W W.heap.size .u8 m.A2 m.zs) => Sec.rback_any v s m.A2 m.zs m.cap2 W h hok (by omega) hh (by omega))
  have HN := Lib.hid (back_near s m.zs)
  obtain ⟨sb, hsb⟩ : ∃ sb, s.back m.zs = sb := ⟨_, rfl⟩
  rw [hsb] at GB GD HN
  clear hsb
  have HR := Lib.hid (fun W (t : TurnsIn (DSet a mk mw) w W) => Sec.RDv.dset hd.d t hr)
  have h3 := Lib.hid (fun cs => In25.start hd hi m cs)
  obtain ⟨Ak, ck, Aw, cw, rfl, hkr⟩ := hr
  have H3 := Lib.hid (h3.out (dCells Ak ck Aw cw s))
  clear h3 hkr hd hi hin hL hof hwr hm hbl hzl hwh
  obtain ⟨k, blk, at_, n, view, sn, A, cap, bs, A2, cap2, zs⟩ := m
  simp only at *
  subst hk
  unfold Step25.cells zD at H3
  unfold dCells at HR H3 ⊢
  unfold Step25.cells
  simp only at H3 ⊢
  go_enter Tryd.func30, Tryd.ntmps30
  go_upto_region 1 with fail
  generalize (((w.alloc _).alloc _).alloc _).alloc _ = w4 at *
  have J4 := H3.out
  have q0 : w4.cell? ⟨w.heap.size + 1 + 1, 0, none⟩ = some (.int .i64 5) := J4.y.cell 0
  have q7 : w4.cell? ⟨w.heap.size + 1 + 1, 7, none⟩ = some (.slice A2 zs.length cap2) := J4.y.cell 7
  go_upto_region 24 with (have _t := J4; go_at_call 14; refine (GB.out _ J4.d.d (HZs.out _ J4.d.b)).mono ?_; rintro e w5 ⟨rfl, D5, T5⟩; have J5 := J4.turn D5 T5; clear _t J4 q0 q7 D5 T5)
  have q7 : w5.cell? ⟨w.heap.size + 1 + 1, 7, none⟩ = some (.slice A2 zs.length cap2) := J5.y.cell 7
  have R5 := HR.out _ J5.t
  go_wp2_with (first
    | (have _t := J5; refine wpList_load_midV (o := ⟨some 155, _, _, _, _, _⟩) (by rfl) _ _ rfl (w.heap.size) 0 rfl [.int .i64 s.size, .int .i64 s.count, .slice Ak s.kept.length ck, .slice Aw s.waits.length cw, .bool s.off, .int .i64 s.offs, .int .i64 s.fuse, .int .u64 s.wr] (block_range (L := [.int .i64 s.size, .int .i64 s.count, .slice Ak s.kept.length ck, .slice Aw s.waits.length cw, .bool s.off, .int .i64 s.offs, .int .i64 s.fuse, .int .u64 s.wr]) J5.x) Tryd.underlying31 rfl (by kernel_rfl) ?_)
    | (have _t := R5; go_at_call 15; refine (GD.out _ _ R5 (HZs.out _ J5.d.b)).mono ?_; rintro e w6 ⟨v6, rfl, RV6, hb6⟩; have J6 := J5.below hb6; obtain ⟨Ak6, ck6, Aw6, cw6, hve, hr6⟩ := RV6; have R6 : RDv w6 (.agg (dCells Ak6 ck6 Aw6 cw6 sb)) sb := ⟨Ak6, ck6, Aw6, cw6, rfl, hr6⟩; subst hve; clear _t J5 R5 hr6 q7)
    | (have _t := J6; refine Sec.wpList_store_blk (cs := zD) rfl _ _ _ rfl (ds := (dCells Ak6 ck6 Aw6 cw6 sb).toList) (by exact J6.z) rfl rfl rfl (by kernel_rfl) (dCells_one _ _ _ _ _) ?_; clear _t; intro w9 Z9 g9))
  exact bodyPost_ret (v := .tuple #[.bool true, .agg (dCells Ak6 ck6 Aw6 cw6 sb)]) (results_tmp_row rfl _ _ (w.heap.size + 1 + 1 + 1) 31 _ (0, 0) _ _ rfl rfl Z9 Tryd.underlying31 rfl (by kernel_rfl)) rfl (In25.done J6 R6 g9 HN.out)
end Go.Proofs.YtpnodocjpedcmaaDoor.Im

namespace Go.Proofs.YtpnodocjpedcmaaDoor.Im
open Go.ChangeShapes Go.WideShapes Go.ChangeAt Go.RowKit Go.Proofs.YtpnodocjpedcmaaDoor.Kit Go.Proofs.YtpnodocjpedcmaaDoor.Pt
open Go.Proofs.YtpnodocjpedcmaaDoor.Sec (Dv Dev RDv)
open Go.Proofs.YtpnodocjpedcmaaDoor.Sha (LaidS)

theorem does_any (w0 w : World) (x a mk mw p0 p1 p2 : Nat) (S B sl : Int) (s : Dv) (m : Step25) (dv : Value) (hd : Dev w0 w a mk mw s) (hi : ImAt w x a S B sl p0 p1 p2) (hr : RDv w dv s) (hL : LayOk S B sl s) (hm : m.Ok) (hin : m.In w0 w0.heap.size) (hbl : m.bs.length ≤ 1000) (hzl : m.zs.length ≤ 60) (hof : s.offs ≤ 100000000) (hwr : s.wr ≤ 100000000) (hLS : LaidS w0) :
    Calls Tryd.prog 30 #[.pointer (some ⟨x, 0, none⟩), .pointer (some ⟨a, 0, none⟩), dv, .agg #[.int .i64 S, .int .i64 B, .int .i64 sl], .agg m.cells.toArray] w (Does25 w0 w x a mk mw p0 p1 p2 S B sl s) := by
  by_cases k0 : m.k = 0
  · exact does_put w0 w x a mk mw p0 p1 p2 S B sl s m dv hd hi hr hL hm hin hbl hzl hof hwr k0
  by_cases k1 : m.k = 1
  · exact does_keep w0 w x a mk mw p0 p1 p2 S B sl s m dv hd hi hr hL hm hin hbl hzl hof hwr k1
  by_cases k2 : m.k = 2
  · exact does_kept w0 w x a mk mw p0 p1 p2 S B sl s m dv hd hi hr hL hm hin hbl hzl hof hwr k2
  by_cases k3 : m.k = 3
  · exact does_sum w0 w x a mk mw p0 p1 p2 S B sl s m dv hd hi hr hL hm hin hbl hzl hof hwr hLS k3
  by_cases k4 : m.k = 4
  · exact does_fuse w0 w x a mk mw p0 p1 p2 S B sl s m dv hd hi hr hL hm hin hbl hzl hof hwr k4
  by_cases k5 : m.k = 5
  · exact does_back w0 w x a mk mw p0 p1 p2 S B sl s m dv hd hi hr hL hm hin hbl hzl hof hwr k5
  by_cases k6 : m.k = 6
  · exact does_sync w0 w x a mk mw p0 p1 p2 S B sl s m dv hd hi hr hL hm hin hbl hzl hof hwr k6
  exact does_range w0 w x a mk mw p0 p1 p2 S B sl s m dv hd hi hr hL hm hin hbl hzl hof hwr ⟨k0, k1, k2, k3, k4, k5, k6⟩
end Go.Proofs.YtpnodocjpedcmaaDoor.Im

namespace Go.Proofs.YtpnodocjpedcmaaDoor.Im
open Go.ChangeShapes Go.WideShapes Go.ChangeAt Go.RowKit Go.Proofs.YtpnodocjpedcmaaDoor.Kit Go.Proofs.YtpnodocjpedcmaaDoor.Sec Go.Proofs.YtpnodocjpedcmaaDoor.Pt

/-- A device that stays on, whose sectors are all whole. -/
structure AllOn (s : Dv) (N M : Nat) : Prop where
  on : On s
  z : s.size = N
  c : s.count = M
  r : ∀ j : Int, 0 ≤ j → j < M → (s.read j).2 = 0
theorem AllOn.new {N M : Nat} (h1 : 128 ≤ N) (h2 : N ≤ 4096) (h3 : 1 ≤ M) (h4 : M ≤ 1048576) : AllOn (Dv.new N M) N M := by
  refine ⟨On.new h1 h2 h3 h4, rfl, rfl, fun j h0 hj => ?_⟩
  unfold Dv.read
  have e1 : (Dv.new N M).off = false := rfl
  have e2 : (Dv.new N M).count = M := rfl
  have e3 : (Dv.new N M).waits = [] := rfl
  have e4 : (Dv.new N M).kept = [] := rfl
  rw [e1, e2, e3, e4, if_neg (by decide), if_neg (by omega)]
  rfl
theorem AllOn.write {s : Dv} {N M : Nat} (h : AllOn s N M) {j : Nat} {bs : List Int} (hj : j + manyP N bs ≤ M) {r : Int × Dv} (hr : WritesP s j bs r) :
    r.1 = 0 ∧ AllOn r.2 N M ∧ ∀ t : Int, r.2.read t = if (j : Int) ≤ t ∧ t < j + manyP N bs then (chunkP N bs (t - j).toNat, 0) else s.read t := by
  have hz := h.z
  have hc := h.c
  obtain ⟨a1, a2, a3, a4, a5⟩ := on_wrS h.on (i := (j : Int)) (bs := bs) (by omega) (manyP N bs) (by rw [hc]; omega)
  have hres : r = (0, wrS s j bs (manyP N bs)) := by
    rcases hr with ⟨k, hk, _, h2, _⟩ | ⟨_, e⟩
    · rw [hz] at hk
      exact absurd (a1 k hk) h2
    · rw [hz] at e
      exact e
  subst hres
  have hread : ∀ t : Int, (wrS s j bs (manyP N bs)).read t = if (j : Int) ≤ t ∧ t < j + manyP N bs then (chunkP N bs (t - j).toNat, 0) else s.read t := fun t => by
    rw [a5 t, hz]
  refine ⟨rfl, ⟨a2, a3.trans hz, a4.trans hc, fun t h0 ht => ?_⟩, hread⟩
  show ((wrS s j bs (manyP N bs)).read t).2 = 0
  rw [hread t]
  split
  · rfl
  · exact h.r t h0 ht
theorem AllOn.reads {s : Dv} {N M F C a n : Nat} (h : AllOn s N M) (hN : 0 < N) (hF : F + C ≤ M) (ha : a + n ≤ C * N) {r : List Int × Int} (hr : ReadsP s F a n r) : r = (rowP s F a n, 0) := by
  rcases hr with ⟨k, hk, _, h2, _⟩ | ⟨_, e⟩
  · refine absurd ?_ h2
    unfold secP
    rw [h.z]
    have hd : (a + k) / N < C := Nat.div_lt_of_lt_mul (by rw [Nat.mul_comm]; omega)
    generalize (a + k) / N = d at *
    exact h.r _ (by omega) (by omega)
  · exact e
theorem row_same {s s' : Dv} {N F C a n : Nat} (hz : s.size = N) (hz' : s'.size = N) (_ : 0 < N) (ha : a + n ≤ C * N) (h : ∀ t : Int, (F : Int) ≤ t → t < F + C → s.read t = s'.read t) : rowP s F a n = rowP s' F a n := by
  unfold rowP
  refine List.map_congr_left fun j hj => ?_
  have hj := List.mem_range.1 hj
  unfold byteP secP
  rw [hz, hz']
  have hd : (a + j) / N < C := Nat.div_lt_of_lt_mul (by rw [Nat.mul_comm]; omega)
  have key := h ((F : Int) + ((a + j) / N : Nat)) (by generalize (a + j) / N = d at *; omega) (by generalize (a + j) / N = d at *; omega)
  rw [key]
theorem row_is {s : Dv} {N F a : Nat} {bs : List Int} (hz : s.size = N) (h : ∀ j, j < bs.length → s.read ((F : Int) + ((a + j) / N : Nat)) = (chunkP N bs (j / N), 0) ∧ (a + j) % N = j % N) (hN : 0 < N) : rowP s F a bs.length = bs := by
  apply List.ext_getElem
  · rw [rowP_length]
  · intro j h1 h2
    have e : (rowP s F a bs.length)[j]'h1 = byteP s F (a + j) := by simp [rowP]
    rw [e]
    unfold byteP secP
    obtain ⟨q1, q2⟩ := h j h2
    rw [hz, q1, q2]
    show (chunkP N bs (j / N)).getD (j % N) 0 = bs[j]
    rw [chunkP_getD N bs (j / N) (j % N) (Nat.mod_lt _ hN)]
    have hd : j / N * N + j % N = j := by rw [Nat.mul_comm]; exact Nat.div_add_mod j N
    rw [hd, if_pos h2, List.getD, List.getElem?_eq_getElem h2]
    rfl
/-- Where a block's bytes stand. -/
theorem block_at {N q k j : Nat} (hN : 0 < N) : (k * (q * N) + j) / N = k * q + j / N ∧ (k * (q * N) + j) % N = j % N := by
  have e : k * (q * N) + j = j + (k * q) * N := by rw [Nat.mul_assoc]; omega
  rw [e]
  exact ⟨by rw [Nat.add_mul_div_right _ _ hN]; omega, Nat.add_mul_mod_self_right _ _ _⟩

/-- What is put is seen in its slot alone, and what is kept aside is aside alone. -/
theorem apart {N M q sl k F F' : Nat} {bs cs : List Int} {s0 : Dv} (h : AllOn s0 N M) (hN : 0 < N) (hq : 1 ≤ q) (hk : k < sl) (hM : 2 + q + sl * q + sl * q ≤ M)
    (hF : (F = 2 + q ∧ F' = 2 + q + sl * q) ∨ (F = 2 + q + sl * q ∧ F' = 2 + q)) (hb : bs.length ≤ q * N) (ha : cs.length ≤ q * N)
    {r1 r2 : Int × Dv} (h1 : PWrite s0 F (sl * q * N) ((k * (q * N) : Nat) : Int) bs r1) (h2 : PWrite r1.2 2 (q * N) 0 cs r2) :
    (∀ r r', ReadsP s0 F' 0 (sl * q * N) r → ReadsP r2.2 F' 0 (sl * q * N) r' → r = r' ∧ r.2 = 0) ∧
    (∀ r, PRead r2.2 F (sl * q * N) ((k * (q * N) : Nat) : Int) bs.length r → r = (bs, 0)) ∧ (∀ r, PRead r2.2 2 (q * N) 0 cs.length r → r = (cs, 0)) := by
  have hkq : k * (q * N) + q * N ≤ sl * q * N := by
    have : (k + 1) * (q * N) ≤ sl * (q * N) := Nat.mul_le_mul_right _ hk
    rw [Nat.mul_assoc]
    rw [Nat.add_mul, Nat.one_mul] at this
    exact this
  have hkq2 : k * q + q ≤ sl * q := by
    have : (k + 1) * q ≤ sl * q := Nat.mul_le_mul_right _ hk
    rwa [Nat.add_mul, Nat.one_mul] at this
  have hmb : manyP N bs ≤ q := many_le hN hb
  have hma : manyP N cs ≤ q := many_le hN ha
  unfold PWrite at h1
  rw [h.z] at h1
  have htm : (((k * (q * N) : Nat) : Int)).tmod (N : Int) = 0 := by
    rw [← Nat.mul_assoc]
    show Int.tmod ((k * q * N : Nat) : Int) (N : Int) = 0
    rw [Int.natCast_mul]
    exact Int.mul_tmod_left _ _
  rw [if_neg (by rw [htm]; decide), if_pos (by omega)] at h1
  have hst : (((k * (q * N) : Nat) : Int)).toNat / N = k * q := by
    rw [Int.toNat_natCast]
    have := (block_at (q := q) (k := k) (j := 0) hN).1
    simpa using this
  rw [hst] at h1
  have h1' : WritesP s0 ((F + k * q : Nat) : Int) bs r1 := by rw [Int.natCast_add]; exact h1
  obtain ⟨e1, on1, rd1⟩ := h.write (j := F + k * q) (by omega) h1'
  unfold PWrite at h2
  rw [on1.z, if_neg (by rw [Int.zero_tmod]; decide), if_pos (by omega)] at h2
  have hst0 : (0 : Int).toNat / N = 0 := Nat.zero_div _
  rw [hst0] at h2
  have h2' : WritesP r1.2 ((2 : Nat) : Int) cs r2 := by simpa using h2
  obtain ⟨e2, on2, rd2⟩ := on1.write (j := 2) (by omega) h2'
  refine ⟨fun r r' hr hr' => ?_, fun r hr => ?_, fun r hr => ?_⟩
  · have g1 := h.reads (C := sl * q) hN (by omega) (by omega) hr
    have g2 := on2.reads (C := sl * q) hN (by omega) (by omega) hr'
    have g3 : rowP s0 F' 0 (sl * q * N) = rowP r2.2 F' 0 (sl * q * N) := row_same (C := sl * q) h.z on2.z hN (by omega) fun t h0 ht => by
      rw [rd2 t, if_neg (by omega), rd1 t, if_neg (by omega)]
    rw [g1, g2, g3]
    exact ⟨rfl, rfl⟩
  · have g0 := pread_in (a := k * (q * N)) (m := bs.length) hr (by omega)
    have g1 := on2.reads (C := sl * q) hN (by omega) (by omega) g0
    rw [g1, row_is on2.z (fun j hj => ?_) hN]
    obtain ⟨b1, b2⟩ := block_at (q := q) (k := k) (j := j) hN
    refine ⟨?_, b2⟩
    have hjm : j / N < manyP N bs := by
      rw [manyP_iff hN]
      exact Nat.lt_of_le_of_lt (Nat.div_mul_le_self j N) hj
    rw [b1]
    clear b1 b2 hst h1 hkq
    generalize j / N = d at *
    generalize k * q = e at *
    generalize sl * q = f at *
    rw [rd2, if_neg (by omega), rd1, if_pos (by omega)]
    have : ((F : Int) + ((e + d : Nat) : Int) - ((F + e : Nat) : Int)).toNat = d := by omega
    rw [this]
  · have g0 := pread_in (F := 2) (a := 0) (m := cs.length) (by simpa using hr) (by omega)
    have g0' : ReadsP r2.2 ((2 : Nat) : Int) 0 cs.length r := by simpa using g0
    have g1 := on2.reads (C := q) hN (by omega) (by omega) g0'
    rw [g1, row_is on2.z (fun j hj => ?_) hN]
    have hjm : j / N < manyP N cs := by
      rw [manyP_iff hN]
      exact Nat.lt_of_le_of_lt (Nat.div_mul_le_self j N) hj
    refine ⟨?_, by rw [Nat.zero_add]⟩
    rw [Nat.zero_add]
    generalize j / N = d at *
    rw [rd2, if_pos (by omega)]
    have : (((2 : Nat) : Int) + ((d : Nat) : Int) - ((2 : Nat) : Int)).toNat = d := by omega
    rw [this]
end Go.Proofs.YtpnodocjpedcmaaDoor.Im

namespace Go.Proofs.YtpnodocjpedcmaaDoor.Im
open Go.ChangeShapes Go.WideShapes Go.ChangeAt Go.RowKit Go.Proofs.YtpnodocjpedcmaaDoor.Kit Go.Proofs.YtpnodocjpedcmaaDoor.Sec Go.Proofs.YtpnodocjpedcmaaDoor.Pt

theorem LayOk.near {S B sl : Int} {s t : Dv} (h : LayOk S B sl s) (n : Near s t) : LayOk S B sl t := ⟨h.m, by rw [n.2.2.1]; exact h.z, by rw [n.2.2.2]; exact h.c⟩
theorem apart_of {S B sl k i j : Int} {N M : Nat} {s0 : Dv} {bs cs : List Int} (h : LayOk S B sl s0) (ha : AllOn s0 N M) (hij : (i = 0 ∧ j ≠ 0) ∨ (i ≠ 0 ∧ j = 0)) (hk : 0 ≤ k ∧ k < sl) (hb : (bs.length : Int) ≤ B) (hc : (cs.length : Int) ≤ B)
    {r1 r2 : Int × Dv} (h1 : PWrite s0 (slotF S B sl i) (B * sl).toNat (k * B) bs r1) (h2 : PWrite r1.2 2 B.toNat 0 cs r2) :
    (∀ r r', ReadsP s0 (slotF S B sl j) 0 (B * sl).toNat r → ReadsP r2.2 (slotF S B sl j) 0 (B * sl).toNat r' → r = r' ∧ r.2 = 0) ∧
    (∀ r, PRead r2.2 (slotF S B sl i) (B * sl).toNat (k * B) bs.length r → r = (bs, 0)) ∧ (∀ r, PRead r2.2 2 B.toNat 0 cs.length r → r = (cs, 0)) := by
  obtain ⟨hS, hB, hs, hd, hq, h0, h01, hT, hp⟩ := h.facts
  have hz := h.z
  have hcc := h.c
  rw [ha.z] at hz
  rw [ha.c] at hcc
  obtain ⟨q, hqn⟩ : ∃ q : Nat, B / S = q := ⟨(B / S).toNat, by omega⟩
  obtain ⟨l, hl⟩ : ∃ l : Nat, sl = l := ⟨sl.toNat, by omega⟩
  obtain ⟨e, he⟩ : ∃ e : Nat, k = e := ⟨k.toNat, by omega⟩
  rw [hqn, hz] at hd
  have hBn : B = ((q * N : Nat) : Int) := by rw [Int.natCast_mul]; exact hd.symm
  have hTn : (B * sl).toNat = l * q * N := by
    rw [hBn, hl, ← Int.natCast_mul, Int.toNat_natCast, Nat.mul_comm (q * N) l, ← Nat.mul_assoc]
  have hBt : B.toNat = q * N := by rw [hBn, Int.toNat_natCast]
  have hkB : k * B = ((e * (q * N) : Nat) : Int) := by rw [he, hBn, ← Int.natCast_mul]
  have hsq : sl * (B / S) = ((l * q : Nat) : Int) := by rw [hqn, hl, Int.natCast_mul]
  have hF : ∀ i : Int, slotF S B sl i = (((if i = 0 then 2 + q else 2 + q + l * q) : Nat) : Int) := by
    intro i
    unfold slotF
    rw [hsq, hqn]
    split
    · omega
    · omega
  have hM : 2 + q + l * q + l * q ≤ M := by
    unfold allV at hcc
    rw [hsq, hqn] at hcc
    omega
  rw [hF i, hTn, hkB] at h1
  rw [hBt] at h2
  rw [hF i, hF j, hTn, hkB, hBt]
  have hN : 0 < N := by omega
  refine apart (M := M) (q := q) (sl := l) (k := e) ha hN (by omega) (by omega) hM ?_ (by omega) (by omega) h1 h2
  rcases hij with ⟨e1, e2⟩ | ⟨e1, e2⟩
  · exact Or.inl ⟨by rw [if_pos e1], by rw [if_neg e2]⟩
  · exact Or.inr ⟨by rw [if_neg e1], by rw [if_pos e2]⟩

theorem put_ok {S B sl k i : Int} {N M : Nat} {s0 : Dv} {bs : List Int} (h : LayOk S B sl s0) (ha : AllOn s0 N M) (hk : 0 ≤ k ∧ k < sl) (hb : (bs.length : Int) ≤ B) {r1 : Int × Dv} (h1 : PWrite s0 (slotF S B sl i) (B * sl).toNat (k * B) bs r1) : r1.1 = 0 ∧ AllOn r1.2 N M := by
  obtain ⟨hS, hB, hs, hd, hq, h0, h01, hT, hp⟩ := h.facts
  have hz := h.z
  have hcc := h.c
  rw [ha.z] at hz
  rw [ha.c] at hcc
  obtain ⟨q, hqn⟩ : ∃ q : Nat, B / S = q := ⟨(B / S).toNat, by omega⟩
  obtain ⟨l, hl⟩ : ∃ l : Nat, sl = l := ⟨sl.toNat, by omega⟩
  obtain ⟨e, he⟩ : ∃ e : Nat, k = e := ⟨k.toNat, by omega⟩
  rw [hqn, hz] at hd
  have hBn : B = ((q * N : Nat) : Int) := by rw [Int.natCast_mul]; exact hd.symm
  have hTn : (B * sl).toNat = l * q * N := by
    rw [hBn, hl, ← Int.natCast_mul, Int.toNat_natCast, Nat.mul_comm (q * N) l, ← Nat.mul_assoc]
  have hkB : k * B = ((e * (q * N) : Nat) : Int) := by rw [he, hBn, ← Int.natCast_mul]
  have hsq : sl * (B / S) = ((l * q : Nat) : Int) := by rw [hqn, hl, Int.natCast_mul]
  have hM : 2 + q + l * q + l * q ≤ M := by
    unfold allV at hcc
    rw [hsq, hqn] at hcc
    omega
  obtain ⟨F, hF, hFM⟩ : ∃ F : Nat, slotF S B sl i = F ∧ F + l * q ≤ M := by
    unfold slotF
    rw [hsq, hqn]
    split
    · exact ⟨2 + q, by omega, by omega⟩
    · exact ⟨2 + q + l * q, by omega, by omega⟩
  rw [hF, hTn, hkB] at h1
  have hN : 0 < N := by omega
  have hel : e < l := by omega
  have hkq : e * (q * N) + q * N ≤ l * q * N := by
    have : (e + 1) * (q * N) ≤ l * (q * N) := Nat.mul_le_mul_right _ hel
    rw [Nat.mul_assoc]
    rw [Nat.add_mul, Nat.one_mul] at this
    exact this
  have hkq2 : e * q + q ≤ l * q := by
    have : (e + 1) * q ≤ l * q := Nat.mul_le_mul_right _ hel
    rwa [Nat.add_mul, Nat.one_mul] at this
  have hbl : bs.length ≤ q * N := by omega
  have hmb : manyP N bs ≤ q := many_le hN hbl
  unfold PWrite at h1
  rw [ha.z] at h1
  have htm : (((e * (q * N) : Nat) : Int)).tmod (N : Int) = 0 := by
    rw [← Nat.mul_assoc]
    show Int.tmod ((e * q * N : Nat) : Int) (N : Int) = 0
    rw [Int.natCast_mul]
    exact Int.mul_tmod_left _ _
  rw [if_neg (by rw [htm]; decide), if_pos (by omega)] at h1
  have hst : (((e * (q * N) : Nat) : Int)).toNat / N = e * q := by
    rw [Int.toNat_natCast]
    have := (block_at (q := q) (k := e) (j := 0) hN).1
    simpa using this
  rw [hst] at h1
  have h1' : WritesP s0 ((F + e * q : Nat) : Int) bs r1 := by rw [Int.natCast_add]; exact h1
  obtain ⟨e1, on1, _⟩ := ha.write (j := F + e * q) (by omega) h1'
  exact ⟨e1, on1⟩
theorem keep_ok {S B sl : Int} {N M : Nat} {s0 : Dv} {cs : List Int} (h : LayOk S B sl s0) (ha : AllOn s0 N M) (hc : (cs.length : Int) ≤ B) {r2 : Int × Dv} (h2 : PWrite s0 2 B.toNat 0 cs r2) : r2.1 = 0 ∧ AllOn r2.2 N M := by
  obtain ⟨hS, hB, hs, hd, hq, h0, h01, hT, hp⟩ := h.facts
  have hz := h.z
  have hcc := h.c
  rw [ha.z] at hz
  rw [ha.c] at hcc
  obtain ⟨q, hqn⟩ : ∃ q : Nat, B / S = q := ⟨(B / S).toNat, by omega⟩
  rw [hqn, hz] at hd
  have hBn : B = ((q * N : Nat) : Int) := by rw [Int.natCast_mul]; exact hd.symm
  have hBt : B.toNat = q * N := by rw [hBn, Int.toNat_natCast]
  have hM : 2 + q ≤ M := by
    unfold allV at hcc
    rw [hqn] at hcc hp
    omega
  have hN : 0 < N := by omega
  have hma : manyP N cs ≤ q := many_le hN (by omega)
  rw [hBt] at h2
  unfold PWrite at h2
  rw [ha.z, if_neg (by rw [Int.zero_tmod]; decide), if_pos (by omega)] at h2
  have hst0 : (0 : Int).toNat / N = 0 := Nat.zero_div _
  rw [hst0] at h2
  have h2' : WritesP s0 ((2 : Nat) : Int) cs r2 := by simpa using h2
  obtain ⟨e2, on2, _⟩ := ha.write (j := 2) (by omega) h2'
  exact ⟨e2, on2⟩

def smallB (S B sl : Int) : Bool := Prt.mayB S B sl && (decide (B ≤ 512) && decide (sl ≤ 20))
set_option maxRecDepth 100000 in
set_option maxHeartbeats 3200000 in
theorem small_any (S B sl : Int) (w : World) : Calls Tryd.prog 24 #[.agg #[.int .i64 S, .int .i64 B, .int .i64 sl]] w fun e w' => e = .returned (.bool (smallB S B sl)) ∧ Below w.heap.size w w' := by
  have GM := Lib.hid (fun W => Prt.rmay_any S B sl W)
  have B0 : Below w.heap.size w (w.alloc (.cells #[.int .i64 S, .int .i64 B, .int .i64 sl] 61)) := (Below.refl _ _).alloc (Nat.le_refl _) _
  have X0 := Block.new w 61 #[.int .i64 S, .int .i64 B, .int .i64 sl]
  unfold smallB
  cases hm : Prt.mayB S B sl with
  | false =>
    rw [hm] at GM
    clear hm
    go_enter Tryd.func24, Tryd.ntmps24
    go_wp2_with (go_at_call 39; refine (GM.out _).mono ?_; rintro e w3 ⟨rfl, hb3⟩)
    go_ret
    exact ⟨rfl, B0.trans (hb3.mono B0.size)⟩
  | true =>
    rw [hm] at GM
    clear hm
    by_cases h1 : B ≤ 512
    · have d1 : decide (B ≤ 512) = true := decide_eq_true h1
      by_cases h2 : sl ≤ 20
      · have d2 : decide (sl ≤ 20) = true := decide_eq_true h2
        clear h1 h2
        go_enter Tryd.func24, Tryd.ntmps24
        go_wp2_with (go_at_call 39; refine (GM.out _).mono ?_; rintro e w3 ⟨rfl, hb3⟩; have X3 := X0.below hb3 X0.lt; have x1 := X3.cell 1; have x2 := X3.cell 2; simp at x1 x2)
        go_ret
        exact ⟨by rw [d1, d2]; rfl, B0.trans (hb3.mono B0.size)⟩
      · have d2 : decide (sl ≤ 20) = false := decide_eq_false h2
        clear h1 h2
        go_enter Tryd.func24, Tryd.ntmps24
        go_wp2_with (go_at_call 39; refine (GM.out _).mono ?_; rintro e w3 ⟨rfl, hb3⟩; have X3 := X0.below hb3 X0.lt; have x1 := X3.cell 1; have x2 := X3.cell 2; simp at x1 x2)
        go_ret
        exact ⟨by rw [d1, d2]; rfl, B0.trans (hb3.mono B0.size)⟩
    · have d1 : decide (B ≤ 512) = false := decide_eq_false h1
      clear h1
      go_enter Tryd.func24, Tryd.ntmps24
      go_wp2_with (go_at_call 39; refine (GM.out _).mono ?_; rintro e w3 ⟨rfl, hb3⟩; have X3 := X0.below hb3 X0.lt; have x1 := X3.cell 1; have x2 := X3.cell 2; simp at x1 x2)
      go_ret
      exact ⟨by rw [d1]; rfl, B0.trans (hb3.mono B0.size)⟩
end Go.Proofs.YtpnodocjpedcmaaDoor.Im
