/-
  Layer 25, the document's answers: Put and Keep. Conditions: the device's row, a layout that may be on it.
-/
import Derived.Test.YtpnodocjpedcmaaDoorMImT
namespace Go.Proofs.YtpnodocjpedcmaaDoor.Im
open Go.ChangeShapes Go.WideShapes Go.ChangeAt Go.RowKit Go.Proofs.YtpnodocjpedcmaaDoor.Kit Go.Proofs.YtpnodocjpedcmaaDoor.Pt
open Go.Proofs.YtpnodocjpedcmaaDoor.Sec (Dv RDv dCells dCells_one zD zD_noText RDv.kept block_range GivesED results_tmp_row)

/-- The document's device, its layout and a result's place, side by side where a call begins. -/
structure WGo (w W : World) (s : Dv) (Ak : Option Addr) (ck : Nat) (Aw : Option Addr) (cw : Nat) (S B sl : Int) : Prop where
  x : Block W w.heap.size 31 (dCells Ak ck Aw cw s)
  y : Block W (w.heap.size + 1) 61 #[.int .i64 S, .int .i64 B, .int .i64 sl]
  z : Block W (w.heap.size + 1 + 1) 31 zD
  v : RDv W (.agg (dCells Ak ck Aw cw s)) s
  b : Below w.heap.size w W
section
variable {w W W' : World} {s : Dv} {Ak : Option Addr} {ck : Nat} {Aw : Option Addr} {cw : Nat} {S B sl : Int}
theorem WGo.below (h : WGo w W s Ak ck Aw cw S B sl) (hb : Below W.heap.size W W') : WGo w W' s Ak ck Aw cw S B sl :=
  ⟨h.x.below hb h.x.lt, h.y.below hb h.y.lt, h.z.below hb h.z.lt, h.v.below hb, h.b.trans (hb.mono h.b.size)⟩
theorem WGo.start (h : RDv w (.agg (dCells Ak ck Aw cw s)) s) : WGo w (((w.alloc (.cells (dCells Ak ck Aw cw s) 31)).alloc (.cells #[.int .i64 S, .int .i64 B, .int .i64 sl] 61)).alloc (.cells zD 31)) s Ak ck Aw cw S B sl := by
  have g := RGo.start (S := S) (B := B) (sl := sl) h
  have hz : ((w.alloc (.cells (dCells Ak ck Aw cw s) 31)).alloc (.cells #[.int .i64 S, .int .i64 B, .int .i64 sl] 61)).heap.size = w.heap.size + 1 + 1 := by simp
  generalize (w.alloc _).alloc _ = W at *
  have Z := Block.new W 31 zD
  rw [hz] at Z
  have g2 := g.below (show Below W.heap.size W (W.alloc (.cells zD 31)) from (Below.refl _ _).alloc (Nat.le_refl _) _)
  exact ⟨g2.x, g2.y, Z, g2.r, g2.b⟩
end

set_option maxRecDepth 100000 in
set_option maxHeartbeats 3200000 in
/-- A block is kept aside, the document's. -/
theorem rkeep_any (v : Value) (s : Dv) (S B sl : Int) (bs : List Int) (w : World) (h : RDv w v s) (hok : s.Ok) (hL : LayOk S B sl s) (hbl : bs.length ≤ 1000000) (hof : s.offs ≤ 100000000) (hwr : s.wr ≤ 100000000) :
    Calls Tryd.prog 60 #[v, .agg #[.int .i64 S, .int .i64 B, .int .i64 sl], .string (strOfNums bs)] w fun e w' =>
      (¬ (1 ≤ bs.length ∧ (bs.length : Int) ≤ B) ∧ GivesED 3 s w e w') ∨ ((1 ≤ bs.length ∧ (bs.length : Int) ≤ B) ∧ ∃ r, PWrite s 2 B.toNat 0 bs r ∧ GivesED r.1 r.2 w e w') := by
  obtain ⟨hS, hB, hs⟩ := Prt.may_facts hL.m
  have GL := Lib.hid (fun W => Prt.rlayout_any S B sl (B / S) W hS hB hs rfl)
  unfold Prt.mapV at GL
  have GW := Lib.hid (fun v W (h : RDv W v s) => rpwrite_any v s 2 (B / S) B.toNat 0 bs W h hok hL.aside (by omega) hbl hof hwr)
  have HSz := Lib.hid (strOfNums_size bs)
  obtain ⟨Ak, ck, Aw, cw, rfl, hr⟩ := h
  have HG := Lib.hid (WGo.start (S := S) (B := B) (sl := sl) (show RDv w (.agg (dCells Ak ck Aw cw s)) s from ⟨Ak, ck, Aw, cw, rfl, hr⟩))
  have hf := field1
  obtain ⟨SS, hSS⟩ : ∃ SS, strOfNums bs = SS := ⟨_, rfl⟩
  rw [hSS] at HSz GW ⊢
  have hsz : SS.size = bs.length := HSz.out
  generalize B / S = q at GL GW
  generalize sl * q = p at GL
  unfold zD at HG
  unfold dCells at HG ⊢
  clear hr hSS hok hL hS hs hof hwr
  by_cases hin : 1 ≤ bs.length ∧ (bs.length : Int) ≤ B
  case neg =>
    have hd9 : (((bs.length : Int) == 0) = true) ∨ (((bs.length : Int) == 0) = false ∧ decide (B < (bs.length : Int)) = true) := by
      by_cases h0 : bs.length = 0
      · exact Or.inl (by simp [h0])
      · exact Or.inr ⟨by simpa using h0, decide_eq_true (by omega)⟩
    have HN := Lib.hid hin
    clear hin GW GL hB
    generalize bs.length = L at *
    rcases hd9 with e1 | ⟨e1, e2⟩
    all_goals
      go_enter Tryd.func60, Tryd.ntmps60
      go_upto_region 1 with fail
      generalize hW3 : ((w.alloc _).alloc _).alloc _ = w3 at *
      clear hW3
      have c1 : w3.cell? ⟨w.heap.size + 1, 1, none⟩ = some (.int .i64 B) := HG.out.y.cell 1
      have c2 : w3.cell? ⟨w.heap.size + 1, 2, none⟩ = some (.int .i64 sl) := HG.out.y.cell 2
      go_upto_region 2 with fail
      have P : WGo w w3.drew s Ak ck Aw cw S B sl := WGo.below HG.out (below_draws (Below.refl _ _) 1)
      clear c1 c2
      refine wp_region_held_drew (S := fun W => Block W (w.heap.size) 31 (dCells Ak ck Aw cw s) ∧ Block W (w.heap.size + 1) 61 #[.int .i64 S, .int .i64 B, .int .i64 sl]) (by kernel_rfl) ⟨HG.out.x, HG.out.y⟩ (fun hS => ?_)
      refine wpAnyH_take (i := 0) (oi := ⟨some 18, _, _, _, _, _⟩) (v := .agg (dCells Ak ck Aw cw s)) rfl (by kernel_rfl) (by kernel_rfl) (by kernel_rfl) (fun _ _ _ h => h) (yieldsIf_load_mid (by rfl) _ _ rfl (w.heap.size) (0) rfl (dCells Ak ck Aw cw s).toList _ (fun W hW => block_range hW.1) Tryd.underlying31 rfl (by kernel_rfl)) hS ?_
      try simp only [Act.put, List.setIfInBounds_toArray, List.set_cons_zero, List.set_cons_succ]
      refine wpAnyH_ready (rs := [1]) (by kernel_rfl) (by simp) ?_
      refine AllReadyH.cons rfl (fun K hK => ?_) AllReadyH.nil
      go_simp
      refine hK.out _ _ ⟨P.x, P.y⟩ (fun hS => ?_)
      clear hK K
      try simp only [Act.put, List.setIfInBounds_toArray, List.set_cons_zero, List.set_cons_succ]
      refine wpAnyH_ready (rs := [2]) (by kernel_rfl) (by simp) ?_
      refine AllReadyH.cons rfl (fun K hK => ?_) AllReadyH.nil
      refine step_store_blk rfl _ _ _ rfl (cs := zD) (ds := (dCells Ak ck Aw cw s).toList) (by exact P.z) rfl rfl rfl (by kernel_rfl) (dCells_one _ _ _ _ _) ?_
      intro x9 Z9 g9
      have X9 := P.x.grown g9 (by intro h; injection h with h; omega)
      have Y9 := P.y.grown g9 (by intro h; injection h with h; omega)
      have RV9 := P.v.kept P.z zD_noText g9
      have B9 := P.b.trans (below_of_grown g9 P.b.size fun b hb => by injection hb with hb; omega)
      refine hK.out _ _ ⟨X9, Y9⟩ (fun hS => ?_)
      clear hK K
      try simp only [Act.put, List.setIfInBounds_toArray, List.set_cons_zero, List.set_cons_succ]
      refine wpAnyH_done (by kernel_rfl) ?_ _
      go_wp2_with fail
      exact bodyPost_ret (v := .tuple #[.int .i64 3, .agg (dCells Ak ck Aw cw s)]) (results_tmp_row rfl _ _ (w.heap.size + 1 + 1) 31 _ (0, 0) _ _ rfl rfl Z9 Tryd.underlying31 rfl (by kernel_rfl)) rfl (Or.inl ⟨HN.out, ⟨_, rfl, RV9, B9⟩⟩)
  case pos =>
    have e1 : ((bs.length : Int) == 0) = false := by rw [beq_eq_false_iff_ne]; omega
    have e2 : decide (B < (bs.length : Int)) = false := decide_eq_false (by omega)
    have HN := Lib.hid hin
    clear hin hB
    generalize bs.length = L at *
    go_enter Tryd.func60, Tryd.ntmps60
    go_upto_region 1 with fail
    generalize hW3 : ((w.alloc _).alloc _).alloc _ = w3 at *
    clear hW3
    have c1 : w3.cell? ⟨w.heap.size + 1, 1, none⟩ = some (.int .i64 B) := HG.out.y.cell 1
    have c2 : w3.cell? ⟨w.heap.size + 1, 2, none⟩ = some (.int .i64 sl) := HG.out.y.cell 2
    go_upto_region 3 with fail
    have P : WGo w w3.drew s Ak ck Aw cw S B sl := WGo.below HG.out (below_draws (Below.refl _ _) 1)
    clear c1 c2
    refine wp_region_held_drew (S := fun W => Block W (w.heap.size) 31 (dCells Ak ck Aw cw s) ∧ Block W (w.heap.size + 1) 61 #[.int .i64 S, .int .i64 B, .int .i64 sl]) (by kernel_rfl) ⟨HG.out.x, HG.out.y⟩ (fun hS => ?_)
    refine wpAnyH_take (i := 0) (oi := ⟨some 19, _, _, _, _, _⟩) (v := .agg (dCells Ak ck Aw cw s)) rfl (by kernel_rfl) (by kernel_rfl) (by kernel_rfl) (fun _ _ _ h => h) (yieldsIf_load_mid (by rfl) _ _ rfl (w.heap.size) (0) rfl (dCells Ak ck Aw cw s).toList _ (fun W hW => block_range hW.1) Tryd.underlying31 rfl (by kernel_rfl)) hS ?_
    try simp only [Act.put, List.setIfInBounds_toArray, List.set_cons_zero, List.set_cons_succ]
    refine wpAnyH_take (i := 1) (oi := ⟨some 20, _, _, _, _, _⟩) (v := .agg #[.int .i64 S, .int .i64 B, .int .i64 sl]) rfl (by kernel_rfl) (by kernel_rfl) (by kernel_rfl) (fun _ _ _ h => h) (yieldsIf_load_mid (by rfl) _ _ rfl (w.heap.size + 1) (0) rfl #[.int .i64 S, .int .i64 B, .int .i64 sl].toList _ (fun W hW => block_range hW.2) Tryd.underlying61 rfl (by kernel_rfl)) hS ?_
    try simp only [Act.put, List.setIfInBounds_toArray, List.set_cons_zero, List.set_cons_succ]
    refine wpAnyH_take (i := 4) (oi := ⟨some 23, _, _, _, _, _⟩) (v := .string SS) rfl (by kernel_rfl) (by kernel_rfl) (by kernel_rfl) (fun _ _ _ h => h) (Or.inl ⟨by rfl, fun W hW => by go_simp⟩) hS ?_
    try simp only [Act.put, List.setIfInBounds_toArray, List.set_cons_zero, List.set_cons_succ]
    refine wpAnyH_ready (rs := [2]) (by kernel_rfl) (by simp) ?_
    refine AllReadyH.cons rfl (fun K hK => ?_) AllReadyH.nil
    go_simp
    go_at_call 27
    refine (GL.out _).mono ?_
    rintro e x1 ⟨rfl, hb1⟩
    have P1 := P.below hb1
    refine hK.out _ _ ⟨P1.x, P1.y⟩ (fun hS => ?_)
    clear hK K
    try simp only [Act.put, List.setIfInBounds_toArray, List.set_cons_zero, List.set_cons_succ]
    refine wpAnyH_take (i := 3) (oi := ⟨some 22, _, _, _, _, _⟩) (v := .agg #[.int .i64 2, .int .i64 q]) rfl (by kernel_rfl) (by kernel_rfl) (by kernel_rfl) (fun _ _ _ h => h) (Or.inl ⟨by rfl, fun W hW => by go_simp⟩) hS ?_
    try simp only [Act.put, List.setIfInBounds_toArray, List.set_cons_zero, List.set_cons_succ]
    refine wpAnyH_ready (rs := [5]) (by kernel_rfl) (by simp) ?_
    refine AllReadyH.cons rfl (fun K hK => ?_) AllReadyH.nil
    go_simp
    go_at_call 85
    refine (GW.out _ _ P1.v).mono ?_
    rintro e x2 ⟨r, hr, v1, rfl, RV1, hb2⟩
    obtain ⟨Ak1, ck1, Aw1, cw1, rfl, hr1⟩ := RV1
    have RV1 : RDv x2 (.agg (dCells Ak1 ck1 Aw1 cw1 r.2)) r.2 := ⟨Ak1, ck1, Aw1, cw1, rfl, hr1⟩
    have P2 := P1.below hb2
    clear hr1
    refine hK.out _ _ ⟨P2.x, P2.y⟩ (fun hS => ?_)
    clear hK K
    try simp only [Act.put, List.setIfInBounds_toArray, List.set_cons_zero, List.set_cons_succ]
    refine wpAnyH_take (i := 6) (oi := ⟨some 25, _, _, _, _, _⟩) (v := .int .i64 r.1) rfl (by kernel_rfl) (by kernel_rfl) (by kernel_rfl) (fun _ _ _ h => h) (Or.inl ⟨by rfl, fun W hW => by go_simp⟩) hS ?_
    try simp only [Act.put, List.setIfInBounds_toArray, List.set_cons_zero, List.set_cons_succ]
    refine wpAnyH_take (i := 7) (oi := ⟨some 26, _, _, _, _, _⟩) (v := .agg (dCells Ak1 ck1 Aw1 cw1 r.2)) rfl (by kernel_rfl) (by kernel_rfl) (by kernel_rfl) (fun _ _ _ h => h) (Or.inl ⟨by rfl, fun W hW => by go_simp⟩) hS ?_
    try simp only [Act.put, List.setIfInBounds_toArray, List.set_cons_zero, List.set_cons_succ]
    refine wpAnyH_ready (rs := [8]) (by kernel_rfl) (by simp) ?_
    refine AllReadyH.cons rfl (fun K hK => ?_) AllReadyH.nil
    go_simp
    refine hK.out _ _ ⟨P2.x, P2.y⟩ (fun hS => ?_)
    clear hK K
    try simp only [Act.put, List.setIfInBounds_toArray, List.set_cons_zero, List.set_cons_succ]
    refine wpAnyH_ready (rs := [9]) (by kernel_rfl) (by simp) ?_
    refine AllReadyH.cons rfl (fun K hK => ?_) AllReadyH.nil
    refine step_store_blk rfl _ _ _ rfl (cs := zD) (ds := (dCells Ak1 ck1 Aw1 cw1 r.2).toList) (by exact P2.z) rfl rfl rfl (by kernel_rfl) (dCells_one _ _ _ _ _) ?_
    intro x3 Z3 g3
    have X3 := P2.x.grown g3 (by intro h; injection h with h; omega)
    have Y3 := P2.y.grown g3 (by intro h; injection h with h; omega)
    have RV3 := RV1.kept P2.z zD_noText g3
    have B3 := P2.b.trans (below_of_grown g3 P2.b.size fun b hb => by injection hb with hb; omega)
    refine hK.out _ _ ⟨X3, Y3⟩ (fun hS => ?_)
    clear hK K
    try simp only [Act.put, List.setIfInBounds_toArray, List.set_cons_zero, List.set_cons_succ]
    refine wpAnyH_done (by kernel_rfl) ?_ _
    go_wp2_with fail
    exact bodyPost_ret (v := .tuple #[.int .i64 r.1, .agg (dCells Ak1 ck1 Aw1 cw1 r.2)]) (results_tmp_row rfl _ _ (w.heap.size + 1 + 1) 31 _ (0, 0) _ _ rfl rfl Z3 Tryd.underlying31 rfl (by kernel_rfl)) rfl (Or.inr ⟨HN.out, r, hr, _, rfl, RV3, B3⟩)

set_option maxRecDepth 100000 in
set_option maxHeartbeats 3200000 in
/-- A block is put, the document's. -/
theorem rput_any (v : Value) (s : Dv) (S B sl i k : Int) (bs : List Int) (w : World) (h : RDv w v s) (hok : s.Ok) (hL : LayOk S B sl s) (hbl : bs.length ≤ 1000000) (hof : s.offs ≤ 100000000) (hwr : s.wr ≤ 100000000) :
    Calls Tryd.prog 59 #[v, .agg #[.int .i64 S, .int .i64 B, .int .i64 sl], .int .u8 i, .int .i64 k, .string (strOfNums bs)] w fun e w' =>
      (¬ (0 ≤ k ∧ k < sl) ∧ GivesED 5 s w e w') ∨ ((0 ≤ k ∧ k < sl) ∧ ¬ (1 ≤ bs.length ∧ (bs.length : Int) ≤ B) ∧ GivesED 3 s w e w') ∨
        ((0 ≤ k ∧ k < sl) ∧ (1 ≤ bs.length ∧ (bs.length : Int) ≤ B) ∧ ∃ r, PWrite s (slotF S B sl i) (B * sl).toNat (k * B) bs r ∧ GivesED r.1 r.2 w e w') := by
  obtain ⟨hS, hB, hs, hdd, hq, h0, h1, h2, h3⟩ := hL.facts
  have GL := Lib.hid (fun W => rslot_any S B sl i W hL.m)
  have hkb : 0 ≤ k → k < sl → 0 ≤ k * B ∧ k * B ≤ 16777216 := fun u0 u1 => by
    have t1 : k * B ≤ sl * B := Int.mul_le_mul_of_nonneg_right (by omega) (by omega)
    have t2 : 0 ≤ k * B := Int.mul_nonneg u0 (by omega)
    rw [Int.mul_comm sl B] at t1
    omega
  have GW : 0 ≤ k → k < sl → Hid (∀ v W, RDv W v s → Calls Tryd.prog 85 #[v, .agg #[.int .i64 (slotF S B sl i), .int .i64 (sl * (B / S))], .int .i64 (k * B), .string (strOfNums bs)] W fun e w' => ∃ r, PWrite s (slotF S B sl i) (B * sl).toNat (k * B) bs r ∧ GivesED r.1 r.2 W e w') := fun u0 u1 => Lib.hid (fun v W h => rpwrite_any v s _ _ _ (k * B) bs W h hok (hL.lies i) (by have := hkb u0 u1; omega) hbl hof hwr)
  have HSz := Lib.hid (strOfNums_size bs)
  obtain ⟨Ak, ck, Aw, cw, rfl, hr⟩ := h
  have HG := Lib.hid (WGo.start (S := S) (B := B) (sl := sl) (show RDv w (.agg (dCells Ak ck Aw cw s)) s from ⟨Ak, ck, Aw, cw, rfl, hr⟩))
  obtain ⟨SS, hSS⟩ : ∃ SS, strOfNums bs = SS := ⟨_, rfl⟩
  rw [hSS] at HSz GW ⊢
  have hsz : SS.size = bs.length := HSz.out
  generalize sl * (B / S) = p at GL GW
  generalize slotF S B sl i = F at GL GW ⊢
  generalize (B * sl).toNat = T at GW ⊢
  unfold zD at HG
  unfold dCells at HG ⊢
  clear hr hSS hok hL hS hdd hq h0 h1 h2 h3 hof hwr
  by_cases hkr : 0 ≤ k ∧ k < sl
  case neg =>
    have hd9 : decide (k < 0) = true ∨ (decide (k < 0) = false ∧ decide (sl ≤ k) = true) := by
      simp only [decide_eq_true_eq, decide_eq_false_iff_not]
      omega
    have HN := Lib.hid hkr
    clear hkr GW GL hB hs hkb
    generalize bs.length = L at *
    rcases hd9 with e1 | ⟨e1, e2⟩
    all_goals
      go_enter Tryd.func59, Tryd.ntmps59
      go_upto_region 1 with fail
      generalize hW3 : ((w.alloc _).alloc _).alloc _ = w3 at *
      clear hW3
      have c1 : w3.cell? ⟨w.heap.size + 1, 1, none⟩ = some (.int .i64 B) := HG.out.y.cell 1
      have c2 : w3.cell? ⟨w.heap.size + 1, 2, none⟩ = some (.int .i64 sl) := HG.out.y.cell 2
      go_upto_region 2 with fail
      have P : WGo w w3.drew s Ak ck Aw cw S B sl := WGo.below HG.out (below_draws (Below.refl _ _) 1)
      clear c1 c2
      refine wp_region_held_drew (S := fun W => Block W (w.heap.size) 31 (dCells Ak ck Aw cw s) ∧ Block W (w.heap.size + 1) 61 #[.int .i64 S, .int .i64 B, .int .i64 sl]) (by kernel_rfl) ⟨HG.out.x, HG.out.y⟩ (fun hS => ?_)
      refine wpAnyH_take (i := 0) (oi := ⟨some 20, _, _, _, _, _⟩) (v := .agg (dCells Ak ck Aw cw s)) rfl (by kernel_rfl) (by kernel_rfl) (by kernel_rfl) (fun _ _ _ h => h) (yieldsIf_load_mid (by rfl) _ _ rfl (w.heap.size) (0) rfl (dCells Ak ck Aw cw s).toList _ (fun W hW => block_range hW.1) Tryd.underlying31 rfl (by kernel_rfl)) hS ?_
      try simp only [Act.put, List.setIfInBounds_toArray, List.set_cons_zero, List.set_cons_succ]
      refine wpAnyH_ready (rs := [1]) (by kernel_rfl) (by simp) ?_
      refine AllReadyH.cons rfl (fun K hK => ?_) AllReadyH.nil
      go_simp
      refine hK.out _ _ ⟨P.x, P.y⟩ (fun hS => ?_)
      clear hK K
      try simp only [Act.put, List.setIfInBounds_toArray, List.set_cons_zero, List.set_cons_succ]
      refine wpAnyH_ready (rs := [2]) (by kernel_rfl) (by simp) ?_
      refine AllReadyH.cons rfl (fun K hK => ?_) AllReadyH.nil
      refine step_store_blk rfl _ _ _ rfl (cs := zD) (ds := (dCells Ak ck Aw cw s).toList) (by exact P.z) rfl rfl rfl (by kernel_rfl) (dCells_one _ _ _ _ _) ?_
      intro x9 Z9 g9
      have X9 := P.x.grown g9 (by intro h; injection h with h; omega)
      have Y9 := P.y.grown g9 (by intro h; injection h with h; omega)
      have RV9 := P.v.kept P.z zD_noText g9
      have B9 := P.b.trans (below_of_grown g9 P.b.size fun b hb => by injection hb with hb; omega)
      refine hK.out _ _ ⟨X9, Y9⟩ (fun hS => ?_)
      clear hK K
      try simp only [Act.put, List.setIfInBounds_toArray, List.set_cons_zero, List.set_cons_succ]
      refine wpAnyH_done (by kernel_rfl) ?_ _
      go_wp2_with fail
      exact bodyPost_ret (v := .tuple #[.int .i64 5, .agg (dCells Ak ck Aw cw s)]) (results_tmp_row rfl _ _ (w.heap.size + 1 + 1) 31 _ (0, 0) _ _ rfl rfl Z9 Tryd.underlying31 rfl (by kernel_rfl)) rfl (Or.inl ⟨HN.out, ⟨_, rfl, RV9, B9⟩⟩)
  case pos =>
    have e1 : decide (k < 0) = false := decide_eq_false (by omega)
    have e2 : decide (sl ≤ k) = false := decide_eq_false (by omega)
    have HK := Lib.hid hkr
    have hkb := hkb hkr.1 hkr.2
    have GW := GW hkr.1 hkr.2
    obtain ⟨kB, hkB⟩ : ∃ kB, k * B = kB := ⟨_, rfl⟩
    have HWK : Hid (IntKind.i64.wrap (k * B) = kB) := Lib.hid (by rw [← hkB]; exact IntWalk.i64_in _ (by omega))
    rw [hkB] at GW ⊢
    clear hkB hkb hkr
    by_cases hin : 1 ≤ bs.length ∧ (bs.length : Int) ≤ B
    case neg =>
      have hd9 : (((bs.length : Int) == 0) = true) ∨ (((bs.length : Int) == 0) = false ∧ decide (B < (bs.length : Int)) = true) := by
        by_cases h0 : bs.length = 0
        · exact Or.inl (by simp [h0])
        · exact Or.inr ⟨by simpa using h0, decide_eq_true (by omega)⟩
      have HN := Lib.hid hin
      clear hin GW GL hB hs
      generalize bs.length = L at *
      rcases hd9 with e3 | ⟨e3, e4⟩
      all_goals
        go_enter Tryd.func59, Tryd.ntmps59
        go_upto_region 1 with fail
        generalize hW3 : ((w.alloc _).alloc _).alloc _ = w3 at *
        clear hW3
        have c1 : w3.cell? ⟨w.heap.size + 1, 1, none⟩ = some (.int .i64 B) := HG.out.y.cell 1
        have c2 : w3.cell? ⟨w.heap.size + 1, 2, none⟩ = some (.int .i64 sl) := HG.out.y.cell 2
        go_upto_region 4 with fail
        have P : WGo w w3.drew s Ak ck Aw cw S B sl := WGo.below HG.out (below_draws (Below.refl _ _) 1)
        clear c1 c2
        refine wp_region_held_drew (S := fun W => Block W (w.heap.size) 31 (dCells Ak ck Aw cw s) ∧ Block W (w.heap.size + 1) 61 #[.int .i64 S, .int .i64 B, .int .i64 sl]) (by kernel_rfl) ⟨HG.out.x, HG.out.y⟩ (fun hS => ?_)
        refine wpAnyH_take (i := 0) (oi := ⟨some 31, _, _, _, _, _⟩) (v := .agg (dCells Ak ck Aw cw s)) rfl (by kernel_rfl) (by kernel_rfl) (by kernel_rfl) (fun _ _ _ h => h) (yieldsIf_load_mid (by rfl) _ _ rfl (w.heap.size) (0) rfl (dCells Ak ck Aw cw s).toList _ (fun W hW => block_range hW.1) Tryd.underlying31 rfl (by kernel_rfl)) hS ?_
        try simp only [Act.put, List.setIfInBounds_toArray, List.set_cons_zero, List.set_cons_succ]
        refine wpAnyH_ready (rs := [1]) (by kernel_rfl) (by simp) ?_
        refine AllReadyH.cons rfl (fun K hK => ?_) AllReadyH.nil
        go_simp
        refine hK.out _ _ ⟨P.x, P.y⟩ (fun hS => ?_)
        clear hK K
        try simp only [Act.put, List.setIfInBounds_toArray, List.set_cons_zero, List.set_cons_succ]
        refine wpAnyH_ready (rs := [2]) (by kernel_rfl) (by simp) ?_
        refine AllReadyH.cons rfl (fun K hK => ?_) AllReadyH.nil
        refine step_store_blk rfl _ _ _ rfl (cs := zD) (ds := (dCells Ak ck Aw cw s).toList) (by exact P.z) rfl rfl rfl (by kernel_rfl) (dCells_one _ _ _ _ _) ?_
        intro x9 Z9 g9
        have X9 := P.x.grown g9 (by intro h; injection h with h; omega)
        have Y9 := P.y.grown g9 (by intro h; injection h with h; omega)
        have RV9 := P.v.kept P.z zD_noText g9
        have B9 := P.b.trans (below_of_grown g9 P.b.size fun b hb => by injection hb with hb; omega)
        refine hK.out _ _ ⟨X9, Y9⟩ (fun hS => ?_)
        clear hK K
        try simp only [Act.put, List.setIfInBounds_toArray, List.set_cons_zero, List.set_cons_succ]
        refine wpAnyH_done (by kernel_rfl) ?_ _
        go_wp2_with fail
        exact bodyPost_ret (v := .tuple #[.int .i64 3, .agg (dCells Ak ck Aw cw s)]) (results_tmp_row rfl _ _ (w.heap.size + 1 + 1) 31 _ (0, 0) _ _ rfl rfl Z9 Tryd.underlying31 rfl (by kernel_rfl)) rfl (Or.inr (Or.inl ⟨HK.out, HN.out, ⟨_, rfl, RV9, B9⟩⟩))
    case pos =>
      have e3 : ((bs.length : Int) == 0) = false := by rw [beq_eq_false_iff_ne]; omega
      have e4 : decide (B < (bs.length : Int)) = false := decide_eq_false (by omega)
      have HN := Lib.hid hin
      clear hin hB hs
      generalize bs.length = L at *
      go_enter Tryd.func59, Tryd.ntmps59
      go_upto_region 1 with fail
      generalize hW3 : ((w.alloc _).alloc _).alloc _ = w3 at *
      clear hW3
      have c1 : w3.cell? ⟨w.heap.size + 1, 1, none⟩ = some (.int .i64 B) := HG.out.y.cell 1
      have c2 : w3.cell? ⟨w.heap.size + 1, 2, none⟩ = some (.int .i64 sl) := HG.out.y.cell 2
      go_upto_region 5 with fail
      have P : WGo w w3.drew s Ak ck Aw cw S B sl := WGo.below HG.out (below_draws (Below.refl _ _) 1)
      clear c1 c2
      refine wp_region_held_drew (S := fun W => Block W (w.heap.size) 31 (dCells Ak ck Aw cw s) ∧ Block W (w.heap.size + 1) 61 #[.int .i64 S, .int .i64 B, .int .i64 sl]) (by kernel_rfl) ⟨HG.out.x, HG.out.y⟩ (fun hS => ?_)
      refine wpAnyH_take (i := 0) (oi := ⟨some 32, _, _, _, _, _⟩) (v := .agg (dCells Ak ck Aw cw s)) rfl (by kernel_rfl) (by kernel_rfl) (by kernel_rfl) (fun _ _ _ h => h) (yieldsIf_load_mid (by rfl) _ _ rfl (w.heap.size) (0) rfl (dCells Ak ck Aw cw s).toList _ (fun W hW => block_range hW.1) Tryd.underlying31 rfl (by kernel_rfl)) hS ?_
      try simp only [Act.put, List.setIfInBounds_toArray, List.set_cons_zero, List.set_cons_succ]
      refine wpAnyH_take (i := 1) (oi := ⟨some 33, _, _, _, _, _⟩) (v := .agg #[.int .i64 S, .int .i64 B, .int .i64 sl]) rfl (by kernel_rfl) (by kernel_rfl) (by kernel_rfl) (fun _ _ _ h => h) (yieldsIf_load_mid (by rfl) _ _ rfl (w.heap.size + 1) (0) rfl #[.int .i64 S, .int .i64 B, .int .i64 sl].toList _ (fun W hW => block_range hW.2) Tryd.underlying61 rfl (by kernel_rfl)) hS ?_
      try simp only [Act.put, List.setIfInBounds_toArray, List.set_cons_zero, List.set_cons_succ]
      refine wpAnyH_take (i := 2) (oi := ⟨some 34, _, _, _, _, _⟩) (v := .int .u8 i) rfl (by kernel_rfl) (by kernel_rfl) (by kernel_rfl) (fun _ _ _ h => h) (Or.inl ⟨by rfl, fun W hW => by go_simp⟩) hS ?_
      try simp only [Act.put, List.setIfInBounds_toArray, List.set_cons_zero, List.set_cons_succ]
      refine wpAnyH_take (i := 4) (oi := ⟨some 36, _, _, _, _, _⟩) (v := .int .i64 k) rfl (by kernel_rfl) (by kernel_rfl) (by kernel_rfl) (fun _ _ _ h => h) (Or.inl ⟨by rfl, fun W hW => by go_simp⟩) hS ?_
      try simp only [Act.put, List.setIfInBounds_toArray, List.set_cons_zero, List.set_cons_succ]
      refine wpAnyH_take (i := 5) (oi := ⟨some 37, _, _, _, _, _⟩) (v := .pointer (some ⟨w.heap.size + 1, 1, none⟩)) rfl (by kernel_rfl) (by kernel_rfl) (by kernel_rfl) (fun _ _ _ h => h) (Or.inl ⟨by rfl, fun W hW => by go_simp⟩) hS ?_
      try simp only [Act.put, List.setIfInBounds_toArray, List.set_cons_zero, List.set_cons_succ]
      refine wpAnyH_take (i := 8) (oi := ⟨some 40, _, _, _, _, _⟩) (v := .string SS) rfl (by kernel_rfl) (by kernel_rfl) (by kernel_rfl) (fun _ _ _ h => h) (Or.inl ⟨by rfl, fun W hW => by go_simp⟩) hS ?_
      try simp only [Act.put, List.setIfInBounds_toArray, List.set_cons_zero, List.set_cons_succ]
      refine wpAnyH_take (i := 6) (oi := ⟨some 38, _, _, _, _, _⟩) (v := .int .i64 B) rfl (by kernel_rfl) (by kernel_rfl) (by kernel_rfl) (fun _ _ _ h => h) (Or.inl ⟨by rfl, fun W hW => by have q0 : W.cell? ⟨w.heap.size + 1, 1, none⟩ = some (.int .i64 B) := Block.cell hW.2 1; go_simp⟩) hS ?_
      try simp only [Act.put, List.setIfInBounds_toArray, List.set_cons_zero, List.set_cons_succ]
      refine wpAnyH_take (i := 7) (oi := ⟨some 39, _, _, _, _, _⟩) (v := .int .i64 kB) rfl (by kernel_rfl) (by kernel_rfl) (by kernel_rfl) (fun _ _ _ h => h) (Or.inl ⟨by rfl, fun W hW => by go_simp; exact HWK.out⟩) hS ?_
      try simp only [Act.put, List.setIfInBounds_toArray, List.set_cons_zero, List.set_cons_succ]
      refine wpAnyH_ready (rs := [3]) (by kernel_rfl) (by simp) ?_
      refine AllReadyH.cons rfl (fun K hK => ?_) AllReadyH.nil
      go_simp
      go_at_call 86
      refine (GL.out _).mono ?_
      rintro e x1 ⟨rfl, hb1⟩
      have P1 := P.below hb1
      refine hK.out _ _ ⟨P1.x, P1.y⟩ (fun hS => ?_)
      clear hK K
      try simp only [Act.put, List.setIfInBounds_toArray, List.set_cons_zero, List.set_cons_succ]
      refine wpAnyH_ready (rs := [9]) (by kernel_rfl) (by simp) ?_
      refine AllReadyH.cons rfl (fun K hK => ?_) AllReadyH.nil
      go_simp
      go_at_call 85
      refine (GW.out _ _ P1.v).mono ?_
      rintro e x2 ⟨r, hr, v1, rfl, RV1, hb2⟩
      obtain ⟨Ak1, ck1, Aw1, cw1, rfl, hr1⟩ := RV1
      have RV1 : RDv x2 (.agg (dCells Ak1 ck1 Aw1 cw1 r.2)) r.2 := ⟨Ak1, ck1, Aw1, cw1, rfl, hr1⟩
      have P2 := P1.below hb2
      clear hr1
      refine hK.out _ _ ⟨P2.x, P2.y⟩ (fun hS => ?_)
      clear hK K
      try simp only [Act.put, List.setIfInBounds_toArray, List.set_cons_zero, List.set_cons_succ]
      refine wpAnyH_take (i := 10) (oi := ⟨some 42, _, _, _, _, _⟩) (v := .int .i64 r.1) rfl (by kernel_rfl) (by kernel_rfl) (by kernel_rfl) (fun _ _ _ h => h) (Or.inl ⟨by rfl, fun W hW => by go_simp⟩) hS ?_
      try simp only [Act.put, List.setIfInBounds_toArray, List.set_cons_zero, List.set_cons_succ]
      refine wpAnyH_take (i := 11) (oi := ⟨some 43, _, _, _, _, _⟩) (v := .agg (dCells Ak1 ck1 Aw1 cw1 r.2)) rfl (by kernel_rfl) (by kernel_rfl) (by kernel_rfl) (fun _ _ _ h => h) (Or.inl ⟨by rfl, fun W hW => by go_simp⟩) hS ?_
      try simp only [Act.put, List.setIfInBounds_toArray, List.set_cons_zero, List.set_cons_succ]
      refine wpAnyH_ready (rs := [12]) (by kernel_rfl) (by simp) ?_
      refine AllReadyH.cons rfl (fun K hK => ?_) AllReadyH.nil
      go_simp
      refine hK.out _ _ ⟨P2.x, P2.y⟩ (fun hS => ?_)
      clear hK K
      try simp only [Act.put, List.setIfInBounds_toArray, List.set_cons_zero, List.set_cons_succ]
      refine wpAnyH_ready (rs := [13]) (by kernel_rfl) (by simp) ?_
      refine AllReadyH.cons rfl (fun K hK => ?_) AllReadyH.nil
      refine step_store_blk rfl _ _ _ rfl (cs := zD) (ds := (dCells Ak1 ck1 Aw1 cw1 r.2).toList) (by exact P2.z) rfl rfl rfl (by kernel_rfl) (dCells_one _ _ _ _ _) ?_
      intro x3 Z3 g3
      have X3 := P2.x.grown g3 (by intro h; injection h with h; omega)
      have Y3 := P2.y.grown g3 (by intro h; injection h with h; omega)
      have RV3 := RV1.kept P2.z zD_noText g3
      have B3 := P2.b.trans (below_of_grown g3 P2.b.size fun b hb => by injection hb with hb; omega)
      refine hK.out _ _ ⟨X3, Y3⟩ (fun hS => ?_)
      clear hK K
      try simp only [Act.put, List.setIfInBounds_toArray, List.set_cons_zero, List.set_cons_succ]
      refine wpAnyH_done (by kernel_rfl) ?_ _
      go_wp2_with fail
      exact bodyPost_ret (v := .tuple #[.int .i64 r.1, .agg (dCells Ak1 ck1 Aw1 cw1 r.2)]) (results_tmp_row rfl _ _ (w.heap.size + 1 + 1) 31 _ (0, 0) _ _ rfl rfl Z3 Tryd.underlying31 rfl (by kernel_rfl)) rfl (Or.inr (Or.inr ⟨HK.out, HN.out, r, hr, _, rfl, RV3, B3⟩))
end Go.Proofs.YtpnodocjpedcmaaDoor.Im
