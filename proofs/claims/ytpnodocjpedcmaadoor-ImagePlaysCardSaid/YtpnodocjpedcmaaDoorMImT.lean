/-
  Layer 25, the document's answers: slot, Kept, Range. Conditions: the device's row, a layout that may be on it.
-/
import Derived.Test.YtpnodocjpedcmaaDoorMImE
import Derived.Test.YtpnodocjpedcmaaDoorMGIays14
import Derived.Test.YtpnodocjpedcmaaDoorMGIays0
namespace Go.Proofs.YtpnodocjpedcmaaDoor.Im
open Go.ChangeShapes Go.WideShapes Go.ChangeAt Go.RowKit Go.Proofs.YtpnodocjpedcmaaDoor.Kit Go.Proofs.YtpnodocjpedcmaaDoor.Pt
open Go.Proofs.YtpnodocjpedcmaaDoor.Sec (Dv RDv dCells GivesS GivesED)

set_option maxRecDepth 100000 in
set_option maxHeartbeats 3200000 in
/-- The document's region of a slot. -/
theorem rslot_any (S B sl i : Int) (w : World) (hm : Prt.mayB S B sl = true) :
    Calls Tryd.prog 86 #[.agg #[.int .i64 S, .int .i64 B, .int .i64 sl], .int .u8 i] w (Prt.Gives (.agg #[.int .i64 (slotF S B sl i), .int .i64 (sl * (B / S))]) w) := by
  obtain ⟨hS, hB, hs⟩ := Prt.may_facts hm
  have GL := Lib.hid (fun W => Prt.rlayout_any S B sl (B / S) W hS hB hs rfl)
  unfold Prt.mapV at GL
  unfold slotF
  generalize B / S = q at GL ⊢
  generalize sl * q = p at GL ⊢
  clear hS hB hs hm
  by_cases hi : i = 0
  · subst hi
    rw [if_pos rfl]
    go_enter Tryd.func86, Tryd.ntmps86
    go_upto_region 2 with (go_at_call 27; (with_reducible refine (GL.out _).mono ?_); rintro e w2 ⟨rfl, hb2⟩)
    have B1 : Below w.heap.size w ((w.alloc (.cells #[.int .i64 S, .int .i64 B, .int .i64 sl] 61)).alloc (.cells #[.int .i64 0, .int .i64 0] 42)) := ((Below.refl _ _).alloc (Nat.le_refl _) _).alloc (by simp) _
    have Z1 := Block.new (w.alloc (.cells #[.int .i64 S, .int .i64 B, .int .i64 sl] 61)) 42 #[.int .i64 0, .int .i64 0]
    rw [show (w.alloc (.cells #[.int .i64 S, .int .i64 B, .int .i64 sl] 61)).heap.size = w.heap.size + 1 by simp] at Z1
    have Z2 := Z1.below hb2 Z1.lt
    have B2 := B1.trans (hb2.mono B1.size)
    have hz2 : w.heap.size + 1 < w2.heap.size := Z2.lt
    have M3 := Block.new w2 45 #[.int .i64 0, .int .i64 1, .int .i64 1, .int .i64 1, .int .i64 2, .int .i64 q, .int .i64 (2 + q), .int .i64 p, .int .i64 (2 + q + p), .int .i64 p, .int .i64 (2 + q + p + p)]
    have B3 : Below w.heap.size w (w2.alloc (.cells #[.int .i64 0, .int .i64 1, .int .i64 1, .int .i64 1, .int .i64 2, .int .i64 q, .int .i64 (2 + q), .int .i64 p, .int .i64 (2 + q + p), .int .i64 p, .int .i64 (2 + q + p + p)] 45)) := B2.alloc (by omega) _
    have Z3 := Z2.below (show Below w2.heap.size w2 (w2.alloc (.cells #[.int .i64 0, .int .i64 1, .int .i64 1, .int .i64 1, .int .i64 2, .int .i64 q, .int .i64 (2 + q), .int .i64 p, .int .i64 (2 + q + p), .int .i64 p, .int .i64 (2 + q + p + p)] 45)) from (Below.refl _ _).alloc (Nat.le_refl _) _) Z2.lt
    generalize w2.alloc (.cells #[.int .i64 0, .int .i64 1, .int .i64 1, .int .i64 1, .int .i64 2, .int .i64 q, .int .i64 (2 + q), .int .i64 p, .int .i64 (2 + q + p), .int .i64 p, .int .i64 (2 + q + p + p)] 45) = w3 at *
    generalize w2.heap.size = g at *
    have e6 : w3.cell? ⟨g, 6, none⟩ = some (.int .i64 (2 + q)) := M3.cell 6
    have e7 : w3.cell? ⟨g, 7, none⟩ = some (.int .i64 p) := M3.cell 7
    clear B1 Z1 Z2 B2 M3 hb2
    go_wp2_with (have _t := Z3; refine Sec.wpList_store_blk (cs := #[.int .i64 0, .int .i64 0]) rfl _ _ _ rfl (ds := [.int .i64 (2 + q), .int .i64 p]) (by exact Z3) rfl rfl rfl (by kernel_rfl) (by intro u hu; simp only [List.mem_cons, List.mem_nil_iff, or_false] at hu; rcases hu with rfl | rfl <;> rfl) ?_; clear _t; intro w7 X7 g7)
    have B7 := B3.trans (below_of_grown g7 B3.size fun b hb => by injection hb with hb; omega)
    have r0 : w7.cell? ⟨w.heap.size + 1, 0, none⟩ = some (.int .i64 (2 + q)) := X7.cell 0
    have r1 : w7.cell? ⟨w.heap.size + 1, 1, none⟩ = some (.int .i64 p) := X7.cell 1
    refine bodyPost_ret (v := .agg #[.int .i64 (2 + q), .int .i64 p]) ?_ rfl ⟨rfl, B7⟩
    simp [results, Tryd.results86, go_sem, r0, r1]
  · rw [if_neg hi]
    have e0 : (i == 0) = false := by simpa using hi
    go_enter Tryd.func86, Tryd.ntmps86
    go_upto_region 2 with (go_at_call 27; (with_reducible refine (GL.out _).mono ?_); rintro e w2 ⟨rfl, hb2⟩)
    have B1 : Below w.heap.size w ((w.alloc (.cells #[.int .i64 S, .int .i64 B, .int .i64 sl] 61)).alloc (.cells #[.int .i64 0, .int .i64 0] 42)) := ((Below.refl _ _).alloc (Nat.le_refl _) _).alloc (by simp) _
    have Z1 := Block.new (w.alloc (.cells #[.int .i64 S, .int .i64 B, .int .i64 sl] 61)) 42 #[.int .i64 0, .int .i64 0]
    rw [show (w.alloc (.cells #[.int .i64 S, .int .i64 B, .int .i64 sl] 61)).heap.size = w.heap.size + 1 by simp] at Z1
    have Z2 := Z1.below hb2 Z1.lt
    have B2 := B1.trans (hb2.mono B1.size)
    have hz2 : w.heap.size + 1 < w2.heap.size := Z2.lt
    have M3 := Block.new w2 45 #[.int .i64 0, .int .i64 1, .int .i64 1, .int .i64 1, .int .i64 2, .int .i64 q, .int .i64 (2 + q), .int .i64 p, .int .i64 (2 + q + p), .int .i64 p, .int .i64 (2 + q + p + p)]
    have B3 : Below w.heap.size w (w2.alloc (.cells #[.int .i64 0, .int .i64 1, .int .i64 1, .int .i64 1, .int .i64 2, .int .i64 q, .int .i64 (2 + q), .int .i64 p, .int .i64 (2 + q + p), .int .i64 p, .int .i64 (2 + q + p + p)] 45)) := B2.alloc (by omega) _
    have Z3 := Z2.below (show Below w2.heap.size w2 (w2.alloc (.cells #[.int .i64 0, .int .i64 1, .int .i64 1, .int .i64 1, .int .i64 2, .int .i64 q, .int .i64 (2 + q), .int .i64 p, .int .i64 (2 + q + p), .int .i64 p, .int .i64 (2 + q + p + p)] 45)) from (Below.refl _ _).alloc (Nat.le_refl _) _) Z2.lt
    generalize w2.alloc (.cells #[.int .i64 0, .int .i64 1, .int .i64 1, .int .i64 1, .int .i64 2, .int .i64 q, .int .i64 (2 + q), .int .i64 p, .int .i64 (2 + q + p), .int .i64 p, .int .i64 (2 + q + p + p)] 45) = w3 at *
    generalize w2.heap.size = g at *
    have e6 : w3.cell? ⟨g, 8, none⟩ = some (.int .i64 (2 + q + p)) := M3.cell 8
    have e7 : w3.cell? ⟨g, 9, none⟩ = some (.int .i64 p) := M3.cell 9
    clear B1 Z1 Z2 B2 M3 hb2
    go_wp2_with (have _t := Z3; refine Sec.wpList_store_blk (cs := #[.int .i64 0, .int .i64 0]) rfl _ _ _ rfl (ds := [.int .i64 (2 + q + p), .int .i64 p]) (by exact Z3) rfl rfl rfl (by kernel_rfl) (by intro u hu; simp only [List.mem_cons, List.mem_nil_iff, or_false] at hu; rcases hu with rfl | rfl <;> rfl) ?_; clear _t; intro w7 X7 g7)
    have B7 := B3.trans (below_of_grown g7 B3.size fun b hb => by injection hb with hb; omega)
    have r0 : w7.cell? ⟨w.heap.size + 1, 0, none⟩ = some (.int .i64 (2 + q + p)) := X7.cell 0
    have r1 : w7.cell? ⟨w.heap.size + 1, 1, none⟩ = some (.int .i64 p) := X7.cell 1
    refine bodyPost_ret (v := .agg #[.int .i64 (2 + q + p), .int .i64 p]) ?_ rfl ⟨rfl, B7⟩
    simp [results, Tryd.results86, go_sem, r0, r1]

theorem field1 (v0 v1 v2 v3 v4 v5 v6 v7 v8 v9 v10 : Value) (w : World) : (Instr.field 45 (.agg #[v0, v1, v2, v3, v4, v5, v6, v7, v8, v9, v10]) 1).run Tryd.prog w = .ok (.agg #[v4, v5]) w := by kernel_rfl

/-- The document's device and its layout, side by side where a call begins. -/
structure RGo (w W : World) (s : Dv) (Ak : Option Addr) (ck : Nat) (Aw : Option Addr) (cw : Nat) (S B sl : Int) : Prop where
  x : Block W w.heap.size 31 (dCells Ak ck Aw cw s)
  y : Block W (w.heap.size + 1) 61 #[.int .i64 S, .int .i64 B, .int .i64 sl]
  r : RDv W (.agg (dCells Ak ck Aw cw s)) s
  b : Below w.heap.size w W
section
variable {w W W' : World} {s : Dv} {Ak : Option Addr} {ck : Nat} {Aw : Option Addr} {cw : Nat} {S B sl : Int}
theorem RGo.below (h : RGo w W s Ak ck Aw cw S B sl) (hb : Below W.heap.size W W') : RGo w W' s Ak ck Aw cw S B sl :=
  ⟨h.x.below hb h.x.lt, h.y.below hb h.y.lt, h.r.below hb, h.b.trans (hb.mono h.b.size)⟩
theorem RGo.start (h : RDv w (.agg (dCells Ak ck Aw cw s)) s) : RGo w ((w.alloc (.cells (dCells Ak ck Aw cw s) 31)).alloc (.cells #[.int .i64 S, .int .i64 B, .int .i64 sl] 61)) s Ak ck Aw cw S B sl := by
  have hX := Block.new w 31 (dCells Ak ck Aw cw s)
  have b1 : Below w.heap.size w (w.alloc (.cells (dCells Ak ck Aw cw s) 31)) := (Below.refl _ _).alloc (Nat.le_refl _) _
  have hY := Block.new (w.alloc (.cells (dCells Ak ck Aw cw s) 31)) 61 #[.int .i64 S, .int .i64 B, .int .i64 sl]
  have b2 : Below w.heap.size w ((w.alloc (.cells (dCells Ak ck Aw cw s) 31)).alloc (.cells #[.int .i64 S, .int .i64 B, .int .i64 sl] 61)) := b1.alloc b1.size _
  rw [show (w.alloc (.cells (dCells Ak ck Aw cw s) 31)).heap.size = w.heap.size + 1 by simp] at hY
  exact ⟨hX.below ((Below.refl _ _).alloc (Nat.le_refl _) _) hX.lt, hY, h.below b2, b2⟩
theorem RGo.cells (h : RGo w W s Ak ck Aw cw S B sl) : W.cell? ⟨w.heap.size, 0, none⟩ = some (.int .i64 s.size) ∧ W.cell? ⟨w.heap.size, 1, none⟩ = some (.int .i64 s.count) ∧ W.cell? ⟨w.heap.size, 2, none⟩ = some (.slice Ak s.kept.length ck) ∧ W.cell? ⟨w.heap.size, 3, none⟩ = some (.slice Aw s.waits.length cw) ∧ W.cell? ⟨w.heap.size, 4, none⟩ = some (.bool s.off) ∧ W.cell? ⟨w.heap.size, 5, none⟩ = some (.int .i64 s.offs) ∧ W.cell? ⟨w.heap.size, 6, none⟩ = some (.int .i64 s.fuse) ∧ W.cell? ⟨w.heap.size, 7, none⟩ = some (.int .u64 s.wr) ∧ W.cell? ⟨w.heap.size + 1, 0, none⟩ = some (.int .i64 S) ∧ W.cell? ⟨w.heap.size + 1, 1, none⟩ = some (.int .i64 B) ∧ W.cell? ⟨w.heap.size + 1, 2, none⟩ = some (.int .i64 sl) :=
  ⟨h.x.cell 0, h.x.cell 1, h.x.cell 2, h.x.cell 3, h.x.cell 4, h.x.cell 5, h.x.cell 6, h.x.cell 7, h.y.cell 0, h.y.cell 1, h.y.cell 2⟩
end

set_option maxRecDepth 100000 in
set_option maxHeartbeats 3200000 in
/-- What stands aside, the document's. -/
theorem rkept_any (v : Value) (s : Dv) (S B sl n : Int) (w : World) (h : RDv w v s) (hok : s.Ok) (hwh : Whole s) (hL : LayOk S B sl s) :
    Calls Tryd.prog 61 #[v, .agg #[.int .i64 S, .int .i64 B, .int .i64 sl], .int .i64 n] w fun e w' => ∃ r, PRead s 2 B.toNat 0 n r ∧ GivesS r.1 r.2 w e w' := by
  obtain ⟨hS, hB, hs⟩ := Prt.may_facts hL.m
  have GL := Lib.hid (fun W => Prt.rlayout_any S B sl (B / S) W hS hB hs rfl)
  unfold Prt.mapV at GL
  have GR := Lib.hid (fun v W (h : RDv W v s) => rpread_any v s 2 (B / S) B.toNat 0 n W h hok hwh hL.aside (by omega))
  obtain ⟨Ak, ck, Aw, cw, rfl, hr⟩ := h
  have G3 : RGo w _ s Ak ck Aw cw S B sl := RGo.start ⟨Ak, ck, Aw, cw, rfl, hr⟩
  have hf := field1
  clear hr hok hwh hL hS hB hs
  generalize B / S = q at GL GR
  generalize sl * q = p at GL
  have HG := Lib.hid G3
  clear G3
  unfold dCells at HG ⊢
  go_enter Tryd.func61, Tryd.ntmps61
  go_upto_region 1 with fail
  generalize (w.alloc _).alloc _ = w3 at *
  have G4 : Hid (RGo w w3.drew s Ak ck Aw cw S B sl) := Lib.hid (RGo.below HG.out (below_draws (Below.refl _ _) 1))
  go_region_held3 (fun W' => W'.cell? ⟨w.heap.size, 0, none⟩ = some (.int .i64 s.size) ∧ W'.cell? ⟨w.heap.size, 1, none⟩ = some (.int .i64 s.count) ∧ W'.cell? ⟨w.heap.size, 2, none⟩ = some (.slice Ak s.kept.length ck) ∧ W'.cell? ⟨w.heap.size, 3, none⟩ = some (.slice Aw s.waits.length cw) ∧ W'.cell? ⟨w.heap.size, 4, none⟩ = some (.bool s.off) ∧ W'.cell? ⟨w.heap.size, 5, none⟩ = some (.int .i64 s.offs) ∧ W'.cell? ⟨w.heap.size, 6, none⟩ = some (.int .i64 s.fuse) ∧ W'.cell? ⟨w.heap.size, 7, none⟩ = some (.int .u64 s.wr) ∧ W'.cell? ⟨w.heap.size + 1, 0, none⟩ = some (.int .i64 S) ∧ W'.cell? ⟨w.heap.size + 1, 1, none⟩ = some (.int .i64 B) ∧ W'.cell? ⟨w.heap.size + 1, 2, none⟩ = some (.int .i64 sl))
    (first | exact HG.out.cells | exact G4.out.cells | exact G5.cells | exact G6.cells)
    (first
      | (go_at_call 27; refine (GL.out _).mono ?_; rintro e w5 ⟨rfl, hb5⟩; have G5 := G4.out.below hb5)
      | (have _t := G5; go_at_call 87; refine (GR.out _ _ G5.r).mono ?_; rintro e w6 ⟨r, hr, rfl, hb6⟩; have G6 := G5.below hb6))
  go_wp2_with fail
  go_ret2
  exact ⟨r, hr, rfl, G6.b⟩

set_option maxRecDepth 100000 in
set_option maxHeartbeats 3200000 in
/-- Bytes of a view, the document's. -/
theorem rrange_any (v : Value) (s : Dv) (S B sl i view from_ n : Int) (w : World) (h : RDv w v s) (hok : s.Ok) (hwh : Whole s) (hL : LayOk S B sl s) (hf : -9223372036854775808 ≤ from_ ∧ from_ ≤ 9223372036854775807) :
    Calls Tryd.prog 64 #[v, .agg #[.int .i64 S, .int .i64 B, .int .i64 sl], .int .u8 i, .int .i64 view, .int .i64 from_, .int .i64 n] w fun e w' =>
      (¬ (0 ≤ from_ ∧ from_ ≤ min (max view 0) (B * sl) ∧ 0 ≤ n ∧ n ≤ min (max view 0) (B * sl) - from_) ∧ GivesS [] 5 w e w') ∨
        ((0 ≤ from_ ∧ from_ ≤ min (max view 0) (B * sl) ∧ 0 ≤ n ∧ n ≤ min (max view 0) (B * sl) - from_) ∧ ∃ r, PRead s (slotF S B sl i) (B * sl).toNat from_ n r ∧ GivesS r.1 r.2 w e w') := by
  obtain ⟨hS, hB, hs, hdd, hq, h0, h1, h2, h3⟩ := hL.facts
  have GL := Lib.hid (fun W => rslot_any S B sl i W hL.m)
  have GR := Lib.hid (fun v W (h : RDv W v s) => rpread_any v s _ _ _ from_ n W h hok hwh (hL.lies i) hf)
  obtain ⟨Ak, ck, Aw, cw, rfl, hr⟩ := h
  have G3 : RGo w _ s Ak ck Aw cw S B sl := RGo.start ⟨Ak, ck, Aw, cw, rfl, hr⟩
  obtain ⟨C, hC⟩ : ∃ C, B * sl = C := ⟨_, rfl⟩
  have hw : IntKind.i64.wrap (B * sl) = C := by rw [hC]; exact IntWalk.i64_in _ (by omega)
  rw [hC] at GR ⊢
  obtain ⟨m, hm⟩ : ∃ m, min (max view 0) C = m := ⟨_, rfl⟩
  have hm0 : 0 ≤ m ∧ m ≤ 16777216 := by omega
  have HM := Lib.hid hm
  rw [hm]
  clear hr hok hwh hL hS hB hs hdd hq h2 h3 hm
  generalize slotF S B sl i = F at GL GR ⊢
  generalize sl * (B / S) = p at GL GR
  rw [hC] at h0 h1
  have HG := Lib.hid G3
  clear G3 hC
  unfold dCells at HG ⊢
  by_cases hin : 0 ≤ from_ ∧ from_ ≤ m ∧ 0 ≤ n ∧ n ≤ m - from_
  case neg =>
    have hd9 : decide (from_ < 0) = true ∨ (decide (from_ < 0) = false ∧ (decide (n < 0) = true ∨ (decide (n < 0) = false ∧ (decide (m < from_) = true ∨ (0 ≤ from_ ∧ from_ ≤ m ∧ decide (m < from_) = false ∧ decide (m - from_ < n) = true))))) := by
      simp only [decide_eq_true_eq, decide_eq_false_iff_not]
      omega
    have HN := Lib.hid hin
    clear hin GR GL
    rcases hd9 with e1 | ⟨e1, e2 | ⟨e2, e3 | ⟨hb1, hb2, e3, e4⟩⟩⟩
    all_goals
      go_enter Tryd.func64, Tryd.ntmps64
      go_upto_region 1 with fail
      generalize (w.alloc _).alloc _ = w3 at *
      have c1 : w3.cell? ⟨w.heap.size + 1, 1, none⟩ = some (.int .i64 B) := HG.out.y.cell 1
      have c2 : w3.cell? ⟨w.heap.size + 1, 2, none⟩ = some (.int .i64 sl) := HG.out.y.cell 2
      go_upto_region 2 with fail
      try rw [HM.out]
      clear hw
      go_wp2_with fail
      go_ret2
      exact Or.inl ⟨HN.out, rfl, HG.out.b⟩
  case pos =>
    have e1 : decide (from_ < 0) = false := decide_eq_false (by omega)
    have e2 : decide (n < 0) = false := decide_eq_false (by omega)
    have e3 : decide (m < from_) = false := decide_eq_false (by omega)
    have e4 : decide (m - from_ < n) = false := decide_eq_false (by omega)
    have hb1 : 0 ≤ from_ := hin.1
    have hb2 : from_ ≤ m := hin.2.1
    have HN := Lib.hid hin
    clear hin
    go_enter Tryd.func64, Tryd.ntmps64
    go_upto_region 1 with fail
    generalize (w.alloc _).alloc _ = w3 at *
    have c1 : w3.cell? ⟨w.heap.size + 1, 1, none⟩ = some (.int .i64 B) := HG.out.y.cell 1
    have c2 : w3.cell? ⟨w.heap.size + 1, 2, none⟩ = some (.int .i64 sl) := HG.out.y.cell 2
    go_upto_region 2 with fail
    try rw [HM.out]
    clear hw
    go_upto_region 4 with fail
    clear c1 c2
    have G4 : Hid (RGo w w3.drew s Ak ck Aw cw S B sl) := Lib.hid (RGo.below HG.out (below_draws (Below.refl _ _) 1))
    go_region_held3 (fun W' => W'.cell? ⟨w.heap.size, 0, none⟩ = some (.int .i64 s.size) ∧ W'.cell? ⟨w.heap.size, 1, none⟩ = some (.int .i64 s.count) ∧ W'.cell? ⟨w.heap.size, 2, none⟩ = some (.slice Ak s.kept.length ck) ∧ W'.cell? ⟨w.heap.size, 3, none⟩ = some (.slice Aw s.waits.length cw) ∧ W'.cell? ⟨w.heap.size, 4, none⟩ = some (.bool s.off) ∧ W'.cell? ⟨w.heap.size, 5, none⟩ = some (.int .i64 s.offs) ∧ W'.cell? ⟨w.heap.size, 6, none⟩ = some (.int .i64 s.fuse) ∧ W'.cell? ⟨w.heap.size, 7, none⟩ = some (.int .u64 s.wr) ∧ W'.cell? ⟨w.heap.size + 1, 0, none⟩ = some (.int .i64 S) ∧ W'.cell? ⟨w.heap.size + 1, 1, none⟩ = some (.int .i64 B) ∧ W'.cell? ⟨w.heap.size + 1, 2, none⟩ = some (.int .i64 sl))
      (first | exact HG.out.cells | exact G4.out.cells | exact G5.cells | exact G6.cells)
      (first
        | (go_at_call 86; refine (GL.out _).mono ?_; rintro e w5 ⟨rfl, hb5⟩; have G5 := G4.out.below hb5)
        | (have _t := G5; go_at_call 87; refine (GR.out _ _ G5.r).mono ?_; rintro e w6 ⟨r, hr, rfl, hb6⟩; have G6 := G5.below hb6))
    go_wp2_with fail
    go_ret2
    exact Or.inr ⟨HN.out, r, hr, rfl, G6.b⟩
end Go.Proofs.YtpnodocjpedcmaaDoor.Im
