/-
  Layer 25, the document's answers: slot, Kept, Range. Conditions: the device's row, a layout that may be on it.
  Layer 1, sha: the document's sum: contract; the program's sum of bytes. Conditions: as each theorem names.
  Layer 25, the document's answers: Put and Keep. Conditions: the device's row, a layout that may be on it.
-/
import Derived.Test.YtpnodocjpedcmaaDoorMImE
import Derived.Test.YtpnodocjpedcmaaDoorMGIays10
import Derived.Test.YtpnodocjpedcmaaDoorMGIays0
import Derived.Test.YtpnodocjpedcmaaDoorMShO
namespace Go.Proofs.YtpnodocjpedcmaaDoor.Im
open Go.ChangeShapes Go.WideShapes Go.ChangeAt Go.RowKit Go.Proofs.YtpnodocjpedcmaaDoor.Kit Go.Proofs.YtpnodocjpedcmaaDoor.Pt
open Go.Proofs.YtpnodocjpedcmaaDoor.Sec (Dv RDv dCells GivesS GivesED)

set_option maxRecDepth 100000 in
set_option maxHeartbeats 3200000 in
/-- The document's region of a slot. -/
theorem rslot_any (S B sl i : Int) (w : World) (hm : Prt.mayB S B sl = true) :
    Calls Tryd.prog 86 #[.agg #[.int .i64 S, .int .i64 B, .int .i64 sl], .int .u8 i] w (Prt.Gives (.agg #[.int .i64 (slotF S B sl i), .int .i64 (sl * (B / S))]) w) := by
  obtain ⟨hS, hB, hs⟩ := Prt.may_facts hm
  have GL := Lib.hid (fun W => Prt.rlayout_any S B sl (B / S) W hS hB hs rfl)
  unfold Prt.mapV at GL
  unfold slotF
  generalize B / S = q at GL ⊢
  generalize sl * q = p at GL ⊢
  clear hS hB hs hm
  by_cases hi : i = 0
  · subst hi
    rw [if_pos rfl]
    go_enter Tryd.func86, Tryd.ntmps86
    go_upto_region 2 with (go_at_call 27; (with_reducible refine (GL.out _).mono ?_); rintro e w2 ⟨rfl, hb2⟩)
    have B1 : Below w.heap.size w ((w.alloc (.cells #[.int .i64 S, .int .i64 B, .int .i64 sl] 61)).alloc (.cells #[.int .i64 0, .int .i64 0] 42)) := ((Below.refl _ _).alloc (Nat.le_refl _) _).alloc (by simp) _
    have Z1 := Block.new (w.alloc (.cells #[.int .i64 S, .int .i64 B, .int .i64 sl] 61)) 42 #[.int .i64 0, .int .i64 0]
    rw [show (w.alloc (.cells #[.int .i64 S, .int .i64 B, .int .i64 sl] 61)).heap.size = w.heap.size + 1 by simp] at Z1
    have Z2 := Z1.below hb2 Z1.lt
    have B2 := B1.trans (hb2.mono B1.size)
    have hz2 : w.heap.size + 1 < w2.heap.size := Z2.lt
    have M3 := Block.new w2 45 #[.int .i64 0, .int .i64 1, .int .i64 1, .int .i64 1, .int .i64 2, .int .i64 q, .int .i64 (2 + q), .int .i64 p, .int .i64 (2 + q + p), .int .i64 p, .int .i64 (2 + q + p + p)]
    have B3 : Below w.heap.size w (w2.alloc (.cells #[.int .i64 0, .int .i64 1, .int .i64 1, .int .i64 1, .int .i64 2, .int .i64 q, .int .i64 (2 + q), .int .i64 p, .int .i64 (2 + q + p), .int .i64 p, .int .i64 (2 + q + p + p)] 45)) := B2.alloc (by omega) _
    have Z3 := Z2.below (show Below w2.heap.size w2 (w2.alloc (.cells #[.int .i64 0, .int .i64 1, .int .i64 1, .int .i64 1, .int .i64 2, .int .i64 q, .int .i64 (2 + q), .int .i64 p, .int .i64 (2 + q + p), .int .i64 p, .int .i64 (2 + q + p + p)] 45)) from (Below.refl _ _).alloc (Nat.le_refl _) _) Z2.lt
    generalize w2.alloc (.cells #[.int .i64 0, .int .i64 1, .int .i64 1, .int .i64 1, .int .i64 2, .int .i64 q, .int .i64 (2 + q), .int .i64 p, .int .i64 (2 + q + p), .int .i64 p, .int .i64 (2 + q + p + p)] 45) = w3 at *
    generalize w2.heap.size = g at *
    have e6 : w3.cell? ⟨g, 6, none⟩ = some (.int .i64 (2 + q)) := M3.cell 6
    have e7 : w3.cell? ⟨g, 7, none⟩ = some (.int .i64 p) := M3.cell 7
    clear B1 Z1 Z2 B2 M3 hb2
    go_wp2_with (have _t := Z3; refine Sec.wpList_store_blk (cs := #[.int .i64 0, .int .i64 0]) rfl _ _ _ rfl (ds := [.int .i64 (2 + q), .int .i64 p]) (by exact Z3) rfl rfl rfl (by kernel_rfl) (by intro u hu; simp only [List.mem_cons, List.mem_nil_iff, or_false] at hu; rcases hu with rfl | rfl <;> rfl) ?_; clear _t; intro w7 X7 g7)
    have B7 := B3.trans (below_of_grown g7 B3.size fun b hb => by injection hb with hb; omega)
    have r0 : w7.cell? ⟨w.heap.size + 1, 0, none⟩ = some (.int .i64 (2 + q)) := X7.cell 0
    have r1 : w7.cell? ⟨w.heap.size + 1, 1, none⟩ = some (.int .i64 p) := X7.cell 1
    refine bodyPost_ret (v := .agg #[.int .i64 (2 + q), .int .i64 p]) ?_ rfl ⟨rfl, B7⟩
    simp [results, Tryd.results86, go_sem, r0, r1]
  · rw [if_neg hi]
    have e0 : (i == 0) = false := by simpa using hi
    go_enter Tryd.func86, Tryd.ntmps86
    go_upto_region 2 with (go_at_call 27; (with_reducible refine (GL.out _).mono ?_); rintro e w2 ⟨rfl, hb2⟩)
    have B1 : Below w.heap.size w ((w.alloc (.cells #[.int .i64 S, .int .i64 B, .int .i64 sl] 61)).alloc (.cells #[.int .i64 0, .int .i64 0] 42)) := ((Below.refl _ _).alloc (Nat.le_refl _) _).alloc (by simp) _
    have Z1 := Block.new (w.alloc (.cells #[.int .i64 S, .int .i64 B, .int .i64 sl] 61)) 42 #[.int .i64 0, .int .i64 0]
    rw [show (w.alloc (.cells #[.int .i64 S, .int .i64 B, .int .i64 sl] 61)).heap.size = w.heap.size + 1 by simp] at Z1
    have Z2 := Z1.below hb2 Z1.lt
    have B2 := B1.trans (hb2.mono B1.size)
    have hz2 : w.heap.size + 1 < w2.heap.size := Z2.lt
    have M3 := Block.new w2 45 #[.int .i64 0, .int .i64 1, .int .i64 1, .int .i64 1, .int .i64 2, .int .i64 q, .int .i64 (2 + q), .int .i64 p, .int .i64 (2 + q + p), .int .i64 p, .int .i64 (2 + q + p + p)]
    have B3 : Below w.heap.size w (w2.alloc (.cells #[.int .i64 0, .int .i64 1, .int .i64 1, .int .i64 1, .int .i64 2, .int .i64 q, .int .i64 (2 + q), .int .i64 p, .int .i64 (2 + q + p), .int .i64 p, .int .i64 (2 + q + p + p)] 45)) := B2.alloc (by omega) _
    have Z3 := Z2.below (show Below w2.heap.size w2 (w2.alloc (.cells #[.int .i64 0, .int .i64 1, .int .i64 1, .int .i64 1, .int .i64 2, .int .i64 q, .int .i64 (2 + q), .int .i64 p, .int .i64 (2 + q + p), .int .i64 p, .int .i64 (2 + q + p + p)] 45)) from (Below.refl _ _).alloc (Nat.le_refl _) _) Z2.lt
    generalize w2.alloc (.cells #[.int .i64 0, .int .i64 1, .int .i64 1, .int .i64 1, .int .i64 2, .int .i64 q, .int .i64 (2 + q), .int .i64 p, .int .i64 (2 + q + p), .int .i64 p, .int .i64 (2 + q + p + p)] 45) = w3 at *
    generalize w2.heap.size = g at *
    have e6 : w3.cell? ⟨g, 8, none⟩ = some (.int .i64 (2 + q + p)) := M3.cell 8
    have e7 : w3.cell? ⟨g, 9, none⟩ = some (.int .i64 p) := M3.cell 9
    clear B1 Z1 Z2 B2 M3 hb2
    go_wp2_with (have _t := Z3; refine Sec.wpList_store_blk (cs := #[.int .i64 0, .int .i64 0]) rfl _ _ _ rfl (ds := [.int .i64 (2 + q + p), .int .i64 p]) (by exact Z3) rfl rfl rfl (by kernel_rfl) (by intro u hu; simp only [List.mem_cons, List.mem_nil_iff, or_false] at hu; rcases hu with rfl | rfl <;> rfl) ?_; clear _t; intro w7 X7 g7)
    have B7 := B3.trans (below_of_grown g7 B3.size fun b hb => by injection hb with hb; omega)
    have r0 : w7.cell? ⟨w.heap.size + 1, 0, none⟩ = some (.int .i64 (2 + q + p)) := X7.cell 0
    have r1 : w7.cell? ⟨w.heap.size + 1, 1, none⟩ = some (.int .i64 p) := X7.cell 1
    refine bodyPost_ret (v := .agg #[.int .i64 (2 + q + p), .int .i64 p]) ?_ rfl ⟨rfl, B7⟩
    simp [results, Tryd.results86, go_sem, r0, r1]

theorem field1 (v0 v1 v2 v3 v4 v5 v6 v7 v8 v9 v10 : Value) (w : World) : (Instr.field 45 (.agg #[v0, v1, v2, v3, v4, v5, v6, v7, v8, v9, v10]) 1).run Tryd.prog w = .ok (.agg #[v4, v5]) w := by kernel_rfl

/-- The document's device and its layout, side by side where a call begins. -/
structure RGo (w W : World) (s : Dv) (Ak : Option Addr) (ck : Nat) (Aw : Option Addr) (cw : Nat) (S B sl : Int) : Prop where
  x : Block W w.heap.size 31 (dCells Ak ck Aw cw s)
  y : Block W (w.heap.size + 1) 61 #[.int .i64 S, .int .i64 B, .int .i64 sl]
  r : RDv W (.agg (dCells Ak ck Aw cw s)) s
  b : Below w.heap.size w W
section
variable {w W W' : World} {s : Dv} {Ak : Option Addr} {ck : Nat} {Aw : Option Addr} {cw : Nat} {S B sl : Int}
theorem RGo.below (h : RGo w W s Ak ck Aw cw S B sl) (hb : Below W.heap.size W W') : RGo w W' s Ak ck Aw cw S B sl :=
  ⟨h.x.below hb h.x.lt, h.y.below hb h.y.lt, h.r.below hb, h.b.trans (hb.mono h.b.size)⟩
theorem RGo.start (h : RDv w (.agg (dCells Ak ck Aw cw s)) s) : RGo w ((w.alloc (.cells (dCells Ak ck Aw cw s) 31)).alloc (.cells #[.int .i64 S, .int .i64 B, .int .i64 sl] 61)) s Ak ck Aw cw S B sl := by
  have hX := Block.new w 31 (dCells Ak ck Aw cw s)
  have b1 : Below w.heap.size w (w.alloc (.cells (dCells Ak ck Aw cw s) 31)) := (Below.refl _ _).alloc (Nat.le_refl _) _
  have hY := Block.new (w.alloc (.cells (dCells Ak ck Aw cw s) 31)) 61 #[.int .i64 S, .int .i64 B, .int .i64 sl]
  have b2 : Below w.heap.size w ((w.alloc (.cells (dCells Ak ck Aw cw s) 31)).alloc (.cells #[.int .i64 S, .int .i64 B, .int .i64 sl] 61)) := b1.alloc b1.size _
  rw [show (w.alloc (.cells (dCells Ak ck Aw cw s) 31)).heap.size = w.heap.size + 1 by simp] at hY
  exact ⟨hX.below ((Below.refl _ _).alloc (Nat.le_refl _) _) hX.lt, hY, h.below b2, b2⟩
theorem RGo.cells (h : RGo w W s Ak ck Aw cw S B sl) : W.cell? ⟨w.heap.size, 0, none⟩ = some (.int .i64 s.size) ∧ W.cell? ⟨w.heap.size, 1, none⟩ = some (.int .i64 s.count) ∧ W.cell? ⟨w.heap.size, 2, none⟩ = some (.slice Ak s.kept.length ck) ∧ W.cell? ⟨w.heap.size, 3, none⟩ = some (.slice Aw s.waits.length cw) ∧ W.cell? ⟨w.heap.size, 4, none⟩ = some (.bool s.off) ∧ W.cell? ⟨w.heap.size, 5, none⟩ = some (.int .i64 s.offs) ∧ W.cell? ⟨w.heap.size, 6, none⟩ = some (.int .i64 s.fuse) ∧ W.cell? ⟨w.heap.size, 7, none⟩ = some (.int .u64 s.wr) ∧ W.cell? ⟨w.heap.size + 1, 0, none⟩ = some (.int .i64 S) ∧ W.cell? ⟨w.heap.size + 1, 1, none⟩ = some (.int .i64 B) ∧ W.cell? ⟨w.heap.size + 1, 2, none⟩ = some (.int .i64 sl) :=
  ⟨h.x.cell 0, h.x.cell 1, h.x.cell 2, h.x.cell 3, h.x.cell 4, h.x.cell 5, h.x.cell 6, h.x.cell 7, h.y.cell 0, h.y.cell 1, h.y.cell 2⟩
end

set_option maxRecDepth 100000 in
set_option maxHeartbeats 3200000 in
/-- What stands aside, the document's. -/
theorem rkept_any (v : Value) (s : Dv) (S B sl n : Int) (w : World) (h : RDv w v s) (hok : s.Ok) (hwh : Whole s) (hL : LayOk S B sl s) :
    Calls Tryd.prog 61 #[v, .agg #[.int .i64 S, .int .i64 B, .int .i64 sl], .int .i64 n] w fun e w' => ∃ r, PRead s 2 B.toNat 0 n r ∧ GivesS r.1 r.2 w e w' := by
  obtain ⟨hS, hB, hs⟩ := Prt.may_facts hL.m
  have GL := Lib.hid (fun W => Prt.rlayout_any S B sl (B / S) W hS hB hs rfl)
  unfold Prt.mapV at GL
  have GR := Lib.hid (fun v W (h : RDv W v s) => rpread_any v s 2 (B / S) B.toNat 0 n W h hok hwh hL.aside (by omega))
  obtain ⟨Ak, ck, Aw, cw, rfl, hr⟩ := h
  have G3 : RGo w _ s Ak ck Aw cw S B sl := RGo.start ⟨Ak, ck, Aw, cw, rfl, hr⟩
  have hf := field1
  clear hr hok hwh hL hS hB hs
  generalize B / S = q at GL GR
  generalize sl * q = p at GL
  have HG := Lib.hid G3
  clear G3
  unfold dCells at HG ⊢
  go_enter Tryd.func61, Tryd.ntmps61
  go_upto_region 1 with fail
  generalize (w.alloc _).alloc _ = w3 at *
  have G4 : Hid (RGo w w3.drew s Ak ck Aw cw S B sl) := Lib.hid (RGo.below HG.out (below_draws (Below.refl _ _) 1))
  go_region_held3 (fun W' => W'.cell? ⟨w.heap.size, 0, none⟩ = some (.int .i64 s.size) ∧ W'.cell? ⟨w.heap.size, 1, none⟩ = some (.int .i64 s.count) ∧ W'.cell? ⟨w.heap.size, 2, none⟩ = some (.slice Ak s.kept.length ck) ∧ W'.cell? ⟨w.heap.size, 3, none⟩ = some (.slice Aw s.waits.length cw) ∧ W'.cell? ⟨w.heap.size, 4, none⟩ = some (.bool s.off) ∧ W'.cell? ⟨w.heap.size, 5, none⟩ = some (.int .i64 s.offs) ∧ W'.cell? ⟨w.heap.size, 6, none⟩ = some (.int .i64 s.fuse) ∧ W'.cell? ⟨w.heap.size, 7, none⟩ = some (.int .u64 s.wr) ∧ W'.cell? ⟨w.heap.size + 1, 0, none⟩ = some (.int .i64 S) ∧ W'.cell? ⟨w.heap.size + 1, 1, none⟩ = some (.int .i64 B) ∧ W'.cell? ⟨w.heap.size + 1, 2, none⟩ = some (.int .i64 sl))
    (first | exact HG.out.cells | exact G4.out.cells | exact G5.cells | exact G6.cells)
    (first
      | (go_at_call 27; refine (GL.out _).mono ?_; rintro e w5 ⟨rfl, hb5⟩; have G5 := G4.out.below hb5)
      | (have _t := G5; go_at_call 87; refine (GR.out _ _ G5.r).mono ?_; rintro e w6 ⟨r, hr, rfl, hb6⟩; have G6 := G5.below hb6))
  go_wp2_with fail
  go_ret2
  exact ⟨r, hr, rfl, G6.b⟩

set_option maxRecDepth 100000 in
set_option maxHeartbeats 3200000 in
/-- Bytes of a view, the document's. -/
theorem rrange_any (v : Value) (s : Dv) (S B sl i view from_ n : Int) (w : World) (h : RDv w v s) (hok : s.Ok) (hwh : Whole s) (hL : LayOk S B sl s) (hf : -9223372036854775808 ≤ from_ ∧ from_ ≤ 9223372036854775807) :
    Calls Tryd.prog 64 #[v, .agg #[.int .i64 S, .int .i64 B, .int .i64 sl], .int .u8 i, .int .i64 view, .int .i64 from_, .int .i64 n] w fun e w' =>
      (¬ (0 ≤ from_ ∧ from_ ≤ min (max view 0) (B * sl) ∧ 0 ≤ n ∧ n ≤ min (max view 0) (B * sl) - from_) ∧ GivesS [] 5 w e w') ∨
        ((0 ≤ from_ ∧ from_ ≤ min (max view 0) (B * sl) ∧ 0 ≤ n ∧ n ≤ min (max view 0) (B * sl) - from_) ∧ ∃ r, PRead s (slotF S B sl i) (B * sl).toNat from_ n r ∧ GivesS r.1 r.2 w e w') := by
  obtain ⟨hS, hB, hs, hdd, hq, h0, h1, h2, h3⟩ := hL.facts
  have GL := Lib.hid (fun W => rslot_any S B sl i W hL.m)
  have GR := Lib.hid (fun v W (h : RDv W v s) => rpread_any v s _ _ _ from_ n W h hok hwh (hL.lies i) hf)
  obtain ⟨Ak, ck, Aw, cw, rfl, hr⟩ := h
  have G3 : RGo w _ s Ak ck Aw cw S B sl := RGo.start ⟨Ak, ck, Aw, cw, rfl, hr⟩
  obtain ⟨C, hC⟩ : ∃ C, B * sl = C := ⟨_, rfl⟩
  have hw : IntKind.i64.wrap (B * sl) = C := by rw [hC]; exact IntWalk.i64_in _ (by omega)
  rw [hC] at GR ⊢
  obtain ⟨m, hm⟩ : ∃ m, min (max view 0) C = m := ⟨_, rfl⟩
  have hm0 : 0 ≤ m ∧ m ≤ 16777216 := by omega
  have HM := Lib.hid hm
  rw [hm]
  clear hr hok hwh hL hS hB hs hdd hq h2 h3 hm
  generalize slotF S B sl i = F at GL GR ⊢
  generalize sl * (B / S) = p at GL GR
  rw [hC] at h0 h1
  have HG := Lib.hid G3
  clear G3 hC
  unfold dCells at HG ⊢
  by_cases hin : 0 ≤ from_ ∧ from_ ≤ m ∧ 0 ≤ n ∧ n ≤ m - from_
  case neg =>
    have hd9 : decide (from_ < 0) = true ∨ (decide (from_ < 0) = false ∧ (decide (n < 0) = true ∨ (decide (n < 0) = false ∧ (decide (m < from_) = true ∨ (0 ≤ from_ ∧ from_ ≤ m ∧ decide (m < from_) = false ∧ decide (m - from_ < n) = true))))) := by
      simp only [decide_eq_true_eq, decide_eq_false_iff_not]
      omega
    have HN := Lib.hid hin
    clear hin GR GL
    rcases hd9 with e1 | ⟨e1, e2 | ⟨e2, e3 | ⟨hb1, hb2, e3, e4⟩⟩⟩
    all_goals
      go_enter Tryd.func64, Tryd.ntmps64
      go_upto_region 1 with fail
      generalize (w.alloc _).alloc _ = w3 at *
      have c1 : w3.cell? ⟨w.heap.size + 1, 1, none⟩ = some (.int .i64 B) := HG.out.y.cell 1
      have c2 : w3.cell? ⟨w.heap.size + 1, 2, none⟩ = some (.int .i64 sl) := HG.out.y.cell 2
      go_upto_region 2 with fail
      try rw [HM.out]
      clear hw
      go_wp2_with fail
      go_ret2
      exact Or.inl ⟨HN.out, rfl, HG.out.b⟩
  case pos =>
    have e1 : decide (from_ < 0) = false := decide_eq_false (by omega)
    have e2 : decide (n < 0) = false := decide_eq_false (by omega)
    have e3 : decide (m < from_) = false := decide_eq_false (by omega)
    have e4 : decide (m - from_ < n) = false := decide_eq_false (by omega)
    have hb1 : 0 ≤ from_ := hin.1
    have hb2 : from_ ≤ m := hin.2.1
    have HN := Lib.hid hin
    clear hin
    go_enter Tryd.func64, Tryd.ntmps64
    go_upto_region 1 with fail
    generalize (w.alloc _).alloc _ = w3 at *
    have c1 : w3.cell? ⟨w.heap.size + 1, 1, none⟩ = some (.int .i64 B) := HG.out.y.cell 1
    have c2 : w3.cell? ⟨w.heap.size + 1, 2, none⟩ = some (.int .i64 sl) := HG.out.y.cell 2
    go_upto_region 2 with fail
    try rw [HM.out]
    clear hw
    go_upto_region 4 with fail
    clear c1 c2
    have G4 : Hid (RGo w w3.drew s Ak ck Aw cw S B sl) := Lib.hid (RGo.below HG.out (below_draws (Below.refl _ _) 1))
    go_region_held3 (fun W' => W'.cell? ⟨w.heap.size, 0, none⟩ = some (.int .i64 s.size) ∧ W'.cell? ⟨w.heap.size, 1, none⟩ = some (.int .i64 s.count) ∧ W'.cell? ⟨w.heap.size, 2, none⟩ = some (.slice Ak s.kept.length ck) ∧ W'.cell? ⟨w.heap.size, 3, none⟩ = some (.slice Aw s.waits.length cw) ∧ W'.cell? ⟨w.heap.size, 4, none⟩ = some (.bool s.off) ∧ W'.cell? ⟨w.heap.size, 5, none⟩ = some (.int .i64 s.offs) ∧ W'.cell? ⟨w.heap.size, 6, none⟩ = some (.int .i64 s.fuse) ∧ W'.cell? ⟨w.heap.size, 7, none⟩ = some (.int .u64 s.wr) ∧ W'.cell? ⟨w.heap.size + 1, 0, none⟩ = some (.int .i64 S) ∧ W'.cell? ⟨w.heap.size + 1, 1, none⟩ = some (.int .i64 B) ∧ W'.cell? ⟨w.heap.size + 1, 2, none⟩ = some (.int .i64 sl))
      (first | exact HG.out.cells | exact G4.out.cells | exact G5.cells | exact G6.cells)
      (first
        | (go_at_call 86; refine (GL.out _).mono ?_; rintro e w5 ⟨rfl, hb5⟩; have G5 := G4.out.below hb5)
        | (have _t := G5; go_at_call 87; refine (GR.out _ _ G5.r).mono ?_; rintro e w6 ⟨r, hr, rfl, hb6⟩; have G6 := G5.below hb6))
    go_wp2_with fail
    go_ret2
    exact Or.inr ⟨HN.out, r, hr, rfl, G6.b⟩
end Go.Proofs.YtpnodocjpedcmaaDoor.Im

namespace Go.Proofs.YtpnodocjpedcmaaDoor.Sha
open Go.ChangeShapes Go.WideShapes Go.ChangeAt Go.RowKit Go.Proofs.YtpnodocjpedcmaaDoor.Kit

/-- New, behind the result's own block. -/
theorem new_at (w : World) (o : Obj) :
    Calls Tryd.prog 65 #[] (w.alloc o) fun e w' => e = .returned (.pointer (some ⟨w.heap.size + 1, 0, none⟩)) ∧ HashIs w' (w.heap.size + 1) [] ∧ Below (w.heap.size + 1) (w.alloc o) w' := by
  have h := new_any (w.alloc o)
  rwa [show (w.alloc o).heap.size = w.heap.size + 1 by simp] at h

theorem far_of {w : World} {k : IntKind} {A : Option Addr} {xs : List Int} {g : Nat} (hr : Holds w w.heap.size k A xs) (hg : w.heap.size ≤ g) : Far g A xs := fun hx a ha => by
  obtain ⟨b, off, rfl, hb, _⟩ := hr hx
  injection ha with ha
  subst ha
  show b ≠ g
  omega

set_option maxRecDepth 100000 in
set_option maxHeartbeats 3200000 in
theorem psum_any (A : Option Addr) (xs : List Int) (c : Nat) (w : World) (hx : xs.length ≤ 1000000000) (hc : xs.length ≤ c) (hm : c ≤ maxLen) (ho : Octets xs) (hr : Holds w w.heap.size .u8 A xs) (hL : LaidS w) :
    Calls Tryd.prog 92 #[.slice A xs.length c] w fun e w' => e = .returned (arrV .u8 (sumL xs)) ∧ Below w.heap.size w w' := by
  have hg0 : w.heap.size + 1 ≠ 0 := by have := hL.lt (by rw [cubes_length]; omega); omega
  have hfar : Far (w.heap.size + 1) A xs := far_of hr (by omega)
  have GW := fun w1 (h1 : HashIs w1 (w.heap.size + 1) []) (hb : Below w.heap.size w w1) => write_any (w.heap.size + 1) [] A xs c w1 h1 (by simp; omega) (fun _ h => absurd h (by simp)) hc hm ho ((hr.below hb).more hb.size) hfar (hL.below hb) hg0
  simp only [List.nil_append] at GW
  have GS := fun w1 (h1 : HashIs w1 (w.heap.size + 1) xs) (hl : LaidS w1) => hsum_any (w.heap.size + 1) xs w1 h1 hx ho hl hg0
  have GW := Lib.hid GW
  have GS := Lib.hid GS
  have hsl := Lib.hid (sumL_length xs)
  have arr32 : Tryd.prog.underlying 48 = some (.array 32 5) := Tryd.underlying48
  have hb0 : Below w.heap.size w (w.alloc (.cells ((List.replicate 32 (0 : Int)).map (Value.int .u8)).toArray 48)) := (Below.refl _ w).alloc (Nat.le_refl _) _
  have r0 : Arr (w.alloc (.cells ((List.replicate 32 (0 : Int)).map (Value.int .u8)).toArray 48)) w.heap.size 48 .u8 (List.replicate 32 0) := Arr.new w _ _ _
  go_enter Tryd.func92, Tryd.ntmps92
  go_wp2_with (first
    | (go_at_call 65; refine (new_at w _).mono ?_; rintro e w1 ⟨rfl, h1, hb1⟩; have r1 := Block.below r0 hb1 (by omega); have hb1 := hb0.trans (hb1.mono (by omega)))
    | (go_at_call 67; refine (GW.out _ h1 hb1).mono ?_; rintro e w2 ⟨rfl, h2, t2⟩; have hb2 := hb1.trans (t2.toBelow hb1.size (fun b hb he => by omega)); have hL2 := hL.below hb2; have r2 := Block.out r1 t2 (by omega))
    | (go_at_call 68; refine (GS.out _ h2 hL2).mono ?_; rintro e w3 ⟨rfl, hb3⟩; have r3 : Arr w3 w.heap.size 48 .u8 (List.replicate 32 0) := Block.below r2 hb3 (Block.lt r2))
    | (have _t := r3; refine wpList_store_arr rfl _ _ _ rfl r3 rfl rfl (by rw [hsl.out]; rfl) (by rw [hsl.out]; kernel_rfl) ?_; intro w9 r9 g9))
  refine bodyPost_ret (v := arrV .u8 (sumL xs)) (results_cell_row rfl _ _ w.heap.size 48 _ (0, 0) _ rfl r9 arr32 rfl (by rw [show ((sumL xs).map (Value.int .u8)).toArray.size = 32 by simp [sumL_length]]; kernel_rfl)) rfl ⟨rfl, ?_⟩
  have hb4 := hb2.trans (hb3.mono hb2.size)
  exact hb4.trans (below_of_grown g9 hb4.size fun b hb => by injection hb with hb; omega)
end Go.Proofs.YtpnodocjpedcmaaDoor.Sha

namespace Go.Proofs.YtpnodocjpedcmaaDoor.Im
open Go.ChangeShapes Go.WideShapes Go.ChangeAt Go.RowKit Go.Proofs.YtpnodocjpedcmaaDoor.Kit Go.Proofs.YtpnodocjpedcmaaDoor.Pt
open Go.Proofs.YtpnodocjpedcmaaDoor.Sec (Dv RDv dCells dCells_one zD zD_noText RDv.kept block_range GivesED results_tmp_row)

/-- The document's device, its layout and a result's place, side by side where a call begins. -/
structure WGo (w W : World) (s : Dv) (Ak : Option Addr) (ck : Nat) (Aw : Option Addr) (cw : Nat) (S B sl : Int) : Prop where
  x : Block W w.heap.size 31 (dCells Ak ck Aw cw s)
  y : Block W (w.heap.size + 1) 61 #[.int .i64 S, .int .i64 B, .int .i64 sl]
  z : Block W (w.heap.size + 1 + 1) 31 zD
  v : RDv W (.agg (dCells Ak ck Aw cw s)) s
  b : Below w.heap.size w W
section
variable {w W W' : World} {s : Dv} {Ak : Option Addr} {ck : Nat} {Aw : Option Addr} {cw : Nat} {S B sl : Int}
theorem WGo.below (h : WGo w W s Ak ck Aw cw S B sl) (hb : Below W.heap.size W W') : WGo w W' s Ak ck Aw cw S B sl :=
  ⟨h.x.below hb h.x.lt, h.y.below hb h.y.lt, h.z.below hb h.z.lt, h.v.below hb, h.b.trans (hb.mono h.b.size)⟩
theorem WGo.start (h : RDv w (.agg (dCells Ak ck Aw cw s)) s) : WGo w (((w.alloc (.cells (dCells Ak ck Aw cw s) 31)).alloc (.cells #[.int .i64 S, .int .i64 B, .int .i64 sl] 61)).alloc (.cells zD 31)) s Ak ck Aw cw S B sl := by
  have g := RGo.start (S := S) (B := B) (sl := sl) h
  have hz : ((w.alloc (.cells (dCells Ak ck Aw cw s) 31)).alloc (.cells #[.int .i64 S, .int .i64 B, .int .i64 sl] 61)).heap.size = w.heap.size + 1 + 1 := by simp
  generalize (w.alloc _).alloc _ = W at *
  have Z := Block.new W 31 zD
  rw [hz] at Z
  have g2 := g.below (show Below W.heap.size W (W.alloc (.cells zD 31)) from (Below.refl _ _).alloc (Nat.le_refl _) _)
  exact ⟨g2.x, g2.y, Z, g2.r, g2.b⟩
end

set_option maxRecDepth 100000 in
set_option maxHeartbeats 3200000 in
/-- A block is kept aside, the document's. -/
theorem rkeep_any (v : Value) (s : Dv) (S B sl : Int) (bs : List Int) (w : World) (h : RDv w v s) (hok : s.Ok) (hL : LayOk S B sl s) (hbl : bs.length ≤ 1000000) (hof : s.offs ≤ 100000000) (hwr : s.wr ≤ 100000000) :
    Calls Tryd.prog 60 #[v, .agg #[.int .i64 S, .int .i64 B, .int .i64 sl], .string (strOfNums bs)] w fun e w' =>
      (¬ (1 ≤ bs.length ∧ (bs.length : Int) ≤ B) ∧ GivesED 3 s w e w') ∨ ((1 ≤ bs.length ∧ (bs.length : Int) ≤ B) ∧ ∃ r, PWrite s 2 B.toNat 0 bs r ∧ GivesED r.1 r.2 w e w') := by
  obtain ⟨hS, hB, hs⟩ := Prt.may_facts hL.m
  have GL := Lib.hid (fun W => Prt.rlayout_any S B sl (B / S) W hS hB hs rfl)
  unfold Prt.mapV at GL
  have GW := Lib.hid (fun v W (h : RDv W v s) => rpwrite_any v s 2 (B / S) B.toNat 0 bs W h hok hL.aside (by omega) hbl hof hwr)
  have HSz := Lib.hid (strOfNums_size bs)
  obtain ⟨Ak, ck, Aw, cw, rfl, hr⟩ := h
  have HG := Lib.hid (WGo.start (S := S) (B := B) (sl := sl) (show RDv w (.agg (dCells Ak ck Aw cw s)) s from ⟨Ak, ck, Aw, cw, rfl, hr⟩))
  have hf := field1
  obtain ⟨SS, hSS⟩ : ∃ SS, strOfNums bs = SS := ⟨_, rfl⟩
  rw [hSS] at HSz GW ⊢
  have hsz : SS.size = bs.length := HSz.out
  generalize B / S = q at GL GW
  generalize sl * q = p at GL
  unfold zD at HG
  unfold dCells at HG ⊢
  clear hr hSS hok hL hS hs hof hwr
  by_cases hin : 1 ≤ bs.length ∧ (bs.length : Int) ≤ B
  case neg =>
    have hd9 : (((bs.length : Int) == 0) = true) ∨ (((bs.length : Int) == 0) = false ∧ decide (B < (bs.length : Int)) = true) := by
      by_cases h0 : bs.length = 0
      · exact Or.inl (by simp [h0])
      · exact Or.inr ⟨by simpa using h0, decide_eq_true (by omega)⟩
    have HN := Lib.hid hin
    clear hin GW GL hB
    generalize bs.length = L at *
    rcases hd9 with e1 | ⟨e1, e2⟩
    all_goals
      go_enter Tryd.func60, Tryd.ntmps60
      go_upto_region 1 with fail
      generalize hW3 : ((w.alloc _).alloc _).alloc _ = w3 at *
      clear hW3
      have c1 : w3.cell? ⟨w.heap.size + 1, 1, none⟩ = some (.int .i64 B) := HG.out.y.cell 1
      have c2 : w3.cell? ⟨w.heap.size + 1, 2, none⟩ = some (.int .i64 sl) := HG.out.y.cell 2
      go_upto_region 2 with fail
      have P : WGo w w3.drew s Ak ck Aw cw S B sl := WGo.below HG.out (below_draws (Below.refl _ _) 1)
      clear c1 c2
      refine wp_region_held_drew (S := fun W => Block W (w.heap.size) 31 (dCells Ak ck Aw cw s) ∧ Block W (w.heap.size + 1) 61 #[.int .i64 S, .int .i64 B, .int .i64 sl]) (by kernel_rfl) ⟨HG.out.x, HG.out.y⟩ (fun hS => ?_)
      refine wpAnyH_take (i := 0) (oi := ⟨some 18, _, _, _, _, _⟩) (v := .agg (dCells Ak ck Aw cw s)) rfl (by kernel_rfl) (by kernel_rfl) (by kernel_rfl) (fun _ _ _ h => h) (yieldsIf_load_mid (by rfl) _ _ rfl (w.heap.size) (0) rfl (dCells Ak ck Aw cw s).toList _ (fun W hW => block_range hW.1) Tryd.underlying31 rfl (by kernel_rfl)) hS ?_
      try simp only [Act.put, List.setIfInBounds_toArray, List.set_cons_zero, List.set_cons_succ]
      refine wpAnyH_ready (rs := [1]) (by kernel_rfl) (by simp) ?_
      refine AllReadyH.cons rfl (fun K hK => ?_) AllReadyH.nil
      go_simp
      refine hK.out _ _ ⟨P.x, P.y⟩ (fun hS => ?_)
      clear hK K
      try simp only [Act.put, List.setIfInBounds_toArray, List.set_cons_zero, List.set_cons_succ]
      refine wpAnyH_ready (rs := [2]) (by kernel_rfl) (by simp) ?_
      refine AllReadyH.cons rfl (fun K hK => ?_) AllReadyH.nil
      refine step_store_blk rfl _ _ _ rfl (cs := zD) (ds := (dCells Ak ck Aw cw s).toList) (by exact P.z) rfl rfl rfl (by kernel_rfl) (dCells_one _ _ _ _ _) ?_
      intro x9 Z9 g9
      have X9 := P.x.grown g9 (by intro h; injection h with h; omega)
      have Y9 := P.y.grown g9 (by intro h; injection h with h; omega)
      have RV9 := P.v.kept P.z zD_noText g9
      have B9 := P.b.trans (below_of_grown g9 P.b.size fun b hb => by injection hb with hb; omega)
      refine hK.out _ _ ⟨X9, Y9⟩ (fun hS => ?_)
      clear hK K
      try simp only [Act.put, List.setIfInBounds_toArray, List.set_cons_zero, List.set_cons_succ]
      refine wpAnyH_done (by kernel_rfl) ?_ _
      go_wp2_with fail
      exact bodyPost_ret (v := .tuple #[.int .i64 3, .agg (dCells Ak ck Aw cw s)]) (results_tmp_row rfl _ _ (w.heap.size + 1 + 1) 31 _ (0, 0) _ _ rfl rfl Z9 Tryd.underlying31 rfl (by kernel_rfl)) rfl (Or.inl ⟨HN.out, ⟨_, rfl, RV9, B9⟩⟩)
  case pos =>
    have e1 : ((bs.length : Int) == 0) = false := by rw [beq_eq_false_iff_ne]; omega
    have e2 : decide (B < (bs.length : Int)) = false := decide_eq_false (by omega)
    have HN := Lib.hid hin
    clear hin hB
    generalize bs.length = L at *
    go_enter Tryd.func60, Tryd.ntmps60
    go_upto_region 1 with fail
    generalize hW3 : ((w.alloc _).alloc _).alloc _ = w3 at *
    clear hW3
    have c1 : w3.cell? ⟨w.heap.size + 1, 1, none⟩ = some (.int .i64 B) := HG.out.y.cell 1
    have c2 : w3.cell? ⟨w.heap.size + 1, 2, none⟩ = some (.int .i64 sl) := HG.out.y.cell 2
    go_upto_region 3 with fail
    have P : WGo w w3.drew s Ak ck Aw cw S B sl := WGo.below HG.out (below_draws (Below.refl _ _) 1)
    clear c1 c2
    refine wp_region_held_drew (S := fun W => Block W (w.heap.size) 31 (dCells Ak ck Aw cw s) ∧ Block W (w.heap.size + 1) 61 #[.int .i64 S, .int .i64 B, .int .i64 sl]) (by kernel_rfl) ⟨HG.out.x, HG.out.y⟩ (fun hS => ?_)
    refine wpAnyH_take (i := 0) (oi := ⟨some 19, _, _, _, _, _⟩) (v := .agg (dCells Ak ck Aw cw s)) rfl (by kernel_rfl) (by kernel_rfl) (by kernel_rfl) (fun _ _ _ h => h) (yieldsIf_load_mid (by rfl) _ _ rfl (w.heap.size) (0) rfl (dCells Ak ck Aw cw s).toList _ (fun W hW => block_range hW.1) Tryd.underlying31 rfl (by kernel_rfl)) hS ?_
    try simp only [Act.put, List.setIfInBounds_toArray, List.set_cons_zero, List.set_cons_succ]
    refine wpAnyH_take (i := 1) (oi := ⟨some 20, _, _, _, _, _⟩) (v := .agg #[.int .i64 S, .int .i64 B, .int .i64 sl]) rfl (by kernel_rfl) (by kernel_rfl) (by kernel_rfl) (fun _ _ _ h => h) (yieldsIf_load_mid (by rfl) _ _ rfl (w.heap.size + 1) (0) rfl #[.int .i64 S, .int .i64 B, .int .i64 sl].toList _ (fun W hW => block_range hW.2) Tryd.underlying61 rfl (by kernel_rfl)) hS ?_
    try simp only [Act.put, List.setIfInBounds_toArray, List.set_cons_zero, List.set_cons_succ]
    refine wpAnyH_take (i := 4) (oi := ⟨some 23, _, _, _, _, _⟩) (v := .string SS) rfl (by kernel_rfl) (by kernel_rfl) (by kernel_rfl) (fun _ _ _ h => h) (Or.inl ⟨by rfl, fun W hW => by go_simp⟩) hS ?_
    try simp only [Act.put, List.setIfInBounds_toArray, List.set_cons_zero, List.set_cons_succ]
    refine wpAnyH_ready (rs := [2]) (by kernel_rfl) (by simp) ?_
    refine AllReadyH.cons rfl (fun K hK => ?_) AllReadyH.nil
    go_simp
    go_at_call 27
    refine (GL.out _).mono ?_
    rintro e x1 ⟨rfl, hb1⟩
    have P1 := P.below hb1
    refine hK.out _ _ ⟨P1.x, P1.y⟩ (fun hS => ?_)
    clear hK K
    try simp only [Act.put, List.setIfInBounds_toArray, List.set_cons_zero, List.set_cons_succ]
    refine wpAnyH_take (i := 3) (oi := ⟨some 22, _, _, _, _, _⟩) (v := .agg #[.int .i64 2, .int .i64 q]) rfl (by kernel_rfl) (by kernel_rfl) (by kernel_rfl) (fun _ _ _ h => h) (Or.inl ⟨by rfl, fun W hW => by go_simp⟩) hS ?_
    try simp only [Act.put, List.setIfInBounds_toArray, List.set_cons_zero, List.set_cons_succ]
    refine wpAnyH_ready (rs := [5]) (by kernel_rfl) (by simp) ?_
    refine AllReadyH.cons rfl (fun K hK => ?_) AllReadyH.nil
    go_simp
    go_at_call 85
    refine (GW.out _ _ P1.v).mono ?_
    rintro e x2 ⟨r, hr, v1, rfl, RV1, hb2⟩
    obtain ⟨Ak1, ck1, Aw1, cw1, rfl, hr1⟩ := RV1
    have RV1 : RDv x2 (.agg (dCells Ak1 ck1 Aw1 cw1 r.2)) r.2 := ⟨Ak1, ck1, Aw1, cw1, rfl, hr1⟩
    have P2 := P1.below hb2
    clear hr1
    refine hK.out _ _ ⟨P2.x, P2.y⟩ (fun hS => ?_)
    clear hK K
    try simp only [Act.put, List.setIfInBounds_toArray, List.set_cons_zero, List.set_cons_succ]
    refine wpAnyH_take (i := 6) (oi := ⟨some 25, _, _, _, _, _⟩) (v := .int .i64 r.1) rfl (by kernel_rfl) (by kernel_rfl) (by kernel_rfl) (fun _ _ _ h => h) (Or.inl ⟨by rfl, fun W hW => by go_simp⟩) hS ?_
    try simp only [Act.put, List.setIfInBounds_toArray, List.set_cons_zero, List.set_cons_succ]
    refine wpAnyH_take (i := 7) (oi := ⟨some 26, _, _, _, _, _⟩) (v := .agg (dCells Ak1 ck1 Aw1 cw1 r.2)) rfl (by kernel_rfl) (by kernel_rfl) (by kernel_rfl) (fun _ _ _ h => h) (Or.inl ⟨by rfl, fun W hW => by go_simp⟩) hS ?_
    try simp only [Act.put, List.setIfInBounds_toArray, List.set_cons_zero, List.set_cons_succ]
    refine wpAnyH_ready (rs := [8]) (by kernel_rfl) (by simp) ?_
    refine AllReadyH.cons rfl (fun K hK => ?_) AllReadyH.nil
    go_simp
    refine hK.out _ _ ⟨P2.x, P2.y⟩ (fun hS => ?_)
    clear hK K
    try simp only [Act.put, List.setIfInBounds_toArray, List.set_cons_zero, List.set_cons_succ]
    refine wpAnyH_ready (rs := [9]) (by kernel_rfl) (by simp) ?_
    refine AllReadyH.cons rfl (fun K hK => ?_) AllReadyH.nil
    refine step_store_blk rfl _ _ _ rfl (cs := zD) (ds := (dCells Ak1 ck1 Aw1 cw1 r.2).toList) (by exact P2.z) rfl rfl rfl (by kernel_rfl) (dCells_one _ _ _ _ _) ?_
    intro x3 Z3 g3
    have X3 := P2.x.grown g3 (by intro h; injection h with h; omega)
    have Y3 := P2.y.grown g3 (by intro h; injection h with h; omega)
    have RV3 := RV1.kept P2.z zD_noText g3
    have B3 := P2.b.trans (below_of_grown g3 P2.b.size fun b hb => by injection hb with hb; omega)
    refine hK.out _ _ ⟨X3, Y3⟩ (fun hS => ?_)
    clear hK K
    try simp only [Act.put, List.setIfInBounds_toArray, List.set_cons_zero, List.set_cons_succ]
    refine wpAnyH_done (by kernel_rfl) ?_ _
    go_wp2_with fail
    exact bodyPost_ret (v := .tuple #[.int .i64 r.1, .agg (dCells Ak1 ck1 Aw1 cw1 r.2)]) (results_tmp_row rfl _ _ (w.heap.size + 1 + 1) 31 _ (0, 0) _ _ rfl rfl Z3 Tryd.underlying31 rfl (by kernel_rfl)) rfl (Or.inr ⟨HN.out, r, hr, _, rfl, RV3, B3⟩)

set_option maxRecDepth 100000 in
set_option maxHeartbeats 3200000 in
/-- A block is put, the document's. -/
theorem rput_any (v : Value) (s : Dv) (S B sl i k : Int) (bs : List Int) (w : World) (h : RDv w v s) (hok : s.Ok) (hL : LayOk S B sl s) (hbl : bs.length ≤ 1000000) (hof : s.offs ≤ 100000000) (hwr : s.wr ≤ 100000000) :
    Calls Tryd.prog 59 #[v, .agg #[.int .i64 S, .int .i64 B, .int .i64 sl], .int .u8 i, .int .i64 k, .string (strOfNums bs)] w fun e w' =>
      (¬ (0 ≤ k ∧ k < sl) ∧ GivesED 5 s w e w') ∨ ((0 ≤ k ∧ k < sl) ∧ ¬ (1 ≤ bs.length ∧ (bs.length : Int) ≤ B) ∧ GivesED 3 s w e w') ∨
        ((0 ≤ k ∧ k < sl) ∧ (1 ≤ bs.length ∧ (bs.length : Int) ≤ B) ∧ ∃ r, PWrite s (slotF S B sl i) (B * sl).toNat (k * B) bs r ∧ GivesED r.1 r.2 w e w') := by
  obtain ⟨hS, hB, hs, hdd, hq, h0, h1, h2, h3⟩ := hL.facts
  have GL := Lib.hid (fun W => rslot_any S B sl i W hL.m)
  have hkb : 0 ≤ k → k < sl → 0 ≤ k * B ∧ k * B ≤ 16777216 := fun u0 u1 => by
    have t1 : k * B ≤ sl * B := Int.mul_le_mul_of_nonneg_right (by omega) (by omega)
    have t2 : 0 ≤ k * B := Int.mul_nonneg u0 (by omega)
    rw [Int.mul_comm sl B] at t1
    omega
  have GW : 0 ≤ k → k < sl → Hid (∀ v W, RDv W v s → Calls Tryd.prog 85 #[v, .agg #[.int .i64 (slotF S B sl i), .int .i64 (sl * (B / S))], .int .i64 (k * B), .string (strOfNums bs)] W fun e w' => ∃ r, PWrite s (slotF S B sl i) (B * sl).toNat (k * B) bs r ∧ GivesED r.1 r.2 W e w') := fun u0 u1 => Lib.hid (fun v W h => rpwrite_any v s _ _ _ (k * B) bs W h hok (hL.lies i) (by have := hkb u0 u1; omega) hbl hof hwr)
  have HSz := Lib.hid (strOfNums_size bs)
  obtain ⟨Ak, ck, Aw, cw, rfl, hr⟩ := h
  have HG := Lib.hid (WGo.start (S := S) (B := B) (sl := sl) (show RDv w (.agg (dCells Ak ck Aw cw s)) s from ⟨Ak, ck, Aw, cw, rfl, hr⟩))
  obtain ⟨SS, hSS⟩ : ∃ SS, strOfNums bs = SS := ⟨_, rfl⟩
  rw [hSS] at HSz GW ⊢
  have hsz : SS.size = bs.length := HSz.out
  generalize sl * (B / S) = p at GL GW
  generalize slotF S B sl i = F at GL GW ⊢
  generalize (B * sl).toNat = T at GW ⊢
  unfold zD at HG
  unfold dCells at HG ⊢
  clear hr hSS hok hL hS hdd hq h0 h1 h2 h3 hof hwr
  by_cases hkr : 0 ≤ k ∧ k < sl
  case neg =>
    have hd9 : decide (k < 0) = true ∨ (decide (k < 0) = false ∧ decide (sl ≤ k) = true) := by
      simp only [decide_eq_true_eq, decide_eq_false_iff_not]
      omega
    have HN := Lib.hid hkr
    clear hkr GW GL hB hs hkb
    generalize bs.length = L at *
    rcases hd9 with e1 | ⟨e1, e2⟩
    all_goals
      go_enter Tryd.func59, Tryd.ntmps59
      go_upto_region 1 with fail
      generalize hW3 : ((w.alloc _).alloc _).alloc _ = w3 at *
      clear hW3
      have c1 : w3.cell? ⟨w.heap.size + 1, 1, none⟩ = some (.int .i64 B) := HG.out.y.cell 1
      have c2 : w3.cell? ⟨w.heap.size + 1, 2, none⟩ = some (.int .i64 sl) := HG.out.y.cell 2
      go_upto_region 2 with fail
      have P : WGo w w3.drew s Ak ck Aw cw S B sl := WGo.below HG.out (below_draws (Below.refl _ _) 1)
      clear c1 c2
      refine wp_region_held_drew (S := fun W => Block W (w.heap.size) 31 (dCells Ak ck Aw cw s) ∧ Block W (w.heap.size + 1) 61 #[.int .i64 S, .int .i64 B, .int .i64 sl]) (by kernel_rfl) ⟨HG.out.x, HG.out.y⟩ (fun hS => ?_)
      refine wpAnyH_take (i := 0) (oi := ⟨some 20, _, _, _, _, _⟩) (v := .agg (dCells Ak ck Aw cw s)) rfl (by kernel_rfl) (by kernel_rfl) (by kernel_rfl) (fun _ _ _ h => h) (yieldsIf_load_mid (by rfl) _ _ rfl (w.heap.size) (0) rfl (dCells Ak ck Aw cw s).toList _ (fun W hW => block_range hW.1) Tryd.underlying31 rfl (by kernel_rfl)) hS ?_
      try simp only [Act.put, List.setIfInBounds_toArray, List.set_cons_zero, List.set_cons_succ]
      refine wpAnyH_ready (rs := [1]) (by kernel_rfl) (by simp) ?_
      refine AllReadyH.cons rfl (fun K hK => ?_) AllReadyH.nil
      go_simp
      refine hK.out _ _ ⟨P.x, P.y⟩ (fun hS => ?_)
      clear hK K
      try simp only [Act.put, List.setIfInBounds_toArray, List.set_cons_zero, List.set_cons_succ]
      refine wpAnyH_ready (rs := [2]) (by kernel_rfl) (by simp) ?_
      refine AllReadyH.cons rfl (fun K hK => ?_) AllReadyH.nil
      refine step_store_blk rfl _ _ _ rfl (cs := zD) (ds := (dCells Ak ck Aw cw s).toList) (by exact P.z) rfl rfl rfl (by kernel_rfl) (dCells_one _ _ _ _ _) ?_
      intro x9 Z9 g9
      have X9 := P.x.grown g9 (by intro h; injection h with h; omega)
      have Y9 := P.y.grown g9 (by intro h; injection h with h; omega)
      have RV9 := P.v.kept P.z zD_noText g9
      have B9 := P.b.trans (below_of_grown g9 P.b.size fun b hb => by injection hb with hb; omega)
      refine hK.out _ _ ⟨X9, Y9⟩ (fun hS => ?_)
      clear hK K
      try simp only [Act.put, List.setIfInBounds_toArray, List.set_cons_zero, List.set_cons_succ]
      refine wpAnyH_done (by kernel_rfl) ?_ _
      go_wp2_with fail
      exact bodyPost_ret (v := .tuple #[.int .i64 5, .agg (dCells Ak ck Aw cw s)]) (results_tmp_row rfl _ _ (w.heap.size + 1 + 1) 31 _ (0, 0) _ _ rfl rfl Z9 Tryd.underlying31 rfl (by kernel_rfl)) rfl (Or.inl ⟨HN.out, ⟨_, rfl, RV9, B9⟩⟩)
  case pos =>
    have e1 : decide (k < 0) = false := decide_eq_false (by omega)
    have e2 : decide (sl ≤ k) = false := decide_eq_false (by omega)
    have HK := Lib.hid hkr
    have hkb := hkb hkr.1 hkr.2
    have GW := GW hkr.1 hkr.2
    obtain ⟨kB, hkB⟩ : ∃ kB, k * B = kB := ⟨_, rfl⟩
    have HWK : Hid (IntKind.i64.wrap (k * B) = kB) := Lib.hid (by rw [← hkB]; exact IntWalk.i64_in _ (by omega))
    rw [hkB] at GW ⊢
    clear hkB hkb hkr
    by_cases hin : 1 ≤ bs.length ∧ (bs.length : Int) ≤ B
    case neg =>
      have hd9 : (((bs.length : Int) == 0) = true) ∨ (((bs.length : Int) == 0) = false ∧ decide (B < (bs.length : Int)) = true) := by
        by_cases h0 : bs.length = 0
        · exact Or.inl (by simp [h0])
        · exact Or.inr ⟨by simpa using h0, decide_eq_true (by omega)⟩
      have HN := Lib.hid hin
      clear hin GW GL hB hs
      generalize bs.length = L at *
      rcases hd9 with e3 | ⟨e3, e4⟩
      all_goals
        go_enter Tryd.func59, Tryd.ntmps59
        go_upto_region 1 with fail
        generalize hW3 : ((w.alloc _).alloc _).alloc _ = w3 at *
        clear hW3
        have c1 : w3.cell? ⟨w.heap.size + 1, 1, none⟩ = some (.int .i64 B) := HG.out.y.cell 1
        have c2 : w3.cell? ⟨w.heap.size + 1, 2, none⟩ = some (.int .i64 sl) := HG.out.y.cell 2
        go_upto_region 4 with fail
        have P : WGo w w3.drew s Ak ck Aw cw S B sl := WGo.below HG.out (below_draws (Below.refl _ _) 1)
        clear c1 c2
        refine wp_region_held_drew (S := fun W => Block W (w.heap.size) 31 (dCells Ak ck Aw cw s) ∧ Block W (w.heap.size + 1) 61 #[.int .i64 S, .int .i64 B, .int .i64 sl]) (by kernel_rfl) ⟨HG.out.x, HG.out.y⟩ (fun hS => ?_)
        refine wpAnyH_take (i := 0) (oi := ⟨some 31, _, _, _, _, _⟩) (v := .agg (dCells Ak ck Aw cw s)) rfl (by kernel_rfl) (by kernel_rfl) (by kernel_rfl) (fun _ _ _ h => h) (yieldsIf_load_mid (by rfl) _ _ rfl (w.heap.size) (0) rfl (dCells Ak ck Aw cw s).toList _ (fun W hW => block_range hW.1) Tryd.underlying31 rfl (by kernel_rfl)) hS ?_
        try simp only [Act.put, List.setIfInBounds_toArray, List.set_cons_zero, List.set_cons_succ]
        refine wpAnyH_ready (rs := [1]) (by kernel_rfl) (by simp) ?_
        refine AllReadyH.cons rfl (fun K hK => ?_) AllReadyH.nil
        go_simp
        refine hK.out _ _ ⟨P.x, P.y⟩ (fun hS => ?_)
        clear hK K
        try simp only [Act.put, List.setIfInBounds_toArray, List.set_cons_zero, List.set_cons_succ]
        refine wpAnyH_ready (rs := [2]) (by kernel_rfl) (by simp) ?_
        refine AllReadyH.cons rfl (fun K hK => ?_) AllReadyH.nil
        refine step_store_blk rfl _ _ _ rfl (cs := zD) (ds := (dCells Ak ck Aw cw s).toList) (by exact P.z) rfl rfl rfl (by kernel_rfl) (dCells_one _ _ _ _ _) ?_
        intro x9 Z9 g9
        have X9 := P.x.grown g9 (by intro h; injection h with h; omega)
        have Y9 := P.y.grown g9 (by intro h; injection h with h; omega)
        have RV9 := P.v.kept P.z zD_noText g9
        have B9 := P.b.trans (below_of_grown g9 P.b.size fun b hb => by injection hb with hb; omega)
        refine hK.out _ _ ⟨X9, Y9⟩ (fun hS => ?_)
        clear hK K
        try simp only [Act.put, List.setIfInBounds_toArray, List.set_cons_zero, List.set_cons_succ]
        refine wpAnyH_done (by kernel_rfl) ?_ _
        go_wp2_with fail
        exact bodyPost_ret (v := .tuple #[.int .i64 3, .agg (dCells Ak ck Aw cw s)]) (results_tmp_row rfl _ _ (w.heap.size + 1 + 1) 31 _ (0, 0) _ _ rfl rfl Z9 Tryd.underlying31 rfl (by kernel_rfl)) rfl (Or.inr (Or.inl ⟨HK.out, HN.out, ⟨_, rfl, RV9, B9⟩⟩))
    case pos =>
      have e3 : ((bs.length : Int) == 0) = false := by rw [beq_eq_false_iff_ne]; omega
      have e4 : decide (B < (bs.length : Int)) = false := decide_eq_false (by omega)
      have HN := Lib.hid hin
      clear hin hB hs
      generalize bs.length = L at *
      go_enter Tryd.func59, Tryd.ntmps59
      go_upto_region 1 with fail
      generalize hW3 : ((w.alloc _).alloc _).alloc _ = w3 at *
      clear hW3
      have c1 : w3.cell? ⟨w.heap.size + 1, 1, none⟩ = some (.int .i64 B) := HG.out.y.cell 1
      have c2 : w3.cell? ⟨w.heap.size + 1, 2, none⟩ = some (.int .i64 sl) := HG.out.y.cell 2
      go_upto_region 5 with fail
      have P : WGo w w3.drew s Ak ck Aw cw S B sl := WGo.below HG.out (below_draws (Below.refl _ _) 1)
      clear c1 c2
      refine wp_region_held_drew (S := fun W => Block W (w.heap.size) 31 (dCells Ak ck Aw cw s) ∧ Block W (w.heap.size + 1) 61 #[.int .i64 S, .int .i64 B, .int .i64 sl]) (by kernel_rfl) ⟨HG.out.x, HG.out.y⟩ (fun hS => ?_)
      refine wpAnyH_take (i := 0) (oi := ⟨some 32, _, _, _, _, _⟩) (v := .agg (dCells Ak ck Aw cw s)) rfl (by kernel_rfl) (by kernel_rfl) (by kernel_rfl) (fun _ _ _ h => h) (yieldsIf_load_mid (by rfl) _ _ rfl (w.heap.size) (0) rfl (dCells Ak ck Aw cw s).toList _ (fun W hW => block_range hW.1) Tryd.underlying31 rfl (by kernel_rfl)) hS ?_
      try simp only [Act.put, List.setIfInBounds_toArray, List.set_cons_zero, List.set_cons_succ]
      refine wpAnyH_take (i := 1) (oi := ⟨some 33, _, _, _, _, _⟩) (v := .agg #[.int .i64 S, .int .i64 B, .int .i64 sl]) rfl (by kernel_rfl) (by kernel_rfl) (by kernel_rfl) (fun _ _ _ h => h) (yieldsIf_load_mid (by rfl) _ _ rfl (w.heap.size + 1) (0) rfl #[.int .i64 S, .int .i64 B, .int .i64 sl].toList _ (fun W hW => block_range hW.2) Tryd.underlying61 rfl (by kernel_rfl)) hS ?_
      try simp only [Act.put, List.setIfInBounds_toArray, List.set_cons_zero, List.set_cons_succ]
      refine wpAnyH_take (i := 2) (oi := ⟨some 34, _, _, _, _, _⟩) (v := .int .u8 i) rfl (by kernel_rfl) (by kernel_rfl) (by kernel_rfl) (fun _ _ _ h => h) (Or.inl ⟨by rfl, fun W hW => by go_simp⟩) hS ?_
      try simp only [Act.put, List.setIfInBounds_toArray, List.set_cons_zero, List.set_cons_succ]
      refine wpAnyH_take (i := 4) (oi := ⟨some 36, _, _, _, _, _⟩) (v := .int .i64 k) rfl (by kernel_rfl) (by kernel_rfl) (by kernel_rfl) (fun _ _ _ h => h) (Or.inl ⟨by rfl, fun W hW => by go_simp⟩) hS ?_
      try simp only [Act.put, List.setIfInBounds_toArray, List.set_cons_zero, List.set_cons_succ]
      refine wpAnyH_take (i := 5) (oi := ⟨some 37, _, _, _, _, _⟩) (v := .pointer (some ⟨w.heap.size + 1, 1, none⟩)) rfl (by kernel_rfl) (by kernel_rfl) (by kernel_rfl) (fun _ _ _ h => h) (Or.inl ⟨by rfl, fun W hW => by go_simp⟩) hS ?_
      try simp only [Act.put, List.setIfInBounds_toArray, List.set_cons_zero, List.set_cons_succ]
      refine wpAnyH_take (i := 8) (oi := ⟨some 40, _, _, _, _, _⟩) (v := .string SS) rfl (by kernel_rfl) (by kernel_rfl) (by kernel_rfl) (fun _ _ _ h => h) (Or.inl ⟨by rfl, fun W hW => by go_simp⟩) hS ?_
      try simp only [Act.put, List.setIfInBounds_toArray, List.set_cons_zero, List.set_cons_succ]
      refine wpAnyH_take (i := 6) (oi := ⟨some 38, _, _, _, _, _⟩) (v := .int .i64 B) rfl (by kernel_rfl) (by kernel_rfl) (by kernel_rfl) (fun _ _ _ h => h) (Or.inl ⟨by rfl, fun W hW => by have q0 : W.cell? ⟨w.heap.size + 1, 1, none⟩ = some (.int .i64 B) := Block.cell hW.2 1; go_simp⟩) hS ?_
      try simp only [Act.put, List.setIfInBounds_toArray, List.set_cons_zero, List.set_cons_succ]
      refine wpAnyH_take (i := 7) (oi := ⟨some 39, _, _, _, _, _⟩) (v := .int .i64 kB) rfl (by kernel_rfl) (by kernel_rfl) (by kernel_rfl) (fun _ _ _ h => h) (Or.inl ⟨by rfl, fun W hW => by go_simp; exact HWK.out⟩) hS ?_
      try simp only [Act.put, List.setIfInBounds_toArray, List.set_cons_zero, List.set_cons_succ]
      refine wpAnyH_ready (rs := [3]) (by kernel_rfl) (by simp) ?_
      refine AllReadyH.cons rfl (fun K hK => ?_) AllReadyH.nil
      go_simp
      go_at_call 86
      refine (GL.out _).mono ?_
      rintro e x1 ⟨rfl, hb1⟩
      have P1 := P.below hb1
      refine hK.out _ _ ⟨P1.x, P1.y⟩ (fun hS => ?_)
      clear hK K
      try simp only [Act.put, List.setIfInBounds_toArray, List.set_cons_zero, List.set_cons_succ]
      refine wpAnyH_ready (rs := [9]) (by kernel_rfl) (by simp) ?_
      refine AllReadyH.cons rfl (fun K hK => ?_) AllReadyH.nil
      go_simp
      go_at_call 85
      refine (GW.out _ _ P1.v).mono ?_
      rintro e x2 ⟨r, hr, v1, rfl, RV1, hb2⟩
      obtain ⟨Ak1, ck1, Aw1, cw1, rfl, hr1⟩ := RV1
      have RV1 : RDv x2 (.agg (dCells Ak1 ck1 Aw1 cw1 r.2)) r.2 := ⟨Ak1, ck1, Aw1, cw1, rfl, hr1⟩
      have P2 := P1.below hb2
      clear hr1
      refine hK.out _ _ ⟨P2.x, P2.y⟩ (fun hS => ?_)
      clear hK K
      try simp only [Act.put, List.setIfInBounds_toArray, List.set_cons_zero, List.set_cons_succ]
      refine wpAnyH_take (i := 10) (oi := ⟨some 42, _, _, _, _, _⟩) (v := .int .i64 r.1) rfl (by kernel_rfl) (by kernel_rfl) (by kernel_rfl) (fun _ _ _ h => h) (Or.inl ⟨by rfl, fun W hW => by go_simp⟩) hS ?_
      try simp only [Act.put, List.setIfInBounds_toArray, List.set_cons_zero, List.set_cons_succ]
      refine wpAnyH_take (i := 11) (oi := ⟨some 43, _, _, _, _, _⟩) (v := .agg (dCells Ak1 ck1 Aw1 cw1 r.2)) rfl (by kernel_rfl) (by kernel_rfl) (by kernel_rfl) (fun _ _ _ h => h) (Or.inl ⟨by rfl, fun W hW => by go_simp⟩) hS ?_
      try simp only [Act.put, List.setIfInBounds_toArray, List.set_cons_zero, List.set_cons_succ]
      refine wpAnyH_ready (rs := [12]) (by kernel_rfl) (by simp) ?_
      refine AllReadyH.cons rfl (fun K hK => ?_) AllReadyH.nil
      go_simp
      refine hK.out _ _ ⟨P2.x, P2.y⟩ (fun hS => ?_)
      clear hK K
      try simp only [Act.put, List.setIfInBounds_toArray, List.set_cons_zero, List.set_cons_succ]
      refine wpAnyH_ready (rs := [13]) (by kernel_rfl) (by simp) ?_
      refine AllReadyH.cons rfl (fun K hK => ?_) AllReadyH.nil
      refine step_store_blk rfl _ _ _ rfl (cs := zD) (ds := (dCells Ak1 ck1 Aw1 cw1 r.2).toList) (by exact P2.z) rfl rfl rfl (by kernel_rfl) (dCells_one _ _ _ _ _) ?_
      intro x3 Z3 g3
      have X3 := P2.x.grown g3 (by intro h; injection h with h; omega)
      have Y3 := P2.y.grown g3 (by intro h; injection h with h; omega)
      have RV3 := RV1.kept P2.z zD_noText g3
      have B3 := P2.b.trans (below_of_grown g3 P2.b.size fun b hb => by injection hb with hb; omega)
      refine hK.out _ _ ⟨X3, Y3⟩ (fun hS => ?_)
      clear hK K
      try simp only [Act.put, List.setIfInBounds_toArray, List.set_cons_zero, List.set_cons_succ]
      refine wpAnyH_done (by kernel_rfl) ?_ _
      go_wp2_with fail
      exact bodyPost_ret (v := .tuple #[.int .i64 r.1, .agg (dCells Ak1 ck1 Aw1 cw1 r.2)]) (results_tmp_row rfl _ _ (w.heap.size + 1 + 1) 31 _ (0, 0) _ _ rfl rfl Z3 Tryd.underlying31 rfl (by kernel_rfl)) rfl (Or.inr (Or.inr ⟨HK.out, HN.out, r, hr, _, rfl, RV3, B3⟩))
end Go.Proofs.YtpnodocjpedcmaaDoor.Im
