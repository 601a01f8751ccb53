/-
  Layer 25, image: a step of an image on a device, and of the document's: Sync: contracts. Conditions: as each theorem names.
  Layer 25, image: a step of an image on a device, and of the document's: Fuse, Back: contracts. Conditions: as each theorem names.
-/
import Derived.Test.YtpnodocjpedcmaaDoorMImX
namespace Go.Proofs.YtpnodocjpedcmaaDoor.Im
open Go.ChangeShapes Go.WideShapes Go.ChangeAt Go.RowKit Go.Proofs.YtpnodocjpedcmaaDoor.Kit Go.Proofs.YtpnodocjpedcmaaDoor.Pt
open Go.Proofs.YtpnodocjpedcmaaDoor.Sec (Dv DvAt DSet Dev RDv dCells dCells_one zD zD_noText GivesED GivesD GivesS GivesB results_tmp_row block_range wpList_load_midV)


set_option maxRecDepth 100000 in
set_option maxHeartbeats 6400000 in
/-- Sync of both. -/
theorem does_sync (w0 w : World) (x a mk mw p0 p1 p2 : Nat) (S B sl : Int) (s : Dv) (m : Step25) (dv : Value) (hd : Dev w0 w a mk mw s) (hi : ImAt w x a S B sl p0 p1 p2) (hr : RDv w dv s) (hL : LayOk S B sl s) (hm : m.Ok) (hin : m.In w0 w0.heap.size) (hbl : m.bs.length ≤ 1000) (hzl : m.zs.length ≤ 60) (hof : s.offs ≤ 100000000) (hwr : s.wr ≤ 100000000) (hk : m.k = 6) :
    Calls Tryd.prog 30 #[.pointer (some ⟨x, 0, none⟩), .pointer (some ⟨a, 0, none⟩), dv, .agg #[.int .i64 S, .int .i64 B, .int .i64 sl], .agg m.cells.toArray] w (Does25 w0 w x a mk mw p0 p1 p2 S B sl s) := by
  have hok : s.Ok := hd.d.ok
  have hwh : Whole s := whole_of hd.d
  have HBs := Lib.hid (fun W (hb : Below w0.heap.size w0 W) => (hin.1.below hb).more hb.size)
  have HZs := Lib.hid (fun W (hb : Below w0.heap.size w0 W) => (hin.2.below hb).more hb.size)
  obtain ⟨r2, hr2⟩ : ∃ r2, s.sync = r2 := ⟨_, rfl⟩
  have GP := Lib.hid (fun W (hd : DvAt W (fun _ => True) a mk mw s) => Sec.sync_any _ a mk mw s W hd (by omega))
  have GD := Lib.hid (fun v W (h : RDv W v s) => Sec.rsync_any v s W h hok (by omega))
  have HN : Hid (Near s s.sync.2) := Lib.hid (by have h := Jr.sync_near s; exact ⟨by omega, by omega, h.2.2.1, h.2.2.2⟩)
  rw [hr2] at GP GD HN
  clear hr2
  have HR := Lib.hid (fun W (t : TurnsIn (DSet a mk mw) w W) => Sec.RDv.dset hd.d t hr)
  have h3 := Lib.hid (fun cs => In25.start hd hi m cs)
  obtain ⟨Ak, ck, Aw, cw, rfl, hkr⟩ := hr
  have H3 := Lib.hid (h3.out (dCells Ak ck Aw cw s))
  clear h3 hkr hd hi hin hL hof hwr hm hbl hzl hwh
  obtain ⟨k, blk, at_, n, view, sn, A, cap, bs, A2, cap2, zs⟩ := m
  simp only at *
  subst hk
  unfold Step25.cells zD at H3
  unfold dCells at HR H3 ⊢
  unfold Step25.cells
  simp only at H3 ⊢
  go_enter Tryd.func30, Tryd.ntmps30
  go_upto_region 1 with fail
  generalize (((w.alloc _).alloc _).alloc _).alloc _ = w4 at *
  have J4 := H3.out
  have q0 : w4.cell? ⟨w.heap.size + 1 + 1, 0, none⟩ = some (.int .i64 6) := J4.y.cell 0
  go_upto_region 27 with (have _t := J4; go_at_call 53; refine (GP.out _ J4.d.d).mono ?_; rintro e w5 ⟨rfl, D5, T5⟩; have J5 := J4.turn D5 T5; clear _t J4 q0  D5 T5)
  have R5 := HR.out _ J5.t
  go_upto_region 28 with (first
    | (have _t := J5; refine wpList_load_midV (o := ⟨some 164, _, _, _, _, _⟩) (by rfl) _ _ rfl (w.heap.size) 0 rfl [.int .i64 s.size, .int .i64 s.count, .slice Ak s.kept.length ck, .slice Aw s.waits.length cw, .bool s.off, .int .i64 s.offs, .int .i64 s.fuse, .int .u64 s.wr] (block_range (L := [.int .i64 s.size, .int .i64 s.count, .slice Ak s.kept.length ck, .slice Aw s.waits.length cw, .bool s.off, .int .i64 s.offs, .int .i64 s.fuse, .int .u64 s.wr]) J5.x) Tryd.underlying31 rfl (by kernel_rfl) ?_)
    | (have _t := R5; go_at_call 63; refine (GD.out _ _ R5).mono ?_; rintro e w6 ⟨v6, rfl, RV6, hb6⟩; have J6 := J5.below hb6; obtain ⟨Ak6, ck6, Aw6, cw6, hve, hr6⟩ := RV6; have R6 : RDv w6 (.agg (dCells Ak6 ck6 Aw6 cw6 r2.2)) r2.2 := ⟨Ak6, ck6, Aw6, cw6, rfl, hr6⟩; have hz6 := J6.z.lt; subst hve; clear _t J5 R5 hr6  ; unfold dCells))
  have B7 : Below w6.heap.size w6 (w6.alloc (.cells #[.int .i64 r2.2.size, .int .i64 r2.2.count, .slice Ak6 r2.2.kept.length ck6, .slice Aw6 r2.2.waits.length cw6, .bool r2.2.off, .int .i64 r2.2.offs, .int .i64 r2.2.fuse, .int .u64 r2.2.wr] 31)) := (Below.refl _ _).alloc (Nat.le_refl _) _
  have X7 : Block (w6.alloc (.cells #[.int .i64 r2.2.size, .int .i64 r2.2.count, .slice Ak6 r2.2.kept.length ck6, .slice Aw6 r2.2.waits.length cw6, .bool r2.2.off, .int .i64 r2.2.offs, .int .i64 r2.2.fuse, .int .u64 r2.2.wr] 31)) w6.heap.size 31 #[.int .i64 r2.2.size, .int .i64 r2.2.count, .slice Ak6 r2.2.kept.length ck6, .slice Aw6 r2.2.waits.length cw6, .bool r2.2.off, .int .i64 r2.2.offs, .int .i64 r2.2.fuse, .int .u64 r2.2.wr] := Block.new _ _ _
  have J7 := J6.below B7
  have R7 := R6.below B7
  generalize w6.alloc (.cells #[.int .i64 r2.2.size, .int .i64 r2.2.count, .slice Ak6 r2.2.kept.length ck6, .slice Aw6 r2.2.waits.length cw6, .bool r2.2.off, .int .i64 r2.2.offs, .int .i64 r2.2.fuse, .int .u64 r2.2.wr] 31) = w7 at *
  clear J6 R6 B7
  have hne7 := Nat.ne_of_gt hz6
  generalize w6.heap.size = K7 at *
  have P7 : In25 w0 w w7.drew x a mk mw p0 p1 p2 S B sl r2.2 _ _ := J7.below (below_draws (Below.refl _ _) 1)
  have RD7 := R7.below (show Below w7.heap.size w7 w7.drew from below_draws (Below.refl _ _) 1)
  have XD7 : Block w7.drew K7 31 #[.int .i64 r2.2.size, .int .i64 r2.2.count, .slice Ak6 r2.2.kept.length ck6, .slice Aw6 r2.2.waits.length cw6, .bool r2.2.off, .int .i64 r2.2.offs, .int .i64 r2.2.fuse, .int .u64 r2.2.wr] := Block.drewN X7 1
  refine wp_region_held_drew (S := fun W => Block W K7 31 #[.int .i64 r2.2.size, .int .i64 r2.2.count, .slice Ak6 r2.2.kept.length ck6, .slice Aw6 r2.2.waits.length cw6, .bool r2.2.off, .int .i64 r2.2.offs, .int .i64 r2.2.fuse, .int .u64 r2.2.wr]) (by kernel_rfl) X7 (fun hS => ?_)
  refine wpAnyH_take (i := 0) (oi := ⟨some 168, _, _, _, _, _⟩) (v := .int .i64 r2.1) rfl (by kernel_rfl) (by kernel_rfl) (by kernel_rfl) (fun _ _ _ h => h) (Or.inl ⟨by rfl, fun W hW => by go_simp⟩) hS ?_
  try simp only [Act.put, List.setIfInBounds_toArray, List.set_cons_zero, List.set_cons_succ]
  refine wpAnyH_take (i := 1) (oi := ⟨some 169, _, _, _, _, _⟩) (v := .int .i64 r2.1) rfl (by kernel_rfl) (by kernel_rfl) (by kernel_rfl) (fun _ _ _ h => h) (Or.inl ⟨by rfl, fun W hW => by go_simp⟩) hS ?_
  try simp only [Act.put, List.setIfInBounds_toArray, List.set_cons_zero, List.set_cons_succ]
  refine wpAnyH_take (i := 2) (oi := ⟨some 170, _, _, _, _, _⟩) (v := .bool true) rfl (by kernel_rfl) (by kernel_rfl) (by kernel_rfl) (fun _ _ _ h => h) (Or.inl ⟨by rfl, fun W hW => by go_simp⟩) hS ?_
  try simp only [Act.put, List.setIfInBounds_toArray, List.set_cons_zero, List.set_cons_succ]
  refine wpAnyH_take (i := 3) (oi := ⟨some 171, _, _, _, _, _⟩) (v := .agg #[.int .i64 r2.2.size, .int .i64 r2.2.count, .slice Ak6 r2.2.kept.length ck6, .slice Aw6 r2.2.waits.length cw6, .bool r2.2.off, .int .i64 r2.2.offs, .int .i64 r2.2.fuse, .int .u64 r2.2.wr]) rfl (by kernel_rfl) (by kernel_rfl) (by kernel_rfl) (fun _ _ _ h => h) (yieldsIf_load_mid (by rfl) _ _ rfl (K7) (0) rfl [.int .i64 r2.2.size, .int .i64 r2.2.count, .slice Ak6 r2.2.kept.length ck6, .slice Aw6 r2.2.waits.length cw6, .bool r2.2.off, .int .i64 r2.2.offs, .int .i64 r2.2.fuse, .int .u64 r2.2.wr] _ (fun W hW => block_range (L := [.int .i64 r2.2.size, .int .i64 r2.2.count, .slice Ak6 r2.2.kept.length ck6, .slice Aw6 r2.2.waits.length cw6, .bool r2.2.off, .int .i64 r2.2.offs, .int .i64 r2.2.fuse, .int .u64 r2.2.wr]) hW) Tryd.underlying31 rfl (by kernel_rfl)) hS ?_
  try simp only [Act.put, List.setIfInBounds_toArray, List.set_cons_zero, List.set_cons_succ]
  refine wpAnyH_ready (rs := [4]) (by kernel_rfl) (by simp) ?_
  refine AllReadyH.cons rfl (fun K hK => ?_) AllReadyH.nil
  go_simp
  refine hK.out _ _ XD7 (fun hS => ?_)
  clear hK K
  try simp only [Act.put, List.setIfInBounds_toArray, List.set_cons_zero, List.set_cons_succ]
  refine wpAnyH_ready (rs := [5]) (by kernel_rfl) (by simp) ?_
  refine AllReadyH.cons rfl (fun K hK => ?_) AllReadyH.nil
  refine step_store_blk rfl _ _ _ rfl (cs := zD) (ds := (dCells Ak6 ck6 Aw6 cw6 r2.2).toList) (by exact P7.z) rfl rfl rfl (by kernel_rfl) (dCells_one _ _ _ _ _) ?_
  intro x9 Z9 g9
  have hfin := In25.done P7 RD7 g9 HN.out
  refine hK.out _ _ (XD7.grown g9 (by intro h; injection h with h; omega)) (fun hS => ?_)
  clear hK K
  try simp only [Act.put, List.setIfInBounds_toArray, List.set_cons_zero, List.set_cons_succ]
  refine wpAnyH_done (by kernel_rfl) ?_ _
  go_wp2_with fail
  exact bodyPost_ret (v := .tuple #[.bool true, .agg (dCells Ak6 ck6 Aw6 cw6 r2.2)]) (results_tmp_row rfl _ _ (w.heap.size + 1 + 1 + 1) 31 _ (0, 0) _ _ rfl rfl Z9 Tryd.underlying31 rfl (by kernel_rfl)) rfl hfin
end Go.Proofs.YtpnodocjpedcmaaDoor.Im

namespace Go.Proofs.YtpnodocjpedcmaaDoor.Im
open Go.ChangeShapes Go.WideShapes Go.ChangeAt Go.RowKit Go.Proofs.YtpnodocjpedcmaaDoor.Kit Go.Proofs.YtpnodocjpedcmaaDoor.Pt
open Go.Proofs.YtpnodocjpedcmaaDoor.Sec (Dv DvAt DSet Dev RDv dCells dCells_one zD zD_noText GivesED GivesD GivesS GivesB results_tmp_row block_range wpList_load_midV)


/-- The document's device is stored over in its box. -/
theorem In25.store {w0 w W W' : World} {x a mk mw p0 p1 p2 : Nat} {S B sl : Int} {s : Dv} {m : Step25} {cs cs' : Array Value} (h : In25 w0 w W x a mk mw p0 p1 p2 S B sl s m cs) (X : Block W' w.heap.size 31 cs') (gr : W.grownBy W' (some w.heap.size)) : In25 w0 w W' x a mk mw p0 p1 p2 S B sl s m cs' := by
  have hg := h.g
  have tt : TurnsIn (fun b => b = w.heap.size) W W' := .ofGrown gr fun b hb => by injection hb with hb; exact hb.symm
  have ne : ∀ {g : Nat} {ty : TypeId} {cs : Array Value}, Block W g ty cs → ty ≠ 31 → g ≠ w.heap.size := by
    intro g ty cs hg hne e
    exact block_ne hg h.x hne e
  exact ⟨h.d.grown h.x (by decide) (by decide) hg gr, ⟨Block.out h.i.x tt (ne h.i.x (by decide)), Block.out h.i.p0 tt (ne h.i.p0 (by decide)), Block.out h.i.p1 tt (ne h.i.p1 (by decide)), Block.out h.i.p2 tt (ne h.i.p2 (by decide))⟩,
    h.t.then_ tt (fun b hb e => by omega), X, Block.out h.c tt (by omega), Block.out h.y tt (by omega), Block.out h.z tt (by omega), hg⟩

set_option maxRecDepth 100000 in
set_option maxHeartbeats 6400000 in
/-- A fuse of both. -/
theorem does_fuse (w0 w : World) (x a mk mw p0 p1 p2 : Nat) (S B sl : Int) (s : Dv) (m : Step25) (dv : Value) (hd : Dev w0 w a mk mw s) (hi : ImAt w x a S B sl p0 p1 p2) (hr : RDv w dv s) (hL : LayOk S B sl s) (hm : m.Ok) (hin : m.In w0 w0.heap.size) (hbl : m.bs.length ≤ 1000) (hzl : m.zs.length ≤ 60) (hof : s.offs ≤ 100000000) (hwr : s.wr ≤ 100000000) (hk : m.k = 4) :
    Calls Tryd.prog 30 #[.pointer (some ⟨x, 0, none⟩), .pointer (some ⟨a, 0, none⟩), dv, .agg #[.int .i64 S, .int .i64 B, .int .i64 sl], .agg m.cells.toArray] w (Does25 w0 w x a mk mw p0 p1 p2 S B sl s) := by
  have hok : s.Ok := hd.d.ok
  have hwh : Whole s := whole_of hd.d
  have HBs := Lib.hid (fun W (hb : Below w0.heap.size w0 W) => (hin.1.below hb).more hb.size)
  have HZs := Lib.hid (fun W (hb : Below w0.heap.size w0 W) => (hin.2.below hb).more hb.size)
  have GF := Lib.hid (fun W (hd : DvAt W (fun _ => True) a mk mw s) => Sec.fuse_any _ a mk mw s m.n W hd hm.n)
  have HR := Lib.hid (fun W (t : TurnsIn (DSet a mk mw) w W) => Sec.RDv.dset hd.d t hr)
  have h3 := Lib.hid (fun cs => In25.start hd hi m cs)
  obtain ⟨Ak, ck, Aw, cw, rfl, hkr⟩ := hr
  have H3 := Lib.hid (h3.out (dCells Ak ck Aw cw s))
  clear h3 hkr hd hi hin hL hof hwr hm hbl hzl hwh
  obtain ⟨k, blk, at_, n, view, sn, A, cap, bs, A2, cap2, zs⟩ := m
  simp only at *
  subst hk
  unfold Step25.cells zD at H3
  unfold dCells at HR H3 ⊢
  unfold Step25.cells
  simp only at H3 ⊢
  go_enter Tryd.func30, Tryd.ntmps30
  go_upto_region 1 with fail
  generalize (((w.alloc _).alloc _).alloc _).alloc _ = w4 at *
  have J4 := H3.out
  have q0 : w4.cell? ⟨w.heap.size + 1 + 1, 0, none⟩ = some (.int .i64 4) := J4.y.cell 0
  have q3 : w4.cell? ⟨w.heap.size + 1 + 1, 3, none⟩ = some (.int .i64 n) := J4.y.cell 3
  go_upto_region 20 with (have _t := J4; go_at_call 23; refine (GF.out _ J4.d.d).mono ?_; rintro e w5 ⟨rfl, D5, T5⟩; have J5 := J4.turn D5 T5; clear _t J4 q0 q3 D5 T5)
  have q3 : w5.cell? ⟨w.heap.size + 1 + 1, 3, none⟩ = some (.int .i64 n) := J5.y.cell 3
  have q6 := J5.x.frozen 6
  have x6 : w5.cell? ⟨w.heap.size, 6, none⟩ = some (.int .i64 s.fuse) := J5.x.cell 6
  have R5 := HR.out _ J5.t
  go_upto_region 21 with fail
  have X7 : Block (w5.setCell ⟨w.heap.size, 6, none⟩ (.int .i64 (max n 0))) w.heap.size 31 #[.int .i64 (s.fused n).size, .int .i64 (s.fused n).count, .slice Ak (s.fused n).kept.length ck, .slice Aw (s.fused n).waits.length cw, .bool (s.fused n).off, .int .i64 (s.fused n).offs, .int .i64 (s.fused n).fuse, .int .u64 (s.fused n).wr] := J5.x.set_ 6 (.int .i64 (max n 0))
  have R7 : RDv (w5.setCell ⟨w.heap.size, 6, none⟩ (.int .i64 (max n 0))) (.agg (dCells Ak ck Aw cw (s.fused n))) (s.fused n) := Sec.fuse_row R5 J5.x rfl (max n 0)
  have J7 := J5.store X7 (grown_set w5 w.heap.size 6 _)
  clear J5 q3 q6 x6 R5
  generalize w5.setCell ⟨w.heap.size, 6, none⟩ (.int .i64 (max n 0)) = w7 at *
  have P7 := J7.below (show Below w7.heap.size w7 w7.drew from below_draws (Below.refl _ _) 1)
  have RD7 := R7.below (show Below w7.heap.size w7 w7.drew from below_draws (Below.refl _ _) 1)
  refine wp_region_held_drew (S := fun W => Block W (w.heap.size) 31 #[.int .i64 (s.fused n).size, .int .i64 (s.fused n).count, .slice Ak (s.fused n).kept.length ck, .slice Aw (s.fused n).waits.length cw, .bool (s.fused n).off, .int .i64 (s.fused n).offs, .int .i64 (s.fused n).fuse, .int .u64 (s.fused n).wr]) (by kernel_rfl) X7 (fun hS => ?_)
  refine wpAnyH_take (i := 0) (oi := ⟨some 148, _, _, _, _, _⟩) (v := .agg #[.int .i64 (s.fused n).size, .int .i64 (s.fused n).count, .slice Ak (s.fused n).kept.length ck, .slice Aw (s.fused n).waits.length cw, .bool (s.fused n).off, .int .i64 (s.fused n).offs, .int .i64 (s.fused n).fuse, .int .u64 (s.fused n).wr]) rfl (by kernel_rfl) (by kernel_rfl) (by kernel_rfl) (fun _ _ _ h => h) (yieldsIf_load_mid (by rfl) _ _ rfl (w.heap.size) (0) rfl [.int .i64 (s.fused n).size, .int .i64 (s.fused n).count, .slice Ak (s.fused n).kept.length ck, .slice Aw (s.fused n).waits.length cw, .bool (s.fused n).off, .int .i64 (s.fused n).offs, .int .i64 (s.fused n).fuse, .int .u64 (s.fused n).wr] _ (fun W hW => block_range (L := [.int .i64 (s.fused n).size, .int .i64 (s.fused n).count, .slice Ak (s.fused n).kept.length ck, .slice Aw (s.fused n).waits.length cw, .bool (s.fused n).off, .int .i64 (s.fused n).offs, .int .i64 (s.fused n).fuse, .int .u64 (s.fused n).wr]) hW) Tryd.underlying31 rfl (by kernel_rfl)) hS ?_
  try simp only [Act.put, List.setIfInBounds_toArray, List.set_cons_zero, List.set_cons_succ]
  refine wpAnyH_ready (rs := [1]) (by kernel_rfl) (by simp) ?_
  refine AllReadyH.cons rfl (fun K hK => ?_) AllReadyH.nil
  go_simp
  refine hK.out _ _ P7.x (fun hS => ?_)
  clear hK K
  try simp only [Act.put, List.setIfInBounds_toArray, List.set_cons_zero, List.set_cons_succ]
  refine wpAnyH_ready (rs := [2]) (by kernel_rfl) (by simp) ?_
  refine AllReadyH.cons rfl (fun K hK => ?_) AllReadyH.nil
  refine step_store_blk rfl _ _ _ rfl (cs := zD) (ds := (dCells Ak ck Aw cw (s.fused n)).toList) (by exact P7.z) rfl rfl rfl (by kernel_rfl) (dCells_one _ _ _ _ _) ?_
  intro x9 Z9 g9
  have hfin := In25.done P7 RD7 g9 (fused_near s n)
  refine hK.out _ _ (P7.x.grown g9 (by intro h; injection h with h; omega)) (fun hS => ?_)
  clear hK K
  try simp only [Act.put, List.setIfInBounds_toArray, List.set_cons_zero, List.set_cons_succ]
  refine wpAnyH_done (by kernel_rfl) ?_ _
  go_wp2_with fail
  exact bodyPost_ret (v := .tuple #[.bool true, .agg (dCells Ak ck Aw cw (s.fused n))]) (results_tmp_row rfl _ _ (w.heap.size + 1 + 1 + 1) 31 _ (0, 0) _ _ rfl rfl Z9 Tryd.underlying31 rfl (by kernel_rfl)) rfl hfin

set_option maxRecDepth 100000 in
set_option maxHeartbeats 6400000 in
/-- Back of both. -/
theorem does_back (w0 w : World) (x a mk mw p0 p1 p2 : Nat) (S B sl : Int) (s : Dv) (m : Step25) (dv : Value) (hd : Dev w0 w a mk mw s) (hi : ImAt w x a S B sl p0 p1 p2) (hr : RDv w dv s) (hL : LayOk S B sl s) (hm : m.Ok) (hin : m.In w0 w0.heap.size) (hbl : m.bs.length ≤ 1000) (hzl : m.zs.length ≤ 60) (hof : s.offs ≤ 100000000) (hwr : s.wr ≤ 100000000) (hk : m.k = 5) :
    Calls Tryd.prog 30 #[.pointer (some ⟨x, 0, none⟩), .pointer (some ⟨a, 0, none⟩), dv, .agg #[.int .i64 S, .int .i64 B, .int .i64 sl], .agg m.cells.toArray] w (Does25 w0 w x a mk mw p0 p1 p2 S B sl s) := by
  have hok : s.Ok := hd.d.ok
  have hwh : Whole s := whole_of hd.d
  have HBs := Lib.hid (fun W (hb : Below w0.heap.size w0 W) => (hin.1.below hb).more hb.size)
  have HZs := Lib.hid (fun W (hb : Below w0.heap.size w0 W) => (hin.2.below hb).more hb.size)
  have GB := Lib.hid (fun W (hd : DvAt W (fun _ => True) a mk mw s) (hh : Holds W W.heap.size .u8 m.A2 m.zs) => Sec.back_any _ a mk mw s m.A2 m.zs m.cap2 W hd (fun _ _ => trivial) (by omega) hm.zo hh (by omega))
  have GD := Lib.hid (fun v W (h : RDv W v s) (hh : Holds W W.heap.size .u8 m.A2 m.zs) => Sec.rback_any v s m.A2 m.zs m.cap2 W h hok (by omega) hh (by omega))
  have HN := Lib.hid (back_near s m.zs)
  obtain ⟨sb, hsb⟩ : ∃ sb, s.back m.zs = sb := ⟨_, rfl⟩
  rw [hsb] at GB GD HN
  clear hsb
  have HR := Lib.hid (fun W (t : TurnsIn (DSet a mk mw) w W) => Sec.RDv.dset hd.d t hr)
  have h3 := Lib.hid (fun cs => In25.start hd hi m cs)
  obtain ⟨Ak, ck, Aw, cw, rfl, hkr⟩ := hr
  have H3 := Lib.hid (h3.out (dCells Ak ck Aw cw s))
  clear h3 hkr hd hi hin hL hof hwr hm hbl hzl hwh
  obtain ⟨k, blk, at_, n, view, sn, A, cap, bs, A2, cap2, zs⟩ := m
  simp only at *
  subst hk
  unfold Step25.cells zD at H3
  unfold dCells at HR H3 ⊢
  unfold Step25.cells
  simp only at H3 ⊢
  go_enter Tryd.func30, Tryd.ntmps30
  go_upto_region 1 with fail
  generalize (((w.alloc _).alloc _).alloc _).alloc _ = w4 at *
  have J4 := H3.out
  have q0 : w4.cell? ⟨w.heap.size + 1 + 1, 0, none⟩ = some (.int .i64 5) := J4.y.cell 0
  have q7 : w4.cell? ⟨w.heap.size + 1 + 1, 7, none⟩ = some (.slice A2 zs.length cap2) := J4.y.cell 7
  go_upto_region 24 with (have _t := J4; go_at_call 14; refine (GB.out _ J4.d.d (HZs.out _ J4.d.b)).mono ?_; rintro e w5 ⟨rfl, D5, T5⟩; have J5 := J4.turn D5 T5; clear _t J4 q0 q7 D5 T5)
  have q7 : w5.cell? ⟨w.heap.size + 1 + 1, 7, none⟩ = some (.slice A2 zs.length cap2) := J5.y.cell 7
  have R5 := HR.out _ J5.t
  go_wp2_with (first
    | (have _t := J5; refine wpList_load_midV (o := ⟨some 155, _, _, _, _, _⟩) (by rfl) _ _ rfl (w.heap.size) 0 rfl [.int .i64 s.size, .int .i64 s.count, .slice Ak s.kept.length ck, .slice Aw s.waits.length cw, .bool s.off, .int .i64 s.offs, .int .i64 s.fuse, .int .u64 s.wr] (block_range (L := [.int .i64 s.size, .int .i64 s.count, .slice Ak s.kept.length ck, .slice Aw s.waits.length cw, .bool s.off, .int .i64 s.offs, .int .i64 s.fuse, .int .u64 s.wr]) J5.x) Tryd.underlying31 rfl (by kernel_rfl) ?_)
    | (have _t := R5; go_at_call 15; refine (GD.out _ _ R5 (HZs.out _ J5.d.b)).mono ?_; rintro e w6 ⟨v6, rfl, RV6, hb6⟩; have J6 := J5.below hb6; obtain ⟨Ak6, ck6, Aw6, cw6, hve, hr6⟩ := RV6; have R6 : RDv w6 (.agg (dCells Ak6 ck6 Aw6 cw6 sb)) sb := ⟨Ak6, ck6, Aw6, cw6, rfl, hr6⟩; subst hve; clear _t J5 R5 hr6 q7)
    | (have _t := J6; refine Sec.wpList_store_blk (cs := zD) rfl _ _ _ rfl (ds := (dCells Ak6 ck6 Aw6 cw6 sb).toList) (by exact J6.z) rfl rfl rfl (by kernel_rfl) (dCells_one _ _ _ _ _) ?_; clear _t; intro w9 Z9 g9))
  exact bodyPost_ret (v := .tuple #[.bool true, .agg (dCells Ak6 ck6 Aw6 cw6 sb)]) (results_tmp_row rfl _ _ (w.heap.size + 1 + 1 + 1) 31 _ (0, 0) _ _ rfl rfl Z9 Tryd.underlying31 rfl (by kernel_rfl)) rfl (In25.done J6 R6 g9 HN.out)
end Go.Proofs.YtpnodocjpedcmaaDoor.Im
