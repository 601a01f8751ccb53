/-
  Layer 25, image: a step of an image on a device, and of the document's: Range: contracts. Conditions: as each theorem names.
-/
import Derived.Test.YtpnodocjpedcmaaDoorMImX
namespace Go.Proofs.YtpnodocjpedcmaaDoor.Im
open Go.ChangeShapes Go.WideShapes Go.ChangeAt Go.RowKit Go.Proofs.YtpnodocjpedcmaaDoor.Kit Go.Proofs.YtpnodocjpedcmaaDoor.Pt
open Go.Proofs.YtpnodocjpedcmaaDoor.Sec (Dv DvAt DSet Dev RDv dCells dCells_one zD zD_noText GivesED GivesD GivesS GivesB results_tmp_row block_range wpList_load_midV)


def RangeR (s : Dv) (S B sl i view from_ n : Int) (r : List Int × Int) : Prop :=
  (¬ (0 ≤ from_ ∧ from_ ≤ min (max view 0) (B * sl) ∧ 0 ≤ n ∧ n ≤ min (max view 0) (B * sl) - from_) ∧ r = ([], 5)) ∨
    ((0 ≤ from_ ∧ from_ ≤ min (max view 0) (B * sl) ∧ 0 ≤ n ∧ n ≤ min (max view 0) (B * sl) - from_) ∧ PRead s (slotF S B sl i) (B * sl).toNat from_ n r)
theorem rangeR_one {s : Dv} {S B sl i view from_ n : Int} {r t : List Int × Int} (h : RangeR s S B sl i view from_ n r) (g : RangeR s S B sl i view from_ n t) : r = t := by
  rcases h with ⟨h1, rfl⟩ | ⟨h1, h3⟩ <;> rcases g with ⟨g1, rfl⟩ | ⟨g1, g3⟩
  all_goals first
    | rfl
    | exact absurd h1 g1
    | exact absurd g1 h1
    | exact pread_one h3 g3

set_option maxRecDepth 100000 in
set_option maxHeartbeats 6400000 in
/-- Range of both. -/
theorem does_range (w0 w : World) (x a mk mw p0 p1 p2 : Nat) (S B sl : Int) (s : Dv) (m : Step25) (dv : Value) (hd : Dev w0 w a mk mw s) (hi : ImAt w x a S B sl p0 p1 p2) (hr : RDv w dv s) (hL : LayOk S B sl s) (hm : m.Ok) (hin : m.In w0 w0.heap.size) (hbl : m.bs.length ≤ 1000) (hzl : m.zs.length ≤ 60) (hof : s.offs ≤ 100000000) (hwr : s.wr ≤ 100000000) (hk : m.k ≠ 0 ∧ m.k ≠ 1 ∧ m.k ≠ 2 ∧ m.k ≠ 3 ∧ m.k ≠ 4 ∧ m.k ≠ 5 ∧ m.k ≠ 6) :
    Calls Tryd.prog 30 #[.pointer (some ⟨x, 0, none⟩), .pointer (some ⟨a, 0, none⟩), dv, .agg #[.int .i64 S, .int .i64 B, .int .i64 sl], .agg m.cells.toArray] w (Does25 w0 w x a mk mw p0 p1 p2 S B sl s) := by
  have hok : s.Ok := hd.d.ok
  have hwh : Whole s := whole_of hd.d
  have HBs := Lib.hid (fun W (hb : Below w0.heap.size w0 W) => (hin.1.below hb).more hb.size)
  have HZs := Lib.hid (fun W (hb : Below w0.heap.size w0 W) => (hin.2.below hb).more hb.size)
  obtain ⟨hS, hB, hs, hdd, hq, h00, h01, h02, h03⟩ := hL.facts
  have GV := Lib.hid (fun W (h : ImAt W x a S B sl p0 p1 p2) => view_any x a p0 p1 p2 S B sl m.slot m.view s W h hL hm.slot)
  have GR : Hid (∀ W v, ViewAt W v (slotP p0 p1 m.slot) (min (max m.view 0) (B * sl)) → ImAt W x a S B sl p0 p1 p2 → DvAt W (fun _ => True) a mk mw s → Calls Tryd.prog 37 #[.pointer (some ⟨v, 0, none⟩), .int .i64 m.at_, .int .i64 m.n] W fun e w' => ∃ r, RangeR s S B sl m.slot m.view m.at_ m.n r ∧ GivesB r.1 r.2 W e w') := Lib.hid (fun W v hv h hd => by
    refine (range_any _ v (slotP p0 p1 m.slot) a mk mw _ _ (B * sl).toNat (min (max m.view 0) (B * sl)) m.at_ m.n s W hv (h.slot m.slot) hd (hL.lies m.slot) (by omega) hm.at_).mono ?_
    rintro e w' (⟨h1, h2⟩ | ⟨h1, r, h3, h4⟩)
    · exact ⟨_, Or.inl ⟨h1, rfl⟩, h2⟩
    · exact ⟨r, Or.inr ⟨h1, h3⟩, h4⟩)
  have GD : Hid (∀ v W, RDv W v s → Calls Tryd.prog 64 #[v, .agg #[.int .i64 S, .int .i64 B, .int .i64 sl], .int .u8 m.slot, .int .i64 m.view, .int .i64 m.at_, .int .i64 m.n] W fun e w' => ∃ r, RangeR s S B sl m.slot m.view m.at_ m.n r ∧ GivesS r.1 r.2 W e w') := Lib.hid (fun v W h => by
    refine (rrange_any v s S B sl m.slot m.view m.at_ m.n W h hok hwh hL hm.at_).mono ?_
    rintro e w' (⟨h1, h2⟩ | ⟨h1, r, h3, h4⟩)
    · exact ⟨_, Or.inl ⟨h1, rfl⟩, h2⟩
    · exact ⟨r, Or.inr ⟨h1, h3⟩, h4⟩)
  have e0 : (m.k == 0) = false := by simpa using hk.1
  have e1 : (m.k == 1) = false := by simpa using hk.2.1
  have e2 : (m.k == 2) = false := by simpa using hk.2.2.1
  have e3 : (m.k == 3) = false := by simpa using hk.2.2.2.1
  have e4 : (m.k == 4) = false := by simpa using hk.2.2.2.2.1
  have e5 : (m.k == 5) = false := by simpa using hk.2.2.2.2.2.1
  have e6 : (m.k == 6) = false := by simpa using hk.2.2.2.2.2.2
  clear hk hS hB hs hdd hq h00 h01 h02 h03
  generalize min (max m.view 0) (B * sl) = V at GV GR
  have HR := Lib.hid (fun W (t : TurnsIn (DSet a mk mw) w W) => Sec.RDv.dset hd.d t hr)
  have h3 := Lib.hid (fun cs => In25.start hd hi m cs)
  obtain ⟨Ak, ck, Aw, cw, rfl, hkr⟩ := hr
  have H3 := Lib.hid (h3.out (dCells Ak ck Aw cw s))
  clear h3 hkr hd hi hin hL hof hwr hm hbl hzl hwh
  obtain ⟨k, blk, at_, n, view, sn, A, cap, bs, A2, cap2, zs⟩ := m
  simp only at *
  unfold Step25.cells zD at H3
  unfold dCells at HR H3 ⊢
  unfold Step25.cells
  simp only at H3 ⊢
  go_enter Tryd.func30, Tryd.ntmps30
  go_upto_region 1 with fail
  generalize (((w.alloc _).alloc _).alloc _).alloc _ = w4 at *
  have J4 := H3.out
  have q0 : w4.cell? ⟨w.heap.size + 1 + 1, 0, none⟩ = some (.int .i64 k) := J4.y.cell 0
  go_upto_region 29 with fail
  have q2 : w4.cell? ⟨w.heap.size + 1 + 1, 2, none⟩ = some (.int .i64 at_) := J4.y.cell 2
  have q3 : w4.cell? ⟨w.heap.size + 1 + 1, 3, none⟩ = some (.int .i64 n) := J4.y.cell 3
  have q4 : w4.cell? ⟨w.heap.size + 1 + 1, 4, none⟩ = some (.int .i64 view) := J4.y.cell 4
  have q5 : w4.cell? ⟨w.heap.size + 1 + 1, 5, none⟩ = some (.int .u8 sn) := J4.y.cell 5
  have Jd := J4.below (show Below w4.heap.size w4 w4.drew from below_draws (Below.refl _ _) 1)
  have HJd := Lib.hid Jd
  have HJ4 := Lib.hid J4
  clear Jd J4 q0 e0 e1 e2 e3 e4 e5 e6
  go_region_held3 (fun W' => W'.cell? ⟨w.heap.size + 1 + 1, 2, none⟩ = some (.int .i64 at_) ∧ W'.cell? ⟨w.heap.size + 1 + 1, 3, none⟩ = some (.int .i64 n) ∧ W'.cell? ⟨w.heap.size + 1 + 1, 4, none⟩ = some (.int .i64 view) ∧ W'.cell? ⟨w.heap.size + 1 + 1, 5, none⟩ = some (.int .u8 sn))
    (first | exact ⟨q2, q3, q4, q5⟩ | exact ⟨HJd.out.y.cell 2, HJd.out.y.cell 3, HJd.out.y.cell 4, HJd.out.y.cell 5⟩ | exact ⟨J5.y.cell 2, J5.y.cell 3, J5.y.cell 4, J5.y.cell 5⟩ | exact ⟨Jv.y.cell 2, Jv.y.cell 3, Jv.y.cell 4, Jv.y.cell 5⟩)
    (first
      | (go_at_call 36; refine (GV.out _ HJd.out.i).mono ?_; rintro e wv ⟨vv, rfl, hv, Vv, hbv⟩; have Jv := HJd.out.below hbv)
      | (have _t := Vv; go_at_call 37; refine (GR.out _ vv Vv Jv.i Jv.d.d).mono ?_; rintro e w5 ⟨r, hr, v5, rfl, own5, hb5⟩; have J5 := Jv.below hb5))
  have own5 := Own.mono own5 (show w4.heap.size ≤ wv.heap.size from hbv.size)
  clear q2 q3 q4 q5 HJd HJ4 Jv Vv hbv hb5 hv GV GR
  have q2 : w5.cell? ⟨w.heap.size + 1 + 1, 2, none⟩ = some (.int .i64 at_) := J5.y.cell 2
  have q3 : w5.cell? ⟨w.heap.size + 1 + 1, 3, none⟩ = some (.int .i64 n) := J5.y.cell 3
  have q4 : w5.cell? ⟨w.heap.size + 1 + 1, 4, none⟩ = some (.int .i64 view) := J5.y.cell 4
  have q5 : w5.cell? ⟨w.heap.size + 1 + 1, 5, none⟩ = some (.int .u8 sn) := J5.y.cell 5
  have R5 := HR.out _ J5.t
  go_upto_region 31 with (first
    | (have _t := J5; refine wpList_load_midV (o := ⟨some 187, _, _, _, _, _⟩) (by rfl) _ _ rfl (w.heap.size) 0 rfl [.int .i64 s.size, .int .i64 s.count, .slice Ak s.kept.length ck, .slice Aw s.waits.length cw, .bool s.off, .int .i64 s.offs, .int .i64 s.fuse, .int .u64 s.wr] (block_range (L := [.int .i64 s.size, .int .i64 s.count, .slice Ak s.kept.length ck, .slice Aw s.waits.length cw, .bool s.off, .int .i64 s.offs, .int .i64 s.fuse, .int .u64 s.wr]) J5.x) Tryd.underlying31 rfl (by kernel_rfl) ?_)
    | (have _t := J5; refine wpList_load_midV (o := ⟨some 188, _, _, _, _, _⟩) (by rfl) _ _ rfl (w.heap.size + 1) 0 rfl [.int .i64 S, .int .i64 B, .int .i64 sl] (block_range (L := [.int .i64 S, .int .i64 B, .int .i64 sl]) J5.c) Tryd.underlying61 rfl (by kernel_rfl) ?_)
    | (have _t := R5; go_at_call 64; refine (GD.out _ _ R5).mono ?_; rintro e w6 ⟨r2, hr2, rfl, hb6⟩; obtain rfl := rangeR_one hr2 hr; have J6 := J5.below hb6; have R6 := R5.below hb6; have own6 := Own.below own5 hb6; clear _t J5 R5 own5 hr2 q2 q3 q4 q5))
  have kc : ∀ W, Own W w4.heap.size 5 .u8 v5 r2.1 → (convert 22 9 v5).run Tryd.prog W = .ok (.string (strOfNums r2.1)) W := fun W h => own_conv h
  have P6 : In25 w0 w w6.drew x a mk mw p0 p1 p2 S B sl s _ _ := J6.below (below_draws (Below.refl _ _) 1)
  have RD6 := R6.below (show Below w6.heap.size w6 w6.drew from below_draws (Below.refl _ _) 1)
  have od6 := Own.drewN own6 1
  generalize strOfNums r2.1 = SS at *
  generalize r2.1 = xs at *
  generalize r2.2 = E at *
  refine wp_region_held_drew (S := fun W => Block W (w.heap.size) 31 #[.int .i64 s.size, .int .i64 s.count, .slice Ak s.kept.length ck, .slice Aw s.waits.length cw, .bool s.off, .int .i64 s.offs, .int .i64 s.fuse, .int .u64 s.wr] ∧ Own W w4.heap.size 5 .u8 v5 xs) (by kernel_rfl) ⟨J6.x, own6⟩ (fun hS => ?_)
  refine wpAnyH_take (i := 0) (oi := ⟨some 200, _, _, _, _, _⟩) (v := v5) rfl (by kernel_rfl) (by kernel_rfl) (by kernel_rfl) (fun _ _ _ h => h) (Or.inl ⟨by rfl, fun W hW => by go_simp⟩) hS ?_
  try simp only [Act.put, List.setIfInBounds_toArray, List.set_cons_zero, List.set_cons_succ]
  refine wpAnyH_take (i := 1) (oi := ⟨some 201, _, _, _, _, _⟩) (v := .string SS) rfl (by kernel_rfl) (by kernel_rfl) (by kernel_rfl) (fun _ _ _ h => h) (Or.inl ⟨by rfl, fun W hW => by have q := kc W hW.2; go_simp⟩) hS ?_
  try simp only [Act.put, List.setIfInBounds_toArray, List.set_cons_zero, List.set_cons_succ]
  refine wpAnyH_take (i := 2) (oi := ⟨some 202, _, _, _, _, _⟩) (v := .string SS) rfl (by kernel_rfl) (by kernel_rfl) (by kernel_rfl) (fun _ _ _ h => h) (Or.inl ⟨by rfl, fun W hW => by go_simp⟩) hS ?_
  try simp only [Act.put, List.setIfInBounds_toArray, List.set_cons_zero, List.set_cons_succ]
  refine wpAnyH_take (i := 3) (oi := ⟨some 203, _, _, _, _, _⟩) (v := .bool true) rfl (by kernel_rfl) (by kernel_rfl) (by kernel_rfl) (fun _ _ _ h => h) (Or.inl ⟨by rfl, fun W hW => by go_simp⟩) hS ?_
  try simp only [Act.put, List.setIfInBounds_toArray, List.set_cons_zero, List.set_cons_succ]
  refine wpAnyH_take (i := 4) (oi := ⟨some 204, _, _, _, _, _⟩) (v := .bool true) rfl (by kernel_rfl) (by kernel_rfl) (by kernel_rfl) (fun _ _ _ h => h) (Or.inl ⟨by rfl, fun W hW => by go_simp⟩) hS ?_
  try simp only [Act.put, List.setIfInBounds_toArray, List.set_cons_zero, List.set_cons_succ]
  refine wpAnyH_take (i := 5) (oi := ⟨some 205, _, _, _, _, _⟩) (v := .int .i64 E) rfl (by kernel_rfl) (by kernel_rfl) (by kernel_rfl) (fun _ _ _ h => h) (Or.inl ⟨by rfl, fun W hW => by go_simp⟩) hS ?_
  try simp only [Act.put, List.setIfInBounds_toArray, List.set_cons_zero, List.set_cons_succ]
  refine wpAnyH_take (i := 6) (oi := ⟨some 206, _, _, _, _, _⟩) (v := .int .i64 E) rfl (by kernel_rfl) (by kernel_rfl) (by kernel_rfl) (fun _ _ _ h => h) (Or.inl ⟨by rfl, fun W hW => by go_simp⟩) hS ?_
  try simp only [Act.put, List.setIfInBounds_toArray, List.set_cons_zero, List.set_cons_succ]
  refine wpAnyH_take (i := 7) (oi := ⟨some 207, _, _, _, _, _⟩) (v := .bool true) rfl (by kernel_rfl) (by kernel_rfl) (by kernel_rfl) (fun _ _ _ h => h) (Or.inl ⟨by rfl, fun W hW => by go_simp⟩) hS ?_
  try simp only [Act.put, List.setIfInBounds_toArray, List.set_cons_zero, List.set_cons_succ]
  refine wpAnyH_take (i := 8) (oi := ⟨some 208, _, _, _, _, _⟩) (v := .bool true) rfl (by kernel_rfl) (by kernel_rfl) (by kernel_rfl) (fun _ _ _ h => h) (Or.inl ⟨by rfl, fun W hW => by go_simp⟩) hS ?_
  try simp only [Act.put, List.setIfInBounds_toArray, List.set_cons_zero, List.set_cons_succ]
  refine wpAnyH_take (i := 9) (oi := ⟨some 209, _, _, _, _, _⟩) (v := .agg #[.int .i64 s.size, .int .i64 s.count, .slice Ak s.kept.length ck, .slice Aw s.waits.length cw, .bool s.off, .int .i64 s.offs, .int .i64 s.fuse, .int .u64 s.wr]) rfl (by kernel_rfl) (by kernel_rfl) (by kernel_rfl) (fun _ _ _ h => h) (yieldsIf_load_mid (by rfl) _ _ rfl (w.heap.size) (0) rfl [.int .i64 s.size, .int .i64 s.count, .slice Ak s.kept.length ck, .slice Aw s.waits.length cw, .bool s.off, .int .i64 s.offs, .int .i64 s.fuse, .int .u64 s.wr] _ (fun W hW => block_range (L := [.int .i64 s.size, .int .i64 s.count, .slice Ak s.kept.length ck, .slice Aw s.waits.length cw, .bool s.off, .int .i64 s.offs, .int .i64 s.fuse, .int .u64 s.wr]) hW.1) Tryd.underlying31 rfl (by kernel_rfl)) hS ?_
  try simp only [Act.put, List.setIfInBounds_toArray, List.set_cons_zero, List.set_cons_succ]
  refine wpAnyH_ready (rs := [10]) (by kernel_rfl) (by simp) ?_
  refine AllReadyH.cons rfl (fun K hK => ?_) AllReadyH.nil
  go_simp
  refine hK.out _ _ ⟨P6.x, od6⟩ (fun hS => ?_)
  clear hK K
  try simp only [Act.put, List.setIfInBounds_toArray, List.set_cons_zero, List.set_cons_succ]
  refine wpAnyH_ready (rs := [11]) (by kernel_rfl) (by simp) ?_
  refine AllReadyH.cons rfl (fun K hK => ?_) AllReadyH.nil
  refine step_store_blk rfl _ _ _ rfl (cs := zD) (ds := (dCells Ak ck Aw cw s).toList) (by exact P6.z) rfl rfl rfl (by kernel_rfl) (dCells_one _ _ _ _ _) ?_
  intro x9 Z9 g9
  have hfin := In25.done P6 RD6 g9 (Near.refl s)
  refine hK.out _ _ ⟨P6.x.grown g9 (by intro h; injection h with h; omega), od6.kept g9 (Or.inr (od6.ne_block P6.z (by decide)))⟩ (fun hS => ?_)
  clear hK K
  try simp only [Act.put, List.setIfInBounds_toArray, List.set_cons_zero, List.set_cons_succ]
  refine wpAnyH_done (by kernel_rfl) ?_ _
  go_wp2_with fail
  exact bodyPost_ret (v := .tuple #[.bool true, .agg (dCells Ak ck Aw cw s)]) (results_tmp_row rfl _ _ (w.heap.size + 1 + 1 + 1) 31 _ (0, 0) _ _ rfl rfl Z9 Tryd.underlying31 rfl (by kernel_rfl)) rfl hfin
end Go.Proofs.YtpnodocjpedcmaaDoor.Im
