/-
  Layer 25, image: a step of an image on a device, and of the document's: Put, Keep: contracts. Conditions: as each theorem names.
-/
import Derived.Test.YtpnodocjpedcmaaDoorMImX
namespace Go.Proofs.YtpnodocjpedcmaaDoor.Im
open Go.ChangeShapes Go.WideShapes Go.ChangeAt Go.RowKit Go.Proofs.YtpnodocjpedcmaaDoor.Kit Go.Proofs.YtpnodocjpedcmaaDoor.Pt
open Go.Proofs.YtpnodocjpedcmaaDoor.Sec (Dv DvAt DSet Dev RDv dCells dCells_one zD zD_noText GivesED GivesD GivesS GivesB results_tmp_row block_range wpList_load_midV)


def PutR (s : Dv) (S B sl i k : Int) (bs : List Int) (r : Int × Dv) : Prop :=
  (¬ (0 ≤ k ∧ k < sl) ∧ r = (5, s)) ∨ ((0 ≤ k ∧ k < sl) ∧ ¬ (1 ≤ bs.length ∧ (bs.length : Int) ≤ B) ∧ r = (3, s)) ∨ ((0 ≤ k ∧ k < sl) ∧ (1 ≤ bs.length ∧ (bs.length : Int) ≤ B) ∧ PWrite s (slotF S B sl i) (B * sl).toNat (k * B) bs r)
theorem putR_one {s : Dv} {S B sl i k : Int} {bs : List Int} {r t : Int × Dv} (h : PutR s S B sl i k bs r) (g : PutR s S B sl i k bs t) : r = t := by
  rcases h with ⟨h1, rfl⟩ | ⟨h1, h2, rfl⟩ | ⟨h1, h2, h3⟩ <;> rcases g with ⟨g1, rfl⟩ | ⟨g1, g2, rfl⟩ | ⟨g1, g2, g3⟩
  all_goals first
    | rfl
    | exact absurd h1 g1
    | exact absurd g1 h1
    | exact absurd h2 g2
    | exact absurd g2 h2
    | exact pwrite_one h3 g3
theorem putR_near {s : Dv} {S B sl i k : Int} {bs : List Int} {r : Int × Dv} (hs : 1 ≤ s.size) (hb : bs.length ≤ 2000) (h : PutR s S B sl i k bs r) : Near s r.2 := by
  rcases h with ⟨_, rfl⟩ | ⟨_, _, rfl⟩ | ⟨_, _, h3⟩
  · exact Near.refl s
  · exact Near.refl s
  · exact pwrite_near hs hb h3
def KeepR (s : Dv) (B : Int) (bs : List Int) (r : Int × Dv) : Prop :=
  (¬ (1 ≤ bs.length ∧ (bs.length : Int) ≤ B) ∧ r = (3, s)) ∨ ((1 ≤ bs.length ∧ (bs.length : Int) ≤ B) ∧ PWrite s 2 B.toNat 0 bs r)
theorem keepR_one {s : Dv} {B : Int} {bs : List Int} {r t : Int × Dv} (h : KeepR s B bs r) (g : KeepR s B bs t) : r = t := by
  rcases h with ⟨h1, rfl⟩ | ⟨h1, h3⟩ <;> rcases g with ⟨g1, rfl⟩ | ⟨g1, g3⟩
  all_goals first
    | rfl
    | exact absurd h1 g1
    | exact absurd g1 h1
    | exact pwrite_one h3 g3
theorem keepR_near {s : Dv} {B : Int} {bs : List Int} {r : Int × Dv} (hs : 1 ≤ s.size) (hb : bs.length ≤ 2000) (h : KeepR s B bs r) : Near s r.2 := by
  rcases h with ⟨_, rfl⟩ | ⟨_, h3⟩
  · exact Near.refl s
  · exact pwrite_near hs hb h3

set_option maxRecDepth 100000 in
set_option maxHeartbeats 6400000 in
/-- Put of both. -/
theorem does_put (w0 w : World) (x a mk mw p0 p1 p2 : Nat) (S B sl : Int) (s : Dv) (m : Step25) (dv : Value) (hd : Dev w0 w a mk mw s) (hi : ImAt w x a S B sl p0 p1 p2) (hr : RDv w dv s) (hL : LayOk S B sl s) (hm : m.Ok) (hin : m.In w0 w0.heap.size) (hbl : m.bs.length ≤ 1000) (hzl : m.zs.length ≤ 60) (hof : s.offs ≤ 100000000) (hwr : s.wr ≤ 100000000) (hk : m.k = 0) :
    Calls Tryd.prog 30 #[.pointer (some ⟨x, 0, none⟩), .pointer (some ⟨a, 0, none⟩), dv, .agg #[.int .i64 S, .int .i64 B, .int .i64 sl], .agg m.cells.toArray] w (Does25 w0 w x a mk mw p0 p1 p2 S B sl s) := by
  have hok : s.Ok := hd.d.ok
  have hwh : Whole s := whole_of hd.d
  have HBs := Lib.hid (fun W (hb : Below w0.heap.size w0 W) => (hin.1.below hb).more hb.size)
  have HZs := Lib.hid (fun W (hb : Below w0.heap.size w0 W) => (hin.2.below hb).more hb.size)
  have GP : Hid (∀ W, ImAt W x a S B sl p0 p1 p2 → DvAt W (fun _ => True) a mk mw s → Holds W W.heap.size .u8 m.A m.bs → Calls Tryd.prog 34 #[.pointer (some ⟨x, 0, none⟩), .int .u8 m.slot, .int .i64 m.blk, .slice m.A m.bs.length m.cap] W fun e w' => ∃ r, PutR s S B sl m.slot m.blk m.bs r ∧ e = .returned (.int .i64 r.1) ∧ DvAt w' (fun _ => True) a mk mw r.2 ∧ TurnsIn (DSet a mk mw) W w') := Lib.hid (fun W h hd hh => by
    refine (put_any _ x a mk mw p0 p1 p2 S B sl m.slot m.blk m.A m.bs m.cap s W h hd hL (fun _ _ => trivial) hm.slot hm.blk (by omega) hm.b1 hm.b2 hm.bo hh hof hwr).mono ?_
    rintro e w' (⟨h1, rfl, rfl⟩ | ⟨h1, h2, rfl, rfl⟩ | ⟨h1, h2, r, h3, rfl, h4, h5⟩)
    · exact ⟨_, Or.inl ⟨h1, rfl⟩, rfl, hd, TurnsIn.refl _ _⟩
    · exact ⟨_, Or.inr (Or.inl ⟨h1, h2, rfl⟩), rfl, hd, TurnsIn.refl _ _⟩
    · exact ⟨r, Or.inr (Or.inr ⟨h1, h2, h3⟩), rfl, h4, h5⟩)
  have GD : Hid (∀ v W, RDv W v s → Calls Tryd.prog 59 #[v, .agg #[.int .i64 S, .int .i64 B, .int .i64 sl], .int .u8 m.slot, .int .i64 m.blk, .string (strOfNums m.bs)] W fun e w' => ∃ r, PutR s S B sl m.slot m.blk m.bs r ∧ GivesED r.1 r.2 W e w') := Lib.hid (fun v W h => by
    refine (rput_any v s S B sl m.slot m.blk m.bs W h hok hL (by omega) hof hwr).mono ?_
    rintro e w' (⟨h1, h2⟩ | ⟨h1, h2, h3⟩ | ⟨h1, h2, r, h3, h4⟩)
    · exact ⟨_, Or.inl ⟨h1, rfl⟩, h2⟩
    · exact ⟨_, Or.inr (Or.inl ⟨h1, h2, rfl⟩), h3⟩
    · exact ⟨r, Or.inr (Or.inr ⟨h1, h2, h3⟩), h4⟩)
  have HN : Hid (∀ r, PutR s S B sl m.slot m.blk m.bs r → Near s r.2) := Lib.hid (fun r h => putR_near (by have := hok.s1; omega) (by omega) h)
  have HR := Lib.hid (fun W (t : TurnsIn (DSet a mk mw) w W) => Sec.RDv.dset hd.d t hr)
  have h3 := Lib.hid (fun cs => In25.start hd hi m cs)
  obtain ⟨Ak, ck, Aw, cw, rfl, hkr⟩ := hr
  have H3 := Lib.hid (h3.out (dCells Ak ck Aw cw s))
  clear h3 hkr hd hi hin hL hof hwr hm hbl hzl hwh
  obtain ⟨k, blk, at_, n, view, sn, A, cap, bs, A2, cap2, zs⟩ := m
  simp only at *
  subst hk
  unfold Step25.cells zD at H3
  unfold dCells at HR H3 ⊢
  unfold Step25.cells
  simp only at H3 ⊢
  go_enter Tryd.func30, Tryd.ntmps30
  go_upto_region 1 with fail
  generalize (((w.alloc _).alloc _).alloc _).alloc _ = w4 at *
  have J4 := H3.out
  have q0 : w4.cell? ⟨w.heap.size + 1 + 1, 0, none⟩ = some (.int .i64 0) := J4.y.cell 0
  have q5 : w4.cell? ⟨w.heap.size + 1 + 1, 5, none⟩ = some (.int .u8 sn) := J4.y.cell 5
  have q1 : w4.cell? ⟨w.heap.size + 1 + 1, 1, none⟩ = some (.int .i64 blk) := J4.y.cell 1
  have q6 : w4.cell? ⟨w.heap.size + 1 + 1, 6, none⟩ = some (.slice A bs.length cap) := J4.y.cell 6
  go_upto_region 4 with (have _t := J4; go_at_call 34; (with_reducible refine (GP.out _ J4.i J4.d.d (HBs.out _ J4.d.b)).mono ?_); rintro e w5 ⟨r, hr, rfl, D5, T5⟩; have J5 := J4.turn D5 T5; clear _t J4 q0 q5 q1 q6 D5 T5)
  have q5 : w5.cell? ⟨w.heap.size + 1 + 1, 5, none⟩ = some (.int .u8 sn) := J5.y.cell 5
  have q1 : w5.cell? ⟨w.heap.size + 1 + 1, 1, none⟩ = some (.int .i64 blk) := J5.y.cell 1
  have q6 : w5.cell? ⟨w.heap.size + 1 + 1, 6, none⟩ = some (.slice A bs.length cap) := J5.y.cell 6
  have R5 := HR.out _ J5.t
  have kc := conv_bytes (P := Tryd.prog) Tryd.underlying22 Tryd.underlying5 Tryd.underlying9 w5 A bs cap _ (HBs.out _ J5.d.b)
  go_upto_region 5 with (first
    | (have _t := J5; refine wpList_load_midV (o := ⟨some 46, _, _, _, _, _⟩) (by rfl) _ _ rfl (w.heap.size) 0 rfl [.int .i64 s.size, .int .i64 s.count, .slice Ak s.kept.length ck, .slice Aw s.waits.length cw, .bool s.off, .int .i64 s.offs, .int .i64 s.fuse, .int .u64 s.wr] (block_range (L := [.int .i64 s.size, .int .i64 s.count, .slice Ak s.kept.length ck, .slice Aw s.waits.length cw, .bool s.off, .int .i64 s.offs, .int .i64 s.fuse, .int .u64 s.wr]) J5.x) Tryd.underlying31 rfl (by kernel_rfl) ?_)
    | (have _t := J5; refine wpList_load_midV (o := ⟨some 47, _, _, _, _, _⟩) (by rfl) _ _ rfl (w.heap.size + 1) 0 rfl [.int .i64 S, .int .i64 B, .int .i64 sl] (block_range (L := [.int .i64 S, .int .i64 B, .int .i64 sl]) J5.c) Tryd.underlying61 rfl (by kernel_rfl) ?_)
    | (have _t := R5; go_at_call 59; refine (GD.out _ _ R5).mono ?_; rintro e w6 ⟨r2, hr2, v6, rfl, RV6, hb6⟩; obtain rfl := putR_one hr2 hr; have J6 := J5.below hb6; obtain ⟨Ak6, ck6, Aw6, cw6, hve, hr6⟩ := RV6; have R6 : RDv w6 (.agg (dCells Ak6 ck6 Aw6 cw6 r2.2)) r2.2 := ⟨Ak6, ck6, Aw6, cw6, rfl, hr6⟩; have hz6 := J6.z.lt; subst hve; clear _t J5 R5 hr6 q5 q1 q6 kc; unfold dCells))
  have B7 : Below w6.heap.size w6 (w6.alloc (.cells #[.int .i64 r2.2.size, .int .i64 r2.2.count, .slice Ak6 r2.2.kept.length ck6, .slice Aw6 r2.2.waits.length cw6, .bool r2.2.off, .int .i64 r2.2.offs, .int .i64 r2.2.fuse, .int .u64 r2.2.wr] 31)) := (Below.refl _ _).alloc (Nat.le_refl _) _
  have X7 : Block (w6.alloc (.cells #[.int .i64 r2.2.size, .int .i64 r2.2.count, .slice Ak6 r2.2.kept.length ck6, .slice Aw6 r2.2.waits.length cw6, .bool r2.2.off, .int .i64 r2.2.offs, .int .i64 r2.2.fuse, .int .u64 r2.2.wr] 31)) w6.heap.size 31 #[.int .i64 r2.2.size, .int .i64 r2.2.count, .slice Ak6 r2.2.kept.length ck6, .slice Aw6 r2.2.waits.length cw6, .bool r2.2.off, .int .i64 r2.2.offs, .int .i64 r2.2.fuse, .int .u64 r2.2.wr] := Block.new _ _ _
  have J7 := J6.below B7
  have R7 := R6.below B7
  generalize w6.alloc (.cells #[.int .i64 r2.2.size, .int .i64 r2.2.count, .slice Ak6 r2.2.kept.length ck6, .slice Aw6 r2.2.waits.length cw6, .bool r2.2.off, .int .i64 r2.2.offs, .int .i64 r2.2.fuse, .int .u64 r2.2.wr] 31) = w7 at *
  clear J6 R6 B7
  have hne7 := Nat.ne_of_gt hz6
  generalize w6.heap.size = K7 at *
  have P7 : In25 w0 w w7.drew x a mk mw p0 p1 p2 S B sl r2.2 _ _ := J7.below (below_draws (Below.refl _ _) 1)
  have RD7 := R7.below (show Below w7.heap.size w7 w7.drew from below_draws (Below.refl _ _) 1)
  have XD7 : Block w7.drew K7 31 #[.int .i64 r2.2.size, .int .i64 r2.2.count, .slice Ak6 r2.2.kept.length ck6, .slice Aw6 r2.2.waits.length cw6, .bool r2.2.off, .int .i64 r2.2.offs, .int .i64 r2.2.fuse, .int .u64 r2.2.wr] := Block.drewN X7 1
  refine wp_region_held_drew (S := fun W => Block W K7 31 #[.int .i64 r2.2.size, .int .i64 r2.2.count, .slice Ak6 r2.2.kept.length ck6, .slice Aw6 r2.2.waits.length cw6, .bool r2.2.off, .int .i64 r2.2.offs, .int .i64 r2.2.fuse, .int .u64 r2.2.wr]) (by kernel_rfl) X7 (fun hS => ?_)
  refine wpAnyH_take (i := 0) (oi := ⟨some 58, _, _, _, _, _⟩) (v := .int .i64 r2.1) rfl (by kernel_rfl) (by kernel_rfl) (by kernel_rfl) (fun _ _ _ h => h) (Or.inl ⟨by rfl, fun W hW => by go_simp⟩) hS ?_
  try simp only [Act.put, List.setIfInBounds_toArray, List.set_cons_zero, List.set_cons_succ]
  refine wpAnyH_take (i := 1) (oi := ⟨some 59, _, _, _, _, _⟩) (v := .int .i64 r2.1) rfl (by kernel_rfl) (by kernel_rfl) (by kernel_rfl) (fun _ _ _ h => h) (Or.inl ⟨by rfl, fun W hW => by go_simp⟩) hS ?_
  try simp only [Act.put, List.setIfInBounds_toArray, List.set_cons_zero, List.set_cons_succ]
  refine wpAnyH_take (i := 2) (oi := ⟨some 60, _, _, _, _, _⟩) (v := .bool true) rfl (by kernel_rfl) (by kernel_rfl) (by kernel_rfl) (fun _ _ _ h => h) (Or.inl ⟨by rfl, fun W hW => by go_simp⟩) hS ?_
  try simp only [Act.put, List.setIfInBounds_toArray, List.set_cons_zero, List.set_cons_succ]
  refine wpAnyH_take (i := 3) (oi := ⟨some 61, _, _, _, _, _⟩) (v := .agg #[.int .i64 r2.2.size, .int .i64 r2.2.count, .slice Ak6 r2.2.kept.length ck6, .slice Aw6 r2.2.waits.length cw6, .bool r2.2.off, .int .i64 r2.2.offs, .int .i64 r2.2.fuse, .int .u64 r2.2.wr]) rfl (by kernel_rfl) (by kernel_rfl) (by kernel_rfl) (fun _ _ _ h => h) (yieldsIf_load_mid (by rfl) _ _ rfl (K7) (0) rfl [.int .i64 r2.2.size, .int .i64 r2.2.count, .slice Ak6 r2.2.kept.length ck6, .slice Aw6 r2.2.waits.length cw6, .bool r2.2.off, .int .i64 r2.2.offs, .int .i64 r2.2.fuse, .int .u64 r2.2.wr] _ (fun W hW => block_range (L := [.int .i64 r2.2.size, .int .i64 r2.2.count, .slice Ak6 r2.2.kept.length ck6, .slice Aw6 r2.2.waits.length cw6, .bool r2.2.off, .int .i64 r2.2.offs, .int .i64 r2.2.fuse, .int .u64 r2.2.wr]) hW) Tryd.underlying31 rfl (by kernel_rfl)) hS ?_
  try simp only [Act.put, List.setIfInBounds_toArray, List.set_cons_zero, List.set_cons_succ]
  refine wpAnyH_ready (rs := [4]) (by kernel_rfl) (by simp) ?_
  refine AllReadyH.cons rfl (fun K hK => ?_) AllReadyH.nil
  go_simp
  refine hK.out _ _ XD7 (fun hS => ?_)
  clear hK K
  try simp only [Act.put, List.setIfInBounds_toArray, List.set_cons_zero, List.set_cons_succ]
  refine wpAnyH_ready (rs := [5]) (by kernel_rfl) (by simp) ?_
  refine AllReadyH.cons rfl (fun K hK => ?_) AllReadyH.nil
  refine step_store_blk rfl _ _ _ rfl (cs := zD) (ds := (dCells Ak6 ck6 Aw6 cw6 r2.2).toList) (by exact P7.z) rfl rfl rfl (by kernel_rfl) (dCells_one _ _ _ _ _) ?_
  intro x9 Z9 g9
  have hfin := In25.done P7 RD7 g9 (HN.out _ hr2)
  refine hK.out _ _ (XD7.grown g9 (by intro h; injection h with h; omega)) (fun hS => ?_)
  clear hK K
  try simp only [Act.put, List.setIfInBounds_toArray, List.set_cons_zero, List.set_cons_succ]
  refine wpAnyH_done (by kernel_rfl) ?_ _
  go_wp2_with fail
  exact bodyPost_ret (v := .tuple #[.bool true, .agg (dCells Ak6 ck6 Aw6 cw6 r2.2)]) (results_tmp_row rfl _ _ (w.heap.size + 1 + 1 + 1) 31 _ (0, 0) _ _ rfl rfl Z9 Tryd.underlying31 rfl (by kernel_rfl)) rfl hfin

set_option maxRecDepth 100000 in
set_option maxHeartbeats 6400000 in
/-- Keep of both. -/
theorem does_keep (w0 w : World) (x a mk mw p0 p1 p2 : Nat) (S B sl : Int) (s : Dv) (m : Step25) (dv : Value) (hd : Dev w0 w a mk mw s) (hi : ImAt w x a S B sl p0 p1 p2) (hr : RDv w dv s) (hL : LayOk S B sl s) (hm : m.Ok) (hin : m.In w0 w0.heap.size) (hbl : m.bs.length ≤ 1000) (hzl : m.zs.length ≤ 60) (hof : s.offs ≤ 100000000) (hwr : s.wr ≤ 100000000) (hk : m.k = 1) :
    Calls Tryd.prog 30 #[.pointer (some ⟨x, 0, none⟩), .pointer (some ⟨a, 0, none⟩), dv, .agg #[.int .i64 S, .int .i64 B, .int .i64 sl], .agg m.cells.toArray] w (Does25 w0 w x a mk mw p0 p1 p2 S B sl s) := by
  have hok : s.Ok := hd.d.ok
  have hwh : Whole s := whole_of hd.d
  have HBs := Lib.hid (fun W (hb : Below w0.heap.size w0 W) => (hin.1.below hb).more hb.size)
  have HZs := Lib.hid (fun W (hb : Below w0.heap.size w0 W) => (hin.2.below hb).more hb.size)
  have GP : Hid (∀ W, ImAt W x a S B sl p0 p1 p2 → DvAt W (fun _ => True) a mk mw s → Holds W W.heap.size .u8 m.A m.bs → Calls Tryd.prog 35 #[.pointer (some ⟨x, 0, none⟩), .slice m.A m.bs.length m.cap] W fun e w' => ∃ r, KeepR s B m.bs r ∧ e = .returned (.int .i64 r.1) ∧ DvAt w' (fun _ => True) a mk mw r.2 ∧ TurnsIn (DSet a mk mw) W w') := Lib.hid (fun W h hd hh => by
    refine (keep_any _ x a mk mw p0 p1 p2 S B sl m.A m.bs m.cap s W h hd hL (fun _ _ => trivial) (by omega) hm.b1 hm.b2 hm.bo hh hof hwr).mono ?_
    rintro e w' (⟨h1, rfl, rfl⟩ | ⟨h1, r, h3, rfl, h4, h5⟩)
    · exact ⟨_, Or.inl ⟨h1, rfl⟩, rfl, hd, TurnsIn.refl _ _⟩
    · exact ⟨r, Or.inr ⟨h1, h3⟩, rfl, h4, h5⟩)
  have GD : Hid (∀ v W, RDv W v s → Calls Tryd.prog 60 #[v, .agg #[.int .i64 S, .int .i64 B, .int .i64 sl], .string (strOfNums m.bs)] W fun e w' => ∃ r, KeepR s B m.bs r ∧ GivesED r.1 r.2 W e w') := Lib.hid (fun v W h => by
    refine (rkeep_any v s S B sl m.bs W h hok hL (by omega) hof hwr).mono ?_
    rintro e w' (⟨h1, h2⟩ | ⟨h1, r, h3, h4⟩)
    · exact ⟨_, Or.inl ⟨h1, rfl⟩, h2⟩
    · exact ⟨r, Or.inr ⟨h1, h3⟩, h4⟩)
  have HN : Hid (∀ r, KeepR s B m.bs r → Near s r.2) := Lib.hid (fun r h => keepR_near (by have := hok.s1; omega) (by omega) h)
  have HR := Lib.hid (fun W (t : TurnsIn (DSet a mk mw) w W) => Sec.RDv.dset hd.d t hr)
  have h3 := Lib.hid (fun cs => In25.start hd hi m cs)
  obtain ⟨Ak, ck, Aw, cw, rfl, hkr⟩ := hr
  have H3 := Lib.hid (h3.out (dCells Ak ck Aw cw s))
  clear h3 hkr hd hi hin hL hof hwr hm hbl hzl hwh
  obtain ⟨k, blk, at_, n, view, sn, A, cap, bs, A2, cap2, zs⟩ := m
  simp only at *
  subst hk
  unfold Step25.cells zD at H3
  unfold dCells at HR H3 ⊢
  unfold Step25.cells
  simp only at H3 ⊢
  go_enter Tryd.func30, Tryd.ntmps30
  go_upto_region 1 with fail
  generalize (((w.alloc _).alloc _).alloc _).alloc _ = w4 at *
  have J4 := H3.out
  have q0 : w4.cell? ⟨w.heap.size + 1 + 1, 0, none⟩ = some (.int .i64 1) := J4.y.cell 0
  have q6 : w4.cell? ⟨w.heap.size + 1 + 1, 6, none⟩ = some (.slice A bs.length cap) := J4.y.cell 6
  go_upto_region 8 with (have _t := J4; go_at_call 35; (with_reducible refine (GP.out _ J4.i J4.d.d (HBs.out _ J4.d.b)).mono ?_); rintro e w5 ⟨r, hr, rfl, D5, T5⟩; have J5 := J4.turn D5 T5; clear _t J4 q0 q6 D5 T5)
  have q6 : w5.cell? ⟨w.heap.size + 1 + 1, 6, none⟩ = some (.slice A bs.length cap) := J5.y.cell 6
  have R5 := HR.out _ J5.t
  have kc := conv_bytes (P := Tryd.prog) Tryd.underlying22 Tryd.underlying5 Tryd.underlying9 w5 A bs cap _ (HBs.out _ J5.d.b)
  go_upto_region 9 with (first
    | (have _t := J5; refine wpList_load_midV (o := ⟨some 69, _, _, _, _, _⟩) (by rfl) _ _ rfl (w.heap.size) 0 rfl [.int .i64 s.size, .int .i64 s.count, .slice Ak s.kept.length ck, .slice Aw s.waits.length cw, .bool s.off, .int .i64 s.offs, .int .i64 s.fuse, .int .u64 s.wr] (block_range (L := [.int .i64 s.size, .int .i64 s.count, .slice Ak s.kept.length ck, .slice Aw s.waits.length cw, .bool s.off, .int .i64 s.offs, .int .i64 s.fuse, .int .u64 s.wr]) J5.x) Tryd.underlying31 rfl (by kernel_rfl) ?_)
    | (have _t := J5; refine wpList_load_midV (o := ⟨some 70, _, _, _, _, _⟩) (by rfl) _ _ rfl (w.heap.size + 1) 0 rfl [.int .i64 S, .int .i64 B, .int .i64 sl] (block_range (L := [.int .i64 S, .int .i64 B, .int .i64 sl]) J5.c) Tryd.underlying61 rfl (by kernel_rfl) ?_)
    | (have _t := R5; go_at_call 60; refine (GD.out _ _ R5).mono ?_; rintro e w6 ⟨r2, hr2, v6, rfl, RV6, hb6⟩; obtain rfl := keepR_one hr2 hr; have J6 := J5.below hb6; obtain ⟨Ak6, ck6, Aw6, cw6, hve, hr6⟩ := RV6; have R6 : RDv w6 (.agg (dCells Ak6 ck6 Aw6 cw6 r2.2)) r2.2 := ⟨Ak6, ck6, Aw6, cw6, rfl, hr6⟩; have hz6 := J6.z.lt; subst hve; clear _t J5 R5 hr6 q6 kc; unfold dCells))
  have B7 : Below w6.heap.size w6 (w6.alloc (.cells #[.int .i64 r2.2.size, .int .i64 r2.2.count, .slice Ak6 r2.2.kept.length ck6, .slice Aw6 r2.2.waits.length cw6, .bool r2.2.off, .int .i64 r2.2.offs, .int .i64 r2.2.fuse, .int .u64 r2.2.wr] 31)) := (Below.refl _ _).alloc (Nat.le_refl _) _
  have X7 : Block (w6.alloc (.cells #[.int .i64 r2.2.size, .int .i64 r2.2.count, .slice Ak6 r2.2.kept.length ck6, .slice Aw6 r2.2.waits.length cw6, .bool r2.2.off, .int .i64 r2.2.offs, .int .i64 r2.2.fuse, .int .u64 r2.2.wr] 31)) w6.heap.size 31 #[.int .i64 r2.2.size, .int .i64 r2.2.count, .slice Ak6 r2.2.kept.length ck6, .slice Aw6 r2.2.waits.length cw6, .bool r2.2.off, .int .i64 r2.2.offs, .int .i64 r2.2.fuse, .int .u64 r2.2.wr] := Block.new _ _ _
  have J7 := J6.below B7
  have R7 := R6.below B7
  generalize w6.alloc (.cells #[.int .i64 r2.2.size, .int .i64 r2.2.count, .slice Ak6 r2.2.kept.length ck6, .slice Aw6 r2.2.waits.length cw6, .bool r2.2.off, .int .i64 r2.2.offs, .int .i64 r2.2.fuse, .int .u64 r2.2.wr] 31) = w7 at *
  clear J6 R6 B7
  have hne7 := Nat.ne_of_gt hz6
  generalize w6.heap.size = K7 at *
  have P7 : In25 w0 w w7.drew x a mk mw p0 p1 p2 S B sl r2.2 _ _ := J7.below (below_draws (Below.refl _ _) 1)
  have RD7 := R7.below (show Below w7.heap.size w7 w7.drew from below_draws (Below.refl _ _) 1)
  have XD7 : Block w7.drew K7 31 #[.int .i64 r2.2.size, .int .i64 r2.2.count, .slice Ak6 r2.2.kept.length ck6, .slice Aw6 r2.2.waits.length cw6, .bool r2.2.off, .int .i64 r2.2.offs, .int .i64 r2.2.fuse, .int .u64 r2.2.wr] := Block.drewN X7 1
  refine wp_region_held_drew (S := fun W => Block W K7 31 #[.int .i64 r2.2.size, .int .i64 r2.2.count, .slice Ak6 r2.2.kept.length ck6, .slice Aw6 r2.2.waits.length cw6, .bool r2.2.off, .int .i64 r2.2.offs, .int .i64 r2.2.fuse, .int .u64 r2.2.wr]) (by kernel_rfl) X7 (fun hS => ?_)
  refine wpAnyH_take (i := 0) (oi := ⟨some 77, _, _, _, _, _⟩) (v := .int .i64 r2.1) rfl (by kernel_rfl) (by kernel_rfl) (by kernel_rfl) (fun _ _ _ h => h) (Or.inl ⟨by rfl, fun W hW => by go_simp⟩) hS ?_
  try simp only [Act.put, List.setIfInBounds_toArray, List.set_cons_zero, List.set_cons_succ]
  refine wpAnyH_take (i := 1) (oi := ⟨some 78, _, _, _, _, _⟩) (v := .int .i64 r2.1) rfl (by kernel_rfl) (by kernel_rfl) (by kernel_rfl) (fun _ _ _ h => h) (Or.inl ⟨by rfl, fun W hW => by go_simp⟩) hS ?_
  try simp only [Act.put, List.setIfInBounds_toArray, List.set_cons_zero, List.set_cons_succ]
  refine wpAnyH_take (i := 2) (oi := ⟨some 79, _, _, _, _, _⟩) (v := .bool true) rfl (by kernel_rfl) (by kernel_rfl) (by kernel_rfl) (fun _ _ _ h => h) (Or.inl ⟨by rfl, fun W hW => by go_simp⟩) hS ?_
  try simp only [Act.put, List.setIfInBounds_toArray, List.set_cons_zero, List.set_cons_succ]
  refine wpAnyH_take (i := 3) (oi := ⟨some 80, _, _, _, _, _⟩) (v := .agg #[.int .i64 r2.2.size, .int .i64 r2.2.count, .slice Ak6 r2.2.kept.length ck6, .slice Aw6 r2.2.waits.length cw6, .bool r2.2.off, .int .i64 r2.2.offs, .int .i64 r2.2.fuse, .int .u64 r2.2.wr]) rfl (by kernel_rfl) (by kernel_rfl) (by kernel_rfl) (fun _ _ _ h => h) (yieldsIf_load_mid (by rfl) _ _ rfl (K7) (0) rfl [.int .i64 r2.2.size, .int .i64 r2.2.count, .slice Ak6 r2.2.kept.length ck6, .slice Aw6 r2.2.waits.length cw6, .bool r2.2.off, .int .i64 r2.2.offs, .int .i64 r2.2.fuse, .int .u64 r2.2.wr] _ (fun W hW => block_range (L := [.int .i64 r2.2.size, .int .i64 r2.2.count, .slice Ak6 r2.2.kept.length ck6, .slice Aw6 r2.2.waits.length cw6, .bool r2.2.off, .int .i64 r2.2.offs, .int .i64 r2.2.fuse, .int .u64 r2.2.wr]) hW) Tryd.underlying31 rfl (by kernel_rfl)) hS ?_
  try simp only [Act.put, List.setIfInBounds_toArray, List.set_cons_zero, List.set_cons_succ]
  refine wpAnyH_ready (rs := [4]) (by kernel_rfl) (by simp) ?_
  refine AllReadyH.cons rfl (fun K hK => ?_) AllReadyH.nil
  go_simp
  refine hK.out _ _ XD7 (fun hS => ?_)
  clear hK K
  try simp only [Act.put, List.setIfInBounds_toArray, List.set_cons_zero, List.set_cons_succ]
  refine wpAnyH_ready (rs := [5]) (by kernel_rfl) (by simp) ?_
  refine AllReadyH.cons rfl (fun K hK => ?_) AllReadyH.nil
  refine step_store_blk rfl _ _ _ rfl (cs := zD) (ds := (dCells Ak6 ck6 Aw6 cw6 r2.2).toList) (by exact P7.z) rfl rfl rfl (by kernel_rfl) (dCells_one _ _ _ _ _) ?_
  intro x9 Z9 g9
  have hfin := In25.done P7 RD7 g9 (HN.out _ hr2)
  refine hK.out _ _ (XD7.grown g9 (by intro h; injection h with h; omega)) (fun hS => ?_)
  clear hK K
  try simp only [Act.put, List.setIfInBounds_toArray, List.set_cons_zero, List.set_cons_succ]
  refine wpAnyH_done (by kernel_rfl) ?_ _
  go_wp2_with fail
  exact bodyPost_ret (v := .tuple #[.bool true, .agg (dCells Ak6 ck6 Aw6 cw6 r2.2)]) (results_tmp_row rfl _ _ (w.heap.size + 1 + 1 + 1) 31 _ (0, 0) _ _ rfl rfl Z9 Tryd.underlying31 rfl (by kernel_rfl)) rfl hfin
end Go.Proofs.YtpnodocjpedcmaaDoor.Im
