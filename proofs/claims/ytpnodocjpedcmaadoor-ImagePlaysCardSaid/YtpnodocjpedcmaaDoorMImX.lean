/-
  Layer 25, image: a step of an image on a device, and of the document's: contracts. Conditions: as each theorem names.
-/
import Derived.Test.YtpnodocjpedcmaaDoorMImU
import Derived.Test.YtpnodocjpedcmaaDoorMImV
import Derived.Test.YtpnodocjpedcmaaDoorMGIays8
import Derived.Test.YtpnodocjpedcmaaDoorMGIays14
import Derived.Test.YtpnodocjpedcmaaDoorMGIays0
import Derived.Deep.RegionHeld
namespace Go.Proofs.YtpnodocjpedcmaaDoor.Im
open Go.ChangeShapes Go.WideShapes Go.ChangeAt Go.RowKit Go.Proofs.YtpnodocjpedcmaaDoor.Kit Go.Proofs.YtpnodocjpedcmaaDoor.Pt
open Go.Proofs.YtpnodocjpedcmaaDoor.Sec (Dv DvAt DSet Dev RDv dCells dCells_one zD zD_noText GivesED GivesD GivesS GivesB results_tmp_row block_range wpList_load_midV)

/-- Within a step: the boxes and the result's cell lie behind the world that was called in. -/
structure In25 (w0 w W : World) (x a mk mw p0 p1 p2 : Nat) (S B sl : Int) (s : Dv) (m : Step25) (cs : Array Value) : Prop where
  d : Dev w0 W a mk mw s
  i : ImAt W x a S B sl p0 p1 p2
  t : TurnsIn (DSet a mk mw) w W
  x : Block W w.heap.size 31 cs
  c : Block W (w.heap.size + 1) 61 #[.int .i64 S, .int .i64 B, .int .i64 sl]
  y : Block W (w.heap.size + 1 + 1) 73 m.cells.toArray
  z : Block W (w.heap.size + 1 + 1 + 1) 31 zD
  g : w0.heap.size ≤ w.heap.size
section
variable {w0 w W W' : World} {x a mk mw p0 p1 p2 : Nat} {S B sl : Int} {s s' : Dv} {m : Step25} {cs cs' : Array Value}
theorem In25.below (h : In25 w0 w W x a mk mw p0 p1 p2 S B sl s m cs) (hb : Below W.heap.size W W') : In25 w0 w W' x a mk mw p0 p1 p2 S B sl s m cs :=
  ⟨h.d.below hb, h.i.below hb, h.t.trans (.ofNew hb), h.x.below hb h.x.lt, h.c.below hb h.c.lt, h.y.below hb h.y.lt, h.z.below hb h.z.lt, h.g⟩
theorem In25.turn (h : In25 w0 w W x a mk mw p0 p1 p2 S B sl s m cs) {I : Nat → Prop} (hd : DvAt W' I a mk mw s') (t : TurnsIn (DSet a mk mw) W W') : In25 w0 w W' x a mk mw p0 p1 p2 S B sl s' m cs :=
  ⟨h.d.turn hd t, h.i.turn h.d.d t, h.t.trans t, Sec.Block.dset h.d.d t h.x (by decide), Sec.Block.dset h.d.d t h.c (by decide), Sec.Block.dset h.d.d t h.y (by decide), Sec.Block.dset h.d.d t h.z (by decide), h.g⟩
theorem In25.start (h : Dev w0 w a mk mw s) (i : ImAt w x a S B sl p0 p1 p2) (m : Step25) (cs : Array Value) : In25 w0 w ((((w.alloc (.cells cs 31)).alloc (.cells #[.int .i64 S, .int .i64 B, .int .i64 sl] 61)).alloc (.cells m.cells.toArray 73)).alloc (.cells zD 31)) x a mk mw p0 p1 p2 S B sl s m cs := by
  have hX := Block.new w 31 cs
  have b1 : Below w.heap.size w (w.alloc (.cells cs 31)) := (Below.refl _ _).alloc (Nat.le_refl _) _
  have z1 : (w.alloc (.cells cs 31)).heap.size = w.heap.size + 1 := by simp
  generalize w.alloc (.cells cs 31) = W1 at *
  have hC := Block.new W1 61 #[.int .i64 S, .int .i64 B, .int .i64 sl]
  rw [z1] at hC
  have c2 : Below W1.heap.size W1 (W1.alloc (.cells #[.int .i64 S, .int .i64 B, .int .i64 sl] 61)) := (Below.refl _ _).alloc (Nat.le_refl _) _
  have z2 : (W1.alloc (.cells #[.int .i64 S, .int .i64 B, .int .i64 sl] 61)).heap.size = w.heap.size + 1 + 1 := by simp [z1]
  generalize W1.alloc (.cells #[.int .i64 S, .int .i64 B, .int .i64 sl] 61) = W2 at *
  have hY := Block.new W2 73 m.cells.toArray
  rw [z2] at hY
  have c3 : Below W2.heap.size W2 (W2.alloc (.cells m.cells.toArray 73)) := (Below.refl _ _).alloc (Nat.le_refl _) _
  have z3 : (W2.alloc (.cells m.cells.toArray 73)).heap.size = w.heap.size + 1 + 1 + 1 := by simp [z2]
  generalize W2.alloc (.cells m.cells.toArray 73) = W3 at *
  have hZ := Block.new W3 31 zD
  rw [z3] at hZ
  have c4 : Below W3.heap.size W3 (W3.alloc (.cells zD 31)) := (Below.refl _ _).alloc (Nat.le_refl _) _
  generalize W3.alloc (.cells zD 31) = W4 at *
  have b4 : Below w.heap.size w W4 := ((b1.trans (c2.mono b1.size)).trans ((c3.trans (c4.mono c3.size)).mono (by omega)))
  exact ⟨h.below b4, i.below b4, .ofNew b4, (((hX.below c2 hX.lt).below c3 (by have := hX.lt; omega)).below c4 (by have := hX.lt; omega)), ((hC.below c3 hC.lt).below c4 (by have := hC.lt; omega)), hY.below c4 hY.lt, hZ, h.b.size⟩
theorem own_conv {W : World} {B0 : Nat} {v : Value} {xs : List Int} (h : Own W B0 5 .u8 v xs) : (convert 22 9 v).run Tryd.prog W = .ok (.string (strOfNums xs)) W := by
  obtain ⟨A, c, rfl, -, -, hh⟩ := h.opened
  exact conv_bytes (P := Tryd.prog) Tryd.underlying22 Tryd.underlying5 Tryd.underlying9 W A xs c _ hh
/-- What a step leaves: both told alike, and the device and the document's are the same. -/
def Does25 (w0 w : World) (x a mk mw p0 p1 p2 : Nat) (S B sl : Int) (s : Dv) (e : Ending) (w' : World) : Prop :=
  ∃ t v, e = .returned (.tuple #[.bool true, v]) ∧ RDv w' v t ∧ Dev w0 w' a mk mw t ∧ ImAt w' x a S B sl p0 p1 p2 ∧ TurnsIn (DSet a mk mw) w w' ∧ Near s t
/-- The result's cell is filled. -/
theorem In25.done {t : Dv} (h : In25 w0 w W x a mk mw p0 p1 p2 S B sl t m cs) {Ak : Option Addr} {ck : Nat} {Aw : Option Addr} {cw : Nat} (hr : RDv W (.agg (dCells Ak ck Aw cw t)) t) (gr : W.grownBy W' (some (w.heap.size + 1 + 1 + 1))) (hn : Near s t) :
    Does25 w0 w x a mk mw p0 p1 p2 S B sl s (.returned (.tuple #[.bool true, .agg (dCells Ak ck Aw cw t)])) W' := by
  have hg := h.g
  have bw : Below w.heap.size w w := Below.refl _ _
  have tt : TurnsIn (fun b => b = w.heap.size + 1 + 1 + 1) W W' := .ofGrown gr fun b hb => by injection hb with hb; exact hb.symm
  have hz := h.z
  refine ⟨t, _, rfl, hr.kept hz zD_noText gr, h.d.grown hz (by decide) (by decide) (by omega) gr, ?_, h.t.then_ tt (fun b hb e => by omega), hn⟩
  have ne : ∀ {g : Nat} {ty : TypeId} {cs : Array Value}, Block W g ty cs → ty ≠ 31 → g ≠ w.heap.size + 1 + 1 + 1 := by
    intro g ty cs hg hne e
    exact block_ne hg hz hne e
  exact ⟨Block.out h.i.x tt (ne h.i.x (by decide)), Block.out h.i.p0 tt (ne h.i.p0 (by decide)), Block.out h.i.p1 tt (ne h.i.p1 (by decide)), Block.out h.i.p2 tt (ne h.i.p2 (by decide))⟩
end

set_option maxRecDepth 100000 in
set_option maxHeartbeats 6400000 in
/-- Kept of both. -/
theorem does_kept (w0 w : World) (x a mk mw p0 p1 p2 : Nat) (S B sl : Int) (s : Dv) (m : Step25) (dv : Value) (hd : Dev w0 w a mk mw s) (hi : ImAt w x a S B sl p0 p1 p2) (hr : RDv w dv s) (hL : LayOk S B sl s) (hm : m.Ok) (hin : m.In w0 w0.heap.size) (hbl : m.bs.length ≤ 1000) (hzl : m.zs.length ≤ 60) (hof : s.offs ≤ 100000000) (hwr : s.wr ≤ 100000000) (hk : m.k = 2) :
    Calls Tryd.prog 30 #[.pointer (some ⟨x, 0, none⟩), .pointer (some ⟨a, 0, none⟩), dv, .agg #[.int .i64 S, .int .i64 B, .int .i64 sl], .agg m.cells.toArray] w (Does25 w0 w x a mk mw p0 p1 p2 S B sl s) := by
  have hok : s.Ok := hd.d.ok
  have hwh : Whole s := whole_of hd.d
  have HBs := Lib.hid (fun W (hb : Below w0.heap.size w0 W) => (hin.1.below hb).more hb.size)
  have HZs := Lib.hid (fun W (hb : Below w0.heap.size w0 W) => (hin.2.below hb).more hb.size)
  have GK := Lib.hid (fun W (h : ImAt W x a S B sl p0 p1 p2) (hd : DvAt W (fun _ => True) a mk mw s) => kept_any _ x a mk mw p0 p1 p2 S B sl m.n s W h hd hL)
  have GD := Lib.hid (fun v W (h : RDv W v s) => rkept_any v s S B sl m.n W h hok hwh hL)
  have HR := Lib.hid (fun W (t : TurnsIn (DSet a mk mw) w W) => Sec.RDv.dset hd.d t hr)
  have h3 := Lib.hid (fun cs => In25.start hd hi m cs)
  obtain ⟨Ak, ck, Aw, cw, rfl, hkr⟩ := hr
  have H3 := Lib.hid (h3.out (dCells Ak ck Aw cw s))
  clear h3 hkr hd hi hin hL hof hwr hm hbl hzl hwh
  obtain ⟨k, blk, at_, n, view, sn, A, cap, bs, A2, cap2, zs⟩ := m
  simp only at *
  subst hk
  unfold Step25.cells zD at H3
  unfold dCells at HR H3 ⊢
  unfold Step25.cells
  simp only at H3 ⊢
  go_enter Tryd.func30, Tryd.ntmps30
  go_upto_region 1 with fail
  generalize (((w.alloc _).alloc _).alloc _).alloc _ = w4 at *
  have J4 := H3.out
  have q0 : w4.cell? ⟨w.heap.size + 1 + 1, 0, none⟩ = some (.int .i64 2) := J4.y.cell 0
  have q3 : w4.cell? ⟨w.heap.size + 1 + 1, 3, none⟩ = some (.int .i64 n) := J4.y.cell 3
  go_upto_region 12 with (have _t := J4; go_at_call 38; (with_reducible refine (GK.out _ J4.i J4.d.d).mono ?_); rintro e w5 ⟨r, hr, v5, rfl, own5, hb5⟩; have J5 := J4.below hb5; clear _t J4 q0 q3)
  have q3 : w5.cell? ⟨w.heap.size + 1 + 1, 3, none⟩ = some (.int .i64 n) := J5.y.cell 3
  have R5 := HR.out _ J5.t
  go_upto_region 13 with (first
    | (have _t := J5; refine wpList_load_midV (o := ⟨some 91, _, _, _, _, _⟩) (by rfl) _ _ rfl (w.heap.size) 0 rfl [.int .i64 s.size, .int .i64 s.count, .slice Ak s.kept.length ck, .slice Aw s.waits.length cw, .bool s.off, .int .i64 s.offs, .int .i64 s.fuse, .int .u64 s.wr] (block_range (L := [.int .i64 s.size, .int .i64 s.count, .slice Ak s.kept.length ck, .slice Aw s.waits.length cw, .bool s.off, .int .i64 s.offs, .int .i64 s.fuse, .int .u64 s.wr]) J5.x) Tryd.underlying31 rfl (by kernel_rfl) ?_)
    | (have _t := J5; refine wpList_load_midV (o := ⟨some 92, _, _, _, _, _⟩) (by rfl) _ _ rfl (w.heap.size + 1) 0 rfl [.int .i64 S, .int .i64 B, .int .i64 sl] (block_range (L := [.int .i64 S, .int .i64 B, .int .i64 sl]) J5.c) Tryd.underlying61 rfl (by kernel_rfl) ?_)
    | (have _t := R5; go_at_call 61; refine (GD.out _ _ R5).mono ?_; rintro e w6 ⟨r2, hr2, rfl, hb6⟩; obtain rfl := pread_one hr2 hr; have J6 := J5.below hb6; have R6 := R5.below hb6; have own6 := Own.below own5 hb6; clear _t J5 R5 own5 hr2 q3))
  have kc : ∀ W, Own W w4.heap.size 5 .u8 v5 r2.1 → (convert 22 9 v5).run Tryd.prog W = .ok (.string (strOfNums r2.1)) W := fun W h => own_conv h
  have P6 : In25 w0 w w6.drew x a mk mw p0 p1 p2 S B sl s _ _ := J6.below (below_draws (Below.refl _ _) 1)
  have RD6 := R6.below (show Below w6.heap.size w6 w6.drew from below_draws (Below.refl _ _) 1)
  have od6 := Own.drewN own6 1
  generalize strOfNums r2.1 = SS at *
  generalize r2.1 = xs at *
  generalize r2.2 = E at *
  refine wp_region_held_drew (S := fun W => Block W (w.heap.size) 31 #[.int .i64 s.size, .int .i64 s.count, .slice Ak s.kept.length ck, .slice Aw s.waits.length cw, .bool s.off, .int .i64 s.offs, .int .i64 s.fuse, .int .u64 s.wr] ∧ Own W w4.heap.size 5 .u8 v5 xs) (by kernel_rfl) ⟨J6.x, own6⟩ (fun hS => ?_)
  refine wpAnyH_take (i := 0) (oi := ⟨some 98, _, _, _, _, _⟩) (v := v5) rfl (by kernel_rfl) (by kernel_rfl) (by kernel_rfl) (fun _ _ _ h => h) (Or.inl ⟨by rfl, fun W hW => by go_simp⟩) hS ?_
  try simp only [Act.put, List.setIfInBounds_toArray, List.set_cons_zero, List.set_cons_succ]
  refine wpAnyH_take (i := 1) (oi := ⟨some 99, _, _, _, _, _⟩) (v := .string SS) rfl (by kernel_rfl) (by kernel_rfl) (by kernel_rfl) (fun _ _ _ h => h) (Or.inl ⟨by rfl, fun W hW => by have q := kc W hW.2; go_simp⟩) hS ?_
  try simp only [Act.put, List.setIfInBounds_toArray, List.set_cons_zero, List.set_cons_succ]
  refine wpAnyH_take (i := 2) (oi := ⟨some 100, _, _, _, _, _⟩) (v := .string SS) rfl (by kernel_rfl) (by kernel_rfl) (by kernel_rfl) (fun _ _ _ h => h) (Or.inl ⟨by rfl, fun W hW => by go_simp⟩) hS ?_
  try simp only [Act.put, List.setIfInBounds_toArray, List.set_cons_zero, List.set_cons_succ]
  refine wpAnyH_take (i := 3) (oi := ⟨some 101, _, _, _, _, _⟩) (v := .bool true) rfl (by kernel_rfl) (by kernel_rfl) (by kernel_rfl) (fun _ _ _ h => h) (Or.inl ⟨by rfl, fun W hW => by go_simp⟩) hS ?_
  try simp only [Act.put, List.setIfInBounds_toArray, List.set_cons_zero, List.set_cons_succ]
  refine wpAnyH_take (i := 4) (oi := ⟨some 102, _, _, _, _, _⟩) (v := .bool true) rfl (by kernel_rfl) (by kernel_rfl) (by kernel_rfl) (fun _ _ _ h => h) (Or.inl ⟨by rfl, fun W hW => by go_simp⟩) hS ?_
  try simp only [Act.put, List.setIfInBounds_toArray, List.set_cons_zero, List.set_cons_succ]
  refine wpAnyH_take (i := 5) (oi := ⟨some 103, _, _, _, _, _⟩) (v := .int .i64 E) rfl (by kernel_rfl) (by kernel_rfl) (by kernel_rfl) (fun _ _ _ h => h) (Or.inl ⟨by rfl, fun W hW => by go_simp⟩) hS ?_
  try simp only [Act.put, List.setIfInBounds_toArray, List.set_cons_zero, List.set_cons_succ]
  refine wpAnyH_take (i := 6) (oi := ⟨some 104, _, _, _, _, _⟩) (v := .int .i64 E) rfl (by kernel_rfl) (by kernel_rfl) (by kernel_rfl) (fun _ _ _ h => h) (Or.inl ⟨by rfl, fun W hW => by go_simp⟩) hS ?_
  try simp only [Act.put, List.setIfInBounds_toArray, List.set_cons_zero, List.set_cons_succ]
  refine wpAnyH_take (i := 7) (oi := ⟨some 105, _, _, _, _, _⟩) (v := .bool true) rfl (by kernel_rfl) (by kernel_rfl) (by kernel_rfl) (fun _ _ _ h => h) (Or.inl ⟨by rfl, fun W hW => by go_simp⟩) hS ?_
  try simp only [Act.put, List.setIfInBounds_toArray, List.set_cons_zero, List.set_cons_succ]
  refine wpAnyH_take (i := 8) (oi := ⟨some 106, _, _, _, _, _⟩) (v := .bool true) rfl (by kernel_rfl) (by kernel_rfl) (by kernel_rfl) (fun _ _ _ h => h) (Or.inl ⟨by rfl, fun W hW => by go_simp⟩) hS ?_
  try simp only [Act.put, List.setIfInBounds_toArray, List.set_cons_zero, List.set_cons_succ]
  refine wpAnyH_take (i := 9) (oi := ⟨some 107, _, _, _, _, _⟩) (v := .agg #[.int .i64 s.size, .int .i64 s.count, .slice Ak s.kept.length ck, .slice Aw s.waits.length cw, .bool s.off, .int .i64 s.offs, .int .i64 s.fuse, .int .u64 s.wr]) rfl (by kernel_rfl) (by kernel_rfl) (by kernel_rfl) (fun _ _ _ h => h) (yieldsIf_load_mid (by rfl) _ _ rfl (w.heap.size) (0) rfl [.int .i64 s.size, .int .i64 s.count, .slice Ak s.kept.length ck, .slice Aw s.waits.length cw, .bool s.off, .int .i64 s.offs, .int .i64 s.fuse, .int .u64 s.wr] _ (fun W hW => block_range (L := [.int .i64 s.size, .int .i64 s.count, .slice Ak s.kept.length ck, .slice Aw s.waits.length cw, .bool s.off, .int .i64 s.offs, .int .i64 s.fuse, .int .u64 s.wr]) hW.1) Tryd.underlying31 rfl (by kernel_rfl)) hS ?_
  try simp only [Act.put, List.setIfInBounds_toArray, List.set_cons_zero, List.set_cons_succ]
  refine wpAnyH_ready (rs := [10]) (by kernel_rfl) (by simp) ?_
  refine AllReadyH.cons rfl (fun K hK => ?_) AllReadyH.nil
  go_simp
  refine hK.out _ _ ⟨P6.x, od6⟩ (fun hS => ?_)
  clear hK K
  try simp only [Act.put, List.setIfInBounds_toArray, List.set_cons_zero, List.set_cons_succ]
  refine wpAnyH_ready (rs := [11]) (by kernel_rfl) (by simp) ?_
  refine AllReadyH.cons rfl (fun K hK => ?_) AllReadyH.nil
  refine step_store_blk rfl _ _ _ rfl (cs := zD) (ds := (dCells Ak ck Aw cw s).toList) (by exact P6.z) rfl rfl rfl (by kernel_rfl) (dCells_one _ _ _ _ _) ?_
  intro x9 Z9 g9
  have hfin := In25.done P6 RD6 g9 (Near.refl s)
  refine hK.out _ _ ⟨P6.x.grown g9 (by intro h; injection h with h; omega), od6.kept g9 (Or.inr (od6.ne_block P6.z (by decide)))⟩ (fun hS => ?_)
  clear hK K
  try simp only [Act.put, List.setIfInBounds_toArray, List.set_cons_zero, List.set_cons_succ]
  refine wpAnyH_done (by kernel_rfl) ?_ _
  go_wp2_with fail
  exact bodyPost_ret (v := .tuple #[.bool true, .agg (dCells Ak ck Aw cw s)]) (results_tmp_row rfl _ _ (w.heap.size + 1 + 1 + 1) 31 _ (0, 0) _ _ rfl rfl Z9 Tryd.underlying31 rfl (by kernel_rfl)) rfl hfin
end Go.Proofs.YtpnodocjpedcmaaDoor.Im
