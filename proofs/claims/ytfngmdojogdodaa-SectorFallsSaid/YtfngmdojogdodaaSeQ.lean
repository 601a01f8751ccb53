/-
  Layer 6, sector: a step of both devices: Back, Fuse, Sync, Read: contracts. Conditions: as each theorem names.
-/
import Derived.Test.YtfngmdojogdodaaSeP
namespace Go.Proofs.Ytfngmdojogdodaa.Sec
open Go.ChangeShapes Go.WideShapes Go.ChangeAt Go.RowKit Go.Proofs.Ytfngmdojogdodaa.Kit

set_option maxRecDepth 100000 in
set_option maxHeartbeats 6400000 in
theorem does_back (w0 w : World) (a mk mw : Nat) (s m : Dv) (o : Step6) (dv : Value) (hd : Dev w0 w a mk mw s) (hr : RDv w dv m) (hk : o.k = 4) (hok : m.Ok) (hs : s.offs ≤ 1000000000) (hm : 0 ≤ m.offs ∧ m.offs ≤ 1000000000) (hz : o.zs.length ≤ 1000000000) (hzo : Octets o.zs) (hzr : Holds w w.heap.size .u8 o.A o.zs) :
    Calls Try.prog 13 #[.pointer (some ⟨a, 0, none⟩), dv, .agg o.cells.toArray] w (Does w0 w a mk mw (s.back o.zs) (m.back o.zs) (s = m)) := by
  have HR := Lib.hid (fun W (t : TurnsIn (DSet a mk mw) w W) => hr.dset hd.d t)
  have h3 := Lib.hid (fun cs => In6.start hd o cs)
  have HP := Lib.hid (fun W (t : TurnsIn (DSet a mk mw) w W) => (hd.d.holds t hzr (Nat.le_refl _)).more t.size)
  obtain ⟨Ak, ck, Aw, cw, rfl, hkr⟩ := hr
  have HKR := Lib.hid hkr
  clear hkr
  obtain ⟨k, i, b, long, A, cap, zs⟩ := o
  simp only at *
  unfold Step6.cells zD at h3
  unfold dCells at HR ⊢
  unfold Step6.cells
  subst hk
  have GO := Lib.hid (fun (W : World) (h : Dev w0 W a mk mw s) (hh : Holds W W.heap.size .u8 A zs) => back_any _ a mk mw s A zs cap W h.d (fun _ _ => trivial) hz hzo hh hs)
  have GD := Lib.hid (fun (v : Value) (W : World) (h : RDv W v m) (hh : Holds W W.heap.size .u8 A zs) => rback_any v m A zs cap W h hok hz hh hm.2)
  obtain ⟨sb, hsb⟩ : ∃ sb, s.back zs = sb := ⟨_, rfl⟩
  obtain ⟨mb, hmb⟩ : ∃ mb, m.back zs = mb := ⟨_, rfl⟩
  rw [hsb] at GO ⊢
  rw [hmb] at GD ⊢
  clear hs hm hz hzo hzr hok hsb hmb
  have H3 := Lib.hid (h3.out #[.int .i64 m.size, .int .i64 m.count, .slice Ak m.kept.length ck, .slice Aw m.waits.length cw, .bool m.off, .int .i64 m.offs, .int .i64 m.fuse, .int .u64 m.wr])
  clear hd h3
  go_enter Try.func13, Try.ntmps13
  go_wp2_with (first
    | (go_at_call 21; refine (In6.moves H3.out (GO.out _ H3.out.d (HP.out _ H3.out.t))).mono ?_; rintro e w4 ⟨rfl, J4⟩; have RV4 := HR.out _ J4.t; have y1 : w4.cell? ⟨w.heap.size + 1, 1, none⟩ = some (.int .i64 i) := J4.y.cell 1; have y4 : w4.cell? ⟨w.heap.size + 1, 4, none⟩ = some (.slice A zs.length cap) := J4.y.cell 4; clear H3)
    | (have _t := J4; refine wpList_load_midV (by rfl) _ _ rfl w.heap.size 0 rfl [.int .i64 m.size, .int .i64 m.count, .slice Ak m.kept.length ck, .slice Aw m.waits.length cw, .bool m.off, .int .i64 m.offs, .int .i64 m.fuse, .int .u64 m.wr] (block_range J4.x) Try.underlying33 rfl (by kernel_rfl) ?_)
    | (have _t := RV4; go_at_call 29; refine (GD.out _ _ RV4 (HP.out _ J4.t)).mono ?_; rintro e w7 ⟨v7, rfl, hv7, hb7⟩; have J7 := J4.below hb7; obtain ⟨Ak7, ck7, Aw7, cw7, hve, hr7⟩ := hv7; have RV7 : RDv w7 (.agg (dCells Ak7 ck7 Aw7 cw7 mb)) mb := ⟨Ak7, ck7, Aw7, cw7, rfl, hr7⟩; subst hve; clear _t J4 RV4 y1 y4)
    | (have _t := J7; refine wpList_store_blk (cs := zD) rfl _ _ _ rfl (ds := (dCells Ak7 ck7 Aw7 cw7 mb).toList) (by exact J7.z) rfl rfl rfl (by kernel_rfl) (dCells_one _ _ _ _ _) ?_; clear _t; intro w8 X8 g8))
  try simp only [Act.put]
  exact bodyPost_ret (v := .tuple #[.bool true, .agg (dCells Ak7 ck7 Aw7 cw7 mb)]) (results_tmp_row rfl _ _ (w.heap.size + 1 + 1) 33 _ (0, 0) _ _ rfl rfl X8 Try.underlying33 rfl (by kernel_rfl)) rfl (J7.done X8 g8 RV7 (fun _ => rfl))

/-- The document's fuse is set in its box. -/
theorem fuse_row {W : World} {g : Nat} {Ak : Option Addr} {ck : Nat} {Aw : Option Addr} {cw : Nat} {m : Dv} {cs : Array Value} (h : RDv W (.agg #[.int .i64 m.size, .int .i64 m.count, .slice Ak m.kept.length ck, .slice Aw m.waits.length cw, .bool m.off, .int .i64 m.offs, .int .i64 m.fuse, .int .u64 m.wr]) m)
    (X : Block W g 33 cs) (hc : cs = dCells Ak ck Aw cw m) (n : Int) : RDv (W.setCell ⟨g, 6, none⟩ (.int .i64 n)) (.agg (dCells Ak ck Aw cw { m with fuse := n })) { m with fuse := n } := by
  have t : TurnsIn (fun b => b = g) W (W.setCell ⟨g, 6, none⟩ (.int .i64 n)) := TurnsIn.setCell (S := fun b => b = g) (p := ⟨g, 6, none⟩) (TurnsIn.refl _ W) (Or.inl rfl) _
  obtain ⟨Ak2, ck2, Aw2, cw2, e, h1, h2, r⟩ := h.turn X (by rw [hc]; exact dCells_noText _ _ _ _ _) t
  injection e with e
  unfold dCells at e
  simp at e
  obtain ⟨⟨rfl, rfl⟩, rfl, rfl⟩ := e
  exact ⟨Ak, ck, Aw, cw, rfl, h1, h2, r⟩

set_option maxRecDepth 100000 in
set_option maxHeartbeats 6400000 in
theorem does_fuse (w0 w : World) (a mk mw : Nat) (s m : Dv) (o : Step6) (dv : Value) (hd : Dev w0 w a mk mw s) (hr : RDv w dv m) (hk : o.k = 2) (hok : m.Ok) (hs : s.offs ≤ 1000000000) (hm : 0 ≤ m.offs ∧ m.offs ≤ 1000000000) (hi : -9223372036854775808 ≤ o.i ∧ o.i ≤ 9223372036854775807) :
    Calls Try.prog 13 #[.pointer (some ⟨a, 0, none⟩), dv, .agg o.cells.toArray] w (Does w0 w a mk mw (s.fused o.i) (m.fused o.i) (s = m)) := by
  have HR := Lib.hid (fun W (t : TurnsIn (DSet a mk mw) w W) => hr.dset hd.d t)
  have h3 := Lib.hid (fun cs => In6.start hd o cs)
  obtain ⟨Ak, ck, Aw, cw, rfl, hkr⟩ := hr
  have HKR := Lib.hid hkr
  clear hkr
  obtain ⟨k, i, b, long, A, cap, zs⟩ := o
  simp only at *
  unfold Step6.cells zD at h3
  unfold dCells at HR ⊢
  unfold Step6.cells
  subst hk
  have GO := Lib.hid (fun (W : World) (h : Dev w0 W a mk mw s) => fuse_any _ a mk mw s i W h.d hi)
  obtain ⟨sb, hsb⟩ : ∃ sb, s.fused i = sb := ⟨_, rfl⟩
  obtain ⟨mb, hmb⟩ : ∃ mb, m.fused i = mb := ⟨_, rfl⟩
  rw [hsb] at GO ⊢
  rw [hmb]
  unfold Dv.fused at hmb
  have HM := Lib.hid hmb
  clear hs hm hok hsb hmb
  have H3 := Lib.hid (h3.out #[.int .i64 m.size, .int .i64 m.count, .slice Ak m.kept.length ck, .slice Aw m.waits.length cw, .bool m.off, .int .i64 m.offs, .int .i64 m.fuse, .int .u64 m.wr])
  clear hd h3
  go_enter Try.func13, Try.ntmps13
  go_wp2_with (go_at_call 24; refine (In6.moves H3.out (GO.out _ H3.out.d)).mono ?_; rintro e w4 ⟨rfl, J4⟩; have RV4 := HR.out _ J4.t; have y1 : w4.cell? ⟨w.heap.size + 1, 1, none⟩ = some (.int .i64 i) := J4.y.cell 1; have y4 : w4.cell? ⟨w.heap.size + 1, 4, none⟩ = some (.slice A zs.length cap) := J4.y.cell 4; have q6 := J4.x.frozen 6; have x6 : w4.cell? ⟨w.heap.size, 6, none⟩ = some (.int .i64 m.fuse) := J4.x.cell 6; clear H3)
  have J7 := J4.set_ 6 (.int .i64 (max i 0))
  have RV7 := fuse_row RV4 J4.x rfl (max i 0)
  have RV7 : RDv (w4.setCell ⟨w.heap.size, 6, none⟩ (.int .i64 (max i 0))) (.agg (dCells Ak ck Aw cw mb)) mb := by
    rw [← HM.out]
    exact RV7
  have X7 : Block (w4.setCell ⟨w.heap.size, 6, none⟩ (.int .i64 (max i 0))) w.heap.size 33 (dCells Ak ck Aw cw mb) := by
    rw [← HM.out]
    exact J7.x
  have Z7 := J7.z
  generalize w4.setCell ⟨w.heap.size, 6, none⟩ (.int .i64 (max i 0)) = w7 at *
  clear J4 RV4 y1 y4 q6 x6
  refine wp_region_still_tail 2 (by kernel_rfl) (by kernel_rfl) ?_
  simp only [List.take_succ_cons, List.take_zero, List.drop_succ_cons, List.drop_zero]
  refine wpStill_step (fun K9 hK9 => ?_)
  refine still_load_row (by rfl) 33 _ (by rfl) w.heap.size 0 (by rfl) (dCells Ak ck Aw cw mb).toList _ (by exact block_range X7) Try.underlying33 (by rfl) (by kernel_rfl) ?_
  refine hK9 _ ?_
  clear hK9 K9
  still_step
  refine wpStill_nil ?_
  refine wpList_store_blk (w := w7.drew) (cs := zD) rfl _ _ _ rfl (ds := (dCells Ak ck Aw cw mb).toList) (by exact Z7) rfl rfl rfl (by kernel_rfl) (dCells_one _ _ _ _ _) ?_
  intro w8 X8 g8
  have g8 : w7.grownBy w8 (some (w.heap.size + 1 + 1)) := ⟨g8.os, g8.tape, g8.output, g8.size, g8.block⟩
  try simp only [Act.put]
  go_wp2_with fail
  try simp only [Act.put]
  exact bodyPost_ret (v := .tuple #[.bool true, .agg (dCells Ak ck Aw cw mb)]) (results_tmp_row rfl _ _ (w.heap.size + 1 + 1) 33 _ (0, 0) _ _ rfl rfl X8 Try.underlying33 rfl (by kernel_rfl)) rfl (J7.done X8 g8 RV7 (fun _ => rfl))
end Go.Proofs.Ytfngmdojogdodaa.Sec
