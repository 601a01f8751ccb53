/-
  Layer 6, sector: a step of both devices: Sync: contracts. Conditions: as each theorem names.
-/
import Derived.Test.YtfngmdojogdodaaSeQ
namespace Go.Proofs.Ytfngmdojogdodaa.Sec
open Go.ChangeShapes Go.WideShapes Go.ChangeAt Go.RowKit Go.Proofs.Ytfngmdojogdodaa.Kit

set_option maxRecDepth 100000 in
set_option maxHeartbeats 6400000 in
theorem does_sync (w0 w : World) (a mk mw : Nat) (s m : Dv) (o : Step6) (dv : Value) (hd : Dev w0 w a mk mw s) (hr : RDv w dv m) (hk : o.k = 1) (hok : m.Ok) (hs : s.offs ≤ 1000000000) (hm : 0 ≤ m.offs ∧ m.offs ≤ 1000000000) :
    Calls Try.prog 13 #[.pointer (some ⟨a, 0, none⟩), dv, .agg o.cells.toArray] w (Does w0 w a mk mw s.sync.2 m.sync.2 (s = m)) := by
  have HR := Lib.hid (fun W (t : TurnsIn (DSet a mk mw) w W) => hr.dset hd.d t)
  have h3 := Lib.hid (fun cs => In6.start hd o cs)
  obtain ⟨Ak, ck, Aw, cw, rfl, hkr⟩ := hr
  have HKR := Lib.hid hkr
  clear hkr
  obtain ⟨k, i, b, long, A, cap, zs⟩ := o
  simp only at *
  unfold Step6.cells zD at h3
  unfold dCells at HR ⊢
  unfold Step6.cells
  subst hk
  have hgood : s = m → (s.sync.1 == m.sync.1) = true := fun e => by rw [e]; exact beq_self_eq_true _
  have GO := Lib.hid (fun (W : World) (h : Dev w0 W a mk mw s) => sync_any _ a mk mw s W h.d hs)
  have GD := Lib.hid (fun (v : Value) (W : World) (h : RDv W v m) => rsync_any v m W h hok hm.2)
  obtain ⟨sb, hsb⟩ : ∃ sb, s.sync.2 = sb := ⟨_, rfl⟩
  obtain ⟨mb, hmb⟩ : ∃ mb, m.sync.2 = mb := ⟨_, rfl⟩
  obtain ⟨E, hE⟩ : ∃ E, s.sync.1 = E := ⟨_, rfl⟩
  obtain ⟨F, hF⟩ : ∃ F, m.sync.1 = F := ⟨_, rfl⟩
  rw [hsb, hE] at GO
  rw [hmb, hF] at GD
  rw [hE, hF] at hgood
  rw [hsb, hmb]
  have HG := Lib.hid hgood
  clear hs hm hok hsb hmb hE hF hgood
  have H3 := Lib.hid (h3.out #[.int .i64 m.size, .int .i64 m.count, .slice Ak m.kept.length ck, .slice Aw m.waits.length cw, .bool m.off, .int .i64 m.offs, .int .i64 m.fuse, .int .u64 m.wr])
  clear hd h3
  go_enter Try.func13, Try.ntmps13
  go_wp2_with (first
    | (go_at_call 20; refine (In6.moves H3.out (GO.out _ H3.out.d)).mono ?_; rintro e w4 ⟨rfl, J4⟩; have RV4 := HR.out _ J4.t; clear H3)
    | (have _t := J4; refine wpList_load_midV (by rfl) _ _ rfl w.heap.size 0 rfl [.int .i64 m.size, .int .i64 m.count, .slice Ak m.kept.length ck, .slice Aw m.waits.length cw, .bool m.off, .int .i64 m.offs, .int .i64 m.fuse, .int .u64 m.wr] (block_range J4.x) Try.underlying33 rfl (by kernel_rfl) ?_)
    | (have _t := RV4; go_at_call 27; refine (GD.out _ _ RV4).mono ?_; rintro e w7 ⟨v7, rfl, hv7, hb7⟩; have J7 := J4.below hb7; obtain ⟨Ak7, ck7, Aw7, cw7, hve, hr7⟩ := hv7; have RV7 : RDv w7 (.agg (dCells Ak7 ck7 Aw7 cw7 mb)) mb := ⟨Ak7, ck7, Aw7, cw7, rfl, hr7⟩; subst hve; clear _t J4 RV4; unfold dCells))
  have B8 : Below w7.heap.size w7 (w7.alloc (.cells #[.int .i64 mb.size, .int .i64 mb.count, .slice Ak7 mb.kept.length ck7, .slice Aw7 mb.waits.length cw7, .bool mb.off, .int .i64 mb.offs, .int .i64 mb.fuse, .int .u64 mb.wr] 33)) := (Below.refl _ _).alloc (Nat.le_refl _) _
  have X8 : Block (w7.alloc (.cells #[.int .i64 mb.size, .int .i64 mb.count, .slice Ak7 mb.kept.length ck7, .slice Aw7 mb.waits.length cw7, .bool mb.off, .int .i64 mb.offs, .int .i64 mb.fuse, .int .u64 mb.wr] 33)) w7.heap.size 33 #[.int .i64 mb.size, .int .i64 mb.count, .slice Ak7 mb.kept.length ck7, .slice Aw7 mb.waits.length cw7, .bool mb.off, .int .i64 mb.offs, .int .i64 mb.fuse, .int .u64 mb.wr] := Block.new w7 _ _
  have J8 := J7.below B8
  have RV8 := RV7.below B8
  have Z8 := J8.z
  generalize w7.alloc (.cells #[.int .i64 mb.size, .int .i64 mb.count, .slice Ak7 mb.kept.length ck7, .slice Aw7 mb.waits.length cw7, .bool mb.off, .int .i64 mb.offs, .int .i64 mb.fuse, .int .u64 mb.wr] 33) = w8 at *
  clear J7 RV7 B8
  generalize w7.heap.size = K8 at *
  refine wp_region_still_tail 5 (by kernel_rfl) (by kernel_rfl) ?_
  simp only [List.take_succ_cons, List.take_zero, List.drop_succ_cons, List.drop_zero]
  still_step
  still_step
  still_step
  refine wpStill_step (fun K9 hK9 => ?_)
  refine still_load_row (by rfl) 33 _ (by rfl) K8 0 (by rfl) [.int .i64 mb.size, .int .i64 mb.count, .slice Ak7 mb.kept.length ck7, .slice Aw7 mb.waits.length cw7, .bool mb.off, .int .i64 mb.offs, .int .i64 mb.fuse, .int .u64 mb.wr] _ (by exact block_range X8) Try.underlying33 (by rfl) (by kernel_rfl) ?_
  refine hK9 _ ?_
  clear hK9 K9
  still_step
  refine wpStill_nil ?_
  refine wpList_store_blk (w := w8.drew) (cs := zD) rfl _ _ _ rfl (ds := (dCells Ak7 ck7 Aw7 cw7 mb).toList) (by exact Z8) rfl rfl rfl (by kernel_rfl) (dCells_one _ _ _ _ _) ?_
  intro w9 X9 g9
  have g9 : w8.grownBy w9 (some (w.heap.size + 1 + 1)) := ⟨g9.os, g9.tape, g9.output, g9.size, g9.block⟩
  try simp only [Act.put]
  go_wp2_with fail
  exact bodyPost_ret (v := .tuple #[.bool (E == F), .agg (dCells Ak7 ck7 Aw7 cw7 mb)]) (results_tmp_row rfl _ _ (w.heap.size + 1 + 1) 33 _ (0, 0) _ _ rfl rfl X9 Try.underlying33 rfl (by kernel_rfl)) rfl (J8.done X9 g9 RV8 HG.out)
end Go.Proofs.Ytfngmdojogdodaa.Sec
