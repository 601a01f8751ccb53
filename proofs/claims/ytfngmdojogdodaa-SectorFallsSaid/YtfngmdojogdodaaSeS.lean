/-
  Layer 6, sector: a step of both devices: Read: contracts. Conditions: as each theorem names.
-/
import Derived.Test.YtfngmdojogdodaaSeR
namespace Go.Proofs.Ytfngmdojogdodaa.Sec
open Go.ChangeShapes Go.WideShapes Go.ChangeAt Go.RowKit Go.Proofs.Ytfngmdojogdodaa.Kit

set_option maxRecDepth 100000 in
set_option maxHeartbeats 6400000 in
theorem does_read (w0 w : World) (a mk mw : Nat) (s m : Dv) (o : Step6) (dv : Value) (hd : Dev w0 w a mk mw s) (hr : RDv w dv m) (hk : ¬ o.k = 0 ∧ ¬ o.k = 1 ∧ ¬ o.k = 2 ∧ ¬ o.k = 3 ∧ ¬ o.k = 4) (hok : m.Ok) (hs : s.offs ≤ 1000000000) (hm : 0 ≤ m.offs ∧ m.offs ≤ 1000000000) (hi : -9223372036854775808 ≤ o.i ∧ o.i ≤ 9223372036854775807) :
    Calls Try.prog 13 #[.pointer (some ⟨a, 0, none⟩), dv, .agg o.cells.toArray] w (Does w0 w a mk mw s m (s = m)) := by
  have HR := Lib.hid (fun W (t : TurnsIn (DSet a mk mw) w W) => hr.dset hd.d t)
  have h3 := Lib.hid (fun cs => In6.start hd o cs)
  obtain ⟨Ak, ck, Aw, cw, rfl, hkr⟩ := hr
  have HKR := Lib.hid hkr
  clear hkr
  obtain ⟨k, i, b, long, A, cap, zs⟩ := o
  simp only at *
  unfold Step6.cells zD at h3
  unfold dCells at HR ⊢
  unfold Step6.cells
  have b0 : (k == 0) = false := by simpa using hk.1
  have b1 : (k == 1) = false := by simpa using hk.2.1
  have b2 : (k == 2) = false := by simpa using hk.2.2.1
  have b3 : (k == 3) = false := by simpa using hk.2.2.2.1
  have b4 : (k == 4) = false := by simpa using hk.2.2.2.2
  have hgood : s = m → ((strOfNums (s.read i).1).toList == (strOfNums (m.read i).1).toList && (s.read i).2 == (m.read i).2) = true := fun e => by rw [e, beq_self_eq_true, beq_self_eq_true]; rfl
  have GO := Lib.hid (fun (W : World) (h : Dev w0 W a mk mw s) => read_any _ a mk mw s i W h.d hi)
  have GD := Lib.hid (fun (v : Value) (W : World) (h : RDv W v m) => rread_any v m i W h hok)
  generalize s.read i = sr at *
  generalize m.read i = mr at *
  obtain ⟨xs, E⟩ := sr
  obtain ⟨ys, F⟩ := mr
  simp only at hgood
  have HG := Lib.hid hgood
  clear hs hm hok hgood hk hi
  have H3 := Lib.hid (h3.out #[.int .i64 m.size, .int .i64 m.count, .slice Ak m.kept.length ck, .slice Aw m.waits.length cw, .bool m.off, .int .i64 m.offs, .int .i64 m.fuse, .int .u64 m.wr])
  clear hd h3
  go_enter Try.func13, Try.ntmps13
  go_wp2_with (first
    | (go_at_call 22; refine (GO.out _ H3.out.d).mono ?_; rintro e w4 ⟨v4, rfl, own4, hb4⟩; obtain ⟨A4, c4, rfl, -, -, hh4⟩ := own4.opened; have J4 := In6.below H3.out hb4; have RV4 := HR.out _ J4.t; have y1 : w4.cell? ⟨w.heap.size + 1, 1, none⟩ = some (.int .i64 i) := J4.y.cell 1; clear H3 own4 hb4)
    | (have _t := J4; refine wpList_load_midV (by rfl) _ _ rfl w.heap.size 0 rfl [.int .i64 m.size, .int .i64 m.count, .slice Ak m.kept.length ck, .slice Aw m.waits.length cw, .bool m.off, .int .i64 m.offs, .int .i64 m.fuse, .int .u64 m.wr] (block_range J4.x) Try.underlying33 rfl (by kernel_rfl) ?_)
    | (have _t := RV4; go_at_call 23; refine (GD.out _ _ RV4).mono ?_; rintro e w7 ⟨rfl, hb7⟩; have J7 := J4.below hb7; have RV7 := RV4.below hb7; have hh7 := hh4.below hb7; clear _t J4 RV4 y1 hh4 hb7))
  have kc := conv_bytes (P := Try.prog) Try.underlying37 Try.underlying5 Try.underlying9 w7 A4 xs c4 _ hh7
  have kd := conv_bytes (P := Try.prog) Try.underlying37 Try.underlying5 Try.underlying9 w7.drew A4 xs c4 _ hh7
  have X7 := J7.x
  have Z7 := J7.z
  clear hh7
  cases hP : (strOfNums xs).toList == (strOfNums ys).toList
  all_goals
    rw [hP] at HG
    refine wp_region_still_tail 11 (by kernel_rfl) (by kernel_rfl) ?_
    simp only [List.take_succ_cons, List.take_zero, List.drop_succ_cons, List.drop_zero]
    still_step
    still_step
    still_step
    still_step
    still_step
    still_step
    still_step
    still_step
    still_step
    refine wpStill_step (fun K9 hK9 => ?_)
    refine still_load_row (by rfl) 33 _ (by rfl) w.heap.size 0 (by rfl) [.int .i64 m.size, .int .i64 m.count, .slice Ak m.kept.length ck, .slice Aw m.waits.length cw, .bool m.off, .int .i64 m.offs, .int .i64 m.fuse, .int .u64 m.wr] _ (by exact block_range X7) Try.underlying33 (by rfl) (by kernel_rfl) ?_
    refine hK9 _ ?_
    clear hK9 K9
    still_step
    refine wpStill_nil ?_
    refine wpList_store_blk (w := w7.drew) (cs := zD) rfl _ _ _ rfl (ds := [.int .i64 m.size, .int .i64 m.count, .slice Ak m.kept.length ck, .slice Aw m.waits.length cw, .bool m.off, .int .i64 m.offs, .int .i64 m.fuse, .int .u64 m.wr]) (by exact Z7) rfl rfl rfl (by kernel_rfl) (dCells_one Ak ck Aw cw m) ?_
    intro w9 X9 g9
    have g9 : w7.grownBy w9 (some (w.heap.size + 1 + 1)) := ⟨g9.os, g9.tape, g9.output, g9.size, g9.block⟩
    try simp only [Act.put]
    go_wp2_with fail
  · exact bodyPost_ret (v := .tuple #[.bool false, .agg (dCells Ak ck Aw cw m)]) (results_tmp_row rfl _ _ (w.heap.size + 1 + 1) 33 _ (0, 0) _ _ rfl rfl X9 Try.underlying33 rfl (by kernel_rfl)) rfl (J7.done X9 g9 RV7 HG.out)
  · exact bodyPost_ret (v := .tuple #[.bool (E == F), .agg (dCells Ak ck Aw cw m)]) (results_tmp_row rfl _ _ (w.heap.size + 1 + 1) 33 _ (0, 0) _ _ rfl rfl X9 Try.underlying33 rfl (by kernel_rfl)) rfl (J7.done X9 g9 RV7 HG.out)
end Go.Proofs.Ytfngmdojogdodaa.Sec
