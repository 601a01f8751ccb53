/-
  Layer 25, image: a step of an image on a device, and of the document's: Sum: contracts. Conditions: as each theorem names.
-/
import Derived.Test.YtpnodocjpedcmaaDoorMImX
namespace Go.Proofs.YtpnodocjpedcmaaDoor.Im
open Go.ChangeShapes Go.WideShapes Go.ChangeAt Go.RowKit Go.Proofs.YtpnodocjpedcmaaDoor.Kit Go.Proofs.YtpnodocjpedcmaaDoor.Pt
open Go.Proofs.YtpnodocjpedcmaaDoor.Sec (Dv DvAt DSet Dev RDv dCells dCells_one zD zD_noText GivesED GivesD GivesS GivesB results_tmp_row block_range wpList_load_midV)


open Go.Proofs.YtpnodocjpedcmaaDoor.Sha (LaidS sumL_length)
def SumR (s : Dv) (S B sl i n : Int) (r : List Int × Int) : Prop :=
  (¬ (0 ≤ n ∧ n ≤ B * sl) ∧ r = ([], 5)) ∨ ((0 ≤ n ∧ n ≤ B * sl) ∧ ReadsP s (slotF S B sl i) 0 n.toNat r)
theorem sumR_one {s : Dv} {S B sl i n : Int} {r t : List Int × Int} (h : SumR s S B sl i n r) (g : SumR s S B sl i n t) : r = t := by
  rcases h with ⟨h1, rfl⟩ | ⟨h1, h3⟩ <;> rcases g with ⟨g1, rfl⟩ | ⟨g1, g3⟩
  all_goals first
    | rfl
    | exact absurd h1 g1
    | exact absurd g1 h1
    | exact reads_one h3 g3
theorem lay_last (w : World) (o : Obj) : Below w.heap.size w (w.alloc o) := (Below.refl _ _).alloc (Nat.le_refl _) _
theorem dig_eq (ys : List Int) (h : ys.length = 32) (w : World) : (Op.equalIn 10000 48 (.agg (ys.map (Value.int .u8)).toArray) (.agg (ys.map (Value.int .u8)).toArray)).run Tryd.prog w = .ok true w := by
  have h1 := run_equalIn_array (P := Tryd.prog) (w := w) (t := 48) 9999 (ys.map (Value.int .u8)).toArray (ys.map (Value.int .u8)).toArray (n := ys.length) (e := 5) (by rw [h]; exact Tryd.underlying48) (Option.eq_some_of_isSome (by kernel_rfl))
  have h2 := run_eqItems_ints (P := Tryd.prog) (w := w) (e := 5) (k := .u8) (k' := .u8) 9998 (by kernel_rfl) Tryd.underlying5 (by kernel_rfl) ys ys (List.range ys.length) (fun j hj => by have := List.mem_range.1 hj; omega)
  rw [h2] at h1
  rw [show decide (∀ j ∈ List.range ys.length, ys[j]?.getD 0 = ys[j]?.getD 0) = true from decide_eq_true (fun _ _ => rfl)] at h1
  exact h1
theorem dig_gd (ys : List Int) (x y : Operand) (w : World) : (eqGuard .eql 48 x y (.agg (ys.map (Value.int .u8)).toArray) (.agg (ys.map (Value.int .u8)).toArray)).run Tryd.prog w = .ok () w := run_eqGuard_agg w .eql 48 x y _ _ (by kernel_rfl)

set_option maxRecDepth 100000 in
set_option maxHeartbeats 6400000 in
/-- Sum of both. -/
theorem does_sum (w0 w : World) (x a mk mw p0 p1 p2 : Nat) (S B sl : Int) (s : Dv) (m : Step25) (dv : Value) (hd : Dev w0 w a mk mw s) (hi : ImAt w x a S B sl p0 p1 p2) (hr : RDv w dv s) (hL : LayOk S B sl s) (hm : m.Ok) (hin : m.In w0 w0.heap.size) (hbl : m.bs.length ≤ 1000) (hzl : m.zs.length ≤ 60) (hof : s.offs ≤ 100000000) (hwr : s.wr ≤ 100000000) (hLS : LaidS w0) (hk : m.k = 3) :
    Calls Tryd.prog 30 #[.pointer (some ⟨x, 0, none⟩), .pointer (some ⟨a, 0, none⟩), dv, .agg #[.int .i64 S, .int .i64 B, .int .i64 sl], .agg m.cells.toArray] w (Does25 w0 w x a mk mw p0 p1 p2 S B sl s) := by
  have hok : s.Ok := hd.d.ok
  have hwh : Whole s := whole_of hd.d
  have HBs := Lib.hid (fun W (hb : Below w0.heap.size w0 W) => (hin.1.below hb).more hb.size)
  have HZs := Lib.hid (fun W (hb : Below w0.heap.size w0 W) => (hin.2.below hb).more hb.size)
  have GP : Hid (∀ W, ImAt W x a S B sl p0 p1 p2 → DvAt W (fun _ => True) a mk mw s → Below w0.heap.size w0 W → Calls Tryd.prog 33 #[.pointer (some ⟨x, 0, none⟩), .int .u8 m.slot, .int .i64 m.n] W fun e w' => ∃ r, SumR s S B sl m.slot m.n r ∧ e = .returned (.tuple #[arrV .u8 (sumOf r), .int .i64 r.2]) ∧ Below W.heap.size W w') := Lib.hid (fun W h hd hb => by
    by_cases hn : 0 ≤ m.n ∧ m.n ≤ B * sl
    · obtain ⟨N, hN⟩ : ∃ N : Nat, m.n = N := ⟨m.n.toNat, by omega⟩
      rw [hN] at hn ⊢
      refine (isum_yes _ x a mk mw p0 p1 p2 S B sl m.slot N s W h hd hL hm.slot hn.2 (hLS.below hb)).mono ?_
      rintro e w' ⟨r, h1, h2, h3⟩
      exact ⟨r, Or.inr ⟨hn, by rw [Int.toNat_natCast]; exact h1⟩, h2, h3⟩
    · refine (isum_no x a p0 p1 p2 S B sl m.slot m.n s W h hL hn).mono ?_
      rintro e w' ⟨h1, h2⟩
      exact ⟨([], 5), Or.inl ⟨hn, rfl⟩, h1, h2⟩)
  have GD : Hid (∀ v W, RDv W v s → Calls Tryd.prog 62 #[v, .agg #[.int .i64 S, .int .i64 B, .int .i64 sl], .int .u8 m.slot, .int .i64 m.n] W fun e w' => ∃ r, SumR s S B sl m.slot m.n r ∧ e = .returned (.tuple #[arrV .u8 (sumOf r), .int .i64 r.2]) ∧ Below W.heap.size W w') := Lib.hid (fun v W h => by
    by_cases hn : 0 ≤ m.n ∧ m.n ≤ B * sl
    · obtain ⟨N, hN⟩ : ∃ N : Nat, m.n = N := ⟨m.n.toNat, by omega⟩
      rw [hN] at hn ⊢
      refine (rsum_yes v s S B sl m.slot N W h hok hwh hL hn.2).mono ?_
      rintro e w' ⟨r, h1, h2, h3⟩
      exact ⟨r, Or.inr ⟨hn, by rw [Int.toNat_natCast]; exact h1⟩, h2, h3⟩
    · refine (rsum_no v s S B sl m.slot m.n W h hL hn).mono ?_
      rintro e w' ⟨h1, h2⟩
      exact ⟨([], 5), Or.inl ⟨hn, rfl⟩, h1, h2⟩)
  have HR := Lib.hid (fun W (t : TurnsIn (DSet a mk mw) w W) => Sec.RDv.dset hd.d t hr)
  have h3 := Lib.hid (fun cs => In25.start hd hi m cs)
  obtain ⟨Ak, ck, Aw, cw, rfl, hkr⟩ := hr
  have H3 := Lib.hid (h3.out (dCells Ak ck Aw cw s))
  clear h3 hkr hd hi hin hL hof hwr hm hbl hzl hwh
  obtain ⟨k, blk, at_, n, view, sn, A, cap, bs, A2, cap2, zs⟩ := m
  simp only at *
  subst hk
  unfold Step25.cells zD at H3
  unfold dCells at HR H3 ⊢
  unfold Step25.cells
  simp only at H3 ⊢
  go_enter Tryd.func30, Tryd.ntmps30
  go_upto_region 1 with fail
  generalize (((w.alloc _).alloc _).alloc _).alloc _ = w4 at *
  have J4 := H3.out
  have q0 : w4.cell? ⟨w.heap.size + 1 + 1, 0, none⟩ = some (.int .i64 3) := J4.y.cell 0
  have q3 : w4.cell? ⟨w.heap.size + 1 + 1, 3, none⟩ = some (.int .i64 n) := J4.y.cell 3
  have q5 : w4.cell? ⟨w.heap.size + 1 + 1, 5, none⟩ = some (.int .u8 sn) := J4.y.cell 5
  go_upto_region 16 with (first
    | (have _t := J4; go_at_call 33; (with_reducible refine (GP.out _ J4.i J4.d.d J4.d.b).mono ?_); rintro e w5 ⟨r, hr, rfl, hb5⟩; have J5 := J4.below hb5; have hl5 := sumOf_length r; have HL5 := Lib.hid hl5; clear _t J4 q0 q3 q5 hl5)
    | (have _t := J5; refine wpList_store_arr rfl _ _ _ rfl (ys := sumOf r) (res_new w5 48) rfl rfl (by rw [HL5.out]; rfl) (by rw [HL5.out]; kernel_rfl) ?_; clear _t; intro w6 r6 g6))
  have hb6 : Below w5.heap.size w5 w6 := (lay_last w5 _).trans (below_of_grown g6 (lay_last w5 _).size fun b hb => by injection hb with hb; omega)
  have J6 := J5.below hb6
  have hzq := J5.z.lt
  clear J5 g6 hb6 hb5
  generalize w5.heap.size = Q at *
  have q3 : w6.cell? ⟨w.heap.size + 1 + 1, 3, none⟩ = some (.int .i64 n) := J6.y.cell 3
  have q5 : w6.cell? ⟨w.heap.size + 1 + 1, 5, none⟩ = some (.int .u8 sn) := J6.y.cell 5
  have R6 := HR.out _ J6.t
  go_upto_region 17 with (first
    | (have _t := J6; refine wpList_load_midV (o := ⟨some 120, _, _, _, _, _⟩) (by rfl) _ _ rfl (w.heap.size) 0 rfl [.int .i64 s.size, .int .i64 s.count, .slice Ak s.kept.length ck, .slice Aw s.waits.length cw, .bool s.off, .int .i64 s.offs, .int .i64 s.fuse, .int .u64 s.wr] (block_range (L := [.int .i64 s.size, .int .i64 s.count, .slice Ak s.kept.length ck, .slice Aw s.waits.length cw, .bool s.off, .int .i64 s.offs, .int .i64 s.fuse, .int .u64 s.wr]) J6.x) Tryd.underlying31 rfl (by kernel_rfl) ?_)
    | (have _t := J6; refine wpList_load_midV (o := ⟨some 121, _, _, _, _, _⟩) (by rfl) _ _ rfl (w.heap.size + 1) 0 rfl [.int .i64 S, .int .i64 B, .int .i64 sl] (block_range (L := [.int .i64 S, .int .i64 B, .int .i64 sl]) J6.c) Tryd.underlying61 rfl (by kernel_rfl) ?_)
    | (have _t := R6; go_at_call 62; refine (GD.out _ _ R6).mono ?_; rintro e w7 ⟨r2, hr2, rfl, hb7⟩; obtain rfl := sumR_one hr2 hr; have J7 := J6.below hb7; have R7 := R6.below hb7; have a7 := Block.below r6 hb7 (Block.lt r6); clear _t J6 R6 r6 hr2 q3 q5)
    | (have _t := J7; refine wpList_store_arr rfl _ _ _ rfl (ys := sumOf r2) (res_new w7 47) rfl rfl (by rw [HL5.out]; rfl) (by rw [HL5.out]; kernel_rfl) ?_; clear _t; intro w8 r8 g8))
  have hb8 : Below w7.heap.size w7 w8 := (lay_last w7 _).trans (below_of_grown g8 (lay_last w7 _).size fun b hb => by injection hb with hb; omega)
  have J8 := J7.below hb8
  have R8 := R7.below hb8
  have a8 : Arr w8 Q 48 .u8 (sumOf r2) := Block.below a7 hb8 (Block.lt a7)
  have hz8 := J7.z.lt
  clear J7 R7 a7 g8 hb8 hb7 hr
  generalize w7.heap.size = Q8 at *
  have P8 := J8.below (show Below w8.heap.size w8 w8.drew from below_draws (Below.refl _ _) 1)
  have RD8 := R8.below (show Below w8.heap.size w8 w8.drew from below_draws (Below.refl _ _) 1)
  have a9 := Arr.drewN a8 1
  have r9 := Arr.drewN r8 1
  generalize sumOf r2 = ys at *
  generalize r2.2 = E at *
  refine wp_region_held_drew (S := fun W => Block W (w.heap.size) 31 #[.int .i64 s.size, .int .i64 s.count, .slice Ak s.kept.length ck, .slice Aw s.waits.length cw, .bool s.off, .int .i64 s.offs, .int .i64 s.fuse, .int .u64 s.wr] ∧ Arr W Q 48 .u8 ys ∧ Arr W Q8 47 .u8 ys) (by kernel_rfl) ⟨J8.x, a8, r8⟩ (fun hS => ?_)
  refine wpAnyH_take (i := 0) (oi := ⟨some 129, _, _, _, _, _⟩) (v := .agg (ys.map (Value.int .u8)).toArray) rfl (by kernel_rfl) (by kernel_rfl) (by kernel_rfl) (fun _ _ _ h => h) (yieldsIf_load_mid (by rfl) _ _ rfl Q 0 rfl (ys.map (Value.int .u8)) _ (fun W hW => Arr.range hW.2.1) Tryd.underlying48 rfl (by rw [List.length_map, HL5.out]; kernel_rfl)) hS ?_
  try simp only [Act.put, List.setIfInBounds_toArray, List.set_cons_zero, List.set_cons_succ]
  refine wpAnyH_take (i := 1) (oi := ⟨some 130, _, _, _, _, _⟩) (v := .agg (ys.map (Value.int .u8)).toArray) rfl (by kernel_rfl) (by kernel_rfl) (by kernel_rfl) (fun _ _ _ h => h) (yieldsIf_load_mid (by rfl) _ _ rfl Q8 0 rfl (ys.map (Value.int .u8)) _ (fun W hW => Arr.range hW.2.2) Tryd.underlying47 rfl (by rw [List.length_map, HL5.out]; kernel_rfl)) hS ?_
  try simp only [Act.put, List.setIfInBounds_toArray, List.set_cons_zero, List.set_cons_succ]
  refine wpAnyH_take (i := 2) (oi := ⟨some 131, _, _, _, _, _⟩) (v := .bool true) rfl (by kernel_rfl) (by kernel_rfl) (by kernel_rfl) (fun _ _ _ h => h) (Or.inl ⟨by rfl, fun W hW => by have q1 := dig_eq ys HL5.out W; have q2 := fun x y => dig_gd ys x y W; go_simp⟩) hS ?_
  try simp only [Act.put, List.setIfInBounds_toArray, List.set_cons_zero, List.set_cons_succ]
  refine wpAnyH_take (i := 3) (oi := ⟨some 132, _, _, _, _, _⟩) (v := .bool true) rfl (by kernel_rfl) (by kernel_rfl) (by kernel_rfl) (fun _ _ _ h => h) (Or.inl ⟨by rfl, fun W hW => by go_simp⟩) hS ?_
  try simp only [Act.put, List.setIfInBounds_toArray, List.set_cons_zero, List.set_cons_succ]
  refine wpAnyH_take (i := 4) (oi := ⟨some 133, _, _, _, _, _⟩) (v := .int .i64 E) rfl (by kernel_rfl) (by kernel_rfl) (by kernel_rfl) (fun _ _ _ h => h) (Or.inl ⟨by rfl, fun W hW => by go_simp⟩) hS ?_
  try simp only [Act.put, List.setIfInBounds_toArray, List.set_cons_zero, List.set_cons_succ]
  refine wpAnyH_take (i := 5) (oi := ⟨some 134, _, _, _, _, _⟩) (v := .int .i64 E) rfl (by kernel_rfl) (by kernel_rfl) (by kernel_rfl) (fun _ _ _ h => h) (Or.inl ⟨by rfl, fun W hW => by go_simp⟩) hS ?_
  try simp only [Act.put, List.setIfInBounds_toArray, List.set_cons_zero, List.set_cons_succ]
  refine wpAnyH_take (i := 6) (oi := ⟨some 135, _, _, _, _, _⟩) (v := .bool true) rfl (by kernel_rfl) (by kernel_rfl) (by kernel_rfl) (fun _ _ _ h => h) (Or.inl ⟨by rfl, fun W hW => by go_simp⟩) hS ?_
  try simp only [Act.put, List.setIfInBounds_toArray, List.set_cons_zero, List.set_cons_succ]
  refine wpAnyH_take (i := 7) (oi := ⟨some 136, _, _, _, _, _⟩) (v := .bool true) rfl (by kernel_rfl) (by kernel_rfl) (by kernel_rfl) (fun _ _ _ h => h) (Or.inl ⟨by rfl, fun W hW => by go_simp⟩) hS ?_
  try simp only [Act.put, List.setIfInBounds_toArray, List.set_cons_zero, List.set_cons_succ]
  refine wpAnyH_take (i := 8) (oi := ⟨some 137, _, _, _, _, _⟩) (v := .agg #[.int .i64 s.size, .int .i64 s.count, .slice Ak s.kept.length ck, .slice Aw s.waits.length cw, .bool s.off, .int .i64 s.offs, .int .i64 s.fuse, .int .u64 s.wr]) rfl (by kernel_rfl) (by kernel_rfl) (by kernel_rfl) (fun _ _ _ h => h) (yieldsIf_load_mid (by rfl) _ _ rfl (w.heap.size) (0) rfl [.int .i64 s.size, .int .i64 s.count, .slice Ak s.kept.length ck, .slice Aw s.waits.length cw, .bool s.off, .int .i64 s.offs, .int .i64 s.fuse, .int .u64 s.wr] _ (fun W hW => block_range (L := [.int .i64 s.size, .int .i64 s.count, .slice Ak s.kept.length ck, .slice Aw s.waits.length cw, .bool s.off, .int .i64 s.offs, .int .i64 s.fuse, .int .u64 s.wr]) hW.1) Tryd.underlying31 rfl (by kernel_rfl)) hS ?_
  try simp only [Act.put, List.setIfInBounds_toArray, List.set_cons_zero, List.set_cons_succ]
  refine wpAnyH_ready (rs := [9]) (by kernel_rfl) (by simp) ?_
  refine AllReadyH.cons rfl (fun K hK => ?_) AllReadyH.nil
  go_simp
  refine hK.out _ _ ⟨P8.x, a9, r9⟩ (fun hS => ?_)
  clear hK K
  try simp only [Act.put, List.setIfInBounds_toArray, List.set_cons_zero, List.set_cons_succ]
  refine wpAnyH_ready (rs := [10]) (by kernel_rfl) (by simp) ?_
  refine AllReadyH.cons rfl (fun K hK => ?_) AllReadyH.nil
  refine step_store_blk rfl _ _ _ rfl (cs := zD) (ds := (dCells Ak ck Aw cw s).toList) (by exact P8.z) rfl rfl rfl (by kernel_rfl) (dCells_one _ _ _ _ _) ?_
  intro x9 Z9 g9
  have hfin := In25.done P8 RD8 g9 (Near.refl s)
  refine hK.out _ _ ⟨P8.x.grown g9 (by intro h; injection h with h; omega), Arr.grown a9 g9 (by intro h; injection h with h; omega), Arr.grown r9 g9 (by intro h; injection h with h; omega)⟩ (fun hS => ?_)
  clear hK K
  try simp only [Act.put, List.setIfInBounds_toArray, List.set_cons_zero, List.set_cons_succ]
  refine wpAnyH_done (by kernel_rfl) ?_ _
  go_wp2_with fail
  exact bodyPost_ret (v := .tuple #[.bool true, .agg (dCells Ak ck Aw cw s)]) (results_tmp_row rfl _ _ (w.heap.size + 1 + 1 + 1) 31 _ (0, 0) _ _ rfl rfl Z9 Tryd.underlying31 rfl (by kernel_rfl)) rfl hfin
end Go.Proofs.YtpnodocjpedcmaaDoor.Im
