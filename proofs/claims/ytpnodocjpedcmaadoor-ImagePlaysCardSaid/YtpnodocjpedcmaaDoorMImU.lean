/-
  Layer 25, the document's answers: Sum. Conditions: the device's row, a layout that may be on it.
-/
import Derived.Test.YtpnodocjpedcmaaDoorMImT
import Derived.Test.YtpnodocjpedcmaaDoorMImF
import Derived.Test.YtpnodocjpedcmaaDoorMJoD
import Derived.Test.YtpnodocjpedcmaaDoorMGIays21
namespace Go.Proofs.YtpnodocjpedcmaaDoor.Im
open Go.ChangeShapes Go.WideShapes Go.ChangeAt Go.RowKit Go.Proofs.YtpnodocjpedcmaaDoor.Kit Go.Proofs.YtpnodocjpedcmaaDoor.Pt
open Go.Proofs.YtpnodocjpedcmaaDoor.Sec (Dv RDv dCells GivesS GivesED)
open Go.Proofs.YtpnodocjpedcmaaDoor.Sha (sumL sumL_length)
open Go.Proofs.YtpnodocjpedcmaaDoor.Jr (wpList_bytes_of)

theorem build_zeros32 (w : World) : (Instr.build 47 #[]).run Tryd.prog w = .ok (arrV .u8 zeros32) w := by kernel_rfl

theorem rgo_res {w W : World} {s : Dv} {Ak Aw : Option Addr} {ck cw : Nat} {S B sl : Int} (h : RGo w W s Ak ck Aw cw S B sl) (o : Obj) : RGo w (W.alloc o) s Ak ck Aw cw S B sl := h.below ((Below.refl _ _).alloc (Nat.le_refl _) _)
theorem rgo_fill {w W W' : World} {g : Nat} (h : Below w.heap.size w W) (hg : w.heap.size ≤ g) (g9 : W.grownBy W' (some g)) : Below w.heap.size w W' := h.trans (below_of_grown g9 h.size fun b hb => by injection hb with hb; omega)

set_option maxRecDepth 100000 in
set_option maxHeartbeats 3200000 in
theorem rsum_no (v : Value) (s : Dv) (S B sl i n : Int) (w : World) (h : RDv w v s) (hL : LayOk S B sl s) (hn : ¬ (0 ≤ n ∧ n ≤ B * sl)) :
    Calls Tryd.prog 62 #[v, .agg #[.int .i64 S, .int .i64 B, .int .i64 sl], .int .u8 i, .int .i64 n] w fun e w' => e = .returned (.tuple #[arrV .u8 zeros32, .int .i64 5]) ∧ Below w.heap.size w w' := by
  obtain ⟨hS, hB, hs, hdd, hq, h0, h1, h2, h3⟩ := hL.facts
  obtain ⟨Ak, ck, Aw, cw, rfl, hr⟩ := h
  have G3 : RGo w _ s Ak ck Aw cw S B sl := RGo.start ⟨Ak, ck, Aw, cw, rfl, hr⟩
  obtain ⟨C, hC⟩ : ∃ C, B * sl = C := ⟨_, rfl⟩
  have hw : IntKind.i64.wrap (B * sl) = C := by rw [hC]; exact IntWalk.i64_in _ (by omega)
  rw [hC] at hn
  have Hz := Lib.hid (show zeros32.length = 32 from rfl)
  have hBz := Lib.hid build_zeros32
  generalize zeros32 = ys at *
  have hd9 : decide (n < 0) = true ∨ (decide (n < 0) = false ∧ decide (C < n) = true) := by
    simp only [decide_eq_true_eq, decide_eq_false_iff_not]
    omega
  have HG := Lib.hid G3
  clear hr hL hn G3 hS hB hs hdd hq h0 h1 h2 h3 hC
  unfold dCells at HG ⊢
  rcases hd9 with e1 | ⟨e1, e2⟩
  all_goals
    go_enter Tryd.func62, Tryd.ntmps62
    go_upto_region 1 with fail
    have hz : ((w.alloc (.cells #[.int .i64 s.size, .int .i64 s.count, .slice Ak s.kept.length ck, .slice Aw s.waits.length cw, .bool s.off, .int .i64 s.offs, .int .i64 s.fuse, .int .u64 s.wr] 31)).alloc (.cells #[.int .i64 S, .int .i64 B, .int .i64 sl] 61)).heap.size = w.heap.size + 1 + 1 := by simp
    generalize (w.alloc _).alloc _ = w3 at *
    have r4 : Arr (w3.alloc (.cells #[.int .u8 0, .int .u8 0, .int .u8 0, .int .u8 0, .int .u8 0, .int .u8 0, .int .u8 0, .int .u8 0, .int .u8 0, .int .u8 0, .int .u8 0, .int .u8 0, .int .u8 0, .int .u8 0, .int .u8 0, .int .u8 0, .int .u8 0, .int .u8 0, .int .u8 0, .int .u8 0, .int .u8 0, .int .u8 0, .int .u8 0, .int .u8 0, .int .u8 0, .int .u8 0, .int .u8 0, .int .u8 0, .int .u8 0, .int .u8 0, .int .u8 0, .int .u8 0] 47)) w3.heap.size 47 .u8 (List.replicate 32 0) := res_new w3 47
    have G4 := rgo_res HG.out (.cells #[.int .u8 0, .int .u8 0, .int .u8 0, .int .u8 0, .int .u8 0, .int .u8 0, .int .u8 0, .int .u8 0, .int .u8 0, .int .u8 0, .int .u8 0, .int .u8 0, .int .u8 0, .int .u8 0, .int .u8 0, .int .u8 0, .int .u8 0, .int .u8 0, .int .u8 0, .int .u8 0, .int .u8 0, .int .u8 0, .int .u8 0, .int .u8 0, .int .u8 0, .int .u8 0, .int .u8 0, .int .u8 0, .int .u8 0, .int .u8 0, .int .u8 0, .int .u8 0] 47)
    rw [hz] at r4
    generalize w3.alloc (.cells #[.int .u8 0, .int .u8 0, .int .u8 0, .int .u8 0, .int .u8 0, .int .u8 0, .int .u8 0, .int .u8 0, .int .u8 0, .int .u8 0, .int .u8 0, .int .u8 0, .int .u8 0, .int .u8 0, .int .u8 0, .int .u8 0, .int .u8 0, .int .u8 0, .int .u8 0, .int .u8 0, .int .u8 0, .int .u8 0, .int .u8 0, .int .u8 0, .int .u8 0, .int .u8 0, .int .u8 0, .int .u8 0, .int .u8 0, .int .u8 0, .int .u8 0, .int .u8 0] 47) = w4 at *
    have c1 : w4.cell? ⟨w.heap.size + 1, 1, none⟩ = some (.int .i64 B) := G4.y.cell 1
    have c2 : w4.cell? ⟨w.heap.size + 1, 2, none⟩ = some (.int .i64 sl) := G4.y.cell 2
    have b4 := G4.b
    clear G4 hz HG
    go_wp2_with (first
      | (refine wpList_build_zeros rfl _ _ rfl (arrV .u8 ys) (fun W => by simpa using hBz.out W) ?_)
      | (have _t := r4; refine wpList_store_arr rfl _ _ _ rfl (ys := ys) r4 rfl rfl (by rw [Hz.out]; rfl) (by rw [Hz.out]; kernel_rfl) ?_; clear _t; intro w9 r9 g9))
    refine bodyPost_ret (v := .tuple #[arrV .u8 ys, .int .i64 5]) (results_row_tmp rfl _ _ (w.heap.size + 1 + 1) 47 _ (0, 0) _ rfl r9 _ rfl Tryd.underlying47 rfl (by rw [show (ys.map (Value.int .u8)).toArray.size = 32 by simp [Hz.out]]; kernel_rfl)) rfl ⟨rfl, ?_⟩
    exact rgo_fill b4 (by omega) g9

set_option maxRecDepth 100000 in
set_option maxHeartbeats 3200000 in
theorem rsum_yes (v : Value) (s : Dv) (S B sl i : Int) (n : Nat) (w : World) (h : RDv w v s) (hok : s.Ok) (hwh : Whole s) (hL : LayOk S B sl s) (hn : (n : Int) ≤ B * sl) :
    Calls Tryd.prog 62 #[v, .agg #[.int .i64 S, .int .i64 B, .int .i64 sl], .int .u8 i, .int .i64 n] w fun e w' => ∃ r, ReadsP s (slotF S B sl i) 0 n r ∧ e = .returned (.tuple #[arrV .u8 (sumOf r), .int .i64 r.2]) ∧ Below w.heap.size w w' := by
  obtain ⟨hS, hB, hs, hdd, hq, h0, h1, h2, h3⟩ := hL.facts
  have GL := Lib.hid (fun W => rslot_any S B sl i W hL.m)
  have GR : Hid (∀ v W, RDv W v s → Calls Tryd.prog 87 #[v, .agg #[.int .i64 (slotF S B sl i), .int .i64 (sl * (B / S))], .int .i64 0, .int .i64 n] W fun e w' => ∃ r, ReadsP s (slotF S B sl i) 0 n r ∧ GivesS r.1 r.2 W e w') := Lib.hid (fun v W h => by
    refine (rpread_any v s _ _ _ 0 n W h hok hwh (hL.lies i) (by omega)).mono ?_
    rintro e w' ⟨r, hr, hg⟩
    exact ⟨r, pread_in (a := 0) (by exact hr) (by omega), hg⟩)
  obtain ⟨Ak, ck, Aw, cw, rfl, hr⟩ := h
  have G3 : RGo w _ s Ak ck Aw cw S B sl := RGo.start ⟨Ak, ck, Aw, cw, rfl, hr⟩
  obtain ⟨C, hC⟩ : ∃ C, B * sl = C := ⟨_, rfl⟩
  have hw : IntKind.i64.wrap (B * sl) = C := by rw [hC]; exact IntWalk.i64_in _ (by omega)
  rw [hC] at hn h1
  have Hz := Lib.hid (show zeros32.length = 32 from rfl)
  have hBz := Lib.hid build_zeros32
  have e1 : decide ((n : Int) < 0) = false := decide_eq_false (by omega)
  have e2 : decide (C < (n : Int)) = false := decide_eq_false (by omega)
  have HWH := Lib.hid hwh
  have HG := Lib.hid G3
  have hnm : n ≤ 16777216 := by omega
  clear hr hL G3 hS hB hs hdd hq h0 h1 h2 h3 hC hn hok hwh
  generalize slotF S B sl i = F at GL GR ⊢
  generalize sl * (B / S) = p at GL GR
  unfold dCells at HG ⊢
  go_enter Tryd.func62, Tryd.ntmps62
  go_upto_region 1 with fail
  have hz : ((w.alloc (.cells #[.int .i64 s.size, .int .i64 s.count, .slice Ak s.kept.length ck, .slice Aw s.waits.length cw, .bool s.off, .int .i64 s.offs, .int .i64 s.fuse, .int .u64 s.wr] 31)).alloc (.cells #[.int .i64 S, .int .i64 B, .int .i64 sl] 61)).heap.size = w.heap.size + 1 + 1 := by simp
  generalize (w.alloc _).alloc _ = w3 at *
  have r4 : Arr (w3.alloc (.cells #[.int .u8 0, .int .u8 0, .int .u8 0, .int .u8 0, .int .u8 0, .int .u8 0, .int .u8 0, .int .u8 0, .int .u8 0, .int .u8 0, .int .u8 0, .int .u8 0, .int .u8 0, .int .u8 0, .int .u8 0, .int .u8 0, .int .u8 0, .int .u8 0, .int .u8 0, .int .u8 0, .int .u8 0, .int .u8 0, .int .u8 0, .int .u8 0, .int .u8 0, .int .u8 0, .int .u8 0, .int .u8 0, .int .u8 0, .int .u8 0, .int .u8 0, .int .u8 0] 47)) w3.heap.size 47 .u8 (List.replicate 32 0) := res_new w3 47
  have G4 := rgo_res HG.out (.cells #[.int .u8 0, .int .u8 0, .int .u8 0, .int .u8 0, .int .u8 0, .int .u8 0, .int .u8 0, .int .u8 0, .int .u8 0, .int .u8 0, .int .u8 0, .int .u8 0, .int .u8 0, .int .u8 0, .int .u8 0, .int .u8 0, .int .u8 0, .int .u8 0, .int .u8 0, .int .u8 0, .int .u8 0, .int .u8 0, .int .u8 0, .int .u8 0, .int .u8 0, .int .u8 0, .int .u8 0, .int .u8 0, .int .u8 0, .int .u8 0, .int .u8 0, .int .u8 0] 47)
  rw [hz] at r4
  generalize w3.alloc (.cells #[.int .u8 0, .int .u8 0, .int .u8 0, .int .u8 0, .int .u8 0, .int .u8 0, .int .u8 0, .int .u8 0, .int .u8 0, .int .u8 0, .int .u8 0, .int .u8 0, .int .u8 0, .int .u8 0, .int .u8 0, .int .u8 0, .int .u8 0, .int .u8 0, .int .u8 0, .int .u8 0, .int .u8 0, .int .u8 0, .int .u8 0, .int .u8 0, .int .u8 0, .int .u8 0, .int .u8 0, .int .u8 0, .int .u8 0, .int .u8 0, .int .u8 0, .int .u8 0] 47) = w4 at *
  have c1 : w4.cell? ⟨w.heap.size + 1, 1, none⟩ = some (.int .i64 B) := G4.y.cell 1
  have c2 : w4.cell? ⟨w.heap.size + 1, 2, none⟩ = some (.int .i64 sl) := G4.y.cell 2
  have HG4 := Lib.hid G4
  clear G4 hz HG
  go_upto_region 3 with fail
  clear c1 c2 hw
  have G5 : Hid (RGo w w4.drew s Ak ck Aw cw S B sl) := Lib.hid (RGo.below HG4.out (below_draws (Below.refl _ _) 1))
  have r5 : Arr w4.drew (w.heap.size + 1 + 1) 47 .u8 (List.replicate 32 0) := Arr.drewN r4 1
  go_region_held3 (fun W' => W'.cell? ⟨w.heap.size, 0, none⟩ = some (.int .i64 s.size) ∧ W'.cell? ⟨w.heap.size, 1, none⟩ = some (.int .i64 s.count) ∧ W'.cell? ⟨w.heap.size, 2, none⟩ = some (.slice Ak s.kept.length ck) ∧ W'.cell? ⟨w.heap.size, 3, none⟩ = some (.slice Aw s.waits.length cw) ∧ W'.cell? ⟨w.heap.size, 4, none⟩ = some (.bool s.off) ∧ W'.cell? ⟨w.heap.size, 5, none⟩ = some (.int .i64 s.offs) ∧ W'.cell? ⟨w.heap.size, 6, none⟩ = some (.int .i64 s.fuse) ∧ W'.cell? ⟨w.heap.size, 7, none⟩ = some (.int .u64 s.wr) ∧ W'.cell? ⟨w.heap.size + 1, 0, none⟩ = some (.int .i64 S) ∧ W'.cell? ⟨w.heap.size + 1, 1, none⟩ = some (.int .i64 B) ∧ W'.cell? ⟨w.heap.size + 1, 2, none⟩ = some (.int .i64 sl))
    (first | exact HG4.out.cells | exact G5.out.cells | exact G6.cells | exact G7.cells)
    (first
      | (go_at_call 86; refine (GL.out _).mono ?_; rintro e w6 ⟨rfl, hb6⟩; have G6 := G5.out.below hb6; have r6 := Arr.below r5 hb6 (Arr.lt r5))
      | (have _t := G6; go_at_call 87; refine (GR.out _ _ G6.r).mono ?_; rintro e w7 ⟨r, hr, rfl, hb7⟩; have G7 := G6.below hb7; have r7 := Arr.below r6 hb7 (Arr.lt r6)))
  have b7 := G7.b
  clear G7 G6 r6 hb6 hb7 G5 r5 r4 HG4 GR GL
  by_cases he : r.2 = 0
  case neg =>
    have f1 : (r.2 != 0) = true := by rw [bne_iff_ne]; exact he
    have HR := Lib.hid hr
    have hso : Hid (sumOf r = zeros32) := Lib.hid (by unfold sumOf; rw [if_neg he])
    clear he hr
    obtain ⟨r1, E⟩ := r
    simp only at f1 ⊢
    generalize zeros32 = ys at *
    go_wp2_with (first
      | (refine wpList_build_zeros rfl _ _ rfl (arrV .u8 ys) (fun W => by simpa using hBz.out W) ?_)
      | (have _t := r7; refine wpList_store_arr rfl _ _ _ rfl (ys := ys) r7 rfl rfl (by rw [Hz.out]; rfl) (by rw [Hz.out]; kernel_rfl) ?_; clear _t; intro w9 r9 g9))
    refine bodyPost_ret (v := .tuple #[arrV .u8 ys, .int .i64 E]) (results_row_tmp rfl _ _ (w.heap.size + 1 + 1) 47 _ (0, 0) _ rfl r9 _ rfl Tryd.underlying47 rfl (by rw [show (ys.map (Value.int .u8)).toArray.size = 32 by simp [Hz.out]]; kernel_rfl)) rfl ⟨_, HR.out, by rw [hso.out], ?_⟩
    exact rgo_fill b7 (by omega) g9
  case pos =>
    have f1 : (r.2 != 0) = false := by simp [he]
    have hoc : Octets r.1 ∧ r.1.length = n := by
      have hr2 := hr
      rcases hr2 with ⟨k, _, _, h2, rfl⟩ | ⟨h1, rfl⟩
      · exact absurd he h2
      · exact ⟨rowP_octets HWH.out h1, rowP_length _ _ _ _⟩
    have HO := Lib.hid hoc
    have HR := Lib.hid hr
    have hso : Hid (sumOf r = sumL r.1) := Lib.hid (by unfold sumOf; rw [if_pos he])
    have GS := Lib.hid (fun A c W (hc : r.1.length ≤ c) (hm : c ≤ maxLen) (hh : Holds W W.heap.size .u8 A r.1) => Sha.rsum_any A r.1 c W (by rw [HO.out.2]; omega) hc hm HO.out.1 hh)
    have Hl := Lib.hid (sumL_length r.1)
    have HMX : Hid (r.1.length ≤ maxLen) := Lib.hid (by rw [HO.out.2]; exact Nat.le_trans hnm (by decide))
    obtain ⟨xs, E⟩ := r
    simp only at f1 he HO HR hso GS Hl HMX ⊢
    subst he
    clear hoc hr
    generalize sumL xs = ys at *
    go_wp2_with (first
      | (refine wpList_bytes_of rfl _ _ 5 _ rfl (xs := xs) rfl Tryd.underlying9 Tryd.underlying22 Tryd.underlying5 HO.out.1 HMX.out ?_; intro A8 c8 w8 k1 k2 k3 hb8; have r8 := Arr.below r7 hb8 (Arr.lt r7); have b8 := b7.trans (hb8.mono b7.size))
      | (have _t := r8; go_at_call 81; refine (GS.out A8 c8 _ k1 k2 k3).mono ?_; clear _t; rintro e w9 ⟨rfl, hb9⟩; have r9 := Arr.below r8 hb9 (Arr.lt r8); have b9 := b8.trans (hb9.mono b8.size))
      | (have _t := r9; refine wpList_store_arr rfl _ _ _ rfl (ys := ys) r9 rfl rfl (by rw [Hl.out]; rfl) (by rw [Hl.out]; kernel_rfl) ?_; clear _t; intro w10 r10 g10))
    refine bodyPost_ret (v := .tuple #[arrV .u8 ys, .int .i64 0]) (results_row_tmp rfl _ _ (w.heap.size + 1 + 1) 47 _ (0, 0) _ rfl r10 _ rfl Tryd.underlying47 rfl (by rw [show (ys.map (Value.int .u8)).toArray.size = 32 by simp [Hl.out]]; kernel_rfl)) rfl ⟨_, HR.out, by rw [hso.out], ?_⟩
    exact rgo_fill b9 (by omega) g10
end Go.Proofs.YtpnodocjpedcmaaDoor.Im
