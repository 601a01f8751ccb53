/-
  Layer 25, the document's answers: Sum. Conditions: the device's row, a layout that may be on it.
  Layer 25, image: a step of an image on a device, and of the document's: contracts. Conditions: as each theorem names.
  Layer 25, image: a step of an image on a device, and of the document's: Put, Keep: contracts. Conditions: as each theorem names.
  Layer 25, image: a step of an image on a device, and of the document's: Sync: contracts. Conditions: as each theorem names.
  Layer 25, image: a step of an image on a device, and of the document's: Range: contracts. Conditions: as each theorem names.
  Layer 25, image: a step of an image on a device, and of the document's: Sum: contracts. Conditions: as each theorem names.
  Layer 25, image: a step of an image on a device, and of the document's: Fuse, Back: contracts. Conditions: as each theorem names.
  Layer 25, image: a step of an image on a device, and of the document's, whatever its kind: contract. Conditions: as the theorem names.
-/
import Derived.Test.YtpnodocjpedcmaaDoorMGIays12
import Derived.Test.YtpnodocjpedcmaaDoorMImF
import Derived.Test.YtpnodocjpedcmaaDoorMJoD
import Derived.Test.YtpnodocjpedcmaaDoorMShV
import Derived.Test.YtpnodocjpedcmaaDoorMGIays10
import Derived.Test.YtpnodocjpedcmaaDoorMGIays0
import Derived.Deep.RegionHeld
namespace Go.Proofs.YtpnodocjpedcmaaDoor.Im
open Go.ChangeShapes Go.WideShapes Go.ChangeAt Go.RowKit Go.Proofs.YtpnodocjpedcmaaDoor.Kit Go.Proofs.YtpnodocjpedcmaaDoor.Pt
open Go.Proofs.YtpnodocjpedcmaaDoor.Sec (Dv RDv dCells GivesS GivesED)
open Go.Proofs.YtpnodocjpedcmaaDoor.Sha (sumL sumL_length)
open Go.Proofs.YtpnodocjpedcmaaDoor.Jr (wpList_bytes_of)

theorem build_zeros32 (w : World) : (Instr.build 47 #[]).run Tryd.prog w = .ok (arrV .u8 zeros32) w := by kernel_rfl

theorem rgo_res {w W : World} {s : Dv} {Ak Aw : Option Addr} {ck cw : Nat} {S B sl : Int} (h : RGo w W s Ak ck Aw cw S B sl) (o : Obj) : RGo w (W.alloc o) s Ak ck Aw cw S B sl := h.below ((Below.refl _ _).alloc (Nat.le_refl _) _)
theorem rgo_fill {w W W' : World} {g : Nat} (h : Below w.heap.size w W) (hg : w.heap.size ≤ g) (g9 : W.grownBy W' (some g)) : Below w.heap.size w W' := h.trans (below_of_grown g9 h.size fun b hb => by injection hb with hb; omega)

set_option maxRecDepth 100000 in
set_option maxHeartbeats 3200000 in
theorem rsum_no (v : Value) (s : Dv) (S B sl i n : Int) (w : World) (h : RDv w v s) (hL : LayOk S B sl s) (hn : ¬ (0 ≤ n ∧ n ≤ B * sl)) :
    Calls Tryd.prog 62 #[v, .agg #[.int .i64 S, .int .i64 B, .int .i64 sl], .int .u8 i, .int .i64 n] w fun e w' => e = .returned (.tuple #[arrV .u8 zeros32, .int .i64 5]) ∧ Below w.heap.size w w' := by
  obtain ⟨hS, hB, hs, hdd, hq, h0, h1, h2, h3⟩ := hL.facts
  obtain ⟨Ak, ck, Aw, cw, rfl, hr⟩ := h
  have G3 : RGo w _ s Ak ck Aw cw S B sl := RGo.start ⟨Ak, ck, Aw, cw, rfl, hr⟩
  obtain ⟨C, hC⟩ : ∃ C, B * sl = C := ⟨_, rfl⟩
  have hw : IntKind.i64.wrap (B * sl) = C := by rw [hC]; exact IntWalk.i64_in _ (by omega)
  rw [hC] at hn
  have Hz := Lib.hid (show zeros32.length = 32 from rfl)
  have hBz := Lib.hid build_zeros32
  generalize zeros32 = ys at *
  have hd9 : decide (n < 0) = true ∨ (decide (n < 0) = false ∧ decide (C < n) = true) := by
    simp only [decide_eq_true_eq, decide_eq_false_iff_not]
    omega
  have HG := Lib.hid G3
  clear hr hL hn G3 hS hB hs hdd hq h0 h1 h2 h3 hC
  unfold dCells at HG ⊢
  rcases hd9 with e1 | ⟨e1, e2⟩
  all_goals
    go_enter Tryd.func62, Tryd.ntmps62
    go_upto_region 1 with fail
    have hz : ((w.alloc (.cells #[.int .i64 s.size, .int .i64 s.count, .slice Ak s.kept.length ck, .slice Aw s.waits.length cw, .bool s.off, .int .i64 s.offs, .int .i64 s.fuse, .int .u64 s.wr] 31)).alloc (.cells #[.int .i64 S, .int .i64 B, .int .i64 sl] 61)).heap.size = w.heap.size + 1 + 1 := by simp
    generalize (w.alloc _).alloc _ = w3 at *
    have r4 : Arr (w3.alloc (.cells #[.int .u8 0, .int .u8 0, .int .u8 0, .int .u8 0, .int .u8 0, .int .u8 0, .int .u8 0, .int .u8 0, .int .u8 0, .int .u8 0, .int .u8 0, .int .u8 0, .int .u8 0, .int .u8 0, .int .u8 0, .int .u8 0, .int .u8 0, .int .u8 0, .int .u8 0, .int .u8 0, .int .u8 0, .int .u8 0, .int .u8 0, .int .u8 0, .int .u8 0, .int .u8 0, .int .u8 0, .int .u8 0, .int .u8 0, .int .u8 0, .int .u8 0, .int .u8 0] 47)) w3.heap.size 47 .u8 (List.replicate 32 0) := res_new w3 47
    have G4 := rgo_res HG.out (.cells #[.int .u8 0, .int .u8 0, .int .u8 0, .int .u8 0, .int .u8 0, .int .u8 0, .int .u8 0, .int .u8 0, .int .u8 0, .int .u8 0, .int .u8 0, .int .u8 0, .int .u8 0, .int .u8 0, .int .u8 0, .int .u8 0, .int .u8 0, .int .u8 0, .int .u8 0, .int .u8 0, .int .u8 0, .int .u8 0, .int .u8 0, .int .u8 0, .int .u8 0, .int .u8 0, .int .u8 0, .int .u8 0, .int .u8 0, .int .u8 0, .int .u8 0, .int .u8 0] 47)
    rw [hz] at r4
    generalize w3.alloc (.cells #[.int .u8 0, .int .u8 0, .int .u8 0, .int .u8 0, .int .u8 0, .int .u8 0, .int .u8 0, .int .u8 0, .int .u8 0, .int .u8 0, .int .u8 0, .int .u8 0, .int .u8 0, .int .u8 0, .int .u8 0, .int .u8 0, .int .u8 0, .int .u8 0, .int .u8 0, .int .u8 0, .int .u8 0, .int .u8 0, .int .u8 0, .int .u8 0, .int .u8 0, .int .u8 0, .int .u8 0, .int .u8 0, .int .u8 0, .int .u8 0, .int .u8 0, .int .u8 0] 47) = w4 at *
    have c1 : w4.cell? ⟨w.heap.size + 1, 1, none⟩ = some (.int .i64 B) := G4.y.cell 1
    have c2 : w4.cell? ⟨w.heap.size + 1, 2, none⟩ = some (.int .i64 sl) := G4.y.cell 2
    have b4 := G4.b
    clear G4 hz HG
    go_wp2_with (first
      | (refine wpList_build_zeros rfl _ _ rfl (arrV .u8 ys) (fun W => by simpa using hBz.out W) ?_)
      | (have _t := r4; refine wpList_store_arr rfl _ _ _ rfl (ys := ys) r4 rfl rfl (by rw [Hz.out]; rfl) (by rw [Hz.out]; kernel_rfl) ?_; clear _t; intro w9 r9 g9))
    refine bodyPost_ret (v := .tuple #[arrV .u8 ys, .int .i64 5]) (results_row_tmp rfl _ _ (w.heap.size + 1 + 1) 47 _ (0, 0) _ rfl r9 _ rfl Tryd.underlying47 rfl (by rw [show (ys.map (Value.int .u8)).toArray.size = 32 by simp [Hz.out]]; kernel_rfl)) rfl ⟨rfl, ?_⟩
    exact rgo_fill b4 (by omega) g9

set_option maxRecDepth 100000 in
set_option maxHeartbeats 3200000 in
theorem rsum_yes (v : Value) (s : Dv) (S B sl i : Int) (n : Nat) (w : World) (h : RDv w v s) (hok : s.Ok) (hwh : Whole s) (hL : LayOk S B sl s) (hn : (n : Int) ≤ B * sl) :
    Calls Tryd.prog 62 #[v, .agg #[.int .i64 S, .int .i64 B, .int .i64 sl], .int .u8 i, .int .i64 n] w fun e w' => ∃ r, ReadsP s (slotF S B sl i) 0 n r ∧ e = .returned (.tuple #[arrV .u8 (sumOf r), .int .i64 r.2]) ∧ Below w.heap.size w w' := by
  obtain ⟨hS, hB, hs, hdd, hq, h0, h1, h2, h3⟩ := hL.facts
  have GL := Lib.hid (fun W => rslot_any S B sl i W hL.m)
  have GR : Hid (∀ v W, RDv W v s → Calls Tryd.prog 87 #[v, .agg #[.int .i64 (slotF S B sl i), .int .i64 (sl * (B / S))], .int .i64 0, .int .i64 n] W fun e w' => ∃ r, ReadsP s (slotF S B sl i) 0 n r ∧ GivesS r.1 r.2 W e w') := Lib.hid (fun v W h => by
    refine (rpread_any v s _ _ _ 0 n W h hok hwh (hL.lies i) (by omega)).mono ?_
    rintro e w' ⟨r, hr, hg⟩
    exact ⟨r, pread_in (a := 0) (by exact hr) (by omega), hg⟩)
  obtain ⟨Ak, ck, Aw, cw, rfl, hr⟩ := h
  have G3 : RGo w _ s Ak ck Aw cw S B sl := RGo.start ⟨Ak, ck, Aw, cw, rfl, hr⟩
  obtain ⟨C, hC⟩ : ∃ C, B * sl = C := ⟨_, rfl⟩
  have hw : IntKind.i64.wrap (B * sl) = C := by rw [hC]; exact IntWalk.i64_in _ (by omega)
  rw [hC] at hn h1
  have Hz := Lib.hid (show zeros32.length = 32 from rfl)
  have hBz := Lib.hid build_zeros32
  have e1 : decide ((n : Int) < 0) = false := decide_eq_false (by omega)
  have e2 : decide (C < (n : Int)) = false := decide_eq_false (by omega)
  have HWH := Lib.hid hwh
  have HG := Lib.hid G3
  have hnm : n ≤ 16777216 := by omega
  clear hr hL G3 hS hB hs hdd hq h0 h1 h2 h3 hC hn hok hwh
  generalize slotF S B sl i = F at GL GR ⊢
  generalize sl * (B / S) = p at GL GR
  unfold dCells at HG ⊢
  go_enter Tryd.func62, Tryd.ntmps62
  go_upto_region 1 with fail
  have hz : ((w.alloc (.cells #[.int .i64 s.size, .int .i64 s.count, .slice Ak s.kept.length ck, .slice Aw s.waits.length cw, .bool s.off, .int .i64 s.offs, .int .i64 s.fuse, .int .u64 s.wr] 31)).alloc (.cells #[.int .i64 S, .int .i64 B, .int .i64 sl] 61)).heap.size = w.heap.size + 1 + 1 := by simp
  generalize (w.alloc _).alloc _ = w3 at *
  have r4 : Arr (w3.alloc (.cells #[.int .u8 0, .int .u8 0, .int .u8 0, .int .u8 0, .int .u8 0, .int .u8 0, .int .u8 0, .int .u8 0, .int .u8 0, .int .u8 0, .int .u8 0, .int .u8 0, .int .u8 0, .int .u8 0, .int .u8 0, .int .u8 0, .int .u8 0, .int .u8 0, .int .u8 0, .int .u8 0, .int .u8 0, .int .u8 0, .int .u8 0, .int .u8 0, .int .u8 0, .int .u8 0, .int .u8 0, .int .u8 0, .int .u8 0, .int .u8 0, .int .u8 0, .int .u8 0] 47)) w3.heap.size 47 .u8 (List.replicate 32 0) := res_new w3 47
  have G4 := rgo_res HG.out (.cells #[.int .u8 0, .int .u8 0, .int .u8 0, .int .u8 0, .int .u8 0, .int .u8 0, .int .u8 0, .int .u8 0, .int .u8 0, .int .u8 0, .int .u8 0, .int .u8 0, .int .u8 0, .int .u8 0, .int .u8 0, .int .u8 0, .int .u8 0, .int .u8 0, .int .u8 0, .int .u8 0, .int .u8 0, .int .u8 0, .int .u8 0, .int .u8 0, .int .u8 0, .int .u8 0, .int .u8 0, .int .u8 0, .int .u8 0, .int .u8 0, .int .u8 0, .int .u8 0] 47)
  rw [hz] at r4
  generalize w3.alloc (.cells #[.int .u8 0, .int .u8 0, .int .u8 0, .int .u8 0, .int .u8 0, .int .u8 0, .int .u8 0, .int .u8 0, .int .u8 0, .int .u8 0, .int .u8 0, .int .u8 0, .int .u8 0, .int .u8 0, .int .u8 0, .int .u8 0, .int .u8 0, .int .u8 0, .int .u8 0, .int .u8 0, .int .u8 0, .int .u8 0, .int .u8 0, .int .u8 0, .int .u8 0, .int .u8 0, .int .u8 0, .int .u8 0, .int .u8 0, .int .u8 0, .int .u8 0, .int .u8 0] 47) = w4 at *
  have c1 : w4.cell? ⟨w.heap.size + 1, 1, none⟩ = some (.int .i64 B) := G4.y.cell 1
  have c2 : w4.cell? ⟨w.heap.size + 1, 2, none⟩ = some (.int .i64 sl) := G4.y.cell 2
  have HG4 := Lib.hid G4
  clear G4 hz HG
  go_upto_region 3 with fail
  clear c1 c2 hw
  have G5 : Hid (RGo w w4.drew s Ak ck Aw cw S B sl) := Lib.hid (RGo.below HG4.out (below_draws (Below.refl _ _) 1))
  have r5 : Arr w4.drew (w.heap.size + 1 + 1) 47 .u8 (List.replicate 32 0) := Arr.drewN r4 1
  go_region_held3 (fun W' => W'.cell? ⟨w.heap.size, 0, none⟩ = some (.int .i64 s.size) ∧ W'.cell? ⟨w.heap.size, 1, none⟩ = some (.int .i64 s.count) ∧ W'.cell? ⟨w.heap.size, 2, none⟩ = some (.slice Ak s.kept.length ck) ∧ W'.cell? ⟨w.heap.size, 3, none⟩ = some (.slice Aw s.waits.length cw) ∧ W'.cell? ⟨w.heap.size, 4, none⟩ = some (.bool s.off) ∧ W'.cell? ⟨w.heap.size, 5, none⟩ = some (.int .i64 s.offs) ∧ W'.cell? ⟨w.heap.size, 6, none⟩ = some (.int .i64 s.fuse) ∧ W'.cell? ⟨w.heap.size, 7, none⟩ = some (.int .u64 s.wr) ∧ W'.cell? ⟨w.heap.size + 1, 0, none⟩ = some (.int .i64 S) ∧ W'.cell? ⟨w.heap.size + 1, 1, none⟩ = some (.int .i64 B) ∧ W'.cell? ⟨w.heap.size + 1, 2, none⟩ = some (.int .i64 sl))
    (first | exact HG4.out.cells | exact G5.out.cells | exact G6.cells | exact G7.cells)
    (first
      | (go_at_call 86; refine (GL.out _).mono ?_; rintro e w6 ⟨rfl, hb6⟩; have G6 := G5.out.below hb6; have r6 := Arr.below r5 hb6 (Arr.lt r5))
      | (have _t := G6; go_at_call 87; refine (GR.out _ _ G6.r).mono ?_; rintro e w7 ⟨r, hr, rfl, hb7⟩; have G7 := G6.below hb7; have r7 := Arr.below r6 hb7 (Arr.lt r6)))
  have b7 := G7.b
  clear G7 G6 r6 hb6 hb7 G5 r5 r4 HG4 GR GL
  by_cases he : r.2 = 0
  case neg =>
    have f1 : (r.2 != 0) = true := by rw [bne_iff_ne]; exact he
    have HR := Lib.hid hr
    have hso : Hid (sumOf r = zeros32) := Lib.hid (by unfold sumOf; rw [if_neg he])
    clear he hr
    obtain ⟨r1, E⟩ := r
    simp only at f1 ⊢
    generalize zeros32 = ys at *
    go_wp2_with (first
      | (refine wpList_build_zeros rfl _ _ rfl (arrV .u8 ys) (fun W => by simpa using hBz.out W) ?_)
      | (have _t := r7; refine wpList_store_arr rfl _ _ _ rfl (ys := ys) r7 rfl rfl (by rw [Hz.out]; rfl) (by rw [Hz.out]; kernel_rfl) ?_; clear _t; intro w9 r9 g9))
    refine bodyPost_ret (v := .tuple #[arrV .u8 ys, .int .i64 E]) (results_row_tmp rfl _ _ (w.heap.size + 1 + 1) 47 _ (0, 0) _ rfl r9 _ rfl Tryd.underlying47 rfl (by rw [show (ys.map (Value.int .u8)).toArray.size = 32 by simp [Hz.out]]; kernel_rfl)) rfl ⟨_, HR.out, by rw [hso.out], ?_⟩
    exact rgo_fill b7 (by omega) g9
  case pos =>
    have f1 : (r.2 != 0) = false := by simp [he]
    have hoc : Octets r.1 ∧ r.1.length = n := by
      have hr2 := hr
      rcases hr2 with ⟨k, _, _, h2, rfl⟩ | ⟨h1, rfl⟩
      · exact absurd he h2
      · exact ⟨rowP_octets HWH.out h1, rowP_length _ _ _ _⟩
    have HO := Lib.hid hoc
    have HR := Lib.hid hr
    have hso : Hid (sumOf r = sumL r.1) := Lib.hid (by unfold sumOf; rw [if_pos he])
    have GS := Lib.hid (fun A c W (hc : r.1.length ≤ c) (hm : c ≤ maxLen) (hh : Holds W W.heap.size .u8 A r.1) => Sha.rsum_any A r.1 c W (by rw [HO.out.2]; omega) hc hm HO.out.1 hh)
    have Hl := Lib.hid (sumL_length r.1)
    have HMX : Hid (r.1.length ≤ maxLen) := Lib.hid (by rw [HO.out.2]; exact Nat.le_trans hnm (by decide))
    obtain ⟨xs, E⟩ := r
    simp only at f1 he HO HR hso GS Hl HMX ⊢
    subst he
    clear hoc hr
    generalize sumL xs = ys at *
    go_wp2_with (first
      | (refine wpList_bytes_of rfl _ _ 5 _ rfl (xs := xs) rfl Tryd.underlying9 Tryd.underlying22 Tryd.underlying5 HO.out.1 HMX.out ?_; intro A8 c8 w8 k1 k2 k3 hb8; have r8 := Arr.below r7 hb8 (Arr.lt r7); have b8 := b7.trans (hb8.mono b7.size))
      | (have _t := r8; go_at_call 81; refine (GS.out A8 c8 _ k1 k2 k3).mono ?_; clear _t; rintro e w9 ⟨rfl, hb9⟩; have r9 := Arr.below r8 hb9 (Arr.lt r8); have b9 := b8.trans (hb9.mono b8.size))
      | (have _t := r9; refine wpList_store_arr rfl _ _ _ rfl (ys := ys) r9 rfl rfl (by rw [Hl.out]; rfl) (by rw [Hl.out]; kernel_rfl) ?_; clear _t; intro w10 r10 g10))
    refine bodyPost_ret (v := .tuple #[arrV .u8 ys, .int .i64 0]) (results_row_tmp rfl _ _ (w.heap.size + 1 + 1) 47 _ (0, 0) _ rfl r10 _ rfl Tryd.underlying47 rfl (by rw [show (ys.map (Value.int .u8)).toArray.size = 32 by simp [Hl.out]]; kernel_rfl)) rfl ⟨_, HR.out, by rw [hso.out], ?_⟩
    exact rgo_fill b9 (by omega) g10
end Go.Proofs.YtpnodocjpedcmaaDoor.Im

namespace Go.Proofs.YtpnodocjpedcmaaDoor.Im
open Go.ChangeShapes Go.WideShapes Go.ChangeAt Go.RowKit Go.Proofs.YtpnodocjpedcmaaDoor.Kit Go.Proofs.YtpnodocjpedcmaaDoor.Pt
open Go.Proofs.YtpnodocjpedcmaaDoor.Sec (Dv DvAt DSet Dev RDv dCells dCells_one zD zD_noText GivesED GivesD GivesS GivesB results_tmp_row block_range wpList_load_midV)

/-- Within a step: the boxes and the result's cell lie behind the world that was called in. -/
structure In25 (w0 w W : World) (x a mk mw p0 p1 p2 : Nat) (S B sl : Int) (s : Dv) (m : Step25) (cs : Array Value) : Prop where
  d : Dev w0 W a mk mw s
  i : ImAt W x a S B sl p0 p1 p2
  t : TurnsIn (DSet a mk mw) w W
  x : Block W w.heap.size 31 cs
  c : Block W (w.heap.size + 1) 61 #[.int .i64 S, .int .i64 B, .int .i64 sl]
  y : Block W (w.heap.size + 1 + 1) 73 m.cells.toArray
  z : Block W (w.heap.size + 1 + 1 + 1) 31 zD
  g : w0.heap.size ≤ w.heap.size
section
variable {w0 w W W' : World} {x a mk mw p0 p1 p2 : Nat} {S B sl : Int} {s s' : Dv} {m : Step25} {cs cs' : Array Value}
theorem In25.below (h : In25 w0 w W x a mk mw p0 p1 p2 S B sl s m cs) (hb : Below W.heap.size W W') : In25 w0 w W' x a mk mw p0 p1 p2 S B sl s m cs :=
  ⟨h.d.below hb, h.i.below hb, h.t.trans (.ofNew hb), h.x.below hb h.x.lt, h.c.below hb h.c.lt, h.y.below hb h.y.lt, h.z.below hb h.z.lt, h.g⟩
theorem In25.turn (h : In25 w0 w W x a mk mw p0 p1 p2 S B sl s m cs) {I : Nat → Prop} (hd : DvAt W' I a mk mw s') (t : TurnsIn (DSet a mk mw) W W') : In25 w0 w W' x a mk mw p0 p1 p2 S B sl s' m cs :=
  ⟨h.d.turn hd t, h.i.turn h.d.d t, h.t.trans t, Sec.Block.dset h.d.d t h.x (by decide), Sec.Block.dset h.d.d t h.c (by decide), Sec.Block.dset h.d.d t h.y (by decide), Sec.Block.dset h.d.d t h.z (by decide), h.g⟩
theorem In25.start (h : Dev w0 w a mk mw s) (i : ImAt w x a S B sl p0 p1 p2) (m : Step25) (cs : Array Value) : In25 w0 w ((((w.alloc (.cells cs 31)).alloc (.cells #[.int .i64 S, .int .i64 B, .int .i64 sl] 61)).alloc (.cells m.cells.toArray 73)).alloc (.cells zD 31)) x a mk mw p0 p1 p2 S B sl s m cs := by
  have hX := Block.new w 31 cs
  have b1 : Below w.heap.size w (w.alloc (.cells cs 31)) := (Below.refl _ _).alloc (Nat.le_refl _) _
  have z1 : (w.alloc (.cells cs 31)).heap.size = w.heap.size + 1 := by simp
  generalize w.alloc (.cells cs 31) = W1 at *
  have hC := Block.new W1 61 #[.int .i64 S, .int .i64 B, .int .i64 sl]
  rw [z1] at hC
  have c2 : Below W1.heap.size W1 (W1.alloc (.cells #[.int .i64 S, .int .i64 B, .int .i64 sl] 61)) := (Below.refl _ _).alloc (Nat.le_refl _) _
  have z2 : (W1.alloc (.cells #[.int .i64 S, .int .i64 B, .int .i64 sl] 61)).heap.size = w.heap.size + 1 + 1 := by simp [z1]
  generalize W1.alloc (.cells #[.int .i64 S, .int .i64 B, .int .i64 sl] 61) = W2 at *
  have hY := Block.new W2 73 m.cells.toArray
  rw [z2] at hY
  have c3 : Below W2.heap.size W2 (W2.alloc (.cells m.cells.toArray 73)) := (Below.refl _ _).alloc (Nat.le_refl _) _
  have z3 : (W2.alloc (.cells m.cells.toArray 73)).heap.size = w.heap.size + 1 + 1 + 1 := by simp [z2]
  generalize W2.alloc (.cells m.cells.toArray 73) = W3 at *
  have hZ := Block.new W3 31 zD
  rw [z3] at hZ
  have c4 : Below W3.heap.size W3 (W3.alloc (.cells zD 31)) := (Below.refl _ _).alloc (Nat.le_refl _) _
  generalize W3.alloc (.cells zD 31) = W4 at *
  have b4 : Below w.heap.size w W4 := ((b1.trans (c2.mono b1.size)).trans ((c3.trans (c4.mono c3.size)).mono (by omega)))
  exact ⟨h.below b4, i.below b4, .ofNew b4, (((hX.below c2 hX.lt).below c3 (by have := hX.lt; omega)).below c4 (by have := hX.lt; omega)), ((hC.below c3 hC.lt).below c4 (by have := hC.lt; omega)), hY.below c4 hY.lt, hZ, h.b.size⟩
theorem own_conv {W : World} {B0 : Nat} {v : Value} {xs : List Int} (h : Own W B0 5 .u8 v xs) : (convert 22 9 v).run Tryd.prog W = .ok (.string (strOfNums xs)) W := by
  obtain ⟨A, c, rfl, -, -, hh⟩ := h.opened
  exact conv_bytes (P := Tryd.prog) Tryd.underlying22 Tryd.underlying5 Tryd.underlying9 W A xs c _ hh
/-- What a step leaves: both told alike, and the device and the document's are the same. -/
def Does25 (w0 w : World) (x a mk mw p0 p1 p2 : Nat) (S B sl : Int) (s : Dv) (e : Ending) (w' : World) : Prop :=
  ∃ t v, e = .returned (.tuple #[.bool true, v]) ∧ RDv w' v t ∧ Dev w0 w' a mk mw t ∧ ImAt w' x a S B sl p0 p1 p2 ∧ TurnsIn (DSet a mk mw) w w' ∧ Near s t
/-- The result's cell is filled. -/
theorem In25.done {t : Dv} (h : In25 w0 w W x a mk mw p0 p1 p2 S B sl t m cs) {Ak : Option Addr} {ck : Nat} {Aw : Option Addr} {cw : Nat} (hr : RDv W (.agg (dCells Ak ck Aw cw t)) t) (gr : W.grownBy W' (some (w.heap.size + 1 + 1 + 1))) (hn : Near s t) :
    Does25 w0 w x a mk mw p0 p1 p2 S B sl s (.returned (.tuple #[.bool true, .agg (dCells Ak ck Aw cw t)])) W' := by
  have hg := h.g
  have bw : Below w.heap.size w w := Below.refl _ _
  have tt : TurnsIn (fun b => b = w.heap.size + 1 + 1 + 1) W W' := .ofGrown gr fun b hb => by injection hb with hb; exact hb.symm
  have hz := h.z
  refine ⟨t, _, rfl, hr.kept hz zD_noText gr, h.d.grown hz (by decide) (by decide) (by omega) gr, ?_, h.t.then_ tt (fun b hb e => by omega), hn⟩
  have ne : ∀ {g : Nat} {ty : TypeId} {cs : Array Value}, Block W g ty cs → ty ≠ 31 → g ≠ w.heap.size + 1 + 1 + 1 := by
    intro g ty cs hg hne e
    exact block_ne hg hz hne e
  exact ⟨Block.out h.i.x tt (ne h.i.x (by decide)), Block.out h.i.p0 tt (ne h.i.p0 (by decide)), Block.out h.i.p1 tt (ne h.i.p1 (by decide)), Block.out h.i.p2 tt (ne h.i.p2 (by decide))⟩
end

set_option maxRecDepth 100000 in
set_option maxHeartbeats 6400000 in
/-- Kept of both. -/
theorem does_kept (w0 w : World) (x a mk mw p0 p1 p2 : Nat) (S B sl : Int) (s : Dv) (m : Step25) (dv : Value) (hd : Dev w0 w a mk mw s) (hi : ImAt w x a S B sl p0 p1 p2) (hr : RDv w dv s) (hL : LayOk S B sl s) (hm : m.Ok) (hin : m.In w0 w0.heap.size) (hbl : m.bs.length ≤ 1000) (hzl : m.zs.length ≤ 60) (hof : s.offs ≤ 100000000) (hwr : s.wr ≤ 100000000) (hk : m.k = 2) :
    Calls Tryd.prog 30 #[.pointer (some ⟨x, 0, none⟩), .pointer (some ⟨a, 0, none⟩), dv, .agg #[.int .i64 S, .int .i64 B, .int .i64 sl], .agg m.cells.toArray] w (Does25 w0 w x a mk mw p0 p1 p2 S B sl s) := by
  have hok : s.Ok := hd.d.ok
  have hwh : Whole s := whole_of hd.d
  have HBs := Lib.hid (fun W (hb : Below w0.heap.size w0 W) => (hin.1.below hb).more hb.size)
  have HZs := Lib.hid (fun W (hb : Below w0.heap.size w0 W) => (hin.2.below hb).more hb.size)
  have GK := Lib.hid (fun W (h : ImAt W x a S B sl p0 p1 p2) (hd : DvAt W (fun _ => True) a mk mw s) => kept_any _ x a mk mw p0 p1 p2 S B sl m.n s W h hd hL)
  have GD := Lib.hid (fun v W (h : RDv W v s) => rkept_any v s S B sl m.n W h hok hwh hL)
  have HR := Lib.hid (fun W (t : TurnsIn (DSet a mk mw) w W) => Sec.RDv.dset hd.d t hr)
  have h3 := Lib.hid (fun cs => In25.start hd hi m cs)
  obtain ⟨Ak, ck, Aw, cw, rfl, hkr⟩ := hr
  have H3 := Lib.hid (h3.out (dCells Ak ck Aw cw s))
  clear h3 hkr hd hi hin hL hof hwr hm hbl hzl hwh
  obtain ⟨k, blk, at_, n, view, sn, A, cap, bs, A2, cap2, zs⟩ := m
  simp only at *
  subst hk
  unfold Step25.cells zD at H3
  unfold dCells at HR H3 ⊢
  unfold Step25.cells
  simp only at H3 ⊢
  go_enter Tryd.func30, Tryd.ntmps30
  go_upto_region 1 with fail
  generalize (((w.alloc _).alloc _).alloc _).alloc _ = w4 at *
  have J4 := H3.out
  have q0 : w4.cell? ⟨w.heap.size + 1 + 1, 0, none⟩ = some (.int .i64 2) := J4.y.cell 0
  have q3 : w4.cell? ⟨w.heap.size + 1 + 1, 3, none⟩ = some (.int .i64 n) := J4.y.cell 3
  go_upto_region 12 with (have _t := J4; go_at_call 38; (with_reducible refine (GK.out _ J4.i J4.d.d).mono ?_); rintro e w5 ⟨r, hr, v5, rfl, own5, hb5⟩; have J5 := J4.below hb5; clear _t J4 q0 q3)
  have q3 : w5.cell? ⟨w.heap.size + 1 + 1, 3, none⟩ = some (.int .i64 n) := J5.y.cell 3
  have R5 := HR.out _ J5.t
  go_upto_region 13 with (first
    | (have _t := J5; refine wpList_load_midV (o := ⟨some 91, _, _, _, _, _⟩) (by rfl) _ _ rfl (w.heap.size) 0 rfl [.int .i64 s.size, .int .i64 s.count, .slice Ak s.kept.length ck, .slice Aw s.waits.length cw, .bool s.off, .int .i64 s.offs, .int .i64 s.fuse, .int .u64 s.wr] (block_range (L := [.int .i64 s.size, .int .i64 s.count, .slice Ak s.kept.length ck, .slice Aw s.waits.length cw, .bool s.off, .int .i64 s.offs, .int .i64 s.fuse, .int .u64 s.wr]) J5.x) Tryd.underlying31 rfl (by kernel_rfl) ?_)
    | (have _t := J5; refine wpList_load_midV (o := ⟨some 92, _, _, _, _, _⟩) (by rfl) _ _ rfl (w.heap.size + 1) 0 rfl [.int .i64 S, .int .i64 B, .int .i64 sl] (block_range (L := [.int .i64 S, .int .i64 B, .int .i64 sl]) J5.c) Tryd.underlying61 rfl (by kernel_rfl) ?_)
    | (have _t := R5; go_at_call 61; refine (GD.out _ _ R5).mono ?_; rintro e w6 ⟨r2, hr2, rfl, hb6⟩; obtain rfl := pread_one hr2 hr; have J6 := J5.below hb6; have R6 := R5.below hb6; have own6 := Own.below own5 hb6; clear _t J5 R5 own5 hr2 q3))
  have kc : ∀ W, Own W w4.heap.size 5 .u8 v5 r2.1 → (convert 22 9 v5).run Tryd.prog W = .ok (.string (strOfNums r2.1)) W := fun W h => own_conv h
  have P6 : In25 w0 w w6.drew x a mk mw p0 p1 p2 S B sl s _ _ := J6.below (below_draws (Below.refl _ _) 1)
  have RD6 := R6.below (show Below w6.heap.size w6 w6.drew from below_draws (Below.refl _ _) 1)
  have od6 := Own.drewN own6 1
  generalize strOfNums r2.1 = SS at *
  generalize r2.1 = xs at *
  generalize r2.2 = E at *
  refine wp_region_held_drew (S := fun W => Block W (w.heap.size) 31 #[.int .i64 s.size, .int .i64 s.count, .slice Ak s.kept.length ck, .slice Aw s.waits.length cw, .bool s.off, .int .i64 s.offs, .int .i64 s.fuse, .int .u64 s.wr] ∧ Own W w4.heap.size 5 .u8 v5 xs) (by kernel_rfl) ⟨J6.x, own6⟩ (fun hS => ?_)
  refine wpAnyH_take (i := 0) (oi := ⟨some 98, _, _, _, _, _⟩) (v := v5) rfl (by kernel_rfl) (by kernel_rfl) (by kernel_rfl) (fun _ _ _ h => h) (Or.inl ⟨by rfl, fun W hW => by go_simp⟩) hS ?_
  try simp only [Act.put, List.setIfInBounds_toArray, List.set_cons_zero, List.set_cons_succ]
  refine wpAnyH_take (i := 1) (oi := ⟨some 99, _, _, _, _, _⟩) (v := .string SS) rfl (by kernel_rfl) (by kernel_rfl) (by kernel_rfl) (fun _ _ _ h => h) (Or.inl ⟨by rfl, fun W hW => by have q := kc W hW.2; go_simp⟩) hS ?_
  try simp only [Act.put, List.setIfInBounds_toArray, List.set_cons_zero, List.set_cons_succ]
  refine wpAnyH_take (i := 2) (oi := ⟨some 100, _, _, _, _, _⟩) (v := .string SS) rfl (by kernel_rfl) (by kernel_rfl) (by kernel_rfl) (fun _ _ _ h => h) (Or.inl ⟨by rfl, fun W hW => by go_simp⟩) hS ?_
  try simp only [Act.put, List.setIfInBounds_toArray, List.set_cons_zero, List.set_cons_succ]
  refine wpAnyH_take (i := 3) (oi := ⟨some 101, _, _, _, _, _⟩) (v := .bool true) rfl (by kernel_rfl) (by kernel_rfl) (by kernel_rfl) (fun _ _ _ h => h) (Or.inl ⟨by rfl, fun W hW => by go_simp⟩) hS ?_
  try simp only [Act.put, List.setIfInBounds_toArray, List.set_cons_zero, List.set_cons_succ]
  refine wpAnyH_take (i := 4) (oi := ⟨some 102, _, _, _, _, _⟩) (v := .bool true) rfl (by kernel_rfl) (by kernel_rfl) (by kernel_rfl) (fun _ _ _ h => h) (Or.inl ⟨by rfl, fun W hW => by go_simp⟩) hS ?_
  try simp only [Act.put, List.setIfInBounds_toArray, List.set_cons_zero, List.set_cons_succ]
  refine wpAnyH_take (i := 5) (oi := ⟨some 103, _, _, _, _, _⟩) (v := .int .i64 E) rfl (by kernel_rfl) (by kernel_rfl) (by kernel_rfl) (fun _ _ _ h => h) (Or.inl ⟨by rfl, fun W hW => by go_simp⟩) hS ?_
  try simp only [Act.put, List.setIfInBounds_toArray, List.set_cons_zero, List.set_cons_succ]
  refine wpAnyH_take (i := 6) (oi := ⟨some 104, _, _, _, _, _⟩) (v := .int .i64 E) rfl (by kernel_rfl) (by kernel_rfl) (by kernel_rfl) (fun _ _ _ h => h) (Or.inl ⟨by rfl, fun W hW => by go_simp⟩) hS ?_
  try simp only [Act.put, List.setIfInBounds_toArray, List.set_cons_zero, List.set_cons_succ]
  refine wpAnyH_take (i := 7) (oi := ⟨some 105, _, _, _, _, _⟩) (v := .bool true) rfl (by kernel_rfl) (by kernel_rfl) (by kernel_rfl) (fun _ _ _ h => h) (Or.inl ⟨by rfl, fun W hW => by go_simp⟩) hS ?_
  try simp only [Act.put, List.setIfInBounds_toArray, List.set_cons_zero, List.set_cons_succ]
  refine wpAnyH_take (i := 8) (oi := ⟨some 106, _, _, _, _, _⟩) (v := .bool true) rfl (by kernel_rfl) (by kernel_rfl) (by kernel_rfl) (fun _ _ _ h => h) (Or.inl ⟨by rfl, fun W hW => by go_simp⟩) hS ?_
  try simp only [Act.put, List.setIfInBounds_toArray, List.set_cons_zero, List.set_cons_succ]
  refine wpAnyH_take (i := 9) (oi := ⟨some 107, _, _, _, _, _⟩) (v := .agg #[.int .i64 s.size, .int .i64 s.count, .slice Ak s.kept.length ck, .slice Aw s.waits.length cw, .bool s.off, .int .i64 s.offs, .int .i64 s.fuse, .int .u64 s.wr]) rfl (by kernel_rfl) (by kernel_rfl) (by kernel_rfl) (fun _ _ _ h => h) (yieldsIf_load_mid (by rfl) _ _ rfl (w.heap.size) (0) rfl [.int .i64 s.size, .int .i64 s.count, .slice Ak s.kept.length ck, .slice Aw s.waits.length cw, .bool s.off, .int .i64 s.offs, .int .i64 s.fuse, .int .u64 s.wr] _ (fun W hW => block_range (L := [.int .i64 s.size, .int .i64 s.count, .slice Ak s.kept.length ck, .slice Aw s.waits.length cw, .bool s.off, .int .i64 s.offs, .int .i64 s.fuse, .int .u64 s.wr]) hW.1) Tryd.underlying31 rfl (by kernel_rfl)) hS ?_
  try simp only [Act.put, List.setIfInBounds_toArray, List.set_cons_zero, List.set_cons_succ]
  refine wpAnyH_ready (rs := [10]) (by kernel_rfl) (by simp) ?_
  refine AllReadyH.cons rfl (fun K hK => ?_) AllReadyH.nil
  go_simp
  refine hK.out _ _ ⟨P6.x, od6⟩ (fun hS => ?_)
  clear hK K
  try simp only [Act.put, List.setIfInBounds_toArray, List.set_cons_zero, List.set_cons_succ]
  refine wpAnyH_ready (rs := [11]) (by kernel_rfl) (by simp) ?_
  refine AllReadyH.cons rfl (fun K hK => ?_) AllReadyH.nil
  refine step_store_blk rfl _ _ _ rfl (cs := zD) (ds := (dCells Ak ck Aw cw s).toList) (by exact P6.z) rfl rfl rfl (by kernel_rfl) (dCells_one _ _ _ _ _) ?_
  intro x9 Z9 g9
  have hfin := In25.done P6 RD6 g9 (Near.refl s)
  refine hK.out _ _ ⟨P6.x.grown g9 (by intro h; injection h with h; omega), od6.kept g9 (Or.inr (od6.ne_block P6.z (by decide)))⟩ (fun hS => ?_)
  clear hK K
  try simp only [Act.put, List.setIfInBounds_toArray, List.set_cons_zero, List.set_cons_succ]
  refine wpAnyH_done (by kernel_rfl) ?_ _
  go_wp2_with fail
  exact bodyPost_ret (v := .tuple #[.bool true, .agg (dCells Ak ck Aw cw s)]) (results_tmp_row rfl _ _ (w.heap.size + 1 + 1 + 1) 31 _ (0, 0) _ _ rfl rfl Z9 Tryd.underlying31 rfl (by kernel_rfl)) rfl hfin
end Go.Proofs.YtpnodocjpedcmaaDoor.Im

namespace Go.Proofs.YtpnodocjpedcmaaDoor.Im
open Go.ChangeShapes Go.WideShapes Go.ChangeAt Go.RowKit Go.Proofs.YtpnodocjpedcmaaDoor.Kit Go.Proofs.YtpnodocjpedcmaaDoor.Pt
open Go.Proofs.YtpnodocjpedcmaaDoor.Sec (Dv DvAt DSet Dev RDv dCells dCells_one zD zD_noText GivesED GivesD GivesS GivesB results_tmp_row block_range wpList_load_midV)


def PutR (s : Dv) (S B sl i k : Int) (bs : List Int) (r : Int × Dv) : Prop :=
  (¬ (0 ≤ k ∧ k < sl) ∧ r = (5, s)) ∨ ((0 ≤ k ∧ k < sl) ∧ ¬ (1 ≤ bs.length ∧ (bs.length : Int) ≤ B) ∧ r = (3, s)) ∨ ((0 ≤ k ∧ k < sl) ∧ (1 ≤ bs.length ∧ (bs.length : Int) ≤ B) ∧ PWrite s (slotF S B sl i) (B * sl).toNat (k * B) bs r)
theorem putR_one {s : Dv} {S B sl i k : Int} {bs : List Int} {r t : Int × Dv} (h : PutR s S B sl i k bs r) (g : PutR s S B sl i k bs t) : r = t := by
  rcases h with ⟨h1, rfl⟩ | ⟨h1, h2, rfl⟩ | ⟨h1, h2, h3⟩ <;> rcases g with ⟨g1, rfl⟩ | ⟨g1, g2, rfl⟩ | ⟨g1, g2, g3⟩
  all_goals first
    | rfl
    | exact absurd h1 g1
    | exact absurd g1 h1
    | exact absurd h2 g2
    | exact absurd g2 h2
    | exact pwrite_one h3 g3
theorem putR_near {s : Dv} {S B sl i k : Int} {bs : List Int} {r : Int × Dv} (hs : 1 ≤ s.size) (hb : bs.length ≤ 2000) (h : PutR s S B sl i k bs r) : Near s r.2 := by
  rcases h with ⟨_, rfl⟩ | ⟨_, _, rfl⟩ | ⟨_, _, h3⟩
  · exact Near.refl s
  · exact Near.refl s
  · exact pwrite_near hs hb h3
def KeepR (s : Dv) (B : Int) (bs : List Int) (r : Int × Dv) : Prop :=
  (¬ (1 ≤ bs.length ∧ (bs.length : Int) ≤ B) ∧ r = (3, s)) ∨ ((1 ≤ bs.length ∧ (bs.length : Int) ≤ B) ∧ PWrite s 2 B.toNat 0 bs r)
theorem keepR_one {s : Dv} {B : Int} {bs : List Int} {r t : Int × Dv} (h : KeepR s B bs r) (g : KeepR s B bs t) : r = t := by
  rcases h with ⟨h1, rfl⟩ | ⟨h1, h3⟩ <;> rcases g with ⟨g1, rfl⟩ | ⟨g1, g3⟩
  all_goals first
    | rfl
    | exact absurd h1 g1
    | exact absurd g1 h1
    | exact pwrite_one h3 g3
theorem keepR_near {s : Dv} {B : Int} {bs : List Int} {r : Int × Dv} (hs : 1 ≤ s.size) (hb : bs.length ≤ 2000) (h : KeepR s B bs r) : Near s r.2 := by
  rcases h with ⟨_, rfl⟩ | ⟨_, h3⟩
  · exact Near.refl s
  · exact pwrite_near hs hb h3

set_option maxRecDepth 100000 in
set_option maxHeartbeats 6400000 in
/-- Put of both. -/
theorem does_put (w0 w : World) (x a mk mw p0 p1 p2 : Nat) (S B sl : Int) (s : Dv) (m : Step25) (dv : Value) (hd : Dev w0 w a mk mw s) (hi : ImAt w x a S B sl p0 p1 p2) (hr : RDv w dv s) (hL : LayOk S B sl s) (hm : m.Ok) (hin : m.In w0 w0.heap.size) (hbl : m.bs.length ≤ 1000) (hzl : m.zs.length ≤ 60) (hof : s.offs ≤ 100000000) (hwr : s.wr ≤ 100000000) (hk : m.k = 0) :
    Calls Tryd.prog 30 #[.pointer (some ⟨x, 0, none⟩), .pointer (some ⟨a, 0, none⟩), dv, .agg #[.int .i64 S, .int .i64 B, .int .i64 sl], .agg m.cells.toArray] w (Does25 w0 w x a mk mw p0 p1 p2 S B sl s) := by
  have hok : s.Ok := hd.d.ok
  have hwh : Whole s := whole_of hd.d
  have HBs := Lib.hid (fun W (hb : Below w0.heap.size w0 W) => (hin.1.below hb).more hb.size)
  have HZs := Lib.hid (fun W (hb : Below w0.heap.size w0 W) => (hin.2.below hb).more hb.size)
  have GP : Hid (∀ W, ImAt W x a S B sl p0 p1 p2 → DvAt W (fun _ => True) a mk mw s → Holds W W.heap.size .u8 m.A m.bs → Calls Tryd.prog 34 #[.pointer (some ⟨x, 0, none⟩), .int .u8 m.slot, .int .i64 m.blk, .slice m.A m.bs.length m.cap] W fun e w' => ∃ r, PutR s S B sl m.slot m.blk m.bs r ∧ e = .returned (.int .i64 r.1) ∧ DvAt w' (fun _ => True) a mk mw r.2 ∧ TurnsIn (DSet a mk mw) W w') := Lib.hid (fun W h hd hh => by
    refine (put_any _ x a mk mw p0 p1 p2 S B sl m.slot m.blk m.A m.bs m.cap s W h hd hL (fun _ _ => trivial) hm.slot hm.blk (by omega) hm.b1 hm.b2 hm.bo hh hof hwr).mono ?_
    rintro e w' (⟨h1, rfl, rfl⟩ | ⟨h1, h2, rfl, rfl⟩ | ⟨h1, h2, r, h3, rfl, h4, h5⟩)
    · exact ⟨_, Or.inl ⟨h1, rfl⟩, rfl, hd, TurnsIn.refl _ _⟩
    · exact ⟨_, Or.inr (Or.inl ⟨h1, h2, rfl⟩), rfl, hd, TurnsIn.refl _ _⟩
    · exact ⟨r, Or.inr (Or.inr ⟨h1, h2, h3⟩), rfl, h4, h5⟩)
  have GD : Hid (∀ v W, RDv W v s → Calls Tryd.prog 59 #[v, .agg #[.int .i64 S, .int .i64 B, .int .i64 sl], .int .u8 m.slot, .int .i64 m.blk, .string (strOfNums m.bs)] W fun e w' => ∃ r, PutR s S B sl m.slot m.blk m.bs r ∧ GivesED r.1 r.2 W e w') := Lib.hid (fun v W h => by
    refine (rput_any v s S B sl m.slot m.blk m.bs W h hok hL (by omega) hof hwr).mono ?_
    rintro e w' (⟨h1, h2⟩ | ⟨h1, h2, h3⟩ | ⟨h1, h2, r, h3, h4⟩)
    · exact ⟨_, Or.inl ⟨h1, rfl⟩, h2⟩
    · exact ⟨_, Or.inr (Or.inl ⟨h1, h2, rfl⟩), h3⟩
    · exact ⟨r, Or.inr (Or.inr ⟨h1, h2, h3⟩), h4⟩)
  have HN : Hid (∀ r, PutR s S B sl m.slot m.blk m.bs r → Near s r.2) := Lib.hid (fun r h => putR_near (by have := hok.s1; omega) (by omega) h)
  have HR := Lib.hid (fun W (t : TurnsIn (DSet a mk mw) w W) => Sec.RDv.dset hd.d t hr)
  have h3 := Lib.hid (fun cs => In25.start hd hi m cs)
  obtain ⟨Ak, ck, Aw, cw, rfl, hkr⟩ := hr
  have H3 := Lib.hid (h3.out (dCells Ak ck Aw cw s))
  clear h3 hkr hd hi hin hL hof hwr hm hbl hzl hwh
  obtain ⟨k, blk, at_, n, view, sn, A, cap, bs, A2, cap2, zs⟩ := m
  simp only at *
  subst hk
  unfold Step25.cells zD at H3
  unfold dCells at HR H3 ⊢
  unfold Step25.cells
  simp only at H3 ⊢
  go_enter Tryd.func30, Tryd.ntmps30
  go_upto_region 1 with fail
  generalize (((w.alloc _).alloc _).alloc _).alloc _ = w4 at *
  have J4 := H3.out
  have q0 : w4.cell? ⟨w.heap.size + 1 + 1, 0, none⟩ = some (.int .i64 0) := J4.y.cell 0
  have q5 : w4.cell? ⟨w.heap.size + 1 + 1, 5, none⟩ = some (.int .u8 sn) := J4.y.cell 5
  have q1 : w4.cell? ⟨w.heap.size + 1 + 1, 1, none⟩ = some (.int .i64 blk) := J4.y.cell 1
  have q6 : w4.cell? ⟨w.heap.size + 1 + 1, 6, none⟩ = some (.slice A bs.length cap) := J4.y.cell 6
  go_upto_region 4 with (have _t := J4; go_at_call 34; (with_reducible refine (GP.out _ J4.i J4.d.d (HBs.out _ J4.d.b)).mono ?_); rintro e w5 ⟨r, hr, rfl, D5, T5⟩; have J5 := J4.turn D5 T5; clear _t J4 q0 q5 q1 q6 D5 T5)
  have q5 : w5.cell? ⟨w.heap.size + 1 + 1, 5, none⟩ = some (.int .u8 sn) := J5.y.cell 5
  have q1 : w5.cell? ⟨w.heap.size + 1 + 1, 1, none⟩ = some (.int .i64 blk) := J5.y.cell 1
  have q6 : w5.cell? ⟨w.heap.size + 1 + 1, 6, none⟩ = some (.slice A bs.length cap) := J5.y.cell 6
  have R5 := HR.out _ J5.t
  have kc := conv_bytes (P := Tryd.prog) Tryd.underlying22 Tryd.underlying5 Tryd.underlying9 w5 A bs cap _ (HBs.out _ J5.d.b)
  go_upto_region 5 with (first
    | (have _t := J5; refine wpList_load_midV (o := ⟨some 46, _, _, _, _, _⟩) (by rfl) _ _ rfl (w.heap.size) 0 rfl [.int .i64 s.size, .int .i64 s.count, .slice Ak s.kept.length ck, .slice Aw s.waits.length cw, .bool s.off, .int .i64 s.offs, .int .i64 s.fuse, .int .u64 s.wr] (block_range (L := [.int .i64 s.size, .int .i64 s.count, .slice Ak s.kept.length ck, .slice Aw s.waits.length cw, .bool s.off, .int .i64 s.offs, .int .i64 s.fuse, .int .u64 s.wr]) J5.x) Tryd.underlying31 rfl (by kernel_rfl) ?_)
    | (have _t := J5; refine wpList_load_midV (o := ⟨some 47, _, _, _, _, _⟩) (by rfl) _ _ rfl (w.heap.size + 1) 0 rfl [.int .i64 S, .int .i64 B, .int .i64 sl] (block_range (L := [.int .i64 S, .int .i64 B, .int .i64 sl]) J5.c) Tryd.underlying61 rfl (by kernel_rfl) ?_)
    | (have _t := R5; go_at_call 59; refine (GD.out _ _ R5).mono ?_; rintro e w6 ⟨r2, hr2, v6, rfl, RV6, hb6⟩; obtain rfl := putR_one hr2 hr; have J6 := J5.below hb6; obtain ⟨Ak6, ck6, Aw6, cw6, hve, hr6⟩ := RV6; have R6 : RDv w6 (.agg (dCells Ak6 ck6 Aw6 cw6 r2.2)) r2.2 := ⟨Ak6, ck6, Aw6, cw6, rfl, hr6⟩; have hz6 := J6.z.lt; subst hve; clear _t J5 R5 hr6 q5 q1 q6 kc; unfold dCells))
  have B7 : Below w6.heap.size w6 (w6.alloc (.cells #[.int .i64 r2.2.size, .int .i64 r2.2.count, .slice Ak6 r2.2.kept.length ck6, .slice Aw6 r2.2.waits.length cw6, .bool r2.2.off, .int .i64 r2.2.offs, .int .i64 r2.2.fuse, .int .u64 r2.2.wr] 31)) := (Below.refl _ _).alloc (Nat.le_refl _) _
  have X7 : Block (w6.alloc (.cells #[.int .i64 r2.2.size, .int .i64 r2.2.count, .slice Ak6 r2.2.kept.length ck6, .slice Aw6 r2.2.waits.length cw6, .bool r2.2.off, .int .i64 r2.2.offs, .int .i64 r2.2.fuse, .int .u64 r2.2.wr] 31)) w6.heap.size 31 #[.int .i64 r2.2.size, .int .i64 r2.2.count, .slice Ak6 r2.2.kept.length ck6, .slice Aw6 r2.2.waits.length cw6, .bool r2.2.off, .int .i64 r2.2.offs, .int .i64 r2.2.fuse, .int .u64 r2.2.wr] := Block.new _ _ _
  have J7 := J6.below B7
  have R7 := R6.below B7
  generalize w6.alloc (.cells #[.int .i64 r2.2.size, .int .i64 r2.2.count, .slice Ak6 r2.2.kept.length ck6, .slice Aw6 r2.2.waits.length cw6, .bool r2.2.off, .int .i64 r2.2.offs, .int .i64 r2.2.fuse, .int .u64 r2.2.wr] 31) = w7 at *
  clear J6 R6 B7
  have hne7 := Nat.ne_of_gt hz6
  generalize w6.heap.size = K7 at *
  have P7 : In25 w0 w w7.drew x a mk mw p0 p1 p2 S B sl r2.2 _ _ := J7.below (below_draws (Below.refl _ _) 1)
  have RD7 := R7.below (show Below w7.heap.size w7 w7.drew from below_draws (Below.refl _ _) 1)
  have XD7 : Block w7.drew K7 31 #[.int .i64 r2.2.size, .int .i64 r2.2.count, .slice Ak6 r2.2.kept.length ck6, .slice Aw6 r2.2.waits.length cw6, .bool r2.2.off, .int .i64 r2.2.offs, .int .i64 r2.2.fuse, .int .u64 r2.2.wr] := Block.drewN X7 1
  refine wp_region_held_drew (S := fun W => Block W K7 31 #[.int .i64 r2.2.size, .int .i64 r2.2.count, .slice Ak6 r2.2.kept.length ck6, .slice Aw6 r2.2.waits.length cw6, .bool r2.2.off, .int .i64 r2.2.offs, .int .i64 r2.2.fuse, .int .u64 r2.2.wr]) (by kernel_rfl) X7 (fun hS => ?_)
  refine wpAnyH_take (i := 0) (oi := ⟨some 58, _, _, _, _, _⟩) (v := .int .i64 r2.1) rfl (by kernel_rfl) (by kernel_rfl) (by kernel_rfl) (fun _ _ _ h => h) (Or.inl ⟨by rfl, fun W hW => by go_simp⟩) hS ?_
  try simp only [Act.put, List.setIfInBounds_toArray, List.set_cons_zero, List.set_cons_succ]
  refine wpAnyH_take (i := 1) (oi := ⟨some 59, _, _, _, _, _⟩) (v := .int .i64 r2.1) rfl (by kernel_rfl) (by kernel_rfl) (by kernel_rfl) (fun _ _ _ h => h) (Or.inl ⟨by rfl, fun W hW => by go_simp⟩) hS ?_
  try simp only [Act.put, List.setIfInBounds_toArray, List.set_cons_zero, List.set_cons_succ]
  refine wpAnyH_take (i := 2) (oi := ⟨some 60, _, _, _, _, _⟩) (v := .bool true) rfl (by kernel_rfl) (by kernel_rfl) (by kernel_rfl) (fun _ _ _ h => h) (Or.inl ⟨by rfl, fun W hW => by go_simp⟩) hS ?_
  try simp only [Act.put, List.setIfInBounds_toArray, List.set_cons_zero, List.set_cons_succ]
  refine wpAnyH_take (i := 3) (oi := ⟨some 61, _, _, _, _, _⟩) (v := .agg #[.int .i64 r2.2.size, .int .i64 r2.2.count, .slice Ak6 r2.2.kept.length ck6, .slice Aw6 r2.2.waits.length cw6, .bool r2.2.off, .int .i64 r2.2.offs, .int .i64 r2.2.fuse, .int .u64 r2.2.wr]) rfl (by kernel_rfl) (by kernel_rfl) (by kernel_rfl) (fun _ _ _ h => h) (yieldsIf_load_mid (by rfl) _ _ rfl (K7) (0) rfl [.int .i64 r2.2.size, .int .i64 r2.2.count, .slice Ak6 r2.2.kept.length ck6, .slice Aw6 r2.2.waits.length cw6, .bool r2.2.off, .int .i64 r2.2.offs, .int .i64 r2.2.fuse, .int .u64 r2.2.wr] _ (fun W hW => block_range (L := [.int .i64 r2.2.size, .int .i64 r2.2.count, .slice Ak6 r2.2.kept.length ck6, .slice Aw6 r2.2.waits.length cw6, .bool r2.2.off, .int .i64 r2.2.offs, .int .i64 r2.2.fuse, .int .u64 r2.2.wr]) hW) Tryd.underlying31 rfl (by kernel_rfl)) hS ?_
  try simp only [Act.put, List.setIfInBounds_toArray, List.set_cons_zero, List.set_cons_succ]
  refine wpAnyH_ready (rs := [4]) (by kernel_rfl) (by simp) ?_
  refine AllReadyH.cons rfl (fun K hK => ?_) AllReadyH.nil
  go_simp
  refine hK.out _ _ XD7 (fun hS => ?_)
  clear hK K
  try simp only [Act.put, List.setIfInBounds_toArray, List.set_cons_zero, List.set_cons_succ]
  refine wpAnyH_ready (rs := [5]) (by kernel_rfl) (by simp) ?_
  refine AllReadyH.cons rfl (fun K hK => ?_) AllReadyH.nil
  refine step_store_blk rfl _ _ _ rfl (cs := zD) (ds := (dCells Ak6 ck6 Aw6 cw6 r2.2).toList) (by exact P7.z) rfl rfl rfl (by kernel_rfl) (dCells_one _ _ _ _ _) ?_
  intro x9 Z9 g9
  have hfin := In25.done P7 RD7 g9 (HN.out _ hr2)
  refine hK.out _ _ (XD7.grown g9 (by intro h; injection h with h; omega)) (fun hS => ?_)
  clear hK K
  try simp only [Act.put, List.setIfInBounds_toArray, List.set_cons_zero, List.set_cons_succ]
  refine wpAnyH_done (by kernel_rfl) ?_ _
  go_wp2_with fail
  exact bodyPost_ret (v := .tuple #[.bool true, .agg (dCells Ak6 ck6 Aw6 cw6 r2.2)]) (results_tmp_row rfl _ _ (w.heap.size + 1 + 1 + 1) 31 _ (0, 0) _ _ rfl rfl Z9 Tryd.underlying31 rfl (by kernel_rfl)) rfl hfin

set_option maxRecDepth 100000 in
set_option maxHeartbeats 6400000 in
/-- Keep of both. -/
theorem does_keep (w0 w : World) (x a mk mw p0 p1 p2 : Nat) (S B sl : Int) (s : Dv) (m : Step25) (dv : Value) (hd : Dev w0 w a mk mw s) (hi : ImAt w x a S B sl p0 p1 p2) (hr : RDv w dv s) (hL : LayOk S B sl s) (hm : m.Ok) (hin : m.In w0 w0.heap.size) (hbl : m.bs.length ≤ 1000) (hzl : m.zs.length ≤ 60) (hof : s.offs ≤ 100000000) (hwr : s.wr ≤ 100000000) (hk : m.k = 1) :
    Calls Tryd.prog 30 #[.pointer (some ⟨x, 0, none⟩), .pointer (some ⟨a, 0, none⟩), dv, .agg #[.int .i64 S, .int .i64 B, .int .i64 sl], .agg m.cells.toArray] w (Does25 w0 w x a mk mw p0 p1 p2 S B sl s) := by
  have hok : s.Ok := hd.d.ok
  have hwh : Whole s := whole_of hd.d
  have HBs := Lib.hid (fun W (hb : Below w0.heap.size w0 W) => (hin.1.below hb).more hb.size)
  have HZs := Lib.hid (fun W (hb : Below w0.heap.size w0 W) => (hin.2.below hb).more hb.size)
  have GP : Hid (∀ W, ImAt W x a S B sl p0 p1 p2 → DvAt W (fun _ => True) a mk mw s → Holds W W.heap.size .u8 m.A m.bs → Calls Tryd.prog 35 #[.pointer (some ⟨x, 0, none⟩), .slice m.A m.bs.length m.cap] W fun e w' => ∃ r, KeepR s B m.bs r ∧ e = .returned (.int .i64 r.1) ∧ DvAt w' (fun _ => True) a mk mw r.2 ∧ TurnsIn (DSet a mk mw) W w') := Lib.hid (fun W h hd hh => by
    refine (keep_any _ x a mk mw p0 p1 p2 S B sl m.A m.bs m.cap s W h hd hL (fun _ _ => trivial) (by omega) hm.b1 hm.b2 hm.bo hh hof hwr).mono ?_
    rintro e w' (⟨h1, rfl, rfl⟩ | ⟨h1, r, h3, rfl, h4, h5⟩)
    · exact ⟨_, Or.inl ⟨h1, rfl⟩, rfl, hd, TurnsIn.refl _ _⟩
    · exact ⟨r, Or.inr ⟨h1, h3⟩, rfl, h4, h5⟩)
  have GD : Hid (∀ v W, RDv W v s → Calls Tryd.prog 60 #[v, .agg #[.int .i64 S, .int .i64 B, .int .i64 sl], .string (strOfNums m.bs)] W fun e w' => ∃ r, KeepR s B m.bs r ∧ GivesED r.1 r.2 W e w') := Lib.hid (fun v W h => by
    refine (rkeep_any v s S B sl m.bs W h hok hL (by omega) hof hwr).mono ?_
    rintro e w' (⟨h1, h2⟩ | ⟨h1, r, h3, h4⟩)
    · exact ⟨_, Or.inl ⟨h1, rfl⟩, h2⟩
    · exact ⟨r, Or.inr ⟨h1, h3⟩, h4⟩)
  have HN : Hid (∀ r, KeepR s B m.bs r → Near s r.2) := Lib.hid (fun r h => keepR_near (by have := hok.s1; omega) (by omega) h)
  have HR := Lib.hid (fun W (t : TurnsIn (DSet a mk mw) w W) => Sec.RDv.dset hd.d t hr)
  have h3 := Lib.hid (fun cs => In25.start hd hi m cs)
  obtain ⟨Ak, ck, Aw, cw, rfl, hkr⟩ := hr
  have H3 := Lib.hid (h3.out (dCells Ak ck Aw cw s))
  clear h3 hkr hd hi hin hL hof hwr hm hbl hzl hwh
  obtain ⟨k, blk, at_, n, view, sn, A, cap, bs, A2, cap2, zs⟩ := m
  simp only at *
  subst hk
  unfold Step25.cells zD at H3
  unfold dCells at HR H3 ⊢
  unfold Step25.cells
  simp only at H3 ⊢
  go_enter Tryd.func30, Tryd.ntmps30
  go_upto_region 1 with fail
  generalize (((w.alloc _).alloc _).alloc _).alloc _ = w4 at *
  have J4 := H3.out
  have q0 : w4.cell? ⟨w.heap.size + 1 + 1, 0, none⟩ = some (.int .i64 1) := J4.y.cell 0
  have q6 : w4.cell? ⟨w.heap.size + 1 + 1, 6, none⟩ = some (.slice A bs.length cap) := J4.y.cell 6
  go_upto_region 8 with (have _t := J4; go_at_call 35; (with_reducible refine (GP.out _ J4.i J4.d.d (HBs.out _ J4.d.b)).mono ?_); rintro e w5 ⟨r, hr, rfl, D5, T5⟩; have J5 := J4.turn D5 T5; clear _t J4 q0 q6 D5 T5)
  have q6 : w5.cell? ⟨w.heap.size + 1 + 1, 6, none⟩ = some (.slice A bs.length cap) := J5.y.cell 6
  have R5 := HR.out _ J5.t
  have kc := conv_bytes (P := Tryd.prog) Tryd.underlying22 Tryd.underlying5 Tryd.underlying9 w5 A bs cap _ (HBs.out _ J5.d.b)
  go_upto_region 9 with (first
    | (have _t := J5; refine wpList_load_midV (o := ⟨some 69, _, _, _, _, _⟩) (by rfl) _ _ rfl (w.heap.size) 0 rfl [.int .i64 s.size, .int .i64 s.count, .slice Ak s.kept.length ck, .slice Aw s.waits.length cw, .bool s.off, .int .i64 s.offs, .int .i64 s.fuse, .int .u64 s.wr] (block_range (L := [.int .i64 s.size, .int .i64 s.count, .slice Ak s.kept.length ck, .slice Aw s.waits.length cw, .bool s.off, .int .i64 s.offs, .int .i64 s.fuse, .int .u64 s.wr]) J5.x) Tryd.underlying31 rfl (by kernel_rfl) ?_)
    | (have _t := J5; refine wpList_load_midV (o := ⟨some 70, _, _, _, _, _⟩) (by rfl) _ _ rfl (w.heap.size + 1) 0 rfl [.int .i64 S, .int .i64 B, .int .i64 sl] (block_range (L := [.int .i64 S, .int .i64 B, .int .i64 sl]) J5.c) Tryd.underlying61 rfl (by kernel_rfl) ?_)
    | (have _t := R5; go_at_call 60; refine (GD.out _ _ R5).mono ?_; rintro e w6 ⟨r2, hr2, v6, rfl, RV6, hb6⟩; obtain rfl := keepR_one hr2 hr; have J6 := J5.below hb6; obtain ⟨Ak6, ck6, Aw6, cw6, hve, hr6⟩ := RV6; have R6 : RDv w6 (.agg (dCells Ak6 ck6 Aw6 cw6 r2.2)) r2.2 := ⟨Ak6, ck6, Aw6, cw6, rfl, hr6⟩; have hz6 := J6.z.lt; subst hve; clear _t J5 R5 hr6 q6 kc; unfold dCells))
  have B7 : Below w6.heap.size w6 (w6.alloc (.cells #[.int .i64 r2.2.size, .int .i64 r2.2.count, .slice Ak6 r2.2.kept.length ck6, .slice Aw6 r2.2.waits.length cw6, .bool r2.2.off, .int .i64 r2.2.offs, .int .i64 r2.2.fuse, .int .u64 r2.2.wr] 31)) := (Below.refl _ _).alloc (Nat.le_refl _) _
  have X7 : Block (w6.alloc (.cells #[.int .i64 r2.2.size, .int .i64 r2.2.count, .slice Ak6 r2.2.kept.length ck6, .slice Aw6 r2.2.waits.length cw6, .bool r2.2.off, .int .i64 r2.2.offs, .int .i64 r2.2.fuse, .int .u64 r2.2.wr] 31)) w6.heap.size 31 #[.int .i64 r2.2.size, .int .i64 r2.2.count, .slice Ak6 r2.2.kept.length ck6, .slice Aw6 r2.2.waits.length cw6, .bool r2.2.off, .int .i64 r2.2.offs, .int .i64 r2.2.fuse, .int .u64 r2.2.wr] := Block.new _ _ _
  have J7 := J6.below B7
  have R7 := R6.below B7
  generalize w6.alloc (.cells #[.int .i64 r2.2.size, .int .i64 r2.2.count, .slice Ak6 r2.2.kept.length ck6, .slice Aw6 r2.2.waits.length cw6, .bool r2.2.off, .int .i64 r2.2.offs, .int .i64 r2.2.fuse, .int .u64 r2.2.wr] 31) = w7 at *
  clear J6 R6 B7
  have hne7 := Nat.ne_of_gt hz6
  generalize w6.heap.size = K7 at *
  have P7 : In25 w0 w w7.drew x a mk mw p0 p1 p2 S B sl r2.2 _ _ := J7.below (below_draws (Below.refl _ _) 1)
  have RD7 := R7.below (show Below w7.heap.size w7 w7.drew from below_draws (Below.refl _ _) 1)
  have XD7 : Block w7.drew K7 31 #[.int .i64 r2.2.size, .int .i64 r2.2.count, .slice Ak6 r2.2.kept.length ck6, .slice Aw6 r2.2.waits.length cw6, .bool r2.2.off, .int .i64 r2.2.offs, .int .i64 r2.2.fuse, .int .u64 r2.2.wr] := Block.drewN X7 1
  refine wp_region_held_drew (S := fun W => Block W K7 31 #[.int .i64 r2.2.size, .int .i64 r2.2.count, .slice Ak6 r2.2.kept.length ck6, .slice Aw6 r2.2.waits.length cw6, .bool r2.2.off, .int .i64 r2.2.offs, .int .i64 r2.2.fuse, .int .u64 r2.2.wr]) (by kernel_rfl) X7 (fun hS => ?_)
  refine wpAnyH_take (i := 0) (oi := ⟨some 77, _, _, _, _, _⟩) (v := .int .i64 r2.1) rfl (by kernel_rfl) (by kernel_rfl) (by kernel_rfl) (fun _ _ _ h => h) (Or.inl ⟨by rfl, fun W hW => by go_simp⟩) hS ?_
  try simp only [Act.put, List.setIfInBounds_toArray, List.set_cons_zero, List.set_cons_succ]
  refine wpAnyH_take (i := 1) (oi := ⟨some 78, _, _, _, _, _⟩) (v := .int .i64 r2.1) rfl (by kernel_rfl) (by kernel_rfl) (by kernel_rfl) (fun _ _ _ h => h) (Or.inl ⟨by rfl, fun W hW => by go_simp⟩) hS ?_
  try simp only [Act.put, List.setIfInBounds_toArray, List.set_cons_zero, List.set_cons_succ]
  refine wpAnyH_take (i := 2) (oi := ⟨some 79, _, _, _, _, _⟩) (v := .bool true) rfl (by kernel_rfl) (by kernel_rfl) (by kernel_rfl) (fun _ _ _ h => h) (Or.inl ⟨by rfl, fun W hW => by go_simp⟩) hS ?_
  try simp only [Act.put, List.setIfInBounds_toArray, List.set_cons_zero, List.set_cons_succ]
  refine wpAnyH_take (i := 3) (oi := ⟨some 80, _, _, _, _, _⟩) (v := .agg #[.int .i64 r2.2.size, .int .i64 r2.2.count, .slice Ak6 r2.2.kept.length ck6, .slice Aw6 r2.2.waits.length cw6, .bool r2.2.off, .int .i64 r2.2.offs, .int .i64 r2.2.fuse, .int .u64 r2.2.wr]) rfl (by kernel_rfl) (by kernel_rfl) (by kernel_rfl) (fun _ _ _ h => h) (yieldsIf_load_mid (by rfl) _ _ rfl (K7) (0) rfl [.int .i64 r2.2.size, .int .i64 r2.2.count, .slice Ak6 r2.2.kept.length ck6, .slice Aw6 r2.2.waits.length cw6, .bool r2.2.off, .int .i64 r2.2.offs, .int .i64 r2.2.fuse, .int .u64 r2.2.wr] _ (fun W hW => block_range (L := [.int .i64 r2.2.size, .int .i64 r2.2.count, .slice Ak6 r2.2.kept.length ck6, .slice Aw6 r2.2.waits.length cw6, .bool r2.2.off, .int .i64 r2.2.offs, .int .i64 r2.2.fuse, .int .u64 r2.2.wr]) hW) Tryd.underlying31 rfl (by kernel_rfl)) hS ?_
  try simp only [Act.put, List.setIfInBounds_toArray, List.set_cons_zero, List.set_cons_succ]
  refine wpAnyH_ready (rs := [4]) (by kernel_rfl) (by simp) ?_
  refine AllReadyH.cons rfl (fun K hK => ?_) AllReadyH.nil
  go_simp
  refine hK.out _ _ XD7 (fun hS => ?_)
  clear hK K
  try simp only [Act.put, List.setIfInBounds_toArray, List.set_cons_zero, List.set_cons_succ]
  refine wpAnyH_ready (rs := [5]) (by kernel_rfl) (by simp) ?_
  refine AllReadyH.cons rfl (fun K hK => ?_) AllReadyH.nil
  refine step_store_blk rfl _ _ _ rfl (cs := zD) (ds := (dCells Ak6 ck6 Aw6 cw6 r2.2).toList) (by exact P7.z) rfl rfl rfl (by kernel_rfl) (dCells_one _ _ _ _ _) ?_
  intro x9 Z9 g9
  have hfin := In25.done P7 RD7 g9 (HN.out _ hr2)
  refine hK.out _ _ (XD7.grown g9 (by intro h; injection h with h; omega)) (fun hS => ?_)
  clear hK K
  try simp only [Act.put, List.setIfInBounds_toArray, List.set_cons_zero, List.set_cons_succ]
  refine wpAnyH_done (by kernel_rfl) ?_ _
  go_wp2_with fail
  exact bodyPost_ret (v := .tuple #[.bool true, .agg (dCells Ak6 ck6 Aw6 cw6 r2.2)]) (results_tmp_row rfl _ _ (w.heap.size + 1 + 1 + 1) 31 _ (0, 0) _ _ rfl rfl Z9 Tryd.underlying31 rfl (by kernel_rfl)) rfl hfin
end Go.Proofs.YtpnodocjpedcmaaDoor.Im

namespace Go.Proofs.YtpnodocjpedcmaaDoor.Im
open Go.ChangeShapes Go.WideShapes Go.ChangeAt Go.RowKit Go.Proofs.YtpnodocjpedcmaaDoor.Kit Go.Proofs.YtpnodocjpedcmaaDoor.Pt
open Go.Proofs.YtpnodocjpedcmaaDoor.Sec (Dv DvAt DSet Dev RDv dCells dCells_one zD zD_noText GivesED GivesD GivesS GivesB results_tmp_row block_range wpList_load_midV)


set_option maxRecDepth 100000 in
set_option maxHeartbeats 6400000 in
/-- Sync of both. -/
theorem does_sync (w0 w : World) (x a mk mw p0 p1 p2 : Nat) (S B sl : Int) (s : Dv) (m : Step25) (dv : Value) (hd : Dev w0 w a mk mw s) (hi : ImAt w x a S B sl p0 p1 p2) (hr : RDv w dv s) (hL : LayOk S B sl s) (hm : m.Ok) (hin : m.In w0 w0.heap.size) (hbl : m.bs.length ≤ 1000) (hzl : m.zs.length ≤ 60) (hof : s.offs ≤ 100000000) (hwr : s.wr ≤ 100000000) (hk : m.k = 6) :
    Calls Tryd.prog 30 #[.pointer (some ⟨x, 0, none⟩), .pointer (some ⟨a, 0, none⟩), dv, .agg #[.int .i64 S, .int .i64 B, .int .i64 sl], .agg m.cells.toArray] w (Does25 w0 w x a mk mw p0 p1 p2 S B sl s) := by
  have hok : s.Ok := hd.d.ok
  have hwh : Whole s := whole_of hd.d
  have HBs := Lib.hid (fun W (hb : Below w0.heap.size w0 W) => (hin.1.below hb).more hb.size)
  have HZs := Lib.hid (fun W (hb : Below w0.heap.size w0 W) => (hin.2.below hb).more hb.size)
  obtain ⟨r2, hr2⟩ : ∃ r2, s.sync = r2 := ⟨_, rfl⟩
  have GP := Lib.hid (fun W (hd : DvAt W (fun _ => True) a mk mw s) => Sec.sync_any _ a mk mw s W hd (by omega))
  have GD := Lib.hid (fun v W (h : RDv W v s) => Sec.rsync_any v s W h hok (by omega))
  have HN : Hid (Near s s.sync.2) := Lib.hid (by have h := Jr.sync_near s; exact ⟨by omega, by omega, h.2.2.1, h.2.2.2⟩)
  rw [hr2] at GP GD HN
  clear hr2
  have HR := Lib.hid (fun W (t : TurnsIn (DSet a mk mw) w W) => Sec.RDv.dset hd.d t hr)
  have h3 := Lib.hid (fun cs => In25.start hd hi m cs)
  obtain ⟨Ak, ck, Aw, cw, rfl, hkr⟩ := hr
  have H3 := Lib.hid (h3.out (dCells Ak ck Aw cw s))
  clear h3 hkr hd hi hin hL hof hwr hm hbl hzl hwh
  obtain ⟨k, blk, at_, n, view, sn, A, cap, bs, A2, cap2, zs⟩ := m
  simp only at *
  subst hk
  unfold Step25.cells zD at H3
  unfold dCells at HR H3 ⊢
  unfold Step25.cells
  simp only at H3 ⊢
  go_enter Tryd.func30, Tryd.ntmps30
  go_upto_region 1 with fail
  generalize (((w.alloc _).alloc _).alloc _).alloc _ = w4 at *
  have J4 := H3.out
  have q0 : w4.cell? ⟨w.heap.size + 1 + 1, 0, none⟩ = some (.int .i64 6) := J4.y.cell 0
  go_upto_region 27 with (have _t := J4; go_at_call 53; refine (GP.out _ J4.d.d).mono ?_; rintro e w5 ⟨rfl, D5, T5⟩; have J5 := J4.turn D5 T5; clear _t J4 q0  D5 T5)
  have R5 := HR.out _ J5.t
  go_upto_region 28 with (first
    | (have _t := J5; refine wpList_load_midV (o := ⟨some 164, _, _, _, _, _⟩) (by rfl) _ _ rfl (w.heap.size) 0 rfl [.int .i64 s.size, .int .i64 s.count, .slice Ak s.kept.length ck, .slice Aw s.waits.length cw, .bool s.off, .int .i64 s.offs, .int .i64 s.fuse, .int .u64 s.wr] (block_range (L := [.int .i64 s.size, .int .i64 s.count, .slice Ak s.kept.length ck, .slice Aw s.waits.length cw, .bool s.off, .int .i64 s.offs, .int .i64 s.fuse, .int .u64 s.wr]) J5.x) Tryd.underlying31 rfl (by kernel_rfl) ?_)
    | (have _t := R5; go_at_call 63; refine (GD.out _ _ R5).mono ?_; rintro e w6 ⟨v6, rfl, RV6, hb6⟩; have J6 := J5.below hb6; obtain ⟨Ak6, ck6, Aw6, cw6, hve, hr6⟩ := RV6; have R6 : RDv w6 (.agg (dCells Ak6 ck6 Aw6 cw6 r2.2)) r2.2 := ⟨Ak6, ck6, Aw6, cw6, rfl, hr6⟩; have hz6 := J6.z.lt; subst hve; clear _t J5 R5 hr6  ; unfold dCells))
  have B7 : Below w6.heap.size w6 (w6.alloc (.cells #[.int .i64 r2.2.size, .int .i64 r2.2.count, .slice Ak6 r2.2.kept.length ck6, .slice Aw6 r2.2.waits.length cw6, .bool r2.2.off, .int .i64 r2.2.offs, .int .i64 r2.2.fuse, .int .u64 r2.2.wr] 31)) := (Below.refl _ _).alloc (Nat.le_refl _) _
  have X7 : Block (w6.alloc (.cells #[.int .i64 r2.2.size, .int .i64 r2.2.count, .slice Ak6 r2.2.kept.length ck6, .slice Aw6 r2.2.waits.length cw6, .bool r2.2.off, .int .i64 r2.2.offs, .int .i64 r2.2.fuse, .int .u64 r2.2.wr] 31)) w6.heap.size 31 #[.int .i64 r2.2.size, .int .i64 r2.2.count, .slice Ak6 r2.2.kept.length ck6, .slice Aw6 r2.2.waits.length cw6, .bool r2.2.off, .int .i64 r2.2.offs, .int .i64 r2.2.fuse, .int .u64 r2.2.wr] := Block.new _ _ _
  have J7 := J6.below B7
  have R7 := R6.below B7
  generalize w6.alloc (.cells #[.int .i64 r2.2.size, .int .i64 r2.2.count, .slice Ak6 r2.2.kept.length ck6, .slice Aw6 r2.2.waits.length cw6, .bool r2.2.off, .int .i64 r2.2.offs, .int .i64 r2.2.fuse, .int .u64 r2.2.wr] 31) = w7 at *
  clear J6 R6 B7
  have hne7 := Nat.ne_of_gt hz6
  generalize w6.heap.size = K7 at *
  have P7 : In25 w0 w w7.drew x a mk mw p0 p1 p2 S B sl r2.2 _ _ := J7.below (below_draws (Below.refl _ _) 1)
  have RD7 := R7.below (show Below w7.heap.size w7 w7.drew from below_draws (Below.refl _ _) 1)
  have XD7 : Block w7.drew K7 31 #[.int .i64 r2.2.size, .int .i64 r2.2.count, .slice Ak6 r2.2.kept.length ck6, .slice Aw6 r2.2.waits.length cw6, .bool r2.2.off, .int .i64 r2.2.offs, .int .i64 r2.2.fuse, .int .u64 r2.2.wr] := Block.drewN X7 1
  refine wp_region_held_drew (S := fun W => Block W K7 31 #[.int .i64 r2.2.size, .int .i64 r2.2.count, .slice Ak6 r2.2.kept.length ck6, .slice Aw6 r2.2.waits.length cw6, .bool r2.2.off, .int .i64 r2.2.offs, .int .i64 r2.2.fuse, .int .u64 r2.2.wr]) (by kernel_rfl) X7 (fun hS => ?_)
  refine wpAnyH_take (i := 0) (oi := ⟨some 168, _, _, _, _, _⟩) (v := .int .i64 r2.1) rfl (by kernel_rfl) (by kernel_rfl) (by kernel_rfl) (fun _ _ _ h => h) (Or.inl ⟨by rfl, fun W hW => by go_simp⟩) hS ?_
  try simp only [Act.put, List.setIfInBounds_toArray, List.set_cons_zero, List.set_cons_succ]
  refine wpAnyH_take (i := 1) (oi := ⟨some 169, _, _, _, _, _⟩) (v := .int .i64 r2.1) rfl (by kernel_rfl) (by kernel_rfl) (by kernel_rfl) (fun _ _ _ h => h) (Or.inl ⟨by rfl, fun W hW => by go_simp⟩) hS ?_
  try simp only [Act.put, List.setIfInBounds_toArray, List.set_cons_zero, List.set_cons_succ]
  refine wpAnyH_take (i := 2) (oi := ⟨some 170, _, _, _, _, _⟩) (v := .bool true) rfl (by kernel_rfl) (by kernel_rfl) (by kernel_rfl) (fun _ _ _ h => h) (Or.inl ⟨by rfl, fun W hW => by go_simp⟩) hS ?_
  try simp only [Act.put, List.setIfInBounds_toArray, List.set_cons_zero, List.set_cons_succ]
  refine wpAnyH_take (i := 3) (oi := ⟨some 171, _, _, _, _, _⟩) (v := .agg #[.int .i64 r2.2.size, .int .i64 r2.2.count, .slice Ak6 r2.2.kept.length ck6, .slice Aw6 r2.2.waits.length cw6, .bool r2.2.off, .int .i64 r2.2.offs, .int .i64 r2.2.fuse, .int .u64 r2.2.wr]) rfl (by kernel_rfl) (by kernel_rfl) (by kernel_rfl) (fun _ _ _ h => h) (yieldsIf_load_mid (by rfl) _ _ rfl (K7) (0) rfl [.int .i64 r2.2.size, .int .i64 r2.2.count, .slice Ak6 r2.2.kept.length ck6, .slice Aw6 r2.2.waits.length cw6, .bool r2.2.off, .int .i64 r2.2.offs, .int .i64 r2.2.fuse, .int .u64 r2.2.wr] _ (fun W hW => block_range (L := [.int .i64 r2.2.size, .int .i64 r2.2.count, .slice Ak6 r2.2.kept.length ck6, .slice Aw6 r2.2.waits.length cw6, .bool r2.2.off, .int .i64 r2.2.offs, .int .i64 r2.2.fuse, .int .u64 r2.2.wr]) hW) Tryd.underlying31 rfl (by kernel_rfl)) hS ?_
  try simp only [Act.put, List.setIfInBounds_toArray, List.set_cons_zero, List.set_cons_succ]
  refine wpAnyH_ready (rs := [4]) (by kernel_rfl) (by simp) ?_
  refine AllReadyH.cons rfl (fun K hK => ?_) AllReadyH.nil
  go_simp
  refine hK.out _ _ XD7 (fun hS => ?_)
  clear hK K
  try simp only [Act.put, List.setIfInBounds_toArray, List.set_cons_zero, List.set_cons_succ]
  refine wpAnyH_ready (rs := [5]) (by kernel_rfl) (by simp) ?_
  refine AllReadyH.cons rfl (fun K hK => ?_) AllReadyH.nil
  refine step_store_blk rfl _ _ _ rfl (cs := zD) (ds := (dCells Ak6 ck6 Aw6 cw6 r2.2).toList) (by exact P7.z) rfl rfl rfl (by kernel_rfl) (dCells_one _ _ _ _ _) ?_
  intro x9 Z9 g9
  have hfin := In25.done P7 RD7 g9 HN.out
  refine hK.out _ _ (XD7.grown g9 (by intro h; injection h with h; omega)) (fun hS => ?_)
  clear hK K
  try simp only [Act.put, List.setIfInBounds_toArray, List.set_cons_zero, List.set_cons_succ]
  refine wpAnyH_done (by kernel_rfl) ?_ _
  go_wp2_with fail
  exact bodyPost_ret (v := .tuple #[.bool true, .agg (dCells Ak6 ck6 Aw6 cw6 r2.2)]) (results_tmp_row rfl _ _ (w.heap.size + 1 + 1 + 1) 31 _ (0, 0) _ _ rfl rfl Z9 Tryd.underlying31 rfl (by kernel_rfl)) rfl hfin
end Go.Proofs.YtpnodocjpedcmaaDoor.Im

namespace Go.Proofs.YtpnodocjpedcmaaDoor.Im
open Go.ChangeShapes Go.WideShapes Go.ChangeAt Go.RowKit Go.Proofs.YtpnodocjpedcmaaDoor.Kit Go.Proofs.YtpnodocjpedcmaaDoor.Pt
open Go.Proofs.YtpnodocjpedcmaaDoor.Sec (Dv DvAt DSet Dev RDv dCells dCells_one zD zD_noText GivesED GivesD GivesS GivesB results_tmp_row block_range wpList_load_midV)


def RangeR (s : Dv) (S B sl i view from_ n : Int) (r : List Int × Int) : Prop :=
  (¬ (0 ≤ from_ ∧ from_ ≤ min (max view 0) (B * sl) ∧ 0 ≤ n ∧ n ≤ min (max view 0) (B * sl) - from_) ∧ r = ([], 5)) ∨
    ((0 ≤ from_ ∧ from_ ≤ min (max view 0) (B * sl) ∧ 0 ≤ n ∧ n ≤ min (max view 0) (B * sl) - from_) ∧ PRead s (slotF S B sl i) (B * sl).toNat from_ n r)
theorem rangeR_one {s : Dv} {S B sl i view from_ n : Int} {r t : List Int × Int} (h : RangeR s S B sl i view from_ n r) (g : RangeR s S B sl i view from_ n t) : r = t := by
  rcases h with ⟨h1, rfl⟩ | ⟨h1, h3⟩ <;> rcases g with ⟨g1, rfl⟩ | ⟨g1, g3⟩
  all_goals first
    | rfl
    | exact absurd h1 g1
    | exact absurd g1 h1
    | exact pread_one h3 g3

set_option maxRecDepth 100000 in
set_option maxHeartbeats 6400000 in
/-- Range of both. -/
theorem does_range (w0 w : World) (x a mk mw p0 p1 p2 : Nat) (S B sl : Int) (s : Dv) (m : Step25) (dv : Value) (hd : Dev w0 w a mk mw s) (hi : ImAt w x a S B sl p0 p1 p2) (hr : RDv w dv s) (hL : LayOk S B sl s) (hm : m.Ok) (hin : m.In w0 w0.heap.size) (hbl : m.bs.length ≤ 1000) (hzl : m.zs.length ≤ 60) (hof : s.offs ≤ 100000000) (hwr : s.wr ≤ 100000000) (hk : m.k ≠ 0 ∧ m.k ≠ 1 ∧ m.k ≠ 2 ∧ m.k ≠ 3 ∧ m.k ≠ 4 ∧ m.k ≠ 5 ∧ m.k ≠ 6) :
    Calls Tryd.prog 30 #[.pointer (some ⟨x, 0, none⟩), .pointer (some ⟨a, 0, none⟩), dv, .agg #[.int .i64 S, .int .i64 B, .int .i64 sl], .agg m.cells.toArray] w (Does25 w0 w x a mk mw p0 p1 p2 S B sl s) := by
  have hok : s.Ok := hd.d.ok
  have hwh : Whole s := whole_of hd.d
  have HBs := Lib.hid (fun W (hb : Below w0.heap.size w0 W) => (hin.1.below hb).more hb.size)
  have HZs := Lib.hid (fun W (hb : Below w0.heap.size w0 W) => (hin.2.below hb).more hb.size)
  obtain ⟨hS, hB, hs, hdd, hq, h00, h01, h02, h03⟩ := hL.facts
  have GV := Lib.hid (fun W (h : ImAt W x a S B sl p0 p1 p2) => view_any x a p0 p1 p2 S B sl m.slot m.view s W h hL hm.slot)
  have GR : Hid (∀ W v, ViewAt W v (slotP p0 p1 m.slot) (min (max m.view 0) (B * sl)) → ImAt W x a S B sl p0 p1 p2 → DvAt W (fun _ => True) a mk mw s → Calls Tryd.prog 37 #[.pointer (some ⟨v, 0, none⟩), .int .i64 m.at_, .int .i64 m.n] W fun e w' => ∃ r, RangeR s S B sl m.slot m.view m.at_ m.n r ∧ GivesB r.1 r.2 W e w') := Lib.hid (fun W v hv h hd => by
    refine (range_any _ v (slotP p0 p1 m.slot) a mk mw _ _ (B * sl).toNat (min (max m.view 0) (B * sl)) m.at_ m.n s W hv (h.slot m.slot) hd (hL.lies m.slot) (by omega) hm.at_).mono ?_
    rintro e w' (⟨h1, h2⟩ | ⟨h1, r, h3, h4⟩)
    · exact ⟨_, Or.inl ⟨h1, rfl⟩, h2⟩
    · exact ⟨r, Or.inr ⟨h1, h3⟩, h4⟩)
  have GD : Hid (∀ v W, RDv W v s → Calls Tryd.prog 64 #[v, .agg #[.int .i64 S, .int .i64 B, .int .i64 sl], .int .u8 m.slot, .int .i64 m.view, .int .i64 m.at_, .int .i64 m.n] W fun e w' => ∃ r, RangeR s S B sl m.slot m.view m.at_ m.n r ∧ GivesS r.1 r.2 W e w') := Lib.hid (fun v W h => by
    refine (rrange_any v s S B sl m.slot m.view m.at_ m.n W h hok hwh hL hm.at_).mono ?_
    rintro e w' (⟨h1, h2⟩ | ⟨h1, r, h3, h4⟩)
    · exact ⟨_, Or.inl ⟨h1, rfl⟩, h2⟩
    · exact ⟨r, Or.inr ⟨h1, h3⟩, h4⟩)
  have e0 : (m.k == 0) = false := by simpa using hk.1
  have e1 : (m.k == 1) = false := by simpa using hk.2.1
  have e2 : (m.k == 2) = false := by simpa using hk.2.2.1
  have e3 : (m.k == 3) = false := by simpa using hk.2.2.2.1
  have e4 : (m.k == 4) = false := by simpa using hk.2.2.2.2.1
  have e5 : (m.k == 5) = false := by simpa using hk.2.2.2.2.2.1
  have e6 : (m.k == 6) = false := by simpa using hk.2.2.2.2.2.2
  clear hk hS hB hs hdd hq h00 h01 h02 h03
  generalize min (max m.view 0) (B * sl) = V at GV GR
  have HR := Lib.hid (fun W (t : TurnsIn (DSet a mk mw) w W) => Sec.RDv.dset hd.d t hr)
  have h3 := Lib.hid (fun cs => In25.start hd hi m cs)
  obtain ⟨Ak, ck, Aw, cw, rfl, hkr⟩ := hr
  have H3 := Lib.hid (h3.out (dCells Ak ck Aw cw s))
  clear h3 hkr hd hi hin hL hof hwr hm hbl hzl hwh
  obtain ⟨k, blk, at_, n, view, sn, A, cap, bs, A2, cap2, zs⟩ := m
  simp only at *
  unfold Step25.cells zD at H3
  unfold dCells at HR H3 ⊢
  unfold Step25.cells
  simp only at H3 ⊢
  go_enter Tryd.func30, Tryd.ntmps30
  go_upto_region 1 with fail
  generalize (((w.alloc _).alloc _).alloc _).alloc _ = w4 at *
  have J4 := H3.out
  have q0 : w4.cell? ⟨w.heap.size + 1 + 1, 0, none⟩ = some (.int .i64 k) := J4.y.cell 0
  go_upto_region 29 with fail
  have q2 : w4.cell? ⟨w.heap.size + 1 + 1, 2, none⟩ = some (.int .i64 at_) := J4.y.cell 2
  have q3 : w4.cell? ⟨w.heap.size + 1 + 1, 3, none⟩ = some (.int .i64 n) := J4.y.cell 3
  have q4 : w4.cell? ⟨w.heap.size + 1 + 1, 4, none⟩ = some (.int .i64 view) := J4.y.cell 4
  have q5 : w4.cell? ⟨w.heap.size + 1 + 1, 5, none⟩ = some (.int .u8 sn) := J4.y.cell 5
  have Jd := J4.below (show Below w4.heap.size w4 w4.drew from below_draws (Below.refl _ _) 1)
  have HJd := Lib.hid Jd
  have HJ4 := Lib.hid J4
  clear Jd J4 q0 e0 e1 e2 e3 e4 e5 e6
  go_region_held3 (fun W' => W'.cell? ⟨w.heap.size + 1 + 1, 2, none⟩ = some (.int .i64 at_) ∧ W'.cell? ⟨w.heap.size + 1 + 1, 3, none⟩ = some (.int .i64 n) ∧ W'.cell? ⟨w.heap.size + 1 + 1, 4, none⟩ = some (.int .i64 view) ∧ W'.cell? ⟨w.heap.size + 1 + 1, 5, none⟩ = some (.int .u8 sn))
    (first | exact ⟨q2, q3, q4, q5⟩ | exact ⟨HJd.out.y.cell 2, HJd.out.y.cell 3, HJd.out.y.cell 4, HJd.out.y.cell 5⟩ | exact ⟨J5.y.cell 2, J5.y.cell 3, J5.y.cell 4, J5.y.cell 5⟩ | exact ⟨Jv.y.cell 2, Jv.y.cell 3, Jv.y.cell 4, Jv.y.cell 5⟩)
    (first
      | (go_at_call 36; refine (GV.out _ HJd.out.i).mono ?_; rintro e wv ⟨vv, rfl, hv, Vv, hbv⟩; have Jv := HJd.out.below hbv)
      | (have _t := Vv; go_at_call 37; refine (GR.out _ vv Vv Jv.i Jv.d.d).mono ?_; rintro e w5 ⟨r, hr, v5, rfl, own5, hb5⟩; have J5 := Jv.below hb5))
  have own5 := Own.mono own5 (show w4.heap.size ≤ wv.heap.size from hbv.size)
  clear q2 q3 q4 q5 HJd HJ4 Jv Vv hbv hb5 hv GV GR
  have q2 : w5.cell? ⟨w.heap.size + 1 + 1, 2, none⟩ = some (.int .i64 at_) := J5.y.cell 2
  have q3 : w5.cell? ⟨w.heap.size + 1 + 1, 3, none⟩ = some (.int .i64 n) := J5.y.cell 3
  have q4 : w5.cell? ⟨w.heap.size + 1 + 1, 4, none⟩ = some (.int .i64 view) := J5.y.cell 4
  have q5 : w5.cell? ⟨w.heap.size + 1 + 1, 5, none⟩ = some (.int .u8 sn) := J5.y.cell 5
  have R5 := HR.out _ J5.t
  go_upto_region 31 with (first
    | (have _t := J5; refine wpList_load_midV (o := ⟨some 187, _, _, _, _, _⟩) (by rfl) _ _ rfl (w.heap.size) 0 rfl [.int .i64 s.size, .int .i64 s.count, .slice Ak s.kept.length ck, .slice Aw s.waits.length cw, .bool s.off, .int .i64 s.offs, .int .i64 s.fuse, .int .u64 s.wr] (block_range (L := [.int .i64 s.size, .int .i64 s.count, .slice Ak s.kept.length ck, .slice Aw s.waits.length cw, .bool s.off, .int .i64 s.offs, .int .i64 s.fuse, .int .u64 s.wr]) J5.x) Tryd.underlying31 rfl (by kernel_rfl) ?_)
    | (have _t := J5; refine wpList_load_midV (o := ⟨some 188, _, _, _, _, _⟩) (by rfl) _ _ rfl (w.heap.size + 1) 0 rfl [.int .i64 S, .int .i64 B, .int .i64 sl] (block_range (L := [.int .i64 S, .int .i64 B, .int .i64 sl]) J5.c) Tryd.underlying61 rfl (by kernel_rfl) ?_)
    | (have _t := R5; go_at_call 64; refine (GD.out _ _ R5).mono ?_; rintro e w6 ⟨r2, hr2, rfl, hb6⟩; obtain rfl := rangeR_one hr2 hr; have J6 := J5.below hb6; have R6 := R5.below hb6; have own6 := Own.below own5 hb6; clear _t J5 R5 own5 hr2 q2 q3 q4 q5))
  have kc : ∀ W, Own W w4.heap.size 5 .u8 v5 r2.1 → (convert 22 9 v5).run Tryd.prog W = .ok (.string (strOfNums r2.1)) W := fun W h => own_conv h
  have P6 : In25 w0 w w6.drew x a mk mw p0 p1 p2 S B sl s _ _ := J6.below (below_draws (Below.refl _ _) 1)
  have RD6 := R6.below (show Below w6.heap.size w6 w6.drew from below_draws (Below.refl _ _) 1)
  have od6 := Own.drewN own6 1
  generalize strOfNums r2.1 = SS at *
  generalize r2.1 = xs at *
  generalize r2.2 = E at *
  refine wp_region_held_drew (S := fun W => Block W (w.heap.size) 31 #[.int .i64 s.size, .int .i64 s.count, .slice Ak s.kept.length ck, .slice Aw s.waits.length cw, .bool s.off, .int .i64 s.offs, .int .i64 s.fuse, .int .u64 s.wr] ∧ Own W w4.heap.size 5 .u8 v5 xs) (by kernel_rfl) ⟨J6.x, own6⟩ (fun hS => ?_)
  refine wpAnyH_take (i := 0) (oi := ⟨some 200, _, _, _, _, _⟩) (v := v5) rfl (by kernel_rfl) (by kernel_rfl) (by kernel_rfl) (fun _ _ _ h => h) (Or.inl ⟨by rfl, fun W hW => by go_simp⟩) hS ?_
  try simp only [Act.put, List.setIfInBounds_toArray, List.set_cons_zero, List.set_cons_succ]
  refine wpAnyH_take (i := 1) (oi := ⟨some 201, _, _, _, _, _⟩) (v := .string SS) rfl (by kernel_rfl) (by kernel_rfl) (by kernel_rfl) (fun _ _ _ h => h) (Or.inl ⟨by rfl, fun W hW => by have q := kc W hW.2; go_simp⟩) hS ?_
  try simp only [Act.put, List.setIfInBounds_toArray, List.set_cons_zero, List.set_cons_succ]
  refine wpAnyH_take (i := 2) (oi := ⟨some 202, _, _, _, _, _⟩) (v := .string SS) rfl (by kernel_rfl) (by kernel_rfl) (by kernel_rfl) (fun _ _ _ h => h) (Or.inl ⟨by rfl, fun W hW => by go_simp⟩) hS ?_
  try simp only [Act.put, List.setIfInBounds_toArray, List.set_cons_zero, List.set_cons_succ]
  refine wpAnyH_take (i := 3) (oi := ⟨some 203, _, _, _, _, _⟩) (v := .bool true) rfl (by kernel_rfl) (by kernel_rfl) (by kernel_rfl) (fun _ _ _ h => h) (Or.inl ⟨by rfl, fun W hW => by go_simp⟩) hS ?_
  try simp only [Act.put, List.setIfInBounds_toArray, List.set_cons_zero, List.set_cons_succ]
  refine wpAnyH_take (i := 4) (oi := ⟨some 204, _, _, _, _, _⟩) (v := .bool true) rfl (by kernel_rfl) (by kernel_rfl) (by kernel_rfl) (fun _ _ _ h => h) (Or.inl ⟨by rfl, fun W hW => by go_simp⟩) hS ?_
  try simp only [Act.put, List.setIfInBounds_toArray, List.set_cons_zero, List.set_cons_succ]
  refine wpAnyH_take (i := 5) (oi := ⟨some 205, _, _, _, _, _⟩) (v := .int .i64 E) rfl (by kernel_rfl) (by kernel_rfl) (by kernel_rfl) (fun _ _ _ h => h) (Or.inl ⟨by rfl, fun W hW => by go_simp⟩) hS ?_
  try simp only [Act.put, List.setIfInBounds_toArray, List.set_cons_zero, List.set_cons_succ]
  refine wpAnyH_take (i := 6) (oi := ⟨some 206, _, _, _, _, _⟩) (v := .int .i64 E) rfl (by kernel_rfl) (by kernel_rfl) (by kernel_rfl) (fun _ _ _ h => h) (Or.inl ⟨by rfl, fun W hW => by go_simp⟩) hS ?_
  try simp only [Act.put, List.setIfInBounds_toArray, List.set_cons_zero, List.set_cons_succ]
  refine wpAnyH_take (i := 7) (oi := ⟨some 207, _, _, _, _, _⟩) (v := .bool true) rfl (by kernel_rfl) (by kernel_rfl) (by kernel_rfl) (fun _ _ _ h => h) (Or.inl ⟨by rfl, fun W hW => by go_simp⟩) hS ?_
  try simp only [Act.put, List.setIfInBounds_toArray, List.set_cons_zero, List.set_cons_succ]
  refine wpAnyH_take (i := 8) (oi := ⟨some 208, _, _, _, _, _⟩) (v := .bool true) rfl (by kernel_rfl) (by kernel_rfl) (by kernel_rfl) (fun _ _ _ h => h) (Or.inl ⟨by rfl, fun W hW => by go_simp⟩) hS ?_
  try simp only [Act.put, List.setIfInBounds_toArray, List.set_cons_zero, List.set_cons_succ]
  refine wpAnyH_take (i := 9) (oi := ⟨some 209, _, _, _, _, _⟩) (v := .agg #[.int .i64 s.size, .int .i64 s.count, .slice Ak s.kept.length ck, .slice Aw s.waits.length cw, .bool s.off, .int .i64 s.offs, .int .i64 s.fuse, .int .u64 s.wr]) rfl (by kernel_rfl) (by kernel_rfl) (by kernel_rfl) (fun _ _ _ h => h) (yieldsIf_load_mid (by rfl) _ _ rfl (w.heap.size) (0) rfl [.int .i64 s.size, .int .i64 s.count, .slice Ak s.kept.length ck, .slice Aw s.waits.length cw, .bool s.off, .int .i64 s.offs, .int .i64 s.fuse, .int .u64 s.wr] _ (fun W hW => block_range (L := [.int .i64 s.size, .int .i64 s.count, .slice Ak s.kept.length ck, .slice Aw s.waits.length cw, .bool s.off, .int .i64 s.offs, .int .i64 s.fuse, .int .u64 s.wr]) hW.1) Tryd.underlying31 rfl (by kernel_rfl)) hS ?_
  try simp only [Act.put, List.setIfInBounds_toArray, List.set_cons_zero, List.set_cons_succ]
  refine wpAnyH_ready (rs := [10]) (by kernel_rfl) (by simp) ?_
  refine AllReadyH.cons rfl (fun K hK => ?_) AllReadyH.nil
  go_simp
  refine hK.out _ _ ⟨P6.x, od6⟩ (fun hS => ?_)
  clear hK K
  try simp only [Act.put, List.setIfInBounds_toArray, List.set_cons_zero, List.set_cons_succ]
  refine wpAnyH_ready (rs := [11]) (by kernel_rfl) (by simp) ?_
  refine AllReadyH.cons rfl (fun K hK => ?_) AllReadyH.nil
  refine step_store_blk rfl _ _ _ rfl (cs := zD) (ds := (dCells Ak ck Aw cw s).toList) (by exact P6.z) rfl rfl rfl (by kernel_rfl) (dCells_one _ _ _ _ _) ?_
  intro x9 Z9 g9
  have hfin := In25.done P6 RD6 g9 (Near.refl s)
  refine hK.out _ _ ⟨P6.x.grown g9 (by intro h; injection h with h; omega), od6.kept g9 (Or.inr (od6.ne_block P6.z (by decide)))⟩ (fun hS => ?_)
  clear hK K
  try simp only [Act.put, List.setIfInBounds_toArray, List.set_cons_zero, List.set_cons_succ]
  refine wpAnyH_done (by kernel_rfl) ?_ _
  go_wp2_with fail
  exact bodyPost_ret (v := .tuple #[.bool true, .agg (dCells Ak ck Aw cw s)]) (results_tmp_row rfl _ _ (w.heap.size + 1 + 1 + 1) 31 _ (0, 0) _ _ rfl rfl Z9 Tryd.underlying31 rfl (by kernel_rfl)) rfl hfin
end Go.Proofs.YtpnodocjpedcmaaDoor.Im

namespace Go.Proofs.YtpnodocjpedcmaaDoor.Im
open Go.ChangeShapes Go.WideShapes Go.ChangeAt Go.RowKit Go.Proofs.YtpnodocjpedcmaaDoor.Kit Go.Proofs.YtpnodocjpedcmaaDoor.Pt
open Go.Proofs.YtpnodocjpedcmaaDoor.Sec (Dv DvAt DSet Dev RDv dCells dCells_one zD zD_noText GivesED GivesD GivesS GivesB results_tmp_row block_range wpList_load_midV)


open Go.Proofs.YtpnodocjpedcmaaDoor.Sha (LaidS sumL_length)
def SumR (s : Dv) (S B sl i n : Int) (r : List Int × Int) : Prop :=
  (¬ (0 ≤ n ∧ n ≤ B * sl) ∧ r = ([], 5)) ∨ ((0 ≤ n ∧ n ≤ B * sl) ∧ ReadsP s (slotF S B sl i) 0 n.toNat r)
theorem sumR_one {s : Dv} {S B sl i n : Int} {r t : List Int × Int} (h : SumR s S B sl i n r) (g : SumR s S B sl i n t) : r = t := by
  rcases h with ⟨h1, rfl⟩ | ⟨h1, h3⟩ <;> rcases g with ⟨g1, rfl⟩ | ⟨g1, g3⟩
  all_goals first
    | rfl
    | exact absurd h1 g1
    | exact absurd g1 h1
    | exact reads_one h3 g3
theorem lay_last (w : World) (o : Obj) : Below w.heap.size w (w.alloc o) := (Below.refl _ _).alloc (Nat.le_refl _) _
theorem dig_eq (ys : List Int) (h : ys.length = 32) (w : World) : (Op.equalIn 10000 48 (.agg (ys.map (Value.int .u8)).toArray) (.agg (ys.map (Value.int .u8)).toArray)).run Tryd.prog w = .ok true w := by
  have h1 := run_equalIn_array (P := Tryd.prog) (w := w) (t := 48) 9999 (ys.map (Value.int .u8)).toArray (ys.map (Value.int .u8)).toArray (n := ys.length) (e := 5) (by rw [h]; exact Tryd.underlying48) (Option.eq_some_of_isSome (by kernel_rfl))
  have h2 := run_eqItems_ints (P := Tryd.prog) (w := w) (e := 5) (k := .u8) (k' := .u8) 9998 (by kernel_rfl) Tryd.underlying5 (by kernel_rfl) ys ys (List.range ys.length) (fun j hj => by have := List.mem_range.1 hj; omega)
  rw [h2] at h1
  rw [show decide (∀ j ∈ List.range ys.length, ys[j]?.getD 0 = ys[j]?.getD 0) = true from decide_eq_true (fun _ _ => rfl)] at h1
  exact h1
theorem dig_gd (ys : List Int) (x y : Operand) (w : World) : (eqGuard .eql 48 x y (.agg (ys.map (Value.int .u8)).toArray) (.agg (ys.map (Value.int .u8)).toArray)).run Tryd.prog w = .ok () w := run_eqGuard_agg w .eql 48 x y _ _ (by kernel_rfl)

set_option maxRecDepth 100000 in
set_option maxHeartbeats 6400000 in
/-- Sum of both. -/
theorem does_sum (w0 w : World) (x a mk mw p0 p1 p2 : Nat) (S B sl : Int) (s : Dv) (m : Step25) (dv : Value) (hd : Dev w0 w a mk mw s) (hi : ImAt w x a S B sl p0 p1 p2) (hr : RDv w dv s) (hL : LayOk S B sl s) (hm : m.Ok) (hin : m.In w0 w0.heap.size) (hbl : m.bs.length ≤ 1000) (hzl : m.zs.length ≤ 60) (hof : s.offs ≤ 100000000) (hwr : s.wr ≤ 100000000) (hLS : LaidS w0) (hk : m.k = 3) :
    Calls Tryd.prog 30 #[.pointer (some ⟨x, 0, none⟩), .pointer (some ⟨a, 0, none⟩), dv, .agg #[.int .i64 S, .int .i64 B, .int .i64 sl], .agg m.cells.toArray] w (Does25 w0 w x a mk mw p0 p1 p2 S B sl s) := by
  have hok : s.Ok := hd.d.ok
  have hwh : Whole s := whole_of hd.d
  have HBs := Lib.hid (fun W (hb : Below w0.heap.size w0 W) => (hin.1.below hb).more hb.size)
  have HZs := Lib.hid (fun W (hb : Below w0.heap.size w0 W) => (hin.2.below hb).more hb.size)
  have GP : Hid (∀ W, ImAt W x a S B sl p0 p1 p2 → DvAt W (fun _ => True) a mk mw s → Below w0.heap.size w0 W → Calls Tryd.prog 33 #[.pointer (some ⟨x, 0, none⟩), .int .u8 m.slot, .int .i64 m.n] W fun e w' => ∃ r, SumR s S B sl m.slot m.n r ∧ e = .returned (.tuple #[arrV .u8 (sumOf r), .int .i64 r.2]) ∧ Below W.heap.size W w') := Lib.hid (fun W h hd hb => by
    by_cases hn : 0 ≤ m.n ∧ m.n ≤ B * sl
    · obtain ⟨N, hN⟩ : ∃ N : Nat, m.n = N := ⟨m.n.toNat, by omega⟩
      rw [hN] at hn ⊢
      refine (isum_yes _ x a mk mw p0 p1 p2 S B sl m.slot N s W h hd hL hm.slot hn.2 (hLS.below hb)).mono ?_
      rintro e w' ⟨r, h1, h2, h3⟩
      exact ⟨r, Or.inr ⟨hn, by rw [Int.toNat_natCast]; exact h1⟩, h2, h3⟩
    · refine (isum_no x a p0 p1 p2 S B sl m.slot m.n s W h hL hn).mono ?_
      rintro e w' ⟨h1, h2⟩
      exact ⟨([], 5), Or.inl ⟨hn, rfl⟩, h1, h2⟩)
  have GD : Hid (∀ v W, RDv W v s → Calls Tryd.prog 62 #[v, .agg #[.int .i64 S, .int .i64 B, .int .i64 sl], .int .u8 m.slot, .int .i64 m.n] W fun e w' => ∃ r, SumR s S B sl m.slot m.n r ∧ e = .returned (.tuple #[arrV .u8 (sumOf r), .int .i64 r.2]) ∧ Below W.heap.size W w') := Lib.hid (fun v W h => by
    by_cases hn : 0 ≤ m.n ∧ m.n ≤ B * sl
    · obtain ⟨N, hN⟩ : ∃ N : Nat, m.n = N := ⟨m.n.toNat, by omega⟩
      rw [hN] at hn ⊢
      refine (rsum_yes v s S B sl m.slot N W h hok hwh hL hn.2).mono ?_
      rintro e w' ⟨r, h1, h2, h3⟩
      exact ⟨r, Or.inr ⟨hn, by rw [Int.toNat_natCast]; exact h1⟩, h2, h3⟩
    · refine (rsum_no v s S B sl m.slot m.n W h hL hn).mono ?_
      rintro e w' ⟨h1, h2⟩
      exact ⟨([], 5), Or.inl ⟨hn, rfl⟩, h1, h2⟩)
  have HR := Lib.hid (fun W (t : TurnsIn (DSet a mk mw) w W) => Sec.RDv.dset hd.d t hr)
  have h3 := Lib.hid (fun cs => In25.start hd hi m cs)
  obtain ⟨Ak, ck, Aw, cw, rfl, hkr⟩ := hr
  have H3 := Lib.hid (h3.out (dCells Ak ck Aw cw s))
  clear h3 hkr hd hi hin hL hof hwr hm hbl hzl hwh
  obtain ⟨k, blk, at_, n, view, sn, A, cap, bs, A2, cap2, zs⟩ := m
  simp only at *
  subst hk
  unfold Step25.cells zD at H3
  unfold dCells at HR H3 ⊢
  unfold Step25.cells
  simp only at H3 ⊢
  go_enter Tryd.func30, Tryd.ntmps30
  go_upto_region 1 with fail
  generalize (((w.alloc _).alloc _).alloc _).alloc _ = w4 at *
  have J4 := H3.out
  have q0 : w4.cell? ⟨w.heap.size + 1 + 1, 0, none⟩ = some (.int .i64 3) := J4.y.cell 0
  have q3 : w4.cell? ⟨w.heap.size + 1 + 1, 3, none⟩ = some (.int .i64 n) := J4.y.cell 3
  have q5 : w4.cell? ⟨w.heap.size + 1 + 1, 5, none⟩ = some (.int .u8 sn) := J4.y.cell 5
  go_upto_region 16 with (first
    | (have _t := J4; go_at_call 33; (with_reducible refine (GP.out _ J4.i J4.d.d J4.d.b).mono ?_); rintro e w5 ⟨r, hr, rfl, hb5⟩; have J5 := J4.below hb5; have hl5 := sumOf_length r; have HL5 := Lib.hid hl5; clear _t J4 q0 q3 q5 hl5)
    | (have _t := J5; refine wpList_store_arr rfl _ _ _ rfl (ys := sumOf r) (res_new w5 48) rfl rfl (by rw [HL5.out]; rfl) (by rw [HL5.out]; kernel_rfl) ?_; clear _t; intro w6 r6 g6))
  have hb6 : Below w5.heap.size w5 w6 := (lay_last w5 _).trans (below_of_grown g6 (lay_last w5 _).size fun b hb => by injection hb with hb; omega)
  have J6 := J5.below hb6
  have hzq := J5.z.lt
  clear J5 g6 hb6 hb5
  generalize w5.heap.size = Q at *
  have q3 : w6.cell? ⟨w.heap.size + 1 + 1, 3, none⟩ = some (.int .i64 n) := J6.y.cell 3
  have q5 : w6.cell? ⟨w.heap.size + 1 + 1, 5, none⟩ = some (.int .u8 sn) := J6.y.cell 5
  have R6 := HR.out _ J6.t
  go_upto_region 17 with (first
    | (have _t := J6; refine wpList_load_midV (o := ⟨some 120, _, _, _, _, _⟩) (by rfl) _ _ rfl (w.heap.size) 0 rfl [.int .i64 s.size, .int .i64 s.count, .slice Ak s.kept.length ck, .slice Aw s.waits.length cw, .bool s.off, .int .i64 s.offs, .int .i64 s.fuse, .int .u64 s.wr] (block_range (L := [.int .i64 s.size, .int .i64 s.count, .slice Ak s.kept.length ck, .slice Aw s.waits.length cw, .bool s.off, .int .i64 s.offs, .int .i64 s.fuse, .int .u64 s.wr]) J6.x) Tryd.underlying31 rfl (by kernel_rfl) ?_)
    | (have _t := J6; refine wpList_load_midV (o := ⟨some 121, _, _, _, _, _⟩) (by rfl) _ _ rfl (w.heap.size + 1) 0 rfl [.int .i64 S, .int .i64 B, .int .i64 sl] (block_range (L := [.int .i64 S, .int .i64 B, .int .i64 sl]) J6.c) Tryd.underlying61 rfl (by kernel_rfl) ?_)
    | (have _t := R6; go_at_call 62; refine (GD.out _ _ R6).mono ?_; rintro e w7 ⟨r2, hr2, rfl, hb7⟩; obtain rfl := sumR_one hr2 hr; have J7 := J6.below hb7; have R7 := R6.below hb7; have a7 := Block.below r6 hb7 (Block.lt r6); clear _t J6 R6 r6 hr2 q3 q5)
    | (have _t := J7; refine wpList_store_arr rfl _ _ _ rfl (ys := sumOf r2) (res_new w7 47) rfl rfl (by rw [HL5.out]; rfl) (by rw [HL5.out]; kernel_rfl) ?_; clear _t; intro w8 r8 g8))
  have hb8 : Below w7.heap.size w7 w8 := (lay_last w7 _).trans (below_of_grown g8 (lay_last w7 _).size fun b hb => by injection hb with hb; omega)
  have J8 := J7.below hb8
  have R8 := R7.below hb8
  have a8 : Arr w8 Q 48 .u8 (sumOf r2) := Block.below a7 hb8 (Block.lt a7)
  have hz8 := J7.z.lt
  clear J7 R7 a7 g8 hb8 hb7 hr
  generalize w7.heap.size = Q8 at *
  have P8 := J8.below (show Below w8.heap.size w8 w8.drew from below_draws (Below.refl _ _) 1)
  have RD8 := R8.below (show Below w8.heap.size w8 w8.drew from below_draws (Below.refl _ _) 1)
  have a9 := Arr.drewN a8 1
  have r9 := Arr.drewN r8 1
  generalize sumOf r2 = ys at *
  generalize r2.2 = E at *
  refine wp_region_held_drew (S := fun W => Block W (w.heap.size) 31 #[.int .i64 s.size, .int .i64 s.count, .slice Ak s.kept.length ck, .slice Aw s.waits.length cw, .bool s.off, .int .i64 s.offs, .int .i64 s.fuse, .int .u64 s.wr] ∧ Arr W Q 48 .u8 ys ∧ Arr W Q8 47 .u8 ys) (by kernel_rfl) ⟨J8.x, a8, r8⟩ (fun hS => ?_)
  refine wpAnyH_take (i := 0) (oi := ⟨some 129, _, _, _, _, _⟩) (v := .agg (ys.map (Value.int .u8)).toArray) rfl (by kernel_rfl) (by kernel_rfl) (by kernel_rfl) (fun _ _ _ h => h) (yieldsIf_load_mid (by rfl) _ _ rfl Q 0 rfl (ys.map (Value.int .u8)) _ (fun W hW => Arr.range hW.2.1) Tryd.underlying48 rfl (by rw [List.length_map, HL5.out]; kernel_rfl)) hS ?_
  try simp only [Act.put, List.setIfInBounds_toArray, List.set_cons_zero, List.set_cons_succ]
  refine wpAnyH_take (i := 1) (oi := ⟨some 130, _, _, _, _, _⟩) (v := .agg (ys.map (Value.int .u8)).toArray) rfl (by kernel_rfl) (by kernel_rfl) (by kernel_rfl) (fun _ _ _ h => h) (yieldsIf_load_mid (by rfl) _ _ rfl Q8 0 rfl (ys.map (Value.int .u8)) _ (fun W hW => Arr.range hW.2.2) Tryd.underlying47 rfl (by rw [List.length_map, HL5.out]; kernel_rfl)) hS ?_
  try simp only [Act.put, List.setIfInBounds_toArray, List.set_cons_zero, List.set_cons_succ]
  refine wpAnyH_take (i := 2) (oi := ⟨some 131, _, _, _, _, _⟩) (v := .bool true) rfl (by kernel_rfl) (by kernel_rfl) (by kernel_rfl) (fun _ _ _ h => h) (Or.inl ⟨by rfl, fun W hW => by have q1 := dig_eq ys HL5.out W; have q2 := fun x y => dig_gd ys x y W; go_simp⟩) hS ?_
  try simp only [Act.put, List.setIfInBounds_toArray, List.set_cons_zero, List.set_cons_succ]
  refine wpAnyH_take (i := 3) (oi := ⟨some 132, _, _, _, _, _⟩) (v := .bool true) rfl (by kernel_rfl) (by kernel_rfl) (by kernel_rfl) (fun _ _ _ h => h) (Or.inl ⟨by rfl, fun W hW => by go_simp⟩) hS ?_
  try simp only [Act.put, List.setIfInBounds_toArray, List.set_cons_zero, List.set_cons_succ]
  refine wpAnyH_take (i := 4) (oi := ⟨some 133, _, _, _, _, _⟩) (v := .int .i64 E) rfl (by kernel_rfl) (by kernel_rfl) (by kernel_rfl) (fun _ _ _ h => h) (Or.inl ⟨by rfl, fun W hW => by go_simp⟩) hS ?_
  try simp only [Act.put, List.setIfInBounds_toArray, List.set_cons_zero, List.set_cons_succ]
  refine wpAnyH_take (i := 5) (oi := ⟨some 134, _, _, _, _, _⟩) (v := .int .i64 E) rfl (by kernel_rfl) (by kernel_rfl) (by kernel_rfl) (fun _ _ _ h => h) (Or.inl ⟨by rfl, fun W hW => by go_simp⟩) hS ?_
  try simp only [Act.put, List.setIfInBounds_toArray, List.set_cons_zero, List.set_cons_succ]
  refine wpAnyH_take (i := 6) (oi := ⟨some 135, _, _, _, _, _⟩) (v := .bool true) rfl (by kernel_rfl) (by kernel_rfl) (by kernel_rfl) (fun _ _ _ h => h) (Or.inl ⟨by rfl, fun W hW => by go_simp⟩) hS ?_
  try simp only [Act.put, List.setIfInBounds_toArray, List.set_cons_zero, List.set_cons_succ]
  refine wpAnyH_take (i := 7) (oi := ⟨some 136, _, _, _, _, _⟩) (v := .bool true) rfl (by kernel_rfl) (by kernel_rfl) (by kernel_rfl) (fun _ _ _ h => h) (Or.inl ⟨by rfl, fun W hW => by go_simp⟩) hS ?_
  try simp only [Act.put, List.setIfInBounds_toArray, List.set_cons_zero, List.set_cons_succ]
  refine wpAnyH_take (i := 8) (oi := ⟨some 137, _, _, _, _, _⟩) (v := .agg #[.int .i64 s.size, .int .i64 s.count, .slice Ak s.kept.length ck, .slice Aw s.waits.length cw, .bool s.off, .int .i64 s.offs, .int .i64 s.fuse, .int .u64 s.wr]) rfl (by kernel_rfl) (by kernel_rfl) (by kernel_rfl) (fun _ _ _ h => h) (yieldsIf_load_mid (by rfl) _ _ rfl (w.heap.size) (0) rfl [.int .i64 s.size, .int .i64 s.count, .slice Ak s.kept.length ck, .slice Aw s.waits.length cw, .bool s.off, .int .i64 s.offs, .int .i64 s.fuse, .int .u64 s.wr] _ (fun W hW => block_range (L := [.int .i64 s.size, .int .i64 s.count, .slice Ak s.kept.length ck, .slice Aw s.waits.length cw, .bool s.off, .int .i64 s.offs, .int .i64 s.fuse, .int .u64 s.wr]) hW.1) Tryd.underlying31 rfl (by kernel_rfl)) hS ?_
  try simp only [Act.put, List.setIfInBounds_toArray, List.set_cons_zero, List.set_cons_succ]
  refine wpAnyH_ready (rs := [9]) (by kernel_rfl) (by simp) ?_
  refine AllReadyH.cons rfl (fun K hK => ?_) AllReadyH.nil
  go_simp
  refine hK.out _ _ ⟨P8.x, a9, r9⟩ (fun hS => ?_)
  clear hK K
  try simp only [Act.put, List.setIfInBounds_toArray, List.set_cons_zero, List.set_cons_succ]
  refine wpAnyH_ready (rs := [10]) (by kernel_rfl) (by simp) ?_
  refine AllReadyH.cons rfl (fun K hK => ?_) AllReadyH.nil
  refine step_store_blk rfl _ _ _ rfl (cs := zD) (ds := (dCells Ak ck Aw cw s).toList) (by exact P8.z) rfl rfl rfl (by kernel_rfl) (dCells_one _ _ _ _ _) ?_
  intro x9 Z9 g9
  have hfin := In25.done P8 RD8 g9 (Near.refl s)
  refine hK.out _ _ ⟨P8.x.grown g9 (by intro h; injection h with h; omega), Arr.grown a9 g9 (by intro h; injection h with h; omega), Arr.grown r9 g9 (by intro h; injection h with h; omega)⟩ (fun hS => ?_)
  clear hK K
  try simp only [Act.put, List.setIfInBounds_toArray, List.set_cons_zero, List.set_cons_succ]
  refine wpAnyH_done (by kernel_rfl) ?_ _
  go_wp2_with fail
  exact bodyPost_ret (v := .tuple #[.bool true, .agg (dCells Ak ck Aw cw s)]) (results_tmp_row rfl _ _ (w.heap.size + 1 + 1 + 1) 31 _ (0, 0) _ _ rfl rfl Z9 Tryd.underlying31 rfl (by kernel_rfl)) rfl hfin
end Go.Proofs.YtpnodocjpedcmaaDoor.Im

namespace Go.Proofs.YtpnodocjpedcmaaDoor.Im
open Go.ChangeShapes Go.WideShapes Go.ChangeAt Go.RowKit Go.Proofs.YtpnodocjpedcmaaDoor.Kit Go.Proofs.YtpnodocjpedcmaaDoor.Pt
open Go.Proofs.YtpnodocjpedcmaaDoor.Sec (Dv DvAt DSet Dev RDv dCells dCells_one zD zD_noText GivesED GivesD GivesS GivesB results_tmp_row block_range wpList_load_midV)


/-- The document's device is stored over in its box. -/
theorem In25.store {w0 w W W' : World} {x a mk mw p0 p1 p2 : Nat} {S B sl : Int} {s : Dv} {m : Step25} {cs cs' : Array Value} (h : In25 w0 w W x a mk mw p0 p1 p2 S B sl s m cs) (X : Block W' w.heap.size 31 cs') (gr : W.grownBy W' (some w.heap.size)) : In25 w0 w W' x a mk mw p0 p1 p2 S B sl s m cs' := by
  have hg := h.g
  have tt : TurnsIn (fun b => b = w.heap.size) W W' := .ofGrown gr fun b hb => by injection hb with hb; exact hb.symm
  have ne : ∀ {g : Nat} {ty : TypeId} {cs : Array Value}, Block W g ty cs → ty ≠ 31 → g ≠ w.heap.size := by
    intro g ty cs hg hne e
    exact block_ne hg h.x hne e
  exact ⟨h.d.grown h.x (by decide) (by decide) hg gr, ⟨Block.out h.i.x tt (ne h.i.x (by decide)), Block.out h.i.p0 tt (ne h.i.p0 (by decide)), Block.out h.i.p1 tt (ne h.i.p1 (by decide)), Block.out h.i.p2 tt (ne h.i.p2 (by decide))⟩,
    h.t.then_ tt (fun b hb e => by omega), X, Block.out h.c tt (by omega), Block.out h.y tt (by omega), Block.out h.z tt (by omega), hg⟩

set_option maxRecDepth 100000 in
set_option maxHeartbeats 6400000 in
/-- A fuse of both. -/
theorem does_fuse (w0 w : World) (x a mk mw p0 p1 p2 : Nat) (S B sl : Int) (s : Dv) (m : Step25) (dv : Value) (hd : Dev w0 w a mk mw s) (hi : ImAt w x a S B sl p0 p1 p2) (hr : RDv w dv s) (hL : LayOk S B sl s) (hm : m.Ok) (hin : m.In w0 w0.heap.size) (hbl : m.bs.length ≤ 1000) (hzl : m.zs.length ≤ 60) (hof : s.offs ≤ 100000000) (hwr : s.wr ≤ 100000000) (hk : m.k = 4) :
    Calls Tryd.prog 30 #[.pointer (some ⟨x, 0, none⟩), .pointer (some ⟨a, 0, none⟩), dv, .agg #[.int .i64 S, .int .i64 B, .int .i64 sl], .agg m.cells.toArray] w (Does25 w0 w x a mk mw p0 p1 p2 S B sl s) := by
  have hok : s.Ok := hd.d.ok
  have hwh : Whole s := whole_of hd.d
  have HBs := Lib.hid (fun W (hb : Below w0.heap.size w0 W) => (hin.1.below hb).more hb.size)
  have HZs := Lib.hid (fun W (hb : Below w0.heap.size w0 W) => (hin.2.below hb).more hb.size)
  have GF := Lib.hid (fun W (hd : DvAt W (fun _ => True) a mk mw s) => Sec.fuse_any _ a mk mw s m.n W hd hm.n)
  have HR := Lib.hid (fun W (t : TurnsIn (DSet a mk mw) w W) => Sec.RDv.dset hd.d t hr)
  have h3 := Lib.hid (fun cs => In25.start hd hi m cs)
  obtain ⟨Ak, ck, Aw, cw, rfl, hkr⟩ := hr
  have H3 := Lib.hid (h3.out (dCells Ak ck Aw cw s))
  clear h3 hkr hd hi hin hL hof hwr hm hbl hzl hwh
  obtain ⟨k, blk, at_, n, view, sn, A, cap, bs, A2, cap2, zs⟩ := m
  simp only at *
  subst hk
  unfold Step25.cells zD at H3
  unfold dCells at HR H3 ⊢
  unfold Step25.cells
  simp only at H3 ⊢
  go_enter Tryd.func30, Tryd.ntmps30
  go_upto_region 1 with fail
  generalize (((w.alloc _).alloc _).alloc _).alloc _ = w4 at *
  have J4 := H3.out
  have q0 : w4.cell? ⟨w.heap.size + 1 + 1, 0, none⟩ = some (.int .i64 4) := J4.y.cell 0
  have q3 : w4.cell? ⟨w.heap.size + 1 + 1, 3, none⟩ = some (.int .i64 n) := J4.y.cell 3
  go_upto_region 20 with (have _t := J4; go_at_call 23; refine (GF.out _ J4.d.d).mono ?_; rintro e w5 ⟨rfl, D5, T5⟩; have J5 := J4.turn D5 T5; clear _t J4 q0 q3 D5 T5)
  have q3 : w5.cell? ⟨w.heap.size + 1 + 1, 3, none⟩ = some (.int .i64 n) := J5.y.cell 3
  have q6 := J5.x.frozen 6
  have x6 : w5.cell? ⟨w.heap.size, 6, none⟩ = some (.int .i64 s.fuse) := J5.x.cell 6
  have R5 := HR.out _ J5.t
  go_upto_region 21 with fail
  have X7 : Block (w5.setCell ⟨w.heap.size, 6, none⟩ (.int .i64 (max n 0))) w.heap.size 31 #[.int .i64 (s.fused n).size, .int .i64 (s.fused n).count, .slice Ak (s.fused n).kept.length ck, .slice Aw (s.fused n).waits.length cw, .bool (s.fused n).off, .int .i64 (s.fused n).offs, .int .i64 (s.fused n).fuse, .int .u64 (s.fused n).wr] := J5.x.set_ 6 (.int .i64 (max n 0))
  have R7 : RDv (w5.setCell ⟨w.heap.size, 6, none⟩ (.int .i64 (max n 0))) (.agg (dCells Ak ck Aw cw (s.fused n))) (s.fused n) := Sec.fuse_row R5 J5.x rfl (max n 0)
  have J7 := J5.store X7 (grown_set w5 w.heap.size 6 _)
  clear J5 q3 q6 x6 R5
  generalize w5.setCell ⟨w.heap.size, 6, none⟩ (.int .i64 (max n 0)) = w7 at *
  have P7 := J7.below (show Below w7.heap.size w7 w7.drew from below_draws (Below.refl _ _) 1)
  have RD7 := R7.below (show Below w7.heap.size w7 w7.drew from below_draws (Below.refl _ _) 1)
  refine wp_region_held_drew (S := fun W => Block W (w.heap.size) 31 #[.int .i64 (s.fused n).size, .int .i64 (s.fused n).count, .slice Ak (s.fused n).kept.length ck, .slice Aw (s.fused n).waits.length cw, .bool (s.fused n).off, .int .i64 (s.fused n).offs, .int .i64 (s.fused n).fuse, .int .u64 (s.fused n).wr]) (by kernel_rfl) X7 (fun hS => ?_)
  refine wpAnyH_take (i := 0) (oi := ⟨some 148, _, _, _, _, _⟩) (v := .agg #[.int .i64 (s.fused n).size, .int .i64 (s.fused n).count, .slice Ak (s.fused n).kept.length ck, .slice Aw (s.fused n).waits.length cw, .bool (s.fused n).off, .int .i64 (s.fused n).offs, .int .i64 (s.fused n).fuse, .int .u64 (s.fused n).wr]) rfl (by kernel_rfl) (by kernel_rfl) (by kernel_rfl) (fun _ _ _ h => h) (yieldsIf_load_mid (by rfl) _ _ rfl (w.heap.size) (0) rfl [.int .i64 (s.fused n).size, .int .i64 (s.fused n).count, .slice Ak (s.fused n).kept.length ck, .slice Aw (s.fused n).waits.length cw, .bool (s.fused n).off, .int .i64 (s.fused n).offs, .int .i64 (s.fused n).fuse, .int .u64 (s.fused n).wr] _ (fun W hW => block_range (L := [.int .i64 (s.fused n).size, .int .i64 (s.fused n).count, .slice Ak (s.fused n).kept.length ck, .slice Aw (s.fused n).waits.length cw, .bool (s.fused n).off, .int .i64 (s.fused n).offs, .int .i64 (s.fused n).fuse, .int .u64 (s.fused n).wr]) hW) Tryd.underlying31 rfl (by kernel_rfl)) hS ?_
  try simp only [Act.put, List.setIfInBounds_toArray, List.set_cons_zero, List.set_cons_succ]
  refine wpAnyH_ready (rs := [1]) (by kernel_rfl) (by simp) ?_
  refine AllReadyH.cons rfl (fun K hK => ?_) AllReadyH.nil
  go_simp
  refine hK.out _ _ P7.x (fun hS => ?_)
  clear hK K
  try simp only [Act.put, List.setIfInBounds_toArray, List.set_cons_zero, List.set_cons_succ]
  refine wpAnyH_ready (rs := [2]) (by kernel_rfl) (by simp) ?_
  refine AllReadyH.cons rfl (fun K hK => ?_) AllReadyH.nil
  refine step_store_blk rfl _ _ _ rfl (cs := zD) (ds := (dCells Ak ck Aw cw (s.fused n)).toList) (by exact P7.z) rfl rfl rfl (by kernel_rfl) (dCells_one _ _ _ _ _) ?_
  intro x9 Z9 g9
  have hfin := In25.done P7 RD7 g9 (fused_near s n)
  refine hK.out _ _ (P7.x.grown g9 (by intro h; injection h with h; omega)) (fun hS => ?_)
  clear hK K
  try simp only [Act.put, List.setIfInBounds_toArray, List.set_cons_zero, List.set_cons_succ]
  refine wpAnyH_done (by kernel_rfl) ?_ _
  go_wp2_with fail
  exact bodyPost_ret (v := .tuple #[.bool true, .agg (dCells Ak ck Aw cw (s.fused n))]) (results_tmp_row rfl _ _ (w.heap.size + 1 + 1 + 1) 31 _ (0, 0) _ _ rfl rfl Z9 Tryd.underlying31 rfl (by kernel_rfl)) rfl hfin

set_option maxRecDepth 100000 in
set_option maxHeartbeats 6400000 in
/-- Back of both. -/
theorem does_back (w0 w : World) (x a mk mw p0 p1 p2 : Nat) (S B sl : Int) (s : Dv) (m : Step25) (dv : Value) (hd : Dev w0 w a mk mw s) (hi : ImAt w x a S B sl p0 p1 p2) (hr : RDv w dv s) (hL : LayOk S B sl s) (hm : m.Ok) (hin : m.In w0 w0.heap.size) (hbl : m.bs.length ≤ 1000) (hzl : m.zs.length ≤ 60) (hof : s.offs ≤ 100000000) (hwr : s.wr ≤ 100000000) (hk : m.k = 5) :
    Calls Tryd.prog 30 #[.pointer (some ⟨x, 0, none⟩), .pointer (some ⟨a, 0, none⟩), dv, .agg #[.int .i64 S, .int .i64 B, .int .i64 sl], .agg m.cells.toArray] w (Does25 w0 w x a mk mw p0 p1 p2 S B sl s) := by
  have hok : s.Ok := hd.d.ok
  have hwh : Whole s := whole_of hd.d
  have HBs := Lib.hid (fun W (hb : Below w0.heap.size w0 W) => (hin.1.below hb).more hb.size)
  have HZs := Lib.hid (fun W (hb : Below w0.heap.size w0 W) => (hin.2.below hb).more hb.size)
  have GB := Lib.hid (fun W (hd : DvAt W (fun _ => True) a mk mw s) (hh : Holds W W.heap.size .u8 m.A2 m.zs) => Sec.back_any _ a mk mw s m.A2 m.zs m.cap2 W hd (fun _ _ => trivial) (by omega) hm.zo hh (by omega))
  have GD := Lib.hid (fun v W (h : RDv W v s) (hh : Holds W W.heap.size .u8 m.A2 m.zs) => Sec.rback_any v s m.A2 m.zs m.cap2 W h hok (by omega) hh (by omega))
  have HN := Lib.hid (back_near s m.zs)
  obtain ⟨sb, hsb⟩ : ∃ sb, s.back m.zs = sb := ⟨_, rfl⟩
  rw [hsb] at GB GD HN
  clear hsb
  have HR := Lib.hid (fun W (t : TurnsIn (DSet a mk mw) w W) => Sec.RDv.dset hd.d t hr)
  have h3 := Lib.hid (fun cs => In25.start hd hi m cs)
  obtain ⟨Ak, ck, Aw, cw, rfl, hkr⟩ := hr
  have H3 := Lib.hid (h3.out (dCells Ak ck Aw cw s))
  clear h3 hkr hd hi hin hL hof hwr hm hbl hzl hwh
  obtain ⟨k, blk, at_, n, view, sn, A, cap, bs, A2, cap2, zs⟩ := m
  simp only at *
  subst hk
  unfold Step25.cells zD at H3
  unfold dCells at HR H3 ⊢
  unfold Step25.cells
  simp only at H3 ⊢
  go_enter Tryd.func30, Tryd.ntmps30
  go_upto_region 1 with fail
  generalize (((w.alloc _).alloc _).alloc _).alloc _ = w4 at *
  have J4 := H3.out
  have q0 : w4.cell? ⟨w.heap.size + 1 + 1, 0, none⟩ = some (.int .i64 5) := J4.y.cell 0
  have q7 : w4.cell? ⟨w.heap.size + 1 + 1, 7, none⟩ = some (.slice A2 zs.length cap2) := J4.y.cell 7
  go_upto_region 24 with (have _t := J4; go_at_call 14; refine (GB.out _ J4.d.d (HZs.out _ J4.d.b)).mono ?_; rintro e w5 ⟨rfl, D5, T5⟩; have J5 := J4.turn D5 T5; clear _t J4 q0 q7 D5 T5)
  have q7 : w5.cell? ⟨w.heap.size + 1 + 1, 7, none⟩ = some (.slice A2 zs.length cap2) := J5.y.cell 7
  have R5 := HR.out _ J5.t
  go_wp2_with (first
    | (have _t := J5; refine wpList_load_midV (o := ⟨some 155, _, _, _, _, _⟩) (by rfl) _ _ rfl (w.heap.size) 0 rfl [.int .i64 s.size, .int .i64 s.count, .slice Ak s.kept.length ck, .slice Aw s.waits.length cw, .bool s.off, .int .i64 s.offs, .int .i64 s.fuse, .int .u64 s.wr] (block_range (L := [.int .i64 s.size, .int .i64 s.count, .slice Ak s.kept.length ck, .slice Aw s.waits.length cw, .bool s.off, .int .i64 s.offs, .int .i64 s.fuse, .int .u64 s.wr]) J5.x) Tryd.underlying31 rfl (by kernel_rfl) ?_)
    | (have _t := R5; go_at_call 15; refine (GD.out _ _ R5 (HZs.out _ J5.d.b)).mono ?_; rintro e w6 ⟨v6, rfl, RV6, hb6⟩; have J6 := J5.below hb6; obtain ⟨Ak6, ck6, Aw6, cw6, hve, hr6⟩ := RV6; have R6 : RDv w6 (.agg (dCells Ak6 ck6 Aw6 cw6 sb)) sb := ⟨Ak6, ck6, Aw6, cw6, rfl, hr6⟩; subst hve; clear _t J5 R5 hr6 q7)
    | (have _t := J6; refine Sec.wpList_store_blk (cs := zD) rfl _ _ _ rfl (ds := (dCells Ak6 ck6 Aw6 cw6 sb).toList) (by exact J6.z) rfl rfl rfl (by kernel_rfl) (dCells_one _ _ _ _ _) ?_; clear _t; intro w9 Z9 g9))
  exact bodyPost_ret (v := .tuple #[.bool true, .agg (dCells Ak6 ck6 Aw6 cw6 sb)]) (results_tmp_row rfl _ _ (w.heap.size + 1 + 1 + 1) 31 _ (0, 0) _ _ rfl rfl Z9 Tryd.underlying31 rfl (by kernel_rfl)) rfl (In25.done J6 R6 g9 HN.out)
end Go.Proofs.YtpnodocjpedcmaaDoor.Im

namespace Go.Proofs.YtpnodocjpedcmaaDoor.Im
open Go.ChangeShapes Go.WideShapes Go.ChangeAt Go.RowKit Go.Proofs.YtpnodocjpedcmaaDoor.Kit Go.Proofs.YtpnodocjpedcmaaDoor.Pt
open Go.Proofs.YtpnodocjpedcmaaDoor.Sec (Dv Dev RDv)
open Go.Proofs.YtpnodocjpedcmaaDoor.Sha (LaidS)

theorem does_any (w0 w : World) (x a mk mw p0 p1 p2 : Nat) (S B sl : Int) (s : Dv) (m : Step25) (dv : Value) (hd : Dev w0 w a mk mw s) (hi : ImAt w x a S B sl p0 p1 p2) (hr : RDv w dv s) (hL : LayOk S B sl s) (hm : m.Ok) (hin : m.In w0 w0.heap.size) (hbl : m.bs.length ≤ 1000) (hzl : m.zs.length ≤ 60) (hof : s.offs ≤ 100000000) (hwr : s.wr ≤ 100000000) (hLS : LaidS w0) :
    Calls Tryd.prog 30 #[.pointer (some ⟨x, 0, none⟩), .pointer (some ⟨a, 0, none⟩), dv, .agg #[.int .i64 S, .int .i64 B, .int .i64 sl], .agg m.cells.toArray] w (Does25 w0 w x a mk mw p0 p1 p2 S B sl s) := by
  by_cases k0 : m.k = 0
  · exact does_put w0 w x a mk mw p0 p1 p2 S B sl s m dv hd hi hr hL hm hin hbl hzl hof hwr k0
  by_cases k1 : m.k = 1
  · exact does_keep w0 w x a mk mw p0 p1 p2 S B sl s m dv hd hi hr hL hm hin hbl hzl hof hwr k1
  by_cases k2 : m.k = 2
  · exact does_kept w0 w x a mk mw p0 p1 p2 S B sl s m dv hd hi hr hL hm hin hbl hzl hof hwr k2
  by_cases k3 : m.k = 3
  · exact does_sum w0 w x a mk mw p0 p1 p2 S B sl s m dv hd hi hr hL hm hin hbl hzl hof hwr hLS k3
  by_cases k4 : m.k = 4
  · exact does_fuse w0 w x a mk mw p0 p1 p2 S B sl s m dv hd hi hr hL hm hin hbl hzl hof hwr k4
  by_cases k5 : m.k = 5
  · exact does_back w0 w x a mk mw p0 p1 p2 S B sl s m dv hd hi hr hL hm hin hbl hzl hof hwr k5
  by_cases k6 : m.k = 6
  · exact does_sync w0 w x a mk mw p0 p1 p2 S B sl s m dv hd hi hr hL hm hin hbl hzl hof hwr k6
  exact does_range w0 w x a mk mw p0 p1 p2 S B sl s m dv hd hi hr hL hm hin hbl hzl hof hwr ⟨k0, k1, k2, k3, k4, k5, k6⟩
end Go.Proofs.YtpnodocjpedcmaaDoor.Im
