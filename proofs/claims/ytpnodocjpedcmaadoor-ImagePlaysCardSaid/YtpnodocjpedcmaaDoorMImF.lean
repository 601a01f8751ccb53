/-
  Layer 25, image: Sum: contract. Conditions: as each theorem names.
-/
import Derived.Test.YtpnodocjpedcmaaDoorMImE
import Derived.Test.YtpnodocjpedcmaaDoorMGIays21
import Derived.Deep.RegionHeld3
namespace Go.Proofs.YtpnodocjpedcmaaDoor.Im
open Go.ChangeShapes Go.WideShapes Go.ChangeAt Go.RowKit Go.Proofs.YtpnodocjpedcmaaDoor.Kit Go.Proofs.YtpnodocjpedcmaaDoor.Pt
open Go.Proofs.YtpnodocjpedcmaaDoor.Sec (Dv DvAt DSet GivesB)
open Go.Proofs.YtpnodocjpedcmaaDoor.Sha (LaidS sumL sumL_length HashIs write_any hsum_any new_at far_of cubes_length)

def sumOf (r : List Int × Int) : List Int := if r.2 = 0 then sumL r.1 else zeros32
theorem sumOf_length (r : List Int × Int) : (sumOf r).length = 32 := by
  unfold sumOf
  split
  · exact sumL_length _
  · rfl

set_option maxRecDepth 100000 in
set_option maxHeartbeats 3200000 in
theorem isum_no (x a p0 p1 p2 : Nat) (S B sl i n : Int) (s : Dv) (w : World) (h : ImAt w x a S B sl p0 p1 p2) (hL : LayOk S B sl s) (hn : ¬ (0 ≤ n ∧ n ≤ B * sl)) :
    Calls Tryd.prog 33 #[.pointer (some ⟨x, 0, none⟩), .int .u8 i, .int .i64 n] w fun e w' => e = .returned (.tuple #[arrV .u8 zeros32, .int .i64 5]) ∧ Below w.heap.size w w' := by
  obtain ⟨hS, hB, hs, hdd, hq, h0, h1, h2, h3⟩ := hL.facts
  have Hz := Lib.hid (show zeros32.length = 32 from rfl)
  have hBz := Lib.hid build_zeros
  have r0 := res_new w 48
  have b0 : Below w.heap.size w (w.alloc (.cells ((List.replicate 32 (0 : Int)).map (Value.int .u8)).toArray 48)) := (Below.refl _ _).alloc (Nat.le_refl _) _
  have GC := Lib.hid (fun W h => cap_any x a S B sl p0 p1 p2 W h ⟨h0, h1⟩)
  have h' := Lib.hid (h.below b0)
  generalize zeros32 = ys at *
  generalize B * sl = C at *
  have hd9 : decide (n < 0) = true ∨ (decide (n < 0) = false ∧ decide (C < n) = true) := by
    simp only [decide_eq_true_eq, decide_eq_false_iff_not]
    omega
  clear h hL hn
  rcases hd9 with e1 | ⟨e1, e2⟩
  all_goals
    go_enter Tryd.func33, Tryd.ntmps33
    go_wp2_with (first
      | (go_at_call 29; refine (GC.out _ h'.out).mono ?_; rintro e w3 ⟨rfl, n3, rfl⟩; have r3 := Block.drewN r0 n3; have b3 := below_draws b0 n3; clear r0 b0)
      | (refine wpList_build_zeros rfl _ _ rfl (arrV .u8 ys) (fun W => by simpa using hBz.out W) ?_)
      | (have _t := r3; refine wpList_store_arr rfl _ _ _ rfl (ys := ys) r3 rfl rfl (by rw [Hz.out]; rfl) (by rw [Hz.out]; kernel_rfl) ?_; clear _t; intro w9 r9 g9)
      | (have _t := r0; refine wpList_store_arr rfl _ _ _ rfl (ys := ys) r0 rfl rfl (by rw [Hz.out]; rfl) (by rw [Hz.out]; kernel_rfl) ?_; clear _t; intro w9 r9 g9))
    refine bodyPost_ret (v := .tuple #[arrV .u8 ys, .int .i64 5]) (results_row_tmp rfl _ _ w.heap.size 48 _ (0, 0) _ rfl r9 _ rfl Tryd.underlying48 rfl (by rw [show (ys.map (Value.int .u8)).toArray.size = 32 by simp [Hz.out]]; kernel_rfl)) rfl ⟨rfl, ?_⟩
    first
      | exact b0.trans (below_of_grown g9 b0.size fun b hb => by injection hb with hb; omega)
      | exact b3.trans (below_of_grown g9 b3.size fun b hb => by injection hb with hb; omega)

/-- Between the pieces. -/
structure SGo (w W : World) (I : Nat → Prop) (x a mk mw p0 p1 p2 : Nat) (S B sl : Int) (s : Dv) (F : Int) (m : Nat) : Prop where
  d : DvAt W I a mk mw s
  i : ImAt W x a S B sl p0 p1 p2
  b : Below w.heap.size w W
  r : Arr W w.heap.size 48 .u8 (List.replicate 32 0)
  h : HashIs W (w.heap.size + 1) (rowP s F 0 m)
  ok : OkP s F 0 m
theorem SGo.below {w W W' : World} {I : Nat → Prop} {x a mk mw p0 p1 p2 : Nat} {S B sl : Int} {s : Dv} {F : Int} {m : Nat} (h : SGo w W I x a mk mw p0 p1 p2 S B sl s F m) (hb : Below W.heap.size W W') : SGo w W' I x a mk mw p0 p1 p2 S B sl s F m :=
  ⟨h.d.below hb, h.i.below hb, h.b.trans (hb.mono h.b.size), Block.below h.r hb (Block.lt h.r), h.h.out (S := fun _ => False) (.ofNew hb) id, h.ok⟩

set_option maxRecDepth 100000 in
set_option maxHeartbeats 12800000 in
theorem isum_yes (I : Nat → Prop) (x a mk mw p0 p1 p2 : Nat) (S B sl i : Int) (n : Nat) (s : Dv) (w : World) (h : ImAt w x a S B sl p0 p1 p2) (hd : DvAt w I a mk mw s) (hL : LayOk S B sl s) (hi : 0 ≤ i ∧ i ≤ 255) (hn : (n : Int) ≤ B * sl) (hLS : LaidS w) :
    Calls Tryd.prog 33 #[.pointer (some ⟨x, 0, none⟩), .int .u8 i, .int .i64 n] w fun e w' => ∃ r, ReadsP s (slotF S B sl i) 0 n r ∧ e = .returned (.tuple #[arrV .u8 (sumOf r), .int .i64 r.2]) ∧ Below w.heap.size w w' := by
  obtain ⟨hS, hB, hs, hdd, hq, h0, h1, h2, h3⟩ := hL.facts
  have hwh := whole_of hd
  obtain ⟨b, rfl⟩ : ∃ b : Nat, B = b := ⟨B.toNat, by omega⟩
  have Hz := Lib.hid (show zeros32.length = 32 from rfl)
  have hBz := Lib.hid build_zeros
  have r0 : Arr (w.alloc (.cells ((List.replicate 32 (0 : Int)).map (Value.int .u8)).toArray 48)) w.heap.size 48 .u8 (List.replicate 32 0) := Arr.new w _ _ _
  have b0 : Below w.heap.size w (w.alloc (.cells ((List.replicate 32 (0 : Int)).map (Value.int .u8)).toArray 48)) := (Below.refl _ _).alloc (Nat.le_refl _) _
  have GC := Lib.hid (fun W h => cap_any x a S b sl p0 p1 p2 W h ⟨h0, h1⟩)
  have i0 := Lib.hid (h.below b0)
  have d0 := Lib.hid (hd.below b0)
  have hzz : zeros32 = List.replicate 32 0 := rfl
  have HT := Lib.hid (hL.lies i).t
  have GSL := Lib.hid (fun W (h : ImAt W x a S b sl p0 p1 p2) => (slot_any x a p0 p1 p2 S b sl i W h hi).mono fun e w' h => (⟨h.1, h.2.symm⟩ : e = .returned (.pointer (some ⟨slotP p0 p1 i, 0, none⟩)) ∧ w' = W))
  have hcap : ((b : Int) * sl).toNat = ((b : Int) * sl).toNat := rfl
  have GR : Hid (∀ W (m at_ : Nat), at_ + m ≤ n → DvAt W I a mk mw s → ImAt W x a S b sl p0 p1 p2 → Calls Tryd.prog 49 #[.pointer (some ⟨slotP p0 p1 i, 0, none⟩), .int .i64 at_, .int .i64 m] W fun e w' => ∃ r, ReadsP s (slotF S b sl i) at_ m r ∧ GivesB r.1 r.2 W e w') := Lib.hid (fun W m at_ hle hd hi => by
    refine (pread_any I (slotP p0 p1 i) a mk mw (slotF S b sl i) (sl * ((b : Int) / S)) ((b : Int) * sl).toNat s at_ m W (hi.slot i) hd (hL.lies i) (by omega)).mono ?_
    rintro e w' ⟨r, hr, hg⟩
    exact ⟨r, pread_in hr (by omega), hg⟩)
  have HLS := Lib.hid (fun W (hb : Below w.heap.size w W) => hLS.below hb)
  have hg0 : w.heap.size + 1 ≠ 0 := by have := hLS.lt (by rw [cubes_length]; omega); omega
  generalize slotF S b sl i = F at *
  have GWR : Hid (∀ W xs A ys c, HashIs W (w.heap.size + 1) xs → xs.length + ys.length ≤ 1099511627776 → Octets xs → ys.length ≤ c → c ≤ maxLen → Octets ys → Holds W W.heap.size .u8 A ys → Sha.Far (w.heap.size + 1) A ys → LaidS W → Calls Tryd.prog 67 #[.pointer (some ⟨w.heap.size + 1, 0, none⟩), .slice A ys.length c] W fun e w' => e = .returned (.tuple #[]) ∧ HashIs w' (w.heap.size + 1) (xs ++ ys) ∧ TurnsIn (· = w.heap.size + 1) W w') := Lib.hid (fun W xs A ys c q1 q2 q3 q4 q5 q6 q7 q8 q9 => write_any (w.heap.size + 1) xs A ys c W q1 q2 q3 q4 q5 q6 q7 q8 q9 hg0)
  have GSU : Hid (∀ W xs, HashIs W (w.heap.size + 1) xs → xs.length ≤ 1000000000 → Octets xs → LaidS W → Calls Tryd.prog 68 #[.pointer (some ⟨w.heap.size + 1, 0, none⟩)] W fun e w' => e = .returned (arrV .u8 (sumL xs)) ∧ Below W.heap.size W w') := Lib.hid (fun W xs q1 q2 q3 q4 => hsum_any (w.heap.size + 1) xs W q1 q2 q3 q4 hg0)
  have GNW : Hid (∀ W, W.heap.size = w.heap.size + 1 → Calls Tryd.prog 65 #[] W fun e w' => e = .returned (.pointer (some ⟨w.heap.size + 1, 0, none⟩)) ∧ HashIs w' (w.heap.size + 1) [] ∧ Below W.heap.size W w') := Lib.hid (fun W h => by
    have := Sha.new_any W
    rwa [h] at this ⊢)
  have hnn : n ≤ 16777216 := by omega
  have e1 : decide ((n : Int) < 0) = false := decide_eq_false (by omega)
  have e2 : decide ((b : Int) * sl < (n : Int)) = false := decide_eq_false (by omega)
  have hb1 : 128 ≤ b ∧ b ≤ 4096 := by omega
  clear h hd hL hS hs hdd hq h0 h1 h2 h3 hn hLS hcap hB HT
  go_enter Tryd.func33, Tryd.ntmps33
  go_wp2_with (first
    | (go_at_call 29; refine (GC.out _ i0.out).mono ?_; rintro e w3 ⟨rfl, n3, rfl⟩; have r3 := Block.drewN r0 n3; have b3 := below_draws b0 n3; have d3 := d0.out.below (below_draws (Below.refl _ _) n3); have i3 := i0.out.below (below_draws (Below.refl _ _) n3); have z3 : ((w.alloc (.cells ((List.replicate 32 (0 : Int)).map (Value.int .u8)).toArray 48)).drewN n3).heap.size = w.heap.size + 1 := by simp [World.drewN])
    | (go_at_call 65; refine (GNW.out _ z3).mono ?_; rintro e w4 ⟨rfl, h4, hb4⟩; have S4 : SGo w w4 I x a mk mw p0 p1 p2 S b sl s F 0 := ⟨d3.below hb4, i3.below hb4, b3.trans (hb4.mono b3.size), Block.below r3 hb4 (Block.lt r3), h4, okP_none s F 0⟩; clear d3 i3 b3 hb4 r3 h4))
  clear r0 b0 i0 d0 GC z3 GNW e1 e2
  go_loopw [9] (fun q W => ∃ j : Nat, (j * b ≤ n + b) ∧ q = .int .i64 ((j * b : Nat) : Int) ∧ SGo w W I x a mk mw p0 p1 p2 S b sl s F (min (j * b) n)) (fun q _ => (n + b - (intOf q).toNat))
  case atStart => exact ⟨0, by omega, by rw [Nat.zero_mul]; rfl, by rw [Nat.zero_mul, Nat.zero_min]; exact S4⟩
  case round =>
    obtain ⟨j, hj, rfl, G⟩ := hrel
    clear S4
    obtain ⟨t, ht⟩ : ∃ t, j * b = t := ⟨_, rfl⟩
    have hjt : (j + 1) * b = t + b := by rw [Nat.add_mul, ht, Nat.one_mul]
    have HJT := Lib.hid hjt
    have HJ := Lib.hid ht
    rw [ht] at hj G ⊢
    clear ht hjt
    by_cases hlt : t < n
    case neg =>
      have hmin : min t n = n := by omega
      rw [hmin] at G
      have d1 : decide (t < n) = false := decide_eq_false hlt
      have d2 : decide ((t : Int) < (n : Int)) = false := decide_eq_false (by omega)
      have hok := G.ok
      have hoc := rowP_octets hwh hok
      have hlen := rowP_length s F 0 n
      have GS := Lib.hid (GSU.out wr _ G.h (by omega) hoc (HLS.out wr G.b))
      have hres : Hid (ReadsP s F 0 n (rowP s F 0 n, 0)) := Lib.hid (whole_done hok)
      have hsl := Lib.hid (sumL_length (rowP s F 0 n))
      have Gr := G.r
      have Gb := G.b
      clear hok hoc hlen G hmin
      go_wp2_with (first
        | (go_at_call 68; refine GS.out.mono ?_; rintro e w5 ⟨rfl, hb5⟩; have r5 : Arr w5 w.heap.size 48 .u8 (List.replicate 32 0) := Block.below Gr hb5 (Block.lt Gr))
        | (have _t := r5; refine wpList_store_arr rfl _ _ _ rfl (ys := sumL (rowP s F 0 n)) r5 rfl rfl (by rw [hsl.out]; rfl) (by rw [hsl.out]; kernel_rfl) ?_; clear _t; intro w9 r9 g9))
      have hb6 := Gb.trans (hb5.mono Gb.size)
      refine bodyPost_ret (v := .tuple #[arrV .u8 (sumL (rowP s F 0 n)), .int .i64 0]) (results_row_tmp rfl _ _ w.heap.size 48 _ (0, 0) _ rfl r9 _ rfl Tryd.underlying48 rfl (by rw [show ((sumL (rowP s F 0 n)).map (Value.int .u8)).toArray.size = 32 by simp [sumL_length]]; kernel_rfl)) rfl ⟨_, hres.out, rfl, ?_⟩
      exact hb6.trans (below_of_grown g9 hb6.size fun b hb => by injection hb with hb; omega)
    case pos =>
      have hmin : min t n = t := by omega
      rw [hmin] at G
      have d1 : decide (t < n) = true := decide_eq_true hlt
      have d2 : decide ((t : Int) < (n : Int)) = true := decide_eq_true (by omega)
      obtain ⟨m, hm⟩ : ∃ m, min b (n - t) = m := ⟨_, rfl⟩
      have hmi : min (b : Int) ((n : Int) - (t : Int)) = (m : Int) := by omega
      have hwr : IntKind.i64.wrap ((n : Int) - (t : Int)) = (n : Int) - (t : Int) := IntWalk.i64_in _ (by omega)
      have hm1 : 1 ≤ m ∧ t + m ≤ n ∧ m ≤ b := by omega
      have hnext : min (t + b) n = t + m := by omega
      have HNX := Lib.hid hnext
      have HOK := Lib.hid G.ok
      clear hm hnext hmin
      go_upto_region 9 with fail
      have c1 : wr.cell? ⟨x, 1, none⟩ = some (.int .i64 b) := G.i.x.cell 1
      have Gd := G.below (below_draws (Below.refl wr.heap.size wr) 1)
      change SGo w wr.drew I x a mk mw p0 p1 p2 S b sl s F t at Gd
      have c1d : wr.drew.cell? ⟨x, 1, none⟩ = some (.int .i64 b) := Gd.i.x.cell 1
      have GSL1 := Lib.hid (GSL.out wr.drew Gd.i)
      have GR1 := Lib.hid (GR.out wr.drew m t (by omega) Gd.d Gd.i)
      clear G
      go_region_held3 (fun W' => W'.cell? ⟨x, 1, none⟩ = some (.int .i64 (b : Int)))
        (first | exact c1 | exact c1d | exact c1e)
        (first
          | (go_at_call 66; (with_reducible refine GSL1.out.mono ?_); rintro e w' ⟨rfl, rfl⟩)
          | (go_at_call 49; (with_reducible refine GR1.out.mono ?_); rintro e w5 ⟨r5, hr5, v5, rfl, o5, hb5⟩; have G5 := Gd.below hb5; have c1e : w5.cell? ⟨x, 1, none⟩ = some (.int .i64 b) := G5.i.x.cell 1))
      all_goals
        clear hmi hwr c1 c1d c1e GSL1
        by_cases he : r5.2 = 0
        case neg =>
          have e1 : (r5.2 != 0) = true := by rw [bne_iff_ne]; exact he
          have hbad : Hid (ReadsP s F 0 n ([], r5.2)) := Lib.hid (reads_bad HOK.out hr5 he (by omega))
          have hso : Hid (sumOf ([], r5.2) = zeros32) := Lib.hid (by unfold sumOf; rw [if_neg he])
          have r6 : Arr w5 w.heap.size 48 .u8 (List.replicate 32 0) := G5.r
          have b6 := G5.b
          clear he hr5 o5 G5 Gd hb5
          obtain ⟨E, hE⟩ : ∃ E, r5.2 = E := ⟨_, rfl⟩
          rw [hE] at e1 hbad hso
          try rw [hE]
          clear hE hzz
          generalize zeros32 = ys at *
          go_wp2_with (first
            | (refine wpList_build_zeros rfl _ _ rfl (arrV .u8 ys) (fun W => by simpa using hBz.out W) ?_)
            | (have _t := r6; refine wpList_store_arr rfl _ _ _ rfl (ys := ys) r6 rfl rfl (by rw [Hz.out]; rfl) (by rw [Hz.out]; kernel_rfl) ?_; clear _t; intro w9 r9 g9))
          refine bodyPost_ret (v := .tuple #[arrV .u8 ys, .int .i64 E]) (results_row_tmp rfl _ _ w.heap.size 48 _ (0, 0) _ rfl r9 _ rfl Tryd.underlying48 rfl (by rw [show (ys.map (Value.int .u8)).toArray.size = 32 by simp [Hz.out]]; kernel_rfl)) rfl ⟨_, hbad.out, by rw [hso.out], ?_⟩
          exact b6.trans (below_of_grown g9 b6.size fun b hb => by injection hb with hb; omega)
        case pos =>
          obtain ⟨hr6, hok6, hrow⟩ := reads_good HOK.out hr5 he
          have e1 : (r5.2 != 0) = false := by simp [he]
          have hoc5 : Octets r5.1 := by
            rw [hr6]
            exact rowP_octets hwh (fun j hj => by have := hok6 (t + j) (by omega); rwa [Nat.zero_add] at this)
          have hl5 : r5.1.length = m := by rw [hr6]; exact rowP_length _ _ _ _
          have hlt0 := rowP_length s F 0 t
          have hoc0 := rowP_octets hwh HOK.out
          obtain ⟨A5, c5, rfl, k1, k2, k3⟩ := o5.opened
          have hfar : Sha.Far (w.heap.size + 1) A5 r5.1 := by
            intro hx a ha
            obtain ⟨g, cap, hv, hge, hlt5, _⟩ := o5.form hx
            injection hv with hv _ _
            rw [hv] at ha
            injection ha with ha
            subst ha
            show g ≠ w.heap.size + 1
            have := Gd.h.lt
            omega
          have GW1 := Lib.hid (GWR.out w5 _ A5 r5.1 c5 G5.h (by omega) hoc0 k1 k2 hoc5 k3 hfar (HLS.out w5 G5.b))
          rw [← hrow] at GW1
          have HN6 : Hid (∀ w6, TurnsIn (· = w.heap.size + 1) w5 w6 → HashIs w6 (w.heap.size + 1) (rowP s F 0 (t + m)) → SGo w w6 I x a mk mw p0 p1 p2 S b sl s F (t + m)) := Lib.hid (fun w6 t6 h6 => by
            obtain ⟨rr, hB, _, _⟩ := G5.h.ex
            have ne : ∀ {g : Nat} {ty : TypeId} {cs : Array Value}, Block w5 g ty cs → ty ≠ 154 → g ≠ w.heap.size + 1 := by
              intro g ty cs hg hne e
              rw [e] at hg
              unfold Sha.HB Block at hB
              unfold Block at hg
              rw [hB] at hg
              injection hg with hg
              injection hg with _ hg _
              exact hne hg.symm
            refine ⟨G5.d.beside hB (by decide) (by decide) t6, ⟨Block.out G5.i.x t6 (ne G5.i.x (by decide)), Block.out G5.i.p0 t6 (ne G5.i.p0 (by decide)), Block.out G5.i.p1 t6 (ne G5.i.p1 (by decide)), Block.out G5.i.p2 t6 (ne G5.i.p2 (by decide))⟩, G5.b.trans (t6.toBelow G5.b.size fun b hb he => by omega), Block.out G5.r t6 (by omega), h6, hok6⟩)
          clear he hr5 o5 hr6 hok6 hrow hoc5 hl5 hlt0 hoc0 hfar k1 k2 k3 Gd hb5
          have c6 : ∀ w6, SGo w w6 I x a mk mw p0 p1 p2 S b sl s F (t + m) → w6.cell? ⟨x, 1, none⟩ = some (.int .i64 b) := fun w6 h => h.i.x.cell 1
          have C6 := Lib.hid c6
          clear c6 G5
          go_wp2_with (go_at_call 67; (with_reducible refine GW1.out.mono ?_); rintro e w6 ⟨rfl, h6, t6⟩; have G6 := HN6.out w6 t6 h6; have c6 := C6.out w6 G6)
          go_roundw
          case rel => exact ⟨j + 1, by rw [HJT.out]; omega, by rw [HJT.out]; go_num, by rw [HJT.out, HNX.out]; exact G6⟩
          case measure => simp [intOf] <;> omega
end Go.Proofs.YtpnodocjpedcmaaDoor.Im
