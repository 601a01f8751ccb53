/-
  MerkleWays: the walk: the way of any leaf, or the error, is the document's, and leads to the root.
-/
import Derived.Test.YtdfgdchmeikigaaDoorMkN
import Derived.Test.YtdfgdchmeikigaaDoorMkV
namespace Go.Proofs.YtdfgdchmeikigaaDoor.MerkleWays
open Go.ChangeShapes Go.WideShapes Go.ChangeAt Go.RowKit Go.Proofs.YtdfgdchmeikigaaDoor.Kit Go.Proofs.YtdfgdchmeikigaaDoor.Sha Go.Proofs.YtdfgdchmeikigaaDoor.Mk

set_option maxRecDepth 100000 in
set_option maxHeartbeats 6400000 in
theorem walk (B : Option Addr) (l : List (List Int)) (d : Nat) (z : Int) (w : World) (hd : l.length ≤ d) (hn : d ≤ maxLen) (hs : HoldsD w w.heap.size B l) (hz : (Lit.int .i64 z).wf = true) (hL : LaidS w) :
    Calls Tryd.prog 8 #[.slice B l.length d, .int .i64 z] w fun e w' => e = .returned (.bool true) ∧ Below w.heap.size w w' := by
  have hzb := bounds_i64 hz
  by_cases h4 : (100 : Int) < l.length
  · have hd2 : decide ((100 : Int) < (l.length : Int)) = true := decide_eq_true h4
    unfold maxLen at hn
    go_enter Tryd.func8, Tryd.ntmps8
    go_wp2_with (go_at_call 25; refine (awake_any _ hL).mono ?_; rintro e w1 ⟨rfl, hb1⟩)
    go_ret
    exact ⟨rfl, hb1⟩
  have hd2 : decide ((100 : Int) < (l.length : Int)) = false := decide_eq_false h4
  have hall := hs.all
  have g1 := Lib.hid (fun W (hb : Below w.heap.size w W) => digests_any B l d W hd hn (hs.on hb) (by omega))
  by_cases hi : z < 0 ∨ (l.length : Int) ≤ z
  · have g2 := Lib.hid (fun W A' c' (h1 : l.length ≤ c') (h2 : c' ≤ maxLen) => way_out A' l c' z W h1 h2 hi)
    have g6 := Lib.hid (fun W => steps_any z l.length W (by omega))
    rw [show stepsZ z l.length = -1 by unfold stepsZ; rw [if_pos hi]] at g6
    have ht : ∃ t1 t2 : Bool, decide (z < 0) = t1 ∧ decide ((l.length : Int) ≤ z) = t2 ∧ (t1 = true ∨ t2 = true) := ⟨_, _, rfl, rfl, by simp only [decide_eq_true_eq]; exact hi⟩
    obtain ⟨t1, t2, dt1, dt2, ht⟩ := ht
    clear hi hz hs
    unfold maxLen at hn
    cases t1 <;> cases t2
    case false.false => simp at ht
    all_goals
      clear ht
      go_enter Tryd.func8, Tryd.ntmps8
      go_wp2_with fail
      refine (g1.out _ (Below.refl _ _)).mono ?_
      rintro e w3 ⟨v3, rfl, own3, hb3⟩
      obtain ⟨A3, c3, rfl, k3, m3, hr3⟩ := own3.opened
      clear own3 hr3
      go_wp2_with (first
        | (go_at_call 33; refine (g2.out _ _ _ k3 m3).mono ?_; rintro e w4 ⟨rfl, rfl⟩)
        | (go_at_call 34; refine (g6.out _).mono ?_; rintro e w5 ⟨rfl, rfl⟩)
        | (go_at_call 25; refine (awake_any _ (hL.below hb3)).mono ?_; rintro e w6 ⟨rfl, hb6⟩))
      go_ret
      exact ⟨rfl, hb3.trans (hb6.mono hb3.size)⟩
  · obtain ⟨i, rfl⟩ := Int.eq_ofNat_of_zero_le (show 0 ≤ z by omega)
    have hil : i < l.length := by omega
    have dt1 : decide ((i : Int) < 0) = false := decide_eq_false (by omega)
    have dt2 : decide (l.length ≤ i) = false := decide_eq_false (by omega)
    have g2 := Lib.hid (fun W A' c' (hb : Below w.heap.size w W) (h1 : l.length ≤ c') (h2 : c' ≤ maxLen) (h : HoldsD W W.heap.size A' l) => way_in A' l c' i W h1 h2 h (by omega) hil (hL.below hb))
    have hwl := wayL_len l.length l i rfl
    have hwb := stepsN_lt l.length i
    have g6 := Lib.hid (fun W => steps_any i l.length W (by omega))
    rw [show stepsZ i l.length = stepsN i l.length by unfold stepsZ; rw [if_neg (by omega), Int.toNat_natCast, Int.toNat_natCast], ← hwl] at g6
    obtain ⟨b, off, rfl, hbl, hq0, hq⟩ := hs.at_ hil
    have g3 := Lib.hid (fun W A' c' (hb : Below w.heap.size w W) (h1 : (wayL l i).length ≤ c') (h2 : c' ≤ maxLen) (h : HoldsD W W.heap.size A' (wayL l i)) => lead_in A' (wayL l i) c' i l.length l[i] W h1 h2 h hq hil (by omega) hwl (hL.below hb))
    rw [lead_way l.length l i rfl hil (by omega)] at g3
    have g4 := Lib.hid (fun W A' c' (hb : Below w.heap.size w W) (h1 : l.length ≤ c') (h2 : c' ≤ maxLen) (h : HoldsD W W.heap.size A' l) => root_any l.length A' l c' W rfl h1 h2 h (hL.below hb))
    have g5 := Lib.hid (fun W (hb : Below w.heap.size w W) => rway_any l.length (some ⟨b, off, none⟩) l d i W rfl hd hn (hs.on hb) (by omega) hil)
    have hq2 : D32 (rootL l) := rootL_d32 hall (by omega)
    have e2 := fun W => dig_eq (rootL l) hq2 W
    have f2 := fun W x y => dig_guard (rootL l) x y W
    have hu2 := Lib.hid hq2.1
    generalize rootL l = u2 at *
    have e3 : ∀ W, (binOp .eql 26 (.agg (dcells u2).toArray) (arrV .u8 u2)).run Tryd.prog W = .ok (.bool true) W := e2
    have f3 : ∀ W x y, (eqGuard .eql 26 x y (.agg (dcells u2).toArray) (arrV .u8 u2)).run Tryd.prog W = .ok () W := f2
    have hrg := Lib.hid (fun W (hB : Below w.heap.size w W) => (show W.rangeAt b (off + i * 32) (dcells l[i]) from fun j v hj => (hB.cell (p := ⟨b, off + i * 32 + j, none⟩) hbl).trans (hq0 j v hj)))
    have hql := Lib.hid hq.1
    generalize l[i] = x0 at *
    have ii : (i : Int) < (l.length : Int) := by omega
    have hwn : (wayL l i).length ≤ 1000000 := by omega
    have n1 : (((wayL l i).length : Int) == ((wayL l i).length : Int)) = true := by simp
    clear hs hall hwl hwb hq0 hq hi hz
    unfold maxLen at hn
    go_enter Tryd.func8, Tryd.ntmps8
    go_wp2_with fail
    refine (g1.out _ (Below.refl _ _)).mono ?_
    rintro e w3 ⟨v3, rfl, own3, hb3⟩
    obtain ⟨A3, c3, rfl, k3, m3, hr3⟩ := own3.opened
    clear own3
    go_wp2_with fail
    refine (g2.out _ _ _ hb3 k3 m3 hr3).mono ?_
    rintro e w4 ⟨v4, rfl, own4, hb4⟩
    have B4 := hb3.trans (hb4.mono hb3.size)
    obtain ⟨A5, c5, rfl, p5, m5, h5⟩ := own4.opened
    have rg4 := hrg.out _ B4
    clear own4 hr3
    go_wp2_with (refine wpList_load_mid rfl _ _ rfl b (off + i * 32) rfl (dcells x0) _ rg4 arr32A rfl (by unfold dcells; rw [List.length_map, hql.out]; kernel_rfl) ?_)
    refine (g3.out _ _ _ B4 p5 m5 h5).mono ?_
    rintro e w5 ⟨rfl, hb5⟩
    have B5 := B4.trans (hb5.mono B4.size)
    have h55 := h5.on hb5
    have z1 : Arr (w5.alloc (.cells ((List.replicate 32 (0 : Int)).map (Value.int .u8)).toArray 26)) w5.heap.size 26 .u8 (List.replicate 32 0) := Arr.new w5 _ _ _
    have hzd : ∀ W, (zeroValue 26).run Tryd.prog W = .ok (.agg #[.int .u8 0, .int .u8 0, .int .u8 0, .int .u8 0, .int .u8 0, .int .u8 0, .int .u8 0, .int .u8 0, .int .u8 0, .int .u8 0, .int .u8 0, .int .u8 0, .int .u8 0, .int .u8 0, .int .u8 0, .int .u8 0, .int .u8 0, .int .u8 0, .int .u8 0, .int .u8 0, .int .u8 0, .int .u8 0, .int .u8 0, .int .u8 0, .int .u8 0, .int .u8 0, .int .u8 0, .int .u8 0, .int .u8 0, .int .u8 0, .int .u8 0, .int .u8 0]) W := fun _ => by kernel_rfl
    clear h5 hb5 B4 rg4
    go_wp2_with (have _t := z1; refine wpList_store_arr rfl _ _ _ rfl z1 rfl rfl (by rw [hu2.out]; rfl) (by rw [hu2.out]; kernel_rfl) ?_; intro w6 k6 g6'; have B6' := (B5.alloc B5.size (.cells ((List.replicate 32 (0 : Int)).map (Value.int .u8)).toArray 26)).trans (below_of_grown g6' (by have := B5.size; simp; omega) fun b hb => by injection hb with hb; have := B5.size; omega); have h56 := h55.out6 g6'; clear _t z1)
    have B6 := below_draws B6' 1
    have k6 := Arr.drewN k6 1
    have h56 := HoldsD.drewN h56 1
    clear h55 g6' B6' hzd
    generalize w5.heap.size = D5 at *
    refine wp_region_any (by kernel_rfl) ?_
    change wpAny _ _ _ _ _ _ _ (World.drew _)
    refine wpAny_take (i := 0) (v := .int .i64 0) rfl (by kernel_rfl) (by kernel_rfl) (by kernel_rfl) (fun _ _ _ h => h) (Or.inl ⟨by rfl, fun W => by go_simp⟩) ?_
    refine wpAny_take (i := 1) (v := .bool true) rfl (by kernel_rfl) (by kernel_rfl) (by kernel_rfl) (fun _ _ _ h => h) (Or.inl ⟨by rfl, fun W => by go_simp⟩) ?_
    refine wpAny_take (i := 2) (v := .bool true) rfl (by kernel_rfl) (by kernel_rfl) (by kernel_rfl) (fun _ _ _ h => h) (Or.inl ⟨by rfl, fun W => by go_simp⟩) ?_
    go_simp
    refine wpAny_take (i := 3) (v := .slice A5 (wayL l i).length c5) rfl (by kernel_rfl) (by kernel_rfl) (by kernel_rfl) (fun _ _ _ h => h) (Or.inl ⟨by rfl, fun W => by go_simp⟩) ?_
    refine wpAny_take (i := 4) (v := .slice (some ⟨b, off, none⟩) l.length d) rfl (by kernel_rfl) (by kernel_rfl) (by kernel_rfl) (fun _ _ _ h => h) (Or.inl ⟨by rfl, fun W => by go_simp⟩) ?_
    refine wpAny_take (i := 5) (v := .int .i64 i) rfl (by kernel_rfl) (by kernel_rfl) (by kernel_rfl) (fun _ _ _ h => h) (Or.inl ⟨by rfl, fun W => by go_simp⟩) ?_
    go_simp
    refine wpAny_ready (rs := [6]) (by kernel_rfl) (by simp) ?_
    refine AllReady.cons rfl (fun K hK => ?_) AllReady.nil
    go_simp
    go_at_call 37
    refine (g5.out _ B6).mono ?_
    rintro e w7 ⟨v7, rfl, own7, hb7⟩
    have B7 := B6.trans (hb7.mono B6.size)
    obtain ⟨A7, c7, rfl, p7, m7, hr7⟩ := own7.opened
    have k7 := Block.below k6 hb7 (Block.lt k6)
    have h57 := h56.on hb7
    clear own7 h56
    refine hK _ _ ?_
    clear hK K
    refine wpAny_ready (rs := [7]) (by kernel_rfl) (by simp) ?_
    refine AllReady.cons rfl (fun K hK => ?_) AllReady.nil
    go_simp
    go_at_call 36
    refine (same_yes _ _ (wayL l i) _ _ _ p5 m5 h57 p7 m7 hr7).mono ?_
    rintro e w8 ⟨rfl, hb8⟩
    have B8 := B7.trans (hb8.mono B7.size)
    have k8 := Block.below k7 hb8 (Block.lt k7)
    refine hK _ _ ?_
    clear hK K
    refine wpAny_take (i := 8) (v := .bool true) rfl (by kernel_rfl) (by kernel_rfl) (by kernel_rfl) (fun _ _ _ h => h) (Or.inl ⟨by rfl, fun W => by go_simp⟩) ?_
    refine wpAny_take (i := 9) (v := .bool true) rfl (by kernel_rfl) (by kernel_rfl) (by kernel_rfl) (fun _ _ _ h => h) (Or.inl ⟨by rfl, fun W => by go_simp⟩) ?_
    refine wpAny_take (i := 10) (v := .int .i64 i) rfl (by kernel_rfl) (by kernel_rfl) (by kernel_rfl) (fun _ _ _ h => h) (Or.inl ⟨by rfl, fun W => by go_simp⟩) ?_
    go_simp
    refine wpAny_take (i := 11) (v := .slice (some ⟨b, off, none⟩) l.length d) rfl (by kernel_rfl) (by kernel_rfl) (by kernel_rfl) (fun _ _ _ h => h) (Or.inl ⟨by rfl, fun W => by go_simp⟩) ?_
    refine wpAny_take (i := 12) (v := .int .i64 l.length) rfl (by kernel_rfl) (by kernel_rfl) (by kernel_rfl) (fun _ _ _ h => h) (Or.inl ⟨by rfl, fun W => by go_simp⟩) ?_
    refine wpAny_take (i := 14) (v := .slice A5 (wayL l i).length c5) rfl (by kernel_rfl) (by kernel_rfl) (by kernel_rfl) (fun _ _ _ h => h) (Or.inl ⟨by rfl, fun W => by go_simp⟩) ?_
    go_simp
    refine wpAny_take (i := 15) (v := .int .i64 (wayL l i).length) rfl (by kernel_rfl) (by kernel_rfl) (by kernel_rfl) (fun _ _ _ h => h) (Or.inl ⟨by rfl, fun W => by go_simp⟩) ?_
    refine wpAny_ready (rs := [13]) (by kernel_rfl) (by simp) ?_
    refine AllReady.cons rfl (fun K hK => ?_) AllReady.nil
    go_simp
    go_at_call 34
    refine (g6.out _).mono ?_
    rintro e w9 ⟨rfl, rfl⟩
    have B9 := B8
    have k9 := k8
    refine hK _ _ ?_
    clear hK K
    refine wpAny_take (i := 16) (v := .bool true) rfl (by kernel_rfl) (by kernel_rfl) (by kernel_rfl) (fun _ _ _ h => h) (Or.inl ⟨by rfl, fun W => by go_simp⟩) ?_
    refine wpAny_take (i := 17) (v := .bool true) rfl (by kernel_rfl) (by kernel_rfl) (by kernel_rfl) (fun _ _ _ h => h) (Or.inl ⟨by rfl, fun W => by go_simp⟩) ?_
    refine wpAny_take (i := 18) (v := .bool true) rfl (by kernel_rfl) (by kernel_rfl) (by kernel_rfl) (fun _ _ _ h => h) (Or.inl ⟨by rfl, fun W => by go_simp⟩) ?_
    go_simp
    refine wpAny_take (i := 19) (v := .int .i64 0) rfl (by kernel_rfl) (by kernel_rfl) (by kernel_rfl) (fun _ _ _ h => h) (Or.inl ⟨by rfl, fun W => by go_simp⟩) ?_
    refine wpAny_take (i := 20) (v := .bool true) rfl (by kernel_rfl) (by kernel_rfl) (by kernel_rfl) (fun _ _ _ h => h) (Or.inl ⟨by rfl, fun W => by go_simp⟩) ?_
    refine wpAny_take (i := 21) (v := .bool true) rfl (by kernel_rfl) (by kernel_rfl) (by kernel_rfl) (fun _ _ _ h => h) (Or.inl ⟨by rfl, fun W => by go_simp⟩) ?_
    go_simp
    refine wpAny_take (i := 22) (v := .bool true) rfl (by kernel_rfl) (by kernel_rfl) (by kernel_rfl) (fun _ _ _ h => h) (Or.inl ⟨by rfl, fun W => by go_simp⟩) ?_
    refine wpAny_take (i := 24) (v := .slice (some ⟨b, off, none⟩) l.length d) rfl (by kernel_rfl) (by kernel_rfl) (by kernel_rfl) (fun _ _ _ h => h) (Or.inl ⟨by rfl, fun W => by go_simp⟩) ?_
    go_simp
    refine wpAny_ready (rs := [23, 25]) (by kernel_rfl) (by simp) ?_
    refine AllReady.cons rfl (fun K hK => ?_) (AllReady.cons rfl (fun K hK => ?_) AllReady.nil)
    · refine step_load_row (by rfl) _ _ rfl D5 0 (dcells u2) rfl (Arr.range k9) arr32D rfl (by unfold dcells; rw [List.length_map, hu2.out]; kernel_rfl) ?_
      go_simp
      refine hK _ _ ?_
      clear hK K
      refine wpAny_ready (rs := [25]) (by kernel_rfl) (by simp) ?_
      refine AllReady.cons rfl (fun K hK => ?_) AllReady.nil
      go_simp
      go_at_call 29
      refine (g1.out _ B9).mono ?_
      rintro e w10 ⟨v10, rfl, own10, hb10⟩
      have B10 := B9.trans (hb10.mono B9.size)
      have k10 := Block.below k9 hb10 (Block.lt k9)
      obtain ⟨A10, c10, rfl, p10, m10, hr10⟩ := own10.opened
      clear own10
      refine hK _ _ ?_
      clear hK K
      refine wpAny_ready (rs := [26]) (by kernel_rfl) (by simp) ?_
      refine AllReady.cons rfl (fun K hK => ?_) AllReady.nil
      go_simp
      go_at_call 28
      refine (g4.out _ _ _ B10 p10 m10 hr10).mono ?_
      rintro e w11 ⟨rfl, hb11⟩
      have B11 := B10.trans (hb11.mono B10.size)
      have k11 := Block.below k10 hb11 (Block.lt k10)
      refine hK _ _ ?_
      clear hK K
      refine wpAny_take (i := 27) (v := .bool true) rfl (by kernel_rfl) (by kernel_rfl) (by kernel_rfl) (fun _ _ _ h => h) (Or.inl ⟨by rfl, fun W => by go_simp⟩) ?_
      refine wpAny_take (i := 28) (v := .bool true) rfl (by kernel_rfl) (by kernel_rfl) (by kernel_rfl) (fun _ _ _ h => h) (Or.inl ⟨by rfl, fun W => by go_simp⟩) ?_
      refine wpAny_take (i := 29) (v := .bool true) rfl (by kernel_rfl) (by kernel_rfl) (by kernel_rfl) (fun _ _ _ h => h) (Or.inl ⟨by rfl, fun W => by go_simp⟩) ?_
      go_simp
      refine wpAny_ready (rs := [30]) (by kernel_rfl) (by simp) ?_
      refine AllReady.cons rfl (fun K hK => ?_) AllReady.nil
      go_simp
      go_at_call 25
      refine (awake_any _ (hL.below B11)).mono ?_
      rintro e w12 ⟨rfl, hb12⟩
      have B12 := B11.trans (hb12.mono B11.size)
      refine hK _ _ ?_
      clear hK K
      refine wpAny_take (i := 31) (v := .bool true) rfl (by kernel_rfl) (by kernel_rfl) (by kernel_rfl) (fun _ _ _ h => h) (Or.inl ⟨by rfl, fun W => by go_simp⟩) ?_
      refine wpAny_ready (rs := [32]) (by kernel_rfl) (by simp) ?_
      refine AllReady.cons rfl (fun K hK => ?_) AllReady.nil
      go_simp
      refine hK _ _ ?_
      clear hK K
      refine wpAny_done (by kernel_rfl) ?_ _
      go_wp2_with fail
      go_ret
      exact ⟨rfl, B12⟩
    · go_simp
      go_at_call 29
      refine (g1.out _ B9).mono ?_
      rintro e w10 ⟨v10, rfl, own10, hb10⟩
      have B10 := B9.trans (hb10.mono B9.size)
      have k10 := Block.below k9 hb10 (Block.lt k9)
      obtain ⟨A10, c10, rfl, p10, m10, hr10⟩ := own10.opened
      clear own10
      refine hK _ _ ?_
      clear hK K
      refine wpAny_ready (rs := [23, 26]) (by kernel_rfl) (by simp) ?_
      refine AllReady.cons rfl (fun K hK => ?_) (AllReady.cons rfl (fun K hK => ?_) AllReady.nil)
      · refine step_load_row (by rfl) _ _ rfl D5 0 (dcells u2) rfl (Arr.range k10) arr32D rfl (by unfold dcells; rw [List.length_map, hu2.out]; kernel_rfl) ?_
        go_simp
        refine hK _ _ ?_
        clear hK K
        refine wpAny_ready (rs := [26]) (by kernel_rfl) (by simp) ?_
        refine AllReady.cons rfl (fun K hK => ?_) AllReady.nil
        go_simp
        go_at_call 28
        refine (g4.out _ _ _ B10 p10 m10 hr10).mono ?_
        rintro e w11 ⟨rfl, hb11⟩
        have B11 := B10.trans (hb11.mono B10.size)
        have k11 := Block.below k10 hb11 (Block.lt k10)
        refine hK _ _ ?_
        clear hK K
        refine wpAny_take (i := 27) (v := .bool true) rfl (by kernel_rfl) (by kernel_rfl) (by kernel_rfl) (fun _ _ _ h => h) (Or.inl ⟨by rfl, fun W => by go_simp⟩) ?_
        refine wpAny_take (i := 28) (v := .bool true) rfl (by kernel_rfl) (by kernel_rfl) (by kernel_rfl) (fun _ _ _ h => h) (Or.inl ⟨by rfl, fun W => by go_simp⟩) ?_
        refine wpAny_take (i := 29) (v := .bool true) rfl (by kernel_rfl) (by kernel_rfl) (by kernel_rfl) (fun _ _ _ h => h) (Or.inl ⟨by rfl, fun W => by go_simp⟩) ?_
        go_simp
        refine wpAny_ready (rs := [30]) (by kernel_rfl) (by simp) ?_
        refine AllReady.cons rfl (fun K hK => ?_) AllReady.nil
        go_simp
        go_at_call 25
        refine (awake_any _ (hL.below B11)).mono ?_
        rintro e w12 ⟨rfl, hb12⟩
        have B12 := B11.trans (hb12.mono B11.size)
        refine hK _ _ ?_
        clear hK K
        refine wpAny_take (i := 31) (v := .bool true) rfl (by kernel_rfl) (by kernel_rfl) (by kernel_rfl) (fun _ _ _ h => h) (Or.inl ⟨by rfl, fun W => by go_simp⟩) ?_
        refine wpAny_ready (rs := [32]) (by kernel_rfl) (by simp) ?_
        refine AllReady.cons rfl (fun K hK => ?_) AllReady.nil
        go_simp
        refine hK _ _ ?_
        clear hK K
        refine wpAny_done (by kernel_rfl) ?_ _
        go_wp2_with fail
        go_ret
        exact ⟨rfl, B12⟩
      · go_simp
        go_at_call 28
        refine (g4.out _ _ _ B10 p10 m10 hr10).mono ?_
        rintro e w11 ⟨rfl, hb11⟩
        have B11 := B10.trans (hb11.mono B10.size)
        have k11 := Block.below k10 hb11 (Block.lt k10)
        refine hK _ _ ?_
        clear hK K
        refine wpAny_ready (rs := [23]) (by kernel_rfl) (by simp) ?_
        refine AllReady.cons rfl (fun K hK => ?_) AllReady.nil
        refine step_load_row (by rfl) _ _ rfl D5 0 (dcells u2) rfl (Arr.range k11) arr32D rfl (by unfold dcells; rw [List.length_map, hu2.out]; kernel_rfl) ?_
        go_simp
        refine hK _ _ ?_
        clear hK K
        refine wpAny_take (i := 27) (v := .bool true) rfl (by kernel_rfl) (by kernel_rfl) (by kernel_rfl) (fun _ _ _ h => h) (Or.inl ⟨by rfl, fun W => by go_simp⟩) ?_
        refine wpAny_take (i := 28) (v := .bool true) rfl (by kernel_rfl) (by kernel_rfl) (by kernel_rfl) (fun _ _ _ h => h) (Or.inl ⟨by rfl, fun W => by go_simp⟩) ?_
        refine wpAny_take (i := 29) (v := .bool true) rfl (by kernel_rfl) (by kernel_rfl) (by kernel_rfl) (fun _ _ _ h => h) (Or.inl ⟨by rfl, fun W => by go_simp⟩) ?_
        go_simp
        refine wpAny_ready (rs := [30]) (by kernel_rfl) (by simp) ?_
        refine AllReady.cons rfl (fun K hK => ?_) AllReady.nil
        go_simp
        go_at_call 25
        refine (awake_any _ (hL.below B11)).mono ?_
        rintro e w12 ⟨rfl, hb12⟩
        have B12 := B11.trans (hb12.mono B11.size)
        refine hK _ _ ?_
        clear hK K
        refine wpAny_take (i := 31) (v := .bool true) rfl (by kernel_rfl) (by kernel_rfl) (by kernel_rfl) (fun _ _ _ h => h) (Or.inl ⟨by rfl, fun W => by go_simp⟩) ?_
        refine wpAny_ready (rs := [32]) (by kernel_rfl) (by simp) ?_
        refine AllReady.cons rfl (fun K hK => ?_) AllReady.nil
        go_simp
        refine hK _ _ ?_
        clear hK K
        refine wpAny_done (by kernel_rfl) ?_ _
        go_wp2_with fail
        go_ret
        exact ⟨rfl, B12⟩
end Go.Proofs.YtdfgdchmeikigaaDoor.MerkleWays
