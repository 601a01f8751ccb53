/-
  Layer 21, merkle: the root that a way leads to: contracts. Conditions: as each theorem names.
-/
import Derived.Test.YtdfgdchmeikigaaDoorMkG
import Derived.Test.YtdfgdchmeikigaaDoorMkH
import Derived.IntWalk
namespace Go.Proofs.YtdfgdchmeikigaaDoor.Mk
open Go.ChangeShapes Go.WideShapes Go.ChangeAt Go.RowKit Go.Proofs.YtdfgdchmeikigaaDoor.Kit Go.Proofs.YtdfgdchmeikigaaDoor.Sha

/-- The root that a way leads to, the way's last sum first. -/
def leadR (x : List Int) (i n : Nat) : List (List Int) → List Int
  | [] => x
  | q :: r => if 2 ≤ n then (if i < halfN n then pairL (leadR x i (halfN n) r) q else pairL q (leadR x (i - halfN n) (n - halfN n) r)) else x
def leadL (x : List Int) (i n : Nat) (ws : List (List Int)) : List Int := leadR x i n ws.reverse
theorem leadL_one {x : List Int} {i n : Nat} {ws : List (List Int)} (h : n < 2) : leadL x i n ws = x := by
  unfold leadL
  cases ws.reverse with
  | nil => rfl
  | cons q r => rw [leadR, if_neg (by omega)]
theorem leadL_lo {x : List Int} {i n : Nat} {r : List (List Int)} {q : List Int} (h : 2 ≤ n) (_hn : n < 18446744073709551616) (hi : i < halfN n) : leadL x i n (r ++ [q]) = pairL (leadL x i (halfN n) r) q := by
  unfold leadL
  rw [List.reverse_append]
  show leadR x i n (q :: r.reverse) = _
  rw [leadR, if_pos h, if_pos hi]
theorem leadL_hi {x : List Int} {i n : Nat} {r : List (List Int)} {q : List Int} (h : 2 ≤ n) (_hn : n < 18446744073709551616) (hi : ¬ i < halfN n) : leadL x i n (r ++ [q]) = pairL q (leadL x (i - halfN n) (n - halfN n) r) := by
  unfold leadL
  rw [List.reverse_append]
  show leadR x i n (q :: r.reverse) = _
  rw [leadR, if_pos h, if_neg hi]
theorem leadR_d32 : ∀ (n i : Nat) (x : List Int) (ws : List (List Int)), D32 x → D32 (leadR x i n ws)
  | n, i, x, [], hx => hx
  | n, i, x, q :: r, hx => by
    rw [leadR]
    split
    · split <;> exact pairL_d32 _ _
    · exact hx
theorem leadL_d32 (n i : Nat) (x : List Int) (ws : List (List Int)) (hx : D32 x) (_h : ∀ d ∈ ws, D32 d) : D32 (leadL x i n ws) := leadR_d32 n i x _ hx

set_option maxRecDepth 100000 in
set_option maxHeartbeats 3200000 in
theorem lead_any (n : Nat) : ∀ (A : Option Addr) (ws : List (List Int)) (c i : Nat) (x : List Int) (w : World), n ≤ 9223372036854775807 → ws.length = stepsN i n → ws.length ≤ c → c ≤ maxLen → HoldsD w w.heap.size A ws → D32 x → i < n → LaidS w →
    Calls Tryd.prog 74 #[.agg (x.map (Value.int .u8)).toArray, .int .i64 i, .int .i64 n, .slice A ws.length c] w (Sums (leadL x i n ws) w) := by
  induction n using Nat.strongRecOn with
  | ind n ih =>
    intro A ws c i x w hn hws hc hm hr hx hi hL
    unfold maxLen at hm
    have hxl := Lib.hid hx.1
    have aX : ∀ o, Arr ((w.alloc (.cells (x.map (Value.int .u8)).toArray 26)).alloc o) w.heap.size 26 .u8 x := fun o => (Arr.new w _ .u8 x).alloc o
    have aR : ∀ o, Arr ((w.alloc o).alloc (.cells ((List.replicate 32 (0 : Int)).map (Value.int .u8)).toArray 26)) (w.heap.size + 1) 26 .u8 (List.replicate 32 0) := fun o => by
      have := Arr.new (w.alloc o) 26 .u8 (List.replicate 32 0)
      rwa [show (w.alloc o).heap.size = w.heap.size + 1 by simp] at this
    by_cases h2 : 2 ≤ n
    · obtain ⟨_, k1, k2, k3⟩ := half_bd h2 (by omega)
      have GS := Lib.hid (fun W => split_any n W h2 hn)
      have d2 : decide ((n : Int) = 1) = false := decide_eq_false (by omega)
      have hB0 : ∀ o p, Below w.heap.size w ((w.alloc o).alloc p).drew := fun o p => below_draws (below_two' o p) 1
      have hpos : 0 < ws.length := by
        rw [hws]
        by_cases hlt : i < halfN n
        · rw [stepsN_lo h2 (by omega) hlt]; omega
        · rw [stepsN_hi h2 (by omega) hlt]; omega
      obtain ⟨r, q, rfl⟩ : ∃ r q, ws = r ++ [q] := ⟨ws.dropLast, ws.getLast (by intro h; rw [h] at hpos; simp at hpos), (List.dropLast_concat_getLast _).symm⟩
      obtain ⟨b, off, rfl, hb, hq0, hq⟩ := hr.at_ (i := r.length) (by simp)
      have eq : (r ++ [q])[r.length]'(by simp) = q := by simp
      rw [eq] at hq0 hq
      have hrg := fun W (hB : Below w.heap.size w W) => (show W.rangeAt b (off + r.length * 32) (dcells q) from fun j v hj => (hB.cell (p := ⟨b, off + r.length * 32 + j, none⟩) hb).trans (hq0 j v hj))
      have Hrg := Lib.hid hrg
      have hql := Lib.hid hq.1
      have hrr : HoldsD w w.heap.size (some ⟨b, off, none⟩) r := by have := hr.head r.length; rwa [List.take_left] at this
      have hall := hr.all
      rw [List.length_append, List.length_singleton] at hws hc ⊢
      clear eq hrg hq0 hr hpos
      by_cases hlt : i < halfN n
      · have hrl : r.length = stepsN i (halfN n) := by rw [stepsN_lo h2 (by omega) hlt] at hws; omega
        have G1 := Lib.hid (fun W (hB : Below w.heap.size w W) => ih (halfN n) (by omega) (some ⟨b, off, none⟩) r c i x W (by omega) hrl (by omega) (by unfold maxLen; omega) (hrr.on hB) hx hlt (hL.below hB))
        have hd1 := leadL_d32 (halfN n) i x r hx (fun d hd => hall d (by simp [hd]))
        have G2 := Lib.hid (fun W (hB : Below w.heap.size w W) => pair_any (leadL x i (halfN n) r) q W hd1 hq (hL.below hB))
        have hsl := Lib.hid (pairL_d32 (leadL x i (halfN n) r) q).1
        rw [leadL_lo h2 (by omega) hlt]
        generalize pairL (leadL x i (halfN n) r) q = ys at *
        generalize leadL x i (halfN n) r = u at *
        generalize halfN n = k at *
        clear ih hws hrl hall hrr hx hq hd1
        have dl : decide ((i : Int) < k) = true := decide_eq_true (by omega)
        have q1 : (0 : Int) ≤ (r.length : Int) := by omega
        have ix : (r.length : Int) < (r.length : Int) + 1 := by omega
        have kl : r.length ≤ c := by omega
        have kx : r.length < r.length + 1 := by omega
        go_enter Tryd.func74, Tryd.ntmps74
        go_wp2_with (go_at_call 70; refine (GS.out _).mono ?_; rintro e w1 ⟨rfl, rfl⟩)
        have B0 := hB0 (.cells (x.map (Value.int .u8)).toArray 26) (.cells ((List.replicate 32 (0 : Int)).map (Value.int .u8)).toArray 26)
        have x0 := Arr.drewN (aX (.cells ((List.replicate 32 (0 : Int)).map (Value.int .u8)).toArray 26)) 1
        have r0 := Arr.drewN (aR (.cells (x.map (Value.int .u8)).toArray 26)) 1
        refine wp_region_any (by kernel_rfl) ?_
        change wpAny _ _ _ _ _ _ _ (World.drew _)
        refine wpAny_take (i := 1) (v := .int .i64 i) rfl (by kernel_rfl) (by kernel_rfl) (by kernel_rfl) (fun _ _ _ h => h) (Or.inl ⟨by rfl, fun W => by go_simp⟩) ?_
        refine wpAny_take (i := 2) (v := .int .i64 k) rfl (by kernel_rfl) (by kernel_rfl) (by kernel_rfl) (fun _ _ _ h => h) (Or.inl ⟨by rfl, fun W => by go_simp⟩) ?_
        refine wpAny_take (i := 3) (v := .slice (some ⟨b, off, none⟩) (r.length + 1) c) rfl (by kernel_rfl) (by kernel_rfl) (by kernel_rfl) (fun _ _ _ h => h) (Or.inl ⟨by rfl, fun W => by go_simp⟩) ?_
        go_simp
        refine wpAny_take (i := 4) (v := .int .i64 r.length) rfl (by kernel_rfl) (by kernel_rfl) (by kernel_rfl) (fun _ _ _ h => h) (Or.inl ⟨by rfl, fun W => by go_simp⟩) ?_
        refine wpAny_take (i := 5) (v := .slice (some ⟨b, off, none⟩) r.length c) rfl (by kernel_rfl) (by kernel_rfl) (by kernel_rfl) (fun _ _ _ h => h) (Or.inl ⟨by rfl, fun W => by go_simp <;> first | (intro h; omega) | (rw [if_pos kl]) | (rw [if_pos kx])⟩) ?_
        go_simp
        refine wpAny_take (i := 7) (v := .slice (some ⟨b, off, none⟩) (r.length + 1) c) rfl (by kernel_rfl) (by kernel_rfl) (by kernel_rfl) (fun _ _ _ h => h) (Or.inl ⟨by rfl, fun W => by go_simp⟩) ?_
        refine wpAny_take (i := 8) (v := .int .i64 r.length) rfl (by kernel_rfl) (by kernel_rfl) (by kernel_rfl) (fun _ _ _ h => h) (Or.inl ⟨by rfl, fun W => by go_simp⟩) ?_
        refine wpAny_take (i := 9) (v := .pointer (some ⟨b, off + r.length * 32, none⟩)) rfl (by kernel_rfl) (by kernel_rfl) (by kernel_rfl) (fun _ _ _ h => h) (Or.inl ⟨by rfl, fun W => by go_simp <;> first | (intro h; omega) | (rw [if_pos kl]) | (rw [if_pos kx])⟩) ?_
        go_simp
        refine wpAny_ready (rs := [0, 10]) (by kernel_rfl) (by simp) ?_
        refine AllReady.cons rfl (fun K hK => ?_) (AllReady.cons rfl (fun K hK => ?_) AllReady.nil)
        · refine step_load_row (by rfl) _ _ rfl w.heap.size 0 (dcells x) rfl (Arr.range x0) arr32D rfl (by unfold dcells; rw [List.length_map, hxl.out]; kernel_rfl) ?_
          go_simp
          refine hK _ _ ?_
          clear hK K
          refine wpAny_ready (rs := [6, 10]) (by kernel_rfl) (by simp) ?_
          refine AllReady.cons rfl (fun K hK => ?_) (AllReady.cons rfl (fun K hK => ?_) AllReady.nil)
          · go_simp
            go_at_call 74
            refine (G1.out _ B0).mono ?_
            rintro e w2 ⟨rfl, hb2⟩
            have B2 := B0.trans (hb2.mono B0.size)
            have r2 : Arr w2 (w.heap.size + 1) 26 .u8 (List.replicate 32 0) := Block.below r0 hb2 (Block.lt r0)
            refine hK _ _ ?_
            clear hK K
            refine wpAny_ready (rs := [10]) (by kernel_rfl) (by simp) ?_
            refine AllReady.cons rfl (fun K hK => ?_) AllReady.nil
            refine step_load_row (by rfl) _ _ rfl b (off + r.length * 32) (dcells q) rfl (Hrg.out _ B2) arr32D rfl (by unfold dcells; rw [List.length_map, hql.out]; kernel_rfl) ?_
            go_simp
            refine hK _ _ ?_
            clear hK K
            refine wpAny_ready (rs := [11]) (by kernel_rfl) (by simp) ?_
            refine AllReady.cons rfl (fun K hK => ?_) AllReady.nil
            go_simp
            go_at_call 31
            refine (G2.out _ B2).mono ?_
            rintro e w3 ⟨rfl, hb3⟩
            have B3 := B2.trans (hb3.mono B2.size)
            have r3 : Arr w3 (w.heap.size + 1) 26 .u8 (List.replicate 32 0) := Block.below r2 hb3 (Block.lt r2)
            refine hK _ _ ?_
            clear hK K
            refine wpAny_ready (rs := [12]) (by kernel_rfl) (by simp) ?_
            refine AllReady.cons rfl (fun K hK => ?_) AllReady.nil
            refine step_store_arr rfl _ _ _ rfl r3 rfl rfl (by rw [hsl.out]; rfl) (by rw [hsl.out]; kernel_rfl) ?_
            intro w9 r9 g9
            refine hK _ _ ?_
            clear hK K
            refine wpAny_done (by kernel_rfl) ?_ _
            go_wp2_with fail
            refine bodyPost_ret (v := arrV .u8 ys) (results_cell_row rfl _ _ (w.heap.size + 1) 26 _ (0, 0) _ rfl r9 arr32D rfl (by rw [show (ys.map (Value.int .u8)).toArray.size = 32 by simp [hsl.out]]; kernel_rfl)) rfl ⟨rfl, ?_⟩
            exact B3.trans (below_of_grown g9 B3.size fun b hb => by injection hb with hb; omega)
          · refine step_load_row (by rfl) _ _ rfl b (off + r.length * 32) (dcells q) rfl (Hrg.out _ B0) arr32D rfl (by unfold dcells; rw [List.length_map, hql.out]; kernel_rfl) ?_
            go_simp
            refine hK _ _ ?_
            clear hK K
            refine wpAny_ready (rs := [6]) (by kernel_rfl) (by simp) ?_
            refine AllReady.cons rfl (fun K hK => ?_) AllReady.nil
            go_simp
            go_at_call 74
            refine (G1.out _ B0).mono ?_
            rintro e w2 ⟨rfl, hb2⟩
            have B2 := B0.trans (hb2.mono B0.size)
            have r2 : Arr w2 (w.heap.size + 1) 26 .u8 (List.replicate 32 0) := Block.below r0 hb2 (Block.lt r0)
            refine hK _ _ ?_
            clear hK K
            refine wpAny_ready (rs := [11]) (by kernel_rfl) (by simp) ?_
            refine AllReady.cons rfl (fun K hK => ?_) AllReady.nil
            go_simp
            go_at_call 31
            refine (G2.out _ B2).mono ?_
            rintro e w3 ⟨rfl, hb3⟩
            have B3 := B2.trans (hb3.mono B2.size)
            have r3 : Arr w3 (w.heap.size + 1) 26 .u8 (List.replicate 32 0) := Block.below r2 hb3 (Block.lt r2)
            refine hK _ _ ?_
            clear hK K
            refine wpAny_ready (rs := [12]) (by kernel_rfl) (by simp) ?_
            refine AllReady.cons rfl (fun K hK => ?_) AllReady.nil
            refine step_store_arr rfl _ _ _ rfl r3 rfl rfl (by rw [hsl.out]; rfl) (by rw [hsl.out]; kernel_rfl) ?_
            intro w9 r9 g9
            refine hK _ _ ?_
            clear hK K
            refine wpAny_done (by kernel_rfl) ?_ _
            go_wp2_with fail
            refine bodyPost_ret (v := arrV .u8 ys) (results_cell_row rfl _ _ (w.heap.size + 1) 26 _ (0, 0) _ rfl r9 arr32D rfl (by rw [show (ys.map (Value.int .u8)).toArray.size = 32 by simp [hsl.out]]; kernel_rfl)) rfl ⟨rfl, ?_⟩
            exact B3.trans (below_of_grown g9 B3.size fun b hb => by injection hb with hb; omega)
        · refine step_load_row (by rfl) _ _ rfl b (off + r.length * 32) (dcells q) rfl (Hrg.out _ B0) arr32D rfl (by unfold dcells; rw [List.length_map, hql.out]; kernel_rfl) ?_
          go_simp
          refine hK _ _ ?_
          clear hK K
          refine wpAny_ready (rs := [0]) (by kernel_rfl) (by simp) ?_
          refine AllReady.cons rfl (fun K hK => ?_) AllReady.nil
          refine step_load_row (by rfl) _ _ rfl w.heap.size 0 (dcells x) rfl (Arr.range x0) arr32D rfl (by unfold dcells; rw [List.length_map, hxl.out]; kernel_rfl) ?_
          go_simp
          refine hK _ _ ?_
          clear hK K
          refine wpAny_ready (rs := [6]) (by kernel_rfl) (by simp) ?_
          refine AllReady.cons rfl (fun K hK => ?_) AllReady.nil
          go_simp
          go_at_call 74
          refine (G1.out _ B0).mono ?_
          rintro e w2 ⟨rfl, hb2⟩
          have B2 := B0.trans (hb2.mono B0.size)
          have r2 : Arr w2 (w.heap.size + 1) 26 .u8 (List.replicate 32 0) := Block.below r0 hb2 (Block.lt r0)
          refine hK _ _ ?_
          clear hK K
          refine wpAny_ready (rs := [11]) (by kernel_rfl) (by simp) ?_
          refine AllReady.cons rfl (fun K hK => ?_) AllReady.nil
          go_simp
          go_at_call 31
          refine (G2.out _ B2).mono ?_
          rintro e w3 ⟨rfl, hb3⟩
          have B3 := B2.trans (hb3.mono B2.size)
          have r3 : Arr w3 (w.heap.size + 1) 26 .u8 (List.replicate 32 0) := Block.below r2 hb3 (Block.lt r2)
          refine hK _ _ ?_
          clear hK K
          refine wpAny_ready (rs := [12]) (by kernel_rfl) (by simp) ?_
          refine AllReady.cons rfl (fun K hK => ?_) AllReady.nil
          refine step_store_arr rfl _ _ _ rfl r3 rfl rfl (by rw [hsl.out]; rfl) (by rw [hsl.out]; kernel_rfl) ?_
          intro w9 r9 g9
          refine hK _ _ ?_
          clear hK K
          refine wpAny_done (by kernel_rfl) ?_ _
          go_wp2_with fail
          refine bodyPost_ret (v := arrV .u8 ys) (results_cell_row rfl _ _ (w.heap.size + 1) 26 _ (0, 0) _ rfl r9 arr32D rfl (by rw [show (ys.map (Value.int .u8)).toArray.size = 32 by simp [hsl.out]]; kernel_rfl)) rfl ⟨rfl, ?_⟩
          exact B3.trans (below_of_grown g9 B3.size fun b hb => by injection hb with hb; omega)
      · have hrl : r.length = stepsN (i - halfN n) (n - halfN n) := by rw [stepsN_hi h2 (by omega) hlt] at hws; omega
        have G1 := Lib.hid (fun W (hB : Below w.heap.size w W) => ih (n - halfN n) (by omega) (some ⟨b, off, none⟩) r c (i - halfN n) x W (by omega) hrl (by omega) (by unfold maxLen; omega) (hrr.on hB) hx (by omega) (hL.below hB))
        rw [show ((i - halfN n : Nat) : Int) = (i : Int) - (halfN n : Int) by omega, show ((n - halfN n : Nat) : Int) = (n : Int) - (halfN n : Int) by omega] at G1
        have hd1 := leadL_d32 (n - halfN n) (i - halfN n) x r hx (fun d hd => hall d (by simp [hd]))
        have G2 := Lib.hid (fun W (hB : Below w.heap.size w W) => pair_any q (leadL x (i - halfN n) (n - halfN n) r) W hq hd1 (hL.below hB))
        have hsl := Lib.hid (pairL_d32 q (leadL x (i - halfN n) (n - halfN n) r)).1
        rw [leadL_hi h2 (by omega) hlt]
        generalize pairL q (leadL x (i - halfN n) (n - halfN n) r) = ys at *
        generalize leadL x (i - halfN n) (n - halfN n) r = u at *
        generalize halfN n = k at *
        clear ih hws hrl hall hrr hx hq hd1
        have dl : decide ((i : Int) < k) = false := decide_eq_false (by omega)
        have q1 : (0 : Int) ≤ (r.length : Int) := by omega
        have ix : (r.length : Int) < (r.length : Int) + 1 := by omega
        have kl : r.length ≤ c := by omega
        have kx : r.length < r.length + 1 := by omega
        have q2 : (0 : Int) ≤ (i : Int) - k := by omega
        have q3 : (0 : Int) ≤ (n : Int) - k := by omega
        go_enter Tryd.func74, Tryd.ntmps74
        go_wp2_with (go_at_call 70; refine (GS.out _).mono ?_; rintro e w1 ⟨rfl, rfl⟩)
        have B0 := hB0 (.cells (x.map (Value.int .u8)).toArray 26) (.cells ((List.replicate 32 (0 : Int)).map (Value.int .u8)).toArray 26)
        have x0 := Arr.drewN (aX (.cells ((List.replicate 32 (0 : Int)).map (Value.int .u8)).toArray 26)) 1
        have r0 := Arr.drewN (aR (.cells (x.map (Value.int .u8)).toArray 26)) 1
        refine wp_region_any (by kernel_rfl) ?_
        change wpAny _ _ _ _ _ _ _ (World.drew _)
        refine wpAny_take (i := 0) (v := .slice (some ⟨b, off, none⟩) (r.length + 1) c) rfl (by kernel_rfl) (by kernel_rfl) (by kernel_rfl) (fun _ _ _ h => h) (Or.inl ⟨by rfl, fun W => by go_simp⟩) ?_
        refine wpAny_take (i := 1) (v := .int .i64 r.length) rfl (by kernel_rfl) (by kernel_rfl) (by kernel_rfl) (fun _ _ _ h => h) (Or.inl ⟨by rfl, fun W => by go_simp⟩) ?_
        refine wpAny_take (i := 2) (v := .pointer (some ⟨b, off + r.length * 32, none⟩)) rfl (by kernel_rfl) (by kernel_rfl) (by kernel_rfl) (fun _ _ _ h => h) (Or.inl ⟨by rfl, fun W => by go_simp <;> first | (intro h; omega) | (rw [if_pos kl]) | (rw [if_pos kx])⟩) ?_
        go_simp
        refine wpAny_take (i := 5) (v := .int .i64 i) rfl (by kernel_rfl) (by kernel_rfl) (by kernel_rfl) (fun _ _ _ h => h) (Or.inl ⟨by rfl, fun W => by go_simp⟩) ?_
        refine wpAny_take (i := 6) (v := .int .i64 k) rfl (by kernel_rfl) (by kernel_rfl) (by kernel_rfl) (fun _ _ _ h => h) (Or.inl ⟨by rfl, fun W => by go_simp⟩) ?_
        refine wpAny_take (i := 7) (v := .int .i64 ((i : Int) - k)) rfl (by kernel_rfl) (by kernel_rfl) (by kernel_rfl) (fun _ _ _ h => h) (Or.inl ⟨by rfl, fun W => by go_simp; exact IntWalk.i64_in _ (by omega)⟩) ?_
        go_simp
        refine wpAny_take (i := 8) (v := .int .i64 n) rfl (by kernel_rfl) (by kernel_rfl) (by kernel_rfl) (fun _ _ _ h => h) (Or.inl ⟨by rfl, fun W => by go_simp⟩) ?_
        refine wpAny_take (i := 9) (v := .int .i64 k) rfl (by kernel_rfl) (by kernel_rfl) (by kernel_rfl) (fun _ _ _ h => h) (Or.inl ⟨by rfl, fun W => by go_simp⟩) ?_
        refine wpAny_take (i := 10) (v := .int .i64 ((n : Int) - k)) rfl (by kernel_rfl) (by kernel_rfl) (by kernel_rfl) (fun _ _ _ h => h) (Or.inl ⟨by rfl, fun W => by go_simp; exact IntWalk.i64_in _ (by omega)⟩) ?_
        go_simp
        refine wpAny_take (i := 11) (v := .slice (some ⟨b, off, none⟩) (r.length + 1) c) rfl (by kernel_rfl) (by kernel_rfl) (by kernel_rfl) (fun _ _ _ h => h) (Or.inl ⟨by rfl, fun W => by go_simp⟩) ?_
        refine wpAny_take (i := 12) (v := .int .i64 r.length) rfl (by kernel_rfl) (by kernel_rfl) (by kernel_rfl) (fun _ _ _ h => h) (Or.inl ⟨by rfl, fun W => by go_simp⟩) ?_
        refine wpAny_take (i := 13) (v := .slice (some ⟨b, off, none⟩) r.length c) rfl (by kernel_rfl) (by kernel_rfl) (by kernel_rfl) (fun _ _ _ h => h) (Or.inl ⟨by rfl, fun W => by go_simp <;> first | (intro h; omega) | (rw [if_pos kl]) | (rw [if_pos kx])⟩) ?_
        go_simp
        refine wpAny_ready (rs := [3, 4]) (by kernel_rfl) (by simp) ?_
        refine AllReady.cons rfl (fun K hK => ?_) (AllReady.cons rfl (fun K hK => ?_) AllReady.nil)
        · refine step_load_row (by rfl) _ _ rfl b (off + r.length * 32) (dcells q) rfl (Hrg.out _ B0) arr32D rfl (by unfold dcells; rw [List.length_map, hql.out]; kernel_rfl) ?_
          go_simp
          refine hK _ _ ?_
          clear hK K
          refine wpAny_ready (rs := [4]) (by kernel_rfl) (by simp) ?_
          refine AllReady.cons rfl (fun K hK => ?_) AllReady.nil
          refine step_load_row (by rfl) _ _ rfl w.heap.size 0 (dcells x) rfl (Arr.range x0) arr32D rfl (by unfold dcells; rw [List.length_map, hxl.out]; kernel_rfl) ?_
          go_simp
          refine hK _ _ ?_
          clear hK K
          refine wpAny_ready (rs := [14]) (by kernel_rfl) (by simp) ?_
          refine AllReady.cons rfl (fun K hK => ?_) AllReady.nil
          go_simp
          go_at_call 74
          refine (G1.out _ B0).mono ?_
          rintro e w2 ⟨rfl, hb2⟩
          have B2 := B0.trans (hb2.mono B0.size)
          have r2 : Arr w2 (w.heap.size + 1) 26 .u8 (List.replicate 32 0) := Block.below r0 hb2 (Block.lt r0)
          refine hK _ _ ?_
          clear hK K
          refine wpAny_ready (rs := [15]) (by kernel_rfl) (by simp) ?_
          refine AllReady.cons rfl (fun K hK => ?_) AllReady.nil
          go_simp
          go_at_call 31
          refine (G2.out _ B2).mono ?_
          rintro e w3 ⟨rfl, hb3⟩
          have B3 := B2.trans (hb3.mono B2.size)
          have r3 : Arr w3 (w.heap.size + 1) 26 .u8 (List.replicate 32 0) := Block.below r2 hb3 (Block.lt r2)
          refine hK _ _ ?_
          clear hK K
          refine wpAny_ready (rs := [16]) (by kernel_rfl) (by simp) ?_
          refine AllReady.cons rfl (fun K hK => ?_) AllReady.nil
          refine step_store_arr rfl _ _ _ rfl r3 rfl rfl (by rw [hsl.out]; rfl) (by rw [hsl.out]; kernel_rfl) ?_
          intro w9 r9 g9
          refine hK _ _ ?_
          clear hK K
          refine wpAny_done (by kernel_rfl) ?_ _
          go_wp2_with fail
          refine bodyPost_ret (v := arrV .u8 ys) (results_cell_row rfl _ _ (w.heap.size + 1) 26 _ (0, 0) _ rfl r9 arr32D rfl (by rw [show (ys.map (Value.int .u8)).toArray.size = 32 by simp [hsl.out]]; kernel_rfl)) rfl ⟨rfl, ?_⟩
          exact B3.trans (below_of_grown g9 B3.size fun b hb => by injection hb with hb; omega)
        · refine step_load_row (by rfl) _ _ rfl w.heap.size 0 (dcells x) rfl (Arr.range x0) arr32D rfl (by unfold dcells; rw [List.length_map, hxl.out]; kernel_rfl) ?_
          go_simp
          refine hK _ _ ?_
          clear hK K
          refine wpAny_ready (rs := [3, 14]) (by kernel_rfl) (by simp) ?_
          refine AllReady.cons rfl (fun K hK => ?_) (AllReady.cons rfl (fun K hK => ?_) AllReady.nil)
          · refine step_load_row (by rfl) _ _ rfl b (off + r.length * 32) (dcells q) rfl (Hrg.out _ B0) arr32D rfl (by unfold dcells; rw [List.length_map, hql.out]; kernel_rfl) ?_
            go_simp
            refine hK _ _ ?_
            clear hK K
            refine wpAny_ready (rs := [14]) (by kernel_rfl) (by simp) ?_
            refine AllReady.cons rfl (fun K hK => ?_) AllReady.nil
            go_simp
            go_at_call 74
            refine (G1.out _ B0).mono ?_
            rintro e w2 ⟨rfl, hb2⟩
            have B2 := B0.trans (hb2.mono B0.size)
            have r2 : Arr w2 (w.heap.size + 1) 26 .u8 (List.replicate 32 0) := Block.below r0 hb2 (Block.lt r0)
            refine hK _ _ ?_
            clear hK K
            refine wpAny_ready (rs := [15]) (by kernel_rfl) (by simp) ?_
            refine AllReady.cons rfl (fun K hK => ?_) AllReady.nil
            go_simp
            go_at_call 31
            refine (G2.out _ B2).mono ?_
            rintro e w3 ⟨rfl, hb3⟩
            have B3 := B2.trans (hb3.mono B2.size)
            have r3 : Arr w3 (w.heap.size + 1) 26 .u8 (List.replicate 32 0) := Block.below r2 hb3 (Block.lt r2)
            refine hK _ _ ?_
            clear hK K
            refine wpAny_ready (rs := [16]) (by kernel_rfl) (by simp) ?_
            refine AllReady.cons rfl (fun K hK => ?_) AllReady.nil
            refine step_store_arr rfl _ _ _ rfl r3 rfl rfl (by rw [hsl.out]; rfl) (by rw [hsl.out]; kernel_rfl) ?_
            intro w9 r9 g9
            refine hK _ _ ?_
            clear hK K
            refine wpAny_done (by kernel_rfl) ?_ _
            go_wp2_with fail
            refine bodyPost_ret (v := arrV .u8 ys) (results_cell_row rfl _ _ (w.heap.size + 1) 26 _ (0, 0) _ rfl r9 arr32D rfl (by rw [show (ys.map (Value.int .u8)).toArray.size = 32 by simp [hsl.out]]; kernel_rfl)) rfl ⟨rfl, ?_⟩
            exact B3.trans (below_of_grown g9 B3.size fun b hb => by injection hb with hb; omega)
          · go_simp
            go_at_call 74
            refine (G1.out _ B0).mono ?_
            rintro e w2 ⟨rfl, hb2⟩
            have B2 := B0.trans (hb2.mono B0.size)
            have r2 : Arr w2 (w.heap.size + 1) 26 .u8 (List.replicate 32 0) := Block.below r0 hb2 (Block.lt r0)
            refine hK _ _ ?_
            clear hK K
            refine wpAny_ready (rs := [3]) (by kernel_rfl) (by simp) ?_
            refine AllReady.cons rfl (fun K hK => ?_) AllReady.nil
            refine step_load_row (by rfl) _ _ rfl b (off + r.length * 32) (dcells q) rfl (Hrg.out _ B2) arr32D rfl (by unfold dcells; rw [List.length_map, hql.out]; kernel_rfl) ?_
            go_simp
            refine hK _ _ ?_
            clear hK K
            refine wpAny_ready (rs := [15]) (by kernel_rfl) (by simp) ?_
            refine AllReady.cons rfl (fun K hK => ?_) AllReady.nil
            go_simp
            go_at_call 31
            refine (G2.out _ B2).mono ?_
            rintro e w3 ⟨rfl, hb3⟩
            have B3 := B2.trans (hb3.mono B2.size)
            have r3 : Arr w3 (w.heap.size + 1) 26 .u8 (List.replicate 32 0) := Block.below r2 hb3 (Block.lt r2)
            refine hK _ _ ?_
            clear hK K
            refine wpAny_ready (rs := [16]) (by kernel_rfl) (by simp) ?_
            refine AllReady.cons rfl (fun K hK => ?_) AllReady.nil
            refine step_store_arr rfl _ _ _ rfl r3 rfl rfl (by rw [hsl.out]; rfl) (by rw [hsl.out]; kernel_rfl) ?_
            intro w9 r9 g9
            refine hK _ _ ?_
            clear hK K
            refine wpAny_done (by kernel_rfl) ?_ _
            go_wp2_with fail
            refine bodyPost_ret (v := arrV .u8 ys) (results_cell_row rfl _ _ (w.heap.size + 1) 26 _ (0, 0) _ rfl r9 arr32D rfl (by rw [show (ys.map (Value.int .u8)).toArray.size = 32 by simp [hsl.out]]; kernel_rfl)) rfl ⟨rfl, ?_⟩
            exact B3.trans (below_of_grown g9 B3.size fun b hb => by injection hb with hb; omega)
    · clear ih
      obtain rfl : n = 1 := by omega
      rw [leadL_one (by omega)]
      have d2 : decide (((1 : Nat) : Int) = 1) = true := by decide
      have hB0 := fun o p => below_two' (w := w) o p
      have r0 := aR (.cells (x.map (Value.int .u8)).toArray 26)
      clear hws hr hi h2
      go_enter Tryd.func74, Tryd.ntmps74
      go_wp2_with (first
        | (refine wpList_load_arr rfl _ _ rfl (aX _) rfl arr32D rfl (by rw [hxl.out]; kernel_rfl) ?_)
        | (refine wpList_store_arr rfl _ _ _ rfl (ys := x) r0 rfl rfl (by rw [hxl.out]; rfl) (by rw [hxl.out]; kernel_rfl) ?_; intro w9 r9 g9))
      refine bodyPost_ret (v := arrV .u8 x) (results_cell_row rfl _ _ (w.heap.size + 1) 26 _ (0, 0) _ rfl r9 arr32D rfl (by rw [show (x.map (Value.int .u8)).toArray.size = 32 by simp [hxl.out]]; kernel_rfl)) rfl ⟨rfl, ?_⟩
      exact (hB0 _ _).trans (below_of_grown g9 (by simp; omega) fun b hb => by injection hb with hb; omega)

set_option maxRecDepth 100000 in
set_option maxHeartbeats 3200000 in
theorem rlead_any (n : Nat) : ∀ (A : Option Addr) (ws : List (List Int)) (c i : Nat) (x : List Int) (w : World), n ≤ 9223372036854775807 → ws.length = stepsN i n → ws.length ≤ c → c ≤ maxLen → HoldsD w w.heap.size A ws → D32 x → i < n →
    Calls Tryd.prog 39 #[.agg (x.map (Value.int .u8)).toArray, .int .i64 i, .int .i64 n, .slice A ws.length c] w (Sums (leadL x i n ws) w) := by
  induction n using Nat.strongRecOn with
  | ind n ih =>
    intro A ws c i x w hn hws hc hm hr hx hi
    unfold maxLen at hm
    have hxl := Lib.hid hx.1
    have aX : ∀ o, Arr ((w.alloc (.cells (x.map (Value.int .u8)).toArray 24)).alloc o) w.heap.size 24 .u8 x := fun o => (Arr.new w _ .u8 x).alloc o
    have aR : ∀ o, Arr ((w.alloc o).alloc (.cells ((List.replicate 32 (0 : Int)).map (Value.int .u8)).toArray 24)) (w.heap.size + 1) 24 .u8 (List.replicate 32 0) := fun o => by
      have := Arr.new (w.alloc o) 24 .u8 (List.replicate 32 0)
      rwa [show (w.alloc o).heap.size = w.heap.size + 1 by simp] at this
    by_cases h2 : 2 ≤ n
    · obtain ⟨_, k1, k2, k3⟩ := half_bd h2 (by omega)
      have GS := Lib.hid (fun W => rhalf_any n W h2 hn)
      have d2 : decide ((n : Int) = 1) = false := decide_eq_false (by omega)
      have hB0 : ∀ o p, Below w.heap.size w ((w.alloc o).alloc p).drew := fun o p => below_draws (below_two' o p) 1
      have hpos : 0 < ws.length := by
        rw [hws]
        by_cases hlt : i < halfN n
        · rw [stepsN_lo h2 (by omega) hlt]; omega
        · rw [stepsN_hi h2 (by omega) hlt]; omega
      obtain ⟨r, q, rfl⟩ : ∃ r q, ws = r ++ [q] := ⟨ws.dropLast, ws.getLast (by intro h; rw [h] at hpos; simp at hpos), (List.dropLast_concat_getLast _).symm⟩
      obtain ⟨b, off, rfl, hb, hq0, hq⟩ := hr.at_ (i := r.length) (by simp)
      have eq : (r ++ [q])[r.length]'(by simp) = q := by simp
      rw [eq] at hq0 hq
      have hrg := fun W (hB : Below w.heap.size w W) => (show W.rangeAt b (off + r.length * 32) (dcells q) from fun j v hj => (hB.cell (p := ⟨b, off + r.length * 32 + j, none⟩) hb).trans (hq0 j v hj))
      have Hrg := Lib.hid hrg
      have hql := Lib.hid hq.1
      have hrr : HoldsD w w.heap.size (some ⟨b, off, none⟩) r := by have := hr.head r.length; rwa [List.take_left] at this
      have hall := hr.all
      rw [List.length_append, List.length_singleton] at hws hc ⊢
      clear eq hrg hq0 hr hpos
      by_cases hlt : i < halfN n
      · have hrl : r.length = stepsN i (halfN n) := by rw [stepsN_lo h2 (by omega) hlt] at hws; omega
        have G1 := Lib.hid (fun W (hB : Below w.heap.size w W) => ih (halfN n) (by omega) (some ⟨b, off, none⟩) r c i x W (by omega) hrl (by omega) (by unfold maxLen; omega) (hrr.on hB) hx hlt)
        have hd1 := leadL_d32 (halfN n) i x r hx (fun d hd => hall d (by simp [hd]))
        have G2 := Lib.hid (fun W (hB : Below w.heap.size w W) => rpair_any (leadL x i (halfN n) r) q W hd1 hq)
        have hsl := Lib.hid (pairL_d32 (leadL x i (halfN n) r) q).1
        rw [leadL_lo h2 (by omega) hlt]
        generalize pairL (leadL x i (halfN n) r) q = ys at *
        generalize leadL x i (halfN n) r = u at *
        generalize halfN n = k at *
        clear ih hws hrl hall hrr hx hq hd1
        have dl : decide ((i : Int) < k) = true := decide_eq_true (by omega)
        have q1 : (0 : Int) ≤ (r.length : Int) := by omega
        have ix : (r.length : Int) < (r.length : Int) + 1 := by omega
        have kl : r.length ≤ c := by omega
        have kx : r.length < r.length + 1 := by omega
        go_enter Tryd.func39, Tryd.ntmps39
        go_wp2_with (go_at_call 71; refine (GS.out _).mono ?_; rintro e w1 ⟨rfl, rfl⟩)
        have B0 := hB0 (.cells (x.map (Value.int .u8)).toArray 24) (.cells ((List.replicate 32 (0 : Int)).map (Value.int .u8)).toArray 24)
        have x0 := Arr.drewN (aX (.cells ((List.replicate 32 (0 : Int)).map (Value.int .u8)).toArray 24)) 1
        have r0 := Arr.drewN (aR (.cells (x.map (Value.int .u8)).toArray 24)) 1
        refine wp_region_any (by kernel_rfl) ?_
        change wpAny _ _ _ _ _ _ _ (World.drew _)
        refine wpAny_take (i := 1) (v := .int .i64 i) rfl (by kernel_rfl) (by kernel_rfl) (by kernel_rfl) (fun _ _ _ h => h) (Or.inl ⟨by rfl, fun W => by go_simp⟩) ?_
        refine wpAny_take (i := 2) (v := .int .i64 k) rfl (by kernel_rfl) (by kernel_rfl) (by kernel_rfl) (fun _ _ _ h => h) (Or.inl ⟨by rfl, fun W => by go_simp⟩) ?_
        refine wpAny_take (i := 3) (v := .slice (some ⟨b, off, none⟩) (r.length + 1) c) rfl (by kernel_rfl) (by kernel_rfl) (by kernel_rfl) (fun _ _ _ h => h) (Or.inl ⟨by rfl, fun W => by go_simp⟩) ?_
        go_simp
        refine wpAny_take (i := 4) (v := .int .i64 r.length) rfl (by kernel_rfl) (by kernel_rfl) (by kernel_rfl) (fun _ _ _ h => h) (Or.inl ⟨by rfl, fun W => by go_simp⟩) ?_
        refine wpAny_take (i := 5) (v := .slice (some ⟨b, off, none⟩) r.length c) rfl (by kernel_rfl) (by kernel_rfl) (by kernel_rfl) (fun _ _ _ h => h) (Or.inl ⟨by rfl, fun W => by go_simp <;> first | (intro h; omega) | (rw [if_pos kl]) | (rw [if_pos kx])⟩) ?_
        go_simp
        refine wpAny_take (i := 7) (v := .slice (some ⟨b, off, none⟩) (r.length + 1) c) rfl (by kernel_rfl) (by kernel_rfl) (by kernel_rfl) (fun _ _ _ h => h) (Or.inl ⟨by rfl, fun W => by go_simp⟩) ?_
        refine wpAny_take (i := 8) (v := .int .i64 r.length) rfl (by kernel_rfl) (by kernel_rfl) (by kernel_rfl) (fun _ _ _ h => h) (Or.inl ⟨by rfl, fun W => by go_simp⟩) ?_
        refine wpAny_take (i := 9) (v := .pointer (some ⟨b, off + r.length * 32, none⟩)) rfl (by kernel_rfl) (by kernel_rfl) (by kernel_rfl) (fun _ _ _ h => h) (Or.inl ⟨by rfl, fun W => by go_simp <;> first | (intro h; omega) | (rw [if_pos kl]) | (rw [if_pos kx])⟩) ?_
        go_simp
        refine wpAny_ready (rs := [0, 10]) (by kernel_rfl) (by simp) ?_
        refine AllReady.cons rfl (fun K hK => ?_) (AllReady.cons rfl (fun K hK => ?_) AllReady.nil)
        · refine step_load_row (by rfl) _ _ rfl w.heap.size 0 (dcells x) rfl (Arr.range x0) arr32A rfl (by unfold dcells; rw [List.length_map, hxl.out]; kernel_rfl) ?_
          go_simp
          refine hK _ _ ?_
          clear hK K
          refine wpAny_ready (rs := [6, 10]) (by kernel_rfl) (by simp) ?_
          refine AllReady.cons rfl (fun K hK => ?_) (AllReady.cons rfl (fun K hK => ?_) AllReady.nil)
          · go_simp
            go_at_call 39
            refine (G1.out _ B0).mono ?_
            rintro e w2 ⟨rfl, hb2⟩
            have B2 := B0.trans (hb2.mono B0.size)
            have r2 : Arr w2 (w.heap.size + 1) 24 .u8 (List.replicate 32 0) := Block.below r0 hb2 (Block.lt r0)
            refine hK _ _ ?_
            clear hK K
            refine wpAny_ready (rs := [10]) (by kernel_rfl) (by simp) ?_
            refine AllReady.cons rfl (fun K hK => ?_) AllReady.nil
            refine step_load_row (by rfl) _ _ rfl b (off + r.length * 32) (dcells q) rfl (Hrg.out _ B2) arr32A rfl (by unfold dcells; rw [List.length_map, hql.out]; kernel_rfl) ?_
            go_simp
            refine hK _ _ ?_
            clear hK K
            refine wpAny_ready (rs := [11]) (by kernel_rfl) (by simp) ?_
            refine AllReady.cons rfl (fun K hK => ?_) AllReady.nil
            go_simp
            go_at_call 32
            refine (G2.out _ B2).mono ?_
            rintro e w3 ⟨rfl, hb3⟩
            have B3 := B2.trans (hb3.mono B2.size)
            have r3 : Arr w3 (w.heap.size + 1) 24 .u8 (List.replicate 32 0) := Block.below r2 hb3 (Block.lt r2)
            refine hK _ _ ?_
            clear hK K
            refine wpAny_ready (rs := [12]) (by kernel_rfl) (by simp) ?_
            refine AllReady.cons rfl (fun K hK => ?_) AllReady.nil
            refine step_store_arr rfl _ _ _ rfl r3 rfl rfl (by rw [hsl.out]; rfl) (by rw [hsl.out]; kernel_rfl) ?_
            intro w9 r9 g9
            refine hK _ _ ?_
            clear hK K
            refine wpAny_done (by kernel_rfl) ?_ _
            go_wp2_with fail
            refine bodyPost_ret (v := arrV .u8 ys) (results_cell_row rfl _ _ (w.heap.size + 1) 24 _ (0, 0) _ rfl r9 arr32A rfl (by rw [show (ys.map (Value.int .u8)).toArray.size = 32 by simp [hsl.out]]; kernel_rfl)) rfl ⟨rfl, ?_⟩
            exact B3.trans (below_of_grown g9 B3.size fun b hb => by injection hb with hb; omega)
          · refine step_load_row (by rfl) _ _ rfl b (off + r.length * 32) (dcells q) rfl (Hrg.out _ B0) arr32A rfl (by unfold dcells; rw [List.length_map, hql.out]; kernel_rfl) ?_
            go_simp
            refine hK _ _ ?_
            clear hK K
            refine wpAny_ready (rs := [6]) (by kernel_rfl) (by simp) ?_
            refine AllReady.cons rfl (fun K hK => ?_) AllReady.nil
            go_simp
            go_at_call 39
            refine (G1.out _ B0).mono ?_
            rintro e w2 ⟨rfl, hb2⟩
            have B2 := B0.trans (hb2.mono B0.size)
            have r2 : Arr w2 (w.heap.size + 1) 24 .u8 (List.replicate 32 0) := Block.below r0 hb2 (Block.lt r0)
            refine hK _ _ ?_
            clear hK K
            refine wpAny_ready (rs := [11]) (by kernel_rfl) (by simp) ?_
            refine AllReady.cons rfl (fun K hK => ?_) AllReady.nil
            go_simp
            go_at_call 32
            refine (G2.out _ B2).mono ?_
            rintro e w3 ⟨rfl, hb3⟩
            have B3 := B2.trans (hb3.mono B2.size)
            have r3 : Arr w3 (w.heap.size + 1) 24 .u8 (List.replicate 32 0) := Block.below r2 hb3 (Block.lt r2)
            refine hK _ _ ?_
            clear hK K
            refine wpAny_ready (rs := [12]) (by kernel_rfl) (by simp) ?_
            refine AllReady.cons rfl (fun K hK => ?_) AllReady.nil
            refine step_store_arr rfl _ _ _ rfl r3 rfl rfl (by rw [hsl.out]; rfl) (by rw [hsl.out]; kernel_rfl) ?_
            intro w9 r9 g9
            refine hK _ _ ?_
            clear hK K
            refine wpAny_done (by kernel_rfl) ?_ _
            go_wp2_with fail
            refine bodyPost_ret (v := arrV .u8 ys) (results_cell_row rfl _ _ (w.heap.size + 1) 24 _ (0, 0) _ rfl r9 arr32A rfl (by rw [show (ys.map (Value.int .u8)).toArray.size = 32 by simp [hsl.out]]; kernel_rfl)) rfl ⟨rfl, ?_⟩
            exact B3.trans (below_of_grown g9 B3.size fun b hb => by injection hb with hb; omega)
        · refine step_load_row (by rfl) _ _ rfl b (off + r.length * 32) (dcells q) rfl (Hrg.out _ B0) arr32A rfl (by unfold dcells; rw [List.length_map, hql.out]; kernel_rfl) ?_
          go_simp
          refine hK _ _ ?_
          clear hK K
          refine wpAny_ready (rs := [0]) (by kernel_rfl) (by simp) ?_
          refine AllReady.cons rfl (fun K hK => ?_) AllReady.nil
          refine step_load_row (by rfl) _ _ rfl w.heap.size 0 (dcells x) rfl (Arr.range x0) arr32A rfl (by unfold dcells; rw [List.length_map, hxl.out]; kernel_rfl) ?_
          go_simp
          refine hK _ _ ?_
          clear hK K
          refine wpAny_ready (rs := [6]) (by kernel_rfl) (by simp) ?_
          refine AllReady.cons rfl (fun K hK => ?_) AllReady.nil
          go_simp
          go_at_call 39
          refine (G1.out _ B0).mono ?_
          rintro e w2 ⟨rfl, hb2⟩
          have B2 := B0.trans (hb2.mono B0.size)
          have r2 : Arr w2 (w.heap.size + 1) 24 .u8 (List.replicate 32 0) := Block.below r0 hb2 (Block.lt r0)
          refine hK _ _ ?_
          clear hK K
          refine wpAny_ready (rs := [11]) (by kernel_rfl) (by simp) ?_
          refine AllReady.cons rfl (fun K hK => ?_) AllReady.nil
          go_simp
          go_at_call 32
          refine (G2.out _ B2).mono ?_
          rintro e w3 ⟨rfl, hb3⟩
          have B3 := B2.trans (hb3.mono B2.size)
          have r3 : Arr w3 (w.heap.size + 1) 24 .u8 (List.replicate 32 0) := Block.below r2 hb3 (Block.lt r2)
          refine hK _ _ ?_
          clear hK K
          refine wpAny_ready (rs := [12]) (by kernel_rfl) (by simp) ?_
          refine AllReady.cons rfl (fun K hK => ?_) AllReady.nil
          refine step_store_arr rfl _ _ _ rfl r3 rfl rfl (by rw [hsl.out]; rfl) (by rw [hsl.out]; kernel_rfl) ?_
          intro w9 r9 g9
          refine hK _ _ ?_
          clear hK K
          refine wpAny_done (by kernel_rfl) ?_ _
          go_wp2_with fail
          refine bodyPost_ret (v := arrV .u8 ys) (results_cell_row rfl _ _ (w.heap.size + 1) 24 _ (0, 0) _ rfl r9 arr32A rfl (by rw [show (ys.map (Value.int .u8)).toArray.size = 32 by simp [hsl.out]]; kernel_rfl)) rfl ⟨rfl, ?_⟩
          exact B3.trans (below_of_grown g9 B3.size fun b hb => by injection hb with hb; omega)
      · have hrl : r.length = stepsN (i - halfN n) (n - halfN n) := by rw [stepsN_hi h2 (by omega) hlt] at hws; omega
        have G1 := Lib.hid (fun W (hB : Below w.heap.size w W) => ih (n - halfN n) (by omega) (some ⟨b, off, none⟩) r c (i - halfN n) x W (by omega) hrl (by omega) (by unfold maxLen; omega) (hrr.on hB) hx (by omega))
        rw [show ((i - halfN n : Nat) : Int) = (i : Int) - (halfN n : Int) by omega, show ((n - halfN n : Nat) : Int) = (n : Int) - (halfN n : Int) by omega] at G1
        have hd1 := leadL_d32 (n - halfN n) (i - halfN n) x r hx (fun d hd => hall d (by simp [hd]))
        have G2 := Lib.hid (fun W (hB : Below w.heap.size w W) => rpair_any q (leadL x (i - halfN n) (n - halfN n) r) W hq hd1)
        have hsl := Lib.hid (pairL_d32 q (leadL x (i - halfN n) (n - halfN n) r)).1
        rw [leadL_hi h2 (by omega) hlt]
        generalize pairL q (leadL x (i - halfN n) (n - halfN n) r) = ys at *
        generalize leadL x (i - halfN n) (n - halfN n) r = u at *
        generalize halfN n = k at *
        clear ih hws hrl hall hrr hx hq hd1
        have dl : decide ((i : Int) < k) = false := decide_eq_false (by omega)
        have q1 : (0 : Int) ≤ (r.length : Int) := by omega
        have ix : (r.length : Int) < (r.length : Int) + 1 := by omega
        have kl : r.length ≤ c := by omega
        have kx : r.length < r.length + 1 := by omega
        have q2 : (0 : Int) ≤ (i : Int) - k := by omega
        have q3 : (0 : Int) ≤ (n : Int) - k := by omega
        go_enter Tryd.func39, Tryd.ntmps39
        go_wp2_with (go_at_call 71; refine (GS.out _).mono ?_; rintro e w1 ⟨rfl, rfl⟩)
        have B0 := hB0 (.cells (x.map (Value.int .u8)).toArray 24) (.cells ((List.replicate 32 (0 : Int)).map (Value.int .u8)).toArray 24)
        have x0 := Arr.drewN (aX (.cells ((List.replicate 32 (0 : Int)).map (Value.int .u8)).toArray 24)) 1
        have r0 := Arr.drewN (aR (.cells (x.map (Value.int .u8)).toArray 24)) 1
        refine wp_region_any (by kernel_rfl) ?_
        change wpAny _ _ _ _ _ _ _ (World.drew _)
        refine wpAny_take (i := 0) (v := .slice (some ⟨b, off, none⟩) (r.length + 1) c) rfl (by kernel_rfl) (by kernel_rfl) (by kernel_rfl) (fun _ _ _ h => h) (Or.inl ⟨by rfl, fun W => by go_simp⟩) ?_
        refine wpAny_take (i := 1) (v := .int .i64 r.length) rfl (by kernel_rfl) (by kernel_rfl) (by kernel_rfl) (fun _ _ _ h => h) (Or.inl ⟨by rfl, fun W => by go_simp⟩) ?_
        refine wpAny_take (i := 2) (v := .pointer (some ⟨b, off + r.length * 32, none⟩)) rfl (by kernel_rfl) (by kernel_rfl) (by kernel_rfl) (fun _ _ _ h => h) (Or.inl ⟨by rfl, fun W => by go_simp <;> first | (intro h; omega) | (rw [if_pos kl]) | (rw [if_pos kx])⟩) ?_
        go_simp
        refine wpAny_take (i := 5) (v := .int .i64 i) rfl (by kernel_rfl) (by kernel_rfl) (by kernel_rfl) (fun _ _ _ h => h) (Or.inl ⟨by rfl, fun W => by go_simp⟩) ?_
        refine wpAny_take (i := 6) (v := .int .i64 k) rfl (by kernel_rfl) (by kernel_rfl) (by kernel_rfl) (fun _ _ _ h => h) (Or.inl ⟨by rfl, fun W => by go_simp⟩) ?_
        refine wpAny_take (i := 7) (v := .int .i64 ((i : Int) - k)) rfl (by kernel_rfl) (by kernel_rfl) (by kernel_rfl) (fun _ _ _ h => h) (Or.inl ⟨by rfl, fun W => by go_simp; exact IntWalk.i64_in _ (by omega)⟩) ?_
        go_simp
        refine wpAny_take (i := 8) (v := .int .i64 n) rfl (by kernel_rfl) (by kernel_rfl) (by kernel_rfl) (fun _ _ _ h => h) (Or.inl ⟨by rfl, fun W => by go_simp⟩) ?_
        refine wpAny_take (i := 9) (v := .int .i64 k) rfl (by kernel_rfl) (by kernel_rfl) (by kernel_rfl) (fun _ _ _ h => h) (Or.inl ⟨by rfl, fun W => by go_simp⟩) ?_
        refine wpAny_take (i := 10) (v := .int .i64 ((n : Int) - k)) rfl (by kernel_rfl) (by kernel_rfl) (by kernel_rfl) (fun _ _ _ h => h) (Or.inl ⟨by rfl, fun W => by go_simp; exact IntWalk.i64_in _ (by omega)⟩) ?_
        go_simp
        refine wpAny_take (i := 11) (v := .slice (some ⟨b, off, none⟩) (r.length + 1) c) rfl (by kernel_rfl) (by kernel_rfl) (by kernel_rfl) (fun _ _ _ h => h) (Or.inl ⟨by rfl, fun W => by go_simp⟩) ?_
        refine wpAny_take (i := 12) (v := .int .i64 r.length) rfl (by kernel_rfl) (by kernel_rfl) (by kernel_rfl) (fun _ _ _ h => h) (Or.inl ⟨by rfl, fun W => by go_simp⟩) ?_
        refine wpAny_take (i := 13) (v := .slice (some ⟨b, off, none⟩) r.length c) rfl (by kernel_rfl) (by kernel_rfl) (by kernel_rfl) (fun _ _ _ h => h) (Or.inl ⟨by rfl, fun W => by go_simp <;> first | (intro h; omega) | (rw [if_pos kl]) | (rw [if_pos kx])⟩) ?_
        go_simp
        refine wpAny_ready (rs := [3, 4]) (by kernel_rfl) (by simp) ?_
        refine AllReady.cons rfl (fun K hK => ?_) (AllReady.cons rfl (fun K hK => ?_) AllReady.nil)
        · refine step_load_row (by rfl) _ _ rfl b (off + r.length * 32) (dcells q) rfl (Hrg.out _ B0) arr32A rfl (by unfold dcells; rw [List.length_map, hql.out]; kernel_rfl) ?_
          go_simp
          refine hK _ _ ?_
          clear hK K
          refine wpAny_ready (rs := [4]) (by kernel_rfl) (by simp) ?_
          refine AllReady.cons rfl (fun K hK => ?_) AllReady.nil
          refine step_load_row (by rfl) _ _ rfl w.heap.size 0 (dcells x) rfl (Arr.range x0) arr32A rfl (by unfold dcells; rw [List.length_map, hxl.out]; kernel_rfl) ?_
          go_simp
          refine hK _ _ ?_
          clear hK K
          refine wpAny_ready (rs := [14]) (by kernel_rfl) (by simp) ?_
          refine AllReady.cons rfl (fun K hK => ?_) AllReady.nil
          go_simp
          go_at_call 39
          refine (G1.out _ B0).mono ?_
          rintro e w2 ⟨rfl, hb2⟩
          have B2 := B0.trans (hb2.mono B0.size)
          have r2 : Arr w2 (w.heap.size + 1) 24 .u8 (List.replicate 32 0) := Block.below r0 hb2 (Block.lt r0)
          refine hK _ _ ?_
          clear hK K
          refine wpAny_ready (rs := [15]) (by kernel_rfl) (by simp) ?_
          refine AllReady.cons rfl (fun K hK => ?_) AllReady.nil
          go_simp
          go_at_call 32
          refine (G2.out _ B2).mono ?_
          rintro e w3 ⟨rfl, hb3⟩
          have B3 := B2.trans (hb3.mono B2.size)
          have r3 : Arr w3 (w.heap.size + 1) 24 .u8 (List.replicate 32 0) := Block.below r2 hb3 (Block.lt r2)
          refine hK _ _ ?_
          clear hK K
          refine wpAny_ready (rs := [16]) (by kernel_rfl) (by simp) ?_
          refine AllReady.cons rfl (fun K hK => ?_) AllReady.nil
          refine step_store_arr rfl _ _ _ rfl r3 rfl rfl (by rw [hsl.out]; rfl) (by rw [hsl.out]; kernel_rfl) ?_
          intro w9 r9 g9
          refine hK _ _ ?_
          clear hK K
          refine wpAny_done (by kernel_rfl) ?_ _
          go_wp2_with fail
          refine bodyPost_ret (v := arrV .u8 ys) (results_cell_row rfl _ _ (w.heap.size + 1) 24 _ (0, 0) _ rfl r9 arr32A rfl (by rw [show (ys.map (Value.int .u8)).toArray.size = 32 by simp [hsl.out]]; kernel_rfl)) rfl ⟨rfl, ?_⟩
          exact B3.trans (below_of_grown g9 B3.size fun b hb => by injection hb with hb; omega)
        · refine step_load_row (by rfl) _ _ rfl w.heap.size 0 (dcells x) rfl (Arr.range x0) arr32A rfl (by unfold dcells; rw [List.length_map, hxl.out]; kernel_rfl) ?_
          go_simp
          refine hK _ _ ?_
          clear hK K
          refine wpAny_ready (rs := [3, 14]) (by kernel_rfl) (by simp) ?_
          refine AllReady.cons rfl (fun K hK => ?_) (AllReady.cons rfl (fun K hK => ?_) AllReady.nil)
          · refine step_load_row (by rfl) _ _ rfl b (off + r.length * 32) (dcells q) rfl (Hrg.out _ B0) arr32A rfl (by unfold dcells; rw [List.length_map, hql.out]; kernel_rfl) ?_
            go_simp
            refine hK _ _ ?_
            clear hK K
            refine wpAny_ready (rs := [14]) (by kernel_rfl) (by simp) ?_
            refine AllReady.cons rfl (fun K hK => ?_) AllReady.nil
            go_simp
            go_at_call 39
            refine (G1.out _ B0).mono ?_
            rintro e w2 ⟨rfl, hb2⟩
            have B2 := B0.trans (hb2.mono B0.size)
            have r2 : Arr w2 (w.heap.size + 1) 24 .u8 (List.replicate 32 0) := Block.below r0 hb2 (Block.lt r0)
            refine hK _ _ ?_
            clear hK K
            refine wpAny_ready (rs := [15]) (by kernel_rfl) (by simp) ?_
            refine AllReady.cons rfl (fun K hK => ?_) AllReady.nil
            go_simp
            go_at_call 32
            refine (G2.out _ B2).mono ?_
            rintro e w3 ⟨rfl, hb3⟩
            have B3 := B2.trans (hb3.mono B2.size)
            have r3 : Arr w3 (w.heap.size + 1) 24 .u8 (List.replicate 32 0) := Block.below r2 hb3 (Block.lt r2)
            refine hK _ _ ?_
            clear hK K
            refine wpAny_ready (rs := [16]) (by kernel_rfl) (by simp) ?_
            refine AllReady.cons rfl (fun K hK => ?_) AllReady.nil
            refine step_store_arr rfl _ _ _ rfl r3 rfl rfl (by rw [hsl.out]; rfl) (by rw [hsl.out]; kernel_rfl) ?_
            intro w9 r9 g9
            refine hK _ _ ?_
            clear hK K
            refine wpAny_done (by kernel_rfl) ?_ _
            go_wp2_with fail
            refine bodyPost_ret (v := arrV .u8 ys) (results_cell_row rfl _ _ (w.heap.size + 1) 24 _ (0, 0) _ rfl r9 arr32A rfl (by rw [show (ys.map (Value.int .u8)).toArray.size = 32 by simp [hsl.out]]; kernel_rfl)) rfl ⟨rfl, ?_⟩
            exact B3.trans (below_of_grown g9 B3.size fun b hb => by injection hb with hb; omega)
          · go_simp
            go_at_call 39
            refine (G1.out _ B0).mono ?_
            rintro e w2 ⟨rfl, hb2⟩
            have B2 := B0.trans (hb2.mono B0.size)
            have r2 : Arr w2 (w.heap.size + 1) 24 .u8 (List.replicate 32 0) := Block.below r0 hb2 (Block.lt r0)
            refine hK _ _ ?_
            clear hK K
            refine wpAny_ready (rs := [3]) (by kernel_rfl) (by simp) ?_
            refine AllReady.cons rfl (fun K hK => ?_) AllReady.nil
            refine step_load_row (by rfl) _ _ rfl b (off + r.length * 32) (dcells q) rfl (Hrg.out _ B2) arr32A rfl (by unfold dcells; rw [List.length_map, hql.out]; kernel_rfl) ?_
            go_simp
            refine hK _ _ ?_
            clear hK K
            refine wpAny_ready (rs := [15]) (by kernel_rfl) (by simp) ?_
            refine AllReady.cons rfl (fun K hK => ?_) AllReady.nil
            go_simp
            go_at_call 32
            refine (G2.out _ B2).mono ?_
            rintro e w3 ⟨rfl, hb3⟩
            have B3 := B2.trans (hb3.mono B2.size)
            have r3 : Arr w3 (w.heap.size + 1) 24 .u8 (List.replicate 32 0) := Block.below r2 hb3 (Block.lt r2)
            refine hK _ _ ?_
            clear hK K
            refine wpAny_ready (rs := [16]) (by kernel_rfl) (by simp) ?_
            refine AllReady.cons rfl (fun K hK => ?_) AllReady.nil
            refine step_store_arr rfl _ _ _ rfl r3 rfl rfl (by rw [hsl.out]; rfl) (by rw [hsl.out]; kernel_rfl) ?_
            intro w9 r9 g9
            refine hK _ _ ?_
            clear hK K
            refine wpAny_done (by kernel_rfl) ?_ _
            go_wp2_with fail
            refine bodyPost_ret (v := arrV .u8 ys) (results_cell_row rfl _ _ (w.heap.size + 1) 24 _ (0, 0) _ rfl r9 arr32A rfl (by rw [show (ys.map (Value.int .u8)).toArray.size = 32 by simp [hsl.out]]; kernel_rfl)) rfl ⟨rfl, ?_⟩
            exact B3.trans (below_of_grown g9 B3.size fun b hb => by injection hb with hb; omega)
    · clear ih
      obtain rfl : n = 1 := by omega
      rw [leadL_one (by omega)]
      have d2 : decide (((1 : Nat) : Int) = 1) = true := by decide
      have hB0 := fun o p => below_two' (w := w) o p
      have r0 := aR (.cells (x.map (Value.int .u8)).toArray 24)
      clear hws hr hi h2
      go_enter Tryd.func39, Tryd.ntmps39
      go_wp2_with (first
        | (refine wpList_load_arr rfl _ _ rfl (aX _) rfl arr32A rfl (by rw [hxl.out]; kernel_rfl) ?_)
        | (refine wpList_store_arr rfl _ _ _ rfl (ys := x) r0 rfl rfl (by rw [hxl.out]; rfl) (by rw [hxl.out]; kernel_rfl) ?_; intro w9 r9 g9))
      refine bodyPost_ret (v := arrV .u8 x) (results_cell_row rfl _ _ (w.heap.size + 1) 24 _ (0, 0) _ rfl r9 arr32A rfl (by rw [show (x.map (Value.int .u8)).toArray.size = 32 by simp [hxl.out]]; kernel_rfl)) rfl ⟨rfl, ?_⟩
      exact (hB0 _ _).trans (below_of_grown g9 (by simp; omega) fun b hb => by injection hb with hb; omega)
end Go.Proofs.YtdfgdchmeikigaaDoor.Mk
