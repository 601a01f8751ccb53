/-
  Layer 3, ots: the sum of the ends of all chains: contract. Conditions: as each theorem names.
  Layer 3, ots: the sum of the ends of all chains: contract. Conditions: as each theorem names.
  Layer 3, ots: the public sum of a key: contracts. Conditions: as each theorem names.
-/
import Derived.Test.YtdfgdchmeikigaaDoorOB
import Derived.Test.YtdfgdchmeikigaaDoorVals
namespace Go.Proofs.YtdfgdchmeikigaaDoor.Ot
open Go.ChangeShapes Go.WideShapes Go.ChangeAt Go.RowKit Go.Proofs.YtdfgdchmeikigaaDoor.Kit Go.Proofs.YtdfgdchmeikigaaDoor.Sha Go.Proofs.YtdfgdchmeikigaaDoor.Mk Go.Proofs.YtdfgdchmeikigaaDoor.Oct

theorem elemB : ValElem Tryd.prog 97 35 (.slice none 0 0) 24 := ⟨by kernel_rfl, by kernel_rfl, rfl, by decide⟩
/-- m ends, one behind the other. -/
def endsL (g : Nat → List Int) (m : Nat) : List Int := (List.range m).flatMap g
theorem endsL_next (g : Nat → List Int) (m : Nat) : endsL g (m + 1) = endsL g m ++ g m := by unfold endsL; rw [List.range_succ, List.flatMap_append]; simp
theorem joinL_snoc (rs : List Rw) (r : Rw) : joinL (rs ++ [r]) = joinL rs ++ r.zs := by unfold joinL; rw [List.flatMap_append]; simp

set_option maxRecDepth 100000 in
set_option maxHeartbeats 6400000 in
theorem public3_any (nm : List Int) (hnl : nm.length = 20) (hno : Octets nm) (k : Int) (hk : KindIn k) (p1 p2 p3 : Nat) (g : Nat → List Int) (hg : ∀ j, j < manyN k → D32 (g j)) (w : World) (hL : LaidS w)
    (hreach : ∀ (j : Nat) W, j < manyN k → Below w.heap.size w W → Calls Tryd.prog 50 #[.int .i64 j, .pointer (some ⟨p1, 0, none⟩), .pointer (some ⟨p2, 0, none⟩), .pointer (some ⟨p3, 0, none⟩)] W (Sums (g j) W)) :
    Calls Tryd.prog 49 #[.agg (nm.map (Value.int .u8)).toArray, .int .u32 k, .func (.func 50) #[] #[.pointer (some ⟨p1, 0, none⟩), .pointer (some ⟨p2, 0, none⟩), .pointer (some ⟨p3, 0, none⟩)]] w (Sums (sumL (nm ++ ([128, 128] ++ endsL g (manyN k)))) w) := by
  have hm : 1 ≤ manyN k ∧ manyN k ≤ 265 := ⟨(kind_wide hk).2.1, manyN_bd k⟩
  have GH := Lib.hid (fun W => chains_any k W)
  rw [chains_many] at GH
  generalize manyN k = m at *
  clear hk
  have h128 : Octets [128, 128] := by intro x hx; simp at hx; omega
  have W0 := below_two' (w := w) (.cells (nm.map (Value.int .u8)).toArray 78) (.cells ((List.replicate 32 (0 : Int)).map (Value.int .u8)).toArray 26)
  have N0 : Arr ((w.alloc (.cells (nm.map (Value.int .u8)).toArray 78)).alloc (.cells ((List.replicate 32 (0 : Int)).map (Value.int .u8)).toArray 26)) w.heap.size 78 .u8 nm := (Arr.new w _ _ nm).alloc _
  have R0 := Arr.new (w.alloc (.cells (nm.map (Value.int .u8)).toArray 78)) 26 .u8 (List.replicate 32 0)
  rw [show (w.alloc (.cells (nm.map (Value.int .u8)).toArray 78)).heap.size = w.heap.size + 1 by simp] at R0
  have z0 : ((w.alloc (.cells (nm.map (Value.int .u8)).toArray 78)).alloc (.cells ((List.replicate 32 (0 : Int)).map (Value.int .u8)).toArray 26)).heap.size = w.heap.size + 1 + 1 := by simp
  have HN := Lib.hid hnl
  have hsl := Lib.hid (sumL_length (nm ++ ([128, 128] ++ endsL g m)))
  generalize hys : sumL (nm ++ ([128, 128] ++ endsL g m)) = ys at *
  have HY := Lib.hid hys
  clear hnl hys
  go_enter Tryd.func49, Tryd.ntmps49
  go_wp2_with (go_at_call 16; refine (GH.out _).mono ?_; rintro e w1 ⟨rfl, rfl⟩)
  obtain ⟨W, hW⟩ : ∃ W, ((w.alloc (.cells (nm.map (Value.int .u8)).toArray 78)).alloc (.cells ((List.replicate 32 (0 : Int)).map (Value.int .u8)).toArray 26)) = W := ⟨_, rfl⟩
  change Code.wp _ _ _ _ (World.alloc (World.alloc (World.alloc (World.alloc w _) (.cells ((List.replicate 32 (0 : Int)).map (Value.int .u8)).toArray 26)) _) _)
  rw [hW] at W0 N0 R0 z0 ⊢
  clear hW
  have M0 : Arr (W.alloc (.cells #[.int .u8 128, .int .u8 128] 5)) (w.heap.size + 1 + 1) 5 .u8 [128, 128] := by rw [← z0]; exact Arr.new W 5 .u8 [128, 128]
  have z1 : (W.alloc (.cells #[.int .u8 128, .int .u8 128] 5)).heap.size = w.heap.size + 1 + 1 + 1 := by simp [z0]
  have O0 := OwnV.one (W.alloc (.cells #[.int .u8 128, .int .u8 128] 5)) 35 (B := w.heap.size + 2) (by rw [z1]; omega) (.slice (some ⟨w.heap.size + 1 + 1, 0, none⟩) 2 2)
  rw [z1] at O0
  have hb2 := (below_last W (.cells #[.int .u8 128, .int .u8 128] 5)).trans ((below_last (W.alloc (.cells #[.int .u8 128, .int .u8 128] 5)) (.cells #[.slice (some ⟨w.heap.size + 1 + 1, 0, none⟩) 2 2] 35)).mono (by simp))
  have A0 : RwArr ((W.alloc (.cells #[.int .u8 128, .int .u8 128] 5)).alloc (.cells #[.slice (some ⟨w.heap.size + 1 + 1, 0, none⟩) 2 2] 35)) 35 ⟨some ⟨w.heap.size + 1 + 1, 0, none⟩, 2, [128, 128]⟩ := RwArr.mk (M0.alloc _) (by decide) h128 (by decide)
  have B0 := W0.trans (hb2.mono W0.size)
  have N0 : Arr _ w.heap.size 78 .u8 nm := Block.below N0 hb2 (Block.lt N0)
  have R0 : Arr _ (w.heap.size + 1) 26 .u8 (List.replicate 32 0) := Block.below R0 hb2 (Block.lt R0)
  clear M0 W0 hb2 z1 h128
  go_loopw [7, 14] (fun v i wr => ∃ (j : Nat) (rs : List Rw), j ≤ m ∧ i = .int .i64 j ∧ rs.length = j + 1 ∧ joinL rs = [128, 128] ++ endsL g j ∧ (∀ r ∈ rs, RwArr wr 35 r) ∧ OwnV wr (w.heap.size + 2) 35 v (rs.map Rw.val) ∧ Arr wr w.heap.size 78 .u8 nm ∧ Arr wr (w.heap.size + 1) 26 .u8 (List.replicate 32 0) ∧ Below w.heap.size w wr) (fun _ i _ => m - (intOf i).toNat)
  case atStart => exact ⟨0, [⟨some ⟨w.heap.size + 1 + 1, 0, none⟩, 2, [128, 128]⟩], Nat.zero_le _, rfl, rfl, rfl, (by intro r hr; simp at hr; subst hr; exact A0), O0, N0, R0, B0⟩
  case round =>
    clear O0 N0 R0 B0 A0 z0
    obtain ⟨j, rs, hj, rfl, hrl, hjl, hrs, O, N, R, B⟩ := hrel
    by_cases hlt : j < m
    · have hgj := hg j hlt
      have hls := Lib.hid hgj.1
      have G := Lib.hid (hreach j wr hlt B)
      have hen := endsL_next g j
      have HE := Lib.hid hen
      have HJ := Lib.hid hjl
      have HR := Lib.hid hrl
      clear hen hjl hrl hreach hg
      generalize hgx : g j = x at *
      clear hgx
      have d1 : decide ((j : Int) < (m : Int)) = true := decide_eq_true (by omega)
      have d2 : decide (j < m) = true := decide_eq_true hlt
      obtain ⟨Av, cv, rfl, k1, k2⟩ := O.opened
      rw [List.length_map] at O k1 ⊢
      have zB : w.heap.size + 2 ≤ wr.heap.size := by have := Block.lt R; omega
      go_wp2_with (first
        | (have _t := G; go_at_call 50; refine G.out.mono ?_; clear _t; rintro e w2 ⟨rfl, hb⟩
           have O2 := O.below hb
           have N2 : Arr w2 w.heap.size 78 .u8 nm := Block.below N hb (Block.lt N)
           have R2 : Arr w2 (w.heap.size + 1) 26 .u8 (List.replicate 32 0) := Block.below R hb (Block.lt R)
           have B2 := B.trans (hb.mono B.size)
           have rs2 : ∀ r ∈ rs, RwArr w2 35 r := fun r hr => (hrs r hr).below hb
           have zB2 := Nat.le_trans zB hb.size
           have z2 := res_new w2 26
           clear G O N R B hrs zB hb)
        | (have _t := z2; refine wpList_store_arr rfl _ _ _ rfl (ys := x) z2 rfl rfl (by rw [hls.out]; rfl) (by rw [hls.out]; kernel_rfl) ?_; clear _t; intro w3 D3 g3
           have hb3 : Below w2.heap.size w2 w3 := below_fill (Below.refl _ _) (Nat.le_refl _) g3
           have O3 := O2.below hb3
           have N3 : Arr w3 w.heap.size 78 .u8 nm := Block.below N2 hb3 (Block.lt N2)
           have R3 : Arr w3 (w.heap.size + 1) 26 .u8 (List.replicate 32 0) := Block.below R2 hb3 (Block.lt R2)
           have B3 := B2.trans (hb3.mono B2.size)
           have rs3 : ∀ r ∈ rs, RwArr w3 35 r := fun r hr => (rs2 r hr).below hb3
           have A3 : RwArr w3 35 ⟨some ⟨w2.heap.size, 0, none⟩, x.length, x⟩ := RwArr.mk D3 (by decide) hgj.2 (by rw [hls.out]; decide)
           have zB3 := Nat.le_trans zB2 hb3.size
           rw [hls.out] at A3
           clear z2 O2 N2 R2 B2 rs2 g3 hb3 D3 zB2)
        | (have _t := A3; at_builtin; refine wpList_append_val rfl (.tmp 20) (.tmp 22) 97 rfl elemB O3 rfl (u := .slice (some ⟨w2.heap.size, 0, none⟩) 32 32) rfl rfl (by rw [List.length_map, HR.out]; omega) zB3 ?_; clear _t; intro v4 w4 O4 g4 hb4
           have N4 : Arr w4 w.heap.size 78 .u8 nm := Block.below N3 hb4 (by omega)
           have R4 : Arr w4 (w.heap.size + 1) 26 .u8 (List.replicate 32 0) := Block.below R3 hb4 (by omega)
           have B4 := B3.trans (hb4.mono (by omega))
           have rs4 : ∀ r ∈ rs ++ [(⟨some ⟨w2.heap.size, 0, none⟩, 32, x⟩ : Rw)], RwArr w4 35 r := fun r hr => by
             rcases List.mem_append.1 hr with hr | hr
             · exact ((rs3 r hr).below (below_last _ _)).grown (O3.alloc _) g4
             · simp at hr; subst hr; exact (A3.below (below_last _ _)).grown (O3.alloc _) g4
           have O5 : OwnV w4 (w.heap.size + 2) 35 v4 ((rs ++ [(⟨some ⟨w2.heap.size, 0, none⟩, 32, x⟩ : Rw)]).map Rw.val) := by
             rw [List.map_append]; simpa [Rw.val, hls.out] using O4
           clear O4 O3 N3 R3 B3 rs3 A3 g4 hb4 zB3))
      go_roundw
      case rel => exact ⟨j + 1, rs ++ [(⟨some ⟨w2.heap.size, 0, none⟩, 32, x⟩ : Rw)], hlt, by go_num, (by rw [List.length_append, HR.out]; rfl), (by rw [joinL_snoc, HJ.out, HE.out, List.append_assoc]), rs4, O5, N4, R4, B4⟩
      case measure => simp [intOf] <;> omega
    · obtain rfl : j = m := by omega
      have d1 : decide ((j : Int) < (j : Int)) = false := decide_eq_false (by omega)
      have d2 : decide (j < j) = false := decide_eq_false hlt
      obtain ⟨Av, cv, rfl, k1, k2⟩ := O.opened
      rw [List.length_map] at O k1 ⊢
      have G := Lib.hid (nsum_any nm HN.out hno Av rs cv wr k1 k2 (O.rows hrs) (by omega) (fun r hr => by obtain ⟨_, _, _, _, _, hl, _⟩ := hrs r hr; exact hl) (hL.below B))
      rw [hjl, HY.out] at G
      clear hjl hrl hrs O
      generalize rs.length = n at *
      go_wp2_with (first
        | (have _t := N; refine wpList_load_arr rfl _ _ rfl N rfl arr20 rfl (by rw [HN.out]; kernel_rfl) ?_)
        | (go_at_call 58; refine G.out.mono ?_; rintro e w5 ⟨rfl, hb5⟩; have r5 : Arr w5 (w.heap.size + 1) 26 .u8 (List.replicate 32 0) := Block.below R hb5 (Block.lt R); have b5 := B.trans (hb5.mono B.size))
        | (have _t := r5; refine wpList_store_arr rfl _ _ _ rfl r5 rfl rfl (by rw [hsl.out]; rfl) (by rw [hsl.out]; kernel_rfl) ?_; intro w9 r9 g9))
      refine bodyPost_ret (v := arrV .u8 ys) (results_cell_row rfl _ _ (w.heap.size + 1) 26 _ (0, 0) _ rfl r9 arr32D rfl (by rw [show (ys.map (Value.int .u8)).toArray.size = 32 by simp [hsl.out]]; kernel_rfl)) rfl ⟨rfl, ?_⟩
      exact b5.trans (below_of_grown g9 b5.size fun b hb => by injection hb with hb; omega)

end Go.Proofs.YtdfgdchmeikigaaDoor.Ot

namespace Go.Proofs.YtdfgdchmeikigaaDoor.Ot
open Go.ChangeShapes Go.WideShapes Go.ChangeAt Go.RowKit Go.Proofs.YtdfgdchmeikigaaDoor.Kit Go.Proofs.YtdfgdchmeikigaaDoor.Sha Go.Proofs.YtdfgdchmeikigaaDoor.Mk Go.Proofs.YtdfgdchmeikigaaDoor.Oct

set_option maxRecDepth 100000 in
set_option maxHeartbeats 6400000 in
theorem public4_any (nm : List Int) (hnl : nm.length = 20) (hno : Octets nm) (k : Int) (hk : KindIn k) (p1 p2 p3 p4 : Nat) (g : Nat → List Int) (hg : ∀ j, j < manyN k → D32 (g j)) (w : World) (hL : LaidS w)
    (hreach : ∀ (j : Nat) W, j < manyN k → Below w.heap.size w W → Calls Tryd.prog 64 #[.int .i64 j, .pointer (some ⟨p1, 0, none⟩), .pointer (some ⟨p2, 0, none⟩), .pointer (some ⟨p3, 0, none⟩), .pointer (some ⟨p4, 0, none⟩)] W (Sums (g j) W)) :
    Calls Tryd.prog 49 #[.agg (nm.map (Value.int .u8)).toArray, .int .u32 k, .func (.func 64) #[] #[.pointer (some ⟨p1, 0, none⟩), .pointer (some ⟨p2, 0, none⟩), .pointer (some ⟨p3, 0, none⟩), .pointer (some ⟨p4, 0, none⟩)]] w (Sums (sumL (nm ++ ([128, 128] ++ endsL g (manyN k)))) w) := by
  have hm : 1 ≤ manyN k ∧ manyN k ≤ 265 := ⟨(kind_wide hk).2.1, manyN_bd k⟩
  have GH := Lib.hid (fun W => chains_any k W)
  rw [chains_many] at GH
  generalize manyN k = m at *
  clear hk
  have h128 : Octets [128, 128] := by intro x hx; simp at hx; omega
  have W0 := below_two' (w := w) (.cells (nm.map (Value.int .u8)).toArray 78) (.cells ((List.replicate 32 (0 : Int)).map (Value.int .u8)).toArray 26)
  have N0 : Arr ((w.alloc (.cells (nm.map (Value.int .u8)).toArray 78)).alloc (.cells ((List.replicate 32 (0 : Int)).map (Value.int .u8)).toArray 26)) w.heap.size 78 .u8 nm := (Arr.new w _ _ nm).alloc _
  have R0 := Arr.new (w.alloc (.cells (nm.map (Value.int .u8)).toArray 78)) 26 .u8 (List.replicate 32 0)
  rw [show (w.alloc (.cells (nm.map (Value.int .u8)).toArray 78)).heap.size = w.heap.size + 1 by simp] at R0
  have z0 : ((w.alloc (.cells (nm.map (Value.int .u8)).toArray 78)).alloc (.cells ((List.replicate 32 (0 : Int)).map (Value.int .u8)).toArray 26)).heap.size = w.heap.size + 1 + 1 := by simp
  have HN := Lib.hid hnl
  have hsl := Lib.hid (sumL_length (nm ++ ([128, 128] ++ endsL g m)))
  generalize hys : sumL (nm ++ ([128, 128] ++ endsL g m)) = ys at *
  have HY := Lib.hid hys
  clear hnl hys
  go_enter Tryd.func49, Tryd.ntmps49
  go_wp2_with (go_at_call 16; refine (GH.out _).mono ?_; rintro e w1 ⟨rfl, rfl⟩)
  obtain ⟨W, hW⟩ : ∃ W, ((w.alloc (.cells (nm.map (Value.int .u8)).toArray 78)).alloc (.cells ((List.replicate 32 (0 : Int)).map (Value.int .u8)).toArray 26)) = W := ⟨_, rfl⟩
  change Code.wp _ _ _ _ (World.alloc (World.alloc (World.alloc (World.alloc w _) (.cells ((List.replicate 32 (0 : Int)).map (Value.int .u8)).toArray 26)) _) _)
  rw [hW] at W0 N0 R0 z0 ⊢
  clear hW
  have M0 : Arr (W.alloc (.cells #[.int .u8 128, .int .u8 128] 5)) (w.heap.size + 1 + 1) 5 .u8 [128, 128] := by rw [← z0]; exact Arr.new W 5 .u8 [128, 128]
  have z1 : (W.alloc (.cells #[.int .u8 128, .int .u8 128] 5)).heap.size = w.heap.size + 1 + 1 + 1 := by simp [z0]
  have O0 := OwnV.one (W.alloc (.cells #[.int .u8 128, .int .u8 128] 5)) 35 (B := w.heap.size + 2) (by rw [z1]; omega) (.slice (some ⟨w.heap.size + 1 + 1, 0, none⟩) 2 2)
  rw [z1] at O0
  have hb2 := (below_last W (.cells #[.int .u8 128, .int .u8 128] 5)).trans ((below_last (W.alloc (.cells #[.int .u8 128, .int .u8 128] 5)) (.cells #[.slice (some ⟨w.heap.size + 1 + 1, 0, none⟩) 2 2] 35)).mono (by simp))
  have A0 : RwArr ((W.alloc (.cells #[.int .u8 128, .int .u8 128] 5)).alloc (.cells #[.slice (some ⟨w.heap.size + 1 + 1, 0, none⟩) 2 2] 35)) 35 ⟨some ⟨w.heap.size + 1 + 1, 0, none⟩, 2, [128, 128]⟩ := RwArr.mk (M0.alloc _) (by decide) h128 (by decide)
  have B0 := W0.trans (hb2.mono W0.size)
  have N0 : Arr _ w.heap.size 78 .u8 nm := Block.below N0 hb2 (Block.lt N0)
  have R0 : Arr _ (w.heap.size + 1) 26 .u8 (List.replicate 32 0) := Block.below R0 hb2 (Block.lt R0)
  clear M0 W0 hb2 z1 h128
  go_loopw [7, 14] (fun v i wr => ∃ (j : Nat) (rs : List Rw), j ≤ m ∧ i = .int .i64 j ∧ rs.length = j + 1 ∧ joinL rs = [128, 128] ++ endsL g j ∧ (∀ r ∈ rs, RwArr wr 35 r) ∧ OwnV wr (w.heap.size + 2) 35 v (rs.map Rw.val) ∧ Arr wr w.heap.size 78 .u8 nm ∧ Arr wr (w.heap.size + 1) 26 .u8 (List.replicate 32 0) ∧ Below w.heap.size w wr) (fun _ i _ => m - (intOf i).toNat)
  case atStart => exact ⟨0, [⟨some ⟨w.heap.size + 1 + 1, 0, none⟩, 2, [128, 128]⟩], Nat.zero_le _, rfl, rfl, rfl, (by intro r hr; simp at hr; subst hr; exact A0), O0, N0, R0, B0⟩
  case round =>
    clear O0 N0 R0 B0 A0 z0
    obtain ⟨j, rs, hj, rfl, hrl, hjl, hrs, O, N, R, B⟩ := hrel
    by_cases hlt : j < m
    · have hgj := hg j hlt
      have hls := Lib.hid hgj.1
      have G := Lib.hid (hreach j wr hlt B)
      have hen := endsL_next g j
      have HE := Lib.hid hen
      have HJ := Lib.hid hjl
      have HR := Lib.hid hrl
      clear hen hjl hrl hreach hg
      generalize hgx : g j = x at *
      clear hgx
      have d1 : decide ((j : Int) < (m : Int)) = true := decide_eq_true (by omega)
      have d2 : decide (j < m) = true := decide_eq_true hlt
      obtain ⟨Av, cv, rfl, k1, k2⟩ := O.opened
      rw [List.length_map] at O k1 ⊢
      have zB : w.heap.size + 2 ≤ wr.heap.size := by have := Block.lt R; omega
      go_wp2_with (first
        | (have _t := G; go_at_call 64; refine G.out.mono ?_; clear _t; rintro e w2 ⟨rfl, hb⟩
           have O2 := O.below hb
           have N2 : Arr w2 w.heap.size 78 .u8 nm := Block.below N hb (Block.lt N)
           have R2 : Arr w2 (w.heap.size + 1) 26 .u8 (List.replicate 32 0) := Block.below R hb (Block.lt R)
           have B2 := B.trans (hb.mono B.size)
           have rs2 : ∀ r ∈ rs, RwArr w2 35 r := fun r hr => (hrs r hr).below hb
           have zB2 := Nat.le_trans zB hb.size
           have z2 := res_new w2 26
           clear G O N R B hrs zB hb)
        | (have _t := z2; refine wpList_store_arr rfl _ _ _ rfl (ys := x) z2 rfl rfl (by rw [hls.out]; rfl) (by rw [hls.out]; kernel_rfl) ?_; clear _t; intro w3 D3 g3
           have hb3 : Below w2.heap.size w2 w3 := below_fill (Below.refl _ _) (Nat.le_refl _) g3
           have O3 := O2.below hb3
           have N3 : Arr w3 w.heap.size 78 .u8 nm := Block.below N2 hb3 (Block.lt N2)
           have R3 : Arr w3 (w.heap.size + 1) 26 .u8 (List.replicate 32 0) := Block.below R2 hb3 (Block.lt R2)
           have B3 := B2.trans (hb3.mono B2.size)
           have rs3 : ∀ r ∈ rs, RwArr w3 35 r := fun r hr => (rs2 r hr).below hb3
           have A3 : RwArr w3 35 ⟨some ⟨w2.heap.size, 0, none⟩, x.length, x⟩ := RwArr.mk D3 (by decide) hgj.2 (by rw [hls.out]; decide)
           have zB3 := Nat.le_trans zB2 hb3.size
           rw [hls.out] at A3
           clear z2 O2 N2 R2 B2 rs2 g3 hb3 D3 zB2)
        | (have _t := A3; at_builtin; refine wpList_append_val rfl (.tmp 20) (.tmp 22) 97 rfl elemB O3 rfl (u := .slice (some ⟨w2.heap.size, 0, none⟩) 32 32) rfl rfl (by rw [List.length_map, HR.out]; omega) zB3 ?_; clear _t; intro v4 w4 O4 g4 hb4
           have N4 : Arr w4 w.heap.size 78 .u8 nm := Block.below N3 hb4 (by omega)
           have R4 : Arr w4 (w.heap.size + 1) 26 .u8 (List.replicate 32 0) := Block.below R3 hb4 (by omega)
           have B4 := B3.trans (hb4.mono (by omega))
           have rs4 : ∀ r ∈ rs ++ [(⟨some ⟨w2.heap.size, 0, none⟩, 32, x⟩ : Rw)], RwArr w4 35 r := fun r hr => by
             rcases List.mem_append.1 hr with hr | hr
             · exact ((rs3 r hr).below (below_last _ _)).grown (O3.alloc _) g4
             · simp at hr; subst hr; exact (A3.below (below_last _ _)).grown (O3.alloc _) g4
           have O5 : OwnV w4 (w.heap.size + 2) 35 v4 ((rs ++ [(⟨some ⟨w2.heap.size, 0, none⟩, 32, x⟩ : Rw)]).map Rw.val) := by
             rw [List.map_append]; simpa [Rw.val, hls.out] using O4
           clear O4 O3 N3 R3 B3 rs3 A3 g4 hb4 zB3))
      go_roundw
      case rel => exact ⟨j + 1, rs ++ [(⟨some ⟨w2.heap.size, 0, none⟩, 32, x⟩ : Rw)], hlt, by go_num, (by rw [List.length_append, HR.out]; rfl), (by rw [joinL_snoc, HJ.out, HE.out, List.append_assoc]), rs4, O5, N4, R4, B4⟩
      case measure => simp [intOf] <;> omega
    · obtain rfl : j = m := by omega
      have d1 : decide ((j : Int) < (j : Int)) = false := decide_eq_false (by omega)
      have d2 : decide (j < j) = false := decide_eq_false hlt
      obtain ⟨Av, cv, rfl, k1, k2⟩ := O.opened
      rw [List.length_map] at O k1 ⊢
      have G := Lib.hid (nsum_any nm HN.out hno Av rs cv wr k1 k2 (O.rows hrs) (by omega) (fun r hr => by obtain ⟨_, _, _, _, _, hl, _⟩ := hrs r hr; exact hl) (hL.below B))
      rw [hjl, HY.out] at G
      clear hjl hrl hrs O
      generalize rs.length = n at *
      go_wp2_with (first
        | (have _t := N; refine wpList_load_arr rfl _ _ rfl N rfl arr20 rfl (by rw [HN.out]; kernel_rfl) ?_)
        | (go_at_call 58; refine G.out.mono ?_; rintro e w5 ⟨rfl, hb5⟩; have r5 : Arr w5 (w.heap.size + 1) 26 .u8 (List.replicate 32 0) := Block.below R hb5 (Block.lt R); have b5 := B.trans (hb5.mono B.size))
        | (have _t := r5; refine wpList_store_arr rfl _ _ _ rfl r5 rfl rfl (by rw [hsl.out]; rfl) (by rw [hsl.out]; kernel_rfl) ?_; intro w9 r9 g9))
      refine bodyPost_ret (v := arrV .u8 ys) (results_cell_row rfl _ _ (w.heap.size + 1) 26 _ (0, 0) _ rfl r9 arr32D rfl (by rw [show (ys.map (Value.int .u8)).toArray.size = 32 by simp [hsl.out]]; kernel_rfl)) rfl ⟨rfl, ?_⟩
      exact b5.trans (below_of_grown g9 b5.size fun b hb => by injection hb with hb; omega)

end Go.Proofs.YtdfgdchmeikigaaDoor.Ot

namespace Go.Proofs.YtdfgdchmeikigaaDoor.Ot
open Go.ChangeShapes Go.WideShapes Go.ChangeAt Go.RowKit Go.Proofs.YtdfgdchmeikigaaDoor.Kit Go.Proofs.YtdfgdchmeikigaaDoor.Sha Go.Proofs.YtdfgdchmeikigaaDoor.Mk Go.Proofs.YtdfgdchmeikigaaDoor.Oct

/-- The end of the chain i; the public sum of a key. -/
def endL (nm : List Int) (k : Int) (seed : List Int) (i : Nat) : List Int := walkL nm i 0 (lastN k) (secL nm i seed)
def pubL (nm : List Int) (k : Int) (seed : List Int) : List Int := sumL (nm ++ ([128, 128] ++ endsL (endL nm k seed) (manyN k)))
theorem endL_d32 (nm : List Int) (k : Int) (seed : List Int) (i : Nat) : D32 (endL nm k seed i) := walkL_d32 (secL_d32 _ _ _)
/-- An array of 32 bytes, and an error's number. -/
def SumsN (xs : List Int) (n : Int) (w : World) (e : Ending) (w' : World) : Prop := e = .returned (.tuple #[arrV .u8 xs, .int .i64 n]) ∧ Below w.heap.size w w'
def zeros32 : List Int := List.replicate 32 0
theorem zeros32_d : D32 zeros32 := ⟨rfl, fun x hx => by unfold zeros32 at hx; obtain ⟨_, rfl⟩ := List.mem_replicate.1 hx; omega⟩
theorem arr16I : Tryd.prog.underlying 30 = some (.array 16 5) := Tryd.underlying30
theorem build_zeros (W : World) : (Instr.build 26 #[]).run Tryd.prog W = .ok (arrV .u8 zeros32) W := by kernel_rfl

set_option maxRecDepth 100000 in
set_option maxHeartbeats 6400000 in
theorem pub1_any (nm : List Int) (hnl : nm.length = 20) (hno : Octets nm) (k : Int) (hk : KindIn k) (seed : List Int) (hs : D32 seed) (p1 p2 p3 : Nat) (j : Nat) (hj : j ≤ 65535) (w : World) (hL : LaidS w)
    (h1 : Arr w p1 78 .u8 nm) (h2 : w.cell? ⟨p2, 0, none⟩ = some (.int .u32 k)) (h3 : Arr w p3 26 .u8 seed) :
    Calls Tryd.prog 50 #[.int .i64 j, .pointer (some ⟨p1, 0, none⟩), .pointer (some ⟨p2, 0, none⟩), .pointer (some ⟨p3, 0, none⟩)] w (Sums (endL nm k seed j) w) := by
  have hL0 := hL.below (below_last w (.cells ((List.replicate 32 (0 : Int)).map (Value.int .u8)).toArray 26))
  have N0 : Arr (w.alloc (.cells ((List.replicate 32 (0 : Int)).map (Value.int .u8)).toArray 26)) p1 78 .u8 nm := h1.alloc _
  have S0 : Arr (w.alloc (.cells ((List.replicate 32 (0 : Int)).map (Value.int .u8)).toArray 26)) p3 26 .u8 seed := h3.alloc _
  have B0 := below_last w (.cells ((List.replicate 32 (0 : Int)).map (Value.int .u8)).toArray 26)
  have lt2 := World.block_lt_of_cell? w _ h2
  have K0 : (w.alloc (.cells ((List.replicate 32 (0 : Int)).map (Value.int .u8)).toArray 26)).cell? ⟨p2, 0, none⟩ = some (.int .u32 k) := (World.cell?_alloc_lt _ _ _ lt2).trans h2
  have R0 := Arr.new w 26 .u8 (List.replicate 32 0)
  have GL := Lib.hid (fun W => last_any k hk W)
  have hiz : (0 : Int) ≤ (j : Int) ∧ (j : Int) ≤ 65535 := by omega
  have GS := Lib.hid (fun W (hb : Below w.heap.size w W) => secret_any nm hnl hno j hiz seed hs W (hL.below hb))
  have GW : Hid (∀ W, Below w.heap.size w W → Calls Tryd.prog 51 #[.agg (nm.map (Value.int .u8)).toArray, .int .i64 j, .int .i64 0, .int .i64 (lastN k), .agg ((secL nm j seed).map (Value.int .u8)).toArray] W (Sums (endL nm k seed j) W)) := Lib.hid (fun W hb => walk_any nm hnl hno j hiz 0 (lastN k) (Nat.zero_le _) (lastN_bd k) _ (secL_d32 _ _ _) W (hL.below hb))
  have hyl := Lib.hid (endL_d32 nm k seed j).1
  have hsl := Lib.hid (secL_d32 nm j seed).1
  have HN := Lib.hid hnl
  have HS := Lib.hid hs.1
  generalize endL nm k seed j = ys at *
  generalize secL nm j seed = sc at *
  generalize lastN k = ln at *
  have q1 : p1 < w.heap.size := h1.lt
  have q3 : p3 < w.heap.size := h3.lt
  have q2 : p2 < w.heap.size := lt2
  clear hk hs hnl h1 h2 h3 lt2
  go_enter Tryd.func50, Tryd.ntmps50
  go_wp2_with fail
  obtain ⟨W, hW⟩ : ∃ W, w.alloc (.cells ((List.replicate 32 (0 : Int)).map (Value.int .u8)).toArray 26) = W := ⟨_, rfl⟩
  change Code.wp _ _ _ _ (World.alloc w (.cells ((List.replicate 32 (0 : Int)).map (Value.int .u8)).toArray 26))
  rw [hW] at N0 S0 K0 R0 B0 ⊢
  clear hW hL0
  have N0 := N0.drewN 1
  have S0 := S0.drewN 1
  have R0 := R0.drewN 1
  have B0 := below_draws B0 1
  have K0 : (W.drewN 1).cell? ⟨p2, 0, none⟩ = some (.int .u32 k) := K0
  refine wp_region_held_drew (S := (fun W => Arr W p1 78 .u8 nm ∧ W.cell? ⟨p2, 0, none⟩ = some (.int .u32 k) ∧ Arr W p3 26 .u8 seed)) (by kernel_rfl) ⟨N0, K0, S0⟩ (fun hS => ?_)
  refine wpAnyH_take (i := 0) (v := .agg (nm.map (Value.int .u8)).toArray) rfl (by kernel_rfl) (by kernel_rfl) (by kernel_rfl) (fun _ _ _ h => h) (yieldsIf_load_mid (by rfl) _ _ rfl p1 0 rfl (nm.map (Value.int .u8)) _ (fun W hW => Arr.range hW.1) arr20 rfl (by rw [List.length_map, HN.out]; kernel_rfl)) hS ?_
  try simp only [Act.put, List.setIfInBounds_toArray, List.set_cons_zero, List.set_cons_succ]
  refine wpAnyH_take (i := 1) (v := .int .i64 j) rfl (by kernel_rfl) (by kernel_rfl) (by kernel_rfl) (fun _ _ _ h => h) (Or.inl ⟨by rfl, fun W hW => by go_simp⟩) hS ?_
  try simp only [Act.put, List.setIfInBounds_toArray, List.set_cons_zero, List.set_cons_succ]
  refine wpAnyH_take (i := 2) (v := .int .u32 k) rfl (by kernel_rfl) (by kernel_rfl) (by kernel_rfl) (fun _ _ _ h => h) (Or.inl ⟨by rfl, fun W hW => by obtain ⟨_, hc, _⟩ := hW; go_simp⟩) hS ?_
  try simp only [Act.put, List.setIfInBounds_toArray, List.set_cons_zero, List.set_cons_succ]
  refine wpAnyH_take (i := 4) (v := .agg (nm.map (Value.int .u8)).toArray) rfl (by kernel_rfl) (by kernel_rfl) (by kernel_rfl) (fun _ _ _ h => h) (yieldsIf_load_mid (by rfl) _ _ rfl p1 0 rfl (nm.map (Value.int .u8)) _ (fun W hW => Arr.range hW.1) arr20 rfl (by rw [List.length_map, HN.out]; kernel_rfl)) hS ?_
  try simp only [Act.put, List.setIfInBounds_toArray, List.set_cons_zero, List.set_cons_succ]
  refine wpAnyH_take (i := 5) (v := .int .i64 j) rfl (by kernel_rfl) (by kernel_rfl) (by kernel_rfl) (fun _ _ _ h => h) (Or.inl ⟨by rfl, fun W hW => by go_simp⟩) hS ?_
  try simp only [Act.put, List.setIfInBounds_toArray, List.set_cons_zero, List.set_cons_succ]
  refine wpAnyH_take (i := 6) (v := .agg (seed.map (Value.int .u8)).toArray) rfl (by kernel_rfl) (by kernel_rfl) (by kernel_rfl) (fun _ _ _ h => h) (yieldsIf_load_mid (by rfl) _ _ rfl p3 0 rfl (seed.map (Value.int .u8)) _ (fun W hW => Arr.range hW.2.2) arr32D rfl (by rw [List.length_map, HS.out]; kernel_rfl)) hS ?_
  try simp only [Act.put, List.setIfInBounds_toArray, List.set_cons_zero, List.set_cons_succ]
  obtain ⟨x0, e0⟩ : ∃ x0, x0 = W.drew := ⟨_, rfl⟩
  have N0 : Arr x0 p1 78 .u8 nm := by rw [e0]; exact N0
  have S0 : Arr x0 p3 26 .u8 seed := by rw [e0]; exact S0
  have R0 : Arr x0 w.heap.size 26 .u8 (List.replicate 32 0) := by rw [e0]; exact R0
  have B0 : Below w.heap.size w x0 := by rw [e0]; exact B0
  have K0 : x0.cell? ⟨p2, 0, none⟩ = some (.int .u32 k) := by rw [e0]; exact K0
  rw [← e0] at hS ⊢
  clear e0
  refine wpAnyH_ready (rs := [3]) (by kernel_rfl) (by simp) ?_
  refine AllReadyH.cons rfl (fun K hK => ?_) AllReadyH.nil
  go_simp
  go_at_call 52
  refine (GL.out _).mono ?_
  rintro e _ ⟨rfl, rfl⟩
  refine hK.out _ _ ⟨N0, K0, S0⟩ (fun hS => ?_)
  clear hK K
  try simp only [Act.put, List.setIfInBounds_toArray, List.set_cons_zero, List.set_cons_succ]
  refine wpAnyH_ready (rs := [7]) (by kernel_rfl) (by simp) ?_
  refine AllReadyH.cons rfl (fun K hK => ?_) AllReadyH.nil
  go_simp
  go_at_call 53
  refine (GS.out _ B0).mono ?_
  rintro e x1 ⟨rfl, h⟩
  have N1 : Arr x1 p1 78 .u8 nm := Block.below N0 h (Block.lt N0)
  have S1 : Arr x1 p3 26 .u8 seed := Block.below S0 h (Block.lt S0)
  have R1 : Arr x1 w.heap.size 26 .u8 (List.replicate 32 0) := Block.below R0 h (Block.lt R0)
  have K1 : x1.cell? ⟨p2, 0, none⟩ = some (.int .u32 k) := (h.cell (p := ⟨p2, 0, none⟩) (Nat.lt_of_lt_of_le q2 B0.size)).trans K0
  have B1 := B0.trans (h.mono B0.size)
  refine hK.out _ _ ⟨N1, K1, S1⟩ (fun hS => ?_)
  clear hK K
  try simp only [Act.put, List.setIfInBounds_toArray, List.set_cons_zero, List.set_cons_succ]
  refine wpAnyH_ready (rs := [8]) (by kernel_rfl) (by simp) ?_
  refine AllReadyH.cons rfl (fun K hK => ?_) AllReadyH.nil
  go_simp
  go_at_call 51
  refine (GW.out _ B1).mono ?_
  rintro e x2 ⟨rfl, h⟩
  have N2 : Arr x2 p1 78 .u8 nm := Block.below N1 h (Block.lt N1)
  have S2 : Arr x2 p3 26 .u8 seed := Block.below S1 h (Block.lt S1)
  have R2 : Arr x2 w.heap.size 26 .u8 (List.replicate 32 0) := Block.below R1 h (Block.lt R1)
  have K2 : x2.cell? ⟨p2, 0, none⟩ = some (.int .u32 k) := (h.cell (p := ⟨p2, 0, none⟩) (Nat.lt_of_lt_of_le q2 B1.size)).trans K1
  have B2 := B1.trans (h.mono B1.size)
  refine hK.out _ _ ⟨N2, K2, S2⟩ (fun hS => ?_)
  clear hK K
  try simp only [Act.put, List.setIfInBounds_toArray, List.set_cons_zero, List.set_cons_succ]
  refine wpAnyH_ready (rs := [9]) (by kernel_rfl) (by simp) ?_
  refine AllReadyH.cons rfl (fun K hK => ?_) AllReadyH.nil
  refine step_store_arr rfl _ _ _ rfl (ys := ys) R2 rfl rfl (by rw [hyl.out]; rfl) (by rw [hyl.out]; kernel_rfl) ?_
  intro x3 R3 g3
  have N3 : Arr x3 p1 78 .u8 nm := Arr.grown N2 g3 (by intro e; injection e with e; omega)
  have S3 : Arr x3 p3 26 .u8 seed := Arr.grown S2 g3 (by intro e; injection e with e; omega)
  have K3 : x3.cell? ⟨p2, 0, none⟩ = some (.int .u32 k) := g3.cell K2 (by show some p2 ≠ some w.heap.size; intro e; injection e with e; omega)
  refine hK.out _ _ ⟨N3, K3, S3⟩ (fun hS => ?_)
  clear hK K
  try simp only [Act.put, List.setIfInBounds_toArray, List.set_cons_zero, List.set_cons_succ]
  refine wpAnyH_done (by kernel_rfl) ?_ _
  go_wp2_with fail
  refine bodyPost_ret (v := arrV .u8 ys) (results_cell_row rfl _ _ w.heap.size 26 _ (0, 0) _ rfl R3 arr32D rfl (by rw [show (ys.map (Value.int .u8)).toArray.size = 32 by simp [hyl.out]]; kernel_rfl)) rfl ⟨rfl, ?_⟩
  exact B2.trans (below_of_grown g3 B2.size fun b hb => by injection hb with hb; omega)

set_option maxRecDepth 100000 in
set_option maxHeartbeats 6400000 in
theorem public_no (k : Int) (hk : ¬ KindIn k) (id : List Int) (q : Int) (seed : List Int) (w : World) :
    Calls Tryd.prog 18 #[.int .u32 k, .agg (id.map (Value.int .u8)).toArray, .int .u32 q, .agg (seed.map (Value.int .u8)).toArray] w (SumsN zeros32 21 w) := by
  have bb : ∀ o p y z, Below w.heap.size w ((((w.alloc o).alloc p).alloc y).alloc z) := fun o p y z => ((below_two' o p).alloc (by simp; omega) y).alloc (by simp; omega) z
  have r0 : ∀ o p y, Arr ((((w.alloc o).alloc p).alloc y).alloc (.cells ((List.replicate 32 (0 : Int)).map (Value.int .u8)).toArray 26)) (w.heap.size + 1 + 1 + 1) 26 .u8 (List.replicate 32 0) := fun o p y => by
    have := Arr.new (((w.alloc o).alloc p).alloc y) 26 .u8 (List.replicate 32 0)
    rwa [show (((w.alloc o).alloc p).alloc y).heap.size = w.heap.size + 1 + 1 + 1 by simp] at this
  have r0 := r0 (.cells #[.int .u32 k] 22) (.cells (id.map (Value.int .u8)).toArray 30) (.cells (seed.map (Value.int .u8)).toArray 26)
  have hc : chainsN k = 0 := by rw [chains_many, (kind_none hk).2.1]; rfl
  have GC := Lib.hid (fun W => chains_any k W)
  rw [hc] at GC
  clear hc
  have Hz := Lib.hid (show zeros32.length = 32 from rfl)
  have hBz := build_zeros
  generalize zeros32 = ys at *
  go_enter Tryd.func18, Tryd.ntmps18
  go_wp2_with (first
    | (go_at_call 16; refine (GC.out _).mono ?_; rintro e w1 ⟨rfl, rfl⟩)
    | (refine wpList_build_known rfl _ _ rfl (arrV .u8 ys) (fun W => by simpa using hBz W) ?_)
    | (have _t := r0; refine wpList_store_arr rfl _ _ _ rfl (ys := ys) r0 rfl rfl (by rw [Hz.out]; rfl) (by rw [Hz.out]; kernel_rfl) ?_; intro w9 r9 g9))
  refine bodyPost_ret (v := .tuple #[arrV .u8 ys, .int .i64 21]) (results_row_tmp rfl _ _ (w.heap.size + 1 + 1 + 1) 26 _ (0, 0) _ rfl r9 _ rfl arr32D rfl (by rw [show (ys.map (Value.int .u8)).toArray.size = 32 by simp [Hz.out]]; kernel_rfl)) rfl ⟨rfl, ?_⟩
  exact (bb _ _ _ _).trans (below_of_grown g9 (by simp; omega) fun b hb => by injection hb with hb; omega)

set_option maxRecDepth 100000 in
set_option maxHeartbeats 6400000 in
theorem public_in (k : Int) (hk : KindIn k) (id : List Int) (hid : id.length = 16) (hio : Octets id) (q : Int) (hq : 0 ≤ q ∧ q < 4294967296) (seed : List Int) (hs : D32 seed) (w : World) (hL : LaidS w) :
    Calls Tryd.prog 18 #[.int .u32 k, .agg (id.map (Value.int .u8)).toArray, .int .u32 q, .agg (seed.map (Value.int .u8)).toArray] w (SumsN (pubL (nmL id q) k seed) 0 w) := by
  have bb : ∀ o p y z, Below w.heap.size w ((((w.alloc o).alloc p).alloc y).alloc z) := fun o p y z => ((below_two' o p).alloc (by simp; omega) y).alloc (by simp; omega) z
  have r0 : ∀ o p y, Arr ((((w.alloc o).alloc p).alloc y).alloc (.cells ((List.replicate 32 (0 : Int)).map (Value.int .u8)).toArray 26)) (w.heap.size + 1 + 1 + 1) 26 .u8 (List.replicate 32 0) := fun o p y => by
    have := Arr.new (((w.alloc o).alloc p).alloc y) 26 .u8 (List.replicate 32 0)
    rwa [show (((w.alloc o).alloc p).alloc y).heap.size = w.heap.size + 1 + 1 + 1 by simp] at this
  have k0 : ∀ p y z, Block ((((w.alloc (.cells #[.int .u32 k] 22)).alloc p).alloc y).alloc z) w.heap.size 22 #[.int .u32 k] := fun p y z => (((Block.new w _ _).alloc p).alloc y).alloc z
  have i0 : ∀ o y z, Arr ((((w.alloc o).alloc (.cells (id.map (Value.int .u8)).toArray 30)).alloc y).alloc z) (w.heap.size + 1) 30 .u8 id := fun o y z => by
    have := ((Arr.new (w.alloc o) 30 .u8 id).alloc y).alloc z
    rwa [show (w.alloc o).heap.size = w.heap.size + 1 by simp] at this
  have s0 : ∀ o p z, Arr ((((w.alloc o).alloc p).alloc (.cells (seed.map (Value.int .u8)).toArray 26)).alloc z) (w.heap.size + 1 + 1) 26 .u8 seed := fun o p z => by
    have := (Arr.new ((w.alloc o).alloc p) 26 .u8 seed).alloc z
    rwa [show ((w.alloc o).alloc p).heap.size = w.heap.size + 1 + 1 by simp] at this
  have r0 := r0 (.cells #[.int .u32 k] 22) (.cells (id.map (Value.int .u8)).toArray 30) (.cells (seed.map (Value.int .u8)).toArray 26)
  have k0 := k0 (.cells (id.map (Value.int .u8)).toArray 30) (.cells (seed.map (Value.int .u8)).toArray 26) (.cells ((List.replicate 32 (0 : Int)).map (Value.int .u8)).toArray 26)
  have i0 := i0 (.cells #[.int .u32 k] 22) (.cells (seed.map (Value.int .u8)).toArray 26) (.cells ((List.replicate 32 (0 : Int)).map (Value.int .u8)).toArray 26)
  have s0 := s0 (.cells #[.int .u32 k] 22) (.cells (id.map (Value.int .u8)).toArray 30) (.cells ((List.replicate 32 (0 : Int)).map (Value.int .u8)).toArray 26)
  have b0 := bb (.cells #[.int .u32 k] 22) (.cells (id.map (Value.int .u8)).toArray 30) (.cells (seed.map (Value.int .u8)).toArray 26) (.cells ((List.replicate 32 (0 : Int)).map (Value.int .u8)).toArray 26)
  have hm := (kind_wide hk).2.1
  have hmb := manyN_bd k
  have dm : decide ((manyN k : Int) = 0) = false := decide_eq_false (by omega)
  have dm2 : ((manyN k : Int) == 0) = false := by rw [beq_eq_false_iff_ne]; omega
  have GC := Lib.hid (fun W => chains_any k W)
  rw [chains_many] at GC
  have hnl := nmL_length (q := q) hid
  have hno := nmL_octets (q := q) hio
  have GN := Lib.hid (fun W => nameOf_any id hid hio q hq W)
  have HI := Lib.hid hid
  have HNl := Lib.hid hnl
  have GP : Hid (∀ W (p1 p2 p3 : Nat), Arr W p1 78 .u8 (nmL id q) → W.cell? ⟨p2, 0, none⟩ = some (.int .u32 k) → Arr W p3 26 .u8 seed → Below w.heap.size w W → Calls Tryd.prog 49 #[.agg ((nmL id q).map (Value.int .u8)).toArray, .int .u32 k, .func (.func 50) #[] #[.pointer (some ⟨p1, 0, none⟩), .pointer (some ⟨p2, 0, none⟩), .pointer (some ⟨p3, 0, none⟩)]] W (Sums (pubL (nmL id q) k seed) W)) := Lib.hid (fun W p1 p2 p3 hA hC hD hB => public3_any (nmL id q) hnl hno k hk p1 p2 p3 (endL (nmL id q) k seed) (fun j _ => endL_d32 _ _ _ j) W (hL.below hB) (fun j W' hj hb => pub1_any (nmL id q) hnl hno k hk seed hs p1 p2 p3 j (by omega) W' (hL.below (hB.trans (hb.mono hB.size))) (Block.below hA hb (Block.lt hA)) ((hb.cell (p := ⟨p2, 0, none⟩) (World.block_lt_of_cell? W _ hC)).trans hC) (Block.below hD hb (Block.lt hD))))
  have hyl := Lib.hid (show (pubL (nmL id q) k seed).length = 32 from sumL_length _)
  generalize pubL (nmL id q) k seed = ys at *
  generalize nmL id q = nm at *
  clear hm hmb hnl hno hid hio hk hs bb
  generalize manyN k = m at *
  go_enter Tryd.func18, Tryd.ntmps18
  go_wp2_with (first
    | (go_at_call 16; refine (GC.out _).mono ?_; rintro e w1 ⟨rfl, rfl⟩)
    | (have _t := i0; refine wpList_load_arr rfl _ _ rfl i0 rfl arr16I rfl (by rw [HI.out]; kernel_rfl) ?_)
    | (have _t := b0; go_at_call 48; refine (GN.out _).mono ?_; clear _t; rintro e w2 ⟨rfl, hb⟩
       have k2 : Block w2 w.heap.size 22 #[.int .u32 k] := Block.below k0 hb (Block.lt k0)
       have s2 : Arr w2 (w.heap.size + 1 + 1) 26 .u8 seed := Block.below s0 hb (Block.lt s0)
       have r2 : Arr w2 (w.heap.size + 1 + 1 + 1) 26 .u8 (List.replicate 32 0) := Block.below r0 hb (Block.lt r0)
       have b2 := b0.trans (hb.mono b0.size)
       have z2 : Arr (w2.alloc (.cells ((List.replicate 20 (0 : Int)).map (Value.int .u8)).toArray 78)) w2.heap.size 78 .u8 (List.replicate 20 0) := Arr.new w2 78 .u8 (List.replicate 20 0)
       clear k0 s0 r0 b0 hb i0)
    | (have _t := z2; refine wpList_store_arr rfl _ _ _ rfl (ys := nm) z2 rfl rfl (by rw [HNl.out]; rfl) (by rw [HNl.out]; kernel_rfl) ?_; clear _t; intro w3 n3 g3
       have hb3 : Below w2.heap.size w2 w3 := below_fill (Below.refl _ _) (Nat.le_refl _) g3
       have k3 : Block w3 w.heap.size 22 #[.int .u32 k] := Block.below k2 hb3 (Block.lt k2)
       have s3 : Arr w3 (w.heap.size + 1 + 1) 26 .u8 seed := Block.below s2 hb3 (Block.lt s2)
       have r3 : Arr w3 (w.heap.size + 1 + 1 + 1) 26 .u8 (List.replicate 32 0) := Block.below r2 hb3 (Block.lt r2)
       have b3 := b2.trans (hb3.mono b2.size)
       have c3 : w3.cell? ⟨w.heap.size, 0, none⟩ = some (.int .u32 k) := k3.cell 0
       have G := Lib.hid (GP.out w3 w2.heap.size w.heap.size (w.heap.size + 1 + 1) n3 c3 s3 b3)
       clear z2 k2 s2 r2 b2 g3 hb3)
    | (have _t := n3; refine wpList_load_arr rfl _ _ rfl n3 rfl arr20 rfl (by rw [HNl.out]; kernel_rfl) ?_)
    | (have _t := G; go_at_call 49; refine G.out.mono ?_; clear _t; rintro e w4 ⟨rfl, hb⟩
       have r4 : Arr w4 (w.heap.size + 1 + 1 + 1) 26 .u8 (List.replicate 32 0) := Block.below r3 hb (Block.lt r3)
       have b4 := b3.trans (hb.mono b3.size)
       clear G r3 hb)
    | (have _t := r4; refine wpList_store_arr rfl _ _ _ rfl (ys := ys) r4 rfl rfl (by rw [hyl.out]; rfl) (by rw [hyl.out]; kernel_rfl) ?_; intro w9 r9 g9))
  refine bodyPost_ret (v := .tuple #[arrV .u8 ys, .int .i64 0]) (results_row_tmp rfl _ _ (w.heap.size + 1 + 1 + 1) 26 _ (0, 0) _ rfl r9 _ rfl arr32D rfl (by rw [show (ys.map (Value.int .u8)).toArray.size = 32 by simp [hyl.out]]; kernel_rfl)) rfl ⟨rfl, ?_⟩
  exact b4.trans (below_of_grown g9 b4.size fun b hb => by injection hb with hb; omega)
end Go.Proofs.YtdfgdchmeikigaaDoor.Ot
