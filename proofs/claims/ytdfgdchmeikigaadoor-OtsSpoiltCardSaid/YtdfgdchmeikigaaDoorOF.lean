/-
  Layer 3, ots: the document's public sum: contracts. Conditions: as each theorem names.
  Layer 3, ots: the document's signature: contracts. Conditions: as each theorem names.
-/
import Derived.Test.YtdfgdchmeikigaaDoorOB
import Derived.Test.YtdfgdchmeikigaaDoorOE
namespace Go.Proofs.YtdfgdchmeikigaaDoor.Ot
open Go.ChangeShapes Go.WideShapes Go.ChangeAt Go.RowKit Go.Proofs.YtdfgdchmeikigaaDoor.Kit Go.Proofs.YtdfgdchmeikigaaDoor.Sha Go.Proofs.YtdfgdchmeikigaaDoor.Mk Go.Proofs.YtdfgdchmeikigaaDoor.Oct

theorem rbuild_zeros (W : World) : (Instr.build 24 #[]).run Tryd.prog W = .ok (arrV .u8 zeros32) W := by kernel_rfl
theorem endsL_octets {g : Nat → List Int} (h : ∀ i, D32 (g i)) (n : Nat) : Octets (endsL g n) := by
  intro x hx
  obtain ⟨i, _, hx⟩ := List.mem_flatMap.1 hx
  exact (h i).2 x hx

set_option maxRecDepth 100000 in
set_option maxHeartbeats 6400000 in
theorem rpublic_no (k : Int) (hk : ¬ KindIn k) (id : List Int) (q : Int) (seed : List Int) (w : World) :
    Calls Tryd.prog 19 #[.int .u32 k, .agg (id.map (Value.int .u8)).toArray, .int .u32 q, .agg (seed.map (Value.int .u8)).toArray] w (SumsN zeros32 21 w) := by
  have bb : ∀ o p y, Below w.heap.size w (((w.alloc o).alloc p).alloc y) := fun o p y => (below_two' o p).alloc (by simp; omega) y
  have r0 : Arr (((w.alloc (.cells (id.map (Value.int .u8)).toArray 23)).alloc (.cells (seed.map (Value.int .u8)).toArray 24)).alloc (.cells ((List.replicate 32 (0 : Int)).map (Value.int .u8)).toArray 24)) (w.heap.size + 1 + 1) 24 .u8 (List.replicate 32 0) := by
    have := Arr.new ((w.alloc (.cells (id.map (Value.int .u8)).toArray 23)).alloc (.cells (seed.map (Value.int .u8)).toArray 24)) 24 .u8 (List.replicate 32 0)
    rwa [show ((w.alloc (.cells (id.map (Value.int .u8)).toArray 23)).alloc (.cells (seed.map (Value.int .u8)).toArray 24)).heap.size = w.heap.size + 1 + 1 by simp] at this
  have GC := Lib.hid (fun W => rwide_any k W)
  rw [(kind_none hk).1] at GC
  have Hz := Lib.hid (show zeros32.length = 32 from rfl)
  have hBz := rbuild_zeros
  generalize zeros32 = ys at *
  go_enter Tryd.func19, Tryd.ntmps19
  go_wp2_with (first
    | (go_at_call 15; refine (GC.out _).mono ?_; rintro e w1 ⟨rfl, rfl⟩)
    | (refine wpList_build_known rfl _ _ rfl (arrV .u8 ys) (fun W => by simpa using hBz W) ?_)
    | (have _t := r0; refine wpList_store_arr rfl _ _ _ rfl (ys := ys) r0 rfl rfl (by rw [Hz.out]; rfl) (by rw [Hz.out]; kernel_rfl) ?_; intro w9 r9 g9))
  refine bodyPost_ret (v := .tuple #[arrV .u8 ys, .int .i64 21]) (results_row_tmp rfl _ _ (w.heap.size + 1 + 1) 24 _ (0, 0) _ rfl r9 _ rfl arr32A rfl (by rw [show (ys.map (Value.int .u8)).toArray.size = 32 by simp [Hz.out]]; kernel_rfl)) rfl ⟨rfl, ?_⟩
  exact (bb _ _ _).trans (below_of_grown g9 (bb _ _ _).size fun b hb => by injection hb with hb; omega)

set_option maxRecDepth 100000 in
set_option maxHeartbeats 12800000 in
theorem rpublic_in (k : Int) (hk : KindIn k) (id : List Int) (hid : id.length = 16) (hio : Octets id) (q : Int) (hq : 0 ≤ q ∧ q < 4294967296) (seed : List Int) (hs : D32 seed) (w : World) :
    Calls Tryd.prog 19 #[.int .u32 k, .agg (id.map (Value.int .u8)).toArray, .int .u32 q, .agg (seed.map (Value.int .u8)).toArray] w (SumsN (pubL (nmL id q) k seed) 0 w) := by
  have bb : ∀ o p y, Below w.heap.size w (((w.alloc o).alloc p).alloc y) := fun o p y => (below_two' o p).alloc (by simp; omega) y
  have r0 : Arr (((w.alloc (.cells (id.map (Value.int .u8)).toArray 23)).alloc (.cells (seed.map (Value.int .u8)).toArray 24)).alloc (.cells ((List.replicate 32 (0 : Int)).map (Value.int .u8)).toArray 24)) (w.heap.size + 2) 24 .u8 (List.replicate 32 0) := by
    have := Arr.new ((w.alloc (.cells (id.map (Value.int .u8)).toArray 23)).alloc (.cells (seed.map (Value.int .u8)).toArray 24)) 24 .u8 (List.replicate 32 0)
    rwa [show ((w.alloc (.cells (id.map (Value.int .u8)).toArray 23)).alloc (.cells (seed.map (Value.int .u8)).toArray 24)).heap.size = w.heap.size + 2 by simp] at this
  have i0 : Arr (((w.alloc (.cells (id.map (Value.int .u8)).toArray 23)).alloc (.cells (seed.map (Value.int .u8)).toArray 24)).alloc (.cells ((List.replicate 32 (0 : Int)).map (Value.int .u8)).toArray 24)) w.heap.size 23 .u8 id := ((Arr.new w _ _ _).alloc _).alloc _
  have s0 : Arr (((w.alloc (.cells (id.map (Value.int .u8)).toArray 23)).alloc (.cells (seed.map (Value.int .u8)).toArray 24)).alloc (.cells ((List.replicate 32 (0 : Int)).map (Value.int .u8)).toArray 24)) (w.heap.size + 1) 24 .u8 seed := by
    have := (Arr.new (w.alloc (.cells (id.map (Value.int .u8)).toArray 23)) 24 .u8 seed).alloc (.cells ((List.replicate 32 (0 : Int)).map (Value.int .u8)).toArray 24)
    rwa [show (w.alloc (.cells (id.map (Value.int .u8)).toArray 23)).heap.size = w.heap.size + 1 by simp] at this
  have b0 := bb (.cells (id.map (Value.int .u8)).toArray 23) (.cells (seed.map (Value.int .u8)).toArray 24) (.cells ((List.replicate 32 (0 : Int)).map (Value.int .u8)).toArray 24)
  have z0 : (((w.alloc (.cells (id.map (Value.int .u8)).toArray 23)).alloc (.cells (seed.map (Value.int .u8)).toArray 24)).alloc (.cells ((List.replicate 32 (0 : Int)).map (Value.int .u8)).toArray 24)).heap.size = w.heap.size + 3 := by simp
  have hkw := kind_wide hk
  have hwz : decide (wideN k = 0) = false := decide_eq_false (by omega)
  have hwz2 : (wideN k == 0) = false := by rw [beq_eq_false_iff_ne]; omega
  have hk0 : 0 ≤ k ∧ k < 4294967296 := by unfold KindIn at hk; omega
  have GC := Lib.hid (fun W => rwide_any k W)
  have GH := Lib.hid (fun W => rchains_any k hk0 W)
  have GT := Lib.hid (fun W => steps_any k hk W)
  have hmb := manyN_bd k
  have hyl := Lib.hid (show (pubL (nmL id q) k seed).length = 32 from sumL_length _)
  have GE := Lib.hid (fun W A c (h : Holds W W.heap.size .u8 A (endsL (endL (nmL id q) k seed) (manyN k))) => rended_any id hid hio q hq A (endsL (endL (nmL id q) k seed) (manyN k)) c W (by rw [endsL_length fun i => (endL_d32 _ _ _ i).1]; omega) (endsL_octets (endL_d32 _ _ _) _) h)
  change Hid (∀ (W : World) (A : Option Addr) (c : Nat), _ → Calls _ _ _ _ (Sums (pubL (nmL id q) k seed) W)) at GE
  have GS := Lib.hid (fun (j : Nat) (hj : j < manyN k) W => rsecret_any id hid hio q hq j (by omega) seed hs W)
  have GW := Lib.hid (fun (j : Nat) (hj : j < manyN k) W => (show Calls Tryd.prog 54 #[.agg (id.map (Value.int .u8)).toArray, .int .u32 q, .int .i64 j, .int .i64 0, .int .i64 (lastN k), .agg ((secL (nmL id q) j seed).map (Value.int .u8)).toArray] W (Sums (endL (nmL id q) k seed j) W) from rwalk_any id hid hio q hq j (by omega) 0 (lastN k) (Nat.zero_le _) (lastN_bd k) _ (secL_d32 _ _ _) W))
  have HON := Lib.hid (endsL_next (endL (nmL id q) k seed))
  have HOL := Lib.hid (endsL_length (g := endL (nmL id q) k seed) fun i => (endL_d32 _ _ _ i).1)
  have HGL := Lib.hid (fun j => (endL_d32 (nmL id q) k seed j).1)
  have HSL := Lib.hid (fun j : Nat => (secL_d32 (nmL id q) j seed).1)
  have HI := Lib.hid hid
  have HS := Lib.hid hs.1
  generalize pubL (nmL id q) k seed = ys at *
  generalize endL (nmL id q) k seed = g at *
  generalize nmL id q = nm at *
  clear hid hio hs hk hkw bb
  generalize manyN k = m at *
  generalize lastN k = ln at *
  generalize wideN k = wd at *
  go_enter Tryd.func19, Tryd.ntmps19
  go_wp2_with (go_at_call 15; refine (GC.out _).mono ?_; rintro e w1 ⟨rfl, rfl⟩)
  obtain ⟨W, hW⟩ : ∃ W, (((w.alloc (.cells (id.map (Value.int .u8)).toArray 23)).alloc (.cells (seed.map (Value.int .u8)).toArray 24)).alloc (.cells ((List.replicate 32 (0 : Int)).map (Value.int .u8)).toArray 24)) = W := ⟨_, rfl⟩
  change Code.wp _ _ _ _ (World.alloc (World.alloc (World.alloc (World.alloc w _) _) (.cells ((List.replicate 32 (0 : Int)).map (Value.int .u8)).toArray 24)) _)
  rw [hW] at r0 i0 s0 b0 z0 ⊢
  have o0 := Own.empty (B := w.heap.size + 3) W 5 .u8 (by omega)
  have r0 := r0.alloc (.cells #[] 5)
  have i0 := i0.alloc (.cells #[] 5)
  have s0 := s0.alloc (.cells #[] 5)
  have b0 := b0.trans ((below_last W (.cells #[] 5)).mono b0.size)
  have p0 : w.heap.size + 3 ≤ (W.alloc (.cells #[] 5)).heap.size := by simp; omega
  rw [z0] at o0
  clear hW z0
  go_loopw [10, 11] (fun v i wr => ∃ (j : Nat) (v' : Value), v' = v ∧ j ≤ m ∧ i = .int .i64 j ∧ Own wr (w.heap.size + 3) 5 .u8 v' (endsL g j) ∧ Arr wr w.heap.size 23 .u8 id ∧ Arr wr (w.heap.size + 1) 24 .u8 seed ∧ Arr wr (w.heap.size + 2) 24 .u8 (List.replicate 32 0) ∧ Below w.heap.size w wr ∧ w.heap.size + 3 ≤ wr.heap.size) (fun _ i _ => m - (intOf i).toNat)
  case atStart => exact ⟨0, _, rfl, Nat.zero_le _, rfl, o0, i0, s0, r0, b0, p0⟩
  case round =>
    clear o0 i0 s0 r0 b0 p0 GC
    obtain ⟨j, v, rfl, hj, rfl, o, n, s, r, b, p⟩ := hrel
    by_cases hlt : j < m
    · have GS := Lib.hid (GS.out j hlt)
      have GW := Lib.hid (GW.out j hlt)
      have HX := Lib.hid (HGL.out j)
      have HSc := Lib.hid (HSL.out j)
      have HO := Lib.hid (HON.out j)
      have HL := Lib.hid (HOL.out j)
      generalize g j = x at *
      generalize secL nm j seed = sc at *
      have d1 : decide ((j : Int) < (m : Int)) = true := decide_eq_true (by omega)
      have d2 : decide (j < m) = true := decide_eq_true hlt
      go_wp2_with (first
        | (go_at_call 13; refine (GH.out _).mono ?_; rintro e w1 ⟨rfl, hb⟩
           have o1 := o.below hb
           have n1 : Arr w1 w.heap.size 23 .u8 id := Block.below n hb (Block.lt n)
           have s1 : Arr w1 (w.heap.size + 1) 24 .u8 seed := Block.below s hb (Block.lt s)
           have r1 : Arr w1 (w.heap.size + 2) 24 .u8 (List.replicate 32 0) := Block.below r hb (Block.lt r)
           have b1 := b.trans (hb.mono b.size)
           have p1 := Nat.le_trans p hb.size
           clear o n s r b p hb))
      have n4 := n1.drewN 1
      have s4 := s1.drewN 1
      have r4 := r1.drewN 1
      have b4 := below_draws b1 1
      have o4 : Own (w1.drewN 1) (w.heap.size + 3) 5 .u8 v (endsL g j) := o1
      have p4 : w.heap.size + 3 ≤ (w1.drewN 1).heap.size := p1
      clear n1 s1 r1 b1 o1 p1
      refine wp_region_held_drew (S := (fun W => Arr W w.heap.size 23 .u8 id ∧ Arr W (w.heap.size + 1) 24 .u8 seed)) (by kernel_rfl) ⟨n4, s4⟩ (fun hS => ?_)
      refine wpAnyH_take (i := 0) (v := .agg (id.map (Value.int .u8)).toArray) rfl (by kernel_rfl) (by kernel_rfl) (by kernel_rfl) (fun _ _ _ h => h) (yieldsIf_load_mid (by rfl) _ _ rfl w.heap.size 0 rfl (id.map (Value.int .u8)) _ (fun W hW => Arr.range hW.1) arr16 rfl (by rw [List.length_map, HI.out]; kernel_rfl)) hS ?_
      try simp only [Act.put, List.setIfInBounds_toArray, List.set_cons_zero, List.set_cons_succ]
      refine wpAnyH_take (i := 1) (oi := ⟨some 25, _, _, _, _, _⟩) (v := .int .u32 q) rfl (by kernel_rfl) (by kernel_rfl) (by kernel_rfl) (fun _ _ _ h => h) (Or.inl ⟨by rfl, fun W hW => by go_simp⟩) hS ?_
      try simp only [Act.put, List.setIfInBounds_toArray, List.set_cons_zero, List.set_cons_succ]
      refine wpAnyH_take (i := 2) (oi := ⟨some 26, _, _, _, _, _⟩) (v := .int .i64 j) rfl (by kernel_rfl) (by kernel_rfl) (by kernel_rfl) (fun _ _ _ h => h) (Or.inl ⟨by rfl, fun W hW => by go_simp⟩) hS ?_
      try simp only [Act.put, List.setIfInBounds_toArray, List.set_cons_zero, List.set_cons_succ]
      refine wpAnyH_take (i := 3) (oi := ⟨some 27, _, _, _, _, _⟩) (v := .int .u32 k) rfl (by kernel_rfl) (by kernel_rfl) (by kernel_rfl) (fun _ _ _ h => h) (Or.inl ⟨by rfl, fun W hW => by go_simp⟩) hS ?_
      try simp only [Act.put, List.setIfInBounds_toArray, List.set_cons_zero, List.set_cons_succ]
      refine wpAnyH_take (i := 5) (v := .agg (id.map (Value.int .u8)).toArray) rfl (by kernel_rfl) (by kernel_rfl) (by kernel_rfl) (fun _ _ _ h => h) (yieldsIf_load_mid (by rfl) _ _ rfl w.heap.size 0 rfl (id.map (Value.int .u8)) _ (fun W hW => Arr.range hW.1) arr16 rfl (by rw [List.length_map, HI.out]; kernel_rfl)) hS ?_
      try simp only [Act.put, List.setIfInBounds_toArray, List.set_cons_zero, List.set_cons_succ]
      refine wpAnyH_take (i := 6) (oi := ⟨some 30, _, _, _, _, _⟩) (v := .int .u32 q) rfl (by kernel_rfl) (by kernel_rfl) (by kernel_rfl) (fun _ _ _ h => h) (Or.inl ⟨by rfl, fun W hW => by go_simp⟩) hS ?_
      try simp only [Act.put, List.setIfInBounds_toArray, List.set_cons_zero, List.set_cons_succ]
      refine wpAnyH_take (i := 7) (oi := ⟨some 31, _, _, _, _, _⟩) (v := .int .i64 j) rfl (by kernel_rfl) (by kernel_rfl) (by kernel_rfl) (fun _ _ _ h => h) (Or.inl ⟨by rfl, fun W hW => by go_simp⟩) hS ?_
      try simp only [Act.put, List.setIfInBounds_toArray, List.set_cons_zero, List.set_cons_succ]
      refine wpAnyH_take (i := 8) (v := .agg (seed.map (Value.int .u8)).toArray) rfl (by kernel_rfl) (by kernel_rfl) (by kernel_rfl) (fun _ _ _ h => h) (yieldsIf_load_mid (by rfl) _ _ rfl (w.heap.size + 1) 0 rfl (seed.map (Value.int .u8)) _ (fun W hW => Arr.range hW.2) arr32A rfl (by rw [List.length_map, HS.out]; kernel_rfl)) hS ?_
      try simp only [Act.put, List.setIfInBounds_toArray, List.set_cons_zero, List.set_cons_succ]
      obtain ⟨x0, e0⟩ : ∃ x0, x0 = w1.drew := ⟨_, rfl⟩
      have nx0 : Arr x0 w.heap.size 23 .u8 id := by rw [e0]; exact n4
      have sx0 : Arr x0 (w.heap.size + 1) 24 .u8 seed := by rw [e0]; exact s4
      have rx0 : Arr x0 (w.heap.size + 2) 24 .u8 (List.replicate 32 0) := by rw [e0]; exact r4
      have bx0 : Below w.heap.size w x0 := by rw [e0]; exact b4
      have ox0 : Own x0 (w.heap.size + 3) 5 .u8 v (endsL g j) := by rw [e0]; exact o4
      have px0 : w.heap.size + 3 ≤ x0.heap.size := by rw [e0]; exact p4
      rw [← e0] at hS ⊢
      clear e0 n4 s4 r4 b4 o4 p4
      refine wpAnyH_ready (rs := [4, 11]) (by kernel_rfl) (by simp) ?_
      refine AllReadyH.cons rfl (fun K hK => ?_) (AllReadyH.cons rfl (fun K hK => ?_) AllReadyH.nil)
      · go_simp
        go_at_call 55
        refine (GT.out _).mono ?_
        rintro e _ ⟨rfl, rfl⟩
        refine hK.out _ _ ⟨nx0, sx0⟩ (fun hS => ?_)
        clear hK K
        try simp only [Act.put, List.setIfInBounds_toArray, List.set_cons_zero, List.set_cons_succ]
        refine wpAnyH_ready (rs := [9, 11]) (by kernel_rfl) (by simp) ?_
        refine AllReadyH.cons rfl (fun K hK => ?_) (AllReadyH.cons rfl (fun K hK => ?_) AllReadyH.nil)
        · go_simp
          go_at_call 56
          refine (GS.out _).mono ?_
          rintro e x1 ⟨rfl, h⟩
          have nx1 : Arr x1 w.heap.size 23 .u8 id := Block.below nx0 h (Block.lt nx0)
          have sx1 : Arr x1 (w.heap.size + 1) 24 .u8 seed := Block.below sx0 h (Block.lt sx0)
          have rx1 : Arr x1 (w.heap.size + 2) 24 .u8 (List.replicate 32 0) := Block.below rx0 h (Block.lt rx0)
          have bx1 : Below w.heap.size w x1 := bx0.trans (h.mono bx0.size)
          have ox1 : Own x1 (w.heap.size + 3) 5 .u8 v (endsL g j) := ox0.below h
          have px1 : w.heap.size + 3 ≤ x1.heap.size := Nat.le_trans px0 h.size
          refine hK.out _ _ ⟨nx1, sx1⟩ (fun hS => ?_)
          clear hK K
          try simp only [Act.put, List.setIfInBounds_toArray, List.set_cons_zero, List.set_cons_succ]
          refine wpAnyH_ready (rs := [10, 11]) (by kernel_rfl) (by simp) ?_
          refine AllReadyH.cons rfl (fun K hK => ?_) (AllReadyH.cons rfl (fun K hK => ?_) AllReadyH.nil)
          · go_simp
            go_at_call 54
            refine (GW.out _).mono ?_
            rintro e x2 ⟨rfl, h⟩
            have nx2 : Arr x2 w.heap.size 23 .u8 id := Block.below nx1 h (Block.lt nx1)
            have sx2 : Arr x2 (w.heap.size + 1) 24 .u8 seed := Block.below sx1 h (Block.lt sx1)
            have rx2 : Arr x2 (w.heap.size + 2) 24 .u8 (List.replicate 32 0) := Block.below rx1 h (Block.lt rx1)
            have bx2 : Below w.heap.size w x2 := bx1.trans (h.mono bx1.size)
            have ox2 : Own x2 (w.heap.size + 3) 5 .u8 v (endsL g j) := ox1.below h
            have px2 : w.heap.size + 3 ≤ x2.heap.size := Nat.le_trans px1 h.size
            refine hK.out _ _ ⟨nx2, sx2⟩ (fun hS => ?_)
            clear hK K
            try simp only [Act.put, List.setIfInBounds_toArray, List.set_cons_zero, List.set_cons_succ]
            refine wpAnyH_ready (rs := [11]) (by kernel_rfl) (by simp) ?_
            refine AllReadyH.cons rfl (fun K hK => ?_) AllReadyH.nil
            have q1 := Block.lt nx2
            have q2 := Block.lt sx2
            have q4 := Block.lt rx2
            have q3 := bx2.size
            go_simp
            have h := below_last x2 (.cells #[.int .u8 0, .int .u8 0, .int .u8 0, .int .u8 0, .int .u8 0, .int .u8 0, .int .u8 0, .int .u8 0, .int .u8 0, .int .u8 0, .int .u8 0, .int .u8 0, .int .u8 0, .int .u8 0, .int .u8 0, .int .u8 0, .int .u8 0, .int .u8 0, .int .u8 0, .int .u8 0, .int .u8 0, .int .u8 0, .int .u8 0, .int .u8 0, .int .u8 0, .int .u8 0, .int .u8 0, .int .u8 0, .int .u8 0, .int .u8 0, .int .u8 0, .int .u8 0] 24)
            have new_z : Arr (x2.alloc (.cells #[.int .u8 0, .int .u8 0, .int .u8 0, .int .u8 0, .int .u8 0, .int .u8 0, .int .u8 0, .int .u8 0, .int .u8 0, .int .u8 0, .int .u8 0, .int .u8 0, .int .u8 0, .int .u8 0, .int .u8 0, .int .u8 0, .int .u8 0, .int .u8 0, .int .u8 0, .int .u8 0, .int .u8 0, .int .u8 0, .int .u8 0, .int .u8 0, .int .u8 0, .int .u8 0, .int .u8 0, .int .u8 0, .int .u8 0, .int .u8 0, .int .u8 0, .int .u8 0] 24)) x2.heap.size 24 .u8 (List.replicate 32 0) := Arr.new x2 24 .u8 (List.replicate 32 0)
            generalize hgen : x2.alloc (.cells #[.int .u8 0, .int .u8 0, .int .u8 0, .int .u8 0, .int .u8 0, .int .u8 0, .int .u8 0, .int .u8 0, .int .u8 0, .int .u8 0, .int .u8 0, .int .u8 0, .int .u8 0, .int .u8 0, .int .u8 0, .int .u8 0, .int .u8 0, .int .u8 0, .int .u8 0, .int .u8 0, .int .u8 0, .int .u8 0, .int .u8 0, .int .u8 0, .int .u8 0, .int .u8 0, .int .u8 0, .int .u8 0, .int .u8 0, .int .u8 0, .int .u8 0, .int .u8 0] 24) = x3 at *
            have nx3 : Arr x3 w.heap.size 23 .u8 id := Block.below nx2 h (Block.lt nx2)
            have sx3 : Arr x3 (w.heap.size + 1) 24 .u8 seed := Block.below sx2 h (Block.lt sx2)
            have rx3 : Arr x3 (w.heap.size + 2) 24 .u8 (List.replicate 32 0) := Block.below rx2 h (Block.lt rx2)
            have bx3 : Below w.heap.size w x3 := bx2.trans (h.mono bx2.size)
            have ox3 : Own x3 (w.heap.size + 3) 5 .u8 v (endsL g j) := ox2.below h
            have px3 : w.heap.size + 3 ≤ x3.heap.size := Nat.le_trans px2 h.size
            have zx3 : Arr x3 x2.heap.size 24 .u8 (List.replicate 32 0) := new_z
            clear hgen h new_z
            refine hK.out _ _ ⟨nx3, sx3⟩ (fun hS => ?_)
            clear hK K
            try simp only [Act.put, List.setIfInBounds_toArray, List.set_cons_zero, List.set_cons_succ]
            refine wpAnyH_ready (rs := [12]) (by kernel_rfl) (by simp) ?_
            refine AllReadyH.cons rfl (fun K hK => ?_) AllReadyH.nil
            have zne : v.ownBlock ≠ some (x2.heap.size) := ox3.ne_block zx3 (by decide)
            refine step_store_arr rfl _ _ _ rfl (ys := x) zx3 rfl rfl (by rw [HX.out]; rfl) (by rw [HX.out]; kernel_rfl) ?_
            intro x4 zx4 g9
            have nx4 : Arr x4 w.heap.size 23 .u8 id := Arr.grown nx3 g9 (by intro e; injection e with e; omega)
            have sx4 : Arr x4 (w.heap.size + 1) 24 .u8 seed := Arr.grown sx3 g9 (by intro e; injection e with e; omega)
            have rx4 : Arr x4 (w.heap.size + 2) 24 .u8 (List.replicate 32 0) := Arr.grown rx3 g9 (by intro e; injection e with e; omega)
            have bx4 : Below w.heap.size w x4 := bx3.trans (below_of_grown g9 bx3.size fun b hb => by injection hb with hb; omega)
            have ox4 : Own x4 (w.heap.size + 3) 5 .u8 v (endsL g j) := ox3.kept g9 (.inr (zne))
            have px4 : w.heap.size + 3 ≤ x4.heap.size := Nat.le_trans px3 g9.size
            refine hK.out _ _ ⟨nx4, sx4⟩ (fun hS => ?_)
            clear hK K
            try simp only [Act.put, List.setIfInBounds_toArray, List.set_cons_zero, List.set_cons_succ]
            refine wpAnyH_done (by kernel_rfl) ?_ _
            go_wp2_with (have _t := zx4; at_builtin; refine wpList_append_ints _ rfl (.tmp 35) (.tmp 36) 35 rfl Oct.elem8 ox4 rfl (by rw [HX.out]; rfl) (Arr.holds_all zx4) (by rw [HL.out, HX.out]; omega) px4 ?_; clear _t; intro v9 w9 own9 hg9 hb9 hloc)
            rw [← HO.out] at own9
            have n9 : Arr w9 w.heap.size 23 .u8 id := Block.below nx4 hb9 (by omega)
            have s9 : Arr w9 (w.heap.size + 1) 24 .u8 seed := Block.below sx4 hb9 (by omega)
            have r9 : Arr w9 (w.heap.size + 2) 24 .u8 (List.replicate 32 0) := Block.below rx4 hb9 (by omega)
            have b9 := bx4.trans (hb9.mono (by omega))
            have p9 := Nat.le_trans px4 hb9.size
            go_roundw
            case rel => exact ⟨j + 1, _, rfl, hlt, by go_num, own9, n9, s9, r9, b9, p9⟩
            case measure => simp [intOf] <;> omega
          · have q1 := Block.lt nx1
            have q2 := Block.lt sx1
            have q4 := Block.lt rx1
            have q3 := bx1.size
            go_simp
            have h := below_last x1 (.cells #[.int .u8 0, .int .u8 0, .int .u8 0, .int .u8 0, .int .u8 0, .int .u8 0, .int .u8 0, .int .u8 0, .int .u8 0, .int .u8 0, .int .u8 0, .int .u8 0, .int .u8 0, .int .u8 0, .int .u8 0, .int .u8 0, .int .u8 0, .int .u8 0, .int .u8 0, .int .u8 0, .int .u8 0, .int .u8 0, .int .u8 0, .int .u8 0, .int .u8 0, .int .u8 0, .int .u8 0, .int .u8 0, .int .u8 0, .int .u8 0, .int .u8 0, .int .u8 0] 24)
            have new_z : Arr (x1.alloc (.cells #[.int .u8 0, .int .u8 0, .int .u8 0, .int .u8 0, .int .u8 0, .int .u8 0, .int .u8 0, .int .u8 0, .int .u8 0, .int .u8 0, .int .u8 0, .int .u8 0, .int .u8 0, .int .u8 0, .int .u8 0, .int .u8 0, .int .u8 0, .int .u8 0, .int .u8 0, .int .u8 0, .int .u8 0, .int .u8 0, .int .u8 0, .int .u8 0, .int .u8 0, .int .u8 0, .int .u8 0, .int .u8 0, .int .u8 0, .int .u8 0, .int .u8 0, .int .u8 0] 24)) x1.heap.size 24 .u8 (List.replicate 32 0) := Arr.new x1 24 .u8 (List.replicate 32 0)
            generalize hgen : x1.alloc (.cells #[.int .u8 0, .int .u8 0, .int .u8 0, .int .u8 0, .int .u8 0, .int .u8 0, .int .u8 0, .int .u8 0, .int .u8 0, .int .u8 0, .int .u8 0, .int .u8 0, .int .u8 0, .int .u8 0, .int .u8 0, .int .u8 0, .int .u8 0, .int .u8 0, .int .u8 0, .int .u8 0, .int .u8 0, .int .u8 0, .int .u8 0, .int .u8 0, .int .u8 0, .int .u8 0, .int .u8 0, .int .u8 0, .int .u8 0, .int .u8 0, .int .u8 0, .int .u8 0] 24) = x2 at *
            have nx2 : Arr x2 w.heap.size 23 .u8 id := Block.below nx1 h (Block.lt nx1)
            have sx2 : Arr x2 (w.heap.size + 1) 24 .u8 seed := Block.below sx1 h (Block.lt sx1)
            have rx2 : Arr x2 (w.heap.size + 2) 24 .u8 (List.replicate 32 0) := Block.below rx1 h (Block.lt rx1)
            have bx2 : Below w.heap.size w x2 := bx1.trans (h.mono bx1.size)
            have ox2 : Own x2 (w.heap.size + 3) 5 .u8 v (endsL g j) := ox1.below h
            have px2 : w.heap.size + 3 ≤ x2.heap.size := Nat.le_trans px1 h.size
            have zx2 : Arr x2 x1.heap.size 24 .u8 (List.replicate 32 0) := new_z
            clear hgen h new_z
            refine hK.out _ _ ⟨nx2, sx2⟩ (fun hS => ?_)
            clear hK K
            try simp only [Act.put, List.setIfInBounds_toArray, List.set_cons_zero, List.set_cons_succ]
            refine wpAnyH_ready (rs := [10]) (by kernel_rfl) (by simp) ?_
            refine AllReadyH.cons rfl (fun K hK => ?_) AllReadyH.nil
            go_simp
            go_at_call 54
            refine (GW.out _).mono ?_
            rintro e x3 ⟨rfl, h⟩
            have nx3 : Arr x3 w.heap.size 23 .u8 id := Block.below nx2 h (Block.lt nx2)
            have sx3 : Arr x3 (w.heap.size + 1) 24 .u8 seed := Block.below sx2 h (Block.lt sx2)
            have rx3 : Arr x3 (w.heap.size + 2) 24 .u8 (List.replicate 32 0) := Block.below rx2 h (Block.lt rx2)
            have bx3 : Below w.heap.size w x3 := bx2.trans (h.mono bx2.size)
            have ox3 : Own x3 (w.heap.size + 3) 5 .u8 v (endsL g j) := ox2.below h
            have px3 : w.heap.size + 3 ≤ x3.heap.size := Nat.le_trans px2 h.size
            have zx3 : Arr x3 x1.heap.size 24 .u8 (List.replicate 32 0) := Block.below zx2 h (Block.lt zx2)
            refine hK.out _ _ ⟨nx3, sx3⟩ (fun hS => ?_)
            clear hK K
            try simp only [Act.put, List.setIfInBounds_toArray, List.set_cons_zero, List.set_cons_succ]
            refine wpAnyH_ready (rs := [12]) (by kernel_rfl) (by simp) ?_
            refine AllReadyH.cons rfl (fun K hK => ?_) AllReadyH.nil
            have zne : v.ownBlock ≠ some (x1.heap.size) := ox3.ne_block zx3 (by decide)
            refine step_store_arr rfl _ _ _ rfl (ys := x) zx3 rfl rfl (by rw [HX.out]; rfl) (by rw [HX.out]; kernel_rfl) ?_
            intro x4 zx4 g9
            have nx4 : Arr x4 w.heap.size 23 .u8 id := Arr.grown nx3 g9 (by intro e; injection e with e; omega)
            have sx4 : Arr x4 (w.heap.size + 1) 24 .u8 seed := Arr.grown sx3 g9 (by intro e; injection e with e; omega)
            have rx4 : Arr x4 (w.heap.size + 2) 24 .u8 (List.replicate 32 0) := Arr.grown rx3 g9 (by intro e; injection e with e; omega)
            have bx4 : Below w.heap.size w x4 := bx3.trans (below_of_grown g9 bx3.size fun b hb => by injection hb with hb; omega)
            have ox4 : Own x4 (w.heap.size + 3) 5 .u8 v (endsL g j) := ox3.kept g9 (.inr (zne))
            have px4 : w.heap.size + 3 ≤ x4.heap.size := Nat.le_trans px3 g9.size
            refine hK.out _ _ ⟨nx4, sx4⟩ (fun hS => ?_)
            clear hK K
            try simp only [Act.put, List.setIfInBounds_toArray, List.set_cons_zero, List.set_cons_succ]
            refine wpAnyH_done (by kernel_rfl) ?_ _
            go_wp2_with (have _t := zx4; at_builtin; refine wpList_append_ints _ rfl (.tmp 35) (.tmp 36) 35 rfl Oct.elem8 ox4 rfl (by rw [HX.out]; rfl) (Arr.holds_all zx4) (by rw [HL.out, HX.out]; omega) px4 ?_; clear _t; intro v9 w9 own9 hg9 hb9 hloc)
            rw [← HO.out] at own9
            have n9 : Arr w9 w.heap.size 23 .u8 id := Block.below nx4 hb9 (by omega)
            have s9 : Arr w9 (w.heap.size + 1) 24 .u8 seed := Block.below sx4 hb9 (by omega)
            have r9 : Arr w9 (w.heap.size + 2) 24 .u8 (List.replicate 32 0) := Block.below rx4 hb9 (by omega)
            have b9 := bx4.trans (hb9.mono (by omega))
            have p9 := Nat.le_trans px4 hb9.size
            go_roundw
            case rel => exact ⟨j + 1, _, rfl, hlt, by go_num, own9, n9, s9, r9, b9, p9⟩
            case measure => simp [intOf] <;> omega
        · have q1 := Block.lt nx0
          have q2 := Block.lt sx0
          have q4 := Block.lt rx0
          have q3 := bx0.size
          go_simp
          have h := below_last x0 (.cells #[.int .u8 0, .int .u8 0, .int .u8 0, .int .u8 0, .int .u8 0, .int .u8 0, .int .u8 0, .int .u8 0, .int .u8 0, .int .u8 0, .int .u8 0, .int .u8 0, .int .u8 0, .int .u8 0, .int .u8 0, .int .u8 0, .int .u8 0, .int .u8 0, .int .u8 0, .int .u8 0, .int .u8 0, .int .u8 0, .int .u8 0, .int .u8 0, .int .u8 0, .int .u8 0, .int .u8 0, .int .u8 0, .int .u8 0, .int .u8 0, .int .u8 0, .int .u8 0] 24)
          have new_z : Arr (x0.alloc (.cells #[.int .u8 0, .int .u8 0, .int .u8 0, .int .u8 0, .int .u8 0, .int .u8 0, .int .u8 0, .int .u8 0, .int .u8 0, .int .u8 0, .int .u8 0, .int .u8 0, .int .u8 0, .int .u8 0, .int .u8 0, .int .u8 0, .int .u8 0, .int .u8 0, .int .u8 0, .int .u8 0, .int .u8 0, .int .u8 0, .int .u8 0, .int .u8 0, .int .u8 0, .int .u8 0, .int .u8 0, .int .u8 0, .int .u8 0, .int .u8 0, .int .u8 0, .int .u8 0] 24)) x0.heap.size 24 .u8 (List.replicate 32 0) := Arr.new x0 24 .u8 (List.replicate 32 0)
          generalize hgen : x0.alloc (.cells #[.int .u8 0, .int .u8 0, .int .u8 0, .int .u8 0, .int .u8 0, .int .u8 0, .int .u8 0, .int .u8 0, .int .u8 0, .int .u8 0, .int .u8 0, .int .u8 0, .int .u8 0, .int .u8 0, .int .u8 0, .int .u8 0, .int .u8 0, .int .u8 0, .int .u8 0, .int .u8 0, .int .u8 0, .int .u8 0, .int .u8 0, .int .u8 0, .int .u8 0, .int .u8 0, .int .u8 0, .int .u8 0, .int .u8 0, .int .u8 0, .int .u8 0, .int .u8 0] 24) = x1 at *
          have nx1 : Arr x1 w.heap.size 23 .u8 id := Block.below nx0 h (Block.lt nx0)
          have sx1 : Arr x1 (w.heap.size + 1) 24 .u8 seed := Block.below sx0 h (Block.lt sx0)
          have rx1 : Arr x1 (w.heap.size + 2) 24 .u8 (List.replicate 32 0) := Block.below rx0 h (Block.lt rx0)
          have bx1 : Below w.heap.size w x1 := bx0.trans (h.mono bx0.size)
          have ox1 : Own x1 (w.heap.size + 3) 5 .u8 v (endsL g j) := ox0.below h
          have px1 : w.heap.size + 3 ≤ x1.heap.size := Nat.le_trans px0 h.size
          have zx1 : Arr x1 x0.heap.size 24 .u8 (List.replicate 32 0) := new_z
          clear hgen h new_z
          refine hK.out _ _ ⟨nx1, sx1⟩ (fun hS => ?_)
          clear hK K
          try simp only [Act.put, List.setIfInBounds_toArray, List.set_cons_zero, List.set_cons_succ]
          refine wpAnyH_ready (rs := [9]) (by kernel_rfl) (by simp) ?_
          refine AllReadyH.cons rfl (fun K hK => ?_) AllReadyH.nil
          go_simp
          go_at_call 56
          refine (GS.out _).mono ?_
          rintro e x2 ⟨rfl, h⟩
          have nx2 : Arr x2 w.heap.size 23 .u8 id := Block.below nx1 h (Block.lt nx1)
          have sx2 : Arr x2 (w.heap.size + 1) 24 .u8 seed := Block.below sx1 h (Block.lt sx1)
          have rx2 : Arr x2 (w.heap.size + 2) 24 .u8 (List.replicate 32 0) := Block.below rx1 h (Block.lt rx1)
          have bx2 : Below w.heap.size w x2 := bx1.trans (h.mono bx1.size)
          have ox2 : Own x2 (w.heap.size + 3) 5 .u8 v (endsL g j) := ox1.below h
          have px2 : w.heap.size + 3 ≤ x2.heap.size := Nat.le_trans px1 h.size
          have zx2 : Arr x2 x0.heap.size 24 .u8 (List.replicate 32 0) := Block.below zx1 h (Block.lt zx1)
          refine hK.out _ _ ⟨nx2, sx2⟩ (fun hS => ?_)
          clear hK K
          try simp only [Act.put, List.setIfInBounds_toArray, List.set_cons_zero, List.set_cons_succ]
          refine wpAnyH_ready (rs := [10]) (by kernel_rfl) (by simp) ?_
          refine AllReadyH.cons rfl (fun K hK => ?_) AllReadyH.nil
          go_simp
          go_at_call 54
          refine (GW.out _).mono ?_
          rintro e x3 ⟨rfl, h⟩
          have nx3 : Arr x3 w.heap.size 23 .u8 id := Block.below nx2 h (Block.lt nx2)
          have sx3 : Arr x3 (w.heap.size + 1) 24 .u8 seed := Block.below sx2 h (Block.lt sx2)
          have rx3 : Arr x3 (w.heap.size + 2) 24 .u8 (List.replicate 32 0) := Block.below rx2 h (Block.lt rx2)
          have bx3 : Below w.heap.size w x3 := bx2.trans (h.mono bx2.size)
          have ox3 : Own x3 (w.heap.size + 3) 5 .u8 v (endsL g j) := ox2.below h
          have px3 : w.heap.size + 3 ≤ x3.heap.size := Nat.le_trans px2 h.size
          have zx3 : Arr x3 x0.heap.size 24 .u8 (List.replicate 32 0) := Block.below zx2 h (Block.lt zx2)
          refine hK.out _ _ ⟨nx3, sx3⟩ (fun hS => ?_)
          clear hK K
          try simp only [Act.put, List.setIfInBounds_toArray, List.set_cons_zero, List.set_cons_succ]
          refine wpAnyH_ready (rs := [12]) (by kernel_rfl) (by simp) ?_
          refine AllReadyH.cons rfl (fun K hK => ?_) AllReadyH.nil
          have zne : v.ownBlock ≠ some (x0.heap.size) := ox3.ne_block zx3 (by decide)
          refine step_store_arr rfl _ _ _ rfl (ys := x) zx3 rfl rfl (by rw [HX.out]; rfl) (by rw [HX.out]; kernel_rfl) ?_
          intro x4 zx4 g9
          have nx4 : Arr x4 w.heap.size 23 .u8 id := Arr.grown nx3 g9 (by intro e; injection e with e; omega)
          have sx4 : Arr x4 (w.heap.size + 1) 24 .u8 seed := Arr.grown sx3 g9 (by intro e; injection e with e; omega)
          have rx4 : Arr x4 (w.heap.size + 2) 24 .u8 (List.replicate 32 0) := Arr.grown rx3 g9 (by intro e; injection e with e; omega)
          have bx4 : Below w.heap.size w x4 := bx3.trans (below_of_grown g9 bx3.size fun b hb => by injection hb with hb; omega)
          have ox4 : Own x4 (w.heap.size + 3) 5 .u8 v (endsL g j) := ox3.kept g9 (.inr (zne))
          have px4 : w.heap.size + 3 ≤ x4.heap.size := Nat.le_trans px3 g9.size
          refine hK.out _ _ ⟨nx4, sx4⟩ (fun hS => ?_)
          clear hK K
          try simp only [Act.put, List.setIfInBounds_toArray, List.set_cons_zero, List.set_cons_succ]
          refine wpAnyH_done (by kernel_rfl) ?_ _
          go_wp2_with (have _t := zx4; at_builtin; refine wpList_append_ints _ rfl (.tmp 35) (.tmp 36) 35 rfl Oct.elem8 ox4 rfl (by rw [HX.out]; rfl) (Arr.holds_all zx4) (by rw [HL.out, HX.out]; omega) px4 ?_; clear _t; intro v9 w9 own9 hg9 hb9 hloc)
          rw [← HO.out] at own9
          have n9 : Arr w9 w.heap.size 23 .u8 id := Block.below nx4 hb9 (by omega)
          have s9 : Arr w9 (w.heap.size + 1) 24 .u8 seed := Block.below sx4 hb9 (by omega)
          have r9 : Arr w9 (w.heap.size + 2) 24 .u8 (List.replicate 32 0) := Block.below rx4 hb9 (by omega)
          have b9 := bx4.trans (hb9.mono (by omega))
          have p9 := Nat.le_trans px4 hb9.size
          go_roundw
          case rel => exact ⟨j + 1, _, rfl, hlt, by go_num, own9, n9, s9, r9, b9, p9⟩
          case measure => simp [intOf] <;> omega
      · have q1 := Block.lt nx0
        have q2 := Block.lt sx0
        have q4 := Block.lt rx0
        have q3 := bx0.size
        go_simp
        have h := below_last x0 (.cells #[.int .u8 0, .int .u8 0, .int .u8 0, .int .u8 0, .int .u8 0, .int .u8 0, .int .u8 0, .int .u8 0, .int .u8 0, .int .u8 0, .int .u8 0, .int .u8 0, .int .u8 0, .int .u8 0, .int .u8 0, .int .u8 0, .int .u8 0, .int .u8 0, .int .u8 0, .int .u8 0, .int .u8 0, .int .u8 0, .int .u8 0, .int .u8 0, .int .u8 0, .int .u8 0, .int .u8 0, .int .u8 0, .int .u8 0, .int .u8 0, .int .u8 0, .int .u8 0] 24)
        have new_z : Arr (x0.alloc (.cells #[.int .u8 0, .int .u8 0, .int .u8 0, .int .u8 0, .int .u8 0, .int .u8 0, .int .u8 0, .int .u8 0, .int .u8 0, .int .u8 0, .int .u8 0, .int .u8 0, .int .u8 0, .int .u8 0, .int .u8 0, .int .u8 0, .int .u8 0, .int .u8 0, .int .u8 0, .int .u8 0, .int .u8 0, .int .u8 0, .int .u8 0, .int .u8 0, .int .u8 0, .int .u8 0, .int .u8 0, .int .u8 0, .int .u8 0, .int .u8 0, .int .u8 0, .int .u8 0] 24)) x0.heap.size 24 .u8 (List.replicate 32 0) := Arr.new x0 24 .u8 (List.replicate 32 0)
        generalize hgen : x0.alloc (.cells #[.int .u8 0, .int .u8 0, .int .u8 0, .int .u8 0, .int .u8 0, .int .u8 0, .int .u8 0, .int .u8 0, .int .u8 0, .int .u8 0, .int .u8 0, .int .u8 0, .int .u8 0, .int .u8 0, .int .u8 0, .int .u8 0, .int .u8 0, .int .u8 0, .int .u8 0, .int .u8 0, .int .u8 0, .int .u8 0, .int .u8 0, .int .u8 0, .int .u8 0, .int .u8 0, .int .u8 0, .int .u8 0, .int .u8 0, .int .u8 0, .int .u8 0, .int .u8 0] 24) = x1 at *
        have nx1 : Arr x1 w.heap.size 23 .u8 id := Block.below nx0 h (Block.lt nx0)
        have sx1 : Arr x1 (w.heap.size + 1) 24 .u8 seed := Block.below sx0 h (Block.lt sx0)
        have rx1 : Arr x1 (w.heap.size + 2) 24 .u8 (List.replicate 32 0) := Block.below rx0 h (Block.lt rx0)
        have bx1 : Below w.heap.size w x1 := bx0.trans (h.mono bx0.size)
        have ox1 : Own x1 (w.heap.size + 3) 5 .u8 v (endsL g j) := ox0.below h
        have px1 : w.heap.size + 3 ≤ x1.heap.size := Nat.le_trans px0 h.size
        have zx1 : Arr x1 x0.heap.size 24 .u8 (List.replicate 32 0) := new_z
        clear hgen h new_z
        refine hK.out _ _ ⟨nx1, sx1⟩ (fun hS => ?_)
        clear hK K
        try simp only [Act.put, List.setIfInBounds_toArray, List.set_cons_zero, List.set_cons_succ]
        refine wpAnyH_ready (rs := [4]) (by kernel_rfl) (by simp) ?_
        refine AllReadyH.cons rfl (fun K hK => ?_) AllReadyH.nil
        go_simp
        go_at_call 55
        refine (GT.out _).mono ?_
        rintro e _ ⟨rfl, rfl⟩
        refine hK.out _ _ ⟨nx1, sx1⟩ (fun hS => ?_)
        clear hK K
        try simp only [Act.put, List.setIfInBounds_toArray, List.set_cons_zero, List.set_cons_succ]
        refine wpAnyH_ready (rs := [9]) (by kernel_rfl) (by simp) ?_
        refine AllReadyH.cons rfl (fun K hK => ?_) AllReadyH.nil
        go_simp
        go_at_call 56
        refine (GS.out _).mono ?_
        rintro e x2 ⟨rfl, h⟩
        have nx2 : Arr x2 w.heap.size 23 .u8 id := Block.below nx1 h (Block.lt nx1)
        have sx2 : Arr x2 (w.heap.size + 1) 24 .u8 seed := Block.below sx1 h (Block.lt sx1)
        have rx2 : Arr x2 (w.heap.size + 2) 24 .u8 (List.replicate 32 0) := Block.below rx1 h (Block.lt rx1)
        have bx2 : Below w.heap.size w x2 := bx1.trans (h.mono bx1.size)
        have ox2 : Own x2 (w.heap.size + 3) 5 .u8 v (endsL g j) := ox1.below h
        have px2 : w.heap.size + 3 ≤ x2.heap.size := Nat.le_trans px1 h.size
        have zx2 : Arr x2 x0.heap.size 24 .u8 (List.replicate 32 0) := Block.below zx1 h (Block.lt zx1)
        refine hK.out _ _ ⟨nx2, sx2⟩ (fun hS => ?_)
        clear hK K
        try simp only [Act.put, List.setIfInBounds_toArray, List.set_cons_zero, List.set_cons_succ]
        refine wpAnyH_ready (rs := [10]) (by kernel_rfl) (by simp) ?_
        refine AllReadyH.cons rfl (fun K hK => ?_) AllReadyH.nil
        go_simp
        go_at_call 54
        refine (GW.out _).mono ?_
        rintro e x3 ⟨rfl, h⟩
        have nx3 : Arr x3 w.heap.size 23 .u8 id := Block.below nx2 h (Block.lt nx2)
        have sx3 : Arr x3 (w.heap.size + 1) 24 .u8 seed := Block.below sx2 h (Block.lt sx2)
        have rx3 : Arr x3 (w.heap.size + 2) 24 .u8 (List.replicate 32 0) := Block.below rx2 h (Block.lt rx2)
        have bx3 : Below w.heap.size w x3 := bx2.trans (h.mono bx2.size)
        have ox3 : Own x3 (w.heap.size + 3) 5 .u8 v (endsL g j) := ox2.below h
        have px3 : w.heap.size + 3 ≤ x3.heap.size := Nat.le_trans px2 h.size
        have zx3 : Arr x3 x0.heap.size 24 .u8 (List.replicate 32 0) := Block.below zx2 h (Block.lt zx2)
        refine hK.out _ _ ⟨nx3, sx3⟩ (fun hS => ?_)
        clear hK K
        try simp only [Act.put, List.setIfInBounds_toArray, List.set_cons_zero, List.set_cons_succ]
        refine wpAnyH_ready (rs := [12]) (by kernel_rfl) (by simp) ?_
        refine AllReadyH.cons rfl (fun K hK => ?_) AllReadyH.nil
        have zne : v.ownBlock ≠ some (x0.heap.size) := ox3.ne_block zx3 (by decide)
        refine step_store_arr rfl _ _ _ rfl (ys := x) zx3 rfl rfl (by rw [HX.out]; rfl) (by rw [HX.out]; kernel_rfl) ?_
        intro x4 zx4 g9
        have nx4 : Arr x4 w.heap.size 23 .u8 id := Arr.grown nx3 g9 (by intro e; injection e with e; omega)
        have sx4 : Arr x4 (w.heap.size + 1) 24 .u8 seed := Arr.grown sx3 g9 (by intro e; injection e with e; omega)
        have rx4 : Arr x4 (w.heap.size + 2) 24 .u8 (List.replicate 32 0) := Arr.grown rx3 g9 (by intro e; injection e with e; omega)
        have bx4 : Below w.heap.size w x4 := bx3.trans (below_of_grown g9 bx3.size fun b hb => by injection hb with hb; omega)
        have ox4 : Own x4 (w.heap.size + 3) 5 .u8 v (endsL g j) := ox3.kept g9 (.inr (zne))
        have px4 : w.heap.size + 3 ≤ x4.heap.size := Nat.le_trans px3 g9.size
        refine hK.out _ _ ⟨nx4, sx4⟩ (fun hS => ?_)
        clear hK K
        try simp only [Act.put, List.setIfInBounds_toArray, List.set_cons_zero, List.set_cons_succ]
        refine wpAnyH_done (by kernel_rfl) ?_ _
        go_wp2_with (have _t := zx4; at_builtin; refine wpList_append_ints _ rfl (.tmp 35) (.tmp 36) 35 rfl Oct.elem8 ox4 rfl (by rw [HX.out]; rfl) (Arr.holds_all zx4) (by rw [HL.out, HX.out]; omega) px4 ?_; clear _t; intro v9 w9 own9 hg9 hb9 hloc)
        rw [← HO.out] at own9
        have n9 : Arr w9 w.heap.size 23 .u8 id := Block.below nx4 hb9 (by omega)
        have s9 : Arr w9 (w.heap.size + 1) 24 .u8 seed := Block.below sx4 hb9 (by omega)
        have r9 : Arr w9 (w.heap.size + 2) 24 .u8 (List.replicate 32 0) := Block.below rx4 hb9 (by omega)
        have b9 := bx4.trans (hb9.mono (by omega))
        have p9 := Nat.le_trans px4 hb9.size
        go_roundw
        case rel => exact ⟨j + 1, _, rfl, hlt, by go_num, own9, n9, s9, r9, b9, p9⟩
        case measure => simp [intOf] <;> omega
    · obtain rfl : j = m := by omega
      have d1 : decide ((j : Int) < (j : Int)) = false := decide_eq_false (by omega)
      have d2 : decide (j < j) = false := decide_eq_false hlt
      obtain ⟨A, c, rfl, k1, m1, h1⟩ := o.opened
      generalize endsL g j = es at *
      go_wp2_with (first
        | (have _t := o; go_at_call 13; refine (GH.out _).mono ?_; clear _t; rintro e w1 ⟨rfl, hb⟩
           have n1 : Arr w1 w.heap.size 23 .u8 id := Block.below n hb (Block.lt n)
           have r1 : Arr w1 (w.heap.size + 2) 24 .u8 (List.replicate 32 0) := Block.below r hb (Block.lt r)
           have b1 := b.trans (hb.mono b.size)
           have h2 := Holds.on h1 hb
           clear o n s r b p hb h1)
        | (have _t := n1; refine wpList_load_arr rfl _ _ rfl n1 rfl arr16 rfl (by rw [HI.out]; kernel_rfl) ?_)
        | (have _t := h2; go_at_call 57; refine (GE.out _ _ _ h2).mono ?_; clear _t; rintro e w2 ⟨rfl, hb⟩
           have r2 : Arr w2 (w.heap.size + 2) 24 .u8 (List.replicate 32 0) := Block.below r1 hb (Block.lt r1)
           have b2 := b1.trans (hb.mono b1.size))
        | (have _t := r2; refine wpList_store_arr rfl _ _ _ rfl (ys := ys) r2 rfl rfl (by rw [hyl.out]; rfl) (by rw [hyl.out]; kernel_rfl) ?_; intro w9 r9 g9))
      refine bodyPost_ret (v := .tuple #[arrV .u8 ys, .int .i64 0]) (results_row_tmp rfl _ _ (w.heap.size + 2) 24 _ (0, 0) _ rfl r9 _ rfl arr32A rfl (by rw [show (ys.map (Value.int .u8)).toArray.size = 32 by simp [hyl.out]]; kernel_rfl)) rfl ⟨rfl, ?_⟩
      exact b2.trans (below_of_grown g9 b2.size fun b hb => by injection hb with hb; omega)
end Go.Proofs.YtdfgdchmeikigaaDoor.Ot

namespace Go.Proofs.YtdfgdchmeikigaaDoor.Ot
open Go.ChangeShapes Go.WideShapes Go.ChangeAt Go.RowKit Go.Proofs.YtdfgdchmeikigaaDoor.Kit Go.Proofs.YtdfgdchmeikigaaDoor.Sha Go.Proofs.YtdfgdchmeikigaaDoor.Mk Go.Proofs.YtdfgdchmeikigaaDoor.Oct

set_option maxRecDepth 100000 in
set_option maxHeartbeats 6400000 in
theorem rsign_no (k : Int) (hk : ¬ KindIn k) (id : List Int) (q : Int) (seed : List Int) (A2 : Option Addr) (text : List Int) (c2 : Nat) (w : World) :
    Calls Tryd.prog 22 #[.int .u32 k, .agg (id.map (Value.int .u8)).toArray, .int .u32 q, .agg (seed.map (Value.int .u8)).toArray, .slice A2 text.length c2] w (SignN [] 21 w) := by
  have b0 := below_two' (w := w) (.cells (id.map (Value.int .u8)).toArray 23) (.cells (seed.map (Value.int .u8)).toArray 24)
  have o0 := Own.empty (B := w.heap.size) ((w.alloc (.cells (id.map (Value.int .u8)).toArray 23)).alloc (.cells (seed.map (Value.int .u8)).toArray 24)) 5 .u8 (by simp; omega)
  have b1 := b0.trans ((below_last ((w.alloc (.cells (id.map (Value.int .u8)).toArray 23)).alloc (.cells (seed.map (Value.int .u8)).toArray 24)) (.cells #[] 5)).mono b0.size)
  have GC := Lib.hid (fun W => rwide_any k W)
  rw [(kind_none hk).1] at GC
  go_enter Tryd.func22, Tryd.ntmps22
  go_wp2_with (go_at_call 15; refine (GC.out _).mono ?_; rintro e w1 ⟨rfl, rfl⟩)
  go_ret2
  exact ⟨_, rfl, by simpa using o0, b1⟩

set_option maxRecDepth 100000 in
set_option maxHeartbeats 12800000 in
theorem rsign_in (k : Int) (hk : KindIn k) (id : List Int) (hid : id.length = 16) (hio : Octets id) (q : Int) (hq : 0 ≤ q ∧ q < 4294967296) (seed : List Int) (hs : D32 seed) (A2 : Option Addr) (text : List Int) (c2 : Nat) (w : World) (htx : RwOk w w.heap.size ⟨A2, c2, text⟩) (htl : text.length ≤ 40000) :
    Calls Tryd.prog 22 #[.int .u32 k, .agg (id.map (Value.int .u8)).toArray, .int .u32 q, .agg (seed.map (Value.int .u8)).toArray, .slice A2 text.length c2] w (SignN (signL (nmL id q) k seed text) 0 w) := by
  have b0 := below_two' (w := w) (.cells (id.map (Value.int .u8)).toArray 23) (.cells (seed.map (Value.int .u8)).toArray 24)
  have i0 : Arr ((w.alloc (.cells (id.map (Value.int .u8)).toArray 23)).alloc (.cells (seed.map (Value.int .u8)).toArray 24)) w.heap.size 23 .u8 id := (Arr.new w _ _ _).alloc _
  have s0 : Arr ((w.alloc (.cells (id.map (Value.int .u8)).toArray 23)).alloc (.cells (seed.map (Value.int .u8)).toArray 24)) (w.heap.size + 1) 24 .u8 seed := by
    have := Arr.new (w.alloc (.cells (id.map (Value.int .u8)).toArray 23)) 24 .u8 seed
    rwa [show (w.alloc (.cells (id.map (Value.int .u8)).toArray 23)).heap.size = w.heap.size + 1 by simp] at this
  have hkw := kind_wide hk
  have hwz : decide (wideN k = 0) = false := decide_eq_false (by omega)
  have hwz2 : (wideN k == 0) = false := by rw [beq_eq_false_iff_ne]; omega
  have GC := Lib.hid (fun W => rwide_any k W)
  have hk0 : 0 ≤ k ∧ k ≤ 4 := by unfold KindIn at hk; omega
  have hmb := manyN_bd k
  have hm1 := hkw.2.1
  have hsd : D32 (saltL (nmL id q) seed) := secL_d32 _ _ _
  have GR : Hid (∀ W, Calls Tryd.prog 56 #[.agg (id.map (Value.int .u8)).toArray, .int .u32 q, .int .i64 65533, .agg (seed.map (Value.int .u8)).toArray] W (Sums (saltL (nmL id q) seed) W)) := Lib.hid (fun W => rsecret_any id hid hio q hq 65533 (by decide) seed hs W)
  have GD := Lib.hid (fun W A1 (h1 : RwOk W W.heap.size ⟨A1, 32, saltL (nmL id q) seed⟩) (h2 : RwOk W W.heap.size ⟨A2, c2, text⟩) => rdgs_any k hk id hid hio q hq A1 (saltL (nmL id q) seed) 32 A2 text c2 W h1 h2 (by rw [hsd.1]; decide) (by omega))
  rw [hsd.1] at GD
  have hdl := dgsL_length hk (nmL id q) (saltL (nmL id q) seed) text
  have hdb := dgsL_bd hk (nmL id q) (saltL (nmL id q) seed) text
  have hsg : signL (nmL id q) k seed text = outL (nmL id q) k (dgsL (nmL id q) k (saltL (nmL id q) seed) text) seed (manyN k) := rfl
  have HSG := Lib.hid hsg
  clear hsg
  generalize signL (nmL id q) k seed text = sg at *
  generalize dgsL (nmL id q) k (saltL (nmL id q) seed) text = ds at *
  have HO0 : Hid (be 4 k ++ saltL (nmL id q) seed = outL (nmL id q) k ds seed 0) := Lib.hid (by unfold outL; show _ = _ ++ []; rw [List.append_nil]; rfl)
  have HON := Lib.hid (outL_next (nmL id q) k ds seed)
  have HOL := Lib.hid (outL_length (nmL id q) k ds seed)
  have HDL := Lib.hid hdl
  have hln := lastN_bd k
  have GS := Lib.hid (fun (j : Nat) (hj : j < manyN k) W => rsecret_any id hid hio q hq j (by omega) seed hs W)
  have GW := Lib.hid (fun (j f : Nat) (hj : j < manyN k) (hf : ds.getD j 0 = (f : Int)) (hfl : f ≤ lastN k) W => (show Calls Tryd.prog 54 #[.agg (id.map (Value.int .u8)).toArray, .int .u32 q, .int .i64 j, .int .i64 0, .int .i64 f, .agg ((secL (nmL id q) j seed).map (Value.int .u8)).toArray] W (Sums (sigEnd (nmL id q) ds seed j) W) from by
    have := rwalk_any id hid hio q hq j (by omega) 0 f (Nat.zero_le _) (by omega) (secL (nmL id q) j seed) (secL_d32 _ _ _) W
    unfold sigEnd
    rw [hf, Int.toNat_natCast]
    exact this))
  have HGL := Lib.hid (fun j => (sigEnd_d32 (nmL id q) ds seed j).1)
  have HSL := Lib.hid (fun j : Nat => (secL_d32 (nmL id q) j seed).1)
  have GP : Hid (∀ W A, Calls Tryd.prog 61 #[.slice A 0 0, .int .i64 4, .int .u64 k] W (Rowed (be 4 k) W)) := Lib.hid (fun W A => rput_any A [] 0 0 4 k W (by simp) Holds.nil ⟨hk0.1, by omega⟩)
  have hbl := Lib.hid (be_length 4 k)
  have HI := Lib.hid hid
  have HS := Lib.hid hs.1
  have HSd := Lib.hid hsd.1
  have hso := hsd.2
  generalize nmL id q = nm at *
  generalize saltL nm seed = salt at *
  generalize be 4 k = b4k at *
  clear hid hs hsd hk hkw hdl hio
  generalize manyN k = m at *
  generalize lastN k = ln at *
  generalize wideN k = wd at *
  go_enter Tryd.func22, Tryd.ntmps22
  go_wp2_with (first
    | (go_at_call 15; refine (GC.out _).mono ?_; rintro e w1 ⟨rfl, rfl⟩)
    | (have _t := b0; refine wpList_load_arr rfl _ _ rfl i0 rfl arr16 rfl (by rw [HI.out]; kernel_rfl) ?_)
    | (have _t := b0; refine wpList_load_arr rfl _ _ rfl s0 rfl arr32A rfl (by rw [HS.out]; kernel_rfl) ?_)
    | (have _t := b0; go_at_call 56; refine (GR.out _).mono ?_; clear _t; rintro e w2 ⟨rfl, hb⟩
       have n2 : Arr w2 w.heap.size 23 .u8 id := Block.below i0 hb (Block.lt i0)
       have s2 : Arr w2 (w.heap.size + 1) 24 .u8 seed := Block.below s0 hb (Block.lt s0)
       have b2 := b0.trans (hb.mono b0.size)
       have z2 := res_new w2 24
       clear s0 b0 hb i0)
    | (have _t := z2; refine wpList_store_arr rfl _ _ _ rfl (ys := salt) z2 rfl rfl (by rw [HSd.out]; rfl) (by rw [HSd.out]; kernel_rfl) ?_; clear _t; intro w3 z3 g3
       have hb3 : Below w2.heap.size w2 w3 := below_fill (Below.refl _ _) (Nat.le_refl _) g3
       have n3 : Arr w3 w.heap.size 23 .u8 id := Block.below n2 hb3 (Block.lt n2)
       have s3 : Arr w3 (w.heap.size + 1) 24 .u8 seed := Block.below s2 hb3 (Block.lt s2)
       have b3 := b2.trans (hb3.mono b2.size)
       clear z2 s2 n2 b2 g3 hb3)
    | (have _t := z3; go_at_call 61; refine (GP.out _ _).mono ?_; clear _t; rintro e w4 ⟨v1, rfl, own1, hb4⟩
       have hb := (below_last w3 (.cells #[] 5)).trans (hb4.mono (below_last w3 (.cells #[] 5)).size)
       have n4 : Arr w4 w.heap.size 23 .u8 id := Block.below n3 hb (Block.lt n3)
       have s4 : Arr w4 (w.heap.size + 1) 24 .u8 seed := Block.below s3 hb (Block.lt s3)
       have z4 : Arr w4 w2.heap.size 24 .u8 salt := Block.below z3 hb (Block.lt z3)
       have b4 := b3.trans (hb.mono b3.size)
       have own1 := own1.mono (B' := w3.heap.size) (by simp)
       have q1 := Block.lt n3
       have q2 := Block.lt s3
       have q3 := Block.lt z3
       have q4 := b3.size
       have q5 := hb.size
       clear n3 s3 z3 b3 hb hb4)
    | (have _t := own1; at_builtin; refine wpList_append_ints _ rfl (.tmp 29) (.tmp 30) 35 rfl Oct.elem8 own1 rfl (by rw [HSd.out]; rfl) (Arr.holds_all z4) (by rw [hbl.out, HSd.out]; decide) q5 ?_; clear _t; intro v2 w5 own2 hg2 hb2 _; rw [HO0.out] at own2
       have n5 : Arr w5 w.heap.size 23 .u8 id := Block.below n4 hb2 q1
       have s5 : Arr w5 (w.heap.size + 1) 24 .u8 seed := Block.below s4 hb2 q2
       have z5 : Arr w5 w2.heap.size 24 .u8 salt := Block.below z4 hb2 q3
       have b5 := b4.trans (hb2.mono q4)
       have p5 := Nat.le_trans q5 hb2.size
       clear n4 s4 z4 b4 own1 hg2 hb2 q5))
  generalize w3.heap.size = B5 at *
  generalize w2.heap.size = sb at *
  have n3 := n5.drewN 1
  have s3 := s5.drewN 1
  have z3 := z5.drewN 1
  have b3 := below_draws b5 1
  have o3 : Own (w5.drewN 1) B5 5 .u8 v2 (outL nm k ds seed 0) := own2
  have t3 := (htx.below b3).more b3.size
  have p3 : B5 ≤ (w5.drewN 1).heap.size := p5
  clear n5 s5 z5 b5 own2 p5 htx GR GP
  refine wp_region_held_drew (S := (fun W => Arr W w.heap.size 23 .u8 id)) (by kernel_rfl) n3 (fun hS => ?_)
  refine wpAnyH_take (i := 0) (oi := ⟨some 32, _, _, _, _, _⟩) (v := .int .u32 k) rfl (by kernel_rfl) (by kernel_rfl) (by kernel_rfl) (fun _ _ _ h => h) (Or.inl ⟨by rfl, fun W hW => by go_simp⟩) hS ?_
  try simp only [Act.put, List.setIfInBounds_toArray, List.set_cons_zero, List.set_cons_succ]
  refine wpAnyH_take (i := 1) (oi := ⟨some 33, _, _, _, _, _⟩) (v := .agg (id.map (Value.int .u8)).toArray) rfl (by kernel_rfl) (by kernel_rfl) (by kernel_rfl) (fun _ _ _ h => h) (yieldsIf_load_mid (by rfl) _ _ rfl w.heap.size 0 rfl (id.map (Value.int .u8)) _ (fun W hW => Arr.range hW) arr16 rfl (by rw [List.length_map, HI.out]; kernel_rfl)) hS ?_
  try simp only [Act.put, List.setIfInBounds_toArray, List.set_cons_zero, List.set_cons_succ]
  refine wpAnyH_take (i := 2) (oi := ⟨some 34, _, _, _, _, _⟩) (v := .int .u32 q) rfl (by kernel_rfl) (by kernel_rfl) (by kernel_rfl) (fun _ _ _ h => h) (Or.inl ⟨by rfl, fun W hW => by go_simp⟩) hS ?_
  try simp only [Act.put, List.setIfInBounds_toArray, List.set_cons_zero, List.set_cons_succ]
  refine wpAnyH_take (i := 3) (oi := ⟨some 35, _, _, _, _, _⟩) (v := .slice (some ⟨sb, 0, none⟩) 32 32) rfl (by kernel_rfl) (by kernel_rfl) (by kernel_rfl) (fun _ _ _ h => h) (Or.inl ⟨by rfl, fun W hW => by go_simp⟩) hS ?_
  try simp only [Act.put, List.setIfInBounds_toArray, List.set_cons_zero, List.set_cons_succ]
  refine wpAnyH_take (i := 4) (oi := ⟨some 36, _, _, _, _, _⟩) (v := .slice A2 text.length c2) rfl (by kernel_rfl) (by kernel_rfl) (by kernel_rfl) (fun _ _ _ h => h) (Or.inl ⟨by rfl, fun W hW => by go_simp⟩) hS ?_
  try simp only [Act.put, List.setIfInBounds_toArray, List.set_cons_zero, List.set_cons_succ]
  obtain ⟨x0, e0⟩ : ∃ x0, x0 = w5.drew := ⟨_, rfl⟩
  have nx0 : Arr x0 w.heap.size 23 .u8 id := by rw [e0]; exact n3
  have sx0 : Arr x0 (w.heap.size + 1) 24 .u8 seed := by rw [e0]; exact s3
  have zx0 : Arr x0 sb 24 .u8 salt := by rw [e0]; exact z3
  have bx0 : Below w.heap.size w x0 := by rw [e0]; exact b3
  have tx0 : RwOk x0 x0.heap.size ⟨A2, c2, text⟩ := by rw [e0]; exact t3
  have ox0 : Own x0 B5 5 .u8 v2 (outL nm k ds seed 0) := by rw [e0]; exact o3
  have px0 : B5 ≤ x0.heap.size := by rw [e0]; exact p3
  rw [← e0] at hS ⊢
  clear e0 n3 s3 z3 b3 t3 o3 p3
  refine wpAnyH_ready (rs := [5]) (by kernel_rfl) (by simp) ?_
  refine AllReadyH.cons rfl (fun K hK => ?_) AllReadyH.nil
  go_simp
  go_at_call 62
  refine (GD.out _ _ (by have := RwOk.arr zx0 hso (by rw [HSd.out]; decide); rw [HSd.out] at this; exact this) tx0).mono ?_
  rintro e x1 ⟨A5, c5, rfl, k5, m5, h5, a5, h⟩
  have nx1 : Arr x1 w.heap.size 23 .u8 id := Block.below nx0 h (Block.lt nx0)
  have sx1 : Arr x1 (w.heap.size + 1) 24 .u8 seed := Block.below sx0 h (Block.lt sx0)
  have zx1 : Arr x1 sb 24 .u8 salt := Block.below zx0 h (Block.lt zx0)
  have bx1 : Below w.heap.size w x1 := bx0.trans (h.mono bx0.size)
  have tx1 : RwOk x1 x1.heap.size ⟨A2, c2, text⟩ := RwOk.on tx0 h
  have ox1 : Own x1 B5 5 .u8 v2 (outL nm k ds seed 0) := ox0.below h
  have px1 : B5 ≤ x1.heap.size := Nat.le_trans px0 h.size
  obtain ⟨bd, od, rfl, hbd, hdc⟩ := h5 (by rw [HDL.out]; omega)
  have h5 : Holds x1 x1.heap.size .i64 (some ⟨bd, od, none⟩) ds := h5
  have a6 : x0.heap.size ≤ bd := a5 _ rfl
  have nv : v2.ownBlock ≠ some bd := fun e => by have := (ox0.lt bd e).2; omega
  clear hdc hbd a5
  rw [HDL.out]
  refine hK.out _ _ nx1 (fun hS => ?_)
  clear hK K
  try simp only [Act.put, List.setIfInBounds_toArray, List.set_cons_zero, List.set_cons_succ]
  refine wpAnyH_ready (rs := [6]) (by kernel_rfl) (by simp) ?_
  refine AllReadyH.cons rfl (fun K hK => ?_) AllReadyH.nil
  go_simp
  refine hK.out _ _ nx1 (fun hS => ?_)
  clear hK K
  try simp only [Act.put, List.setIfInBounds_toArray, List.set_cons_zero, List.set_cons_succ]
  refine wpAnyH_done (by kernel_rfl) ?_ _
  go_wp2_with fail
  rw [HDL.out] at k5
  go_loopw [13, 40] (fun v i wr => ∃ (j : Nat) (v' : Value), v' = v ∧ j ≤ m ∧ i = .int .i64 j ∧ Own wr B5 5 .u8 v' (outL nm k ds seed j) ∧ v'.ownBlock ≠ some bd ∧ Arr wr w.heap.size 23 .u8 id ∧ Arr wr (w.heap.size + 1) 24 .u8 seed ∧ Holds wr wr.heap.size .i64 (some ⟨bd, od, none⟩) ds ∧ Below w.heap.size w wr ∧ B5 ≤ wr.heap.size) (fun _ i _ => m - (intOf i).toNat)
  case atStart => exact ⟨0, _, rfl, Nat.zero_le _, rfl, ox1, nv, nx1, sx1, h5, bx1, px1⟩
  case round =>
    clear ox1 nv nx1 sx1 h5 bx1 px1 nx0 sx0 bx0 ox0 tx0 tx1 zx0 zx1 px0 GD GC
    obtain ⟨j, v, rfl, hj, rfl, o, nv, n, s, h, b, p⟩ := hrel
    by_cases hlt : j < m
    · obtain ⟨b', o', e', hbd, hdc⟩ := h (by rw [HDL.out]; omega)
      injection e' with e'
      injection e' with e1 e2
      subst e1 e2
      have hcj := hdc j (by rw [HDL.out]; omega)
      have hjb := hdb (ds.getD j 0) (by rw [List.getD, List.getElem?_eq_getElem (by rw [HDL.out]; exact hlt)]; exact List.getElem_mem _)
      obtain ⟨f, hf⟩ : ∃ f : Nat, ds.getD j 0 = (f : Int) := ⟨(ds.getD j 0).toNat, by omega⟩
      have GS := Lib.hid (GS.out j hlt)
      have GW := Lib.hid (GW.out j f hlt hf (by omega))
      have HX := Lib.hid (HGL.out j)
      have HSc := Lib.hid (HSL.out j)
      have HO := Lib.hid (HON.out j)
      have HL := Lib.hid (HOL.out j)
      rw [hf] at hcj
      generalize hgx : sigEnd nm ds seed j = x at *
      generalize secL nm j seed = sc at *
      have d1 : decide ((j : Int) < (m : Int)) = true := decide_eq_true (by omega)
      have d2 : decide (j < m) = true := decide_eq_true hlt
      have hcm : m ≤ c5 := k5
      clear hdc hjb hf hgx
      go_wp2_with fail
      have n4 := n.drewN 1
      have s4 := s.drewN 1
      have b4 := below_draws b 1
      have o4 : Own (wr.drewN 1) B5 5 .u8 v (outL nm k ds seed j) := o
      have h4 : Holds (wr.drewN 1) (wr.drewN 1).heap.size .i64 (some ⟨bd, od, none⟩) ds := h
      have e4 : (wr.drewN 1).cell? ⟨bd, od + j, none⟩ = some (.int .i64 f) := hcj
      have p4 : B5 ≤ (wr.drewN 1).heap.size := p
      have q4 : bd < (wr.drewN 1).heap.size := hbd
      clear n s b o h p hbd hcj
      refine wp_region_held_drew (S := (fun W => Arr W w.heap.size 23 .u8 id ∧ Arr W (w.heap.size + 1) 24 .u8 seed ∧ W.cell? ⟨bd, od + j, none⟩ = some (.int .i64 f))) (by kernel_rfl) ⟨n4, s4, e4⟩ (fun hS => ?_)
      refine wpAnyH_take (i := 0) (oi := ⟨some 43, _, _, _, _, _⟩) (v := .agg (id.map (Value.int .u8)).toArray) rfl (by kernel_rfl) (by kernel_rfl) (by kernel_rfl) (fun _ _ _ h => h) (yieldsIf_load_mid (by rfl) _ _ rfl w.heap.size 0 rfl (id.map (Value.int .u8)) _ (fun W hW => Arr.range hW.1) arr16 rfl (by rw [List.length_map, HI.out]; kernel_rfl)) hS ?_
      try simp only [Act.put, List.setIfInBounds_toArray, List.set_cons_zero, List.set_cons_succ]
      refine wpAnyH_take (i := 1) (oi := ⟨some 44, _, _, _, _, _⟩) (v := .int .u32 q) rfl (by kernel_rfl) (by kernel_rfl) (by kernel_rfl) (fun _ _ _ h => h) (Or.inl ⟨by rfl, fun W hW => by go_simp⟩) hS ?_
      try simp only [Act.put, List.setIfInBounds_toArray, List.set_cons_zero, List.set_cons_succ]
      refine wpAnyH_take (i := 2) (oi := ⟨some 45, _, _, _, _, _⟩) (v := .int .i64 j) rfl (by kernel_rfl) (by kernel_rfl) (by kernel_rfl) (fun _ _ _ h => h) (Or.inl ⟨by rfl, fun W hW => by go_simp⟩) hS ?_
      try simp only [Act.put, List.setIfInBounds_toArray, List.set_cons_zero, List.set_cons_succ]
      refine wpAnyH_take (i := 3) (oi := ⟨some 46, _, _, _, _, _⟩) (v := .slice (some ⟨bd, od, none⟩) m c5) rfl (by kernel_rfl) (by kernel_rfl) (by kernel_rfl) (fun _ _ _ h => h) (Or.inl ⟨by rfl, fun W hW => by go_simp⟩) hS ?_
      try simp only [Act.put, List.setIfInBounds_toArray, List.set_cons_zero, List.set_cons_succ]
      refine wpAnyH_take (i := 4) (oi := ⟨some 47, _, _, _, _, _⟩) (v := .int .i64 j) rfl (by kernel_rfl) (by kernel_rfl) (by kernel_rfl) (fun _ _ _ h => h) (Or.inl ⟨by rfl, fun W hW => by go_simp⟩) hS ?_
      try simp only [Act.put, List.setIfInBounds_toArray, List.set_cons_zero, List.set_cons_succ]
      refine wpAnyH_take (i := 5) (oi := ⟨some 48, _, _, _, _, _⟩) (v := .pointer (some ⟨bd, od + j, none⟩)) rfl (by kernel_rfl) (by kernel_rfl) (by kernel_rfl) (fun _ _ _ h => h) (Or.inl ⟨by rfl, fun W hW => by go_simp⟩) hS ?_
      try simp only [Act.put, List.setIfInBounds_toArray, List.set_cons_zero, List.set_cons_succ]
      refine wpAnyH_take (i := 6) (oi := ⟨some 49, _, _, _, _, _⟩) (v := .int .i64 f) rfl (by kernel_rfl) (by kernel_rfl) (by kernel_rfl) (fun _ _ _ h => h) (Or.inl ⟨by rfl, fun W hW => by obtain ⟨_, _, hc⟩ := hW; go_simp⟩) hS ?_
      try simp only [Act.put, List.setIfInBounds_toArray, List.set_cons_zero, List.set_cons_succ]
      refine wpAnyH_take (i := 7) (oi := ⟨some 50, _, _, _, _, _⟩) (v := .agg (id.map (Value.int .u8)).toArray) rfl (by kernel_rfl) (by kernel_rfl) (by kernel_rfl) (fun _ _ _ h => h) (yieldsIf_load_mid (by rfl) _ _ rfl w.heap.size 0 rfl (id.map (Value.int .u8)) _ (fun W hW => Arr.range hW.1) arr16 rfl (by rw [List.length_map, HI.out]; kernel_rfl)) hS ?_
      try simp only [Act.put, List.setIfInBounds_toArray, List.set_cons_zero, List.set_cons_succ]
      refine wpAnyH_take (i := 8) (oi := ⟨some 51, _, _, _, _, _⟩) (v := .int .u32 q) rfl (by kernel_rfl) (by kernel_rfl) (by kernel_rfl) (fun _ _ _ h => h) (Or.inl ⟨by rfl, fun W hW => by go_simp⟩) hS ?_
      try simp only [Act.put, List.setIfInBounds_toArray, List.set_cons_zero, List.set_cons_succ]
      refine wpAnyH_take (i := 9) (oi := ⟨some 52, _, _, _, _, _⟩) (v := .int .i64 j) rfl (by kernel_rfl) (by kernel_rfl) (by kernel_rfl) (fun _ _ _ h => h) (Or.inl ⟨by rfl, fun W hW => by go_simp⟩) hS ?_
      try simp only [Act.put, List.setIfInBounds_toArray, List.set_cons_zero, List.set_cons_succ]
      refine wpAnyH_take (i := 10) (oi := ⟨some 53, _, _, _, _, _⟩) (v := .agg (seed.map (Value.int .u8)).toArray) rfl (by kernel_rfl) (by kernel_rfl) (by kernel_rfl) (fun _ _ _ h => h) (yieldsIf_load_mid (by rfl) _ _ rfl (w.heap.size + 1) 0 rfl (seed.map (Value.int .u8)) _ (fun W hW => Arr.range hW.2.1) arr32A rfl (by rw [List.length_map, HS.out]; kernel_rfl)) hS ?_
      try simp only [Act.put, List.setIfInBounds_toArray, List.set_cons_zero, List.set_cons_succ]
      obtain ⟨x0, e0⟩ : ∃ x0, x0 = wr.drew := ⟨_, rfl⟩
      have nx0 : Arr x0 w.heap.size 23 .u8 id := by rw [e0]; exact n4
      have sx0 : Arr x0 (w.heap.size + 1) 24 .u8 seed := by rw [e0]; exact s4
      have bx0 : Below w.heap.size w x0 := by rw [e0]; exact b4
      have ox0 : Own x0 B5 5 .u8 v (outL nm k ds seed j) := by rw [e0]; exact o4
      have hx0 : Holds x0 x0.heap.size .i64 (some ⟨bd, od, none⟩) ds := by rw [e0]; exact h4
      have ex0 : x0.cell? ⟨bd, od + j, none⟩ = some (.int .i64 f) := by rw [e0]; exact e4
      have px0 : B5 ≤ x0.heap.size := by rw [e0]; exact p4
      have qx0 : bd < x0.heap.size := by rw [e0]; exact q4
      rw [← e0] at hS ⊢
      clear e0 n4 s4 b4 o4 h4 e4 p4 q4
      refine wpAnyH_ready (rs := [11, 13]) (by kernel_rfl) (by simp) ?_
      refine AllReadyH.cons rfl (fun K hK => ?_) (AllReadyH.cons rfl (fun K hK => ?_) AllReadyH.nil)
      · go_simp
        go_at_call 56
        refine (GS.out _).mono ?_
        rintro e x1 ⟨rfl, h⟩
        have nx1 : Arr x1 w.heap.size 23 .u8 id := Block.below nx0 h (Block.lt nx0)
        have sx1 : Arr x1 (w.heap.size + 1) 24 .u8 seed := Block.below sx0 h (Block.lt sx0)
        have bx1 : Below w.heap.size w x1 := bx0.trans (h.mono bx0.size)
        have ox1 : Own x1 B5 5 .u8 v (outL nm k ds seed j) := ox0.below h
        have hx1 : Holds x1 x1.heap.size .i64 (some ⟨bd, od, none⟩) ds := Holds.on hx0 h
        have ex1 : x1.cell? ⟨bd, od + j, none⟩ = some (.int .i64 f) := (h.cell (p := ⟨bd, od + j, none⟩) (World.block_lt_of_cell? _ _ ex0)).trans ex0
        have px1 : B5 ≤ x1.heap.size := Nat.le_trans px0 h.size
        have qx1 : bd < x1.heap.size := Nat.le_trans qx0 h.size
        refine hK.out _ _ ⟨nx1, sx1, ex1⟩ (fun hS => ?_)
        clear hK K
        try simp only [Act.put, List.setIfInBounds_toArray, List.set_cons_zero, List.set_cons_succ]
        refine wpAnyH_ready (rs := [12, 13]) (by kernel_rfl) (by simp) ?_
        refine AllReadyH.cons rfl (fun K hK => ?_) (AllReadyH.cons rfl (fun K hK => ?_) AllReadyH.nil)
        · go_simp
          go_at_call 54
          refine (GW.out _).mono ?_
          rintro e x2 ⟨rfl, h⟩
          have nx2 : Arr x2 w.heap.size 23 .u8 id := Block.below nx1 h (Block.lt nx1)
          have sx2 : Arr x2 (w.heap.size + 1) 24 .u8 seed := Block.below sx1 h (Block.lt sx1)
          have bx2 : Below w.heap.size w x2 := bx1.trans (h.mono bx1.size)
          have ox2 : Own x2 B5 5 .u8 v (outL nm k ds seed j) := ox1.below h
          have hx2 : Holds x2 x2.heap.size .i64 (some ⟨bd, od, none⟩) ds := Holds.on hx1 h
          have ex2 : x2.cell? ⟨bd, od + j, none⟩ = some (.int .i64 f) := (h.cell (p := ⟨bd, od + j, none⟩) (World.block_lt_of_cell? _ _ ex1)).trans ex1
          have px2 : B5 ≤ x2.heap.size := Nat.le_trans px1 h.size
          have qx2 : bd < x2.heap.size := Nat.le_trans qx1 h.size
          refine hK.out _ _ ⟨nx2, sx2, ex2⟩ (fun hS => ?_)
          clear hK K
          try simp only [Act.put, List.setIfInBounds_toArray, List.set_cons_zero, List.set_cons_succ]
          refine wpAnyH_ready (rs := [13]) (by kernel_rfl) (by simp) ?_
          refine AllReadyH.cons rfl (fun K hK => ?_) AllReadyH.nil
          have q1 := Block.lt nx2
          have q2 := Block.lt sx2
          have q3 := bx2.size
          have q5 := qx2
          go_simp
          have h := below_last x2 (.cells #[.int .u8 0, .int .u8 0, .int .u8 0, .int .u8 0, .int .u8 0, .int .u8 0, .int .u8 0, .int .u8 0, .int .u8 0, .int .u8 0, .int .u8 0, .int .u8 0, .int .u8 0, .int .u8 0, .int .u8 0, .int .u8 0, .int .u8 0, .int .u8 0, .int .u8 0, .int .u8 0, .int .u8 0, .int .u8 0, .int .u8 0, .int .u8 0, .int .u8 0, .int .u8 0, .int .u8 0, .int .u8 0, .int .u8 0, .int .u8 0, .int .u8 0, .int .u8 0] 24)
          have new_z : Arr (x2.alloc (.cells #[.int .u8 0, .int .u8 0, .int .u8 0, .int .u8 0, .int .u8 0, .int .u8 0, .int .u8 0, .int .u8 0, .int .u8 0, .int .u8 0, .int .u8 0, .int .u8 0, .int .u8 0, .int .u8 0, .int .u8 0, .int .u8 0, .int .u8 0, .int .u8 0, .int .u8 0, .int .u8 0, .int .u8 0, .int .u8 0, .int .u8 0, .int .u8 0, .int .u8 0, .int .u8 0, .int .u8 0, .int .u8 0, .int .u8 0, .int .u8 0, .int .u8 0, .int .u8 0] 24)) x2.heap.size 24 .u8 (List.replicate 32 0) := Arr.new x2 24 .u8 (List.replicate 32 0)
          generalize hgen : x2.alloc (.cells #[.int .u8 0, .int .u8 0, .int .u8 0, .int .u8 0, .int .u8 0, .int .u8 0, .int .u8 0, .int .u8 0, .int .u8 0, .int .u8 0, .int .u8 0, .int .u8 0, .int .u8 0, .int .u8 0, .int .u8 0, .int .u8 0, .int .u8 0, .int .u8 0, .int .u8 0, .int .u8 0, .int .u8 0, .int .u8 0, .int .u8 0, .int .u8 0, .int .u8 0, .int .u8 0, .int .u8 0, .int .u8 0, .int .u8 0, .int .u8 0, .int .u8 0, .int .u8 0] 24) = x3 at *
          have nx3 : Arr x3 w.heap.size 23 .u8 id := Block.below nx2 h (Block.lt nx2)
          have sx3 : Arr x3 (w.heap.size + 1) 24 .u8 seed := Block.below sx2 h (Block.lt sx2)
          have bx3 : Below w.heap.size w x3 := bx2.trans (h.mono bx2.size)
          have ox3 : Own x3 B5 5 .u8 v (outL nm k ds seed j) := ox2.below h
          have hx3 : Holds x3 x3.heap.size .i64 (some ⟨bd, od, none⟩) ds := Holds.on hx2 h
          have ex3 : x3.cell? ⟨bd, od + j, none⟩ = some (.int .i64 f) := (h.cell (p := ⟨bd, od + j, none⟩) (World.block_lt_of_cell? _ _ ex2)).trans ex2
          have px3 : B5 ≤ x3.heap.size := Nat.le_trans px2 h.size
          have qx3 : bd < x3.heap.size := Nat.le_trans qx2 h.size
          have zx3 : Arr x3 x2.heap.size 24 .u8 (List.replicate 32 0) := new_z
          clear hgen h new_z
          refine hK.out _ _ ⟨nx3, sx3, ex3⟩ (fun hS => ?_)
          clear hK K
          try simp only [Act.put, List.setIfInBounds_toArray, List.set_cons_zero, List.set_cons_succ]
          refine wpAnyH_ready (rs := [14]) (by kernel_rfl) (by simp) ?_
          refine AllReadyH.cons rfl (fun K hK => ?_) AllReadyH.nil
          have zne : v.ownBlock ≠ some (x2.heap.size) := ox3.ne_block zx3 (by decide)
          refine step_store_arr rfl _ _ _ rfl (ys := x) zx3 rfl rfl (by rw [HX.out]; rfl) (by rw [HX.out]; kernel_rfl) ?_
          intro x4 zx4 g9
          have nx4 : Arr x4 w.heap.size 23 .u8 id := Arr.grown nx3 g9 (by intro e; injection e with e; omega)
          have sx4 : Arr x4 (w.heap.size + 1) 24 .u8 seed := Arr.grown sx3 g9 (by intro e; injection e with e; omega)
          have bx4 : Below w.heap.size w x4 := bx3.trans (below_of_grown g9 bx3.size fun b hb => by injection hb with hb; omega)
          have ox4 : Own x4 B5 5 .u8 v (outL nm k ds seed j) := ox3.kept g9 (.inr (zne))
          have hx4 : Holds x4 x4.heap.size .i64 (some ⟨bd, od, none⟩) ds := (Holds.grown hx3 g9 (fun a ha => by injection ha with ha; subst ha; intro e; injection e with e; have e : bd = x2.heap.size := e; omega)).more g9.size
          have ex4 : x4.cell? ⟨bd, od + j, none⟩ = some (.int .i64 f) := g9.cell ex3 (by show some (bd) ≠ some (x2.heap.size); intro e; injection e with e; omega)
          have px4 : B5 ≤ x4.heap.size := Nat.le_trans px3 g9.size
          have qx4 : bd < x4.heap.size := Nat.le_trans qx3 g9.size
          refine hK.out _ _ ⟨nx4, sx4, ex4⟩ (fun hS => ?_)
          clear hK K
          try simp only [Act.put, List.setIfInBounds_toArray, List.set_cons_zero, List.set_cons_succ]
          refine wpAnyH_done (by kernel_rfl) ?_ _
          go_wp2_with (have _t := zx4; at_builtin; refine wpList_append_ints _ rfl (.tmp 56) (.tmp 57) 35 rfl Oct.elem8 ox4 rfl (by rw [HX.out]; rfl) (Arr.holds_all zx4) (by rw [HL.out, HX.out]; omega) px4 ?_; clear _t; intro v9 w9 own9 hg9 hb9 hloc)
          rw [← HO.out] at own9
          have n9 : Arr w9 w.heap.size 23 .u8 id := Block.below nx4 hb9 (by omega)
          have s9 : Arr w9 (w.heap.size + 1) 24 .u8 seed := Block.below sx4 hb9 (by omega)
          have b9 := bx4.trans (hb9.mono (by omega))
          have h9 : Holds w9 w9.heap.size .i64 (some ⟨bd, od, none⟩) ds := (Holds.grown hx4 hg9 (fun a ha => by injection ha with ha; subst ha; exact fun e => nv e.symm)).more hg9.size
          have nv9 : v9.ownBlock ≠ some bd := fun e => by rcases hloc with h | h; exact nv (h.symm.trans e); (have e := h.symm.trans e; injection e with e; have := qx4; omega)
          have p9 := Nat.le_trans px4 hb9.size
          go_roundw
          case rel => exact ⟨j + 1, _, rfl, hlt, by go_num, own9, nv9, n9, s9, h9, b9, p9⟩
          case measure => simp [intOf] <;> omega
        · have q1 := Block.lt nx1
          have q2 := Block.lt sx1
          have q3 := bx1.size
          have q5 := qx1
          go_simp
          have h := below_last x1 (.cells #[.int .u8 0, .int .u8 0, .int .u8 0, .int .u8 0, .int .u8 0, .int .u8 0, .int .u8 0, .int .u8 0, .int .u8 0, .int .u8 0, .int .u8 0, .int .u8 0, .int .u8 0, .int .u8 0, .int .u8 0, .int .u8 0, .int .u8 0, .int .u8 0, .int .u8 0, .int .u8 0, .int .u8 0, .int .u8 0, .int .u8 0, .int .u8 0, .int .u8 0, .int .u8 0, .int .u8 0, .int .u8 0, .int .u8 0, .int .u8 0, .int .u8 0, .int .u8 0] 24)
          have new_z : Arr (x1.alloc (.cells #[.int .u8 0, .int .u8 0, .int .u8 0, .int .u8 0, .int .u8 0, .int .u8 0, .int .u8 0, .int .u8 0, .int .u8 0, .int .u8 0, .int .u8 0, .int .u8 0, .int .u8 0, .int .u8 0, .int .u8 0, .int .u8 0, .int .u8 0, .int .u8 0, .int .u8 0, .int .u8 0, .int .u8 0, .int .u8 0, .int .u8 0, .int .u8 0, .int .u8 0, .int .u8 0, .int .u8 0, .int .u8 0, .int .u8 0, .int .u8 0, .int .u8 0, .int .u8 0] 24)) x1.heap.size 24 .u8 (List.replicate 32 0) := Arr.new x1 24 .u8 (List.replicate 32 0)
          generalize hgen : x1.alloc (.cells #[.int .u8 0, .int .u8 0, .int .u8 0, .int .u8 0, .int .u8 0, .int .u8 0, .int .u8 0, .int .u8 0, .int .u8 0, .int .u8 0, .int .u8 0, .int .u8 0, .int .u8 0, .int .u8 0, .int .u8 0, .int .u8 0, .int .u8 0, .int .u8 0, .int .u8 0, .int .u8 0, .int .u8 0, .int .u8 0, .int .u8 0, .int .u8 0, .int .u8 0, .int .u8 0, .int .u8 0, .int .u8 0, .int .u8 0, .int .u8 0, .int .u8 0, .int .u8 0] 24) = x2 at *
          have nx2 : Arr x2 w.heap.size 23 .u8 id := Block.below nx1 h (Block.lt nx1)
          have sx2 : Arr x2 (w.heap.size + 1) 24 .u8 seed := Block.below sx1 h (Block.lt sx1)
          have bx2 : Below w.heap.size w x2 := bx1.trans (h.mono bx1.size)
          have ox2 : Own x2 B5 5 .u8 v (outL nm k ds seed j) := ox1.below h
          have hx2 : Holds x2 x2.heap.size .i64 (some ⟨bd, od, none⟩) ds := Holds.on hx1 h
          have ex2 : x2.cell? ⟨bd, od + j, none⟩ = some (.int .i64 f) := (h.cell (p := ⟨bd, od + j, none⟩) (World.block_lt_of_cell? _ _ ex1)).trans ex1
          have px2 : B5 ≤ x2.heap.size := Nat.le_trans px1 h.size
          have qx2 : bd < x2.heap.size := Nat.le_trans qx1 h.size
          have zx2 : Arr x2 x1.heap.size 24 .u8 (List.replicate 32 0) := new_z
          clear hgen h new_z
          refine hK.out _ _ ⟨nx2, sx2, ex2⟩ (fun hS => ?_)
          clear hK K
          try simp only [Act.put, List.setIfInBounds_toArray, List.set_cons_zero, List.set_cons_succ]
          refine wpAnyH_ready (rs := [12]) (by kernel_rfl) (by simp) ?_
          refine AllReadyH.cons rfl (fun K hK => ?_) AllReadyH.nil
          go_simp
          go_at_call 54
          refine (GW.out _).mono ?_
          rintro e x3 ⟨rfl, h⟩
          have nx3 : Arr x3 w.heap.size 23 .u8 id := Block.below nx2 h (Block.lt nx2)
          have sx3 : Arr x3 (w.heap.size + 1) 24 .u8 seed := Block.below sx2 h (Block.lt sx2)
          have bx3 : Below w.heap.size w x3 := bx2.trans (h.mono bx2.size)
          have ox3 : Own x3 B5 5 .u8 v (outL nm k ds seed j) := ox2.below h
          have hx3 : Holds x3 x3.heap.size .i64 (some ⟨bd, od, none⟩) ds := Holds.on hx2 h
          have ex3 : x3.cell? ⟨bd, od + j, none⟩ = some (.int .i64 f) := (h.cell (p := ⟨bd, od + j, none⟩) (World.block_lt_of_cell? _ _ ex2)).trans ex2
          have px3 : B5 ≤ x3.heap.size := Nat.le_trans px2 h.size
          have qx3 : bd < x3.heap.size := Nat.le_trans qx2 h.size
          have zx3 : Arr x3 x1.heap.size 24 .u8 (List.replicate 32 0) := Block.below zx2 h (Block.lt zx2)
          refine hK.out _ _ ⟨nx3, sx3, ex3⟩ (fun hS => ?_)
          clear hK K
          try simp only [Act.put, List.setIfInBounds_toArray, List.set_cons_zero, List.set_cons_succ]
          refine wpAnyH_ready (rs := [14]) (by kernel_rfl) (by simp) ?_
          refine AllReadyH.cons rfl (fun K hK => ?_) AllReadyH.nil
          have zne : v.ownBlock ≠ some (x1.heap.size) := ox3.ne_block zx3 (by decide)
          refine step_store_arr rfl _ _ _ rfl (ys := x) zx3 rfl rfl (by rw [HX.out]; rfl) (by rw [HX.out]; kernel_rfl) ?_
          intro x4 zx4 g9
          have nx4 : Arr x4 w.heap.size 23 .u8 id := Arr.grown nx3 g9 (by intro e; injection e with e; omega)
          have sx4 : Arr x4 (w.heap.size + 1) 24 .u8 seed := Arr.grown sx3 g9 (by intro e; injection e with e; omega)
          have bx4 : Below w.heap.size w x4 := bx3.trans (below_of_grown g9 bx3.size fun b hb => by injection hb with hb; omega)
          have ox4 : Own x4 B5 5 .u8 v (outL nm k ds seed j) := ox3.kept g9 (.inr (zne))
          have hx4 : Holds x4 x4.heap.size .i64 (some ⟨bd, od, none⟩) ds := (Holds.grown hx3 g9 (fun a ha => by injection ha with ha; subst ha; intro e; injection e with e; have e : bd = x1.heap.size := e; omega)).more g9.size
          have ex4 : x4.cell? ⟨bd, od + j, none⟩ = some (.int .i64 f) := g9.cell ex3 (by show some (bd) ≠ some (x1.heap.size); intro e; injection e with e; omega)
          have px4 : B5 ≤ x4.heap.size := Nat.le_trans px3 g9.size
          have qx4 : bd < x4.heap.size := Nat.le_trans qx3 g9.size
          refine hK.out _ _ ⟨nx4, sx4, ex4⟩ (fun hS => ?_)
          clear hK K
          try simp only [Act.put, List.setIfInBounds_toArray, List.set_cons_zero, List.set_cons_succ]
          refine wpAnyH_done (by kernel_rfl) ?_ _
          go_wp2_with (have _t := zx4; at_builtin; refine wpList_append_ints _ rfl (.tmp 56) (.tmp 57) 35 rfl Oct.elem8 ox4 rfl (by rw [HX.out]; rfl) (Arr.holds_all zx4) (by rw [HL.out, HX.out]; omega) px4 ?_; clear _t; intro v9 w9 own9 hg9 hb9 hloc)
          rw [← HO.out] at own9
          have n9 : Arr w9 w.heap.size 23 .u8 id := Block.below nx4 hb9 (by omega)
          have s9 : Arr w9 (w.heap.size + 1) 24 .u8 seed := Block.below sx4 hb9 (by omega)
          have b9 := bx4.trans (hb9.mono (by omega))
          have h9 : Holds w9 w9.heap.size .i64 (some ⟨bd, od, none⟩) ds := (Holds.grown hx4 hg9 (fun a ha => by injection ha with ha; subst ha; exact fun e => nv e.symm)).more hg9.size
          have nv9 : v9.ownBlock ≠ some bd := fun e => by rcases hloc with h | h; exact nv (h.symm.trans e); (have e := h.symm.trans e; injection e with e; have := qx4; omega)
          have p9 := Nat.le_trans px4 hb9.size
          go_roundw
          case rel => exact ⟨j + 1, _, rfl, hlt, by go_num, own9, nv9, n9, s9, h9, b9, p9⟩
          case measure => simp [intOf] <;> omega
      · have q1 := Block.lt nx0
        have q2 := Block.lt sx0
        have q3 := bx0.size
        have q5 := qx0
        go_simp
        have h := below_last x0 (.cells #[.int .u8 0, .int .u8 0, .int .u8 0, .int .u8 0, .int .u8 0, .int .u8 0, .int .u8 0, .int .u8 0, .int .u8 0, .int .u8 0, .int .u8 0, .int .u8 0, .int .u8 0, .int .u8 0, .int .u8 0, .int .u8 0, .int .u8 0, .int .u8 0, .int .u8 0, .int .u8 0, .int .u8 0, .int .u8 0, .int .u8 0, .int .u8 0, .int .u8 0, .int .u8 0, .int .u8 0, .int .u8 0, .int .u8 0, .int .u8 0, .int .u8 0, .int .u8 0] 24)
        have new_z : Arr (x0.alloc (.cells #[.int .u8 0, .int .u8 0, .int .u8 0, .int .u8 0, .int .u8 0, .int .u8 0, .int .u8 0, .int .u8 0, .int .u8 0, .int .u8 0, .int .u8 0, .int .u8 0, .int .u8 0, .int .u8 0, .int .u8 0, .int .u8 0, .int .u8 0, .int .u8 0, .int .u8 0, .int .u8 0, .int .u8 0, .int .u8 0, .int .u8 0, .int .u8 0, .int .u8 0, .int .u8 0, .int .u8 0, .int .u8 0, .int .u8 0, .int .u8 0, .int .u8 0, .int .u8 0] 24)) x0.heap.size 24 .u8 (List.replicate 32 0) := Arr.new x0 24 .u8 (List.replicate 32 0)
        generalize hgen : x0.alloc (.cells #[.int .u8 0, .int .u8 0, .int .u8 0, .int .u8 0, .int .u8 0, .int .u8 0, .int .u8 0, .int .u8 0, .int .u8 0, .int .u8 0, .int .u8 0, .int .u8 0, .int .u8 0, .int .u8 0, .int .u8 0, .int .u8 0, .int .u8 0, .int .u8 0, .int .u8 0, .int .u8 0, .int .u8 0, .int .u8 0, .int .u8 0, .int .u8 0, .int .u8 0, .int .u8 0, .int .u8 0, .int .u8 0, .int .u8 0, .int .u8 0, .int .u8 0, .int .u8 0] 24) = x1 at *
        have nx1 : Arr x1 w.heap.size 23 .u8 id := Block.below nx0 h (Block.lt nx0)
        have sx1 : Arr x1 (w.heap.size + 1) 24 .u8 seed := Block.below sx0 h (Block.lt sx0)
        have bx1 : Below w.heap.size w x1 := bx0.trans (h.mono bx0.size)
        have ox1 : Own x1 B5 5 .u8 v (outL nm k ds seed j) := ox0.below h
        have hx1 : Holds x1 x1.heap.size .i64 (some ⟨bd, od, none⟩) ds := Holds.on hx0 h
        have ex1 : x1.cell? ⟨bd, od + j, none⟩ = some (.int .i64 f) := (h.cell (p := ⟨bd, od + j, none⟩) (World.block_lt_of_cell? _ _ ex0)).trans ex0
        have px1 : B5 ≤ x1.heap.size := Nat.le_trans px0 h.size
        have qx1 : bd < x1.heap.size := Nat.le_trans qx0 h.size
        have zx1 : Arr x1 x0.heap.size 24 .u8 (List.replicate 32 0) := new_z
        clear hgen h new_z
        refine hK.out _ _ ⟨nx1, sx1, ex1⟩ (fun hS => ?_)
        clear hK K
        try simp only [Act.put, List.setIfInBounds_toArray, List.set_cons_zero, List.set_cons_succ]
        refine wpAnyH_ready (rs := [11]) (by kernel_rfl) (by simp) ?_
        refine AllReadyH.cons rfl (fun K hK => ?_) AllReadyH.nil
        go_simp
        go_at_call 56
        refine (GS.out _).mono ?_
        rintro e x2 ⟨rfl, h⟩
        have nx2 : Arr x2 w.heap.size 23 .u8 id := Block.below nx1 h (Block.lt nx1)
        have sx2 : Arr x2 (w.heap.size + 1) 24 .u8 seed := Block.below sx1 h (Block.lt sx1)
        have bx2 : Below w.heap.size w x2 := bx1.trans (h.mono bx1.size)
        have ox2 : Own x2 B5 5 .u8 v (outL nm k ds seed j) := ox1.below h
        have hx2 : Holds x2 x2.heap.size .i64 (some ⟨bd, od, none⟩) ds := Holds.on hx1 h
        have ex2 : x2.cell? ⟨bd, od + j, none⟩ = some (.int .i64 f) := (h.cell (p := ⟨bd, od + j, none⟩) (World.block_lt_of_cell? _ _ ex1)).trans ex1
        have px2 : B5 ≤ x2.heap.size := Nat.le_trans px1 h.size
        have qx2 : bd < x2.heap.size := Nat.le_trans qx1 h.size
        have zx2 : Arr x2 x0.heap.size 24 .u8 (List.replicate 32 0) := Block.below zx1 h (Block.lt zx1)
        refine hK.out _ _ ⟨nx2, sx2, ex2⟩ (fun hS => ?_)
        clear hK K
        try simp only [Act.put, List.setIfInBounds_toArray, List.set_cons_zero, List.set_cons_succ]
        refine wpAnyH_ready (rs := [12]) (by kernel_rfl) (by simp) ?_
        refine AllReadyH.cons rfl (fun K hK => ?_) AllReadyH.nil
        go_simp
        go_at_call 54
        refine (GW.out _).mono ?_
        rintro e x3 ⟨rfl, h⟩
        have nx3 : Arr x3 w.heap.size 23 .u8 id := Block.below nx2 h (Block.lt nx2)
        have sx3 : Arr x3 (w.heap.size + 1) 24 .u8 seed := Block.below sx2 h (Block.lt sx2)
        have bx3 : Below w.heap.size w x3 := bx2.trans (h.mono bx2.size)
        have ox3 : Own x3 B5 5 .u8 v (outL nm k ds seed j) := ox2.below h
        have hx3 : Holds x3 x3.heap.size .i64 (some ⟨bd, od, none⟩) ds := Holds.on hx2 h
        have ex3 : x3.cell? ⟨bd, od + j, none⟩ = some (.int .i64 f) := (h.cell (p := ⟨bd, od + j, none⟩) (World.block_lt_of_cell? _ _ ex2)).trans ex2
        have px3 : B5 ≤ x3.heap.size := Nat.le_trans px2 h.size
        have qx3 : bd < x3.heap.size := Nat.le_trans qx2 h.size
        have zx3 : Arr x3 x0.heap.size 24 .u8 (List.replicate 32 0) := Block.below zx2 h (Block.lt zx2)
        refine hK.out _ _ ⟨nx3, sx3, ex3⟩ (fun hS => ?_)
        clear hK K
        try simp only [Act.put, List.setIfInBounds_toArray, List.set_cons_zero, List.set_cons_succ]
        refine wpAnyH_ready (rs := [14]) (by kernel_rfl) (by simp) ?_
        refine AllReadyH.cons rfl (fun K hK => ?_) AllReadyH.nil
        have zne : v.ownBlock ≠ some (x0.heap.size) := ox3.ne_block zx3 (by decide)
        refine step_store_arr rfl _ _ _ rfl (ys := x) zx3 rfl rfl (by rw [HX.out]; rfl) (by rw [HX.out]; kernel_rfl) ?_
        intro x4 zx4 g9
        have nx4 : Arr x4 w.heap.size 23 .u8 id := Arr.grown nx3 g9 (by intro e; injection e with e; omega)
        have sx4 : Arr x4 (w.heap.size + 1) 24 .u8 seed := Arr.grown sx3 g9 (by intro e; injection e with e; omega)
        have bx4 : Below w.heap.size w x4 := bx3.trans (below_of_grown g9 bx3.size fun b hb => by injection hb with hb; omega)
        have ox4 : Own x4 B5 5 .u8 v (outL nm k ds seed j) := ox3.kept g9 (.inr (zne))
        have hx4 : Holds x4 x4.heap.size .i64 (some ⟨bd, od, none⟩) ds := (Holds.grown hx3 g9 (fun a ha => by injection ha with ha; subst ha; intro e; injection e with e; have e : bd = x0.heap.size := e; omega)).more g9.size
        have ex4 : x4.cell? ⟨bd, od + j, none⟩ = some (.int .i64 f) := g9.cell ex3 (by show some (bd) ≠ some (x0.heap.size); intro e; injection e with e; omega)
        have px4 : B5 ≤ x4.heap.size := Nat.le_trans px3 g9.size
        have qx4 : bd < x4.heap.size := Nat.le_trans qx3 g9.size
        refine hK.out _ _ ⟨nx4, sx4, ex4⟩ (fun hS => ?_)
        clear hK K
        try simp only [Act.put, List.setIfInBounds_toArray, List.set_cons_zero, List.set_cons_succ]
        refine wpAnyH_done (by kernel_rfl) ?_ _
        go_wp2_with (have _t := zx4; at_builtin; refine wpList_append_ints _ rfl (.tmp 56) (.tmp 57) 35 rfl Oct.elem8 ox4 rfl (by rw [HX.out]; rfl) (Arr.holds_all zx4) (by rw [HL.out, HX.out]; omega) px4 ?_; clear _t; intro v9 w9 own9 hg9 hb9 hloc)
        rw [← HO.out] at own9
        have n9 : Arr w9 w.heap.size 23 .u8 id := Block.below nx4 hb9 (by omega)
        have s9 : Arr w9 (w.heap.size + 1) 24 .u8 seed := Block.below sx4 hb9 (by omega)
        have b9 := bx4.trans (hb9.mono (by omega))
        have h9 : Holds w9 w9.heap.size .i64 (some ⟨bd, od, none⟩) ds := (Holds.grown hx4 hg9 (fun a ha => by injection ha with ha; subst ha; exact fun e => nv e.symm)).more hg9.size
        have nv9 : v9.ownBlock ≠ some bd := fun e => by rcases hloc with h | h; exact nv (h.symm.trans e); (have e := h.symm.trans e; injection e with e; have := qx4; omega)
        have p9 := Nat.le_trans px4 hb9.size
        go_roundw
        case rel => exact ⟨j + 1, _, rfl, hlt, by go_num, own9, nv9, n9, s9, h9, b9, p9⟩
        case measure => simp [intOf] <;> omega
    · obtain rfl : j = m := by omega
      have d1 : decide ((j : Int) < (j : Int)) = false := decide_eq_false (by omega)
      have d2 : decide (j < j) = false := decide_eq_false hlt
      go_wp2_with fail
      go_ret2
      exact ⟨_, rfl, by rw [HSG.out]; exact o.mono (by omega), b⟩
end Go.Proofs.YtdfgdchmeikigaaDoor.Ot
