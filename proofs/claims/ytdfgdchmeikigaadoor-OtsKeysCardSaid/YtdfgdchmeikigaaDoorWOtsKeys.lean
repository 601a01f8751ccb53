/-
  OtsKeys: the walk: the public sum of any key, and the sizes of its kind, are the document's.
-/
import Derived.Test.YtdfgdchmeikigaaDoorOH
import Derived.Test.YtdfgdchmeikigaaDoorStr
namespace Go.Proofs.YtdfgdchmeikigaaDoor.OtsKeys
open Go.ChangeShapes Go.WideShapes Go.ChangeAt Go.RowKit Go.Proofs.YtdfgdchmeikigaaDoor.Kit Go.Proofs.YtdfgdchmeikigaaDoor.Sha Go.Proofs.YtdfgdchmeikigaaDoor.Mk Go.Proofs.YtdfgdchmeikigaaDoor.Oct Go.Proofs.YtdfgdchmeikigaaDoor.Ot

set_option maxRecDepth 100000 in
set_option maxHeartbeats 6400000 in
theorem walk (k : Int) (id : List Int) (q : Int) (seed : List Int) (w : World) (hkw : (Lit.int .u32 k).wf = true) (hid : id.length = 16) (hio : Octets id) (hqw : (Lit.int .u32 q).wf = true) (hsl : seed.length = 32) (hso : Octets seed) (hL : LaidS w) :
    Calls Tryd.prog 3 #[.int .u32 k, arrV .u8 id, .int .u32 q, arrV .u8 seed] w fun e w' => e = .returned (.bool true) ∧ Below w.heap.size w w' := by
  have hkb := bounds_u32 hkw
  have hqb := bounds_u32 hqw
  unfold arrV
  have b0 := below_two' (w := w) (.cells (id.map (Value.int .u8)).toArray 23) (.cells (seed.map (Value.int .u8)).toArray 24)
  have i0 : Arr ((w.alloc (.cells (id.map (Value.int .u8)).toArray 23)).alloc (.cells (seed.map (Value.int .u8)).toArray 24)) w.heap.size 23 .u8 id := (Arr.new w _ _ _).alloc _
  have s0 : Arr ((w.alloc (.cells (id.map (Value.int .u8)).toArray 23)).alloc (.cells (seed.map (Value.int .u8)).toArray 24)) (w.heap.size + 1) 24 .u8 seed := by
    have := Arr.new (w.alloc (.cells (id.map (Value.int .u8)).toArray 23)) 24 .u8 seed
    rwa [show (w.alloc (.cells (id.map (Value.int .u8)).toArray 23)).heap.size = w.heap.size + 1 by simp] at this
  obtain ⟨V, E, hV, _, hE, GA, GB⟩ := public_both k id hid hio q (by omega) seed ⟨hsl, hso⟩
  have GA := Lib.hid GA
  have GB := Lib.hid GB
  have GZ := Lib.hid (fun W (hb : Below w.heap.size w W) => awake_any W (hL.below hb))
  have GS := Lib.hid (fun W => size_any k W)
  have GC := Lib.hid (fun W => chains_any k W)
  rw [chains_many] at GC
  have GR := Lib.hid (fun W => rchains_any k (by omega) W)
  have GW := Lib.hid (fun W => width_any k W)
  have GV := Lib.hid (fun W => rwide_any k W)
  have hmb := manyN_bd k
  have HI := Lib.hid hid
  have HS := Lib.hid hsl
  have HV := Lib.hid hV
  have HVl := Lib.hid hV.1
  have hLL := Lib.hid hL
  have hcase : (1 ≤ k ∧ k ≤ 4 ∧ sizeN k = 36 + 32 * (manyN k : Int)) ∨ ((k < 1 ∨ 4 < k) ∧ sizeN k = 0) := by
    by_cases hk : KindIn k
    · have := (kind_wide hk).2.1
      exact .inl ⟨by unfold KindIn at hk; omega, by unfold KindIn at hk; omega, by unfold sizeN; rw [if_neg (by omega)]⟩
    · exact .inr ⟨by unfold KindIn at hk; omega, by unfold sizeN; rw [if_pos (kind_none hk).2.1]⟩
  clear hV hL hid hio hsl hso hkw hqw
  generalize manyN k = m at *
  generalize wideN k = wd at *
  rcases hcase with ⟨h1, h4, hz⟩ | ⟨ho, hz⟩
  all_goals
    rw [hz] at GS
    clear hz
  · have d1 : decide (1 ≤ k) = true := decide_eq_true h1
    have d4 : decide (k ≤ 4) = true := decide_eq_true h4
    go_enter Tryd.func3, Tryd.ntmps3
    go_wp2_with (first
      | (have _t := i0; go_at_call 13; refine (GR.out _).mono ?_; clear _t; rintro e w1 ⟨rfl, hb⟩; have i1 : Arr w1 w.heap.size 23 .u8 id := Block.below i0 hb (Block.lt i0); have s1 : Arr w1 (w.heap.size + 1) 24 .u8 seed := Block.below s0 hb (Block.lt s0); have b1 := b0.trans (hb.mono b0.size); clear hb i0 s0 b0)
      | (have _t := i1; go_at_call 13; refine (GR.out _).mono ?_; clear _t; rintro e w2 ⟨rfl, hb⟩; have i2 : Arr w2 w.heap.size 23 .u8 id := Block.below i1 hb (Block.lt i1); have s2 : Arr w2 (w.heap.size + 1) 24 .u8 seed := Block.below s1 hb (Block.lt s1); have b2 := b1.trans (hb.mono b1.size); clear hb i1 s1 b1)
      | (go_at_call 14; refine (GW.out _).mono ?_; rintro e w9 ⟨rfl, rfl⟩)
      | (go_at_call 15; refine (GV.out _).mono ?_; rintro e w9 ⟨rfl, rfl⟩)
      | (go_at_call 16; refine (GC.out _).mono ?_; rintro e w9 ⟨rfl, rfl⟩)
      | (go_at_call 17; refine (GS.out _).mono ?_; rintro e w9 ⟨rfl, rfl⟩)
      | (have _t := i2; refine wpList_load_arr rfl _ _ rfl i2 rfl arr16 rfl (by rw [HI.out]; kernel_rfl) ?_)
      | (have _t := s2; refine wpList_load_arr rfl _ _ rfl s2 rfl arr32A rfl (by rw [HS.out]; kernel_rfl) ?_)
      | (have _t := i2; go_at_call 18; refine (GA.out _ (hLL.out.below b2)).mono ?_; clear _t; rintro e wa ⟨rfl, hb⟩; have i3 : Arr wa w.heap.size 23 .u8 id := Block.below i2 hb (Block.lt i2); have s3 : Arr wa (w.heap.size + 1) 24 .u8 seed := Block.below s2 hb (Block.lt s2); have b3 := b2.trans (hb.mono b2.size); have z3 := res_new wa 26; clear hb i2 s2 b2)
      | (have _t := z3; refine wpList_store_arr rfl _ _ _ rfl (ys := V) z3 rfl rfl (by rw [HVl.out]; rfl) (by rw [HVl.out]; kernel_rfl) ?_; clear _t; intro w4 x4 g4; have i4 := arr_kept i3 g4; have s4 := arr_kept s3 g4; have b4 := below_fill b3 b3.size g4; clear z3 g4 i3 s3 b3)
      | (have _t := i4; refine wpList_load_arr rfl _ _ rfl i4 rfl arr16 rfl (by rw [HI.out]; kernel_rfl) ?_)
      | (have _t := s4; refine wpList_load_arr rfl _ _ rfl s4 rfl arr32A rfl (by rw [HS.out]; kernel_rfl) ?_)
      | (have _t := i4; go_at_call 19; refine (GB.out _).mono ?_; clear _t; rintro e wb ⟨rfl, hb⟩; have x5 : Arr wb wa.heap.size 26 .u8 V := Block.below x4 hb (Block.lt x4); have b5 := b4.trans (hb.mono b4.size); have z5 := res_new wb 24; clear hb i4 s4 b4 x4)
      | (have _t := z5; refine wpList_store_arr rfl _ _ _ rfl (ys := V) z5 rfl rfl (by rw [HVl.out]; rfl) (by rw [HVl.out]; kernel_rfl) ?_; clear _t; intro w6 y6 g6; have x6 := arr_kept x5 g6; have b6 := below_fill b5 b5.size g6; clear z5 g6 x5 b5)
      | (have _t := x6; refine wpList_load_arr rfl _ _ rfl x6 rfl arr32D rfl (by rw [HVl.out]; kernel_rfl) ?_)
      | (have _t := y6; refine wpList_load_arr rfl _ _ rfl y6 rfl arr32A rfl (by rw [HVl.out]; kernel_rfl) ?_)
      | (have _t := y6; refine wpList_eql_same (by rfl) _ _ _ rfl HV.out HV.out rfl rfl (decide_eq_true rfl) ?_)
      | (have _t := b6; go_at_call 20; refine (GZ.out _ b6).mono ?_; clear _t; rintro e w7 ⟨rfl, hb⟩; have b7 := b6.trans (hb.mono b6.size)))
    go_ret
    exact ⟨rfl, b7⟩
  · rcases ho with h | h
    · have d1 : decide (1 ≤ k) = false := decide_eq_false (by omega)
      go_enter Tryd.func3, Tryd.ntmps3
      go_wp2_with (first
        | (have _t := i0; go_at_call 13; refine (GR.out _).mono ?_; clear _t; rintro e w2 ⟨rfl, hb⟩; have i2 : Arr w2 w.heap.size 23 .u8 id := Block.below i0 hb (Block.lt i0); have s2 : Arr w2 (w.heap.size + 1) 24 .u8 seed := Block.below s0 hb (Block.lt s0); have b2 := b0.trans (hb.mono b0.size); clear hb i0 s0 b0)
        | (fail)
        | (go_at_call 14; refine (GW.out _).mono ?_; rintro e w9 ⟨rfl, rfl⟩)
        | (go_at_call 15; refine (GV.out _).mono ?_; rintro e w9 ⟨rfl, rfl⟩)
        | (go_at_call 16; refine (GC.out _).mono ?_; rintro e w9 ⟨rfl, rfl⟩)
        | (go_at_call 17; refine (GS.out _).mono ?_; rintro e w9 ⟨rfl, rfl⟩)
        | (have _t := i2; refine wpList_load_arr rfl _ _ rfl i2 rfl arr16 rfl (by rw [HI.out]; kernel_rfl) ?_)
        | (have _t := s2; refine wpList_load_arr rfl _ _ rfl s2 rfl arr32A rfl (by rw [HS.out]; kernel_rfl) ?_)
        | (have _t := i2; go_at_call 18; refine (GA.out _ (hLL.out.below b2)).mono ?_; clear _t; rintro e wa ⟨rfl, hb⟩; have i3 : Arr wa w.heap.size 23 .u8 id := Block.below i2 hb (Block.lt i2); have s3 : Arr wa (w.heap.size + 1) 24 .u8 seed := Block.below s2 hb (Block.lt s2); have b3 := b2.trans (hb.mono b2.size); have z3 := res_new wa 26; clear hb i2 s2 b2)
        | (have _t := z3; refine wpList_store_arr rfl _ _ _ rfl (ys := V) z3 rfl rfl (by rw [HVl.out]; rfl) (by rw [HVl.out]; kernel_rfl) ?_; clear _t; intro w4 x4 g4; have i4 := arr_kept i3 g4; have s4 := arr_kept s3 g4; have b4 := below_fill b3 b3.size g4; clear z3 g4 i3 s3 b3)
        | (have _t := i4; refine wpList_load_arr rfl _ _ rfl i4 rfl arr16 rfl (by rw [HI.out]; kernel_rfl) ?_)
        | (have _t := s4; refine wpList_load_arr rfl _ _ rfl s4 rfl arr32A rfl (by rw [HS.out]; kernel_rfl) ?_)
        | (have _t := i4; go_at_call 19; refine (GB.out _).mono ?_; clear _t; rintro e wb ⟨rfl, hb⟩; have x5 : Arr wb wa.heap.size 26 .u8 V := Block.below x4 hb (Block.lt x4); have b5 := b4.trans (hb.mono b4.size); have z5 := res_new wb 24; clear hb i4 s4 b4 x4)
        | (have _t := z5; refine wpList_store_arr rfl _ _ _ rfl (ys := V) z5 rfl rfl (by rw [HVl.out]; rfl) (by rw [HVl.out]; kernel_rfl) ?_; clear _t; intro w6 y6 g6; have x6 := arr_kept x5 g6; have b6 := below_fill b5 b5.size g6; clear z5 g6 x5 b5)
        | (have _t := x6; refine wpList_load_arr rfl _ _ rfl x6 rfl arr32D rfl (by rw [HVl.out]; kernel_rfl) ?_)
        | (have _t := y6; refine wpList_load_arr rfl _ _ rfl y6 rfl arr32A rfl (by rw [HVl.out]; kernel_rfl) ?_)
        | (have _t := y6; refine wpList_eql_same (by rfl) _ _ _ rfl HV.out HV.out rfl rfl (decide_eq_true rfl) ?_)
        | (have _t := b6; go_at_call 20; refine (GZ.out _ b6).mono ?_; clear _t; rintro e w7 ⟨rfl, hb⟩; have b7 := b6.trans (hb.mono b6.size)))
      go_ret
      exact ⟨rfl, b7⟩
    · have d1 : decide (1 ≤ k) = true := decide_eq_true (by omega)
      have d4 : decide (k ≤ 4) = false := decide_eq_false (by omega)
      go_enter Tryd.func3, Tryd.ntmps3
      go_wp2_with (first
        | (have _t := i0; go_at_call 13; refine (GR.out _).mono ?_; clear _t; rintro e w2 ⟨rfl, hb⟩; have i2 : Arr w2 w.heap.size 23 .u8 id := Block.below i0 hb (Block.lt i0); have s2 : Arr w2 (w.heap.size + 1) 24 .u8 seed := Block.below s0 hb (Block.lt s0); have b2 := b0.trans (hb.mono b0.size); clear hb i0 s0 b0)
        | (fail)
        | (go_at_call 14; refine (GW.out _).mono ?_; rintro e w9 ⟨rfl, rfl⟩)
        | (go_at_call 15; refine (GV.out _).mono ?_; rintro e w9 ⟨rfl, rfl⟩)
        | (go_at_call 16; refine (GC.out _).mono ?_; rintro e w9 ⟨rfl, rfl⟩)
        | (go_at_call 17; refine (GS.out _).mono ?_; rintro e w9 ⟨rfl, rfl⟩)
        | (have _t := i2; refine wpList_load_arr rfl _ _ rfl i2 rfl arr16 rfl (by rw [HI.out]; kernel_rfl) ?_)
        | (have _t := s2; refine wpList_load_arr rfl _ _ rfl s2 rfl arr32A rfl (by rw [HS.out]; kernel_rfl) ?_)
        | (have _t := i2; go_at_call 18; refine (GA.out _ (hLL.out.below b2)).mono ?_; clear _t; rintro e wa ⟨rfl, hb⟩; have i3 : Arr wa w.heap.size 23 .u8 id := Block.below i2 hb (Block.lt i2); have s3 : Arr wa (w.heap.size + 1) 24 .u8 seed := Block.below s2 hb (Block.lt s2); have b3 := b2.trans (hb.mono b2.size); have z3 := res_new wa 26; clear hb i2 s2 b2)
        | (have _t := z3; refine wpList_store_arr rfl _ _ _ rfl (ys := V) z3 rfl rfl (by rw [HVl.out]; rfl) (by rw [HVl.out]; kernel_rfl) ?_; clear _t; intro w4 x4 g4; have i4 := arr_kept i3 g4; have s4 := arr_kept s3 g4; have b4 := below_fill b3 b3.size g4; clear z3 g4 i3 s3 b3)
        | (have _t := i4; refine wpList_load_arr rfl _ _ rfl i4 rfl arr16 rfl (by rw [HI.out]; kernel_rfl) ?_)
        | (have _t := s4; refine wpList_load_arr rfl _ _ rfl s4 rfl arr32A rfl (by rw [HS.out]; kernel_rfl) ?_)
        | (have _t := i4; go_at_call 19; refine (GB.out _).mono ?_; clear _t; rintro e wb ⟨rfl, hb⟩; have x5 : Arr wb wa.heap.size 26 .u8 V := Block.below x4 hb (Block.lt x4); have b5 := b4.trans (hb.mono b4.size); have z5 := res_new wb 24; clear hb i4 s4 b4 x4)
        | (have _t := z5; refine wpList_store_arr rfl _ _ _ rfl (ys := V) z5 rfl rfl (by rw [HVl.out]; rfl) (by rw [HVl.out]; kernel_rfl) ?_; clear _t; intro w6 y6 g6; have x6 := arr_kept x5 g6; have b6 := below_fill b5 b5.size g6; clear z5 g6 x5 b5)
        | (have _t := x6; refine wpList_load_arr rfl _ _ rfl x6 rfl arr32D rfl (by rw [HVl.out]; kernel_rfl) ?_)
        | (have _t := y6; refine wpList_load_arr rfl _ _ rfl y6 rfl arr32A rfl (by rw [HVl.out]; kernel_rfl) ?_)
        | (have _t := y6; refine wpList_eql_same (by rfl) _ _ _ rfl HV.out HV.out rfl rfl (decide_eq_true rfl) ?_)
        | (have _t := b6; go_at_call 20; refine (GZ.out _ b6).mono ?_; clear _t; rintro e w7 ⟨rfl, hb⟩; have b7 := b6.trans (hb.mono b6.size)))
      go_ret
      exact ⟨rfl, b7⟩
end Go.Proofs.YtdfgdchmeikigaaDoor.OtsKeys
