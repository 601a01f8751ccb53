/-
  OtsSigns: the walk: the signature of any text by any key is the document's; its candidate is the key's public sum.
-/
import Derived.Test.YtdfgdchmeikigaaDoorOH
import Derived.Test.YtdfgdchmeikigaaDoorStr
namespace Go.Proofs.YtdfgdchmeikigaaDoor.OtsSigns
open Go.ChangeShapes Go.WideShapes Go.ChangeAt Go.RowKit Go.Proofs.YtdfgdchmeikigaaDoor.Kit Go.Proofs.YtdfgdchmeikigaaDoor.Sha Go.Proofs.YtdfgdchmeikigaaDoor.Mk Go.Proofs.YtdfgdchmeikigaaDoor.Oct Go.Proofs.YtdfgdchmeikigaaDoor.Ot

set_option maxRecDepth 100000 in
set_option maxHeartbeats 6400000 in
theorem walk (k : Int) (id : List Int) (q : Int) (seed : List Int) (A : Option Addr) (text : List Int) (c : Nat) (w : World) (hkw : (Lit.int .u32 k).wf = true) (hid : id.length = 16) (hio : Octets id) (hqw : (Lit.int .u32 q).wf = true) (hsl : seed.length = 32) (hso : Octets seed)
    (l2 : text.length ≤ c) (m2 : c ≤ maxLen) (o2 : Octets text) (r2 : Holds w w.heap.size .u8 A text) (hL : LaidS w) :
    Calls Tryd.prog 4 #[.int .u32 k, arrV .u8 id, .int .u32 q, arrV .u8 seed, .slice A text.length c] w fun e w' => e = .returned (.bool true) ∧ Below w.heap.size w w' := by
  have hkb := bounds_u32 hkw
  have hqb := bounds_u32 hqw
  unfold arrV
  have b0 := below_two' (w := w) (.cells (id.map (Value.int .u8)).toArray 23) (.cells (seed.map (Value.int .u8)).toArray 24)
  have i0 : Arr ((w.alloc (.cells (id.map (Value.int .u8)).toArray 23)).alloc (.cells (seed.map (Value.int .u8)).toArray 24)) w.heap.size 23 .u8 id := (Arr.new w _ _ _).alloc _
  have s0 : Arr ((w.alloc (.cells (id.map (Value.int .u8)).toArray 23)).alloc (.cells (seed.map (Value.int .u8)).toArray 24)) (w.heap.size + 1) 24 .u8 seed := by
    have := Arr.new (w.alloc (.cells (id.map (Value.int .u8)).toArray 23)) 24 .u8 seed
    rwa [show (w.alloc (.cells (id.map (Value.int .u8)).toArray 23)).heap.size = w.heap.size + 1 by simp] at this
  have K2 : RwOk w w.heap.size ⟨A, c, text⟩ := ⟨l2, m2, o2, r2⟩
  have GZ := Lib.hid (fun W (hb : Below w.heap.size w W) => awake_any W (hL.below hb))
  have hLL := Lib.hid hL
  have HI := Lib.hid hid
  have HS := Lib.hid hsl
  unfold maxLen at m2
  by_cases ht1 : 1000 < text.length
  · have d2 : decide ((1000 : Int) < (text.length : Int)) = true := decide_eq_true (by omega)
    go_enter Tryd.func4, Tryd.ntmps4
    go_wp2_with (go_at_call 20; refine (GZ.out _ b0).mono ?_; rintro e w1 ⟨rfl, hb⟩)
    go_ret
    exact ⟨rfl, b0.trans (hb.mono b0.size)⟩
  have d2 : decide ((1000 : Int) < (text.length : Int)) = false := decide_eq_false (by omega)
  by_cases hk : KindIn k
  · have GA := Lib.hid (fun W A c h hL => sign_in k hk id hid hio q (by omega) seed ⟨hsl, hso⟩ A text c W h (by omega) hL)
    have GB := Lib.hid (fun W A c h => rsign_in k hk id hid hio q (by omega) seed ⟨hsl, hso⟩ A text c W h (by omega))
    have hcs := cand_sign (nm := nmL id q) (seed := seed) (text := text) hk
    have hVo : Octets (signL (nmL id q) k seed text) := signL_octets
    have GC := Lib.hid (fun W A1 c1 A2 c2 h1 h2 hL => cand_in k hk id q A1 (signL (nmL id q) k seed text) c1 A2 text c2 W (by rw [signL_length]; have := manyN_bd k; omega) h1 signL_length (signL_kind hk) hid hio (by omega) h2 (by omega) hL)
    rw [hcs] at GC
    have GP := Lib.hid (fun W hL => public_in k hk id hid hio q (by omega) seed ⟨hsl, hso⟩ W hL)
    have hP : D32 (pubL (nmL id q) k seed) := sumL_d32 _
    have HP := Lib.hid hP
    have HPl := Lib.hid hP.1
    generalize pubL (nmL id q) k seed = P at *
    generalize signL (nmL id q) k seed text = V at *
    clear hcs hP hk hid hio hsl hso hkw hqw hL r2 o2
    go_enter Tryd.func4, Tryd.ntmps4
    go_wp2_with (first
      | (have _t := i0; refine wpList_load_arr rfl _ _ rfl i0 rfl arr16 rfl (by rw [HI.out]; kernel_rfl) ?_)
      | (have _t := s0; refine wpList_load_arr rfl _ _ rfl s0 rfl arr32A rfl (by rw [HS.out]; kernel_rfl) ?_)
      | (have _t := b0; go_at_call 21; refine (GA.out _ _ _ ((K2.below b0).more b0.size) (hLL.out.below b0)).mono ?_; clear _t; rintro e w1 ⟨v1, rfl, own1, hb⟩; obtain ⟨A1, c1, rfl, k1, m1, h1⟩ := own1.opened; have i1 : Arr w1 w.heap.size 23 .u8 id := Block.below i0 hb (Block.lt i0); have s1 : Arr w1 (w.heap.size + 1) 24 .u8 seed := Block.below s0 hb (Block.lt s0); have b1 := b0.trans (hb.mono b0.size); clear hb own1 i0 s0 b0)
      | (have _t := i1; refine wpList_load_arr rfl _ _ rfl i1 rfl arr16 rfl (by rw [HI.out]; kernel_rfl) ?_)
      | (have _t := s1; refine wpList_load_arr rfl _ _ rfl s1 rfl arr32A rfl (by rw [HS.out]; kernel_rfl) ?_)
      | (have _t := b1; go_at_call 22; refine (GB.out _ _ _ ((K2.below b1).more b1.size)).mono ?_; clear _t; rintro e w2 ⟨v2, rfl, own2, hb⟩; obtain ⟨A2, c2, rfl, k2, m2, h2⟩ := own2.opened; have i2 : Arr w2 w.heap.size 23 .u8 id := Block.below i1 hb (Block.lt i1); have s2 : Arr w2 (w.heap.size + 1) 24 .u8 seed := Block.below s1 hb (Block.lt s1); have b2 := b1.trans (hb.mono b1.size); have h12 := Holds.on h1 hb; have f1 := conv_bytes Tryd.underlying35 Tryd.underlying5 Tryd.underlying9 w2 A1 V c1 _ h12; have f2 := conv_bytes Tryd.underlying35 Tryd.underlying5 Tryd.underlying9 w2 A2 V c2 _ h2; clear hb own2 i1 s1 b1)
      | (have _t := i2; refine wpList_load_arr rfl _ _ rfl i2 rfl arr16 rfl (by rw [HI.out]; kernel_rfl) ?_)
      | (have _t := h12; go_at_call 23; refine (GC.out _ _ _ _ _ (show RwOk w2 w2.heap.size ⟨A1, c1, V⟩ from ⟨k1, m1, hVo, h12⟩) ((K2.below b2).more b2.size) (hLL.out.below b2)).mono ?_; clear _t; rintro e w3 ⟨rfl, hb⟩; have i3 : Arr w3 w.heap.size 23 .u8 id := Block.below i2 hb (Block.lt i2); have s3 : Arr w3 (w.heap.size + 1) 24 .u8 seed := Block.below s2 hb (Block.lt s2); have b3 := b2.trans (hb.mono b2.size); have z3 := res_new w3 26; clear hb i2 s2 b2 h12 h1 h2)
      | (have _t := z3; refine wpList_store_arr rfl _ _ _ rfl (ys := P) z3 rfl rfl (by rw [HPl.out]; rfl) (by rw [HPl.out]; kernel_rfl) ?_; clear _t; intro w4 x4 g4; have i4 := arr_kept i3 g4; have s4 := arr_kept s3 g4; have b4 := below_fill b3 b3.size g4; clear z3 g4 i3 s3 b3)
      | (have _t := i4; refine wpList_load_arr rfl _ _ rfl i4 rfl arr16 rfl (by rw [HI.out]; kernel_rfl) ?_)
      | (have _t := s4; refine wpList_load_arr rfl _ _ rfl s4 rfl arr32A rfl (by rw [HS.out]; kernel_rfl) ?_)
      | (have _t := i4; go_at_call 18; refine (GP.out _ (hLL.out.below b4)).mono ?_; clear _t; rintro e w5 ⟨rfl, hb⟩; have x5 : Arr w5 w3.heap.size 26 .u8 P := Block.below x4 hb (Block.lt x4); have b5 := b4.trans (hb.mono b4.size); have z5 := res_new w5 26; clear hb i4 s4 b4 x4)
      | (have _t := z5; refine wpList_store_arr rfl _ _ _ rfl (ys := P) z5 rfl rfl (by rw [HPl.out]; rfl) (by rw [HPl.out]; kernel_rfl) ?_; clear _t; intro w6 y6 g6; have x6 := arr_kept x5 g6; have b6 := below_fill b5 b5.size g6; clear z5 g6 x5 b5)
      | (have _t := x6; refine wpList_load_arrG (by rfl) _ _ rfl x6 rfl arr32D rfl (by rw [HPl.out]; kernel_rfl) ?_)
      | (have _t := y6; refine wpList_load_arrG (by rfl) _ _ rfl y6 rfl arr32D rfl (by rw [HPl.out]; kernel_rfl) ?_)
      | (have _t := y6; refine wpList_eql_same (by rfl) _ _ _ rfl HP.out HP.out rfl rfl (decide_eq_true rfl) ?_)
      | (have _t := b6; go_at_call 20; refine (GZ.out _ b6).mono ?_; clear _t; rintro e w7 ⟨rfl, hb⟩; have b7 := b6.trans (hb.mono b6.size)))
    go_ret
    exact ⟨rfl, b7⟩
  · have GA := Lib.hid (fun W A c (_ : RwOk W W.heap.size ⟨A, c, text⟩) (_ : LaidS W) => sign_no k hk id q seed A text c W)
    have GB := Lib.hid (fun W A c (_ : RwOk W W.heap.size ⟨A, c, text⟩) => rsign_no k hk id q seed A text c W)
    generalize ([] : List Int) = V at *
    clear hk hid hio hsl hso hkw hqw hL r2 o2
    go_enter Tryd.func4, Tryd.ntmps4
    go_wp2_with (first
      | (have _t := i0; refine wpList_load_arr rfl _ _ rfl i0 rfl arr16 rfl (by rw [HI.out]; kernel_rfl) ?_)
      | (have _t := s0; refine wpList_load_arr rfl _ _ rfl s0 rfl arr32A rfl (by rw [HS.out]; kernel_rfl) ?_)
      | (have _t := b0; go_at_call 21; refine (GA.out _ _ _ ((K2.below b0).more b0.size) (hLL.out.below b0)).mono ?_; clear _t; rintro e w1 ⟨v1, rfl, own1, hb⟩; obtain ⟨A1, c1, rfl, k1, m1, h1⟩ := own1.opened; have i1 : Arr w1 w.heap.size 23 .u8 id := Block.below i0 hb (Block.lt i0); have s1 : Arr w1 (w.heap.size + 1) 24 .u8 seed := Block.below s0 hb (Block.lt s0); have b1 := b0.trans (hb.mono b0.size); clear hb own1 i0 s0 b0)
      | (have _t := i1; refine wpList_load_arr rfl _ _ rfl i1 rfl arr16 rfl (by rw [HI.out]; kernel_rfl) ?_)
      | (have _t := s1; refine wpList_load_arr rfl _ _ rfl s1 rfl arr32A rfl (by rw [HS.out]; kernel_rfl) ?_)
      | (have _t := b1; go_at_call 22; refine (GB.out _ _ _ ((K2.below b1).more b1.size)).mono ?_; clear _t; rintro e w2 ⟨v2, rfl, own2, hb⟩; obtain ⟨A2, c2, rfl, k2, m2, h2⟩ := own2.opened; have i2 : Arr w2 w.heap.size 23 .u8 id := Block.below i1 hb (Block.lt i1); have s2 : Arr w2 (w.heap.size + 1) 24 .u8 seed := Block.below s1 hb (Block.lt s1); have b2 := b1.trans (hb.mono b1.size); have h12 := Holds.on h1 hb; have f1 := conv_bytes Tryd.underlying35 Tryd.underlying5 Tryd.underlying9 w2 A1 V c1 _ h12; have f2 := conv_bytes Tryd.underlying35 Tryd.underlying5 Tryd.underlying9 w2 A2 V c2 _ h2; clear hb own2 i1 s1 b1)
      | (have _t := h12; go_at_call 20; refine (GZ.out _ b2).mono ?_; clear _t; rintro e w7 ⟨rfl, hb⟩; have b7 := b2.trans (hb.mono b2.size)))
    go_ret
    exact ⟨rfl, b7⟩
end Go.Proofs.YtdfgdchmeikigaaDoor.OtsSigns
