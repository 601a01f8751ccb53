/-
  OtsReads: the walk: the candidate of any bytes for any text, or the error, is the document's.
-/
import Derived.Test.YtdfgdchmeikigaaDoorOH
import Derived.Test.YtdfgdchmeikigaaDoorStr
namespace Go.Proofs.YtdfgdchmeikigaaDoor.OtsReads
open Go.ChangeShapes Go.WideShapes Go.ChangeAt Go.RowKit Go.Proofs.YtdfgdchmeikigaaDoor.Kit Go.Proofs.YtdfgdchmeikigaaDoor.Sha Go.Proofs.YtdfgdchmeikigaaDoor.Mk Go.Proofs.YtdfgdchmeikigaaDoor.Oct Go.Proofs.YtdfgdchmeikigaaDoor.Ot

set_option maxRecDepth 100000 in
set_option maxHeartbeats 6400000 in
theorem walk (k : Int) (id : List Int) (q : Int) (A1 : Option Addr) (sig : List Int) (c1 : Nat) (A2 : Option Addr) (text : List Int) (c2 : Nat) (w : World) (hkw : (Lit.int .u32 k).wf = true) (hid : id.length = 16) (hio : Octets id) (hqw : (Lit.int .u32 q).wf = true)
    (l1 : sig.length ≤ c1) (m1 : c1 ≤ maxLen) (o1 : Octets sig) (r1 : Holds w w.heap.size .u8 A1 sig) (l2 : text.length ≤ c2) (m2 : c2 ≤ maxLen) (o2 : Octets text) (r2 : Holds w w.heap.size .u8 A2 text) (hL : LaidS w) :
    Calls Tryd.prog 5 #[.int .u32 k, arrV .u8 id, .int .u32 q, .slice A1 sig.length c1, .slice A2 text.length c2] w fun e w' => e = .returned (.bool true) ∧ Below w.heap.size w w' := by
  have hkb := bounds_u32 hkw
  have hqb := bounds_u32 hqw
  unfold arrV
  have b0 := below_last w (.cells (id.map (Value.int .u8)).toArray 23)
  have i0 := Arr.new w 23 .u8 id
  have K1 : RwOk w w.heap.size ⟨A1, c1, sig⟩ := ⟨l1, m1, o1, r1⟩
  have K2 : RwOk w w.heap.size ⟨A2, c2, text⟩ := ⟨l2, m2, o2, r2⟩
  have GZ := Lib.hid (fun W (hb : Below w.heap.size w W) => awake_any W (hL.below hb))
  have hLL := Lib.hid hL
  have HI := Lib.hid hid
  unfold maxLen at m1 m2
  by_cases hs9 : 9000 < sig.length
  · have d1 : decide ((9000 : Int) < (sig.length : Int)) = true := decide_eq_true (by omega)
    go_enter Tryd.func5, Tryd.ntmps5
    go_wp2_with (go_at_call 20; refine (GZ.out _ b0).mono ?_; rintro e w1 ⟨rfl, hb⟩)
    go_ret
    exact ⟨rfl, b0.trans (hb.mono b0.size)⟩
  have d1 : decide ((9000 : Int) < (sig.length : Int)) = false := decide_eq_false (by omega)
  by_cases ht1 : 1000 < text.length
  · have d2 : decide ((1000 : Int) < (text.length : Int)) = true := decide_eq_true (by omega)
    go_enter Tryd.func5, Tryd.ntmps5
    go_wp2_with (go_at_call 20; refine (GZ.out _ b0).mono ?_; rintro e w1 ⟨rfl, hb⟩)
    go_ret
    exact ⟨rfl, b0.trans (hb.mono b0.size)⟩
  have d2 : decide ((1000 : Int) < (text.length : Int)) = false := decide_eq_false (by omega)
  obtain ⟨V, E, hV, _, hE, GA, GB⟩ := cand_both k id hid hio q (by omega) sig (by omega) text (by omega)
  have GA := Lib.hid GA
  have GB := Lib.hid GB
  have HV := Lib.hid hV
  have HVl := Lib.hid hV.1
  clear hV hL hid hio hkw hqw r1 r2 o1 o2
  go_enter Tryd.func5, Tryd.ntmps5
  go_wp2_with (first
    | (have _t := i0; refine wpList_load_arr rfl _ _ rfl i0 rfl arr16 rfl (by rw [HI.out]; kernel_rfl) ?_)
    | (have _t := i0; go_at_call 23; refine (GA.out _ _ _ _ _ ((K1.below b0).more b0.size) ((K2.below b0).more b0.size) (hLL.out.below b0)).mono ?_; clear _t; rintro e wa ⟨rfl, hb⟩; have i3 : Arr wa w.heap.size 23 .u8 id := Block.below i0 hb (Block.lt i0); have b3 := b0.trans (hb.mono b0.size); have z3 := res_new wa 26; clear hb i0 b0)
    | (have _t := z3; refine wpList_store_arr rfl _ _ _ rfl (ys := V) z3 rfl rfl (by rw [HVl.out]; rfl) (by rw [HVl.out]; kernel_rfl) ?_; clear _t; intro w4 x4 g4; have i4 := arr_kept i3 g4; have b4 := below_fill b3 b3.size g4; clear z3 g4 i3 b3)
    | (have _t := i4; refine wpList_load_arr rfl _ _ rfl i4 rfl arr16 rfl (by rw [HI.out]; kernel_rfl) ?_)
    | (have _t := i4; go_at_call 24; refine (GB.out _ _ _ _ _ ((K1.below b4).more b4.size) ((K2.below b4).more b4.size)).mono ?_; clear _t; rintro e wb ⟨rfl, hb⟩; have x5 : Arr wb wa.heap.size 26 .u8 V := Block.below x4 hb (Block.lt x4); have b5 := b4.trans (hb.mono b4.size); have z5 := res_new wb 24; clear hb i4 b4 x4)
    | (have _t := z5; refine wpList_store_arr rfl _ _ _ rfl (ys := V) z5 rfl rfl (by rw [HVl.out]; rfl) (by rw [HVl.out]; kernel_rfl) ?_; clear _t; intro w6 y6 g6; have x6 := arr_kept x5 g6; have b6 := below_fill b5 b5.size g6; clear z5 g6 x5 b5)
    | (have _t := x6; refine wpList_load_arr rfl _ _ rfl x6 rfl arr32D rfl (by rw [HVl.out]; kernel_rfl) ?_)
    | (have _t := y6; refine wpList_load_arr rfl _ _ rfl y6 rfl arr32A rfl (by rw [HVl.out]; kernel_rfl) ?_)
    | (have _t := y6; refine wpList_eql_same (by rfl) _ _ _ rfl HV.out HV.out rfl rfl (decide_eq_true rfl) ?_)
    | (have _t := b6; go_at_call 20; refine (GZ.out _ b6).mono ?_; clear _t; rintro e w7 ⟨rfl, hb⟩; have b7 := b6.trans (hb.mono b6.size)))
  go_ret
  exact ⟨rfl, b7⟩
end Go.Proofs.YtdfgdchmeikigaaDoor.OtsReads
