/-
  OtsSpoilt: the walk: a signature of which one byte of a chain is another one leads to the document's candidate, which is the public sum only where that is, too.
-/
import Derived.Test.YtdfgdchmeikigaaDoorOH
import Derived.Test.YtdfgdchmeikigaaDoorStr
namespace Go.Proofs.YtdfgdchmeikigaaDoor.OtsSpoilt
open Go.ChangeShapes Go.WideShapes Go.ChangeAt Go.RowKit Go.Proofs.YtdfgdchmeikigaaDoor.Kit Go.Proofs.YtdfgdchmeikigaaDoor.Sha Go.Proofs.YtdfgdchmeikigaaDoor.Mk Go.Proofs.YtdfgdchmeikigaaDoor.Oct Go.Proofs.YtdfgdchmeikigaaDoor.Ot

/-- == on sums, as an operation. -/
theorem eql_out {a : Act} {W : World} {x y : Operand} {ys zs : List Int} {b : Bool} {d : Option Tmp} {ty tt : TypeId} {ps : String} {af : Array Edge} {gd : Option (Nat × Bool)} (hy : D32 ys) (hz : D32 zs) (hx : a.eval x = arrV .u8 ys) (hyv : a.eval y = arrV .u8 zs) (hb : decide (ys = zs) = b) :
    (execOp a.eval ⟨d, .binOp .eql 26 x y tt, ty, ps, af, gd⟩).run Tryd.prog W = .ok (.value (.bool b)) W := by
  have h1 := dig_same ys zs hy hz W
  have h2 := dig_guards ys zs x y W
  rw [hb] at h1
  unfold execOp
  simp only [hx, hyv, Sem.run_bind, Sem.run_pure, h2, Result.andThen_ok, h1]
theorem wrap_u8_bd (n : Int) : 0 ≤ IntKind.u8.wrap n ∧ IntKind.u8.wrap n ≤ 255 := by simp [IntKind.wrap, IntKind.bits, IntKind.signed]; omega
theorem set_take {V : List Int} {n : Nat} (z : Int) (hn : 4 ≤ n) : (V.set n z).take 4 = V.take 4 := by rw [List.take_set]; exact List.set_eq_of_length_le (by rw [List.length_take]; omega)
theorem set_octets {V : List Int} (h : Octets V) (n : Nat) {z : Int} (hz : 0 ≤ z ∧ z ≤ 255) : Octets (V.set n z) := fun x hx => by
  rcases List.mem_or_eq_of_mem_set hx with hx | rfl
  · exact h x hx
  · exact hz

set_option maxRecDepth 100000 in
set_option maxHeartbeats 6400000 in
theorem walk (k : Int) (id : List Int) (q : Int) (seed : List Int) (A : Option Addr) (text : List Int) (c : Nat) (i : Int) (by_ : Int) (w : World) (hkw : (Lit.int .u32 k).wf = true) (hid : id.length = 16) (hio : Octets id) (hqw : (Lit.int .u32 q).wf = true) (hsl : seed.length = 32) (hso : Octets seed)
    (l2 : text.length ≤ c) (m2 : c ≤ maxLen) (o2 : Octets text) (r2 : Holds w w.heap.size .u8 A text) (hiw : (Lit.int .i64 i).wf = true) (hbw : (Lit.int .u8 by_).wf = true) (hL : LaidS w) :
    Calls Tryd.prog 6 #[.int .u32 k, arrV .u8 id, .int .u32 q, arrV .u8 seed, .slice A text.length c, .int .i64 i, .int .u8 by_] w fun e w' => e = .returned (.bool true) ∧ Below w.heap.size w w' := by
  have hkb := bounds_u32 hkw
  have hqb := bounds_u32 hqw
  have hib := bounds_i64 hiw
  have hbb := bounds_u8 hbw
  unfold arrV
  have b0 := below_two' (w := w) (.cells (id.map (Value.int .u8)).toArray 23) (.cells (seed.map (Value.int .u8)).toArray 24)
  have i0 : Arr ((w.alloc (.cells (id.map (Value.int .u8)).toArray 23)).alloc (.cells (seed.map (Value.int .u8)).toArray 24)) w.heap.size 23 .u8 id := (Arr.new w _ _ _).alloc _
  have s0 : Arr ((w.alloc (.cells (id.map (Value.int .u8)).toArray 23)).alloc (.cells (seed.map (Value.int .u8)).toArray 24)) (w.heap.size + 1) 24 .u8 seed := by
    have := Arr.new (w.alloc (.cells (id.map (Value.int .u8)).toArray 23)) 24 .u8 seed
    rwa [show (w.alloc (.cells (id.map (Value.int .u8)).toArray 23)).heap.size = w.heap.size + 1 by simp] at this
  have K2 : RwOk w w.heap.size ⟨A, c, text⟩ := ⟨l2, m2, o2, r2⟩
  have GZ := Lib.hid (fun W (hb : Below w.heap.size w W) => awake_any W (hL.below hb))
  have GR := Lib.hid (fun W => rchains_any k (by omega) W)
  have hmb := manyN_bd k
  have hLL := Lib.hid hL
  have HI := Lib.hid hid
  have HS := Lib.hid hsl
  unfold maxLen at m2
  by_cases g0 : k < 1
  · have d0 : decide (k < 1) = true := decide_eq_true (by omega)
    go_enter Tryd.func6, Tryd.ntmps6
    go_wp2_with (first
      | (have _t := b0; go_at_call 13; refine (GR.out _).mono ?_; clear _t; rintro e w1 ⟨rfl, hb⟩; have b1 := b0.trans (hb.mono b0.size); clear hb b0)
      | (go_at_call 20; refine (GZ.out _ b0).mono ?_; rintro e w9 ⟨rfl, hb⟩; have b9 := b0.trans (hb.mono b0.size)))
    go_ret
    exact ⟨rfl, b9⟩
  have d0 : decide (k < 1) = false := decide_eq_false (by omega)
  by_cases g1 : 3 < k
  · have d1 : decide (3 < k) = true := decide_eq_true (by omega)
    go_enter Tryd.func6, Tryd.ntmps6
    go_wp2_with (first
      | (have _t := b0; go_at_call 13; refine (GR.out _).mono ?_; clear _t; rintro e w1 ⟨rfl, hb⟩; have b1 := b0.trans (hb.mono b0.size); clear hb b0)
      | (go_at_call 20; refine (GZ.out _ b0).mono ?_; rintro e w9 ⟨rfl, hb⟩; have b9 := b0.trans (hb.mono b0.size)))
    go_ret
    exact ⟨rfl, b9⟩
  have d1 : decide (3 < k) = false := decide_eq_false (by omega)
  by_cases g2 : 200 < text.length
  · have d2 : decide ((200 : Int) < (text.length : Int)) = true := decide_eq_true (by omega)
    go_enter Tryd.func6, Tryd.ntmps6
    go_wp2_with (first
      | (have _t := b0; go_at_call 13; refine (GR.out _).mono ?_; clear _t; rintro e w1 ⟨rfl, hb⟩; have b1 := b0.trans (hb.mono b0.size); clear hb b0)
      | (go_at_call 20; refine (GZ.out _ b0).mono ?_; rintro e w9 ⟨rfl, hb⟩; have b9 := b0.trans (hb.mono b0.size)))
    go_ret
    exact ⟨rfl, b9⟩
  have d2 : decide ((200 : Int) < (text.length : Int)) = false := decide_eq_false (by omega)
  by_cases g3 : by_ = 0
  · have d3 : (by_ == 0) = true := (by rw [beq_iff_eq]; exact g3)
    go_enter Tryd.func6, Tryd.ntmps6
    go_wp2_with (first
      | (have _t := b0; go_at_call 13; refine (GR.out _).mono ?_; clear _t; rintro e w1 ⟨rfl, hb⟩; have b1 := b0.trans (hb.mono b0.size); clear hb b0)
      | (go_at_call 20; refine (GZ.out _ b0).mono ?_; rintro e w9 ⟨rfl, hb⟩; have b9 := b0.trans (hb.mono b0.size)))
    go_ret
    exact ⟨rfl, b9⟩
  have d3 : (by_ == 0) = false := (by rw [beq_eq_false_iff_ne]; exact g3)
  by_cases g4 : i < 0
  · have d4 : decide (i < 0) = true := decide_eq_true (by omega)
    go_enter Tryd.func6, Tryd.ntmps6
    go_wp2_with (first
      | (have _t := b0; go_at_call 13; refine (GR.out _).mono ?_; clear _t; rintro e w1 ⟨rfl, hb⟩; have b1 := b0.trans (hb.mono b0.size); clear hb b0)
      | (go_at_call 20; refine (GZ.out _ b0).mono ?_; rintro e w9 ⟨rfl, hb⟩; have b9 := b0.trans (hb.mono b0.size)))
    go_ret
    exact ⟨rfl, b9⟩
  have d4 : decide (i < 0) = false := decide_eq_false (by omega)
  by_cases g5 : 32 * (manyN k : Int) ≤ i
  · have d5 : decide (32 * (manyN k : Int) ≤ i) = true := decide_eq_true (by omega)
    have hi0 : 0 ≤ i := by omega
    generalize manyN k = m at *
    go_enter Tryd.func6, Tryd.ntmps6
    go_wp2_with (first
      | (have _t := b0; go_at_call 13; refine (GR.out _).mono ?_; clear _t; rintro e w1 ⟨rfl, hb⟩; have b1 := b0.trans (hb.mono b0.size); clear hb b0)
      | (go_at_call 20; refine (GZ.out _ b1).mono ?_; rintro e w9 ⟨rfl, hb⟩; have b9 := b1.trans (hb.mono b1.size)))
    go_ret
    exact ⟨rfl, b9⟩
  have d5 : decide (32 * (manyN k : Int) ≤ i) = false := decide_eq_false (by omega)
  have hk : KindIn k := by unfold KindIn; omega
  have GA := Lib.hid (fun W A c h hL => sign_in k hk id hid hio q (by omega) seed ⟨hsl, hso⟩ A text c W h (by omega) hL)
  have hcs := cand_sign (nm := nmL id q) (seed := seed) (text := text) hk
  have hVo : Octets (signL (nmL id q) k seed text) := signL_octets
  have hVl : (signL (nmL id q) k seed text).length = 36 + 32 * manyN k := signL_length
  have hVk : val ((signL (nmL id q) k seed text).take 4) = k := signL_kind hk
  have GC := Lib.hid (fun W A1 c1 A2 c2 h1 h2 hL => cand_in k hk id q A1 (signL (nmL id q) k seed text) c1 A2 text c2 W (by rw [signL_length]; omega) h1 signL_length (signL_kind hk) hid hio (by omega) h2 (by omega) hL)
  rw [hcs] at GC
  have hP : D32 (pubL (nmL id q) k seed) := sumL_d32 _
  have HP := Lib.hid hP
  have HPl := Lib.hid hP.1
  generalize pubL (nmL id q) k seed = P at *
  generalize signL (nmL id q) k seed text = V at *
  obtain ⟨n, rfl⟩ : ∃ n : Nat, i = (n : Int) := ⟨i.toNat, by omega⟩
  have hn : 36 + n < V.length := by rw [hVl]; omega
  obtain ⟨z, hz⟩ : ∃ z, z = V[36 + n]?.getD 0 := ⟨_, rfl⟩
  have hzb : 0 ≤ z ∧ z ≤ 255 := by rw [hz]; exact hVo.at_ _
  have hx8 : 0 ≤ bits .xor .u8 z by_ ∧ bits .xor .u8 z by_ ≤ 255 := wrap_u8_bd _
  generalize hX : bits .xor .u8 z by_ = y at *
  have HX := Lib.hid hX
  clear hX
  have hUo := set_octets hVo (36 + n) hx8
  have hUl : (V.set (36 + n) y).length = 36 + 32 * manyN k := by rw [List.length_set, hVl]
  have hUk : val ((V.set (36 + n) y).take 4) = k := by rw [set_take y (by omega)]; exact hVk
  have GU := Lib.hid (fun W A1 c1 A2 c2 h1 h2 hL => cand_in k hk id q A1 (V.set (36 + n) y) c1 A2 text c2 W (by rw [hUl]; omega) h1 hUl hUk hid hio (by omega) h2 (by omega) hL)
  have GV := Lib.hid (fun W A1 c1 A2 c2 h1 h2 => rcand_in k hk id q A1 (V.set (36 + n) y) c1 A2 text c2 W (by rw [hUl]; omega) h1 hUl hUk hid hio (by omega) h2 (by omega))
  have hC : D32 (candL (nmL id q) k (dgsL (nmL id q) k (((V.set (36 + n) y).drop 4).take 32) text) (V.set (36 + n) y)) := sumL_d32 _
  have HC := Lib.hid hC
  have HCl := Lib.hid hC.1
  generalize candL (nmL id q) k (dgsL (nmL id q) k (((V.set (36 + n) y).drop 4).take 32) text) (V.set (36 + n) y) = C at *
  rw [List.length_set] at GU GV
  have HVL := Lib.hid hVl
  have HZ := Lib.hid hz
  have hix : (36 + (n : Int)).toNat = 36 + n := by omega
  have hi0 : (0 : Int) ≤ 36 + (n : Int) := by omega
  have hi1 : 36 + (n : Int) < (V.length : Int) := by omega
  have e1 : ((V.length : Int) != 36 + 32 * (manyN k : Int)) = false := by rw [bne_eq_false_iff_eq]; omega
  have e2 : ((V.length : Int) == 36 + 32 * (manyN k : Int)) = true := by rw [beq_iff_eq]; omega
  have hm0 : (0 : Int) ≤ (manyN k : Int) := by omega
  clear hcs hP hC hk hid hio hsl hso hkw hqw hiw hbw hL r2 o2 hVl hVk hUl hUk hz g0 g1 g2 g3 g4
  generalize manyN k = m at *
  go_enter Tryd.func6, Tryd.ntmps6
  go_wp2_with (first
    | (have _t := b0; go_at_call 13; refine (GR.out _).mono ?_; clear _t; rintro e w1 ⟨rfl, hb⟩; have i1 : Arr w1 w.heap.size 23 .u8 id := Block.below i0 hb (Block.lt i0); have s1 : Arr w1 (w.heap.size + 1) 24 .u8 seed := Block.below s0 hb (Block.lt s0); have b1 := b0.trans (hb.mono b0.size); clear hb i0 s0 b0)
    | (have _t := i1; refine wpList_load_arr rfl _ _ rfl i1 rfl arr16 rfl (by rw [HI.out]; kernel_rfl) ?_)
    | (have _t := s1; refine wpList_load_arr rfl _ _ rfl s1 rfl arr32A rfl (by rw [HS.out]; kernel_rfl) ?_)
    | (have _t := b1; go_at_call 21; refine (GA.out _ _ _ ((K2.below b1).more b1.size) (hLL.out.below b1)).mono ?_; clear _t; rintro e w2 ⟨v2, rfl, own2, hb⟩
       obtain ⟨g, c2, rfl, hgB, hgl, k2, m3⟩ := own2.form (by omega)
       have i2 : Arr w2 w.heap.size 23 .u8 id := Block.below i1 hb (Block.lt i1)
       have b2 := b1.trans (hb.mono b1.size)
       have gw : w.heap.size < g := Nat.lt_of_lt_of_le (Block.lt i1) hgB
       clear hb i1 s1 b1 hgl)
    | (have _t := own2; go_at_call 13; refine (GR.out _).mono ?_; clear _t; rintro e w3 ⟨rfl, hb⟩; have i3 : Arr w3 w.heap.size 23 .u8 id := Block.below i2 hb (Block.lt i2); have b3 := b2.trans (hb.mono b2.size); have own3 := own2.below hb; clear hb i2 b2 own2)
    | (have _t := i3; refine wpList_load_arr rfl _ _ rfl i3 rfl arr16 rfl (by rw [HI.out]; kernel_rfl) ?_)
    | (have _t := own3; go_at_call 23; obtain ⟨A4, c4, e4, k4, m4, h4⟩ := own3.opened; injection e4 with e4 e5 e6; subst e4 e6; refine (GC.out _ _ _ _ _ (show RwOk w3 w3.heap.size ⟨some ⟨g, 0, none⟩, c2, V⟩ from ⟨k4, m4, hVo, h4⟩) ((K2.below b3).more b3.size) (hLL.out.below b3)).mono ?_; clear _t e5; rintro e w4 ⟨rfl, hb⟩; have i4 : Arr w4 w.heap.size 23 .u8 id := Block.below i3 hb (Block.lt i3); have b4 := b3.trans (hb.mono b3.size); have own4 := own3.below hb; have z4 := res_new w4 26; clear hb i3 b3 own3 h4)
    | (have _t := z4; refine wpList_store_arr rfl _ _ _ rfl (ys := P) z4 rfl rfl (by rw [HPl.out]; rfl) (by rw [HPl.out]; kernel_rfl) ?_; clear _t; intro w5 x5 g5; have hb := below_fill (Below.refl _ _) (Nat.le_refl _) g5; have i5 := arr_kept i4 g5; have b5 := below_fill b4 b4.size g5; have own5 := own4.below hb; have c5 := own5.cellAt rfl hn; have f5 := own5.frozenAt rfl (36 + n); rw [← HZ.out] at c5
       have st := own5.stored rfl (36 + n) (bits .xor .u8 z by_)
       have own6 : Own (w5.setCell ⟨g, 36 + n, none⟩ (.int .u8 (bits .xor .u8 z by_))) w1.heap.size 5 .u8 (.slice (some ⟨g, 0, none⟩) V.length c2) (V.set (36 + n) y) := by have h := st.1; rw [HX.out] at h ⊢; exact h
       have ne1 : g ≠ w4.heap.size := fun e => own5.ne_block x5 (by decide) (by rw [← e]; rfl)
       have i6 : Arr (w5.setCell ⟨g, 36 + n, none⟩ (.int .u8 (bits .xor .u8 z by_))) w.heap.size 23 .u8 id := Arr.grown i5 st.2 (by intro e; injection e with e; omega)
       have P6 : Arr (w5.setCell ⟨g, 36 + n, none⟩ (.int .u8 (bits .xor .u8 z by_))) w4.heap.size 26 .u8 P := Arr.grown x5 st.2 (by intro e; injection e with e; exact ne1 e)
       have b6 : Below w.heap.size w (w5.setCell ⟨g, 36 + n, none⟩ (.int .u8 (bits .xor .u8 z by_))) := b5.trans (below_of_grown st.2 b5.size fun b hb => by injection hb with hb; omega)
       clear z4 g5 i4 b4 own4 hb st own5 i5 b5 x5)
    | (have _t := i6; refine wpList_load_arr rfl _ _ rfl i6 rfl arr16 rfl (by rw [HI.out]; kernel_rfl) ?_)
    | (have _t := own6; go_at_call 23; obtain ⟨A7, c7, e7, k7, m7, h7⟩ := own6.opened; injection e7 with e7 e8 e9; subst e7 e9; refine (GU.out _ _ _ _ _ (show RwOk _ _ ⟨some ⟨g, 0, none⟩, c2, V.set (36 + n) y⟩ from ⟨k7, m7, hUo, h7⟩) ((K2.below b6).more b6.size) (hLL.out.below b6)).mono ?_; clear _t e8; rintro e w7 ⟨rfl, hb⟩; have i7 : Arr w7 w.heap.size 23 .u8 id := Block.below i6 hb (Block.lt i6); have P7 : Arr w7 w4.heap.size 26 .u8 P := Block.below P6 hb (Block.lt P6); have b7 := b6.trans (hb.mono b6.size); have own7 := own6.below hb; have z7 := res_new w7 26; clear hb i6 b6 P6 own6 h7)
    | (have _t := z7; refine wpList_store_arr rfl _ _ _ rfl (ys := C) z7 rfl rfl (by rw [HCl.out]; rfl) (by rw [HCl.out]; kernel_rfl) ?_; clear _t; intro w8 C8 g8; have hb := below_fill (Below.refl _ _) (Nat.le_refl _) g8; have i8 := arr_kept i7 g8; have P8 := arr_kept P7 g8; have b8 := below_fill b7 b7.size g8; have own8 := own7.below hb; clear z7 g8 i7 b7 own7 P7 hb)
    | (have _t := i8; refine wpList_load_arr rfl _ _ rfl i8 rfl arr16 rfl (by rw [HI.out]; kernel_rfl) ?_)
    | (have _t := own8; go_at_call 24; obtain ⟨A9, c9, e9, k9, m9, h9⟩ := own8.opened; injection e9 with e9 e8 e7; subst e9 e7; refine (GV.out _ _ _ _ _ (show RwOk _ _ ⟨some ⟨g, 0, none⟩, c2, V.set (36 + n) y⟩ from ⟨k9, m9, hUo, h9⟩) ((K2.below b8).more b8.size)).mono ?_; clear _t e8; rintro e w9 ⟨rfl, hb⟩; have P9 : Arr w9 w4.heap.size 26 .u8 P := Block.below P8 hb (Block.lt P8); have C9 : Arr w9 w7.heap.size 26 .u8 C := Block.below C8 hb (Block.lt C8); have b9 := b8.trans (hb.mono b8.size); have z9 := res_new w9 24; clear hb i8 b8 P8 C8 own8 h9)
    | (have _t := z9; refine wpList_store_arr rfl _ _ _ rfl (ys := C) z9 rfl rfl (by rw [HCl.out]; rfl) (by rw [HCl.out]; kernel_rfl) ?_; clear _t; intro w10 R10 g10; have P10 := arr_kept P9 g10; have C10 := arr_kept C9 g10; have b10 := below_fill b9 b9.size g10; clear z9 g10 b9 P9 C9))
  generalize w4.heap.size = pb at *
  generalize w7.heap.size = cb at *
  generalize w9.heap.size = rb at *
  have P4 := P10.drewN 1
  have C4 := C10.drewN 1
  have R4 := R10.drewN 1
  have b4 := below_draws b10 1
  clear P10 C10 R10 b10
  obtain ⟨B, hB⟩ : ∃ B : Bool, decide (C = P) = B := ⟨_, rfl⟩
  refine wp_region_held_drew (S := (fun W => Arr W pb 26 .u8 P ∧ Arr W cb 26 .u8 C ∧ Arr W rb 24 .u8 C)) (by kernel_rfl) ⟨P4, C4, R4⟩ (fun hS => ?_)
  refine wpAnyH_take (i := 0) (oi := ⟨some 114, _, _, _, _, _⟩) (v := .agg (C.map (Value.int .u8)).toArray) rfl (by kernel_rfl) (by kernel_rfl) (by kernel_rfl) (fun _ _ _ h => h) (yieldsIf_load_mid (by rfl) _ _ rfl cb 0 rfl (C.map (Value.int .u8)) _ (fun W hW => Arr.range hW.2.1) arr32D rfl (by rw [List.length_map, HCl.out]; kernel_rfl)) hS ?_
  try simp only [Act.put, List.setIfInBounds_toArray, List.set_cons_zero, List.set_cons_succ]
  refine wpAnyH_take (i := 1) (oi := ⟨some 115, _, _, _, _, _⟩) (v := .agg (C.map (Value.int .u8)).toArray) rfl (by kernel_rfl) (by kernel_rfl) (by kernel_rfl) (fun _ _ _ h => h) (yieldsIf_load_mid (by rfl) _ _ rfl rb 0 rfl (C.map (Value.int .u8)) _ (fun W hW => Arr.range hW.2.2) arr32A rfl (by rw [List.length_map, HCl.out]; kernel_rfl)) hS ?_
  try simp only [Act.put, List.setIfInBounds_toArray, List.set_cons_zero, List.set_cons_succ]
  refine wpAnyH_take (i := 2) (oi := ⟨some 116, .binOp .eql 26 (.tmp 114) (.tmp 115) 26, _, _, _, _⟩) (v := .bool true) rfl (by kernel_rfl) (by kernel_rfl) (by kernel_rfl) (fun _ _ _ h => h) (Or.inl ⟨by rfl, fun W hW => eql_out HC.out HC.out rfl rfl (decide_eq_true rfl)⟩) hS ?_
  try simp only [Act.put, List.setIfInBounds_toArray, List.set_cons_zero, List.set_cons_succ]
  refine wpAnyH_take (i := 3) (oi := ⟨some 117, _, _, _, _, _⟩) (v := .bool true) rfl (by kernel_rfl) (by kernel_rfl) (by kernel_rfl) (fun _ _ _ h => h) (Or.inl ⟨by rfl, fun W hW => by go_simp⟩) hS ?_
  try simp only [Act.put, List.setIfInBounds_toArray, List.set_cons_zero, List.set_cons_succ]
  refine wpAnyH_take (i := 4) (oi := ⟨some 118, _, _, _, _, _⟩) (v := .int .i64 0) rfl (by kernel_rfl) (by kernel_rfl) (by kernel_rfl) (fun _ _ _ h => h) (Or.inl ⟨by rfl, fun W hW => by go_simp⟩) hS ?_
  try simp only [Act.put, List.setIfInBounds_toArray, List.set_cons_zero, List.set_cons_succ]
  refine wpAnyH_take (i := 5) (oi := ⟨some 119, _, _, _, _, _⟩) (v := .bool true) rfl (by kernel_rfl) (by kernel_rfl) (by kernel_rfl) (fun _ _ _ h => h) (Or.inl ⟨by rfl, fun W hW => by go_simp⟩) hS ?_
  try simp only [Act.put, List.setIfInBounds_toArray, List.set_cons_zero, List.set_cons_succ]
  refine wpAnyH_take (i := 6) (oi := ⟨some 120, _, _, _, _, _⟩) (v := .bool true) rfl (by kernel_rfl) (by kernel_rfl) (by kernel_rfl) (fun _ _ _ h => h) (Or.inl ⟨by rfl, fun W hW => by go_simp⟩) hS ?_
  try simp only [Act.put, List.setIfInBounds_toArray, List.set_cons_zero, List.set_cons_succ]
  refine wpAnyH_take (i := 7) (oi := ⟨some 121, _, _, _, _, _⟩) (v := .bool true) rfl (by kernel_rfl) (by kernel_rfl) (by kernel_rfl) (fun _ _ _ h => h) (Or.inl ⟨by rfl, fun W hW => by go_simp⟩) hS ?_
  try simp only [Act.put, List.setIfInBounds_toArray, List.set_cons_zero, List.set_cons_succ]
  refine wpAnyH_take (i := 8) (oi := ⟨some 122, _, _, _, _, _⟩) (v := .agg (C.map (Value.int .u8)).toArray) rfl (by kernel_rfl) (by kernel_rfl) (by kernel_rfl) (fun _ _ _ h => h) (yieldsIf_load_mid (by rfl) _ _ rfl cb 0 rfl (C.map (Value.int .u8)) _ (fun W hW => Arr.range hW.2.1) arr32D rfl (by rw [List.length_map, HCl.out]; kernel_rfl)) hS ?_
  try simp only [Act.put, List.setIfInBounds_toArray, List.set_cons_zero, List.set_cons_succ]
  refine wpAnyH_take (i := 9) (oi := ⟨some 123, _, _, _, _, _⟩) (v := .agg (P.map (Value.int .u8)).toArray) rfl (by kernel_rfl) (by kernel_rfl) (by kernel_rfl) (fun _ _ _ h => h) (yieldsIf_load_mid (by rfl) _ _ rfl pb 0 rfl (P.map (Value.int .u8)) _ (fun W hW => Arr.range hW.1) arr32D rfl (by rw [List.length_map, HPl.out]; kernel_rfl)) hS ?_
  try simp only [Act.put, List.setIfInBounds_toArray, List.set_cons_zero, List.set_cons_succ]
  refine wpAnyH_take (i := 10) (oi := ⟨some 124, .binOp .eql 26 (.tmp 122) (.tmp 123) 26, _, _, _, _⟩) (v := .bool B) rfl (by kernel_rfl) (by kernel_rfl) (by kernel_rfl) (fun _ _ _ h => h) (Or.inl ⟨by rfl, fun W hW => eql_out HC.out HP.out rfl rfl hB⟩) hS ?_
  try simp only [Act.put, List.setIfInBounds_toArray, List.set_cons_zero, List.set_cons_succ]
  refine wpAnyH_take (i := 11) (oi := ⟨some 125, _, _, _, _, _⟩) (v := .agg (C.map (Value.int .u8)).toArray) rfl (by kernel_rfl) (by kernel_rfl) (by kernel_rfl) (fun _ _ _ h => h) (yieldsIf_load_mid (by rfl) _ _ rfl rb 0 rfl (C.map (Value.int .u8)) _ (fun W hW => Arr.range hW.2.2) arr32A rfl (by rw [List.length_map, HCl.out]; kernel_rfl)) hS ?_
  try simp only [Act.put, List.setIfInBounds_toArray, List.set_cons_zero, List.set_cons_succ]
  refine wpAnyH_take (i := 12) (oi := ⟨some 126, _, _, _, _, _⟩) (v := .agg (P.map (Value.int .u8)).toArray) rfl (by kernel_rfl) (by kernel_rfl) (by kernel_rfl) (fun _ _ _ h => h) (yieldsIf_load_mid (by rfl) _ _ rfl pb 0 rfl (P.map (Value.int .u8)) _ (fun W hW => Arr.range hW.1) arr32D rfl (by rw [List.length_map, HPl.out]; kernel_rfl)) hS ?_
  try simp only [Act.put, List.setIfInBounds_toArray, List.set_cons_zero, List.set_cons_succ]
  refine wpAnyH_take (i := 13) (oi := ⟨some 127, .binOp .eql 26 (.tmp 125) (.tmp 126) 26, _, _, _, _⟩) (v := .bool B) rfl (by kernel_rfl) (by kernel_rfl) (by kernel_rfl) (fun _ _ _ h => h) (Or.inl ⟨by rfl, fun W hW => eql_out HC.out HP.out rfl rfl hB⟩) hS ?_
  try simp only [Act.put, List.setIfInBounds_toArray, List.set_cons_zero, List.set_cons_succ]
  refine wpAnyH_take (i := 14) (oi := ⟨some 128, _, _, _, _, _⟩) (v := .bool true) rfl (by kernel_rfl) (by kernel_rfl) (by kernel_rfl) (fun _ _ _ h => h) (Or.inl ⟨by rfl, fun W hW => by go_simp⟩) hS ?_
  try simp only [Act.put, List.setIfInBounds_toArray, List.set_cons_zero, List.set_cons_succ]
  refine wpAnyH_take (i := 15) (oi := ⟨some 129, _, _, _, _, _⟩) (v := .bool true) rfl (by kernel_rfl) (by kernel_rfl) (by kernel_rfl) (fun _ _ _ h => h) (Or.inl ⟨by rfl, fun W hW => by go_simp⟩) hS ?_
  try simp only [Act.put, List.setIfInBounds_toArray, List.set_cons_zero, List.set_cons_succ]
  refine wpAnyH_take (i := 16) (oi := ⟨some 130, _, _, _, _, _⟩) (v := .bool true) rfl (by kernel_rfl) (by kernel_rfl) (by kernel_rfl) (fun _ _ _ h => h) (Or.inl ⟨by rfl, fun W hW => by go_simp⟩) hS ?_
  try simp only [Act.put, List.setIfInBounds_toArray, List.set_cons_zero, List.set_cons_succ]
  obtain ⟨x0, e0⟩ : ∃ x0, x0 = w10.drew := ⟨_, rfl⟩
  have Px0 : Arr x0 pb 26 .u8 P := by rw [e0]; exact P4
  have Cx0 : Arr x0 cb 26 .u8 C := by rw [e0]; exact C4
  have Rx0 : Arr x0 rb 24 .u8 C := by rw [e0]; exact R4
  have bx0 : Below w.heap.size w x0 := by rw [e0]; exact b4
  rw [← e0] at hS ⊢
  clear e0 P4 C4 R4 b4
  refine wpAnyH_ready (rs := [17]) (by kernel_rfl) (by simp) ?_
  refine AllReadyH.cons rfl (fun K hK => ?_) AllReadyH.nil
  go_simp
  go_at_call 20
  refine (GZ.out _ bx0).mono ?_
  rintro e x1 ⟨rfl, h⟩
  have Px1 : Arr x1 pb 26 .u8 P := Block.below Px0 h (Block.lt Px0)
  have Cx1 : Arr x1 cb 26 .u8 C := Block.below Cx0 h (Block.lt Cx0)
  have Rx1 : Arr x1 rb 24 .u8 C := Block.below Rx0 h (Block.lt Rx0)
  have bx1 : Below w.heap.size w x1 := bx0.trans (h.mono bx0.size)
  refine hK.out _ _ ⟨Px1, Cx1, Rx1⟩ (fun hS => ?_)
  clear hK K
  try simp only [Act.put, List.setIfInBounds_toArray, List.set_cons_zero, List.set_cons_succ]
  refine wpAnyH_take (i := 18) (oi := ⟨some 132, _, _, _, _, _⟩) (v := .bool true) rfl (by kernel_rfl) (by kernel_rfl) (by kernel_rfl) (fun _ _ _ h => h) (Or.inl ⟨by rfl, fun W hW => by go_simp⟩) hS ?_
  try simp only [Act.put, List.setIfInBounds_toArray, List.set_cons_zero, List.set_cons_succ]
  refine wpAnyH_ready (rs := [19]) (by kernel_rfl) (by simp) ?_
  refine AllReadyH.cons rfl (fun K hK => ?_) AllReadyH.nil
  go_simp
  refine hK.out _ _ ⟨Px1, Cx1, Rx1⟩ (fun hS => ?_)
  clear hK K
  refine wpAnyH_done (by kernel_rfl) ?_ _
  go_wp2_with fail
  go_ret
  exact ⟨rfl, bx1⟩
end Go.Proofs.YtdfgdchmeikigaaDoor.OtsSpoilt
