/-
  Layer 22, manifest: the document's Get: contract. Conditions: as each theorem names.
-/
import Derived.Test.YtpdofegmobbipaaMnX
import Derived.Test.YtpdofegmobbipaaMnY
import Derived.Test.YtpdofegmobbipaaStI
namespace Go.Proofs.Ytpdofegmobbipaa.Mn
open Go.ChangeShapes Go.WideShapes Go.ChangeAt Go.RowKit Go.Proofs.Ytpdofegmobbipaa.Kit Go.Proofs.Ytpdofegmobbipaa.Oct

theorem str_beq {xs ys : List Int} (hx : Octets xs) (hy : Octets ys) : ((strOfNums xs).toList == (strOfNums ys).toList) = decide (xs = ys) := by
  by_cases h : xs = ys
  · subst h; simp
  · rw [decide_eq_false h, beq_eq_false_iff_ne]
    intro e
    apply h
    apply strOfNums_inj hx hy
    rw [ByteArray.toList_eq, ByteArray.toList_eq] at e
    exact ByteArray.ext (Array.ext' e)
/-- An array is stored into a block's middle. -/
theorem wpList_store_arr_mid {P : Program} {w : World} {ops : Array Oper} {rest : List Oper} {a : Act} {Q : Exit → Act → World → Prop} {ty tt : TypeId} {x y : Operand} {ps : String} {af : Array Edge}
    {g q : Nat} {t : TypeId} {L : List Value} {ys : List Int} (h : Block w g t L.toArray) (hx : a.eval x = .pointer (some ⟨g, q, none⟩)) (hy : a.eval y = arrV .u8 ys) (hl : q + ys.length ≤ L.length) (hi : (P.info? ty).map (·.size) = some ys.length)
    (hK : ∀ w', Block w' g t (L.take q ++ (ys.map (Value.int .u8) ++ L.drop (q + ys.length))).toArray → w.grownBy w' (some g) → wpList P ops Q rest (a.put none undef) w') : wpList P ops Q (⟨none, .store ty x y, tt, ps, af, none⟩ :: rest) a w := by
  refine wpList_store_mid rfl ty x y rfl g q (ys.map (Value.int .u8)).toArray hx hy ?_ (by simpa using hi) (all_oneCell_toArray (ints_one .u8 ys)) ?_
  · intro j hj
    have hj' : q + j < L.toArray.size := by simp at hj ⊢; omega
    exact ⟨by rw [h.cell, Array.getElem?_eq_getElem hj']; rfl, h.frozen _⟩
  · refine hK _ ?_ (setCells_grown g _ q w)
    have := setCells_block (ys.map (Value.int .u8)) q w _ h (by simp; omega)
    simpa using this
theorem splice_mid {α : Type} (P X Y Q : List α) (q n : Nat) (hq : P.length = q) (hx : X.length = n) : (P ++ (X ++ Q)).take q ++ (Y ++ (P ++ (X ++ Q)).drop (q + n)) = P ++ (Y ++ Q) := by
  subst hq hx
  rw [List.take_left, ← List.drop_drop, List.drop_left, List.drop_left]
theorem cells_od (a b c d e : Int) (x y z ys : List Int) (hx : x.length = 32) : (Man.mk a b c d e x y z none 0 []).cells.take 5 ++ (ys.map (Value.int .u8) ++ (Man.mk a b c d e x y z none 0 []).cells.drop (5 + 32)) = (Man.mk a b c d e ys y z none 0 []).cells :=
  splice_mid [.int .u8 a, .int .u64 b, .int .i64 c, .int .i64 d, .int .i64 e] (x.map (Value.int .u8)) _ _ 5 32 rfl (by simp [hx])
theorem cells_nd (a b c d e : Int) (x y z ys : List Int) (hx : x.length = 32) (hy : y.length = 32) : (Man.mk a b c d e x y z none 0 []).cells.take 37 ++ (ys.map (Value.int .u8) ++ (Man.mk a b c d e x y z none 0 []).cells.drop (37 + 32)) = (Man.mk a b c d e x ys z none 0 []).cells := by
  have := splice_mid ([.int .u8 a, .int .u64 b, .int .i64 c, .int .i64 d, .int .i64 e] ++ x.map (Value.int .u8)) (y.map (Value.int .u8)) (ys.map (Value.int .u8)) (z.map (Value.int .u8) ++ [.slice none 0 0]) 37 32 (by simp [hx]) (by simp [hy])
  simpa [Man.cells] using this
theorem cells_rt (a b c d e : Int) (x y z ys : List Int) (hx : x.length = 32) (hy : y.length = 32) (hz : z.length = 32) : (Man.mk a b c d e x y z none 0 []).cells.take 69 ++ (ys.map (Value.int .u8) ++ (Man.mk a b c d e x y z none 0 []).cells.drop (69 + 32)) = (Man.mk a b c d e x y ys none 0 []).cells := by
  have := splice_mid ([.int .u8 a, .int .u64 b, .int .i64 c, .int .i64 d, .int .i64 e] ++ (x.map (Value.int .u8) ++ y.map (Value.int .u8))) (z.map (Value.int .u8)) (ys.map (Value.int .u8)) [.slice none 0 0] 69 32 (by simp [hx, hy]) (by simp [hz])
  simpa [Man.cells] using this
theorem putL_octets (xs : List Int) (k : Nat) (A : Option Addr) (cap : Nat) (ho : Octets xs) (h : 118 + 2 * k ≤ xs.length) : Octets (manN xs k A cap).putL := by
  have app : ∀ {a b : List Int}, Octets a → Octets b → Octets (a ++ b) := fun ha hb x hx => (List.mem_append.1 hx).elim (ha x) (hb x)
  have h2 : Octets [1, xs.getD 1 0] := by
    intro x hx
    simp only [List.mem_cons, List.not_mem_nil, or_false] at hx
    rcases hx with rfl | rfl
    · omega
    · exact getD_at xs ho 1
  have h9 : Octets (ordL (ordN xs k)) := by
    intro x hx
    unfold ordL at hx
    obtain ⟨i, hi, hx⟩ := List.mem_flatMap.1 hx
    have := ordN_bd xs k ho h i hi
    simp only [List.mem_cons, List.not_mem_nil, or_false] at hx
    rcases hx with rfl | rfl <;> omega
  exact app (app (app (app (app (app (app (app h2 (be_octets _ _)) (be_octets _ _)) (be_octets _ _)) (be_octets _ _)) ((ho.tail 22).head 32)) ((ho.tail 54).head 32)) ((ho.tail 86).head 32)) h9
set_option maxRecDepth 100000 in
theorem build_man5 (a b c d e : Int) (W : World) : (Instr.build 27 #[(0, .int .u8 a), (1, .int .u64 b), (2, .int .i64 c), (3, .int .i64 d), (4, .int .i64 e)]).run Try.prog W = .ok (.agg (Man.mk a b c d e zero32 zero32 zero32 none 0 []).cells.toArray) W := by kernel_rfl

set_option maxRecDepth 100000 in
set_option maxHeartbeats 12800000 in
theorem rmget_any (A : Option Addr) (xs : List Int) (c : Nat) (w : World) (hc : xs.length ≤ c) (hm : c ≤ maxLen) (hl4 : xs.length ≤ 400) (ho : Octets xs) (hr : Holds w w.heap.size .u8 A xs) :
    Calls Try.prog 15 #[.slice A xs.length c] w (GotM xs w) := by
  unfold maxLen at hm
  have hl : xs.length ≤ 1000000 := by omega
  have HB0 := Lib.hid build_man0
  have HL0 := Lib.hid (man0.cells_length man0_ok)
  have hzv := zero_man
  have B1 := below_last w (.cells man0.cells.toArray 27)
  have M1 : Block (w.alloc (.cells man0.cells.toArray 27)) w.heap.size 27 man0.cells.toArray := Block.new w _ _
  have hz1 : (w.alloc (.cells man0.cells.toArray 27)).heap.size = w.heap.size + 1 := by simp
  obtain ⟨w1, hw1⟩ : ∃ w1, w.alloc (.cells man0.cells.toArray 27) = w1 := ⟨_, rfl⟩
  rw [hw1] at B1 M1 hz1
  have HW1 := Lib.hid hw1
  have HZ2 := Lib.hid (Block.new w1 27 man0.cells.toArray)
  have HM2 := Lib.hid (M1.alloc (.cells man0.cells.toArray 27))
  have HB2 := Lib.hid (B1.alloc B1.size (.cells man0.cells.toArray 27))
  have hg1 : w.heap.size < w1.heap.size := by omega
  clear hw1 M1 B1 hz1
  go_enter Try.func15, Try.ntmps15
  go_upto_region 1 with fail
  rw [HW1.out]
  go_upto_region 2 with (first
    | (have _t := HB0; refine wpList_build_known (o := ⟨some 17, _, _, _, _, _⟩) rfl _ _ rfl (.agg man0.cells.toArray) (fun W => by have hb := HB0.out W; simpa [Act.eval] using hb) ?_; clear _t)
    | (have _t := HZ2; refine wpList_store_blk rfl _ _ _ rfl (ds := man0.cells) HZ2.out rfl rfl (by simp) (by rw [HL0.out]; kernel_rfl) man0.cells_one ?_; clear _t; intro w3 Z3 g3))
  try simp only [Act.put]
  have M3 := HM2.out.grown g3 (by intro e; injection e with e; omega)
  have B3 : Below w.heap.size w w3 := HB2.out.trans (below_of_grown g3 HB2.out.size fun b hb => by injection hb with hb; omega)
  clear HW1 HZ2 HM2 HB2 g3
  generalize w1.heap.size = gN at *
  have HN3 := Lib.hid Z3
  have HM3 := Lib.hid M3
  have HB3 := Lib.hid B3
  clear Z3 M3 B3
  by_cases h118 : xs.length < 118
  · have d1 : decide ((xs.length : Int) < 118) = true := decide_eq_true (by omega)
    have HE : Hid (gotE xs = 2) := Lib.hid (by unfold gotE; rw [if_pos h118])
    have RZ := Lib.hid (block_range HN3.out)
    clear hr ho h118
    go_wp2_with (first
      | (have _t := RZ; refine wpList_load_midV (o := ⟨some 21, _, _, _, _, _⟩) (by rfl) _ _ rfl gN 0 rfl man0.cells RZ.out Try.underlying27 rfl (by rw [HL0.out]; kernel_rfl) ?_; clear _t RZ)
      | (have _t := HM3; refine wpList_store_blk rfl _ _ _ rfl (ds := man0.cells) HM3.out rfl rfl (by simp) (by rw [HL0.out]; kernel_rfl) man0.cells_one ?_; clear _t HM3; intro w9 r9 g9))
    refine bodyPost_ret (v := .tuple #[.agg man0.cells.toArray, .int .i64 2]) (results_cell_tmp rfl _ _ w.heap.size 27 _ (0, 0) _ rfl r9 _ rfl Try.underlying27 rfl (by rw [show man0.cells.toArray.size = 102 from HL0.out]; kernel_rfl)) rfl ?_
    exact got_no HE.out (by decide) rfl (HB3.out.trans (below_of_grown g9 HB3.out.size fun b hb => by injection hb with hb; omega))
  obtain ⟨b0, off, rfl, hb0, -⟩ := hr (by omega)
  have d1 : decide ((xs.length : Int) < 118) = false := decide_eq_false (by omega)
  have HH3 := Lib.hid ((hr.below HB3.out).more HB3.out.size)
  have c1 := holds_at HH3.out (j := 1) (by omega)
  have G2 : Hid (Calls Try.prog 35 #[.slice (some ⟨b0, off, none⟩) xs.length c, .int .i64 2, .int .i64 8] w3 fun e w' => e = .returned (.tuple #[.int .u64 (numA xs 2 8), .int .i64 0]) ∧ w3 = w') := Lib.hid (rget_any (some ⟨b0, off, none⟩) xs c 2 8 _ w3 hl hc (by decide) (by omega) ho HH3.out)
  have G10 : Hid (Calls Try.prog 35 #[.slice (some ⟨b0, off, none⟩) xs.length c, .int .i64 10, .int .i64 4] w3 fun e w' => e = .returned (.tuple #[.int .u64 (numA xs 10 4), .int .i64 0]) ∧ w3 = w') := Lib.hid (rget_any (some ⟨b0, off, none⟩) xs c 10 4 _ w3 hl hc (by decide) (by omega) ho HH3.out)
  have G14 : Hid (Calls Try.prog 35 #[.slice (some ⟨b0, off, none⟩) xs.length c, .int .i64 14, .int .i64 4] w3 fun e w' => e = .returned (.tuple #[.int .u64 (numA xs 14 4), .int .i64 0]) ∧ w3 = w') := Lib.hid (rget_any (some ⟨b0, off, none⟩) xs c 14 4 _ w3 hl hc (by decide) (by omega) ho HH3.out)
  have G18 : Hid (Calls Try.prog 35 #[.slice (some ⟨b0, off, none⟩) xs.length c, .int .i64 18, .int .i64 4] w3 fun e w' => e = .returned (.tuple #[.int .u64 (numA xs 18 4), .int .i64 0]) ∧ w3 = w') := Lib.hid (rget_any (some ⟨b0, off, none⟩) xs c 18 4 _ w3 hl hc (by decide) (by omega) ho HH3.out)
  have hw10 : IntKind.i64.wrap (numA xs 10 4) = numA xs 10 4 := IntWalk.i64_in _ (by have := numA_four xs 10 ho (by omega); omega)
  have hw14 : IntKind.i64.wrap (numA xs 14 4) = numA xs 14 4 := IntWalk.i64_in _ (by have := numA_four xs 14 ho (by omega); omega)
  have hw18 : IntKind.i64.wrap (numA xs 18 4) = numA xs 18 4 := IntWalk.i64_in _ (by have := numA_four xs 18 ho (by omega); omega)
  have HBM := Lib.hid (build_man5 (xs.getD 1 0) (numA xs 2 8) (numA xs 10 4) (numA xs 14 4) (numA xs 18 4))
  have i1 : (1 : Int) < (xs.length : Int) := by omega
  have h1l : 1 < xs.length := by omega
  have HLm : Hid (∀ x y z : List Int, x.length = 32 → y.length = 32 → z.length = 32 → (Man.mk (xs.getD 1 0) (numA xs 2 8) (numA xs 10 4) (numA xs 14 4) (numA xs 18 4) x y z none 0 []).cells.length = 102) := Lib.hid (fun x y z hx hy hz => by simp [Man.cells, hx, hy, hz])
  have HMD : Hid (0 ≤ xs.getD 1 0 ∧ xs.getD 1 0 ≤ 255) := Lib.hid (getD_at xs ho 1)
  obtain ⟨md, hmd⟩ : ∃ md, xs.getD 1 0 = md := ⟨_, rfl⟩
  obtain ⟨vr, hvr⟩ : ∃ vr, numA xs 2 8 = vr := ⟨_, rfl⟩
  obtain ⟨bk, hbk⟩ : ∃ bk, numA xs 10 4 = bk := ⟨_, rfl⟩
  obtain ⟨ol, hol⟩ : ∃ ol, numA xs 14 4 = ol := ⟨_, rfl⟩
  obtain ⟨nl, hnl⟩ : ∃ nl, numA xs 18 4 = nl := ⟨_, rfl⟩
  rw [hmd] at c1 HBM HLm HMD
  rw [hvr] at G2 HBM HLm
  rw [hbk] at G10 HBM HLm hw10
  rw [hol] at G14 HBM HLm hw14
  rw [hnl] at G18 HBM HLm hw18
  have HV := Lib.hid (⟨hmd, hvr, hbk, hol, hnl⟩ : _ ∧ _ ∧ _ ∧ _ ∧ _)
  have hz5 : (Man.mk md vr bk ol nl zero32 zero32 zero32 none 0 []).cells.length = 102 := HLm.out _ _ _ rfl rfl rfl
  have HZ5 := Lib.hid hz5
  clear hmd hvr hbk hol hnl hz5
  go_upto_region 8 with (first
    | (go_at_call 35; ((with_reducible refine G2.out.mono ?_); rintro e _ ⟨rfl, rfl⟩))
    | (go_at_call 35; ((with_reducible refine G10.out.mono ?_); rintro e _ ⟨rfl, rfl⟩))
    | (go_at_call 35; ((with_reducible refine G14.out.mono ?_); rintro e _ ⟨rfl, rfl⟩))
    | (go_at_call 35; ((with_reducible refine G18.out.mono ?_); rintro e _ ⟨rfl, rfl⟩)))
  clear G2 G10 G14 G18
  have BN := Lib.hid (Block.new w3 27 man0.cells.toArray)
  go_upto_region 9 with (first
    | (have _t := HBM; clear _t; refine wpList_build_known (o := ⟨some 52, _, _, _, _, _⟩) rfl _ _ rfl (.agg (Man.mk md vr bk ol nl zero32 zero32 zero32 none 0 []).cells.toArray) (fun W => by have hb := HBM.out W; simpa [Act.eval] using hb) ?_; clear HBM)
    | (have _t := BN; clear _t; refine wpList_store_blk rfl _ _ _ rfl (ds := (Man.mk md vr bk ol nl zero32 zero32 zero32 none 0 []).cells) BN.out rfl rfl (by rw [List.size_toArray, HL0.out, HZ5.out]) (by rw [HZ5.out]; kernel_rfl) (Man.mk md vr bk ol nl zero32 zero32 zero32 none 0 []).cells_one ?_; clear BN; intro w4 Z4 g4))
  try simp only [Act.put]
  have hg3 := HN3.out.lt
  have hb3s := HB3.out.size
  have M4 := (HM3.out.alloc (.cells man0.cells.toArray 27)).grown g4 (by intro e; injection e with e; omega)
  have N4 := (HN3.out.alloc (.cells man0.cells.toArray 27)).grown g4 (by intro e; injection e with e; omega)
  have B4 : Below w.heap.size w w4 := (HB3.out.alloc hb3s (.cells man0.cells.toArray 27)).trans (below_of_grown g4 (by simp; omega) fun b hb => by injection hb with hb; omega)
  clear c1 hw10 hw14 hw18 i1 h1l g4 HM3 HN3 HB3 HH3
  have hgz : w.heap.size < w3.heap.size ∧ gN < w3.heap.size := by omega
  generalize w3.heap.size = g at *
  clear hg3 hb3s
  have GD := Lib.hid (fun p (h : p + 32 ≤ xs.length) W (hB : Below w.heap.size w W) => rdigest_any b0 off xs c p W h hc hl ((hr.below hB).more hB.size))
  have hD22 : Hid (((xs.drop 22).take 32).length = 32) := Lib.hid (by rw [List.length_take, List.length_drop]; omega)
  have hD54 : Hid (((xs.drop 54).take 32).length = 32) := Lib.hid (by rw [List.length_take, List.length_drop]; omega)
  have hD86 : Hid (((xs.drop 86).take 32).length = 32) := Lib.hid (by rw [List.length_take, List.length_drop]; omega)
  have HP := Lib.hid (show 22 + 32 ≤ xs.length ∧ 54 + 32 ≤ xs.length ∧ 86 + 32 ≤ xs.length by omega)
  obtain ⟨d22, h22⟩ : ∃ d22, (xs.drop 22).take 32 = d22 := ⟨_, rfl⟩
  obtain ⟨d54, h54⟩ : ∃ d54, (xs.drop 54).take 32 = d54 := ⟨_, rfl⟩
  obtain ⟨d86, h86⟩ : ∃ d86, (xs.drop 86).take 32 = d86 := ⟨_, rfl⟩
  have G22 : Hid (∀ W, Below w.heap.size w W → Calls Try.prog 36 #[.slice (some ⟨b0, off, none⟩) xs.length c, .int .i64 22] W fun e w' => e = .returned (arrV .u8 d22) ∧ Below W.heap.size W w') := Lib.hid (fun W hB => by have := GD.out 22 HP.out.1 W hB; rw [h22] at this; exact this)
  have G54 : Hid (∀ W, Below w.heap.size w W → Calls Try.prog 36 #[.slice (some ⟨b0, off, none⟩) xs.length c, .int .i64 54] W fun e w' => e = .returned (arrV .u8 d54) ∧ Below W.heap.size W w') := Lib.hid (fun W hB => by have := GD.out 54 HP.out.2.1 W hB; rw [h54] at this; exact this)
  have G86 : Hid (∀ W, Below w.heap.size w W → Calls Try.prog 36 #[.slice (some ⟨b0, off, none⟩) xs.length c, .int .i64 86] W fun e w' => e = .returned (arrV .u8 d86) ∧ Below W.heap.size W w') := Lib.hid (fun W hB => by have := GD.out 86 HP.out.2.2 W hB; rw [h86] at this; exact this)
  rw [h22] at hD22
  rw [h54] at hD54
  rw [h86] at hD86
  have HDD := Lib.hid (⟨h22, h54, h86⟩ : _ ∧ _ ∧ _)
  clear h22 h54 h86 GD HZ5
  have HZ4 := Lib.hid Z4
  have HM4 := Lib.hid M4
  have HN4 := Lib.hid N4
  have HB4 := Lib.hid B4
  clear Z4 M4 N4 B4
  go_upto_region 10 with (first
    | (have _t := HZ4; clear _t; go_at_call 36; ((with_reducible refine (G22.out _ HB4.out).mono ?_); rintro e w5 ⟨rfl, hb5⟩); have Z5 := Lib.hid (HZ4.out.below hb5 HZ4.out.lt); have M5 := HM4.out.below hb5 HM4.out.lt; have N5 := HN4.out.below hb5 HN4.out.lt; have B5 := HB4.out.trans (hb5.mono HB4.out.size); clear HZ4 HM4 HN4 HB4 hb5; generalize hV5 : arrV .u8 d22 = V5)
    | (have _t := Z5; clear _t; refine wpList_store_arr_mid (q := 5) (L := (Man.mk md vr bk ol nl zero32 zero32 zero32 none 0 []).cells) (ys := d22) Z5.out (by rfl) (by rw [← hV5]; rfl) (by rw [hD22.out, HLm.out _ _ _ rfl rfl rfl]; decide) (by rw [hD22.out]; kernel_rfl) ?_; intro w6 Z6 g6; rw [hD22.out, cells_od md vr bk ol nl zero32 zero32 zero32 d22 rfl] at Z6; have M6 := M5.grown g6 (by intro e; injection e with e; omega); have N6 := N5.grown g6 (by intro e; injection e with e; omega); have B6 := B5.trans (below_of_grown g6 B5.size fun b hb => by injection hb with hb; omega); clear Z5 M5 N5 B5 g6 hV5))
  try simp only [Act.put]
  have HZ6 := Lib.hid Z6
  have HM6 := Lib.hid M6
  have HN6 := Lib.hid N6
  have HB6 := Lib.hid B6
  clear Z6 M6 N6 B6
  go_upto_region 11 with (first
    | (have _t := HZ6; clear _t; go_at_call 36; ((with_reducible refine (G54.out _ HB6.out).mono ?_); rintro e w7 ⟨rfl, hb7⟩); have Z7 := Lib.hid (HZ6.out.below hb7 HZ6.out.lt); have M7 := HM6.out.below hb7 HM6.out.lt; have N7 := HN6.out.below hb7 HN6.out.lt; have B7 := HB6.out.trans (hb7.mono HB6.out.size); clear HZ6 HM6 HN6 HB6 hb7; generalize hV7 : arrV .u8 d54 = V7)
    | (have _t := Z7; clear _t; refine wpList_store_arr_mid (q := 37) (L := (Man.mk md vr bk ol nl d22 zero32 zero32 none 0 []).cells) (ys := d54) Z7.out (by rfl) (by rw [← hV7]; rfl) (by rw [hD54.out, HLm.out _ _ _ hD22.out rfl rfl]; decide) (by rw [hD54.out]; kernel_rfl) ?_; intro w8 Z8 g8; rw [hD54.out, cells_nd md vr bk ol nl d22 zero32 zero32 d54 hD22.out rfl] at Z8; have M8 := M7.grown g8 (by intro e; injection e with e; omega); have N8 := N7.grown g8 (by intro e; injection e with e; omega); have B8 := B7.trans (below_of_grown g8 B7.size fun b hb => by injection hb with hb; omega); clear Z7 M7 N7 B7 g8 hV7))
  try simp only [Act.put]
  have HZ8 := Lib.hid Z8
  have HM8 := Lib.hid M8
  have HN8 := Lib.hid N8
  have HB8 := Lib.hid B8
  clear Z8 M8 N8 B8
  go_upto_region 12 with (first
    | (have _t := HZ8; clear _t; go_at_call 36; ((with_reducible refine (G86.out _ HB8.out).mono ?_); rintro e w9 ⟨rfl, hb9⟩); have Z9 := Lib.hid (HZ8.out.below hb9 HZ8.out.lt); have M9 := HM8.out.below hb9 HM8.out.lt; have N9 := HN8.out.below hb9 HN8.out.lt; have B9 := HB8.out.trans (hb9.mono HB8.out.size); clear HZ8 HM8 HN8 HB8 hb9; generalize hV9 : arrV .u8 d86 = V9)
    | (have _t := Z9; clear _t; refine wpList_store_arr_mid (q := 69) (L := (Man.mk md vr bk ol nl d22 d54 zero32 none 0 []).cells) (ys := d86) Z9.out (by rfl) (by rw [← hV9]; rfl) (by rw [hD86.out, HLm.out _ _ _ hD22.out hD54.out rfl]; decide) (by rw [hD86.out]; kernel_rfl) ?_; intro w10 Z10 g10; rw [hD86.out, cells_rt md vr bk ol nl d22 d54 zero32 d86 hD22.out hD54.out rfl] at Z10; have M10 := M9.grown g10 (by intro e; injection e with e; omega); have N10 := N9.grown g10 (by intro e; injection e with e; omega); have B10 := B9.trans (below_of_grown g10 B9.size fun b hb => by injection hb with hb; omega); clear Z9 M9 N9 B9 g10 hV9))
  try simp only [Act.put]
  have hQ : (Man.mk md vr bk ol nl d22 d54 d86 none 0 []) = manN xs 0 none 0 := by
    obtain ⟨e1, e2, e3, e4, e5⟩ := HV.out
    obtain ⟨e6, e7, e8⟩ := HDD.out
    rw [← e1, ← e2, ← e3, ← e4, ← e5, ← e6, ← e7, ← e8]
    rfl
  rw [hQ] at Z10
  have P0 : MG w w10 g xs 0 none 0 := ⟨M10, Z10, Own.nil _ _ _ _, B10, hgz.1⟩
  have hmdc : w10.cell? ⟨g, 0, none⟩ = some (.int .u8 md) := by
    have h1 := Z10.cell 0
    have h2 : (manN xs 0 none 0).cells.toArray[0]? = some (.int .u8 (xs.getD 1 0)) := rfl
    rw [h1, h2, HV.out.1]
  have hvm := HV.out.1
  have h118' : 118 ≤ xs.length := by omega
  have HP0 := Lib.hid P0
  have HN0 := Lib.hid N10
  have hgne := hgz.2
  clear hQ M10 Z10 N10 B10 P0 HDD HLm hD22 hD54 hD86 G22 G54 G86 HV HP hgz h118 d1
  by_cases hm2 : md = 2
  · subst hm2
    go_wp2_with fail
    clear hmdc
    go_loopw [14] (fun v wr => ∃ (k : Nat) (Ak : Option Addr) (ck : Nat), k ≤ pairs xs ∧ v = .int .i64 ((118 + 2 * k : Nat) : Int) ∧ MG w wr g xs k Ak ck ∧ Block wr gN 27 man0.cells.toArray) (fun v _ => 1000 - (intOf v).toNat)
    case atStart => exact ⟨0, none, 0, Nat.zero_le _, rfl, HP0.out, HN0.out⟩
    case round =>
      clear HP0 HN0
      obtain ⟨k, Ak, ck, hk, rfl, P, N⟩ := hrel
      have hpb : 118 + 2 * pairs xs ≤ xs.length := by unfold pairs; omega
      obtain ⟨A9, c9, he9, hl9, hm9, hh⟩ := P.O.opened
      rw [ordN_length] at hl9
      injection he9 with e1 e2 e3
      subst e1 e3
      have hok := manN_ok xs k Ak ck ho (by omega) (by omega) ⟨hl9, hm9⟩
      have hK118 : 118 + 2 * k ≤ xs.length := by omega
      clear e2
      by_cases hlt : k < pairs xs
      · have HX2 : ∀ W, Block W g 27 (manN xs k Ak ck).cells.toArray → W.cell? ⟨g, 101, none⟩ = some (.slice Ak k ck) := fun W hW => by
          have h1 := (hW.cell 101).trans ((manN xs k Ak ck).cell_ord hok)
          have h2 : (manN xs k Ak ck).ord.length = k := ordN_length xs k
          rw [h2] at h1
          exact h1
        have HH := hr.below P.B
        have cA := holds_at HH (j := 118 + 2 * k) (by omega)
        have cB := holds_at HH (j := 118 + 2 * k + 1) (by omega)
        have hxa := getD_at xs ho (118 + 2 * k)
        have hxb := getD_at xs ho (118 + 2 * k + 1)
        have hnm : numA xs (118 + 2 * k) 2 = 256 * xs.getD (118 + 2 * k) 0 + xs.getD (118 + 2 * k + 1) 0 := by
          unfold numA
          have e : (xs.drop (118 + 2 * k)).take 2 = [xs.getD (118 + 2 * k) 0, xs.getD (118 + 2 * k + 1) 0] := by
            apply List.ext_getElem?
            intro j
            match j with
            | 0 => rw [List.getElem?_take, if_pos (by decide), List.getElem?_drop]; exact (List.getElem?_eq_getElem (by omega)).trans (by simp [List.getD, List.getElem?_eq_getElem (show 118 + 2 * k < xs.length by omega)])
            | 1 => rw [List.getElem?_take, if_pos (by decide), List.getElem?_drop]; exact (List.getElem?_eq_getElem (by omega)).trans (by simp [List.getD, List.getElem?_eq_getElem (show 118 + 2 * k + 1 < xs.length by omega)])
            | j + 2 => rw [List.getElem?_take, if_neg (by omega)]; rfl
          rw [e]
          show (0 * 256 + _) * 256 + _ = _
          omega
        have d0 : decide (((118 + 2 * k : Nat) : Int) < (xs.length : Int) - 1) = true := decide_eq_true (by omega)
        obtain ⟨x, hx⟩ : ∃ x, xs.getD (118 + 2 * k) 0 = x := ⟨_, rfl⟩
        obtain ⟨y, hy⟩ : ∃ y, xs.getD (118 + 2 * k + 1) 0 = y := ⟨_, rfl⟩
        obtain ⟨at_, hat⟩ : ∃ at_ : Nat, 118 + 2 * k = at_ := ⟨_, rfl⟩
        rw [hx] at cA hxa hnm
        rw [hy] at cB hxb hnm
        have HAT := Lib.hid hat
        rw [hat] at cA cB d0 ⊢
        obtain ⟨a1, ha1⟩ : ∃ a1 : Nat, at_ + 1 = a1 := ⟨_, rfl⟩
        rw [ha1] at cB
        have hsum : (at_ : Int) + 1 = (a1 : Int) := by omega
        have hil : at_ < xs.length := by omega
        have hjl : a1 < xs.length := by omega
        have hil2 : (at_ : Int) < (xs.length : Int) := by omega
        have hjl2 : (a1 : Int) < (xs.length : Int) := by omega
        have HXX := Lib.hid (ordN_length xs k)
        have q101 := HX2 wr P.Z
        have qf := fun i => P.Z.frozen i
        have qa : ∀ o, (wr.alloc o).cell? ⟨g, 101, none⟩ = some (.slice Ak k ck) := fun o => HX2 _ (P.Z.alloc o)
        have hBs := P.B.size
        have HHX2 := Lib.hid HX2
        have hk400 : k ≤ 400 := by omega
        have HPP := Lib.hid P
        have HNN := Lib.hid N
        have HOKK := Lib.hid hok
        have ha1w : IntKind.i64.wrap (a1 : Int) = (a1 : Int) := IntWalk.i64_in _ (by omega)
        have hnm2 : numA xs at_ 2 = IntKind.i64.wrap (IntKind.i64.wrap (256 * IntKind.i64.wrap x) + IntKind.i64.wrap y) := by
          rw [IntWalk.i64_in x (by omega), IntWalk.i64_in y (by omega), IntWalk.i64_in (256 * x) (by omega), IntWalk.i64_in (256 * x + y) (by omega), ← hat]
          exact hnm
        rw [← hat] at hnm2
        have HNM := Lib.hid hnm2
        clear hx hy hat ha1 hnm hnm2 HX2 P N hok hh hpb hk hK118 HH
        go_wp2_with fail
        go_region_law (refine step_append_one_drew (z := IntKind.i64.wrap (IntKind.i64.wrap (256 * IntKind.i64.wrap x) + IntKind.i64.wrap y)) (by rfl) _ _ _ (by rfl) elemI (by exact HPP.out.O) (by rfl) (by rfl) (by rw [HXX.out]; omega) hBs (by exact HPP.out.Z) (by decide) ?_; intro A' c' w7 O7 T7 N7 Z7; rw [HXX.out, ← HNM.out, ← ordN_snoc] at O7; rw [HXX.out]; have s101 := HHX2.out w7 Z7; have sf := fun i => Z7.frozen i)
        all_goals
          have HP9 := Lib.hid (HPP.out.next HOKK.out O7 T7 Z7)
          have HN9 := Lib.hid (Block.far (HNN.out.out T7 (HPP.out.O.ne_block HNN.out (by decide))) (p := ⟨g, 101, none⟩) (by show gN ≠ g; omega) (.slice A' (k + 1) c'))
          clear s101 sf q101 qf qa O7 T7 N7 Z7 cA cB
          go_wp2_with fail
          go_roundw
          case rel => exact ⟨k + 1, A', c', by omega, by rw [show 118 + 2 * (k + 1) = at_ + 2 by have := HAT.out; omega]; go_num, HP9.out, HN9.out⟩
          case measure => simp [intOf]; omega
      · have hkp : k = pairs xs := by omega
        have d0 : decide (((118 + 2 * k : Nat) : Int) < (xs.length : Int) - 1) = false := decide_eq_false (by unfold pairs at hlt; omega)
        have hKe : k = if xs.getD 1 0 = 2 then pairs xs else 0 := by rw [if_pos hvm]; exact hkp
        have hk400 : k ≤ 400 := by omega
        obtain ⟨at_, hat⟩ : ∃ at_ : Nat, 118 + 2 * k = at_ := ⟨_, rfl⟩
        rw [hat] at d0 ⊢
        clear hat hkp hlt hpb hk
        go_upto_region 17 with fail
        clear d0
        have RZ := Lib.hid (block_range P.Z)
        have GPT := rmput_any (manN xs k Ak ck) hok wr hh (by show (ordN xs k).length ≤ 5000; rw [ordN_length]; omega)
        have HLN := Lib.hid ((manN xs k Ak ck).cells_length hok)
        have HOK9 := Lib.hid hok
        have HP9 := Lib.hid P
        have HN9 := Lib.hid N
        have HGI := Lib.hid (got_iff ho h118' hl4 hKe)
        have HKE := Lib.hid hKe
        have HPO := Lib.hid (putL_octets xs k Ak ck ho hK118)
        clear hok hh P N hKe
        unfold Man.putV Man.putE at GPT
        by_cases hmay : (manN xs k Ak ck).May
        · rw [if_pos hmay, if_pos hmay] at GPT
          by_cases heq : (manN xs k Ak ck).putL = xs
          · rw [heq] at GPT
            have HE : Hid (gotE xs = 0) := Lib.hid (by unfold gotE; rw [if_neg (by omega), if_pos (HGI.out.1 ⟨hmay, heq⟩)])
            have HKP : Hid (k = pairs xs) := Lib.hid (HKE.out.trans (got_many (HGI.out.1 ⟨hmay, heq⟩)))
            have HG := Lib.hid GPT
            clear GPT hmay heq
            go_upto_region 18 with (first
              | (have _t := RZ; refine wpList_load_midV (o := ⟨some 91, _, _, _, _, _⟩) (by rfl) _ _ rfl g 0 rfl (manN xs k Ak ck).cells RZ.out Try.underlying27 rfl (by rw [HLN.out]; kernel_rfl) ?_; clear _t RZ)
              | (have _t := HG; clear _t; go_at_call 10; ((with_reducible refine HG.out.mono ?_); rintro e w8 ⟨A8, c8, rfl, hl8, hm8, hh8, hb8⟩); have P8 := Lib.hid (HP9.out.below hb8); have R8 := Lib.hid (block_range P8.out.Z); have f1 := conv_bytes (P := Try.prog) Try.underlying29 Try.underlying5 Try.underlying9 w8 A8 xs c8 _ hh8; have f2 := conv_bytes (P := Try.prog) Try.underlying29 Try.underlying5 Try.underlying9 w8 (some ⟨b0, off, none⟩) xs c _ (hr.below P8.out.B); generalize strOfNums xs = S at f1 f2; clear HG hl8 hm8 hh8))
            go_wp2_with (first
              | (have _t := R8; refine wpList_load_midV (o := ⟨some 105, _, _, _, _, _⟩) (by rfl) _ _ rfl g 0 rfl (manN xs k Ak ck).cells R8.out Try.underlying27 rfl (by rw [HLN.out]; kernel_rfl) ?_; clear _t R8; have M8 := Lib.hid P8.out.M)
              | (have _t := M8; refine wpList_store_blk rfl _ _ _ rfl (ds := (manN xs k Ak ck).cells) M8.out rfl rfl (by rw [List.size_toArray, HL0.out, HLN.out]) (by rw [HLN.out]; kernel_rfl) (manN xs k Ak ck).cells_one ?_; clear _t M8; intro w9 r9 g9))
            refine bodyPost_ret (v := .tuple #[.agg (manN xs k Ak ck).cells.toArray, .int .i64 0]) (results_cell_tmp rfl _ _ w.heap.size 27 _ (0, 0) _ rfl r9 _ rfl Try.underlying27 rfl (by rw [show (manN xs k Ak ck).cells.toArray.size = 102 from HLN.out]; kernel_rfl)) rfl ?_
            have B9 : Below w.heap.size w w9 := P8.out.B.trans (below_of_grown g9 P8.out.B.size fun b hb => by injection hb with hb; omega)
            have O9 := P8.out.O.kept g9 (Or.inr (P8.out.O.ne_block P8.out.M (by decide)))
            obtain ⟨A5, c5, he5, -, -, hh5⟩ := O9.opened
            injection he5 with e1 e2 e3
            subst e1
            exact ⟨(manN xs k Ak ck), HOK9.out, hh5, ⟨Ak, ck, by rw [HE.out, if_pos rfl, HKP.out]⟩, by rw [HE.out], B9⟩
          · have HE : Hid (gotE xs = 3) := Lib.hid (by unfold gotE; rw [if_neg (by omega), if_neg (fun h => heq ((HGI.out.2 h).2))])
            have hs := str_beq HPO.out ho
            rw [decide_eq_false heq] at hs
            have HG := Lib.hid GPT
            obtain ⟨pl, hpl⟩ : ∃ pl, (manN xs k Ak ck).putL = pl := ⟨_, rfl⟩
            rw [hpl] at HG hs
            clear GPT hmay heq hpl
            go_upto_region 18 with (first
              | (have _t := RZ; refine wpList_load_midV (o := ⟨some 91, _, _, _, _, _⟩) (by rfl) _ _ rfl g 0 rfl (manN xs k Ak ck).cells RZ.out Try.underlying27 rfl (by rw [HLN.out]; kernel_rfl) ?_; clear _t RZ)
              | (have _t := HG; clear _t; go_at_call 10; ((with_reducible refine HG.out.mono ?_); rintro e w8 ⟨A8, c8, rfl, hl8, hm8, hh8, hb8⟩); have P8 := Lib.hid (HP9.out.below hb8); have R8 := Lib.hid (block_range (HN9.out.below hb8 HN9.out.lt)); have f1 := conv_bytes (P := Try.prog) Try.underlying29 Try.underlying5 Try.underlying9 w8 A8 pl c8 _ hh8; have f2 := conv_bytes (P := Try.prog) Try.underlying29 Try.underlying5 Try.underlying9 w8 (some ⟨b0, off, none⟩) xs c _ (hr.below P8.out.B); generalize strOfNums xs = S at f1 f2 hs; generalize strOfNums pl = S2 at f1 f2 hs; clear HG hl8 hm8 hh8))
            go_wp2_with (first
              | (have _t := R8; refine wpList_load_midV (o := ⟨some 104, _, _, _, _, _⟩) (by rfl) _ _ rfl gN 0 rfl man0.cells R8.out Try.underlying27 rfl (by rw [HL0.out]; kernel_rfl) ?_; clear _t R8; have M8 := Lib.hid P8.out.M)
              | (have _t := M8; refine wpList_store_blk rfl _ _ _ rfl (ds := man0.cells) M8.out rfl rfl (by simp) (by rw [HL0.out]; kernel_rfl) man0.cells_one ?_; clear _t M8; intro w9 r9 g9))
            refine bodyPost_ret (v := .tuple #[.agg man0.cells.toArray, .int .i64 3]) (results_cell_tmp rfl _ _ w.heap.size 27 _ (0, 0) _ rfl r9 _ rfl Try.underlying27 rfl (by rw [show man0.cells.toArray.size = 102 from HL0.out]; kernel_rfl)) rfl ?_
            exact got_no HE.out (by decide) rfl (P8.out.B.trans (below_of_grown g9 P8.out.B.size fun b hb => by injection hb with hb; omega))
        · rw [if_neg hmay, if_neg hmay] at GPT
          have HE : Hid (gotE xs = 3) := Lib.hid (by unfold gotE; rw [if_neg (by omega), if_neg (fun h => hmay ((HGI.out.2 h).1))])
          have HG := Lib.hid GPT
          clear GPT hmay
          go_upto_region 18 with (first
            | (have _t := RZ; refine wpList_load_midV (o := ⟨some 91, _, _, _, _, _⟩) (by rfl) _ _ rfl g 0 rfl (manN xs k Ak ck).cells RZ.out Try.underlying27 rfl (by rw [HLN.out]; kernel_rfl) ?_; clear _t RZ)
            | (have _t := HG; clear _t; go_at_call 10; ((with_reducible refine HG.out.mono ?_); rintro e w8 ⟨A8, c8, rfl, hl8, hm8, hh8, hb8⟩); have P8 := Lib.hid (HP9.out.below hb8); have R8 := Lib.hid (block_range (HN9.out.below hb8 HN9.out.lt)); clear HG hl8 hm8 hh8))
          go_wp2_with (first
            | (have _t := R8; refine wpList_load_midV (o := ⟨some 104, _, _, _, _, _⟩) (by rfl) _ _ rfl gN 0 rfl man0.cells R8.out Try.underlying27 rfl (by rw [HL0.out]; kernel_rfl) ?_; clear _t R8; have M8 := Lib.hid P8.out.M)
            | (have _t := M8; refine wpList_store_blk rfl _ _ _ rfl (ds := man0.cells) M8.out rfl rfl (by simp) (by rw [HL0.out]; kernel_rfl) man0.cells_one ?_; clear _t M8; intro w9 r9 g9))
          refine bodyPost_ret (v := .tuple #[.agg man0.cells.toArray, .int .i64 3]) (results_cell_tmp rfl _ _ w.heap.size 27 _ (0, 0) _ rfl r9 _ rfl Try.underlying27 rfl (by rw [show man0.cells.toArray.size = 102 from HL0.out]; kernel_rfl)) rfl ?_
          exact got_no HE.out (by decide) rfl (P8.out.B.trans (below_of_grown g9 P8.out.B.size fun b hb => by injection hb with hb; omega))
  · have hmb : (md == 2) = false := by simpa using hm2
    go_upto_region 17 with fail
    have hKe : 0 = if xs.getD 1 0 = 2 then pairs xs else 0 := by rw [if_neg (by rw [hvm]; exact hm2)]
    have P := HP0.out
    have N := HN0.out
    have hok := manN_ok xs 0 none 0 ho h118' (by omega) ⟨Nat.le_refl _, Nat.zero_le _⟩
    have hh : Holds w10 w10.heap.size .i64 none (ordN xs 0) := Holds.nil
    have hK118 : 118 + 2 * 0 ≤ xs.length := by omega
    have hk400 : 0 ≤ 400 := by omega
    clear HP0 HN0 hm2 hmdc hmb
    have RZ := Lib.hid (block_range P.Z)
    have GPT := rmput_any (manN xs 0 none 0) hok w10 hh (by show (ordN xs 0).length ≤ 5000; rw [ordN_length]; omega)
    have HLN := Lib.hid ((manN xs 0 none 0).cells_length hok)
    have HOK9 := Lib.hid hok
    have HP9 := Lib.hid P
    have HN9 := Lib.hid N
    have HGI := Lib.hid (got_iff ho h118' hl4 hKe)
    have HKE := Lib.hid hKe
    have HPO := Lib.hid (putL_octets xs 0 none 0 ho hK118)
    clear hok hh P N hKe
    unfold Man.putV Man.putE at GPT
    by_cases hmay : (manN xs 0 none 0).May
    · rw [if_pos hmay, if_pos hmay] at GPT
      by_cases heq : (manN xs 0 none 0).putL = xs
      · rw [heq] at GPT
        have HE : Hid (gotE xs = 0) := Lib.hid (by unfold gotE; rw [if_neg (by omega), if_pos (HGI.out.1 ⟨hmay, heq⟩)])
        have HKP : Hid (0 = pairs xs) := Lib.hid (HKE.out.trans (got_many (HGI.out.1 ⟨hmay, heq⟩)))
        have HG := Lib.hid GPT
        clear GPT hmay heq
        go_upto_region 18 with (first
          | (have _t := RZ; refine wpList_load_midV (o := ⟨some 91, _, _, _, _, _⟩) (by rfl) _ _ rfl g 0 rfl (manN xs 0 none 0).cells RZ.out Try.underlying27 rfl (by rw [HLN.out]; kernel_rfl) ?_; clear _t RZ)
          | (have _t := HG; clear _t; go_at_call 10; ((with_reducible refine HG.out.mono ?_); rintro e w8 ⟨A8, c8, rfl, hl8, hm8, hh8, hb8⟩); have P8 := Lib.hid (HP9.out.below hb8); have R8 := Lib.hid (block_range P8.out.Z); have f1 := conv_bytes (P := Try.prog) Try.underlying29 Try.underlying5 Try.underlying9 w8 A8 xs c8 _ hh8; have f2 := conv_bytes (P := Try.prog) Try.underlying29 Try.underlying5 Try.underlying9 w8 (some ⟨b0, off, none⟩) xs c _ (hr.below P8.out.B); generalize strOfNums xs = S at f1 f2; clear HG hl8 hm8 hh8))
        go_wp2_with (first
          | (have _t := R8; refine wpList_load_midV (o := ⟨some 105, _, _, _, _, _⟩) (by rfl) _ _ rfl g 0 rfl (manN xs 0 none 0).cells R8.out Try.underlying27 rfl (by rw [HLN.out]; kernel_rfl) ?_; clear _t R8; have M8 := Lib.hid P8.out.M)
          | (have _t := M8; refine wpList_store_blk rfl _ _ _ rfl (ds := (manN xs 0 none 0).cells) M8.out rfl rfl (by rw [List.size_toArray, HL0.out, HLN.out]) (by rw [HLN.out]; kernel_rfl) (manN xs 0 none 0).cells_one ?_; clear _t M8; intro w9 r9 g9))
        refine bodyPost_ret (v := .tuple #[.agg (manN xs 0 none 0).cells.toArray, .int .i64 0]) (results_cell_tmp rfl _ _ w.heap.size 27 _ (0, 0) _ rfl r9 _ rfl Try.underlying27 rfl (by rw [show (manN xs 0 none 0).cells.toArray.size = 102 from HLN.out]; kernel_rfl)) rfl ?_
        have B9 : Below w.heap.size w w9 := P8.out.B.trans (below_of_grown g9 P8.out.B.size fun b hb => by injection hb with hb; omega)
        have O9 := P8.out.O.kept g9 (Or.inr (P8.out.O.ne_block P8.out.M (by decide)))
        obtain ⟨A5, c5, he5, -, -, hh5⟩ := O9.opened
        injection he5 with e1 e2 e3
        subst e1
        exact ⟨(manN xs 0 none 0), HOK9.out, hh5, ⟨none, 0, by rw [HE.out, if_pos rfl, HKP.out]⟩, by rw [HE.out], B9⟩
      · have HE : Hid (gotE xs = 3) := Lib.hid (by unfold gotE; rw [if_neg (by omega), if_neg (fun h => heq ((HGI.out.2 h).2))])
        have hs := str_beq HPO.out ho
        rw [decide_eq_false heq] at hs
        have HG := Lib.hid GPT
        obtain ⟨pl, hpl⟩ : ∃ pl, (manN xs 0 none 0).putL = pl := ⟨_, rfl⟩
        rw [hpl] at HG hs
        clear GPT hmay heq hpl
        go_upto_region 18 with (first
          | (have _t := RZ; refine wpList_load_midV (o := ⟨some 91, _, _, _, _, _⟩) (by rfl) _ _ rfl g 0 rfl (manN xs 0 none 0).cells RZ.out Try.underlying27 rfl (by rw [HLN.out]; kernel_rfl) ?_; clear _t RZ)
          | (have _t := HG; clear _t; go_at_call 10; ((with_reducible refine HG.out.mono ?_); rintro e w8 ⟨A8, c8, rfl, hl8, hm8, hh8, hb8⟩); have P8 := Lib.hid (HP9.out.below hb8); have R8 := Lib.hid (block_range (HN9.out.below hb8 HN9.out.lt)); have f1 := conv_bytes (P := Try.prog) Try.underlying29 Try.underlying5 Try.underlying9 w8 A8 pl c8 _ hh8; have f2 := conv_bytes (P := Try.prog) Try.underlying29 Try.underlying5 Try.underlying9 w8 (some ⟨b0, off, none⟩) xs c _ (hr.below P8.out.B); generalize strOfNums xs = S at f1 f2 hs; generalize strOfNums pl = S2 at f1 f2 hs; clear HG hl8 hm8 hh8))
        go_wp2_with (first
          | (have _t := R8; refine wpList_load_midV (o := ⟨some 104, _, _, _, _, _⟩) (by rfl) _ _ rfl gN 0 rfl man0.cells R8.out Try.underlying27 rfl (by rw [HL0.out]; kernel_rfl) ?_; clear _t R8; have M8 := Lib.hid P8.out.M)
          | (have _t := M8; refine wpList_store_blk rfl _ _ _ rfl (ds := man0.cells) M8.out rfl rfl (by simp) (by rw [HL0.out]; kernel_rfl) man0.cells_one ?_; clear _t M8; intro w9 r9 g9))
        refine bodyPost_ret (v := .tuple #[.agg man0.cells.toArray, .int .i64 3]) (results_cell_tmp rfl _ _ w.heap.size 27 _ (0, 0) _ rfl r9 _ rfl Try.underlying27 rfl (by rw [show man0.cells.toArray.size = 102 from HL0.out]; kernel_rfl)) rfl ?_
        exact got_no HE.out (by decide) rfl (P8.out.B.trans (below_of_grown g9 P8.out.B.size fun b hb => by injection hb with hb; omega))
    · rw [if_neg hmay, if_neg hmay] at GPT
      have HE : Hid (gotE xs = 3) := Lib.hid (by unfold gotE; rw [if_neg (by omega), if_neg (fun h => hmay ((HGI.out.2 h).1))])
      have HG := Lib.hid GPT
      clear GPT hmay
      go_upto_region 18 with (first
        | (have _t := RZ; refine wpList_load_midV (o := ⟨some 91, _, _, _, _, _⟩) (by rfl) _ _ rfl g 0 rfl (manN xs 0 none 0).cells RZ.out Try.underlying27 rfl (by rw [HLN.out]; kernel_rfl) ?_; clear _t RZ)
        | (have _t := HG; clear _t; go_at_call 10; ((with_reducible refine HG.out.mono ?_); rintro e w8 ⟨A8, c8, rfl, hl8, hm8, hh8, hb8⟩); have P8 := Lib.hid (HP9.out.below hb8); have R8 := Lib.hid (block_range (HN9.out.below hb8 HN9.out.lt)); clear HG hl8 hm8 hh8))
      go_wp2_with (first
        | (have _t := R8; refine wpList_load_midV (o := ⟨some 104, _, _, _, _, _⟩) (by rfl) _ _ rfl gN 0 rfl man0.cells R8.out Try.underlying27 rfl (by rw [HL0.out]; kernel_rfl) ?_; clear _t R8; have M8 := Lib.hid P8.out.M)
        | (have _t := M8; refine wpList_store_blk rfl _ _ _ rfl (ds := man0.cells) M8.out rfl rfl (by simp) (by rw [HL0.out]; kernel_rfl) man0.cells_one ?_; clear _t M8; intro w9 r9 g9))
      refine bodyPost_ret (v := .tuple #[.agg man0.cells.toArray, .int .i64 3]) (results_cell_tmp rfl _ _ w.heap.size 27 _ (0, 0) _ rfl r9 _ rfl Try.underlying27 rfl (by rw [show man0.cells.toArray.size = 102 from HL0.out]; kernel_rfl)) rfl ?_
      exact got_no HE.out (by decide) rfl (P8.out.B.trans (below_of_grown g9 P8.out.B.size fun b hb => by injection hb with hb; omega))
end Go.Proofs.Ytpdofegmobbipaa.Mn
