/-
  Layer 22, manifest: the document's sum at a place: contract. Conditions: as each theorem names.
-/
import Derived.Test.YtpdofegmobbipaaMnV
import Derived.Test.YtpdofegmobbipaaStr
namespace Go.Proofs.Ytpdofegmobbipaa.Mn
open Go.ChangeShapes Go.WideShapes Go.ChangeAt Go.RowKit Go.Proofs.Ytpdofegmobbipaa.Kit Go.Proofs.Ytpdofegmobbipaa.Oct

/-- A sum, as far as it is read. -/
def partD (xs : List Int) (p i : Nat) : List Int := (xs.drop p).take i ++ List.replicate (32 - i) 0
theorem partD_length {xs : List Int} {p i : Nat} (h : p + 32 ≤ xs.length) (hi : i ≤ 32) : (partD xs p i).length = 32 := by
  unfold partD
  rw [List.length_append, List.length_take, List.length_drop, List.length_replicate]
  omega
theorem partD_set {xs : List Int} {p i : Nat} (h : p + 32 ≤ xs.length) (hi : i < 32) : (partD xs p i).set i (xs.getD (p + i) 0) = partD xs p (i + 1) := by
  unfold partD
  have hl : ((xs.drop p).take i).length = i := by rw [List.length_take, List.length_drop]; omega
  rw [List.set_append_right _ _ (by omega), hl, Nat.sub_self]
  obtain ⟨d, hd⟩ : ∃ d, 32 - i = d + 1 := ⟨31 - i, by omega⟩
  rw [hd, List.replicate_succ, List.set_cons_zero, show 32 - (i + 1) = d by omega]
  have ht : (xs.drop p).take (i + 1) = (xs.drop p).take i ++ [xs.getD (p + i) 0] := by
    rw [List.take_succ_eq_append_getElem (by rw [List.length_drop]; omega), List.getElem_drop, List.getD, List.getElem?_eq_getElem (by omega)]
    rfl
  rw [ht, List.append_assoc]
  rfl
theorem partD_all {xs : List Int} {p : Nat} : partD xs p 32 = (xs.drop p).take 32 := by unfold partD; simp
theorem partD_zero {xs : List Int} {p : Nat} : partD xs p 0 = List.replicate 32 0 := by unfold partD; simp

set_option maxRecDepth 100000 in
theorem build_dg0 (W : World) : (Instr.build 24 #[]).run Try.prog W = .ok (arrV .u8 (List.replicate 32 0)) W := by kernel_rfl
set_option maxRecDepth 100000 in
set_option maxHeartbeats 3200000 in
theorem rdigest_any (b off : Nat) (xs : List Int) (c p : Nat) (w : World) (h : p + 32 ≤ xs.length) (_ : xs.length ≤ c) (hm : xs.length ≤ 1000000) (hr : Holds w w.heap.size .u8 (some ⟨b, off, none⟩) xs) :
    Calls Try.prog 36 #[.slice (some ⟨b, off, none⟩) xs.length c, .int .i64 p] w fun e w' => e = .returned (arrV .u8 ((xs.drop p).take 32)) ∧ Below w.heap.size w w' := by
  have Z2 := (Arr.new w 24 .u8 (List.replicate 32 0)).alloc (.cells ((List.replicate 32 (0 : Int)).map (Value.int .u8)).toArray 24)
  have D3 : Arr ((w.alloc (.cells ((List.replicate 32 (0 : Int)).map (Value.int .u8)).toArray 24)).alloc (.cells ((List.replicate 32 (0 : Int)).map (Value.int .u8)).toArray 24)) (w.heap.size + 1) 24 .u8 (List.replicate 32 0) := by
    have := Arr.new (w.alloc (.cells ((List.replicate 32 (0 : Int)).map (Value.int .u8)).toArray 24)) 24 .u8 (List.replicate 32 0)
    rwa [show (w.alloc (.cells ((List.replicate 32 (0 : Int)).map (Value.int .u8)).toArray 24)).heap.size = w.heap.size + 1 by simp] at this
  have B3 : Below w.heap.size w ((w.alloc (.cells ((List.replicate 32 (0 : Int)).map (Value.int .u8)).toArray 24)).alloc (.cells ((List.replicate 32 (0 : Int)).map (Value.int .u8)).toArray 24)) := ((Below.refl _ _).alloc (Nat.le_refl _) _).alloc (by simp) _
  obtain ⟨b9, o9, e9, hb9, -⟩ := hr (by omega)
  injection e9 with e9
  injection e9 with e1 e2 _
  subst e1 e2
  have HB3 := Lib.hid B3
  have HZ2 := Lib.hid Z2
  have HD3 := Lib.hid D3
  have HBZ := Lib.hid build_dg0
  have hyl : Hid (((xs.drop p).take 32).length = 32) := Lib.hid (by rw [List.length_take, List.length_drop]; omega)
  have hpb : p ≤ 1000000 := by omega
  clear B3 Z2 D3
  go_enter Try.func36, Try.ntmps36
  go_upto_region 2 with (first
    | (have _t := HBZ; refine wpList_build_known (o := ⟨some 7, _, _, _, _, _⟩) rfl _ _ rfl (arrV .u8 (List.replicate 32 0)) (fun W => by have hb := HBZ.out W; simpa [Act.eval] using hb) ?_; clear _t HBZ; generalize hV : arrV .u8 (List.replicate 32 0) = V)
    | (have _t := HD3; refine wpList_store_arrS (ys := List.replicate 32 0) (by exact HD3.out) (by rfl) (by rw [← hV]; rfl) (by rfl) (by kernel_rfl) ?_; clear _t; intro w4 D4 g4))
  try simp only [Act.put]
  have Z4 := Arr.grown HZ2.out g4 (by intro e; injection e with e; omega)
  have B4 := HB3.out.trans (below_of_grown g4 HB3.out.size fun b hb => by injection hb with hb; omega)
  rw [← partD_zero (xs := xs) (p := p)] at D4
  have HS4 := Lib.hid (⟨D4, Z4, B4⟩ : _ ∧ _ ∧ _)
  clear D4 Z4 B4 g4 hV HD3 HZ2 HB3
  go_upto_region 3 with fail
  go_loopw [8] (fun q wr => ∃ i : Nat, i ≤ 32 ∧ q = .int .i64 i ∧ Arr wr (w.heap.size + 1) 24 .u8 (partD xs p i) ∧ Arr wr w.heap.size 24 .u8 (List.replicate 32 0) ∧ Below w.heap.size w wr) (fun q _ => 32 - (intOf q).toNat)
  case atStart => exact ⟨0, by omega, rfl, HS4.out.1, HS4.out.2.1, HS4.out.2.2⟩
  case round =>
    clear HS4
    obtain ⟨i, hi, rfl, D, Z, B⟩ := hrel
    by_cases hlt : i < 32
    · have d0 : decide ((i : Int) < 32) = true := decide_eq_true (by omega)
      obtain ⟨b8, o8, e8, hb8, hc8⟩ := (hr.below B) (by omega)
      injection e8 with e8
      injection e8 with e1 e2 _
      subst e1 e2
      have c1 := hc8 (p + i) (by omega)
      have hsum : (p : Int) + (i : Int) = ((p + i : Nat) : Int) := by omega
      have hpl : p + i < xs.length := by omega
      have hcl := D.cell (i := i) (by rw [partD_length h hi]; omega)
      have hfz := D.frozen i
      have D2 := D.set_ i (xs.getD (p + i) 0)
      rw [partD_set h hlt] at D2
      have Z2 := Z.far (p := ⟨w.heap.size + 1, i, none⟩) (by show w.heap.size ≠ w.heap.size + 1; omega) (.int .u8 (xs.getD (p + i) 0))
      have B2 := B.setCell (p := ⟨w.heap.size + 1, i, none⟩) (by show w.heap.size ≤ w.heap.size + 1; omega) (.int .u8 (xs.getD (p + i) 0))
      have HS5 := Lib.hid (⟨D2, Z2, B2⟩ : _ ∧ _ ∧ _)
      obtain ⟨z, hz⟩ : ∃ z, xs.getD (p + i) 0 = z := ⟨_, rfl⟩
      rw [hz] at HS5 c1
      generalize p + i = pi_ at *
      clear D D2 Z Z2 B B2 hc8 hz
      go_wp2_with fail
      go_roundw
      case rel => exact ⟨i + 1, by omega, by go_num, HS5.out.1, HS5.out.2.1, HS5.out.2.2⟩
      case measure => simp [intOf]; omega
    · obtain rfl : i = 32 := by omega
      rw [partD_all] at D
      have HD := Lib.hid D
      have HZ := Lib.hid Z
      clear D Z hlt
      generalize hY : (xs.drop p).take 32 = ys at *
      go_wp2_with (first
        | (have _t := HD; refine wpList_load_arrS HD.out (by rfl) Try.underlying24 (by rfl) (by rw [hyl.out]; kernel_rfl) ?_; clear _t HD; generalize hV : arrV .u8 ys = V)
        | (have _t := HZ; refine wpList_store_arrS (ys := ys) (by exact HZ.out) (by rfl) (by rw [← hV]; rfl) (by rw [hyl.out]; rfl) (by rw [hyl.out]; kernel_rfl) ?_; clear _t HZ; intro w6 D6 g6))
      try simp only [Act.put]
      refine bodyPost_ret (v := arrV .u8 ys) (results_cell_row rfl _ _ w.heap.size 24 _ (0, 0) _ rfl D6 Try.underlying24 rfl (by rw [show (ys.map (Value.int .u8)).toArray.size = 32 by simp [hyl.out]]; kernel_rfl)) rfl ⟨by rw [hY], ?_⟩
      exact B.trans (below_of_grown g6 B.size fun b hb => by injection hb with hb; omega)
end Go.Proofs.Ytpdofegmobbipaa.Mn
