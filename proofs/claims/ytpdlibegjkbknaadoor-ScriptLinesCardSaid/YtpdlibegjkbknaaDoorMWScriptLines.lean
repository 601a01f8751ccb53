/-
  ScriptLines: the walk: the line of any act is parsed as that act, or it has none.
-/
import Derived.Test.YtpdlibegjkbknaaDoorMGSnes19
namespace Go.Proofs.YtpdlibegjkbknaaDoor.ScriptLines
open Go.Proofs
open Go.ChangeShapes Go.WideShapes Go.ChangeAt Go.RowKit Go.Proofs.YtpdlibegjkbknaaDoor.Kit Go.Proofs.YtpdlibegjkbknaaDoor.Tx Go.Proofs.YtpdlibegjkbknaaDoor.Ty Go.Proofs.YtpdlibegjkbknaaDoor.Tz

set_option maxRecDepth 100000 in
set_option maxHeartbeats 12800000 in
theorem walk (m : ActM) (w : World) (hm : m.Ok) (hr : Holds w w.heap.size .u8 m.A m.a.d) (ht : Tab w) :
    Calls Tryd.prog 3 #[.agg m.cells.toArray] w fun e w' => e = .returned (.bool true) ∧ Below w.heap.size w w' := by
  have GA := Lib.hid awake_any
  obtain ⟨a, A, c⟩ := m
  obtain ⟨hk, hmm, hv, ho, hdl⟩ := hm
  simp only at hk hmm hv ho hdl hr
  unfold maxLen at hdl
  have hB0 := (Below.refl w.heap.size w).alloc (Nat.le_refl _) (.cells (actC a (.slice A a.d.length c)) 25)
  have b0 := Block.new w 25 (actC a (.slice A a.d.length c))
  have hd0 : DataV w (.slice A a.d.length c) a.d := ⟨A, c, rfl, hr⟩
  obtain ⟨W1, hW1⟩ : ∃ W1, w.alloc (.cells (actC a (.slice A a.d.length c)) 25) = W1 := ⟨_, rfl⟩
  have hs1 : W1.heap.size = w.heap.size + 1 := by rw [← hW1]; simp
  rw [hW1] at hB0 b0
  have hd1 := hd0.below hB0
  have HW1 := Lib.hid hW1
  have HB0 := Lib.hid hB0
  have HBK := Lib.hid b0
  have HS1 := Lib.hid hs1
  have HD1 := Lib.hid hd1
  have HT1 := Lib.hid (ht.below hB0)
  have x0 := b0.cell 0
  have x1 := b0.cell 1
  have x2 := b0.cell 2
  have x3 := b0.cell 3
  have x4 := b0.cell 4
  have x5 := b0.cell 5
  unfold actC at x0 x1 x2 x3 x4 x5
  simp only [List.getElem?_toArray, List.getElem?_cons_zero, List.getElem?_cons_succ] at x0 x1 x2 x3 x4 x5
  have hcells : (ActM.mk a A c).cells.toArray = #[.int .u8 a.k, .int .u8 a.m, .int .i64 a.p, .int .i64 a.n, .int .u64 a.v, .slice A a.d.length c] := rfl
  rw [hcells]
  clear hcells hW1 hB0 b0 hd0 hd1 hs1 hr ht
  by_cases h2 : 2000 < a.d.length
  · have d3 : decide ((2000 : Int) < (a.d.length : Int)) = true := decide_eq_true (by omega)
    have d4 : decide (2000 < a.d.length) = true := decide_eq_true h2
    go_enter Tryd.func3, Tryd.ntmps3
    go_wp2_with fail
    rw [show (#[.int .u8 a.k, .int .u8 a.m, .int .i64 a.p, .int .i64 a.n, .int .u64 a.v, .slice A a.d.length c] : Array Value) = actC a (.slice A a.d.length c) from rfl, HW1.out]
    go_wp2_with (go_at_call 5; (with_reducible refine (GA.out _).mono ?_); rintro e w3 ⟨rfl, hb3⟩)
    go_ret
    exact ⟨rfl, HB0.out.trans (hb3.mono HB0.out.size)⟩
  have d3 : decide ((2000 : Int) < (a.d.length : Int)) = false := decide_eq_false (by omega)
  have d4 : decide (2000 < a.d.length) = false := decide_eq_false h2
  have GL := Lib.hid (line_any a (.slice A a.d.length c) W1 hk hmm hv ho (by omega) HD1.out HT1.out)
  go_enter Tryd.func3, Tryd.ntmps3
  go_wp2_with fail
  rw [show (#[.int .u8 a.k, .int .u8 a.m, .int .i64 a.p, .int .i64 a.n, .int .u64 a.v, .slice A a.d.length c] : Array Value) = actC a (.slice A a.d.length c) from rfl, HW1.out]
  go_wp2_with fail
  refine GL.out.mono ?_
  rintro e w2 ⟨hb2, hline⟩
  have HB2 := Lib.hid (HB0.out.trans (hb2.mono HB0.out.size))
  cases hq : lineP a with
  | none =>
    rw [hq] at hline
    obtain rfl : e = .returned (.tuple #[.string ⟨#[]⟩, .bool false]) := hline
    have s0 := str_empty
    clear hq hb2
    go_wp2_with (go_at_call 5; (with_reducible refine (GA.out _).mono ?_); rintro e w3 ⟨rfl, hb3⟩)
    go_ret
    exact ⟨rfl, HB2.out.trans (hb3.mono HB2.out.size)⟩
  | some l =>
    rw [hq] at hline
    obtain rfl : e = .returned (.tuple #[.string (strOfNums l), .bool true]) := hline
    obtain ⟨hact, hol⟩ := line_act a l hk hmm hv ho hq
    have hll := line_length hk hmm hv ho (by omega) hq
    have GR := Lib.hid (ract_any (strOfNums l) w2 (by rw [strOfNums_size]; omega))
    have HACT := Lib.hid (show actL (numsOf (strOfNums l)) = .ok a by rw [nums_str hol]; exact hact)
    have HBK2 := Lib.hid (HBK.out.below hb2 (by rw [HS1.out]; omega))
    have HD2 := Lib.hid (HD1.out.below hb2)
    have hs2 := hb2.size
    rw [HS1.out] at hs2
    obtain ⟨sl, hsl⟩ : ∃ sl, strOfNums l = sl := ⟨_, rfl⟩
    rw [hsl] at GR HACT ⊢
    clear hq hb2 hact hol hll hsl x0 x1 x2 x3 x4 x5
    go_wp2_with fail
    refine GR.out.mono ?_
    intro e w3 hto
    unfold ActTo at hto
    rw [HACT.out] at hto
    obtain ⟨hb3, vD, rfl, hown⟩ := hto
    obtain ⟨A3, c3, rfl, hrd⟩ := data_own hown
    have hb34 := (Below.refl w3.heap.size w3).alloc (Nat.le_refl _) (.cells (actC a (.slice A3 a.d.length c3)) 25)
    have bn := Block.new w3 25 (actC a (.slice A3 a.d.length c3))
    have bo := (HBK2.out.below hb3 (by omega)).alloc (.cells (actC a (.slice A3 a.d.length c3)) 25)
    have hdb := (HD2.out.below hb3).below hb34
    have hda : DataV w3 (.slice A3 a.d.length c3) a.d := ⟨A3, c3, rfl, hrd⟩
    have hda4 := hda.below hb34
    have hB4 := (HB2.out.trans (hb3.mono HB2.out.size)).trans (hb34.mono (HB2.out.trans (hb3.mono HB2.out.size)).size)
    obtain ⟨W4, hW4⟩ : ∃ W4, w3.alloc (.cells (actC a (.slice A3 a.d.length c3)) 25) = W4 := ⟨_, rfl⟩
    rw [hW4] at hb34 bn bo hdb hda4 hB4
    have HW4 := Lib.hid hW4
    have HB4 := Lib.hid hB4
    have GS := Lib.hid (same_eq a _ _ W4 hdb hda4)
    have b3 := (HBK2.out.below hb3 (by omega)).alloc (.cells #[.int .u8 a.k, .int .u8 a.m, .int .i64 a.p, .int .i64 a.n, .int .u64 a.v, .slice A3 a.d.length c3] 25)
    have b4 := Block.new w3 25 #[.int .u8 a.k, .int .u8 a.m, .int .i64 a.p, .int .i64 a.n, .int .u64 a.v, .slice A3 a.d.length c3]
    have x0 := b3.cell 0
    have x1 := b3.cell 1
    have x2 := b3.cell 2
    have x3 := b3.cell 3
    have x4 := b3.cell 4
    have x5 := b3.cell 5
    have y0 := b4.cell 0
    have y1 := b4.cell 1
    have y2 := b4.cell 2
    have y3 := b4.cell 3
    have y4 := b4.cell 4
    have y5 := b4.cell 5
    unfold actC at x0 x1 x2 x3 x4 x5
    simp only [List.getElem?_toArray, List.getElem?_cons_zero, List.getElem?_cons_succ] at x0 x1 x2 x3 x4 x5 y0 y1 y2 y3 y4 y5
    clear b3 b4
    unfold actV
    unfold actV at GS
    clear hW4 hB4 hb34 bn bo hdb hda hda4 hb3 hown hrd
    go_wp2_with fail
    rw [show (#[.int .u8 a.k, .int .u8 a.m, .int .i64 a.p, .int .i64 a.n, .int .u64 a.v, .slice A3 a.d.length c3] : Array Value) = actC a (.slice A3 a.d.length c3) from rfl, HW4.out]
    go_wp2_with (first
      | (go_at_call 8; refine GS.out.mono ?_; rintro e w5 ⟨rfl, hb5⟩; have HB5 := Lib.hid (HB4.out.trans (hb5.mono HB4.out.size)); clear hb5)
      | (go_at_call 5; (with_reducible refine (GA.out _).mono ?_); rintro e w6 ⟨rfl, hb6⟩))
    go_ret
    exact ⟨rfl, HB5.out.trans (hb6.mono HB5.out.size)⟩
end Go.Proofs.YtpdlibegjkbknaaDoor.ScriptLines
