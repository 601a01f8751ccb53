/-
  ScriptHas: the walk: any line that is an act's is the line of that act.
-/
import Derived.Test.YtpdlibegjkbknaaDoorMGSHas19
namespace Go.Proofs.YtpdlibegjkbknaaDoor.ScriptHas
open Go.Proofs
open Go.ChangeShapes Go.WideShapes Go.ChangeAt Go.RowKit Go.Proofs.YtpdlibegjkbknaaDoor.Kit Go.Proofs.YtpdlibegjkbknaaDoor.Tx Go.Proofs.YtpdlibegjkbknaaDoor.Ty Go.Proofs.YtpdlibegjkbknaaDoor.Tz

set_option maxRecDepth 100000 in
set_option maxHeartbeats 12800000 in
theorem walk (s : ByteArray) (w : World) (hs : s.size ≤ maxLen) (ht : Tab w) :
    Calls Tryd.prog 4 #[.string s] w fun e w' => e = .returned (.bool true) ∧ Below w.heap.size w w' := by
  have GA := Lib.hid awake_any
  unfold maxLen at hs
  by_cases h2 : 2000 < s.size
  · have d3 : decide ((2000 : Int) < (s.size : Int)) = true := decide_eq_true (by omega)
    have d4 : decide (2000 < s.size) = true := decide_eq_true h2
    go_enter Tryd.func4, Tryd.ntmps4
    go_wp2_with (go_at_call 5; (with_reducible refine (GA.out _).mono ?_); rintro e w1 ⟨rfl, hb1⟩)
    go_ret
    exact ⟨rfl, hb1⟩
  have d3 : decide ((2000 : Int) < (s.size : Int)) = false := decide_eq_false (by omega)
  have d4 : decide (2000 < s.size) = false := decide_eq_false h2
  have GR := Lib.hid (ract_any s w (by omega))
  have HT := Lib.hid ht
  clear ht
  go_enter Tryd.func4, Tryd.ntmps4
  go_wp2_with fail
  refine GR.out.mono ?_
  rintro e w2 ⟨hb2, hact⟩
  cases hq : actL (numsOf s) with
  | error y =>
    rw [hq] at hact
    obtain rfl : e = .returned (.tuple #[actV zeroA (.slice none 0 0), .int .i64 y]) := hact
    have hB := hb2.alloc hb2.size (.cells (actC zeroA (.slice none 0 0)) 25)
    have HB := Lib.hid hB
    unfold actV zeroA
    unfold actC zeroA at HB
    clear hB hb2
    rcases act_err hq with rfl | rfl
    all_goals
      clear hq
      go_wp2_with (go_at_call 5; (with_reducible refine (GA.out _).mono ?_); rintro e w3 ⟨rfl, hb3⟩)
      go_ret
      exact ⟨rfl, HB.out.trans (hb3.mono HB.out.size)⟩
  | ok a =>
    rw [hq] at hact
    obtain ⟨vD, rfl, hown⟩ := hact
    obtain ⟨hline, hk, hm, hv, ho, hdl⟩ := act_line _ a hq
    rw [numsOf_length] at hdl
    have hd2 := data_own hown
    obtain ⟨A, c, rfl, hrd⟩ := data_own hown
    have hB1 := hb2.alloc hb2.size (.cells (actC a (.slice A a.d.length c)) 25)
    have hb12 := (Below.refl w2.heap.size w2).alloc (Nat.le_refl _) (.cells (actC a (.slice A a.d.length c)) 25)
    have b1 := Block.new w2 25 (actC a (.slice A a.d.length c))
    have hd1 := hd2.below hb12
    obtain ⟨W1, hW1⟩ : ∃ W1, w2.alloc (.cells (actC a (.slice A a.d.length c)) 25) = W1 := ⟨_, rfl⟩
    rw [hW1] at hB1 hb12 b1 hd1
    have GL := Lib.hid (line_any a (.slice A a.d.length c) W1 hk hm hv ho (by omega) hd1 (HT.out.below hB1))
    have HLN := Lib.hid hline
    have HB1 := Lib.hid hB1
    have HW1 := Lib.hid hW1
    have x0 := b1.cell 0
    have x1 := b1.cell 1
    have x2 := b1.cell 2
    have x3 := b1.cell 3
    have x4 := b1.cell 4
    have x5 := b1.cell 5
    unfold actC at x0 x1 x2 x3 x4 x5
    simp only [List.getElem?_toArray, List.getElem?_cons_zero, List.getElem?_cons_succ] at x0 x1 x2 x3 x4 x5
    have HSN := Lib.hid (str_nums s)
    have kb : (s.toList == s.toList) = true := beq_self_eq_true _
    unfold actV
    clear hq hown hline hk hm hv ho hd1 hd2 hB1 hb12 b1 hW1 hb2 hdl hrd
    go_wp2_with fail
    rw [show (#[.int .u8 a.k, .int .u8 a.m, .int .i64 a.p, .int .i64 a.n, .int .u64 a.v, .slice A a.d.length c] : Array Value) = actC a (.slice A a.d.length c) from rfl, HW1.out]
    go_wp2_with fail
    refine GL.out.mono ?_
    rintro e w3 ⟨hb3, hline⟩
    rw [HLN.out] at hline
    obtain rfl : e = .returned (.tuple #[.string (strOfNums (numsOf s)), .bool true]) := hline
    rw [HSN.out]
    have HB3 := Lib.hid (HB1.out.trans (hb3.mono HB1.out.size))
    clear hb3
    go_wp2_with (go_at_call 5; (with_reducible refine (GA.out _).mono ?_); rintro e w4 ⟨rfl, hb4⟩)
    go_ret
    exact ⟨rfl, HB3.out.trans (hb4.mono HB3.out.size)⟩
end Go.Proofs.YtpdlibegjkbknaaDoor.ScriptHas
