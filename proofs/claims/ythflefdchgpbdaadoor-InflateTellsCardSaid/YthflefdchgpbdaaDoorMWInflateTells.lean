/-
  InflateTells: the walk: what any bytes tell, with any most, or the error, is the document's.
-/
import Derived.Test.YthflefdchgpbdaaDoorMIrW
import Derived.Test.YthflefdchgpbdaaDoorMInY
namespace Go.Proofs.YthflefdchgpbdaaDoor.InflateTells
open Go.ChangeShapes Go.WideShapes Go.ChangeAt Go.RowKit Go.Proofs.YthflefdchgpbdaaDoor.Kit Go.Proofs.YthflefdchgpbdaaDoor.Bits Go.Proofs.YthflefdchgpbdaaDoor.Inf Go.Proofs.YthflefdchgpbdaaDoor.Df

/-- What the program's Inflate answers, as a text and an error. -/
theorem infl_text {m : Int} {b : List Int} {w w' : World} {e : Ending} (h : InflTo m b w e w') : TextTo (fun out e0 => ∃ s p, Stands (most0 m) b s p e0 ∧ out = if e0 = 0 then s.out else []) w e w' := by
  obtain ⟨s, p, e0, v, st, rfl, h1, h2, hb⟩ := h
  by_cases c : e0 = 0
  · obtain ⟨A1, c1, rfl, _, _, H⟩ := (h1 c).opened
    exact ⟨A1, c1, s.out, e0, rfl, H, hb, s, p, st, by rw [if_pos c]⟩
  · rw [h2 c]
    exact ⟨none, 0, [], e0, rfl, fun hl => absurd hl (by simp), hb, s, p, st, by rw [if_neg c]⟩
theorem one {m : Int} {b out1 out2 : List Int} {e1 e2 : Int} (h1 : ∃ s p, Stands m b s p e1 ∧ out1 = if e1 = 0 then s.out else []) (h2 : ∃ o, Tells m b o e2 ∧ out2 = if e2 = 0 then o else []) : out2 = out1 ∧ e2 = e1 := by
  obtain ⟨s, p, st, rfl⟩ := h1
  obtain ⟨o, T, rfl⟩ := h2
  obtain ⟨rfl, rfl⟩ := T.one st
  exact ⟨rfl, rfl⟩

set_option maxRecDepth 100000 in
set_option maxHeartbeats 12800000 in
theorem walk (A : Option Addr) (xs : List Int) (c : Nat) (m : Int) (w : World) (_hc : xs.length ≤ c) (hm : c ≤ maxLen) (ho : Octets xs) (hr : Holds w w.heap.size .u8 A xs) (hmw : (Lit.int .i64 m).wf = true) (hL : Laid 0 turnsL w) :
    Calls Tryd.prog 3 #[.slice A xs.length c, .int .i64 m] w fun e w' => e = .returned (.bool true) ∧ Below w.heap.size w w' := by
  unfold maxLen at hm
  have hgl : 0 < w.heap.size := World.block_lt_of_cell? _ _ (hL 0 (by decide))
  have GA := Lib.hid (fun (W : World) (hB : Below w.heap.size w W) => awake13 W (fun k hk => (hB.cell (p := ⟨_, k, none⟩) hgl).trans (hL k hk)))
  unfold AwakeTo at GA
  have HR := Lib.hid hr
  have HL := Lib.hid hL
  clear hr hL hmw
  by_cases h1 : 500 < xs.length
  · have d1 : decide ((500 : Int) < (xs.length : Int)) = true := decide_eq_true (by omega)
    have d2 : decide (500 < xs.length) = true := decide_eq_true h1
    go_enter Tryd.func3, Tryd.ntmps3
    go_wp2_with (go_at_call 5; refine (GA.out _ (Below.refl _ _)).mono ?_; rintro e w1 ⟨rfl, hb1⟩)
    go_ret
    exact ⟨rfl, hb1⟩
  have d1 : decide ((500 : Int) < (xs.length : Int)) = false := decide_eq_false (by omega)
  have d2 : decide (500 < xs.length) = false := decide_eq_false h1
  by_cases h3 : 5000 < m
  · have d5 : decide ((5000 : Int) < m) = true := decide_eq_true h3
    go_enter Tryd.func3, Tryd.ntmps3
    go_wp2_with (go_at_call 5; refine (GA.out _ (Below.refl _ _)).mono ?_; rintro e w1 ⟨rfl, hb1⟩)
    go_ret
    exact ⟨rfl, hb1⟩
  have d5 : decide ((5000 : Int) < m) = false := decide_eq_false h3
  have GI := Lib.hid ((inflate_any m xs A c w (by omega) HR.out ho (by omega) HL.out).mono (fun e w' h => infl_text h))
  have GR := Lib.hid (fun W (b : Below w.heap.size w W) => rinflate_any A xs c m W ho (by omega) (by omega) ((HR.out.below b).more b.size))
  clear ho
  go_enter Tryd.func3, Tryd.ntmps3
  go_upto_region 4 with (go_at_call 6; refine GI.out.mono ?_; rintro e w1 ⟨A1, c1, o1, e1, rfl, H1, b1, P1⟩)
  go_upto_region 5 with (go_at_call 7; refine (GR.out _ b1).mono ?_; rintro e w2 ⟨A2, c2, o2, e2, rfl, H2, b2, P2⟩; obtain ⟨rfl, rfl⟩ := one P1 P2; clear P1 P2)
  have cv1 := conv_any w2 A1 o2 c1 _ ((H1.below b2).more b2.size)
  have cv2 := conv_any w2 A2 o2 c2 _ H2
  have B2 := Lib.hid (b1.trans (b2.mono b1.size))
  clear H1 H2 b1 b2 GI GR
  go_wp2_with (go_at_call 5; refine (GA.out _ B2.out).mono ?_; rintro e w5 ⟨rfl, hb5⟩)
  go_ret
  exact ⟨rfl, B2.out.trans (hb5.mono B2.out.size)⟩
end Go.Proofs.YthflefdchgpbdaaDoor.InflateTells
