/-
  Layer 13, inflate: the document's examples. Conditions: the table of turns holds what the program's text lays.
-/
import Derived.Test.YthflefdchgpbdaaDoorMInX
import Derived.Test.YthflefdchgpbdaaDoorMGIces2
namespace Go.Proofs.YthflefdchgpbdaaDoor.Inf
open Go.ChangeShapes Go.WideShapes Go.ChangeAt Go.RowKit Go.Proofs.YthflefdchgpbdaaDoor.Kit Go.Proofs.YthflefdchgpbdaaDoor.Bits Go.Proofs.YthflefdchgpbdaaDoor.Huf Go.Proofs.YthflefdchgpbdaaDoor.Df

/-- The empty text. -/
theorem ex_none : Stands 5 [3, 0] ⟨3, true, 0, [], [], []⟩ 10 0 := by
  refine ⟨.step (s1 := ⟨2, true, 0, fixL, fixD, []⟩) (p1 := 3) (.step (s1 := St.new) (p1 := 0) .refl (by decide) ?_) (by decide) ?_, .inl ⟨rfl, by decide⟩⟩
  · rw [step0 rfl]
    rfl
  · have ht : told fixL ((bitsOf [3, 0]).drop 3) = .sym 256 7 := by kernel_rfl
    rw [step2 rfl]
    unfold codeG
    rw [bindG_ok _ (symG_sym ht), if_neg (by decide), if_pos rfl]
    rfl
/-- A byte, as it is. -/
theorem ex_one : Stands 5 [1, 1, 0, 254, 255, 77] ⟨3, true, 0, [], [], [77]⟩ 48 0 := by
  refine ⟨.step (s1 := ⟨1, true, 1, [], [], []⟩) (p1 := 40) (.step (s1 := St.new) (p1 := 0) .refl (by decide) ?_) (by decide) ?_, .inl ⟨rfl, by decide⟩⟩
  · rw [step0 rfl]
    rfl
  · rw [step1 rfl]
    rfl
def AwakeTo (w : World) (e : Ending) (w' : World) : Prop := e = .returned (.bool true) ∧ Below w.heap.size w w'
set_option maxRecDepth 100000 in
set_option maxHeartbeats 6400000 in
theorem awake13 (w : World) (hL : Laid 0 turnsL w) : Calls Tryd.prog 5 #[] w (AwakeTo w) := by
  have hgl : 0 < w.heap.size := World.block_lt_of_cell? _ _ (hL 0 (by decide))
  have h1 : Holds (w.alloc (.cells #[.int .u8 3, .int .u8 0] 5)) (w.alloc (.cells #[.int .u8 3, .int .u8 0] 5)).heap.size .u8 (some ⟨w.heap.size, 0, none⟩) [3, 0] := by
    have blk := Block.new w 5 #[.int .u8 3, .int .u8 0]
    refine fun _ => ⟨w.heap.size, 0, rfl, by simp, fun j hj => ?_⟩
    simp only [List.length_cons, List.length_nil] at hj
    rw [Nat.zero_add, blk.cell]
    rcases (show j = 0 ∨ j = 1 by omega) with rfl | rfl <;> rfl
  have hb1 := (Below.refl w.heap.size w).alloc (Nat.le_refl _) (.cells #[.int .u8 3, .int .u8 0] 5)
  have hL1 : Laid 0 turnsL (w.alloc (.cells #[.int .u8 3, .int .u8 0] 5)) := fun k hk => (hb1.cell (p := ⟨_, k, none⟩) hgl).trans (hL k hk)
  have GA := Lib.hid (inflate_any 5 [3, 0] (some ⟨w.heap.size, 0, none⟩) 2 _ (by decide) h1 (fun x hx => by simp at hx; omega) (by decide) hL1)
  unfold InflTo at GA
  have HB1 := Lib.hid hb1
  have HL := Lib.hid hL
  clear h1 hb1 hL1 hL
  go_enter Tryd.func5, Tryd.ntmps5
  go_wp2_with fail
  refine GA.out.mono ?_
  rintro e w2 ⟨s, p, e0, v, hst, rfl, hv, _, b2⟩
  obtain ⟨rfl, rfl, rfl⟩ := hst.one ex_none
  obtain ⟨A2, c2, rfl, _, _, _⟩ := (hv rfl).opened
  have B2 := Lib.hid (HB1.out.trans (b2.mono HB1.out.size))
  have h2 : Holds (w2.alloc (.cells #[.int .u8 1, .int .u8 1, .int .u8 0, .int .u8 254, .int .u8 255, .int .u8 77] 5)) (w2.alloc (.cells #[.int .u8 1, .int .u8 1, .int .u8 0, .int .u8 254, .int .u8 255, .int .u8 77] 5)).heap.size .u8 (some ⟨w2.heap.size, 0, none⟩) [1, 1, 0, 254, 255, 77] := by
    have blk := Block.new w2 5 #[.int .u8 1, .int .u8 1, .int .u8 0, .int .u8 254, .int .u8 255, .int .u8 77]
    refine fun _ => ⟨w2.heap.size, 0, rfl, by simp, fun j hj => ?_⟩
    simp only [List.length_cons, List.length_nil] at hj
    rw [Nat.zero_add, blk.cell]
    rcases (show j = 0 ∨ j = 1 ∨ j = 2 ∨ j = 3 ∨ j = 4 ∨ j = 5 by omega) with rfl | rfl | rfl | rfl | rfl | rfl <;> rfl
  have hb3 := B2.out.alloc B2.out.size (.cells #[.int .u8 1, .int .u8 1, .int .u8 0, .int .u8 254, .int .u8 255, .int .u8 77] 5)
  have hL3 : Laid 0 turnsL (w2.alloc (.cells #[.int .u8 1, .int .u8 1, .int .u8 0, .int .u8 254, .int .u8 255, .int .u8 77] 5)) := fun k hk => (hb3.cell (p := ⟨_, k, none⟩) hgl).trans (HL.out k hk)
  have GB := Lib.hid (inflate_any 5 [1, 1, 0, 254, 255, 77] (some ⟨w2.heap.size, 0, none⟩) 6 _ (by decide) h2 (fun x hx => by simp at hx; omega) (by decide) hL3)
  unfold InflTo at GB
  have HB3 := Lib.hid hb3
  clear h2 hb3 hL3 GA hv hst b2
  go_wp2_with fail
  refine GB.out.mono ?_
  rintro e w4 ⟨s, p, e0, v, hst, rfl, hv, _, b4⟩
  obtain ⟨rfl, rfl, rfl⟩ := hst.one ex_one
  obtain ⟨A4, c4, rfl, _, _, hr4⟩ := (hv rfl).opened
  have hcv := conv_any w4 A4 [77] c4 _ hr4
  have hs : strOfNums [77] = { data := #[77] } := by decide
  rw [hs] at hcv
  simp only [List.length_cons, List.length_nil, Nat.zero_add] at hcv
  have B4 := Lib.hid (HB3.out.trans (b4.mono HB3.out.size))
  clear hv hst b4 hr4 hs GB
  go_wp2_with fail
  go_ret
  exact ⟨rfl, B4.out⟩
end Go.Proofs.YthflefdchgpbdaaDoor.Inf
