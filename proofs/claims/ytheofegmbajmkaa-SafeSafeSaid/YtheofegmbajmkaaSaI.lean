/-
  Layer 20, safe: the example. Conditions: as each theorem names.
-/
import Derived.Test.YtheofegmbajmkaaSaH
namespace Go.Proofs.Ytheofegmbajmkaa.Sa
open Go.ChangeShapes Go.WideShapes Go.ChangeAt Go.RowKit Go.Proofs.Ytheofegmbajmkaa.Kit Go.Proofs.Ytheofegmbajmkaa.Ordr Go.Proofs.Ytheofegmbajmkaa.Blk Go.Proofs.Ytheofegmbajmkaa.Pl

/-- The example's plans. -/
def plans2 (A1 A2 : Option Addr) : List Plan := [⟨A1, 1, [⟨2, 128, 128, none, 0, []⟩]⟩, ⟨A2, 1, [⟨2, 0, 128, none, 0, []⟩]⟩]
theorem example_one (A1 A2 : Option Addr) : checkE (plans2 A1 A2) [0, 1] 128 256 256 = 23 := by kernel_rfl
theorem example_two (A1 A2 : Option Addr) : checkE (plans2 A1 A2) [1, 0] 128 256 256 = 23 := by kernel_rfl

theorem holds_ints {W : World} {g : Nat} {t : TypeId} {zs : List Int} (hb : Block W g t (zs.map (Value.int .i64)).toArray) : Holds W W.heap.size .i64 (some ⟨g, 0, none⟩) zs := by
  intro hx
  refine ⟨g, 0, rfl, hb.lt, fun j hj => ?_⟩
  have := hb.cell j
  simpa [List.getD, List.getElem?_eq_getElem hj] using this
theorem plans_in {W : World} {g g1 g2 : Nat} {t : TypeId} (hb : Block W g t #[.slice (some ⟨g1, 0, none⟩) 1 1, .slice (some ⟨g2, 0, none⟩) 1 1])
    (b1 : Block W g1 41 #[.int .u8 2, .int .i64 128, .int .i64 128, .slice none 0 0]) (b2 : Block W g2 41 #[.int .u8 2, .int .i64 0, .int .i64 128, .slice none 0 0]) :
    HoldsP W W.heap.size (some ⟨g, 0, none⟩) (plans2 (some ⟨g1, 0, none⟩) (some ⟨g2, 0, none⟩)) := by
  have s1 := one_step b1 rfl rfl rfl (zs := []) (Nat.le_refl _) (by decide) (by intro x hx; simp at hx) Holds.nil
  have s2 := one_step b2 rfl rfl rfl (zs := []) (Nat.le_refl _) (by decide) (by intro x hx; simp at hx) Holds.nil
  intro _
  refine ⟨g, 0, rfl, hb.lt, fun i r hi => ?_⟩
  match i, hi with
  | 0, hi =>
    injection hi with hi
    subst hi
    refine ⟨_, ⟨rfl, Nat.le_refl _, by unfold maxLen; simp, s1⟩, rfl, fun j u hj => ?_⟩
    match j, hj with
    | 0, hj => rw [← hj]; exact hb.cell 0
  | 1, hi =>
    injection hi with hi
    subst hi
    refine ⟨_, ⟨rfl, Nat.le_refl _, by unfold maxLen; simp, s2⟩, rfl, fun j u hj => ?_⟩
    match j, hj with
    | 0, hj => rw [← hj]; exact hb.cell 1

theorem check1 {W : World} {P A : Option Addr} {A1 A2 : Option Addr} (hp : HoldsP W W.heap.size P (plans2 A1 A2)) (hr : Holds W W.heap.size .i64 A [0, 1]) :
    Calls Try.prog 8 #[.slice P 2 2, .slice A 2 2, .int .i64 128, .int .i64 256, .int .i64 256] W (Gives (.int .i64 23) W) := by
  have := scheck_any P (plans2 A1 A2) 2 A [0, 1] 2 128 256 256 W (by simp [plans2]) (by simp [plans2]) (by decide) (by omega) hp hr
  rw [example_one] at this
  exact this
theorem check2 {W : World} {P A : Option Addr} {A1 A2 : Option Addr} (hp : HoldsP W W.heap.size P (plans2 A1 A2)) (hr : Holds W W.heap.size .i64 A [1, 0]) :
    Calls Try.prog 8 #[.slice P 2 2, .slice A 2 2, .int .i64 128, .int .i64 256, .int .i64 256] W (Gives (.int .i64 23) W) := by
  have := scheck_any P (plans2 A1 A2) 2 A [1, 0] 2 128 256 256 W (by simp [plans2]) (by simp [plans2]) (by decide) (by omega) hp hr
  rw [example_two] at this
  exact this

set_option maxRecDepth 100000 in
set_option maxHeartbeats 800000 in
theorem awake_any (w : World) : Calls Try.prog 7 #[] w (Gives (.bool true) w) := by
  have e1 : (w.alloc (.cells #[.int .u8 2, .int .i64 128, .int .i64 128, .slice none 0 0] 41)).heap.size = w.heap.size + 1 := by simp
  have e2 : ((w.alloc (.cells #[.int .u8 2, .int .i64 128, .int .i64 128, .slice none 0 0] 41)).alloc (.cells #[.int .u8 2, .int .i64 0, .int .i64 128, .slice none 0 0] 41)).heap.size = w.heap.size + 1 + 1 := by simp
  have e3 : (((w.alloc (.cells #[.int .u8 2, .int .i64 128, .int .i64 128, .slice none 0 0] 41)).alloc (.cells #[.int .u8 2, .int .i64 0, .int .i64 128, .slice none 0 0] 41)).alloc (.cells #[.slice (some ⟨w.heap.size, 0, none⟩) 1 1, .slice (some ⟨w.heap.size + 1, 0, none⟩) 1 1] 38)).heap.size = w.heap.size + 1 + 1 + 1 := by simp
  have b1 := Block.new w 41 #[.int .u8 2, .int .i64 128, .int .i64 128, .slice none 0 0]
  have b2 := Block.new (w.alloc (.cells #[.int .u8 2, .int .i64 128, .int .i64 128, .slice none 0 0] 41)) 41 #[.int .u8 2, .int .i64 0, .int .i64 128, .slice none 0 0]
  have b3 := Block.new ((w.alloc (.cells #[.int .u8 2, .int .i64 128, .int .i64 128, .slice none 0 0] 41)).alloc (.cells #[.int .u8 2, .int .i64 0, .int .i64 128, .slice none 0 0] 41)) 38 #[.slice (some ⟨w.heap.size, 0, none⟩) 1 1, .slice (some ⟨w.heap.size + 1, 0, none⟩) 1 1]
  have b4 := Block.new (((w.alloc (.cells #[.int .u8 2, .int .i64 128, .int .i64 128, .slice none 0 0] 41)).alloc (.cells #[.int .u8 2, .int .i64 0, .int .i64 128, .slice none 0 0] 41)).alloc (.cells #[.slice (some ⟨w.heap.size, 0, none⟩) 1 1, .slice (some ⟨w.heap.size + 1, 0, none⟩) 1 1] 38)) 3 #[.int .i64 0, .int .i64 1]
  rw [e1] at b2
  rw [e2] at b3
  rw [e3] at b4
  have hp := plans_in (b3.alloc (.cells #[.int .i64 0, .int .i64 1] 3)) (((b1.alloc _).alloc _).alloc _) ((b2.alloc _).alloc _)
  have G1 := Lib.hid (check1 hp (holds_ints (zs := [0, 1]) b4))
  have B1 := below_last w (.cells #[.int .u8 2, .int .i64 128, .int .i64 128, .slice none 0 0] 41)
  have B2 := B1.alloc B1.size (.cells #[.int .u8 2, .int .i64 0, .int .i64 128, .slice none 0 0] 41)
  have B3 := B2.alloc B2.size (.cells #[.slice (some ⟨w.heap.size, 0, none⟩) 1 1, .slice (some ⟨w.heap.size + 1, 0, none⟩) 1 1] 38)
  have B4 := B3.alloc B3.size (.cells #[.int .i64 0, .int .i64 1] 3)
  clear b1 b2 b3 b4 e1 e2 e3 B1 B2 B3
  have G2 := Lib.hid (fun W h => check2 (W := W.alloc (.cells #[.int .i64 1, .int .i64 0] 3)) ((((hp.below h).more (Below.size h)).below (below_last W _)).more (below_last W _).size) (holds_ints (zs := [1, 0]) (Block.new W 3 #[.int .i64 1, .int .i64 0])))
  clear hp
  go_enter Try.func7, Try.ntmps7
  go_wp2_with (first
    | (go_at_call 8; have _t := G3; refine G3.mono ?_; rintro e w6 ⟨rfl, hb6⟩)
    | (go_at_call 8; refine G1.out.mono ?_; rintro e w5 ⟨rfl, hb5⟩; have G3 := G2.out w5 hb5; have B5 := B4.trans (hb5.mono B4.size); have B6 := B5.alloc B5.size (.cells #[.int .i64 1, .int .i64 0] 3)))
  go_ret
  exact ⟨rfl, B6.trans (hb6.mono B6.size)⟩
end Go.Proofs.Ytheofegmbajmkaa.Sa
