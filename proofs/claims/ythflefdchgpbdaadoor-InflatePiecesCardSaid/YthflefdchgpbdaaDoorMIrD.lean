/-
  Layer 13, inflate: the document's fixed lengths: a contract. Conditions: as each theorem names.
-/
import Derived.Test.YthflefdchgpbdaaDoorMIrC
namespace Go.Proofs.YthflefdchgpbdaaDoor.Inf
open Go.ChangeShapes Go.WideShapes Go.ChangeAt Go.RowKit Go.Proofs.YthflefdchgpbdaaDoor.Kit Go.Proofs.YthflefdchgpbdaaDoor.Bits Go.Proofs.YthflefdchgpbdaaDoor.Huf Go.Proofs.YthflefdchgpbdaaDoor.Df

theorem fixL_take : (∀ i, i < 144 → fixL.take (i + 1) = fixL.take i ++ [8]) ∧ (∀ i, i < 256 → 144 ≤ i → fixL.take (i + 1) = fixL.take i ++ [9]) ∧ (∀ i, i < 280 → 256 ≤ i → fixL.take (i + 1) = fixL.take i ++ [7]) ∧ (∀ i, i < 288 → 280 ≤ i → fixL.take (i + 1) = fixL.take i ++ [8]) := by
  decide +kernel
theorem fixL_length : fixL.length = 288 := by decide +kernel
/-- Two rows of lengths of the call's own. -/
def TwoTo (l1 l2 : List Int) (w : World) (e : Ending) (w' : World) : Prop := ∃ A1 c1 A2 c2, e = .returned (.tuple #[.slice A1 l1.length c1, .slice A2 l2.length c2]) ∧ Holds w' w'.heap.size .u8 A1 l1 ∧ Holds w' w'.heap.size .u8 A2 l2 ∧ Below w.heap.size w w'
theorem two_of {w w1 w2 : World} {v1 v2 : Value} {l1 l2 : List Int} (h1 : Own w1 w.heap.size 5 .u8 v1 l1) (b1 : Below w.heap.size w w1) (h2 : Own w2 w1.heap.size 5 .u8 v2 l2) (b2 : Below w1.heap.size w1 w2) : TwoTo l1 l2 w (.returned (.tuple #[v1, v2])) w2 := by
  obtain ⟨A1, c1, rfl, _, _, H1⟩ := (h1.below b2).opened
  obtain ⟨A2, c2, rfl, _, _, H2⟩ := h2.opened
  exact ⟨A1, c1, A2, c2, rfl, H1, H2, b1.trans (b2.mono b1.size)⟩

set_option maxRecDepth 100000 in
set_option maxHeartbeats 3200000 in
theorem rfixed_any (w : World) : Calls Tryd.prog 26 #[] w (TwoTo fixL fixD w) := by
  have own0 := Own.empty (B := w.heap.size) w 5 .u8 (Nat.le_refl _)
  have hb0 : Below w.heap.size w (w.alloc (.cells #[] 5)) := (Below.refl _ _).alloc (Nat.le_refl _) _
  have HT := Lib.hid fixL_take
  go_enter Tryd.func26, Tryd.ntmps26
  go_wp2_with fail
  go_loopw [2, 3] (fun v s wr => ∃ i : Nat, i ≤ 288 ∧ s = .int .i64 i ∧ Own wr w.heap.size 5 .u8 v (fixL.take i) ∧ Below w.heap.size w wr) (fun _ s _ => 288 - (intOf s).toNat)
  case atStart => exact ⟨0, by omega, rfl, own0, hb0⟩
  case round =>
    obtain ⟨i, hi, rfl, own1, hb1⟩ := hrel
    have z1 := hb1.size
    have hq : (fixL.take i).length ≤ 300 := by rw [List.length_take, fixL_length]; omega
    by_cases h4 : i < 288
    · have j4 : (i : Int) < 288 := by omega
      by_cases h1 : i < 144
      · have hs := Lib.hid (HT.out.1 i h1)
        have j1 : (i : Int) < 144 := by omega
        generalize fixL.take i = q at *
        go_wp2_with (at_builtin; refine wpList_append_one (z := 8) _ rfl _ _ _ rfl elem8 own1 rfl rfl (by omega) (by omega) ?_; intro v4 w4 own4 hg4 hb4)
        go_roundw
        case rel => exact ⟨i + 1, by omega, by go_num, by rw [hs.out]; exact own4, hb1.trans hb4⟩
        case measure => simp [intOf] <;> omega
      · have j1 : ¬ (i : Int) < 144 := by omega
        by_cases h2 : i < 256
        · have hs := Lib.hid (HT.out.2.1 i h2 (by omega))
          have j2 : (i : Int) < 256 := by omega
          generalize fixL.take i = q at *
          go_wp2_with (at_builtin; refine wpList_append_one (z := 9) _ rfl _ _ _ rfl elem8 own1 rfl rfl (by omega) (by omega) ?_; intro v4 w4 own4 hg4 hb4)
          go_roundw
          case rel => exact ⟨i + 1, by omega, by go_num, by rw [hs.out]; exact own4, hb1.trans hb4⟩
          case measure => simp [intOf] <;> omega
        · have j2 : ¬ (i : Int) < 256 := by omega
          by_cases h3 : i < 280
          · have hs := Lib.hid (HT.out.2.2.1 i h3 (by omega))
            have j3 : (i : Int) < 280 := by omega
            generalize fixL.take i = q at *
            go_wp2_with (at_builtin; refine wpList_append_one (z := 7) _ rfl _ _ _ rfl elem8 own1 rfl rfl (by omega) (by omega) ?_; intro v4 w4 own4 hg4 hb4)
            go_roundw
            case rel => exact ⟨i + 1, by omega, by go_num, by rw [hs.out]; exact own4, hb1.trans hb4⟩
            case measure => simp [intOf] <;> omega
          · have hs := Lib.hid (HT.out.2.2.2 i h4 (by omega))
            have j3 : ¬ (i : Int) < 280 := by omega
            generalize fixL.take i = q at *
            go_wp2_with (at_builtin; refine wpList_append_one (z := 8) _ rfl _ _ _ rfl elem8 own1 rfl rfl (by omega) (by omega) ?_; intro v4 w4 own4 hg4 hb4)
            go_roundw
            case rel => exact ⟨i + 1, by omega, by go_num, by rw [hs.out]; exact own4, hb1.trans hb4⟩
            case measure => simp [intOf] <;> omega
    · obtain rfl : i = 288 := by omega
      rw [List.take_of_length_le (by rw [fixL_length]; omega)] at own1
      have own2 := Own.empty (B := wr.heap.size) wr 5 .u8 (Nat.le_refl _)
      have hb2 : Below wr.heap.size wr (wr.alloc (.cells #[] 5)) := (Below.refl _ _).alloc (Nat.le_refl _) _
      have O1 := Lib.hid own1
      have B1 := Lib.hid hb1
      clear own0 hb0 own1 hb1 h4 hq z1
      rw [show ((288 : Nat) : Int) = 288 from rfl]
      go_wp2_with fail
      go_loopw [5, 6] (fun v s wq => ∃ j : Nat, j ≤ 32 ∧ s = .int .i64 j ∧ Own wq wr.heap.size 5 .u8 v (List.replicate j 5) ∧ Below wr.heap.size wr wq) (fun _ s _ => 32 - (intOf s).toNat)
      case atStart => exact ⟨0, by omega, rfl, own2, hb2⟩
      case round =>
        obtain ⟨j, hj, rfl, own3, hb3⟩ := hrel
        have z3 := hb3.size
        by_cases h5 : j < 32
        · have j5 : (j : Int) < 32 := by omega
          have hl : (List.replicate j (5 : Int)).length ≤ 32 := by rw [List.length_replicate]; omega
          have hs : List.replicate (j + 1) (5 : Int) = List.replicate j 5 ++ [5] := List.replicate_succ'
          have HS := Lib.hid hs
          clear hs
          generalize List.replicate j (5 : Int) = q at *
          go_wp2_with (at_builtin; refine wpList_append_one (z := 5) _ rfl _ _ _ rfl elem8 own3 rfl rfl (by omega) (by omega) ?_; intro v4 w4 own4 hg4 hb4)
          go_roundw
          case rel => exact ⟨j + 1, by omega, by go_num, by rw [HS.out]; exact own4, hb3.trans hb4⟩
          case measure => simp [intOf] <;> omega
        · obtain rfl : j = 32 := by omega
          have T2 := Lib.hid (two_of O1.out B1.out own3 hb3)
          clear own3 hb3 own2 hb2 h5
          go_wp2_with fail
          go_ret2
          exact T2.out
end Go.Proofs.YthflefdchgpbdaaDoor.Inf
