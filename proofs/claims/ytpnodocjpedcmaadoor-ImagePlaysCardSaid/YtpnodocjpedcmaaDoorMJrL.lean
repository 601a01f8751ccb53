/-
  Layer 24, journal: a record's sum, byte by byte. No program's walk. Conditions: as each theorem names.
-/
import Derived.Test.YtpnodocjpedcmaaDoorMJrI
namespace Go.Proofs.YtpnodocjpedcmaaDoor.Jr
open Go.ChangeShapes Go.WideShapes Go.ChangeAt Go.RowKit Go.Proofs.YtpnodocjpedcmaaDoor.Kit Go.Proofs.YtpnodocjpedcmaaDoor.Oct

theorem cells_byte (a b c d e f : Int) (m : List Int) (g h i j k l : Int) (n : Nat) (hn : n < m.length) (v : Int) :
    (Rec.mk a b c d e f m g h i j k l).cells.toArray.setIfInBounds (6 + n) (.int .u8 v) = (Rec.mk a b c d e f (m.set n v) g h i j k l).cells.toArray := by
  rw [List.setIfInBounds_toArray]
  unfold Rec.cells
  simp only
  rw [show 6 + n = n + 1 + 1 + 1 + 1 + 1 + 1 by omega]
  simp only [List.set_cons_succ]
  rw [List.set_append_left _ _ (by simpa using hn), List.map_set]
theorem cells_at (a b c d e f : Int) (m : List Int) (g h i j k l : Int) (n : Nat) (hn : n < m.length) :
    (Rec.mk a b c d e f m g h i j k l).cells.toArray[6 + n]? = some (.int .u8 (m.getD n 0)) := by
  rw [List.getElem?_toArray, show 6 + n = n + 1 + 1 + 1 + 1 + 1 + 1 by omega]
  unfold Rec.cells
  simp only [List.getElem?_cons_succ]
  rw [List.getElem?_append_left (by simpa using hn), List.getElem?_map, List.getElem?_eq_getElem hn]
  simp [List.getD, List.getElem?_eq_getElem hn]
/-- The sum's first n bytes, zeros behind. -/
def manL (xs : List Int) (n : Nat) : List Int := (xs.drop 27).take n ++ List.replicate (32 - n) 0
theorem manL_length (xs : List Int) (n : Nat) (h : n ≤ 32) (hl : 99 ≤ xs.length) : (manL xs n).length = 32 := by
  unfold manL
  rw [List.length_append, List.length_take, List.length_drop, List.length_replicate]
  omega
theorem manL_set (xs : List Int) (n : Nat) (h : n < 32) (hl : 99 ≤ xs.length) : (manL xs n).set n (xs.getD (27 + n) 0) = manL xs (n + 1) := by
  unfold manL
  have l1 : ((xs.drop 27).take n).length = n := by rw [List.length_take, List.length_drop]; omega
  rw [List.set_append_right _ _ (by omega), l1, Nat.sub_self]
  rw [show 32 - n = (32 - (n + 1)) + 1 by omega, List.replicate_succ, List.set_cons_zero]
  rw [List.take_succ_eq_append_getElem (by rw [List.length_drop]; omega), List.append_assoc]
  congr 1
  rw [List.getElem_drop]
  simp [List.getD, List.getElem?_eq_getElem (show 27 + n < xs.length by omega)]
theorem manL_zero (xs : List Int) : manL xs 0 = List.replicate 32 0 := by simp [manL]
theorem manL_all (xs : List Int) : manL xs 32 = (xs.drop 27).take 32 := by simp [manL]
end Go.Proofs.YtpnodocjpedcmaaDoor.Jr
