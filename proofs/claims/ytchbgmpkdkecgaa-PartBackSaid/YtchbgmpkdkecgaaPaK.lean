/-
  Layer 7, the document's Write, plain: the texts that it cuts and fills up. Conditions: as each theorem names.
-/
import Derived.Test.YtchbgmpkdkecgaaPaH
import Derived.Test.YtchbgmpkdkecgaaPaB
namespace Go.Proofs.Ytchbgmpkdkecgaa.Pt
open Go.ChangeShapes Go.WideShapes Go.ChangeAt Go.RowKit Go.Proofs.Ytchbgmpkdkecgaa.Kit Go.Proofs.Ytchbgmpkdkecgaa.Sec

/-- A sector's part of a text. -/
theorem chunk_cut (bs : List Int) (z k : Nat) : (strOfNums bs).extract (k * z) (min bs.length ((k + 1) * z)) = strOfNums ((bs.drop (k * z)).take z) := by
  rw [str_cut]
  congr 1
  have h : (k + 1) * z = k * z + z := by rw [Nat.add_mul, Nat.one_mul]
  rw [h]
  by_cases hl : bs.length ≤ k * z + z
  · rw [Nat.min_eq_left hl, List.take_of_length_le (by rw [List.length_drop]; exact Nat.le_refl _), List.take_of_length_le (by rw [List.length_drop]; omega)]
  · rw [Nat.min_eq_right (by omega), Nat.add_sub_cancel_left]
/-- It is filled up with zeros. -/
theorem chunk_fill (bs : List Int) (z k : Nat) : strOfNums ((bs.drop (k * z)).take z) ++ strOfNums (List.replicate (z - ((bs.drop (k * z)).take z).length) 0) = strOfNums (chunkP z bs k) := by
  rw [str_join]
  rfl
/-- A range's piece of a sector: from lo to hi of the region, the sector beginning at i * z. -/
theorem piece_cut {s : Dv} {F : Int} {p m : Nat} {xs : List Int} (hx : xs.length = s.size) (h : secP s F p = (xs, 0)) (hm : m ≤ s.size - p % s.size) : (strOfNums xs).extract (p % s.size) (p % s.size + m) = strOfNums (rowP s F p m) := by
  rw [str_cut, Nat.add_sub_cancel_left, piece hx h hm]
theorem row_join (s : Dv) (F : Int) (a k m : Nat) : strOfNums (rowP s F a k) ++ strOfNums (rowP s F (a + k) m) = strOfNums (rowP s F a (k + m)) := by
  rw [str_join, rowP_add]
end Go.Proofs.Ytchbgmpkdkecgaa.Pt
