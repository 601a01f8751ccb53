/-
  Own words: texts of bytes, cut and joined. No program. No conditions beyond what each theorem names.
-/
import Derived.Test.YtchbgmpkdkecgaaMem
import Derived.Test.YtchbgmpkdkecgaaStr
namespace Go.Proofs.Ytchbgmpkdkecgaa.Pt
open Go.ChangeShapes Go.WideShapes Go.ChangeAt Go.RowKit Go.Proofs.Ytchbgmpkdkecgaa.Kit

theorem str_cut (xs : List Int) (lo hi : Nat) : (strOfNums xs).extract lo hi = strOfNums ((xs.drop lo).take (hi - lo)) := by
  apply ByteArray.ext
  rw [ByteArray.data_extract]
  apply Array.toList_inj.1
  unfold strOfNums
  simp [List.map_take, List.map_drop]
theorem str_join (xs ys : List Int) : strOfNums xs ++ strOfNums ys = strOfNums (xs ++ ys) := by
  apply ByteArray.ext
  rw [ByteArray.data_append]
  unfold strOfNums
  simp
end Go.Proofs.Ytchbgmpkdkecgaa.Pt
