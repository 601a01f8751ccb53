/-
  Layer 30, the document's digits and texts: contracts. Conditions: as each theorem names.
-/
import Derived.Test.YtpdlibegjkbknaaDoorMTxB
import Derived.Deep.RegionLaw
import Derived.Laws.Concat
namespace Go.Proofs.YtpdlibegjkbknaaDoor.Tx
open Go.ChangeShapes Go.WideShapes Go.ChangeAt Go.RowKit Go.Proofs.YtpdlibegjkbknaaDoor.Kit

theorem str_join (xs ys : List Int) : strOfNums xs ++ strOfNums ys = strOfNums (xs ++ ys) := by
  unfold strOfNums
  rw [List.map_append]
  apply ByteArray.ext
  simp
theorem add_str {P : Program} (xs ys : List Int) (h : xs.length + ys.length ≤ 1000000) (W : World) : (Op.stringOp .add (strOfNums xs) (strOfNums ys)).run P W = .ok (.string (strOfNums (xs ++ ys))) W := by
  rw [← str_join]
  exact run_string_add_sum W _ _ (by rw [strOfNums_size, strOfNums_size]; omega)

set_option maxHeartbeats 1600000 in
theorem value_any (c : Int) (w : World) (hc : 0 ≤ c ∧ c ≤ 255) :
    Calls Tryd.prog 29 #[.int .u8 c] w fun e w' => e = .returned (.tuple #[.int .u8 (if valD c < 0 then 0 else valD c), .bool (decide (0 ≤ valD c))]) ∧ w = w' := by
  by_cases h0 : 48 ≤ c ∧ c ≤ 57
  · have e : valD c = c - 48 := if_pos h0
    have d0 : decide (48 ≤ c) = true := decide_eq_true h0.1
    have d1 : decide (c ≤ 57) = true := decide_eq_true h0.2
    rw [e, if_neg (by omega), decide_eq_true (show 0 ≤ c - 48 by omega)]
    clear e
    go_enter Tryd.func29, Tryd.ntmps29
    go_wp2
    go_ret2
    exact ⟨rfl, rfl⟩
  by_cases h1 : 97 ≤ c ∧ c ≤ 102
  · have e : valD c = c - 87 := by unfold valD; rw [if_neg h0, if_pos h1]
    have d0 : decide (48 ≤ c) = true := decide_eq_true (by omega)
    have d1 : decide (c ≤ 57) = false := decide_eq_false (by omega)
    have d2 : decide (97 ≤ c) = true := decide_eq_true h1.1
    have d3 : decide (c ≤ 102) = true := decide_eq_true h1.2
    have e2 : c - 97 + 10 = c - 87 := by omega
    rw [e, if_neg (by omega), decide_eq_true (show 0 ≤ c - 87 by omega), ← e2]
    clear e e2
    go_enter Tryd.func29, Tryd.ntmps29
    go_wp2
    go_ret2
    exact ⟨rfl, rfl⟩
  have e : valD c = -1 := by unfold valD; rw [if_neg h0, if_neg h1]
  rw [e, if_pos (by omega), decide_eq_false (show ¬ (0 : Int) ≤ -1 by omega)]
  clear e
  by_cases a1 : 48 ≤ c
  · have d0 : decide (48 ≤ c) = true := decide_eq_true a1
    have d1 : decide (c ≤ 57) = false := decide_eq_false (by omega)
    by_cases a2 : 97 ≤ c
    · have d2 : decide (97 ≤ c) = true := decide_eq_true a2
      have d3 : decide (c ≤ 102) = false := decide_eq_false (by omega)
      go_enter Tryd.func29, Tryd.ntmps29
      go_wp2
      go_ret2
      exact ⟨rfl, rfl⟩
    · have d2 : decide (97 ≤ c) = false := decide_eq_false a2
      go_enter Tryd.func29, Tryd.ntmps29
      go_wp2
      go_ret2
      exact ⟨rfl, rfl⟩
  · have d0 : decide (48 ≤ c) = false := decide_eq_false a1
    have d2 : decide (97 ≤ c) = false := decide_eq_false (by omega)
    go_enter Tryd.func29, Tryd.ntmps29
    go_wp2
    go_ret2
    exact ⟨rfl, rfl⟩
end Go.Proofs.YtpdlibegjkbknaaDoor.Tx
