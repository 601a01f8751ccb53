/-
  Layer 7, the document's On: contract. Conditions: as each theorem names.
-/
import Derived.Test.YtchbgmpkdkecgaaPaF
namespace Go.Proofs.Ytchbgmpkdkecgaa.Pt
open Go.ChangeShapes Go.WideShapes Go.ChangeAt Go.RowKit Go.Proofs.Ytchbgmpkdkecgaa.Kit Go.Proofs.Ytchbgmpkdkecgaa.Sec

set_option maxRecDepth 100000 in
set_option maxHeartbeats 3200000 in
theorem on_any (n F C : Int) (w : World) (hn : 0 ≤ n ∧ n ≤ 1048576) : Calls Try.prog 15 #[.int .i64 n, .agg #[.int .i64 F, .int .i64 C]] w fun e w' => e = .returned (.bool (decide (IsThere n F C))) ∧ Below w.heap.size w w' := by
  have B0 : Below w.heap.size w (w.alloc (.cells #[.int .i64 F, .int .i64 C] 25)) := (Below.refl _ _).alloc (Nat.le_refl _) _
  have hb := Lib.hid B0
  clear B0
  obtain ⟨v, hv⟩ : ∃ v : Bool, decide (IsThere n F C) = v := ⟨_, rfl⟩
  rw [hv]
  have HV : Hid (decide (0 ≤ F ∧ 1 ≤ C ∧ C ≤ n ∧ F ≤ n - C) = v) := Lib.hid hv
  clear hv
  cases h1 : decide (0 ≤ F) <;> (try cases h2 : decide (1 ≤ C)) <;> (try cases h3 : decide (F ≤ n)) <;> (try cases h4 : decide (C ≤ n - F))
  case true.true.true.true =>
    obtain rfl : v = true := by
      rw [← HV.out]
      simp only [decide_eq_true_eq] at h1 h2 h3 h4 ⊢
      omega
    have k1 : 0 ≤ F := of_decide_eq_true h1
    have k3 : F ≤ n := of_decide_eq_true h3
    go_enter Try.func15, Try.ntmps15
    go_wp2_with fail
    go_ret
    exact ⟨rfl, hb.out⟩
  case true.true.true.false =>
    obtain rfl : v = false := by
      rw [← HV.out]
      simp only [decide_eq_true_eq, decide_eq_false_iff_not] at h1 h2 h3 h4 ⊢
      omega
    have k1 : 0 ≤ F := of_decide_eq_true h1
    have k3 : F ≤ n := of_decide_eq_true h3
    go_enter Try.func15, Try.ntmps15
    go_wp2_with fail
    go_ret
    exact ⟨rfl, hb.out⟩
  all_goals
    obtain rfl : v = false := by
      rw [← HV.out]
      simp only [decide_eq_true_eq, decide_eq_false_iff_not] at *
      omega
    go_enter Try.func15, Try.ntmps15
    go_wp2_with fail
    go_ret
    exact ⟨rfl, hb.out⟩
end Go.Proofs.Ytchbgmpkdkecgaa.Pt
