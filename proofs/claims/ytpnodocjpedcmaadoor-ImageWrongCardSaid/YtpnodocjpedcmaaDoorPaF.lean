/-
  Layer 7, part: Open, the document's On: contracts. Conditions: as each theorem names.
-/
import Derived.Test.YtpnodocjpedcmaaDoorPaE
namespace Go.Proofs.YtpnodocjpedcmaaDoor.Pt
open Go.ChangeShapes Go.WideShapes Go.ChangeAt Go.RowKit Go.Proofs.YtpnodocjpedcmaaDoor.Kit Go.Proofs.YtpnodocjpedcmaaDoor.Sec

/-- Is a region there? -/
def IsThere (n : Int) (F C : Int) : Prop := 0 ≤ F ∧ 1 ≤ C ∧ C ≤ n ∧ F ≤ n - C
instance (n F C : Int) : Decidable (IsThere n F C) := by unfold IsThere; infer_instance

set_option maxRecDepth 100000 in
set_option maxHeartbeats 3200000 in
theorem open_any (I : Nat → Prop) (a mk mw : Nat) (F C : Int) (s : Dv) (w : World) (h : DvAt w I a mk mw s) (hF : -9223372036854775808 ≤ F ∧ F ≤ 9223372036854775807) (hC : -9223372036854775808 ≤ C ∧ C ≤ 9223372036854775807) :
    Calls Tryd.prog 48 #[.pointer (some ⟨a, 0, none⟩), .agg #[.int .i64 F, .int .i64 C]] w fun e w' => Below w.heap.size w w' ∧
      (IsThere s.count F C → ∃ p, w.heap.size ≤ p ∧ e = .returned (.tuple #[.pointer (some ⟨p, 0, none⟩), .int .i64 0]) ∧ PartAt w' p a F C) ∧ (¬ IsThere s.count F C → e = .returned (.tuple #[.pointer none, .int .i64 1])) := by
  have B0 : Below w.heap.size w (w.alloc (.cells #[.int .i64 F, .int .i64 C] 42)) := (Below.refl _ _).alloc (Nat.le_refl _) _
  have HD : Hid (∀ n, DvAt ((w.alloc (.cells #[.int .i64 F, .int .i64 C] 42)).drewN n) I a mk mw s) := Lib.hid (fun n => (h.below B0).below (below_draws (Below.refl _ _) n))
  have HB : Hid (∀ n, Below w.heap.size w ((w.alloc (.cells #[.int .i64 F, .int .i64 C] 42)).drewN n)) := Lib.hid (fun n => below_draws B0 n)
  have hc1 := h.ok.c1
  have hc2 := h.ok.c2
  unfold IsThere
  clear h B0
  cases h1 : decide (F < 0) <;> (try cases h2 : decide (C < 1)) <;> (try cases h3 : decide ((s.count : Int) < C)) <;> (try cases h4 : decide ((s.count : Int) - C < F))
  case false.false.false.false =>
    have hyes : Hid (0 ≤ F ∧ 1 ≤ C ∧ C ≤ (s.count : Int) ∧ F ≤ (s.count : Int) - C) := Lib.hid (by simp only [decide_eq_false_iff_not] at h1 h2 h3 h4; omega)
    have k2 : 1 ≤ C := by simp only [decide_eq_false_iff_not] at h2; omega
    have k3 : C ≤ (s.count : Int) := by simp only [decide_eq_false_iff_not] at h3; omega
    go_enter Tryd.func48, Tryd.ntmps48
    go_wp2_with fail
    go_quiet ((go_at_call 58; exact Calls.quiet_of_same ((count_any I a mk mw s _ (HD.out _)).mono fun _ _ h => ⟨h.1, h.2.symm⟩)))
    go_wp2_with fail
    go_ret2
    have hb := HB.out nq
    have hz : ((w.alloc (.cells #[.int .i64 F, .int .i64 C] 42)).drewN nq).heap.size = w.heap.size + 1 := by simp [World.drewN]
    refine ⟨hb.alloc hb.size _, fun _ => ⟨w.heap.size + 1, by omega, rfl, ?_⟩, fun h => absurd hyes.out h⟩
    have := Block.new ((w.alloc (.cells #[.int .i64 F, .int .i64 C] 42)).drewN nq) 139 #[.pointer (some ⟨a, 0, none⟩), .int .i64 F, .int .i64 C]
    rw [hz] at this
    exact this
  case false.false.false.true =>
    have hno : Hid (¬ (0 ≤ F ∧ 1 ≤ C ∧ C ≤ (s.count : Int) ∧ F ≤ (s.count : Int) - C)) := Lib.hid (by simp only [decide_eq_false_iff_not, decide_eq_true_eq] at *; omega)
    have k2 : 1 ≤ C := by simp only [decide_eq_false_iff_not] at h2; omega
    have k3 : C ≤ (s.count : Int) := by simp only [decide_eq_false_iff_not] at h3; omega
    go_enter Tryd.func48, Tryd.ntmps48
    go_wp2_with fail
    go_quiet ((go_at_call 58; exact Calls.quiet_of_same ((count_any I a mk mw s _ (HD.out _)).mono fun _ _ h => ⟨h.1, h.2.symm⟩)))
    go_wp2_with fail
    go_ret2
    exact ⟨HB.out nq, fun h => absurd h hno.out, fun _ => rfl⟩
  all_goals
    have hno : Hid (¬ (0 ≤ F ∧ 1 ≤ C ∧ C ≤ (s.count : Int) ∧ F ≤ (s.count : Int) - C)) := Lib.hid (by simp only [decide_eq_false_iff_not, decide_eq_true_eq] at *; omega)
    go_enter Tryd.func48, Tryd.ntmps48
    go_wp2_with fail
    go_quiet ((go_at_call 58; exact Calls.quiet_of_same ((count_any I a mk mw s _ (HD.out _)).mono fun _ _ h => ⟨h.1, h.2.symm⟩)))
    go_wp2_with fail
    go_ret2
    exact ⟨HB.out nq, fun h => absurd h hno.out, fun _ => rfl⟩
end Go.Proofs.YtpnodocjpedcmaaDoor.Pt
