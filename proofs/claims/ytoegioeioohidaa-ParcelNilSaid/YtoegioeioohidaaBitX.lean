/-
  Layer 8, bits: the example, and how much is gone through. Conditions: as each theorem names.
-/
import Derived.Test.YtoegioeioohidaaBitH
import Derived.Test.YtoegioeioohidaaStr
import Derived.Test.YtoegioeioohidaaRec3
namespace Go.Proofs.Ytoegioeioohidaa.Bits
open Go.ChangeShapes Go.WideShapes Go.ChangeAt Go.RowKit Go.Proofs.Ytoegioeioohidaa.Kit

theorem conv_any (w : World) (A : Option Addr) (xs : List Int) (c B : Nat) (hr : Holds w B .u8 A xs) :
    (convert 22 9 (.slice A xs.length c)).run Try.prog w = .ok (.string (strOfNums xs)) w :=
  conv_bytes Try.underlying22 Try.underlying5 Try.underlying9 w A xs c B hr

/-- More than is gone through? -/
def greatB (ss : List Stp) : Bool := decide (100 < ss.length) || ss.any fun s => decide (100 < s.zs.length)

theorem great_yes {ss : List Stp} (h : greatB ss = false) : ss.length ≤ 100 ∧ ∀ s ∈ ss, s.zs.length ≤ 100 := by
  unfold greatB at h
  simp only [Bool.or_eq_false_iff, decide_eq_false_iff_not, List.any_eq_false, decide_eq_true_eq] at h
  exact ⟨by omega, fun s hs => by have := h.2 s hs; omega⟩

end Go.Proofs.Ytoegioeioohidaa.Bits
