/-
  Layer 8, bits: the document's lists of bits. Conditions: as each theorem names.
-/
import Derived.Test.YtoegioeioohidaaBitW
namespace Go.Proofs.Ytoegioeioohidaa.Bits
open Go.ChangeShapes Go.WideShapes Go.ChangeAt Go.RowKit Go.Proofs.Ytoegioeioohidaa.Kit

theorem wrap_mod2 (y : Int) : IntKind.u8.wrap y % 2 = y % 2 := by
  rw [IntKind.wrap_u8]
  omega

theorem clamp_lt {n : Int} {i : Nat} : i < clampN n ↔ (i : Int) < n ∧ i < 32 := by
  unfold clampN
  by_cases h : n < 0
  · rw [if_pos h]; omega
  · rw [if_neg h]
    by_cases h' : 32 < n
    · rw [if_pos h']; omega
    · rw [if_neg h']; omega

end Go.Proofs.Ytoegioeioohidaa.Bits
