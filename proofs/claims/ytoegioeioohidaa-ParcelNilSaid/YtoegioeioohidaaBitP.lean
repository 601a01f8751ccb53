/-
  Layer 8, bits: what a writer has, and Put. Conditions: as each theorem names.
-/
import Derived.Test.YtoegioeioohidaaBitM
import Derived.Test.YtoegioeioohidaaOut
import Derived.Test.YtoegioeioohidaaBits
import Derived.RegionTactic
import Derived.LoopTactic
import Derived.Deep.LoopGhost
import Derived.Deep.RegionLaw
import Derived.Outline
namespace Go.Proofs.Ytoegioeioohidaa.Bits
open Go.ChangeShapes Go.WideShapes Go.ChangeAt Go.RowKit Go.Proofs.Ytoegioeioohidaa.Kit

theorem elem8 : IntElem Try.prog 22 5 .u8 1 := ⟨Try.underlying22, by kernel_rfl, by omega⟩

/-- How many bits count: from 0 to 32. -/
def clampN (n : Int) : Nat := if n < 0 then 0 else if 32 < n then 32 else n.toNat

theorem clamp_le (n : Int) : clampN n ≤ 32 := by
  unfold clampN
  by_cases h : n < 0
  · rw [if_pos h]; omega
  · rw [if_neg h]
    by_cases h' : 32 < n
    · rw [if_pos h']; omega
    · rw [if_neg h']; omega
theorem clamp_eq (n : Int) : (if 32 < (if n < 0 then 0 else n) then 32 else (if n < 0 then 0 else n)) = ((clampN n : Nat) : Int) := by
  unfold clampN
  by_cases h : n < 0
  · rw [if_pos h, if_pos h]; rfl
  · rw [if_neg h, if_neg h]
    by_cases h' : 32 < n
    · rw [if_pos h', if_pos h']; rfl
    · rw [if_neg h', if_neg h']; omega

def foot (g : Nat) (v : Value) : Nat → Prop := fun b => b = g ∨ v.ownBlock = some b

theorem new_foot {w : World} {v v' : Value} {g b : Nat} (h : Newer w v v') (hb : b < w.heap.size) (he : v'.ownBlock = some b) : foot g v b := by
  rcases h with h | h
  · exact .inr (h ▸ he)
  · have := h b he
    omega

theorem wrap_low {l : List Int} (hb : Bit l) : IntKind.u8.wrap (val l) = val (l.take 8) := by
  rw [IntKind.wrap_u8]
  rcases Nat.le_total 8 l.length with h | h
  · exact (val_mod hb 8 h).1
  · rw [List.take_of_length_le h]
    exact val_mod_small hb 8 h

end Go.Proofs.Ytoegioeioohidaa.Bits
