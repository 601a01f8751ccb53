/-
  Layer 28, build: how many steps a way has: doublings until a number is met. Plain numbers. Conditions: as each theorem names.
-/
import Derived.Lib.BitFns
import Derived.Lib.ItoaNum
namespace Go.Proofs.YtofbbajepdcaiaaGreatDoor.Bm
open Go

/-- The bits of a number: it lies below that power of two, and below no lesser one. -/
theorem bitLen_lt (x j : Nat) (hx : x < 18446744073709551616) : 2 ^ j ≤ x ↔ j < Lib.bitLen x := by
  rcases Nat.eq_zero_or_pos x with rfl | h0
  · have : Lib.bitLen 0 = 0 := by decide
    rw [this]
    have := Nat.two_pow_pos j
    omega
  · obtain ⟨a, b, c⟩ := Lib.bitLenAux_bounds 64 x (by omega) (by omega)
    constructor
    · intro h
      have : 2 ^ j < 2 ^ Lib.bitLen x := Nat.lt_of_le_of_lt h c
      exact (Nat.pow_lt_pow_iff_right (by decide)).1 this
    · intro h
      exact Nat.le_trans (Nat.pow_le_pow_right (by decide) (show j ≤ Lib.bitLen x - 1 by omega)) b
end Go.Proofs.YtofbbajepdcaiaaGreatDoor.Bm
