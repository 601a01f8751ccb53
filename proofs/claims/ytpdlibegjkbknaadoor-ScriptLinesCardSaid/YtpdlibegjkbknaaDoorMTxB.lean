/-
  Layer 30, script.Unhex: a contract. Conditions: as each theorem names.
-/
import Derived.Test.YtpdlibegjkbknaaDoorMTxA
namespace Go.Proofs.YtpdlibegjkbknaaDoor.Tx
open Go.ChangeShapes Go.WideShapes Go.ChangeAt Go.RowKit Go.Proofs.YtpdlibegjkbknaaDoor.Kit

theorem elem8 : IntElem Tryd.prog 23 5 .u8 1 := ⟨Tryd.underlying23, by kernel_rfl, by omega⟩
theorem str46 (s : ByteArray) : s = ⟨#[46]⟩ ↔ numsOf s = [46] := by
  constructor
  · rintro rfl; rfl
  · intro h
    have := str_nums s
    rw [h] at this
    exact this.symm
theorem or16' : ∀ y v : Fin 16, bits BinOp.or IntKind.u8 ((y.val : Int) * 16) (v.val : Int) = 16 * (y.val : Int) + (v.val : Int) := by decide +kernel
theorem or16 {y v : Int} (hy : 0 ≤ y ∧ y < 16) (hv : 0 ≤ v ∧ v < 16) : bits BinOp.or IntKind.u8 (y * 16) v = 16 * y + v := by
  have h := or16' ⟨y.toNat, by omega⟩ ⟨v.toNat, by omega⟩
  have e1 : ((y.toNat : Nat) : Int) = y := by omega
  have e2 : ((v.toNat : Nat) : Int) = v := by omega
  simp only [e1, e2] at h
  exact h
/-- The bytes of a text, and whether it is one. -/
def UnTo (s : ByteArray) (w : World) (e : Ending) (w' : World) : Prop :=
  ∃ (A : Option Addr) (c : Nat), e = .returned (.tuple #[.slice A (unL (numsOf s)).length c, .bool (unB (numsOf s))]) ∧ Holds w' w'.heap.size .u8 A (unL (numsOf s)) ∧ (unL (numsOf s)).length ≤ c ∧ Below w.heap.size w w'

def UnOwn (s : ByteArray) (w : World) (e : Ending) (w' : World) : Prop :=
  ∃ v : Value, e = .returned (.tuple #[v, .bool (unB (numsOf s))]) ∧ Own w' w.heap.size 5 .u8 v (unL (numsOf s)) ∧ Below w.heap.size w w'
theorem UnOwn.to {s : ByteArray} {w w' : World} {e : Ending} (h : UnOwn s w e w') : UnTo s w e w' := by
  obtain ⟨v, rfl, own, hb⟩ := h
  obtain ⟨A, c, rfl, k, _, hh⟩ := own.opened
  exact ⟨A, c, rfl, hh, k, hb⟩

end Go.Proofs.YtpdlibegjkbknaaDoor.Tx
