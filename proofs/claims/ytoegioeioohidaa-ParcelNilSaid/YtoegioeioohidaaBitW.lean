/-
  Layer 8, bits: the rest of a writer: Align, Raw, Len, Bytes. Conditions: as each theorem names.
-/
import Derived.Test.YtoegioeioohidaaBitR
import Derived.BigQuiet
import Derived.Deep.QuietTactic
namespace Go.Proofs.Ytoegioeioohidaa.Bits
open Go.ChangeShapes Go.WideShapes Go.ChangeAt Go.RowKit Go.Proofs.Ytoegioeioohidaa.Kit

theorem num_zero : ∀ n, num 0 n = List.replicate n 0
  | 0 => rfl
  | n + 1 => by rw [num, show (0 : Int) / 2 = 0 by decide, num_zero n]; rfl

/-- What Bytes gives: a new row. -/
def GivesRow (xs : List Int) (w : World) (e : Ending) (w' : World) : Prop := ∃ v, e = .returned v ∧ Own w' w.heap.size 5 .u8 v xs ∧ Below w.heap.size w w'

end Go.Proofs.Ytoegioeioohidaa.Bits
