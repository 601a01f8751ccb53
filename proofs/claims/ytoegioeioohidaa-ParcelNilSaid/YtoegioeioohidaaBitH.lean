/-
  Layer 8, bits: a reader's Get and Raw. Conditions: as each theorem names.
-/
import Derived.Test.YtoegioeioohidaaBitG
namespace Go.Proofs.Ytoegioeioohidaa.Bits
open Go.ChangeShapes Go.WideShapes Go.ChangeAt Go.RowKit Go.Proofs.Ytoegioeioohidaa.Kit

end Go.Proofs.Ytoegioeioohidaa.Bits
