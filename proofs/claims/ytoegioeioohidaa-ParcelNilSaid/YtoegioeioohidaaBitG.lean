/-
  Layer 8, bits: a reader. Conditions: as each theorem names.
-/
import Derived.Test.YtoegioeioohidaaBitB
import Derived.Test.YtoegioeioohidaaBitM2
namespace Go.Proofs.Ytoegioeioohidaa.Bits
open Go.ChangeShapes Go.WideShapes Go.ChangeAt Go.RowKit Go.Proofs.Ytoegioeioohidaa.Kit

end Go.Proofs.Ytoegioeioohidaa.Bits
