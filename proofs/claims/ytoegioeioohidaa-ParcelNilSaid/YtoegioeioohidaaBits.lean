/-
  Layer 8, bits: what a nil writer and a nil reader answer. Conditions: none.
-/
import Derived.Test.YtoegioeioohidaaRows
import Derived.Test.YtoegioeioohidaaMem
import Derived.BigQuiet
namespace Go.Proofs.Ytoegioeioohidaa.Bits
open Go.ChangeShapes Go.WideShapes Go.ChangeAt Go.RowKit Go.Proofs.Ytoegioeioohidaa.Kit

end Go.Proofs.Ytoegioeioohidaa.Bits
