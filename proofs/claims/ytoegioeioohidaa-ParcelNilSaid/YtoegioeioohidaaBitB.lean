/-
  Layer 8, bits: the document's row of bytes. Conditions: as the theorem names.
-/
import Derived.Test.YtoegioeioohidaaBitN
namespace Go.Proofs.Ytoegioeioohidaa.Bits
open Go.ChangeShapes Go.WideShapes Go.ChangeAt Go.RowKit Go.Proofs.Ytoegioeioohidaa.Kit

end Go.Proofs.Ytoegioeioohidaa.Bits
