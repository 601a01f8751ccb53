/-
  Layer 8, bits: the document's row of bytes. Conditions: as the theorem names.
-/
import Derived.Test.YtnmdjlnhocbhlaaBitN
namespace Go.Proofs.Ytnmdjlnhocbhlaa.Bits
open Go.ChangeShapes Go.WideShapes Go.ChangeAt Go.RowKit Go.Proofs.Ytnmdjlnhocbhlaa.Kit

end Go.Proofs.Ytnmdjlnhocbhlaa.Bits
