/-
  Layer 8, bits: the document's row of bytes. Conditions: as the theorem names.
-/
import Derived.Test.YthmkeflkhocobaaDoorMBitN
namespace Go.Proofs.YthmkeflkhocobaaDoor.Bits
open Go.ChangeShapes Go.WideShapes Go.ChangeAt Go.RowKit Go.Proofs.YthmkeflkhocobaaDoor.Kit

end Go.Proofs.YthmkeflkhocobaaDoor.Bits
