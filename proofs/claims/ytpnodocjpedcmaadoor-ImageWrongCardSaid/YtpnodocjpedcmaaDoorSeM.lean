/-
  Layer 6, sector: the bytes of a step: contract. Conditions: as each theorem names.
-/
import Derived.Test.YtpnodocjpedcmaaDoorSeL
namespace Go.Proofs.YtpnodocjpedcmaaDoor.Sec
open Go.ChangeShapes Go.WideShapes Go.ChangeAt Go.RowKit Go.Proofs.YtpnodocjpedcmaaDoor.Kit Go.Maps

/-- The bytes of a step. -/
def stepB (n : Nat) (b : Int) (long : Bool) : List Int := List.replicate n b ++ if long = true then [b] else []

end Go.Proofs.YtpnodocjpedcmaaDoor.Sec
