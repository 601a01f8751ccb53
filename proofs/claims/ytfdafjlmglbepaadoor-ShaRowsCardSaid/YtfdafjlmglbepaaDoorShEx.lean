/-
  Layer 1, sha: the example's sum: plain words.
-/
import Derived.Test.YtfdafjlmglbepaaDoorShP
namespace Go.Proofs.YtfdafjlmglbepaaDoor.Sha
open Go.ChangeShapes Go.WideShapes Go.ChangeAt Go.RowKit Go.Proofs.YtfdafjlmglbepaaDoor.Kit
theorem abc_sum : (sumL [97, 98, 99]).take 4 = [186, 120, 22, 191] := by decide +kernel
end Go.Proofs.YtfdafjlmglbepaaDoor.Sha
