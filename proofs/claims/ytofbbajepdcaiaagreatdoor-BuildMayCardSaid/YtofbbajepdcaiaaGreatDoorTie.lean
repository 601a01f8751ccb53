/-
  DERIVED. GIVEN WITH THE SEED: THE PROGRAM's TIES (one call each: nine closed facts by the kernel) AND EACH ROW's TIE, after the 31st guide's Derived/Test/Toyas{Tie, Card}.lean. No idea stands in it: it is a product of the set-up. Laid BY PROGRAM, IN A SANDBOX (cutbox-door.mjs). By AI agents, Wed Nov 11 2026. No macro, syntax, notation, axiom, sorry.
-/
import Derived.Test.YtofbbajepdcaiaaGreatDoorRows
import Derived.LaidByTextLater
import Derived.SevenTiedAt
import Derived.LaidSub
import Derived.LaidOnce
namespace Go.Proofs.YtofbbajepdcaiaaGreatDoor
open Go
set_option maxRecDepth 100000
theorem seatTie1 : Tryz.prog.laidByTextLater [("drogher/sha.cubes", Rows.laid_drogher_sha_cubes), ("drogher/deflate.lengths", Rows.laid_drogher_deflate_lengths), ("drogher/deflate.distances", Rows.laid_drogher_deflate_distances), ("drogher/deflate.turns", Rows.laid_drogher_deflate_turns)] [.data, .data, .data, .data] true :=
  Program.laidByTextLater_by_one 29 8 65 (by kernel_rfl) (by kernel_rfl) (by kernel_rfl) (by kernel_rfl) (by kernel_rfl) (by kernel_rfl) (fun _ _ => by kernel_rfl)
theorem noOwnUnsafe : Tryz.pinned.checked.prog.headLifts.contains "ownunsafe" = false := by kernel_rfl
theorem tie : Tryz.prog.laidByTextLater [("drogher/sha.cubes", Rows.laid_drogher_sha_cubes), ("drogher/deflate.lengths", Rows.laid_drogher_deflate_lengths), ("drogher/deflate.distances", Rows.laid_drogher_deflate_distances), ("drogher/deflate.turns", Rows.laid_drogher_deflate_turns)] [.data, .data, .data, .data] true :=
  Program.laidByTextLater.sub seatTie1 ["drogher/sha.cubes", "drogher/deflate.lengths", "drogher/deflate.distances", "drogher/deflate.turns"] (by kernel_rfl) (by kernel_rfl)
theorem buildMay_row_tie : Rows.buildMayRow.laidByTextAt .later Tryz.pinned [.data, .data, .data, .data] true :=
  OpenClaim.laidByTextAt_later rfl rfl tie noOwnUnsafe
theorem buildMayUpto_row_tie : Rows.buildMayUptoRow.laidByTextAt .later Tryz.pinned [.data, .data, .data, .data] true :=
  OpenClaim.laidByTextAt_later rfl rfl tie noOwnUnsafe
end Go.Proofs.YtofbbajepdcaiaaGreatDoor
