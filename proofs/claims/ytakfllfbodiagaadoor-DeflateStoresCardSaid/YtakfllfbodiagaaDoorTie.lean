/-
  DERIVED. GIVEN WITH THE SEED: THE PROGRAM's TIES (one call each: nine closed facts by the kernel) AND EACH ROW's TIE, after the 31st guide's Derived/Test/Toyas{Tie, Card}.lean. No idea stands in it: it is a product of the set-up. Laid BY PROGRAM, IN A SANDBOX (cutbox-door.mjs). By AI agents, Wed Nov 11 2026. No macro, syntax, notation, axiom, sorry.
-/
import Derived.Test.YtakfllfbodiagaaDoorRows
import Derived.LaidByTextLater
import Derived.SevenTiedAt
import Derived.LaidSub
import Derived.LaidOnce
namespace Go.Proofs.YtakfllfbodiagaaDoor
open Go
set_option maxRecDepth 100000
theorem seatTie1 : Tryd.prog.laidByTextLater [("drogher/deflate.lengths", Rows.laid_drogher_deflate_lengths), ("drogher/deflate.distances", Rows.laid_drogher_deflate_distances), ("drogher/deflate.turns", Rows.laid_drogher_deflate_turns)] [.data, .data, .data] true :=
  Program.laidByTextLater_by_one 24 8 31 (by kernel_rfl) (by kernel_rfl) (by kernel_rfl) (by kernel_rfl) (by kernel_rfl) (by kernel_rfl) (fun _ _ => by kernel_rfl)
theorem noOwnUnsafe : Tryd.pinned.checked.prog.headLifts.contains "ownunsafe" = false := by kernel_rfl
theorem tie : Tryd.prog.laidByTextLater [("drogher/deflate.lengths", Rows.laid_drogher_deflate_lengths), ("drogher/deflate.distances", Rows.laid_drogher_deflate_distances)] [.data, .data] true :=
  Program.laidByTextLater.sub seatTie1 ["drogher/deflate.lengths", "drogher/deflate.distances"] (by kernel_rfl) (by kernel_rfl)
theorem deflateSymbols_row_tie : Rows.deflateSymbolsRow.laidByTextAt .later Tryd.pinned [.data, .data] true :=
  OpenClaim.laidByTextAt_later rfl rfl tie noOwnUnsafe
theorem tie2 : Tryd.prog.laidByTextLater [("drogher/deflate.lengths", Rows.laid_drogher_deflate_lengths)] [.data] true :=
  Program.laidByTextLater.sub seatTie1 ["drogher/deflate.lengths"] (by kernel_rfl) (by kernel_rfl)
theorem deflateStores_row_tie : Rows.deflateStoresRow.laidByTextAt .later Tryd.pinned [.data] true :=
  OpenClaim.laidByTextAt_later rfl rfl tie2 noOwnUnsafe
theorem tie3 : Tryd.prog.laidByTextLater [("drogher/deflate.lengths", Rows.laid_drogher_deflate_lengths), ("drogher/deflate.distances", Rows.laid_drogher_deflate_distances), ("drogher/deflate.turns", Rows.laid_drogher_deflate_turns)] [.data, .data, .data] true :=
  Program.laidByTextLater.sub seatTie1 ["drogher/deflate.lengths", "drogher/deflate.distances", "drogher/deflate.turns"] (by kernel_rfl) (by kernel_rfl)
theorem deflateRefuses_row_tie : Rows.deflateRefusesRow.laidByTextAt .later Tryd.pinned [.data, .data, .data] true :=
  OpenClaim.laidByTextAt_later rfl rfl tie3 noOwnUnsafe
theorem deflateAgain_row_tie : Rows.deflateAgainRow.laidByTextAt .later Tryd.pinned [.data, .data, .data] true :=
  OpenClaim.laidByTextAt_later rfl rfl tie3 noOwnUnsafe
theorem deflateSymbolsUpto_row_tie : Rows.deflateSymbolsUptoRow.laidByTextAt .later Tryd.pinned [.data, .data] true :=
  OpenClaim.laidByTextAt_later rfl rfl tie noOwnUnsafe
theorem deflateStoresUpto_row_tie : Rows.deflateStoresUptoRow.laidByTextAt .later Tryd.pinned [.data] true :=
  OpenClaim.laidByTextAt_later rfl rfl tie2 noOwnUnsafe
theorem deflateRefusesUpto_row_tie : Rows.deflateRefusesUptoRow.laidByTextAt .later Tryd.pinned [.data, .data, .data] true :=
  OpenClaim.laidByTextAt_later rfl rfl tie3 noOwnUnsafe
theorem deflateAgainUpto_row_tie : Rows.deflateAgainUptoRow.laidByTextAt .later Tryd.pinned [.data, .data, .data] true :=
  OpenClaim.laidByTextAt_later rfl rfl tie3 noOwnUnsafe
end Go.Proofs.YtakfllfbodiagaaDoor
