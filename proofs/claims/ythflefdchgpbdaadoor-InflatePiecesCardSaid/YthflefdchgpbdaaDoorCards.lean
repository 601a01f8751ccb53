/-
  DERIVED. GIVEN WITH THE SEED: THE CARDS: each row of YthflefdchgpbdaaDoorRows.lean that lists a variable, with what it lists TIED to the program's text (the seventh form; the later family's looks); each row that meets fmt, with fmt's text TOLD by the authors' own Lean function (tested against real Go, not proved from fmt's source: count such statements apart). THE CARD IS WHAT COUNTS. Prove the row's statement (the work); the ties are given (YthflefdchgpbdaaDoorTie.lean); close each card by the builder's one call (the guide's Derived/Test/ToyasCard.lean, 'card_holds'). Laid BY PROGRAM, IN A SANDBOX (cutbox-door.mjs). By AI agents, Wed Nov 11 2026. No macro, syntax, notation, axiom, sorry.
-/
import Derived.Test.YthflefdchgpbdaaDoorRows
import GoSem.ClaimSeven
namespace Go.Proofs.YthflefdchgpbdaaDoor
namespace Rows

/-- THE TIED CARD OF 'drogherlaw13.InflateTells'. -/
def inflateTellsCard : Claim7 := { stood := { row := inflateTellsRow, standIns := [], harness := (true, "64a46fcd6903893399ab5a6b55f3a1050b512abeb513e69c0b0a47fc56b4b452"), looks := true }, kinds := [], alts := [], laidByText := true, laidKinds := [.data], laidTests := true, laidLooks := .later }
def InflateTellsCardSaid : Prop := Claim7.holds Tryd.pinned (.plain (OpenSpec.ofChange inflateTellsSpec)) inflateTellsCard

/-- THE TIED CARD OF 'drogherlaw13.InflatePieces'. -/
def inflatePiecesCard : Claim7 := { stood := { row := inflatePiecesRow, standIns := [], harness := (true, "64a46fcd6903893399ab5a6b55f3a1050b512abeb513e69c0b0a47fc56b4b452"), looks := true }, kinds := [], alts := [], laidByText := true, laidKinds := [.data], laidTests := true, laidLooks := .later }
def InflatePiecesCardSaid : Prop := Claim7.holds Tryd.pinned (.plain (OpenSpec.ofChange inflatePiecesSpec)) inflatePiecesCard

/-- THE SECOND FORM's CARD OF 'drogherlaw13.InflateTells'. -/
def inflateTellsUptoCard : Claim7 := { stood := { row := inflateTellsUptoRow, standIns := [], harness := (true, "64a46fcd6903893399ab5a6b55f3a1050b512abeb513e69c0b0a47fc56b4b452"), looks := true }, kinds := [], alts := [], laidByText := true, laidKinds := [.data], laidTests := true, laidLooks := .later }
def InflateTellsUptoCardSaid : Prop := Claim7.holds Tryd.pinned (.plain (OpenSpec.upto inflateTellsSpec)) inflateTellsUptoCard

/-- THE SECOND FORM's CARD OF 'drogherlaw13.InflatePieces'. -/
def inflatePiecesUptoCard : Claim7 := { stood := { row := inflatePiecesUptoRow, standIns := [], harness := (true, "64a46fcd6903893399ab5a6b55f3a1050b512abeb513e69c0b0a47fc56b4b452"), looks := true }, kinds := [], alts := [], laidByText := true, laidKinds := [.data], laidTests := true, laidLooks := .later }
def InflatePiecesUptoCardSaid : Prop := Claim7.holds Tryd.pinned (.plain (OpenSpec.upto inflatePiecesSpec)) inflatePiecesUptoCard
end Rows
end Go.Proofs.YthflefdchgpbdaaDoor
