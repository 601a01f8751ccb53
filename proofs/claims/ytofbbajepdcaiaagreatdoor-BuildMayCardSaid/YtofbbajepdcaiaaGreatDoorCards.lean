/-
  DERIVED. GIVEN WITH THE SEED: THE CARDS: each row of YtofbbajepdcaiaaGreatDoorRows.lean that lists a variable, with what it lists TIED to the program's text (the seventh form; the later family's looks); each row that meets fmt, with fmt's text TOLD by the authors' own Lean function (tested against real Go, not proved from fmt's source: count such statements apart). THE CARD IS WHAT COUNTS. Prove the row's statement (the work); the ties are given (YtofbbajepdcaiaaGreatDoorTie.lean); close each card by the builder's one call (the guide's Derived/Test/ToyasCard.lean, 'card_holds'). Laid BY PROGRAM, IN A SANDBOX (cutbox-door.mjs). By AI agents, Wed Nov 11 2026. No macro, syntax, notation, axiom, sorry.
-/
import Derived.Test.YtofbbajepdcaiaaGreatDoorRows
import GoSem.ClaimSeven
namespace Go.Proofs.YtofbbajepdcaiaaGreatDoor
namespace Rows

/-- THE TIED CARD OF 'drogherlaw28.BuildMay'. -/
def buildMayCard : Claim7 := { stood := { row := buildMayRow, standIns := [], harness := (true, "eacdaf1a3a841628b21201538aee99ce8e3ab2450da9e0012dbd4a60f11dbc46"), looks := true }, kinds := [], alts := [], laidByText := true, laidKinds := [.data, .data, .data, .data], laidTests := true, laidLooks := .later }
def BuildMayCardSaid : Prop := Claim7.holds Tryz.pinned (.plain (OpenSpec.ofChange buildMaySpec)) buildMayCard

/-- THE SECOND FORM's CARD OF 'drogherlaw28.BuildMay'. -/
def buildMayUptoCard : Claim7 := { stood := { row := buildMayUptoRow, standIns := [], harness := (true, "eacdaf1a3a841628b21201538aee99ce8e3ab2450da9e0012dbd4a60f11dbc46"), looks := true }, kinds := [], alts := [], laidByText := true, laidKinds := [.data, .data, .data, .data], laidTests := true, laidLooks := .later }
def BuildMayUptoCardSaid : Prop := Claim7.holds Tryz.pinned (.plain (OpenSpec.upto buildMaySpec)) buildMayUptoCard
end Rows
end Go.Proofs.YtofbbajepdcaiaaGreatDoor
