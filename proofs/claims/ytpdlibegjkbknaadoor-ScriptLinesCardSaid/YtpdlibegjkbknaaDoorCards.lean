/-
  DERIVED. GIVEN WITH THE SEED: THE CARDS: each row of YtpdlibegjkbknaaDoorRows.lean that lists a variable, with what it lists TIED to the program's text (the seventh form; the later family's looks); each row that meets fmt, with fmt's text TOLD by the authors' own Lean function (tested against real Go, not proved from fmt's source: count such statements apart). THE CARD IS WHAT COUNTS. Prove the row's statement (the work); the ties are given (YtpdlibegjkbknaaDoorTie.lean); close each card by the builder's one call (the guide's Derived/Test/ToyasCard.lean, 'card_holds'). Laid BY PROGRAM, IN A SANDBOX (cutbox-door.mjs). By AI agents, Wed Nov 11 2026. No macro, syntax, notation, axiom, sorry.
-/
import Derived.Test.YtpdlibegjkbknaaDoorRows
import GoSem.ClaimSeven
namespace Go.Proofs.YtpdlibegjkbknaaDoor
namespace Rows

/-- THE TIED CARD OF 'drogherlaw30.ScriptLines'. -/
def scriptLinesCard : Claim7 := { stood := { row := scriptLinesRow, standIns := [], harness := (true, "6eefed28b973a8a353142b4d1428878a7c1d4e1d961f7ac4f22ad9dd189beea8"), looks := false }, kinds := [], alts := [], laidByText := true, laidKinds := [.data, .data, .data], laidTests := true, laidLooks := .later }
def ScriptLinesCardSaid : Prop := Claim7.holds Tryd.pinned (.plain (OpenSpec.ofChange scriptLinesSpec)) scriptLinesCard

/-- THE TIED CARD OF 'drogherlaw30.ScriptHas'. -/
def scriptHasCard : Claim7 := { stood := { row := scriptHasRow, standIns := [], harness := (true, "6eefed28b973a8a353142b4d1428878a7c1d4e1d961f7ac4f22ad9dd189beea8"), looks := false }, kinds := [], alts := [], laidByText := true, laidKinds := [.data, .data, .data], laidTests := true, laidLooks := .later }
def ScriptHasCardSaid : Prop := Claim7.holds Tryd.pinned (.plain (OpenSpec.ofChange scriptHasSpec)) scriptHasCard

/-- THE SECOND FORM's CARD OF 'drogherlaw30.ScriptLines'. -/
def scriptLinesUptoCard : Claim7 := { stood := { row := scriptLinesUptoRow, standIns := [], harness := (true, "6eefed28b973a8a353142b4d1428878a7c1d4e1d961f7ac4f22ad9dd189beea8"), looks := false }, kinds := [], alts := [], laidByText := true, laidKinds := [.data, .data, .data], laidTests := true, laidLooks := .later }
def ScriptLinesUptoCardSaid : Prop := Claim7.holds Tryd.pinned (.plain (OpenSpec.upto scriptLinesSpec)) scriptLinesUptoCard

/-- THE SECOND FORM's CARD OF 'drogherlaw30.ScriptHas'. -/
def scriptHasUptoCard : Claim7 := { stood := { row := scriptHasUptoRow, standIns := [], harness := (true, "6eefed28b973a8a353142b4d1428878a7c1d4e1d961f7ac4f22ad9dd189beea8"), looks := false }, kinds := [], alts := [], laidByText := true, laidKinds := [.data, .data, .data], laidTests := true, laidLooks := .later }
def ScriptHasUptoCardSaid : Prop := Claim7.holds Tryd.pinned (.plain (OpenSpec.upto scriptHasSpec)) scriptHasUptoCard
end Rows
end Go.Proofs.YtpdlibegjkbknaaDoor
