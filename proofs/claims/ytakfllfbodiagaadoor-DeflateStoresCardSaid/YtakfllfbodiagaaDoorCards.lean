/-
  DERIVED. GIVEN WITH THE SEED: THE CARDS: each row of YtakfllfbodiagaaDoorRows.lean that lists a variable, with what it lists TIED to the program's text (the seventh form; the later family's looks); each row that meets fmt, with fmt's text TOLD by the authors' own Lean function (tested against real Go, not proved from fmt's source: count such statements apart). THE CARD IS WHAT COUNTS. Prove the row's statement (the work); the ties are given (YtakfllfbodiagaaDoorTie.lean); close each card by the builder's one call (the guide's Derived/Test/ToyasCard.lean, 'card_holds'). Laid BY PROGRAM, IN A SANDBOX (cutbox-door.mjs). By AI agents, Wed Nov 11 2026. No macro, syntax, notation, axiom, sorry.
-/
import Derived.Test.YtakfllfbodiagaaDoorRows
import GoSem.ClaimSeven
namespace Go.Proofs.YtakfllfbodiagaaDoor
namespace Rows

/-- THE TIED CARD OF 'drogherlaw12.DeflateSymbols'. -/
def deflateSymbolsCard : Claim7 := { stood := { row := deflateSymbolsRow, standIns := [], harness := (true, "082c3bd2d7220b1d8b79127d76f8630a741e5927fca7827450b340126f785542"), looks := false }, kinds := [], alts := [], laidByText := true, laidKinds := [.data, .data], laidTests := true, laidLooks := .later }
def DeflateSymbolsCardSaid : Prop := Claim7.holds Tryd.pinned (.plain (OpenSpec.ofChange deflateSymbolsSpec)) deflateSymbolsCard

/-- THE TIED CARD OF 'drogherlaw12.DeflateStores'. -/
def deflateStoresCard : Claim7 := { stood := { row := deflateStoresRow, standIns := [], harness := (true, "082c3bd2d7220b1d8b79127d76f8630a741e5927fca7827450b340126f785542"), looks := false }, kinds := [], alts := [], laidByText := true, laidKinds := [.data], laidTests := true, laidLooks := .later }
def DeflateStoresCardSaid : Prop := Claim7.holds Tryd.pinned (.plain (OpenSpec.ofChange deflateStoresSpec)) deflateStoresCard

/-- THE TIED CARD OF 'drogherlaw12.DeflateRefuses'. -/
def deflateRefusesCard : Claim7 := { stood := { row := deflateRefusesRow, standIns := [], harness := (true, "082c3bd2d7220b1d8b79127d76f8630a741e5927fca7827450b340126f785542"), looks := false }, kinds := [], alts := [], laidByText := true, laidKinds := [.data, .data, .data], laidTests := true, laidLooks := .later }
def DeflateRefusesCardSaid : Prop := Claim7.holds Tryd.pinned (.plain (OpenSpec.ofChange deflateRefusesSpec)) deflateRefusesCard

/-- THE TIED CARD OF 'drogherlaw12.DeflateAgain'. -/
def deflateAgainCard : Claim7 := { stood := { row := deflateAgainRow, standIns := [], harness := (true, "082c3bd2d7220b1d8b79127d76f8630a741e5927fca7827450b340126f785542"), looks := false }, kinds := [], alts := [], laidByText := true, laidKinds := [.data, .data, .data], laidTests := true, laidLooks := .later }
def DeflateAgainCardSaid : Prop := Claim7.holds Tryd.pinned (.plain (OpenSpec.ofChange deflateAgainSpec)) deflateAgainCard

/-- THE SECOND FORM's CARD OF 'drogherlaw12.DeflateSymbols'. -/
def deflateSymbolsUptoCard : Claim7 := { stood := { row := deflateSymbolsUptoRow, standIns := [], harness := (true, "082c3bd2d7220b1d8b79127d76f8630a741e5927fca7827450b340126f785542"), looks := false }, kinds := [], alts := [], laidByText := true, laidKinds := [.data, .data], laidTests := true, laidLooks := .later }
def DeflateSymbolsUptoCardSaid : Prop := Claim7.holds Tryd.pinned (.plain (OpenSpec.upto deflateSymbolsSpec)) deflateSymbolsUptoCard

/-- THE SECOND FORM's CARD OF 'drogherlaw12.DeflateStores'. -/
def deflateStoresUptoCard : Claim7 := { stood := { row := deflateStoresUptoRow, standIns := [], harness := (true, "082c3bd2d7220b1d8b79127d76f8630a741e5927fca7827450b340126f785542"), looks := false }, kinds := [], alts := [], laidByText := true, laidKinds := [.data], laidTests := true, laidLooks := .later }
def DeflateStoresUptoCardSaid : Prop := Claim7.holds Tryd.pinned (.plain (OpenSpec.upto deflateStoresSpec)) deflateStoresUptoCard

/-- THE SECOND FORM's CARD OF 'drogherlaw12.DeflateRefuses'. -/
def deflateRefusesUptoCard : Claim7 := { stood := { row := deflateRefusesUptoRow, standIns := [], harness := (true, "082c3bd2d7220b1d8b79127d76f8630a741e5927fca7827450b340126f785542"), looks := false }, kinds := [], alts := [], laidByText := true, laidKinds := [.data, .data, .data], laidTests := true, laidLooks := .later }
def DeflateRefusesUptoCardSaid : Prop := Claim7.holds Tryd.pinned (.plain (OpenSpec.upto deflateRefusesSpec)) deflateRefusesUptoCard

/-- THE SECOND FORM's CARD OF 'drogherlaw12.DeflateAgain'. -/
def deflateAgainUptoCard : Claim7 := { stood := { row := deflateAgainUptoRow, standIns := [], harness := (true, "082c3bd2d7220b1d8b79127d76f8630a741e5927fca7827450b340126f785542"), looks := false }, kinds := [], alts := [], laidByText := true, laidKinds := [.data, .data, .data], laidTests := true, laidLooks := .later }
def DeflateAgainUptoCardSaid : Prop := Claim7.holds Tryd.pinned (.plain (OpenSpec.upto deflateAgainSpec)) deflateAgainUptoCard
end Rows
end Go.Proofs.YtakfllfbodiagaaDoor
