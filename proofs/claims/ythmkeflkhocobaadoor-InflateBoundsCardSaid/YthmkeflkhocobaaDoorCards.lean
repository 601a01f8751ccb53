/-
  DERIVED. GIVEN WITH THE SEED: THE CARDS: each row of YthmkeflkhocobaaDoorRows.lean that lists a variable, with what it lists TIED to the program's text (the seventh form; the later family's looks); each row that meets fmt, with fmt's text TOLD by the authors' own Lean function (tested against real Go, not proved from fmt's source: count such statements apart). THE CARD IS WHAT COUNTS. Prove the row's statement (the work); the ties are given (YthmkeflkhocobaaDoorTie.lean); close each card by the builder's one call (the guide's Derived/Test/ToyasCard.lean, 'card_holds'). Laid BY PROGRAM, IN A SANDBOX (cutbox-door.mjs). By AI agents, Wed Nov 11 2026. No macro, syntax, notation, axiom, sorry.
-/
import Derived.Test.YthmkeflkhocobaaDoorRows
import GoSem.ClaimSeven
namespace Go.Proofs.YthmkeflkhocobaaDoor
namespace Rows

/-- THE TIED CARD OF 'drogherlaw12.DeflateRefuses'. -/
def deflateRefusesCard : Claim7 := { stood := { row := deflateRefusesRow, standIns := [], harness := (true, "eb44fbfae7dd3d64761ccfaf52b05b8bb924690d9f1ecb6b375cb8e3ae6fe2bf"), looks := true }, kinds := [], alts := [], laidByText := true, laidKinds := [.data, .data, .data], laidTests := true, laidLooks := .later }
def DeflateRefusesCardSaid : Prop := Claim7.holds Tryd.pinned (.plain (OpenSpec.ofChange deflateRefusesSpec)) deflateRefusesCard

/-- THE TIED CARD OF 'drogherlaw12.DeflateAgain'. -/
def deflateAgainCard : Claim7 := { stood := { row := deflateAgainRow, standIns := [], harness := (true, "eb44fbfae7dd3d64761ccfaf52b05b8bb924690d9f1ecb6b375cb8e3ae6fe2bf"), looks := true }, kinds := [], alts := [], laidByText := true, laidKinds := [.data, .data, .data], laidTests := true, laidLooks := .later }
def DeflateAgainCardSaid : Prop := Claim7.holds Tryd.pinned (.plain (OpenSpec.ofChange deflateAgainSpec)) deflateAgainCard

/-- THE TIED CARD OF 'drogherlaw13.InflateTells'. -/
def inflateTellsCard : Claim7 := { stood := { row := inflateTellsRow, standIns := [], harness := (true, "eb44fbfae7dd3d64761ccfaf52b05b8bb924690d9f1ecb6b375cb8e3ae6fe2bf"), looks := true }, kinds := [], alts := [], laidByText := true, laidKinds := [.data], laidTests := true, laidLooks := .later }
def InflateTellsCardSaid : Prop := Claim7.holds Tryd.pinned (.plain (OpenSpec.ofChange inflateTellsSpec)) inflateTellsCard

/-- THE TIED CARD OF 'drogherlaw13.InflatePieces'. -/
def inflatePiecesCard : Claim7 := { stood := { row := inflatePiecesRow, standIns := [], harness := (true, "eb44fbfae7dd3d64761ccfaf52b05b8bb924690d9f1ecb6b375cb8e3ae6fe2bf"), looks := true }, kinds := [], alts := [], laidByText := true, laidKinds := [.data], laidTests := true, laidLooks := .later }
def InflatePiecesCardSaid : Prop := Claim7.holds Tryd.pinned (.plain (OpenSpec.ofChange inflatePiecesSpec)) inflatePiecesCard

/-- THE TIED CARD OF 'drogherlaw13.InflateBounds'. -/
def inflateBoundsCard : Claim7 := { stood := { row := inflateBoundsRow, standIns := [], harness := (true, "eb44fbfae7dd3d64761ccfaf52b05b8bb924690d9f1ecb6b375cb8e3ae6fe2bf"), looks := true }, kinds := [], alts := [], laidByText := true, laidKinds := [.data], laidTests := true, laidLooks := .later }
def InflateBoundsCardSaid : Prop := Claim7.holds Tryd.pinned (.plain (OpenSpec.ofChange inflateBoundsSpec)) inflateBoundsCard

/-- THE TIED CARD OF 'drogherlaw13.InflateEver'. -/
def inflateEverCard : Claim7 := { stood := { row := inflateEverRow, standIns := [], harness := (true, "eb44fbfae7dd3d64761ccfaf52b05b8bb924690d9f1ecb6b375cb8e3ae6fe2bf"), looks := true }, kinds := [], alts := [], laidByText := true, laidKinds := [.data], laidTests := true, laidLooks := .later }
def InflateEverCardSaid : Prop := Claim7.holds Tryd.pinned (.plain (OpenSpec.ofChange inflateEverSpec)) inflateEverCard

/-- THE TIED CARD OF 'drogherlaw13.InflateNil'. -/
def inflateNilCard : Claim7 := { stood := { row := inflateNilRow, standIns := [], harness := (true, "eb44fbfae7dd3d64761ccfaf52b05b8bb924690d9f1ecb6b375cb8e3ae6fe2bf"), looks := true }, kinds := [], alts := [], laidByText := true, laidKinds := [.data], laidTests := true, laidLooks := .later }
def InflateNilCardSaid : Prop := Claim7.holds Tryd.pinned (.plain (OpenSpec.ofChange inflateNilSpec)) inflateNilCard

/-- THE TIED CARD OF 'drogherlaw26.ChunkPacks'. -/
def chunkPacksCard : Claim7 := { stood := { row := chunkPacksRow, standIns := [], harness := (true, "eb44fbfae7dd3d64761ccfaf52b05b8bb924690d9f1ecb6b375cb8e3ae6fe2bf"), looks := true }, kinds := [], alts := [], laidByText := true, laidKinds := [.data, .data, .data], laidTests := true, laidLooks := .later }
def ChunkPacksCardSaid : Prop := Claim7.holds Tryd.pinned (.plain (OpenSpec.ofChange chunkPacksSpec)) chunkPacksCard

/-- THE SECOND FORM's CARD OF 'drogherlaw12.DeflateRefuses'. -/
def deflateRefusesUptoCard : Claim7 := { stood := { row := deflateRefusesUptoRow, standIns := [], harness := (true, "eb44fbfae7dd3d64761ccfaf52b05b8bb924690d9f1ecb6b375cb8e3ae6fe2bf"), looks := true }, kinds := [], alts := [], laidByText := true, laidKinds := [.data, .data, .data], laidTests := true, laidLooks := .later }
def DeflateRefusesUptoCardSaid : Prop := Claim7.holds Tryd.pinned (.plain (OpenSpec.upto deflateRefusesSpec)) deflateRefusesUptoCard

/-- THE SECOND FORM's CARD OF 'drogherlaw12.DeflateAgain'. -/
def deflateAgainUptoCard : Claim7 := { stood := { row := deflateAgainUptoRow, standIns := [], harness := (true, "eb44fbfae7dd3d64761ccfaf52b05b8bb924690d9f1ecb6b375cb8e3ae6fe2bf"), looks := true }, kinds := [], alts := [], laidByText := true, laidKinds := [.data, .data, .data], laidTests := true, laidLooks := .later }
def DeflateAgainUptoCardSaid : Prop := Claim7.holds Tryd.pinned (.plain (OpenSpec.upto deflateAgainSpec)) deflateAgainUptoCard

/-- THE SECOND FORM's CARD OF 'drogherlaw13.InflateTells'. -/
def inflateTellsUptoCard : Claim7 := { stood := { row := inflateTellsUptoRow, standIns := [], harness := (true, "eb44fbfae7dd3d64761ccfaf52b05b8bb924690d9f1ecb6b375cb8e3ae6fe2bf"), looks := true }, kinds := [], alts := [], laidByText := true, laidKinds := [.data], laidTests := true, laidLooks := .later }
def InflateTellsUptoCardSaid : Prop := Claim7.holds Tryd.pinned (.plain (OpenSpec.upto inflateTellsSpec)) inflateTellsUptoCard

/-- THE SECOND FORM's CARD OF 'drogherlaw13.InflatePieces'. -/
def inflatePiecesUptoCard : Claim7 := { stood := { row := inflatePiecesUptoRow, standIns := [], harness := (true, "eb44fbfae7dd3d64761ccfaf52b05b8bb924690d9f1ecb6b375cb8e3ae6fe2bf"), looks := true }, kinds := [], alts := [], laidByText := true, laidKinds := [.data], laidTests := true, laidLooks := .later }
def InflatePiecesUptoCardSaid : Prop := Claim7.holds Tryd.pinned (.plain (OpenSpec.upto inflatePiecesSpec)) inflatePiecesUptoCard

/-- THE SECOND FORM's CARD OF 'drogherlaw13.InflateBounds'. -/
def inflateBoundsUptoCard : Claim7 := { stood := { row := inflateBoundsUptoRow, standIns := [], harness := (true, "eb44fbfae7dd3d64761ccfaf52b05b8bb924690d9f1ecb6b375cb8e3ae6fe2bf"), looks := true }, kinds := [], alts := [], laidByText := true, laidKinds := [.data], laidTests := true, laidLooks := .later }
def InflateBoundsUptoCardSaid : Prop := Claim7.holds Tryd.pinned (.plain (OpenSpec.upto inflateBoundsSpec)) inflateBoundsUptoCard

/-- THE SECOND FORM's CARD OF 'drogherlaw13.InflateEver'. -/
def inflateEverUptoCard : Claim7 := { stood := { row := inflateEverUptoRow, standIns := [], harness := (true, "eb44fbfae7dd3d64761ccfaf52b05b8bb924690d9f1ecb6b375cb8e3ae6fe2bf"), looks := true }, kinds := [], alts := [], laidByText := true, laidKinds := [.data], laidTests := true, laidLooks := .later }
def InflateEverUptoCardSaid : Prop := Claim7.holds Tryd.pinned (.plain (OpenSpec.upto inflateEverSpec)) inflateEverUptoCard

/-- THE SECOND FORM's CARD OF 'drogherlaw13.InflateNil'. -/
def inflateNilUptoCard : Claim7 := { stood := { row := inflateNilUptoRow, standIns := [], harness := (true, "eb44fbfae7dd3d64761ccfaf52b05b8bb924690d9f1ecb6b375cb8e3ae6fe2bf"), looks := true }, kinds := [], alts := [], laidByText := true, laidKinds := [.data], laidTests := true, laidLooks := .later }
def InflateNilUptoCardSaid : Prop := Claim7.holds Tryd.pinned (.plain (OpenSpec.upto inflateNilSpec)) inflateNilUptoCard

/-- THE SECOND FORM's CARD OF 'drogherlaw26.ChunkPacks'. -/
def chunkPacksUptoCard : Claim7 := { stood := { row := chunkPacksUptoRow, standIns := [], harness := (true, "eb44fbfae7dd3d64761ccfaf52b05b8bb924690d9f1ecb6b375cb8e3ae6fe2bf"), looks := true }, kinds := [], alts := [], laidByText := true, laidKinds := [.data, .data, .data], laidTests := true, laidLooks := .later }
def ChunkPacksUptoCardSaid : Prop := Claim7.holds Tryd.pinned (.plain (OpenSpec.upto chunkPacksSpec)) chunkPacksUptoCard
end Rows
end Go.Proofs.YthmkeflkhocobaaDoor
