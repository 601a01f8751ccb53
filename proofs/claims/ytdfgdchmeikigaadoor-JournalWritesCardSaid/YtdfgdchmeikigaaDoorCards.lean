/-
  DERIVED. GIVEN WITH THE SEED: THE CARDS: each row of YtdfgdchmeikigaaDoorRows.lean that lists a variable, with what it lists TIED to the program's text (the seventh form; the later family's looks); each row that meets fmt, with fmt's text TOLD by the authors' own Lean function (tested against real Go, not proved from fmt's source: count such statements apart). THE CARD IS WHAT COUNTS. Prove the row's statement (the work); the ties are given (YtdfgdchmeikigaaDoorTie.lean); close each card by the builder's one call (the guide's Derived/Test/ToyasCard.lean, 'card_holds'). Laid BY PROGRAM, IN A SANDBOX (cutbox-door.mjs). By AI agents, Wed Nov 11 2026. No macro, syntax, notation, axiom, sorry.
-/
import Derived.Test.YtdfgdchmeikigaaDoorRows
import GoSem.ClaimSeven
namespace Go.Proofs.YtdfgdchmeikigaaDoor
namespace Rows

/-- THE TIED CARD OF 'drogherlaw03.OtsKeys'. -/
def otsKeysCard : Claim7 := { stood := { row := otsKeysRow, standIns := [], harness := (true, "f0f6a3b5931b53b981471870725dc8dfaf1afc45098f0e28785a6ee3a9c0a292"), looks := false }, kinds := [], alts := [], laidByText := true, laidKinds := [.data], laidTests := true, laidLooks := .later }
def OtsKeysCardSaid : Prop := Claim7.holds Tryd.pinned (.plain (OpenSpec.ofChange otsKeysSpec)) otsKeysCard

/-- THE TIED CARD OF 'drogherlaw03.OtsSigns'. -/
def otsSignsCard : Claim7 := { stood := { row := otsSignsRow, standIns := [], harness := (true, "f0f6a3b5931b53b981471870725dc8dfaf1afc45098f0e28785a6ee3a9c0a292"), looks := false }, kinds := [], alts := [], laidByText := true, laidKinds := [.data], laidTests := true, laidLooks := .later }
def OtsSignsCardSaid : Prop := Claim7.holds Tryd.pinned (.plain (OpenSpec.ofChange otsSignsSpec)) otsSignsCard

/-- THE TIED CARD OF 'drogherlaw03.OtsReads'. -/
def otsReadsCard : Claim7 := { stood := { row := otsReadsRow, standIns := [], harness := (true, "f0f6a3b5931b53b981471870725dc8dfaf1afc45098f0e28785a6ee3a9c0a292"), looks := false }, kinds := [], alts := [], laidByText := true, laidKinds := [.data], laidTests := true, laidLooks := .later }
def OtsReadsCardSaid : Prop := Claim7.holds Tryd.pinned (.plain (OpenSpec.ofChange otsReadsSpec)) otsReadsCard

/-- THE TIED CARD OF 'drogherlaw03.OtsSpoilt'. -/
def otsSpoiltCard : Claim7 := { stood := { row := otsSpoiltRow, standIns := [], harness := (true, "f0f6a3b5931b53b981471870725dc8dfaf1afc45098f0e28785a6ee3a9c0a292"), looks := false }, kinds := [], alts := [], laidByText := true, laidKinds := [.data], laidTests := true, laidLooks := .later }
def OtsSpoiltCardSaid : Prop := Claim7.holds Tryd.pinned (.plain (OpenSpec.ofChange otsSpoiltSpec)) otsSpoiltCard

/-- THE TIED CARD OF 'drogherlaw21.MerkleRoots'. -/
def merkleRootsCard : Claim7 := { stood := { row := merkleRootsRow, standIns := [], harness := (true, "f0f6a3b5931b53b981471870725dc8dfaf1afc45098f0e28785a6ee3a9c0a292"), looks := false }, kinds := [], alts := [], laidByText := true, laidKinds := [.data], laidTests := true, laidLooks := .later }
def MerkleRootsCardSaid : Prop := Claim7.holds Tryd.pinned (.plain (OpenSpec.ofChange merkleRootsSpec)) merkleRootsCard

/-- THE TIED CARD OF 'drogherlaw21.MerkleWays'. -/
def merkleWaysCard : Claim7 := { stood := { row := merkleWaysRow, standIns := [], harness := (true, "f0f6a3b5931b53b981471870725dc8dfaf1afc45098f0e28785a6ee3a9c0a292"), looks := false }, kinds := [], alts := [], laidByText := true, laidKinds := [.data], laidTests := true, laidLooks := .later }
def MerkleWaysCardSaid : Prop := Claim7.holds Tryd.pinned (.plain (OpenSpec.ofChange merkleWaysSpec)) merkleWaysCard

/-- THE TIED CARD OF 'drogherlaw21.MerkleLeads'. -/
def merkleLeadsCard : Claim7 := { stood := { row := merkleLeadsRow, standIns := [], harness := (true, "f0f6a3b5931b53b981471870725dc8dfaf1afc45098f0e28785a6ee3a9c0a292"), looks := false }, kinds := [], alts := [], laidByText := true, laidKinds := [.data], laidTests := true, laidLooks := .later }
def MerkleLeadsCardSaid : Prop := Claim7.holds Tryd.pinned (.plain (OpenSpec.ofChange merkleLeadsSpec)) merkleLeadsCard

/-- THE TIED CARD OF 'drogherlaw21.MerkleBinds'. -/
def merkleBindsCard : Claim7 := { stood := { row := merkleBindsRow, standIns := [], harness := (true, "f0f6a3b5931b53b981471870725dc8dfaf1afc45098f0e28785a6ee3a9c0a292"), looks := false }, kinds := [], alts := [], laidByText := true, laidKinds := [.data], laidTests := true, laidLooks := .later }
def MerkleBindsCardSaid : Prop := Claim7.holds Tryd.pinned (.plain (OpenSpec.ofChange merkleBindsSpec)) merkleBindsCard

/-- THE TIED CARD OF 'drogherlaw24.JournalWrites'. -/
def journalWritesCard : Claim7 := { stood := { row := journalWritesRow, standIns := [], harness := (true, "f0f6a3b5931b53b981471870725dc8dfaf1afc45098f0e28785a6ee3a9c0a292"), looks := false }, kinds := [], alts := [], laidByText := true, laidKinds := [.data], laidTests := true, laidLooks := .later }
def JournalWritesCardSaid : Prop := Claim7.holds Tryd.pinned (.plain (OpenSpec.ofChange journalWritesSpec)) journalWritesCard

/-- THE TIED CARD OF 'drogherlaw24.JournalReads'. -/
def journalReadsCard : Claim7 := { stood := { row := journalReadsRow, standIns := [], harness := (true, "f0f6a3b5931b53b981471870725dc8dfaf1afc45098f0e28785a6ee3a9c0a292"), looks := false }, kinds := [], alts := [], laidByText := true, laidKinds := [.data], laidTests := true, laidLooks := .later }
def JournalReadsCardSaid : Prop := Claim7.holds Tryd.pinned (.plain (OpenSpec.ofChange journalReadsSpec)) journalReadsCard

/-- THE SECOND FORM's CARD OF 'drogherlaw03.OtsKeys'. -/
def otsKeysUptoCard : Claim7 := { stood := { row := otsKeysUptoRow, standIns := [], harness := (true, "f0f6a3b5931b53b981471870725dc8dfaf1afc45098f0e28785a6ee3a9c0a292"), looks := false }, kinds := [], alts := [], laidByText := true, laidKinds := [.data], laidTests := true, laidLooks := .later }
def OtsKeysUptoCardSaid : Prop := Claim7.holds Tryd.pinned (.plain (OpenSpec.upto otsKeysSpec)) otsKeysUptoCard

/-- THE SECOND FORM's CARD OF 'drogherlaw03.OtsSigns'. -/
def otsSignsUptoCard : Claim7 := { stood := { row := otsSignsUptoRow, standIns := [], harness := (true, "f0f6a3b5931b53b981471870725dc8dfaf1afc45098f0e28785a6ee3a9c0a292"), looks := false }, kinds := [], alts := [], laidByText := true, laidKinds := [.data], laidTests := true, laidLooks := .later }
def OtsSignsUptoCardSaid : Prop := Claim7.holds Tryd.pinned (.plain (OpenSpec.upto otsSignsSpec)) otsSignsUptoCard

/-- THE SECOND FORM's CARD OF 'drogherlaw03.OtsReads'. -/
def otsReadsUptoCard : Claim7 := { stood := { row := otsReadsUptoRow, standIns := [], harness := (true, "f0f6a3b5931b53b981471870725dc8dfaf1afc45098f0e28785a6ee3a9c0a292"), looks := false }, kinds := [], alts := [], laidByText := true, laidKinds := [.data], laidTests := true, laidLooks := .later }
def OtsReadsUptoCardSaid : Prop := Claim7.holds Tryd.pinned (.plain (OpenSpec.upto otsReadsSpec)) otsReadsUptoCard

/-- THE SECOND FORM's CARD OF 'drogherlaw03.OtsSpoilt'. -/
def otsSpoiltUptoCard : Claim7 := { stood := { row := otsSpoiltUptoRow, standIns := [], harness := (true, "f0f6a3b5931b53b981471870725dc8dfaf1afc45098f0e28785a6ee3a9c0a292"), looks := false }, kinds := [], alts := [], laidByText := true, laidKinds := [.data], laidTests := true, laidLooks := .later }
def OtsSpoiltUptoCardSaid : Prop := Claim7.holds Tryd.pinned (.plain (OpenSpec.upto otsSpoiltSpec)) otsSpoiltUptoCard

/-- THE SECOND FORM's CARD OF 'drogherlaw21.MerkleRoots'. -/
def merkleRootsUptoCard : Claim7 := { stood := { row := merkleRootsUptoRow, standIns := [], harness := (true, "f0f6a3b5931b53b981471870725dc8dfaf1afc45098f0e28785a6ee3a9c0a292"), looks := false }, kinds := [], alts := [], laidByText := true, laidKinds := [.data], laidTests := true, laidLooks := .later }
def MerkleRootsUptoCardSaid : Prop := Claim7.holds Tryd.pinned (.plain (OpenSpec.upto merkleRootsSpec)) merkleRootsUptoCard

/-- THE SECOND FORM's CARD OF 'drogherlaw21.MerkleWays'. -/
def merkleWaysUptoCard : Claim7 := { stood := { row := merkleWaysUptoRow, standIns := [], harness := (true, "f0f6a3b5931b53b981471870725dc8dfaf1afc45098f0e28785a6ee3a9c0a292"), looks := false }, kinds := [], alts := [], laidByText := true, laidKinds := [.data], laidTests := true, laidLooks := .later }
def MerkleWaysUptoCardSaid : Prop := Claim7.holds Tryd.pinned (.plain (OpenSpec.upto merkleWaysSpec)) merkleWaysUptoCard

/-- THE SECOND FORM's CARD OF 'drogherlaw21.MerkleLeads'. -/
def merkleLeadsUptoCard : Claim7 := { stood := { row := merkleLeadsUptoRow, standIns := [], harness := (true, "f0f6a3b5931b53b981471870725dc8dfaf1afc45098f0e28785a6ee3a9c0a292"), looks := false }, kinds := [], alts := [], laidByText := true, laidKinds := [.data], laidTests := true, laidLooks := .later }
def MerkleLeadsUptoCardSaid : Prop := Claim7.holds Tryd.pinned (.plain (OpenSpec.upto merkleLeadsSpec)) merkleLeadsUptoCard

/-- THE SECOND FORM's CARD OF 'drogherlaw21.MerkleBinds'. -/
def merkleBindsUptoCard : Claim7 := { stood := { row := merkleBindsUptoRow, standIns := [], harness := (true, "f0f6a3b5931b53b981471870725dc8dfaf1afc45098f0e28785a6ee3a9c0a292"), looks := false }, kinds := [], alts := [], laidByText := true, laidKinds := [.data], laidTests := true, laidLooks := .later }
def MerkleBindsUptoCardSaid : Prop := Claim7.holds Tryd.pinned (.plain (OpenSpec.upto merkleBindsSpec)) merkleBindsUptoCard

/-- THE SECOND FORM's CARD OF 'drogherlaw24.JournalWrites'. -/
def journalWritesUptoCard : Claim7 := { stood := { row := journalWritesUptoRow, standIns := [], harness := (true, "f0f6a3b5931b53b981471870725dc8dfaf1afc45098f0e28785a6ee3a9c0a292"), looks := false }, kinds := [], alts := [], laidByText := true, laidKinds := [.data], laidTests := true, laidLooks := .later }
def JournalWritesUptoCardSaid : Prop := Claim7.holds Tryd.pinned (.plain (OpenSpec.upto journalWritesSpec)) journalWritesUptoCard

/-- THE SECOND FORM's CARD OF 'drogherlaw24.JournalReads'. -/
def journalReadsUptoCard : Claim7 := { stood := { row := journalReadsUptoRow, standIns := [], harness := (true, "f0f6a3b5931b53b981471870725dc8dfaf1afc45098f0e28785a6ee3a9c0a292"), looks := false }, kinds := [], alts := [], laidByText := true, laidKinds := [.data], laidTests := true, laidLooks := .later }
def JournalReadsUptoCardSaid : Prop := Claim7.holds Tryd.pinned (.plain (OpenSpec.upto journalReadsSpec)) journalReadsUptoCard
end Rows
end Go.Proofs.YtdfgdchmeikigaaDoor
