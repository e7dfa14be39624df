/-
  DERIVED. GIVEN WITH THE SEED: THE CARDS: each row of YteokgklfljhcaaaGreatDoorRows.lean that lists a variable, with what it lists TIED to the program's text (the seventh form; the later family's looks); each row that meets fmt, with fmt's text TOLD by the authors' own Lean function (tested against real Go, not proved from fmt's source: count such statements apart). THE CARD IS WHAT COUNTS. Prove the row's statement (the work); the ties are given (YteokgklfljhcaaaGreatDoorTie.lean); close each card by the builder's one call (the guide's Derived/Test/ToyasCard.lean, 'card_holds'). Laid BY PROGRAM, IN A SANDBOX (cutbox-door.mjs). By AI agents, Wed Nov 11 2026. No macro, syntax, notation, axiom, sorry.
-/
import Derived.Test.YteokgklfljhcaaaGreatDoorRows
import GoSem.ClaimSeven
namespace Go.Proofs.YteokgklfljhcaaaGreatDoor
namespace Rows

/-- THE TIED CARD OF 'isthmuslaw11.TypesBlocks'. -/
def typesBlocksCard : Claim7 := { stood := { row := typesBlocksRow, standIns := [], harness := (true, "bc9ae2edb171ff8eea5dbcf30968ab34d06bc5ff1347ae429d1cedf4d8f10d14"), looks := true }, kinds := [], alts := [], laidByText := true, laidKinds := [.handle, .data, .data], laidTests := true, laidLooks := .later }
def TypesBlocksCardSaid : Prop := Claim7.holds Tryz.pinned (.plain (OpenSpec.ofChange typesBlocksSpec)) typesBlocksCard

/-- THE TIED CARD OF 'isthmuslaw11.TypesSets'. -/
def typesSetsCard : Claim7 := { stood := { row := typesSetsRow, standIns := [], harness := (true, "bc9ae2edb171ff8eea5dbcf30968ab34d06bc5ff1347ae429d1cedf4d8f10d14"), looks := true }, kinds := [], alts := [], laidByText := true, laidKinds := [.handle, .data, .data], laidTests := true, laidLooks := .later }
def TypesSetsCardSaid : Prop := Claim7.holds Tryz.pinned (.plain (OpenSpec.ofChange typesSetsSpec)) typesSetsCard

/-- THE TIED CARD OF 'isthmuslaw14.CoinTraces'. -/
def coinTracesCard : Claim7 := { stood := { row := coinTracesRow, standIns := [], harness := (true, "bc9ae2edb171ff8eea5dbcf30968ab34d06bc5ff1347ae429d1cedf4d8f10d14"), looks := true }, kinds := [], alts := [], laidByText := true, laidKinds := [.data, .handle, .data, .data, .pinned], laidTests := true, laidLooks := .later }
def CoinTracesCardSaid : Prop := Claim7.holds Tryz.pinned (.plain (OpenSpec.ofChange coinTracesSpec)) coinTracesCard

/-- THE SECOND FORM's CARD OF 'isthmuslaw11.TypesBlocks'. -/
def typesBlocksUptoCard : Claim7 := { stood := { row := typesBlocksUptoRow, standIns := [], harness := (true, "bc9ae2edb171ff8eea5dbcf30968ab34d06bc5ff1347ae429d1cedf4d8f10d14"), looks := true }, kinds := [], alts := [], laidByText := true, laidKinds := [.handle, .data, .data], laidTests := true, laidLooks := .later }
def TypesBlocksUptoCardSaid : Prop := Claim7.holds Tryz.pinned (.plain (OpenSpec.upto typesBlocksSpec)) typesBlocksUptoCard

/-- THE SECOND FORM's CARD OF 'isthmuslaw11.TypesSets'. -/
def typesSetsUptoCard : Claim7 := { stood := { row := typesSetsUptoRow, standIns := [], harness := (true, "bc9ae2edb171ff8eea5dbcf30968ab34d06bc5ff1347ae429d1cedf4d8f10d14"), looks := true }, kinds := [], alts := [], laidByText := true, laidKinds := [.handle, .data, .data], laidTests := true, laidLooks := .later }
def TypesSetsUptoCardSaid : Prop := Claim7.holds Tryz.pinned (.plain (OpenSpec.upto typesSetsSpec)) typesSetsUptoCard

/-- THE SECOND FORM's CARD OF 'isthmuslaw14.CoinTraces'. -/
def coinTracesUptoCard : Claim7 := { stood := { row := coinTracesUptoRow, standIns := [], harness := (true, "bc9ae2edb171ff8eea5dbcf30968ab34d06bc5ff1347ae429d1cedf4d8f10d14"), looks := true }, kinds := [], alts := [], laidByText := true, laidKinds := [.data, .handle, .data, .data, .pinned], laidTests := true, laidLooks := .later }
def CoinTracesUptoCardSaid : Prop := Claim7.holds Tryz.pinned (.plain (OpenSpec.upto coinTracesSpec)) coinTracesUptoCard
end Rows
end Go.Proofs.YteokgklfljhcaaaGreatDoor
