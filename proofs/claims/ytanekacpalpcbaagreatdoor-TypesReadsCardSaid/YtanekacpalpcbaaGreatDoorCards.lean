/-
  DERIVED. GIVEN WITH THE SEED: THE CARDS: each row of YtanekacpalpcbaaGreatDoorRows.lean that lists a variable, with what it lists TIED to the program's text (the seventh form; the later family's looks); each row that meets fmt, with fmt's text TOLD by the authors' own Lean function (tested against real Go, not proved from fmt's source: count such statements apart). THE CARD IS WHAT COUNTS. Prove the row's statement (the work); the ties are given (YtanekacpalpcbaaGreatDoorTie.lean); close each card by the builder's one call (the guide's Derived/Test/ToyasCard.lean, 'card_holds'). Laid BY PROGRAM, IN A SANDBOX (cutbox-door.mjs). By AI agents, Wed Nov 11 2026. No macro, syntax, notation, axiom, sorry.
-/
import Derived.Test.YtanekacpalpcbaaGreatDoorRows
import GoSem.ClaimSeven
namespace Go.Proofs.YtanekacpalpcbaaGreatDoor
namespace Rows

/-- THE TIED CARD OF 'isthmuslaw09.KvSafe'. -/
def kvSafeCard : Claim7 := { stood := { row := kvSafeRow, standIns := [], harness := (true, "bb4ba37358652cd781d461e39e7cff47947fbc7e49627f3e75242081ddbe97ed"), looks := true }, kinds := [], alts := [], laidByText := true, laidKinds := [.data], laidTests := true, laidLooks := .later }
def KvSafeCardSaid : Prop := Claim7.holds Tryz.pinned (.plain (OpenSpec.ofChange kvSafeSpec)) kvSafeCard

/-- THE TIED CARD OF 'isthmuslaw09.KvCompacts'. -/
def kvCompactsCard : Claim7 := { stood := { row := kvCompactsRow, standIns := [], harness := (true, "bb4ba37358652cd781d461e39e7cff47947fbc7e49627f3e75242081ddbe97ed"), looks := true }, kinds := [], alts := [], laidByText := true, laidKinds := [.data], laidTests := true, laidLooks := .later }
def KvCompactsCardSaid : Prop := Claim7.holds Tryz.pinned (.plain (OpenSpec.ofChange kvCompactsSpec)) kvCompactsCard

/-- THE TIED CARD OF 'isthmuslaw09.KvFolds'. -/
def kvFoldsCard : Claim7 := { stood := { row := kvFoldsRow, standIns := [], harness := (true, "bb4ba37358652cd781d461e39e7cff47947fbc7e49627f3e75242081ddbe97ed"), looks := true }, kinds := [], alts := [], laidByText := true, laidKinds := [.data], laidTests := true, laidLooks := .later }
def KvFoldsCardSaid : Prop := Claim7.holds Tryz.pinned (.plain (OpenSpec.ofChange kvFoldsSpec)) kvFoldsCard

/-- THE TIED CARD OF 'isthmuslaw11.TypesSets'. -/
def typesSetsCard : Claim7 := { stood := { row := typesSetsRow, standIns := [], harness := (true, "bb4ba37358652cd781d461e39e7cff47947fbc7e49627f3e75242081ddbe97ed"), looks := true }, kinds := [], alts := [], laidByText := true, laidKinds := [.handle, .data, .data], laidTests := true, laidLooks := .later }
def TypesSetsCardSaid : Prop := Claim7.holds Tryz.pinned (.plain (OpenSpec.ofChange typesSetsSpec)) typesSetsCard

/-- THE TIED CARD OF 'isthmuslaw11.TypesBlocks'. -/
def typesBlocksCard : Claim7 := { stood := { row := typesBlocksRow, standIns := [], harness := (true, "bb4ba37358652cd781d461e39e7cff47947fbc7e49627f3e75242081ddbe97ed"), looks := true }, kinds := [], alts := [], laidByText := true, laidKinds := [.handle, .data, .data], laidTests := true, laidLooks := .later }
def TypesBlocksCardSaid : Prop := Claim7.holds Tryz.pinned (.plain (OpenSpec.ofChange typesBlocksSpec)) typesBlocksCard

/-- THE TIED CARD OF 'isthmuslaw11.TypesReads'. -/
def typesReadsCard : Claim7 := { stood := { row := typesReadsRow, standIns := [], harness := (true, "bb4ba37358652cd781d461e39e7cff47947fbc7e49627f3e75242081ddbe97ed"), looks := true }, kinds := [], alts := [], laidByText := true, laidKinds := [.handle], laidTests := true, laidLooks := .later }
def TypesReadsCardSaid : Prop := Claim7.holds Tryz.pinned (.plain (OpenSpec.ofChange typesReadsSpec)) typesReadsCard

/-- THE SECOND FORM's CARD OF 'isthmuslaw09.KvSafe'. -/
def kvSafeUptoCard : Claim7 := { stood := { row := kvSafeUptoRow, standIns := [], harness := (true, "bb4ba37358652cd781d461e39e7cff47947fbc7e49627f3e75242081ddbe97ed"), looks := true }, kinds := [], alts := [], laidByText := true, laidKinds := [.data], laidTests := true, laidLooks := .later }
def KvSafeUptoCardSaid : Prop := Claim7.holds Tryz.pinned (.plain (OpenSpec.upto kvSafeSpec)) kvSafeUptoCard

/-- THE SECOND FORM's CARD OF 'isthmuslaw09.KvCompacts'. -/
def kvCompactsUptoCard : Claim7 := { stood := { row := kvCompactsUptoRow, standIns := [], harness := (true, "bb4ba37358652cd781d461e39e7cff47947fbc7e49627f3e75242081ddbe97ed"), looks := true }, kinds := [], alts := [], laidByText := true, laidKinds := [.data], laidTests := true, laidLooks := .later }
def KvCompactsUptoCardSaid : Prop := Claim7.holds Tryz.pinned (.plain (OpenSpec.upto kvCompactsSpec)) kvCompactsUptoCard

/-- THE SECOND FORM's CARD OF 'isthmuslaw09.KvFolds'. -/
def kvFoldsUptoCard : Claim7 := { stood := { row := kvFoldsUptoRow, standIns := [], harness := (true, "bb4ba37358652cd781d461e39e7cff47947fbc7e49627f3e75242081ddbe97ed"), looks := true }, kinds := [], alts := [], laidByText := true, laidKinds := [.data], laidTests := true, laidLooks := .later }
def KvFoldsUptoCardSaid : Prop := Claim7.holds Tryz.pinned (.plain (OpenSpec.upto kvFoldsSpec)) kvFoldsUptoCard

/-- THE SECOND FORM's CARD OF 'isthmuslaw11.TypesSets'. -/
def typesSetsUptoCard : Claim7 := { stood := { row := typesSetsUptoRow, standIns := [], harness := (true, "bb4ba37358652cd781d461e39e7cff47947fbc7e49627f3e75242081ddbe97ed"), looks := true }, kinds := [], alts := [], laidByText := true, laidKinds := [.handle, .data, .data], laidTests := true, laidLooks := .later }
def TypesSetsUptoCardSaid : Prop := Claim7.holds Tryz.pinned (.plain (OpenSpec.upto typesSetsSpec)) typesSetsUptoCard

/-- THE SECOND FORM's CARD OF 'isthmuslaw11.TypesBlocks'. -/
def typesBlocksUptoCard : Claim7 := { stood := { row := typesBlocksUptoRow, standIns := [], harness := (true, "bb4ba37358652cd781d461e39e7cff47947fbc7e49627f3e75242081ddbe97ed"), looks := true }, kinds := [], alts := [], laidByText := true, laidKinds := [.handle, .data, .data], laidTests := true, laidLooks := .later }
def TypesBlocksUptoCardSaid : Prop := Claim7.holds Tryz.pinned (.plain (OpenSpec.upto typesBlocksSpec)) typesBlocksUptoCard

/-- THE SECOND FORM's CARD OF 'isthmuslaw11.TypesReads'. -/
def typesReadsUptoCard : Claim7 := { stood := { row := typesReadsUptoRow, standIns := [], harness := (true, "bb4ba37358652cd781d461e39e7cff47947fbc7e49627f3e75242081ddbe97ed"), looks := true }, kinds := [], alts := [], laidByText := true, laidKinds := [.handle], laidTests := true, laidLooks := .later }
def TypesReadsUptoCardSaid : Prop := Claim7.holds Tryz.pinned (.plain (OpenSpec.upto typesReadsSpec)) typesReadsUptoCard
end Rows
end Go.Proofs.YtanekacpalpcbaaGreatDoor
