/-
  DERIVED. GIVEN WITH THE SEED: THE CARDS: each row of YtllpnpeppdfjlaaGreatDoorRows.lean that lists a variable, with what it lists TIED to the program's text (the seventh form; the later family's looks); each row that meets fmt, with fmt's text TOLD by the authors' own Lean function (tested against real Go, not proved from fmt's source: count such statements apart). THE CARD IS WHAT COUNTS. Prove the row's statement (the work); the ties are given (YtllpnpeppdfjlaaGreatDoorTie.lean); close each card by the builder's one call (the guide's Derived/Test/ToyasCard.lean, 'card_holds'). Laid BY PROGRAM, IN A SANDBOX (cutbox-door.mjs). By AI agents, Wed Nov 11 2026. No macro, syntax, notation, axiom, sorry.
-/
import Derived.Test.YtllpnpeppdfjlaaGreatDoorRows
import GoSem.ClaimSeven
namespace Go.Proofs.YtllpnpeppdfjlaaGreatDoor
namespace Rows

/-- THE TIED CARD OF 'isthmuslaw09.KvSafe'. -/
def kvSafeCard : Claim7 := { stood := { row := kvSafeRow, standIns := [], harness := (true, "2a3b648888a412467beedde4ce1eeb51457c9e2c0068055816286cc54fe931d1"), looks := true }, kinds := [], alts := [], laidByText := true, laidKinds := [.data], laidTests := true, laidLooks := .later }
def KvSafeCardSaid : Prop := Claim7.holds Tryz.pinned (.plain (OpenSpec.ofChange kvSafeSpec)) kvSafeCard

/-- THE TIED CARD OF 'isthmuslaw09.KvCompacts'. -/
def kvCompactsCard : Claim7 := { stood := { row := kvCompactsRow, standIns := [], harness := (true, "2a3b648888a412467beedde4ce1eeb51457c9e2c0068055816286cc54fe931d1"), looks := true }, kinds := [], alts := [], laidByText := true, laidKinds := [.data], laidTests := true, laidLooks := .later }
def KvCompactsCardSaid : Prop := Claim7.holds Tryz.pinned (.plain (OpenSpec.ofChange kvCompactsSpec)) kvCompactsCard

/-- THE TIED CARD OF 'isthmuslaw09.KvFolds'. -/
def kvFoldsCard : Claim7 := { stood := { row := kvFoldsRow, standIns := [], harness := (true, "2a3b648888a412467beedde4ce1eeb51457c9e2c0068055816286cc54fe931d1"), looks := true }, kinds := [], alts := [], laidByText := true, laidKinds := [.data], laidTests := true, laidLooks := .later }
def KvFoldsCardSaid : Prop := Claim7.holds Tryz.pinned (.plain (OpenSpec.ofChange kvFoldsSpec)) kvFoldsCard

/-- THE TIED CARD OF 'isthmuslaw15.TxsBytes'. -/
def txsBytesCard : Claim7 := { stood := { row := txsBytesRow, standIns := [], harness := (true, "2a3b648888a412467beedde4ce1eeb51457c9e2c0068055816286cc54fe931d1"), looks := true }, kinds := [], alts := [], laidByText := true, laidKinds := [.data, .handle, .data, .pinned], laidTests := true, laidLooks := .later }
def TxsBytesCardSaid : Prop := Claim7.holds Tryz.pinned (.plain (OpenSpec.ofChange txsBytesSpec)) txsBytesCard

/-- THE TIED CARD OF 'isthmuslaw15.TxsReads'. -/
def txsReadsCard : Claim7 := { stood := { row := txsReadsRow, standIns := [], harness := (true, "2a3b648888a412467beedde4ce1eeb51457c9e2c0068055816286cc54fe931d1"), looks := true }, kinds := [], alts := [], laidByText := true, laidKinds := [.data, .handle, .data, .data, .data, .pinned], laidTests := true, laidLooks := .later }
def TxsReadsCardSaid : Prop := Claim7.holds Tryz.pinned (.plain (OpenSpec.ofChange txsReadsSpec)) txsReadsCard

/-- THE TIED CARD OF 'isthmuslaw15.TxsVerify'. -/
def txsVerifyCard : Claim7 := { stood := { row := txsVerifyRow, standIns := [], harness := (true, "2a3b648888a412467beedde4ce1eeb51457c9e2c0068055816286cc54fe931d1"), looks := true }, kinds := [], alts := [], laidByText := true, laidKinds := [.data, .handle, .data, .data, .data, .pinned], laidTests := true, laidLooks := .later }
def TxsVerifyCardSaid : Prop := Claim7.holds Tryz.pinned (.plain (OpenSpec.ofChange txsVerifySpec)) txsVerifyCard

/-- THE TIED CARD OF 'isthmuslaw15.TxsShapes'. -/
def txsShapesCard : Claim7 := { stood := { row := txsShapesRow, standIns := [], harness := (true, "2a3b648888a412467beedde4ce1eeb51457c9e2c0068055816286cc54fe931d1"), looks := true }, kinds := [], alts := [], laidByText := true, laidKinds := [.data, .handle, .data, .pinned], laidTests := true, laidLooks := .later }
def TxsShapesCardSaid : Prop := Claim7.holds Tryz.pinned (.plain (OpenSpec.ofChange txsShapesSpec)) txsShapesCard

/-- THE SECOND FORM's CARD OF 'isthmuslaw09.KvSafe'. -/
def kvSafeUptoCard : Claim7 := { stood := { row := kvSafeUptoRow, standIns := [], harness := (true, "2a3b648888a412467beedde4ce1eeb51457c9e2c0068055816286cc54fe931d1"), looks := true }, kinds := [], alts := [], laidByText := true, laidKinds := [.data], laidTests := true, laidLooks := .later }
def KvSafeUptoCardSaid : Prop := Claim7.holds Tryz.pinned (.plain (OpenSpec.upto kvSafeSpec)) kvSafeUptoCard

/-- THE SECOND FORM's CARD OF 'isthmuslaw09.KvCompacts'. -/
def kvCompactsUptoCard : Claim7 := { stood := { row := kvCompactsUptoRow, standIns := [], harness := (true, "2a3b648888a412467beedde4ce1eeb51457c9e2c0068055816286cc54fe931d1"), looks := true }, kinds := [], alts := [], laidByText := true, laidKinds := [.data], laidTests := true, laidLooks := .later }
def KvCompactsUptoCardSaid : Prop := Claim7.holds Tryz.pinned (.plain (OpenSpec.upto kvCompactsSpec)) kvCompactsUptoCard

/-- THE SECOND FORM's CARD OF 'isthmuslaw09.KvFolds'. -/
def kvFoldsUptoCard : Claim7 := { stood := { row := kvFoldsUptoRow, standIns := [], harness := (true, "2a3b648888a412467beedde4ce1eeb51457c9e2c0068055816286cc54fe931d1"), looks := true }, kinds := [], alts := [], laidByText := true, laidKinds := [.data], laidTests := true, laidLooks := .later }
def KvFoldsUptoCardSaid : Prop := Claim7.holds Tryz.pinned (.plain (OpenSpec.upto kvFoldsSpec)) kvFoldsUptoCard

/-- THE SECOND FORM's CARD OF 'isthmuslaw15.TxsBytes'. -/
def txsBytesUptoCard : Claim7 := { stood := { row := txsBytesUptoRow, standIns := [], harness := (true, "2a3b648888a412467beedde4ce1eeb51457c9e2c0068055816286cc54fe931d1"), looks := true }, kinds := [], alts := [], laidByText := true, laidKinds := [.data, .handle, .data, .pinned], laidTests := true, laidLooks := .later }
def TxsBytesUptoCardSaid : Prop := Claim7.holds Tryz.pinned (.plain (OpenSpec.upto txsBytesSpec)) txsBytesUptoCard

/-- THE SECOND FORM's CARD OF 'isthmuslaw15.TxsReads'. -/
def txsReadsUptoCard : Claim7 := { stood := { row := txsReadsUptoRow, standIns := [], harness := (true, "2a3b648888a412467beedde4ce1eeb51457c9e2c0068055816286cc54fe931d1"), looks := true }, kinds := [], alts := [], laidByText := true, laidKinds := [.data, .handle, .data, .data, .data, .pinned], laidTests := true, laidLooks := .later }
def TxsReadsUptoCardSaid : Prop := Claim7.holds Tryz.pinned (.plain (OpenSpec.upto txsReadsSpec)) txsReadsUptoCard

/-- THE SECOND FORM's CARD OF 'isthmuslaw15.TxsVerify'. -/
def txsVerifyUptoCard : Claim7 := { stood := { row := txsVerifyUptoRow, standIns := [], harness := (true, "2a3b648888a412467beedde4ce1eeb51457c9e2c0068055816286cc54fe931d1"), looks := true }, kinds := [], alts := [], laidByText := true, laidKinds := [.data, .handle, .data, .data, .data, .pinned], laidTests := true, laidLooks := .later }
def TxsVerifyUptoCardSaid : Prop := Claim7.holds Tryz.pinned (.plain (OpenSpec.upto txsVerifySpec)) txsVerifyUptoCard

/-- THE SECOND FORM's CARD OF 'isthmuslaw15.TxsShapes'. -/
def txsShapesUptoCard : Claim7 := { stood := { row := txsShapesUptoRow, standIns := [], harness := (true, "2a3b648888a412467beedde4ce1eeb51457c9e2c0068055816286cc54fe931d1"), looks := true }, kinds := [], alts := [], laidByText := true, laidKinds := [.data, .handle, .data, .pinned], laidTests := true, laidLooks := .later }
def TxsShapesUptoCardSaid : Prop := Claim7.holds Tryz.pinned (.plain (OpenSpec.upto txsShapesSpec)) txsShapesUptoCard
end Rows
end Go.Proofs.YtllpnpeppdfjlaaGreatDoor
