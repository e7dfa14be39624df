/-
  DERIVED. GIVEN WITH THE SEED: THE CARDS: each row of YtejglhlodfhgkaaGreatDoorRows.lean that lists a variable, with what it lists TIED to the program's text (the seventh form; the later family's looks); each row that meets fmt, with fmt's text TOLD by the authors' own Lean function (tested against real Go, not proved from fmt's source: count such statements apart). THE CARD IS WHAT COUNTS. Prove the row's statement (the work); the ties are given (YtejglhlodfhgkaaGreatDoorTie.lean); close each card by the builder's one call (the guide's Derived/Test/ToyasCard.lean, 'card_holds'). Laid BY PROGRAM, IN A SANDBOX (cutbox-door.mjs). By AI agents, Wed Nov 11 2026. No macro, syntax, notation, axiom, sorry.
-/
import Derived.Test.YtejglhlodfhgkaaGreatDoorRows
import GoSem.ClaimSeven
namespace Go.Proofs.YtejglhlodfhgkaaGreatDoor
namespace Rows

/-- THE TIED CARD OF 'isthmuslaw15.TxsBytes'. -/
def txsBytesCard : Claim7 := { stood := { row := txsBytesRow, standIns := [], harness := (true, "c9c73f7f27c7e217d46c2ba48749ccda9dd7d0136137d287642c2bd68c938e09"), looks := true }, kinds := [], alts := [], laidByText := true, laidKinds := [.data, .handle, .data, .pinned], laidTests := true, laidLooks := .later }
def TxsBytesCardSaid : Prop := Claim7.holds Tryz.pinned (.plain (OpenSpec.ofChange txsBytesSpec)) txsBytesCard

/-- THE TIED CARD OF 'isthmuslaw15.TxsReads'. -/
def txsReadsCard : Claim7 := { stood := { row := txsReadsRow, standIns := [], harness := (true, "c9c73f7f27c7e217d46c2ba48749ccda9dd7d0136137d287642c2bd68c938e09"), looks := true }, kinds := [], alts := [], laidByText := true, laidKinds := [.data, .handle, .data, .data, .data, .pinned], laidTests := true, laidLooks := .later }
def TxsReadsCardSaid : Prop := Claim7.holds Tryz.pinned (.plain (OpenSpec.ofChange txsReadsSpec)) txsReadsCard

/-- THE TIED CARD OF 'isthmuslaw15.TxsVerify'. -/
def txsVerifyCard : Claim7 := { stood := { row := txsVerifyRow, standIns := [], harness := (true, "c9c73f7f27c7e217d46c2ba48749ccda9dd7d0136137d287642c2bd68c938e09"), looks := true }, kinds := [], alts := [], laidByText := true, laidKinds := [.data, .handle, .data, .data, .data, .pinned], laidTests := true, laidLooks := .later }
def TxsVerifyCardSaid : Prop := Claim7.holds Tryz.pinned (.plain (OpenSpec.ofChange txsVerifySpec)) txsVerifyCard

/-- THE TIED CARD OF 'isthmuslaw16.BankRuns'. -/
def bankRunsCard : Claim7 := { stood := { row := bankRunsRow, standIns := [], harness := (true, "c9c73f7f27c7e217d46c2ba48749ccda9dd7d0136137d287642c2bd68c938e09"), looks := true }, kinds := [], alts := [], laidByText := true, laidKinds := [.data, .handle, .data, .data, .pinned], laidTests := true, laidLooks := .later }
def BankRunsCardSaid : Prop := Claim7.holds Tryz.pinned (.plain (OpenSpec.ofChange bankRunsSpec)) bankRunsCard

/-- THE TIED CARD OF 'isthmuslaw16.BankKeeps'. -/
def bankKeepsCard : Claim7 := { stood := { row := bankKeepsRow, standIns := [], harness := (true, "c9c73f7f27c7e217d46c2ba48749ccda9dd7d0136137d287642c2bd68c938e09"), looks := true }, kinds := [], alts := [], laidByText := true, laidKinds := [.data, .handle, .data, .data, .pinned], laidTests := true, laidLooks := .later }
def BankKeepsCardSaid : Prop := Claim7.holds Tryz.pinned (.plain (OpenSpec.ofChange bankKeepsSpec)) bankKeepsCard

/-- THE TIED CARD OF 'isthmuslaw16.BankSelf'. -/
def bankSelfCard : Claim7 := { stood := { row := bankSelfRow, standIns := [], harness := (true, "c9c73f7f27c7e217d46c2ba48749ccda9dd7d0136137d287642c2bd68c938e09"), looks := true }, kinds := [], alts := [], laidByText := true, laidKinds := [.data, .handle, .data, .data, .pinned], laidTests := true, laidLooks := .later }
def BankSelfCardSaid : Prop := Claim7.holds Tryz.pinned (.plain (OpenSpec.ofChange bankSelfSpec)) bankSelfCard

/-- THE TIED CARD OF 'isthmuslaw16.BankNames'. -/
def bankNamesCard : Claim7 := { stood := { row := bankNamesRow, standIns := [], harness := (true, "c9c73f7f27c7e217d46c2ba48749ccda9dd7d0136137d287642c2bd68c938e09"), looks := true }, kinds := [], alts := [], laidByText := true, laidKinds := [.data, .handle, .data, .data, .pinned], laidTests := true, laidLooks := .later }
def BankNamesCardSaid : Prop := Claim7.holds Tryz.pinned (.plain (OpenSpec.ofChange bankNamesSpec)) bankNamesCard

/-- THE SECOND FORM's CARD OF 'isthmuslaw15.TxsBytes'. -/
def txsBytesUptoCard : Claim7 := { stood := { row := txsBytesUptoRow, standIns := [], harness := (true, "c9c73f7f27c7e217d46c2ba48749ccda9dd7d0136137d287642c2bd68c938e09"), looks := true }, kinds := [], alts := [], laidByText := true, laidKinds := [.data, .handle, .data, .pinned], laidTests := true, laidLooks := .later }
def TxsBytesUptoCardSaid : Prop := Claim7.holds Tryz.pinned (.plain (OpenSpec.upto txsBytesSpec)) txsBytesUptoCard

/-- THE SECOND FORM's CARD OF 'isthmuslaw15.TxsReads'. -/
def txsReadsUptoCard : Claim7 := { stood := { row := txsReadsUptoRow, standIns := [], harness := (true, "c9c73f7f27c7e217d46c2ba48749ccda9dd7d0136137d287642c2bd68c938e09"), looks := true }, kinds := [], alts := [], laidByText := true, laidKinds := [.data, .handle, .data, .data, .data, .pinned], laidTests := true, laidLooks := .later }
def TxsReadsUptoCardSaid : Prop := Claim7.holds Tryz.pinned (.plain (OpenSpec.upto txsReadsSpec)) txsReadsUptoCard

/-- THE SECOND FORM's CARD OF 'isthmuslaw15.TxsVerify'. -/
def txsVerifyUptoCard : Claim7 := { stood := { row := txsVerifyUptoRow, standIns := [], harness := (true, "c9c73f7f27c7e217d46c2ba48749ccda9dd7d0136137d287642c2bd68c938e09"), looks := true }, kinds := [], alts := [], laidByText := true, laidKinds := [.data, .handle, .data, .data, .data, .pinned], laidTests := true, laidLooks := .later }
def TxsVerifyUptoCardSaid : Prop := Claim7.holds Tryz.pinned (.plain (OpenSpec.upto txsVerifySpec)) txsVerifyUptoCard

/-- THE SECOND FORM's CARD OF 'isthmuslaw16.BankRuns'. -/
def bankRunsUptoCard : Claim7 := { stood := { row := bankRunsUptoRow, standIns := [], harness := (true, "c9c73f7f27c7e217d46c2ba48749ccda9dd7d0136137d287642c2bd68c938e09"), looks := true }, kinds := [], alts := [], laidByText := true, laidKinds := [.data, .handle, .data, .data, .pinned], laidTests := true, laidLooks := .later }
def BankRunsUptoCardSaid : Prop := Claim7.holds Tryz.pinned (.plain (OpenSpec.upto bankRunsSpec)) bankRunsUptoCard

/-- THE SECOND FORM's CARD OF 'isthmuslaw16.BankKeeps'. -/
def bankKeepsUptoCard : Claim7 := { stood := { row := bankKeepsUptoRow, standIns := [], harness := (true, "c9c73f7f27c7e217d46c2ba48749ccda9dd7d0136137d287642c2bd68c938e09"), looks := true }, kinds := [], alts := [], laidByText := true, laidKinds := [.data, .handle, .data, .data, .pinned], laidTests := true, laidLooks := .later }
def BankKeepsUptoCardSaid : Prop := Claim7.holds Tryz.pinned (.plain (OpenSpec.upto bankKeepsSpec)) bankKeepsUptoCard

/-- THE SECOND FORM's CARD OF 'isthmuslaw16.BankSelf'. -/
def bankSelfUptoCard : Claim7 := { stood := { row := bankSelfUptoRow, standIns := [], harness := (true, "c9c73f7f27c7e217d46c2ba48749ccda9dd7d0136137d287642c2bd68c938e09"), looks := true }, kinds := [], alts := [], laidByText := true, laidKinds := [.data, .handle, .data, .data, .pinned], laidTests := true, laidLooks := .later }
def BankSelfUptoCardSaid : Prop := Claim7.holds Tryz.pinned (.plain (OpenSpec.upto bankSelfSpec)) bankSelfUptoCard

/-- THE SECOND FORM's CARD OF 'isthmuslaw16.BankNames'. -/
def bankNamesUptoCard : Claim7 := { stood := { row := bankNamesUptoRow, standIns := [], harness := (true, "c9c73f7f27c7e217d46c2ba48749ccda9dd7d0136137d287642c2bd68c938e09"), looks := true }, kinds := [], alts := [], laidByText := true, laidKinds := [.data, .handle, .data, .data, .pinned], laidTests := true, laidLooks := .later }
def BankNamesUptoCardSaid : Prop := Claim7.holds Tryz.pinned (.plain (OpenSpec.upto bankNamesSpec)) bankNamesUptoCard
end Rows
end Go.Proofs.YtejglhlodfhgkaaGreatDoor
