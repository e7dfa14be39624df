/-
  DERIVED. GIVEN WITH THE SEED: THE CARDS: each row of YtabflppnecemkaaGreatDoorRows.lean that lists a variable, with what it lists TIED to the program's text (the seventh form; the later family's looks); each row that meets fmt, with fmt's text TOLD by the authors' own Lean function (tested against real Go, not proved from fmt's source: count such statements apart). THE CARD IS WHAT COUNTS. Prove the row's statement (the work); the ties are given (YtabflppnecemkaaGreatDoorTie.lean); close each card by the builder's one call (the guide's Derived/Test/ToyasCard.lean, 'card_holds'). Laid BY PROGRAM, IN A SANDBOX (cutbox-door.mjs). By AI agents, Wed Nov 11 2026. No macro, syntax, notation, axiom, sorry.
-/
import Derived.Test.YtabflppnecemkaaGreatDoorRows
import GoSem.ClaimSeven
namespace Go.Proofs.YtabflppnecemkaaGreatDoor
namespace Rows

/-- THE TIED CARD OF 'isthmuslaw08.ProofBytes'. -/
def proofBytesCard : Claim7 := { stood := { row := proofBytesRow, standIns := [], harness := (true, "1a8afd7e25ac7607a0bec185ca3fc57b5db453ffed5ca8285ee18cb303d2e6c7"), looks := true }, kinds := [], alts := [], laidByText := true, laidKinds := [.handle, .data, .data], laidTests := true, laidLooks := .later }
def ProofBytesCardSaid : Prop := Claim7.holds Tryz.pinned (.plain (OpenSpec.ofChange proofBytesSpec)) proofBytesCard

/-- THE SECOND FORM's CARD OF 'isthmuslaw08.ProofBytes'. -/
def proofBytesUptoCard : Claim7 := { stood := { row := proofBytesUptoRow, standIns := [], harness := (true, "1a8afd7e25ac7607a0bec185ca3fc57b5db453ffed5ca8285ee18cb303d2e6c7"), looks := true }, kinds := [], alts := [], laidByText := true, laidKinds := [.handle, .data, .data], laidTests := true, laidLooks := .later }
def ProofBytesUptoCardSaid : Prop := Claim7.holds Tryz.pinned (.plain (OpenSpec.upto proofBytesSpec)) proofBytesUptoCard
end Rows
end Go.Proofs.YtabflppnecemkaaGreatDoor
