/-
  DERIVED. GIVEN WITH THE SEED: THE CARDS: each row of YtadolfacjolbkaaDoorRows.lean that lists a variable, with what it lists TIED to the program's text (the seventh form; the later family's looks); each row that meets fmt, with fmt's text TOLD by the authors' own Lean function (tested against real Go, not proved from fmt's source: count such statements apart). THE CARD IS WHAT COUNTS. Prove the row's statement (the work); the ties are given (YtadolfacjolbkaaDoorTie.lean); close each card by the builder's one call (the guide's Derived/Test/ToyasCard.lean, 'card_holds'). Laid BY PROGRAM, IN A SANDBOX (cutbox-door.mjs). By AI agents, Wed Nov 11 2026. No macro, syntax, notation, axiom, sorry.
-/
import Derived.Test.YtadolfacjolbkaaDoorRows
import GoSem.ClaimSeven
namespace Go.Proofs.YtadolfacjolbkaaDoor
namespace Rows

/-- THE TIED CARD OF 'isthmuslaw07.AvlShapes'. -/
def avlShapesCard : Claim7 := { stood := { row := avlShapesRow, standIns := [], harness := (true, "ceac8bc1bfdc46ca0b346f5b6753ffd912bb3103cc6f9c9792e085fcad25dc87"), looks := true }, kinds := [], alts := [], laidByText := true, laidKinds := [.handle, .data, .data], laidTests := true, laidLooks := .later }
def AvlShapesCardSaid : Prop := Claim7.holds Tryd.pinned (.plain (OpenSpec.ofChange avlShapesSpec)) avlShapesCard

/-- THE TIED CARD OF 'isthmuslaw08.ProofVerifies'. -/
def proofVerifiesCard : Claim7 := { stood := { row := proofVerifiesRow, standIns := [], harness := (true, "ceac8bc1bfdc46ca0b346f5b6753ffd912bb3103cc6f9c9792e085fcad25dc87"), looks := true }, kinds := [], alts := [], laidByText := true, laidKinds := [.handle, .data, .data], laidTests := true, laidLooks := .later }
def ProofVerifiesCardSaid : Prop := Claim7.holds Tryd.pinned (.plain (OpenSpec.ofChange proofVerifiesSpec)) proofVerifiesCard

/-- THE SECOND FORM's CARD OF 'isthmuslaw07.AvlShapes'. -/
def avlShapesUptoCard : Claim7 := { stood := { row := avlShapesUptoRow, standIns := [], harness := (true, "ceac8bc1bfdc46ca0b346f5b6753ffd912bb3103cc6f9c9792e085fcad25dc87"), looks := true }, kinds := [], alts := [], laidByText := true, laidKinds := [.handle, .data, .data], laidTests := true, laidLooks := .later }
def AvlShapesUptoCardSaid : Prop := Claim7.holds Tryd.pinned (.plain (OpenSpec.upto avlShapesSpec)) avlShapesUptoCard

/-- THE SECOND FORM's CARD OF 'isthmuslaw08.ProofVerifies'. -/
def proofVerifiesUptoCard : Claim7 := { stood := { row := proofVerifiesUptoRow, standIns := [], harness := (true, "ceac8bc1bfdc46ca0b346f5b6753ffd912bb3103cc6f9c9792e085fcad25dc87"), looks := true }, kinds := [], alts := [], laidByText := true, laidKinds := [.handle, .data, .data], laidTests := true, laidLooks := .later }
def ProofVerifiesUptoCardSaid : Prop := Claim7.holds Tryd.pinned (.plain (OpenSpec.upto proofVerifiesSpec)) proofVerifiesUptoCard
end Rows
end Go.Proofs.YtadolfacjolbkaaDoor
