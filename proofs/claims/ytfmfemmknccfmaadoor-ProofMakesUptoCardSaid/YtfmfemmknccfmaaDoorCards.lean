/-
  DERIVED. GIVEN WITH THE SEED: THE CARDS: each row of YtfmfemmknccfmaaDoorRows.lean that lists a variable, with what it lists TIED to the program's text (the seventh form; the later family's looks); each row that meets fmt, with fmt's text TOLD by the authors' own Lean function (tested against real Go, not proved from fmt's source: count such statements apart). THE CARD IS WHAT COUNTS. Prove the row's statement (the work); the ties are given (YtfmfemmknccfmaaDoorTie.lean); close each card by the builder's one call (the guide's Derived/Test/ToyasCard.lean, 'card_holds'). Laid BY PROGRAM, IN A SANDBOX (cutbox-door.mjs). By AI agents, Wed Nov 11 2026. No macro, syntax, notation, axiom, sorry.
-/
import Derived.Test.YtfmfemmknccfmaaDoorRows
import GoSem.ClaimSeven
namespace Go.Proofs.YtfmfemmknccfmaaDoor
namespace Rows

/-- THE TIED CARD OF 'isthmuslaw07.AvlShapes'. -/
def avlShapesCard : Claim7 := { stood := { row := avlShapesRow, standIns := [], harness := (true, "8e9a606262c9514895c116dc16800bd66ad76d30671a9337f5dd5aa0b0318cd9"), looks := true }, kinds := [], alts := [], laidByText := true, laidKinds := [.handle, .data, .data], laidTests := true, laidLooks := .later }
def AvlShapesCardSaid : Prop := Claim7.holds Tryd.pinned (.plain (OpenSpec.ofChange avlShapesSpec)) avlShapesCard

/-- THE TIED CARD OF 'isthmuslaw08.ProofMakes'. -/
def proofMakesCard : Claim7 := { stood := { row := proofMakesRow, standIns := [], harness := (true, "8e9a606262c9514895c116dc16800bd66ad76d30671a9337f5dd5aa0b0318cd9"), looks := true }, kinds := [], alts := [], laidByText := true, laidKinds := [.handle, .data, .data], laidTests := true, laidLooks := .later }
def ProofMakesCardSaid : Prop := Claim7.holds Tryd.pinned (.plain (OpenSpec.ofChange proofMakesSpec)) proofMakesCard

/-- THE TIED CARD OF 'isthmuslaw08.ProofVerifies'. -/
def proofVerifiesCard : Claim7 := { stood := { row := proofVerifiesRow, standIns := [], harness := (true, "8e9a606262c9514895c116dc16800bd66ad76d30671a9337f5dd5aa0b0318cd9"), looks := true }, kinds := [], alts := [], laidByText := true, laidKinds := [.handle, .data, .data], laidTests := true, laidLooks := .later }
def ProofVerifiesCardSaid : Prop := Claim7.holds Tryd.pinned (.plain (OpenSpec.ofChange proofVerifiesSpec)) proofVerifiesCard

/-- THE TIED CARD OF 'isthmuslaw08.ProofAll'. -/
def proofAllCard : Claim7 := { stood := { row := proofAllRow, standIns := [], harness := (true, "8e9a606262c9514895c116dc16800bd66ad76d30671a9337f5dd5aa0b0318cd9"), looks := true }, kinds := [], alts := [], laidByText := true, laidKinds := [.handle, .data, .data], laidTests := true, laidLooks := .later }
def ProofAllCardSaid : Prop := Claim7.holds Tryd.pinned (.plain (OpenSpec.ofChange proofAllSpec)) proofAllCard

/-- THE SECOND FORM's CARD OF 'isthmuslaw07.AvlShapes'. -/
def avlShapesUptoCard : Claim7 := { stood := { row := avlShapesUptoRow, standIns := [], harness := (true, "8e9a606262c9514895c116dc16800bd66ad76d30671a9337f5dd5aa0b0318cd9"), looks := true }, kinds := [], alts := [], laidByText := true, laidKinds := [.handle, .data, .data], laidTests := true, laidLooks := .later }
def AvlShapesUptoCardSaid : Prop := Claim7.holds Tryd.pinned (.plain (OpenSpec.upto avlShapesSpec)) avlShapesUptoCard

/-- THE SECOND FORM's CARD OF 'isthmuslaw08.ProofMakes'. -/
def proofMakesUptoCard : Claim7 := { stood := { row := proofMakesUptoRow, standIns := [], harness := (true, "8e9a606262c9514895c116dc16800bd66ad76d30671a9337f5dd5aa0b0318cd9"), looks := true }, kinds := [], alts := [], laidByText := true, laidKinds := [.handle, .data, .data], laidTests := true, laidLooks := .later }
def ProofMakesUptoCardSaid : Prop := Claim7.holds Tryd.pinned (.plain (OpenSpec.upto proofMakesSpec)) proofMakesUptoCard

/-- THE SECOND FORM's CARD OF 'isthmuslaw08.ProofVerifies'. -/
def proofVerifiesUptoCard : Claim7 := { stood := { row := proofVerifiesUptoRow, standIns := [], harness := (true, "8e9a606262c9514895c116dc16800bd66ad76d30671a9337f5dd5aa0b0318cd9"), looks := true }, kinds := [], alts := [], laidByText := true, laidKinds := [.handle, .data, .data], laidTests := true, laidLooks := .later }
def ProofVerifiesUptoCardSaid : Prop := Claim7.holds Tryd.pinned (.plain (OpenSpec.upto proofVerifiesSpec)) proofVerifiesUptoCard

/-- THE SECOND FORM's CARD OF 'isthmuslaw08.ProofAll'. -/
def proofAllUptoCard : Claim7 := { stood := { row := proofAllUptoRow, standIns := [], harness := (true, "8e9a606262c9514895c116dc16800bd66ad76d30671a9337f5dd5aa0b0318cd9"), looks := true }, kinds := [], alts := [], laidByText := true, laidKinds := [.handle, .data, .data], laidTests := true, laidLooks := .later }
def ProofAllUptoCardSaid : Prop := Claim7.holds Tryd.pinned (.plain (OpenSpec.upto proofAllSpec)) proofAllUptoCard
end Rows
end Go.Proofs.YtfmfemmknccfmaaDoor
