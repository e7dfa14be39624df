/-
  DERIVED. GIVEN WITH THE SEED: THE CARDS: each row of YtggcodobkmhkgaaDoorRows.lean that lists a variable, with what it lists TIED to the program's text (the seventh form; the later family's looks); each row that meets fmt, with fmt's text TOLD by the authors' own Lean function (tested against real Go, not proved from fmt's source: count such statements apart). THE CARD IS WHAT COUNTS. Prove the row's statement (the work); the ties are given (YtggcodobkmhkgaaDoorTie.lean); close each card by the builder's one call (the guide's Derived/Test/ToyasCard.lean, 'card_holds'). Laid BY PROGRAM, IN A SANDBOX (cutbox-door.mjs). By AI agents, Wed Nov 11 2026. No macro, syntax, notation, axiom, sorry.
-/
import Derived.Test.YtggcodobkmhkgaaDoorRows
import GoSem.ClaimSeven
namespace Go.Proofs.YtggcodobkmhkgaaDoor
namespace Rows

/-- THE TIED CARD OF 'isthmuslaw04.FilesRuns'. -/
def filesRunsCard : Claim7 := { stood := { row := filesRunsRow, standIns := [], harness := (true, "a9cbb612843be7fcce09ec69d29e3f67a0e53856a8288b9d0bfe1a4c8460585d"), looks := true }, kinds := [], alts := [], laidByText := true, laidKinds := [.handle], laidTests := true, laidLooks := .later }
def FilesRunsCardSaid : Prop := Claim7.holds Tryd.pinned (.plain (OpenSpec.ofChange filesRunsSpec)) filesRunsCard

/-- THE TIED CARD OF 'isthmuslaw04.FilesClone'. -/
def filesCloneCard : Claim7 := { stood := { row := filesCloneRow, standIns := [], harness := (true, "a9cbb612843be7fcce09ec69d29e3f67a0e53856a8288b9d0bfe1a4c8460585d"), looks := true }, kinds := [], alts := [], laidByText := true, laidKinds := [.handle], laidTests := true, laidLooks := .later }
def FilesCloneCardSaid : Prop := Claim7.holds Tryd.pinned (.plain (OpenSpec.ofChange filesCloneSpec)) filesCloneCard

/-- THE TIED CARD OF 'isthmuslaw08.ProofMakes'. -/
def proofMakesCard : Claim7 := { stood := { row := proofMakesRow, standIns := [], harness := (true, "a9cbb612843be7fcce09ec69d29e3f67a0e53856a8288b9d0bfe1a4c8460585d"), looks := true }, kinds := [], alts := [], laidByText := true, laidKinds := [.handle, .data, .data], laidTests := true, laidLooks := .later }
def ProofMakesCardSaid : Prop := Claim7.holds Tryd.pinned (.plain (OpenSpec.ofChange proofMakesSpec)) proofMakesCard

/-- THE TIED CARD OF 'isthmuslaw08.ProofVerifies'. -/
def proofVerifiesCard : Claim7 := { stood := { row := proofVerifiesRow, standIns := [], harness := (true, "a9cbb612843be7fcce09ec69d29e3f67a0e53856a8288b9d0bfe1a4c8460585d"), looks := true }, kinds := [], alts := [], laidByText := true, laidKinds := [.handle, .data, .data], laidTests := true, laidLooks := .later }
def ProofVerifiesCardSaid : Prop := Claim7.holds Tryd.pinned (.plain (OpenSpec.ofChange proofVerifiesSpec)) proofVerifiesCard

/-- THE TIED CARD OF 'isthmuslaw08.ProofAll'. -/
def proofAllCard : Claim7 := { stood := { row := proofAllRow, standIns := [], harness := (true, "a9cbb612843be7fcce09ec69d29e3f67a0e53856a8288b9d0bfe1a4c8460585d"), looks := true }, kinds := [], alts := [], laidByText := true, laidKinds := [.handle, .data, .data], laidTests := true, laidLooks := .later }
def ProofAllCardSaid : Prop := Claim7.holds Tryd.pinned (.plain (OpenSpec.ofChange proofAllSpec)) proofAllCard

/-- THE SECOND FORM's CARD OF 'isthmuslaw04.FilesRuns'. -/
def filesRunsUptoCard : Claim7 := { stood := { row := filesRunsUptoRow, standIns := [], harness := (true, "a9cbb612843be7fcce09ec69d29e3f67a0e53856a8288b9d0bfe1a4c8460585d"), looks := true }, kinds := [], alts := [], laidByText := true, laidKinds := [.handle], laidTests := true, laidLooks := .later }
def FilesRunsUptoCardSaid : Prop := Claim7.holds Tryd.pinned (.plain (OpenSpec.upto filesRunsSpec)) filesRunsUptoCard

/-- THE SECOND FORM's CARD OF 'isthmuslaw04.FilesClone'. -/
def filesCloneUptoCard : Claim7 := { stood := { row := filesCloneUptoRow, standIns := [], harness := (true, "a9cbb612843be7fcce09ec69d29e3f67a0e53856a8288b9d0bfe1a4c8460585d"), looks := true }, kinds := [], alts := [], laidByText := true, laidKinds := [.handle], laidTests := true, laidLooks := .later }
def FilesCloneUptoCardSaid : Prop := Claim7.holds Tryd.pinned (.plain (OpenSpec.upto filesCloneSpec)) filesCloneUptoCard

/-- THE SECOND FORM's CARD OF 'isthmuslaw08.ProofMakes'. -/
def proofMakesUptoCard : Claim7 := { stood := { row := proofMakesUptoRow, standIns := [], harness := (true, "a9cbb612843be7fcce09ec69d29e3f67a0e53856a8288b9d0bfe1a4c8460585d"), looks := true }, kinds := [], alts := [], laidByText := true, laidKinds := [.handle, .data, .data], laidTests := true, laidLooks := .later }
def ProofMakesUptoCardSaid : Prop := Claim7.holds Tryd.pinned (.plain (OpenSpec.upto proofMakesSpec)) proofMakesUptoCard

/-- THE SECOND FORM's CARD OF 'isthmuslaw08.ProofVerifies'. -/
def proofVerifiesUptoCard : Claim7 := { stood := { row := proofVerifiesUptoRow, standIns := [], harness := (true, "a9cbb612843be7fcce09ec69d29e3f67a0e53856a8288b9d0bfe1a4c8460585d"), looks := true }, kinds := [], alts := [], laidByText := true, laidKinds := [.handle, .data, .data], laidTests := true, laidLooks := .later }
def ProofVerifiesUptoCardSaid : Prop := Claim7.holds Tryd.pinned (.plain (OpenSpec.upto proofVerifiesSpec)) proofVerifiesUptoCard

/-- THE SECOND FORM's CARD OF 'isthmuslaw08.ProofAll'. -/
def proofAllUptoCard : Claim7 := { stood := { row := proofAllUptoRow, standIns := [], harness := (true, "a9cbb612843be7fcce09ec69d29e3f67a0e53856a8288b9d0bfe1a4c8460585d"), looks := true }, kinds := [], alts := [], laidByText := true, laidKinds := [.handle, .data, .data], laidTests := true, laidLooks := .later }
def ProofAllUptoCardSaid : Prop := Claim7.holds Tryd.pinned (.plain (OpenSpec.upto proofAllSpec)) proofAllUptoCard
end Rows
end Go.Proofs.YtggcodobkmhkgaaDoor
