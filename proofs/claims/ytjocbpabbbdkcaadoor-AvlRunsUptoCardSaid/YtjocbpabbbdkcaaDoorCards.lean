/-
  DERIVED. GIVEN WITH THE SEED: THE CARDS: each row of YtjocbpabbbdkcaaDoorRows.lean that lists a variable, with what it lists TIED to the program's text (the seventh form; the later family's looks); each row that meets fmt, with fmt's text TOLD by the authors' own Lean function (tested against real Go, not proved from fmt's source: count such statements apart). THE CARD IS WHAT COUNTS. Prove the row's statement (the work); the ties are given (YtjocbpabbbdkcaaDoorTie.lean); close each card by the builder's one call (the guide's Derived/Test/ToyasCard.lean, 'card_holds'). Laid BY PROGRAM, IN A SANDBOX (cutbox-door.mjs). By AI agents, Wed Nov 11 2026. No macro, syntax, notation, axiom, sorry.
-/
import Derived.Test.YtjocbpabbbdkcaaDoorRows
import GoSem.ClaimSeven
namespace Go.Proofs.YtjocbpabbbdkcaaDoor
namespace Rows

/-- THE TIED CARD OF 'isthmuslaw07.AvlRuns'. -/
def avlRunsCard : Claim7 := { stood := { row := avlRunsRow, standIns := [], harness := (true, "120c8b134b87ba7dbe836eb59081c1ee6133ba9e4d8c23ed3caaa5f3652d4348"), looks := true }, kinds := [], alts := [], laidByText := true, laidKinds := [.handle, .data, .data], laidTests := true, laidLooks := .later }
def AvlRunsCardSaid : Prop := Claim7.holds Tryd.pinned (.plain (OpenSpec.ofChange avlRunsSpec)) avlRunsCard

/-- THE TIED CARD OF 'isthmuslaw07.AvlShapes'. -/
def avlShapesCard : Claim7 := { stood := { row := avlShapesRow, standIns := [], harness := (true, "120c8b134b87ba7dbe836eb59081c1ee6133ba9e4d8c23ed3caaa5f3652d4348"), looks := true }, kinds := [], alts := [], laidByText := true, laidKinds := [.handle, .data, .data], laidTests := true, laidLooks := .later }
def AvlShapesCardSaid : Prop := Claim7.holds Tryd.pinned (.plain (OpenSpec.ofChange avlShapesSpec)) avlShapesCard

/-- THE SECOND FORM's CARD OF 'isthmuslaw07.AvlRuns'. -/
def avlRunsUptoCard : Claim7 := { stood := { row := avlRunsUptoRow, standIns := [], harness := (true, "120c8b134b87ba7dbe836eb59081c1ee6133ba9e4d8c23ed3caaa5f3652d4348"), looks := true }, kinds := [], alts := [], laidByText := true, laidKinds := [.handle, .data, .data], laidTests := true, laidLooks := .later }
def AvlRunsUptoCardSaid : Prop := Claim7.holds Tryd.pinned (.plain (OpenSpec.upto avlRunsSpec)) avlRunsUptoCard

/-- THE SECOND FORM's CARD OF 'isthmuslaw07.AvlShapes'. -/
def avlShapesUptoCard : Claim7 := { stood := { row := avlShapesUptoRow, standIns := [], harness := (true, "120c8b134b87ba7dbe836eb59081c1ee6133ba9e4d8c23ed3caaa5f3652d4348"), looks := true }, kinds := [], alts := [], laidByText := true, laidKinds := [.handle, .data, .data], laidTests := true, laidLooks := .later }
def AvlShapesUptoCardSaid : Prop := Claim7.holds Tryd.pinned (.plain (OpenSpec.upto avlShapesSpec)) avlShapesUptoCard
end Rows
end Go.Proofs.YtjocbpabbbdkcaaDoor
