/-
  DERIVED. GIVEN WITH THE SEED: THE CARDS: each row of YtlhfdkkeanchcaaDoorRows.lean that lists a variable, with what it lists TIED to the program's text (the seventh form; the later family's looks); each row that meets fmt, with fmt's text TOLD by the authors' own Lean function (tested against real Go, not proved from fmt's source: count such statements apart). THE CARD IS WHAT COUNTS. Prove the row's statement (the work); the ties are given (YtlhfdkkeanchcaaDoorTie.lean); close each card by the builder's one call (the guide's Derived/Test/ToyasCard.lean, 'card_holds'). Laid BY PROGRAM, IN A SANDBOX (cutbox-door.mjs). By AI agents, Wed Nov 11 2026. No macro, syntax, notation, axiom, sorry.
-/
import Derived.Test.YtlhfdkkeanchcaaDoorRows
import GoSem.ClaimSeven
namespace Go.Proofs.YtlhfdkkeanchcaaDoor
namespace Rows

/-- THE TIED CARD OF 'isthmuslaw07.AvlRuns'. -/
def avlRunsCard : Claim7 := { stood := { row := avlRunsRow, standIns := [], harness := (true, "7f225b7e71117ede1d20a37da8a8bd94bc689d863606bfc521571d1cff859366"), looks := true }, kinds := [], alts := [], laidByText := true, laidKinds := [.handle, .data, .data], laidTests := true, laidLooks := .later }
def AvlRunsCardSaid : Prop := Claim7.holds Tryd.pinned (.plain (OpenSpec.ofChange avlRunsSpec)) avlRunsCard

/-- THE TIED CARD OF 'isthmuslaw07.AvlStays'. -/
def avlStaysCard : Claim7 := { stood := { row := avlStaysRow, standIns := [], harness := (true, "7f225b7e71117ede1d20a37da8a8bd94bc689d863606bfc521571d1cff859366"), looks := true }, kinds := [], alts := [], laidByText := true, laidKinds := [.data, .data], laidTests := true, laidLooks := .later }
def AvlStaysCardSaid : Prop := Claim7.holds Tryd.pinned (.plain (OpenSpec.ofChange avlStaysSpec)) avlStaysCard

/-- THE TIED CARD OF 'isthmuslaw07.AvlPaths'. -/
def avlPathsCard : Claim7 := { stood := { row := avlPathsRow, standIns := [], harness := (true, "7f225b7e71117ede1d20a37da8a8bd94bc689d863606bfc521571d1cff859366"), looks := true }, kinds := [], alts := [], laidByText := true, laidKinds := [.data, .data], laidTests := true, laidLooks := .later }
def AvlPathsCardSaid : Prop := Claim7.holds Tryd.pinned (.plain (OpenSpec.ofChange avlPathsSpec)) avlPathsCard

/-- THE TIED CARD OF 'isthmuslaw07.AvlShapes'. -/
def avlShapesCard : Claim7 := { stood := { row := avlShapesRow, standIns := [], harness := (true, "7f225b7e71117ede1d20a37da8a8bd94bc689d863606bfc521571d1cff859366"), looks := true }, kinds := [], alts := [], laidByText := true, laidKinds := [.handle, .data, .data], laidTests := true, laidLooks := .later }
def AvlShapesCardSaid : Prop := Claim7.holds Tryd.pinned (.plain (OpenSpec.ofChange avlShapesSpec)) avlShapesCard

/-- THE TIED CARD OF 'isthmuslaw07.AvlOrder'. -/
def avlOrderCard : Claim7 := { stood := { row := avlOrderRow, standIns := [], harness := (true, "7f225b7e71117ede1d20a37da8a8bd94bc689d863606bfc521571d1cff859366"), looks := true }, kinds := [], alts := [], laidByText := true, laidKinds := [.data, .data], laidTests := true, laidLooks := .later }
def AvlOrderCardSaid : Prop := Claim7.holds Tryd.pinned (.plain (OpenSpec.ofChange avlOrderSpec)) avlOrderCard

/-- THE SECOND FORM's CARD OF 'isthmuslaw07.AvlRuns'. -/
def avlRunsUptoCard : Claim7 := { stood := { row := avlRunsUptoRow, standIns := [], harness := (true, "7f225b7e71117ede1d20a37da8a8bd94bc689d863606bfc521571d1cff859366"), looks := true }, kinds := [], alts := [], laidByText := true, laidKinds := [.handle, .data, .data], laidTests := true, laidLooks := .later }
def AvlRunsUptoCardSaid : Prop := Claim7.holds Tryd.pinned (.plain (OpenSpec.upto avlRunsSpec)) avlRunsUptoCard

/-- THE SECOND FORM's CARD OF 'isthmuslaw07.AvlStays'. -/
def avlStaysUptoCard : Claim7 := { stood := { row := avlStaysUptoRow, standIns := [], harness := (true, "7f225b7e71117ede1d20a37da8a8bd94bc689d863606bfc521571d1cff859366"), looks := true }, kinds := [], alts := [], laidByText := true, laidKinds := [.data, .data], laidTests := true, laidLooks := .later }
def AvlStaysUptoCardSaid : Prop := Claim7.holds Tryd.pinned (.plain (OpenSpec.upto avlStaysSpec)) avlStaysUptoCard

/-- THE SECOND FORM's CARD OF 'isthmuslaw07.AvlPaths'. -/
def avlPathsUptoCard : Claim7 := { stood := { row := avlPathsUptoRow, standIns := [], harness := (true, "7f225b7e71117ede1d20a37da8a8bd94bc689d863606bfc521571d1cff859366"), looks := true }, kinds := [], alts := [], laidByText := true, laidKinds := [.data, .data], laidTests := true, laidLooks := .later }
def AvlPathsUptoCardSaid : Prop := Claim7.holds Tryd.pinned (.plain (OpenSpec.upto avlPathsSpec)) avlPathsUptoCard

/-- THE SECOND FORM's CARD OF 'isthmuslaw07.AvlShapes'. -/
def avlShapesUptoCard : Claim7 := { stood := { row := avlShapesUptoRow, standIns := [], harness := (true, "7f225b7e71117ede1d20a37da8a8bd94bc689d863606bfc521571d1cff859366"), looks := true }, kinds := [], alts := [], laidByText := true, laidKinds := [.handle, .data, .data], laidTests := true, laidLooks := .later }
def AvlShapesUptoCardSaid : Prop := Claim7.holds Tryd.pinned (.plain (OpenSpec.upto avlShapesSpec)) avlShapesUptoCard

/-- THE SECOND FORM's CARD OF 'isthmuslaw07.AvlOrder'. -/
def avlOrderUptoCard : Claim7 := { stood := { row := avlOrderUptoRow, standIns := [], harness := (true, "7f225b7e71117ede1d20a37da8a8bd94bc689d863606bfc521571d1cff859366"), looks := true }, kinds := [], alts := [], laidByText := true, laidKinds := [.data, .data], laidTests := true, laidLooks := .later }
def AvlOrderUptoCardSaid : Prop := Claim7.holds Tryd.pinned (.plain (OpenSpec.upto avlOrderSpec)) avlOrderUptoCard
end Rows
end Go.Proofs.YtlhfdkkeanchcaaDoor
