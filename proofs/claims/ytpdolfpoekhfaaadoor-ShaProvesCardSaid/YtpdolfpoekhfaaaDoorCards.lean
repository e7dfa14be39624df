/-
  DERIVED. GIVEN WITH THE SEED: THE CARDS: each row of YtpdolfpoekhfaaaDoorRows.lean that lists a variable, with what it lists TIED to the program's text (the seventh form; the later family's looks); each row that meets fmt, with fmt's text TOLD by the authors' own Lean function (tested against real Go, not proved from fmt's source: count such statements apart). THE CARD IS WHAT COUNTS. Prove the row's statement (the work); the ties are given (YtpdolfpoekhfaaaDoorTie.lean); close each card by the builder's one call (the guide's Derived/Test/ToyasCard.lean, 'card_holds'). Laid BY PROGRAM, IN A SANDBOX (cutbox-door.mjs). By AI agents, Wed Nov 11 2026. No macro, syntax, notation, axiom, sorry.
-/
import Derived.Test.YtpdolfpoekhfaaaDoorRows
import GoSem.ClaimSeven
namespace Go.Proofs.YtpdolfpoekhfaaaDoor
namespace Rows

/-- THE TIED CARD OF 'isthmuslaw01.ShaSums'. -/
def shaSumsCard : Claim7 := { stood := { row := shaSumsRow, standIns := [], harness := (true, "a4081c7a67b83f90e95c0658f9381329e30dffbfd9686bc96730f658290b9412"), looks := true }, kinds := [], alts := [], laidByText := true, laidKinds := [.handle, .data, .data], laidTests := true, laidLooks := .later }
def ShaSumsCardSaid : Prop := Claim7.holds Tryd.pinned (.plain (OpenSpec.ofChange shaSumsSpec)) shaSumsCard

/-- THE TIED CARD OF 'isthmuslaw01.ShaTrees'. -/
def shaTreesCard : Claim7 := { stood := { row := shaTreesRow, standIns := [], harness := (true, "a4081c7a67b83f90e95c0658f9381329e30dffbfd9686bc96730f658290b9412"), looks := true }, kinds := [], alts := [], laidByText := true, laidKinds := [.handle, .data, .data], laidTests := true, laidLooks := .later }
def ShaTreesCardSaid : Prop := Claim7.holds Tryd.pinned (.plain (OpenSpec.ofChange shaTreesSpec)) shaTreesCard

/-- THE TIED CARD OF 'isthmuslaw01.ShaProves'. -/
def shaProvesCard : Claim7 := { stood := { row := shaProvesRow, standIns := [], harness := (true, "a4081c7a67b83f90e95c0658f9381329e30dffbfd9686bc96730f658290b9412"), looks := true }, kinds := [], alts := [], laidByText := true, laidKinds := [.data, .data], laidTests := true, laidLooks := .later }
def ShaProvesCardSaid : Prop := Claim7.holds Tryd.pinned (.plain (OpenSpec.ofChange shaProvesSpec)) shaProvesCard

/-- THE TIED CARD OF 'isthmuslaw01.ShaCuts'. -/
def shaCutsCard : Claim7 := { stood := { row := shaCutsRow, standIns := [], harness := (true, "a4081c7a67b83f90e95c0658f9381329e30dffbfd9686bc96730f658290b9412"), looks := true }, kinds := [], alts := [], laidByText := true, laidKinds := [.data, .data], laidTests := true, laidLooks := .later }
def ShaCutsCardSaid : Prop := Claim7.holds Tryd.pinned (.plain (OpenSpec.ofChange shaCutsSpec)) shaCutsCard

/-- THE TIED CARD OF 'isthmuslaw01.ShaDepth'. -/
def shaDepthCard : Claim7 := { stood := { row := shaDepthRow, standIns := [], harness := (true, "a4081c7a67b83f90e95c0658f9381329e30dffbfd9686bc96730f658290b9412"), looks := true }, kinds := [], alts := [], laidByText := true, laidKinds := [.data, .data], laidTests := true, laidLooks := .later }
def ShaDepthCardSaid : Prop := Claim7.holds Tryd.pinned (.plain (OpenSpec.ofChange shaDepthSpec)) shaDepthCard

/-- THE SECOND FORM's CARD OF 'isthmuslaw01.ShaSums'. -/
def shaSumsUptoCard : Claim7 := { stood := { row := shaSumsUptoRow, standIns := [], harness := (true, "a4081c7a67b83f90e95c0658f9381329e30dffbfd9686bc96730f658290b9412"), looks := true }, kinds := [], alts := [], laidByText := true, laidKinds := [.handle, .data, .data], laidTests := true, laidLooks := .later }
def ShaSumsUptoCardSaid : Prop := Claim7.holds Tryd.pinned (.plain (OpenSpec.upto shaSumsSpec)) shaSumsUptoCard

/-- THE SECOND FORM's CARD OF 'isthmuslaw01.ShaTrees'. -/
def shaTreesUptoCard : Claim7 := { stood := { row := shaTreesUptoRow, standIns := [], harness := (true, "a4081c7a67b83f90e95c0658f9381329e30dffbfd9686bc96730f658290b9412"), looks := true }, kinds := [], alts := [], laidByText := true, laidKinds := [.handle, .data, .data], laidTests := true, laidLooks := .later }
def ShaTreesUptoCardSaid : Prop := Claim7.holds Tryd.pinned (.plain (OpenSpec.upto shaTreesSpec)) shaTreesUptoCard

/-- THE SECOND FORM's CARD OF 'isthmuslaw01.ShaProves'. -/
def shaProvesUptoCard : Claim7 := { stood := { row := shaProvesUptoRow, standIns := [], harness := (true, "a4081c7a67b83f90e95c0658f9381329e30dffbfd9686bc96730f658290b9412"), looks := true }, kinds := [], alts := [], laidByText := true, laidKinds := [.data, .data], laidTests := true, laidLooks := .later }
def ShaProvesUptoCardSaid : Prop := Claim7.holds Tryd.pinned (.plain (OpenSpec.upto shaProvesSpec)) shaProvesUptoCard

/-- THE SECOND FORM's CARD OF 'isthmuslaw01.ShaCuts'. -/
def shaCutsUptoCard : Claim7 := { stood := { row := shaCutsUptoRow, standIns := [], harness := (true, "a4081c7a67b83f90e95c0658f9381329e30dffbfd9686bc96730f658290b9412"), looks := true }, kinds := [], alts := [], laidByText := true, laidKinds := [.data, .data], laidTests := true, laidLooks := .later }
def ShaCutsUptoCardSaid : Prop := Claim7.holds Tryd.pinned (.plain (OpenSpec.upto shaCutsSpec)) shaCutsUptoCard

/-- THE SECOND FORM's CARD OF 'isthmuslaw01.ShaDepth'. -/
def shaDepthUptoCard : Claim7 := { stood := { row := shaDepthUptoRow, standIns := [], harness := (true, "a4081c7a67b83f90e95c0658f9381329e30dffbfd9686bc96730f658290b9412"), looks := true }, kinds := [], alts := [], laidByText := true, laidKinds := [.data, .data], laidTests := true, laidLooks := .later }
def ShaDepthUptoCardSaid : Prop := Claim7.holds Tryd.pinned (.plain (OpenSpec.upto shaDepthSpec)) shaDepthUptoCard
end Rows
end Go.Proofs.YtpdolfpoekhfaaaDoor
