/-
  DERIVED. GIVEN WITH THE SEED: THE CARDS: each row of YtlgjeledcnhmnaaDoorRows.lean that lists a variable, with what it lists TIED to the program's text (the seventh form; the later family's looks); each row that meets fmt, with fmt's text TOLD by the authors' own Lean function (tested against real Go, not proved from fmt's source: count such statements apart). THE CARD IS WHAT COUNTS. Prove the row's statement (the work); the ties are given (YtlgjeledcnhmnaaDoorTie.lean); close each card by the builder's one call (the guide's Derived/Test/ToyasCard.lean, 'card_holds'). Laid BY PROGRAM, IN A SANDBOX (cutbox-door.mjs). By AI agents, Wed Nov 11 2026. No macro, syntax, notation, axiom, sorry.
-/
import Derived.Test.YtlgjeledcnhmnaaDoorRows
import GoSem.ClaimSeven
namespace Go.Proofs.YtlgjeledcnhmnaaDoor
namespace Rows

/-- THE TIED CARD OF 'isthmuslaw05.WotsSigns'. -/
def wotsSignsCard : Claim7 := { stood := { row := wotsSignsRow, standIns := [], harness := (true, "313bff963b329dc97786997917340426dab7517a84a1e1a63cb02271462b8625"), looks := true }, kinds := [], alts := [], laidByText := true, laidKinds := [.handle, .data, .data], laidTests := true, laidLooks := .later }
def WotsSignsCardSaid : Prop := Claim7.holds Tryd.pinned (.plain (OpenSpec.ofChange wotsSignsSpec)) wotsSignsCard

/-- THE TIED CARD OF 'isthmuslaw05.WotsFrom'. -/
def wotsFromCard : Claim7 := { stood := { row := wotsFromRow, standIns := [], harness := (true, "313bff963b329dc97786997917340426dab7517a84a1e1a63cb02271462b8625"), looks := true }, kinds := [], alts := [], laidByText := true, laidKinds := [.handle, .data, .data], laidTests := true, laidLooks := .later }
def WotsFromCardSaid : Prop := Claim7.holds Tryd.pinned (.plain (OpenSpec.ofChange wotsFromSpec)) wotsFromCard

/-- THE TIED CARD OF 'isthmuslaw05.WotsBack'. -/
def wotsBackCard : Claim7 := { stood := { row := wotsBackRow, standIns := [], harness := (true, "313bff963b329dc97786997917340426dab7517a84a1e1a63cb02271462b8625"), looks := true }, kinds := [], alts := [], laidByText := true, laidKinds := [.data, .data], laidTests := true, laidLooks := .later }
def WotsBackCardSaid : Prop := Claim7.holds Tryd.pinned (.plain (OpenSpec.ofChange wotsBackSpec)) wotsBackCard

/-- THE TIED CARD OF 'isthmuslaw05.WotsSteps'. -/
def wotsStepsCard : Claim7 := { stood := { row := wotsStepsRow, standIns := [], harness := (true, "313bff963b329dc97786997917340426dab7517a84a1e1a63cb02271462b8625"), looks := true }, kinds := [], alts := [], laidByText := true, laidKinds := [.data, .data], laidTests := true, laidLooks := .later }
def WotsStepsCardSaid : Prop := Claim7.holds Tryd.pinned (.plain (OpenSpec.ofChange wotsStepsSpec)) wotsStepsCard

/-- THE TIED CARD OF 'isthmuslaw05.WotsChecks'. -/
def wotsChecksCard : Claim7 := { stood := { row := wotsChecksRow, standIns := [], harness := (true, "313bff963b329dc97786997917340426dab7517a84a1e1a63cb02271462b8625"), looks := true }, kinds := [], alts := [], laidByText := true, laidKinds := [.data, .data], laidTests := true, laidLooks := .later }
def WotsChecksCardSaid : Prop := Claim7.holds Tryd.pinned (.plain (OpenSpec.ofChange wotsChecksSpec)) wotsChecksCard

/-- THE SECOND FORM's CARD OF 'isthmuslaw05.WotsSigns'. -/
def wotsSignsUptoCard : Claim7 := { stood := { row := wotsSignsUptoRow, standIns := [], harness := (true, "313bff963b329dc97786997917340426dab7517a84a1e1a63cb02271462b8625"), looks := true }, kinds := [], alts := [], laidByText := true, laidKinds := [.handle, .data, .data], laidTests := true, laidLooks := .later }
def WotsSignsUptoCardSaid : Prop := Claim7.holds Tryd.pinned (.plain (OpenSpec.upto wotsSignsSpec)) wotsSignsUptoCard

/-- THE SECOND FORM's CARD OF 'isthmuslaw05.WotsFrom'. -/
def wotsFromUptoCard : Claim7 := { stood := { row := wotsFromUptoRow, standIns := [], harness := (true, "313bff963b329dc97786997917340426dab7517a84a1e1a63cb02271462b8625"), looks := true }, kinds := [], alts := [], laidByText := true, laidKinds := [.handle, .data, .data], laidTests := true, laidLooks := .later }
def WotsFromUptoCardSaid : Prop := Claim7.holds Tryd.pinned (.plain (OpenSpec.upto wotsFromSpec)) wotsFromUptoCard

/-- THE SECOND FORM's CARD OF 'isthmuslaw05.WotsBack'. -/
def wotsBackUptoCard : Claim7 := { stood := { row := wotsBackUptoRow, standIns := [], harness := (true, "313bff963b329dc97786997917340426dab7517a84a1e1a63cb02271462b8625"), looks := true }, kinds := [], alts := [], laidByText := true, laidKinds := [.data, .data], laidTests := true, laidLooks := .later }
def WotsBackUptoCardSaid : Prop := Claim7.holds Tryd.pinned (.plain (OpenSpec.upto wotsBackSpec)) wotsBackUptoCard

/-- THE SECOND FORM's CARD OF 'isthmuslaw05.WotsSteps'. -/
def wotsStepsUptoCard : Claim7 := { stood := { row := wotsStepsUptoRow, standIns := [], harness := (true, "313bff963b329dc97786997917340426dab7517a84a1e1a63cb02271462b8625"), looks := true }, kinds := [], alts := [], laidByText := true, laidKinds := [.data, .data], laidTests := true, laidLooks := .later }
def WotsStepsUptoCardSaid : Prop := Claim7.holds Tryd.pinned (.plain (OpenSpec.upto wotsStepsSpec)) wotsStepsUptoCard

/-- THE SECOND FORM's CARD OF 'isthmuslaw05.WotsChecks'. -/
def wotsChecksUptoCard : Claim7 := { stood := { row := wotsChecksUptoRow, standIns := [], harness := (true, "313bff963b329dc97786997917340426dab7517a84a1e1a63cb02271462b8625"), looks := true }, kinds := [], alts := [], laidByText := true, laidKinds := [.data, .data], laidTests := true, laidLooks := .later }
def WotsChecksUptoCardSaid : Prop := Claim7.holds Tryd.pinned (.plain (OpenSpec.upto wotsChecksSpec)) wotsChecksUptoCard
end Rows
end Go.Proofs.YtlgjeledcnhmnaaDoor
