/-
  DERIVED. GIVEN WITH THE SEED: THE CARDS: each row of YteokgklfljhcaaaDoorRows.lean that lists a variable, with what it lists TIED to the program's text (the seventh form; the later family's looks); each row that meets fmt, with fmt's text TOLD by the authors' own Lean function (tested against real Go, not proved from fmt's source: count such statements apart). THE CARD IS WHAT COUNTS. Prove the row's statement (the work); the ties are given (YteokgklfljhcaaaDoorTie.lean); close each card by the builder's one call (the guide's Derived/Test/ToyasCard.lean, 'card_holds'). Laid BY PROGRAM, IN A SANDBOX (cutbox-door.mjs). By AI agents, Wed Nov 11 2026. No macro, syntax, notation, axiom, sorry.
-/
import Derived.Test.YteokgklfljhcaaaDoorRows
import GoSem.ClaimSeven
namespace Go.Proofs.YteokgklfljhcaaaDoor
namespace Rows

/-- THE TIED CARD OF 'isthmuslaw14.CoinSums'. -/
def coinSumsCard : Claim7 := { stood := { row := coinSumsRow, standIns := [], harness := (true, "721537a847e4646a7930f18da733ecb5514bd1a0ebba9363e5da21020edbeddc"), looks := true }, kinds := [], alts := [], laidByText := true, laidKinds := [.data, .handle, .pinned], laidTests := true, laidLooks := .later }
def CoinSumsCardSaid : Prop := Claim7.holds Tryd.pinned (.plain (OpenSpec.ofChange coinSumsSpec)) coinSumsCard

/-- THE TIED CARD OF 'isthmuslaw14.CoinAmounts'. -/
def coinAmountsCard : Claim7 := { stood := { row := coinAmountsRow, standIns := [], harness := (true, "721537a847e4646a7930f18da733ecb5514bd1a0ebba9363e5da21020edbeddc"), looks := true }, kinds := [], alts := [], laidByText := true, laidKinds := [.data, .handle, .pinned], laidTests := true, laidLooks := .later }
def CoinAmountsCardSaid : Prop := Claim7.holds Tryd.pinned (.plain (OpenSpec.ofChange coinAmountsSpec)) coinAmountsCard

/-- THE TIED CARD OF 'isthmuslaw14.CoinBack'. -/
def coinBackCard : Claim7 := { stood := { row := coinBackRow, standIns := [], harness := (true, "721537a847e4646a7930f18da733ecb5514bd1a0ebba9363e5da21020edbeddc"), looks := true }, kinds := [], alts := [], laidByText := true, laidKinds := [.data, .data, .data, .pinned], laidTests := true, laidLooks := .later }
def CoinBackCardSaid : Prop := Claim7.holds Tryd.pinned (.plain (OpenSpec.ofChange coinBackSpec)) coinBackCard

/-- THE TIED CARD OF 'isthmuslaw14.CoinWays'. -/
def coinWaysCard : Claim7 := { stood := { row := coinWaysRow, standIns := [], harness := (true, "721537a847e4646a7930f18da733ecb5514bd1a0ebba9363e5da21020edbeddc"), looks := true }, kinds := [], alts := [], laidByText := true, laidKinds := [.data, .handle, .pinned], laidTests := true, laidLooks := .later }
def CoinWaysCardSaid : Prop := Claim7.holds Tryd.pinned (.plain (OpenSpec.ofChange coinWaysSpec)) coinWaysCard

/-- THE SECOND FORM's CARD OF 'isthmuslaw14.CoinSums'. -/
def coinSumsUptoCard : Claim7 := { stood := { row := coinSumsUptoRow, standIns := [], harness := (true, "721537a847e4646a7930f18da733ecb5514bd1a0ebba9363e5da21020edbeddc"), looks := true }, kinds := [], alts := [], laidByText := true, laidKinds := [.data, .handle, .pinned], laidTests := true, laidLooks := .later }
def CoinSumsUptoCardSaid : Prop := Claim7.holds Tryd.pinned (.plain (OpenSpec.upto coinSumsSpec)) coinSumsUptoCard

/-- THE SECOND FORM's CARD OF 'isthmuslaw14.CoinAmounts'. -/
def coinAmountsUptoCard : Claim7 := { stood := { row := coinAmountsUptoRow, standIns := [], harness := (true, "721537a847e4646a7930f18da733ecb5514bd1a0ebba9363e5da21020edbeddc"), looks := true }, kinds := [], alts := [], laidByText := true, laidKinds := [.data, .handle, .pinned], laidTests := true, laidLooks := .later }
def CoinAmountsUptoCardSaid : Prop := Claim7.holds Tryd.pinned (.plain (OpenSpec.upto coinAmountsSpec)) coinAmountsUptoCard

/-- THE SECOND FORM's CARD OF 'isthmuslaw14.CoinBack'. -/
def coinBackUptoCard : Claim7 := { stood := { row := coinBackUptoRow, standIns := [], harness := (true, "721537a847e4646a7930f18da733ecb5514bd1a0ebba9363e5da21020edbeddc"), looks := true }, kinds := [], alts := [], laidByText := true, laidKinds := [.data, .data, .data, .pinned], laidTests := true, laidLooks := .later }
def CoinBackUptoCardSaid : Prop := Claim7.holds Tryd.pinned (.plain (OpenSpec.upto coinBackSpec)) coinBackUptoCard

/-- THE SECOND FORM's CARD OF 'isthmuslaw14.CoinWays'. -/
def coinWaysUptoCard : Claim7 := { stood := { row := coinWaysUptoRow, standIns := [], harness := (true, "721537a847e4646a7930f18da733ecb5514bd1a0ebba9363e5da21020edbeddc"), looks := true }, kinds := [], alts := [], laidByText := true, laidKinds := [.data, .handle, .pinned], laidTests := true, laidLooks := .later }
def CoinWaysUptoCardSaid : Prop := Claim7.holds Tryd.pinned (.plain (OpenSpec.upto coinWaysSpec)) coinWaysUptoCard
end Rows
end Go.Proofs.YteokgklfljhcaaaDoor
