/- Part 43 of the proof. -/
import Derived.Test.YtejglhlodfhgkaaGreatDoorXb13
import Derived.Test.YtejglhlodfhgkaaGreatDoorXb42
namespace Go.Proofs.YtejglhlodfhgkaaGreatDoor
set_option linter.unusedVariables false
set_option linter.unusedSimpArgs false
open Go.RowKit
set_option maxRecDepth 100000
set_option linter.unusedSimpArgs false
set_option linter.unusedVariables false
end Go.Proofs.YtejglhlodfhgkaaGreatDoor
