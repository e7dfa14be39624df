/- wots: Len, isLeaf, upper, lower, start, Step. -/
import Derived.Test.YtlhfdkkeanchcaaDoorWoMath
import Derived.Test.YtlhfdkkeanchcaaDoorTill
import Derived.Test.YtlhfdkkeanchcaaDoorMin
namespace Go.Proofs.YtlhfdkkeanchcaaDoor
open Go.RowKit
set_option maxRecDepth 100000
theorem and15 (n : Nat) (h : n < 1024) : bits .and .i64 (n : Int) 15 = ((n % 16 : Nat) : Int) := by
  have : ∀ b : Fin 1024, bits .and .i64 (b.val : Int) 15 = ((b.val % 16 : Nat) : Int) := by decide +kernel
  exact this ⟨n, h⟩
end Go.Proofs.YtlhfdkkeanchcaaDoor
