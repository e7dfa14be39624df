/- Part 33 of the proof. -/
import Derived.ProofKit
import Derived.LaidMore
import Derived.OpenShut
import Derived.Stop.Joined
import Derived.Stop.LaidErr
import Derived.Lib.LaidTab
import Derived.LaidHandle
import Derived.SizedLaws
import Derived.Carry
import Derived.Lay
import Derived.Test.YtllpnpeppdfjlaaDoorSb2
import Derived.Test.YtllpnpeppdfjlaaDoorSb8
import Derived.Test.YtllpnpeppdfjlaaDoorSb28
namespace Go.Proofs.YtllpnpeppdfjlaaDoor
set_option linter.unusedVariables false
set_option linter.unusedSimpArgs false
open Go.ChangeShapes Go.WideShapes Go.ChangeAt Go.RowKit
set_option maxRecDepth 100000
theorem doorOwn : ownKnob Tryd.prog.godebug = none := by kernel_rfl
theorem doorLaidOut : laidOutB Tryd.prog = true := by kernel_rfl
def laidTb : List (String × DataW Unit) := [("unicode/utf8.acceptRanges", Rows.laid_unicode_utf8_acceptRanges), ("isthmus/txs.shapes", Rows.laid_isthmus_txs_shapes), ("unicode/utf8.first", Rows.laid_unicode_utf8_first)]
theorem nShapes : Tryd.prog.globalNamed "isthmus/txs.shapes" = some 0 := by kernel_rfl
theorem tyShapes : (Tryd.prog.globals[0]?).map (·.type) = some 118 := by kernel_rfl
theorem dShapes {H : Type} : (Rows.laid_isthmus_txs_shapes : DataW H) = .agg (shpL.map fun r => .agg ((shpR r).map fun z => .lit (.int .i64 z))) := by rfl
theorem tb_tab {W : World} (h : laidMetH Tryd.prog laidTb W) : ShTab W := by
  rw [MakeChecks.laidMetH_plain _ _ _ (by kernel_rfl)] at h
  unfold laidTb at h
  rw [dShapes] at h
  exact shTab_of_head nShapes tyShapes h.tail
noncomputable def tbWorld (os : Os) : World := (World.doorLaid Tryd.prog 400 os).layVars Tryd.prog laidTb
theorem tb_os (os : Os) : (tbWorld os).os = os := World.layVars_os _ _ _
theorem tb_met (os : Os) (args : Array Value) : laidMetH Tryd.prog laidTb ((tbWorld os).forCall (fun _ _ => 0) ⟨#[], args, []⟩).memory :=
  laidMetH_of_parts3 (fuel := 8)
    ((laidMet_layVars (w0 := World.doorLaid Tryd.prog 400 os) (w' := tbWorld os) (laid := laidTb) ["unicode/utf8.acceptRanges", "isthmus/txs.shapes", "unicode/utf8.first"] [] (by rfl) (by kernel_rfl) (by kernel_rfl) LaidIn.none).of_heap (by simp [World.memory, World.forCall, Input.heap]))
    (by kernel_rfl) (by kernel_rfl)
end Go.Proofs.YtllpnpeppdfjlaaDoor
