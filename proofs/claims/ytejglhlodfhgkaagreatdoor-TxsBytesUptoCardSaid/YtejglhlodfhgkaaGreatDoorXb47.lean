/- Part 47 of the proof. -/
import Derived.ProofKit
import Derived.LaidMore
import Derived.OpenShut
import Derived.Stop.Joined
import Derived.Stop.LaidErr
import Derived.Lib.LaidTab
import Derived.LaidHandle
import Derived.SizedLaws
import Derived.Carry
import Derived.Lay
import Derived.Test.YtejglhlodfhgkaaGreatDoorXb1
import Derived.Test.YtejglhlodfhgkaaGreatDoorXb9
import Derived.Test.YtejglhlodfhgkaaGreatDoorXb30
namespace Go.Proofs.YtejglhlodfhgkaaGreatDoor
set_option linter.unusedVariables false
set_option linter.unusedSimpArgs false
open Go.ChangeShapes Go.WideShapes Go.ChangeAt Go.RowKit
set_option maxRecDepth 100000
theorem doorOwn : ownKnob Tryz.prog.godebug = none := by kernel_rfl
theorem doorLaidOut : laidOutB Tryz.prog = true := by kernel_rfl
def laidTx : List (String × DataW Unit) := [("unicode/utf8.acceptRanges", Rows.laid_unicode_utf8_acceptRanges), ("errors.errorType", Rows.laid_errors_errorType), ("isthmus/txs.shapes", Rows.laid_isthmus_txs_shapes), ("unicode/utf8.first", Rows.laid_unicode_utf8_first)]
def laidTd : List (String × DataW Unit) := [("unicode/utf8.acceptRanges", Rows.laid_unicode_utf8_acceptRanges), ("isthmus/txs.shapes", Rows.laid_isthmus_txs_shapes), ("unicode/utf8.first", Rows.laid_unicode_utf8_first)]
def laidEr : List (String × DataW Unit) := [("errors.errorType", Rows.laid_errors_errorType)]
theorem doorEt : Tryz.prog.globalNamed "errors.errorType" = some 1 := by kernel_rfl
theorem doorRt : (Tryz.prog.cutTypes.find? (·.1 == "internal/reflectlite.rtype")).map (·.2) = some 260 := by kernel_rfl
theorem doorOneRow : ((List.range Tryz.prog.types.size).filter fun t => Tryz.prog.rowNamed t [101, 114, 114, 111, 114]) = [29] := by kernel_rfl
theorem nShapes : Tryz.prog.globalNamed "isthmus/txs.shapes" = some 0 := by kernel_rfl
theorem tyShapes : (Tryz.prog.globals[0]?).map (·.type) = some 138 := by kernel_rfl
theorem dShapes {H : Type} : (Rows.laid_isthmus_txs_shapes : DataW H) = .agg (shpL.map fun r => .agg ((shpR r).map fun z => .lit (.int .i64 z))) := by rfl
theorem tx_tab {W : World} (h : laidMetH Tryz.prog laidTx W) : ShTab W := by
  have h' : laidMet Tryz.prog laidTd W ∧ handlesMet Tryz.prog laidEr W := h
  have h := h'.1.tail
  rw [dShapes] at h
  exact shTab_of_head nShapes tyShapes h
theorem tx_err {W : World} (h : laidMetH Tryz.prog laidTx W) : ErrType W := by
  have h' : laidMet Tryz.prog laidTd W ∧ handlesMet Tryz.prog laidEr W := h
  obtain ⟨name, u, ty, e1, e2, e3, e4, e5⟩ := h'.2 _ (List.mem_singleton.2 rfl)
  have en : name = [101, 114, 114, 111, 114] := (Option.some.inj e1).symm
  subst en
  obtain rfl := Option.some.inj (doorRt.symm.trans e2)
  have hm : ty ∈ (List.range Tryz.prog.types.size).filter fun t => Tryz.prog.rowNamed t [101, 114, 114, 111, 114] := List.mem_filter.2 ⟨List.mem_range.2 e3, e4⟩
  rw [doorOneRow] at hm
  obtain rfl := List.mem_singleton.1 hm
  have hh : typeHandle Tryz.prog 29 = .pointer (some ⟨7, 29, none⟩) := by kernel_rfl
  rw [hh] at e5
  unfold ErrType
  simpa using World.var?_cell doorEt e5 0
noncomputable def txWorld (os : Os) : World := (World.doorLaid Tryz.prog 400 os).layVars Tryz.prog laidTd
theorem tx_os (os : Os) : (txWorld os).os = os := World.layVars_os _ _ _
theorem tx_met (os : Os) (args : Array Value) : laidMetH Tryz.prog laidTx ((txWorld os).forCall (fun _ _ => 0) ⟨#[], args, []⟩).memory :=
  laidMetH_of_parts3 (fuel := 8)
    ((laidMet_layVars (w0 := World.doorLaid Tryz.prog 400 os) (w' := txWorld os) (laid := laidTd) ["unicode/utf8.acceptRanges", "isthmus/txs.shapes", "unicode/utf8.first"] [] (by rfl) (by kernel_rfl) (by kernel_rfl) LaidIn.none).of_heap (by simp [World.memory, World.forCall, Input.heap]))
    (by kernel_rfl) (by kernel_rfl)
end Go.Proofs.YtejglhlodfhgkaaGreatDoor
