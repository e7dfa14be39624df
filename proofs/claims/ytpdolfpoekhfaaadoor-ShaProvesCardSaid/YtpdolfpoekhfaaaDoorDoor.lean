/- What the condition on the two listed tables gives; the start that meets it. -/
import Derived.Test.YtpdolfpoekhfaaaDoorCuts
import Derived.ProofKit
import Derived.LaidMore
import Derived.OpenShut
import Derived.Stop.Joined
import Derived.Stop.LaidErr
import Derived.Lib.LaidTab
import Derived.SizedLaws
namespace Go.Proofs.YtpdolfpoekhfaaaDoor
open Go.ChangeShapes Go.WideShapes Go.ChangeAt Go.RowKit
theorem own : ownKnob Tryd.prog.godebug = none := by kernel_rfl
theorem laidOut : laidOutB Tryd.prog = true := by kernel_rfl
theorem gBegin : Tryd.prog.globalNamed "isthmus/sha.begin" = some 0 := by kernel_rfl
theorem gConst : Tryd.prog.globalNamed "isthmus/sha.constants" = some 1 := by kernel_rfl
theorem tBegin : (Tryd.prog.globals[0]?).map (·.type) = some 59 := by kernel_rfl
theorem tConst : (Tryd.prog.globals[1]?).map (·.type) = some 58 := by kernel_rfl
def laid2 : List (String × DataW Unit) := [("isthmus/sha.begin", Rows.laid_isthmus_sha_begin), ("isthmus/sha.constants", Rows.laid_isthmus_sha_constants)]
def laid3 : List (String × DataW Unit) := [("errors.errorType", Rows.laid_errors_errorType), ("isthmus/sha.begin", Rows.laid_isthmus_sha_begin), ("isthmus/sha.constants", Rows.laid_isthmus_sha_constants)]
theorem dBegin {H : Type} : (Rows.laid_isthmus_sha_begin : DataW H) = Lib.tabData .u32 ((List.range 8).map BT) := by rfl
theorem dConst {H : Type} : (Rows.laid_isthmus_sha_constants : DataW H) = Lib.tabData .u32 ((List.range 64).map KT) := by rfl
theorem env_of_tabs {W : World} (hb : Lib.TabIs Tryd.prog W "isthmus/sha.begin" .u32 ((List.range 8).map BT)) (hc : Lib.TabIs Tryd.prog W "isthmus/sha.constants" .u32 ((List.range 64).map KT)) : Env W :=
  ⟨fun i hi => by
    have := hb.cell gBegin i (by simpa using hi)
    rw [toList_getD _ _ _ hi] at this; exact this,
   fun i hi => by
    have := hc.cell gConst i (by simpa using hi)
    rw [toList_getD _ _ _ hi] at this; exact this⟩
theorem env_of_laid2 {W : World} (h : laidMetH Tryd.prog laid2 W) : Env W := by
  rw [MakeChecks.laidMetH_plain _ _ _ (by kernel_rfl)] at h
  unfold laid2 at h
  rw [dBegin, dConst] at h
  exact env_of_tabs (Lib.tabIs_of_head gBegin tBegin Tryd.underlying59 Tryd.underlying57 (by kernel_rfl) (by kernel_rfl) h)
    (Lib.tabIs_of_head gConst tConst Tryd.underlying58 Tryd.underlying57 (by kernel_rfl) (by kernel_rfl) h.tail)
theorem door_met2 (os : Os) (args : Array Value) : laidMetH Tryd.prog laid2 ((World.doorLaid Tryd.prog 400 os).forCall (fun _ _ => 0) ⟨#[], args, []⟩).memory :=
  laidMetH_of_parts3 (fuel := 8) (laidMet_of_run' 8 (by kernel_rfl) (by kernel_rfl)) (by kernel_rfl) (by kernel_rfl)
end Go.Proofs.YtpdolfpoekhfaaaDoor
