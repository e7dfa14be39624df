/- What the conditions on the two tables of package sha and the two of package utf8 give; the start that meets them. -/
import Derived.Test.YteokgklfljhcaaaDoorShSumM
import Derived.Test.YteokgklfljhcaaaDoorArg
import Derived.ProofKit
import Derived.LaidMore
import Derived.OpenShut
import Derived.Stop.Joined
import Derived.Stop.LaidErr
import Derived.Lib.LaidTab
import Derived.LaidHandle
import Derived.SizedLaws
import Derived.Carry
import Derived.Lay
namespace Go.Proofs.YteokgklfljhcaaaDoor
open Go.ChangeShapes Go.WideShapes Go.ChangeAt Go.RowKit
set_option maxRecDepth 100000
theorem doorOwn : ownKnob Tryd.prog.godebug = none := by kernel_rfl
theorem doorLaidOut : laidOutB Tryd.prog = true := by kernel_rfl
theorem nBegin : Tryd.prog.globalNamed "isthmus/sha.begin" = some 1 := by kernel_rfl
theorem nConst : Tryd.prog.globalNamed "isthmus/sha.constants" = some 2 := by kernel_rfl
theorem tyBegin : (Tryd.prog.globals[1]?).map (·.type) = some 127 := by kernel_rfl
theorem tyConst : (Tryd.prog.globals[2]?).map (·.type) = some 139 := by kernel_rfl
def laidBk : List (String × DataW Unit) := [("unicode/utf8.acceptRanges", Rows.laid_unicode_utf8_acceptRanges), ("isthmus/sha.begin", Rows.laid_isthmus_sha_begin), ("isthmus/sha.constants", Rows.laid_isthmus_sha_constants), ("unicode/utf8.first", Rows.laid_unicode_utf8_first)]
theorem toList_getD (f : Nat → Int) (n i : Nat) (h : i < n) : ((List.range n).map f).getD i 0 = f i := by simp [List.getD, h]
theorem dBegin {H : Type} : (Rows.laid_isthmus_sha_begin : DataW H) = Lib.tabData .u32 ((List.range 8).map BT) := by rfl
theorem dConst {H : Type} : (Rows.laid_isthmus_sha_constants : DataW H) = Lib.tabData .u32 ((List.range 64).map KT) := by rfl
theorem env_of_tabs {W : World} (hb : Lib.TabIs Tryd.prog W "isthmus/sha.begin" .u32 ((List.range 8).map BT)) (hc : Lib.TabIs Tryd.prog W "isthmus/sha.constants" .u32 ((List.range 64).map KT)) : Env W :=
  ⟨fun i hi => by
    have := hb.cell nBegin i (by simpa using hi)
    rw [toList_getD _ _ _ hi] at this; exact this,
   fun i hi => by
    have := hc.cell nConst i (by simpa using hi)
    rw [toList_getD _ _ _ hi] at this; exact this⟩
theorem bk_env {W : World} (h : laidMetH Tryd.prog laidBk W) : Env W := by
  rw [MakeChecks.laidMetH_plain _ _ _ (by kernel_rfl)] at h
  unfold laidBk at h
  rw [dBegin, dConst] at h
  exact env_of_tabs (Lib.tabIs_of_head nBegin tyBegin Tryd.underlying127 Tryd.underlying126 (by kernel_rfl) (by kernel_rfl) h.tail)
    (Lib.tabIs_of_head nConst tyConst Tryd.underlying139 Tryd.underlying126 (by kernel_rfl) (by kernel_rfl) h.tail.tail)
noncomputable def bkWorld (os : Os) : World := (World.doorLaid Tryd.prog 400 os).layVars Tryd.prog laidBk
theorem bk_os (os : Os) : (bkWorld os).os = os := World.layVars_os _ _ _
theorem bk_met (os : Os) (args : Array Value) : laidMetH Tryd.prog laidBk ((bkWorld os).forCall (fun _ _ => 0) ⟨#[], args, []⟩).memory :=
  laidMetH_of_parts3 (fuel := 8)
    ((laidMet_layVars (w0 := World.doorLaid Tryd.prog 400 os) (w' := bkWorld os) (laid := laidBk) ["unicode/utf8.acceptRanges", "isthmus/sha.begin", "isthmus/sha.constants", "unicode/utf8.first"] [] (by rfl) (by kernel_rfl) (by kernel_rfl) LaidIn.none).of_heap (by simp [World.memory, World.forCall, Input.heap]))
    (by kernel_rfl) (by kernel_rfl)
end Go.Proofs.YteokgklfljhcaaaDoor
