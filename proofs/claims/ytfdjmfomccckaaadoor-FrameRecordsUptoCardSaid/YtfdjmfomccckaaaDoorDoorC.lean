/- What the conditions on the table of package frame and on errors.errorType give; the start that meets them. -/
import Derived.Test.YtfdjmfomccckaaaDoorSumC
import Derived.Test.YtfdjmfomccckaaaDoorNum
import Derived.Test.YtfdjmfomccckaaaDoorArg
import Derived.ProofKit
import Derived.LaidMore
import Derived.OpenShut
import Derived.Stop.Joined
import Derived.Stop.LaidErr
import Derived.Lib.LaidTab
import Derived.LaidHandle
import Derived.SizedLaws
import Derived.Carry
namespace Go.Proofs.YtfdjmfomccckaaaDoor
open Go.ChangeShapes Go.WideShapes Go.ChangeAt Go.RowKit
set_option maxRecDepth 100000
theorem doorOwn : ownKnob Tryd.prog.godebug = none := by kernel_rfl
theorem doorLaidOut : laidOutB Tryd.prog = true := by kernel_rfl
def laidNib : List (String × DataW Unit) := [("isthmus/frame.nibbles", Rows.laid_isthmus_frame_nibbles)]
theorem gNibN : Tryd.prog.globalNamed "isthmus/frame.nibbles" = some 0 := by kernel_rfl
theorem tNibN : (Tryd.prog.globals[0]?).map (·.type) = some 57 := by kernel_rfl
theorem toList_getD (f : Nat → Int) (n i : Nat) (h : i < n) : ((List.range n).map f).getD i 0 = f i := by simp [List.getD, h]
theorem dNib {H : Type} : (Rows.laid_isthmus_frame_nibbles : DataW H) = Lib.tabData .u32 ((List.range 16).map fun i => ((tabN i : Nat) : Int)) := by rfl
theorem nib_of_tab {W : World} (h : Lib.TabIs Tryd.prog W "isthmus/frame.nibbles" .u32 ((List.range 16).map fun i => ((tabN i : Nat) : Int))) : NibAt W := fun i hi => by
  have := h.cell gNibN i (by simpa using hi)
  rw [toList_getD _ _ _ hi] at this; exact this
theorem nib_of_met {W : World} (h : laidMet Tryd.prog laidNib W) : NibAt W := by
  unfold laidNib at h
  rw [dNib] at h
  exact nib_of_tab (Lib.tabIs_of_head gNibN tNibN Tryd.underlying57 Tryd.underlying42 (by kernel_rfl) (by kernel_rfl) h)
theorem nib_of_laid {W : World} (h : laidMetH Tryd.prog laidNib W) : NibAt W := by
  rw [MakeChecks.laidMetH_plain _ _ _ (by kernel_rfl)] at h
  exact nib_of_met h
theorem met_nib (os : Os) (args : Array Value) : laidMetH Tryd.prog laidNib ((World.doorLaid Tryd.prog 400 os).forCall (fun _ _ => 0) ⟨#[], args, []⟩).memory :=
  laidMetH_of_parts3 (fuel := 8) (laidMet_of_run' 8 (by kernel_rfl) (by kernel_rfl)) (by kernel_rfl) (by kernel_rfl)
def laidBoth : List (String × DataW Unit) := [("errors.errorType", Rows.laid_errors_errorType), ("isthmus/frame.nibbles", Rows.laid_isthmus_frame_nibbles)]
def laidErr : List (String × DataW Unit) := [("errors.errorType", Rows.laid_errors_errorType)]
theorem doorEt : Tryd.prog.globalNamed "errors.errorType" = some 1 := by kernel_rfl
theorem doorRt : (Tryd.prog.cutTypes.find? (·.1 == "internal/reflectlite.rtype")).map (·.2) = some 73 := by kernel_rfl
theorem doorOneRow : ((List.range Tryd.prog.types.size).filter fun t => Tryd.prog.rowNamed t [101, 114, 114, 111, 114]) = [25] := by kernel_rfl
theorem err_of_met {W : World} {l : List (String × DataW Unit)} (hm : ("errors.errorType", Rows.laid_errors_errorType) ∈ l) (h : handlesMet Tryd.prog l W) : ErrType W := by
  obtain ⟨name, u, ty, e1, e2, e3, e4, e5⟩ := h _ hm
  have en : name = [101, 114, 114, 111, 114] := (Option.some.inj e1).symm
  subst en
  obtain rfl := Option.some.inj (doorRt.symm.trans e2)
  have hm : ty ∈ (List.range Tryd.prog.types.size).filter fun t => Tryd.prog.rowNamed t [101, 114, 114, 111, 114] := List.mem_filter.2 ⟨List.mem_range.2 e3, e4⟩
  rw [doorOneRow] at hm
  obtain rfl := List.mem_singleton.1 hm
  have hh : typeHandle Tryd.prog 25 = .pointer (some ⟨2, 25, none⟩) := by kernel_rfl
  rw [hh] at e5
  unfold ErrType
  simpa using World.var?_cell doorEt e5 0
theorem both_of_laid {W : World} (h : laidMetH Tryd.prog laidBoth W) : NibAt W ∧ ErrType W := by
  have h' : laidMet Tryd.prog laidNib W ∧ handlesMet Tryd.prog laidErr W := h
  exact ⟨nib_of_met h'.1, err_of_met (by simp [laidErr]) h'.2⟩
theorem met_both (os : Os) (args : Array Value) : laidMetH Tryd.prog laidBoth ((World.doorLaid Tryd.prog 400 os).forCall (fun _ _ => 0) ⟨#[], args, []⟩).memory :=
  laidMetH_of_parts3 (fuel := 8) (laidMet_of_run' 8 (by kernel_rfl) (by kernel_rfl)) (by kernel_rfl) (by kernel_rfl)
end Go.Proofs.YtfdjmfomccckaaaDoor
