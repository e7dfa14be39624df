/- For all pairs that are together of bulk at most 1048576 (values and letters), ProofAll returns true and leaves its argument as it was. Conditions: that bulk; errors.errorType and the two tables of package sha read as the program's text lays them, which the card ties to that text. -/
import Derived.ProofKit
import Derived.LaidMore
import Derived.OpenShut
import Derived.Stop.Joined
import Derived.Stop.LaidErr
import Derived.Lib.LaidTab
import Derived.LaidHandle
import Derived.SizedLaws
import Derived.Carry
import Derived.Deep.DeepHandedRow
import Derived.Deep.DeepWitnessRowRef
import Derived.Test.YtfmfemmknccfmaaDoorTie
import Derived.Test.YtfmfemmknccfmaaDoorCards
import Derived.SevenTiedAt
import Derived.Test.YtfmfemmknccfmaaDoorPa8
import Derived.Test.YtfmfemmknccfmaaDoorPa36
import Derived.Test.YtfmfemmknccfmaaDoorPa44
import Derived.Test.YtfmfemmknccfmaaDoorPa45
namespace Go.Proofs.YtfmfemmknccfmaaDoor
set_option linter.unusedVariables false
set_option linter.unusedSimpArgs false
open Go.ChangeShapes Go.WideShapes Go.ChangeAt Go.RowKit
set_option maxRecDepth 100000
theorem doorOwn : ownKnob Tryd.prog.godebug = none := by kernel_rfl
theorem doorLaidOut : laidOutB Tryd.prog = true := by kernel_rfl
theorem nBegin : Tryd.prog.globalNamed "isthmus/sha.begin" = some 1 := by kernel_rfl
theorem nConst : Tryd.prog.globalNamed "isthmus/sha.constants" = some 2 := by kernel_rfl
theorem tyBegin : (Tryd.prog.globals[1]?).map (·.type) = some 156 := by kernel_rfl
theorem tyConst : (Tryd.prog.globals[2]?).map (·.type) = some 155 := by kernel_rfl
def laidSha : List (String × DataW Unit) := [("isthmus/sha.begin", Rows.laid_isthmus_sha_begin), ("isthmus/sha.constants", Rows.laid_isthmus_sha_constants)]
theorem toList_getD (f : Nat → Int) (n i : Nat) (h : i < n) : ((List.range n).map f).getD i 0 = f i := by simp [List.getD, h]
theorem dBegin {H : Type} : (Rows.laid_isthmus_sha_begin : DataW H) = Lib.tabData .u32 ((List.range 8).map BT) := by rfl
theorem dConst {H : Type} : (Rows.laid_isthmus_sha_constants : DataW H) = Lib.tabData .u32 ((List.range 64).map KT) := by rfl
theorem env_of_tabs {W : World} (hb : Lib.TabIs Tryd.prog W "isthmus/sha.begin" .u32 ((List.range 8).map BT)) (hc : Lib.TabIs Tryd.prog W "isthmus/sha.constants" .u32 ((List.range 64).map KT)) : Env W :=
  ⟨fun i hi => by
    have := hb.cell nBegin i (by simpa using hi)
    rw [toList_getD _ _ _ hi] at this; exact this,
   fun i hi => by
    have := hc.cell nConst i (by simpa using hi)
    rw [toList_getD _ _ _ hi] at this; exact this⟩
theorem env_of_met {W : World} (h : laidMet Tryd.prog laidSha W) : Env W := by
  unfold laidSha at h
  rw [dBegin, dConst] at h
  exact env_of_tabs (Lib.tabIs_of_head nBegin tyBegin Tryd.underlying156 Tryd.underlying154 (by kernel_rfl) (by kernel_rfl) h)
    (Lib.tabIs_of_head nConst tyConst Tryd.underlying155 Tryd.underlying154 (by kernel_rfl) (by kernel_rfl) h.tail)
theorem env_of_laid {W : World} (h : laidMetH Tryd.prog laidSha W) : Env W := by
  rw [MakeChecks.laidMetH_plain _ _ _ (by kernel_rfl)] at h
  exact env_of_met h
theorem met_sha (os : Os) (args : Array Value) : laidMetH Tryd.prog laidSha ((World.doorLaid Tryd.prog 400 os).forCall (fun _ _ => 0) ⟨#[], args, []⟩).memory :=
  laidMetH_of_parts3 (fuel := 8) (laidMet_of_run' 8 (by kernel_rfl) (by kernel_rfl)) (by kernel_rfl) (by kernel_rfl)
def laidShaErr : List (String × DataW Unit) := [("errors.errorType", Rows.laid_errors_errorType), ("isthmus/sha.begin", Rows.laid_isthmus_sha_begin), ("isthmus/sha.constants", Rows.laid_isthmus_sha_constants)]
def laidErrS : List (String × DataW Unit) := [("errors.errorType", Rows.laid_errors_errorType)]
theorem doorEt : Tryd.prog.globalNamed "errors.errorType" = some 0 := by kernel_rfl
theorem doorRt : (Tryd.prog.cutTypes.find? (·.1 == "internal/reflectlite.rtype")).map (·.2) = some 185 := by kernel_rfl
theorem doorOneRow : ((List.range Tryd.prog.types.size).filter fun t => Tryd.prog.rowNamed t [101, 114, 114, 111, 114]) = [34] := by kernel_rfl
theorem err_of_met {W : World} {l : List (String × DataW Unit)} (hm : ("errors.errorType", Rows.laid_errors_errorType) ∈ l) (h : handlesMet Tryd.prog l W) : ErrType W := by
  obtain ⟨name, u, ty, e1, e2, e3, e4, e5⟩ := h _ hm
  have en : name = [101, 114, 114, 111, 114] := (Option.some.inj e1).symm
  subst en
  obtain rfl := Option.some.inj (doorRt.symm.trans e2)
  have hm : ty ∈ (List.range Tryd.prog.types.size).filter fun t => Tryd.prog.rowNamed t [101, 114, 114, 111, 114] := List.mem_filter.2 ⟨List.mem_range.2 e3, e4⟩
  rw [doorOneRow] at hm
  obtain rfl := List.mem_singleton.1 hm
  have hh : typeHandle Tryd.prog 34 = .pointer (some ⟨3, 34, none⟩) := by kernel_rfl
  rw [hh] at e5
  unfold ErrType
  simpa using World.var?_cell doorEt e5 0
theorem shaErr_of_laid {W : World} (h : laidMetH Tryd.prog laidShaErr W) : Env W ∧ ErrType W := by
  have h' : laidMet Tryd.prog laidSha W ∧ handlesMet Tryd.prog laidErrS W := h
  exact ⟨env_of_met h'.1, err_of_met (by simp [laidErrS]) h'.2⟩
theorem met_shaErr (os : Os) (args : Array Value) : laidMetH Tryd.prog laidShaErr ((World.doorLaid Tryd.prog 400 os).forCall (fun _ _ => 0) ⟨#[], args, []⟩).memory :=
  laidMetH_of_parts3 (fuel := 8) (laidMet_of_run' 8 (by kernel_rfl) (by kernel_rfl)) (by kernel_rfl) (by kernel_rfl)
end Go.Proofs.YtfmfemmknccfmaaDoor
namespace Go.Proofs.YtfmfemmknccfmaaDoor
set_option linter.unusedVariables false
set_option linter.unusedSimpArgs false
open Go.ChangeShapes Go.WideShapes Go.ChangeAt Go.RowKit
set_option maxRecDepth 100000
theorem pvall_lifted (os : Os) (started : os.Started) (H : Type) (enc : TypeId × Value → H) (F : Stop.Interp) :
    ReturnsInHanded {} Tryd.checked os 6 .any ((Rows.OpenSpec.upto Rows.proofAllSpec).preRow enc Tryd.prog Tryd.f6 Rows.proofAllUptoRow.domain false laidShaErr) (((Rows.OpenSpec.upto Rows.proofAllSpec).at F).post enc Tryd.prog Tryd.f6 false true false false) := by
  refine returnsInHanded_of_row (C := Tryd.checked) (s := Rows.OpenSpec.upto Rows.proofAllSpec) doorOwn started (by kernel_rfl) Tryd.func6
    (witness_row_atRef (enc := enc) (C := Tryd.checked) false (World.doorLaid Tryd.prog 400 os) #[.slice none 0 0] rfl (by kernel_rfl) (by kernel_rfl) (by kernel_rfl)
      (OpenSpec.preRow_of_cond (x := ([.nil], [], [])) 8 (by kernel_rfl) (by kernel_rfl) (fun k hk => by cases hk; kernel_rfl) (by kernel_rfl) (met_shaErr os _))) ?_
  intro W base args ds gs before hval0 hW _ hcond _ hL _ _
  have hb : Rows.uptoBulkAll (ds ++ gs) ≤ 1048576 := of_decide_eq_true (hcond _ rfl)
  have hval : ∀ (j : Nat) t v, Tryd.f6.params[j]? = some t → args[j]? = some v → Value.okWide Tryd.prog W .any base t v := hval0
  have hW' := hW
  obtain ⟨p, q, hA0, hV, rfl, hfz, hnd⟩ := hW
  have hA : DataW.TrodAll enc Tryd.prog W 0 (fun _ => true) true Tryd.f6.params.toList args.toList ds p := hA0
  rw [Tryd.params6] at hA hval
  obtain ⟨v0, vs0, d0, ds0, p0, q0, hargs, rfl, rfl, h0, r0⟩ := trodAll_cons hA
  obtain ⟨rfl, rfl, rfl⟩ := trodAll_nil r0
  obtain rfl : args = #[v0] := by cases args; simp_all
  obtain ⟨rfl, rfl⟩ := trodVars_none hV
  obtain ⟨a0, len0, cap0, rfl⟩ := okWide_slice Tryd.underlying24 (hval 0 24 v0 rfl rfl)
  have k0 := h0
  have lt0 : ∀ x ∈ p0, x.block < W.heap.size := by obtain ⟨m, hm⟩ := k0; exact DataW.trod_lt m _ _ _ hm
  obtain ⟨ts0, hxl0, hx0, hbk0⟩ := kvs_arg h0
  simp only [List.append_nil, Rows.uptoBulkAll] at hb
  clear hA0 hval0
  refine (lall_any _ ts0 1048576 W (shaErr_of_laid hL).1 (shaErr_of_laid hL).2 hx0 (fun t h => Nat.le_trans (hbk0 t h) (by omega)) (Nat.le_refl _)).mono fun e W' ⟨he, bel⟩ => ?_
  subst he
  exact ⟨_, rfl, _, _, _, [], _, [], hW', trodAll_mk1 (shut_bool Tryd.underlying4 _), (trodAll_cons_mk (Below.trod doorLaidOut (by kernel_rfl) (of_decide_eq_true (by kernel_rfl)) k0 bel lt0) trodAll_mk0), rfl, bel.frame _, fun h => by cases h⟩
theorem pvall_holds : Rows.ProofAllUptoSaid :=
  OpenClaim.holds_of_cond 6 Tryd.f6 rfl rfl rfl rfl rfl rfl rfl ⟨rfl, rfl, rfl, rfl, rfl⟩ rfl rfl rfl rfl rfl (by kernel_rfl) Tryd.func6 (by kernel_rfl)
    (of_decide_eq_true (by kernel_rfl)) (by unfold Func.isWrapper; first | (rw [if_pos (by decide +kernel)]; kernel_rfl) | (rw [if_neg (by decide +kernel)]; exact ⟨rfl, rfl⟩))
    (fun os started H enc _ F => by rw [OpenClaim.pre_eq_preRow]; exact pvall_lifted os started H enc F)
theorem pvall_card : Rows.ProofAllUptoCardSaid :=
  Claim7.holds_tied_plain_at .later [] [.handle, .data, .data] true _ true
    pvall_holds (fun _ h => by cases h) (by kernel_rfl) (fun _ h => by cases h) proofAllUpto_row_tie rfl ⟨rfl, rfl⟩ (by kernel_rfl) rfl
    (fun f fn hf hfn => by
      obtain rfl : f = 6 := Option.some.inj ((show Tryd.prog.funcNamed "isthmus/isthmuslaw08.ProofAll" = some 6 by kernel_rfl).symm.trans hf) |>.symm
      obtain rfl : fn = Tryd.f6 := (Option.some.inj (Tryd.func6.symm.trans hfn)).symm
      exact ⟨by kernel_rfl, fun j t ht => by
        rw [Tryd.params6] at ht
        have hm : t ∈ [24] := by simpa using Array.mem_of_getElem? ht
        have hall : ([24].all fun u => !Tryd.prog.wantsStandIn u) = true := by kernel_rfl
        exact (show Tryd.prog.wantsStandIn t = false by simpa using List.all_eq_true.1 hall t hm)⟩)
    (by kernel_rfl)
#print axioms pvall_card
end Go.Proofs.YtfmfemmknccfmaaDoor
