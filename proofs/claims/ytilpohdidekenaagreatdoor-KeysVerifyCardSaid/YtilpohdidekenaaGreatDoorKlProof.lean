/- For every two names and every depth, KeysLeft returns true and leaves its arguments as they were. Conditions: the two tables of package sha, the table of package frame and the variable errors.errorType read as the program's text lays them, which the card ties to that text; each string takes at most 2^47 - 4096 bytes. -/
import Derived.ProofKit
import Derived.LaidMore
import Derived.OpenShut
import Derived.Stop.Joined
import Derived.Stop.LaidErr
import Derived.Lib.LaidTab
import Derived.LaidHandle
import Derived.SizedLaws
import Derived.Carry
import Derived.ChangeMaps5
import Derived.Test.YtilpohdidekenaaGreatDoorTie
import Derived.Test.YtilpohdidekenaaGreatDoorCards
import Derived.SevenTiedAt
import Derived.Test.YtilpohdidekenaaGreatDoorKl2
import Derived.Test.YtilpohdidekenaaGreatDoorKl13
import Derived.Test.YtilpohdidekenaaGreatDoorKl15
import Derived.Test.YtilpohdidekenaaGreatDoorKl17
import Derived.Test.YtilpohdidekenaaGreatDoorKl34
import Derived.Test.YtilpohdidekenaaGreatDoorKl37
namespace Go.Proofs.YtilpohdidekenaaGreatDoor
set_option linter.unusedVariables false
set_option linter.unusedSimpArgs false
open Go.ChangeShapes Go.WideShapes Go.ChangeAt Go.RowKit
set_option maxRecDepth 100000
theorem doorOwn : ownKnob Tryz.prog.godebug = none := by kernel_rfl
theorem doorLaidOut : laidOutB Tryz.prog = true := by kernel_rfl
theorem nBegin : Tryz.prog.globalNamed "isthmus/sha.begin" = some 1 := by kernel_rfl
theorem nConst : Tryz.prog.globalNamed "isthmus/sha.constants" = some 3 := by kernel_rfl
theorem tyBegin : (Tryz.prog.globals[1]?).map (·.type) = some 169 := by kernel_rfl
theorem tyConst : (Tryz.prog.globals[3]?).map (·.type) = some 168 := by kernel_rfl
theorem toList_getD (f : Nat → Int) (n i : Nat) (h : i < n) : ((List.range n).map f).getD i 0 = f i := by simp [List.getD, h]
theorem dBegin {H : Type} : (Rows.laid_isthmus_sha_begin : DataW H) = Lib.tabData .u32 ((List.range 8).map BT) := by rfl
theorem dConst {H : Type} : (Rows.laid_isthmus_sha_constants : DataW H) = Lib.tabData .u32 ((List.range 64).map KT) := by rfl
theorem env_of_tabs {W : World} (hb : Lib.TabIs Tryz.prog W "isthmus/sha.begin" .u32 ((List.range 8).map BT)) (hc : Lib.TabIs Tryz.prog W "isthmus/sha.constants" .u32 ((List.range 64).map KT)) : Env W :=
  ⟨fun i hi => by
    have := hb.cell nBegin i (by simpa using hi)
    rw [toList_getD _ _ _ hi] at this; exact this,
   fun i hi => by
    have := hc.cell nConst i (by simpa using hi)
    rw [toList_getD _ _ _ hi] at this; exact this⟩
theorem gNibN : Tryz.prog.globalNamed "isthmus/frame.nibbles" = some 2 := by kernel_rfl
theorem tNibN : (Tryz.prog.globals[2]?).map (·.type) = some 220 := by kernel_rfl
theorem dNib {H : Type} : (Rows.laid_isthmus_frame_nibbles : DataW H) = Lib.tabData .u32 ((List.range 16).map fun i => ((tabN i : Nat) : Int)) := by rfl
theorem nib_of_tab {W : World} (h : Lib.TabIs Tryz.prog W "isthmus/frame.nibbles" .u32 ((List.range 16).map fun i => ((tabN i : Nat) : Int))) : NibAt W := fun i hi => by
  have := h.cell gNibN i (by simpa using hi)
  rw [toList_getD _ _ _ hi] at this; exact this
def laidTabs : List (String × DataW Unit) := [("isthmus/frame.nibbles", Rows.laid_isthmus_frame_nibbles), ("isthmus/sha.begin", Rows.laid_isthmus_sha_begin), ("isthmus/sha.constants", Rows.laid_isthmus_sha_constants)]
def laidKeys : List (String × DataW Unit) := [("errors.errorType", Rows.laid_errors_errorType), ("isthmus/frame.nibbles", Rows.laid_isthmus_frame_nibbles), ("isthmus/sha.begin", Rows.laid_isthmus_sha_begin), ("isthmus/sha.constants", Rows.laid_isthmus_sha_constants)]
def laidErrK : List (String × DataW Unit) := [("errors.errorType", Rows.laid_errors_errorType)]
theorem tabs_of_met {W : World} (h : laidMet Tryz.prog laidTabs W) : Env W ∧ NibAt W := by
  unfold laidTabs at h
  rw [dBegin, dConst, dNib] at h
  exact ⟨env_of_tabs (Lib.tabIs_of_head nBegin tyBegin Tryz.underlying169 Tryz.underlying167 (by kernel_rfl) (by kernel_rfl) h.tail)
    (Lib.tabIs_of_head nConst tyConst Tryz.underlying168 Tryz.underlying167 (by kernel_rfl) (by kernel_rfl) h.tail.tail),
    nib_of_tab (Lib.tabIs_of_head gNibN tNibN Tryz.underlying220 Tryz.underlying167 (by kernel_rfl) (by kernel_rfl) h)⟩
theorem doorEt : Tryz.prog.globalNamed "errors.errorType" = some 0 := by kernel_rfl
theorem doorRt : (Tryz.prog.cutTypes.find? (·.1 == "internal/reflectlite.rtype")).map (·.2) = some 180 := by kernel_rfl
theorem doorOneRow : ((List.range Tryz.prog.types.size).filter fun t => Tryz.prog.rowNamed t [101, 114, 114, 111, 114]) = [30] := by kernel_rfl
theorem err_of_met {W : World} {l : List (String × DataW Unit)} (hm : ("errors.errorType", Rows.laid_errors_errorType) ∈ l) (h : handlesMet Tryz.prog l W) : ErrType W := by
  obtain ⟨name, u, ty, e1, e2, e3, e4, e5⟩ := h _ hm
  have en : name = [101, 114, 114, 111, 114] := (Option.some.inj e1).symm
  subst en
  obtain rfl := Option.some.inj (doorRt.symm.trans e2)
  have hm : ty ∈ (List.range Tryz.prog.types.size).filter fun t => Tryz.prog.rowNamed t [101, 114, 114, 111, 114] := List.mem_filter.2 ⟨List.mem_range.2 e3, e4⟩
  rw [doorOneRow] at hm
  obtain rfl := List.mem_singleton.1 hm
  have hh : typeHandle Tryz.prog 30 = .pointer (some ⟨4, 30, none⟩) := by kernel_rfl
  rw [hh] at e5
  unfold ErrType
  simpa using World.var?_cell doorEt e5 0
theorem keys_of_laid {W : World} (h : laidMetH Tryz.prog laidKeys W) : KEnv W.heap.size W := by
  have h' : laidMet Tryz.prog laidTabs W ∧ handlesMet Tryz.prog laidErrK W := h
  obtain ⟨h1, h2⟩ := tabs_of_met h'.1
  have h3 : ErrType W := err_of_met (by simp [laidErrK]) h'.2
  exact ⟨h1, h2, h3, h1.lt, h2.lt, World.block_lt_of_cell? W _ h3⟩
theorem met_keys (os : Os) (args : Array Value) : laidMetH Tryz.prog laidKeys ((World.doorLaid Tryz.prog 400 os).forCall (fun _ _ => 0) ⟨#[], args, []⟩).memory :=
  laidMetH_of_parts3 (fuel := 8) (laidMet_of_run' 8 (by kernel_rfl) (by kernel_rfl)) (by kernel_rfl) (by kernel_rfl)
end Go.Proofs.YtilpohdidekenaaGreatDoor
namespace Go.Proofs.YtilpohdidekenaaGreatDoor
set_option linter.unusedVariables false
set_option linter.unusedSimpArgs false
open Go.ChangeShapes Go.WideShapes Go.ChangeAt Go.RowKit
set_option maxRecDepth 100000
theorem kleft_lifted (os : Os) (started : os.Started) (H : Type) (enc : TypeId × Value → H) :
    ReturnsInHanded {} Tryz.checked os 5 .any (fun w args => (Rows.keysLeftSpec.pre enc Tryz.prog Tryz.f5 [] false w args ∧ laidMetH Tryz.prog laidKeys w) ∧ sizedMet enc Tryz.prog Tryz.f5 (OpenSpec.ofChange Rows.keysLeftSpec) false w args)
      (Rows.keysLeftSpec.post enc Tryz.prog Tryz.f5 false true false false) := by
  refine returnsInHanded_of_change_and (C := Tryz.checked) (X := fun w _ => laidMetH Tryz.prog laidKeys w) (fun _ _ _ hh h => h.of_heap hh) doorOwn started (by kernel_rfl) Tryz.func5
    (ChangeSpec.witness_shaped (enc := enc) (C := Tryz.checked) (os := os) (X := fun w _ => laidMetH Tryz.prog laidKeys w) false (World.doorLaid Tryz.prog 400 os) #[.string { data := #[] }, .string { data := #[] }, .int .i64 0] 8 rfl (World.shaped_of_RefB (by kernel_rfl) (by kernel_rfl)) (by kernel_rfl) (by kernel_rfl) (by kernel_rfl) (met_keys os _)) ?_
  intro W base args ds gs before hval0 hW _ hsz0 hL _
  have hsz : (DataW.weightsEach Tryz.prog (Tryz.f5.params.toList ++ Rows.keysLeftSpec.plain.varTypes Tryz.prog) (ds ++ gs)).all (· ≤ reachBytes) = true := hsz0
  clear hsz0
  have hval : ∀ (j : Nat) t v, Tryz.f5.params[j]? = some t → args[j]? = some v → Value.okWide Tryz.prog W .any base t v := hval0
  have hW' := hW
  obtain ⟨p, q, hA0, hV, rfl, hfz, hnd⟩ := hW
  have hA : DataW.TrodAll enc Tryz.prog W 0 (fun _ => true) true Tryz.f5.params.toList args.toList ds p := hA0
  rw [Tryz.params5] at hA hval hsz
  obtain ⟨v0, vs0, d0, ds0, p0, q0, hargs, rfl, rfl, h0, r0⟩ := trodAll_cons hA
  obtain ⟨v1, vs1, d1, ds1, p1, q1, rfl, rfl, rfl, h1, r1⟩ := trodAll_cons r0
  obtain ⟨v2, vs2, d2, ds2, p2, q2, rfl, rfl, rfl, h2, r2⟩ := trodAll_cons r1
  obtain ⟨rfl, rfl, rfl⟩ := trodAll_nil r2
  obtain rfl : args = #[v0, v1, v2] := by cases args; simp_all
  obtain ⟨rfl, rfl⟩ := trodVars_none hV
  obtain ⟨s0, rfl, rfl, rfl, hs0⟩ := Go.ChangeMaps.open_string Tryz.underlying9 (hval 0 9 v0 rfl rfl) h0
  obtain ⟨s1, rfl, rfl, rfl, hs1⟩ := Go.ChangeMaps.open_string Tryz.underlying9 (hval 1 9 v1 rfl rfl) h1
  obtain ⟨a2, rfl, rfl, rfl, w2⟩ := open_int Tryz.underlying3 (hval 2 3 v2 rfl rfl) h2
  have b2 := bounds_i64 w2
  have hlen0 : s0.size ≤ 140737488351232 := by have h := sized_string hsz (j := 0) (t := 9) (by rfl) (by rfl); rw [Array.length_toList] at h; exact h
  have hlen1 : s1.size ≤ 140737488351232 := by have h := sized_string hsz (j := 1) (t := 9) (by rfl) (by rfl); rw [Array.length_toList] at h; exact h
  clear hA0 hval0
  refine (lleft_any s0 s1 a2 W (keys_of_laid hL) hlen0 hlen1).mono fun e W' ⟨he, bel⟩ => ?_
  subst he
  exact ⟨_, rfl, _, _, _, [], _, [], hW', trodAll_mk1 (shut_bool Tryz.underlying4 _), (trodAll_cons_mk (Go.ChangeMaps.shut_string Tryz.underlying9 hs0) (trodAll_cons_mk (Go.ChangeMaps.shut_string Tryz.underlying9 hs1) (trodAll_cons_mk (shut_int Tryz.underlying3 w2) trodAll_mk0))), rfl, bel.frame _, fun h => by cases h⟩
theorem kleft_holds : Rows.KeysLeftSaid :=
  OpenClaim.holds_of_wide 5 Tryz.f5 rfl rfl rfl rfl rfl rfl rfl ⟨rfl, rfl, rfl, rfl, rfl⟩ rfl rfl rfl rfl rfl (by kernel_rfl) Tryz.func5 (by kernel_rfl)
    (of_decide_eq_true (by kernel_rfl)) (by unfold Func.isWrapper; first | (rw [if_pos (by decide +kernel)]; kernel_rfl) | (rw [if_neg (by decide +kernel)]; exact ⟨rfl, rfl⟩))
    (fun os started H enc _ => kleft_lifted os started H enc)
theorem kleft_card : Rows.KeysLeftCardSaid :=
  Claim7.holds_tied_plain_at .later [] [.handle, .data, .data, .data] true _ true
    kleft_holds (fun _ h => by cases h) (by kernel_rfl) (fun _ h => by cases h) keysLeft_row_tie rfl ⟨rfl, rfl⟩ (by kernel_rfl) rfl
    (fun f fn hf hfn => by
      obtain rfl : f = 5 := Option.some.inj ((show Tryz.prog.funcNamed "isthmus/isthmuslaw06.KeysLeft" = some 5 by kernel_rfl).symm.trans hf) |>.symm
      obtain rfl : fn = Tryz.f5 := (Option.some.inj (Tryz.func5.symm.trans hfn)).symm
      exact ⟨by kernel_rfl, fun j t ht => by
        rw [Tryz.params5] at ht
        have hm : t ∈ [9, 9, 3] := by simpa using Array.mem_of_getElem? ht
        have hall : ([9, 9, 3].all fun u => !Tryz.prog.wantsStandIn u) = true := by kernel_rfl
        exact (show Tryz.prog.wantsStandIn t = false by simpa using List.all_eq_true.1 hall t hm)⟩)
    (by kernel_rfl)
#print axioms kleft_card
end Go.Proofs.YtilpohdidekenaaGreatDoor
