/- For all acts and whatever is asked that are together of bulk at most 1048576 (values and letters), AvlRuns returns true and leaves its arguments as they were. Conditions: that bulk; errors.errorType and the two tables of package sha read as the program's text lays them, which the card ties to that text. -/
import Derived.ProofKit
import Derived.LaidMore
import Derived.OpenShut
import Derived.Stop.Joined
import Derived.Stop.LaidErr
import Derived.Lib.LaidTab
import Derived.LaidHandle
import Derived.SizedLaws
import Derived.Carry
import Derived.Deep.DeepHandedRow
import Derived.Deep.DeepWitnessRowRef
import Derived.ChangeMaps5
import Derived.Test.YtjocbpabbbdkcaaDoorTie
import Derived.Test.YtjocbpabbbdkcaaDoorCards
import Derived.SevenTiedAt
import Derived.Test.YtjocbpabbbdkcaaDoorRu10
import Derived.Test.YtjocbpabbbdkcaaDoorRu30
import Derived.Test.YtjocbpabbbdkcaaDoorRu31
import Derived.Test.YtjocbpabbbdkcaaDoorRu43
import Derived.Test.YtjocbpabbbdkcaaDoorRu46
namespace Go.Proofs.YtjocbpabbbdkcaaDoor
set_option linter.unusedVariables false
set_option linter.unusedSimpArgs false
open Go.ChangeShapes Go.WideShapes Go.ChangeAt Go.RowKit
theorem okWide_arr {P : Program} {w : World} {r : Reach} {base : Nat} {t e : TypeId} {n : Nat} {v : Value} (ht : P.underlying t = some (.array n e)) (h : Value.okWide P w r base t v) : ∃ cs, v = .agg cs ∧ cs.size = P.cellsOf t := by
  simp only [Value.okWide, ht] at h
  obtain ⟨cs, h1, h2, _⟩ := h
  exact ⟨cs, h1, h2⟩
theorem one_take {α : Type} {l : List α} {k : Nat} {v : α} (h : (l.drop k).take 1 = [v]) : l[k]? = some v := by
  have h1 : ((l.drop k).take 1)[0]? = some v := by rw [h]; rfl
  rw [List.getElem?_take, if_pos (by omega), List.getElem?_drop, Nat.add_zero] at h1
  exact h1
theorem arr_raw {H : Type} {enc : TypeId × Value → H} {W : World} {t e : TypeId} {k : IntKind} {n fuel : Nat} {cs : List Value} {x : DataW H × List MemPlace} (ht : Tryd.prog.underlying t = some (.array n e)) (he : Tryd.prog.underlying e = some (.int k)) (hc : Tryd.prog.cellsOf e = 1) (hct : Tryd.prog.cellsOf t = n)
    (h : DataW.trod enc Tryd.prog W 0 (fun _ => true) true fuel t cs = some x) : ∃ F : Nat → Int, cs = (rowOf k n F).toList ∧ ∀ i, i < n → (Lit.int k (F i)).wf = true := by
  obtain ⟨zs, m', _, _, hl, hzl, hzs⟩ := DataW.trod_array ht h
  have key : ∃ F : Nat → Int, ∀ j, j < n → cs[j]? = some (.int k (F j)) ∧ (Lit.int k (F j)).wf = true := by
    refine Deep.choose_lt (p := fun j v => cs[j]? = some (.int k v) ∧ (Lit.int k v).wf = true) fun j hj => ?_
    have h3 := hzs j hj
    rw [hc, Nat.mul_one, List.getElem?_eq_getElem (by omega)] at h3
    obtain ⟨v, hv, _, hw⟩ := DataW.trod_int he h3
    exact ⟨v, one_take hv, hw⟩
  obtain ⟨F, hF⟩ := key
  refine ⟨F, ?_, fun i hi => (hF i hi).2⟩
  apply List.ext_getElem?
  intro i
  rcases Nat.lt_or_ge i n with h1 | h1
  · rw [(hF i h1).1]; simp [rowOf, h1]
  · rw [List.getElem?_eq_none (by rw [hl, hct]; exact h1), List.getElem?_eq_none (by simpa [rowOf] using h1)]
theorem arr_arg {H : Type} {enc : TypeId × Value → H} {W : World} {t e : TypeId} {k : IntKind} {n : Nat} {cs : Array Value} {d : DataW H} {p : List MemPlace} (ht : Tryd.prog.underlying t = some (.array n e)) (he : Tryd.prog.underlying e = some (.int k)) (hc : Tryd.prog.cellsOf e = 1) (hct : Tryd.prog.cellsOf t = n)
    (h : DataW.Trod enc Tryd.prog W 0 (fun _ => true) true t (.agg cs) d p) : ∃ F : Nat → Int, cs = rowOf k n F ∧ ∀ i, i < n → (Lit.int k (F i)).wf = true := by
  obtain ⟨fuel, hf⟩ := h
  obtain ⟨F, h1, h2⟩ := arr_raw ht he hc hct hf
  refine ⟨F, ?_, h2⟩
  have h3 : cs.toList = (rowOf k n F).toList := by simpa [Value.cells] using h1
  exact Array.toList_inj.1 h3
end Go.Proofs.YtjocbpabbbdkcaaDoor
namespace Go.Proofs.YtjocbpabbbdkcaaDoor
set_option linter.unusedVariables false
set_option linter.unusedSimpArgs false
open Go.ChangeShapes Go.WideShapes Go.ChangeAt Go.RowKit
set_option maxRecDepth 100000
theorem asked_arg {H : Type} {enc : TypeId × Value → H} {W : World} {cs : Array Value} {d : DataW H} {p : List MemPlace} (h : DataW.Trod enc Tryd.prog W 0 (fun _ => true) true 24 (.agg cs) d p) :
    ∃ (K T : ByteArray) (P : Int), cs = #[.string K, .string T, .int .i64 P] ∧ K.size + T.size ≤ Rows.uptoBulk d := by
  obtain ⟨fuel, hf⟩ := h
  have hf' : DataW.trod enc Tryd.prog W 0 (fun _ => true) true fuel 24 cs.toList = some (d, p) := by simpa [Value.cells] using hf
  obtain ⟨xs, m, _, hx, hlen, hxl, hff⟩ := DataW.trod_struct Tryd.underlying24 hf'
  rw [show Tryd.prog.cellsOf 24 = 3 by kernel_rfl] at hlen
  simp only [List.size_toArray, List.length_cons, List.length_nil] at hxl
  have g : ∀ i, i < 3 → ∃ y, xs[i]? = some y := fun i hi => ⟨xs[i], List.getElem?_eq_getElem (by omega)⟩
  obtain ⟨y0, e0⟩ := g 0 (by omega)
  obtain ⟨y1, e1⟩ := g 1 (by omega)
  obtain ⟨y2, e2⟩ := g 2 (by omega)
  have f0 : DataW.trod enc Tryd.prog W 0 (fun _ => true) true m 9 ((cs.toList.drop 0).take (Tryd.prog.cellsOf 9)) = xs[0]? := hff 0 _ rfl
  have f1 : DataW.trod enc Tryd.prog W 0 (fun _ => true) true m 9 ((cs.toList.drop 1).take (Tryd.prog.cellsOf 9)) = xs[1]? := hff 1 _ rfl
  have f2 : DataW.trod enc Tryd.prog W 0 (fun _ => true) true m 3 ((cs.toList.drop 2).take (Tryd.prog.cellsOf 3)) = xs[2]? := hff 2 _ rfl
  rw [e0, avcellsS] at f0
  rw [e1, avcellsS] at f1
  rw [e2, avcellsI] at f2
  obtain ⟨K, h0, x0, _⟩ := DataW.trod_string Tryd.underlying9 f0
  obtain ⟨T, h1, x1, _⟩ := DataW.trod_string Tryd.underlying9 f1
  obtain ⟨P, h2, _, _⟩ := DataW.trod_int Tryd.underlying3 f2
  simp only [Prod.mk.injEq] at hx
  refine ⟨K, T, P, ?_, ?_⟩
  · apply Array.toList_inj.1
    apply List.ext_getElem?
    intro i
    match i with
    | 0 => rw [avone_of_take h0]; rfl
    | 1 => rw [avone_of_take h1]; rfl
    | 2 => rw [avone_of_take h2]; rfl
    | n + 3 => rw [List.getElem?_eq_none (by omega), List.getElem?_eq_none (by show 3 ≤ n + 3; omega)]
  · have m0 : (xs.map (·.1))[0]? = some y0.1 := by rw [List.getElem?_map, e0]; rfl
    have m1 : (xs.map (·.1))[1]? = some y1.1 := by rw [List.getElem?_map, e1]; rfl
    have := bulk_two (by omega : 0 < 1) m0 m1 0 rfl
    rw [x0, x1] at this
    rw [hx.1]
    simp only [Rows.uptoBulk, Array.length_toList] at this ⊢
    show K.data.size + T.data.size ≤ _
    omega
end Go.Proofs.YtjocbpabbbdkcaaDoor
namespace Go.Proofs.YtjocbpabbbdkcaaDoor
set_option linter.unusedVariables false
set_option linter.unusedSimpArgs false
open Go.ChangeShapes Go.WideShapes Go.ChangeAt Go.RowKit
set_option maxRecDepth 100000
theorem doorOwn : ownKnob Tryd.prog.godebug = none := by kernel_rfl
theorem doorLaidOut : laidOutB Tryd.prog = true := by kernel_rfl
theorem nBegin : Tryd.prog.globalNamed "isthmus/sha.begin" = some 1 := by kernel_rfl
theorem nConst : Tryd.prog.globalNamed "isthmus/sha.constants" = some 2 := by kernel_rfl
theorem tyBegin : (Tryd.prog.globals[1]?).map (·.type) = some 134 := by kernel_rfl
theorem tyConst : (Tryd.prog.globals[2]?).map (·.type) = some 133 := by kernel_rfl
def laidSha : List (String × DataW Unit) := [("isthmus/sha.begin", Rows.laid_isthmus_sha_begin), ("isthmus/sha.constants", Rows.laid_isthmus_sha_constants)]
theorem toList_getD (f : Nat → Int) (n i : Nat) (h : i < n) : ((List.range n).map f).getD i 0 = f i := by simp [List.getD, h]
theorem dBegin {H : Type} : (Rows.laid_isthmus_sha_begin : DataW H) = Lib.tabData .u32 ((List.range 8).map BT) := by rfl
theorem dConst {H : Type} : (Rows.laid_isthmus_sha_constants : DataW H) = Lib.tabData .u32 ((List.range 64).map KT) := by rfl
theorem env_of_tabs {W : World} (hb : Lib.TabIs Tryd.prog W "isthmus/sha.begin" .u32 ((List.range 8).map BT)) (hc : Lib.TabIs Tryd.prog W "isthmus/sha.constants" .u32 ((List.range 64).map KT)) : Env W :=
  ⟨fun i hi => by
    have := hb.cell nBegin i (by simpa using hi)
    rw [toList_getD _ _ _ hi] at this; exact this,
   fun i hi => by
    have := hc.cell nConst i (by simpa using hi)
    rw [toList_getD _ _ _ hi] at this; exact this⟩
theorem env_of_met {W : World} (h : laidMet Tryd.prog laidSha W) : Env W := by
  unfold laidSha at h
  rw [dBegin, dConst] at h
  exact env_of_tabs (Lib.tabIs_of_head nBegin tyBegin Tryd.underlying134 Tryd.underlying132 (by kernel_rfl) (by kernel_rfl) h)
    (Lib.tabIs_of_head nConst tyConst Tryd.underlying133 Tryd.underlying132 (by kernel_rfl) (by kernel_rfl) h.tail)
theorem env_of_laid {W : World} (h : laidMetH Tryd.prog laidSha W) : Env W := by
  rw [MakeChecks.laidMetH_plain _ _ _ (by kernel_rfl)] at h
  exact env_of_met h
theorem met_sha (os : Os) (args : Array Value) : laidMetH Tryd.prog laidSha ((World.doorLaid Tryd.prog 400 os).forCall (fun _ _ => 0) ⟨#[], args, []⟩).memory :=
  laidMetH_of_parts3 (fuel := 8) (laidMet_of_run' 8 (by kernel_rfl) (by kernel_rfl)) (by kernel_rfl) (by kernel_rfl)
def laidShaErr : List (String × DataW Unit) := [("errors.errorType", Rows.laid_errors_errorType), ("isthmus/sha.begin", Rows.laid_isthmus_sha_begin), ("isthmus/sha.constants", Rows.laid_isthmus_sha_constants)]
def laidErrS : List (String × DataW Unit) := [("errors.errorType", Rows.laid_errors_errorType)]
theorem doorEt : Tryd.prog.globalNamed "errors.errorType" = some 0 := by kernel_rfl
theorem doorRt : (Tryd.prog.cutTypes.find? (·.1 == "internal/reflectlite.rtype")).map (·.2) = some 148 := by kernel_rfl
theorem doorOneRow : ((List.range Tryd.prog.types.size).filter fun t => Tryd.prog.rowNamed t [101, 114, 114, 111, 114]) = [37] := by kernel_rfl
theorem err_of_met {W : World} {l : List (String × DataW Unit)} (hm : ("errors.errorType", Rows.laid_errors_errorType) ∈ l) (h : handlesMet Tryd.prog l W) : ErrType W := by
  obtain ⟨name, u, ty, e1, e2, e3, e4, e5⟩ := h _ hm
  have en : name = [101, 114, 114, 111, 114] := (Option.some.inj e1).symm
  subst en
  obtain rfl := Option.some.inj (doorRt.symm.trans e2)
  have hm : ty ∈ (List.range Tryd.prog.types.size).filter fun t => Tryd.prog.rowNamed t [101, 114, 114, 111, 114] := List.mem_filter.2 ⟨List.mem_range.2 e3, e4⟩
  rw [doorOneRow] at hm
  obtain rfl := List.mem_singleton.1 hm
  have hh : typeHandle Tryd.prog 37 = .pointer (some ⟨3, 37, none⟩) := by kernel_rfl
  rw [hh] at e5
  unfold ErrType
  simpa using World.var?_cell doorEt e5 0
theorem shaErr_of_laid {W : World} (h : laidMetH Tryd.prog laidShaErr W) : Env W ∧ ErrType W := by
  have h' : laidMet Tryd.prog laidSha W ∧ handlesMet Tryd.prog laidErrS W := h
  exact ⟨env_of_met h'.1, err_of_met (by simp [laidErrS]) h'.2⟩
theorem met_shaErr (os : Os) (args : Array Value) : laidMetH Tryd.prog laidShaErr ((World.doorLaid Tryd.prog 400 os).forCall (fun _ _ => 0) ⟨#[], args, []⟩).memory :=
  laidMetH_of_parts3 (fuel := 8) (laidMet_of_run' 8 (by kernel_rfl) (by kernel_rfl)) (by kernel_rfl) (by kernel_rfl)
end Go.Proofs.YtjocbpabbbdkcaaDoor
namespace Go.Proofs.YtjocbpabbbdkcaaDoor
set_option linter.unusedVariables false
set_option linter.unusedSimpArgs false
open Go.ChangeShapes Go.WideShapes Go.ChangeAt Go.RowKit
set_option maxRecDepth 100000
theorem avruns_lifted (os : Os) (started : os.Started) (H : Type) (enc : TypeId × Value → H) (F : Stop.Interp) :
    ReturnsInHanded {} Tryd.checked os 3 .any ((Rows.OpenSpec.upto Rows.avlRunsSpec).preRow enc Tryd.prog Tryd.f3 Rows.avlRunsUptoRow.domain false laidShaErr) (((Rows.OpenSpec.upto Rows.avlRunsSpec).at F).post enc Tryd.prog Tryd.f3 false true false false) := by
  refine returnsInHanded_of_row (C := Tryd.checked) (s := Rows.OpenSpec.upto Rows.avlRunsSpec) doorOwn started (by kernel_rfl) Tryd.func3
    (witness_row_atRef (enc := enc) (C := Tryd.checked) false (World.doorLaid Tryd.prog 400 os) #[.slice none 0 0, .agg #[.string { data := #[] }, .string { data := #[] }, .int .i64 0]] rfl (by kernel_rfl) (by kernel_rfl) (by kernel_rfl)
      (OpenSpec.preRow_of_cond (x := ([.nil, .agg [.lit (.string []), .lit (.string []), .lit (.int .i64 0)]], [], [])) 8 (by kernel_rfl) (by kernel_rfl) (fun k hk => by cases hk; kernel_rfl) (by kernel_rfl) (met_shaErr os _))) ?_
  intro W base args ds gs before hval0 hW _ hcond _ hL _ _
  have hb : Rows.uptoBulkAll (ds ++ gs) ≤ 1048576 := of_decide_eq_true (hcond _ rfl)
  have hval : ∀ (j : Nat) t v, Tryd.f3.params[j]? = some t → args[j]? = some v → Value.okWide Tryd.prog W .any base t v := hval0
  have hW' := hW
  obtain ⟨p, q, hA0, hV, rfl, hfz, hnd⟩ := hW
  have hA : DataW.TrodAll enc Tryd.prog W 0 (fun _ => true) true Tryd.f3.params.toList args.toList ds p := hA0
  rw [Tryd.params3] at hA hval
  obtain ⟨v0, vs0, d0, ds0, p0, q0, hargs, rfl, rfl, h0, r0⟩ := trodAll_cons hA
  obtain ⟨v1, vs1, d1, ds1, p1, q1, rfl, rfl, rfl, h1, r1⟩ := trodAll_cons r0
  obtain ⟨rfl, rfl, rfl⟩ := trodAll_nil r1
  obtain rfl : args = #[v0, v1] := by cases args; simp_all
  obtain ⟨rfl, rfl⟩ := trodVars_none hV
  obtain ⟨a0, len0, cap0, rfl⟩ := okWide_slice Tryd.underlying22 (hval 0 22 v0 rfl rfl)
  have k0 := h0
  have lt0 : ∀ x ∈ p0, x.block < W.heap.size := by obtain ⟨m, hm⟩ := k0; exact DataW.trod_lt m _ _ _ hm
  obtain ⟨ts0, hxl0, hx0, hk0, hbk0⟩ := acts7_arg h0
  obtain ⟨cs1, rfl, -⟩ := okWide_struct Tryd.underlying24 (hval 1 24 v1 rfl rfl)
  have k1 := h1
  have lt1 : ∀ x ∈ p1, x.block < W.heap.size := by obtain ⟨m, hm⟩ := k1; exact DataW.trod_lt m _ _ _ hm
  obtain ⟨K1, T1, P1, rfl, hz1⟩ := asked_arg h1
  simp only [List.append_nil, Rows.uptoBulkAll] at hb
  clear hA0 hval0
  refine (lruns_any _ ts0 K1 T1 P1 (Rows.uptoBulk d0) W (shaErr_of_laid hL).1 (shaErr_of_laid hL).2 hx0 hk0 hbk0 (by omega) (by omega)).mono fun e W' ⟨he, bel⟩ => ?_
  subst he
  exact ⟨_, rfl, _, _, _, [], _, [], hW', trodAll_mk1 (shut_bool Tryd.underlying4 _), (trodAll_cons_mk (Below.trod doorLaidOut (by kernel_rfl) (of_decide_eq_true (by kernel_rfl)) k0 bel lt0) (trodAll_cons_mk (Below.trod doorLaidOut (by kernel_rfl) (of_decide_eq_true (by kernel_rfl)) k1 bel lt1) trodAll_mk0)), rfl, bel.frame _, fun h => by cases h⟩
theorem avruns_holds : Rows.AvlRunsUptoSaid :=
  OpenClaim.holds_of_cond 3 Tryd.f3 rfl rfl rfl rfl rfl rfl rfl ⟨rfl, rfl, rfl, rfl, rfl⟩ rfl rfl rfl rfl rfl (by kernel_rfl) Tryd.func3 (by kernel_rfl)
    (of_decide_eq_true (by kernel_rfl)) (by unfold Func.isWrapper; first | (rw [if_pos (by decide +kernel)]; kernel_rfl) | (rw [if_neg (by decide +kernel)]; exact ⟨rfl, rfl⟩))
    (fun os started H enc _ F => by rw [OpenClaim.pre_eq_preRow]; exact avruns_lifted os started H enc F)
theorem avruns_card : Rows.AvlRunsUptoCardSaid :=
  Claim7.holds_tied_plain_at .later [] [.handle, .data, .data] true _ true
    avruns_holds (fun _ h => by cases h) (by kernel_rfl) (fun _ h => by cases h) avlRunsUpto_row_tie rfl ⟨rfl, rfl⟩ (by kernel_rfl) rfl
    (fun f fn hf hfn => by
      obtain rfl : f = 3 := Option.some.inj ((show Tryd.prog.funcNamed "isthmus/isthmuslaw07.AvlRuns" = some 3 by kernel_rfl).symm.trans hf) |>.symm
      obtain rfl : fn = Tryd.f3 := (Option.some.inj (Tryd.func3.symm.trans hfn)).symm
      exact ⟨by kernel_rfl, fun j t ht => by
        rw [Tryd.params3] at ht
        have hm : t ∈ [22, 24] := by simpa using Array.mem_of_getElem? ht
        have hall : ([22, 24].all fun u => !Tryd.prog.wantsStandIn u) = true := by kernel_rfl
        exact (show Tryd.prog.wantsStandIn t = false by simpa using List.all_eq_true.1 hall t hm)⟩)
    (by kernel_rfl)
#print axioms avruns_card
end Go.Proofs.YtjocbpabbbdkcaaDoor
