/- Part 14 of the proof. -/
import Derived.ChangeKeysEq
import Derived.Test.YteokgklfljhcaaaGreatDoorSe1
import Derived.Test.YteokgklfljhcaaaGreatDoorSe2
import Derived.Test.YteokgklfljhcaaaGreatDoorSe3
import Derived.Test.YteokgklfljhcaaaGreatDoorSe4
import Derived.Test.YteokgklfljhcaaaGreatDoorSe8
import Derived.Test.YteokgklfljhcaaaGreatDoorSe13
namespace Go.Proofs.YteokgklfljhcaaaGreatDoor
set_option linter.unusedVariables false
set_option linter.unusedSimpArgs false
open Go.RowKit
open Go.Maps (Keyed setOf)
set_option maxRecDepth 100000
set_option linter.unusedSimpArgs false
set_option linter.unusedVariables false
def votedF (vs : List Vo) (i : Nat) : Bool := vs.any fun v => decide (v.val = (i : Int))
def foundB (l : List Va) (f : Nat → Bool) (k : Nat) (x : Va) : Bool := (List.range k).any fun i => f i && ((l[i]?.map fun y => sameW y x).getD false)
theorem found_snoc {l : List Va} {f : Nat → Bool} {k : Nat} {y x : Va} (h : l[k]? = some y) : foundB l f (k + 1) x = (foundB l f k x || (f k && sameW y x)) := by
  unfold foundB
  rw [List.range_succ, List.any_append]
  simp [h]
def AccR (l : List Va) (f : Nat → Bool) (k : Nat) (acc : List Lit) : Prop := (∀ a ∈ acc, WideAt.IsKeyLit a) ∧ ∀ x lx, WhoL x lx → acc.any (fun a => a.sameKey lx) = foundB l f k x
theorem acc_nil (l : List Va) (f : Nat → Bool) : AccR l f 0 [] := ⟨(fun _ h => by cases h), fun _ _ _ => rfl⟩
theorem acc_yes {l : List Va} {f : Nat → Bool} {k : Nat} {acc : List Lit} {y : Va} {ly : Lit} (h : AccR l f k acc) (hy : l[k]? = some y) (hf : f k = true) (hl : WhoL y ly) : AccR l f (k + 1) (acc ++ [ly]) := by
  refine ⟨fun a ha => ?_, fun x lx hx => ?_⟩
  · rcases List.mem_append.1 ha with ha | ha
    · exact h.1 a ha
    · rw [List.mem_singleton.1 ha]; exact whoLaw.key hl
  · rw [found_snoc hy, List.any_append, h.2 x lx hx, hf]
    simp [whoL_same hx hl]
theorem acc_no {l : List Va} {f : Nat → Bool} {k : Nat} {acc : List Lit} {y : Va} (h : AccR l f k acc) (hy : l[k]? = some y) (hf : f k = false) : AccR l f (k + 1) acc :=
  ⟨h.1, fun x lx hx => by rw [found_snoc hy, h.2 x lx hx, hf]; simp⟩
/-- the map of those who have voted, and the variable that holds it -/
structure VtM (w : World) (g bm n : Nat) (acc : List Lit) : Prop where
  at_ : w.heap[g]? = some (.cells #[.map (some bm)] 221 (0, 0))
  own : w.ownsMap Tryz.prog 224 (unitElem (H := Unit)) bm n (setOf (.agg []) acc)
theorem ownsMap_below {H : Type} {P : Program} {k : TypeId} {R : Value → Option (DataW H × List MemPlace)} {w w' : World} {b n : Nat} {D : DataW H} (h : w.ownsMap P k R b n D) (hb : Below w.heap.size w w') : w'.ownsMap P k R b n D := by
  obtain ⟨es, clock, hh, r⟩ := h
  exact ⟨es, clock, (hb.block _ (Array.getElem?_eq_some_iff.1 hh).1).trans hh, r⟩
theorem VtM.below {w w' : World} {g bm n : Nat} {acc : List Lit} (m : VtM w g bm n acc) (hb : Below w.heap.size w w') : VtM w' g bm n acc := ⟨(hb.block _ (bkT_lt m.at_)).trans m.at_, ownsMap_below m.own hb⟩
theorem zeroU (w : World) : (zeroValue 222).run Tryz.prog w = .ok (.agg #[]) w := by kernel_rfl
theorem who_built (x : Va) : Tryz.prog.built 224 [(0, .string x.name), (1, .agg (rowOf .u8 32 x.key))] = some (whoC x) := by kernel_rfl
theorem wpList_builtT {P : Program} {ops : Array Oper} {rest : List Oper} {o : Oper} {a : Act} {w : World} {Q : Exit → Act → World → Prop} (hg : o.guard = none) (t : TypeId) (parts : Array (Nat × Operand)) (ho : o.op = .build t parts) (cells : Array Value)
    (hf : P.built t (parts.map fun (i, x) => (i, a.eval x)).toList = some cells)
    (h : wpList P ops Q rest (a.put o.dst (.agg cells)) w) : wpList P ops Q (o :: rest) a w :=
  wpList_build hg t parts ho (by rw [hf]; rfl) (by rw [hf]; exact h)
set_option maxHeartbeats 4000000 in
theorem votersC_any (x : Va) (l : List Va) (f : Nat → Bool) (k g bm n : Nat) (acc : List Lit) (w : World) (hm : VtM w g bm n acc) (ha : AccR l f k acc) (hx : VaWf x) :
    Calls Tryz.prog 152 #[.agg (vaC x), .pointer (some ⟨g, 0, none⟩)] w fun e w' => e = .returned (.bool (foundB l f k x)) ∧ Below w.heap.size w w' := by
  obtain ⟨lx, hlx⟩ := who_key hx
  have hha : Maps.has (setOf (H := Unit) (.agg []) acc) lx = foundB l f k x := by rw [Maps.has_setOf _ _ _ ha.1]; exact ha.2 x lx hlx
  have HB := Lib.hid (below_alloc w (.cells (vaC x) 54))
  have HQ := Lib.hid (heap_alloc_new w (.cells (vaC x) 54))
  have M := Lib.hid (hm.below HB.out)
  have HLX := Lib.hid hlx
  have HHA := Lib.hid hha
  clear hm ha hx hlx hha
  go_enter Tryz.func152, Tryz.ntmps152
  go_upto_region 1 with (fail)
  obtain ⟨q, hq⟩ : ∃ q, q = w.heap.size := ⟨_, rfl⟩
  rw [← hq] at HQ ⊢
  clear hq
  generalize w.alloc (.cells (vaC x) 54) = w1 at *
  have c0 := (va_cells HQ.out).1
  have cm : w1.cell? ⟨g, 0, none⟩ = some (.map (some bm)) := by rw [cell_of_row _ _ 0 _ _ _ M.out.at_]; rfl
  go_wp2_with (first
    | (refine wpList_load_rowT (by rfl) 23 (.tmp 10) rfl q 1 rfl (rowOf .u8 32 x.key) _ (va_cells HQ.out).2.2 Tryz.underlying23 rfl (by rw [rowOf_size]; kernel_rfl) ?_)
    | (refine wpList_builtT rfl 224 #[(0, .tmp 9), (1, .tmp 11)] rfl (whoC x) (by refine Eq.trans (congrArg (Tryz.prog.built 224) ?_) (who_built x); kernel_rfl) ?_)
    | (at_lookup; refine wpList_lookup_own_unit _ rfl _ _ 221 rfl 224 222 whoLaw Tryz.underlying221 (zeroU _) bm n _ rfl M.out.own _ lx rfl HLX.out ?_; rw [HHA.out]))
  go_ret
  exact ⟨rfl, HB.out.alloc HB.out.size _⟩
structure VsM (w0 : World) (g5 g8 bm n nl : Nat) (f : Nat → Bool) (acc : List Lit) (w : World) : Prop where
  below : Below w0.heap.size w0 w
  h5 : w.heap[g5]? = some (.cells (blC f nl) 4 (0, 0))
  vt : VtM w g8 bm n acc
  g5b : g5 < bm
  bg8 : bm < g8
  le : w0.heap.size ≤ bm
theorem VsM.call {w0 w w' : World} {g5 g8 bm n nl : Nat} {f : Nat → Bool} {acc : List Lit} (m : VsM w0 g5 g8 bm n nl f acc w) (hb : Below w.heap.size w w') : VsM w0 g5 g8 bm n nl f acc w' :=
  ⟨m.below.trans (hb.mono m.below.size), (hb.block _ (bkT_lt m.h5)).trans m.h5, m.vt.below hb, m.g5b, m.bg8, m.le⟩
theorem VsM.put {w0 w w' : World} {g5 g8 bm n nl : Nat} {f : Nat → Bool} {acc : List Lit} {lx : Lit} (m : VsM w0 g5 g8 bm n nl f acc w) (ho : w'.ownsMap Tryz.prog 224 (unitElem (H := Unit)) bm (n + 1) ((setOf (.agg []) acc).put lx (.agg []))) (hg : w.grownBy w' (some bm)) : VsM w0 g5 g8 bm (n + 1) nl f (acc ++ [lx]) w' := by
  have h1 := m.g5b; have h2 := m.bg8; have h3 := m.le
  exact ⟨m.below.grown hg m.below.size (fun j hj => by cases hj; exact h3), (hg.block _ (bkT_lt m.h5) (fun e => by injection e with e; omega)).trans m.h5, ⟨(hg.block _ (bkT_lt m.vt.at_) (fun e => by injection e with e; omega)).trans m.vt.at_, by rw [Maps.setOf_snoc]; exact ho⟩, h1, h2, h3⟩
theorem unit_built : Tryz.prog.built 222 [] = some #[] := by kernel_rfl
set_option maxHeartbeats 8000000 in
theorem voters_any (l : List Va) (vs : List Vo) (lv vv : Value) (w : World) (hl : VaIn w lv l) (hv : VoIn w vv vs) (hwf : ∀ x ∈ l, VaWf x) (hn : l.length ≤ 1048576) (hsv : ∀ t ∈ vs, ∃ a n c, t.sv = .slice a n c) :
    Calls Tryz.prog 116 #[lv, vv] w fun e w' => ∃ g bm n acc, e = .returned (.func (.func 152) #[] #[.pointer (some ⟨g, 0, none⟩)]) ∧ VtM w' g bm n acc ∧ AccR l (votedF vs) l.length acc ∧ Below w.heap.size w w' := by
  obtain ⟨la, lc, rfl, -, -⟩ := hl.len
  obtain ⟨qa, qc, rfl, -, hqm⟩ := hv.len
  have HL := Lib.hid hl
  have HV := Lib.hid hv
  have HWF := Lib.hid hwf
  have HSV := Lib.hid hsv
  obtain ⟨nl, hnl⟩ : ∃ n, n = l.length := ⟨_, rfl⟩
  obtain ⟨nv, hnv⟩ : ∃ n, n = vs.length := ⟨_, rfl⟩
  have HNL := Lib.hid hnl
  have HNV := Lib.hid hnv
  have hn1 : nl ≤ 1048576 := by omega
  have hn2 : nv ≤ 9223372036854775807 := by unfold maxLen at hqm; omega
  rw [← hnl] at HL ⊢
  rw [← hnv] at HV ⊢
  have hmk := make_bools nl (by omega) w
  clear hl hv hwf hn hsv hnl hnv hqm
  go_enter Tryz.func116, Tryz.ntmps116
  go_upto_region 3 with (fail)
  clear hmk
  have H5 := Lib.hid (heap_alloc_new w (.cells (blC (fun _ => false) nl) 4))
  have HB1 := Lib.hid (below_alloc w (.cells (blC (fun _ => false) nl) 4))
  have HZ := Lib.hid (show w.heap.size < (w.alloc (.cells (blC (fun _ => false) nl) 4)).heap.size by simp)
  generalize w.alloc (.cells (blC (fun _ => false) nl) 4) = w1 at *
  obtain ⟨g5, hg5⟩ : ∃ g, g = w.heap.size := ⟨_, rfl⟩
  have HG5 := Lib.hid hg5
  have HR0 := Lib.hid (show Below w.heap.size w w1 ∧ w1.heap[g5]? = some (.cells (blC (votedF (vs.take 0)) nl) 4 (0, 0)) from ⟨HB1.out, by rw [hg5]; exact H5.out⟩)
  rw [← hg5]
  clear H5 HB1 HZ hg5
  go_wp2_with (fail)
  go_loopw [16] (fun x wr => ∃ k : Nat, k ≤ nv ∧ x = .int .i64 (k : Int) ∧ Hid (Below w.heap.size w wr ∧ wr.heap[g5]? = some (.cells (blC (votedF (vs.take k)) nl) 4 (0, 0)))) (fun x _ => nv - (intOf x).toNat)
  case atStart => exact ⟨0, Nat.zero_le _, rfl, HR0⟩
  case round =>
    clear HR0
    obtain ⟨k, hkn, rfl, HR⟩ := hrel
    by_cases hlt : k < nv
    · have hltI : (k : Int) < (nv : Int) := by omega
      obtain ⟨v, hvk⟩ : ∃ v, vs[k]? = some v := ⟨vs[k]'(by have := HNV.out; omega), List.getElem?_eq_getElem _⟩
      have hv := HV.out.below HR.out.1
      rw [HNV.out] at hv
      obtain ⟨ab, ao, rfl, hab, hra⟩ := hv.at hvk
      have HRA := Lib.hid hra
      have HSS := Lib.hid (HSV.out v (List.mem_of_getElem? hvk))
      have HTK := Lib.hid (show ∀ i, votedF (vs.take (k + 1)) i = (votedF (vs.take k) i || decide (v.val = (i : Int))) from fun i => by unfold votedF; rw [List.take_add_one, hvk]; simp)
      clear hv hab hra hvk
      go_upto_region 5 with (first
        | (refine wpList_load_rowT (by rfl) 99 (.tmp 18) rfl ab (ao + k * 37) rfl (voC v) _ HRA.out Tryz.underlying99 rfl (by rw [voC_size]; kernel_rfl) ?_)
        | (refine wpList_store_row rfl 99 (.tmp 7) (.tmp 19) rfl wr.heap.size (voC v) rfl rfl 99 _ (heap_alloc_new _ _) (by rw [voC_size]; kernel_rfl) (by rw [voC_size]; rfl) (voC_one _ HSS.out) ?_; rw [World.setRow_alloc_new]))
      have hba := below_alloc wr (.cells (voC v) 99)
      have c35 := (vo_cells (heap_alloc_new wr (.cells (voC v) 99))).2.2.2.2.1
      have HB2 := Lib.hid (HR.out.1.trans (hba.mono HR.out.1.size))
      have H52 := Lib.hid ((hba.block _ (bkT_lt HR.out.2)).trans HR.out.2)
      obtain ⟨q, hq⟩ : ∃ q, q = wr.heap.size := ⟨_, rfl⟩
      rw [← hq] at c35 ⊢
      clear hba hq
      generalize wr.alloc (.cells (voC v) 99) = w2 at *
      have HIX := Lib.hid (isindex_any v.val la nl lc w2)
      by_cases hi : 0 ≤ v.val ∧ v.val < nl
      · obtain ⟨m, hm⟩ : ∃ m : Nat, v.val = (m : Int) := ⟨v.val.toNat, by omega⟩
        have hml : m < nl := by omega
        rw [decide_eq_true hi] at HIX
        rw [hm] at c35 HIX
        have HM := Lib.hid hm
        have hmI : (m : Int) < (nl : Int) := by omega
        clear hm hi
        have k1 : w2.cell? ⟨g5, m, none⟩ = some (.bool (votedF (vs.take k) m)) := by rw [cell_of_row _ _ m _ _ _ H52.out, blC_get _ _ _ hml]
        have k2 : w2.frozen? ⟨g5, m, none⟩ = false := frozen_of_row _ _ _ _ _ H52.out
        go_wp2_with (first
          | (go_at_call 151; (with_reducible refine HIX.out.mono ?_); rintro e w3 ⟨rfl, rfl⟩))
        go_roundw
        case rel =>
          refine ⟨k + 1, by omega, by go_num, Lib.hid ⟨HB2.out.setCell (p := ⟨g5, m, none⟩) (by show _ ≤ g5; rw [HG5.out]; exact Nat.le_refl _) _, ?_⟩⟩
          rw [heap_setCell_same _ g5 m _ _ _ H52.out, blC_set]
          congr 2
          refine blC_congr _ _ _ fun i hi => ?_
          rw [HTK.out i, HM.out]
          by_cases e : i = m
          · subst e; simp
          · rw [if_neg e, decide_eq_false (by omega), Bool.or_false]
        case measure => simp [intOf]; omega
      · rw [decide_eq_false hi] at HIX
        have HNI := Lib.hid hi
        clear hi
        go_wp2_with (first
          | (go_at_call 151; (with_reducible refine HIX.out.mono ?_); rintro e w3 ⟨rfl, rfl⟩))
        go_roundw
        case rel =>
          refine ⟨k + 1, by omega, by go_num, Lib.hid ⟨HB2.out, ?_⟩⟩
          rw [H52.out]
          congr 2
          refine blC_congr _ _ _ fun i hi => ?_
          rw [HTK.out i, decide_eq_false (by have := HNI.out; omega), Bool.or_false]
        case measure => simp [intOf]; omega
    · obtain rfl : k = nv := by omega
      have HRV := Lib.hid (show Below w.heap.size w wr ∧ wr.heap[g5]? = some (.cells (blC (votedF vs) nl) 4 (0, 0)) from by have := HR.out; rw [HNV.out, List.take_length] at this; exact this)
      clear HR hlt hkn
      have hmm := @run_makeMap Tryz.prog
      obtain ⟨f, hf⟩ : ∃ f, f = votedF vs := ⟨_, rfl⟩
      have HF := Lib.hid hf
      rw [← hf] at HRV
      clear hf
      go_upto_region 9 with (fail)
      have hb1 := below_alloc wr (.map #[] 0)
      have hb2 := below_alloc (wr.alloc (.map #[] 0)) (.cells #[.map (some wr.heap.size)] 221)
      have HM0 := Lib.hid (show VsM w g5 (wr.heap.size + 1) wr.heap.size 0 nl f [] ((wr.alloc (.map #[] 0)).alloc (.cells #[.map (some wr.heap.size)] 221)) ∧ AccR l f 0 [] from by
        have hn := heap_alloc_new (wr.alloc (.map #[] 0)) (.cells #[.map (some wr.heap.size)] 221)
        rw [size_alloc] at hn
        refine ⟨⟨(HRV.out.1.trans (hb1.mono HRV.out.1.size)).trans (hb2.mono (by rw [size_alloc]; have := HRV.out.1.size; omega)), (hb2.block _ (by rw [size_alloc]; have := bkT_lt HRV.out.2; omega)).trans ((hb1.block _ (bkT_lt HRV.out.2)).trans HRV.out.2), ⟨hn, ownsMap_below (World.ownsMap_made wr Tryz.prog 224 _) hb2⟩, bkT_lt HRV.out.2, by omega, HRV.out.1.size⟩, acc_nil _ _⟩)
      obtain ⟨bm, hbm⟩ : ∃ b, b = wr.heap.size := ⟨_, rfl⟩
      rw [← hbm] at HM0 ⊢
      clear hb1 hb2 hbm hmm HRV
      obtain ⟨g8, hg8⟩ : ∃ b, b = bm + 1 := ⟨_, rfl⟩
      rw [← hg8] at HM0 ⊢
      clear hg8
      generalize (wr.alloc (.map #[] 0)).alloc (.cells #[.map (some bm)] 221) = w3 at *
      have hbu := unit_built
      go_wp2_with (fail)
      go_loopw [32] (fun x wr => ∃ (k : Nat) (acc : List Lit), k ≤ nl ∧ x = .int .i64 (k : Int) ∧ Hid (VsM w g5 g8 bm k nl f acc wr ∧ AccR l f k acc)) (fun x _ => nl - (intOf x).toNat)
      case atStart => exact ⟨0, [], Nat.zero_le _, rfl, HM0⟩
      case round =>
        clear HM0
        obtain ⟨j, acc, hjn, rfl, HM⟩ := hrel
        by_cases hlt : j < nl
        · have hltI : (j : Int) < (nl : Int) := by omega
          obtain ⟨y, hy⟩ : ∃ y, l[j]? = some y := ⟨l[j]'(by have := HNL.out; omega), List.getElem?_eq_getElem _⟩
          have hl := HL.out.below HM.out.1.below
          rw [HNL.out] at hl
          obtain ⟨ab, ao, rfl, hab, hra⟩ := hl.at hy
          have HRA := Lib.hid hra
          have HY := Lib.hid hy
          obtain ⟨ly, hly⟩ := who_key (HWF.out y (List.mem_of_getElem? hy))
          have HLY := Lib.hid hly
          have M := Lib.hid HM.out.1
          have HAC := Lib.hid HM.out.2
          clear hl hab hra hy hly HM
          go_upto_region 12 with (first
            | (refine wpList_load_rowT (by rfl) 54 (.tmp 35) rfl ab (ao + j * 34) rfl (vaC y) _ HRA.out Tryz.underlying54 rfl (by rw [vaC_size]; kernel_rfl) ?_)
            | (refine wpList_store_row rfl 54 (.tmp 10) (.tmp 36) rfl wr.heap.size (vaC y) rfl rfl 54 _ (heap_alloc_new _ _) (by rw [vaC_size]; kernel_rfl) (by rw [vaC_size]; rfl) (vaC_one _) ?_; rw [World.setRow_alloc_new]))
          have hba := below_alloc wr (.cells (vaC y) 54)
          have HQ := Lib.hid (heap_alloc_new wr (.cells (vaC y) 54))
          replace M := Lib.hid (M.out.call hba)
          obtain ⟨q, hq⟩ : ∃ q, q = wr.heap.size := ⟨_, rfl⟩
          rw [← hq] at HQ ⊢
          clear hba hq
          generalize wr.alloc (.cells (vaC y) 54) = w4 at *
          have c0 := (va_cells HQ.out).1
          have kb : w4.cell? ⟨g5, j, none⟩ = some (.bool (f j)) := by rw [cell_of_row _ _ j _ _ _ M.out.h5, blC_get _ _ _ hlt]
          cases hfj : f j with
          | true =>
            have HFJ := Lib.hid hfj
            rw [hfj] at kb
            clear hfj
            have cm : w4.cell? ⟨g8, 0, none⟩ = some (.map (some bm)) := by rw [cell_of_row _ _ 0 _ _ _ M.out.vt.at_]; rfl
            go_wp2_with (first
              | (refine wpList_load_rowT (by rfl) 23 (.tmp 44) rfl q 1 rfl (rowOf .u8 32 y.key) _ (va_cells HQ.out).2.2 Tryz.underlying23 rfl (by rw [rowOf_size]; kernel_rfl) ?_)
              | (refine wpList_builtT rfl 224 #[(0, .tmp 43), (1, .tmp 45)] rfl (whoC y) (by refine Eq.trans (congrArg (Tryz.prog.built 224) ?_) (who_built y); kernel_rfl) ?_)
              | (at_mapUpdate; refine wpList_mapUpdate_own _ rfl _ _ _ 221 rfl 224 222 whoLaw Tryz.underlying221 (unitElem (H := Unit)) bm j _ rfl M.out.vt.own (by unfold maxLen; omega) _ _ _ rfl rfl HLY.out _ [] unitElem_mk ?_; intro w5 hown hgr; replace M := Lib.hid (M.out.put hown hgr); clear hown hgr))
            go_roundw
            case rel => exact ⟨j + 1, acc ++ [ly], by omega, by go_num, Lib.hid ⟨M.out, acc_yes HAC.out HY.out HFJ.out HLY.out⟩⟩
            case measure => simp [intOf]; omega
          | false =>
            have HFJ := Lib.hid hfj
            rw [hfj] at kb
            clear hfj
            go_wp2_with (fail)
            go_roundw
            case rel => exact ⟨j + 1, acc, by omega, by go_num, Lib.hid ⟨⟨M.out.below, M.out.h5, ⟨M.out.vt.at_, M.out.vt.own.mono (Nat.le_succ _)⟩, M.out.g5b, M.out.bg8, M.out.le⟩, acc_no HAC.out HY.out HFJ.out⟩⟩
            case measure => simp [intOf]; omega
        · obtain rfl : j = nl := by omega
          go_wp2_with (fail)
          go_ret
          exact ⟨g8, bm, j, acc, rfl, HM.out.1.vt, by rw [← HF.out]; exact HM.out.2, HM.out.1.below⟩
/-- the power of those of old that have voted -/
def trP (l : List Va) (f : Nat → Bool) : List Va → Int → Int
  | [], s => s
  | x :: r, s => trP l f r (if foundB l f l.length x then wrap64 (s + x.pow) else s)
theorem trP_snoc (l : List Va) (f : Nat → Bool) : ∀ (r : List Va) (x : Va) (s : Int), trP l f (r ++ [x]) s = if foundB l f l.length x then wrap64 (trP l f r s + x.pow) else trP l f r s
  | [], x, s => rfl
  | y :: r, x, s => by simp only [List.cons_append, trP]; exact trP_snoc l f r x _
theorem trP_take {l : List Va} {f : Nat → Bool} {r : List Va} {k : Nat} {x : Va} (h : r[k]? = some x) : trP l f (r.take (k + 1)) 0 = if foundB l f l.length x then wrap64 (trP l f (r.take k) 0 + x.pow) else trP l f (r.take k) 0 := by
  rw [List.take_add_one, h]
  exact trP_snoc l f _ _ _
def vtE (old l : List Va) (vs : List Vo) : Option Nat := if thirdB (trP l (votedF vs) old 0) (totV old) then none else some 32
/-- a commit -/
structure Cm where
  height : Int
  round : Int
  blk : Nat → Int
def cmC (c : Cm) (v : Value) : Array Value := #[.int .i64 c.height, .int .i64 c.round] ++ rowOf .u8 32 c.blk ++ #[v]
theorem cm_cells {w : World} {g : Nat} {c : Cm} {v : Value} {T : TypeId} (h : w.heap[g]? = some (.cells (cmC c v) T (0, 0))) :
    w.cell? ⟨g, 0, none⟩ = some (.int .i64 c.height) ∧ w.cell? ⟨g, 1, none⟩ = some (.int .i64 c.round) ∧ w.rangeAt g 2 (rowOf .u8 32 c.blk).toList ∧ w.cell? ⟨g, 34, none⟩ = some v := by
  have hs : (rowOf .u8 32 c.blk).size = 32 := rowOf_size _ _ _
  refine ⟨?_, ?_, fun j u hu => ?_, ?_⟩
  · rw [cell_of_row w g 0 _ _ _ h]; unfold cmC
    rw [Array.getElem?_append_left (by simp; omega), Array.getElem?_append_left (by simp)]; rfl
  · rw [cell_of_row w g 1 _ _ _ h]; unfold cmC
    rw [Array.getElem?_append_left (by simp; omega), Array.getElem?_append_left (by simp)]; rfl
  · have hj : j < 32 := by have := (List.getElem?_eq_some_iff.1 hu).1; simpa [hs] using this
    rw [cell_of_row w g (2 + j) _ _ _ h]; unfold cmC
    rw [Array.getElem?_append_left (by simp [hs]; omega), Array.getElem?_append_right (by simp)]
    simpa using hu
  · rw [cell_of_row w g 34 _ _ _ h]; unfold cmC
    rw [Array.getElem?_append_right (by simp [hs])]; simp [hs]
end Go.Proofs.YteokgklfljhcaaaGreatDoor
namespace Go.Proofs.YteokgklfljhcaaaGreatDoor
set_option linter.unusedVariables false
set_option linter.unusedSimpArgs false
open Go.RowKit
set_option maxRecDepth 100000
def intVals (l : List Int) : List Value := l.map (Value.int .i64)
/-- v is a slice of the numbers l -/
def IntsIn (w : World) (v : Value) (l : List Int) : Prop :=
  ∃ a cap, v = .slice a l.length cap ∧ l.length ≤ cap ∧ l.length ≤ maxLen ∧ (l = [] ∨ ∃ ab ao, a = some ⟨ab, ao, none⟩ ∧ ∀ i x, l[i]? = some x → w.cell? ⟨ab, ao + i, none⟩ = some (.int .i64 x))
theorem IntsIn.below {w w' : World} {v : Value} {l : List Int} (h : IntsIn w v l) (hb : Below w.heap.size w w') : IntsIn w' v l := by
  obtain ⟨a, cap, rfl, hc, hm, hx⟩ := h
  refine ⟨a, cap, rfl, hc, hm, ?_⟩
  rcases hx with hx | ⟨ab, ao, rfl, hx⟩
  · exact .inl hx
  · exact .inr ⟨ab, ao, rfl, fun i y hi => (hb.cell (p := ⟨ab, ao + i, none⟩) (World.block_lt_of_cell? w _ (hx i y hi))).trans (hx i y hi)⟩
end Go.Proofs.YteokgklfljhcaaaGreatDoor
namespace Go.Proofs.YteokgklfljhcaaaGreatDoor
set_option linter.unusedVariables false
set_option linter.unusedSimpArgs false
open Go.RowKit
set_option maxRecDepth 100000
/-- are the first 32 numbers the same? -/
def eqB (f g : Nat → Int) : Bool := (List.range 32).all fun i => f i == g i
theorem eqB_self (f : Nat → Int) : eqB f f = true := by simp [eqB]
theorem eqItems32 (f g : Nat → Int) (w : World) : ∀ is : List Nat, (∀ i ∈ is, i < 32) → (Op.eqItems 9999 5 1 (rowOf .u8 32 f) (rowOf .u8 32 g) is).run Tryz.prog w = .ok (is.all fun i => f i == g i) w
  | [], _ => by simp [Op.eqItems]
  | i :: is, h => by
    have hi : i < 32 := h i (by simp)
    have ha : (isAgg 5).run Tryz.prog w = .ok false w := by kernel_rfl
    have hp : ∀ f : Nat → Int, (part 5 (rowOf .u8 32 f) (i * 1)).run Tryz.prog w = .ok (.int .u8 (f i)) w := fun f => by
      simp [part, Sem.run_bind, ha, rowOf_get .u8 32 f i hi]
    have ih := eqItems32 f g w is (fun j hj => h j (by simp [hj]))
    have pe : (Op.equalIn 9999 5 (.int .u8 (f i)) (.int .u8 (g i))).run Tryz.prog w = .ok (f i == g i) w := run_equalIn_int w 9998 5 .u8 .u8 _ _ Tryz.underlying5
    simp only [Op.eqItems, Sem.run_bind, hp, pe, Result.andThen_ok, List.all_cons]
    cases hb : (f i == g i)
    · simp
    · simpa using ih
theorem eq32 (f g : Nat → Int) (w : World) : (binOp .eql 23 (.agg (rowOf .u8 32 f)) (.agg (rowOf .u8 32 g))).run Tryz.prog w = .ok (.bool (eqB f g)) w := by
  rw [run_eql_struct, run_equalIn_array w 9999 (i := (Tryz.prog.info? 5).getD default) _ _ Tryz.underlying23 (by kernel_rfl), show Tryz.prog.cellsOf 5 = 1 by kernel_rfl, eqItems32 f g w _ (fun i hi => by simpa using hi)]
  rfl
theorem eq32_self (f : Nat → Int) (w : World) : (binOp .eql 23 (.agg (rowOf .u8 32 f)) (.agg (rowOf .u8 32 f))).run Tryz.prog w = .ok (.bool true) w := by rw [eq32, eqB_self]
end Go.Proofs.YteokgklfljhcaaaGreatDoor
namespace Go.Proofs.YteokgklfljhcaaaGreatDoor
set_option linter.unusedVariables false
set_option linter.unusedSimpArgs false
open Go.RowKit
set_option maxRecDepth 100000
set_option linter.unusedSimpArgs false
set_option linter.unusedVariables false
end Go.Proofs.YteokgklfljhcaaaGreatDoor
namespace Go.Proofs.YteokgklfljhcaaaGreatDoor
set_option linter.unusedVariables false
set_option linter.unusedSimpArgs false
open Go.RowKit
set_option maxRecDepth 100000
/-- are the params valid? -/
def kOk (D E : Int) : Prop := 1 ≤ D ∧ D ≤ 32 ∧ 0 ≤ E ∧ E ≤ 10
instance (D E : Int) : Decidable (kOk D E) := by unfold kOk; infer_instance
end Go.Proofs.YteokgklfljhcaaaGreatDoor
namespace Go.Proofs.YteokgklfljhcaaaGreatDoor
set_option linter.unusedVariables false
set_option linter.unusedSimpArgs false
open Go.RowKit
set_option maxRecDepth 100000
set_option linter.unusedSimpArgs false
set_option linter.unusedVariables false
structure VoOk (v : Vo) : Prop where
  k : -9223372036854775808 ≤ v.kind ∧ v.kind ≤ 9223372036854775807
  h : -9223372036854775808 ≤ v.height ∧ v.height ≤ 9223372036854775807
  r : -9223372036854775808 ≤ v.round ∧ v.round ≤ 9223372036854775807
theorem glenT {n : Nat} (h : n < 18446744073709551616) : (varint n).length ≤ 10 := by
  have := glen_le h
  rw [varint_length]; omega
theorem rowT_yields {ops : Array Oper} {S : World → Prop} {op : Oper} {a : Act} (hw : Region.wanted op (yielded ops a.tmps) = true) (ty : TypeId) (x : Operand) (ho : op.op = .load ty x)
    (b o : Nat) (hx : a.eval x = .pointer (some ⟨b, o, none⟩)) (cs : Array Value) (d : TypeDesc) (hS : ∀ w, S w → w.rangeAt b o cs.toList)
    (hu : Tryz.prog.underlying ty = some d) (hd : d.isRow = true) (hi : (Tryz.prog.info? ty).map (·.size) = some cs.size) : YieldsIf Tryz.prog ops S op (.agg cs) a := by
  have h := yieldsIf_load_mid (P := Tryz.prog) (S := S) hw ty x ho b o hx cs.toList d hS hu hd (by rw [hi, Array.length_toList])
  simpa using h
def VbS (q : Nat) (v : Vo) (w : World) : Prop := w.heap[q]? = some (.cells (voC v) 99 (0, 0))
theorem VbS.below {q : Nat} {v : Vo} {w w' : World} (h : VbS q v w) (hb : Below w.heap.size w w') : VbS q v w' := (hb.block _ (bkT_lt h)).trans h
end Go.Proofs.YteokgklfljhcaaaGreatDoor
namespace Go.Proofs.YteokgklfljhcaaaGreatDoor
set_option linter.unusedVariables false
set_option linter.unusedSimpArgs false
open Go.RowKit
set_option maxRecDepth 100000
set_option linter.unusedSimpArgs false
set_option linter.unusedVariables false
theorem rowL32 (f : Nat → Int) : (rowL 32 f).length = 32 := by simp [rowL]
/-- behind writing: the Writer holds xs -/
def WsR (g : Nat) (v : Value) (w : World) (xs : List Int) (wr : World) : Prop := ∃ v', WAt wr g v' xs ∧ WStep g v v' w wr
theorem wpS_next {g : Nat} {v : Value} {xs ys : List Int} {w w' : World} {e : Ending} (h : WPost g v xs ys w e w') : e = .returned (.pointer (some ⟨g, 0, none⟩)) ∧ ∃ v', WAt w' g v' (xs ++ ys) ∧ WStep g v v' w w' := h
theorem rangeT_app {w : World} {g : Nat} {D A B C : Array Value} {T : TypeId} {n : Nat} (h : w.heap[g]? = some (.cells D T (0, 0))) (e : D = A ++ (B ++ C)) (hn : A.size = n) : w.rangeAt g n B.toList := fun j u hu => by
  have hj : j < B.size := by have := (List.getElem?_eq_some_iff.1 hu).1; simpa using this
  rw [cell_of_row w g (n + j) _ _ _ h, e, Array.getElem?_append_right (by omega), show n + j - A.size = j by omega, Array.getElem?_append_left hj]
  simpa using hu
theorem cellT_app {w : World} {g : Nat} {D A C : Array Value} {x : Value} {T : TypeId} {n : Nat} (h : w.heap[g]? = some (.cells D T (0, 0))) (e : D = A ++ (#[x] ++ C)) (hn : A.size = n) : w.cell? ⟨g, n, none⟩ = some x := by
  rw [cell_of_row w g n _ _ _ h, e, Array.getElem?_append_right (by omega), show n - A.size = 0 by omega, Array.getElem?_append_left (by simp)]; rfl
end Go.Proofs.YteokgklfljhcaaaGreatDoor
