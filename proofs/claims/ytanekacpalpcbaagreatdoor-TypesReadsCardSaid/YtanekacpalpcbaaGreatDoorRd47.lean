/- Part 47 of the proof. -/
import Derived.Great.BuildSlice
import Derived.Test.YtanekacpalpcbaaGreatDoorRd7
import Derived.Test.YtanekacpalpcbaaGreatDoorRd8
import Derived.Test.YtanekacpalpcbaaGreatDoorRd46
namespace Go.Proofs.YtanekacpalpcbaaGreatDoor
set_option linter.unusedVariables false
set_option linter.unusedSimpArgs false
open Go.RowKit
open Go.Maps (Keyed setOf)
set_option maxRecDepth 100000
set_option linter.unusedSimpArgs false
set_option linter.unusedVariables false
set_option maxHeartbeats 4000000 in
theorem vtrust_any (old l : List Va) (vs : List Vo) (c : Cm) (ov lv vv : Value) (w : World) (ho : VaIn w ov old) (hl : VaIn w lv l) (hv : VoIn w vv vs) (hwo : ∀ x ∈ old, VaWf x) (hwf : ∀ x ∈ l, VaWf x) (hn : l.length ≤ 1048576) (hsv : ∀ t ∈ vs, ∃ a n c, t.sv = .slice a n c) :
    Calls Tryz.prog 99 #[ov, lv, .agg (cmC c vv)] w fun e w' => e = .returned (errV (vtE old l vs)) ∧ Below w.heap.size w w' := by
  obtain ⟨oa, oc, rfl, -, hom⟩ := ho.len
  obtain ⟨la, lc, rfl, -, -⟩ := hl.len
  obtain ⟨qa, qc, rfl, -, -⟩ := hv.len
  have HB := Lib.hid (below_alloc w (.cells (cmC c (.slice qa vs.length qc)) 78))
  have c34 := (cm_cells (heap_alloc_new w (.cells (cmC c (.slice qa vs.length qc)) 78))).2.2.2
  have HO := Lib.hid ho
  have HVS := Lib.hid (voters_any l vs (.slice la l.length lc) (.slice qa vs.length qc) _ (hl.below HB.out) (hv.below HB.out) hwf hn hsv)
  have HWO := Lib.hid hwo
  have HTO := Lib.hid (fun w h => total_any old (.slice oa old.length oc) w h)
  have HTH := Lib.hid (fun p t w => third_any p t w)
  obtain ⟨no, hno⟩ : ∃ n, n = old.length := ⟨_, rfl⟩
  have HNO := Lib.hid hno
  have hn1 : no ≤ 9223372036854775807 := by unfold maxLen at hom; omega
  rw [← hno] at HO HTO ⊢
  obtain ⟨E, hE⟩ : ∃ E, E = vtE old l vs := ⟨_, rfl⟩
  have HEE := Lib.hid hE
  rw [← hE]
  clear ho hl hv hwo hwf hn hsv hom hno hE
  go_enter Tryz.func99, Tryz.ntmps99
  go_upto_region 1 with (fail)
  generalize w.alloc (.cells (cmC c (.slice qa vs.length qc)) 78) = w1 at *
  go_upto_region 4 with (go_at_call 177; (with_reducible refine HVS.out.mono ?_); rintro e w2 ⟨g, bm, n, acc, rfl, hvt, hac, hb⟩; have HVT := Lib.hid hvt; have HAC := Lib.hid hac; replace HB := Lib.hid (HB.out.trans (hb.mono HB.out.size)); clear hvt hac hb)
  clear HVS c34
  have HR0 := Lib.hid (show (0 : Int) = trP l (votedF vs) (old.take 0) 0 ∧ Below w.heap.size w w2 ∧ VtM w2 g bm n acc from ⟨rfl, HB.out, HVT.out⟩)
  clear HVT HB
  go_wp2_with (fail)
  go_loopw [8, 17] (fun y x wr => ∃ (k : Nat) (s : Int), k ≤ no ∧ y = .int .i64 s ∧ x = .int .i64 (k : Int) ∧ Hid (s = trP l (votedF vs) (old.take k) 0 ∧ Below w.heap.size w wr ∧ VtM wr g bm n acc)) (fun _ x _ => no - (intOf x).toNat)
  case atStart => exact ⟨0, _, Nat.zero_le _, rfl, rfl, HR0⟩
  case round =>
    clear HR0
    obtain ⟨k, s, hkn, rfl, rfl, HR⟩ := hrel
    by_cases hlt : k < no
    · have hltI : (k : Int) < (no : Int) := by omega
      obtain ⟨x, hx⟩ : ∃ x, old[k]? = some x := ⟨old[k]'(by have := HNO.out; omega), List.getElem?_eq_getElem _⟩
      have hv := HO.out.below HR.out.2.1
      rw [HNO.out] at hv
      obtain ⟨ab, ao, rfl, hab, hra⟩ := hv.at hx
      have HRA := Lib.hid hra
      have HTS := Lib.hid (trP_take (l := l) (f := votedF vs) hx)
      have HXW := Lib.hid (HWO.out x (List.mem_of_getElem? hx))
      clear hv hab hra hx
      go_upto_region 6 with (first
        | (refine wpList_load_rowT (by rfl) 67 (.tmp 19) rfl ab (ao + k * 34) rfl (vaC x) _ HRA.out Tryz.underlying67 rfl (by rw [vaC_size]; kernel_rfl) ?_)
        | (refine wpList_store_row rfl 67 (.tmp 10) (.tmp 20) rfl wr.heap.size (vaC x) rfl rfl 67 _ (heap_alloc_new _ _) (by rw [vaC_size]; kernel_rfl) (by rw [vaC_size]; rfl) (vaC_one _) ?_; rw [World.setRow_alloc_new]))
      have hba := below_alloc wr (.cells (vaC x) 67)
      have HQ := Lib.hid (heap_alloc_new wr (.cells (vaC x) 67))
      have HB2 := Lib.hid (HR.out.2.1.trans (hba.mono HR.out.2.1.size))
      have HV2 := Lib.hid (HR.out.2.2.below hba)
      obtain ⟨q, hq⟩ : ∃ q, q = wr.heap.size := ⟨_, rfl⟩
      rw [← hq] at HQ ⊢
      clear hba hq
      generalize wr.alloc (.cells (vaC x) 67) = w3 at *
      have HCC := Lib.hid (votersC_any x l (votedF vs) l.length g bm n acc w3 HV2.out HAC.out HXW.out)
      cases hf : foundB l (votedF vs) l.length x with
      | true =>
        rw [hf] at HCC HTS
        simp only [if_true] at HTS
        clear hf
        go_upto_region 7 with (first
          | (refine wpList_load_rowT (by rfl) 67 (.tmp 10) rfl q 0 rfl (vaC x) _ (rowT_range HQ.out) Tryz.underlying67 rfl (by rw [vaC_size]; kernel_rfl) ?_)
          | (go_at_call 232; (with_reducible refine HCC.out.mono ?_); rintro e w4 ⟨rfl, hb⟩; replace HB2 := Lib.hid (HB2.out.trans (hb.mono HB2.out.size)); replace HV2 := Lib.hid (HV2.out.below hb); replace HQ := Lib.hid ((hb.block _ (bkT_lt HQ.out)).trans HQ.out); clear hb))
        have c33 := (va_cells HQ.out).2.1
        go_wp2_with (fail)
        go_roundw
        case rel => exact ⟨k + 1, wrap64 (s + x.pow), by omega, rfl, by go_num, Lib.hid ⟨by rw [HTS.out, HR.out.1], HB2.out, HV2.out⟩⟩
        case measure => simp [intOf]; omega
      | false =>
        rw [hf] at HCC HTS
        simp only [Bool.false_eq_true, if_false] at HTS
        clear hf
        go_wp2_with (first
          | (refine wpList_load_rowT (by rfl) 67 (.tmp 10) rfl q 0 rfl (vaC x) _ (rowT_range HQ.out) Tryz.underlying67 rfl (by rw [vaC_size]; kernel_rfl) ?_)
          | (go_at_call 232; (with_reducible refine HCC.out.mono ?_); rintro e w4 ⟨rfl, hb⟩; replace HB2 := Lib.hid (HB2.out.trans (hb.mono HB2.out.size)); replace HV2 := Lib.hid (HV2.out.below hb); clear hb))
        go_roundw
        case rel => exact ⟨k + 1, s, by omega, rfl, by go_num, Lib.hid ⟨by rw [HTS.out]; exact HR.out.1, HB2.out, HV2.out⟩⟩
        case measure => simp [intOf]; omega
    · obtain rfl : k = no := by omega
      have HTO2 := Lib.hid (HTO.out wr (HO.out.below HR.out.2.1))
      have HEQ := Lib.hid (show E = if thirdB s (totV old) then none else some 32 from by rw [HEE.out, HR.out.1, HNO.out, List.take_length]; rfl)
      have HB := Lib.hid HR.out.2.1
      clear HR HTO HEE
      cases ht : thirdB s (totV old) with
      | true =>
        rw [ht] at HEQ
        have HTT := Lib.hid (fun w => by have := HTH.out s (totV old) w; rw [ht] at this; exact this)
        clear ht
        go_wp2_with (first
          | (go_at_call 32; (with_reducible refine HTO2.out.mono ?_); rintro e w3 ⟨rfl, hb⟩; replace HB := Lib.hid (HB.out.trans (hb.mono HB.out.size)); clear hb)
          | (go_at_call 178; (with_reducible refine (HTT.out _).mono ?_); rintro e w4 ⟨rfl, rfl⟩))
        go_ret
        exact ⟨by rw [HEQ.out]; rfl, HB.out⟩
      | false =>
        rw [ht] at HEQ
        have HTT := Lib.hid (fun w => by have := HTH.out s (totV old) w; rw [ht] at this; exact this)
        clear ht
        go_wp2_with (first
          | (go_at_call 32; (with_reducible refine HTO2.out.mono ?_); rintro e w3 ⟨rfl, hb⟩; replace HB := Lib.hid (HB.out.trans (hb.mono HB.out.size)); clear hb)
          | (go_at_call 178; (with_reducible refine (HTT.out _).mono ?_); rintro e w4 ⟨rfl, rfl⟩))
        go_ret
        exact ⟨by rw [HEQ.out]; rfl, HB.out⟩
end Go.Proofs.YtanekacpalpcbaaGreatDoor
namespace Go.Proofs.YtanekacpalpcbaaGreatDoor
set_option linter.unusedVariables false
set_option linter.unusedSimpArgs false
open Go.RowKit
set_option maxRecDepth 100000
set_option linter.unusedSimpArgs false
set_option linter.unusedVariables false
def vA : Va := ⟨{ data := #[97] }, fun _ => 0, 3⟩
def vB : Va := ⟨{ data := #[98] }, fun _ => 0, 1⟩
def voS1 (i : Int) : Vo := ⟨0, 0, 0, fun _ => 0, i, .slice none 0 0, []⟩
def cm0 : Cm := ⟨0, 0, fun _ => 0⟩
theorem sure_ck : ckE [vA, vB] = none := by kernel_rfl
theorem sure_tot : totV [vA, vB] = 4 := by kernel_rfl
theorem sure_vt1 : vtE [vA, vB] [vA, vB] [voS1 1] = some 32 := by kernel_rfl
theorem sure_vt0 : vtE [vA, vB] [vA, vB] [voS1 0] = none := by kernel_rfl
theorem sure_wf : ∀ x ∈ [vA, vB], VaWf x := by
  intro x hx
  simp only [List.mem_cons, List.not_mem_nil, or_false] at hx
  rcases hx with rfl | rfl
  · exact ⟨by show (1 : Nat) ≤ _; omega, fun i _ => by show (0 : Int) ≤ 0 ∧ (0 : Int) < 256; omega⟩
  · exact ⟨by show (1 : Nat) ≤ _; omega, fun i _ => by show (0 : Int) ≤ 0 ∧ (0 : Int) < 256; omega⟩
theorem vA_built : Tryz.prog.built 67 [(0, .string { data := #[97] }), (2, .int .i64 3)] = some (vaC vA) := by kernel_rfl
theorem vB_built : Tryz.prog.built 67 [(0, .string { data := #[98] }), (2, .int .i64 1)] = some (vaC vB) := by kernel_rfl
theorem vo_builtS (i : Int) : Tryz.prog.built 93 [(4, .int .i64 i)] = some (voC (voS1 i)) := by kernel_rfl
theorem cm_builtS (a : Option Addr) (n c : Nat) : Tryz.prog.built 78 [(3, .slice a n c)] = some (cmC cm0 (.slice a n c)) := by kernel_rfl
theorem infoVa : (Tryz.prog.info? 67).map (fun i => (i.zero, i.size, i.bytes)) = some (some (.agg (vaC ⟨{ data := #[] }, fun _ => 0, 0⟩)), 34, 56) := by kernel_rfl
theorem infoVo : (Tryz.prog.info? 93).map (fun i => (i.zero, i.size, i.bytes)) = some (some (.agg (voC (voS1 0))), 37, 88) := by kernel_rfl
theorem va_fill : Instr.fill (fun i => some (i * 34, 34)) ((Array.range (2 * 34)).map ((Value.agg (vaC ⟨{ data := #[] }, fun _ => 0, 0⟩)).cells[· % (Value.agg (vaC ⟨{ data := #[] }, fun _ => 0, 0⟩)).cells.size]!)) [(0, .agg (vaC vA)), (1, .agg (vaC vB))] = some (vaC vA ++ vaC vB) := by kernel_rfl
theorem vo_fill (i : Int) : Instr.fill (fun i => some (i * 37, 37)) ((Array.range (1 * 37)).map ((Value.agg (voC (voS1 0))).cells[· % (Value.agg (voC (voS1 0))).cells.size]!)) [(0, .agg (voC (voS1 i)))] = some (voC (voS1 i)) := by kernel_rfl
theorem wpList_vas {w : World} {ops : Array Oper} {rest : List Oper} {o : Oper} {a : Act} {Q : Exit → Act → World → Prop} (hgd : o.guard = none) (x y : Operand) (ho : o.op = .buildSlice 58 2 #[(0, x), (1, y)]) (hx : a.eval x = .agg (vaC vA)) (hy : a.eval y = .agg (vaC vB))
    (h : wpList Tryz.prog ops Q rest (a.put o.dst (.slice (some ⟨w.heap.size, 0, none⟩) 2 2)) (w.alloc (.cells (vaC vA ++ vaC vB) 67))) : wpList Tryz.prog ops Q (o :: rest) a w := by
  refine wpList_plain hgd fun K hK => ?_
  obtain ⟨i0, hi, hz0, hz1, hz2⟩ := info_parts infoVa
  refine wp_buildSlice 58 67 2 #[(0, x), (1, y)] ho (vaC vA ++ vaC vB) i0 _ Tryz.underlying58 hi hz0 (by rw [hz1]; decide) (by rw [hz1]; decide) ?_ (hK _ _ h)
  rw [hz1]
  simpa [hx, hy] using va_fill
theorem wpList_vo1 {w : World} {ops : Array Oper} {rest : List Oper} {o : Oper} {a : Act} {Q : Exit → Act → World → Prop} (hgd : Region.wanted o (yielded ops a.tmps) = true) (x : Operand) (ho : o.op = .buildSlice 76 1 #[(0, x)]) (i : Int) (hx : a.eval x = .agg (voC (voS1 i)))
    (h : wpList Tryz.prog ops Q rest (a.put o.dst (.slice (some ⟨w.heap.size, 0, none⟩) 1 1)) (w.alloc (.cells (voC (voS1 i)) 93))) : wpList Tryz.prog ops Q (o :: rest) a w := by
  refine BigFrame.wpList_want hgd fun K hK => ?_
  obtain ⟨i0, hi, hz0, hz1, hz2⟩ := info_parts infoVo
  refine wp_buildSlice 76 93 1 #[(0, x)] ho (voC (voS1 i)) i0 _ Tryz.underlying76 hi hz0 (by rw [hz1]; decide) (by rw [hz1]; decide) ?_ (hK _ _ h)
  rw [hz1]
  simpa [hx] using vo_fill i
theorem vas_in (w : World) : VaIn (w.alloc (.cells (vaC vA ++ vaC vB) 67)) (.slice (some ⟨w.heap.size, 0, none⟩) 2 2) [vA, vB] := by
  refine ⟨_, 2, rfl, Nat.le_refl _, by simp [maxLen], .inr ⟨_, 0, rfl, by simp, fun i s hi j v hv => ?_⟩⟩
  have hj : j < 34 := by have := (List.getElem?_eq_some_iff.1 hv).1; simpa [vaC_size] using this
  rw [cell_of_row _ _ _ _ _ _ (heap_alloc_new w _)]
  match i, hi with
  | 0, hi =>
    simp only [List.getElem?_cons_zero, Option.some.injEq] at hi
    subst hi
    rw [Array.getElem?_append_left (by rw [vaC_size]; omega)]
    simpa using hv
  | 1, hi =>
    simp only [List.getElem?_cons_succ, List.getElem?_cons_zero, Option.some.injEq] at hi
    subst hi
    rw [Array.getElem?_append_right (by rw [vaC_size]; omega), vaC_size]
    simpa using hv
theorem vo1_in (w : World) (i : Int) : VoIn (w.alloc (.cells (voC (voS1 i)) 93)) (.slice (some ⟨w.heap.size, 0, none⟩) 1 1) [voS1 i] := by
  refine ⟨_, 1, rfl, Nat.le_refl _, by simp [maxLen], .inr ⟨_, 0, rfl, by simp, fun k s hi => ?_⟩⟩
  match k, hi with
  | 0, hi =>
    simp only [List.getElem?_cons_zero, Option.some.injEq] at hi
    subst hi
    exact rowT_range (heap_alloc_new w _)
theorem vo1_sv (i : Int) : ∀ t ∈ [voS1 i], ∃ a n c, t.sv = .slice a n c := by
  intro t ht
  rw [List.mem_singleton.1 ht]
  exact ⟨_, _, _, rfl⟩
theorem wpList_builtW {P : Program} {ops : Array Oper} {rest : List Oper} {o : Oper} {a : Act} {w : World} {Q : Exit → Act → World → Prop} (hg : Region.wanted o (yielded ops a.tmps) = true) (t : TypeId) (parts : Array (Nat × Operand)) (ho : o.op = .build t parts) (cells : Array Value)
    (hf : P.built t (parts.map fun (i, x) => (i, a.eval x)).toList = some cells)
    (h : wpList P ops Q rest (a.put o.dst (.agg cells)) w) : wpList P ops Q (o :: rest) a w := by
  exact BigFrame.wpList_want hg fun K hK => wp_build t parts ho (by rw [hf]; rfl) (by rw [hf]; exact hK _ _ h)
set_option maxHeartbeats 4000000 in
theorem tysure_any (w : World) (hg : ErrType w) : Calls Tryz.prog 38 #[] w fun e w' => e = .returned (.bool true) ∧ Below w.heap.size w w' := by
  have HG := Lib.hid hg
  have HZ := Lib.hid (show ∀ x ∈ [vA, vB], x.name.size ≤ 140737488351232 from fun x hx => (sure_wf x hx).1)
  clear hg
  go_enter Tryz.func38, Tryz.ntmps38
  go_upto_region 2 with (first
    | (refine wpList_builtT rfl 67 #[(0, .const (.string { data := #[97] })), (2, .const (.int .i64 3))] rfl (vaC vA) (by refine Eq.trans (congrArg (Tryz.prog.built 67) ?_) vA_built; kernel_rfl) ?_)
    | (refine wpList_builtT rfl 67 #[(0, .const (.string { data := #[98] })), (2, .const (.int .i64 1))] rfl (vaC vB) (by refine Eq.trans (congrArg (Tryz.prog.built 67) ?_) vB_built; kernel_rfl) ?_)
    | (refine wpList_vas rfl (.tmp 2) (.tmp 3) rfl rfl rfl ?_))
  have HV := Lib.hid (vas_in w)
  have HB := Lib.hid (below_alloc w (.cells (vaC vA ++ vaC vB) 67))
  generalize w.alloc (.cells (vaC vA ++ vaC vB) 67) = w1 at *
  obtain ⟨g, hgq⟩ : ∃ g, g = w.heap.size := ⟨_, rfl⟩
  rw [← hgq] at HV ⊢
  clear hgq
  have HCK := Lib.hid (fun w h => checkset_any [vA, vB] (.slice (some ⟨g, 0, none⟩) 2 2) w h HZ.out)
  rw [sure_ck] at HCK
  have HTO := Lib.hid (fun w h => total_any [vA, vB] (.slice (some ⟨g, 0, none⟩) 2 2) w h)
  rw [sure_tot] at HTO
  have HT1 := Lib.hid (fun vv w h1 h2 => vtrust_any [vA, vB] [vA, vB] [voS1 1] cm0 (.slice (some ⟨g, 0, none⟩) 2 2) (.slice (some ⟨g, 0, none⟩) 2 2) vv w h1 h1 h2 sure_wf sure_wf (by simp) (vo1_sv 1))
  rw [sure_vt1] at HT1
  have HT0 := Lib.hid (fun vv w h1 h2 => vtrust_any [vA, vB] [vA, vB] [voS1 0] cm0 (.slice (some ⟨g, 0, none⟩) 2 2) (.slice (some ⟨g, 0, none⟩) 2 2) vv w h1 h1 h2 sure_wf sure_wf (by simp) (vo1_sv 0))
  rw [sure_vt0] at HT0
  have HNU := Lib.hid (show ∀ w, ErrType w → Calls Tryz.prog 29 #[.iface 127 (.int .i64 32)] w fun r w' => r = .returned (.int .i64 32) ∧ Below w.heap.size w w' from fun w h => num_any (some 32) w h)
  simp only [errV] at HCK HT1 HT0
  clear HZ
  go_wp2_with (first
    | (go_at_call 30; (with_reducible refine (HCK.out _ HV.out).mono ?_); rintro e w2 ⟨rfl, hb⟩; replace HV := Lib.hid (HV.out.below hb); replace HB := Lib.hid (HB.out.trans (hb.mono HB.out.size)); clear hb)
    | (go_at_call 32; (with_reducible refine (HTO.out _ HV.out).mono ?_); rintro e w3 ⟨rfl, hb⟩; replace HV := Lib.hid (HV.out.below hb); replace HB := Lib.hid (HB.out.trans (hb.mono HB.out.size)); clear hb)
    | (refine wpList_builtW (by rfl) 93 #[(4, .const (.int .i64 1))] rfl (voC (voS1 1)) (by refine Eq.trans (congrArg (Tryz.prog.built 93) ?_) (vo_builtS 1); kernel_rfl) ?_)
    | (refine wpList_builtW (by rfl) 93 #[(4, .const (.int .i64 0))] rfl (voC (voS1 0)) (by refine Eq.trans (congrArg (Tryz.prog.built 93) ?_) (vo_builtS 0); kernel_rfl) ?_)
    | (refine wpList_vo1 (by rfl) (.tmp 16) rfl 1 rfl ?_; have HO := Lib.hid (vo1_in w3 1); replace HV := Lib.hid (HV.out.below (below_alloc w3 (.cells (voC (voS1 1)) 93))); replace HB := Lib.hid (HB.out.alloc HB.out.size (.cells (voC (voS1 1)) 93)); obtain ⟨g1, hg1⟩ : ∃ g, g = w3.heap.size := ⟨_, rfl⟩; rw [← hg1] at HO ⊢; clear hg1; generalize w3.alloc (.cells (voC (voS1 1)) 93) = w4 at *)
    | (refine wpList_builtW (by rfl) 78 #[(3, .tmp 17)] rfl (cmC cm0 (.slice (some ⟨g1, 0, none⟩) 1 1)) (by refine Eq.trans (congrArg (Tryz.prog.built 78) ?_) (cm_builtS _ _ _); kernel_rfl) ?_)
    | (go_at_call 99; (with_reducible refine (HT1.out _ _ HV.out HO.out).mono ?_); rintro e w5 ⟨rfl, hb⟩; replace HV := Lib.hid (HV.out.below hb); replace HB := Lib.hid (HB.out.trans (hb.mono HB.out.size)); clear hb HO)
    | (go_at_call 29; (with_reducible refine (HNU.out _ (HG.out.below HB.out)).mono ?_); rintro e w6 ⟨rfl, hb⟩; replace HV := Lib.hid (HV.out.below hb); replace HB := Lib.hid (HB.out.trans (hb.mono HB.out.size)); clear hb)
    | (refine wpList_vo1 (by rfl) (.tmp 26) rfl 0 rfl ?_; have HO2 := Lib.hid (vo1_in w6 0); replace HV := Lib.hid (HV.out.below (below_alloc w6 (.cells (voC (voS1 0)) 93))); replace HB := Lib.hid (HB.out.alloc HB.out.size (.cells (voC (voS1 0)) 93)); obtain ⟨g2, hg2⟩ : ∃ g, g = w6.heap.size := ⟨_, rfl⟩; rw [← hg2] at HO2 ⊢; clear hg2; generalize w6.alloc (.cells (voC (voS1 0)) 93) = w7 at *)
    | (refine wpList_builtW (by rfl) 78 #[(3, .tmp 27)] rfl (cmC cm0 (.slice (some ⟨g2, 0, none⟩) 1 1)) (by refine Eq.trans (congrArg (Tryz.prog.built 78) ?_) (cm_builtS _ _ _); kernel_rfl) ?_)
    | (go_at_call 99; (with_reducible refine (HT0.out _ _ HV.out HO2.out).mono ?_); rintro e w8 ⟨rfl, hb⟩; replace HV := Lib.hid (HV.out.below hb); replace HB := Lib.hid (HB.out.trans (hb.mono HB.out.size)); clear hb HO2))
  go_ret
  exact ⟨rfl, HB.out⟩
end Go.Proofs.YtanekacpalpcbaaGreatDoor
namespace Go.Proofs.YtanekacpalpcbaaGreatDoor
set_option linter.unusedVariables false
set_option linter.unusedSimpArgs false
open Go.RowKit
set_option maxRecDepth 1000000
set_option linter.unusedSimpArgs false
set_option linter.unusedVariables false
/-- what came in, in memory -/
structure BbX (g1 : Nat) (HC CC : Array Value) (tv vv : Value) (ts : List Tb) (l : List Vo) (w : World) : Prop where
  h1 : w.heap[g1]? = some (.cells (bkD HC tv CC) 80 (0, 0))
  t : TbIn w tv ts
  tb : ∀ t ∈ ts, BytesIn w t.bv t.bs
  v : VoIn w vv l
  vs : ∀ t ∈ l, BytesIn w t.sv t.sign
theorem kept_bbx (g1 : Nat) (HC CC : Array Value) (tv vv : Value) (ts : List Tb) (l : List Vo) : Kept (BbX g1 HC CC tv vv ts l) := fun _ _ m h =>
  ⟨kept_blk _ _ _ _ m.h1 h, m.t.below h, fun t ht => (m.tb t ht).below h, m.v.below h, fun t ht => (m.vs t ht).below h⟩
theorem rows_oneV {w : World} {q : Nat} {t : Vo} (h : w.heap[q]? = some (.cells (voTL t).toArray 93 (0, 0))) : VoIn w (.slice (some ⟨q, 0, none⟩) 1 1) [t] := by
  refine ⟨some ⟨q, 0, none⟩, 1, rfl, by simp, by simp [maxLen], .inr ⟨q, 0, rfl, (Array.getElem?_eq_some_iff.1 h).1, fun i s hi => ?_⟩⟩
  cases i with
  | zero => injection hi with hi; subst hi; have := rowT_range h; simpa using this
  | succ i => simp at hi
theorem wpList_oneVw {w : World} {ops : Array Oper} {rest : List Oper} {o : Oper} {a : Act} {Q : Exit → Act → World → Prop} (hgd : Region.wanted o (yielded ops a.tmps) = true) (x : Operand) (ho : o.op = .buildSlice 76 1 #[(0, x)]) (d : Option Tmp) (hd : o.dst = d) (t : Vo) (ht : ∃ a n c, t.sv = .slice a n c) (v : Value) (hv : v = .agg (voC t)) (hx : a.eval x = v)
    (h : wpList Tryz.prog ops Q rest (a.put d (.slice (some ⟨w.heap.size, 0, none⟩) 1 1)) (w.alloc (.cells (voTL t).toArray 93))) : wpList Tryz.prog ops Q (o :: rest) a w := by
  subst hd hv
  refine BigFrame.wpList_want hgd fun K hK => ?_
  obtain ⟨i0, hi, hz0, hz1, hz2⟩ := info_parts infoV11
  refine wp_buildSlice 76 93 1 #[(0, x)] ho (voTL t).toArray i0 _ Tryz.underlying76 hi hz0 (by rw [hz1]; decide) (by rw [hz1]; decide) ?_ (hK _ _ h)
  rw [hz1]
  simpa [hx] using vo_fill11 t ht
theorem slice_of11 {w : World} {v : Value} {xs : List Int} (h : BytesIn w v xs) : ∃ a c, v = .slice a xs.length c := by obtain ⟨a, c, e, _⟩ := h; exact ⟨a, c, e⟩
theorem sameV_one {a b : Vo} (h : vo1 a = vo1 b) : SameV [a] [b] := ⟨rfl, fun i x y h1 h2 => by
  cases i with
  | zero => injection h1 with h1; injection h2 with h2; subst h1 h2; exact h
  | succ i => simp at h1⟩
end Go.Proofs.YtanekacpalpcbaaGreatDoor
