/- Part 26 of the proof. -/
import Derived.Great.BuildSlice
import Derived.Test.YteokgklfljhcaaaGreatDoorSe25
namespace Go.Proofs.YteokgklfljhcaaaGreatDoor
set_option linter.unusedVariables false
set_option linter.unusedSimpArgs false
open Go.RowKit
set_option maxRecDepth 100000
set_option linter.unusedSimpArgs false
set_option linter.unusedVariables false
def vA : Va := ⟨{ data := #[97] }, fun _ => 0, 3⟩
def vB : Va := ⟨{ data := #[98] }, fun _ => 0, 1⟩
def voS1 (i : Int) : Vo := ⟨0, 0, 0, fun _ => 0, i, .slice none 0 0, []⟩
def cm0 : Cm := ⟨0, 0, fun _ => 0⟩
theorem sure_ck : ckE [vA, vB] = none := by kernel_rfl
theorem sure_tot : totV [vA, vB] = 4 := by kernel_rfl
theorem sure_vt1 : vtE [vA, vB] [vA, vB] [voS1 1] = some 32 := by kernel_rfl
theorem sure_vt0 : vtE [vA, vB] [vA, vB] [voS1 0] = none := by kernel_rfl
theorem sure_wf : ∀ x ∈ [vA, vB], VaWf x := by
  intro x hx
  simp only [List.mem_cons, List.not_mem_nil, or_false] at hx
  rcases hx with rfl | rfl
  · exact ⟨by show (1 : Nat) ≤ _; omega, fun i _ => by show (0 : Int) ≤ 0 ∧ (0 : Int) < 256; omega⟩
  · exact ⟨by show (1 : Nat) ≤ _; omega, fun i _ => by show (0 : Int) ≤ 0 ∧ (0 : Int) < 256; omega⟩
theorem vA_built : Tryz.prog.built 54 [(0, .string { data := #[97] }), (2, .int .i64 3)] = some (vaC vA) := by kernel_rfl
theorem vB_built : Tryz.prog.built 54 [(0, .string { data := #[98] }), (2, .int .i64 1)] = some (vaC vB) := by kernel_rfl
theorem vo_builtS (i : Int) : Tryz.prog.built 99 [(4, .int .i64 i)] = some (voC (voS1 i)) := by kernel_rfl
theorem cm_builtS (a : Option Addr) (n c : Nat) : Tryz.prog.built 29 [(3, .slice a n c)] = some (cmC cm0 (.slice a n c)) := by kernel_rfl
theorem infoVa : (Tryz.prog.info? 54).map (fun i => (i.zero, i.size, i.bytes)) = some (some (.agg (vaC ⟨{ data := #[] }, fun _ => 0, 0⟩)), 34, 56) := by kernel_rfl
theorem infoVo : (Tryz.prog.info? 99).map (fun i => (i.zero, i.size, i.bytes)) = some (some (.agg (voC (voS1 0))), 37, 88) := by kernel_rfl
theorem va_fill : Instr.fill (fun i => some (i * 34, 34)) ((Array.range (2 * 34)).map ((Value.agg (vaC ⟨{ data := #[] }, fun _ => 0, 0⟩)).cells[· % (Value.agg (vaC ⟨{ data := #[] }, fun _ => 0, 0⟩)).cells.size]!)) [(0, .agg (vaC vA)), (1, .agg (vaC vB))] = some (vaC vA ++ vaC vB) := by kernel_rfl
theorem vo_fill (i : Int) : Instr.fill (fun i => some (i * 37, 37)) ((Array.range (1 * 37)).map ((Value.agg (voC (voS1 0))).cells[· % (Value.agg (voC (voS1 0))).cells.size]!)) [(0, .agg (voC (voS1 i)))] = some (voC (voS1 i)) := by kernel_rfl
theorem wpList_vas {w : World} {ops : Array Oper} {rest : List Oper} {o : Oper} {a : Act} {Q : Exit → Act → World → Prop} (hgd : o.guard = none) (x y : Operand) (ho : o.op = .buildSlice 48 2 #[(0, x), (1, y)]) (hx : a.eval x = .agg (vaC vA)) (hy : a.eval y = .agg (vaC vB))
    (h : wpList Tryz.prog ops Q rest (a.put o.dst (.slice (some ⟨w.heap.size, 0, none⟩) 2 2)) (w.alloc (.cells (vaC vA ++ vaC vB) 54))) : wpList Tryz.prog ops Q (o :: rest) a w := by
  refine wpList_plain hgd fun K hK => ?_
  obtain ⟨i0, hi, hz0, hz1, hz2⟩ := info_parts infoVa
  refine wp_buildSlice 48 54 2 #[(0, x), (1, y)] ho (vaC vA ++ vaC vB) i0 _ Tryz.underlying48 hi hz0 (by rw [hz1]; decide) (by rw [hz1]; decide) ?_ (hK _ _ h)
  rw [hz1]
  simpa [hx, hy] using va_fill
theorem wpList_vo1 {w : World} {ops : Array Oper} {rest : List Oper} {o : Oper} {a : Act} {Q : Exit → Act → World → Prop} (hgd : Region.wanted o (yielded ops a.tmps) = true) (x : Operand) (ho : o.op = .buildSlice 27 1 #[(0, x)]) (i : Int) (hx : a.eval x = .agg (voC (voS1 i)))
    (h : wpList Tryz.prog ops Q rest (a.put o.dst (.slice (some ⟨w.heap.size, 0, none⟩) 1 1)) (w.alloc (.cells (voC (voS1 i)) 99))) : wpList Tryz.prog ops Q (o :: rest) a w := by
  refine BigFrame.wpList_want hgd fun K hK => ?_
  obtain ⟨i0, hi, hz0, hz1, hz2⟩ := info_parts infoVo
  refine wp_buildSlice 27 99 1 #[(0, x)] ho (voC (voS1 i)) i0 _ Tryz.underlying27 hi hz0 (by rw [hz1]; decide) (by rw [hz1]; decide) ?_ (hK _ _ h)
  rw [hz1]
  simpa [hx] using vo_fill i
theorem vas_in (w : World) : VaIn (w.alloc (.cells (vaC vA ++ vaC vB) 54)) (.slice (some ⟨w.heap.size, 0, none⟩) 2 2) [vA, vB] := by
  refine ⟨_, 2, rfl, Nat.le_refl _, by simp [maxLen], .inr ⟨_, 0, rfl, by simp, fun i s hi j v hv => ?_⟩⟩
  have hj : j < 34 := by have := (List.getElem?_eq_some_iff.1 hv).1; simpa [vaC_size] using this
  rw [cell_of_row _ _ _ _ _ _ (heap_alloc_new w _)]
  match i, hi with
  | 0, hi =>
    simp only [List.getElem?_cons_zero, Option.some.injEq] at hi
    subst hi
    rw [Array.getElem?_append_left (by rw [vaC_size]; omega)]
    simpa using hv
  | 1, hi =>
    simp only [List.getElem?_cons_succ, List.getElem?_cons_zero, Option.some.injEq] at hi
    subst hi
    rw [Array.getElem?_append_right (by rw [vaC_size]; omega), vaC_size]
    simpa using hv
theorem vo1_in (w : World) (i : Int) : VoIn (w.alloc (.cells (voC (voS1 i)) 99)) (.slice (some ⟨w.heap.size, 0, none⟩) 1 1) [voS1 i] := by
  refine ⟨_, 1, rfl, Nat.le_refl _, by simp [maxLen], .inr ⟨_, 0, rfl, by simp, fun k s hi => ?_⟩⟩
  match k, hi with
  | 0, hi =>
    simp only [List.getElem?_cons_zero, Option.some.injEq] at hi
    subst hi
    exact rowT_range (heap_alloc_new w _)
theorem vo1_sv (i : Int) : ∀ t ∈ [voS1 i], ∃ a n c, t.sv = .slice a n c := by
  intro t ht
  rw [List.mem_singleton.1 ht]
  exact ⟨_, _, _, rfl⟩
theorem wpList_builtW {P : Program} {ops : Array Oper} {rest : List Oper} {o : Oper} {a : Act} {w : World} {Q : Exit → Act → World → Prop} (hg : Region.wanted o (yielded ops a.tmps) = true) (t : TypeId) (parts : Array (Nat × Operand)) (ho : o.op = .build t parts) (cells : Array Value)
    (hf : P.built t (parts.map fun (i, x) => (i, a.eval x)).toList = some cells)
    (h : wpList P ops Q rest (a.put o.dst (.agg cells)) w) : wpList P ops Q (o :: rest) a w := by
  exact BigFrame.wpList_want hg fun K hK => wp_build t parts ho (by rw [hf]; rfl) (by rw [hf]; exact hK _ _ h)
set_option maxHeartbeats 4000000 in
theorem tysure_any (w : World) (hg : ErrType w) : Calls Tryz.prog 19 #[] w fun e w' => e = .returned (.bool true) ∧ Below w.heap.size w w' := by
  have HG := Lib.hid hg
  have HZ := Lib.hid (show ∀ x ∈ [vA, vB], x.name.size ≤ 140737488351232 from fun x hx => (sure_wf x hx).1)
  clear hg
  go_enter Tryz.func19, Tryz.ntmps19
  go_upto_region 2 with (first
    | (refine wpList_builtT rfl 54 #[(0, .const (.string { data := #[97] })), (2, .const (.int .i64 3))] rfl (vaC vA) (by refine Eq.trans (congrArg (Tryz.prog.built 54) ?_) vA_built; kernel_rfl) ?_)
    | (refine wpList_builtT rfl 54 #[(0, .const (.string { data := #[98] })), (2, .const (.int .i64 1))] rfl (vaC vB) (by refine Eq.trans (congrArg (Tryz.prog.built 54) ?_) vB_built; kernel_rfl) ?_)
    | (refine wpList_vas rfl (.tmp 2) (.tmp 3) rfl rfl rfl ?_))
  have HV := Lib.hid (vas_in w)
  have HB := Lib.hid (below_alloc w (.cells (vaC vA ++ vaC vB) 54))
  generalize w.alloc (.cells (vaC vA ++ vaC vB) 54) = w1 at *
  obtain ⟨g, hgq⟩ : ∃ g, g = w.heap.size := ⟨_, rfl⟩
  rw [← hgq] at HV ⊢
  clear hgq
  have HCK := Lib.hid (fun w h => checkset_any [vA, vB] (.slice (some ⟨g, 0, none⟩) 2 2) w h HZ.out)
  rw [sure_ck] at HCK
  have HTO := Lib.hid (fun w h => total_any [vA, vB] (.slice (some ⟨g, 0, none⟩) 2 2) w h)
  rw [sure_tot] at HTO
  have HT1 := Lib.hid (fun vv w h1 h2 => vtrust_any [vA, vB] [vA, vB] [voS1 1] cm0 (.slice (some ⟨g, 0, none⟩) 2 2) (.slice (some ⟨g, 0, none⟩) 2 2) vv w h1 h1 h2 sure_wf sure_wf (by simp) (vo1_sv 1))
  rw [sure_vt1] at HT1
  have HT0 := Lib.hid (fun vv w h1 h2 => vtrust_any [vA, vB] [vA, vB] [voS1 0] cm0 (.slice (some ⟨g, 0, none⟩) 2 2) (.slice (some ⟨g, 0, none⟩) 2 2) vv w h1 h1 h2 sure_wf sure_wf (by simp) (vo1_sv 0))
  rw [sure_vt0] at HT0
  have HNU := Lib.hid (show ∀ w, ErrType w → Calls Tryz.prog 6 #[.iface 78 (.int .i64 32)] w fun r w' => r = .returned (.int .i64 32) ∧ Below w.heap.size w w' from fun w h => num_any (some 32) w h)
  simp only [errV] at HCK HT1 HT0
  clear HZ
  go_wp2_with (first
    | (go_at_call 22; (with_reducible refine (HCK.out _ HV.out).mono ?_); rintro e w2 ⟨rfl, hb⟩; replace HV := Lib.hid (HV.out.below hb); replace HB := Lib.hid (HB.out.trans (hb.mono HB.out.size)); clear hb)
    | (go_at_call 24; (with_reducible refine (HTO.out _ HV.out).mono ?_); rintro e w3 ⟨rfl, hb⟩; replace HV := Lib.hid (HV.out.below hb); replace HB := Lib.hid (HB.out.trans (hb.mono HB.out.size)); clear hb)
    | (refine wpList_builtW (by rfl) 99 #[(4, .const (.int .i64 1))] rfl (voC (voS1 1)) (by refine Eq.trans (congrArg (Tryz.prog.built 99) ?_) (vo_builtS 1); kernel_rfl) ?_)
    | (refine wpList_builtW (by rfl) 99 #[(4, .const (.int .i64 0))] rfl (voC (voS1 0)) (by refine Eq.trans (congrArg (Tryz.prog.built 99) ?_) (vo_builtS 0); kernel_rfl) ?_)
    | (refine wpList_vo1 (by rfl) (.tmp 16) rfl 1 rfl ?_; have HO := Lib.hid (vo1_in w3 1); replace HV := Lib.hid (HV.out.below (below_alloc w3 (.cells (voC (voS1 1)) 99))); replace HB := Lib.hid (HB.out.alloc HB.out.size (.cells (voC (voS1 1)) 99)); obtain ⟨g1, hg1⟩ : ∃ g, g = w3.heap.size := ⟨_, rfl⟩; rw [← hg1] at HO ⊢; clear hg1; generalize w3.alloc (.cells (voC (voS1 1)) 99) = w4 at *)
    | (refine wpList_builtW (by rfl) 29 #[(3, .tmp 17)] rfl (cmC cm0 (.slice (some ⟨g1, 0, none⟩) 1 1)) (by refine Eq.trans (congrArg (Tryz.prog.built 29) ?_) (cm_builtS _ _ _); kernel_rfl) ?_)
    | (go_at_call 67; (with_reducible refine (HT1.out _ _ HV.out HO.out).mono ?_); rintro e w5 ⟨rfl, hb⟩; replace HV := Lib.hid (HV.out.below hb); replace HB := Lib.hid (HB.out.trans (hb.mono HB.out.size)); clear hb HO)
    | (go_at_call 6; (with_reducible refine (HNU.out _ (HG.out.below HB.out)).mono ?_); rintro e w6 ⟨rfl, hb⟩; replace HV := Lib.hid (HV.out.below hb); replace HB := Lib.hid (HB.out.trans (hb.mono HB.out.size)); clear hb)
    | (refine wpList_vo1 (by rfl) (.tmp 26) rfl 0 rfl ?_; have HO2 := Lib.hid (vo1_in w6 0); replace HV := Lib.hid (HV.out.below (below_alloc w6 (.cells (voC (voS1 0)) 99))); replace HB := Lib.hid (HB.out.alloc HB.out.size (.cells (voC (voS1 0)) 99)); obtain ⟨g2, hg2⟩ : ∃ g, g = w6.heap.size := ⟨_, rfl⟩; rw [← hg2] at HO2 ⊢; clear hg2; generalize w6.alloc (.cells (voC (voS1 0)) 99) = w7 at *)
    | (refine wpList_builtW (by rfl) 29 #[(3, .tmp 27)] rfl (cmC cm0 (.slice (some ⟨g2, 0, none⟩) 1 1)) (by refine Eq.trans (congrArg (Tryz.prog.built 29) ?_) (cm_builtS _ _ _); kernel_rfl) ?_)
    | (go_at_call 67; (with_reducible refine (HT0.out _ _ HV.out HO2.out).mono ?_); rintro e w8 ⟨rfl, hb⟩; replace HV := Lib.hid (HV.out.below hb); replace HB := Lib.hid (HB.out.trans (hb.mono HB.out.size)); clear hb HO2))
  go_ret
  exact ⟨rfl, HB.out⟩
end Go.Proofs.YteokgklfljhcaaaGreatDoor
