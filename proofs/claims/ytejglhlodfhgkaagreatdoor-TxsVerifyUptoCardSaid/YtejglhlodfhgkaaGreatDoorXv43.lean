/- Part 43 of the proof. -/
import Derived.Great.BuildSlice
import Derived.Test.YtejglhlodfhgkaaGreatDoorXv1
import Derived.Test.YtejglhlodfhgkaaGreatDoorXv42
namespace Go.Proofs.YtejglhlodfhgkaaGreatDoor
set_option linter.unusedVariables false
set_option linter.unusedSimpArgs false
open Go.RowKit
set_option maxRecDepth 100000
set_option linter.unusedSimpArgs false
set_option linter.unusedVariables false
theorem i0_15 : i64b 0 := ⟨by decide, by decide⟩
theorem i1_15 : i64b 1 := ⟨by decide, by decide⟩
def bobS : ByteArray := { data := #[98, 111, 98] }
def atomS : ByteArray := { data := #[97, 116, 111, 109] }
def annS : ByteArray := { data := #[97, 110, 110] }
def pxPl : Px := ⟨annS, 0, atomS, 0, [⟨1, [bobS, atomS], [1], []⟩], []⟩
theorem pl_enc : encE pxPl = none := by kernel_rfl
theorem pl_encL : encL pxPl = pxB pxPl := by unfold encL; rw [pl_enc]; rfl
theorem pl_fl : PxFl pxPl := ⟨⟨by decide, by decide⟩, ⟨by decide, by decide⟩, fun m hm => by
  rw [List.mem_singleton.1 hm]
  exact ⟨⟨by decide, by decide⟩, fun i hi => by rw [List.mem_singleton.1 hi]; exact ⟨by decide, by decide⟩⟩⟩
theorem pl_dec : decOk (pxB pxPl) = true ∧ txV15 (pxB pxPl, none) = pxPl := dec_enc pxPl pl_fl pl_enc
theorem pl_ok : bytesOk (pxB pxPl) := fun x hx => by
  have h : (pxB pxPl).all (fun x => decide (0 ≤ x) && decide (x < 256)) = true := by kernel_rfl
  have := List.all_eq_true.1 h x hx
  simpa using this
theorem pl_len : (pxB pxPl).length ≤ 100 := of_decide_eq_true (by kernel_rfl)
theorem info15SS : (Tryz.prog.info? 9).map (fun i => (i.zero, i.size, i.bytes)) = some (some (.string { data := #[] }), 1, 16) := by kernel_rfl
theorem fill_ss : Instr.fill (fun i => some (i * 1, 1)) ((Array.range (2 * 1)).map ((Value.string { data := #[] }).cells[· % (Value.string { data := #[] }).cells.size]!)) [(0, .string bobS), (1, .string atomS)] = some #[.string bobS, .string atomS] := by kernel_rfl
theorem wpList_ss2 {w : World} {ops : Array Oper} {rest : List Oper} {o : Oper} {a : Act} {Q : Exit → Act → World → Prop} (hgd : o.guard = none) (ho : o.op = .buildSlice 108 2 #[(0, .const (.string bobS)), (1, .const (.string atomS))]) (d : Option Tmp) (hd : o.dst = d)
    (h : wpList Tryz.prog ops Q rest (a.put d (.slice (some ⟨w.heap.size, 0, none⟩) 2 2)) (w.alloc (.cells #[.string bobS, .string atomS] 9))) : wpList Tryz.prog ops Q (o :: rest) a w := by
  subst hd
  refine wpList_plain hgd fun K hK => ?_
  obtain ⟨i0, hi, hz0, hz1, hz2⟩ := info_parts info15SS
  refine wp_buildSlice 108 9 2 _ ho #[.string bobS, .string atomS] i0 _ Tryz.underlying108 hi hz0 (by rw [hz1]; decide) (by rw [hz1]; decide) ?_ (hK _ _ h)
  rw [hz1]
  simpa [Act.eval] using fill_ss
theorem wpList_is1 {w : World} {ops : Array Oper} {rest : List Oper} {o : Oper} {a : Act} {Q : Exit → Act → World → Prop} (hgd : o.guard = none) (ho : o.op = .buildSlice 109 1 #[(0, .const (.int .i64 1))]) (d : Option Tmp) (hd : o.dst = d)
    (h : wpList Tryz.prog ops Q rest (a.put d (.slice (some ⟨w.heap.size, 0, none⟩) 1 1)) (w.alloc (.cells #[.int .i64 1] 3))) : wpList Tryz.prog ops Q (o :: rest) a w := by
  subst hd
  refine wpList_plain hgd fun K hK => ?_
  obtain ⟨i0, hi, hz0, hz1, hz2⟩ := info_parts info15I
  refine wp_buildSlice 109 3 1 _ ho #[.int .i64 1] i0 _ Tryz.underlying109 hi hz0 (by rw [hz1]; decide) (by rw [hz1]; decide) ?_ (hK _ _ h)
  rw [hz1]
  simpa [Act.eval] using fill15I 1 trivial
theorem rows_new15 {α : Type} {n : Nat} {C : α → List Value} (w : World) (T : TypeId) (l : List α) (cs : Array Value) (h : ∀ i x, l[i]? = some x → ∀ j u, (C x)[j]? = some u → cs[i * n + j]? = some u) (hm : l.length ≤ maxLen) : RowsIn n C (w.alloc (.cells cs T)) (.slice (some ⟨w.heap.size, 0, none⟩) l.length l.length) l := by
  refine ⟨_, _, rfl, Nat.le_refl _, hm, .inr ⟨_, 0, rfl, by simp, fun i x hi j u hu => ?_⟩⟩
  rw [Nat.zero_add, cell_of_row _ _ _ _ _ _ (heap_alloc_new w _)]
  exact h i x hi j u hu
theorem pmsg_built (a1 a2 : Addr) : Tryz.prog.built 113 [(0, .int .i64 1), (1, .slice (some a1) 2 2), (2, .slice (some a2) 1 1)] = some #[.int .i64 1, .slice (some a1) 2 2, .slice (some a2) 1 1, .slice none 0 0] := by kernel_rfl
theorem pcn_built : Tryz.prog.built 23 [(0, .string atomS)] = some #[.string atomS, .int .i64 0] := by kernel_rfl
theorem ptx_built (a1 : Addr) : Tryz.prog.built 34 [(0, .string annS), (2, .agg #[.string atomS, .int .i64 0]), (3, .slice (some a1) 1 1)] = some #[.string annS, .int .i64 0, .string atomS, .int .i64 0, .slice (some a1) 1 1, .slice none 0 0] := by kernel_rfl
set_option maxHeartbeats 4000000 in
theorem lplain_any (w : World) : Calls Tryz.prog 65 #[] w fun e w' => ∃ x : Tr, e = .returned (.agg (trC15 x)) ∧ TrE w' x ∧ pxP x = pxPl ∧ TrFl x ∧ Below w.heap.size w w' := by
  go_enter Tryz.func65, Tryz.ntmps65
  go_upto_region 1 with (fail)
  generalize hA : World.alloc w _ = w1
  obtain ⟨cz, hcz, hq⟩ : ∃ cz : Array Value, cz.size = 6 ∧ w1.heap[w.heap.size]? = some (.cells cz 34 (0, 0)) := ⟨_, by kernel_rfl, by rw [← hA]; exact heap_alloc_new _ _⟩
  have HCZ := Lib.hid hcz
  have HQ := Lib.hid hq
  have HB1 := Lib.hid (show Below w.heap.size w w1 from by rw [← hA]; exact below_alloc _ _)
  have HS1 := Lib.hid (show w1.heap.size = w.heap.size + 1 from by rw [← hA]; simp)
  clear hA hcz hq
  obtain ⟨q, hqe⟩ : ∃ q, q = w.heap.size := ⟨_, rfl⟩
  have HQE := Lib.hid hqe
  rw [← hqe] at HQ ⊢
  clear hqe
  have HCB := Lib.hid pcn_built
  go_wp2_with (first
    | (refine wpList_buildTo rfl 23 #[(0, .const (.string { data := #[97, 116, 111, 109] }))] rfl (some 1) rfl #[.string atomS, .int .i64 0] (by refine Eq.trans (congrArg (Tryz.prog.built 23) ?_) HCB.out; kernel_rfl) ?_)
    | (refine wpList_ss2 rfl rfl (some 2) rfl ?_; have HS := Lib.hid (show StIn (w1.alloc (.cells #[.string bobS, .string atomS] 9)) (.slice (some ⟨w1.heap.size, 0, none⟩) 2 2) [bobS, atomS] from rows_new15 w1 9 [bobS, atomS] _ (fun i x hi j u hu => by match i, j, hi, hu with | 0, 0, hi, hu => cases hi; cases hu; rfl | 1, 0, hi, hu => cases hi; cases hu; rfl) (by unfold maxLen; decide)); have hb := below_alloc w1 (.cells #[.string bobS, .string atomS] 9); have HB2 := Lib.hid (HB1.out.trans (hb.mono HB1.out.size)); replace HQ := Lib.hid ((hb.block q (bkT_lt HQ.out)).trans HQ.out); clear hb; obtain ⟨g1, hg1⟩ : ∃ g, g = w1.heap.size := ⟨_, rfl⟩; have HG1 := Lib.hid (show q < g1 from by rw [hg1]; have := HS1.out; have := HQE.out; omega); rw [← hg1] at HS ⊢; clear hg1; generalize w1.alloc (.cells #[.string bobS, .string atomS] 9) = w2 at *)
    | (refine wpList_is1 rfl rfl (some 3) rfl ?_; have hql := bkT_lt HQ.out; have HI := Lib.hid (show ItIn (w2.alloc (.cells #[.int .i64 1] 3)) (.slice (some ⟨w2.heap.size, 0, none⟩) 1 1) [1] from rows_new15 w2 3 [(1 : Int)] _ (fun i x hi j u hu => by match i, j, hi, hu with | 0, 0, hi, hu => cases hi; cases hu; rfl) (by unfold maxLen; decide)); have hb := below_alloc w2 (.cells #[.int .i64 1] 3); have HB3 := Lib.hid (HB2.out.trans (hb.mono HB2.out.size)); replace HQ := Lib.hid ((hb.block q hql).trans HQ.out); replace HS := Lib.hid (HS.out.below hb); clear hb; obtain ⟨g2, hg2⟩ : ∃ g, g = w2.heap.size := ⟨_, rfl⟩; rw [← hg2] at HI ⊢; have HG2 := Lib.hid (show q < g2 from by rw [hg2]; exact hql); clear hg2 hql; generalize w2.alloc (.cells #[.int .i64 1] 3) = w3 at *; have HMB := Lib.hid (pmsg_built ⟨g1, 0, none⟩ ⟨g2, 0, none⟩); obtain ⟨x, hx⟩ : ∃ x : Mg, x = ⟨1, .slice (some ⟨g1, 0, none⟩) 2 2, [bobS, atomS], .slice (some ⟨g2, 0, none⟩) 1 1, [1], .slice none 0 0, []⟩ := ⟨_, rfl⟩; have HX := Lib.hid hx; have HOK := Lib.hid (show MgV x from by rw [hx]; exact ⟨⟨_, _, rfl⟩, ⟨_, _, rfl⟩, ⟨_, _, rfl⟩⟩); obtain ⟨MV, hMV⟩ : ∃ z, z = mgC x := ⟨_, rfl⟩; have HMV := Lib.hid hMV; have hms : MV.size = 4 := (congrArg Array.size hMV).trans rfl; replace HMB := Lib.hid (HMB.out.trans (congrArg some (show _ = MV from by rw [hMV, hx]; rfl))); clear hx hMV)
    | (refine wpList_buildTo rfl 113 #[(0, .const (.int .i64 1)), (1, .tmp 2), (2, .tmp 3)] rfl (some 4) rfl MV (by refine Eq.trans (congrArg (Tryz.prog.built 113) ?_) HMB.out; kernel_rfl) ?_; refine wpList_one15M rfl (.tmp 4) rfl (some 5) rfl x HOK.out (.agg MV) (by rw [HMV.out]) rfl ?_; go_loud ( have hql := bkT_lt HQ.out; have HM := Lib.hid (show MgIn (w3.alloc (.cells (mgL x).toArray 113)) (.slice (some ⟨w3.heap.size, 0, none⟩) 1 1) [x] from rows_new15 w3 113 [x] _ (fun i y hi j u hu => by match i, hi with | 0, hi => cases hi; simpa using hu) (by unfold maxLen; simp)); have hb := below_alloc w3 (.cells (mgL x).toArray 113); have HB4 := Lib.hid (HB3.out.trans (hb.mono HB3.out.size)); replace HQ := Lib.hid ((hb.block q hql).trans HQ.out); replace HS := Lib.hid (HS.out.below hb); replace HI := Lib.hid (HI.out.below hb); clear hb; obtain ⟨g3, hg3⟩ : ∃ g, g = w3.heap.size := ⟨_, rfl⟩; rw [← hg3] at HM ⊢; have HG3 := Lib.hid (show q < g3 from by rw [hg3]; exact hql); clear hg3 hql; generalize w3.alloc (.cells (mgL x).toArray 113) = w4 at *; obtain ⟨CV, hCV⟩ : ∃ z : Array Value, z = #[.string annS, .int .i64 0, .string atomS, .int .i64 0, .slice (some ⟨g3, 0, none⟩) 1 1, .slice none 0 0] := ⟨_, rfl⟩; have HTB := Lib.hid ((ptx_built ⟨g3, 0, none⟩).trans (congrArg some hCV.symm)); have HOC := Lib.hid (show CV.all (·.oneCell') = true from by rw [hCV]; simp [Value.oneCell']); have HZC := Lib.hid (show CV.size = 6 from by rw [hCV]; rfl); have HCV := Lib.hid hCV; clear hCV))
    | (refine wpList_buildTo rfl 34 #[(0, .const (.string { data := #[97, 110, 110] })), (2, .tmp 1), (3, .tmp 5)] rfl (some 6) rfl CV (by refine Eq.trans (congrArg (Tryz.prog.built 34) ?_) HTB.out; kernel_rfl) ?_)
    | (refine wpList_store_row rfl 34 (.tmp 0) (.tmp 6) rfl q CV rfl rfl 34 _ HQ.out (by rw [HZC.out]; kernel_rfl) (by rw [HZC.out, HCZ.out]) HOC.out ?_))
  refine bodyPost_ret (results_cell_row rfl _ _ q 34 CV (0, 0) _ rfl (setRow_heap _ _ _ _ _ _ HQ.out) Tryz.underlying34 rfl (by rw [HZC.out]; kernel_rfl)) rfl ?_
  have hoq := only_setRow11 w4 q CV
  have hg1 := HG1.out
  have hg2 := HG2.out
  have hg3 := HG3.out
  have ne : ∀ g, q < g → ∀ k, (Value.slice (some ⟨g, 0, none⟩) 1 1).ownBlock = some k → k ≠ q := fun g hg k hk => by simp [Value.ownBlock] at hk; omega
  have ne2 : ∀ g, q < g → ∀ k, (Value.slice (some ⟨g, 0, none⟩) 2 2).ownBlock = some k → k ≠ q := fun g hg k hk => by simp [Value.ownBlock] at hk; omega
  refine ⟨⟨annS, 0, atomS, 0, .slice (some ⟨g3, 0, none⟩) 1 1, [x], .slice none 0 0, []⟩, (by first | (rw [HCV.out]; rfl) | rw [HCV.out]), ⟨HM.out.only hoq (ne g3 hg3), fun m hm => ?_, nil_in _⟩, ?_, ⟨i0_15, i0_15, fun m hm => ?_⟩, below_setRow HB4.out (by rw [HQE.out]; exact Nat.le_refl _) _⟩
  · rw [List.mem_singleton.1 hm, HX.out]
    exact ⟨HS.out.only hoq (ne2 g1 hg1), HI.out.only hoq (ne g2 hg2), rows_nil15 _, fun t ht => by cases ht⟩
  · unfold pxP
    simp only [List.map_cons, List.map_nil]
    rw [HX.out]; rfl
  · rw [List.mem_singleton.1 hm, HX.out]
    exact ⟨i1_15, fun i hi => by rw [List.mem_singleton.1 hi]; exact i1_15⟩
end Go.Proofs.YtejglhlodfhgkaaGreatDoor
