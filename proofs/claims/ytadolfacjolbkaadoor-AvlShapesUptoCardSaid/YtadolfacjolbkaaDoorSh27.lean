/- Part 27 of the proof. -/
import Derived.Great.BuildSlice
import Derived.Test.YtadolfacjolbkaaDoorSh4
import Derived.Test.YtadolfacjolbkaaDoorSh24
import Derived.Test.YtadolfacjolbkaaDoorSh25
import Derived.Test.YtadolfacjolbkaaDoorSh26
namespace Go.Proofs.YtadolfacjolbkaaDoor
set_option linter.unusedVariables false
set_option linter.unusedSimpArgs false
open Go.RowKit
set_option maxRecDepth 100000
set_option linter.unusedSimpArgs false
set_option linter.unusedVariables false
theorem bl_fill (b : Bool) : Instr.fill (fun i => some (i * 1, 1)) ((Array.range (1 * 1)).map ((Value.bool false).cells[· % (Value.bool false).cells.size]!)) [(0, .bool b)] = some #[.bool b] := by kernel_rfl
theorem wp_bool1 {o : Oper} {a : Act} {w : World} {K : Act → World → Prop} {Q : Exit → Act → World → Prop} (x : Operand) (ho : o.op = .buildSlice 23 1 #[(0, x)]) (b : Bool) (hx : a.eval x = .bool b)
    (h : K (a.put o.dst (.slice (some ⟨w.heap.size, 0, none⟩) 1 1)) (w.alloc (.cells #[.bool b] 4))) : o.wp Tryd.prog a w K Q := by
  obtain ⟨i0, hi, hz0, hz1, hz2⟩ := info_parts infoBl
  refine wp_buildSlice 23 4 1 #[(0, x)] ho #[.bool b] i0 _ Tryd.underlying23 hi hz0 (by rw [hz1]; decide) (by rw [hz1]; decide) ?_ h
  rw [hz1]
  simpa [hx] using bl_fill b
def ShPost (B : Nat) (xs : List Bool) (w : World) (e : Ending) (w' : World) : Prop := ∃ v', e = .returned v' ∧ w'.ownsRow B 4 1 v' xs.length (blVals xs) ∧ Below B w w'
set_option maxHeartbeats 4000000 in
theorem appShape_any : ∀ (t : AvT) (g B : Nat) (v : Value) (xs : List Bool) (w : World), TreeAt w g t → g < B → B ≤ w.heap.size → w.ownsRow B 4 1 v xs.length (blVals xs) → xs.length + t.shape.length ≤ 4398046511104 →
    Calls Tryd.prog 31 #[.pointer (some ⟨g, 0, none⟩), v] w (ShPost B (xs ++ t.shape) w)
  | .leaf k0 v0, g, B, v, xs, w, ht, hg, hB, ho, hl => by
    have c2 := ht.many
    rw [show ((AvT.leaf k0 v0).many : Int) = 1 from rfl] at c2
    rw [show (AvT.leaf k0 v0).shape = [false] from rfl] at hl ⊢
    have HO := Lib.hid ho
    have HL := Lib.hid hl
    have HB := Lib.hid hB
    have HA := Lib.hid (below_alloc w (.cells #[.bool false] 4))
    have H1 := Lib.hid (bool1_in w false)
    clear ht hg ho hl hB
    unfold ShPost
    go_enter Tryd.func31, Tryd.ntmps31
    go_wp2_with (at_builtin; go_loud (refine wpList_append_bools rfl (.tmp 10) (.tmp 11) rfl rfl B v xs rfl (HO.out.alloc _) _ [false] rfl H1.out (by have := HL.out; simp only [List.length_cons, List.length_nil] at this ⊢; omega) (by have := HB.out; rw [size_alloc]; omega) ?_; intro v1 w1 ho hgr; have HO1 := Lib.hid ho; have HB1 := Lib.hid (((HA.out.mono HB.out).grown hgr (by have := HB.out; rw [size_alloc]; omega) (fun k hk => (HO.out.lt k hk).1))); clear ho hgr))
    go_ret
    exact ⟨_, rfl, HO1.out, HB1.out⟩
  | .node a b, g, B, v, xs, w, ht, hg, hB, ho, hl => by
    have c2 := ht.many
    have hm2 : ((AvT.node a b).many : Int) ≠ 1 := by have := a.many_pos; have := b.many_pos; simp only [AvT.many]; omega
    obtain ⟨m, hm⟩ : ∃ m, m = (AvT.node a b).many := ⟨_, rfl⟩
    rw [← hm] at c2 hm2
    have hm1 : ((m : Int) == 1) = false := by rw [beq_eq_false_iff_ne]; exact hm2
    obtain ⟨ga, gb, hga, hgb, k36, k37, ta, tb⟩ := ht.kidsL
    have HS := Lib.hid (show ∀ w', Below B w w' → (w'.cell? ⟨g, 36, none⟩ = some (.pointer (some ⟨ga, 0, none⟩)) ∧ w'.cell? ⟨g, 37, none⟩ = some (.pointer (some ⟨gb, 0, none⟩))) from fun w' h => ⟨(h.cell (p := ⟨g, 36, none⟩) hg).trans k36, (h.cell (p := ⟨g, 37, none⟩) hg).trans k37⟩)
    simp only [AvT.shape, List.length_cons, List.length_append] at hl
    have HIA := Lib.hid (fun (v : Value) (w' : World) (hb : Below B w w') (hB : B ≤ w'.heap.size) (ho : w'.ownsRow B 4 1 v (xs ++ [true]).length (blVals (xs ++ [true]))) => appShape_any a ga B v (xs ++ [true]) w' (ta.belowN (by omega) hb) (by omega) hB ho (by simp; omega))
    have HIB := Lib.hid (fun (v : Value) (w' : World) (hb : Below B w w') (hB : B ≤ w'.heap.size) (ho : w'.ownsRow B 4 1 v (xs ++ [true] ++ a.shape).length (blVals (xs ++ [true] ++ a.shape))) => appShape_any b gb B v (xs ++ [true] ++ a.shape) w' (tb.belowN (by omega) hb) (by omega) hB ho (by simp; omega))
    rw [show xs ++ (AvT.node a b).shape = xs ++ [true] ++ a.shape ++ b.shape by simp [AvT.shape]]
    have HO := Lib.hid ho
    have HL := Lib.hid (show xs.length + 1 ≤ 4398046511104 by omega)
    have HB := Lib.hid hB
    obtain ⟨S2, hS2⟩ : ∃ S, S = xs ++ [true] ++ a.shape := ⟨_, rfl⟩
    rw [← hS2] at HIB ⊢
    obtain ⟨S3, hS3⟩ : ∃ S, S = S2 ++ b.shape := ⟨_, rfl⟩
    rw [← hS2] at HIA
    rw [← hS3] at HIB ⊢
    clear ht hg ho hl hB hm hm2 ta tb hga hgb k36 k37 hS2 hS3
    unfold ShPost at *
    go_enter Tryd.func31, Tryd.ntmps31
    go_upto_region 3 with (fail)
    clear c2 hm1
    refine wp_region_T (fun w' => w'.cell? ⟨g, 36, none⟩ = some (.pointer (some ⟨ga, 0, none⟩)) ∧ w'.cell? ⟨g, 37, none⟩ = some (.pointer (some ⟨gb, 0, none⟩))) [3, 7, 9, 10, 11] (by kernel_rfl) ?_
    have HBW := Lib.hid (show Below B w w.drew from (Below.refl _ _).drew)
    replace HO := Lib.hid (show w.drew.ownsRow B 4 1 v xs.length (blVals xs) from HO.out)
    replace HB := Lib.hid (show B ≤ w.drew.heap.size from HB.out)
    generalize w.drew = w1 at *
    refine anyT_takeY (i := 0) (v := .pointer (some ⟨g, 0, none⟩)) rfl (by kernel_rfl) (by kernel_rfl) (by kernel_rfl) (fun _ _ _ h => h) (by kernel_rfl) (Or.inl ⟨by rfl, by intro w; go_simp⟩) ?_
    try simp only [List.getElem_toArray, List.getElem_cons_succ, List.getElem_cons_zero, Act.put, List.setIfInBounds_toArray, List.set_cons_zero, List.set_cons_succ]
    refine anyT_takeY (i := 1) (v := .pointer (some ⟨g, 0, none⟩)) rfl (by kernel_rfl) (by kernel_rfl) (by kernel_rfl) (fun _ _ _ h => h) (by kernel_rfl) (Or.inl ⟨by rfl, by intro w; go_simp⟩) ?_
    try simp only [List.getElem_toArray, List.getElem_cons_succ, List.getElem_cons_zero, Act.put, List.setIfInBounds_toArray, List.set_cons_zero, List.set_cons_succ]
    refine anyT_takeY (i := 2) (v := .pointer (some ⟨g, 37, none⟩)) rfl (by kernel_rfl) (by kernel_rfl) (by kernel_rfl) (fun _ _ _ h => h) (by kernel_rfl) (Or.inl ⟨by rfl, by intro w; go_simp⟩) ?_
    try simp only [List.getElem_toArray, List.getElem_cons_succ, List.getElem_cons_zero, Act.put, List.setIfInBounds_toArray, List.set_cons_zero, List.set_cons_succ]
    refine anyT_takeY (i := 4) (v := .pointer (some ⟨g, 0, none⟩)) rfl (by kernel_rfl) (by kernel_rfl) (by kernel_rfl) (fun _ _ _ h => h) (by kernel_rfl) (Or.inl ⟨by rfl, by intro w; go_simp⟩) ?_
    try simp only [List.getElem_toArray, List.getElem_cons_succ, List.getElem_cons_zero, Act.put, List.setIfInBounds_toArray, List.set_cons_zero, List.set_cons_succ]
    refine anyT_takeY (i := 5) (v := .pointer (some ⟨g, 0, none⟩)) rfl (by kernel_rfl) (by kernel_rfl) (by kernel_rfl) (fun _ _ _ h => h) (by kernel_rfl) (Or.inl ⟨by rfl, by intro w; go_simp⟩) ?_
    try simp only [List.getElem_toArray, List.getElem_cons_succ, List.getElem_cons_zero, Act.put, List.setIfInBounds_toArray, List.set_cons_zero, List.set_cons_succ]
    refine anyT_takeY (i := 6) (v := .pointer (some ⟨g, 36, none⟩)) rfl (by kernel_rfl) (by kernel_rfl) (by kernel_rfl) (fun _ _ _ h => h) (by kernel_rfl) (Or.inl ⟨by rfl, by intro w; go_simp⟩) ?_
    try simp only [List.getElem_toArray, List.getElem_cons_succ, List.getElem_cons_zero, Act.put, List.setIfInBounds_toArray, List.set_cons_zero, List.set_cons_succ]
    refine anyT_takeY (i := 8) (v := v) rfl (by kernel_rfl) (by kernel_rfl) (by kernel_rfl) (fun _ _ _ h => h) (by kernel_rfl) (Or.inl ⟨by rfl, by intro w; go_simp⟩) ?_
    try simp only [List.getElem_toArray, List.getElem_cons_succ, List.getElem_cons_zero, Act.put, List.setIfInBounds_toArray, List.set_cons_zero, List.set_cons_succ]
    refine anyT_take [12, 13] (i := 3) (v := .pointer (some ⟨gb, 0, none⟩)) rfl (by kernel_rfl) (by kernel_rfl) (by kernel_rfl) (fun _ _ _ h => h) (by kernel_rfl) (Or.inl ⟨by rfl, fun w' hS => by have c := hS.2; go_simp⟩) (HS.out _ HBW.out) ?_
    try simp only [List.getElem_toArray, List.getElem_cons_succ, List.getElem_cons_zero, Act.put, List.setIfInBounds_toArray, List.set_cons_zero, List.set_cons_succ]
    refine anyT_take [11, 12, 13] (i := 7) (v := .pointer (some ⟨ga, 0, none⟩)) rfl (by kernel_rfl) (by kernel_rfl) (by kernel_rfl) (fun _ _ _ h => h) (by kernel_rfl) (Or.inl ⟨by rfl, fun w' hS => by have c := hS.1; go_simp⟩) (HS.out _ HBW.out) ?_
    try simp only [List.getElem_toArray, List.getElem_cons_succ, List.getElem_cons_zero, Act.put, List.setIfInBounds_toArray, List.set_cons_zero, List.set_cons_succ]
    refine anyT_one (i := 9) (by kernel_rfl) rfl (fun K hK => ?_)
    rw [if_pos (by rfl)]
    try simp only [List.getElem_toArray, List.getElem_cons_succ, List.getElem_cons_zero]
    (refine wp_bool1 (.const (.bool true)) rfl true rfl ?_; have H1 := Lib.hid (bool1_in w1 true); replace HO := Lib.hid (HO.out.alloc (.cells #[.bool true] 4)); replace HBW := Lib.hid (HBW.out.alloc HB.out (.cells #[.bool true] 4)); have HB2 := Lib.hid (show B ≤ (w1.alloc (.cells #[.bool true] 4)).heap.size by have := HB.out; rw [size_alloc]; omega))
    refine hK _ _ (fun _ => HS.out _ HBW.out) ?_
    clear hK K
    try simp only [List.getElem_toArray, List.getElem_cons_succ, List.getElem_cons_zero, Act.put, List.setIfInBounds_toArray, List.set_cons_zero, List.set_cons_succ]
    refine anyT_one (i := 10) (by kernel_rfl) rfl (fun K hK => ?_)
    rw [if_pos (by rfl)]
    try simp only [List.getElem_toArray, List.getElem_cons_succ, List.getElem_cons_zero]
    (refine wp_append_bools (.tmp 21) (.tmp 22) rfl rfl B v xs rfl HO.out _ [true] rfl H1.out (by have := HL.out; simp only [List.length_cons, List.length_nil] at this ⊢; omega) HB2.out ?_; intro v3 w3 ho hgr; have HO3 := Lib.hid ho; replace HBW := Lib.hid (HBW.out.grown hgr HB2.out (fun k hk => (HO.out.lt k hk).1)); have HB3 := Lib.hid (Nat.le_trans HB2.out hgr.size); clear ho hgr)
    refine hK _ _ (fun _ => HS.out _ HBW.out) ?_
    clear hK K
    try simp only [List.getElem_toArray, List.getElem_cons_succ, List.getElem_cons_zero, Act.put, List.setIfInBounds_toArray, List.set_cons_zero, List.set_cons_succ]
    refine anyT_one (i := 11) (by kernel_rfl) rfl (fun K hK => ?_)
    rw [if_pos (by rfl)]
    try simp only [List.getElem_toArray, List.getElem_cons_succ, List.getElem_cons_zero]
    (go_simp; refine (HIA.out v3 w3 HBW.out HB3.out HO3.out).mono ?_; rintro e w4 ⟨v4, rfl, ho, hb⟩; have HO4 := Lib.hid ho; replace HBW := Lib.hid (HBW.out.trans hb); have HB4 := Lib.hid (Nat.le_trans HB3.out hb.size); clear ho hb)
    refine hK _ _ (fun _ => HS.out _ HBW.out) ?_
    clear hK K
    try simp only [List.getElem_toArray, List.getElem_cons_succ, List.getElem_cons_zero, Act.put, List.setIfInBounds_toArray, List.set_cons_zero, List.set_cons_succ]
    refine anyT_one (i := 12) (by kernel_rfl) rfl (fun K hK => ?_)
    rw [if_pos (by rfl)]
    try simp only [List.getElem_toArray, List.getElem_cons_succ, List.getElem_cons_zero]
    (go_simp; refine (HIB.out v4 w4 HBW.out HB4.out HO4.out).mono ?_; rintro e w5 ⟨v5, rfl, ho, hb⟩; have HO5 := Lib.hid ho; replace HBW := Lib.hid (HBW.out.trans hb); clear ho hb)
    refine hK _ _ (not_mem rfl) ?_
    clear hK K
    try simp only [List.getElem_toArray, List.getElem_cons_succ, List.getElem_cons_zero, Act.put, List.setIfInBounds_toArray, List.set_cons_zero, List.set_cons_succ]
    refine anyT_takeY (i := 13) (v := v5) rfl (by kernel_rfl) (by kernel_rfl) (by kernel_rfl) (fun _ _ _ h => h) (by kernel_rfl) (Or.inl ⟨by rfl, by intro w; go_simp⟩) ?_
    try simp only [List.getElem_toArray, List.getElem_cons_succ, List.getElem_cons_zero, Act.put, List.setIfInBounds_toArray, List.set_cons_zero, List.set_cons_succ]
    refine anyT_done (by kernel_rfl) ?_ _
    go_wp2_with (fail)
    go_ret
    exact ⟨_, rfl, HO5.out, HBW.out⟩
theorem shape_any (v : Value) (t : Option AvT) (w : World) (h : TreeO w v t) (hm : manyO t ≤ 1099511627776) : Calls Tryd.prog 7 #[v] w (ShPost w.heap.size (shapeO t) w) := by
  have HLE := Lib.hid (len_any w h)
  cases t with
  | none =>
    cases h
    unfold ShPost
    go_enter Tryd.func7, Tryd.ntmps7
    go_wp2_with (go_at_call 14; (with_reducible refine HLE.out.mono ?_); rintro e w' ⟨rfl, rfl⟩)
    go_ret
    exact ⟨_, rfl, World.ownsRow_nil _ _ _ _, Below.refl _ _⟩
  | some t =>
    obtain ⟨g, rfl, ht⟩ := h
    have c2 := ht.many
    have hsl := t.shape_len
    have hmp := t.many_pos
    have hm' : t.many ≤ 1099511627776 := hm
    have HT := Lib.hid ht
    have HIS := Lib.hid (fun w' (hb : Below w.heap.size w w') (ho : w'.ownsRow w.heap.size 4 1 (.slice (some ⟨w.heap.size, 0, none⟩) 0 (2 * t.many - 1)) 0 []) => appShape_any t g w.heap.size _ [] w' (HT.out.belowN HT.out.lt hb) HT.out.lt hb.size ho (by simp; omega))
    show Calls Tryd.prog 7 #[.pointer (some ⟨g, 0, none⟩)] w (ShPost w.heap.size t.shape w)
    rw [show manyO (some t) = t.many from rfl] at HLE
    obtain ⟨m, hmm⟩ : ∃ m, m = t.many := ⟨_, rfl⟩
    rw [← hmm] at c2 HLE HIS hmp hm'
    obtain ⟨S, hS⟩ : ∃ S, S = t.shape := ⟨_, rfl⟩
    simp only [List.nil_append] at HIS
    rw [← hS] at HIS ⊢
    have hm0 : ((m : Int) == 0) = false := by rw [beq_eq_false_iff_ne]; omega
    have hsz : 2 * (m : Int) - 1 = ((2 * m - 1 : Nat) : Int) := by omega
    have HSZ := Lib.hid hsz
    have HM := Lib.hid hm'
    obtain ⟨iI, hI, hI0, hI1, hI2⟩ := info_parts infoBl
    have HI := Lib.hid (And.intro hI (And.intro hI0 (And.intro hI1 hI2)))
    clear hmm hsl hm ht hS hsz hI hI0 hI1 hI2
    unfold ShPost at *
    go_enter Tryd.func7, Tryd.ntmps7
    go_wp2_with (first
      | (go_at_call 14; (with_reducible refine HLE.out.mono ?_); rintro e w' ⟨rfl, rfl⟩)
      | (refine wpList_make_own w rfl (.const (.int .i64 0)) (.tmp 12) 23 rfl w.heap.size 4 iI (.bool false) 1 Tryd.underlying23 HI.out.1 HI.out.2.1 HI.out.2.2.1 .i64 .i64 _ (2 * m - 1) rfl rfl HSZ.out (by rw [HI.out.2.2.2]; have := HM.out; omega) (by unfold maxLen; have := HM.out; omega) (Nat.le_refl _) ?_; intro w1 ho hg; have HO1 := Lib.hid ho; have HB1 := Lib.hid ((Below.refl w.heap.size w).grown hg (Nat.le_refl _) (fun k hk => by cases hk)); clear ho hg)
      | (go_at_call 31; (with_reducible refine (HIS.out _ HB1.out HO1.out).mono ?_); rintro e w2 ⟨v2, rfl, ho, hb⟩; have HO2 := Lib.hid ho; have HB2 := Lib.hid (HB1.out.trans hb); clear ho hb))
    go_ret
    exact ⟨_, rfl, HO2.out, HB2.out⟩
end Go.Proofs.YtadolfacjolbkaaDoor
