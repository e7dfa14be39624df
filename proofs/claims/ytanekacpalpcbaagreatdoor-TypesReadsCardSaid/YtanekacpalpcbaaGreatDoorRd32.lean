/- Part 32 of the proof. -/
import Derived.Test.YtanekacpalpcbaaGreatDoorRd19
import Derived.Test.YtanekacpalpcbaaGreatDoorRd31
namespace Go.Proofs.YtanekacpalpcbaaGreatDoor
set_option linter.unusedVariables false
set_option linter.unusedSimpArgs false
open Go.RowKit
set_option maxRecDepth 100000
set_option linter.unusedSimpArgs false
set_option linter.unusedVariables false
theorem two_rows11 {w W : World} {A B R C : Array Value} {T1 T2 : TypeId} (h : (((w.alloc (.cells A T1)).alloc (.cells B T2)).setRow w.heap.size R).setRow (w.heap.size + 1) C = W) :
    Below w.heap.size w W ∧ W.heap[w.heap.size]? = some (.cells R T1 (0, 0)) ∧ W.heap[w.heap.size + 1]? = some (.cells C T2 (0, 0)) := by
  subst h
  have b1 := below_alloc w (.cells A T1)
  have b2 := below_alloc (w.alloc (.cells A T1)) (.cells B T2)
  have h1 := heap_alloc_new w (.cells A T1)
  have h2 := heap_alloc_new (w.alloc (.cells A T1)) (.cells B T2)
  rw [size_alloc] at h2
  have g1 := (b2.block w.heap.size (by simp)).trans h1
  refine ⟨below_setRow (below_setRow (b1.trans (b2.mono (by simp))) (Nat.le_refl _) _) (by omega) _, (setRow_other _ _ _ _ (by omega)).trans (setRow_heap _ _ _ _ _ _ g1), setRow_heap _ _ _ _ _ _ ((setRow_other _ _ _ _ (by omega)).trans h2)⟩
theorem alloc2_fst {w : World} {a b : Obj} : ((w.alloc a).alloc b).heap[w.heap.size]? = some a := ((below_alloc (w.alloc a) b).block w.heap.size (by simp)).trans (heap_alloc_new w a)
theorem vo_k11 {s : RSt} (h : okR11 s) : okR11 (vtR s) := by
  unfold vtR vt5
  exact partS_k11 (intS_k11 (hashS_k11 (intS_k11 (intS_k11 (intS_k11 h)))))
theorem cm_k11 {s : RSt} (h : okR11 s) : okR11 (cmR s) := by
  unfold cmR cmT
  exact vtN_k11 (countS_k11 (hashS_k11 (intS_k11 (intS_k11 h)))) _
theorem bk_k11 {s : RSt} (h : okR11 s) : okR11 (cmR (bkT s)) := by
  refine cm_k11 ?_
  unfold bkT
  exact txN_k11 (countS_k11 (hd_k11 h)) _
set_option maxHeartbeats 8000000 in
theorem rdv_any (vb : Value) (xs : List Int) (w : World) (hy : BytesIn w vb xs) (hok : bytesOk xs) (hl : xs.length ≤ 140737488351232) : Calls Tryz.prog 52 #[vb] w (DvP (fun o => .int .i64 (numE o)) xs w) := by
  obtain ⟨va, vc, rfl, -⟩ := id hy
  have HOK := Lib.hid (show okR11 (xs, none) from ⟨hok, hl, by simp⟩)
  obtain ⟨s0, hs0⟩ : ∃ s : RSt, s = (xs, none) := ⟨_, rfl⟩
  obtain ⟨s9, hs9⟩ : ∃ s, s = vtR s0 := ⟨_, rfl⟩
  have HOK9 := Lib.hid (show okR11 s9 from by rw [hs9, hs0]; exact vo_k11 HOK.out)
  have HC := Lib.hid (show ∀ X, BytesIn X (.slice va xs.length vc) xs → Calls Tryz.prog 117 #[.agg #[.slice va xs.length vc, .int .i64 0]] X fun e w' => ∃ v' sv, e = .returned (.tuple #[.agg (rdC v' (numE s9.2)), .agg (voC (vtV s0 sv))]) ∧ BytesIn w' v' s9.1 ∧ v'.ownBlock = (Value.slice va xs.length vc).ownBlock ∧ BytesIn w' sv (vtG s0) ∧ (∀ j, sv.ownBlock = some j → X.heap.size ≤ j ∧ j < w'.heap.size) ∧ Below X.heap.size X w' from fun X h => by
    rw [hs9, hs0]
    exact rdvote_any (.slice va xs.length vc) (xs, none) X h HOK.out)
  have HD := Lib.hid (fun v X h => rdone2_any v s9.1 s9.2 HOK9.out.2.2 X h (Nat.le_trans HOK9.out.2.1 (by omega)))
  have HNE := Lib.hid (show numE (doneE (s9.1, s9.2)) = 0 ↔ doneE s9 = none from by
    have h := HOK9.out.2.2
    show numE (doneE s9) = 0 ↔ _
    unfold doneE
    cases he : s9.2 with
    | none => simp only; split <;> simp [numE]
    | some x => simp only [numE]; rw [he] at h; constructor
                · intro h2; exact absurd (by rw [show x = 0 by omega]) h
                · intro h2; cases h2)
  obtain ⟨CZ, hbz, hCZ⟩ : ∃ C, Tryz.prog.built 93 [] = some C ∧ C = voD 0 0 0 (fun _ => 0) 0 nilV := ⟨_, by kernel_rfl, rfl⟩
  have HBZ := Lib.hid hbz
  have HZC := Lib.hid hCZ
  have HZS := Lib.hid ((congrArg Array.size hCZ).trans (voD_size _ _ _ _ _ _))
  have HZO := Lib.hid (show CZ.all (·.oneCell') = true from by rw [hCZ]; exact voD_one _ _ _ _ _ _ _ _)
  have HS0 := Lib.hid hs0
  have HS9 := Lib.hid hs9
  have HY := Lib.hid hy
  clear hy hok hl hbz hCZ hs0 hs9
  obtain ⟨xn, hxn⟩ : ∃ n, n = xs.length := ⟨_, rfl⟩
  rw [← hxn] at HC HY ⊢
  clear hxn
  go_enter Tryz.func52, Tryz.ntmps52
  go_upto_region 1 with (fail)
  generalize hA : World.alloc w _ = w1
  obtain ⟨cz, hcz, hq⟩ : ∃ cz : Array Value, cz.size = 37 ∧ w1.heap[w.heap.size]? = some (.cells cz 93 (0, 0)) := ⟨_, by kernel_rfl, by rw [← hA]; exact heap_alloc_new _ _⟩
  have HCZ := Lib.hid hcz
  have HQ := Lib.hid hq
  have HB := Lib.hid (show Below w.heap.size w w1 from by rw [← hA]; exact below_alloc _ _)
  have HLT := Lib.hid (show w.heap.size < w1.heap.size from bkT_lt hq)
  clear hA hcz hq
  go_upto_region 2 with (first
    | (go_at_call 117; (with_reducible refine (HC.out _ (HY.out.below HB.out)).mono ?_); rintro e w2 ⟨vx, sv, rfl, hx, ho, hvb, hnb, hb⟩; obtain ⟨ax, cx, rfl, -⟩ := id hx; have HX := Lib.hid hx; have HF := Lib.hid hvb; have HN := Lib.hid (show ∀ j, sv.ownBlock = some j → w.heap.size < j from fun j hj => Nat.lt_of_lt_of_le HLT.out (hnb j hj).1); obtain ⟨sa, sc, rfl, -⟩ := id hvb; clear hvb hnb; obtain ⟨CV, hCV⟩ : ∃ x, x = voC (vtV s0 (.slice sa (vtG s0).length sc)) := ⟨_, rfl⟩; have HCV := Lib.hid hCV; have HVS := Lib.hid ((congrArg Array.size hCV).trans (voC_size _)); have HVO := Lib.hid (show CV.all (·.oneCell') = true from by rw [hCV]; exact voC_one _ ⟨_, _, _, rfl⟩); rw [← hCV]; clear hCV; replace HQ := Lib.hid ((hb.block _ (bkT_lt HQ.out)).trans HQ.out); replace HB := Lib.hid (HB.out.trans (hb.mono HB.out.size)); replace HLT := Lib.hid (Nat.lt_of_lt_of_le HLT.out hb.size); clear hx ho hb)
    | (refine wpList_store_row rfl 152 (.tmp 4) (.tmp 10) rfl w2.heap.size (rdC (.slice ax s9.1.length cx) (numE s9.2)) rfl rfl 152 _ alloc2_fst (by kernel_rfl) (by rfl) (rd_one _ _ _ _) ?_)
    | (refine wpList_store_row rfl 93 (.tmp 5) (.tmp 11) rfl (w2.heap.size + 1) CV rfl rfl 93 _ ((setRow_other _ _ _ _ (by omega)).trans (by have h := heap_alloc_new (w2.alloc (.cells #[.slice none 0 0, .int .i64 0] 152)); rw [size_alloc] at h; exact h _)) (by rw [HVS.out]; kernel_rfl) (by rw [HVS.out]; kernel_rfl) HVO.out ?_))
  generalize hW : World.setRow (World.setRow (World.alloc (World.alloc w2 _) _) _ _) _ _ = w3
  obtain ⟨hb3, h4, h5⟩ := two_rows11 hW
  have H4 := Lib.hid h4
  have H5 := Lib.hid h5
  replace HX := Lib.hid (HX.out.below hb3)
  replace HQ := Lib.hid ((hb3.block _ (bkT_lt HQ.out)).trans HQ.out)
  replace HB := Lib.hid (HB.out.trans (hb3.mono HB.out.size))
  replace HF := Lib.hid (HF.out.below hb3)
  clear hW hb3 h4 h5
  obtain ⟨q, hq⟩ : ∃ q, q = w2.heap.size := ⟨_, rfl⟩
  have HQ2 := Lib.hid (show w.heap.size < q from by rw [hq]; exact HLT.out)
  rw [← hq] at H4 H5 ⊢
  clear hq
  obtain ⟨dn, hdn⟩ : ∃ d, d = numE (doneE (s9.1, s9.2)) := ⟨_, rfl⟩
  rw [← hdn] at HD HNE
  clear hdn
  by_cases hd : doneE s9 = none
  · have hz : dn = 0 := HNE.out.2 hd
    subst hz
    have HDD := Lib.hid hd
    clear hd
    go_wp2_with (first
      | (refine wpList_load_row rfl 152 (.tmp 4) rfl q rfl 152 _ (0, 0) _ H4.out Tryz.underlying152 rfl (by kernel_rfl) ?_)
      | (go_at_call 84; (with_reducible refine (HD.out _ _ HX.out).mono ?_); rintro e w4 ⟨rfl, hb⟩; replace H5 := Lib.hid ((hb.block _ (bkT_lt H5.out)).trans H5.out); replace HQ := Lib.hid ((hb.block _ (bkT_lt HQ.out)).trans HQ.out); replace HB := Lib.hid (HB.out.trans (hb.mono HB.out.size)); replace HF := Lib.hid (HF.out.below hb); clear hb)
      | (refine wpList_load_row rfl 93 (.tmp 5) rfl (q + 1) rfl 93 CV (0, 0) _ H5.out Tryz.underlying93 rfl (by rw [HVS.out]; kernel_rfl) ?_)
      | (refine wpList_store_row rfl 93 (.tmp 2) (.tmp 16) rfl w.heap.size CV rfl rfl 93 _ HQ.out (by rw [HVS.out]; kernel_rfl) (by rw [HVS.out, HCZ.out]) HVO.out ?_))
    refine bodyPost_ret (results_cell_tmp_row rfl _ _ w.heap.size 93 CV (0, 0) _ rfl (setRow_heap _ _ _ _ _ _ HQ.out) Tryz.underlying93 rfl (by rw [HVS.out]; kernel_rfl)) rfl ?_
    have ho := only_setRow11 w4 w.heap.size CV
    have hbz := below_setRow HB.out (Nat.le_refl _) CV
    have hd := HDD.out
    rw [HS9.out, HS0.out] at hd
    unfold DvP
    obtain ⟨h1, h2⟩ := dvoA xs hd
    rw [h1, h2, HCV.out, HS0.out]
    have hf := HF.out.only11 ho (fun _ k hk => by have := HN.out k hk; omega)
    rw [HS0.out, HCV.out, HS0.out] at hf
    rw [HCV.out, HS0.out] at hbz
    exact ⟨_, rfl, hf, hbz⟩
  · have hz : (dn != 0) = true := by
      have : ¬ dn = 0 := fun h => hd (HNE.out.1 h)
      simpa using this
    have HDD := Lib.hid hd
    clear hd
    go_wp2_with (first
      | (refine wpList_load_row rfl 152 (.tmp 4) rfl q rfl 152 _ (0, 0) _ H4.out Tryz.underlying152 rfl (by kernel_rfl) ?_)
      | (go_at_call 84; (with_reducible refine (HD.out _ _ HX.out).mono ?_); rintro e w4 ⟨rfl, hb⟩; replace HQ := Lib.hid ((hb.block _ (bkT_lt HQ.out)).trans HQ.out); replace HB := Lib.hid (HB.out.trans (hb.mono HB.out.size)); clear hb)
      | (refine wpList_buildTo rfl 93 #[] rfl (some 15) rfl CZ (by refine Eq.trans (congrArg (Tryz.prog.built 93) ?_) HBZ.out; kernel_rfl) ?_)
      | (refine wpList_store_row rfl 93 (.tmp 2) (.tmp 15) rfl w.heap.size CZ rfl rfl 93 _ HQ.out (by rw [HZS.out]; kernel_rfl) (by rw [HZS.out, HCZ.out]) HZO.out ?_))
    refine bodyPost_ret (results_cell_tmp_row rfl _ _ w.heap.size 93 CZ (0, 0) _ rfl (setRow_heap _ _ _ _ _ _ HQ.out) Tryz.underlying93 rfl (by rw [HZS.out]; kernel_rfl)) rfl ?_
    have hbz := below_setRow HB.out (Nat.le_refl _) CZ
    have hd := HDD.out
    rw [HS9.out, HS0.out] at hd
    unfold DvP
    obtain ⟨h1, h2⟩ := dvoB xs hd
    rw [h1, h2]
    exact ⟨nilV, by rw [HZC.out, voC_D]; rfl, nil_in _, hbz⟩
set_option maxHeartbeats 8000000 in
theorem rdh_any (vb : Value) (xs : List Int) (w : World) (hy : BytesIn w vb xs) (hok : bytesOk xs) (hl : xs.length ≤ 140737488351232) : Calls Tryz.prog 56 #[vb] w (DhP (fun o => .int .i64 (numE o)) xs w) := by
  obtain ⟨va, vc, rfl, -⟩ := id hy
  have HOK := Lib.hid (show okR11 (xs, none) from ⟨hok, hl, by simp⟩)
  obtain ⟨s0, hs0⟩ : ∃ s : RSt, s = (xs, none) := ⟨_, rfl⟩
  obtain ⟨s9, hs9⟩ : ∃ s, s = hdR s0 := ⟨_, rfl⟩
  have HOK9 := Lib.hid (show okR11 s9 from by rw [hs9, hs0]; exact hd_k11 HOK.out)
  have HC := Lib.hid (show ∀ X, BytesIn X (.slice va xs.length vc) xs → Calls Tryz.prog 123 #[.agg #[.slice va xs.length vc, .int .i64 0]] X fun e w' => ∃ v', e = .returned (.tuple #[.agg (rdC v' (numE s9.2)), .agg (hdV s0)]) ∧ BytesIn w' v' s9.1 ∧ v'.ownBlock = (Value.slice va xs.length vc).ownBlock ∧ Below X.heap.size X w' from fun X h => by
    rw [hs9, hs0]
    exact rdheader_any (.slice va xs.length vc) (xs, none) X h HOK.out)
  have HD := Lib.hid (fun v X h => rdone2_any v s9.1 s9.2 HOK9.out.2.2 X h (Nat.le_trans HOK9.out.2.1 (by omega)))
  have HNE := Lib.hid (show numE (doneE (s9.1, s9.2)) = 0 ↔ doneE s9 = none from by
    have h := HOK9.out.2.2
    show numE (doneE s9) = 0 ↔ _
    unfold doneE
    cases he : s9.2 with
    | none => simp only; split <;> simp [numE]
    | some x => simp only [numE]; rw [he] at h; constructor
                · intro h2; exact absurd (by rw [show x = 0 by omega]) h
                · intro h2; cases h2)
  obtain ⟨CZ, hbz, hCZ⟩ : ∃ C, Tryz.prog.built 74 [] = some C ∧ C = (hdD { data := #[] } 0 0 (fun _ => 0) (fun _ => 0) (fun _ => 0) (fun _ => 0) (fun _ => 0) 0) := ⟨_, by kernel_rfl, rfl⟩
  have HBZ := Lib.hid hbz
  have HZC := Lib.hid hCZ
  have HZS := Lib.hid ((congrArg Array.size hCZ).trans (hdD_size _ _ _ _ _ _ _ _ _))
  have HZO := Lib.hid (show CZ.all (·.oneCell') = true from by rw [hCZ]; exact hdD_one11 _ _ _ _ _ _ _ _ _)
  have HS0 := Lib.hid hs0
  have HS9 := Lib.hid hs9
  have HY := Lib.hid hy
  clear hy hok hl hbz hCZ hs0 hs9
  obtain ⟨xn, hxn⟩ : ∃ n, n = xs.length := ⟨_, rfl⟩
  rw [← hxn] at HC HY ⊢
  clear hxn
  go_enter Tryz.func56, Tryz.ntmps56
  go_upto_region 1 with (fail)
  generalize hA : World.alloc w _ = w1
  obtain ⟨cz, hcz, hq⟩ : ∃ cz : Array Value, cz.size = 164 ∧ w1.heap[w.heap.size]? = some (.cells cz 74 (0, 0)) := ⟨_, by kernel_rfl, by rw [← hA]; exact heap_alloc_new _ _⟩
  have HCZ := Lib.hid hcz
  have HQ := Lib.hid hq
  have HB := Lib.hid (show Below w.heap.size w w1 from by rw [← hA]; exact below_alloc _ _)
  have HLT := Lib.hid (show w.heap.size < w1.heap.size from bkT_lt hq)
  clear hA hcz hq
  go_upto_region 2 with (first
    | (go_at_call 123; (with_reducible refine (HC.out _ (HY.out.below HB.out)).mono ?_); rintro e w2 ⟨vx, rfl, hx, ho, hb⟩; obtain ⟨ax, cx, rfl, -⟩ := id hx; have HX := Lib.hid hx; obtain ⟨CV, hCV⟩ : ∃ x, x = hdV s0 := ⟨_, rfl⟩; have HCV := Lib.hid hCV; have HVS := Lib.hid ((congrArg Array.size hCV).trans (hdD_size _ _ _ _ _ _ _ _ _)); have HVO := Lib.hid (show CV.all (·.oneCell') = true from by rw [hCV]; exact hdD_one11 _ _ _ _ _ _ _ _ _); rw [← hCV]; clear hCV; replace HQ := Lib.hid ((hb.block _ (bkT_lt HQ.out)).trans HQ.out); replace HB := Lib.hid (HB.out.trans (hb.mono HB.out.size)); replace HLT := Lib.hid (Nat.lt_of_lt_of_le HLT.out hb.size); clear hx ho hb)
    | (refine wpList_store_row rfl 152 (.tmp 4) (.tmp 10) rfl w2.heap.size (rdC (.slice ax s9.1.length cx) (numE s9.2)) rfl rfl 152 _ alloc2_fst (by kernel_rfl) (by rfl) (rd_one _ _ _ _) ?_)
    | (refine wpList_store_row rfl 74 (.tmp 5) (.tmp 11) rfl (w2.heap.size + 1) CV rfl rfl 74 _ ((setRow_other _ _ _ _ (by omega)).trans (by have h := heap_alloc_new (w2.alloc (.cells #[.slice none 0 0, .int .i64 0] 152)); rw [size_alloc] at h; exact h _)) (by rw [HVS.out]; kernel_rfl) (by rw [HVS.out]; kernel_rfl) HVO.out ?_))
  generalize hW : World.setRow (World.setRow (World.alloc (World.alloc w2 _) _) _ _) _ _ = w3
  obtain ⟨hb3, h4, h5⟩ := two_rows11 hW
  have H4 := Lib.hid h4
  have H5 := Lib.hid h5
  replace HX := Lib.hid (HX.out.below hb3)
  replace HQ := Lib.hid ((hb3.block _ (bkT_lt HQ.out)).trans HQ.out)
  replace HB := Lib.hid (HB.out.trans (hb3.mono HB.out.size))
  skip
  have _hb3 := 0
  clear hW hb3 h4 h5
  obtain ⟨q, hq⟩ : ∃ q, q = w2.heap.size := ⟨_, rfl⟩
  have HQ2 := Lib.hid (show w.heap.size < q from by rw [hq]; exact HLT.out)
  rw [← hq] at H4 H5 ⊢
  clear hq
  obtain ⟨dn, hdn⟩ : ∃ d, d = numE (doneE (s9.1, s9.2)) := ⟨_, rfl⟩
  rw [← hdn] at HD HNE
  clear hdn
  by_cases hd : doneE s9 = none
  · have hz : dn = 0 := HNE.out.2 hd
    subst hz
    have HDD := Lib.hid hd
    clear hd
    go_wp2_with (first
      | (refine wpList_load_row rfl 152 (.tmp 4) rfl q rfl 152 _ (0, 0) _ H4.out Tryz.underlying152 rfl (by kernel_rfl) ?_)
      | (go_at_call 84; (with_reducible refine (HD.out _ _ HX.out).mono ?_); rintro e w4 ⟨rfl, hb⟩; replace H5 := Lib.hid ((hb.block _ (bkT_lt H5.out)).trans H5.out); replace HQ := Lib.hid ((hb.block _ (bkT_lt HQ.out)).trans HQ.out); replace HB := Lib.hid (HB.out.trans (hb.mono HB.out.size)); skip; have _hb := 0; clear hb)
      | (refine wpList_load_row rfl 74 (.tmp 5) rfl (q + 1) rfl 74 CV (0, 0) _ H5.out Tryz.underlying74 rfl (by rw [HVS.out]; kernel_rfl) ?_)
      | (refine wpList_store_row rfl 74 (.tmp 2) (.tmp 16) rfl w.heap.size CV rfl rfl 74 _ HQ.out (by rw [HVS.out]; kernel_rfl) (by rw [HVS.out, HCZ.out]) HVO.out ?_))
    refine bodyPost_ret (results_cell_tmp_row rfl _ _ w.heap.size 74 CV (0, 0) _ rfl (setRow_heap _ _ _ _ _ _ HQ.out) Tryz.underlying74 rfl (by rw [HVS.out]; kernel_rfl)) rfl ?_
    have ho := only_setRow11 w4 w.heap.size CV
    have hbz := below_setRow HB.out (Nat.le_refl _) CV
    have hd := HDD.out
    rw [HS9.out, HS0.out] at hd
    unfold DhP
    obtain ⟨h1, h2⟩ := dhAA xs hd
    rw [h1, h2]
    exact ⟨by rw [HCV.out, HS0.out]; rfl, hbz⟩
  · have hz : (dn != 0) = true := by
      have : ¬ dn = 0 := fun h => hd (HNE.out.1 h)
      simpa using this
    have HDD := Lib.hid hd
    clear hd
    go_wp2_with (first
      | (refine wpList_load_row rfl 152 (.tmp 4) rfl q rfl 152 _ (0, 0) _ H4.out Tryz.underlying152 rfl (by kernel_rfl) ?_)
      | (go_at_call 84; (with_reducible refine (HD.out _ _ HX.out).mono ?_); rintro e w4 ⟨rfl, hb⟩; replace HQ := Lib.hid ((hb.block _ (bkT_lt HQ.out)).trans HQ.out); replace HB := Lib.hid (HB.out.trans (hb.mono HB.out.size)); clear hb)
      | (refine wpList_buildTo rfl 74 #[] rfl (some 15) rfl CZ (by refine Eq.trans (congrArg (Tryz.prog.built 74) ?_) HBZ.out; kernel_rfl) ?_)
      | (refine wpList_store_row rfl 74 (.tmp 2) (.tmp 15) rfl w.heap.size CZ rfl rfl 74 _ HQ.out (by rw [HZS.out]; kernel_rfl) (by rw [HZS.out, HCZ.out]) HZO.out ?_))
    refine bodyPost_ret (results_cell_tmp_row rfl _ _ w.heap.size 74 CZ (0, 0) _ rfl (setRow_heap _ _ _ _ _ _ HQ.out) Tryz.underlying74 rfl (by rw [HZS.out]; kernel_rfl)) rfl ?_
    have hbz := below_setRow HB.out (Nat.le_refl _) CZ
    have hd := HDD.out
    rw [HS9.out, HS0.out] at hd
    unfold DhP
    obtain ⟨h1, h2⟩ := dhAB xs hd
    rw [h1, h2]
    exact ⟨by rw [HZC.out]; rfl, hbz⟩
set_option maxHeartbeats 8000000 in
theorem rdc_any (vb : Value) (xs : List Int) (w : World) (hy : BytesIn w vb xs) (hok : bytesOk xs) (hl : xs.length ≤ 140737488351232) : Calls Tryz.prog 54 #[vb] w (DcP (fun o => .int .i64 (numE o)) xs w) := by
  obtain ⟨va, vc, rfl, -⟩ := id hy
  have HOK := Lib.hid (show okR11 (xs, none) from ⟨hok, hl, by simp⟩)
  obtain ⟨s0, hs0⟩ : ∃ s : RSt, s = (xs, none) := ⟨_, rfl⟩
  obtain ⟨s9, hs9⟩ : ∃ s, s = cmR s0 := ⟨_, rfl⟩
  have HOK9 := Lib.hid (show okR11 s9 from by rw [hs9, hs0]; exact cm_k11 HOK.out)
  have HC := Lib.hid (show ∀ X, BytesIn X (.slice va xs.length vc) xs → Calls Tryz.prog 120 #[.agg #[.slice va xs.length vc, .int .i64 0]] X fun e w' => ∃ v' cv cvs, cvs.length = (countS (cmT s0) 32).1 ∧ e = .returned (.tuple #[.agg (rdC v' (numE s9.2)), .agg (cmC (cmV s0) cv)]) ∧ BytesIn w' v' s9.1 ∧ v'.ownBlock = (Value.slice va xs.length vc).ownBlock ∧ VL w' X.heap.size cv (vts (countS (cmT s0) 32).2 cvs) ∧ Below X.heap.size X w' from fun X h => by
    rw [hs9, hs0]
    exact rdcommit_any (.slice va xs.length vc) (xs, none) X h HOK.out)
  have HD := Lib.hid (fun v X h => rdone2_any v s9.1 s9.2 HOK9.out.2.2 X h (Nat.le_trans HOK9.out.2.1 (by omega)))
  have HNE := Lib.hid (show numE (doneE (s9.1, s9.2)) = 0 ↔ doneE s9 = none from by
    have h := HOK9.out.2.2
    show numE (doneE s9) = 0 ↔ _
    unfold doneE
    cases he : s9.2 with
    | none => simp only; split <;> simp [numE]
    | some x => simp only [numE]; rw [he] at h; constructor
                · intro h2; exact absurd (by rw [show x = 0 by omega]) h
                · intro h2; cases h2)
  obtain ⟨CZ, hbz, hCZ⟩ : ∃ C, Tryz.prog.built 78 [] = some C ∧ C = cmC ⟨0, 0, fun _ => 0⟩ nilV := ⟨_, by kernel_rfl, rfl⟩
  have HBZ := Lib.hid hbz
  have HZC := Lib.hid hCZ
  have HZS := Lib.hid ((congrArg Array.size hCZ).trans (cmC_size _ _))
  have HZO := Lib.hid (show CZ.all (·.oneCell') = true from by rw [hCZ]; exact cmC_one11 _ _ _ _)
  have HS0 := Lib.hid hs0
  have HS9 := Lib.hid hs9
  have HY := Lib.hid hy
  clear hy hok hl hbz hCZ hs0 hs9
  obtain ⟨xn, hxn⟩ : ∃ n, n = xs.length := ⟨_, rfl⟩
  rw [← hxn] at HC HY ⊢
  clear hxn
  go_enter Tryz.func54, Tryz.ntmps54
  go_upto_region 1 with (fail)
  generalize hA : World.alloc w _ = w1
  obtain ⟨cz, hcz, hq⟩ : ∃ cz : Array Value, cz.size = 35 ∧ w1.heap[w.heap.size]? = some (.cells cz 78 (0, 0)) := ⟨_, by kernel_rfl, by rw [← hA]; exact heap_alloc_new _ _⟩
  have HCZ := Lib.hid hcz
  have HQ := Lib.hid hq
  have HB := Lib.hid (show Below w.heap.size w w1 from by rw [← hA]; exact below_alloc _ _)
  have HLT := Lib.hid (show w.heap.size < w1.heap.size from bkT_lt hq)
  clear hA hcz hq
  go_upto_region 2 with (first
    | (go_at_call 120; (with_reducible refine (HC.out _ (HY.out.below HB.out)).mono ?_); rintro e w2 ⟨vx, cv, cvs, hcl, rfl, hx, ho, hvl, hb⟩; obtain ⟨ax, cx, rfl, -⟩ := id hx; have HX := Lib.hid hx; have HCL := Lib.hid hcl; have HF := Lib.hid (hvl.mono (show w.heap.size + 1 ≤ _ from HLT.out)); obtain ⟨ca, cc, rfl, -, -⟩ := hvl.rows.len; clear hvl hcl; obtain ⟨CV, hCV⟩ : ∃ x, x = cmC (cmV s0) (.slice ca (vts (countS (cmT s0) 32).2 cvs).length cc) := ⟨_, rfl⟩; have HCV := Lib.hid hCV; have HVS := Lib.hid ((congrArg Array.size hCV).trans (cmC_size _ _)); have HVO := Lib.hid (show CV.all (·.oneCell') = true from by rw [hCV]; exact cmC_one11 _ _ _ _); rw [← hCV]; clear hCV; replace HQ := Lib.hid ((hb.block _ (bkT_lt HQ.out)).trans HQ.out); replace HB := Lib.hid (HB.out.trans (hb.mono HB.out.size)); replace HLT := Lib.hid (Nat.lt_of_lt_of_le HLT.out hb.size); clear hx ho hb)
    | (refine wpList_store_row rfl 152 (.tmp 4) (.tmp 10) rfl w2.heap.size (rdC (.slice ax s9.1.length cx) (numE s9.2)) rfl rfl 152 _ alloc2_fst (by kernel_rfl) (by rfl) (rd_one _ _ _ _) ?_)
    | (refine wpList_store_row rfl 78 (.tmp 5) (.tmp 11) rfl (w2.heap.size + 1) CV rfl rfl 78 _ ((setRow_other _ _ _ _ (by omega)).trans (by have h := heap_alloc_new (w2.alloc (.cells #[.slice none 0 0, .int .i64 0] 152)); rw [size_alloc] at h; exact h _)) (by rw [HVS.out]; kernel_rfl) (by rw [HVS.out]; kernel_rfl) HVO.out ?_))
  generalize hW : World.setRow (World.setRow (World.alloc (World.alloc w2 _) _) _ _) _ _ = w3
  obtain ⟨hb3, h4, h5⟩ := two_rows11 hW
  have H4 := Lib.hid h4
  have H5 := Lib.hid h5
  replace HX := Lib.hid (HX.out.below hb3)
  replace HQ := Lib.hid ((hb3.block _ (bkT_lt HQ.out)).trans HQ.out)
  replace HB := Lib.hid (HB.out.trans (hb3.mono HB.out.size))
  replace HF := Lib.hid (HF.out.below hb3)
  clear hW hb3 h4 h5
  obtain ⟨q, hq⟩ : ∃ q, q = w2.heap.size := ⟨_, rfl⟩
  have HQ2 := Lib.hid (show w.heap.size < q from by rw [hq]; exact HLT.out)
  rw [← hq] at H4 H5 ⊢
  clear hq
  obtain ⟨dn, hdn⟩ : ∃ d, d = numE (doneE (s9.1, s9.2)) := ⟨_, rfl⟩
  rw [← hdn] at HD HNE
  clear hdn
  by_cases hd : doneE s9 = none
  · have hz : dn = 0 := HNE.out.2 hd
    subst hz
    have HDD := Lib.hid hd
    clear hd
    go_wp2_with (first
      | (refine wpList_load_row rfl 152 (.tmp 4) rfl q rfl 152 _ (0, 0) _ H4.out Tryz.underlying152 rfl (by kernel_rfl) ?_)
      | (go_at_call 84; (with_reducible refine (HD.out _ _ HX.out).mono ?_); rintro e w4 ⟨rfl, hb⟩; replace H5 := Lib.hid ((hb.block _ (bkT_lt H5.out)).trans H5.out); replace HQ := Lib.hid ((hb.block _ (bkT_lt HQ.out)).trans HQ.out); replace HB := Lib.hid (HB.out.trans (hb.mono HB.out.size)); replace HF := Lib.hid (HF.out.below hb); clear hb)
      | (refine wpList_load_row rfl 78 (.tmp 5) rfl (q + 1) rfl 78 CV (0, 0) _ H5.out Tryz.underlying78 rfl (by rw [HVS.out]; kernel_rfl) ?_)
      | (refine wpList_store_row rfl 78 (.tmp 2) (.tmp 16) rfl w.heap.size CV rfl rfl 78 _ HQ.out (by rw [HVS.out]; kernel_rfl) (by rw [HVS.out, HCZ.out]) HVO.out ?_))
    refine bodyPost_ret (results_cell_tmp_row rfl _ _ w.heap.size 78 CV (0, 0) _ rfl (setRow_heap _ _ _ _ _ _ HQ.out) Tryz.underlying78 rfl (by rw [HVS.out]; kernel_rfl)) rfl ?_
    have ho := only_setRow11 w4 w.heap.size CV
    have hbz := below_setRow HB.out (Nat.le_refl _) CV
    have hd := HDD.out
    rw [HS9.out, HS0.out] at hd
    unfold DcP
    obtain ⟨h1, h2, h3⟩ := dcA xs hd
    rw [h1, h2, h3]
    have hf := HF.out.only ho (Nat.lt_succ_self _)
    have hcl := HCL.out
    rw [HS0.out] at hf hcl
    exact ⟨_, _, by rw [HCV.out, HS0.out]; rfl, hf.rows, fun t m => (hf.el t m).1, vts_core _ hcl, hbz⟩
  · have hz : (dn != 0) = true := by
      have : ¬ dn = 0 := fun h => hd (HNE.out.1 h)
      simpa using this
    have HDD := Lib.hid hd
    clear hd
    go_wp2_with (first
      | (refine wpList_load_row rfl 152 (.tmp 4) rfl q rfl 152 _ (0, 0) _ H4.out Tryz.underlying152 rfl (by kernel_rfl) ?_)
      | (go_at_call 84; (with_reducible refine (HD.out _ _ HX.out).mono ?_); rintro e w4 ⟨rfl, hb⟩; replace HQ := Lib.hid ((hb.block _ (bkT_lt HQ.out)).trans HQ.out); replace HB := Lib.hid (HB.out.trans (hb.mono HB.out.size)); clear hb)
      | (refine wpList_buildTo rfl 78 #[] rfl (some 15) rfl CZ (by refine Eq.trans (congrArg (Tryz.prog.built 78) ?_) HBZ.out; kernel_rfl) ?_)
      | (refine wpList_store_row rfl 78 (.tmp 2) (.tmp 15) rfl w.heap.size CZ rfl rfl 78 _ HQ.out (by rw [HZS.out]; kernel_rfl) (by rw [HZS.out, HCZ.out]) HZO.out ?_))
    refine bodyPost_ret (results_cell_tmp_row rfl _ _ w.heap.size 78 CZ (0, 0) _ rfl (setRow_heap _ _ _ _ _ _ HQ.out) Tryz.underlying78 rfl (by rw [HZS.out]; kernel_rfl)) rfl ?_
    have hbz := below_setRow HB.out (Nat.le_refl _) CZ
    have hd := HDD.out
    rw [HS9.out, HS0.out] at hd
    unfold DcP
    obtain ⟨h1, h2, h3⟩ := dcB xs hd
    rw [h1, h2, h3]
    exact ⟨nilV, [], by rw [HZC.out]; rfl, rows_nil11 _, (fun t m => by cases m), rfl, hbz⟩
set_option maxHeartbeats 8000000 in
theorem rdb_any (vb : Value) (xs : List Int) (w : World) (hy : BytesIn w vb xs) (hok : bytesOk xs) (hl : xs.length ≤ 140737488351232) : Calls Tryz.prog 58 #[vb] w (DbP (fun o => .int .i64 (numE o)) xs w) := by
  obtain ⟨va, vc, rfl, -⟩ := id hy
  have HOK := Lib.hid (show okR11 (xs, none) from ⟨hok, hl, by simp⟩)
  obtain ⟨s0, hs0⟩ : ∃ s : RSt, s = (xs, none) := ⟨_, rfl⟩
  obtain ⟨s9, hs9⟩ : ∃ s, s = cmR (bkT s0) := ⟨_, rfl⟩
  have HOK9 := Lib.hid (show okR11 s9 from by rw [hs9, hs0]; exact bk_k11 HOK.out)
  have HC := Lib.hid (show ∀ X, BytesIn X (.slice va xs.length vc) xs → Calls Tryz.prog 126 #[.agg #[.slice va xs.length vc, .int .i64 0]] X fun e w' => ∃ v' tv tvs cv cvs, tvs.length = (countS (hdR s0) 64).1 ∧ cvs.length = (countS (cmT (bkT s0)) 32).1 ∧ e = .returned (.tuple #[.agg (rdC v' (numE s9.2)), .agg (bkD (hdV s0) tv (cmC (cmV (bkT s0)) cv))]) ∧ BytesIn w' v' s9.1 ∧ v'.ownBlock = (Value.slice va xs.length vc).ownBlock ∧ TL w' X.heap.size tv (txs (countS (hdR s0) 64).2 tvs) ∧ VL w' X.heap.size cv (vts (countS (cmT (bkT s0)) 32).2 cvs) ∧ Below X.heap.size X w' from fun X h => by
    rw [hs9, hs0]
    exact rdblock_any (.slice va xs.length vc) (xs, none) X h HOK.out)
  have HD := Lib.hid (fun v X h => rdone2_any v s9.1 s9.2 HOK9.out.2.2 X h (Nat.le_trans HOK9.out.2.1 (by omega)))
  have HNE := Lib.hid (show numE (doneE (s9.1, s9.2)) = 0 ↔ doneE s9 = none from by
    have h := HOK9.out.2.2
    show numE (doneE s9) = 0 ↔ _
    unfold doneE
    cases he : s9.2 with
    | none => simp only; split <;> simp [numE]
    | some x => simp only [numE]; rw [he] at h; constructor
                · intro h2; exact absurd (by rw [show x = 0 by omega]) h
                · intro h2; cases h2)
  obtain ⟨CZ, hbz, hCZ⟩ : ∃ C, Tryz.prog.built 80 [] = some C ∧ C = bkD (hdD { data := #[] } 0 0 (fun _ => 0) (fun _ => 0) (fun _ => 0) (fun _ => 0) (fun _ => 0) 0) nilV (cmC ⟨0, 0, fun _ => 0⟩ nilV) := ⟨_, by kernel_rfl, rfl⟩
  have HBZ := Lib.hid hbz
  have HZC := Lib.hid hCZ
  have HZS := Lib.hid ((congrArg Array.size hCZ).trans (bkD_size (hdD_size _ _ _ _ _ _ _ _ _) (cmC_size _ _)))
  have HZO := Lib.hid (show CZ.all (·.oneCell') = true from by rw [hCZ]; exact bkD_one (hdD_one11 _ _ _ _ _ _ _ _ _) (cmC_one11 _ _ _ _))
  have HS0 := Lib.hid hs0
  have HS9 := Lib.hid hs9
  have HY := Lib.hid hy
  clear hy hok hl hbz hCZ hs0 hs9
  obtain ⟨xn, hxn⟩ : ∃ n, n = xs.length := ⟨_, rfl⟩
  rw [← hxn] at HC HY ⊢
  clear hxn
  go_enter Tryz.func58, Tryz.ntmps58
  go_upto_region 1 with (fail)
  generalize hA : World.alloc w _ = w1
  obtain ⟨cz, hcz, hq⟩ : ∃ cz : Array Value, cz.size = 200 ∧ w1.heap[w.heap.size]? = some (.cells cz 80 (0, 0)) := ⟨_, by kernel_rfl, by rw [← hA]; exact heap_alloc_new _ _⟩
  have HCZ := Lib.hid hcz
  have HQ := Lib.hid hq
  have HB := Lib.hid (show Below w.heap.size w w1 from by rw [← hA]; exact below_alloc _ _)
  have HLT := Lib.hid (show w.heap.size < w1.heap.size from bkT_lt hq)
  clear hA hcz hq
  go_upto_region 2 with (first
    | (go_at_call 126; (with_reducible refine (HC.out _ (HY.out.below HB.out)).mono ?_); rintro e w2 ⟨vx, tv, tvs, cv, cvs, htl, hcl, rfl, hx, ho, htx, hvl, hb⟩; obtain ⟨ax, cx, rfl, -⟩ := id hx; have HX := Lib.hid hx; have HCL := Lib.hid hcl; have HTL := Lib.hid htl; have HT := Lib.hid (htx.mono (show w.heap.size + 1 ≤ _ from HLT.out)); have HF := Lib.hid (hvl.mono (show w.heap.size + 1 ≤ _ from HLT.out)); obtain ⟨ta, tc, rfl, -, -⟩ := htx.rows.len; obtain ⟨ca, cc, rfl, -, -⟩ := hvl.rows.len; clear hvl hcl htx htl; obtain ⟨CV, hCV⟩ : ∃ x, x = bkD (hdV s0) (.slice ta (txs (countS (hdR s0) 64).2 tvs).length tc) (cmC (cmV (bkT s0)) (.slice ca (vts (countS (cmT (bkT s0)) 32).2 cvs).length cc)) := ⟨_, rfl⟩; have HCV := Lib.hid hCV; have HVS := Lib.hid ((congrArg Array.size hCV).trans (bkD_size (hdD_size _ _ _ _ _ _ _ _ _) (cmC_size _ _))); have HVO := Lib.hid (show CV.all (·.oneCell') = true from by rw [hCV]; exact bkD_one (hdD_one11 _ _ _ _ _ _ _ _ _) (cmC_one11 _ _ _ _)); rw [← hCV]; clear hCV; replace HQ := Lib.hid ((hb.block _ (bkT_lt HQ.out)).trans HQ.out); replace HB := Lib.hid (HB.out.trans (hb.mono HB.out.size)); replace HLT := Lib.hid (Nat.lt_of_lt_of_le HLT.out hb.size); clear hx ho hb)
    | (refine wpList_store_row rfl 152 (.tmp 4) (.tmp 10) rfl w2.heap.size (rdC (.slice ax s9.1.length cx) (numE s9.2)) rfl rfl 152 _ alloc2_fst (by kernel_rfl) (by rfl) (rd_one _ _ _ _) ?_)
    | (refine wpList_store_row rfl 80 (.tmp 5) (.tmp 11) rfl (w2.heap.size + 1) CV rfl rfl 80 _ ((setRow_other _ _ _ _ (by omega)).trans (by have h := heap_alloc_new (w2.alloc (.cells #[.slice none 0 0, .int .i64 0] 152)); rw [size_alloc] at h; exact h _)) (by rw [HVS.out]; kernel_rfl) (by rw [HVS.out]; kernel_rfl) HVO.out ?_))
  generalize hW : World.setRow (World.setRow (World.alloc (World.alloc w2 _) _) _ _) _ _ = w3
  obtain ⟨hb3, h4, h5⟩ := two_rows11 hW
  have H4 := Lib.hid h4
  have H5 := Lib.hid h5
  replace HX := Lib.hid (HX.out.below hb3)
  replace HQ := Lib.hid ((hb3.block _ (bkT_lt HQ.out)).trans HQ.out)
  replace HB := Lib.hid (HB.out.trans (hb3.mono HB.out.size))
  replace HF := Lib.hid (HF.out.below hb3)
  replace HT := Lib.hid (HT.out.below hb3)
  clear hW hb3 h4 h5
  obtain ⟨q, hq⟩ : ∃ q, q = w2.heap.size := ⟨_, rfl⟩
  have HQ2 := Lib.hid (show w.heap.size < q from by rw [hq]; exact HLT.out)
  rw [← hq] at H4 H5 ⊢
  clear hq
  obtain ⟨dn, hdn⟩ : ∃ d, d = numE (doneE (s9.1, s9.2)) := ⟨_, rfl⟩
  rw [← hdn] at HD HNE
  clear hdn
  by_cases hd : doneE s9 = none
  · have hz : dn = 0 := HNE.out.2 hd
    subst hz
    have HDD := Lib.hid hd
    clear hd
    go_wp2_with (first
      | (refine wpList_load_row rfl 152 (.tmp 4) rfl q rfl 152 _ (0, 0) _ H4.out Tryz.underlying152 rfl (by kernel_rfl) ?_)
      | (go_at_call 84; (with_reducible refine (HD.out _ _ HX.out).mono ?_); rintro e w4 ⟨rfl, hb⟩; replace H5 := Lib.hid ((hb.block _ (bkT_lt H5.out)).trans H5.out); replace HQ := Lib.hid ((hb.block _ (bkT_lt HQ.out)).trans HQ.out); replace HB := Lib.hid (HB.out.trans (hb.mono HB.out.size)); replace HF := Lib.hid (HF.out.below hb); replace HT := Lib.hid (HT.out.below hb); clear hb)
      | (refine wpList_load_row rfl 80 (.tmp 5) rfl (q + 1) rfl 80 CV (0, 0) _ H5.out Tryz.underlying80 rfl (by rw [HVS.out]; kernel_rfl) ?_)
      | (refine wpList_store_row rfl 80 (.tmp 2) (.tmp 16) rfl w.heap.size CV rfl rfl 80 _ HQ.out (by rw [HVS.out]; kernel_rfl) (by rw [HVS.out, HCZ.out]) HVO.out ?_))
    refine bodyPost_ret (results_cell_tmp_row rfl _ _ w.heap.size 80 CV (0, 0) _ rfl (setRow_heap _ _ _ _ _ _ HQ.out) Tryz.underlying80 rfl (by rw [HVS.out]; kernel_rfl)) rfl ?_
    have ho := only_setRow11 w4 w.heap.size CV
    have hbz := below_setRow HB.out (Nat.le_refl _) CV
    have hd := HDD.out
    rw [HS9.out, HS0.out] at hd
    unfold DbP
    obtain ⟨h1, h2, h3, h4, h5⟩ := dbA xs hd
    rw [h1, h2, h3, h4, h5]
    have hf := HF.out.only ho (Nat.lt_succ_self _)
    have ht := HT.out.only ho (Nat.lt_succ_self _)
    have hcl := HCL.out
    have htl := HTL.out
    rw [HS0.out] at hf ht hcl htl
    exact ⟨_, _, _, _, by rw [HCV.out, HS0.out]; rfl, ht.rows, fun t m => (ht.el t m).1, txs_bs _ htl, hf.rows, fun t m => (hf.el t m).1, vts_core _ hcl, hbz⟩
  · have hz : (dn != 0) = true := by
      have : ¬ dn = 0 := fun h => hd (HNE.out.1 h)
      simpa using this
    have HDD := Lib.hid hd
    clear hd
    go_wp2_with (first
      | (refine wpList_load_row rfl 152 (.tmp 4) rfl q rfl 152 _ (0, 0) _ H4.out Tryz.underlying152 rfl (by kernel_rfl) ?_)
      | (go_at_call 84; (with_reducible refine (HD.out _ _ HX.out).mono ?_); rintro e w4 ⟨rfl, hb⟩; replace HQ := Lib.hid ((hb.block _ (bkT_lt HQ.out)).trans HQ.out); replace HB := Lib.hid (HB.out.trans (hb.mono HB.out.size)); clear hb)
      | (refine wpList_buildTo rfl 80 #[] rfl (some 15) rfl CZ (by refine Eq.trans (congrArg (Tryz.prog.built 80) ?_) HBZ.out; kernel_rfl) ?_)
      | (refine wpList_store_row rfl 80 (.tmp 2) (.tmp 15) rfl w.heap.size CZ rfl rfl 80 _ HQ.out (by rw [HZS.out]; kernel_rfl) (by rw [HZS.out, HCZ.out]) HZO.out ?_))
    refine bodyPost_ret (results_cell_tmp_row rfl _ _ w.heap.size 80 CZ (0, 0) _ rfl (setRow_heap _ _ _ _ _ _ HQ.out) Tryz.underlying80 rfl (by rw [HZS.out]; kernel_rfl)) rfl ?_
    have hbz := below_setRow HB.out (Nat.le_refl _) CZ
    have hd := HDD.out
    rw [HS9.out, HS0.out] at hd
    unfold DbP
    obtain ⟨h1, h2, h3, h4, h5⟩ := dbB xs hd
    rw [h1, h2, h3, h4, h5]
    exact ⟨nilV, [], nilV, [], by rw [HZC.out]; rfl, rows_nil11 _, (fun t m => by cases m), rfl, rows_nil11 _, (fun t m => by cases m), rfl, hbz⟩
end Go.Proofs.YtanekacpalpcbaaGreatDoor
