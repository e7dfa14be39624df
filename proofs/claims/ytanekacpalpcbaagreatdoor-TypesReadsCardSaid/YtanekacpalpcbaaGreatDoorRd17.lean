/- Part 17 of the proof. -/
import Derived.Test.YtanekacpalpcbaaGreatDoorRd16
namespace Go.Proofs.YtanekacpalpcbaaGreatDoor
set_option linter.unusedVariables false
set_option linter.unusedSimpArgs false
open Go.RowKit
set_option maxRecDepth 100000
set_option linter.unusedSimpArgs false
set_option linter.unusedVariables false
set_option maxHeartbeats 8000000 in
theorem decV_ok (vb : Value) (xs : List Int) (w : World) (hy : BytesIn w vb xs) (hok : bytesOk xs) (hl : xs.length ≤ 140737488355328) (hd : doneE (vtR (xs, none)) = none) :
    Calls Tryz.prog 115 #[vb, .func (.func 116) #[] #[]] w fun e w' => ∃ sa sc, e = .returned (.tuple #[.agg (voC (vtV (xs, none) (.slice sa (vtG (xs, none)).length sc))), .nilIface]) ∧ BytesIn w' (.slice sa (vtG (xs, none)).length sc) (vtG (xs, none)) ∧ (∀ j, (Value.slice sa (vtG (xs, none)).length sc).ownBlock = some j → w.heap.size ≤ j) ∧ Below w.heap.size w w' := by
  have HY0 := Lib.hid (fun o => hy.below (below_alloc w o))
  have HOK := Lib.hid hok
  have HL := Lib.hid hl
  have HD := Lib.hid hd
  clear hy hok hl hd
  go_enter Tryz.func115, Tryz.ntmps115
  go_upto_region 1 with (fail)
  generalize hA : World.alloc w _ = w1
  obtain ⟨cz, hcz, hq⟩ : ∃ cz : Array Value, cz.size = 37 ∧ w1.heap[w.heap.size]? = some (.cells cz 93 (0, 0)) := ⟨_, by kernel_rfl, by rw [← hA]; exact heap_alloc_new _ _⟩
  have HCZ := Lib.hid hcz
  have HQ := Lib.hid hq
  have HY := Lib.hid (show BytesIn w1 vb xs from by rw [← hA]; exact HY0.out _)
  have HB1 := Lib.hid (show Below w.heap.size w w1 from by rw [← hA]; exact below_alloc _ _)
  have HQL0 := Lib.hid (Array.getElem?_eq_some_iff.1 hq).1
  clear hA hcz hq HY0
  obtain ⟨q, hqe⟩ : ∃ q, q = w.heap.size := ⟨_, rfl⟩
  have HQE := Lib.hid hqe
  have HQL := Lib.hid (show q < w1.heap.size from by rw [hqe]; exact HQL0.out)
  rw [← hqe] at HQ ⊢
  clear hqe HQL0
  go_upto_region 2 with (go_at_call 151; (with_reducible refine (read_any vb xs w1 HY.out HOK.out HL.out).mono ?_); rintro e w2 ⟨g, y, rfl, hg, hra, hb⟩; have HG := Lib.hid hg; have HR := Lib.hid (show RO w2 g y.ownBlock (xs, none) from ⟨y, hra, rfl⟩); have HB2 := Lib.hid hb; replace HQ := Lib.hid ((hb.block q (Array.getElem?_eq_some_iff.1 HQ.out).1).trans HQ.out); clear hg hra hb)
  obtain ⟨ob, hob⟩ : ∃ ob, ob = y.ownBlock := ⟨_, rfl⟩
  rw [← hob] at HR
  clear hob
  go_upto_region 3 with (first
    | (go_at_call 116; (with_reducible refine (rvote11 g ob _ w2 HR.out).mono ?_); rintro e w3 ⟨sv, rfl, hbi, hnw, hr, ho⟩; have HR3 := Lib.hid hr; have HO3 := Lib.hid ho; replace HQ := Lib.hid ((ho.block q (Array.getElem?_eq_some_iff.1 HQ.out).1 (by have := HG.out; have := HQL.out; omega)).trans HQ.out); have HBI := Lib.hid hbi; have HNW := Lib.hid (fun j (hj : sv.ownBlock = some j) => (hnw j hj).1); obtain ⟨sa, sc, rfl, -⟩ := id hbi; clear hbi hnw; obtain ⟨CV, hCV⟩ : ∃ x, x = voC (vtV (xs, none) (.slice sa (vtG (xs, none)).length sc)) := ⟨_, rfl⟩; have HCV := Lib.hid hCV; have HCS := Lib.hid ((congrArg Array.size hCV).trans (voC_size _)); have HCO := Lib.hid (show CV.all (·.oneCell') = true from by rw [hCV]; exact voC_one _ ⟨_, _, _, rfl⟩); try rw [← hCV]; clear hCV hr ho)
    | (refine wpList_store_row rfl 93 (.tmp 7) (.tmp 13) rfl w3.heap.size CV rfl rfl 93 _ (heap_alloc_new _ _) (by rw [HCS.out]; kernel_rfl) (by rw [HCS.out]; rfl) HCO.out ?_; rw [World.setRow_alloc_new]))
  have HQ7 := Lib.hid (heap_alloc_new w3 (.cells CV 93))
  have HB4 := Lib.hid (below_alloc w3 (.cells CV 93))
  obtain ⟨q7, hq7⟩ : ∃ x, x = w3.heap.size := ⟨_, rfl⟩
  have HQ7E := Lib.hid hq7
  rw [← hq7] at HQ7 ⊢
  clear hq7
  generalize w3.alloc (.cells CV 93) = w4 at *
  have HE := Lib.hid (show Calls Tryz.prog 152 #[.pointer (some ⟨g, 0, none⟩)] w4 fun r w' => r = .returned .nilIface ∧ w' = w4 from by
    have h := rdone_any g _ w4 (HR3.out.below11 HB4.out).rs
    rw [HD.out] at h
    exact h)
  have HQ4 := Lib.hid ((HB4.out.block q (Array.getElem?_eq_some_iff.1 HQ.out).1).trans HQ.out)
  go_wp2_with (first
    | (go_at_call 152; (with_reducible refine HE.out.mono ?_); rintro e w5 ⟨rfl, rfl⟩)
    | (refine wpList_load_rowT (by rfl) 93 (.tmp 7) rfl q7 0 rfl CV _ (rowT_range HQ7.out) Tryz.underlying93 rfl (by rw [HCS.out]; kernel_rfl) ?_)
    | (refine wpList_store_row rfl 93 (.tmp 4) (.tmp 19) rfl q CV rfl rfl 93 _ HQ4.out (by rw [HCS.out]; kernel_rfl) (by rw [HCS.out, HCZ.out]) HCO.out ?_))
  refine bodyPost_ret (results_cell_tmp_row rfl _ _ q 93 CV (0, 0) _ rfl (setRow_heap _ _ _ _ _ _ HQ4.out) Tryz.underlying93 rfl (by rw [HCS.out]; kernel_rfl)) rfl ?_
  have hoq := only_setRow11 w5 q CV
  have h12 : Below w1.heap.size w1 w3 := HB2.out.trans (HO3.out.below HG.out HB2.out.size)
  have hqq := HQE.out
  have hsz := HB1.out.size
  have hb : Below w.heap.size w (w5.setRow q CV) := below_setRow (HB1.out.trans ((h12.mono hsz).trans (HB4.out.mono (Nat.le_trans hsz h12.size)))) (by omega) _
  have hq2 : q < w2.heap.size := Nat.lt_of_lt_of_le HQL.out HB2.out.size
  exact ⟨sa, sc, (by first | (rw [HCV.out]; rfl) | rw [HCV.out]), ((HBI.out.below HB4.out).only hoq fun j hj => by have := HNW.out j hj; omega), fun j hj => by have := HNW.out j hj; omega, hb⟩
set_option maxHeartbeats 4000000 in
theorem dV_ok (vb : Value) (xs : List Int) (w : World) (hy : BytesIn w vb xs) (hok : bytesOk xs) (hl : xs.length ≤ 140737488355328) (hd : doneE (vtR (xs, none)) = none) :
    Calls Tryz.prog 51 #[vb] w fun e w' => ∃ sa sc, e = .returned (.tuple #[.agg (voC (vtV (xs, none) (.slice sa (vtG (xs, none)).length sc))), .nilIface]) ∧ BytesIn w' (.slice sa (vtG (xs, none)).length sc) (vtG (xs, none)) ∧ (∀ j, (Value.slice sa (vtG (xs, none)).length sc).ownBlock = some j → w.heap.size ≤ j) ∧ Below w.heap.size w w' := by
  have HC := Lib.hid (fun o => decV_ok vb xs (w.alloc o) (hy.below (below_alloc w o)) hok hl hd)
  clear hy hok hl hd
  go_enter Tryz.func51, Tryz.ntmps51
  go_upto_region 1 with (fail)
  generalize hA : World.alloc w _ = w1
  obtain ⟨cz, hcz, hq⟩ : ∃ cz : Array Value, cz.size = 37 ∧ w1.heap[w.heap.size]? = some (.cells cz 93 (0, 0)) := ⟨_, by kernel_rfl, by rw [← hA]; exact heap_alloc_new _ _⟩
  have HCZ := Lib.hid hcz
  have HQ := Lib.hid hq
  have HB1 := Lib.hid (show Below w.heap.size w w1 from by rw [← hA]; exact below_alloc _ _)
  have HCC := Lib.hid (show Calls Tryz.prog 115 #[vb, .func (.func 116) #[] #[]] w1 fun e w' => ∃ sa sc, e = .returned (.tuple #[.agg (voC (vtV (xs, none) (.slice sa (vtG (xs, none)).length sc))), .nilIface]) ∧ BytesIn w' (.slice sa (vtG (xs, none)).length sc) (vtG (xs, none)) ∧ (∀ j, (Value.slice sa (vtG (xs, none)).length sc).ownBlock = some j → w1.heap.size ≤ j) ∧ Below w1.heap.size w1 w' from by rw [← hA]; exact HC.out _)
  clear hA hcz hq HC
  obtain ⟨q, hqe⟩ : ∃ q, q = w.heap.size := ⟨_, rfl⟩
  have HQE := Lib.hid hqe
  rw [← hqe] at HQ ⊢
  clear hqe
  go_wp2_with (first
    | (go_at_call 115; (with_reducible refine HCC.out.mono ?_); rintro e w3 ⟨sa, sc, rfl, hbi, hnw, hb⟩; have HB3 := Lib.hid hb; have HQ3 := Lib.hid ((hb.block q (Array.getElem?_eq_some_iff.1 HQ.out).1).trans HQ.out); have HQL := Lib.hid (Array.getElem?_eq_some_iff.1 HQ.out).1; have HBI := Lib.hid hbi; have HNW := Lib.hid hnw; clear hbi hnw; obtain ⟨CV, hCV⟩ : ∃ x, x = voC (vtV (xs, none) (.slice sa (vtG (xs, none)).length sc)) := ⟨_, rfl⟩; have HCV := Lib.hid hCV; have HCS := Lib.hid ((congrArg Array.size hCV).trans (voC_size _)); have HCO := Lib.hid (show CV.all (·.oneCell') = true from by rw [hCV]; exact voC_one _ ⟨_, _, _, rfl⟩); rw [← hCV]; clear hCV hb)
    | (refine wpList_store_row rfl 93 (.tmp 2) (.tmp 6) rfl q CV rfl rfl 93 _ HQ3.out (by rw [HCS.out]; kernel_rfl) (by rw [HCS.out, HCZ.out]) HCO.out ?_))
  refine bodyPost_ret (results_cell_tmp_row rfl _ _ q 93 CV (0, 0) _ rfl (setRow_heap _ _ _ _ _ _ HQ3.out) Tryz.underlying93 rfl (by rw [HCS.out]; kernel_rfl)) rfl ?_
  have hoq := only_setRow11 w3 q CV
  have hqq := HQE.out
  have hsz := HB1.out.size
  have hql := HQL.out
  have hb : Below w.heap.size w (w3.setRow q CV) := below_setRow (HB1.out.trans (HB3.out.mono hsz)) (by omega) _
  exact ⟨sa, sc, (by first | (rw [HCV.out]; rfl) | rw [HCV.out]), (HBI.out.only hoq fun j hj => by have := HNW.out j hj; omega), fun j hj => by have := HNW.out j hj; omega, hb⟩
set_option maxHeartbeats 8000000 in
theorem decH_ok (vb : Value) (xs : List Int) (w : World) (hy : BytesIn w vb xs) (hok : bytesOk xs) (hl : xs.length ≤ 140737488355328) (hd : doneE (hdR (xs, none)) = none) :
    Calls Tryz.prog 121 #[vb, .func (.func 122) #[] #[]] w fun e w' => e = .returned (.tuple #[.agg (hdV (xs, none)), .nilIface]) ∧ Below w.heap.size w w' := by
  have HY0 := Lib.hid (fun o => hy.below (below_alloc w o))
  have HOK := Lib.hid hok
  have HL := Lib.hid hl
  have HD := Lib.hid hd
  clear hy hok hl hd
  go_enter Tryz.func121, Tryz.ntmps121
  go_upto_region 1 with (fail)
  generalize hA : World.alloc w _ = w1
  obtain ⟨cz, hcz, hq⟩ : ∃ cz : Array Value, cz.size = 164 ∧ w1.heap[w.heap.size]? = some (.cells cz 74 (0, 0)) := ⟨_, by kernel_rfl, by rw [← hA]; exact heap_alloc_new _ _⟩
  have HCZ := Lib.hid hcz
  have HQ := Lib.hid hq
  have HY := Lib.hid (show BytesIn w1 vb xs from by rw [← hA]; exact HY0.out _)
  have HB1 := Lib.hid (show Below w.heap.size w w1 from by rw [← hA]; exact below_alloc _ _)
  have HQL0 := Lib.hid (Array.getElem?_eq_some_iff.1 hq).1
  clear hA hcz hq HY0
  obtain ⟨q, hqe⟩ : ∃ q, q = w.heap.size := ⟨_, rfl⟩
  have HQE := Lib.hid hqe
  have HQL := Lib.hid (show q < w1.heap.size from by rw [hqe]; exact HQL0.out)
  rw [← hqe] at HQ ⊢
  clear hqe HQL0
  go_upto_region 2 with (go_at_call 151; (with_reducible refine (read_any vb xs w1 HY.out HOK.out HL.out).mono ?_); rintro e w2 ⟨g, y, rfl, hg, hra, hb⟩; have HG := Lib.hid hg; have HR := Lib.hid (show RO w2 g y.ownBlock (xs, none) from ⟨y, hra, rfl⟩); have HB2 := Lib.hid hb; replace HQ := Lib.hid ((hb.block q (Array.getElem?_eq_some_iff.1 HQ.out).1).trans HQ.out); clear hg hra hb)
  obtain ⟨ob, hob⟩ : ∃ ob, ob = y.ownBlock := ⟨_, rfl⟩
  rw [← hob] at HR
  clear hob
  go_upto_region 3 with (first
    | (go_at_call 122; (with_reducible refine (rheader11 g ob _ w2 HR.out).mono ?_); rintro e w3 ⟨rfl, hr, ho⟩; have HR3 := Lib.hid hr; have HO3 := Lib.hid ho; replace HQ := Lib.hid ((ho.block q (Array.getElem?_eq_some_iff.1 HQ.out).1 (by have := HG.out; have := HQL.out; omega)).trans HQ.out); skip; obtain ⟨CV, hCV⟩ : ∃ x, x = hdV (xs, none) := ⟨_, rfl⟩; have HCV := Lib.hid hCV; have HCS := Lib.hid ((congrArg Array.size hCV).trans (hdD_size _ _ _ _ _ _ _ _ _)); have HCO := Lib.hid (show CV.all (·.oneCell') = true from by rw [hCV]; exact hdD_one11 _ _ _ _ _ _ _ _ _); try rw [← hCV]; clear hCV hr ho)
    | (refine wpList_store_row rfl 74 (.tmp 7) (.tmp 13) rfl w3.heap.size CV rfl rfl 74 _ (heap_alloc_new _ _) (by rw [HCS.out]; kernel_rfl) (by rw [HCS.out]; rfl) HCO.out ?_; rw [World.setRow_alloc_new]))
  have HQ7 := Lib.hid (heap_alloc_new w3 (.cells CV 74))
  have HB4 := Lib.hid (below_alloc w3 (.cells CV 74))
  obtain ⟨q7, hq7⟩ : ∃ x, x = w3.heap.size := ⟨_, rfl⟩
  have HQ7E := Lib.hid hq7
  rw [← hq7] at HQ7 ⊢
  clear hq7
  generalize w3.alloc (.cells CV 74) = w4 at *
  have HE := Lib.hid (show Calls Tryz.prog 152 #[.pointer (some ⟨g, 0, none⟩)] w4 fun r w' => r = .returned .nilIface ∧ w' = w4 from by
    have h := rdone_any g _ w4 (HR3.out.below11 HB4.out).rs
    rw [HD.out] at h
    exact h)
  have HQ4 := Lib.hid ((HB4.out.block q (Array.getElem?_eq_some_iff.1 HQ.out).1).trans HQ.out)
  go_wp2_with (first
    | (go_at_call 152; (with_reducible refine HE.out.mono ?_); rintro e w5 ⟨rfl, rfl⟩)
    | (refine wpList_load_rowT (by rfl) 74 (.tmp 7) rfl q7 0 rfl CV _ (rowT_range HQ7.out) Tryz.underlying74 rfl (by rw [HCS.out]; kernel_rfl) ?_)
    | (refine wpList_store_row rfl 74 (.tmp 4) (.tmp 19) rfl q CV rfl rfl 74 _ HQ4.out (by rw [HCS.out]; kernel_rfl) (by rw [HCS.out, HCZ.out]) HCO.out ?_))
  refine bodyPost_ret (results_cell_tmp_row rfl _ _ q 74 CV (0, 0) _ rfl (setRow_heap _ _ _ _ _ _ HQ4.out) Tryz.underlying74 rfl (by rw [HCS.out]; kernel_rfl)) rfl ?_
  have hoq := only_setRow11 w5 q CV
  have h12 : Below w1.heap.size w1 w3 := HB2.out.trans (HO3.out.below HG.out HB2.out.size)
  have hqq := HQE.out
  have hsz := HB1.out.size
  have hb : Below w.heap.size w (w5.setRow q CV) := below_setRow (HB1.out.trans ((h12.mono hsz).trans (HB4.out.mono (Nat.le_trans hsz h12.size)))) (by omega) _
  have hq2 : q < w2.heap.size := Nat.lt_of_lt_of_le HQL.out HB2.out.size
  exact ⟨(by first | (rw [HCV.out]; rfl) | rw [HCV.out]), hb⟩
set_option maxHeartbeats 4000000 in
theorem dH_ok (vb : Value) (xs : List Int) (w : World) (hy : BytesIn w vb xs) (hok : bytesOk xs) (hl : xs.length ≤ 140737488355328) (hd : doneE (hdR (xs, none)) = none) :
    Calls Tryz.prog 55 #[vb] w fun e w' => e = .returned (.tuple #[.agg (hdV (xs, none)), .nilIface]) ∧ Below w.heap.size w w' := by
  have HC := Lib.hid (fun o => decH_ok vb xs (w.alloc o) (hy.below (below_alloc w o)) hok hl hd)
  clear hy hok hl hd
  go_enter Tryz.func55, Tryz.ntmps55
  go_upto_region 1 with (fail)
  generalize hA : World.alloc w _ = w1
  obtain ⟨cz, hcz, hq⟩ : ∃ cz : Array Value, cz.size = 164 ∧ w1.heap[w.heap.size]? = some (.cells cz 74 (0, 0)) := ⟨_, by kernel_rfl, by rw [← hA]; exact heap_alloc_new _ _⟩
  have HCZ := Lib.hid hcz
  have HQ := Lib.hid hq
  have HB1 := Lib.hid (show Below w.heap.size w w1 from by rw [← hA]; exact below_alloc _ _)
  have HCC := Lib.hid (show Calls Tryz.prog 121 #[vb, .func (.func 122) #[] #[]] w1 fun e w' => e = .returned (.tuple #[.agg (hdV (xs, none)), .nilIface]) ∧ Below w1.heap.size w1 w' from by rw [← hA]; exact HC.out _)
  clear hA hcz hq HC
  obtain ⟨q, hqe⟩ : ∃ q, q = w.heap.size := ⟨_, rfl⟩
  have HQE := Lib.hid hqe
  rw [← hqe] at HQ ⊢
  clear hqe
  go_wp2_with (first
    | (go_at_call 121; (with_reducible refine HCC.out.mono ?_); rintro e w3 ⟨rfl, hb⟩; have HB3 := Lib.hid hb; have HQ3 := Lib.hid ((hb.block q (Array.getElem?_eq_some_iff.1 HQ.out).1).trans HQ.out); have HQL := Lib.hid (Array.getElem?_eq_some_iff.1 HQ.out).1; skip; obtain ⟨CV, hCV⟩ : ∃ x, x = hdV (xs, none) := ⟨_, rfl⟩; have HCV := Lib.hid hCV; have HCS := Lib.hid ((congrArg Array.size hCV).trans (hdD_size _ _ _ _ _ _ _ _ _)); have HCO := Lib.hid (show CV.all (·.oneCell') = true from by rw [hCV]; exact hdD_one11 _ _ _ _ _ _ _ _ _); rw [← hCV]; clear hCV hb)
    | (refine wpList_store_row rfl 74 (.tmp 2) (.tmp 6) rfl q CV rfl rfl 74 _ HQ3.out (by rw [HCS.out]; kernel_rfl) (by rw [HCS.out, HCZ.out]) HCO.out ?_))
  refine bodyPost_ret (results_cell_tmp_row rfl _ _ q 74 CV (0, 0) _ rfl (setRow_heap _ _ _ _ _ _ HQ3.out) Tryz.underlying74 rfl (by rw [HCS.out]; kernel_rfl)) rfl ?_
  have hoq := only_setRow11 w3 q CV
  have hqq := HQE.out
  have hsz := HB1.out.size
  have hql := HQL.out
  have hb : Below w.heap.size w (w3.setRow q CV) := below_setRow (HB1.out.trans (HB3.out.mono hsz)) (by omega) _
  exact ⟨(by first | (rw [HCV.out]; rfl) | rw [HCV.out]), hb⟩
set_option maxHeartbeats 8000000 in
theorem decB_ok (vb : Value) (xs : List Int) (w : World) (hy : BytesIn w vb xs) (hok : bytesOk xs) (hl : xs.length ≤ 140737488355328) (hd : doneE ((fun s => cmR (bkT s)) (xs, none)) = none) :
    Calls Tryz.prog 124 #[vb, .func (.func 125) #[] #[]] w fun e w' => ∃ ta tc tvs va vc svs, e = .returned (.tuple #[.agg (bkD (hdV (xs, none)) (.slice ta (txs (countS (hdR (xs, none)) 64).2 tvs).length tc) (cmC (cmV (bkT (xs, none))) (.slice va (vts (countS (cmT (bkT (xs, none))) 32).2 svs).length vc))), .nilIface]) ∧ tvs.length = (countS (hdR (xs, none)) 64).1 ∧ svs.length = (countS (cmT (bkT (xs, none))) 32).1 ∧ TL w' w.heap.size (.slice ta (txs (countS (hdR (xs, none)) 64).2 tvs).length tc) (txs (countS (hdR (xs, none)) 64).2 tvs) ∧ VL w' w.heap.size (.slice va (vts (countS (cmT (bkT (xs, none))) 32).2 svs).length vc) (vts (countS (cmT (bkT (xs, none))) 32).2 svs) ∧ Below w.heap.size w w' := by
  have HY0 := Lib.hid (fun o => hy.below (below_alloc w o))
  have HOK := Lib.hid hok
  have HL := Lib.hid hl
  have HD := Lib.hid hd
  clear hy hok hl hd
  go_enter Tryz.func124, Tryz.ntmps124
  go_upto_region 1 with (fail)
  generalize hA : World.alloc w _ = w1
  obtain ⟨cz, hcz, hq⟩ : ∃ cz : Array Value, cz.size = 200 ∧ w1.heap[w.heap.size]? = some (.cells cz 80 (0, 0)) := ⟨_, by kernel_rfl, by rw [← hA]; exact heap_alloc_new _ _⟩
  have HCZ := Lib.hid hcz
  have HQ := Lib.hid hq
  have HY := Lib.hid (show BytesIn w1 vb xs from by rw [← hA]; exact HY0.out _)
  have HB1 := Lib.hid (show Below w.heap.size w w1 from by rw [← hA]; exact below_alloc _ _)
  have HQL0 := Lib.hid (Array.getElem?_eq_some_iff.1 hq).1
  clear hA hcz hq HY0
  obtain ⟨q, hqe⟩ : ∃ q, q = w.heap.size := ⟨_, rfl⟩
  have HQE := Lib.hid hqe
  have HQL := Lib.hid (show q < w1.heap.size from by rw [hqe]; exact HQL0.out)
  rw [← hqe] at HQ ⊢
  clear hqe HQL0
  go_upto_region 2 with (go_at_call 151; (with_reducible refine (read_any vb xs w1 HY.out HOK.out HL.out).mono ?_); rintro e w2 ⟨g, y, rfl, hg, hra, hb⟩; have HG := Lib.hid hg; have HR := Lib.hid (show RO w2 g y.ownBlock (xs, none) from ⟨y, hra, rfl⟩); have HB2 := Lib.hid hb; replace HQ := Lib.hid ((hb.block q (Array.getElem?_eq_some_iff.1 HQ.out).1).trans HQ.out); clear hg hra hb)
  obtain ⟨ob, hob⟩ : ∃ ob, ob = y.ownBlock := ⟨_, rfl⟩
  rw [← hob] at HR
  clear hob
  go_upto_region 3 with (first
    | (go_at_call 125; (with_reducible refine (rblock11 g ob _ w2 HR.out).mono ?_); rintro e w3 ⟨tv, tvs, vv, svs, htl, hvl, rfl, ht, hv, hr, ho⟩; have HR3 := Lib.hid hr; have HO3 := Lib.hid ho; replace HQ := Lib.hid ((ho.block q (Array.getElem?_eq_some_iff.1 HQ.out).1 (by have := HG.out; have := HQL.out; omega)).trans HQ.out); have HTS := Lib.hid htl; have HSL := Lib.hid hvl; have HTL := Lib.hid ht; have HVL := Lib.hid hv; obtain ⟨va, vc, rfl, -, -⟩ := hv.rows.len; obtain ⟨ta, tc, rfl, -, -⟩ := ht.rows.len; clear htl hvl ht hv; obtain ⟨CV, hCV⟩ : ∃ x, x = bkD (hdV (xs, none)) (.slice ta (txs (countS (hdR (xs, none)) 64).2 tvs).length tc) (cmC (cmV (bkT (xs, none))) (.slice va (vts (countS (cmT (bkT (xs, none))) 32).2 svs).length vc)) := ⟨_, rfl⟩; have HCV := Lib.hid hCV; have HCS := Lib.hid ((congrArg Array.size hCV).trans (bkD_size (hdD_size _ _ _ _ _ _ _ _ _) (cmC_size _ _))); have HCO := Lib.hid (show CV.all (·.oneCell') = true from by rw [hCV]; exact bkD_one (hdD_one11 _ _ _ _ _ _ _ _ _) (cmC_one11 _ _ _ _)); try rw [← hCV]; clear hCV hr ho)
    | (refine wpList_store_row rfl 80 (.tmp 7) (.tmp 13) rfl w3.heap.size CV rfl rfl 80 _ (heap_alloc_new _ _) (by rw [HCS.out]; kernel_rfl) (by rw [HCS.out]; rfl) HCO.out ?_; rw [World.setRow_alloc_new]))
  have HQ7 := Lib.hid (heap_alloc_new w3 (.cells CV 80))
  have HB4 := Lib.hid (below_alloc w3 (.cells CV 80))
  obtain ⟨q7, hq7⟩ : ∃ x, x = w3.heap.size := ⟨_, rfl⟩
  have HQ7E := Lib.hid hq7
  rw [← hq7] at HQ7 ⊢
  clear hq7
  generalize w3.alloc (.cells CV 80) = w4 at *
  have HE := Lib.hid (show Calls Tryz.prog 152 #[.pointer (some ⟨g, 0, none⟩)] w4 fun r w' => r = .returned .nilIface ∧ w' = w4 from by
    have h := rdone_any g _ w4 (HR3.out.below11 HB4.out).rs
    rw [HD.out] at h
    exact h)
  have HQ4 := Lib.hid ((HB4.out.block q (Array.getElem?_eq_some_iff.1 HQ.out).1).trans HQ.out)
  go_wp2_with (first
    | (go_at_call 152; (with_reducible refine HE.out.mono ?_); rintro e w5 ⟨rfl, rfl⟩)
    | (refine wpList_load_rowT (by rfl) 80 (.tmp 7) rfl q7 0 rfl CV _ (rowT_range HQ7.out) Tryz.underlying80 rfl (by rw [HCS.out]; kernel_rfl) ?_)
    | (refine wpList_store_row rfl 80 (.tmp 4) (.tmp 19) rfl q CV rfl rfl 80 _ HQ4.out (by rw [HCS.out]; kernel_rfl) (by rw [HCS.out, HCZ.out]) HCO.out ?_))
  refine bodyPost_ret (results_cell_tmp_row rfl _ _ q 80 CV (0, 0) _ rfl (setRow_heap _ _ _ _ _ _ HQ4.out) Tryz.underlying80 rfl (by rw [HCS.out]; kernel_rfl)) rfl ?_
  have hoq := only_setRow11 w5 q CV
  have h12 : Below w1.heap.size w1 w3 := HB2.out.trans (HO3.out.below HG.out HB2.out.size)
  have hqq := HQE.out
  have hsz := HB1.out.size
  have hb : Below w.heap.size w (w5.setRow q CV) := below_setRow (HB1.out.trans ((h12.mono hsz).trans (HB4.out.mono (Nat.le_trans hsz h12.size)))) (by omega) _
  have hq2 : q < w2.heap.size := Nat.lt_of_lt_of_le HQL.out HB2.out.size
  exact ⟨ta, tc, tvs, va, vc, svs, (by first | (rw [HCV.out]; rfl) | rw [HCV.out]), HTS.out, HSL.out, (((HTL.out.below HB4.out).only hoq hq2).mono (by omega)), (((HVL.out.below HB4.out).only hoq hq2).mono (by omega)), hb⟩
set_option maxHeartbeats 4000000 in
theorem dB_ok (vb : Value) (xs : List Int) (w : World) (hy : BytesIn w vb xs) (hok : bytesOk xs) (hl : xs.length ≤ 140737488355328) (hd : doneE ((fun s => cmR (bkT s)) (xs, none)) = none) :
    Calls Tryz.prog 57 #[vb] w fun e w' => ∃ ta tc tvs va vc svs, e = .returned (.tuple #[.agg (bkD (hdV (xs, none)) (.slice ta (txs (countS (hdR (xs, none)) 64).2 tvs).length tc) (cmC (cmV (bkT (xs, none))) (.slice va (vts (countS (cmT (bkT (xs, none))) 32).2 svs).length vc))), .nilIface]) ∧ tvs.length = (countS (hdR (xs, none)) 64).1 ∧ svs.length = (countS (cmT (bkT (xs, none))) 32).1 ∧ TL w' w.heap.size (.slice ta (txs (countS (hdR (xs, none)) 64).2 tvs).length tc) (txs (countS (hdR (xs, none)) 64).2 tvs) ∧ VL w' w.heap.size (.slice va (vts (countS (cmT (bkT (xs, none))) 32).2 svs).length vc) (vts (countS (cmT (bkT (xs, none))) 32).2 svs) ∧ Below w.heap.size w w' := by
  have HC := Lib.hid (fun o => decB_ok vb xs (w.alloc o) (hy.below (below_alloc w o)) hok hl hd)
  clear hy hok hl hd
  go_enter Tryz.func57, Tryz.ntmps57
  go_upto_region 1 with (fail)
  generalize hA : World.alloc w _ = w1
  obtain ⟨cz, hcz, hq⟩ : ∃ cz : Array Value, cz.size = 200 ∧ w1.heap[w.heap.size]? = some (.cells cz 80 (0, 0)) := ⟨_, by kernel_rfl, by rw [← hA]; exact heap_alloc_new _ _⟩
  have HCZ := Lib.hid hcz
  have HQ := Lib.hid hq
  have HB1 := Lib.hid (show Below w.heap.size w w1 from by rw [← hA]; exact below_alloc _ _)
  have HCC := Lib.hid (show Calls Tryz.prog 124 #[vb, .func (.func 125) #[] #[]] w1 fun e w' => ∃ ta tc tvs va vc svs, e = .returned (.tuple #[.agg (bkD (hdV (xs, none)) (.slice ta (txs (countS (hdR (xs, none)) 64).2 tvs).length tc) (cmC (cmV (bkT (xs, none))) (.slice va (vts (countS (cmT (bkT (xs, none))) 32).2 svs).length vc))), .nilIface]) ∧ tvs.length = (countS (hdR (xs, none)) 64).1 ∧ svs.length = (countS (cmT (bkT (xs, none))) 32).1 ∧ TL w' w1.heap.size (.slice ta (txs (countS (hdR (xs, none)) 64).2 tvs).length tc) (txs (countS (hdR (xs, none)) 64).2 tvs) ∧ VL w' w1.heap.size (.slice va (vts (countS (cmT (bkT (xs, none))) 32).2 svs).length vc) (vts (countS (cmT (bkT (xs, none))) 32).2 svs) ∧ Below w1.heap.size w1 w' from by rw [← hA]; exact HC.out _)
  clear hA hcz hq HC
  obtain ⟨q, hqe⟩ : ∃ q, q = w.heap.size := ⟨_, rfl⟩
  have HQE := Lib.hid hqe
  rw [← hqe] at HQ ⊢
  clear hqe
  go_wp2_with (first
    | (go_at_call 124; (with_reducible refine HCC.out.mono ?_); rintro e w3 ⟨ta, tc, tvs, va, vc, svs, rfl, htl, hvl, ht, hv, hb⟩; have HB3 := Lib.hid hb; have HQ3 := Lib.hid ((hb.block q (Array.getElem?_eq_some_iff.1 HQ.out).1).trans HQ.out); have HQL := Lib.hid (Array.getElem?_eq_some_iff.1 HQ.out).1; have HTS := Lib.hid htl; have HSL := Lib.hid hvl; have HTL := Lib.hid ht; have HVL := Lib.hid hv; clear htl hvl ht hv; obtain ⟨CV, hCV⟩ : ∃ x, x = bkD (hdV (xs, none)) (.slice ta (txs (countS (hdR (xs, none)) 64).2 tvs).length tc) (cmC (cmV (bkT (xs, none))) (.slice va (vts (countS (cmT (bkT (xs, none))) 32).2 svs).length vc)) := ⟨_, rfl⟩; have HCV := Lib.hid hCV; have HCS := Lib.hid ((congrArg Array.size hCV).trans (bkD_size (hdD_size _ _ _ _ _ _ _ _ _) (cmC_size _ _))); have HCO := Lib.hid (show CV.all (·.oneCell') = true from by rw [hCV]; exact bkD_one (hdD_one11 _ _ _ _ _ _ _ _ _) (cmC_one11 _ _ _ _)); rw [← hCV]; clear hCV hb)
    | (refine wpList_store_row rfl 80 (.tmp 2) (.tmp 6) rfl q CV rfl rfl 80 _ HQ3.out (by rw [HCS.out]; kernel_rfl) (by rw [HCS.out, HCZ.out]) HCO.out ?_))
  refine bodyPost_ret (results_cell_tmp_row rfl _ _ q 80 CV (0, 0) _ rfl (setRow_heap _ _ _ _ _ _ HQ3.out) Tryz.underlying80 rfl (by rw [HCS.out]; kernel_rfl)) rfl ?_
  have hoq := only_setRow11 w3 q CV
  have hqq := HQE.out
  have hsz := HB1.out.size
  have hql := HQL.out
  have hb : Below w.heap.size w (w3.setRow q CV) := below_setRow (HB1.out.trans (HB3.out.mono hsz)) (by omega) _
  exact ⟨ta, tc, tvs, va, vc, svs, (by first | (rw [HCV.out]; rfl) | rw [HCV.out]), HTS.out, HSL.out, ((HTL.out.only hoq hql).mono hsz), ((HVL.out.only hoq hql).mono hsz), hb⟩
end Go.Proofs.YtanekacpalpcbaaGreatDoor
