/- Part 18 of the proof. -/
import Derived.Test.YtjnpcmfpiejmjaaDoorBk7
import Derived.Test.YtjnpcmfpiejmjaaDoorBk13
namespace Go.Proofs.YtjnpcmfpiejmjaaDoor
set_option linter.unusedVariables false
set_option linter.unusedSimpArgs false
open Go.RowKit
set_option maxRecDepth 100000
set_option linter.unusedSimpArgs false
set_option linter.unusedVariables false
set_option maxHeartbeats 8000000 in
theorem decV_ok (vb : Value) (xs : List Int) (w : World) (hy : BytesIn w vb xs) (hok : bytesOk xs) (hl : xs.length ≤ 140737488355328) (hd : doneE (vtR (xs, none)) = none) :
    Calls Tryd.prog 18 #[vb, .func (.func 19) #[] #[]] w fun e w' => ∃ sa sc, e = .returned (.tuple #[.agg (voC (vtV (xs, none) (.slice sa (vtG (xs, none)).length sc))), .nilIface]) ∧ BytesIn w' (.slice sa (vtG (xs, none)).length sc) (vtG (xs, none)) ∧ (∀ j, (Value.slice sa (vtG (xs, none)).length sc).ownBlock = some j → w.heap.size ≤ j) ∧ Below w.heap.size w w' := by
  have HY0 := Lib.hid (fun o => hy.below (below_alloc w o))
  have HOK := Lib.hid hok
  have HL := Lib.hid hl
  have HD := Lib.hid hd
  clear hy hok hl hd
  go_enter Tryd.func18, Tryd.ntmps18
  go_upto_region 1 with (fail)
  generalize hA : World.alloc w _ = w1
  obtain ⟨cz, hcz, hq⟩ : ∃ cz : Array Value, cz.size = 37 ∧ w1.heap[w.heap.size]? = some (.cells cz 35 (0, 0)) := ⟨_, by kernel_rfl, by rw [← hA]; exact heap_alloc_new _ _⟩
  have HCZ := Lib.hid hcz
  have HQ := Lib.hid hq
  have HY := Lib.hid (show BytesIn w1 vb xs from by rw [← hA]; exact HY0.out _)
  have HB1 := Lib.hid (show Below w.heap.size w w1 from by rw [← hA]; exact below_alloc _ _)
  have HQL0 := Lib.hid (Array.getElem?_eq_some_iff.1 hq).1
  clear hA hcz hq HY0
  obtain ⟨q, hqe⟩ : ∃ q, q = w.heap.size := ⟨_, rfl⟩
  have HQE := Lib.hid hqe
  have HQL := Lib.hid (show q < w1.heap.size from by rw [hqe]; exact HQL0.out)
  rw [← hqe] at HQ ⊢
  clear hqe HQL0
  go_upto_region 2 with (go_at_call 37; (with_reducible refine (read_any vb xs w1 HY.out HOK.out HL.out).mono ?_); rintro e w2 ⟨g, y, rfl, hg, hra, hb⟩; have HG := Lib.hid hg; have HR := Lib.hid (show RO w2 g y.ownBlock (xs, none) from ⟨y, hra, rfl⟩); have HB2 := Lib.hid hb; replace HQ := Lib.hid ((hb.block q (Array.getElem?_eq_some_iff.1 HQ.out).1).trans HQ.out); clear hg hra hb)
  obtain ⟨ob, hob⟩ : ∃ ob, ob = y.ownBlock := ⟨_, rfl⟩
  rw [← hob] at HR
  clear hob
  go_upto_region 3 with (first
    | (go_at_call 19; (with_reducible refine (rvote11 g ob _ w2 HR.out).mono ?_); rintro e w3 ⟨sv, rfl, hbi, hnw, hr, ho⟩; have HR3 := Lib.hid hr; have HO3 := Lib.hid ho; replace HQ := Lib.hid ((ho.block q (Array.getElem?_eq_some_iff.1 HQ.out).1 (by have := HG.out; have := HQL.out; omega)).trans HQ.out); have HBI := Lib.hid hbi; have HNW := Lib.hid (fun j (hj : sv.ownBlock = some j) => (hnw j hj).1); obtain ⟨sa, sc, rfl, -⟩ := id hbi; clear hbi hnw; obtain ⟨CV, hCV⟩ : ∃ x, x = voC (vtV (xs, none) (.slice sa (vtG (xs, none)).length sc)) := ⟨_, rfl⟩; have HCV := Lib.hid hCV; have HCS := Lib.hid ((congrArg Array.size hCV).trans (voC_size _)); have HCO := Lib.hid (show CV.all (·.oneCell') = true from by rw [hCV]; exact voC_one _ ⟨_, _, _, rfl⟩); try rw [← hCV]; clear hCV hr ho)
    | (refine wpList_store_row rfl 35 (.tmp 7) (.tmp 13) rfl w3.heap.size CV rfl rfl 35 _ (heap_alloc_new _ _) (by rw [HCS.out]; kernel_rfl) (by rw [HCS.out]; rfl) HCO.out ?_; rw [World.setRow_alloc_new]))
  have HQ7 := Lib.hid (heap_alloc_new w3 (.cells CV 35))
  have HB4 := Lib.hid (below_alloc w3 (.cells CV 35))
  obtain ⟨q7, hq7⟩ : ∃ x, x = w3.heap.size := ⟨_, rfl⟩
  have HQ7E := Lib.hid hq7
  rw [← hq7] at HQ7 ⊢
  clear hq7
  generalize w3.alloc (.cells CV 35) = w4 at *
  have HE := Lib.hid (show Calls Tryd.prog 38 #[.pointer (some ⟨g, 0, none⟩)] w4 fun r w' => r = .returned .nilIface ∧ w' = w4 from by
    have h := rdone_any g _ w4 (HR3.out.below11 HB4.out).rs
    rw [HD.out] at h
    exact h)
  have HQ4 := Lib.hid ((HB4.out.block q (Array.getElem?_eq_some_iff.1 HQ.out).1).trans HQ.out)
  go_wp2_with (first
    | (go_at_call 38; (with_reducible refine HE.out.mono ?_); rintro e w5 ⟨rfl, rfl⟩)
    | (refine wpList_load_rowT (by rfl) 35 (.tmp 7) rfl q7 0 rfl CV _ (rowT_range HQ7.out) Tryd.underlying35 rfl (by rw [HCS.out]; kernel_rfl) ?_)
    | (refine wpList_store_row rfl 35 (.tmp 4) (.tmp 19) rfl q CV rfl rfl 35 _ HQ4.out (by rw [HCS.out]; kernel_rfl) (by rw [HCS.out, HCZ.out]) HCO.out ?_))
  refine bodyPost_ret (results_cell_tmp_row rfl _ _ q 35 CV (0, 0) _ rfl (setRow_heap _ _ _ _ _ _ HQ4.out) Tryd.underlying35 rfl (by rw [HCS.out]; kernel_rfl)) rfl ?_
  have hoq := only_setRow11 w5 q CV
  have h12 : Below w1.heap.size w1 w3 := HB2.out.trans (HO3.out.below HG.out HB2.out.size)
  have hqq := HQE.out
  have hsz := HB1.out.size
  have hb : Below w.heap.size w (w5.setRow q CV) := below_setRow (HB1.out.trans ((h12.mono hsz).trans (HB4.out.mono (Nat.le_trans hsz h12.size)))) (by omega) _
  have hq2 : q < w2.heap.size := Nat.lt_of_lt_of_le HQL.out HB2.out.size
  exact ⟨sa, sc, (by first | (rw [HCV.out]; rfl) | rw [HCV.out]), ((HBI.out.below HB4.out).only hoq fun j hj => by have := HNW.out j hj; omega), fun j hj => by have := HNW.out j hj; omega, hb⟩
set_option maxHeartbeats 4000000 in
theorem dV_ok (vb : Value) (xs : List Int) (w : World) (hy : BytesIn w vb xs) (hok : bytesOk xs) (hl : xs.length ≤ 140737488355328) (hd : doneE (vtR (xs, none)) = none) :
    Calls Tryd.prog 5 #[vb] w fun e w' => ∃ sa sc, e = .returned (.tuple #[.agg (voC (vtV (xs, none) (.slice sa (vtG (xs, none)).length sc))), .nilIface]) ∧ BytesIn w' (.slice sa (vtG (xs, none)).length sc) (vtG (xs, none)) ∧ (∀ j, (Value.slice sa (vtG (xs, none)).length sc).ownBlock = some j → w.heap.size ≤ j) ∧ Below w.heap.size w w' := by
  have HC := Lib.hid (fun o => decV_ok vb xs (w.alloc o) (hy.below (below_alloc w o)) hok hl hd)
  clear hy hok hl hd
  go_enter Tryd.func5, Tryd.ntmps5
  go_upto_region 1 with (fail)
  generalize hA : World.alloc w _ = w1
  obtain ⟨cz, hcz, hq⟩ : ∃ cz : Array Value, cz.size = 37 ∧ w1.heap[w.heap.size]? = some (.cells cz 35 (0, 0)) := ⟨_, by kernel_rfl, by rw [← hA]; exact heap_alloc_new _ _⟩
  have HCZ := Lib.hid hcz
  have HQ := Lib.hid hq
  have HB1 := Lib.hid (show Below w.heap.size w w1 from by rw [← hA]; exact below_alloc _ _)
  have HCC := Lib.hid (show Calls Tryd.prog 18 #[vb, .func (.func 19) #[] #[]] w1 fun e w' => ∃ sa sc, e = .returned (.tuple #[.agg (voC (vtV (xs, none) (.slice sa (vtG (xs, none)).length sc))), .nilIface]) ∧ BytesIn w' (.slice sa (vtG (xs, none)).length sc) (vtG (xs, none)) ∧ (∀ j, (Value.slice sa (vtG (xs, none)).length sc).ownBlock = some j → w1.heap.size ≤ j) ∧ Below w1.heap.size w1 w' from by rw [← hA]; exact HC.out _)
  clear hA hcz hq HC
  obtain ⟨q, hqe⟩ : ∃ q, q = w.heap.size := ⟨_, rfl⟩
  have HQE := Lib.hid hqe
  rw [← hqe] at HQ ⊢
  clear hqe
  go_wp2_with (first
    | (go_at_call 18; (with_reducible refine HCC.out.mono ?_); rintro e w3 ⟨sa, sc, rfl, hbi, hnw, hb⟩; have HB3 := Lib.hid hb; have HQ3 := Lib.hid ((hb.block q (Array.getElem?_eq_some_iff.1 HQ.out).1).trans HQ.out); have HQL := Lib.hid (Array.getElem?_eq_some_iff.1 HQ.out).1; have HBI := Lib.hid hbi; have HNW := Lib.hid hnw; clear hbi hnw; obtain ⟨CV, hCV⟩ : ∃ x, x = voC (vtV (xs, none) (.slice sa (vtG (xs, none)).length sc)) := ⟨_, rfl⟩; have HCV := Lib.hid hCV; have HCS := Lib.hid ((congrArg Array.size hCV).trans (voC_size _)); have HCO := Lib.hid (show CV.all (·.oneCell') = true from by rw [hCV]; exact voC_one _ ⟨_, _, _, rfl⟩); rw [← hCV]; clear hCV hb)
    | (refine wpList_store_row rfl 35 (.tmp 2) (.tmp 6) rfl q CV rfl rfl 35 _ HQ3.out (by rw [HCS.out]; kernel_rfl) (by rw [HCS.out, HCZ.out]) HCO.out ?_))
  refine bodyPost_ret (results_cell_tmp_row rfl _ _ q 35 CV (0, 0) _ rfl (setRow_heap _ _ _ _ _ _ HQ3.out) Tryd.underlying35 rfl (by rw [HCS.out]; kernel_rfl)) rfl ?_
  have hoq := only_setRow11 w3 q CV
  have hqq := HQE.out
  have hsz := HB1.out.size
  have hql := HQL.out
  have hb : Below w.heap.size w (w3.setRow q CV) := below_setRow (HB1.out.trans (HB3.out.mono hsz)) (by omega) _
  exact ⟨sa, sc, (by first | (rw [HCV.out]; rfl) | rw [HCV.out]), (HBI.out.only hoq fun j hj => by have := HNW.out j hj; omega), fun j hj => by have := HNW.out j hj; omega, hb⟩
set_option maxHeartbeats 8000000 in
theorem decH_ok (vb : Value) (xs : List Int) (w : World) (hy : BytesIn w vb xs) (hok : bytesOk xs) (hl : xs.length ≤ 140737488355328) (hd : doneE (hdR (xs, none)) = none) :
    Calls Tryd.prog 27 #[vb, .func (.func 28) #[] #[]] w fun e w' => e = .returned (.tuple #[.agg (hdV (xs, none)), .nilIface]) ∧ Below w.heap.size w w' := by
  have HY0 := Lib.hid (fun o => hy.below (below_alloc w o))
  have HOK := Lib.hid hok
  have HL := Lib.hid hl
  have HD := Lib.hid hd
  clear hy hok hl hd
  go_enter Tryd.func27, Tryd.ntmps27
  go_upto_region 1 with (fail)
  generalize hA : World.alloc w _ = w1
  obtain ⟨cz, hcz, hq⟩ : ∃ cz : Array Value, cz.size = 164 ∧ w1.heap[w.heap.size]? = some (.cells cz 25 (0, 0)) := ⟨_, by kernel_rfl, by rw [← hA]; exact heap_alloc_new _ _⟩
  have HCZ := Lib.hid hcz
  have HQ := Lib.hid hq
  have HY := Lib.hid (show BytesIn w1 vb xs from by rw [← hA]; exact HY0.out _)
  have HB1 := Lib.hid (show Below w.heap.size w w1 from by rw [← hA]; exact below_alloc _ _)
  have HQL0 := Lib.hid (Array.getElem?_eq_some_iff.1 hq).1
  clear hA hcz hq HY0
  obtain ⟨q, hqe⟩ : ∃ q, q = w.heap.size := ⟨_, rfl⟩
  have HQE := Lib.hid hqe
  have HQL := Lib.hid (show q < w1.heap.size from by rw [hqe]; exact HQL0.out)
  rw [← hqe] at HQ ⊢
  clear hqe HQL0
  go_upto_region 2 with (go_at_call 37; (with_reducible refine (read_any vb xs w1 HY.out HOK.out HL.out).mono ?_); rintro e w2 ⟨g, y, rfl, hg, hra, hb⟩; have HG := Lib.hid hg; have HR := Lib.hid (show RO w2 g y.ownBlock (xs, none) from ⟨y, hra, rfl⟩); have HB2 := Lib.hid hb; replace HQ := Lib.hid ((hb.block q (Array.getElem?_eq_some_iff.1 HQ.out).1).trans HQ.out); clear hg hra hb)
  obtain ⟨ob, hob⟩ : ∃ ob, ob = y.ownBlock := ⟨_, rfl⟩
  rw [← hob] at HR
  clear hob
  go_upto_region 3 with (first
    | (go_at_call 28; (with_reducible refine (rheader11 g ob _ w2 HR.out).mono ?_); rintro e w3 ⟨rfl, hr, ho⟩; have HR3 := Lib.hid hr; have HO3 := Lib.hid ho; replace HQ := Lib.hid ((ho.block q (Array.getElem?_eq_some_iff.1 HQ.out).1 (by have := HG.out; have := HQL.out; omega)).trans HQ.out); skip; obtain ⟨CV, hCV⟩ : ∃ x, x = hdV (xs, none) := ⟨_, rfl⟩; have HCV := Lib.hid hCV; have HCS := Lib.hid ((congrArg Array.size hCV).trans (hdD_size _ _ _ _ _ _ _ _ _)); have HCO := Lib.hid (show CV.all (·.oneCell') = true from by rw [hCV]; exact hdD_one11 _ _ _ _ _ _ _ _ _); try rw [← hCV]; clear hCV hr ho)
    | (refine wpList_store_row rfl 25 (.tmp 7) (.tmp 13) rfl w3.heap.size CV rfl rfl 25 _ (heap_alloc_new _ _) (by rw [HCS.out]; kernel_rfl) (by rw [HCS.out]; rfl) HCO.out ?_; rw [World.setRow_alloc_new]))
  have HQ7 := Lib.hid (heap_alloc_new w3 (.cells CV 25))
  have HB4 := Lib.hid (below_alloc w3 (.cells CV 25))
  obtain ⟨q7, hq7⟩ : ∃ x, x = w3.heap.size := ⟨_, rfl⟩
  have HQ7E := Lib.hid hq7
  rw [← hq7] at HQ7 ⊢
  clear hq7
  generalize w3.alloc (.cells CV 25) = w4 at *
  have HE := Lib.hid (show Calls Tryd.prog 38 #[.pointer (some ⟨g, 0, none⟩)] w4 fun r w' => r = .returned .nilIface ∧ w' = w4 from by
    have h := rdone_any g _ w4 (HR3.out.below11 HB4.out).rs
    rw [HD.out] at h
    exact h)
  have HQ4 := Lib.hid ((HB4.out.block q (Array.getElem?_eq_some_iff.1 HQ.out).1).trans HQ.out)
  go_wp2_with (first
    | (go_at_call 38; (with_reducible refine HE.out.mono ?_); rintro e w5 ⟨rfl, rfl⟩)
    | (refine wpList_load_rowT (by rfl) 25 (.tmp 7) rfl q7 0 rfl CV _ (rowT_range HQ7.out) Tryd.underlying25 rfl (by rw [HCS.out]; kernel_rfl) ?_)
    | (refine wpList_store_row rfl 25 (.tmp 4) (.tmp 19) rfl q CV rfl rfl 25 _ HQ4.out (by rw [HCS.out]; kernel_rfl) (by rw [HCS.out, HCZ.out]) HCO.out ?_))
  refine bodyPost_ret (results_cell_tmp_row rfl _ _ q 25 CV (0, 0) _ rfl (setRow_heap _ _ _ _ _ _ HQ4.out) Tryd.underlying25 rfl (by rw [HCS.out]; kernel_rfl)) rfl ?_
  have hoq := only_setRow11 w5 q CV
  have h12 : Below w1.heap.size w1 w3 := HB2.out.trans (HO3.out.below HG.out HB2.out.size)
  have hqq := HQE.out
  have hsz := HB1.out.size
  have hb : Below w.heap.size w (w5.setRow q CV) := below_setRow (HB1.out.trans ((h12.mono hsz).trans (HB4.out.mono (Nat.le_trans hsz h12.size)))) (by omega) _
  have hq2 : q < w2.heap.size := Nat.lt_of_lt_of_le HQL.out HB2.out.size
  exact ⟨(by first | (rw [HCV.out]; rfl) | rw [HCV.out]), hb⟩
set_option maxHeartbeats 4000000 in
theorem dH_ok (vb : Value) (xs : List Int) (w : World) (hy : BytesIn w vb xs) (hok : bytesOk xs) (hl : xs.length ≤ 140737488355328) (hd : doneE (hdR (xs, none)) = none) :
    Calls Tryd.prog 10 #[vb] w fun e w' => e = .returned (.tuple #[.agg (hdV (xs, none)), .nilIface]) ∧ Below w.heap.size w w' := by
  have HC := Lib.hid (fun o => decH_ok vb xs (w.alloc o) (hy.below (below_alloc w o)) hok hl hd)
  clear hy hok hl hd
  go_enter Tryd.func10, Tryd.ntmps10
  go_upto_region 1 with (fail)
  generalize hA : World.alloc w _ = w1
  obtain ⟨cz, hcz, hq⟩ : ∃ cz : Array Value, cz.size = 164 ∧ w1.heap[w.heap.size]? = some (.cells cz 25 (0, 0)) := ⟨_, by kernel_rfl, by rw [← hA]; exact heap_alloc_new _ _⟩
  have HCZ := Lib.hid hcz
  have HQ := Lib.hid hq
  have HB1 := Lib.hid (show Below w.heap.size w w1 from by rw [← hA]; exact below_alloc _ _)
  have HCC := Lib.hid (show Calls Tryd.prog 27 #[vb, .func (.func 28) #[] #[]] w1 fun e w' => e = .returned (.tuple #[.agg (hdV (xs, none)), .nilIface]) ∧ Below w1.heap.size w1 w' from by rw [← hA]; exact HC.out _)
  clear hA hcz hq HC
  obtain ⟨q, hqe⟩ : ∃ q, q = w.heap.size := ⟨_, rfl⟩
  have HQE := Lib.hid hqe
  rw [← hqe] at HQ ⊢
  clear hqe
  go_wp2_with (first
    | (go_at_call 27; (with_reducible refine HCC.out.mono ?_); rintro e w3 ⟨rfl, hb⟩; have HB3 := Lib.hid hb; have HQ3 := Lib.hid ((hb.block q (Array.getElem?_eq_some_iff.1 HQ.out).1).trans HQ.out); have HQL := Lib.hid (Array.getElem?_eq_some_iff.1 HQ.out).1; skip; obtain ⟨CV, hCV⟩ : ∃ x, x = hdV (xs, none) := ⟨_, rfl⟩; have HCV := Lib.hid hCV; have HCS := Lib.hid ((congrArg Array.size hCV).trans (hdD_size _ _ _ _ _ _ _ _ _)); have HCO := Lib.hid (show CV.all (·.oneCell') = true from by rw [hCV]; exact hdD_one11 _ _ _ _ _ _ _ _ _); rw [← hCV]; clear hCV hb)
    | (refine wpList_store_row rfl 25 (.tmp 2) (.tmp 6) rfl q CV rfl rfl 25 _ HQ3.out (by rw [HCS.out]; kernel_rfl) (by rw [HCS.out, HCZ.out]) HCO.out ?_))
  refine bodyPost_ret (results_cell_tmp_row rfl _ _ q 25 CV (0, 0) _ rfl (setRow_heap _ _ _ _ _ _ HQ3.out) Tryd.underlying25 rfl (by rw [HCS.out]; kernel_rfl)) rfl ?_
  have hoq := only_setRow11 w3 q CV
  have hqq := HQE.out
  have hsz := HB1.out.size
  have hql := HQL.out
  have hb : Below w.heap.size w (w3.setRow q CV) := below_setRow (HB1.out.trans (HB3.out.mono hsz)) (by omega) _
  exact ⟨(by first | (rw [HCV.out]; rfl) | rw [HCV.out]), hb⟩
set_option maxHeartbeats 8000000 in
theorem decB_ok (vb : Value) (xs : List Int) (w : World) (hy : BytesIn w vb xs) (hok : bytesOk xs) (hl : xs.length ≤ 140737488355328) (hd : doneE ((fun s => cmR (bkT s)) (xs, none)) = none) :
    Calls Tryd.prog 23 #[vb, .func (.func 24) #[] #[]] w fun e w' => ∃ ta tc tvs va vc svs, e = .returned (.tuple #[.agg (bkD (hdV (xs, none)) (.slice ta (txs (countS (hdR (xs, none)) 64).2 tvs).length tc) (cmC (cmV (bkT (xs, none))) (.slice va (vts (countS (cmT (bkT (xs, none))) 32).2 svs).length vc))), .nilIface]) ∧ tvs.length = (countS (hdR (xs, none)) 64).1 ∧ svs.length = (countS (cmT (bkT (xs, none))) 32).1 ∧ TL w' w.heap.size (.slice ta (txs (countS (hdR (xs, none)) 64).2 tvs).length tc) (txs (countS (hdR (xs, none)) 64).2 tvs) ∧ VL w' w.heap.size (.slice va (vts (countS (cmT (bkT (xs, none))) 32).2 svs).length vc) (vts (countS (cmT (bkT (xs, none))) 32).2 svs) ∧ Below w.heap.size w w' := by
  have HY0 := Lib.hid (fun o => hy.below (below_alloc w o))
  have HOK := Lib.hid hok
  have HL := Lib.hid hl
  have HD := Lib.hid hd
  clear hy hok hl hd
  go_enter Tryd.func23, Tryd.ntmps23
  go_upto_region 1 with (fail)
  generalize hA : World.alloc w _ = w1
  obtain ⟨cz, hcz, hq⟩ : ∃ cz : Array Value, cz.size = 200 ∧ w1.heap[w.heap.size]? = some (.cells cz 31 (0, 0)) := ⟨_, by kernel_rfl, by rw [← hA]; exact heap_alloc_new _ _⟩
  have HCZ := Lib.hid hcz
  have HQ := Lib.hid hq
  have HY := Lib.hid (show BytesIn w1 vb xs from by rw [← hA]; exact HY0.out _)
  have HB1 := Lib.hid (show Below w.heap.size w w1 from by rw [← hA]; exact below_alloc _ _)
  have HQL0 := Lib.hid (Array.getElem?_eq_some_iff.1 hq).1
  clear hA hcz hq HY0
  obtain ⟨q, hqe⟩ : ∃ q, q = w.heap.size := ⟨_, rfl⟩
  have HQE := Lib.hid hqe
  have HQL := Lib.hid (show q < w1.heap.size from by rw [hqe]; exact HQL0.out)
  rw [← hqe] at HQ ⊢
  clear hqe HQL0
  go_upto_region 2 with (go_at_call 37; (with_reducible refine (read_any vb xs w1 HY.out HOK.out HL.out).mono ?_); rintro e w2 ⟨g, y, rfl, hg, hra, hb⟩; have HG := Lib.hid hg; have HR := Lib.hid (show RO w2 g y.ownBlock (xs, none) from ⟨y, hra, rfl⟩); have HB2 := Lib.hid hb; replace HQ := Lib.hid ((hb.block q (Array.getElem?_eq_some_iff.1 HQ.out).1).trans HQ.out); clear hg hra hb)
  obtain ⟨ob, hob⟩ : ∃ ob, ob = y.ownBlock := ⟨_, rfl⟩
  rw [← hob] at HR
  clear hob
  go_upto_region 3 with (first
    | (go_at_call 24; (with_reducible refine (rblock11 g ob _ w2 HR.out).mono ?_); rintro e w3 ⟨tv, tvs, vv, svs, htl, hvl, rfl, ht, hv, hr, ho⟩; have HR3 := Lib.hid hr; have HO3 := Lib.hid ho; replace HQ := Lib.hid ((ho.block q (Array.getElem?_eq_some_iff.1 HQ.out).1 (by have := HG.out; have := HQL.out; omega)).trans HQ.out); have HTS := Lib.hid htl; have HSL := Lib.hid hvl; have HTL := Lib.hid ht; have HVL := Lib.hid hv; obtain ⟨va, vc, rfl, -, -⟩ := hv.rows.len; obtain ⟨ta, tc, rfl, -, -⟩ := ht.rows.len; clear htl hvl ht hv; obtain ⟨CV, hCV⟩ : ∃ x, x = bkD (hdV (xs, none)) (.slice ta (txs (countS (hdR (xs, none)) 64).2 tvs).length tc) (cmC (cmV (bkT (xs, none))) (.slice va (vts (countS (cmT (bkT (xs, none))) 32).2 svs).length vc)) := ⟨_, rfl⟩; have HCV := Lib.hid hCV; have HCS := Lib.hid ((congrArg Array.size hCV).trans (bkD_size (hdD_size _ _ _ _ _ _ _ _ _) (cmC_size _ _))); have HCO := Lib.hid (show CV.all (·.oneCell') = true from by rw [hCV]; exact bkD_one (hdD_one11 _ _ _ _ _ _ _ _ _) (cmC_one11 _ _ _ _)); try rw [← hCV]; clear hCV hr ho)
    | (refine wpList_store_row rfl 31 (.tmp 7) (.tmp 13) rfl w3.heap.size CV rfl rfl 31 _ (heap_alloc_new _ _) (by rw [HCS.out]; kernel_rfl) (by rw [HCS.out]; rfl) HCO.out ?_; rw [World.setRow_alloc_new]))
  have HQ7 := Lib.hid (heap_alloc_new w3 (.cells CV 31))
  have HB4 := Lib.hid (below_alloc w3 (.cells CV 31))
  obtain ⟨q7, hq7⟩ : ∃ x, x = w3.heap.size := ⟨_, rfl⟩
  have HQ7E := Lib.hid hq7
  rw [← hq7] at HQ7 ⊢
  clear hq7
  generalize w3.alloc (.cells CV 31) = w4 at *
  have HE := Lib.hid (show Calls Tryd.prog 38 #[.pointer (some ⟨g, 0, none⟩)] w4 fun r w' => r = .returned .nilIface ∧ w' = w4 from by
    have h := rdone_any g _ w4 (HR3.out.below11 HB4.out).rs
    rw [HD.out] at h
    exact h)
  have HQ4 := Lib.hid ((HB4.out.block q (Array.getElem?_eq_some_iff.1 HQ.out).1).trans HQ.out)
  go_wp2_with (first
    | (go_at_call 38; (with_reducible refine HE.out.mono ?_); rintro e w5 ⟨rfl, rfl⟩)
    | (refine wpList_load_rowT (by rfl) 31 (.tmp 7) rfl q7 0 rfl CV _ (rowT_range HQ7.out) Tryd.underlying31 rfl (by rw [HCS.out]; kernel_rfl) ?_)
    | (refine wpList_store_row rfl 31 (.tmp 4) (.tmp 19) rfl q CV rfl rfl 31 _ HQ4.out (by rw [HCS.out]; kernel_rfl) (by rw [HCS.out, HCZ.out]) HCO.out ?_))
  refine bodyPost_ret (results_cell_tmp_row rfl _ _ q 31 CV (0, 0) _ rfl (setRow_heap _ _ _ _ _ _ HQ4.out) Tryd.underlying31 rfl (by rw [HCS.out]; kernel_rfl)) rfl ?_
  have hoq := only_setRow11 w5 q CV
  have h12 : Below w1.heap.size w1 w3 := HB2.out.trans (HO3.out.below HG.out HB2.out.size)
  have hqq := HQE.out
  have hsz := HB1.out.size
  have hb : Below w.heap.size w (w5.setRow q CV) := below_setRow (HB1.out.trans ((h12.mono hsz).trans (HB4.out.mono (Nat.le_trans hsz h12.size)))) (by omega) _
  have hq2 : q < w2.heap.size := Nat.lt_of_lt_of_le HQL.out HB2.out.size
  exact ⟨ta, tc, tvs, va, vc, svs, (by first | (rw [HCV.out]; rfl) | rw [HCV.out]), HTS.out, HSL.out, (((HTL.out.below HB4.out).only hoq hq2).mono (by omega)), (((HVL.out.below HB4.out).only hoq hq2).mono (by omega)), hb⟩
set_option maxHeartbeats 4000000 in
theorem dB_ok (vb : Value) (xs : List Int) (w : World) (hy : BytesIn w vb xs) (hok : bytesOk xs) (hl : xs.length ≤ 140737488355328) (hd : doneE ((fun s => cmR (bkT s)) (xs, none)) = none) :
    Calls Tryd.prog 8 #[vb] w fun e w' => ∃ ta tc tvs va vc svs, e = .returned (.tuple #[.agg (bkD (hdV (xs, none)) (.slice ta (txs (countS (hdR (xs, none)) 64).2 tvs).length tc) (cmC (cmV (bkT (xs, none))) (.slice va (vts (countS (cmT (bkT (xs, none))) 32).2 svs).length vc))), .nilIface]) ∧ tvs.length = (countS (hdR (xs, none)) 64).1 ∧ svs.length = (countS (cmT (bkT (xs, none))) 32).1 ∧ TL w' w.heap.size (.slice ta (txs (countS (hdR (xs, none)) 64).2 tvs).length tc) (txs (countS (hdR (xs, none)) 64).2 tvs) ∧ VL w' w.heap.size (.slice va (vts (countS (cmT (bkT (xs, none))) 32).2 svs).length vc) (vts (countS (cmT (bkT (xs, none))) 32).2 svs) ∧ Below w.heap.size w w' := by
  have HC := Lib.hid (fun o => decB_ok vb xs (w.alloc o) (hy.below (below_alloc w o)) hok hl hd)
  clear hy hok hl hd
  go_enter Tryd.func8, Tryd.ntmps8
  go_upto_region 1 with (fail)
  generalize hA : World.alloc w _ = w1
  obtain ⟨cz, hcz, hq⟩ : ∃ cz : Array Value, cz.size = 200 ∧ w1.heap[w.heap.size]? = some (.cells cz 31 (0, 0)) := ⟨_, by kernel_rfl, by rw [← hA]; exact heap_alloc_new _ _⟩
  have HCZ := Lib.hid hcz
  have HQ := Lib.hid hq
  have HB1 := Lib.hid (show Below w.heap.size w w1 from by rw [← hA]; exact below_alloc _ _)
  have HCC := Lib.hid (show Calls Tryd.prog 23 #[vb, .func (.func 24) #[] #[]] w1 fun e w' => ∃ ta tc tvs va vc svs, e = .returned (.tuple #[.agg (bkD (hdV (xs, none)) (.slice ta (txs (countS (hdR (xs, none)) 64).2 tvs).length tc) (cmC (cmV (bkT (xs, none))) (.slice va (vts (countS (cmT (bkT (xs, none))) 32).2 svs).length vc))), .nilIface]) ∧ tvs.length = (countS (hdR (xs, none)) 64).1 ∧ svs.length = (countS (cmT (bkT (xs, none))) 32).1 ∧ TL w' w1.heap.size (.slice ta (txs (countS (hdR (xs, none)) 64).2 tvs).length tc) (txs (countS (hdR (xs, none)) 64).2 tvs) ∧ VL w' w1.heap.size (.slice va (vts (countS (cmT (bkT (xs, none))) 32).2 svs).length vc) (vts (countS (cmT (bkT (xs, none))) 32).2 svs) ∧ Below w1.heap.size w1 w' from by rw [← hA]; exact HC.out _)
  clear hA hcz hq HC
  obtain ⟨q, hqe⟩ : ∃ q, q = w.heap.size := ⟨_, rfl⟩
  have HQE := Lib.hid hqe
  rw [← hqe] at HQ ⊢
  clear hqe
  go_wp2_with (first
    | (go_at_call 23; (with_reducible refine HCC.out.mono ?_); rintro e w3 ⟨ta, tc, tvs, va, vc, svs, rfl, htl, hvl, ht, hv, hb⟩; have HB3 := Lib.hid hb; have HQ3 := Lib.hid ((hb.block q (Array.getElem?_eq_some_iff.1 HQ.out).1).trans HQ.out); have HQL := Lib.hid (Array.getElem?_eq_some_iff.1 HQ.out).1; have HTS := Lib.hid htl; have HSL := Lib.hid hvl; have HTL := Lib.hid ht; have HVL := Lib.hid hv; clear htl hvl ht hv; obtain ⟨CV, hCV⟩ : ∃ x, x = bkD (hdV (xs, none)) (.slice ta (txs (countS (hdR (xs, none)) 64).2 tvs).length tc) (cmC (cmV (bkT (xs, none))) (.slice va (vts (countS (cmT (bkT (xs, none))) 32).2 svs).length vc)) := ⟨_, rfl⟩; have HCV := Lib.hid hCV; have HCS := Lib.hid ((congrArg Array.size hCV).trans (bkD_size (hdD_size _ _ _ _ _ _ _ _ _) (cmC_size _ _))); have HCO := Lib.hid (show CV.all (·.oneCell') = true from by rw [hCV]; exact bkD_one (hdD_one11 _ _ _ _ _ _ _ _ _) (cmC_one11 _ _ _ _)); rw [← hCV]; clear hCV hb)
    | (refine wpList_store_row rfl 31 (.tmp 2) (.tmp 6) rfl q CV rfl rfl 31 _ HQ3.out (by rw [HCS.out]; kernel_rfl) (by rw [HCS.out, HCZ.out]) HCO.out ?_))
  refine bodyPost_ret (results_cell_tmp_row rfl _ _ q 31 CV (0, 0) _ rfl (setRow_heap _ _ _ _ _ _ HQ3.out) Tryd.underlying31 rfl (by rw [HCS.out]; kernel_rfl)) rfl ?_
  have hoq := only_setRow11 w3 q CV
  have hqq := HQE.out
  have hsz := HB1.out.size
  have hql := HQL.out
  have hb : Below w.heap.size w (w3.setRow q CV) := below_setRow (HB1.out.trans (HB3.out.mono hsz)) (by omega) _
  exact ⟨ta, tc, tvs, va, vc, svs, (by first | (rw [HCV.out]; rfl) | rw [HCV.out]), HTS.out, HSL.out, ((HTL.out.only hoq hql).mono hsz), ((HVL.out.only hoq hql).mono hsz), hb⟩
end Go.Proofs.YtjnpcmfpiejmjaaDoor
namespace Go.Proofs.YtjnpcmfpiejmjaaDoor
set_option linter.unusedVariables false
set_option linter.unusedSimpArgs false
open Go.RowKit
set_option maxRecDepth 100000
set_option linter.unusedSimpArgs false
set_option linter.unusedVariables false
theorem eqItems32h (f g : Nat → Int) (d : Nat) (w : World) : ∀ is : List Nat, (∀ i ∈ is, i < 32) → (Op.eqItems (d + 1) 5 1 (rowOf .u8 32 f) (rowOf .u8 32 g) is).run Tryd.prog w = .ok (is.all fun i => f i == g i) w
  | [], _ => by simp [Op.eqItems]
  | i :: is, h => by
    have hi : i < 32 := h i (by simp)
    have ha : (isAgg 5).run Tryd.prog w = .ok false w := by kernel_rfl
    have hp : ∀ f : Nat → Int, (part 5 (rowOf .u8 32 f) (i * 1)).run Tryd.prog w = .ok (.int .u8 (f i)) w := fun f => by
      simp [part, Sem.run_bind, ha, rowOf_get .u8 32 f i hi]
    have ih := eqItems32h f g d w is (fun j hj => h j (by simp [hj]))
    have pe : (Op.equalIn (d + 1) 5 (.int .u8 (f i)) (.int .u8 (g i))).run Tryd.prog w = .ok (f i == g i) w := run_equalIn_int w d 5 .u8 .u8 _ _ Tryd.underlying5
    simp only [Op.eqItems, Sem.run_bind, hp, pe, Result.andThen_ok, List.all_cons]
    cases hb : (f i == g i)
    · simp
    · simpa using ih
theorem eqIn32h (f : Nat → Int) (w : World) : (Op.equalIn 9999 23 (.agg (rowOf .u8 32 f)) (.agg (rowOf .u8 32 f))).run Tryd.prog w = .ok true w := by
  rw [run_equalIn_array w 9998 (i := (Tryd.prog.info? 5).getD default) _ _ Tryd.underlying23 (by kernel_rfl), show Tryd.prog.cellsOf 5 = 1 by kernel_rfl, eqItems32h f f 9997 w _ (fun i hi => by simpa using hi)]
  simp
theorem eqFields_self (D : Nat) (A : Array Value) (w : World) : ∀ l : List Field, (∀ f ∈ l, f.name ≠ "_" ∧ ∃ u, (part f.type A f.offset).run Tryd.prog w = .ok u w ∧ (Op.equalIn D f.type u u).run Tryd.prog w = .ok true w) → (Op.eqFields D A A l).run Tryd.prog w = .ok true w
  | [], _ => by simp [Op.eqFields]
  | f :: l, h => by
    obtain ⟨n, u, hp, he⟩ := h f List.mem_cons_self
    have ih := eqFields_self D A w l fun g hg => h g (List.mem_cons_of_mem _ hg)
    rw [Op.eqFields, if_pos n]
    simp only [Sem.run_bind, hp, he, Result.andThen_ok, Bool.not_true, Bool.false_eq_true, if_false, ih]
theorem headerFields : (Tryd.prog.fieldsOf 25).toList.map (fun f => (f.type, f.offset, f.name != "_")) = [(9, 0, true), (3, 1, true), (3, 2, true), (23, 3, true), (23, 35, true), (23, 67, true), (23, 99, true), (23, 131, true), (3, 163, true)] := by kernel_rfl
theorem eqInHeader_self (CH : ByteArray) (HT TM : Int) (LA AP TX VA NX : Nat → Int) (PR : Int) (w : World) : (Op.equalIn 10000 25 (.agg (hdD CH HT TM LA AP TX VA NX PR)) (.agg (hdD CH HT TM LA AP TX VA NX PR))).run Tryd.prog w = .ok true w := by
  rw [run_equalIn_struct w 9999 25 _ _ (by kernel_rfl) (by kernel_rfl)]
  have eS : (Op.equalIn 9999 9 (.string CH) (.string CH)).run Tryd.prog w = .ok true w := by
    have h := run_equalIn_string (P := Tryd.prog) w 9998 9 CH CH Tryd.underlying9
    rw [beq_self_eq_true] at h; exact h
  have eI : ∀ n : Int, (Op.equalIn 9999 3 (.int .i64 n) (.int .i64 n)).run Tryd.prog w = .ok true w := fun n => by
    have h := run_equalIn_int (P := Tryd.prog) w 9998 3 .i64 .i64 n n Tryd.underlying3
    rw [beq_self_eq_true] at h; exact h
  have eH := fun f => eqIn32h f w
  have hf := headerFields
  refine eqFields_self _ _ w _ fun f hm => ?_
  have hk : (f.type, f.offset, f.name != "_") ∈ (Tryd.prog.fieldsOf 25).toList.map (fun f => (f.type, f.offset, f.name != "_")) := List.mem_map.2 ⟨f, hm, rfl⟩
  rw [hf] at hk
  have hn : ∀ {t : TypeId} {o : Nat}, (f.type, f.offset, f.name != "_") = (t, o, true) → f.name ≠ "_" ∧ f.type = t ∧ f.offset = o := fun h => by
    simp only [Prod.mk.injEq, bne_iff_ne] at h
    exact ⟨h.2.2, h.1, h.2.1⟩
  simp only [List.mem_cons, List.not_mem_nil, or_false] at hk
  rcases hk with h | h | h | h | h | h | h | h | h <;> obtain ⟨h1, h2, h3⟩ := hn h <;> refine ⟨h1, ?_⟩ <;> rw [h2, h3]
  · exact ⟨.string CH, by kernel_rfl, eS⟩
  · exact ⟨.int .i64 HT, by kernel_rfl, eI _⟩
  · exact ⟨.int .i64 TM, by kernel_rfl, eI _⟩
  · exact ⟨.agg (rowOf .u8 32 LA), by kernel_rfl, eH _⟩
  · exact ⟨.agg (rowOf .u8 32 AP), by kernel_rfl, eH _⟩
  · exact ⟨.agg (rowOf .u8 32 TX), by kernel_rfl, eH _⟩
  · exact ⟨.agg (rowOf .u8 32 VA), by kernel_rfl, eH _⟩
  · exact ⟨.agg (rowOf .u8 32 NX), by kernel_rfl, eH _⟩
  · exact ⟨.int .i64 PR, by kernel_rfl, eI _⟩
theorem eqlHeader_self (CH : ByteArray) (HT TM : Int) (LA AP TX VA NX : Nat → Int) (PR : Int) (w : World) : (binOp .eql 25 (.agg (hdD CH HT TM LA AP TX VA NX PR)) (.agg (hdD CH HT TM LA AP TX VA NX PR))).run Tryd.prog w = .ok (.bool true) w := by
  rw [run_eql_struct, eqInHeader_self]
  rfl
theorem guardHeader (x y : Operand) (u v : Array Value) (w : World) : (eqGuard .eql 25 x y (.agg u) (.agg v)).run Tryd.prog w = .ok () w := by
  have h1 : Tryd.prog.eqGuardType Tryd.prog.depth 25 = false := by kernel_rfl
  unfold eqGuard
  go_simp
theorem wpList_eqH {w : World} {ops : Array Oper} {rest : List Oper} {o : Oper} {a : Act} {Q : Exit → Act → World → Prop} (hgd : Region.wanted o (yielded ops a.tmps) = true) (x y : Operand) (ho : o.op = .binOp .eql 25 x y 25) (HC : Array Value) (heq : ∀ w : World, (binOp .eql 25 (.agg HC) (.agg HC)).run Tryd.prog w = .ok (.bool true) w)
    (hx : a.eval x = .agg HC) (hy : a.eval y = .agg HC) (h : wpList Tryd.prog ops Q rest (a.put o.dst (.bool true)) w) : wpList Tryd.prog ops Q (o :: rest) a w := by
  refine BigFrame.wpList_want hgd fun K hK => ?_
  have hg := guardHeader x y HC HC w
  unfold Oper.wp execOp
  simp only [ho, hx, hy, Sem.run_bind, hg, heq w, Result.andThen_ok, Sem.run_pure]
  exact hK _ _ h
end Go.Proofs.YtjnpcmfpiejmjaaDoor
