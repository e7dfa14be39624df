/- Part 19 of the proof. -/
import Derived.Test.YteokgklfljhcaaaGreatDoorBd18
namespace Go.Proofs.YteokgklfljhcaaaGreatDoor
set_option linter.unusedVariables false
set_option linter.unusedSimpArgs false
open Go.RowKit
set_option maxRecDepth 100000
set_option linter.unusedSimpArgs false
set_option linter.unusedVariables false
theorem neqC32 (f g : Nat → Int) (w : World) : (binOp .neq 23 (.agg (rowOf .u8 32 f)) (.agg (rowOf .u8 32 g))).run Tryz.prog w = .ok (.bool (!(eqB f g))) w := by
  rw [run_neq_struct, eqIn32]
  rfl
structure LcM (w : World) (q q3 : Nat) (B : Array Value) (wr : World) : Prop where
  below : Below w.heap.size w wr
  h : wr.heap[q]? = some (.cells B 31 (0, 0))
  z : wr.heap[q3]? = some (.cells (rowOf .u8 32 z32) 23 (0, 0))
  hq : w.heap.size ≤ q
  hq3 : q < q3
theorem LcM.call {w : World} {q q3 : Nat} {B : Array Value} {wr wr' : World} (m : LcM w q q3 B wr) (hb : Below wr.heap.size wr wr') : LcM w q q3 B wr' :=
  ⟨m.below.trans (hb.mono m.below.size), (hb.block _ (bkT_lt m.h)).trans m.h, (hb.block _ (bkT_lt m.z)).trans m.z, m.hq, m.hq3⟩
theorem LcM.side {w : World} {q q3 g : Nat} {B : Array Value} {wr wr' : World} (m : LcM w q q3 B wr) (ho : Only g wr wr') (hg : q3 < g) : LcM w q q3 B wr' := by
  have h1 := m.hq; have h2 := m.hq3
  exact ⟨m.below.trans (ho.below (by omega) m.below.size), (ho.block _ (bkT_lt m.h) (by omega)).trans m.h, (ho.block _ (bkT_lt m.z) (by omega)).trans m.z, h1, h2⟩
set_option maxHeartbeats 20000000 in
theorem lastcan_any (CH : ByteArray) (HT TM : Int) (LA AP TX VA NX : Nat → Int) (PR : Int) (tv : Value) (c : Cm) (va : Option Addr) (n vc : Nat) (w : World) (hnm : n ≤ 140737488355328) :
    Calls Tryz.prog 47 #[.agg (bkD (hdD CH HT TM LA AP TX VA NX PR) tv (cmC c (.slice va n vc)))] w fun e w' => e = .returned (.bool (laOk HT LA c n)) ∧ Below w.heap.size w w' := by
  obtain ⟨HC, hHC⟩ : ∃ x, x = hdD CH HT TM LA AP TX VA NX PR := ⟨_, rfl⟩
  have HHC := Lib.hid hHC
  have HHS := Lib.hid (show HC.size = 164 from by rw [hHC]; exact hdD_size _ _ _ _ _ _ _ _ _)
  obtain ⟨CC, hCC⟩ : ∃ x, x = cmC c (.slice va n vc) := ⟨_, rfl⟩
  have HCC := Lib.hid hCC
  have HCS := Lib.hid ((congrArg Array.size hCC).trans (cmC_size _ _))
  have HCO := Lib.hid (show CC.all (·.oneCell') = true from by rw [hCC]; exact cmC_one11 _ _ _ _)
  rw [← hHC, ← hCC]
  obtain ⟨r, hr⟩ : ∃ b, b = laOk HT LA c n := ⟨_, rfl⟩
  rw [← hr]
  obtain ⟨b1, hb1⟩ : ∃ b, b = eqB LA z32 := ⟨_, rfl⟩
  obtain ⟨b2, hb2⟩ : ∃ b, b = eqB c.blk z32 := ⟨_, rfl⟩
  obtain ⟨b3, hb3⟩ : ∃ b, b = eqB c.blk LA := ⟨_, rfl⟩
  have heq1 := eq32 LA z32
  have hne1 := neqC32 LA z32
  have heq2 := eq32 c.blk z32
  have heq3 := eq32 c.blk LA
  rw [← hb1] at heq1 hne1
  rw [← hb2] at heq2
  rw [← hb3] at heq3
  obtain ⟨KH, hK0⟩ : ∃ x, x = c.height := ⟨_, rfl⟩
  obtain ⟨RD, hR0⟩ : ∃ x, x = c.round := ⟨_, rfl⟩
  have hbe : r = if HT = 1 then b1 && (decide (KH = 0) && (decide (RD = 0) && (b2 && decide (n = 0)))) else !b1 && (decide (KH = wrap64 (HT - 1)) && b3) := by rw [hr, hb1, hb2, hb3, hK0, hR0]; rfl
  have HCL := Lib.hid (fun (w : World) (g : Nat) (h : w.heap[g]? = some (.cells CC 29 (0, 0))) => show w.cell? ⟨g, 0, none⟩ = some (.int .i64 KH) ∧ w.cell? ⟨g, 1, none⟩ = some (.int .i64 RD) ∧ w.rangeAt g 2 (rowOf .u8 32 c.blk).toList ∧ w.cell? ⟨g, 34, none⟩ = some (.slice va n vc) from by rw [hK0, hR0]; exact cm_cells (by rw [hCC] at h; exact h))
  have hbA := below_alloc w (.cells (bkD HC tv CC) 31)
  have HQ := Lib.hid (heap_alloc_new w (.cells (bkD HC tv CC) 31))
  have HB := Lib.hid hbA
  have hnI : (n : Int) ≤ 140737488355328 := by omega
  obtain ⟨bk, hbk⟩ : ∃ b, b = c.blk := ⟨_, rfl⟩
  rw [← hbk] at HCL heq2 heq3
  clear hHC hCC hr hb1 hb2 hb3 hK0 hR0 hbA hnm hbk
  go_enter Tryz.func47, Tryz.ntmps47
  go_upto_region 1 with (fail)
  obtain ⟨q, hq⟩ : ∃ q, q = w.heap.size := ⟨_, rfl⟩
  have HQ0 := Lib.hid hq
  rw [← hq] at HQ ⊢
  clear hq
  generalize w.alloc (.cells (bkD HC tv CC) 31) = w1 at *
  go_upto_region 2 with (refine wpList_store_row rfl 23 (.tmp 3) (.tmp 6) rfl w1.heap.size (rowOf .u8 32 z32) rfl rfl 23 _ (heap_alloc_new _ _) (by rw [rowOf_size]; kernel_rfl) (by rw [rowOf_size]; kernel_rfl) (rowOf_one _ _ _) ?_; rw [World.setRow_alloc_new])
  have hb1 := below_alloc w1 (.cells (rowOf .u8 32 z32) 23)
  have M := Lib.hid (show LcM w q w1.heap.size (bkD HC tv CC) (w1.alloc (.cells (rowOf .u8 32 z32) 23)) from ⟨HB.out.trans (hb1.mono HB.out.size), (hb1.block _ (bkT_lt HQ.out)).trans HQ.out, heap_alloc_new _ _, by rw [HQ0.out]; exact Nat.le_refl _, bkT_lt HQ.out⟩)
  obtain ⟨q3, hq3⟩ : ∃ q, q = w1.heap.size := ⟨_, rfl⟩
  rw [← hq3] at M ⊢
  clear hb1 hq3 HQ HB
  generalize w1.alloc (.cells (rowOf .u8 32 z32) 23) = w2 at *
  refine wp_region_T (fun W => LcM w q q3 (bkD HC tv CC) W) [2, 4, 5, 6, 7, 8] (by kernel_rfl) ?_
  replace M := Lib.hid (M.out.call (Below.refl _ _).drew)
  generalize w2.drew = wd at *
  refine anyT_takeY (i := 0) (v := .pointer (some ⟨q, 0, none⟩)) rfl (by kernel_rfl) (by kernel_rfl) (by kernel_rfl) (fun _ _ _ h => h) (by kernel_rfl) (Or.inl ⟨by rfl, by intro w; go_simp⟩) ?_
  try simp only [List.getElem_toArray, List.getElem_cons_succ, List.getElem_cons_zero, Act.put, List.setIfInBounds_toArray, List.set_cons_zero, List.set_cons_succ]
  refine anyT_takeY (i := 1) (v := .pointer (some ⟨q, 3, none⟩)) rfl (by kernel_rfl) (by kernel_rfl) (by kernel_rfl) (fun _ _ _ h => h) (by kernel_rfl) (Or.inl ⟨by rfl, by intro w; go_simp⟩) ?_
  try simp only [List.getElem_toArray, List.getElem_cons_succ, List.getElem_cons_zero, Act.put, List.setIfInBounds_toArray, List.set_cons_zero, List.set_cons_succ]
  refine anyT_takeY (i := 3) (v := .pointer (some ⟨q, 165, none⟩)) rfl (by kernel_rfl) (by kernel_rfl) (by kernel_rfl) (fun _ _ _ h => h) (by kernel_rfl) (Or.inl ⟨by rfl, by intro w; go_simp⟩) ?_
  try simp only [List.getElem_toArray, List.getElem_cons_succ, List.getElem_cons_zero, Act.put, List.setIfInBounds_toArray, List.set_cons_zero, List.set_cons_succ]
  refine anyT_take [] (i := 2) (v := .agg (rowOf .u8 32 LA)) rfl (by kernel_rfl) (by kernel_rfl) (by kernel_rfl) (fun _ _ _ h => h) (by kernel_rfl) (rowT_yields (by rfl) 23 (.tmp 8) rfl q 3 rfl _ _ (fun _ h => bk_la HHC.out h.h) Tryz.underlying23 rfl (by rw [rowOf_size]; kernel_rfl)) M.out ?_
  try simp only [List.getElem_toArray, List.getElem_cons_succ, List.getElem_cons_zero, Act.put, List.setIfInBounds_toArray, List.set_cons_zero, List.set_cons_succ]
  refine anyT_take [] (i := 4) (v := .agg CC) rfl (by kernel_rfl) (by kernel_rfl) (by kernel_rfl) (fun _ _ _ h => h) (by kernel_rfl) (rowT_yields (by rfl) 29 (.tmp 10) rfl q 165 rfl _ _ (fun _ h => bk_c h.h HHS.out) Tryz.underlying29 rfl (by rw [HCS.out]; kernel_rfl)) M.out ?_
  try simp only [List.getElem_toArray, List.getElem_cons_succ, List.getElem_cons_zero, Act.put, List.setIfInBounds_toArray, List.set_cons_zero, List.set_cons_succ]
  refine anyT_ready (rs := [5, 6]) (by kernel_rfl) (by simp) ?_
  refine readyT_cons rfl (fun K hK => ?_) (readyT_cons rfl (fun K hK => ?_) readyT_nil)
  · rw [if_pos (by rfl)]
    try simp only [List.getElem_toArray, List.getElem_cons_succ, List.getElem_cons_zero]
    go_simp
    refine hK _ _ (fun _ => M.out.call (below_alloc _ _)) ?_
    clear hK K
    try simp only [List.getElem_toArray, List.getElem_cons_succ, List.getElem_cons_zero, Act.put, List.setIfInBounds_toArray, List.set_cons_zero, List.set_cons_succ]
    generalize hA : World.alloc wd _ = we
    have hbl : Below wd.heap.size wd we := by rw [← hA]; exact below_alloc _ _
    obtain ⟨cz4, hcz, hqz⟩ : ∃ cz : Array Value, cz.size = 32 ∧ we.heap[wd.heap.size]? = some (.cells cz 23 (0, 0)) := ⟨_, by kernel_rfl, by rw [← hA]; exact heap_alloc_new _ _⟩
    have HZ4 := Lib.hid hcz
    have H4 := Lib.hid hqz
    have HL4 := Lib.hid (show q3 < wd.heap.size from bkT_lt M.out.z)
    replace M := Lib.hid (M.out.call hbl)
    obtain ⟨q4, hqe⟩ : ∃ q, q = wd.heap.size := ⟨_, rfl⟩
    rw [← hqe] at H4 HL4 ⊢
    clear hA hbl hcz hqz hqe
    refine anyT_one (i := 6) (by kernel_rfl) rfl (fun K hK => ?_)
    rw [if_pos (by rfl)]
    try simp only [List.getElem_toArray, List.getElem_cons_succ, List.getElem_cons_zero]
    (go_simp)
    refine hK _ _ (fun _ => M.out.call (below_alloc _ _)) ?_
    clear hK K
    try simp only [List.getElem_toArray, List.getElem_cons_succ, List.getElem_cons_zero, Act.put, List.setIfInBounds_toArray, List.set_cons_zero, List.set_cons_succ]
    have HNE := Lib.hid (show q4 < we.heap.size from bkT_lt H4.out)
    generalize hA : World.alloc we _ = wf
    have hbl : Below we.heap.size we wf := by rw [← hA]; exact below_alloc _ _
    obtain ⟨cz5, hcz, hqz⟩ : ∃ cz : Array Value, cz.size = 35 ∧ wf.heap[we.heap.size]? = some (.cells cz 29 (0, 0)) := ⟨_, by kernel_rfl, by rw [← hA]; exact heap_alloc_new _ _⟩
    have HZ5 := Lib.hid hcz
    have H5 := Lib.hid hqz
    have HL5 := Lib.hid (show q3 < we.heap.size from bkT_lt M.out.z)
    replace H4 := Lib.hid ((hbl.block _ (bkT_lt H4.out)).trans H4.out)
    replace M := Lib.hid (M.out.call hbl)
    obtain ⟨q5, hqe⟩ : ∃ q, q = we.heap.size := ⟨_, rfl⟩
    rw [← hqe] at H5 HL5 HNE ⊢
    clear hA hbl hcz hqz hqe
    refine anyT_one (i := 7) (by kernel_rfl) rfl (fun K hK => ?_)
    rw [if_pos (by rfl)]
    try simp only [List.getElem_toArray, List.getElem_cons_succ, List.getElem_cons_zero]
    (refine wp_store_row 23 (.tmp 4) (.tmp 9) rfl q4 (rowOf .u8 32 LA) rfl rfl 23 _ H4.out (by rw [rowOf_size]; kernel_rfl) (by rw [rowOf_size, HZ4.out]) (rowOf_one _ _ _) ?_)
    refine hK _ _ (fun _ => M.out.side (only_setRow11 wf q4 (rowOf .u8 32 LA)) HL4.out) ?_
    clear hK K
    try simp only [List.getElem_toArray, List.getElem_cons_succ, List.getElem_cons_zero, Act.put, List.setIfInBounds_toArray, List.set_cons_zero, List.set_cons_succ]
    have ho7 := only_setRow11 wf q4 (rowOf .u8 32 LA)
    replace M := Lib.hid (M.out.side ho7 HL4.out)
    replace H4 := Lib.hid (setRow_heap wf q4 _ (rowOf .u8 32 LA) _ _ H4.out)
    replace H5 := Lib.hid ((ho7.block _ (bkT_lt H5.out) (by have := HNE.out; omega)).trans H5.out)
    clear ho7
    generalize wf.setRow q4 (rowOf .u8 32 LA) = wg at *
    refine anyT_one (i := 8) (by kernel_rfl) rfl (fun K hK => ?_)
    rw [if_pos (by rfl)]
    try simp only [List.getElem_toArray, List.getElem_cons_succ, List.getElem_cons_zero]
    (refine wp_store_row 29 (.tmp 5) (.tmp 11) rfl q5 CC rfl rfl 29 _ H5.out (by rw [HCS.out]; kernel_rfl) (by rw [HCS.out, HZ5.out]) HCO.out ?_)
    refine hK _ _ (fun _ => M.out.side (only_setRow11 wg q5 CC) HL5.out) ?_
    clear hK K
    try simp only [List.getElem_toArray, List.getElem_cons_succ, List.getElem_cons_zero, Act.put, List.setIfInBounds_toArray, List.set_cons_zero, List.set_cons_succ]
    have ho8 := only_setRow11 wg q5 CC
    replace M := Lib.hid (M.out.side ho8 HL5.out)
    replace H5 := Lib.hid (setRow_heap wg q5 _ CC _ _ H5.out)
    replace H4 := Lib.hid ((ho8.block _ (bkT_lt H4.out) (by have := HNE.out; omega)).trans H4.out)
    clear ho8
    generalize wg.setRow q5 CC = wh at *
    refine anyT_done (by kernel_rfl) ?_ _
    have c1 := bk_ht HHC.out M.out.h
    obtain ⟨d0, d1, d2, d3⟩ := HCL.out _ _ H5.out
    have HD2 := Lib.hid d2
    clear d2
    by_cases h1 : HT = 1
    · rw [if_pos h1] at hbe
      subst h1
      cases b1 with
      | false =>
        rw [Bool.false_and] at hbe
        subst hbe
        go_wp2_with (first | (refine wpList_load_rowT (by rfl) 23 (.tmp 4) rfl q4 0 rfl (rowOf .u8 32 LA) _ (rowT_range H4.out) Tryz.underlying23 rfl (by rw [rowOf_size]; kernel_rfl) ?_) | (refine wpList_load_rowT (by rfl) 23 (.tmp 3) rfl q3 0 rfl (rowOf .u8 32 z32) _ (rowT_range M.out.z) Tryz.underlying23 rfl (by rw [rowOf_size]; kernel_rfl) ?_) | (refine wpList_load_rowT (by rfl) 23 (.tmp 30) rfl q5 2 rfl (rowOf .u8 32 bk) _ HD2.out Tryz.underlying23 rfl (by rw [rowOf_size]; kernel_rfl) ?_))
        go_ret
        exact ⟨rfl, M.out.below⟩
      | true =>
        rw [Bool.true_and] at hbe
        by_cases h2 : KH = 0
        · rw [decide_eq_true h2, Bool.true_and] at hbe
          subst h2
          by_cases h3 : RD = 0
          · rw [decide_eq_true h3, Bool.true_and] at hbe
            subst h3
            cases b2 with
            | false =>
              rw [Bool.false_and] at hbe
              subst hbe
              go_wp2_with (first | (refine wpList_load_rowT (by rfl) 23 (.tmp 4) rfl q4 0 rfl (rowOf .u8 32 LA) _ (rowT_range H4.out) Tryz.underlying23 rfl (by rw [rowOf_size]; kernel_rfl) ?_) | (refine wpList_load_rowT (by rfl) 23 (.tmp 3) rfl q3 0 rfl (rowOf .u8 32 z32) _ (rowT_range M.out.z) Tryz.underlying23 rfl (by rw [rowOf_size]; kernel_rfl) ?_) | (refine wpList_load_rowT (by rfl) 23 (.tmp 30) rfl q5 2 rfl (rowOf .u8 32 bk) _ HD2.out Tryz.underlying23 rfl (by rw [rowOf_size]; kernel_rfl) ?_))
              go_ret
              exact ⟨rfl, M.out.below⟩
            | true =>
              rw [Bool.true_and] at hbe
              by_cases h4 : n = 0
              · rw [decide_eq_true h4] at hbe
                have h4I : (n : Int) = 0 := by omega
                subst hbe
                go_wp2_with (first | (refine wpList_load_rowT (by rfl) 23 (.tmp 4) rfl q4 0 rfl (rowOf .u8 32 LA) _ (rowT_range H4.out) Tryz.underlying23 rfl (by rw [rowOf_size]; kernel_rfl) ?_) | (refine wpList_load_rowT (by rfl) 23 (.tmp 3) rfl q3 0 rfl (rowOf .u8 32 z32) _ (rowT_range M.out.z) Tryz.underlying23 rfl (by rw [rowOf_size]; kernel_rfl) ?_) | (refine wpList_load_rowT (by rfl) 23 (.tmp 30) rfl q5 2 rfl (rowOf .u8 32 bk) _ HD2.out Tryz.underlying23 rfl (by rw [rowOf_size]; kernel_rfl) ?_))
                go_ret
                exact ⟨by first | rfl | (show Ending.returned (.bool (decide ((n : Int) = 0))) = _; rw [decide_eq_true (by omega)]), M.out.below⟩
              · rw [decide_eq_false h4] at hbe
                have h4I : ¬ (n : Int) = 0 := by omega
                subst hbe
                go_wp2_with (first | (refine wpList_load_rowT (by rfl) 23 (.tmp 4) rfl q4 0 rfl (rowOf .u8 32 LA) _ (rowT_range H4.out) Tryz.underlying23 rfl (by rw [rowOf_size]; kernel_rfl) ?_) | (refine wpList_load_rowT (by rfl) 23 (.tmp 3) rfl q3 0 rfl (rowOf .u8 32 z32) _ (rowT_range M.out.z) Tryz.underlying23 rfl (by rw [rowOf_size]; kernel_rfl) ?_) | (refine wpList_load_rowT (by rfl) 23 (.tmp 30) rfl q5 2 rfl (rowOf .u8 32 bk) _ HD2.out Tryz.underlying23 rfl (by rw [rowOf_size]; kernel_rfl) ?_))
                go_ret
                exact ⟨by first | rfl | (show Ending.returned (.bool (decide ((n : Int) = 0))) = _; rw [decide_eq_false (by omega)]), M.out.below⟩
          · rw [decide_eq_false h3, Bool.false_and] at hbe
            subst hbe
            go_wp2_with (first | (refine wpList_load_rowT (by rfl) 23 (.tmp 4) rfl q4 0 rfl (rowOf .u8 32 LA) _ (rowT_range H4.out) Tryz.underlying23 rfl (by rw [rowOf_size]; kernel_rfl) ?_) | (refine wpList_load_rowT (by rfl) 23 (.tmp 3) rfl q3 0 rfl (rowOf .u8 32 z32) _ (rowT_range M.out.z) Tryz.underlying23 rfl (by rw [rowOf_size]; kernel_rfl) ?_) | (refine wpList_load_rowT (by rfl) 23 (.tmp 30) rfl q5 2 rfl (rowOf .u8 32 bk) _ HD2.out Tryz.underlying23 rfl (by rw [rowOf_size]; kernel_rfl) ?_))
            go_ret
            exact ⟨rfl, M.out.below⟩
        · rw [decide_eq_false h2, Bool.false_and] at hbe
          subst hbe
          go_wp2_with (first | (refine wpList_load_rowT (by rfl) 23 (.tmp 4) rfl q4 0 rfl (rowOf .u8 32 LA) _ (rowT_range H4.out) Tryz.underlying23 rfl (by rw [rowOf_size]; kernel_rfl) ?_) | (refine wpList_load_rowT (by rfl) 23 (.tmp 3) rfl q3 0 rfl (rowOf .u8 32 z32) _ (rowT_range M.out.z) Tryz.underlying23 rfl (by rw [rowOf_size]; kernel_rfl) ?_) | (refine wpList_load_rowT (by rfl) 23 (.tmp 30) rfl q5 2 rfl (rowOf .u8 32 bk) _ HD2.out Tryz.underlying23 rfl (by rw [rowOf_size]; kernel_rfl) ?_))
          go_ret
          exact ⟨rfl, M.out.below⟩
    · rw [if_neg h1] at hbe
      cases b1 with
      | false =>
        rw [Bool.not_false, Bool.true_and] at hbe
        by_cases h2 : KH = wrap64 (HT - 1)
        · rw [decide_eq_true h2, Bool.true_and] at hbe
          have HK2 := Lib.hid h2
          cases b3 with
          | false =>
            subst hbe
            go_wp2_with (first | (refine wpList_load_rowT (by rfl) 23 (.tmp 4) rfl q4 0 rfl (rowOf .u8 32 LA) _ (rowT_range H4.out) Tryz.underlying23 rfl (by rw [rowOf_size]; kernel_rfl) ?_) | (refine wpList_load_rowT (by rfl) 23 (.tmp 3) rfl q3 0 rfl (rowOf .u8 32 z32) _ (rowT_range M.out.z) Tryz.underlying23 rfl (by rw [rowOf_size]; kernel_rfl) ?_) | (refine wpList_load_rowT (by rfl) 23 (.tmp 54) rfl q5 2 rfl (rowOf .u8 32 bk) _ HD2.out Tryz.underlying23 rfl (by rw [rowOf_size]; kernel_rfl) ?_))
            go_ret
            exact ⟨rfl, M.out.below⟩
          | true =>
            subst hbe
            go_wp2_with (first | (refine wpList_load_rowT (by rfl) 23 (.tmp 4) rfl q4 0 rfl (rowOf .u8 32 LA) _ (rowT_range H4.out) Tryz.underlying23 rfl (by rw [rowOf_size]; kernel_rfl) ?_) | (refine wpList_load_rowT (by rfl) 23 (.tmp 3) rfl q3 0 rfl (rowOf .u8 32 z32) _ (rowT_range M.out.z) Tryz.underlying23 rfl (by rw [rowOf_size]; kernel_rfl) ?_) | (refine wpList_load_rowT (by rfl) 23 (.tmp 54) rfl q5 2 rfl (rowOf .u8 32 bk) _ HD2.out Tryz.underlying23 rfl (by rw [rowOf_size]; kernel_rfl) ?_))
            go_ret
            exact ⟨rfl, M.out.below⟩
        · rw [decide_eq_false h2, Bool.false_and] at hbe
          subst hbe
          go_wp2_with (first | (refine wpList_load_rowT (by rfl) 23 (.tmp 4) rfl q4 0 rfl (rowOf .u8 32 LA) _ (rowT_range H4.out) Tryz.underlying23 rfl (by rw [rowOf_size]; kernel_rfl) ?_) | (refine wpList_load_rowT (by rfl) 23 (.tmp 3) rfl q3 0 rfl (rowOf .u8 32 z32) _ (rowT_range M.out.z) Tryz.underlying23 rfl (by rw [rowOf_size]; kernel_rfl) ?_) | (refine wpList_load_rowT (by rfl) 23 (.tmp 54) rfl q5 2 rfl (rowOf .u8 32 bk) _ HD2.out Tryz.underlying23 rfl (by rw [rowOf_size]; kernel_rfl) ?_))
          go_ret
          exact ⟨rfl, M.out.below⟩
      | true =>
        rw [Bool.not_true, Bool.false_and] at hbe
        subst hbe
        go_wp2_with (first | (refine wpList_load_rowT (by rfl) 23 (.tmp 4) rfl q4 0 rfl (rowOf .u8 32 LA) _ (rowT_range H4.out) Tryz.underlying23 rfl (by rw [rowOf_size]; kernel_rfl) ?_) | (refine wpList_load_rowT (by rfl) 23 (.tmp 3) rfl q3 0 rfl (rowOf .u8 32 z32) _ (rowT_range M.out.z) Tryz.underlying23 rfl (by rw [rowOf_size]; kernel_rfl) ?_) | (refine wpList_load_rowT (by rfl) 23 (.tmp 54) rfl q5 2 rfl (rowOf .u8 32 bk) _ HD2.out Tryz.underlying23 rfl (by rw [rowOf_size]; kernel_rfl) ?_))
        go_ret
        exact ⟨rfl, M.out.below⟩
  · rw [if_pos (by rfl)]
    try simp only [List.getElem_toArray, List.getElem_cons_succ, List.getElem_cons_zero]
    go_simp
    refine hK _ _ (fun _ => M.out.call (below_alloc _ _)) ?_
    clear hK K
    try simp only [List.getElem_toArray, List.getElem_cons_succ, List.getElem_cons_zero, Act.put, List.setIfInBounds_toArray, List.set_cons_zero, List.set_cons_succ]
    generalize hA : World.alloc wd _ = we
    have hbl : Below wd.heap.size wd we := by rw [← hA]; exact below_alloc _ _
    obtain ⟨cz5, hcz, hqz⟩ : ∃ cz : Array Value, cz.size = 35 ∧ we.heap[wd.heap.size]? = some (.cells cz 29 (0, 0)) := ⟨_, by kernel_rfl, by rw [← hA]; exact heap_alloc_new _ _⟩
    have HZ5 := Lib.hid hcz
    have H5 := Lib.hid hqz
    have HL5 := Lib.hid (show q3 < wd.heap.size from bkT_lt M.out.z)
    replace M := Lib.hid (M.out.call hbl)
    obtain ⟨q5, hqe⟩ : ∃ q, q = wd.heap.size := ⟨_, rfl⟩
    rw [← hqe] at H5 HL5 ⊢
    clear hA hbl hcz hqz hqe
    refine anyT_one (i := 5) (by kernel_rfl) rfl (fun K hK => ?_)
    rw [if_pos (by rfl)]
    try simp only [List.getElem_toArray, List.getElem_cons_succ, List.getElem_cons_zero]
    (go_simp)
    refine hK _ _ (fun _ => M.out.call (below_alloc _ _)) ?_
    clear hK K
    try simp only [List.getElem_toArray, List.getElem_cons_succ, List.getElem_cons_zero, Act.put, List.setIfInBounds_toArray, List.set_cons_zero, List.set_cons_succ]
    have HNE := Lib.hid (show q5 < we.heap.size from bkT_lt H5.out)
    generalize hA : World.alloc we _ = wf
    have hbl : Below we.heap.size we wf := by rw [← hA]; exact below_alloc _ _
    obtain ⟨cz4, hcz, hqz⟩ : ∃ cz : Array Value, cz.size = 32 ∧ wf.heap[we.heap.size]? = some (.cells cz 23 (0, 0)) := ⟨_, by kernel_rfl, by rw [← hA]; exact heap_alloc_new _ _⟩
    have HZ4 := Lib.hid hcz
    have H4 := Lib.hid hqz
    have HL4 := Lib.hid (show q3 < we.heap.size from bkT_lt M.out.z)
    replace H5 := Lib.hid ((hbl.block _ (bkT_lt H5.out)).trans H5.out)
    replace M := Lib.hid (M.out.call hbl)
    obtain ⟨q4, hqe⟩ : ∃ q, q = we.heap.size := ⟨_, rfl⟩
    rw [← hqe] at H4 HL4 HNE ⊢
    clear hA hbl hcz hqz hqe
    refine anyT_one (i := 7) (by kernel_rfl) rfl (fun K hK => ?_)
    rw [if_pos (by rfl)]
    try simp only [List.getElem_toArray, List.getElem_cons_succ, List.getElem_cons_zero]
    (refine wp_store_row 23 (.tmp 4) (.tmp 9) rfl q4 (rowOf .u8 32 LA) rfl rfl 23 _ H4.out (by rw [rowOf_size]; kernel_rfl) (by rw [rowOf_size, HZ4.out]) (rowOf_one _ _ _) ?_)
    refine hK _ _ (fun _ => M.out.side (only_setRow11 wf q4 (rowOf .u8 32 LA)) HL4.out) ?_
    clear hK K
    try simp only [List.getElem_toArray, List.getElem_cons_succ, List.getElem_cons_zero, Act.put, List.setIfInBounds_toArray, List.set_cons_zero, List.set_cons_succ]
    have ho7 := only_setRow11 wf q4 (rowOf .u8 32 LA)
    replace M := Lib.hid (M.out.side ho7 HL4.out)
    replace H4 := Lib.hid (setRow_heap wf q4 _ (rowOf .u8 32 LA) _ _ H4.out)
    replace H5 := Lib.hid ((ho7.block _ (bkT_lt H5.out) (by have := HNE.out; omega)).trans H5.out)
    clear ho7
    generalize wf.setRow q4 (rowOf .u8 32 LA) = wg at *
    refine anyT_one (i := 8) (by kernel_rfl) rfl (fun K hK => ?_)
    rw [if_pos (by rfl)]
    try simp only [List.getElem_toArray, List.getElem_cons_succ, List.getElem_cons_zero]
    (refine wp_store_row 29 (.tmp 5) (.tmp 11) rfl q5 CC rfl rfl 29 _ H5.out (by rw [HCS.out]; kernel_rfl) (by rw [HCS.out, HZ5.out]) HCO.out ?_)
    refine hK _ _ (fun _ => M.out.side (only_setRow11 wg q5 CC) HL5.out) ?_
    clear hK K
    try simp only [List.getElem_toArray, List.getElem_cons_succ, List.getElem_cons_zero, Act.put, List.setIfInBounds_toArray, List.set_cons_zero, List.set_cons_succ]
    have ho8 := only_setRow11 wg q5 CC
    replace M := Lib.hid (M.out.side ho8 HL5.out)
    replace H5 := Lib.hid (setRow_heap wg q5 _ CC _ _ H5.out)
    replace H4 := Lib.hid ((ho8.block _ (bkT_lt H4.out) (by have := HNE.out; omega)).trans H4.out)
    clear ho8
    generalize wg.setRow q5 CC = wh at *
    refine anyT_done (by kernel_rfl) ?_ _
    have c1 := bk_ht HHC.out M.out.h
    obtain ⟨d0, d1, d2, d3⟩ := HCL.out _ _ H5.out
    have HD2 := Lib.hid d2
    clear d2
    by_cases h1 : HT = 1
    · rw [if_pos h1] at hbe
      subst h1
      cases b1 with
      | false =>
        rw [Bool.false_and] at hbe
        subst hbe
        go_wp2_with (first | (refine wpList_load_rowT (by rfl) 23 (.tmp 4) rfl q4 0 rfl (rowOf .u8 32 LA) _ (rowT_range H4.out) Tryz.underlying23 rfl (by rw [rowOf_size]; kernel_rfl) ?_) | (refine wpList_load_rowT (by rfl) 23 (.tmp 3) rfl q3 0 rfl (rowOf .u8 32 z32) _ (rowT_range M.out.z) Tryz.underlying23 rfl (by rw [rowOf_size]; kernel_rfl) ?_) | (refine wpList_load_rowT (by rfl) 23 (.tmp 30) rfl q5 2 rfl (rowOf .u8 32 bk) _ HD2.out Tryz.underlying23 rfl (by rw [rowOf_size]; kernel_rfl) ?_))
        go_ret
        exact ⟨rfl, M.out.below⟩
      | true =>
        rw [Bool.true_and] at hbe
        by_cases h2 : KH = 0
        · rw [decide_eq_true h2, Bool.true_and] at hbe
          subst h2
          by_cases h3 : RD = 0
          · rw [decide_eq_true h3, Bool.true_and] at hbe
            subst h3
            cases b2 with
            | false =>
              rw [Bool.false_and] at hbe
              subst hbe
              go_wp2_with (first | (refine wpList_load_rowT (by rfl) 23 (.tmp 4) rfl q4 0 rfl (rowOf .u8 32 LA) _ (rowT_range H4.out) Tryz.underlying23 rfl (by rw [rowOf_size]; kernel_rfl) ?_) | (refine wpList_load_rowT (by rfl) 23 (.tmp 3) rfl q3 0 rfl (rowOf .u8 32 z32) _ (rowT_range M.out.z) Tryz.underlying23 rfl (by rw [rowOf_size]; kernel_rfl) ?_) | (refine wpList_load_rowT (by rfl) 23 (.tmp 30) rfl q5 2 rfl (rowOf .u8 32 bk) _ HD2.out Tryz.underlying23 rfl (by rw [rowOf_size]; kernel_rfl) ?_))
              go_ret
              exact ⟨rfl, M.out.below⟩
            | true =>
              rw [Bool.true_and] at hbe
              by_cases h4 : n = 0
              · rw [decide_eq_true h4] at hbe
                have h4I : (n : Int) = 0 := by omega
                subst hbe
                go_wp2_with (first | (refine wpList_load_rowT (by rfl) 23 (.tmp 4) rfl q4 0 rfl (rowOf .u8 32 LA) _ (rowT_range H4.out) Tryz.underlying23 rfl (by rw [rowOf_size]; kernel_rfl) ?_) | (refine wpList_load_rowT (by rfl) 23 (.tmp 3) rfl q3 0 rfl (rowOf .u8 32 z32) _ (rowT_range M.out.z) Tryz.underlying23 rfl (by rw [rowOf_size]; kernel_rfl) ?_) | (refine wpList_load_rowT (by rfl) 23 (.tmp 30) rfl q5 2 rfl (rowOf .u8 32 bk) _ HD2.out Tryz.underlying23 rfl (by rw [rowOf_size]; kernel_rfl) ?_))
                go_ret
                exact ⟨by first | rfl | (show Ending.returned (.bool (decide ((n : Int) = 0))) = _; rw [decide_eq_true (by omega)]), M.out.below⟩
              · rw [decide_eq_false h4] at hbe
                have h4I : ¬ (n : Int) = 0 := by omega
                subst hbe
                go_wp2_with (first | (refine wpList_load_rowT (by rfl) 23 (.tmp 4) rfl q4 0 rfl (rowOf .u8 32 LA) _ (rowT_range H4.out) Tryz.underlying23 rfl (by rw [rowOf_size]; kernel_rfl) ?_) | (refine wpList_load_rowT (by rfl) 23 (.tmp 3) rfl q3 0 rfl (rowOf .u8 32 z32) _ (rowT_range M.out.z) Tryz.underlying23 rfl (by rw [rowOf_size]; kernel_rfl) ?_) | (refine wpList_load_rowT (by rfl) 23 (.tmp 30) rfl q5 2 rfl (rowOf .u8 32 bk) _ HD2.out Tryz.underlying23 rfl (by rw [rowOf_size]; kernel_rfl) ?_))
                go_ret
                exact ⟨by first | rfl | (show Ending.returned (.bool (decide ((n : Int) = 0))) = _; rw [decide_eq_false (by omega)]), M.out.below⟩
          · rw [decide_eq_false h3, Bool.false_and] at hbe
            subst hbe
            go_wp2_with (first | (refine wpList_load_rowT (by rfl) 23 (.tmp 4) rfl q4 0 rfl (rowOf .u8 32 LA) _ (rowT_range H4.out) Tryz.underlying23 rfl (by rw [rowOf_size]; kernel_rfl) ?_) | (refine wpList_load_rowT (by rfl) 23 (.tmp 3) rfl q3 0 rfl (rowOf .u8 32 z32) _ (rowT_range M.out.z) Tryz.underlying23 rfl (by rw [rowOf_size]; kernel_rfl) ?_) | (refine wpList_load_rowT (by rfl) 23 (.tmp 30) rfl q5 2 rfl (rowOf .u8 32 bk) _ HD2.out Tryz.underlying23 rfl (by rw [rowOf_size]; kernel_rfl) ?_))
            go_ret
            exact ⟨rfl, M.out.below⟩
        · rw [decide_eq_false h2, Bool.false_and] at hbe
          subst hbe
          go_wp2_with (first | (refine wpList_load_rowT (by rfl) 23 (.tmp 4) rfl q4 0 rfl (rowOf .u8 32 LA) _ (rowT_range H4.out) Tryz.underlying23 rfl (by rw [rowOf_size]; kernel_rfl) ?_) | (refine wpList_load_rowT (by rfl) 23 (.tmp 3) rfl q3 0 rfl (rowOf .u8 32 z32) _ (rowT_range M.out.z) Tryz.underlying23 rfl (by rw [rowOf_size]; kernel_rfl) ?_) | (refine wpList_load_rowT (by rfl) 23 (.tmp 30) rfl q5 2 rfl (rowOf .u8 32 bk) _ HD2.out Tryz.underlying23 rfl (by rw [rowOf_size]; kernel_rfl) ?_))
          go_ret
          exact ⟨rfl, M.out.below⟩
    · rw [if_neg h1] at hbe
      cases b1 with
      | false =>
        rw [Bool.not_false, Bool.true_and] at hbe
        by_cases h2 : KH = wrap64 (HT - 1)
        · rw [decide_eq_true h2, Bool.true_and] at hbe
          have HK2 := Lib.hid h2
          cases b3 with
          | false =>
            subst hbe
            go_wp2_with (first | (refine wpList_load_rowT (by rfl) 23 (.tmp 4) rfl q4 0 rfl (rowOf .u8 32 LA) _ (rowT_range H4.out) Tryz.underlying23 rfl (by rw [rowOf_size]; kernel_rfl) ?_) | (refine wpList_load_rowT (by rfl) 23 (.tmp 3) rfl q3 0 rfl (rowOf .u8 32 z32) _ (rowT_range M.out.z) Tryz.underlying23 rfl (by rw [rowOf_size]; kernel_rfl) ?_) | (refine wpList_load_rowT (by rfl) 23 (.tmp 54) rfl q5 2 rfl (rowOf .u8 32 bk) _ HD2.out Tryz.underlying23 rfl (by rw [rowOf_size]; kernel_rfl) ?_))
            go_ret
            exact ⟨rfl, M.out.below⟩
          | true =>
            subst hbe
            go_wp2_with (first | (refine wpList_load_rowT (by rfl) 23 (.tmp 4) rfl q4 0 rfl (rowOf .u8 32 LA) _ (rowT_range H4.out) Tryz.underlying23 rfl (by rw [rowOf_size]; kernel_rfl) ?_) | (refine wpList_load_rowT (by rfl) 23 (.tmp 3) rfl q3 0 rfl (rowOf .u8 32 z32) _ (rowT_range M.out.z) Tryz.underlying23 rfl (by rw [rowOf_size]; kernel_rfl) ?_) | (refine wpList_load_rowT (by rfl) 23 (.tmp 54) rfl q5 2 rfl (rowOf .u8 32 bk) _ HD2.out Tryz.underlying23 rfl (by rw [rowOf_size]; kernel_rfl) ?_))
            go_ret
            exact ⟨rfl, M.out.below⟩
        · rw [decide_eq_false h2, Bool.false_and] at hbe
          subst hbe
          go_wp2_with (first | (refine wpList_load_rowT (by rfl) 23 (.tmp 4) rfl q4 0 rfl (rowOf .u8 32 LA) _ (rowT_range H4.out) Tryz.underlying23 rfl (by rw [rowOf_size]; kernel_rfl) ?_) | (refine wpList_load_rowT (by rfl) 23 (.tmp 3) rfl q3 0 rfl (rowOf .u8 32 z32) _ (rowT_range M.out.z) Tryz.underlying23 rfl (by rw [rowOf_size]; kernel_rfl) ?_) | (refine wpList_load_rowT (by rfl) 23 (.tmp 54) rfl q5 2 rfl (rowOf .u8 32 bk) _ HD2.out Tryz.underlying23 rfl (by rw [rowOf_size]; kernel_rfl) ?_))
          go_ret
          exact ⟨rfl, M.out.below⟩
      | true =>
        rw [Bool.not_true, Bool.false_and] at hbe
        subst hbe
        go_wp2_with (first | (refine wpList_load_rowT (by rfl) 23 (.tmp 4) rfl q4 0 rfl (rowOf .u8 32 LA) _ (rowT_range H4.out) Tryz.underlying23 rfl (by rw [rowOf_size]; kernel_rfl) ?_) | (refine wpList_load_rowT (by rfl) 23 (.tmp 3) rfl q3 0 rfl (rowOf .u8 32 z32) _ (rowT_range M.out.z) Tryz.underlying23 rfl (by rw [rowOf_size]; kernel_rfl) ?_) | (refine wpList_load_rowT (by rfl) 23 (.tmp 54) rfl q5 2 rfl (rowOf .u8 32 bk) _ HD2.out Tryz.underlying23 rfl (by rw [rowOf_size]; kernel_rfl) ?_))
        go_ret
        exact ⟨rfl, M.out.below⟩
end Go.Proofs.YteokgklfljhcaaaGreatDoor
