/- Part 27 of the proof. -/
import Derived.Test.YtfmfemmknccfmaaDoorPa26
namespace Go.Proofs.YtfmfemmknccfmaaDoor
set_option linter.unusedVariables false
set_option linter.unusedSimpArgs false
open Go.RowKit
set_option maxRecDepth 100000
set_option linter.unusedSimpArgs false
set_option linter.unusedVariables false
def upS8 (w : World) (g2 g3 : Nat) (x : Pl) (s : AvS) : Prop := w.heap[g2]? = some (.cells (plC x) 122 (0, 0)) ∧ w.heap[g3]? = some (.cells (stC s) 119 (0, 0))
theorem upS8.below {w w' : World} {g2 g3 : Nat} {x : Pl} {s : AvS} (h : upS8 w g2 g3 x s) (hb : Below w.heap.size w w') : upS8 w' g2 g3 x s :=
  ⟨(hb.block _ (Array.getElem?_eq_some_iff.1 h.1).1).trans h.1, (hb.block _ (Array.getElem?_eq_some_iff.1 h.2).1).trans h.2⟩
/-- what up leaves in memory as it begins -/
def upW (w : World) (x : Pl) (s : AvS) : World := ((w.alloc (.cells (plC x) 122)).alloc (.cells (stC s) 119)).alloc (.cells (plC plZ) 122)
theorem upW_at (w : World) (x : Pl) (s : AvS) : upS8 (upW w x s) w.heap.size (w.heap.size + 1) x s ∧ (upW w x s).heap[w.heap.size + 1 + 1]? = some (.cells (plC plZ) 122 (0, 0)) ∧ Below w.heap.size w (upW w x s) := by
  refine ⟨⟨?_, ?_⟩, ?_, ?_⟩
  · unfold upW; rw [heap_alloc_old _ _ (by simp; omega), heap_alloc_old _ _ (by simp), heap_alloc_new]
  · unfold upW; rw [heap_alloc_old _ _ (by simp)]
    have := heap_alloc_new (w.alloc (.cells (plC x) 122)) (.cells (stC s) 119)
    rw [size_alloc] at this; exact this
  · unfold upW
    have := heap_alloc_new ((w.alloc (.cells (plC x) 122)).alloc (.cells (stC s) 119)) (.cells (plC plZ) 122)
    rw [size_alloc, size_alloc] at this; exact this
  · exact ((((Below.refl _ w).alloc (Nat.le_refl _) _).alloc (by simp) _).alloc (by simp; omega) _)
set_option maxHeartbeats 4000000 in
theorem up_any (x : Pl) (s : AvS) (w : World) (he : Env w) (hi : 0 ≤ x.2.1 ∧ x.2.1 ≤ 1099511627776) (hn : 0 ≤ x.2.2 ∧ x.2.2 ≤ 1099511627776) (hm : 1 ≤ s.many ∧ s.many ≤ 4294967296) :
    Calls Tryd.prog 90 #[.agg (plC x), .agg (stC s)] w fun e w' => e = .returned (.agg (plC (upP x s))) ∧ Below w.heap.size w w' := by
  have HA := Lib.hid (upW_at w x s)
  have HE := Lib.hid (he.below HA.out.2.2 he.lt)
  have HS := Lib.hid HA.out.1
  have HP := Lib.hid HA.out.2.1
  have HB := Lib.hid HA.out.2.2
  clear he HA
  obtain ⟨h, i, n⟩ := x
  obtain ⟨sec, m, O⟩ := s
  simp only at hi hn hm
  have hw1 : IntKind.i64.wrap (n + m) = n + m := IntWalk.i64_in _ (by omega)
  have hw2 : IntKind.i64.wrap (m + i) = m + i := IntWalk.i64_in _ (by omega)
  have hu1 : IntKind.i64.wrap m = m := IntWalk.i64_in _ (by omega)
  go_enter Tryd.func90, Tryd.ntmps90
  go_upto_region 1 with (fail)
  rw [plZ_lit]
  have e0 : ((w.alloc (.cells (plC (h, i, n)) 122)).alloc (.cells (stC ⟨sec, m, O⟩) 119)).alloc (.cells (plC plZ) 122) = upW w (h, i, n) ⟨sec, m, O⟩ := rfl
  rw [e0]
  clear e0
  generalize upW w (h, i, n) ⟨sec, m, O⟩ = w1 at *
  obtain ⟨-, ci, cn⟩ := pl_cells HS.out.1
  obtain ⟨cs, cm, -⟩ := st_cells HS.out.2
  simp only at ci cn cs cm
  clear hu1
  cases sec with
  | true =>
    have HND := Lib.hid (fun w he => avNode_any m n O h w he)
    obtain ⟨NF, hNF⟩ : ∃ F, F = avNodeF (uN m) O (uN n) h := ⟨_, rfl⟩
    rw [← hNF] at HND
    have HU := Lib.hid (show upP (h, i, n) ⟨true, m, O⟩ = (NF, m + i, n + m) by rw [hNF]; rfl)
    clear hNF
    go_upto_region 3 with (fail)
    refine wp_region_T (fun w' => upS8 w' w.heap.size (w.heap.size + 1) (h, i, n) ⟨true, m, O⟩) [1, 3, 5, 7, 8, 10, 12] (by kernel_rfl) ?_
    clear ci cn cs cm
    replace HS := Lib.hid (HS.out.below (Below.refl _ w1).drew)
    replace HE := Lib.hid (HE.out.below (Below.refl _ w1).drew HE.out.lt)
    replace HP := Lib.hid (show w1.drew.heap[w.heap.size + 1 + 1]? = some (.cells (plC plZ) 122 (0, 0)) from HP.out)
    replace HB := Lib.hid HB.out.drew
    generalize w1.drew = w2 at *
    refine anyT_takeY (i := 0) (v := .pointer (some ⟨w.heap.size + 1, 1, none⟩)) rfl (by kernel_rfl) (by kernel_rfl) (by kernel_rfl) (fun _ _ _ h => h) (by kernel_rfl) (Or.inl ⟨by rfl, by intro w; go_simp⟩) ?_
    try simp only [List.getElem_toArray, List.getElem_cons_succ, List.getElem_cons_zero, Act.put, List.setIfInBounds_toArray, List.set_cons_zero, List.set_cons_succ]
    refine anyT_takeY (i := 2) (v := .pointer (some ⟨w.heap.size + 1, 2, none⟩)) rfl (by kernel_rfl) (by kernel_rfl) (by kernel_rfl) (fun _ _ _ h => h) (by kernel_rfl) (Or.inl ⟨by rfl, by intro w; go_simp⟩) ?_
    try simp only [List.getElem_toArray, List.getElem_cons_succ, List.getElem_cons_zero, Act.put, List.setIfInBounds_toArray, List.set_cons_zero, List.set_cons_succ]
    refine anyT_takeY (i := 4) (v := .pointer (some ⟨w.heap.size, 33, none⟩)) rfl (by kernel_rfl) (by kernel_rfl) (by kernel_rfl) (fun _ _ _ h => h) (by kernel_rfl) (Or.inl ⟨by rfl, by intro w; go_simp⟩) ?_
    try simp only [List.getElem_toArray, List.getElem_cons_succ, List.getElem_cons_zero, Act.put, List.setIfInBounds_toArray, List.set_cons_zero, List.set_cons_succ]
    refine anyT_takeY (i := 6) (v := .pointer (some ⟨w.heap.size, 0, none⟩)) rfl (by kernel_rfl) (by kernel_rfl) (by kernel_rfl) (fun _ _ _ h => h) (by kernel_rfl) (Or.inl ⟨by rfl, by intro w; go_simp⟩) ?_
    try simp only [List.getElem_toArray, List.getElem_cons_succ, List.getElem_cons_zero, Act.put, List.setIfInBounds_toArray, List.set_cons_zero, List.set_cons_succ]
    refine anyT_takeY (i := 9) (v := .pointer (some ⟨w.heap.size + 1, 1, none⟩)) rfl (by kernel_rfl) (by kernel_rfl) (by kernel_rfl) (fun _ _ _ h => h) (by kernel_rfl) (Or.inl ⟨by rfl, by intro w; go_simp⟩) ?_
    try simp only [List.getElem_toArray, List.getElem_cons_succ, List.getElem_cons_zero, Act.put, List.setIfInBounds_toArray, List.set_cons_zero, List.set_cons_succ]
    refine anyT_takeY (i := 11) (v := .pointer (some ⟨w.heap.size, 32, none⟩)) rfl (by kernel_rfl) (by kernel_rfl) (by kernel_rfl) (fun _ _ _ h => h) (by kernel_rfl) (Or.inl ⟨by rfl, by intro w; go_simp⟩) ?_
    try simp only [List.getElem_toArray, List.getElem_cons_succ, List.getElem_cons_zero, Act.put, List.setIfInBounds_toArray, List.set_cons_zero, List.set_cons_succ]
    refine anyT_takeY (i := 14) (v := .int .i64 (n + m)) rfl (by kernel_rfl) (by kernel_rfl) (by kernel_rfl) (fun _ _ _ h => h) (by kernel_rfl) (Or.inl ⟨by rfl, by intro w; go_simp⟩) ?_
    try simp only [List.getElem_toArray, List.getElem_cons_succ, List.getElem_cons_zero, Act.put, List.setIfInBounds_toArray, List.set_cons_zero, List.set_cons_succ]
    refine anyT_take [13, 15, 16] (i := 10) (v := .int .i64 m) rfl (by kernel_rfl) (by kernel_rfl) (by kernel_rfl) (fun _ _ _ h => h) (by kernel_rfl) (Or.inl ⟨by rfl, fun w' hS => by have c := (st_cells hS.2).2.1; go_simp⟩) HS.out ?_
    try simp only [List.getElem_toArray, List.getElem_cons_succ, List.getElem_cons_zero, Act.put, List.setIfInBounds_toArray, List.set_cons_zero, List.set_cons_succ]
    refine anyT_take [13, 15, 16] (i := 12) (v := .int .i64 i) rfl (by kernel_rfl) (by kernel_rfl) (by kernel_rfl) (fun _ _ _ h => h) (by kernel_rfl) (Or.inl ⟨by rfl, fun w' hS => by have c := (pl_cells hS.1).2.1; go_simp⟩) HS.out ?_
    try simp only [List.getElem_toArray, List.getElem_cons_succ, List.getElem_cons_zero, Act.put, List.setIfInBounds_toArray, List.set_cons_zero, List.set_cons_succ]
    refine anyT_takeY (i := 13) (v := .int .i64 (m + i)) rfl (by kernel_rfl) (by kernel_rfl) (by kernel_rfl) (fun _ _ _ h => h) (by kernel_rfl) (Or.inl ⟨by rfl, by intro w; go_simp⟩) ?_
    try simp only [List.getElem_toArray, List.getElem_cons_succ, List.getElem_cons_zero, Act.put, List.setIfInBounds_toArray, List.set_cons_zero, List.set_cons_succ]
    refine anyT_take [8, 15, 16] (i := 1) (v := .int .i64 m) rfl (by kernel_rfl) (by kernel_rfl) (by kernel_rfl) (fun _ _ _ h => h) (by kernel_rfl) (Or.inl ⟨by rfl, fun w' hS => by have c := (st_cells hS.2).2.1; go_simp⟩) HS.out ?_
    try simp only [List.getElem_toArray, List.getElem_cons_succ, List.getElem_cons_zero, Act.put, List.setIfInBounds_toArray, List.set_cons_zero, List.set_cons_succ]
    refine anyT_take [8, 15, 16] (i := 3) (v := .agg (rowOf .u8 32 O)) rfl (by kernel_rfl) (by kernel_rfl) (by kernel_rfl) (fun _ _ _ h => h) (by kernel_rfl) (row_yields_mid (by rfl) 43 (.tmp 15) rfl (w.heap.size + 1) 2 rfl .u8 32 O _ (fun _ hS => (st_cells hS.2).2.2) Tryd.underlying43 rfl (by kernel_rfl)) HS.out ?_
    try simp only [List.getElem_toArray, List.getElem_cons_succ, List.getElem_cons_zero, Act.put, List.setIfInBounds_toArray, List.set_cons_zero, List.set_cons_succ]
    refine anyT_take [8, 15, 16] (i := 5) (v := .int .i64 n) rfl (by kernel_rfl) (by kernel_rfl) (by kernel_rfl) (fun _ _ _ h => h) (by kernel_rfl) (Or.inl ⟨by rfl, fun w' hS => by have c := (pl_cells hS.1).2.2; go_simp⟩) HS.out ?_
    try simp only [List.getElem_toArray, List.getElem_cons_succ, List.getElem_cons_zero, Act.put, List.setIfInBounds_toArray, List.set_cons_zero, List.set_cons_succ]
    refine anyT_take [8, 15, 16] (i := 7) (v := .agg (rowOf .u8 32 h)) rfl (by kernel_rfl) (by kernel_rfl) (by kernel_rfl) (fun _ _ _ h => h) (by kernel_rfl) (row_yields_mid (by rfl) 43 (.tmp 19) rfl w.heap.size 0 rfl .u8 32 h _ (fun _ hS => (pl_cells hS.1).1) Tryd.underlying43 rfl (by kernel_rfl)) HS.out ?_
    try simp only [List.getElem_toArray, List.getElem_cons_succ, List.getElem_cons_zero, Act.put, List.setIfInBounds_toArray, List.set_cons_zero, List.set_cons_succ]
    refine anyT_one (i := 8) (by kernel_rfl) rfl (fun K hK => ?_)
    rw [if_pos (by rfl)]
    try simp only [List.getElem_toArray, List.getElem_cons_succ, List.getElem_cons_zero]
    (go_simp; refine (HND.out _ HE.out).mono ?_; rintro e w3 ⟨rfl, hb⟩; replace HP := Lib.hid ((hb.block _ (Array.getElem?_eq_some_iff.1 HP.out).1).trans HP.out); replace HB := Lib.hid (HB.out.trans (hb.mono HB.out.size)))
    refine hK _ _ (fun _ => HS.out.below hb) ?_
    clear hK K
    try simp only [List.getElem_toArray, List.getElem_cons_succ, List.getElem_cons_zero, Act.put, List.setIfInBounds_toArray, List.set_cons_zero, List.set_cons_succ]
    refine anyT_takeY (i := 15) (v := .agg (plC (NF, m + i, n + m))) rfl (by kernel_rfl) (by kernel_rfl) (by kernel_rfl) (fun _ _ _ h => h) (by kernel_rfl) (build_yields (by rfl) 122 #[(0, .tmp 21), (1, .tmp 26), (2, .tmp 27)] rfl (plC (NF, m + i, n + m)) (by refine Eq.trans (congrArg (Tryd.prog.built 122) ?_) (pl_built (NF, m + i, n + m)); kernel_rfl)) ?_
    try simp only [List.getElem_toArray, List.getElem_cons_succ, List.getElem_cons_zero, Act.put, List.setIfInBounds_toArray, List.set_cons_zero, List.set_cons_succ]
    refine anyT_one (i := 16) (by kernel_rfl) rfl (fun K hK => ?_)
    rw [if_pos (by rfl)]
    try simp only [List.getElem_toArray, List.getElem_cons_succ, List.getElem_cons_zero]
    (refine wp_store_row 122 (.tmp 4) (.tmp 28) rfl (w.heap.size + 1 + 1) (plC (NF, m + i, n + m)) rfl rfl 122 _ HP.out (by rw [plC_size]; kernel_rfl) (by rw [plC_size, plC_size]) (plC_one _) ?_)
    refine hK _ _ (not_mem rfl) ?_
    clear hK K
    try simp only [List.getElem_toArray, List.getElem_cons_succ, List.getElem_cons_zero, Act.put, List.setIfInBounds_toArray, List.set_cons_zero, List.set_cons_succ]
    refine anyT_done (by kernel_rfl) ?_ _
    go_wp2_with (fail)
    refine bodyPost_ret (results_cell_row rfl _ _ (w.heap.size + 1 + 1) 122 (plC (NF, m + i, n + m)) (0, 0) _ rfl (setRow_heap _ _ _ _ _ _ HP.out) Tryd.underlying122 rfl (by rw [plC_size]; kernel_rfl)) rfl ?_
    exact ⟨by rw [HU.out], below_setRow HB.out (by omega) _⟩
  | false =>
    have HND := Lib.hid (fun w he => avNode_any n m h O w he)
    obtain ⟨NF, hNF⟩ : ∃ F, F = avNodeF (uN n) h (uN m) O := ⟨_, rfl⟩
    rw [← hNF] at HND
    have HU := Lib.hid (show upP (h, i, n) ⟨false, m, O⟩ = (NF, i, n + m) by rw [hNF]; rfl)
    clear hNF
    go_upto_region 4 with (fail)
    refine wp_region_T (fun w' => upS8 w' w.heap.size (w.heap.size + 1) (h, i, n) ⟨false, m, O⟩) [1, 3, 5, 7, 8, 10] (by kernel_rfl) ?_
    clear ci cn cs cm
    replace HS := Lib.hid (HS.out.below (Below.refl _ w1).drew)
    replace HE := Lib.hid (HE.out.below (Below.refl _ w1).drew HE.out.lt)
    replace HP := Lib.hid (show w1.drew.heap[w.heap.size + 1 + 1]? = some (.cells (plC plZ) 122 (0, 0)) from HP.out)
    replace HB := Lib.hid HB.out.drew
    generalize w1.drew = w2 at *
    refine anyT_takeY (i := 0) (v := .pointer (some ⟨w.heap.size, 33, none⟩)) rfl (by kernel_rfl) (by kernel_rfl) (by kernel_rfl) (fun _ _ _ h => h) (by kernel_rfl) (Or.inl ⟨by rfl, by intro w; go_simp⟩) ?_
    try simp only [List.getElem_toArray, List.getElem_cons_succ, List.getElem_cons_zero, Act.put, List.setIfInBounds_toArray, List.set_cons_zero, List.set_cons_succ]
    refine anyT_takeY (i := 2) (v := .pointer (some ⟨w.heap.size, 0, none⟩)) rfl (by kernel_rfl) (by kernel_rfl) (by kernel_rfl) (fun _ _ _ h => h) (by kernel_rfl) (Or.inl ⟨by rfl, by intro w; go_simp⟩) ?_
    try simp only [List.getElem_toArray, List.getElem_cons_succ, List.getElem_cons_zero, Act.put, List.setIfInBounds_toArray, List.set_cons_zero, List.set_cons_succ]
    refine anyT_takeY (i := 4) (v := .pointer (some ⟨w.heap.size + 1, 1, none⟩)) rfl (by kernel_rfl) (by kernel_rfl) (by kernel_rfl) (fun _ _ _ h => h) (by kernel_rfl) (Or.inl ⟨by rfl, by intro w; go_simp⟩) ?_
    try simp only [List.getElem_toArray, List.getElem_cons_succ, List.getElem_cons_zero, Act.put, List.setIfInBounds_toArray, List.set_cons_zero, List.set_cons_succ]
    refine anyT_takeY (i := 6) (v := .pointer (some ⟨w.heap.size + 1, 2, none⟩)) rfl (by kernel_rfl) (by kernel_rfl) (by kernel_rfl) (fun _ _ _ h => h) (by kernel_rfl) (Or.inl ⟨by rfl, by intro w; go_simp⟩) ?_
    try simp only [List.getElem_toArray, List.getElem_cons_succ, List.getElem_cons_zero, Act.put, List.setIfInBounds_toArray, List.set_cons_zero, List.set_cons_succ]
    refine anyT_takeY (i := 9) (v := .pointer (some ⟨w.heap.size, 32, none⟩)) rfl (by kernel_rfl) (by kernel_rfl) (by kernel_rfl) (fun _ _ _ h => h) (by kernel_rfl) (Or.inl ⟨by rfl, by intro w; go_simp⟩) ?_
    try simp only [List.getElem_toArray, List.getElem_cons_succ, List.getElem_cons_zero, Act.put, List.setIfInBounds_toArray, List.set_cons_zero, List.set_cons_succ]
    refine anyT_takeY (i := 11) (v := .int .i64 (n + m)) rfl (by kernel_rfl) (by kernel_rfl) (by kernel_rfl) (fun _ _ _ h => h) (by kernel_rfl) (Or.inl ⟨by rfl, by intro w; go_simp⟩) ?_
    try simp only [List.getElem_toArray, List.getElem_cons_succ, List.getElem_cons_zero, Act.put, List.setIfInBounds_toArray, List.set_cons_zero, List.set_cons_succ]
    refine anyT_take [8, 12, 13] (i := 1) (v := .int .i64 n) rfl (by kernel_rfl) (by kernel_rfl) (by kernel_rfl) (fun _ _ _ h => h) (by kernel_rfl) (Or.inl ⟨by rfl, fun w' hS => by have c := (pl_cells hS.1).2.2; go_simp⟩) HS.out ?_
    try simp only [List.getElem_toArray, List.getElem_cons_succ, List.getElem_cons_zero, Act.put, List.setIfInBounds_toArray, List.set_cons_zero, List.set_cons_succ]
    refine anyT_take [8, 12, 13] (i := 3) (v := .agg (rowOf .u8 32 h)) rfl (by kernel_rfl) (by kernel_rfl) (by kernel_rfl) (fun _ _ _ h => h) (by kernel_rfl) (row_yields_mid (by rfl) 43 (.tmp 31) rfl w.heap.size 0 rfl .u8 32 h _ (fun _ hS => (pl_cells hS.1).1) Tryd.underlying43 rfl (by kernel_rfl)) HS.out ?_
    try simp only [List.getElem_toArray, List.getElem_cons_succ, List.getElem_cons_zero, Act.put, List.setIfInBounds_toArray, List.set_cons_zero, List.set_cons_succ]
    refine anyT_take [8, 12, 13] (i := 5) (v := .int .i64 m) rfl (by kernel_rfl) (by kernel_rfl) (by kernel_rfl) (fun _ _ _ h => h) (by kernel_rfl) (Or.inl ⟨by rfl, fun w' hS => by have c := (st_cells hS.2).2.1; go_simp⟩) HS.out ?_
    try simp only [List.getElem_toArray, List.getElem_cons_succ, List.getElem_cons_zero, Act.put, List.setIfInBounds_toArray, List.set_cons_zero, List.set_cons_succ]
    refine anyT_take [8, 12, 13] (i := 7) (v := .agg (rowOf .u8 32 O)) rfl (by kernel_rfl) (by kernel_rfl) (by kernel_rfl) (fun _ _ _ h => h) (by kernel_rfl) (row_yields_mid (by rfl) 43 (.tmp 35) rfl (w.heap.size + 1) 2 rfl .u8 32 O _ (fun _ hS => (st_cells hS.2).2.2) Tryd.underlying43 rfl (by kernel_rfl)) HS.out ?_
    try simp only [List.getElem_toArray, List.getElem_cons_succ, List.getElem_cons_zero, Act.put, List.setIfInBounds_toArray, List.set_cons_zero, List.set_cons_succ]
    refine anyT_take [12, 13] (i := 10) (v := .int .i64 i) rfl (by kernel_rfl) (by kernel_rfl) (by kernel_rfl) (fun _ _ _ h => h) (by kernel_rfl) (Or.inl ⟨by rfl, fun w' hS => by have c := (pl_cells hS.1).2.1; go_simp⟩) HS.out ?_
    try simp only [List.getElem_toArray, List.getElem_cons_succ, List.getElem_cons_zero, Act.put, List.setIfInBounds_toArray, List.set_cons_zero, List.set_cons_succ]
    refine anyT_one (i := 8) (by kernel_rfl) rfl (fun K hK => ?_)
    rw [if_pos (by rfl)]
    try simp only [List.getElem_toArray, List.getElem_cons_succ, List.getElem_cons_zero]
    (go_simp; refine (HND.out _ HE.out).mono ?_; rintro e w3 ⟨rfl, hb⟩; replace HP := Lib.hid ((hb.block _ (Array.getElem?_eq_some_iff.1 HP.out).1).trans HP.out); replace HB := Lib.hid (HB.out.trans (hb.mono HB.out.size)))
    refine hK _ _ (fun _ => HS.out.below hb) ?_
    clear hK K
    try simp only [List.getElem_toArray, List.getElem_cons_succ, List.getElem_cons_zero, Act.put, List.setIfInBounds_toArray, List.set_cons_zero, List.set_cons_succ]
    refine anyT_takeY (i := 12) (v := .agg (plC (NF, i, n + m))) rfl (by kernel_rfl) (by kernel_rfl) (by kernel_rfl) (fun _ _ _ h => h) (by kernel_rfl) (build_yields (by rfl) 122 #[(0, .tmp 37), (1, .tmp 39), (2, .tmp 40)] rfl (plC (NF, i, n + m)) (by refine Eq.trans (congrArg (Tryd.prog.built 122) ?_) (pl_built (NF, i, n + m)); kernel_rfl)) ?_
    try simp only [List.getElem_toArray, List.getElem_cons_succ, List.getElem_cons_zero, Act.put, List.setIfInBounds_toArray, List.set_cons_zero, List.set_cons_succ]
    refine anyT_one (i := 13) (by kernel_rfl) rfl (fun K hK => ?_)
    rw [if_pos (by rfl)]
    try simp only [List.getElem_toArray, List.getElem_cons_succ, List.getElem_cons_zero]
    (refine wp_store_row 122 (.tmp 4) (.tmp 41) rfl (w.heap.size + 1 + 1) (plC (NF, i, n + m)) rfl rfl 122 _ HP.out (by rw [plC_size]; kernel_rfl) (by rw [plC_size, plC_size]) (plC_one _) ?_)
    refine hK _ _ (not_mem rfl) ?_
    clear hK K
    try simp only [List.getElem_toArray, List.getElem_cons_succ, List.getElem_cons_zero, Act.put, List.setIfInBounds_toArray, List.set_cons_zero, List.set_cons_succ]
    refine anyT_done (by kernel_rfl) ?_ _
    go_wp2_with (fail)
    refine bodyPost_ret (results_cell_row rfl _ _ (w.heap.size + 1 + 1) 122 (plC (NF, i, n + m)) (0, 0) _ rfl (setRow_heap _ _ _ _ _ _ HP.out) Tryd.underlying122 rfl (by rw [plC_size]; kernel_rfl)) rfl ?_
    exact ⟨by rw [HU.out], below_setRow HB.out (by omega) _⟩
end Go.Proofs.YtfmfemmknccfmaaDoor
