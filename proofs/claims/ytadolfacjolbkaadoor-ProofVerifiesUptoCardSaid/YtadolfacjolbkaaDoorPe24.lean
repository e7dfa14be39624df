/- Part 24 of the proof. -/
import Derived.Test.YtadolfacjolbkaaDoorPe23
namespace Go.Proofs.YtadolfacjolbkaaDoor
set_option linter.unusedVariables false
set_option linter.unusedSimpArgs false
open Go.RowKit
set_option maxRecDepth 1000000
set_option linter.unusedSimpArgs false
set_option linter.unusedVariables false
set_option maxHeartbeats 8000000 in
theorem rvn00 (R : Nat → Int) (key : ByteArray) (la : Option Addr) (lc : Nat) (ra : Option Addr) (rc : Nat) (w : World) (he : Env w) : Calls Tryd.prog 24 #[.agg (rowOf .u8 32 R), .string key, .agg #[.slice la 0 lc, .slice ra 0 rc]] w (RvPost (verNF R (sumF []) key [] []) w) := by
  obtain ⟨x3, x5, xb⟩ := two_start (w := w) (xs := rowOf .u8 32 R) (ys := #[.slice la 0 lc, .slice ra 0 rc]) (X := 43) (Y := 54)
  have M := Lib.hid ((((Kp.start w).call xb).add (Y := fun w' => w'.heap[w.heap.size]? = some (.cells (rowOf .u8 32 R) 43 (0, 0))) x3 (kept_blk _ _)).add (Y := fun w' => w'.heap[w.heap.size + 1]? = some (.cells #[.slice la 0 lc, .slice ra 0 rc] 54 (0, 0))) x5 (kept_blk _ _))
  have HE := Lib.hid he
  unfold RvPost
  clear he x3 x5 xb
  have HSU := Lib.hid (fun w => rsum_any (.slice none 0 0) [] w (nil_in _) (by simp))
  obtain ⟨Z, hZ⟩ : ∃ Z, Z = sumF [] := ⟨_, rfl⟩
  rw [← hZ] at HSU ⊢
  clear hZ
  cases hq : eqB R Z with
  | true =>
    rw [show verNF R Z key [] [] = none from vn_t (l := []) (r := []) (by simp) rfl rfl rfl hq]
    simp only [numE]
    go_enter Tryd.func24, Tryd.ntmps24
    go_upto_region 1 with (fail)
    generalize (w.alloc (.cells (rowOf .u8 32 R) 43)).alloc (.cells #[.slice la 0 lc, .slice ra 0 rc] 54) = w1 at *
    have k0 : w1.cell? ⟨w.heap.size + 1, 0, none⟩ = some (.slice la 0 lc) := cell_of_row _ _ 0 _ _ _ (M.out.x.2)
    have k1 : w1.cell? ⟨w.heap.size + 1, 1, none⟩ = some (.slice ra 0 rc) := cell_of_row _ _ 1 _ _ _ (M.out.x.2)
    go_upto_region 4 with (fail)
    clear k0 k1
    refine wp_region_T (fun w' => w'.rangeAt w.heap.size 0 (rowOf .u8 32 R).toList) [0, 1] (by kernel_rfl) ?_
    replace M := Lib.hid (M.out.call (Below.refl _ _).drew)
    generalize w1.drew = w2 at *
    refine anyT_take [2] (i := 0) (v := .agg (rowOf .u8 32 R)) rfl (by kernel_rfl) (by kernel_rfl) (by kernel_rfl) (fun _ _ _ h => h) (by kernel_rfl) (row_yields' (by rfl) 43 (.tmp 3) rfl w.heap.size 0 rfl _ _ (fun _ h => h) Tryd.underlying43 rfl (by rw [rowOf_size]; kernel_rfl)) (row_range (M.out.x.1.2)) ?_
    try simp only [List.getElem_toArray, List.getElem_cons_succ, List.getElem_cons_zero, Act.put, List.setIfInBounds_toArray, List.set_cons_zero, List.set_cons_succ]
    refine anyT_one (i := 1) (by kernel_rfl) rfl (fun K hK => ?_)
    rw [if_pos (by rfl)]
    try simp only [List.getElem_toArray, List.getElem_cons_succ, List.getElem_cons_zero]
    (go_simp; (with_reducible refine (HSU.out _).mono ?_); rintro e w3 ⟨rfl, hb⟩; replace M := Lib.hid (M.out.call hb); clear hb)
    refine hK _ _ (fun _ => row_range (M.out.x.1.2)) ?_
    clear hK K
    try simp only [List.getElem_toArray, List.getElem_cons_succ, List.getElem_cons_zero, Act.put, List.setIfInBounds_toArray, List.set_cons_zero, List.set_cons_succ]
    refine anyT_takeY (i := 2) (v := .bool false) rfl (by kernel_rfl) (by kernel_rfl) (by kernel_rfl) (fun _ _ _ h => h) (by kernel_rfl) (Or.inl ⟨by rfl, by intro w; have h1 := eqIn32 R Z w; rw [hq] at h1; go_simp⟩) ?_
    try simp only [List.getElem_toArray, List.getElem_cons_succ, List.getElem_cons_zero, Act.put, List.setIfInBounds_toArray, List.set_cons_zero, List.set_cons_succ]
    refine anyT_done (by kernel_rfl) ?_ _
    go_wp2_with (fail)
    go_ret
    exact ⟨rfl, M.out.below⟩
  | false =>
    rw [show verNF R Z key [] [] = some 23 from vn_f (l := []) (r := []) (by simp) rfl rfl rfl hq]
    simp only [numE]
    go_enter Tryd.func24, Tryd.ntmps24
    go_upto_region 1 with (fail)
    generalize (w.alloc (.cells (rowOf .u8 32 R) 43)).alloc (.cells #[.slice la 0 lc, .slice ra 0 rc] 54) = w1 at *
    have k0 : w1.cell? ⟨w.heap.size + 1, 0, none⟩ = some (.slice la 0 lc) := cell_of_row _ _ 0 _ _ _ (M.out.x.2)
    have k1 : w1.cell? ⟨w.heap.size + 1, 1, none⟩ = some (.slice ra 0 rc) := cell_of_row _ _ 1 _ _ _ (M.out.x.2)
    go_upto_region 4 with (fail)
    clear k0 k1
    refine wp_region_T (fun w' => w'.rangeAt w.heap.size 0 (rowOf .u8 32 R).toList) [0, 1] (by kernel_rfl) ?_
    replace M := Lib.hid (M.out.call (Below.refl _ _).drew)
    generalize w1.drew = w2 at *
    refine anyT_take [2] (i := 0) (v := .agg (rowOf .u8 32 R)) rfl (by kernel_rfl) (by kernel_rfl) (by kernel_rfl) (fun _ _ _ h => h) (by kernel_rfl) (row_yields' (by rfl) 43 (.tmp 3) rfl w.heap.size 0 rfl _ _ (fun _ h => h) Tryd.underlying43 rfl (by rw [rowOf_size]; kernel_rfl)) (row_range (M.out.x.1.2)) ?_
    try simp only [List.getElem_toArray, List.getElem_cons_succ, List.getElem_cons_zero, Act.put, List.setIfInBounds_toArray, List.set_cons_zero, List.set_cons_succ]
    refine anyT_one (i := 1) (by kernel_rfl) rfl (fun K hK => ?_)
    rw [if_pos (by rfl)]
    try simp only [List.getElem_toArray, List.getElem_cons_succ, List.getElem_cons_zero]
    (go_simp; (with_reducible refine (HSU.out _).mono ?_); rintro e w3 ⟨rfl, hb⟩; replace M := Lib.hid (M.out.call hb); clear hb)
    refine hK _ _ (fun _ => row_range (M.out.x.1.2)) ?_
    clear hK K
    try simp only [List.getElem_toArray, List.getElem_cons_succ, List.getElem_cons_zero, Act.put, List.setIfInBounds_toArray, List.set_cons_zero, List.set_cons_succ]
    refine anyT_takeY (i := 2) (v := .bool true) rfl (by kernel_rfl) (by kernel_rfl) (by kernel_rfl) (fun _ _ _ h => h) (by kernel_rfl) (Or.inl ⟨by rfl, by intro w; have h1 := eqIn32 R Z w; rw [hq] at h1; go_simp⟩) ?_
    try simp only [List.getElem_toArray, List.getElem_cons_succ, List.getElem_cons_zero, Act.put, List.setIfInBounds_toArray, List.set_cons_zero, List.set_cons_succ]
    refine anyT_done (by kernel_rfl) ?_ _
    go_wp2_with (fail)
    go_ret
    exact ⟨rfl, M.out.below⟩
end Go.Proofs.YtadolfacjolbkaaDoor
