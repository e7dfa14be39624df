/- Part 30 of the proof. -/
import Derived.Test.YtadolfacjolbkaaDoorPe23
namespace Go.Proofs.YtadolfacjolbkaaDoor
set_option linter.unusedVariables false
set_option linter.unusedSimpArgs false
open Go.RowKit
set_option maxRecDepth 1000000
set_option linter.unusedSimpArgs false
set_option linter.unusedVariables false
set_option maxHeartbeats 8000000 in
theorem rvn01w4 (R : Nat → Int) (key : ByteArray) (la : Option Addr) (lc : Nat) (d u z : Nat) (q : PvP) (tv : Value) (w : World) (he : Env w) (hq : PrL d u q tv w) (hzq : q.key.size + q.val.size ≤ 1048576) (G : Nat → Int) (j m : Int) (hs2 : showF q = some (G, j, m)) (hG : (eqB G R) = true) (hb2 : ((Op.bytesLess q.key.toList key.toList || q.key.toList == key.toList)) = false) (hj : ¬ (j = 0)) : Calls Tryd.prog 24 #[.agg (rowOf .u8 32 R), .string key, .agg #[.slice la 0 lc, .slice (some ⟨d, u, none⟩) 1 z]] w (RvPost (verNF R (sumF []) key [] [q]) w) := by
  obtain ⟨x3, x5, xb⟩ := two_start (w := w) (xs := rowOf .u8 32 R) (ys := #[.slice la 0 lc, .slice (some ⟨d, u, none⟩) 1 z]) (X := 43) (Y := 54)
  have M := Lib.hid (((((Kp.start w).call xb).add (Y := fun w' => w'.heap[w.heap.size]? = some (.cells (rowOf .u8 32 R) 43 (0, 0))) x3 (kept_blk _ _)).add (Y := fun w' => w'.heap[w.heap.size + 1]? = some (.cells #[.slice la 0 lc, .slice (some ⟨d, u, none⟩) 1 z] 54 (0, 0))) x5 (kept_blk _ _)).add (Y := PrL d u q tv) (kept_prL _ _ _ _ _ _ hq xb) (kept_prL _ _ _ _))
  have HE := Lib.hid he
  unfold RvPost
  clear he x3 x5 xb hq
  have HSQ := Lib.hid (fun sv w he hst => rshow_yes hs2 hzq sv w he hst)
  unfold ShYes at HSQ
  have hfol2 := follow_yes hs2 hG
  have hbd2 := follow_bd hfol2
  unfold plB at hbd2
  obtain ⟨b12, b22, b32, b42⟩ := hbd2
  simp only at b12 b22 b32 b42
  have hjB : (j == 0) = false := by rw [beq_eq_false_iff_ne]; exact hj
  have hne : (j != -1 + 1) = true := by rw [bne, show ((-1 : Int) + 1) = 0 from rfl, hjB]; rfl
  have hne2 : (j != 0) = true := by rw [bne, hjB]; rfl
  rw [show verNF R (sumF []) key [] [q] = some 23 from vn_f (by simp) (by simp only [betF, List.all_cons, List.all_nil, hb2]; rfl) rfl (fol_one hfol2) hjB]
  simp only [numE]
  clear hs2 hzq hfol2 hj
  go_enter Tryd.func24, Tryd.ntmps24
  go_upto_region 1 with (fail)
  generalize (w.alloc (.cells (rowOf .u8 32 R) 43)).alloc (.cells #[.slice la 0 lc, .slice (some ⟨d, u, none⟩) 1 z] 54) = w1 at *
  have k0 : w1.cell? ⟨w.heap.size + 1, 0, none⟩ = some (.slice la 0 lc) := cell_of_row _ _ 0 _ _ _ (M.out.x.1.2)
  have k1 : w1.cell? ⟨w.heap.size + 1, 1, none⟩ = some (.slice (some ⟨d, u, none⟩) 1 z) := cell_of_row _ _ 1 _ _ _ (M.out.x.1.2)
  have kq := (M.out.x.2).key
  go_upto_region 17 with (first
    | (refine wpList_load_rowsz (by rfl) 51 (.tmp 87) rfl d u rfl (prC q tv) _ (M.out.x.2).1.2 Tryd.underlying51 rfl (by kernel_rfl) ?_)
    | (go_at_call 48; (with_reducible refine (HSQ.out _ _ (HE.out.below M.out.below HE.out.lt) (M.out.x.2).stp).mono ?_); rintro e w4 ⟨rfl, hb⟩; replace M := Lib.hid (M.out.call hb); clear hb)
    | (refine wpList_store_row rfl 43 (.tmp 13) (.tmp 90) rfl w4.heap.size (rowOf .u8 32 G) rfl rfl 43 _ (heap_alloc_new _ _) (by rw [rowOf_size]; kernel_rfl) (by rw [rowOf_size]; rfl) (rowOf_one _ _ _) ?_; rw [World.setRow_alloc_new]))
  clear k0 k1 kq
  have H13 := Lib.hid (heap_alloc_new w4 (.cells (rowOf .u8 32 G) 43))
  replace M := Lib.hid (M.out.new (.cells (rowOf .u8 32 G) 43))
  obtain ⟨g13, hg13⟩ : ∃ g, g = w4.heap.size := ⟨_, rfl⟩
  rw [← hg13] at H13 ⊢
  clear hg13
  generalize w4.alloc (.cells (rowOf .u8 32 G) 43) = w5 at *
  have k0 : w5.cell? ⟨w.heap.size + 1, 0, none⟩ = some (.slice la 0 lc) := cell_of_row _ _ 0 _ _ _ (M.out.x.1.2)
  have k1 : w5.cell? ⟨w.heap.size + 1, 1, none⟩ = some (.slice (some ⟨d, u, none⟩) 1 z) := cell_of_row _ _ 1 _ _ _ (M.out.x.1.2)
  have kq := (M.out.x.2).key
  go_wp2_with (first
    | (refine wpList_load_rowsz (by rfl) 43 (.tmp 13) rfl g13 0 rfl (rowOf .u8 32 G) _ (row_range H13.out) Tryd.underlying43 rfl (by rw [rowOf_size]; kernel_rfl) ?_)
    | (refine wpList_load_rowsz (by rfl) 43 (.tmp 3) rfl w.heap.size 0 rfl (rowOf .u8 32 R) _ (row_range (M.out.x.1.1.2)) Tryd.underlying43 rfl (by rw [rowOf_size]; kernel_rfl) ?_)
    | (refine wpList_neq32 (by rfl) (.tmp 97) (.tmp 98) rfl G R true rfl rfl hG ?_))
  go_ret
  exact ⟨rfl, M.out.below⟩
end Go.Proofs.YtadolfacjolbkaaDoor
