/- Part 39 of the proof. -/
import Derived.Test.YtadolfacjolbkaaDoorPe23
namespace Go.Proofs.YtadolfacjolbkaaDoor
set_option linter.unusedVariables false
set_option linter.unusedSimpArgs false
open Go.RowKit
set_option maxRecDepth 1000000
set_option linter.unusedSimpArgs false
set_option linter.unusedVariables false
set_option maxHeartbeats 8000000 in
theorem rvn11w8 (R : Nat → Int) (key : ByteArray) (b o c : Nat) (p : PvP) (sv : Value) (d u z : Nat) (q : PvP) (tv : Value) (w : World) (he : Env w) (hp : PrL b o p sv w) (hzp : p.key.size + p.val.size ≤ 1048576) (hq : PrL d u q tv w) (hzq : q.key.size + q.val.size ≤ 1048576) (F : Nat → Int) (i n : Int) (hs : showF p = some (F, i, n)) (hF : (eqB F R) = true) (hb : (Op.bytesLess p.key.toList key.toList) = true) (G : Nat → Int) (j m : Int) (hs2 : showF q = some (G, j, m)) (hG : (eqB G R) = true) (hb2 : ((Op.bytesLess q.key.toList key.toList || q.key.toList == key.toList)) = false) (hj : ¬ (j = i + 1)) : Calls Tryd.prog 24 #[.agg (rowOf .u8 32 R), .string key, .agg #[.slice (some ⟨b, o, none⟩) 1 c, .slice (some ⟨d, u, none⟩) 1 z]] w (RvPost (verNF R (sumF []) key [p] [q]) w) := by
  obtain ⟨x3, x5, xb⟩ := two_start (w := w) (xs := rowOf .u8 32 R) (ys := #[.slice (some ⟨b, o, none⟩) 1 c, .slice (some ⟨d, u, none⟩) 1 z]) (X := 43) (Y := 54)
  have M := Lib.hid ((((((Kp.start w).call xb).add (Y := fun w' => w'.heap[w.heap.size]? = some (.cells (rowOf .u8 32 R) 43 (0, 0))) x3 (kept_blk _ _)).add (Y := fun w' => w'.heap[w.heap.size + 1]? = some (.cells #[.slice (some ⟨b, o, none⟩) 1 c, .slice (some ⟨d, u, none⟩) 1 z] 54 (0, 0))) x5 (kept_blk _ _)).add (Y := PrL b o p sv) (kept_prL _ _ _ _ _ _ hp xb) (kept_prL _ _ _ _)).add (Y := PrL d u q tv) (kept_prL _ _ _ _ _ _ hq xb) (kept_prL _ _ _ _))
  have HE := Lib.hid he
  unfold RvPost
  clear he x3 x5 xb hp hq
  have HSP := Lib.hid (fun sv w he hst => rshow_yes hs hzp sv w he hst)
  unfold ShYes at HSP
  have hfol := follow_yes hs hF
  have hbd := follow_bd hfol
  unfold plB at hbd
  obtain ⟨b1, b2, b3, b4⟩ := hbd
  simp only at b1 b2 b3 b4
  have HSQ := Lib.hid (fun sv w he hst => rshow_yes hs2 hzq sv w he hst)
  unfold ShYes at HSQ
  have hfol2 := follow_yes hs2 hG
  have hbd2 := follow_bd hfol2
  unfold plB at hbd2
  obtain ⟨b12, b22, b32, b42⟩ := hbd2
  simp only at b12 b22 b32 b42
  have hjB : (j == i + 1) = false := by rw [beq_eq_false_iff_ne]; exact hj
  have hne : (j != i + 1) = true := by rw [bne, hjB]; rfl
  rw [show verNF R (sumF []) key [p] [q] = some 23 from vn_f (by simp) (by simp only [betF, List.all_cons, List.all_nil, hb, hb2]; rfl) (fol_one hfol) (fol_one hfol2) (by show (n == m && j == i + 1) = false; rw [hjB]; simp)]
  simp only [numE]
  clear hs2 hzq hs hzp hfol hfol2 hj
  go_enter Tryd.func24, Tryd.ntmps24
  go_upto_region 1 with (fail)
  generalize (w.alloc (.cells (rowOf .u8 32 R) 43)).alloc (.cells #[.slice (some ⟨b, o, none⟩) 1 c, .slice (some ⟨d, u, none⟩) 1 z] 54) = w1 at *
  have k0 : w1.cell? ⟨w.heap.size + 1, 0, none⟩ = some (.slice (some ⟨b, o, none⟩) 1 c) := cell_of_row _ _ 0 _ _ _ (M.out.x.1.1.2)
  have k1 : w1.cell? ⟨w.heap.size + 1, 1, none⟩ = some (.slice (some ⟨d, u, none⟩) 1 z) := cell_of_row _ _ 1 _ _ _ (M.out.x.1.1.2)
  have kp := (M.out.x.1.2).key
  have kq := (M.out.x.2).key
  go_upto_region 10 with (first
    | (refine wpList_load_rowsz (by rfl) 51 (.tmp 45) rfl b o rfl (prC p sv) _ (M.out.x.1.2).1.2 Tryd.underlying51 rfl (by kernel_rfl) ?_)
    | (go_at_call 48; (with_reducible refine (HSP.out _ _ (HE.out.below M.out.below HE.out.lt) (M.out.x.1.2).stp).mono ?_); rintro e w2 ⟨rfl, hb⟩; replace M := Lib.hid (M.out.call hb); clear hb)
    | (refine wpList_store_row rfl 43 (.tmp 9) (.tmp 48) rfl w2.heap.size (rowOf .u8 32 F) rfl rfl 43 _ (heap_alloc_new _ _) (by rw [rowOf_size]; kernel_rfl) (by rw [rowOf_size]; rfl) (rowOf_one _ _ _) ?_; rw [World.setRow_alloc_new]))
  clear k0 k1 kp kq
  have H9 := Lib.hid (heap_alloc_new w2 (.cells (rowOf .u8 32 F) 43))
  replace M := Lib.hid (M.out.new (.cells (rowOf .u8 32 F) 43))
  obtain ⟨g9, hg9⟩ : ∃ g, g = w2.heap.size := ⟨_, rfl⟩
  rw [← hg9] at H9 ⊢
  clear hg9
  generalize w2.alloc (.cells (rowOf .u8 32 F) 43) = w3 at *
  have k0 : w3.cell? ⟨w.heap.size + 1, 0, none⟩ = some (.slice (some ⟨b, o, none⟩) 1 c) := cell_of_row _ _ 0 _ _ _ (M.out.x.1.1.2)
  have k1 : w3.cell? ⟨w.heap.size + 1, 1, none⟩ = some (.slice (some ⟨d, u, none⟩) 1 z) := cell_of_row _ _ 1 _ _ _ (M.out.x.1.1.2)
  have kp := (M.out.x.1.2).key
  have kq := (M.out.x.2).key
  go_upto_region 17 with (first
    | (refine wpList_load_rowsz (by rfl) 43 (.tmp 9) rfl g9 0 rfl (rowOf .u8 32 F) _ (row_range H9.out) Tryd.underlying43 rfl (by rw [rowOf_size]; kernel_rfl) ?_)
    | (refine wpList_load_rowsz (by rfl) 43 (.tmp 3) rfl w.heap.size 0 rfl (rowOf .u8 32 R) _ (row_range (M.out.x.1.1.1.2)) Tryd.underlying43 rfl (by rw [rowOf_size]; kernel_rfl) ?_)
    | (refine wpList_neq32 (by rfl) (.tmp 55) (.tmp 56) rfl F R true rfl rfl hF ?_)
    | (refine wpList_load_rowsz (by rfl) 51 (.tmp 87) rfl d u rfl (prC q tv) _ (M.out.x.2).1.2 Tryd.underlying51 rfl (by kernel_rfl) ?_)
    | (go_at_call 48; (with_reducible refine (HSQ.out _ _ (HE.out.below M.out.below HE.out.lt) (M.out.x.2).stp).mono ?_); rintro e w4 ⟨rfl, hb⟩; replace M := Lib.hid (M.out.call hb); clear hb)
    | (refine wpList_store_row rfl 43 (.tmp 13) (.tmp 90) rfl w4.heap.size (rowOf .u8 32 G) rfl rfl 43 _ (heap_alloc_new _ _) (by rw [rowOf_size]; kernel_rfl) (by rw [rowOf_size]; rfl) (rowOf_one _ _ _) ?_; rw [World.setRow_alloc_new]))
  clear k0 k1 kp kq
  have H13 := Lib.hid (heap_alloc_new w4 (.cells (rowOf .u8 32 G) 43))
  replace M := Lib.hid (M.out.new (.cells (rowOf .u8 32 G) 43))
  obtain ⟨g13, hg13⟩ : ∃ g, g = w4.heap.size := ⟨_, rfl⟩
  rw [← hg13] at H13 ⊢
  clear hg13
  generalize w4.alloc (.cells (rowOf .u8 32 G) 43) = w5 at *
  have k0 : w5.cell? ⟨w.heap.size + 1, 0, none⟩ = some (.slice (some ⟨b, o, none⟩) 1 c) := cell_of_row _ _ 0 _ _ _ (M.out.x.1.1.2)
  have k1 : w5.cell? ⟨w.heap.size + 1, 1, none⟩ = some (.slice (some ⟨d, u, none⟩) 1 z) := cell_of_row _ _ 1 _ _ _ (M.out.x.1.1.2)
  have kp := (M.out.x.1.2).key
  have kq := (M.out.x.2).key
  go_wp2_with (first
    | (refine wpList_load_rowsz (by rfl) 43 (.tmp 13) rfl g13 0 rfl (rowOf .u8 32 G) _ (row_range H13.out) Tryd.underlying43 rfl (by rw [rowOf_size]; kernel_rfl) ?_)
    | (refine wpList_load_rowsz (by rfl) 43 (.tmp 3) rfl w.heap.size 0 rfl (rowOf .u8 32 R) _ (row_range (M.out.x.1.1.1.2)) Tryd.underlying43 rfl (by rw [rowOf_size]; kernel_rfl) ?_)
    | (refine wpList_neq32 (by rfl) (.tmp 97) (.tmp 98) rfl G R true rfl rfl hG ?_))
  go_ret
  exact ⟨rfl, M.out.below⟩
end Go.Proofs.YtadolfacjolbkaaDoor
