/- Part 32 of the proof. -/
import Derived.Test.YtggcodobkmhkgaaDoorFc29
namespace Go.Proofs.YtggcodobkmhkgaaDoor
set_option linter.unusedVariables false
set_option linter.unusedSimpArgs false
open Go.RowKit Go.Maps Go.Proofs
set_option maxRecDepth 100000
set_option maxHeartbeats 8000000 in
theorem chg4_0 (lv : Value) (r : RSt) (s now : ByteArray) (n : Int) (w : World) (hL : FilesIn w lv r.L) (hs : s.size ≤ maxLen) (hnow : now.size ≤ maxLen) (hl : r.L.length < 1000) (hz : (getN r s).1.sf.size ≤ 16777216 ∧ (getN r s).1.ls.size ≤ 16777216) (hn : NumOk r) :
    Calls Tryd.prog 41 #[rsV lv r, .int .i64 0, .string s, .string now, .int .i64 n] w (Ref4 (chgN r 0 s now n) w) := by
  have HG := Lib.hid (fun w (h : FilesIn w lv r.L) => get4_any lv r s w h hs)
  obtain ⟨x, c, hxc⟩ : ∃ x c, getN r s = (x, c) := ⟨_, _, rfl⟩
  have hcs := getN_cases r s
  have HA : Hid (chgN r 0 s now n = chgB r 0 s now n x c) := Lib.hid (by unfold chgN; rw [hxc])
  rw [hxc] at HG hz hcs
  have HT := Lib.hid (fun w (h : FilesIn w lv r.L) => step4_any lv r w h hn)
  have HLN := Lib.hid hl
  have HS := Lib.hid hs
  have HNW := Lib.hid hnow
  obtain ⟨xn, xs, xl⟩ := x
  obtain ⟨L, st, ar, lf, dn⟩ := r
  simp only at hL HG hl hz hcs HT HLN
  obtain ⟨a, cap, rfl, _⟩ := hL.lies
  have HL := Lib.hid hL
  have HCS := Lib.hid hcs
  unfold chgB at HA
  unfold rsV rsC RF.v at *
  have hz1 : (xs.size : Int) ≤ 16777216 := by omega
  have hz2 : (xl.size : Int) ≤ 16777216 := by omega
  have hcat : ¬ (9223372036854775807 : Int) < xs.size + xl.size := by omega
  clear hL hs hz hcs hxc hn hnow
  unfold Ref4
  go_enter Tryd.func41, Tryd.ntmps41
  go_upto_region 2 with (first | (go_at_call 75; (with_reducible refine (HG.out _ (HL.out.below (Below.alloc0 (Below.alloc0 (Below.refl _ _) _) _))).mono ?_); rintro e w2 ⟨rfl, hb2⟩; obtain ⟨hp, hq, hsz, hb⟩ := far2 hb2; have HP := Lib.hid hp; have HQ := Lib.hid hq; have HB2 := Lib.hid hb; clear hb2 hb hp hq))
  have hp3 := (heap_alloc_old w2 (.cells #[.string xn, .string xs, .string xl] 111) (r := w.heap.size) (by omega)).trans HP.out
  have hq3 := (heap_alloc_old w2 (.cells #[.string xn, .string xs, .string xl] 111) (r := w.heap.size + 1) (by omega)).trans HQ.out
  have hx3 := heap_alloc_new w2 (.cells #[.string xn, .string xs, .string xl] 111)
  have hb3 := Below.alloc0 HB2.out (.cells #[.string xn, .string xs, .string xl] 111)
  have hs3 : w2.heap.size < (w2.alloc (.cells #[.string xn, .string xs, .string xl] 111)).heap.size := by simp
  generalize w2.alloc (.cells #[.string xn, .string xs, .string xl] 111) = w3 at *
  replace HP := Lib.hid hp3
  replace HQ := Lib.hid hq3
  replace HB2 := Lib.hid hb3
  have HX := Lib.hid hx3
  generalize w2.heap.size = q at *
  obtain ⟨p0, -⟩ := rs_cells hp3
  obtain ⟨x0, x1, x2, f0, f1, f2⟩ := rf_fields hx3
  clear hp3 hq3 hx3 hb3
  rcases HCS.out with rfl | rfl | rfl | rfl
  · clear HCS
    obtain ⟨L2, st2, ar2, lf2, dn2, dw, hst⟩ : ∃ L2 st2 ar2 lf2 dn2 dw, stepN ⟨L, st, ar, lf, dn⟩ = (⟨L2, st2, ar2, lf2, dn2⟩, dw) := ⟨_, _, _, _, _, _, rfl⟩
    have hL2 : L2 = L := by have := stepN_L ⟨L, st, ar, lf, dn⟩; rw [hst] at this; exact this
    subst hL2
    rw [hst] at HT
    have HST := Lib.hid hst
    clear hst
    go_upto_region 10 with (first
      | (refine wpList_load_row rfl 27 (.tmp 5) rfl w.heap.size rfl 27 #[.slice a L2.length cap, .int .i64 st, .bool ar, .int .i64 lf, .bool dn] (0, 0) _ HP.out Tryd.underlying27 rfl (by kernel_rfl) ?_)
      | (go_at_call 76; (with_reducible refine (HT.out _ (HL.out.below HB2.out)).mono ?_); rintro e w4 ⟨rfl, hb6⟩; have hq4 := (hb6.block (w.heap.size + 1) (by omega)).trans HQ.out; have hx4 := (hb6.block q (by omega)).trans HX.out; have hb4 := HB2.out.trans (hb6.mono HB2.out.size); have hs4 := hb6.size; clear hb6))
    have hq5 := (heap_alloc_old w4 (.cells #[.slice a L2.length cap, .int .i64 st2, .bool ar2, .int .i64 lf2, .bool dn2] 27) (r := w.heap.size + 1) (by omega)).trans hq4
    have hx5 := (heap_alloc_old w4 (.cells #[.slice a L2.length cap, .int .i64 st2, .bool ar2, .int .i64 lf2, .bool dn2] 27) (r := q) (by omega)).trans hx4
    have hz5 := heap_alloc_new w4 (.cells #[.slice a L2.length cap, .int .i64 st2, .bool ar2, .int .i64 lf2, .bool dn2] 27)
    have hb5 := Below.alloc0 hb4 (.cells #[.slice a L2.length cap, .int .i64 st2, .bool ar2, .int .i64 lf2, .bool dn2] 27)
    have hs5 : w4.heap.size < (w4.alloc (.cells #[.slice a L2.length cap, .int .i64 st2, .bool ar2, .int .i64 lf2, .bool dn2] 27)).heap.size := by simp
    generalize w4.alloc (.cells #[.slice a L2.length cap, .int .i64 st2, .bool ar2, .int .i64 lf2, .bool dn2] 27) = w5 at *
    generalize hzq : w4.heap.size = z at *
    have HQ5 := Lib.hid hq5
    have HZ5 := Lib.hid hz5
    have HB5 := Lib.hid hb5
    have HL5 := Lib.hid (HL.out.below hb5)
    obtain ⟨y0, y1, y2, -, -, -⟩ := rf_fields hx5
    clear hq4 hx4 hb4 hq5 hx5 hz5 hb5 HP HQ HX HB2 p0 x0 x1 x2 f0 f1 f2 hzq
    cases dw with
    | true =>
      have HE : Hid (chgN ⟨L2, st, ar, lf, dn⟩ 0 s now n = (⟨L2, st2, ar2, lf2, dn2⟩, 13)) := Lib.hid (by rw [HA.out, HST.out]; simp [chgL])
      clear HA
      go_wp2_with (first
        | (refine wpList_load_row rfl 27 (.tmp 15) rfl z rfl 27 #[.slice a L2.length cap, .int .i64 st2, .bool ar2, .int .i64 lf2, .bool dn2] (0, 0) _ HZ5.out Tryd.underlying27 rfl (by kernel_rfl) ?_)
        | (refine wpList_store_row rfl 27 (.tmp 10) (.tmp 59) rfl (w.heap.size + 1) #[.slice a L2.length cap, .int .i64 st2, .bool ar2, .int .i64 lf2, .bool dn2] rfl rfl 27 _ HQ5.out (by kernel_rfl) rfl (rs_one a L2.length cap ⟨L2, st2, ar2, lf2, dn2⟩) ?_))
      have HQ6 := HQ5
      have HB6 := HB5
      have HF6 := HL5
      refine bodyPost_ret (results_cell_tmp_row rfl _ _ (w.heap.size + 1) 27 #[.slice a L2.length cap, .int .i64 st2, .bool ar2, .int .i64 lf2, .bool dn2] (0, 0) _ rfl (setRow_heap _ _ _ _ _ _ HQ6.out) Tryd.underlying27 rfl (by kernel_rfl)) rfl ?_
      refine ⟨_, by rw [HE.out]; rfl, by rw [HE.out]; exact FilesIn.setRow HF6.out HQ6.out, below_setRow HB6.out (by omega) _⟩
    | false =>
      have HE : Hid (chgN ⟨L2, st, ar, lf, dn⟩ 0 s now n = (⟨setN L2 ⟨s, xs ++ xl, ⟨#[]⟩⟩, st2, ar2, lf2, dn2⟩, 0)) := Lib.hid (by rw [HA.out, HST.out]; simp [chgL])
      clear HA
      have HC := Lib.hid (fun w lv (h : FilesIn w lv L2) => set4_any lv ⟨L2, st2, ar2, lf2, dn2⟩ ⟨s, xs ++ xl, ⟨#[]⟩⟩ w h HS.out HLN.out)
      unfold rsV rsC RF.v at HC
      go_wp2_with (first
        | (refine wpList_load_row rfl 27 (.tmp 15) rfl z rfl 27 #[.slice a L2.length cap, .int .i64 st2, .bool ar2, .int .i64 lf2, .bool dn2] (0, 0) _ HZ5.out Tryd.underlying27 rfl (by kernel_rfl) ?_)
        | (go_at_call 77; (with_reducible refine (HC.out _ _ (HL5.out)).mono ?_); rintro e w6 ⟨lv5, rfl, hf5, hb5⟩; obtain ⟨a5, n5, c5, hv5⟩ := ownsF_wide hf5.1; subst hv5; have HQ6 := Lib.hid ((hb5.block (w.heap.size + 1) (by omega)).trans HQ5.out); have HB6 := Lib.hid (HB5.out.trans (hb5.mono HB5.out.size)); have HF6 := Lib.hid hf5; clear hf5 hb5)
        | (refine wpList_store_row rfl 27 (.tmp 10) (.tmp 67) rfl (w.heap.size + 1) #[.slice a5 n5 c5, .int .i64 st2, .bool ar2, .int .i64 lf2, .bool dn2] rfl rfl 27 _ HQ6.out (by kernel_rfl) rfl (rs_one a5 n5 c5 ⟨L2, st2, ar2, lf2, dn2⟩) ?_))
      refine bodyPost_ret (results_cell_tmp_row rfl _ _ (w.heap.size + 1) 27 #[.slice a5 n5 c5, .int .i64 st2, .bool ar2, .int .i64 lf2, .bool dn2] (0, 0) _ rfl (setRow_heap _ _ _ _ _ _ HQ6.out) Tryd.underlying27 rfl (by kernel_rfl)) rfl ?_
      refine ⟨_, by rw [HE.out]; rfl, by rw [HE.out]; exact FilesIn.setRow HF6.out HQ6.out, below_setRow HB6.out (by omega) _⟩
  · have HE : Hid (chgN ⟨L, st, ar, lf, dn⟩ 0 s now n = (⟨L, st, ar, lf, dn⟩, 1)) := Lib.hid (by rw [HA.out]; simp)
    clear HA HCS
    go_wp2_with (first
      | (refine wpList_load_row rfl 27 (.tmp 5) rfl w.heap.size rfl 27 #[.slice a L.length cap, .int .i64 st, .bool ar, .int .i64 lf, .bool dn] (0, 0) _ HP.out Tryd.underlying27 rfl (by kernel_rfl) ?_)
      | (refine wpList_store_row rfl 27 (.tmp 10) (.tmp 33) rfl (w.heap.size + 1) #[.slice a L.length cap, .int .i64 st, .bool ar, .int .i64 lf, .bool dn] rfl rfl 27 _ HQ.out (by kernel_rfl) rfl (rs_one a L.length cap ⟨L, st, ar, lf, dn⟩) ?_))
    refine bodyPost_ret (results_cell_tmp_row rfl _ _ (w.heap.size + 1) 27 #[.slice a L.length cap, .int .i64 st, .bool ar, .int .i64 lf, .bool dn] (0, 0) _ rfl (setRow_heap _ _ _ _ _ _ HQ.out) Tryd.underlying27 rfl (by kernel_rfl)) rfl ?_
    refine ⟨.slice a L.length cap, by rw [HE.out]; rfl, by rw [HE.out]; exact HL.out.below (below_setRow HB2.out (by omega) _), below_setRow HB2.out (by omega) _⟩
  · have HE : Hid (chgN ⟨L, st, ar, lf, dn⟩ 0 s now n = (⟨L, st, ar, lf, dn⟩, 8)) := Lib.hid (by rw [HA.out]; simp)
    clear HA HCS
    go_wp2_with (first
      | (refine wpList_load_row rfl 27 (.tmp 5) rfl w.heap.size rfl 27 #[.slice a L.length cap, .int .i64 st, .bool ar, .int .i64 lf, .bool dn] (0, 0) _ HP.out Tryd.underlying27 rfl (by kernel_rfl) ?_)
      | (refine wpList_store_row rfl 27 (.tmp 10) (.tmp 33) rfl (w.heap.size + 1) #[.slice a L.length cap, .int .i64 st, .bool ar, .int .i64 lf, .bool dn] rfl rfl 27 _ HQ.out (by kernel_rfl) rfl (rs_one a L.length cap ⟨L, st, ar, lf, dn⟩) ?_))
    refine bodyPost_ret (results_cell_tmp_row rfl _ _ (w.heap.size + 1) 27 #[.slice a L.length cap, .int .i64 st, .bool ar, .int .i64 lf, .bool dn] (0, 0) _ rfl (setRow_heap _ _ _ _ _ _ HQ.out) Tryd.underlying27 rfl (by kernel_rfl)) rfl ?_
    refine ⟨.slice a L.length cap, by rw [HE.out]; rfl, by rw [HE.out]; exact HL.out.below (below_setRow HB2.out (by omega) _), below_setRow HB2.out (by omega) _⟩
  · have HE : Hid (chgN ⟨L, st, ar, lf, dn⟩ 0 s now n = (⟨L, st, ar, lf, dn⟩, 13)) := Lib.hid (by rw [HA.out]; simp)
    clear HA HCS
    go_wp2_with (first
      | (refine wpList_load_row rfl 27 (.tmp 5) rfl w.heap.size rfl 27 #[.slice a L.length cap, .int .i64 st, .bool ar, .int .i64 lf, .bool dn] (0, 0) _ HP.out Tryd.underlying27 rfl (by kernel_rfl) ?_)
      | (refine wpList_store_row rfl 27 (.tmp 10) (.tmp 33) rfl (w.heap.size + 1) #[.slice a L.length cap, .int .i64 st, .bool ar, .int .i64 lf, .bool dn] rfl rfl 27 _ HQ.out (by kernel_rfl) rfl (rs_one a L.length cap ⟨L, st, ar, lf, dn⟩) ?_))
    refine bodyPost_ret (results_cell_tmp_row rfl _ _ (w.heap.size + 1) 27 #[.slice a L.length cap, .int .i64 st, .bool ar, .int .i64 lf, .bool dn] (0, 0) _ rfl (setRow_heap _ _ _ _ _ _ HQ.out) Tryd.underlying27 rfl (by kernel_rfl)) rfl ?_
    refine ⟨.slice a L.length cap, by rw [HE.out]; rfl, by rw [HE.out]; exact HL.out.below (below_setRow HB2.out (by omega) _), below_setRow HB2.out (by omega) _⟩
end Go.Proofs.YtggcodobkmhkgaaDoor
