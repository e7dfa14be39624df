/- Part 25 of the proof. -/
import Derived.Test.YtggcodobkmhkgaaDoorFc24
namespace Go.Proofs.YtggcodobkmhkgaaDoor
set_option linter.unusedVariables false
set_option linter.unusedSimpArgs false
open Go.RowKit Go.Maps Go.Proofs
set_option maxRecDepth 100000
/-- what the reference's Append makes -/
def appN (r : RSt) (s b : ByteArray) : RSt × Nat :=
  if (getN r s).2 = 8 ∧ 64 ≤ r.L.length then (r, 10)
  else if (getN r s).2 ≠ 0 ∧ (getN r s).2 ≠ 8 then (r, (getN r s).2)
  else if 16777216 < (getN r s).1.sf.size + (getN r s).1.ls.size + b.size then (r, 2)
  else ((stepN { r with L := setN r.L ⟨s, (getN r s).1.sf, (getN r s).1.ls ++ b⟩ }).1, if (stepN { r with L := setN r.L ⟨s, (getN r s).1.sf, (getN r s).1.ls ++ b⟩ }).2 = true then 13 else 0)
def Ref4 (r : RSt × Nat) (w : World) (e : Ending) (w' : World) : Prop := ∃ lv', e = .returned (.tuple #[rsV lv' r.1, .int .i64 (r.2 : Int)]) ∧ FilesIn w' lv' r.1.L ∧ Below w.heap.size w w'
theorem getN_cases (r : RSt) (s : ByteArray) : (getN r s).2 = 0 ∨ (getN r s).2 = 1 ∨ (getN r s).2 = 8 ∨ (getN r s).2 = 13 := by
  unfold getN
  split
  · exact .inr (.inl rfl)
  · split
    · exact .inr (.inr (.inr rfl))
    · split
      · exact .inl rfl
      · exact .inr (.inr (.inl rfl))
theorem FilesIn.setRow {w : World} {v : Value} {L : List RF} {p : Nat} {cs cs' : Array Value} (h : FilesIn w v L) (hp : w.heap[p]? = some (.cells cs 27 (0, 0))) : FilesIn (w.setRow p cs') v L := by
  refine ⟨⟨h.1.1, h.1.2.imp id ?_⟩, h.2⟩
  rintro ⟨g, cap, cur, e, hb, hg, r⟩
  refine ⟨g, cap, cur, e, hb, (setRow_other _ _ _ _ fun e => ?_).trans hg, r⟩
  subst e
  rw [hg] at hp
  injection hp with hp
  injection hp with _ hp
  exact absurd hp (by decide)
theorem stepN_L (r : RSt) : (stepN r).1.L = r.L := by unfold stepN; split <;> rfl
set_option maxHeartbeats 4000000 in
theorem append4_any (lv : Value) (r : RSt) (s b : ByteArray) (w : World) (hL : FilesIn w lv r.L) (hs : s.size ≤ maxLen) (hb : b.size ≤ 140737488355328) (hl : r.L.length < 1000) (hz : (getN r s).1.sf.size ≤ 16777216 ∧ (getN r s).1.ls.size ≤ 16777216) (hn : NumOk r) :
    Calls Tryd.prog 40 #[rsV lv r, .string s, .string b] w (Ref4 (appN r s b) w) := by
  have HG := Lib.hid (fun w (h : FilesIn w lv r.L) => get4_any lv r s w h hs)
  obtain ⟨x, c, hxc⟩ : ∃ x c, getN r s = (x, c) := ⟨_, _, rfl⟩
  have hcs := getN_cases r s
  have HA : Hid (appN r s b = if c = 8 ∧ 64 ≤ r.L.length then (r, 10) else if c ≠ 0 ∧ c ≠ 8 then (r, c) else if 16777216 < x.sf.size + x.ls.size + b.size then (r, 2) else ((stepN { r with L := setN r.L ⟨s, x.sf, x.ls ++ b⟩ }).1, if (stepN { r with L := setN r.L ⟨s, x.sf, x.ls ++ b⟩ }).2 = true then 13 else 0)) := Lib.hid (by unfold appN; rw [hxc])
  rw [hxc] at HG hz hcs
  have HS := Lib.hid (fun w lv (h : FilesIn w lv r.L) => set4_any lv r ⟨s, x.sf, x.ls ++ b⟩ w h hs hl)
  have HT := Lib.hid (fun w lv L' (h : FilesIn w lv L') => step4_any lv { r with L := L' } w h ⟨hn.s0, hn.s1, hn.l0, hn.l1⟩)
  obtain ⟨xn, xs, xl⟩ := x
  obtain ⟨L, st, ar, lf, dn⟩ := r
  simp only at hL HG hl hz hcs HS HT
  obtain ⟨a, cap, rfl, _⟩ := hL.lies
  have HL := Lib.hid hL
  have HCS := Lib.hid hcs
  unfold rsV rsC RF.v at *
  have hz1 : (xs.size : Int) ≤ 16777216 := by omega
  have hz2 : (xl.size : Int) ≤ 16777216 := by omega
  have hz3 : (b.size : Int) ≤ 140737488355328 := by omega
  clear hL hs hb hz hcs hxc hn
  unfold Ref4
  go_enter Tryd.func40, Tryd.ntmps40
  go_upto_region 2 with (first | (go_at_call 75; (with_reducible refine (HG.out _ (HL.out.below (Below.alloc0 (Below.alloc0 (Below.refl _ _) _) _))).mono ?_); rintro e w2 ⟨rfl, hb2⟩; obtain ⟨hp, hq, hsz, hb⟩ := far2 hb2; have HP := Lib.hid hp; have HQ := Lib.hid hq; have HB2 := Lib.hid hb; clear hb2 hb hp hq))
  have hp3 := (heap_alloc_old w2 (.cells #[.string xn, .string xs, .string xl] 111) (r := w.heap.size) (by omega)).trans HP.out
  have hq3 := (heap_alloc_old w2 (.cells #[.string xn, .string xs, .string xl] 111) (r := w.heap.size + 1) (by omega)).trans HQ.out
  have hx3 := heap_alloc_new w2 (.cells #[.string xn, .string xs, .string xl] 111)
  have hb3 := Below.alloc0 HB2.out (.cells #[.string xn, .string xs, .string xl] 111)
  have hs3 : w2.heap.size < (w2.alloc (.cells #[.string xn, .string xs, .string xl] 111)).heap.size := by simp
  generalize w2.alloc (.cells #[.string xn, .string xs, .string xl] 111) = w3 at *
  replace HP := Lib.hid hp3
  replace HQ := Lib.hid hq3
  replace HB2 := Lib.hid hb3
  have HX := Lib.hid hx3
  generalize w2.heap.size = q at *
  obtain ⟨p0, -⟩ := rs_cells hp3
  obtain ⟨x0, x1, x2, f0, f1, f2⟩ := rf_fields hx3
  clear hp3 hq3 hx3 hb3
  rcases HCS.out with rfl | rfl | rfl | rfl
  · -- it is there
    clear HCS
    by_cases hbig : 16777216 < xs.size + xl.size + b.size
    · have HE : Hid (appN ⟨L, st, ar, lf, dn⟩ s b = (⟨L, st, ar, lf, dn⟩, 2)) := Lib.hid (by rw [HA.out]; simp [hbig])
      have hbi : (16777216 : Int) < xs.size + xl.size + b.size := by omega
      clear HA hbig
      go_wp2_with (first
        | (refine wpList_load_row rfl 27 (.tmp 3) rfl w.heap.size rfl 27 #[.slice a L.length cap, .int .i64 st, .bool ar, .int .i64 lf, .bool dn] (0, 0) _ HP.out Tryd.underlying27 rfl (by kernel_rfl) ?_)
        | (refine wpList_store_row rfl 27 (.tmp 6) (.tmp 48) rfl (w.heap.size + 1) #[.slice a L.length cap, .int .i64 st, .bool ar, .int .i64 lf, .bool dn] rfl rfl 27 _ HQ.out (by kernel_rfl) rfl (rs_one a L.length cap ⟨L, st, ar, lf, dn⟩) ?_))
      refine bodyPost_ret (results_cell_tmp_row rfl _ _ (w.heap.size + 1) 27 #[.slice a L.length cap, .int .i64 st, .bool ar, .int .i64 lf, .bool dn] (0, 0) _ rfl (setRow_heap _ _ _ _ _ _ HQ.out) Tryd.underlying27 rfl (by kernel_rfl)) rfl ?_
      refine ⟨.slice a L.length cap, by rw [HE.out]; rfl, by rw [HE.out]; exact HL.out.below (below_setRow HB2.out (by omega) _), below_setRow HB2.out (by omega) _⟩
    · have HE : Hid (appN ⟨L, st, ar, lf, dn⟩ s b = ((stepN ⟨setN L ⟨s, xs, xl ++ b⟩, st, ar, lf, dn⟩).1, if (stepN ⟨setN L ⟨s, xs, xl ++ b⟩, st, ar, lf, dn⟩).2 = true then 13 else 0)) := Lib.hid (by rw [HA.out]; simp [hbig])
      have hbi : ¬ (16777216 : Int) < xs.size + xl.size + b.size := by omega
      have hcat : ¬ (9223372036854775807 : Int) < xl.size + b.size := by omega
      clear HA hbig
      obtain ⟨L2, st2, ar2, lf2, dn2, dw, hst⟩ : ∃ L2 st2 ar2 lf2 dn2 dw, stepN ⟨setN L ⟨s, xs, xl ++ b⟩, st, ar, lf, dn⟩ = (⟨L2, st2, ar2, lf2, dn2⟩, dw) := ⟨_, _, _, _, _, _, rfl⟩
      replace HT := Lib.hid (fun w lv (h : FilesIn w lv (setN L ⟨s, xs, xl ++ b⟩)) => HT.out w lv _ h)
      rw [hst] at HT
      have HST := Lib.hid hst
      clear hst
      go_upto_region 10 with (fail)
      have hx4 : ((w3.setCell ⟨q, 0, none⟩ (.string s)).setCell ⟨q, 2, none⟩ (.string (xl ++ b))).heap[q]? = some (.cells #[.string s, .string xs, .string (xl ++ b)] 111 (0, 0)) := heap_setCell_same _ _ _ _ _ _ (heap_setCell_same _ _ _ _ _ _ HX.out)
      have hk4 : ∀ k, k ≠ q → ((w3.setCell ⟨q, 0, none⟩ (.string s)).setCell ⟨q, 2, none⟩ (.string (xl ++ b))).heap[k]? = w3.heap[k]? := fun k hk => (heap_setCell_other _ _ _ _ hk).trans (heap_setCell_other _ _ _ _ hk)
      have hb4 : Below w.heap.size w ((w3.setCell ⟨q, 0, none⟩ (.string s)).setCell ⟨q, 2, none⟩ (.string (xl ++ b))) := Below.setCell (Below.setCell HB2.out (by show w.heap.size ≤ q; omega) _) (by show w.heap.size ≤ q; omega) _
      have hs4 : ((w3.setCell ⟨q, 0, none⟩ (.string s)).setCell ⟨q, 2, none⟩ (.string (xl ++ b))).heap.size = w3.heap.size := by simp [World.setCell]
      generalize (w3.setCell ⟨q, 0, none⟩ (.string s)).setCell ⟨q, 2, none⟩ (.string (xl ++ b)) = w4 at *
      have HX4 := Lib.hid hx4
      have HP4 := Lib.hid ((hk4 w.heap.size (by omega)).trans HP.out)
      have HQ4 := Lib.hid ((hk4 (w.heap.size + 1) (by omega)).trans HQ.out)
      have HB4 := Lib.hid hb4
      clear hx4 hk4 hb4 HP HQ HX HB2 p0 x0 x1 x2 f0 f1 f2
      cases dw with
      | true =>
        go_wp2_with (first
          | (refine wpList_load_row rfl 27 (.tmp 3) rfl w.heap.size rfl 27 #[.slice a L.length cap, .int .i64 st, .bool ar, .int .i64 lf, .bool dn] (0, 0) _ HP4.out Tryd.underlying27 rfl (by kernel_rfl) ?_)
          | (refine wpList_load_row rfl 111 (.tmp 8) rfl q rfl 111 #[.string s, .string xs, .string (xl ++ b)] (0, 0) _ HX4.out Tryd.underlying111 rfl (by kernel_rfl) ?_)
          | (go_at_call 77; (with_reducible refine (HS.out _ _ (HL.out.below HB4.out)).mono ?_); rintro e w5 ⟨lv5, rfl, hf5, hb5⟩; obtain ⟨a5, n5, c5, hv5⟩ := ownsF_wide hf5.1; subst hv5; have HP5 := Lib.hid ((hb5.block w.heap.size (by omega)).trans HP4.out); have HQ5 := Lib.hid ((hb5.block (w.heap.size + 1) (by omega)).trans HQ4.out); have HB5 := Lib.hid (HB4.out.trans (hb5.mono HB4.out.size)); have HF5 := Lib.hid hf5; have hs5 := hb5.size; clear hf5 hb5)
          | (go_at_call 76; (with_reducible refine (HT.out _ _ HF5.out).mono ?_); rintro e w6 ⟨rfl, hb6⟩; have HP6 := Lib.hid ((hb6.block w.heap.size (by omega)).trans HP5.out); have HQ6 := Lib.hid ((hb6.block (w.heap.size + 1) (by omega)).trans HQ5.out); have HB6 := Lib.hid (HB5.out.trans (hb6.mono HB5.out.size)); have HF6 := Lib.hid (HF5.out.below hb6); clear hb6)
          | (refine wpList_store_row rfl 27 (.tmp 3) (.tmp 61) rfl w.heap.size #[.slice a5 n5 c5, .int .i64 st2, .bool ar2, .int .i64 lf2, .bool dn2] rfl rfl 27 _ HP6.out (by kernel_rfl) rfl (rs_one a5 n5 c5 ⟨L, st2, ar2, lf2, dn2⟩) ?_)
          | (refine wpList_load_row rfl 27 (.tmp 3) rfl w.heap.size rfl 27 #[.slice a5 n5 c5, .int .i64 st2, .bool ar2, .int .i64 lf2, .bool dn2] (0, 0) _ (setRow_heap _ _ _ _ _ _ HP6.out) Tryd.underlying27 rfl (by kernel_rfl) ?_)
          | (refine wpList_store_row rfl 27 (.tmp 6) (.tmp 64) rfl (w.heap.size + 1) #[.slice a5 n5 c5, .int .i64 st2, .bool ar2, .int .i64 lf2, .bool dn2] rfl rfl 27 _ ((setRow_other _ _ _ _ (by omega)).trans HQ6.out) (by kernel_rfl) rfl (rs_one a5 n5 c5 ⟨L, st2, ar2, lf2, dn2⟩) ?_))
        refine bodyPost_ret (results_cell_tmp_row rfl _ _ (w.heap.size + 1) 27 #[.slice a5 n5 c5, .int .i64 st2, .bool ar2, .int .i64 lf2, .bool dn2] (0, 0) _ rfl (setRow_heap _ _ _ _ _ _ ((setRow_other _ _ _ _ (by omega)).trans HQ6.out)) Tryd.underlying27 rfl (by kernel_rfl)) rfl ?_
        refine ⟨.slice a5 n5 c5, by rw [HE.out, HST.out]; rfl, ?_, below_setRow (below_setRow HB6.out (Nat.le_refl _) _) (by omega) _⟩
        rw [HE.out]; simp only [stepN_L]
        exact FilesIn.setRow (FilesIn.setRow HF6.out HP6.out) ((setRow_other _ _ _ _ (by omega)).trans HQ6.out)
      | false =>
        go_wp2_with (first
          | (refine wpList_load_row rfl 27 (.tmp 3) rfl w.heap.size rfl 27 #[.slice a L.length cap, .int .i64 st, .bool ar, .int .i64 lf, .bool dn] (0, 0) _ HP4.out Tryd.underlying27 rfl (by kernel_rfl) ?_)
          | (refine wpList_load_row rfl 111 (.tmp 8) rfl q rfl 111 #[.string s, .string xs, .string (xl ++ b)] (0, 0) _ HX4.out Tryd.underlying111 rfl (by kernel_rfl) ?_)
          | (go_at_call 77; (with_reducible refine (HS.out _ _ (HL.out.below HB4.out)).mono ?_); rintro e w5 ⟨lv5, rfl, hf5, hb5⟩; obtain ⟨a5, n5, c5, hv5⟩ := ownsF_wide hf5.1; subst hv5; have HP5 := Lib.hid ((hb5.block w.heap.size (by omega)).trans HP4.out); have HQ5 := Lib.hid ((hb5.block (w.heap.size + 1) (by omega)).trans HQ4.out); have HB5 := Lib.hid (HB4.out.trans (hb5.mono HB4.out.size)); have HF5 := Lib.hid hf5; have hs5 := hb5.size; clear hf5 hb5)
          | (go_at_call 76; (with_reducible refine (HT.out _ _ HF5.out).mono ?_); rintro e w6 ⟨rfl, hb6⟩; have HP6 := Lib.hid ((hb6.block w.heap.size (by omega)).trans HP5.out); have HQ6 := Lib.hid ((hb6.block (w.heap.size + 1) (by omega)).trans HQ5.out); have HB6 := Lib.hid (HB5.out.trans (hb6.mono HB5.out.size)); have HF6 := Lib.hid (HF5.out.below hb6); clear hb6)
          | (refine wpList_store_row rfl 27 (.tmp 3) (.tmp 61) rfl w.heap.size #[.slice a5 n5 c5, .int .i64 st2, .bool ar2, .int .i64 lf2, .bool dn2] rfl rfl 27 _ HP6.out (by kernel_rfl) rfl (rs_one a5 n5 c5 ⟨L, st2, ar2, lf2, dn2⟩) ?_)
          | (refine wpList_load_row rfl 27 (.tmp 3) rfl w.heap.size rfl 27 #[.slice a5 n5 c5, .int .i64 st2, .bool ar2, .int .i64 lf2, .bool dn2] (0, 0) _ (setRow_heap _ _ _ _ _ _ HP6.out) Tryd.underlying27 rfl (by kernel_rfl) ?_)
          | (refine wpList_store_row rfl 27 (.tmp 6) (.tmp 65) rfl (w.heap.size + 1) #[.slice a5 n5 c5, .int .i64 st2, .bool ar2, .int .i64 lf2, .bool dn2] rfl rfl 27 _ ((setRow_other _ _ _ _ (by omega)).trans HQ6.out) (by kernel_rfl) rfl (rs_one a5 n5 c5 ⟨L, st2, ar2, lf2, dn2⟩) ?_))
        refine bodyPost_ret (results_cell_tmp_row rfl _ _ (w.heap.size + 1) 27 #[.slice a5 n5 c5, .int .i64 st2, .bool ar2, .int .i64 lf2, .bool dn2] (0, 0) _ rfl (setRow_heap _ _ _ _ _ _ ((setRow_other _ _ _ _ (by omega)).trans HQ6.out)) Tryd.underlying27 rfl (by kernel_rfl)) rfl ?_
        refine ⟨.slice a5 n5 c5, by rw [HE.out, HST.out]; rfl, ?_, below_setRow (below_setRow HB6.out (Nat.le_refl _) _) (by omega) _⟩
        rw [HE.out]; simp only [stepN_L]
        exact FilesIn.setRow (FilesIn.setRow HF6.out HP6.out) ((setRow_other _ _ _ _ (by omega)).trans HQ6.out)
  · have HE : Hid (appN ⟨L, st, ar, lf, dn⟩ s b = (⟨L, st, ar, lf, dn⟩, 1)) := Lib.hid (by rw [HA.out]; simp)
    clear HA HCS
    go_wp2_with (first
      | (refine wpList_load_row rfl 27 (.tmp 3) rfl w.heap.size rfl 27 #[.slice a L.length cap, .int .i64 st, .bool ar, .int .i64 lf, .bool dn] (0, 0) _ HP.out Tryd.underlying27 rfl (by kernel_rfl) ?_)
      | (refine wpList_store_row rfl 27 (.tmp 6) (.tmp 34) rfl (w.heap.size + 1) #[.slice a L.length cap, .int .i64 st, .bool ar, .int .i64 lf, .bool dn] rfl rfl 27 _ HQ.out (by kernel_rfl) rfl (rs_one a L.length cap ⟨L, st, ar, lf, dn⟩) ?_))
    refine bodyPost_ret (results_cell_tmp_row rfl _ _ (w.heap.size + 1) 27 #[.slice a L.length cap, .int .i64 st, .bool ar, .int .i64 lf, .bool dn] (0, 0) _ rfl (setRow_heap _ _ _ _ _ _ HQ.out) Tryd.underlying27 rfl (by kernel_rfl)) rfl ?_
    refine ⟨.slice a L.length cap, by rw [HE.out]; rfl, by rw [HE.out]; exact HL.out.below (below_setRow HB2.out (by omega) _), below_setRow HB2.out (by omega) _⟩
  · clear HCS
    by_cases h64 : 64 ≤ L.length
    · have HE : Hid (appN ⟨L, st, ar, lf, dn⟩ s b = (⟨L, st, ar, lf, dn⟩, 10)) := Lib.hid (by rw [HA.out]; simp [h64])
      have h64i : (64 : Int) ≤ L.length := by omega
      clear HA
      go_wp2_with (first
        | (refine wpList_load_row rfl 27 (.tmp 3) rfl w.heap.size rfl 27 #[.slice a L.length cap, .int .i64 st, .bool ar, .int .i64 lf, .bool dn] (0, 0) _ HP.out Tryd.underlying27 rfl (by kernel_rfl) ?_)
        | (refine wpList_store_row rfl 27 (.tmp 6) (.tmp 26) rfl (w.heap.size + 1) #[.slice a L.length cap, .int .i64 st, .bool ar, .int .i64 lf, .bool dn] rfl rfl 27 _ HQ.out (by kernel_rfl) rfl (rs_one a L.length cap ⟨L, st, ar, lf, dn⟩) ?_))
      refine bodyPost_ret (results_cell_tmp_row rfl _ _ (w.heap.size + 1) 27 #[.slice a L.length cap, .int .i64 st, .bool ar, .int .i64 lf, .bool dn] (0, 0) _ rfl (setRow_heap _ _ _ _ _ _ HQ.out) Tryd.underlying27 rfl (by kernel_rfl)) rfl ?_
      refine ⟨.slice a L.length cap, by rw [HE.out]; rfl, by rw [HE.out]; exact HL.out.below (below_setRow HB2.out (by omega) _), below_setRow HB2.out (by omega) _⟩
    · have h64i : ¬ (64 : Int) ≤ L.length := by omega
      by_cases hbig : 16777216 < xs.size + xl.size + b.size
      · have HE : Hid (appN ⟨L, st, ar, lf, dn⟩ s b = (⟨L, st, ar, lf, dn⟩, 2)) := Lib.hid (by rw [HA.out]; simp [hbig, h64])
        have hbi : (16777216 : Int) < xs.size + xl.size + b.size := by omega
        clear HA hbig
        go_wp2_with (first
          | (refine wpList_load_row rfl 27 (.tmp 3) rfl w.heap.size rfl 27 #[.slice a L.length cap, .int .i64 st, .bool ar, .int .i64 lf, .bool dn] (0, 0) _ HP.out Tryd.underlying27 rfl (by kernel_rfl) ?_)
          | (refine wpList_store_row rfl 27 (.tmp 6) (.tmp 48) rfl (w.heap.size + 1) #[.slice a L.length cap, .int .i64 st, .bool ar, .int .i64 lf, .bool dn] rfl rfl 27 _ HQ.out (by kernel_rfl) rfl (rs_one a L.length cap ⟨L, st, ar, lf, dn⟩) ?_))
        refine bodyPost_ret (results_cell_tmp_row rfl _ _ (w.heap.size + 1) 27 #[.slice a L.length cap, .int .i64 st, .bool ar, .int .i64 lf, .bool dn] (0, 0) _ rfl (setRow_heap _ _ _ _ _ _ HQ.out) Tryd.underlying27 rfl (by kernel_rfl)) rfl ?_
        refine ⟨.slice a L.length cap, by rw [HE.out]; rfl, by rw [HE.out]; exact HL.out.below (below_setRow HB2.out (by omega) _), below_setRow HB2.out (by omega) _⟩
      · have HE : Hid (appN ⟨L, st, ar, lf, dn⟩ s b = ((stepN ⟨setN L ⟨s, xs, xl ++ b⟩, st, ar, lf, dn⟩).1, if (stepN ⟨setN L ⟨s, xs, xl ++ b⟩, st, ar, lf, dn⟩).2 = true then 13 else 0)) := Lib.hid (by rw [HA.out]; simp [hbig, h64])
        have hbi : ¬ (16777216 : Int) < xs.size + xl.size + b.size := by omega
        have hcat : ¬ (9223372036854775807 : Int) < xl.size + b.size := by omega
        clear HA hbig
        obtain ⟨L2, st2, ar2, lf2, dn2, dw, hst⟩ : ∃ L2 st2 ar2 lf2 dn2 dw, stepN ⟨setN L ⟨s, xs, xl ++ b⟩, st, ar, lf, dn⟩ = (⟨L2, st2, ar2, lf2, dn2⟩, dw) := ⟨_, _, _, _, _, _, rfl⟩
        replace HT := Lib.hid (fun w lv (h : FilesIn w lv (setN L ⟨s, xs, xl ++ b⟩)) => HT.out w lv _ h)
        rw [hst] at HT
        have HST := Lib.hid hst
        clear hst
        go_upto_region 10 with (fail)
        have hx4 : ((w3.setCell ⟨q, 0, none⟩ (.string s)).setCell ⟨q, 2, none⟩ (.string (xl ++ b))).heap[q]? = some (.cells #[.string s, .string xs, .string (xl ++ b)] 111 (0, 0)) := heap_setCell_same _ _ _ _ _ _ (heap_setCell_same _ _ _ _ _ _ HX.out)
        have hk4 : ∀ k, k ≠ q → ((w3.setCell ⟨q, 0, none⟩ (.string s)).setCell ⟨q, 2, none⟩ (.string (xl ++ b))).heap[k]? = w3.heap[k]? := fun k hk => (heap_setCell_other _ _ _ _ hk).trans (heap_setCell_other _ _ _ _ hk)
        have hb4 : Below w.heap.size w ((w3.setCell ⟨q, 0, none⟩ (.string s)).setCell ⟨q, 2, none⟩ (.string (xl ++ b))) := Below.setCell (Below.setCell HB2.out (by show w.heap.size ≤ q; omega) _) (by show w.heap.size ≤ q; omega) _
        have hs4 : ((w3.setCell ⟨q, 0, none⟩ (.string s)).setCell ⟨q, 2, none⟩ (.string (xl ++ b))).heap.size = w3.heap.size := by simp [World.setCell]
        generalize (w3.setCell ⟨q, 0, none⟩ (.string s)).setCell ⟨q, 2, none⟩ (.string (xl ++ b)) = w4 at *
        have HX4 := Lib.hid hx4
        have HP4 := Lib.hid ((hk4 w.heap.size (by omega)).trans HP.out)
        have HQ4 := Lib.hid ((hk4 (w.heap.size + 1) (by omega)).trans HQ.out)
        have HB4 := Lib.hid hb4
        clear hx4 hk4 hb4 HP HQ HX HB2 p0 x0 x1 x2 f0 f1 f2
        cases dw with
        | true =>
          go_wp2_with (first
            | (refine wpList_load_row rfl 27 (.tmp 3) rfl w.heap.size rfl 27 #[.slice a L.length cap, .int .i64 st, .bool ar, .int .i64 lf, .bool dn] (0, 0) _ HP4.out Tryd.underlying27 rfl (by kernel_rfl) ?_)
            | (refine wpList_load_row rfl 111 (.tmp 8) rfl q rfl 111 #[.string s, .string xs, .string (xl ++ b)] (0, 0) _ HX4.out Tryd.underlying111 rfl (by kernel_rfl) ?_)
            | (go_at_call 77; (with_reducible refine (HS.out _ _ (HL.out.below HB4.out)).mono ?_); rintro e w5 ⟨lv5, rfl, hf5, hb5⟩; obtain ⟨a5, n5, c5, hv5⟩ := ownsF_wide hf5.1; subst hv5; have HP5 := Lib.hid ((hb5.block w.heap.size (by omega)).trans HP4.out); have HQ5 := Lib.hid ((hb5.block (w.heap.size + 1) (by omega)).trans HQ4.out); have HB5 := Lib.hid (HB4.out.trans (hb5.mono HB4.out.size)); have HF5 := Lib.hid hf5; have hs5 := hb5.size; clear hf5 hb5)
            | (go_at_call 76; (with_reducible refine (HT.out _ _ HF5.out).mono ?_); rintro e w6 ⟨rfl, hb6⟩; have HP6 := Lib.hid ((hb6.block w.heap.size (by omega)).trans HP5.out); have HQ6 := Lib.hid ((hb6.block (w.heap.size + 1) (by omega)).trans HQ5.out); have HB6 := Lib.hid (HB5.out.trans (hb6.mono HB5.out.size)); have HF6 := Lib.hid (HF5.out.below hb6); clear hb6)
            | (refine wpList_store_row rfl 27 (.tmp 3) (.tmp 61) rfl w.heap.size #[.slice a5 n5 c5, .int .i64 st2, .bool ar2, .int .i64 lf2, .bool dn2] rfl rfl 27 _ HP6.out (by kernel_rfl) rfl (rs_one a5 n5 c5 ⟨L, st2, ar2, lf2, dn2⟩) ?_)
            | (refine wpList_load_row rfl 27 (.tmp 3) rfl w.heap.size rfl 27 #[.slice a5 n5 c5, .int .i64 st2, .bool ar2, .int .i64 lf2, .bool dn2] (0, 0) _ (setRow_heap _ _ _ _ _ _ HP6.out) Tryd.underlying27 rfl (by kernel_rfl) ?_)
            | (refine wpList_store_row rfl 27 (.tmp 6) (.tmp 64) rfl (w.heap.size + 1) #[.slice a5 n5 c5, .int .i64 st2, .bool ar2, .int .i64 lf2, .bool dn2] rfl rfl 27 _ ((setRow_other _ _ _ _ (by omega)).trans HQ6.out) (by kernel_rfl) rfl (rs_one a5 n5 c5 ⟨L, st2, ar2, lf2, dn2⟩) ?_))
          refine bodyPost_ret (results_cell_tmp_row rfl _ _ (w.heap.size + 1) 27 #[.slice a5 n5 c5, .int .i64 st2, .bool ar2, .int .i64 lf2, .bool dn2] (0, 0) _ rfl (setRow_heap _ _ _ _ _ _ ((setRow_other _ _ _ _ (by omega)).trans HQ6.out)) Tryd.underlying27 rfl (by kernel_rfl)) rfl ?_
          refine ⟨.slice a5 n5 c5, by rw [HE.out, HST.out]; rfl, ?_, below_setRow (below_setRow HB6.out (Nat.le_refl _) _) (by omega) _⟩
          rw [HE.out]; simp only [stepN_L]
          exact FilesIn.setRow (FilesIn.setRow HF6.out HP6.out) ((setRow_other _ _ _ _ (by omega)).trans HQ6.out)
        | false =>
          go_wp2_with (first
            | (refine wpList_load_row rfl 27 (.tmp 3) rfl w.heap.size rfl 27 #[.slice a L.length cap, .int .i64 st, .bool ar, .int .i64 lf, .bool dn] (0, 0) _ HP4.out Tryd.underlying27 rfl (by kernel_rfl) ?_)
            | (refine wpList_load_row rfl 111 (.tmp 8) rfl q rfl 111 #[.string s, .string xs, .string (xl ++ b)] (0, 0) _ HX4.out Tryd.underlying111 rfl (by kernel_rfl) ?_)
            | (go_at_call 77; (with_reducible refine (HS.out _ _ (HL.out.below HB4.out)).mono ?_); rintro e w5 ⟨lv5, rfl, hf5, hb5⟩; obtain ⟨a5, n5, c5, hv5⟩ := ownsF_wide hf5.1; subst hv5; have HP5 := Lib.hid ((hb5.block w.heap.size (by omega)).trans HP4.out); have HQ5 := Lib.hid ((hb5.block (w.heap.size + 1) (by omega)).trans HQ4.out); have HB5 := Lib.hid (HB4.out.trans (hb5.mono HB4.out.size)); have HF5 := Lib.hid hf5; have hs5 := hb5.size; clear hf5 hb5)
            | (go_at_call 76; (with_reducible refine (HT.out _ _ HF5.out).mono ?_); rintro e w6 ⟨rfl, hb6⟩; have HP6 := Lib.hid ((hb6.block w.heap.size (by omega)).trans HP5.out); have HQ6 := Lib.hid ((hb6.block (w.heap.size + 1) (by omega)).trans HQ5.out); have HB6 := Lib.hid (HB5.out.trans (hb6.mono HB5.out.size)); have HF6 := Lib.hid (HF5.out.below hb6); clear hb6)
            | (refine wpList_store_row rfl 27 (.tmp 3) (.tmp 61) rfl w.heap.size #[.slice a5 n5 c5, .int .i64 st2, .bool ar2, .int .i64 lf2, .bool dn2] rfl rfl 27 _ HP6.out (by kernel_rfl) rfl (rs_one a5 n5 c5 ⟨L, st2, ar2, lf2, dn2⟩) ?_)
            | (refine wpList_load_row rfl 27 (.tmp 3) rfl w.heap.size rfl 27 #[.slice a5 n5 c5, .int .i64 st2, .bool ar2, .int .i64 lf2, .bool dn2] (0, 0) _ (setRow_heap _ _ _ _ _ _ HP6.out) Tryd.underlying27 rfl (by kernel_rfl) ?_)
            | (refine wpList_store_row rfl 27 (.tmp 6) (.tmp 65) rfl (w.heap.size + 1) #[.slice a5 n5 c5, .int .i64 st2, .bool ar2, .int .i64 lf2, .bool dn2] rfl rfl 27 _ ((setRow_other _ _ _ _ (by omega)).trans HQ6.out) (by kernel_rfl) rfl (rs_one a5 n5 c5 ⟨L, st2, ar2, lf2, dn2⟩) ?_))
          refine bodyPost_ret (results_cell_tmp_row rfl _ _ (w.heap.size + 1) 27 #[.slice a5 n5 c5, .int .i64 st2, .bool ar2, .int .i64 lf2, .bool dn2] (0, 0) _ rfl (setRow_heap _ _ _ _ _ _ ((setRow_other _ _ _ _ (by omega)).trans HQ6.out)) Tryd.underlying27 rfl (by kernel_rfl)) rfl ?_
          refine ⟨.slice a5 n5 c5, by rw [HE.out, HST.out]; rfl, ?_, below_setRow (below_setRow HB6.out (Nat.le_refl _) _) (by omega) _⟩
          rw [HE.out]; simp only [stepN_L]
          exact FilesIn.setRow (FilesIn.setRow HF6.out HP6.out) ((setRow_other _ _ _ _ (by omega)).trans HQ6.out)
  · have HE : Hid (appN ⟨L, st, ar, lf, dn⟩ s b = (⟨L, st, ar, lf, dn⟩, 13)) := Lib.hid (by rw [HA.out]; simp)
    clear HA HCS
    go_wp2_with (first
      | (refine wpList_load_row rfl 27 (.tmp 3) rfl w.heap.size rfl 27 #[.slice a L.length cap, .int .i64 st, .bool ar, .int .i64 lf, .bool dn] (0, 0) _ HP.out Tryd.underlying27 rfl (by kernel_rfl) ?_)
      | (refine wpList_store_row rfl 27 (.tmp 6) (.tmp 34) rfl (w.heap.size + 1) #[.slice a L.length cap, .int .i64 st, .bool ar, .int .i64 lf, .bool dn] rfl rfl 27 _ HQ.out (by kernel_rfl) rfl (rs_one a L.length cap ⟨L, st, ar, lf, dn⟩) ?_))
    refine bodyPost_ret (results_cell_tmp_row rfl _ _ (w.heap.size + 1) 27 #[.slice a L.length cap, .int .i64 st, .bool ar, .int .i64 lf, .bool dn] (0, 0) _ rfl (setRow_heap _ _ _ _ _ _ HQ.out) Tryd.underlying27 rfl (by kernel_rfl)) rfl ?_
    refine ⟨.slice a L.length cap, by rw [HE.out]; rfl, by rw [HE.out]; exact HL.out.below (below_setRow HB2.out (by omega) _), below_setRow HB2.out (by omega) _⟩
end Go.Proofs.YtggcodobkmhkgaaDoor
