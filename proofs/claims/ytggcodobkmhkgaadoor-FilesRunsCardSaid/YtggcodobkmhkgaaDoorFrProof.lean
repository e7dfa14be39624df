/- For every row of acts, FilesRuns returns true and leaves its argument as it was. Conditions: the variable errors.errorType reads as the program's text lays it, which the card ties to that text; each slice takes at most 2^47 - 4096 bytes. -/
import Derived.Deep.DeepCutAuto
import Derived.Test.YtggcodobkmhkgaaDoorTie
import Derived.Test.YtggcodobkmhkgaaDoorCards
import Derived.SevenTiedAt
import Derived.Test.YtggcodobkmhkgaaDoorFcProof
import Derived.Test.YtggcodobkmhkgaaDoorFc51
import Derived.Test.YtggcodobkmhkgaaDoorFc20
import Derived.Test.YtggcodobkmhkgaaDoorFc19
namespace Go.Proofs.YtggcodobkmhkgaaDoor
set_option linter.unusedVariables false
set_option linter.unusedSimpArgs false
open Go.RowKit Go.Maps Go.Proofs
set_option maxRecDepth 100000
set_option linter.unusedSimpArgs false
set_option linter.unusedVariables false
theorem find_nil (s : ByteArray) (w : World) : Calls Tryd.prog 52 #[.pointer none, .string s] w fun e w' => e = .returned (.tuple #[.agg #[.slice none 0 0, .int .i64 0], errV (some 1)]) ∧ Below w.heap.size w w' := by
  have hc := check_none
  go_enter Tryd.func52, Tryd.ntmps52
  go_wp2_with (go_at_call 49; (with_reducible refine (hc _ _).mono ?_); rintro e w2 ⟨rfl, rfl⟩; simp only [errV])
  exact bodyPost_ret (v := .tuple #[.agg #[.slice none 0 0, .int .i64 0], .iface 117 (.int .i64 1)]) (by simp [results, Tryd.results52, go_sem]) rfl ⟨rfl, Below.alloc0 (Below.alloc0 (Below.refl _ _) _) _⟩
theorem append_nil (s : ByteArray) (w : World) : Calls Tryd.prog 13 #[.pointer none, .string s, .slice none 0 0] w fun e w' => e = .returned (errV (some 1)) ∧ Below w.heap.size w w' := by
  have hc := check_none
  go_enter Tryd.func13, Tryd.ntmps13
  go_wp2_with (go_at_call 49; (with_reducible refine (hc _ _).mono ?_); rintro e w2 ⟨rfl, rfl⟩; simp only [errV])
  go_ret
  refine ⟨rfl, ?_⟩
  first | exact Below.refl _ _ | exact below1 _ _ | exact (below1 _ _).alloc0 _ | exact Below.alloc0 (Below.alloc0 (Below.refl _ _) _) _ | exact Below.alloc0 (Below.alloc0 (Below.alloc0 (Below.refl _ _) _) _) _ | exact Below.alloc0 (Below.alloc0 (Below.alloc0 (Below.alloc0 (Below.refl _ _) _) _) _) _ | exact Below.alloc0 (Below.alloc0 (Below.alloc0 (Below.alloc0 (Below.alloc0 (Below.refl _ _) _) _) _) _) _ | exact (below1 _ _).trans (HB.out.mono (by simp)) | exact ((below1 _ _).trans (HB.out.mono (by simp))).alloc0 _ | exact HB.out | exact Below.alloc0 HB.out _ | exact Below.alloc0 ((Below.alloc0 (Below.alloc0 (Below.refl _ _) _) _).trans (HB.out.mono (by simp; omega))) _
theorem sync_nil (s : ByteArray) (w : World) : Calls Tryd.prog 16 #[.pointer none, .string s] w fun e w' => e = .returned (errV (some 1)) ∧ Below w.heap.size w w' := by
  have hc := find_nil
  go_enter Tryd.func16, Tryd.ntmps16
  go_wp2_with (go_at_call 52; (with_reducible refine (hc _ _).mono ?_); rintro e w2 ⟨rfl, hb⟩; simp only [errV]; have HB := Lib.hid hb; clear hb)
  go_ret
  refine ⟨rfl, ?_⟩
  first | exact Below.refl _ _ | exact below1 _ _ | exact (below1 _ _).alloc0 _ | exact Below.alloc0 (Below.alloc0 (Below.refl _ _) _) _ | exact Below.alloc0 (Below.alloc0 (Below.alloc0 (Below.refl _ _) _) _) _ | exact Below.alloc0 (Below.alloc0 (Below.alloc0 (Below.alloc0 (Below.refl _ _) _) _) _) _ | exact Below.alloc0 (Below.alloc0 (Below.alloc0 (Below.alloc0 (Below.alloc0 (Below.refl _ _) _) _) _) _) _ | exact (below1 _ _).trans (HB.out.mono (by simp)) | exact ((below1 _ _).trans (HB.out.mono (by simp))).alloc0 _ | exact HB.out | exact Below.alloc0 HB.out _ | exact Below.alloc0 ((Below.alloc0 (Below.alloc0 (Below.refl _ _) _) _).trans (HB.out.mono (by simp; omega))) _
theorem read_nil (s : ByteArray) (w : World) : Calls Tryd.prog 14 #[.pointer none, .string s] w fun e w' => ∃ v, e = .returned (.tuple #[v, errV (some 1)]) ∧ Below w.heap.size w w' := by
  have hc := find_nil
  go_enter Tryd.func14, Tryd.ntmps14
  go_wp2_with (first | (go_at_call 52; (with_reducible refine (hc _ _).mono ?_); rintro e w1 ⟨rfl, hb⟩; simp only [errV]; have HB := Lib.hid hb; clear hb) | (go_at_call 53; (with_reducible refine (clone_any _ [] _ (nil_in _) (by simp)).mono ?_); rintro e w2 ⟨v', rfl, ho, hb⟩; have HO := Lib.hid ho; have HB2 := Lib.hid hb; clear ho hb))
  go_ret2
  exact ⟨v', rfl, (Below.alloc0 HB.out _).trans (HB2.out.mono (by rw [size_alloc]; have := HB.out.size; omega))⟩
theorem arm_nil (n : Int) (h0 : ¬ n < 0) (w : World) : Calls Tryd.prog 17 #[.pointer none, .int .i64 n] w fun e w' => e = .returned (errV (some 1)) ∧ Below w.heap.size w w' := by
  have hc := check_none
  go_enter Tryd.func17, Tryd.ntmps17
  go_wp2_with (go_at_call 49; (with_reducible refine (hc _ _).mono ?_); rintro e w2 ⟨rfl, rfl⟩; simp only [errV])
  go_ret
  refine ⟨rfl, ?_⟩
  first | exact Below.refl _ _ | exact below1 _ _ | exact (below1 _ _).alloc0 _ | exact Below.alloc0 (Below.alloc0 (Below.refl _ _) _) _ | exact Below.alloc0 (Below.alloc0 (Below.alloc0 (Below.refl _ _) _) _) _ | exact Below.alloc0 (Below.alloc0 (Below.alloc0 (Below.alloc0 (Below.refl _ _) _) _) _) _ | exact Below.alloc0 (Below.alloc0 (Below.alloc0 (Below.alloc0 (Below.alloc0 (Below.refl _ _) _) _) _) _) _ | exact (below1 _ _).trans (HB.out.mono (by simp)) | exact ((below1 _ _).trans (HB.out.mono (by simp))).alloc0 _ | exact HB.out | exact Below.alloc0 HB.out _ | exact Below.alloc0 ((Below.alloc0 (Below.alloc0 (Below.refl _ _) _) _).trans (HB.out.mono (by simp; omega))) _
theorem down_nil (w : World) : Calls Tryd.prog 18 #[.pointer none] w fun e w' => e = .returned (.bool false) ∧ w = w' := by
  go_enter Tryd.func18, Tryd.ntmps18
  go_wp2_with (fail)
  go_ret
  exact ⟨rfl, rfl⟩
theorem steps_nil (w : World) : Calls Tryd.prog 20 #[.pointer none] w fun e w' => e = .returned (.int .i64 0) ∧ w = w' := by
  go_enter Tryd.func20, Tryd.ntmps20
  go_wp2_with (fail)
  go_ret
  exact ⟨rfl, rfl⟩
theorem clone_nil4 (w : World) : Calls Tryd.prog 11 #[.pointer none] w fun e w' => e = .returned (.pointer none) ∧ w = w' := by
  go_enter Tryd.func11, Tryd.ntmps11
  go_wp2_with (fail)
  go_ret
  exact ⟨rfl, rfl⟩
end Go.Proofs.YtggcodobkmhkgaaDoor
namespace Go.Proofs.YtggcodobkmhkgaaDoor
set_option linter.unusedVariables false
set_option linter.unusedSimpArgs false
open Go.RowKit Go.Maps Go.Proofs
set_option maxRecDepth 100000
set_option linter.unusedSimpArgs false
set_option linter.unusedVariables false
set_option maxHeartbeats 8000000 in
theorem lfruns_any (va : Value) (ts : List AT) (W : World) (hg : ErrType W) (hx : ActsIn W va ts) (hts : ∀ t ∈ ts, AOk W t ∧ t.data.length ≤ 140737488351232 ∧ t.keep.length ≤ 17592186043904) :
    Calls Tryd.prog 3 #[va] W fun e w' => e = .returned (.bool true) ∧ Below W.heap.size W w' := by
  obtain ⟨la, lc, rfl, hlc, hlm, hX⟩ := hx
  have HET := Lib.hid hg
  have HX := Lib.hid hX
  have HTS := Lib.hid hts
  have hlI : (ts.length : Int) ≤ 9223372036854775807 := by unfold maxLen at hlm; omega
  clear hg hX hts hlc hlm
  go_enter Tryd.func3, Tryd.ntmps3
  go_upto_region 4 with (go_at_call 8; (with_reducible refine (new_own _).mono ?_); rintro e w1 ⟨p, rfl, ho, hb⟩; have HO := Lib.hid ho; have HB := Lib.hid hb; clear ho hb)
  go_upto_region 5 with (first
    | (refine wpList_store_row rfl 27 (.tmp 4) (.tmp 15) rfl w1.heap.size #[.slice none 0 0, .int .i64 0, .bool false, .int .i64 0, .bool false] rfl rfl 27 _ (heap_alloc_new _ _) (by kernel_rfl) rfl (by rfl) ?_; rw [World.setRow_alloc_new]))
  have hbz := below1 w1 (.cells #[.slice none 0 0, .int .i64 0, .bool false, .int .i64 0, .bool false] 27)
  have M := Lib.hid (show ∃ R, R.pb = p ∧ LawM W (w1.alloc (.cells #[.slice none 0 0, .int .i64 0, .bool false, .int .i64 0, .bool false] 27)) R w1.heap.size #[.slice none 0 0, .int .i64 0, .bool false, .int .i64 0, .bool false] none 0 0 ⟨[], 0, false, 0, false⟩ 0 from by
    obtain ⟨R, h1, h2, h3⟩ := HO.out
    exact ⟨R, h2, HB.out.trans (hbz.mono HB.out.size), h1.below hbz, heap_alloc_new _ _, HB.out.size, FilesIn.nil _, by rw [h3]; exact ⟨rfl, rfl, rfl, fun h => (by cases h), rfl⟩, ⟨by decide, by decide, by decide, by decide⟩⟩)
  clear hbz HO HB
  generalize w1.alloc (.cells #[.slice none 0 0, .int .i64 0, .bool false, .int .i64 0, .bool false] 27) = w2 at *
  obtain ⟨q, hq⟩ : ∃ q, q = w1.heap.size := ⟨_, rfl⟩
  rw [← hq] at M ⊢
  clear hq
  go_wp2_with (fail)
  go_loopw [5, 6, 7] (fun x _ _ wr => ∃ j : Nat, j ≤ ts.length ∧ j ≤ 120 ∧ x = .int .i64 (j : Int) ∧ ∃ R a n c r, R.pb = p ∧ Hid (LawM W wr R q #[.slice a n c, .int .i64 r.steps, .bool r.armed, .int .i64 r.left, .bool r.down] a n c r j)) (fun x _ _ _ => ts.length - (intOf x).toNat)
  case atStart =>
    obtain ⟨R, h1, h2⟩ := M.out
    exact ⟨0, Nat.zero_le _, Nat.zero_le _, rfl, R, none, 0, 0, ⟨[], 0, false, 0, false⟩, h1, Lib.hid h2⟩
  case round =>
    clear M
    obtain ⟨j, hjl, hj40, rfl, R, a, n, c, r, hp, M⟩ := hrel
    have hjI : (j : Int) ≤ 120 := by omega
    have HJ := Lib.hid hj40
    by_cases hlt : j < ts.length ∧ j < 120
    · obtain ⟨t, ht⟩ : ∃ t, ts[j]? = some t := ⟨_, List.getElem?_eq_getElem hlt.1⟩
      have htm : t ∈ ts := List.mem_of_getElem? ht
      obtain ⟨ab, ao, rfl, hAA⟩ := acts_at HX.out ht
      have HA := Lib.hid hAA
      have h1I : (j : Int) < (ts.length : Int) := by omega
      have h2I : (j : Int) < 120 := by omega
      have HLS := Lib.hid (fun w5 (m : LawM W w5 R q #[.slice a n c, .int .i64 r.steps, .bool r.armed, .int .i64 r.left, .bool r.down] a n c r j) => m.lstep HET.out (by omega) t (HTS.out t htm).1 (HTS.out t htm).2.1 (HTS.out t htm).2.2)
      unfold AT.cells at HLS
      rw [hp] at HLS
      clear hlt ht htm hAA
      go_upto_region 8 with (fail)
      go_cut [6, 7] (fun p6 p7 wx => ∃ h R2 a2 n2 c2 r2, p6 = .pointer (some ⟨h, 0, none⟩) ∧ p7 = .bool true ∧ R2.pb = p ∧ Hid (LawM W wx R2 q #[.slice a n c, .int .i64 r.steps, .bool r.armed, .int .i64 r.left, .bool r.down] a2 n2 c2 r2 (j + 1)) ∧ Hid (wx.heap[h]? = some (.cells #[.slice a2 n2 c2, .int .i64 r2.steps, .bool r2.armed, .int .i64 r2.left, .bool r2.down] 27 (0, 0)) ∧ W.heap.size ≤ h ∧ q ≠ h))
      case first =>
        refine wp_region_T (fun w' => lawS w' q #[.slice a n c, .int .i64 r.steps, .bool r.armed, .int .i64 r.left, .bool r.down] ab (ao + j * 6) t) [1, 5, 6, 10] (by kernel_rfl) ?_
        replace M := Lib.hid (M.out.call ((Below.refl _ _).drew))
        generalize World.drew _ = w5 at *
        refine anyT_takeY (i := 0) (v := .pointer (some ⟨p, 0, none⟩)) rfl (by kernel_rfl) (by kernel_rfl) (by kernel_rfl) (fun _ _ _ h => h) (by kernel_rfl) (Or.inl ⟨by rfl, by intro w; go_simp⟩) ?_
        try simp only [List.getElem_toArray, List.getElem_cons_succ, List.getElem_cons_zero, Act.put, List.setIfInBounds_toArray, List.set_cons_zero, List.set_cons_succ]
        refine anyT_takeY (i := 2) (v := .slice (some ⟨ab, ao, none⟩) ts.length lc) rfl (by kernel_rfl) (by kernel_rfl) (by kernel_rfl) (fun _ _ _ h => h) (by kernel_rfl) (Or.inl ⟨by rfl, by intro w; go_simp⟩) ?_
        try simp only [List.getElem_toArray, List.getElem_cons_succ, List.getElem_cons_zero, Act.put, List.setIfInBounds_toArray, List.set_cons_zero, List.set_cons_succ]
        refine anyT_takeY (i := 3) (v := .int .i64 (j : Int)) rfl (by kernel_rfl) (by kernel_rfl) (by kernel_rfl) (fun _ _ _ h => h) (by kernel_rfl) (Or.inl ⟨by rfl, by intro w; go_simp⟩) ?_
        try simp only [List.getElem_toArray, List.getElem_cons_succ, List.getElem_cons_zero, Act.put, List.setIfInBounds_toArray, List.set_cons_zero, List.set_cons_succ]
        refine anyT_takeY (i := 4) (v := .pointer (some ⟨ab, ao + j * 6, none⟩)) rfl (by kernel_rfl) (by kernel_rfl) (by kernel_rfl) (fun _ _ _ h => h) (by kernel_rfl) (Or.inl ⟨by rfl, by intro w; go_simp⟩) ?_
        try simp only [List.getElem_toArray, List.getElem_cons_succ, List.getElem_cons_zero, Act.put, List.setIfInBounds_toArray, List.set_cons_zero, List.set_cons_succ]
        refine anyT_take [6, 7, 8, 9, 11, 12] (i := 1) (v := .agg #[.slice a n c, .int .i64 r.steps, .bool r.armed, .int .i64 r.left, .bool r.down]) rfl (by kernel_rfl) (by kernel_rfl) (by kernel_rfl) (fun _ _ _ h => h) (by kernel_rfl) (agg_yields (by rfl) 27 (.tmp 4) rfl q rfl _ _ (fun _ h => h.1) Tryd.underlying27 rfl (by kernel_rfl)) (lawS_of M.out HA.out) ?_
        try simp only [List.getElem_toArray, List.getElem_cons_succ, List.getElem_cons_zero, Act.put, List.setIfInBounds_toArray, List.set_cons_zero, List.set_cons_succ]
        refine anyT_take [6, 7, 8, 9, 11, 12] (i := 5) (v := .agg #[.int .i64 t.kind, .int .i64 t.n, .string t.name, .string t.now, t.dv, t.kv]) rfl (by kernel_rfl) (by kernel_rfl) (by kernel_rfl) (fun _ _ _ h => h) (by kernel_rfl) (act_yields (by rfl) (.tmp 31) rfl ab (ao + j * 6) rfl t _ (fun _ h => h.2) Tryd.underlying33 rfl) (lawS_of M.out HA.out) ?_
        try simp only [List.getElem_toArray, List.getElem_cons_succ, List.getElem_cons_zero, Act.put, List.setIfInBounds_toArray, List.set_cons_zero, List.set_cons_succ]
        refine anyT_ready (rs := [6, 10]) (by kernel_rfl) (by simp) ?_
        refine readyT_cons rfl (fun K hK => ?_) (readyT_cons rfl (fun K hK => ?_) readyT_nil)
        · rw [if_pos (by rfl)]
          try simp only [List.getElem_toArray, List.getElem_cons_succ, List.getElem_cons_zero]
          (go_simp; (with_reducible refine (HLS.out _ M.out).mono ?_); rintro e w6 ⟨R2, a2, n2, c2, r2, rfl, hp2, hs2, hm⟩; have hkt := hs2.typed M.out.own.fs; replace M := Lib.hid hm; have HP2 := Lib.hid hp2; clear hkt hs2 hm hp2)
          refine hK _ _ (fun _ => lawS_of M.out HA.out) ?_
          clear hK K
          try simp only [List.getElem_toArray, List.getElem_cons_succ, List.getElem_cons_zero, Act.put, List.setIfInBounds_toArray, List.set_cons_zero, List.set_cons_succ]
          refine anyT_takeY (i := 7) (v := .tuple #[.agg #[.slice a2 n2 c2, .int .i64 r2.steps, .bool r2.armed, .int .i64 r2.left, .bool r2.down], .bool true]) rfl (by kernel_rfl) (by kernel_rfl) (by kernel_rfl) (fun _ _ _ h => h) (by kernel_rfl) (Or.inl ⟨by rfl, by intro w; go_simp⟩) ?_
          try simp only [List.getElem_toArray, List.getElem_cons_succ, List.getElem_cons_zero, Act.put, List.setIfInBounds_toArray, List.set_cons_zero, List.set_cons_succ]
          refine anyT_takeY (i := 8) (v := .agg #[.slice a2 n2 c2, .int .i64 r2.steps, .bool r2.armed, .int .i64 r2.left, .bool r2.down]) rfl (by kernel_rfl) (by kernel_rfl) (by kernel_rfl) (fun _ _ _ h => h) (by kernel_rfl) (Or.inl ⟨by rfl, by intro w; go_simp⟩) ?_
          try simp only [List.getElem_toArray, List.getElem_cons_succ, List.getElem_cons_zero, Act.put, List.setIfInBounds_toArray, List.set_cons_zero, List.set_cons_succ]
          refine anyT_takeY (i := 9) (v := .bool true) rfl (by kernel_rfl) (by kernel_rfl) (by kernel_rfl) (fun _ _ _ h => h) (by kernel_rfl) (Or.inl ⟨by rfl, by intro w; go_simp⟩) ?_
          try simp only [List.getElem_toArray, List.getElem_cons_succ, List.getElem_cons_zero, Act.put, List.setIfInBounds_toArray, List.set_cons_zero, List.set_cons_succ]
          refine anyT_one (i := 10) (by kernel_rfl) rfl (fun K hK => ?_)
          rw [if_pos (by rfl)]
          try simp only [List.getElem_toArray, List.getElem_cons_succ, List.getElem_cons_zero]
          (go_simp; have hb0 := below1 w6 (.cells #[.slice none 0 0, .int .i64 0, .bool false, .int .i64 0, .bool false] 27); have HH := Lib.hid (heap_alloc_new w6 (.cells #[.slice none 0 0, .int .i64 0, .bool false, .int .i64 0, .bool false] 27)); have HHE := Lib.hid (show W.heap.size ≤ w6.heap.size ∧ q ≠ w6.heap.size from ⟨M.out.below.size, Nat.ne_of_lt (Array.getElem?_eq_some_iff.1 M.out.box).1⟩); replace M := Lib.hid (M.out.call hb0); clear hb0)
          refine hK _ _ (fun _ => lawS_of M.out HA.out) ?_
          clear hK K
          try simp only [List.getElem_toArray, List.getElem_cons_succ, List.getElem_cons_zero, Act.put, List.setIfInBounds_toArray, List.set_cons_zero, List.set_cons_succ]
          obtain ⟨h, hh⟩ : ∃ h, h = w6.heap.size := ⟨_, rfl⟩
          rw [← hh] at HH HHE ⊢
          clear hh
          generalize w6.alloc (.cells #[.slice none 0 0, .int .i64 0, .bool false, .int .i64 0, .bool false] 27) = w7 at *
          refine anyT_one (i := 11) (by kernel_rfl) rfl (fun K hK => ?_)
          rw [if_pos (by rfl)]
          try simp only [List.getElem_toArray, List.getElem_cons_succ, List.getElem_cons_zero]
          (refine wp_store_row 27 (.tmp 6) (.tmp 34) rfl h #[.slice a2 n2 c2, .int .i64 r2.steps, .bool r2.armed, .int .i64 r2.left, .bool r2.down] rfl rfl 27 _ HH.out (by kernel_rfl) rfl (rs_one a2 n2 c2 ⟨[], r2.steps, r2.armed, r2.left, r2.down⟩) ?_)
          refine hK _ _ (not_mem rfl) ?_
          clear hK K
          try simp only [List.getElem_toArray, List.getElem_cons_succ, List.getElem_cons_zero, Act.put, List.setIfInBounds_toArray, List.set_cons_zero, List.set_cons_succ]
          refine anyT_takeY (i := 12) (v := .bool true) rfl (by kernel_rfl) (by kernel_rfl) (by kernel_rfl) (fun _ _ _ h => h) (by kernel_rfl) (Or.inl ⟨by rfl, by intro w; go_simp⟩) ?_
          try simp only [List.getElem_toArray, List.getElem_cons_succ, List.getElem_cons_zero, Act.put, List.setIfInBounds_toArray, List.set_cons_zero, List.set_cons_succ]
          refine anyT_done (by kernel_rfl) ?_ _
          go_wp2_with (fail)
          go_meet
          exact ⟨h, R2, a2, n2, c2, r2, rfl, rfl, by rw [HP2.out], Lib.hid (M.out.other HH.out HHE.out.1 HHE.out.2 rfl), Lib.hid ⟨setRow_heap _ _ _ _ _ _ HH.out, HHE.out⟩⟩
        · rw [if_pos (by rfl)]
          try simp only [List.getElem_toArray, List.getElem_cons_succ, List.getElem_cons_zero]
          (go_simp; have hb0 := below1 w5 (.cells #[.slice none 0 0, .int .i64 0, .bool false, .int .i64 0, .bool false] 27); have HH := Lib.hid (heap_alloc_new w5 (.cells #[.slice none 0 0, .int .i64 0, .bool false, .int .i64 0, .bool false] 27)); have HHE := Lib.hid (show W.heap.size ≤ w5.heap.size ∧ q ≠ w5.heap.size from ⟨M.out.below.size, Nat.ne_of_lt (Array.getElem?_eq_some_iff.1 M.out.box).1⟩); replace M := Lib.hid (M.out.call hb0); clear hb0)
          refine hK _ _ (fun _ => lawS_of M.out HA.out) ?_
          clear hK K
          try simp only [List.getElem_toArray, List.getElem_cons_succ, List.getElem_cons_zero, Act.put, List.setIfInBounds_toArray, List.set_cons_zero, List.set_cons_succ]
          obtain ⟨h, hh⟩ : ∃ h, h = w5.heap.size := ⟨_, rfl⟩
          rw [← hh] at HH HHE ⊢
          clear hh
          generalize w5.alloc (.cells #[.slice none 0 0, .int .i64 0, .bool false, .int .i64 0, .bool false] 27) = w5' at *
          refine anyT_one (i := 6) (by kernel_rfl) rfl (fun K hK => ?_)
          rw [if_pos (by rfl)]
          try simp only [List.getElem_toArray, List.getElem_cons_succ, List.getElem_cons_zero]
          (go_simp; (with_reducible refine (HLS.out _ M.out).mono ?_); rintro e w6 ⟨R2, a2, n2, c2, r2, rfl, hp2, hs2, hm⟩; have hkt := hs2.typed M.out.own.fs; replace M := Lib.hid hm; have HP2 := Lib.hid hp2; replace HH := Lib.hid (hkt _ _ _ HH.out (by decide) (by decide)); clear hkt hs2 hm hp2)
          refine hK _ _ (fun _ => lawS_of M.out HA.out) ?_
          clear hK K
          try simp only [List.getElem_toArray, List.getElem_cons_succ, List.getElem_cons_zero, Act.put, List.setIfInBounds_toArray, List.set_cons_zero, List.set_cons_succ]
          refine anyT_takeY (i := 7) (v := .tuple #[.agg #[.slice a2 n2 c2, .int .i64 r2.steps, .bool r2.armed, .int .i64 r2.left, .bool r2.down], .bool true]) rfl (by kernel_rfl) (by kernel_rfl) (by kernel_rfl) (fun _ _ _ h => h) (by kernel_rfl) (Or.inl ⟨by rfl, by intro w; go_simp⟩) ?_
          try simp only [List.getElem_toArray, List.getElem_cons_succ, List.getElem_cons_zero, Act.put, List.setIfInBounds_toArray, List.set_cons_zero, List.set_cons_succ]
          refine anyT_takeY (i := 8) (v := .agg #[.slice a2 n2 c2, .int .i64 r2.steps, .bool r2.armed, .int .i64 r2.left, .bool r2.down]) rfl (by kernel_rfl) (by kernel_rfl) (by kernel_rfl) (fun _ _ _ h => h) (by kernel_rfl) (Or.inl ⟨by rfl, by intro w; go_simp⟩) ?_
          try simp only [List.getElem_toArray, List.getElem_cons_succ, List.getElem_cons_zero, Act.put, List.setIfInBounds_toArray, List.set_cons_zero, List.set_cons_succ]
          refine anyT_takeY (i := 9) (v := .bool true) rfl (by kernel_rfl) (by kernel_rfl) (by kernel_rfl) (fun _ _ _ h => h) (by kernel_rfl) (Or.inl ⟨by rfl, by intro w; go_simp⟩) ?_
          try simp only [List.getElem_toArray, List.getElem_cons_succ, List.getElem_cons_zero, Act.put, List.setIfInBounds_toArray, List.set_cons_zero, List.set_cons_succ]
          refine anyT_one (i := 11) (by kernel_rfl) rfl (fun K hK => ?_)
          rw [if_pos (by rfl)]
          try simp only [List.getElem_toArray, List.getElem_cons_succ, List.getElem_cons_zero]
          (refine wp_store_row 27 (.tmp 6) (.tmp 34) rfl h #[.slice a2 n2 c2, .int .i64 r2.steps, .bool r2.armed, .int .i64 r2.left, .bool r2.down] rfl rfl 27 _ HH.out (by kernel_rfl) rfl (rs_one a2 n2 c2 ⟨[], r2.steps, r2.armed, r2.left, r2.down⟩) ?_)
          refine hK _ _ (not_mem rfl) ?_
          clear hK K
          try simp only [List.getElem_toArray, List.getElem_cons_succ, List.getElem_cons_zero, Act.put, List.setIfInBounds_toArray, List.set_cons_zero, List.set_cons_succ]
          refine anyT_takeY (i := 12) (v := .bool true) rfl (by kernel_rfl) (by kernel_rfl) (by kernel_rfl) (fun _ _ _ h => h) (by kernel_rfl) (Or.inl ⟨by rfl, by intro w; go_simp⟩) ?_
          try simp only [List.getElem_toArray, List.getElem_cons_succ, List.getElem_cons_zero, Act.put, List.setIfInBounds_toArray, List.set_cons_zero, List.set_cons_succ]
          refine anyT_done (by kernel_rfl) ?_ _
          go_wp2_with (fail)
          go_meet
          exact ⟨h, R2, a2, n2, c2, r2, rfl, rfl, by rw [HP2.out], Lib.hid (M.out.other HH.out HHE.out.1 HHE.out.2 rfl), Lib.hid ⟨setRow_heap _ _ _ _ _ _ HH.out, HHE.out⟩⟩

      case rest =>
        obtain ⟨h, R2, a2, n2, c2, r2, rfl, rfl, hp2, M, HH⟩ := hcut
        have HS1 := Lib.hid (fun w' (m : LawM W w' R2 q #[.slice a2 n2 c2, .int .i64 r2.steps, .bool r2.armed, .int .i64 r2.left, .bool r2.down] a2 n2 c2 r2 (j + 1)) => m.same HET.out (by have := HJ.out; omega))
        rw [hp2] at HS1
        go_upto_region 10 with (first
          | (refine wpList_load_row rfl 27 (.tmp 6) rfl h rfl 27 #[.slice a2 n2 c2, .int .i64 r2.steps, .bool r2.armed, .int .i64 r2.left, .bool r2.down] (0, 0) _ HH.out.1 Tryd.underlying27 rfl (by kernel_rfl) ?_)
          | (refine wpList_store_row rfl 27 (.tmp 4) (.tmp 36) rfl q #[.slice a2 n2 c2, .int .i64 r2.steps, .bool r2.armed, .int .i64 r2.left, .bool r2.down] rfl rfl 27 _ M.out.box (by kernel_rfl) rfl (rs_one a2 n2 c2 ⟨[], r2.steps, r2.armed, r2.left, r2.down⟩) ?_))
        have M2 := Lib.hid (M.out.set (C' := #[.slice a2 n2 c2, .int .i64 r2.steps, .bool r2.armed, .int .i64 r2.left, .bool r2.down]) rfl)
        generalize World.setRow _ _ _ = w7 at *
        clear M HH
        obtain ⟨g0, g1, g2, g3, g4, -⟩ := rs_cells M2.out.box
        go_wp2_with (go_at_call 10; (with_reducible refine (HS1.out _ M2.out).mono ?_); rintro e w8 ⟨rfl, hb⟩; replace M2 := Lib.hid (M2.out.call hb); clear hb)
        go_roundw
        case rel => exact ⟨j + 1, by omega, by omega, by go_num, R2, a2, n2, c2, r2, hp2, M2⟩
        case measure => simp [intOf]; omega
    · have hex : ¬ ((j : Int) < (ts.length : Int)) ∨ ¬ ((j : Int) < 120) := by omega
      have HCL := Lib.hid (fun w' (m : LawM W w' R q #[.slice a n c, .int .i64 r.steps, .bool r.armed, .int .i64 r.left, .bool r.down] a n c r j) => m.clone)
      rw [hp] at HCL
      clear HX HTS
      have HP := Lib.hid hp
      clear hp hj40
      by_cases hl1 : (j : Int) < (ts.length : Int)
      · have hl2 : ¬ ((j : Int) < 120) := by omega
        clear hex hlt hjl
        go_upto_region 13 with (go_at_call 11; (with_reducible refine (HCL.out _ M.out).mono ?_); rintro e w2 ⟨pc, Rc, rfl, hpc, hoc, hac, hdj, hdj2, hb⟩; replace M := Lib.hid (M.out.call hb); have MC := Lib.hid (M.out.twin hoc hac); have HDJ := Lib.hid hdj2; have HPC := Lib.hid hpc; clear hb hpc hoc hac hdj hdj2)
        have HS2 := Lib.hid (fun w' (m : LawM W w' Rc q #[.slice a n c, .int .i64 r.steps, .bool r.armed, .int .i64 r.left, .bool r.down] a n c r j) => m.same HET.out (by have := HJ.out; omega))
        rw [HPC.out] at HS2
        obtain ⟨g0, g1, g2, g3, g4, -⟩ := rs_cells MC.out.box
        go_upto_region 15 with (go_at_call 10; (with_reducible refine (HS2.out _ MC.out).mono ?_); rintro e w3 ⟨rfl, hb⟩; replace M := Lib.hid (M.out.call hb); replace MC := Lib.hid (MC.out.call hb); clear hb)
        clear g0 g1 g2 g3 g4 HCL
        have HST := Lib.hid (fun w' (ho : Own W.heap.size w' R) => start_abs R w' ho.fs (.slice none 0 0) [] ((show NumsIn W.heap.size w' (.slice none 0 0) [] from ⟨none, 0, rfl, Nat.le_refl _, by decide, .inl rfl⟩).keep ho))
        have HSP := Lib.hid (show R.steps < 4611686018427387904 from by have h1 := M.out.rel.steps; have h2 := M.out.num.s1; have h3 := HJ.out; have h4 : (absR R).steps = R.steps := rfl; omega)
        have HPB := Lib.hid HP.out
        rw [HP.out] at HST
        go_upto_region 16 with (go_at_call 12; (with_reducible refine (HST.out _ M.out.own).mono ?_); rintro e w4 ⟨rfl, R1, hs1, ha1⟩; have hmc := MC.out.aside M.out.own HDJ.out hs1; have HP1 := Lib.hid (hs1.pb.trans HP.out); have HA1 := Lib.hid ha1; clear HDJ; replace MC := Lib.hid hmc.1; have HO1 := Lib.hid hmc.2.1; have HDJ := Lib.hid hmc.2.2; clear hmc hs1 ha1)
        clear HST M HPB
        have HSP1 := Lib.hid (show R1.steps < 4611686018427387904 from by have h1 : (absR R1).steps = (absR R).steps := (by rw [HA1.out]; rfl); have h2 : (absR R1).steps = R1.steps := rfl; have h3 : (absR R).steps = R.steps := rfl; have := HSP.out; omega)
        have HY := Lib.hid (show BytesIn (w4.alloc (.cells #[.int .u8 120] 5 (1, 2))) (.slice (some ⟨w4.heap.size, 0, none⟩) 1 1) [120] from bytes_new w4 [120] _ (by decide))
        have HAP := Lib.hid (fun w' (h : FsAt w' R1) y (hy : BytesIn w' y [120]) => append_abs R1 w' h { data := #[111, 116, 104, 101, 114] } (by decide) y [120] hy (small_bytes (by decide)) (by decide) HSP1.out)
        rw [HP1.out] at HAP
        unfold MethPost at HAP
        obtain ⟨EA, hEA⟩ : ∃ v, v = errV (aAppend (absR R1) { data := #[111, 116, 104, 101, 114] } [120]).1 := ⟨_, rfl⟩
        rw [← hEA] at HAP
        clear hEA
        have kc := fun (w : World) (C : Array Value) (n c : Nat) => Lib.run_convert_bytes_const (P := Tryd.prog) w 30 5 C n c Tryd.underlying30 Tryd.underlying5
        obtain ⟨E1, hE1⟩ : ∃ v, v = errV (some 1) := ⟨_, rfl⟩
        have HNU := Lib.hid (show ∀ w', ErrType w' → Calls Tryd.prog 15 #[E1] w' fun e w'' => e = .returned (.int .i64 1) ∧ Below w'.heap.size w' w'' from fun w' h => by rw [hE1]; exact num_any (some 1) w' h)
        have HRN := Lib.hid (show ∀ s w', Calls Tryd.prog 14 #[.pointer none, .string s] w' fun e w'' => ∃ v, e = .returned (.tuple #[v, E1]) ∧ Below w'.heap.size w' w'' from fun s w' => by rw [hE1]; exact read_nil s w')
        have HAN := Lib.hid (show ∀ s w', Calls Tryd.prog 13 #[.pointer none, .string s, .slice none 0 0] w' fun e w'' => e = .returned E1 ∧ Below w'.heap.size w' w'' from fun s w' => by rw [hE1]; exact append_nil s w')
        have HYN := Lib.hid (show ∀ s w', Calls Tryd.prog 16 #[.pointer none, .string s] w' fun e w'' => e = .returned E1 ∧ Below w'.heap.size w' w'' from fun s w' => by rw [hE1]; exact sync_nil s w')
        have HMN := Lib.hid (show ∀ w', Calls Tryd.prog 17 #[.pointer none, .int .i64 1] w' fun e w'' => e = .returned E1 ∧ Below w'.heap.size w' w'' from fun w' => by rw [hE1]; exact arm_nil 1 (by decide) w')
        clear hE1
        go_upto_region 18 with (go_at_call 13; (with_reducible refine (HAP.out _ (HO1.out.below (below1 _ _)).fs _ HY.out).mono ?_); rintro e w5 ⟨rfl, R3, hs3, ha3⟩; have hmc := (MC.out.call (below1 w4 (.cells #[.int .u8 120] 5 (1, 2)))).aside (HO1.out.below (below1 _ _)) HDJ.out hs3; replace MC := Lib.hid hmc.1; clear hmc hs3 ha3)
        clear HAP HY HO1 HDJ kc
        go_upto_region 19 with (go_at_call 14; (with_reducible refine (HRN.out _ _).mono ?_); rintro e w6 ⟨vr, rfl, hb⟩; replace MC := Lib.hid (MC.out.call hb); clear hb)
        go_wp2_with (first
          | (refine wpList_load_row rfl 27 (.tmp 4) rfl q rfl 27 #[.slice a n c, .int .i64 r.steps, .bool r.armed, .int .i64 r.left, .bool r.down] (0, 0) _ MC.out.box Tryd.underlying27 rfl (by kernel_rfl) ?_)
          | (go_at_call 10; (with_reducible refine (HS2.out _ MC.out).mono ?_); rintro e w7 ⟨rfl, hb⟩; replace MC := Lib.hid (MC.out.call hb); clear hb)
          | (go_at_call 15; (with_reducible refine (HNU.out _ (HET.out.below MC.out.below)).mono ?_); rintro e w7 ⟨rfl, hb⟩; replace MC := Lib.hid (MC.out.call hb); clear hb)
          | (go_at_call 13; (with_reducible refine (HAN.out _ _).mono ?_); rintro e w7 ⟨rfl, hb⟩; replace MC := Lib.hid (MC.out.call hb); clear hb)
          | (go_at_call 16; (with_reducible refine (HYN.out _ _).mono ?_); rintro e w7 ⟨rfl, hb⟩; replace MC := Lib.hid (MC.out.call hb); clear hb)
          | (go_at_call 17; (with_reducible refine (HMN.out _).mono ?_); rintro e w7 ⟨rfl, hb⟩; replace MC := Lib.hid (MC.out.call hb); clear hb)
          | (go_at_call 18; (with_reducible refine (down_nil _).mono ?_); rintro e w' ⟨rfl, rfl⟩)
          | (go_at_call 19; (with_reducible refine (list_none _).mono ?_); rintro e w' ⟨rfl, rfl⟩)
          | (go_at_call 20; (with_reducible refine (steps_nil _).mono ?_); rintro e w' ⟨rfl, rfl⟩)
          | (go_at_call 11; (with_reducible refine (clone_nil4 _).mono ?_); rintro e w' ⟨rfl, rfl⟩)
          | (go_at_call 21; (with_reducible refine (sure_any _).mono ?_); rintro e w7 ⟨rfl, hb⟩; replace MC := Lib.hid (MC.out.call hb); clear hb))
        go_ret
        exact ⟨rfl, MC.out.below⟩
      · clear hex hlt hjl
        go_upto_region 13 with (go_at_call 11; (with_reducible refine (HCL.out _ M.out).mono ?_); rintro e w2 ⟨pc, Rc, rfl, hpc, hoc, hac, hdj, hdj2, hb⟩; replace M := Lib.hid (M.out.call hb); have MC := Lib.hid (M.out.twin hoc hac); have HDJ := Lib.hid hdj2; have HPC := Lib.hid hpc; clear hb hpc hoc hac hdj hdj2)
        have HS2 := Lib.hid (fun w' (m : LawM W w' Rc q #[.slice a n c, .int .i64 r.steps, .bool r.armed, .int .i64 r.left, .bool r.down] a n c r j) => m.same HET.out (by have := HJ.out; omega))
        rw [HPC.out] at HS2
        obtain ⟨g0, g1, g2, g3, g4, -⟩ := rs_cells MC.out.box
        go_upto_region 15 with (go_at_call 10; (with_reducible refine (HS2.out _ MC.out).mono ?_); rintro e w3 ⟨rfl, hb⟩; replace M := Lib.hid (M.out.call hb); replace MC := Lib.hid (MC.out.call hb); clear hb)
        clear g0 g1 g2 g3 g4 HCL
        have HST := Lib.hid (fun w' (ho : Own W.heap.size w' R) => start_abs R w' ho.fs (.slice none 0 0) [] ((show NumsIn W.heap.size w' (.slice none 0 0) [] from ⟨none, 0, rfl, Nat.le_refl _, by decide, .inl rfl⟩).keep ho))
        have HSP := Lib.hid (show R.steps < 4611686018427387904 from by have h1 := M.out.rel.steps; have h2 := M.out.num.s1; have h3 := HJ.out; have h4 : (absR R).steps = R.steps := rfl; omega)
        have HPB := Lib.hid HP.out
        rw [HP.out] at HST
        go_upto_region 16 with (go_at_call 12; (with_reducible refine (HST.out _ M.out.own).mono ?_); rintro e w4 ⟨rfl, R1, hs1, ha1⟩; have hmc := MC.out.aside M.out.own HDJ.out hs1; have HP1 := Lib.hid (hs1.pb.trans HP.out); have HA1 := Lib.hid ha1; clear HDJ; replace MC := Lib.hid hmc.1; have HO1 := Lib.hid hmc.2.1; have HDJ := Lib.hid hmc.2.2; clear hmc hs1 ha1)
        clear HST M HPB
        have HSP1 := Lib.hid (show R1.steps < 4611686018427387904 from by have h1 : (absR R1).steps = (absR R).steps := (by rw [HA1.out]; rfl); have h2 : (absR R1).steps = R1.steps := rfl; have h3 : (absR R).steps = R.steps := rfl; have := HSP.out; omega)
        have HY := Lib.hid (show BytesIn (w4.alloc (.cells #[.int .u8 120] 5 (1, 2))) (.slice (some ⟨w4.heap.size, 0, none⟩) 1 1) [120] from bytes_new w4 [120] _ (by decide))
        have HAP := Lib.hid (fun w' (h : FsAt w' R1) y (hy : BytesIn w' y [120]) => append_abs R1 w' h { data := #[111, 116, 104, 101, 114] } (by decide) y [120] hy (small_bytes (by decide)) (by decide) HSP1.out)
        rw [HP1.out] at HAP
        unfold MethPost at HAP
        obtain ⟨EA, hEA⟩ : ∃ v, v = errV (aAppend (absR R1) { data := #[111, 116, 104, 101, 114] } [120]).1 := ⟨_, rfl⟩
        rw [← hEA] at HAP
        clear hEA
        have kc := fun (w : World) (C : Array Value) (n c : Nat) => Lib.run_convert_bytes_const (P := Tryd.prog) w 30 5 C n c Tryd.underlying30 Tryd.underlying5
        obtain ⟨E1, hE1⟩ : ∃ v, v = errV (some 1) := ⟨_, rfl⟩
        have HNU := Lib.hid (show ∀ w', ErrType w' → Calls Tryd.prog 15 #[E1] w' fun e w'' => e = .returned (.int .i64 1) ∧ Below w'.heap.size w' w'' from fun w' h => by rw [hE1]; exact num_any (some 1) w' h)
        have HRN := Lib.hid (show ∀ s w', Calls Tryd.prog 14 #[.pointer none, .string s] w' fun e w'' => ∃ v, e = .returned (.tuple #[v, E1]) ∧ Below w'.heap.size w' w'' from fun s w' => by rw [hE1]; exact read_nil s w')
        have HAN := Lib.hid (show ∀ s w', Calls Tryd.prog 13 #[.pointer none, .string s, .slice none 0 0] w' fun e w'' => e = .returned E1 ∧ Below w'.heap.size w' w'' from fun s w' => by rw [hE1]; exact append_nil s w')
        have HYN := Lib.hid (show ∀ s w', Calls Tryd.prog 16 #[.pointer none, .string s] w' fun e w'' => e = .returned E1 ∧ Below w'.heap.size w' w'' from fun s w' => by rw [hE1]; exact sync_nil s w')
        have HMN := Lib.hid (show ∀ w', Calls Tryd.prog 17 #[.pointer none, .int .i64 1] w' fun e w'' => e = .returned E1 ∧ Below w'.heap.size w' w'' from fun w' => by rw [hE1]; exact arm_nil 1 (by decide) w')
        clear hE1
        go_upto_region 18 with (go_at_call 13; (with_reducible refine (HAP.out _ (HO1.out.below (below1 _ _)).fs _ HY.out).mono ?_); rintro e w5 ⟨rfl, R3, hs3, ha3⟩; have hmc := (MC.out.call (below1 w4 (.cells #[.int .u8 120] 5 (1, 2)))).aside (HO1.out.below (below1 _ _)) HDJ.out hs3; replace MC := Lib.hid hmc.1; clear hmc hs3 ha3)
        clear HAP HY HO1 HDJ kc
        go_upto_region 19 with (go_at_call 14; (with_reducible refine (HRN.out _ _).mono ?_); rintro e w6 ⟨vr, rfl, hb⟩; replace MC := Lib.hid (MC.out.call hb); clear hb)
        go_wp2_with (first
          | (refine wpList_load_row rfl 27 (.tmp 4) rfl q rfl 27 #[.slice a n c, .int .i64 r.steps, .bool r.armed, .int .i64 r.left, .bool r.down] (0, 0) _ MC.out.box Tryd.underlying27 rfl (by kernel_rfl) ?_)
          | (go_at_call 10; (with_reducible refine (HS2.out _ MC.out).mono ?_); rintro e w7 ⟨rfl, hb⟩; replace MC := Lib.hid (MC.out.call hb); clear hb)
          | (go_at_call 15; (with_reducible refine (HNU.out _ (HET.out.below MC.out.below)).mono ?_); rintro e w7 ⟨rfl, hb⟩; replace MC := Lib.hid (MC.out.call hb); clear hb)
          | (go_at_call 13; (with_reducible refine (HAN.out _ _).mono ?_); rintro e w7 ⟨rfl, hb⟩; replace MC := Lib.hid (MC.out.call hb); clear hb)
          | (go_at_call 16; (with_reducible refine (HYN.out _ _).mono ?_); rintro e w7 ⟨rfl, hb⟩; replace MC := Lib.hid (MC.out.call hb); clear hb)
          | (go_at_call 17; (with_reducible refine (HMN.out _).mono ?_); rintro e w7 ⟨rfl, hb⟩; replace MC := Lib.hid (MC.out.call hb); clear hb)
          | (go_at_call 18; (with_reducible refine (down_nil _).mono ?_); rintro e w' ⟨rfl, rfl⟩)
          | (go_at_call 19; (with_reducible refine (list_none _).mono ?_); rintro e w' ⟨rfl, rfl⟩)
          | (go_at_call 20; (with_reducible refine (steps_nil _).mono ?_); rintro e w' ⟨rfl, rfl⟩)
          | (go_at_call 11; (with_reducible refine (clone_nil4 _).mono ?_); rintro e w' ⟨rfl, rfl⟩)
          | (go_at_call 21; (with_reducible refine (sure_any _).mono ?_); rintro e w7 ⟨rfl, hb⟩; replace MC := Lib.hid (MC.out.call hb); clear hb))
        go_ret
        exact ⟨rfl, MC.out.below⟩
end Go.Proofs.YtggcodobkmhkgaaDoor
namespace Go.Proofs.YtggcodobkmhkgaaDoor
set_option linter.unusedVariables false
set_option linter.unusedSimpArgs false
open Go.ChangeShapes Go.WideShapes Go.ChangeAt Go.RowKit
set_option maxRecDepth 100000
theorem fruns_lifted (os : Os) (started : os.Started) (H : Type) (enc : TypeId × Value → H) :
    ReturnsInHanded {} Tryd.checked os 3 .any (fun w args => (Rows.filesRunsSpec.pre enc Tryd.prog Tryd.f3 [] false w args ∧ laidMetH Tryd.prog laidErr w) ∧ sizedMet enc Tryd.prog Tryd.f3 (OpenSpec.ofChange Rows.filesRunsSpec) false w args)
      (Rows.filesRunsSpec.post enc Tryd.prog Tryd.f3 false true false false) := by
  refine returnsInHanded_of_change_and (C := Tryd.checked) (X := fun w _ => laidMetH Tryd.prog laidErr w) (fun _ _ _ hh h => h.of_heap hh) doorOwn started (by kernel_rfl) Tryd.func3
    (ChangeSpec.witness_shaped (enc := enc) (C := Tryd.checked) (os := os) (X := fun w _ => laidMetH Tryd.prog laidErr w) false (World.doorLaid Tryd.prog 400 os) #[.slice none 0 0] 8 rfl (World.shaped_of_RefB (by kernel_rfl) (by kernel_rfl)) (by kernel_rfl) (by kernel_rfl) (by kernel_rfl) (door_met os _)) ?_
  intro W base args ds gs before hval0 hW _ hsz0 hL _
  have hsz : (DataW.weightsEach Tryd.prog (Tryd.f3.params.toList ++ Rows.filesRunsSpec.plain.varTypes Tryd.prog) (ds ++ gs)).all (· ≤ reachBytes) = true := hsz0
  clear hsz0
  have hval : ∀ (j : Nat) t v, Tryd.f3.params[j]? = some t → args[j]? = some v → Value.okWide Tryd.prog W .any base t v := hval0
  have hW' := hW
  obtain ⟨p, q, hA0, hV, rfl, hfz, hnd⟩ := hW
  have hA : DataW.TrodAll enc Tryd.prog W 0 (fun _ => true) true Tryd.f3.params.toList args.toList ds p := hA0
  rw [Tryd.params3] at hA hval hsz
  obtain ⟨v0, vs0, d0, ds0, p0, q0, hargs, rfl, rfl, h0, r0⟩ := trodAll_cons hA
  obtain ⟨rfl, rfl, rfl⟩ := trodAll_nil r0
  obtain rfl : args = #[v0] := by cases args; simp_all
  obtain ⟨rfl, rfl⟩ := trodVars_none hV
  obtain ⟨a0, len0, cap0, rfl⟩ := okWide_slice Tryd.underlying22 (hval 0 22 v0 rfl rfl)
  have k0 := h0
  have lt0 : ∀ x ∈ p0, x.block < W.heap.size := by obtain ⟨m, hm⟩ := k0; exact DataW.trod_lt m _ _ _ hm
  obtain ⟨ts0, hxl0, hx0, hk0, hbk0, hws0⟩ := acts_arg h0
  have hlen0 := hws0 _ _ 0 (by rfl) (by rfl) hsz
  clear hA0 hval0
  refine (lfruns_any _ ts0 W (err_of_laid hL) hx0 (fun t h => ⟨hk0 t h, hlen0 t h⟩)).mono fun e W' ⟨he, bel⟩ => ?_
  subst he
  exact ⟨_, rfl, _, _, _, [], _, [], hW', trodAll_mk1 (shut_bool Tryd.underlying4 _), (trodAll_cons_mk (Below.trod doorLaidOut (by kernel_rfl) (of_decide_eq_true (by kernel_rfl)) k0 bel lt0) trodAll_mk0), rfl, bel.frame _, fun h => by cases h⟩
theorem fruns_holds : Rows.FilesRunsSaid :=
  OpenClaim.holds_of_wide 3 Tryd.f3 rfl rfl rfl rfl rfl rfl rfl ⟨rfl, rfl, rfl, rfl, rfl⟩ rfl rfl rfl rfl rfl (by kernel_rfl) Tryd.func3 (by kernel_rfl)
    (of_decide_eq_true (by kernel_rfl)) (by unfold Func.isWrapper; first | (rw [if_pos (by decide +kernel)]; kernel_rfl) | (rw [if_neg (by decide +kernel)]; exact ⟨rfl, rfl⟩))
    (fun os started H enc _ => fruns_lifted os started H enc)
theorem fruns_card : Rows.FilesRunsCardSaid :=
  Claim7.holds_tied_plain_at .later [] [.handle] true _ true
    fruns_holds (fun _ h => by cases h) (by kernel_rfl) (fun _ h => by cases h) filesRuns_row_tie rfl ⟨rfl, rfl⟩ (by kernel_rfl) rfl
    (fun f fn hf hfn => by
      obtain rfl : f = 3 := Option.some.inj ((show Tryd.prog.funcNamed "isthmus/isthmuslaw04.FilesRuns" = some 3 by kernel_rfl).symm.trans hf) |>.symm
      obtain rfl : fn = Tryd.f3 := (Option.some.inj (Tryd.func3.symm.trans hfn)).symm
      exact ⟨by kernel_rfl, fun j t ht => by
        rw [Tryd.params3] at ht
        have hm : t ∈ [22] := by simpa using Array.mem_of_getElem? ht
        have hall : ([22].all fun u => !Tryd.prog.wantsStandIn u) = true := by kernel_rfl
        exact (show Tryd.prog.wantsStandIn t = false by simpa using List.all_eq_true.1 hall t hm)⟩)
    (by kernel_rfl)
#print axioms fruns_card
end Go.Proofs.YtggcodobkmhkgaaDoor
