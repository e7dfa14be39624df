/- WotsFrom: the walk. -/
import Derived.Test.YtlgjeledcnhmnaaDoorWoFrL
namespace Go.Proofs.YtlgjeledcnhmnaaDoor
open Go.RowKit
set_option maxRecDepth 100000
set_option maxHeartbeats 8000000 in
theorem lfrom_any (F : Nat → Int) (leaf : Int) (v vo : Value) (xs ys : List Int) (s0 s1 s2 : Int) (w : World) (he : Env w) (het : ErrType w) (hx : BytesIn w v xs) (hy : BytesIn w vo ys) (hbx : bytesOk xs) (hlx : xs.length ≤ 140737488355328) (hly : ys.length ≤ 140737488355328) :
    Calls Tryd.prog 4 #[vo, .agg (caseC F leaf v), .agg #[.int .i64 s0, .int .i64 s1, .int .i64 s2]] w fun e w' => e = .returned (.bool true) ∧ Below w.heap.size w w' := by
  have M := Lib.hid (frl_start (F := F) (leaf := leaf) (s0 := s0) (s1 := s1) (s2 := s2) he het hx hy)
  have HXB := Lib.hid hbx
  have HLX := Lib.hid hlx
  have HLY := Lib.hid hly
  obtain ⟨R, hR⟩ : ∃ R, R = (fromR ys leaf xs).1 := ⟨_, rfl⟩
  obtain ⟨c, hc⟩ : ∃ c, c = (fromR ys leaf xs).2 := ⟨_, rfl⟩
  have HRc := Lib.hid hc.symm
  have HR := Lib.hid hR.symm
  clear he het hx hy hbx hlx hly hR hc
  go_enter Tryd.func4, Tryd.ntmps4
  go_upto_region 1 with (fail)
  generalize (w.alloc (.cells (caseC F leaf v) 26)).alloc (.cells #[.int .i64 s0, .int .i64 s1, .int .i64 s2] 47) = w1 at *
  go_cut [7, 8] (fun p7 e8 wx => ∃ g7, p7 = .pointer (some ⟨g7, 0, none⟩) ∧ e8 = errV c ∧ Hid (FrL w wx F leaf v xs vo ys s0 s1 s2) ∧ Hid (RowAt wx g7 .u8 32 23 R))
  case first =>
    refine wp_region_T (fun w' => FrL w w' F leaf v xs vo ys s0 s1 s2) [1, 3, 5, 6, 7, 11] (by kernel_rfl) ?_
    replace M := Lib.hid (M.out.call (Below.refl _ _).drew)
    generalize w1.drew = w7 at *
    have M7 := M
    have HBW := Lib.hid (Below.refl w7.heap.size w7)
    refine anyT_takeY (i := 0) (v := vo) rfl (by kernel_rfl) (by kernel_rfl) (by kernel_rfl) (fun _ _ _ h => h) (by kernel_rfl) (Or.inl ⟨by rfl, by intro w; go_simp⟩) ?_
    try simp only [List.getElem_toArray, List.getElem_cons_succ, List.getElem_cons_zero, Act.put, List.setIfInBounds_toArray, List.set_cons_zero, List.set_cons_succ]
    refine anyT_takeY (i := 2) (v := .pointer (some ⟨w.heap.size, 32, none⟩)) rfl (by kernel_rfl) (by kernel_rfl) (by kernel_rfl) (fun _ _ _ h => h) (by kernel_rfl) (Or.inl ⟨by rfl, by intro w; go_simp⟩) ?_
    try simp only [List.getElem_toArray, List.getElem_cons_succ, List.getElem_cons_zero, Act.put, List.setIfInBounds_toArray, List.set_cons_zero, List.set_cons_succ]
    refine anyT_takeY (i := 4) (v := .pointer (some ⟨w.heap.size, 33, none⟩)) rfl (by kernel_rfl) (by kernel_rfl) (by kernel_rfl) (fun _ _ _ h => h) (by kernel_rfl) (Or.inl ⟨by rfl, by intro w; go_simp⟩) ?_
    try simp only [List.getElem_toArray, List.getElem_cons_succ, List.getElem_cons_zero, Act.put, List.setIfInBounds_toArray, List.set_cons_zero, List.set_cons_succ]
    refine anyT_take [7, 8, 9, 10, 12, 13] (i := 3) (v := .int .i64 leaf) rfl (by kernel_rfl) (by kernel_rfl) (by kernel_rfl) (fun _ _ _ h => h) (by kernel_rfl) (Or.inl ⟨by rfl, fun w' hS => by have c1 := hS.m.leafc; go_simp⟩) M.out ?_
    try simp only [List.getElem_toArray, List.getElem_cons_succ, List.getElem_cons_zero, Act.put, List.setIfInBounds_toArray, List.set_cons_zero, List.set_cons_succ]
    refine anyT_take [6, 7, 8, 9, 10, 12, 13] (i := 5) (v := v) rfl (by kernel_rfl) (by kernel_rfl) (by kernel_rfl) (fun _ _ _ h => h) (by kernel_rfl) (Or.inl ⟨by rfl, fun w' hS => by have c1 := hS.m.digc; go_simp⟩) M.out ?_
    try simp only [List.getElem_toArray, List.getElem_cons_succ, List.getElem_cons_zero, Act.put, List.setIfInBounds_toArray, List.set_cons_zero, List.set_cons_succ]
    refine anyT_ready (rs := [1, 11]) (by kernel_rfl) (by simp) ?_
    refine readyT_cons rfl (fun K hK => ?_) (readyT_cons rfl (fun K hK => ?_) readyT_nil)
    · rw [if_pos (by rfl)]
      try simp only [List.getElem_toArray, List.getElem_cons_succ, List.getElem_cons_zero]
      (go_simp; refine (twin_any _ ys _ M.out.m.yin HLY.out).mono ?_; rintro e w8 ⟨vt, rfl, ho, hb⟩; have HT := Lib.hid (owns_in ho (by have := HLY.out; unfold maxLen; omega)); replace HBW := Lib.hid (HBW.out.trans (hb.mono HBW.out.size)); replace M := Lib.hid (M.out.call hb); clear ho hb)
      refine hK _ _ (fun _ => M.out) ?_
      clear hK K
      try simp only [List.getElem_toArray, List.getElem_cons_succ, List.getElem_cons_zero, Act.put, List.setIfInBounds_toArray, List.set_cons_zero, List.set_cons_succ]
      refine anyT_ready (rs := [6, 11]) (by kernel_rfl) (by simp) ?_
      refine readyT_cons rfl (fun K hK => ?_) (readyT_cons rfl (fun K hK => ?_) readyT_nil)
      · rw [if_pos (by rfl)]
        try simp only [List.getElem_toArray, List.getElem_cons_succ, List.getElem_cons_zero]
        (go_simp; refine (twin_any _ xs _ M.out.m.xin HLX.out).mono ?_; rintro e w9 ⟨vt2, rfl, ho, hb⟩; have HT2 := Lib.hid (owns_in ho (by have := HLX.out; unfold maxLen; omega)); replace HT := Lib.hid (HT.out.below hb); replace HBW := Lib.hid (HBW.out.trans (hb.mono HBW.out.size)); replace M := Lib.hid (M.out.call hb); clear ho hb)
        refine hK _ _ (fun _ => M.out) ?_
        clear hK K
        try simp only [List.getElem_toArray, List.getElem_cons_succ, List.getElem_cons_zero, Act.put, List.setIfInBounds_toArray, List.set_cons_zero, List.set_cons_succ]
        refine anyT_ready (rs := [7, 11]) (by kernel_rfl) (by simp) ?_
        refine readyT_cons rfl (fun K hK => ?_) (readyT_cons rfl (fun K hK => ?_) readyT_nil)
        · rw [if_pos (by rfl)]
          try simp only [List.getElem_toArray, List.getElem_cons_succ, List.getElem_cons_zero]
          (go_simp; refine (wfrom_any vt ys leaf vt2 xs _ M.out.m.env HT.out HT2.out HXB.out).mono ?_; rintro e w10 ⟨rfl, hb⟩; rw [HR.out, HRc.out]; replace HBW := Lib.hid (HBW.out.trans (hb.mono HBW.out.size)); replace M := Lib.hid (M.out.call hb); clear hb)
          refine hK _ _ (fun _ => M.out) ?_
          clear hK K
          try simp only [List.getElem_toArray, List.getElem_cons_succ, List.getElem_cons_zero, Act.put, List.setIfInBounds_toArray, List.set_cons_zero, List.set_cons_succ]
          refine anyT_takeY (i := 8) (v := .tuple #[.agg (rowOf .u8 32 R), errV c]) rfl (by kernel_rfl) (by kernel_rfl) (by kernel_rfl) (fun _ _ _ h => h) (by kernel_rfl) (Or.inl ⟨by rfl, by intro w; go_simp⟩) ?_
          try simp only [List.getElem_toArray, List.getElem_cons_succ, List.getElem_cons_zero, Act.put, List.setIfInBounds_toArray, List.set_cons_zero, List.set_cons_succ]
          refine anyT_takeY (i := 9) (v := .agg (rowOf .u8 32 R)) rfl (by kernel_rfl) (by kernel_rfl) (by kernel_rfl) (fun _ _ _ h => h) (by kernel_rfl) (Or.inl ⟨by rfl, by intro w; go_simp⟩) ?_
          try simp only [List.getElem_toArray, List.getElem_cons_succ, List.getElem_cons_zero, Act.put, List.setIfInBounds_toArray, List.set_cons_zero, List.set_cons_succ]
          refine anyT_takeY (i := 10) (v := errV c) rfl (by kernel_rfl) (by kernel_rfl) (by kernel_rfl) (fun _ _ _ h => h) (by kernel_rfl) (Or.inl ⟨by rfl, by intro w; go_simp⟩) ?_
          try simp only [List.getElem_toArray, List.getElem_cons_succ, List.getElem_cons_zero, Act.put, List.setIfInBounds_toArray, List.set_cons_zero, List.set_cons_succ]
          refine anyT_one (i := 11) (by kernel_rfl) rfl (fun K hK => ?_)
          rw [if_pos (by rfl)]
          try simp only [List.getElem_toArray, List.getElem_cons_succ, List.getElem_cons_zero]
          (go_simp; have R9 := Lib.hid (RowAt.new w10 .u8 32 23 zF); have HS9 := Lib.hid HBW.out.size; replace HBW := Lib.hid (HBW.out.trans ((below_alloc w10 (.cells (rowOf .u8 32 zF) 23)).mono HBW.out.size)); replace M := Lib.hid (M.out.call (below_alloc w10 (.cells (rowOf .u8 32 zF) 23))))
          refine hK _ _ (fun _ => M.out) ?_
          clear hK K
          try simp only [List.getElem_toArray, List.getElem_cons_succ, List.getElem_cons_zero, Act.put, List.setIfInBounds_toArray, List.set_cons_zero, List.set_cons_succ]
          rw [zeros32']
          obtain ⟨g9, hg9⟩ : ∃ g9, g9 = w10.heap.size := ⟨_, rfl⟩
          have HG9 := Lib.hid (show w7.heap.size ≤ g9 by rw [hg9]; exact HS9.out)
          rw [← hg9] at R9 ⊢
          generalize w10.alloc (.cells (rowOf .u8 32 zF) 23) = w11 at *
          clear hg9
          refine anyT_one (i := 12) (by kernel_rfl) rfl (fun K hK => ?_)
          rw [if_pos (by rfl)]
          try simp only [List.getElem_toArray, List.getElem_cons_succ, List.getElem_cons_zero]
          (refine wp_store_row 23 (.tmp 7) (.tmp 22) rfl g9 (rowOf .u8 32 R) rfl rfl 23 _ R9.out (by rw [rowOf_size]; kernel_rfl) (by rw [rowOf_size, rowOf_size]) (rowOf_one _ _ _) ?_)
          refine hK _ _ (not_mem rfl) ?_
          clear hK K
          try simp only [List.getElem_toArray, List.getElem_cons_succ, List.getElem_cons_zero, Act.put, List.setIfInBounds_toArray, List.set_cons_zero, List.set_cons_succ]
          refine anyT_takeY (i := 13) (v := errV c) rfl (by kernel_rfl) (by kernel_rfl) (by kernel_rfl) (fun _ _ _ h => h) (by kernel_rfl) (Or.inl ⟨by rfl, by intro w; go_simp⟩) ?_
          try simp only [List.getElem_toArray, List.getElem_cons_succ, List.getElem_cons_zero, Act.put, List.setIfInBounds_toArray, List.set_cons_zero, List.set_cons_succ]
          refine anyT_done (by kernel_rfl) ?_ _
          go_wp2_with (fail)
          go_meet
          have MF := M7.out.call (below_setRow HBW.out HG9.out (rowOf .u8 32 R))
          exact ⟨g9, rfl, rfl, Lib.hid MF, Lib.hid (setRow_heap _ _ _ _ _ _ R9.out)⟩
        · rw [if_pos (by rfl)]
          try simp only [List.getElem_toArray, List.getElem_cons_succ, List.getElem_cons_zero]
          (go_simp; have R9 := Lib.hid (RowAt.new w9 .u8 32 23 zF); have HS9 := Lib.hid HBW.out.size; replace HT := Lib.hid (HT.out.below (below_alloc w9 (.cells (rowOf .u8 32 zF) 23))); replace HT2 := Lib.hid (HT2.out.below (below_alloc w9 (.cells (rowOf .u8 32 zF) 23))); replace HBW := Lib.hid (HBW.out.trans ((below_alloc w9 (.cells (rowOf .u8 32 zF) 23)).mono HBW.out.size)); replace M := Lib.hid (M.out.call (below_alloc w9 (.cells (rowOf .u8 32 zF) 23))))
          refine hK _ _ (fun _ => M.out) ?_
          clear hK K
          try simp only [List.getElem_toArray, List.getElem_cons_succ, List.getElem_cons_zero, Act.put, List.setIfInBounds_toArray, List.set_cons_zero, List.set_cons_succ]
          rw [zeros32']
          obtain ⟨g9, hg9⟩ : ∃ g9, g9 = w9.heap.size := ⟨_, rfl⟩
          have HG9 := Lib.hid (show w7.heap.size ≤ g9 by rw [hg9]; exact HS9.out)
          rw [← hg9] at R9 ⊢
          generalize w9.alloc (.cells (rowOf .u8 32 zF) 23) = w10 at *
          clear hg9
          refine anyT_one (i := 7) (by kernel_rfl) rfl (fun K hK => ?_)
          rw [if_pos (by rfl)]
          try simp only [List.getElem_toArray, List.getElem_cons_succ, List.getElem_cons_zero]
          (go_simp; refine (wfrom_any vt ys leaf vt2 xs _ M.out.m.env HT.out HT2.out HXB.out).mono ?_; rintro e w11 ⟨rfl, hb⟩; rw [HR.out, HRc.out]; replace R9 := Lib.hid (R9.out.below hb R9.out.lt); replace HBW := Lib.hid (HBW.out.trans (hb.mono HBW.out.size)); replace M := Lib.hid (M.out.call hb); clear hb)
          refine hK _ _ (fun _ => M.out) ?_
          clear hK K
          try simp only [List.getElem_toArray, List.getElem_cons_succ, List.getElem_cons_zero, Act.put, List.setIfInBounds_toArray, List.set_cons_zero, List.set_cons_succ]
          refine anyT_takeY (i := 8) (v := .tuple #[.agg (rowOf .u8 32 R), errV c]) rfl (by kernel_rfl) (by kernel_rfl) (by kernel_rfl) (fun _ _ _ h => h) (by kernel_rfl) (Or.inl ⟨by rfl, by intro w; go_simp⟩) ?_
          try simp only [List.getElem_toArray, List.getElem_cons_succ, List.getElem_cons_zero, Act.put, List.setIfInBounds_toArray, List.set_cons_zero, List.set_cons_succ]
          refine anyT_takeY (i := 9) (v := .agg (rowOf .u8 32 R)) rfl (by kernel_rfl) (by kernel_rfl) (by kernel_rfl) (fun _ _ _ h => h) (by kernel_rfl) (Or.inl ⟨by rfl, by intro w; go_simp⟩) ?_
          try simp only [List.getElem_toArray, List.getElem_cons_succ, List.getElem_cons_zero, Act.put, List.setIfInBounds_toArray, List.set_cons_zero, List.set_cons_succ]
          refine anyT_takeY (i := 10) (v := errV c) rfl (by kernel_rfl) (by kernel_rfl) (by kernel_rfl) (fun _ _ _ h => h) (by kernel_rfl) (Or.inl ⟨by rfl, by intro w; go_simp⟩) ?_
          try simp only [List.getElem_toArray, List.getElem_cons_succ, List.getElem_cons_zero, Act.put, List.setIfInBounds_toArray, List.set_cons_zero, List.set_cons_succ]
          refine anyT_one (i := 12) (by kernel_rfl) rfl (fun K hK => ?_)
          rw [if_pos (by rfl)]
          try simp only [List.getElem_toArray, List.getElem_cons_succ, List.getElem_cons_zero]
          (refine wp_store_row 23 (.tmp 7) (.tmp 22) rfl g9 (rowOf .u8 32 R) rfl rfl 23 _ R9.out (by rw [rowOf_size]; kernel_rfl) (by rw [rowOf_size, rowOf_size]) (rowOf_one _ _ _) ?_)
          refine hK _ _ (not_mem rfl) ?_
          clear hK K
          try simp only [List.getElem_toArray, List.getElem_cons_succ, List.getElem_cons_zero, Act.put, List.setIfInBounds_toArray, List.set_cons_zero, List.set_cons_succ]
          refine anyT_takeY (i := 13) (v := errV c) rfl (by kernel_rfl) (by kernel_rfl) (by kernel_rfl) (fun _ _ _ h => h) (by kernel_rfl) (Or.inl ⟨by rfl, by intro w; go_simp⟩) ?_
          try simp only [List.getElem_toArray, List.getElem_cons_succ, List.getElem_cons_zero, Act.put, List.setIfInBounds_toArray, List.set_cons_zero, List.set_cons_succ]
          refine anyT_done (by kernel_rfl) ?_ _
          go_wp2_with (fail)
          go_meet
          have MF := M7.out.call (below_setRow HBW.out HG9.out (rowOf .u8 32 R))
          exact ⟨g9, rfl, rfl, Lib.hid MF, Lib.hid (setRow_heap _ _ _ _ _ _ R9.out)⟩
      · rw [if_pos (by rfl)]
        try simp only [List.getElem_toArray, List.getElem_cons_succ, List.getElem_cons_zero]
        (go_simp; have R9 := Lib.hid (RowAt.new w8 .u8 32 23 zF); have HS9 := Lib.hid HBW.out.size; replace HT := Lib.hid (HT.out.below (below_alloc w8 (.cells (rowOf .u8 32 zF) 23))); replace HBW := Lib.hid (HBW.out.trans ((below_alloc w8 (.cells (rowOf .u8 32 zF) 23)).mono HBW.out.size)); replace M := Lib.hid (M.out.call (below_alloc w8 (.cells (rowOf .u8 32 zF) 23))))
        refine hK _ _ (fun _ => M.out) ?_
        clear hK K
        try simp only [List.getElem_toArray, List.getElem_cons_succ, List.getElem_cons_zero, Act.put, List.setIfInBounds_toArray, List.set_cons_zero, List.set_cons_succ]
        rw [zeros32']
        obtain ⟨g9, hg9⟩ : ∃ g9, g9 = w8.heap.size := ⟨_, rfl⟩
        have HG9 := Lib.hid (show w7.heap.size ≤ g9 by rw [hg9]; exact HS9.out)
        rw [← hg9] at R9 ⊢
        generalize w8.alloc (.cells (rowOf .u8 32 zF) 23) = w9 at *
        clear hg9
        refine anyT_one (i := 6) (by kernel_rfl) rfl (fun K hK => ?_)
        rw [if_pos (by rfl)]
        try simp only [List.getElem_toArray, List.getElem_cons_succ, List.getElem_cons_zero]
        (go_simp; refine (twin_any _ xs _ M.out.m.xin HLX.out).mono ?_; rintro e w10 ⟨vt2, rfl, ho, hb⟩; have HT2 := Lib.hid (owns_in ho (by have := HLX.out; unfold maxLen; omega)); replace HT := Lib.hid (HT.out.below hb); replace R9 := Lib.hid (R9.out.below hb R9.out.lt); replace HBW := Lib.hid (HBW.out.trans (hb.mono HBW.out.size)); replace M := Lib.hid (M.out.call hb); clear ho hb)
        refine hK _ _ (fun _ => M.out) ?_
        clear hK K
        try simp only [List.getElem_toArray, List.getElem_cons_succ, List.getElem_cons_zero, Act.put, List.setIfInBounds_toArray, List.set_cons_zero, List.set_cons_succ]
        refine anyT_one (i := 7) (by kernel_rfl) rfl (fun K hK => ?_)
        rw [if_pos (by rfl)]
        try simp only [List.getElem_toArray, List.getElem_cons_succ, List.getElem_cons_zero]
        (go_simp; refine (wfrom_any vt ys leaf vt2 xs _ M.out.m.env HT.out HT2.out HXB.out).mono ?_; rintro e w11 ⟨rfl, hb⟩; rw [HR.out, HRc.out]; replace R9 := Lib.hid (R9.out.below hb R9.out.lt); replace HBW := Lib.hid (HBW.out.trans (hb.mono HBW.out.size)); replace M := Lib.hid (M.out.call hb); clear hb)
        refine hK _ _ (fun _ => M.out) ?_
        clear hK K
        try simp only [List.getElem_toArray, List.getElem_cons_succ, List.getElem_cons_zero, Act.put, List.setIfInBounds_toArray, List.set_cons_zero, List.set_cons_succ]
        refine anyT_takeY (i := 8) (v := .tuple #[.agg (rowOf .u8 32 R), errV c]) rfl (by kernel_rfl) (by kernel_rfl) (by kernel_rfl) (fun _ _ _ h => h) (by kernel_rfl) (Or.inl ⟨by rfl, by intro w; go_simp⟩) ?_
        try simp only [List.getElem_toArray, List.getElem_cons_succ, List.getElem_cons_zero, Act.put, List.setIfInBounds_toArray, List.set_cons_zero, List.set_cons_succ]
        refine anyT_takeY (i := 9) (v := .agg (rowOf .u8 32 R)) rfl (by kernel_rfl) (by kernel_rfl) (by kernel_rfl) (fun _ _ _ h => h) (by kernel_rfl) (Or.inl ⟨by rfl, by intro w; go_simp⟩) ?_
        try simp only [List.getElem_toArray, List.getElem_cons_succ, List.getElem_cons_zero, Act.put, List.setIfInBounds_toArray, List.set_cons_zero, List.set_cons_succ]
        refine anyT_takeY (i := 10) (v := errV c) rfl (by kernel_rfl) (by kernel_rfl) (by kernel_rfl) (fun _ _ _ h => h) (by kernel_rfl) (Or.inl ⟨by rfl, by intro w; go_simp⟩) ?_
        try simp only [List.getElem_toArray, List.getElem_cons_succ, List.getElem_cons_zero, Act.put, List.setIfInBounds_toArray, List.set_cons_zero, List.set_cons_succ]
        refine anyT_one (i := 12) (by kernel_rfl) rfl (fun K hK => ?_)
        rw [if_pos (by rfl)]
        try simp only [List.getElem_toArray, List.getElem_cons_succ, List.getElem_cons_zero]
        (refine wp_store_row 23 (.tmp 7) (.tmp 22) rfl g9 (rowOf .u8 32 R) rfl rfl 23 _ R9.out (by rw [rowOf_size]; kernel_rfl) (by rw [rowOf_size, rowOf_size]) (rowOf_one _ _ _) ?_)
        refine hK _ _ (not_mem rfl) ?_
        clear hK K
        try simp only [List.getElem_toArray, List.getElem_cons_succ, List.getElem_cons_zero, Act.put, List.setIfInBounds_toArray, List.set_cons_zero, List.set_cons_succ]
        refine anyT_takeY (i := 13) (v := errV c) rfl (by kernel_rfl) (by kernel_rfl) (by kernel_rfl) (fun _ _ _ h => h) (by kernel_rfl) (Or.inl ⟨by rfl, by intro w; go_simp⟩) ?_
        try simp only [List.getElem_toArray, List.getElem_cons_succ, List.getElem_cons_zero, Act.put, List.setIfInBounds_toArray, List.set_cons_zero, List.set_cons_succ]
        refine anyT_done (by kernel_rfl) ?_ _
        go_wp2_with (fail)
        go_meet
        have MF := M7.out.call (below_setRow HBW.out HG9.out (rowOf .u8 32 R))
        exact ⟨g9, rfl, rfl, Lib.hid MF, Lib.hid (setRow_heap _ _ _ _ _ _ R9.out)⟩
    · rw [if_pos (by rfl)]
      try simp only [List.getElem_toArray, List.getElem_cons_succ, List.getElem_cons_zero]
      (go_simp; have R9 := Lib.hid (RowAt.new w7 .u8 32 23 zF); have HS9 := Lib.hid HBW.out.size; replace HBW := Lib.hid (HBW.out.trans ((below_alloc w7 (.cells (rowOf .u8 32 zF) 23)).mono HBW.out.size)); replace M := Lib.hid (M.out.call (below_alloc w7 (.cells (rowOf .u8 32 zF) 23))))
      refine hK _ _ (fun _ => M.out) ?_
      clear hK K
      try simp only [List.getElem_toArray, List.getElem_cons_succ, List.getElem_cons_zero, Act.put, List.setIfInBounds_toArray, List.set_cons_zero, List.set_cons_succ]
      rw [zeros32']
      obtain ⟨g9, hg9⟩ : ∃ g9, g9 = w7.heap.size := ⟨_, rfl⟩
      have HG9 := Lib.hid (show w7.heap.size ≤ g9 by rw [hg9]; exact HS9.out)
      rw [← hg9] at R9 ⊢
      generalize w7.alloc (.cells (rowOf .u8 32 zF) 23) = w8 at *
      clear hg9
      refine anyT_one (i := 1) (by kernel_rfl) rfl (fun K hK => ?_)
      rw [if_pos (by rfl)]
      try simp only [List.getElem_toArray, List.getElem_cons_succ, List.getElem_cons_zero]
      (go_simp; refine (twin_any _ ys _ M.out.m.yin HLY.out).mono ?_; rintro e w9 ⟨vt, rfl, ho, hb⟩; have HT := Lib.hid (owns_in ho (by have := HLY.out; unfold maxLen; omega)); replace R9 := Lib.hid (R9.out.below hb R9.out.lt); replace HBW := Lib.hid (HBW.out.trans (hb.mono HBW.out.size)); replace M := Lib.hid (M.out.call hb); clear ho hb)
      refine hK _ _ (fun _ => M.out) ?_
      clear hK K
      try simp only [List.getElem_toArray, List.getElem_cons_succ, List.getElem_cons_zero, Act.put, List.setIfInBounds_toArray, List.set_cons_zero, List.set_cons_succ]
      refine anyT_one (i := 6) (by kernel_rfl) rfl (fun K hK => ?_)
      rw [if_pos (by rfl)]
      try simp only [List.getElem_toArray, List.getElem_cons_succ, List.getElem_cons_zero]
      (go_simp; refine (twin_any _ xs _ M.out.m.xin HLX.out).mono ?_; rintro e w10 ⟨vt2, rfl, ho, hb⟩; have HT2 := Lib.hid (owns_in ho (by have := HLX.out; unfold maxLen; omega)); replace HT := Lib.hid (HT.out.below hb); replace R9 := Lib.hid (R9.out.below hb R9.out.lt); replace HBW := Lib.hid (HBW.out.trans (hb.mono HBW.out.size)); replace M := Lib.hid (M.out.call hb); clear ho hb)
      refine hK _ _ (fun _ => M.out) ?_
      clear hK K
      try simp only [List.getElem_toArray, List.getElem_cons_succ, List.getElem_cons_zero, Act.put, List.setIfInBounds_toArray, List.set_cons_zero, List.set_cons_succ]
      refine anyT_one (i := 7) (by kernel_rfl) rfl (fun K hK => ?_)
      rw [if_pos (by rfl)]
      try simp only [List.getElem_toArray, List.getElem_cons_succ, List.getElem_cons_zero]
      (go_simp; refine (wfrom_any vt ys leaf vt2 xs _ M.out.m.env HT.out HT2.out HXB.out).mono ?_; rintro e w11 ⟨rfl, hb⟩; rw [HR.out, HRc.out]; replace R9 := Lib.hid (R9.out.below hb R9.out.lt); replace HBW := Lib.hid (HBW.out.trans (hb.mono HBW.out.size)); replace M := Lib.hid (M.out.call hb); clear hb)
      refine hK _ _ (fun _ => M.out) ?_
      clear hK K
      try simp only [List.getElem_toArray, List.getElem_cons_succ, List.getElem_cons_zero, Act.put, List.setIfInBounds_toArray, List.set_cons_zero, List.set_cons_succ]
      refine anyT_takeY (i := 8) (v := .tuple #[.agg (rowOf .u8 32 R), errV c]) rfl (by kernel_rfl) (by kernel_rfl) (by kernel_rfl) (fun _ _ _ h => h) (by kernel_rfl) (Or.inl ⟨by rfl, by intro w; go_simp⟩) ?_
      try simp only [List.getElem_toArray, List.getElem_cons_succ, List.getElem_cons_zero, Act.put, List.setIfInBounds_toArray, List.set_cons_zero, List.set_cons_succ]
      refine anyT_takeY (i := 9) (v := .agg (rowOf .u8 32 R)) rfl (by kernel_rfl) (by kernel_rfl) (by kernel_rfl) (fun _ _ _ h => h) (by kernel_rfl) (Or.inl ⟨by rfl, by intro w; go_simp⟩) ?_
      try simp only [List.getElem_toArray, List.getElem_cons_succ, List.getElem_cons_zero, Act.put, List.setIfInBounds_toArray, List.set_cons_zero, List.set_cons_succ]
      refine anyT_takeY (i := 10) (v := errV c) rfl (by kernel_rfl) (by kernel_rfl) (by kernel_rfl) (fun _ _ _ h => h) (by kernel_rfl) (Or.inl ⟨by rfl, by intro w; go_simp⟩) ?_
      try simp only [List.getElem_toArray, List.getElem_cons_succ, List.getElem_cons_zero, Act.put, List.setIfInBounds_toArray, List.set_cons_zero, List.set_cons_succ]
      refine anyT_one (i := 12) (by kernel_rfl) rfl (fun K hK => ?_)
      rw [if_pos (by rfl)]
      try simp only [List.getElem_toArray, List.getElem_cons_succ, List.getElem_cons_zero]
      (refine wp_store_row 23 (.tmp 7) (.tmp 22) rfl g9 (rowOf .u8 32 R) rfl rfl 23 _ R9.out (by rw [rowOf_size]; kernel_rfl) (by rw [rowOf_size, rowOf_size]) (rowOf_one _ _ _) ?_)
      refine hK _ _ (not_mem rfl) ?_
      clear hK K
      try simp only [List.getElem_toArray, List.getElem_cons_succ, List.getElem_cons_zero, Act.put, List.setIfInBounds_toArray, List.set_cons_zero, List.set_cons_succ]
      refine anyT_takeY (i := 13) (v := errV c) rfl (by kernel_rfl) (by kernel_rfl) (by kernel_rfl) (fun _ _ _ h => h) (by kernel_rfl) (Or.inl ⟨by rfl, by intro w; go_simp⟩) ?_
      try simp only [List.getElem_toArray, List.getElem_cons_succ, List.getElem_cons_zero, Act.put, List.setIfInBounds_toArray, List.set_cons_zero, List.set_cons_succ]
      refine anyT_done (by kernel_rfl) ?_ _
      go_wp2_with (fail)
      go_meet
      have MF := M7.out.call (below_setRow HBW.out HG9.out (rowOf .u8 32 R))
      exact ⟨g9, rfl, rfl, Lib.hid MF, Lib.hid (setRow_heap _ _ _ _ _ _ R9.out)⟩
  case rest =>
    obtain ⟨g7, rfl, rfl, M, R7⟩ := hcut
    have c1 := M.out.m.leafc
    have c2 := M.out.m.digc
    go_upto_region 3 with (first
      | (go_at_call 22; (with_reducible refine (rfrom_any _ ys leaf _ xs _ M.out.m.yin M.out.m.xin HXB.out).mono ?_); rintro e w8 ⟨rfl, hb⟩; rw [HR.out, HRc.out]; replace R7 := Lib.hid (R7.out.below hb R7.out.lt); replace M := Lib.hid (M.out.call hb); clear hb)
      | (refine wpList_store_row rfl 23 (.tmp 9) (.tmp 31) rfl w8.heap.size (rowOf .u8 32 (R)) rfl rfl 23 _ (heap_alloc_new _ _) (by rw [rowOf_size]; kernel_rfl) rfl (rowOf_one _ _ _) ?_; rw [World.setRow_alloc_new]; have R9 := Lib.hid (RowAt.new w8 .u8 32 23 (R)); replace R7 := Lib.hid (R7.out.below (below_alloc w8 (.cells (rowOf .u8 32 (R)) 23)) R7.out.lt); replace M := Lib.hid (M.out.call (below_alloc w8 (.cells (rowOf .u8 32 (R)) 23))); generalize w8.heap.size = bR9 at *; generalize w8.alloc (.cells (rowOf .u8 32 (R)) 23) = w9 at *))
    clear c1 c2
    have c1 := M.out.m.leafc
    have d0 := M.out.st0
    have d1 := M.out.st1
    have d2 := M.out.st2
    go_upto_region 4 with (first
      | (refine wpList_load_rowmid rfl 23 (.tmp 33) rfl w.heap.size 0 rfl .u8 32 F _ M.out.m.seed Tryd.underlying23 rfl (by kernel_rfl) ?_)
      | (go_at_call 23; (with_reducible refine (wstep_any F leaf s0 s1 s2 _ M.out.m.env).mono ?_); rintro e w10 ⟨rfl, hb⟩; replace R7 := Lib.hid (R7.out.below hb R7.out.lt); replace R9 := Lib.hid (R9.out.below hb R9.out.lt); replace M := Lib.hid (M.out.call hb); clear hb)
      | (refine wpList_store_row rfl 23 (.tmp 11) (.tmp 43) rfl w10.heap.size (rowOf .u8 32 (stepF F leaf s0 s1 s2)) rfl rfl 23 _ (heap_alloc_new _ _) (by rw [rowOf_size]; kernel_rfl) rfl (rowOf_one _ _ _) ?_; rw [World.setRow_alloc_new]; have R11 := Lib.hid (RowAt.new w10 .u8 32 23 (stepF F leaf s0 s1 s2)); replace R7 := Lib.hid (R7.out.below (below_alloc w10 (.cells (rowOf .u8 32 (stepF F leaf s0 s1 s2)) 23)) R7.out.lt); replace R9 := Lib.hid (R9.out.below (below_alloc w10 (.cells (rowOf .u8 32 (stepF F leaf s0 s1 s2)) 23)) R9.out.lt); replace M := Lib.hid (M.out.call (below_alloc w10 (.cells (rowOf .u8 32 (stepF F leaf s0 s1 s2)) 23))); generalize w10.heap.size = bR11 at *; generalize w10.alloc (.cells (rowOf .u8 32 (stepF F leaf s0 s1 s2)) 23) = w11 at *))
    clear c1 d0 d1 d2
    have c1 := M.out.m.leafc
    have d0 := M.out.st0
    have d1 := M.out.st1
    have d2 := M.out.st2
    go_upto_region 5 with (first
      | (refine wpList_load_rowmid rfl 23 (.tmp 44) rfl w.heap.size 0 rfl .u8 32 F _ M.out.m.seed Tryd.underlying23 rfl (by kernel_rfl) ?_)
      | (go_at_call 24; (with_reducible refine (rstep_any F leaf s0 s1 s2 _).mono ?_); rintro e w12 ⟨rfl, hb⟩; replace R7 := Lib.hid (R7.out.below hb R7.out.lt); replace R9 := Lib.hid (R9.out.below hb R9.out.lt); replace R11 := Lib.hid (R11.out.below hb R11.out.lt); replace M := Lib.hid (M.out.call hb); clear hb)
      | (refine wpList_store_row rfl 23 (.tmp 12) (.tmp 54) rfl w12.heap.size (rowOf .u8 32 (stepF F leaf s0 s1 s2)) rfl rfl 23 _ (heap_alloc_new _ _) (by rw [rowOf_size]; kernel_rfl) rfl (rowOf_one _ _ _) ?_; rw [World.setRow_alloc_new]; have R12 := Lib.hid (RowAt.new w12 .u8 32 23 (stepF F leaf s0 s1 s2)); replace R7 := Lib.hid (R7.out.below (below_alloc w12 (.cells (rowOf .u8 32 (stepF F leaf s0 s1 s2)) 23)) R7.out.lt); replace R9 := Lib.hid (R9.out.below (below_alloc w12 (.cells (rowOf .u8 32 (stepF F leaf s0 s1 s2)) 23)) R9.out.lt); replace R11 := Lib.hid (R11.out.below (below_alloc w12 (.cells (rowOf .u8 32 (stepF F leaf s0 s1 s2)) 23)) R11.out.lt); replace M := Lib.hid (M.out.call (below_alloc w12 (.cells (rowOf .u8 32 (stepF F leaf s0 s1 s2)) 23))); generalize w12.heap.size = bR12 at *; generalize w12.alloc (.cells (rowOf .u8 32 (stepF F leaf s0 s1 s2)) 23) = w13 at *))
    clear c1 d0 d1 d2
    have heq1 := eq32_self R
    have heq2 := eq32_self (stepF F leaf s0 s1 s2)
    have hne : (numE c == numE c) = true := by simp
    go_wp2_with (first
      | (refine wpList_load_row_want rfl 23 (.tmp 7) rfl g7 rfl .u8 32 R _ R7.out Tryd.underlying23 rfl (by kernel_rfl) ?_)
      | (refine wpList_load_row_want rfl 23 (.tmp 9) rfl bR9 rfl .u8 32 R _ R9.out Tryd.underlying23 rfl (by kernel_rfl) ?_)
      | (go_at_call 15; (with_reducible refine (num_any c _ M.out.et).mono ?_); rintro e w14 ⟨rfl, hb⟩; replace R11 := Lib.hid (R11.out.below hb R11.out.lt); replace R12 := Lib.hid (R12.out.below hb R12.out.lt); replace M := Lib.hid (M.out.call hb); clear hb)
      | (refine wpList_load_row_want rfl 23 (.tmp 11) rfl bR11 rfl .u8 32 (stepF F leaf s0 s1 s2) _ R11.out Tryd.underlying23 rfl (by kernel_rfl) ?_)
      | (refine wpList_load_row_want rfl 23 (.tmp 12) rfl bR12 rfl .u8 32 (stepF F leaf s0 s1 s2) _ R12.out Tryd.underlying23 rfl (by kernel_rfl) ?_)
      | (go_at_call 20; (with_reducible refine (wsure_any _ M.out.m.env).mono ?_); rintro e w15 ⟨rfl, hb⟩; replace M := Lib.hid (M.out.call hb); clear hb))
    go_ret
    exact ⟨rfl, M.out.m.below⟩
#print axioms lfrom_any
end Go.Proofs.YtlgjeledcnhmnaaDoor
