/- Part 52 of the proof. -/
import Derived.Deep.DeepCutAuto
import Derived.Test.YtggcodobkmhkgaaDoorFc51
namespace Go.Proofs.YtggcodobkmhkgaaDoor
set_option linter.unusedVariables false
set_option linter.unusedSimpArgs false
open Go.RowKit Go.Maps Go.Proofs
set_option maxRecDepth 100000
set_option linter.unusedSimpArgs false
set_option linter.unusedVariables false
set_option maxHeartbeats 8000000 in
theorem lfclone_any (va vb : Value) (ts us : List AT) (W : World) (hg : ErrType W) (hx : ActsIn W va ts) (hy : ActsIn W vb us) (hts : ∀ t ∈ ts, AOk W t ∧ t.data.length ≤ 140737488351232 ∧ t.keep.length ≤ 17592186043904) (hus : ∀ t ∈ us, AOk W t ∧ t.data.length ≤ 140737488351232 ∧ t.keep.length ≤ 17592186043904) :
    Calls Tryd.prog 4 #[va, vb] W fun e w' => e = .returned (.bool true) ∧ Below W.heap.size W w' := by
  obtain ⟨la, lc, rfl, hlc, hlm, hX⟩ := hx
  obtain ⟨ma, mc, rfl, hmc, hmm, hY⟩ := hy
  have HET := Lib.hid hg
  have HX := Lib.hid hX
  have HY := Lib.hid hY
  have HTS := Lib.hid hts
  have HUS := Lib.hid hus
  have hlI : (ts.length : Int) ≤ 9223372036854775807 := by unfold maxLen at hlm; omega
  have hmI : (us.length : Int) ≤ 9223372036854775807 := by unfold maxLen at hmm; omega
  clear hg hX hY hts hus hlc hlm hmc hmm
  go_enter Tryd.func4, Tryd.ntmps4
  go_upto_region 4 with (go_at_call 8; (with_reducible refine (new_own _).mono ?_); rintro e w1 ⟨p, rfl, ho, hb⟩; have HO := Lib.hid ho; have HB := Lib.hid hb; clear ho hb)
  go_upto_region 5 with (first
    | (refine wpList_store_row rfl 27 (.tmp 6) (.tmp 16) rfl w1.heap.size #[.slice none 0 0, .int .i64 0, .bool false, .int .i64 0, .bool false] rfl rfl 27 _ (heap_alloc_new _ _) (by kernel_rfl) rfl (by rfl) ?_; rw [World.setRow_alloc_new]))
  have hbz := below1 w1 (.cells #[.slice none 0 0, .int .i64 0, .bool false, .int .i64 0, .bool false] 27)
  have M := Lib.hid (show ∃ R, R.pb = p ∧ LawM W (w1.alloc (.cells #[.slice none 0 0, .int .i64 0, .bool false, .int .i64 0, .bool false] 27)) R w1.heap.size #[.slice none 0 0, .int .i64 0, .bool false, .int .i64 0, .bool false] none 0 0 ⟨[], 0, false, 0, false⟩ 0 from by
    obtain ⟨R, h1, h2, h3⟩ := HO.out
    exact ⟨R, h2, HB.out.trans (hbz.mono HB.out.size), h1.below hbz, heap_alloc_new _ _, HB.out.size, FilesIn.nil _, by rw [h3]; exact ⟨rfl, rfl, rfl, fun h => (by cases h), rfl⟩, ⟨by decide, by decide, by decide, by decide⟩⟩)
  clear hbz HO HB
  generalize w1.alloc (.cells #[.slice none 0 0, .int .i64 0, .bool false, .int .i64 0, .bool false] 27) = w2 at *
  obtain ⟨q, hq⟩ : ∃ q, q = w1.heap.size := ⟨_, rfl⟩
  rw [← hq] at M ⊢
  clear hq
  go_wp2_with (fail)
  go_loopw [7] (fun x wr => ∃ j : Nat, j ≤ ts.length ∧ j ≤ 40 ∧ x = .int .i64 (j : Int) ∧ ∃ R a n c r, R.pb = p ∧ Hid (LawM W wr R q #[.slice a n c, .int .i64 r.steps, .bool r.armed, .int .i64 r.left, .bool r.down] a n c r j)) (fun x _ => ts.length - (intOf x).toNat)
  case atStart =>
    obtain ⟨R, h1, h2⟩ := M.out
    exact ⟨0, Nat.zero_le _, Nat.zero_le _, rfl, R, none, 0, 0, ⟨[], 0, false, 0, false⟩, h1, Lib.hid h2⟩
  case round =>
    clear M
    obtain ⟨j, hjl, hj40, rfl, R, a, n, c, r, hp, M⟩ := hrel
    have hjI : (j : Int) ≤ 40 := by omega
    by_cases hlt : j < ts.length ∧ j < 40
    · obtain ⟨t, ht⟩ : ∃ t, ts[j]? = some t := ⟨_, List.getElem?_eq_getElem hlt.1⟩
      have htm : t ∈ ts := List.mem_of_getElem? ht
      obtain ⟨ab, ao, rfl, hAA⟩ := acts_at HX.out ht
      have HA := Lib.hid hAA
      have h1I : (j : Int) < (ts.length : Int) := by omega
      have h2I : (j : Int) < 40 := by omega
      have HLS := Lib.hid (fun w5 (m : LawM W w5 R q #[.slice a n c, .int .i64 r.steps, .bool r.armed, .int .i64 r.left, .bool r.down] a n c r j) => m.lstep HET.out (by omega) t (HTS.out t htm).1 (HTS.out t htm).2.1 (HTS.out t htm).2.2)
      unfold AT.cells at HLS
      rw [hp] at HLS
      clear hlt ht htm hAA
      go_upto_region 8 with (fail)
      refine wp_region_T (fun w' => lawS w' q #[.slice a n c, .int .i64 r.steps, .bool r.armed, .int .i64 r.left, .bool r.down] ab (ao + j * 6) t) [1, 5, 6] (by kernel_rfl) ?_
      replace M := Lib.hid (M.out.call ((Below.refl _ _).drew))
      generalize World.drew _ = w4 at *
      refine anyT_takeY (i := 0) (v := .pointer (some ⟨p, 0, none⟩)) rfl (by kernel_rfl) (by kernel_rfl) (by kernel_rfl) (fun _ _ _ h => h) (by kernel_rfl) (Or.inl ⟨by rfl, by intro w; go_simp⟩) ?_
      try simp only [List.getElem_toArray, List.getElem_cons_succ, List.getElem_cons_zero, Act.put, List.setIfInBounds_toArray, List.set_cons_zero, List.set_cons_succ]
      refine anyT_takeY (i := 2) (v := .slice (some ⟨ab, ao, none⟩) ts.length lc) rfl (by kernel_rfl) (by kernel_rfl) (by kernel_rfl) (fun _ _ _ h => h) (by kernel_rfl) (Or.inl ⟨by rfl, by intro w; go_simp⟩) ?_
      try simp only [List.getElem_toArray, List.getElem_cons_succ, List.getElem_cons_zero, Act.put, List.setIfInBounds_toArray, List.set_cons_zero, List.set_cons_succ]
      refine anyT_takeY (i := 3) (v := .int .i64 (j : Int)) rfl (by kernel_rfl) (by kernel_rfl) (by kernel_rfl) (fun _ _ _ h => h) (by kernel_rfl) (Or.inl ⟨by rfl, by intro w; go_simp⟩) ?_
      try simp only [List.getElem_toArray, List.getElem_cons_succ, List.getElem_cons_zero, Act.put, List.setIfInBounds_toArray, List.set_cons_zero, List.set_cons_succ]
      refine anyT_takeY (i := 4) (v := .pointer (some ⟨ab, ao + j * 6, none⟩)) rfl (by kernel_rfl) (by kernel_rfl) (by kernel_rfl) (fun _ _ _ h => h) (by kernel_rfl) (Or.inl ⟨by rfl, by intro w; go_simp⟩) ?_
      try simp only [List.getElem_toArray, List.getElem_cons_succ, List.getElem_cons_zero, Act.put, List.setIfInBounds_toArray, List.set_cons_zero, List.set_cons_succ]
      refine anyT_take [6, 7, 8, 9, 10] (i := 1) (v := .agg #[.slice a n c, .int .i64 r.steps, .bool r.armed, .int .i64 r.left, .bool r.down]) rfl (by kernel_rfl) (by kernel_rfl) (by kernel_rfl) (fun _ _ _ h => h) (by kernel_rfl) (agg_yields (by rfl) 27 (.tmp 6) rfl q rfl _ _ (fun _ h => h.1) Tryd.underlying27 rfl (by kernel_rfl)) (lawS_of M.out HA.out) ?_
      try simp only [List.getElem_toArray, List.getElem_cons_succ, List.getElem_cons_zero, Act.put, List.setIfInBounds_toArray, List.set_cons_zero, List.set_cons_succ]
      refine anyT_take [6, 7, 8, 9, 10] (i := 5) (v := .agg #[.int .i64 t.kind, .int .i64 t.n, .string t.name, .string t.now, t.dv, t.kv]) rfl (by kernel_rfl) (by kernel_rfl) (by kernel_rfl) (fun _ _ _ h => h) (by kernel_rfl) (act_yields (by rfl) (.tmp 32) rfl ab (ao + j * 6) rfl t _ (fun _ h => h.2) Tryd.underlying33 rfl) (lawS_of M.out HA.out) ?_
      try simp only [List.getElem_toArray, List.getElem_cons_succ, List.getElem_cons_zero, Act.put, List.setIfInBounds_toArray, List.set_cons_zero, List.set_cons_succ]
      refine anyT_one (i := 6) (by kernel_rfl) rfl (fun K hK => ?_)
      rw [if_pos (by rfl)]
      try simp only [List.getElem_toArray, List.getElem_cons_succ, List.getElem_cons_zero]
      (go_simp; (with_reducible refine (HLS.out _ M.out).mono ?_); rintro e w5 ⟨R2, a2, n2, c2, r2, rfl, hp2, hs2, hm2⟩; replace M := Lib.hid hm2; have HP2 := Lib.hid hp2; clear hs2 hm2 hp2)
      refine hK _ _ (fun _ => lawS_of M.out HA.out) ?_
      clear hK K
      try simp only [List.getElem_toArray, List.getElem_cons_succ, List.getElem_cons_zero, Act.put, List.setIfInBounds_toArray, List.set_cons_zero, List.set_cons_succ]
      refine anyT_takeY (i := 7) (v := .tuple #[.agg #[.slice a2 n2 c2, .int .i64 r2.steps, .bool r2.armed, .int .i64 r2.left, .bool r2.down], .bool true]) rfl (by kernel_rfl) (by kernel_rfl) (by kernel_rfl) (fun _ _ _ h => h) (by kernel_rfl) (Or.inl ⟨by rfl, by intro w; go_simp⟩) ?_
      try simp only [List.getElem_toArray, List.getElem_cons_succ, List.getElem_cons_zero, Act.put, List.setIfInBounds_toArray, List.set_cons_zero, List.set_cons_succ]
      refine anyT_takeY (i := 8) (v := .agg #[.slice a2 n2 c2, .int .i64 r2.steps, .bool r2.armed, .int .i64 r2.left, .bool r2.down]) rfl (by kernel_rfl) (by kernel_rfl) (by kernel_rfl) (fun _ _ _ h => h) (by kernel_rfl) (Or.inl ⟨by rfl, by intro w; go_simp⟩) ?_
      try simp only [List.getElem_toArray, List.getElem_cons_succ, List.getElem_cons_zero, Act.put, List.setIfInBounds_toArray, List.set_cons_zero, List.set_cons_succ]
      refine anyT_takeY (i := 9) (v := .bool true) rfl (by kernel_rfl) (by kernel_rfl) (by kernel_rfl) (fun _ _ _ h => h) (by kernel_rfl) (Or.inl ⟨by rfl, by intro w; go_simp⟩) ?_
      try simp only [List.getElem_toArray, List.getElem_cons_succ, List.getElem_cons_zero, Act.put, List.setIfInBounds_toArray, List.set_cons_zero, List.set_cons_succ]
      refine anyT_one (i := 10) (by kernel_rfl) rfl (fun K hK => ?_)
      rw [if_pos (by rfl)]
      try simp only [List.getElem_toArray, List.getElem_cons_succ, List.getElem_cons_zero]
      (refine wp_store_row 27 (.tmp 6) (.tmp 35) rfl q #[.slice a2 n2 c2, .int .i64 r2.steps, .bool r2.armed, .int .i64 r2.left, .bool r2.down] rfl rfl 27 _ M.out.box (by kernel_rfl) rfl (rs_one a2 n2 c2 ⟨[], r2.steps, r2.armed, r2.left, r2.down⟩) ?_)
      refine hK _ _ (not_mem rfl) ?_
      clear hK K
      try simp only [List.getElem_toArray, List.getElem_cons_succ, List.getElem_cons_zero, Act.put, List.setIfInBounds_toArray, List.set_cons_zero, List.set_cons_succ]
      refine anyT_done (by kernel_rfl) ?_ _
      have M2 := Lib.hid (M.out.set (C' := #[.slice a2 n2 c2, .int .i64 r2.steps, .bool r2.armed, .int .i64 r2.left, .bool r2.down]) rfl)
      generalize World.setRow _ _ _ = w6 at *
      clear M
      go_wp2_with (fail)
      go_roundw
      case rel => exact ⟨j + 1, by omega, by omega, by go_num, R2, a2, n2, c2, r2, by rw [HP2.out], M2⟩
      case measure => simp [intOf]; omega
    · have hex : ¬ ((j : Int) < (ts.length : Int)) ∨ ¬ ((j : Int) < 40) := by omega
      have HCL := Lib.hid (fun w' (m : LawM W w' R q #[.slice a n c, .int .i64 r.steps, .bool r.armed, .int .i64 r.left, .bool r.down] a n c r j) => m.clone)
      rw [hp] at HCL
      have hpk := hp
      clear HX HTS
      have HP := Lib.hid hp
      have HJ40 := Lib.hid hj40
      clear hpk hp hj40
      by_cases hl1 : (j : Int) < (ts.length : Int)
      · have hl2 : ¬ ((j : Int) < 40) := by omega
        go_upto_region 9 with (fail)
        clear hex hl1 hl2 hlt hjl hjI
        go_cut [8, 9] (fun p8 p9 wx => ∃ pc g Rc, p8 = .pointer (some ⟨pc, 0, none⟩) ∧ p9 = .pointer (some ⟨g, 0, none⟩) ∧ Rc.pb = pc ∧ Hid (CloM W wx R Rc q g a n c r j #[.slice a n c, .int .i64 r.steps, .bool r.armed, .int .i64 r.left, .bool r.down] a n c r j))
        case first =>
          refine wp_region_T (fun w' => w'.heap[q]? = some (.cells #[.slice a n c, .int .i64 r.steps, .bool r.armed, .int .i64 r.left, .bool r.down] 27 (0, 0))) [1, 2, 3, 4] (by kernel_rfl) ?_
          replace M := Lib.hid (M.out.call ((Below.refl _ _).drew))
          generalize World.drew _ = w5 at *
          refine anyT_takeY (i := 0) (v := .pointer (some ⟨p, 0, none⟩)) rfl (by kernel_rfl) (by kernel_rfl) (by kernel_rfl) (fun _ _ _ h => h) (by kernel_rfl) (Or.inl ⟨by rfl, by intro w; go_simp⟩) ?_
          try simp only [List.getElem_toArray, List.getElem_cons_succ, List.getElem_cons_zero, Act.put, List.setIfInBounds_toArray, List.set_cons_zero, List.set_cons_succ]
          refine anyT_take [5] (i := 2) (v := .agg #[.slice a n c, .int .i64 r.steps, .bool r.armed, .int .i64 r.left, .bool r.down]) rfl (by kernel_rfl) (by kernel_rfl) (by kernel_rfl) (fun _ _ _ h => h) (by kernel_rfl) (agg_yields (by rfl) 27 (.tmp 6) rfl q rfl _ _ (fun _ h => h) Tryd.underlying27 rfl (by kernel_rfl)) M.out.box ?_
          try simp only [List.getElem_toArray, List.getElem_cons_succ, List.getElem_cons_zero, Act.put, List.setIfInBounds_toArray, List.set_cons_zero, List.set_cons_succ]
          refine anyT_ready (rs := [1, 3]) (by kernel_rfl) (by simp) ?_
          refine readyT_cons rfl (fun K hK => ?_) (readyT_cons rfl (fun K hK => ?_) readyT_nil)
          · rw [if_pos (by rfl)]
            try simp only [List.getElem_toArray, List.getElem_cons_succ, List.getElem_cons_zero]
            (go_simp; (with_reducible refine (HCL.out _ M.out).mono ?_); rintro e w6 ⟨pc, Rc, rfl, hpc, hoc, hac, hdj, hdj2, hb⟩; replace M := Lib.hid (M.out.call hb); have HOC := Lib.hid hoc; have HAC := Lib.hid hac; have HDJ := Lib.hid hdj; have HPC := Lib.hid hpc; clear hb hpc hoc hac hdj hdj2)
            refine hK _ _ (fun _ => M.out.box) ?_
            clear hK K
            try simp only [List.getElem_toArray, List.getElem_cons_succ, List.getElem_cons_zero, Act.put, List.setIfInBounds_toArray, List.set_cons_zero, List.set_cons_succ]
            refine anyT_one (i := 3) (by kernel_rfl) rfl (fun K hK => ?_)
            rw [if_pos (by rfl)]
            try simp only [List.getElem_toArray, List.getElem_cons_succ, List.getElem_cons_zero]
            (go_simp; have hb0 := below1 w6 (.cells #[.slice none 0 0, .int .i64 0, .bool false, .int .i64 0, .bool false] 27); have HG := Lib.hid (heap_alloc_new w6 (.cells #[.slice none 0 0, .int .i64 0, .bool false, .int .i64 0, .bool false] 27)); have HGE := Lib.hid (show W.heap.size ≤ w6.heap.size from M.out.below.size); have HNE := Lib.hid (show q ≠ w6.heap.size from Nat.ne_of_lt (Array.getElem?_eq_some_iff.1 M.out.box).1); replace M := Lib.hid (M.out.call hb0); have hb0' := hb0; clear hb0; replace HOC := Lib.hid (HOC.out.below hb0'); clear hb0')
            refine hK _ _ (fun _ => M.out.box) ?_
            clear hK K
            try simp only [List.getElem_toArray, List.getElem_cons_succ, List.getElem_cons_zero, Act.put, List.setIfInBounds_toArray, List.set_cons_zero, List.set_cons_succ]
            obtain ⟨g, hg⟩ : ∃ g, g = w6.heap.size := ⟨_, rfl⟩
            rw [← hg] at HG HGE HNE ⊢
            clear hg
            generalize w6.alloc (.cells #[.slice none 0 0, .int .i64 0, .bool false, .int .i64 0, .bool false] 27) = w7 at *
            refine anyT_take [5] (i := 4) (v := .pointer (some ⟨pc, 0, none⟩)) rfl (by kernel_rfl) (by kernel_rfl) (by kernel_rfl) (fun _ _ _ h => h) (by kernel_rfl) (Or.inl ⟨by rfl, fun w' _ => by go_simp⟩) M.out.box ?_
            try simp only [List.getElem_toArray, List.getElem_cons_succ, List.getElem_cons_zero, Act.put, List.setIfInBounds_toArray, List.set_cons_zero, List.set_cons_succ]
            refine anyT_one (i := 5) (by kernel_rfl) rfl (fun K hK => ?_)
            rw [if_pos (by rfl)]
            try simp only [List.getElem_toArray, List.getElem_cons_succ, List.getElem_cons_zero]
            (refine wp_store_row 27 (.tmp 9) (.tmp 39) rfl g #[.slice a n c, .int .i64 r.steps, .bool r.armed, .int .i64 r.left, .bool r.down] rfl rfl 27 _ HG.out (by kernel_rfl) rfl (rs_one a n c ⟨[], r.steps, r.armed, r.left, r.down⟩) ?_)
            refine hK _ _ (not_mem rfl) ?_
            clear hK K
            try simp only [List.getElem_toArray, List.getElem_cons_succ, List.getElem_cons_zero, Act.put, List.setIfInBounds_toArray, List.set_cons_zero, List.set_cons_succ]
            refine anyT_done (by kernel_rfl) ?_ _
            go_wp2_with (fail)
            go_meet
            exact ⟨pc, g, Rc, rfl, rfl, HPC.out, Lib.hid (CloM.start M.out HOC.out HAC.out HDJ.out HG.out HGE.out HNE.out rfl)⟩
          · rw [if_pos (by rfl)]
            try simp only [List.getElem_toArray, List.getElem_cons_succ, List.getElem_cons_zero]
            (go_simp; have hb0 := below1 w5 (.cells #[.slice none 0 0, .int .i64 0, .bool false, .int .i64 0, .bool false] 27); have HG := Lib.hid (heap_alloc_new w5 (.cells #[.slice none 0 0, .int .i64 0, .bool false, .int .i64 0, .bool false] 27)); have HGE := Lib.hid (show W.heap.size ≤ w5.heap.size from M.out.below.size); have HNE := Lib.hid (show q ≠ w5.heap.size from Nat.ne_of_lt (Array.getElem?_eq_some_iff.1 M.out.box).1); replace M := Lib.hid (M.out.call hb0); clear hb0)
            refine hK _ _ (fun _ => M.out.box) ?_
            clear hK K
            try simp only [List.getElem_toArray, List.getElem_cons_succ, List.getElem_cons_zero, Act.put, List.setIfInBounds_toArray, List.set_cons_zero, List.set_cons_succ]
            obtain ⟨g, hg⟩ : ∃ g, g = w5.heap.size := ⟨_, rfl⟩
            rw [← hg] at HG HGE HNE ⊢
            clear hg
            generalize w5.alloc (.cells #[.slice none 0 0, .int .i64 0, .bool false, .int .i64 0, .bool false] 27) = w5' at *
            refine anyT_one (i := 1) (by kernel_rfl) rfl (fun K hK => ?_)
            rw [if_pos (by rfl)]
            try simp only [List.getElem_toArray, List.getElem_cons_succ, List.getElem_cons_zero]
            (go_simp; (with_reducible refine (HCL.out _ M.out).mono ?_); rintro e w6 ⟨pc, Rc, rfl, hpc, hoc, hac, hdj, hdj2, hb⟩; replace M := Lib.hid (M.out.call hb); have HOC := Lib.hid hoc; have HAC := Lib.hid hac; have HDJ := Lib.hid hdj; have HPC := Lib.hid hpc; replace HG := Lib.hid ((hb.block _ (Array.getElem?_eq_some_iff.1 HG.out).1).trans HG.out); clear hb hpc hoc hac hdj hdj2)
            refine hK _ _ (fun _ => M.out.box) ?_
            clear hK K
            try simp only [List.getElem_toArray, List.getElem_cons_succ, List.getElem_cons_zero, Act.put, List.setIfInBounds_toArray, List.set_cons_zero, List.set_cons_succ]
            refine anyT_take [5] (i := 4) (v := .pointer (some ⟨pc, 0, none⟩)) rfl (by kernel_rfl) (by kernel_rfl) (by kernel_rfl) (fun _ _ _ h => h) (by kernel_rfl) (Or.inl ⟨by rfl, fun w' _ => by go_simp⟩) M.out.box ?_
            try simp only [List.getElem_toArray, List.getElem_cons_succ, List.getElem_cons_zero, Act.put, List.setIfInBounds_toArray, List.set_cons_zero, List.set_cons_succ]
            refine anyT_one (i := 5) (by kernel_rfl) rfl (fun K hK => ?_)
            rw [if_pos (by rfl)]
            try simp only [List.getElem_toArray, List.getElem_cons_succ, List.getElem_cons_zero]
            (refine wp_store_row 27 (.tmp 9) (.tmp 39) rfl g #[.slice a n c, .int .i64 r.steps, .bool r.armed, .int .i64 r.left, .bool r.down] rfl rfl 27 _ HG.out (by kernel_rfl) rfl (rs_one a n c ⟨[], r.steps, r.armed, r.left, r.down⟩) ?_)
            refine hK _ _ (not_mem rfl) ?_
            clear hK K
            try simp only [List.getElem_toArray, List.getElem_cons_succ, List.getElem_cons_zero, Act.put, List.setIfInBounds_toArray, List.set_cons_zero, List.set_cons_succ]
            refine anyT_done (by kernel_rfl) ?_ _
            go_wp2_with (fail)
            go_meet
            exact ⟨pc, g, Rc, rfl, rfl, HPC.out, Lib.hid (CloM.start M.out HOC.out HAC.out HDJ.out HG.out HGE.out HNE.out rfl)⟩

        case rest =>
          obtain ⟨pc, g, Rc, rfl, rfl, hpc, M⟩ := hcut
          have HS1 := Lib.hid (fun w' (m : LawM W w' R q #[.slice a n c, .int .i64 r.steps, .bool r.armed, .int .i64 r.left, .bool r.down] a n c r j) => m.same HET.out (by have := HJ40.out; omega))
          rw [HP.out] at HS1
          clear HCL
          go_wp2_with (fail)
          go_loopw [10, 11, 12] (fun x _ _ wr => ∃ i : Nat, i ≤ us.length ∧ i ≤ 40 ∧ x = .int .i64 (i : Int) ∧ ∃ Rc a2 n2 c2 s, Rc.pb = pc ∧ Hid (CloM W wr R Rc q g a n c r j #[.slice a2 n2 c2, .int .i64 s.steps, .bool s.armed, .int .i64 s.left, .bool s.down] a2 n2 c2 s (j + i))) (fun x _ _ _ => us.length - (intOf x).toNat)
          case atStart => exact ⟨0, Nat.zero_le _, Nat.zero_le _, rfl, Rc, a, n, c, r, hpc, M⟩
          case round =>
            clear M
            obtain ⟨i, hil, hi40, rfl, Rc, a2, n2, c2, s, hpc, M⟩ := hrel
            have hiI : (i : Int) ≤ 40 := by omega
            by_cases hlt : i < us.length ∧ i < 40
            · obtain ⟨t, ht⟩ : ∃ t, us[i]? = some t := ⟨_, List.getElem?_eq_getElem hlt.1⟩
              have htm : t ∈ us := List.mem_of_getElem? ht
              obtain ⟨ab, ao, rfl, hAA⟩ := acts_at HY.out ht
              have HA := Lib.hid hAA
              have h1I : (i : Int) < (us.length : Int) := by omega
              have h2I : (i : Int) < 40 := by omega
              have HLS := Lib.hid (fun w5 (m : CloM W w5 R Rc q g a n c r j #[.slice a2 n2 c2, .int .i64 s.steps, .bool s.armed, .int .i64 s.left, .bool s.down] a2 n2 c2 s (j + i)) => m.lstep HET.out (by have := HJ40.out; omega) t (HUS.out t htm).1 (HUS.out t htm).2.1 (HUS.out t htm).2.2)
              unfold AT.cells at HLS
              rw [hpc] at HLS
              clear hlt ht htm hAA
              go_upto_region 15 with (fail)
              go_cut [11, 12] (fun p11 p12 wx => ∃ h Rc3 a3 n3 c3 s3, p11 = .pointer (some ⟨h, 0, none⟩) ∧ p12 = .bool true ∧ Rc3.pb = pc ∧ Hid (CloM W wx R Rc3 q g a n c r j #[.slice a2 n2 c2, .int .i64 s.steps, .bool s.armed, .int .i64 s.left, .bool s.down] a3 n3 c3 s3 (j + i + 1)) ∧ Hid (wx.heap[h]? = some (.cells #[.slice a3 n3 c3, .int .i64 s3.steps, .bool s3.armed, .int .i64 s3.left, .bool s3.down] 27 (0, 0)) ∧ W.heap.size ≤ h ∧ q ≠ h ∧ g ≠ h))
              case first =>
                  refine wp_region_T (fun w' => lawS w' g #[.slice a2 n2 c2, .int .i64 s.steps, .bool s.armed, .int .i64 s.left, .bool s.down] ab (ao + i * 6) t) [1, 5, 6, 10] (by kernel_rfl) ?_
                  replace M := Lib.hid (M.out.call ((Below.refl _ _).drew))
                  generalize World.drew _ = w5 at *
                  refine anyT_takeY (i := 0) (v := .pointer (some ⟨pc, 0, none⟩)) rfl (by kernel_rfl) (by kernel_rfl) (by kernel_rfl) (fun _ _ _ h => h) (by kernel_rfl) (Or.inl ⟨by rfl, by intro w; go_simp⟩) ?_
                  try simp only [List.getElem_toArray, List.getElem_cons_succ, List.getElem_cons_zero, Act.put, List.setIfInBounds_toArray, List.set_cons_zero, List.set_cons_succ]
                  refine anyT_takeY (i := 2) (v := .slice (some ⟨ab, ao, none⟩) us.length mc) rfl (by kernel_rfl) (by kernel_rfl) (by kernel_rfl) (fun _ _ _ h => h) (by kernel_rfl) (Or.inl ⟨by rfl, by intro w; go_simp⟩) ?_
                  try simp only [List.getElem_toArray, List.getElem_cons_succ, List.getElem_cons_zero, Act.put, List.setIfInBounds_toArray, List.set_cons_zero, List.set_cons_succ]
                  refine anyT_takeY (i := 3) (v := .int .i64 (i : Int)) rfl (by kernel_rfl) (by kernel_rfl) (by kernel_rfl) (fun _ _ _ h => h) (by kernel_rfl) (Or.inl ⟨by rfl, by intro w; go_simp⟩) ?_
                  try simp only [List.getElem_toArray, List.getElem_cons_succ, List.getElem_cons_zero, Act.put, List.setIfInBounds_toArray, List.set_cons_zero, List.set_cons_succ]
                  refine anyT_takeY (i := 4) (v := .pointer (some ⟨ab, ao + i * 6, none⟩)) rfl (by kernel_rfl) (by kernel_rfl) (by kernel_rfl) (fun _ _ _ h => h) (by kernel_rfl) (Or.inl ⟨by rfl, by intro w; go_simp⟩) ?_
                  try simp only [List.getElem_toArray, List.getElem_cons_succ, List.getElem_cons_zero, Act.put, List.setIfInBounds_toArray, List.set_cons_zero, List.set_cons_succ]
                  refine anyT_take [6, 7, 8, 9, 11, 12] (i := 1) (v := .agg #[.slice a2 n2 c2, .int .i64 s.steps, .bool s.armed, .int .i64 s.left, .bool s.down]) rfl (by kernel_rfl) (by kernel_rfl) (by kernel_rfl) (fun _ _ _ h => h) (by kernel_rfl) (agg_yields (by rfl) 27 (.tmp 9) rfl g rfl _ _ (fun _ h => h.1) Tryd.underlying27 rfl (by kernel_rfl)) (cloS_of M.out HA.out) ?_
                  try simp only [List.getElem_toArray, List.getElem_cons_succ, List.getElem_cons_zero, Act.put, List.setIfInBounds_toArray, List.set_cons_zero, List.set_cons_succ]
                  refine anyT_take [6, 7, 8, 9, 11, 12] (i := 5) (v := .agg #[.int .i64 t.kind, .int .i64 t.n, .string t.name, .string t.now, t.dv, t.kv]) rfl (by kernel_rfl) (by kernel_rfl) (by kernel_rfl) (fun _ _ _ h => h) (by kernel_rfl) (act_yields (by rfl) (.tmp 57) rfl ab (ao + i * 6) rfl t _ (fun _ h => h.2) Tryd.underlying33 rfl) (cloS_of M.out HA.out) ?_
                  try simp only [List.getElem_toArray, List.getElem_cons_succ, List.getElem_cons_zero, Act.put, List.setIfInBounds_toArray, List.set_cons_zero, List.set_cons_succ]
                  refine anyT_ready (rs := [6, 10]) (by kernel_rfl) (by simp) ?_
                  refine readyT_cons rfl (fun K hK => ?_) (readyT_cons rfl (fun K hK => ?_) readyT_nil)
                  · rw [if_pos (by rfl)]
                    try simp only [List.getElem_toArray, List.getElem_cons_succ, List.getElem_cons_zero]
                    (go_simp; (with_reducible refine (HLS.out _ M.out).mono ?_); rintro e w6 ⟨Rc3, a3, n3, c3, s3, rfl, hp3, hkt, hsz, hm⟩; replace M := Lib.hid hm; have HP3 := Lib.hid hp3; clear hkt hsz hm hp3)
                    refine hK _ _ (fun _ => cloS_of M.out HA.out) ?_
                    clear hK K
                    try simp only [List.getElem_toArray, List.getElem_cons_succ, List.getElem_cons_zero, Act.put, List.setIfInBounds_toArray, List.set_cons_zero, List.set_cons_succ]
                    refine anyT_takeY (i := 7) (v := .tuple #[.agg #[.slice a3 n3 c3, .int .i64 s3.steps, .bool s3.armed, .int .i64 s3.left, .bool s3.down], .bool true]) rfl (by kernel_rfl) (by kernel_rfl) (by kernel_rfl) (fun _ _ _ h => h) (by kernel_rfl) (Or.inl ⟨by rfl, by intro w; go_simp⟩) ?_
                    try simp only [List.getElem_toArray, List.getElem_cons_succ, List.getElem_cons_zero, Act.put, List.setIfInBounds_toArray, List.set_cons_zero, List.set_cons_succ]
                    refine anyT_takeY (i := 8) (v := .agg #[.slice a3 n3 c3, .int .i64 s3.steps, .bool s3.armed, .int .i64 s3.left, .bool s3.down]) rfl (by kernel_rfl) (by kernel_rfl) (by kernel_rfl) (fun _ _ _ h => h) (by kernel_rfl) (Or.inl ⟨by rfl, by intro w; go_simp⟩) ?_
                    try simp only [List.getElem_toArray, List.getElem_cons_succ, List.getElem_cons_zero, Act.put, List.setIfInBounds_toArray, List.set_cons_zero, List.set_cons_succ]
                    refine anyT_takeY (i := 9) (v := .bool true) rfl (by kernel_rfl) (by kernel_rfl) (by kernel_rfl) (fun _ _ _ h => h) (by kernel_rfl) (Or.inl ⟨by rfl, by intro w; go_simp⟩) ?_
                    try simp only [List.getElem_toArray, List.getElem_cons_succ, List.getElem_cons_zero, Act.put, List.setIfInBounds_toArray, List.set_cons_zero, List.set_cons_succ]
                    refine anyT_one (i := 10) (by kernel_rfl) rfl (fun K hK => ?_)
                    rw [if_pos (by rfl)]
                    try simp only [List.getElem_toArray, List.getElem_cons_succ, List.getElem_cons_zero]
                    (go_simp; have hb0 := below1 w6 (.cells #[.slice none 0 0, .int .i64 0, .bool false, .int .i64 0, .bool false] 27); have HH := Lib.hid (heap_alloc_new w6 (.cells #[.slice none 0 0, .int .i64 0, .bool false, .int .i64 0, .bool false] 27)); have HHE := Lib.hid (show W.heap.size ≤ w6.heap.size ∧ q ≠ w6.heap.size ∧ g ≠ w6.heap.size from ⟨M.out.c.below.size, Nat.ne_of_lt (Array.getElem?_eq_some_iff.1 M.out.f.box).1, Nat.ne_of_lt (Array.getElem?_eq_some_iff.1 M.out.c.box).1⟩); replace M := Lib.hid (M.out.call hb0); clear hb0)
                    refine hK _ _ (fun _ => cloS_of M.out HA.out) ?_
                    clear hK K
                    try simp only [List.getElem_toArray, List.getElem_cons_succ, List.getElem_cons_zero, Act.put, List.setIfInBounds_toArray, List.set_cons_zero, List.set_cons_succ]
                    obtain ⟨h, hh⟩ : ∃ h, h = w6.heap.size := ⟨_, rfl⟩
                    rw [← hh] at HH HHE ⊢
                    clear hh
                    generalize w6.alloc (.cells #[.slice none 0 0, .int .i64 0, .bool false, .int .i64 0, .bool false] 27) = w7 at *
                    refine anyT_one (i := 11) (by kernel_rfl) rfl (fun K hK => ?_)
                    rw [if_pos (by rfl)]
                    try simp only [List.getElem_toArray, List.getElem_cons_succ, List.getElem_cons_zero]
                    (refine wp_store_row 27 (.tmp 11) (.tmp 60) rfl h #[.slice a3 n3 c3, .int .i64 s3.steps, .bool s3.armed, .int .i64 s3.left, .bool s3.down] rfl rfl 27 _ HH.out (by kernel_rfl) rfl (rs_one a3 n3 c3 ⟨[], s3.steps, s3.armed, s3.left, s3.down⟩) ?_)
                    refine hK _ _ (not_mem rfl) ?_
                    clear hK K
                    try simp only [List.getElem_toArray, List.getElem_cons_succ, List.getElem_cons_zero, Act.put, List.setIfInBounds_toArray, List.set_cons_zero, List.set_cons_succ]
                    refine anyT_takeY (i := 12) (v := .bool true) rfl (by kernel_rfl) (by kernel_rfl) (by kernel_rfl) (fun _ _ _ h => h) (by kernel_rfl) (Or.inl ⟨by rfl, by intro w; go_simp⟩) ?_
                    try simp only [List.getElem_toArray, List.getElem_cons_succ, List.getElem_cons_zero, Act.put, List.setIfInBounds_toArray, List.set_cons_zero, List.set_cons_succ]
                    refine anyT_done (by kernel_rfl) ?_ _
                    go_wp2_with (fail)
                    go_meet
                    exact ⟨h, Rc3, a3, n3, c3, s3, rfl, rfl, HP3.out, Lib.hid (M.out.other HH.out HHE.out.1 HHE.out.2.1 HHE.out.2.2 rfl), Lib.hid ⟨setRow_heap _ _ _ _ _ _ HH.out, HHE.out⟩⟩
                  · rw [if_pos (by rfl)]
                    try simp only [List.getElem_toArray, List.getElem_cons_succ, List.getElem_cons_zero]
                    (go_simp; have hb0 := below1 w5 (.cells #[.slice none 0 0, .int .i64 0, .bool false, .int .i64 0, .bool false] 27); have HH := Lib.hid (heap_alloc_new w5 (.cells #[.slice none 0 0, .int .i64 0, .bool false, .int .i64 0, .bool false] 27)); have HHE := Lib.hid (show W.heap.size ≤ w5.heap.size ∧ q ≠ w5.heap.size ∧ g ≠ w5.heap.size from ⟨M.out.c.below.size, Nat.ne_of_lt (Array.getElem?_eq_some_iff.1 M.out.f.box).1, Nat.ne_of_lt (Array.getElem?_eq_some_iff.1 M.out.c.box).1⟩); replace M := Lib.hid (M.out.call hb0); clear hb0)
                    refine hK _ _ (fun _ => cloS_of M.out HA.out) ?_
                    clear hK K
                    try simp only [List.getElem_toArray, List.getElem_cons_succ, List.getElem_cons_zero, Act.put, List.setIfInBounds_toArray, List.set_cons_zero, List.set_cons_succ]
                    obtain ⟨h, hh⟩ : ∃ h, h = w5.heap.size := ⟨_, rfl⟩
                    rw [← hh] at HH HHE ⊢
                    clear hh
                    generalize w5.alloc (.cells #[.slice none 0 0, .int .i64 0, .bool false, .int .i64 0, .bool false] 27) = w5' at *
                    refine anyT_one (i := 6) (by kernel_rfl) rfl (fun K hK => ?_)
                    rw [if_pos (by rfl)]
                    try simp only [List.getElem_toArray, List.getElem_cons_succ, List.getElem_cons_zero]
                    (go_simp; (with_reducible refine (HLS.out _ M.out).mono ?_); rintro e w6 ⟨Rc3, a3, n3, c3, s3, rfl, hp3, hkt, hsz, hm⟩; replace M := Lib.hid hm; have HP3 := Lib.hid hp3; replace HH := Lib.hid (hkt _ _ _ HH.out (by decide) (by decide)); clear hkt hsz hm hp3)
                    refine hK _ _ (fun _ => cloS_of M.out HA.out) ?_
                    clear hK K
                    try simp only [List.getElem_toArray, List.getElem_cons_succ, List.getElem_cons_zero, Act.put, List.setIfInBounds_toArray, List.set_cons_zero, List.set_cons_succ]
                    refine anyT_takeY (i := 7) (v := .tuple #[.agg #[.slice a3 n3 c3, .int .i64 s3.steps, .bool s3.armed, .int .i64 s3.left, .bool s3.down], .bool true]) rfl (by kernel_rfl) (by kernel_rfl) (by kernel_rfl) (fun _ _ _ h => h) (by kernel_rfl) (Or.inl ⟨by rfl, by intro w; go_simp⟩) ?_
                    try simp only [List.getElem_toArray, List.getElem_cons_succ, List.getElem_cons_zero, Act.put, List.setIfInBounds_toArray, List.set_cons_zero, List.set_cons_succ]
                    refine anyT_takeY (i := 8) (v := .agg #[.slice a3 n3 c3, .int .i64 s3.steps, .bool s3.armed, .int .i64 s3.left, .bool s3.down]) rfl (by kernel_rfl) (by kernel_rfl) (by kernel_rfl) (fun _ _ _ h => h) (by kernel_rfl) (Or.inl ⟨by rfl, by intro w; go_simp⟩) ?_
                    try simp only [List.getElem_toArray, List.getElem_cons_succ, List.getElem_cons_zero, Act.put, List.setIfInBounds_toArray, List.set_cons_zero, List.set_cons_succ]
                    refine anyT_takeY (i := 9) (v := .bool true) rfl (by kernel_rfl) (by kernel_rfl) (by kernel_rfl) (fun _ _ _ h => h) (by kernel_rfl) (Or.inl ⟨by rfl, by intro w; go_simp⟩) ?_
                    try simp only [List.getElem_toArray, List.getElem_cons_succ, List.getElem_cons_zero, Act.put, List.setIfInBounds_toArray, List.set_cons_zero, List.set_cons_succ]
                    refine anyT_one (i := 11) (by kernel_rfl) rfl (fun K hK => ?_)
                    rw [if_pos (by rfl)]
                    try simp only [List.getElem_toArray, List.getElem_cons_succ, List.getElem_cons_zero]
                    (refine wp_store_row 27 (.tmp 11) (.tmp 60) rfl h #[.slice a3 n3 c3, .int .i64 s3.steps, .bool s3.armed, .int .i64 s3.left, .bool s3.down] rfl rfl 27 _ HH.out (by kernel_rfl) rfl (rs_one a3 n3 c3 ⟨[], s3.steps, s3.armed, s3.left, s3.down⟩) ?_)
                    refine hK _ _ (not_mem rfl) ?_
                    clear hK K
                    try simp only [List.getElem_toArray, List.getElem_cons_succ, List.getElem_cons_zero, Act.put, List.setIfInBounds_toArray, List.set_cons_zero, List.set_cons_succ]
                    refine anyT_takeY (i := 12) (v := .bool true) rfl (by kernel_rfl) (by kernel_rfl) (by kernel_rfl) (fun _ _ _ h => h) (by kernel_rfl) (Or.inl ⟨by rfl, by intro w; go_simp⟩) ?_
                    try simp only [List.getElem_toArray, List.getElem_cons_succ, List.getElem_cons_zero, Act.put, List.setIfInBounds_toArray, List.set_cons_zero, List.set_cons_succ]
                    refine anyT_done (by kernel_rfl) ?_ _
                    go_wp2_with (fail)
                    go_meet
                    exact ⟨h, Rc3, a3, n3, c3, s3, rfl, rfl, HP3.out, Lib.hid (M.out.other HH.out HHE.out.1 HHE.out.2.1 HHE.out.2.2 rfl), Lib.hid ⟨setRow_heap _ _ _ _ _ _ HH.out, HHE.out⟩⟩

              case rest =>
                obtain ⟨h, Rc3, a3, n3, c3, s3, rfl, rfl, hp3, M, HH⟩ := hcut
                go_wp2_with (first
                  | (refine wpList_load_row rfl 27 (.tmp 11) rfl h rfl 27 #[.slice a3 n3 c3, .int .i64 s3.steps, .bool s3.armed, .int .i64 s3.left, .bool s3.down] (0, 0) _ HH.out.1 Tryd.underlying27 rfl (by kernel_rfl) ?_)
                  | (refine wpList_store_row rfl 27 (.tmp 9) (.tmp 62) rfl g #[.slice a3 n3 c3, .int .i64 s3.steps, .bool s3.armed, .int .i64 s3.left, .bool s3.down] rfl rfl 27 _ M.out.c.box (by kernel_rfl) rfl (rs_one a3 n3 c3 ⟨[], s3.steps, s3.armed, s3.left, s3.down⟩) ?_))
                have M2 := Lib.hid (M.out.set (C' := #[.slice a3 n3 c3, .int .i64 s3.steps, .bool s3.armed, .int .i64 s3.left, .bool s3.down]) rfl)
                generalize World.setRow _ _ _ = w7 at *
                clear M HH
                go_roundw
                case rel => exact ⟨i + 1, by omega, by omega, by go_num, Rc3, a3, n3, c3, s3, hp3, M2⟩
                case measure => simp [intOf]; omega
            · have HS2 := Lib.hid (fun w' (m : LawM W w' Rc g #[.slice a2 n2 c2, .int .i64 s.steps, .bool s.armed, .int .i64 s.left, .bool s.down] a2 n2 c2 s (j + i)) => m.same HET.out (by have := HJ40.out; omega))
              rw [hpc] at HS2
              have HLS0 := Lib.hid hpc
              clear hpc
              by_cases hl1 : (i : Int) < (us.length : Int)
              · have hl2 : ¬ ((i : Int) < 40) := by omega
                clear hlt
                clear HY HUS HET HLS0
                go_wp2_with (first
                  | (refine wpList_load_row rfl 27 (.tmp 6) rfl q rfl 27 #[.slice a n c, .int .i64 r.steps, .bool r.armed, .int .i64 r.left, .bool r.down] (0, 0) _ M.out.f.box Tryd.underlying27 rfl (by kernel_rfl) ?_)
                  | (refine wpList_load_row rfl 27 (.tmp 9) rfl g rfl 27 #[.slice a2 n2 c2, .int .i64 s.steps, .bool s.armed, .int .i64 s.left, .bool s.down] (0, 0) _ M.out.c.box Tryd.underlying27 rfl (by kernel_rfl) ?_)
                  | (go_at_call 10; (first | (with_reducible refine (HS1.out _ M.out.f).mono ?_) | (with_reducible refine (HS2.out _ M.out.c).mono ?_)); rintro e w8 ⟨rfl, hb⟩; replace M := Lib.hid (M.out.call hb); clear hb; obtain ⟨g0, g1, g2, g3, g4, -⟩ := rs_cells M.out.c.box)
                  | (go_at_call 21; (with_reducible refine (sure_any _).mono ?_); rintro e w9 ⟨rfl, hb⟩; replace M := Lib.hid (M.out.call hb); clear hb))
                go_ret
                exact ⟨rfl, M.out.f.below⟩
              · clear hlt
                clear HY HUS HET HLS0
                go_wp2_with (first
                  | (refine wpList_load_row rfl 27 (.tmp 6) rfl q rfl 27 #[.slice a n c, .int .i64 r.steps, .bool r.armed, .int .i64 r.left, .bool r.down] (0, 0) _ M.out.f.box Tryd.underlying27 rfl (by kernel_rfl) ?_)
                  | (refine wpList_load_row rfl 27 (.tmp 9) rfl g rfl 27 #[.slice a2 n2 c2, .int .i64 s.steps, .bool s.armed, .int .i64 s.left, .bool s.down] (0, 0) _ M.out.c.box Tryd.underlying27 rfl (by kernel_rfl) ?_)
                  | (go_at_call 10; (first | (with_reducible refine (HS1.out _ M.out.f).mono ?_) | (with_reducible refine (HS2.out _ M.out.c).mono ?_)); rintro e w8 ⟨rfl, hb⟩; replace M := Lib.hid (M.out.call hb); clear hb; obtain ⟨g0, g1, g2, g3, g4, -⟩ := rs_cells M.out.c.box)
                  | (go_at_call 21; (with_reducible refine (sure_any _).mono ?_); rintro e w9 ⟨rfl, hb⟩; replace M := Lib.hid (M.out.call hb); clear hb))
                go_ret
                exact ⟨rfl, M.out.f.below⟩

      · clear hex
        go_upto_region 9 with (fail)
        clear hl1 hlt hjl hjI
        go_cut [8, 9] (fun p8 p9 wx => ∃ pc g Rc, p8 = .pointer (some ⟨pc, 0, none⟩) ∧ p9 = .pointer (some ⟨g, 0, none⟩) ∧ Rc.pb = pc ∧ Hid (CloM W wx R Rc q g a n c r j #[.slice a n c, .int .i64 r.steps, .bool r.armed, .int .i64 r.left, .bool r.down] a n c r j))
        case first =>
          refine wp_region_T (fun w' => w'.heap[q]? = some (.cells #[.slice a n c, .int .i64 r.steps, .bool r.armed, .int .i64 r.left, .bool r.down] 27 (0, 0))) [1, 2, 3, 4] (by kernel_rfl) ?_
          replace M := Lib.hid (M.out.call ((Below.refl _ _).drew))
          generalize World.drew _ = w5 at *
          refine anyT_takeY (i := 0) (v := .pointer (some ⟨p, 0, none⟩)) rfl (by kernel_rfl) (by kernel_rfl) (by kernel_rfl) (fun _ _ _ h => h) (by kernel_rfl) (Or.inl ⟨by rfl, by intro w; go_simp⟩) ?_
          try simp only [List.getElem_toArray, List.getElem_cons_succ, List.getElem_cons_zero, Act.put, List.setIfInBounds_toArray, List.set_cons_zero, List.set_cons_succ]
          refine anyT_take [5] (i := 2) (v := .agg #[.slice a n c, .int .i64 r.steps, .bool r.armed, .int .i64 r.left, .bool r.down]) rfl (by kernel_rfl) (by kernel_rfl) (by kernel_rfl) (fun _ _ _ h => h) (by kernel_rfl) (agg_yields (by rfl) 27 (.tmp 6) rfl q rfl _ _ (fun _ h => h) Tryd.underlying27 rfl (by kernel_rfl)) M.out.box ?_
          try simp only [List.getElem_toArray, List.getElem_cons_succ, List.getElem_cons_zero, Act.put, List.setIfInBounds_toArray, List.set_cons_zero, List.set_cons_succ]
          refine anyT_ready (rs := [1, 3]) (by kernel_rfl) (by simp) ?_
          refine readyT_cons rfl (fun K hK => ?_) (readyT_cons rfl (fun K hK => ?_) readyT_nil)
          · rw [if_pos (by rfl)]
            try simp only [List.getElem_toArray, List.getElem_cons_succ, List.getElem_cons_zero]
            (go_simp; (with_reducible refine (HCL.out _ M.out).mono ?_); rintro e w6 ⟨pc, Rc, rfl, hpc, hoc, hac, hdj, hdj2, hb⟩; replace M := Lib.hid (M.out.call hb); have HOC := Lib.hid hoc; have HAC := Lib.hid hac; have HDJ := Lib.hid hdj; have HPC := Lib.hid hpc; clear hb hpc hoc hac hdj hdj2)
            refine hK _ _ (fun _ => M.out.box) ?_
            clear hK K
            try simp only [List.getElem_toArray, List.getElem_cons_succ, List.getElem_cons_zero, Act.put, List.setIfInBounds_toArray, List.set_cons_zero, List.set_cons_succ]
            refine anyT_one (i := 3) (by kernel_rfl) rfl (fun K hK => ?_)
            rw [if_pos (by rfl)]
            try simp only [List.getElem_toArray, List.getElem_cons_succ, List.getElem_cons_zero]
            (go_simp; have hb0 := below1 w6 (.cells #[.slice none 0 0, .int .i64 0, .bool false, .int .i64 0, .bool false] 27); have HG := Lib.hid (heap_alloc_new w6 (.cells #[.slice none 0 0, .int .i64 0, .bool false, .int .i64 0, .bool false] 27)); have HGE := Lib.hid (show W.heap.size ≤ w6.heap.size from M.out.below.size); have HNE := Lib.hid (show q ≠ w6.heap.size from Nat.ne_of_lt (Array.getElem?_eq_some_iff.1 M.out.box).1); replace M := Lib.hid (M.out.call hb0); have hb0' := hb0; clear hb0; replace HOC := Lib.hid (HOC.out.below hb0'); clear hb0')
            refine hK _ _ (fun _ => M.out.box) ?_
            clear hK K
            try simp only [List.getElem_toArray, List.getElem_cons_succ, List.getElem_cons_zero, Act.put, List.setIfInBounds_toArray, List.set_cons_zero, List.set_cons_succ]
            obtain ⟨g, hg⟩ : ∃ g, g = w6.heap.size := ⟨_, rfl⟩
            rw [← hg] at HG HGE HNE ⊢
            clear hg
            generalize w6.alloc (.cells #[.slice none 0 0, .int .i64 0, .bool false, .int .i64 0, .bool false] 27) = w7 at *
            refine anyT_take [5] (i := 4) (v := .pointer (some ⟨pc, 0, none⟩)) rfl (by kernel_rfl) (by kernel_rfl) (by kernel_rfl) (fun _ _ _ h => h) (by kernel_rfl) (Or.inl ⟨by rfl, fun w' _ => by go_simp⟩) M.out.box ?_
            try simp only [List.getElem_toArray, List.getElem_cons_succ, List.getElem_cons_zero, Act.put, List.setIfInBounds_toArray, List.set_cons_zero, List.set_cons_succ]
            refine anyT_one (i := 5) (by kernel_rfl) rfl (fun K hK => ?_)
            rw [if_pos (by rfl)]
            try simp only [List.getElem_toArray, List.getElem_cons_succ, List.getElem_cons_zero]
            (refine wp_store_row 27 (.tmp 9) (.tmp 39) rfl g #[.slice a n c, .int .i64 r.steps, .bool r.armed, .int .i64 r.left, .bool r.down] rfl rfl 27 _ HG.out (by kernel_rfl) rfl (rs_one a n c ⟨[], r.steps, r.armed, r.left, r.down⟩) ?_)
            refine hK _ _ (not_mem rfl) ?_
            clear hK K
            try simp only [List.getElem_toArray, List.getElem_cons_succ, List.getElem_cons_zero, Act.put, List.setIfInBounds_toArray, List.set_cons_zero, List.set_cons_succ]
            refine anyT_done (by kernel_rfl) ?_ _
            go_wp2_with (fail)
            go_meet
            exact ⟨pc, g, Rc, rfl, rfl, HPC.out, Lib.hid (CloM.start M.out HOC.out HAC.out HDJ.out HG.out HGE.out HNE.out rfl)⟩
          · rw [if_pos (by rfl)]
            try simp only [List.getElem_toArray, List.getElem_cons_succ, List.getElem_cons_zero]
            (go_simp; have hb0 := below1 w5 (.cells #[.slice none 0 0, .int .i64 0, .bool false, .int .i64 0, .bool false] 27); have HG := Lib.hid (heap_alloc_new w5 (.cells #[.slice none 0 0, .int .i64 0, .bool false, .int .i64 0, .bool false] 27)); have HGE := Lib.hid (show W.heap.size ≤ w5.heap.size from M.out.below.size); have HNE := Lib.hid (show q ≠ w5.heap.size from Nat.ne_of_lt (Array.getElem?_eq_some_iff.1 M.out.box).1); replace M := Lib.hid (M.out.call hb0); clear hb0)
            refine hK _ _ (fun _ => M.out.box) ?_
            clear hK K
            try simp only [List.getElem_toArray, List.getElem_cons_succ, List.getElem_cons_zero, Act.put, List.setIfInBounds_toArray, List.set_cons_zero, List.set_cons_succ]
            obtain ⟨g, hg⟩ : ∃ g, g = w5.heap.size := ⟨_, rfl⟩
            rw [← hg] at HG HGE HNE ⊢
            clear hg
            generalize w5.alloc (.cells #[.slice none 0 0, .int .i64 0, .bool false, .int .i64 0, .bool false] 27) = w5' at *
            refine anyT_one (i := 1) (by kernel_rfl) rfl (fun K hK => ?_)
            rw [if_pos (by rfl)]
            try simp only [List.getElem_toArray, List.getElem_cons_succ, List.getElem_cons_zero]
            (go_simp; (with_reducible refine (HCL.out _ M.out).mono ?_); rintro e w6 ⟨pc, Rc, rfl, hpc, hoc, hac, hdj, hdj2, hb⟩; replace M := Lib.hid (M.out.call hb); have HOC := Lib.hid hoc; have HAC := Lib.hid hac; have HDJ := Lib.hid hdj; have HPC := Lib.hid hpc; replace HG := Lib.hid ((hb.block _ (Array.getElem?_eq_some_iff.1 HG.out).1).trans HG.out); clear hb hpc hoc hac hdj hdj2)
            refine hK _ _ (fun _ => M.out.box) ?_
            clear hK K
            try simp only [List.getElem_toArray, List.getElem_cons_succ, List.getElem_cons_zero, Act.put, List.setIfInBounds_toArray, List.set_cons_zero, List.set_cons_succ]
            refine anyT_take [5] (i := 4) (v := .pointer (some ⟨pc, 0, none⟩)) rfl (by kernel_rfl) (by kernel_rfl) (by kernel_rfl) (fun _ _ _ h => h) (by kernel_rfl) (Or.inl ⟨by rfl, fun w' _ => by go_simp⟩) M.out.box ?_
            try simp only [List.getElem_toArray, List.getElem_cons_succ, List.getElem_cons_zero, Act.put, List.setIfInBounds_toArray, List.set_cons_zero, List.set_cons_succ]
            refine anyT_one (i := 5) (by kernel_rfl) rfl (fun K hK => ?_)
            rw [if_pos (by rfl)]
            try simp only [List.getElem_toArray, List.getElem_cons_succ, List.getElem_cons_zero]
            (refine wp_store_row 27 (.tmp 9) (.tmp 39) rfl g #[.slice a n c, .int .i64 r.steps, .bool r.armed, .int .i64 r.left, .bool r.down] rfl rfl 27 _ HG.out (by kernel_rfl) rfl (rs_one a n c ⟨[], r.steps, r.armed, r.left, r.down⟩) ?_)
            refine hK _ _ (not_mem rfl) ?_
            clear hK K
            try simp only [List.getElem_toArray, List.getElem_cons_succ, List.getElem_cons_zero, Act.put, List.setIfInBounds_toArray, List.set_cons_zero, List.set_cons_succ]
            refine anyT_done (by kernel_rfl) ?_ _
            go_wp2_with (fail)
            go_meet
            exact ⟨pc, g, Rc, rfl, rfl, HPC.out, Lib.hid (CloM.start M.out HOC.out HAC.out HDJ.out HG.out HGE.out HNE.out rfl)⟩

        case rest =>
          obtain ⟨pc, g, Rc, rfl, rfl, hpc, M⟩ := hcut
          have HS1 := Lib.hid (fun w' (m : LawM W w' R q #[.slice a n c, .int .i64 r.steps, .bool r.armed, .int .i64 r.left, .bool r.down] a n c r j) => m.same HET.out (by have := HJ40.out; omega))
          rw [HP.out] at HS1
          clear HCL
          go_wp2_with (fail)
          go_loopw [10, 11, 12] (fun x _ _ wr => ∃ i : Nat, i ≤ us.length ∧ i ≤ 40 ∧ x = .int .i64 (i : Int) ∧ ∃ Rc a2 n2 c2 s, Rc.pb = pc ∧ Hid (CloM W wr R Rc q g a n c r j #[.slice a2 n2 c2, .int .i64 s.steps, .bool s.armed, .int .i64 s.left, .bool s.down] a2 n2 c2 s (j + i))) (fun x _ _ _ => us.length - (intOf x).toNat)
          case atStart => exact ⟨0, Nat.zero_le _, Nat.zero_le _, rfl, Rc, a, n, c, r, hpc, M⟩
          case round =>
            clear M
            obtain ⟨i, hil, hi40, rfl, Rc, a2, n2, c2, s, hpc, M⟩ := hrel
            have hiI : (i : Int) ≤ 40 := by omega
            by_cases hlt : i < us.length ∧ i < 40
            · obtain ⟨t, ht⟩ : ∃ t, us[i]? = some t := ⟨_, List.getElem?_eq_getElem hlt.1⟩
              have htm : t ∈ us := List.mem_of_getElem? ht
              obtain ⟨ab, ao, rfl, hAA⟩ := acts_at HY.out ht
              have HA := Lib.hid hAA
              have h1I : (i : Int) < (us.length : Int) := by omega
              have h2I : (i : Int) < 40 := by omega
              have HLS := Lib.hid (fun w5 (m : CloM W w5 R Rc q g a n c r j #[.slice a2 n2 c2, .int .i64 s.steps, .bool s.armed, .int .i64 s.left, .bool s.down] a2 n2 c2 s (j + i)) => m.lstep HET.out (by have := HJ40.out; omega) t (HUS.out t htm).1 (HUS.out t htm).2.1 (HUS.out t htm).2.2)
              unfold AT.cells at HLS
              rw [hpc] at HLS
              clear hlt ht htm hAA
              go_upto_region 15 with (fail)
              go_cut [11, 12] (fun p11 p12 wx => ∃ h Rc3 a3 n3 c3 s3, p11 = .pointer (some ⟨h, 0, none⟩) ∧ p12 = .bool true ∧ Rc3.pb = pc ∧ Hid (CloM W wx R Rc3 q g a n c r j #[.slice a2 n2 c2, .int .i64 s.steps, .bool s.armed, .int .i64 s.left, .bool s.down] a3 n3 c3 s3 (j + i + 1)) ∧ Hid (wx.heap[h]? = some (.cells #[.slice a3 n3 c3, .int .i64 s3.steps, .bool s3.armed, .int .i64 s3.left, .bool s3.down] 27 (0, 0)) ∧ W.heap.size ≤ h ∧ q ≠ h ∧ g ≠ h))
              case first =>
                  refine wp_region_T (fun w' => lawS w' g #[.slice a2 n2 c2, .int .i64 s.steps, .bool s.armed, .int .i64 s.left, .bool s.down] ab (ao + i * 6) t) [1, 5, 6, 10] (by kernel_rfl) ?_
                  replace M := Lib.hid (M.out.call ((Below.refl _ _).drew))
                  generalize World.drew _ = w5 at *
                  refine anyT_takeY (i := 0) (v := .pointer (some ⟨pc, 0, none⟩)) rfl (by kernel_rfl) (by kernel_rfl) (by kernel_rfl) (fun _ _ _ h => h) (by kernel_rfl) (Or.inl ⟨by rfl, by intro w; go_simp⟩) ?_
                  try simp only [List.getElem_toArray, List.getElem_cons_succ, List.getElem_cons_zero, Act.put, List.setIfInBounds_toArray, List.set_cons_zero, List.set_cons_succ]
                  refine anyT_takeY (i := 2) (v := .slice (some ⟨ab, ao, none⟩) us.length mc) rfl (by kernel_rfl) (by kernel_rfl) (by kernel_rfl) (fun _ _ _ h => h) (by kernel_rfl) (Or.inl ⟨by rfl, by intro w; go_simp⟩) ?_
                  try simp only [List.getElem_toArray, List.getElem_cons_succ, List.getElem_cons_zero, Act.put, List.setIfInBounds_toArray, List.set_cons_zero, List.set_cons_succ]
                  refine anyT_takeY (i := 3) (v := .int .i64 (i : Int)) rfl (by kernel_rfl) (by kernel_rfl) (by kernel_rfl) (fun _ _ _ h => h) (by kernel_rfl) (Or.inl ⟨by rfl, by intro w; go_simp⟩) ?_
                  try simp only [List.getElem_toArray, List.getElem_cons_succ, List.getElem_cons_zero, Act.put, List.setIfInBounds_toArray, List.set_cons_zero, List.set_cons_succ]
                  refine anyT_takeY (i := 4) (v := .pointer (some ⟨ab, ao + i * 6, none⟩)) rfl (by kernel_rfl) (by kernel_rfl) (by kernel_rfl) (fun _ _ _ h => h) (by kernel_rfl) (Or.inl ⟨by rfl, by intro w; go_simp⟩) ?_
                  try simp only [List.getElem_toArray, List.getElem_cons_succ, List.getElem_cons_zero, Act.put, List.setIfInBounds_toArray, List.set_cons_zero, List.set_cons_succ]
                  refine anyT_take [6, 7, 8, 9, 11, 12] (i := 1) (v := .agg #[.slice a2 n2 c2, .int .i64 s.steps, .bool s.armed, .int .i64 s.left, .bool s.down]) rfl (by kernel_rfl) (by kernel_rfl) (by kernel_rfl) (fun _ _ _ h => h) (by kernel_rfl) (agg_yields (by rfl) 27 (.tmp 9) rfl g rfl _ _ (fun _ h => h.1) Tryd.underlying27 rfl (by kernel_rfl)) (cloS_of M.out HA.out) ?_
                  try simp only [List.getElem_toArray, List.getElem_cons_succ, List.getElem_cons_zero, Act.put, List.setIfInBounds_toArray, List.set_cons_zero, List.set_cons_succ]
                  refine anyT_take [6, 7, 8, 9, 11, 12] (i := 5) (v := .agg #[.int .i64 t.kind, .int .i64 t.n, .string t.name, .string t.now, t.dv, t.kv]) rfl (by kernel_rfl) (by kernel_rfl) (by kernel_rfl) (fun _ _ _ h => h) (by kernel_rfl) (act_yields (by rfl) (.tmp 57) rfl ab (ao + i * 6) rfl t _ (fun _ h => h.2) Tryd.underlying33 rfl) (cloS_of M.out HA.out) ?_
                  try simp only [List.getElem_toArray, List.getElem_cons_succ, List.getElem_cons_zero, Act.put, List.setIfInBounds_toArray, List.set_cons_zero, List.set_cons_succ]
                  refine anyT_ready (rs := [6, 10]) (by kernel_rfl) (by simp) ?_
                  refine readyT_cons rfl (fun K hK => ?_) (readyT_cons rfl (fun K hK => ?_) readyT_nil)
                  · rw [if_pos (by rfl)]
                    try simp only [List.getElem_toArray, List.getElem_cons_succ, List.getElem_cons_zero]
                    (go_simp; (with_reducible refine (HLS.out _ M.out).mono ?_); rintro e w6 ⟨Rc3, a3, n3, c3, s3, rfl, hp3, hkt, hsz, hm⟩; replace M := Lib.hid hm; have HP3 := Lib.hid hp3; clear hkt hsz hm hp3)
                    refine hK _ _ (fun _ => cloS_of M.out HA.out) ?_
                    clear hK K
                    try simp only [List.getElem_toArray, List.getElem_cons_succ, List.getElem_cons_zero, Act.put, List.setIfInBounds_toArray, List.set_cons_zero, List.set_cons_succ]
                    refine anyT_takeY (i := 7) (v := .tuple #[.agg #[.slice a3 n3 c3, .int .i64 s3.steps, .bool s3.armed, .int .i64 s3.left, .bool s3.down], .bool true]) rfl (by kernel_rfl) (by kernel_rfl) (by kernel_rfl) (fun _ _ _ h => h) (by kernel_rfl) (Or.inl ⟨by rfl, by intro w; go_simp⟩) ?_
                    try simp only [List.getElem_toArray, List.getElem_cons_succ, List.getElem_cons_zero, Act.put, List.setIfInBounds_toArray, List.set_cons_zero, List.set_cons_succ]
                    refine anyT_takeY (i := 8) (v := .agg #[.slice a3 n3 c3, .int .i64 s3.steps, .bool s3.armed, .int .i64 s3.left, .bool s3.down]) rfl (by kernel_rfl) (by kernel_rfl) (by kernel_rfl) (fun _ _ _ h => h) (by kernel_rfl) (Or.inl ⟨by rfl, by intro w; go_simp⟩) ?_
                    try simp only [List.getElem_toArray, List.getElem_cons_succ, List.getElem_cons_zero, Act.put, List.setIfInBounds_toArray, List.set_cons_zero, List.set_cons_succ]
                    refine anyT_takeY (i := 9) (v := .bool true) rfl (by kernel_rfl) (by kernel_rfl) (by kernel_rfl) (fun _ _ _ h => h) (by kernel_rfl) (Or.inl ⟨by rfl, by intro w; go_simp⟩) ?_
                    try simp only [List.getElem_toArray, List.getElem_cons_succ, List.getElem_cons_zero, Act.put, List.setIfInBounds_toArray, List.set_cons_zero, List.set_cons_succ]
                    refine anyT_one (i := 10) (by kernel_rfl) rfl (fun K hK => ?_)
                    rw [if_pos (by rfl)]
                    try simp only [List.getElem_toArray, List.getElem_cons_succ, List.getElem_cons_zero]
                    (go_simp; have hb0 := below1 w6 (.cells #[.slice none 0 0, .int .i64 0, .bool false, .int .i64 0, .bool false] 27); have HH := Lib.hid (heap_alloc_new w6 (.cells #[.slice none 0 0, .int .i64 0, .bool false, .int .i64 0, .bool false] 27)); have HHE := Lib.hid (show W.heap.size ≤ w6.heap.size ∧ q ≠ w6.heap.size ∧ g ≠ w6.heap.size from ⟨M.out.c.below.size, Nat.ne_of_lt (Array.getElem?_eq_some_iff.1 M.out.f.box).1, Nat.ne_of_lt (Array.getElem?_eq_some_iff.1 M.out.c.box).1⟩); replace M := Lib.hid (M.out.call hb0); clear hb0)
                    refine hK _ _ (fun _ => cloS_of M.out HA.out) ?_
                    clear hK K
                    try simp only [List.getElem_toArray, List.getElem_cons_succ, List.getElem_cons_zero, Act.put, List.setIfInBounds_toArray, List.set_cons_zero, List.set_cons_succ]
                    obtain ⟨h, hh⟩ : ∃ h, h = w6.heap.size := ⟨_, rfl⟩
                    rw [← hh] at HH HHE ⊢
                    clear hh
                    generalize w6.alloc (.cells #[.slice none 0 0, .int .i64 0, .bool false, .int .i64 0, .bool false] 27) = w7 at *
                    refine anyT_one (i := 11) (by kernel_rfl) rfl (fun K hK => ?_)
                    rw [if_pos (by rfl)]
                    try simp only [List.getElem_toArray, List.getElem_cons_succ, List.getElem_cons_zero]
                    (refine wp_store_row 27 (.tmp 11) (.tmp 60) rfl h #[.slice a3 n3 c3, .int .i64 s3.steps, .bool s3.armed, .int .i64 s3.left, .bool s3.down] rfl rfl 27 _ HH.out (by kernel_rfl) rfl (rs_one a3 n3 c3 ⟨[], s3.steps, s3.armed, s3.left, s3.down⟩) ?_)
                    refine hK _ _ (not_mem rfl) ?_
                    clear hK K
                    try simp only [List.getElem_toArray, List.getElem_cons_succ, List.getElem_cons_zero, Act.put, List.setIfInBounds_toArray, List.set_cons_zero, List.set_cons_succ]
                    refine anyT_takeY (i := 12) (v := .bool true) rfl (by kernel_rfl) (by kernel_rfl) (by kernel_rfl) (fun _ _ _ h => h) (by kernel_rfl) (Or.inl ⟨by rfl, by intro w; go_simp⟩) ?_
                    try simp only [List.getElem_toArray, List.getElem_cons_succ, List.getElem_cons_zero, Act.put, List.setIfInBounds_toArray, List.set_cons_zero, List.set_cons_succ]
                    refine anyT_done (by kernel_rfl) ?_ _
                    go_wp2_with (fail)
                    go_meet
                    exact ⟨h, Rc3, a3, n3, c3, s3, rfl, rfl, HP3.out, Lib.hid (M.out.other HH.out HHE.out.1 HHE.out.2.1 HHE.out.2.2 rfl), Lib.hid ⟨setRow_heap _ _ _ _ _ _ HH.out, HHE.out⟩⟩
                  · rw [if_pos (by rfl)]
                    try simp only [List.getElem_toArray, List.getElem_cons_succ, List.getElem_cons_zero]
                    (go_simp; have hb0 := below1 w5 (.cells #[.slice none 0 0, .int .i64 0, .bool false, .int .i64 0, .bool false] 27); have HH := Lib.hid (heap_alloc_new w5 (.cells #[.slice none 0 0, .int .i64 0, .bool false, .int .i64 0, .bool false] 27)); have HHE := Lib.hid (show W.heap.size ≤ w5.heap.size ∧ q ≠ w5.heap.size ∧ g ≠ w5.heap.size from ⟨M.out.c.below.size, Nat.ne_of_lt (Array.getElem?_eq_some_iff.1 M.out.f.box).1, Nat.ne_of_lt (Array.getElem?_eq_some_iff.1 M.out.c.box).1⟩); replace M := Lib.hid (M.out.call hb0); clear hb0)
                    refine hK _ _ (fun _ => cloS_of M.out HA.out) ?_
                    clear hK K
                    try simp only [List.getElem_toArray, List.getElem_cons_succ, List.getElem_cons_zero, Act.put, List.setIfInBounds_toArray, List.set_cons_zero, List.set_cons_succ]
                    obtain ⟨h, hh⟩ : ∃ h, h = w5.heap.size := ⟨_, rfl⟩
                    rw [← hh] at HH HHE ⊢
                    clear hh
                    generalize w5.alloc (.cells #[.slice none 0 0, .int .i64 0, .bool false, .int .i64 0, .bool false] 27) = w5' at *
                    refine anyT_one (i := 6) (by kernel_rfl) rfl (fun K hK => ?_)
                    rw [if_pos (by rfl)]
                    try simp only [List.getElem_toArray, List.getElem_cons_succ, List.getElem_cons_zero]
                    (go_simp; (with_reducible refine (HLS.out _ M.out).mono ?_); rintro e w6 ⟨Rc3, a3, n3, c3, s3, rfl, hp3, hkt, hsz, hm⟩; replace M := Lib.hid hm; have HP3 := Lib.hid hp3; replace HH := Lib.hid (hkt _ _ _ HH.out (by decide) (by decide)); clear hkt hsz hm hp3)
                    refine hK _ _ (fun _ => cloS_of M.out HA.out) ?_
                    clear hK K
                    try simp only [List.getElem_toArray, List.getElem_cons_succ, List.getElem_cons_zero, Act.put, List.setIfInBounds_toArray, List.set_cons_zero, List.set_cons_succ]
                    refine anyT_takeY (i := 7) (v := .tuple #[.agg #[.slice a3 n3 c3, .int .i64 s3.steps, .bool s3.armed, .int .i64 s3.left, .bool s3.down], .bool true]) rfl (by kernel_rfl) (by kernel_rfl) (by kernel_rfl) (fun _ _ _ h => h) (by kernel_rfl) (Or.inl ⟨by rfl, by intro w; go_simp⟩) ?_
                    try simp only [List.getElem_toArray, List.getElem_cons_succ, List.getElem_cons_zero, Act.put, List.setIfInBounds_toArray, List.set_cons_zero, List.set_cons_succ]
                    refine anyT_takeY (i := 8) (v := .agg #[.slice a3 n3 c3, .int .i64 s3.steps, .bool s3.armed, .int .i64 s3.left, .bool s3.down]) rfl (by kernel_rfl) (by kernel_rfl) (by kernel_rfl) (fun _ _ _ h => h) (by kernel_rfl) (Or.inl ⟨by rfl, by intro w; go_simp⟩) ?_
                    try simp only [List.getElem_toArray, List.getElem_cons_succ, List.getElem_cons_zero, Act.put, List.setIfInBounds_toArray, List.set_cons_zero, List.set_cons_succ]
                    refine anyT_takeY (i := 9) (v := .bool true) rfl (by kernel_rfl) (by kernel_rfl) (by kernel_rfl) (fun _ _ _ h => h) (by kernel_rfl) (Or.inl ⟨by rfl, by intro w; go_simp⟩) ?_
                    try simp only [List.getElem_toArray, List.getElem_cons_succ, List.getElem_cons_zero, Act.put, List.setIfInBounds_toArray, List.set_cons_zero, List.set_cons_succ]
                    refine anyT_one (i := 11) (by kernel_rfl) rfl (fun K hK => ?_)
                    rw [if_pos (by rfl)]
                    try simp only [List.getElem_toArray, List.getElem_cons_succ, List.getElem_cons_zero]
                    (refine wp_store_row 27 (.tmp 11) (.tmp 60) rfl h #[.slice a3 n3 c3, .int .i64 s3.steps, .bool s3.armed, .int .i64 s3.left, .bool s3.down] rfl rfl 27 _ HH.out (by kernel_rfl) rfl (rs_one a3 n3 c3 ⟨[], s3.steps, s3.armed, s3.left, s3.down⟩) ?_)
                    refine hK _ _ (not_mem rfl) ?_
                    clear hK K
                    try simp only [List.getElem_toArray, List.getElem_cons_succ, List.getElem_cons_zero, Act.put, List.setIfInBounds_toArray, List.set_cons_zero, List.set_cons_succ]
                    refine anyT_takeY (i := 12) (v := .bool true) rfl (by kernel_rfl) (by kernel_rfl) (by kernel_rfl) (fun _ _ _ h => h) (by kernel_rfl) (Or.inl ⟨by rfl, by intro w; go_simp⟩) ?_
                    try simp only [List.getElem_toArray, List.getElem_cons_succ, List.getElem_cons_zero, Act.put, List.setIfInBounds_toArray, List.set_cons_zero, List.set_cons_succ]
                    refine anyT_done (by kernel_rfl) ?_ _
                    go_wp2_with (fail)
                    go_meet
                    exact ⟨h, Rc3, a3, n3, c3, s3, rfl, rfl, HP3.out, Lib.hid (M.out.other HH.out HHE.out.1 HHE.out.2.1 HHE.out.2.2 rfl), Lib.hid ⟨setRow_heap _ _ _ _ _ _ HH.out, HHE.out⟩⟩

              case rest =>
                obtain ⟨h, Rc3, a3, n3, c3, s3, rfl, rfl, hp3, M, HH⟩ := hcut
                go_wp2_with (first
                  | (refine wpList_load_row rfl 27 (.tmp 11) rfl h rfl 27 #[.slice a3 n3 c3, .int .i64 s3.steps, .bool s3.armed, .int .i64 s3.left, .bool s3.down] (0, 0) _ HH.out.1 Tryd.underlying27 rfl (by kernel_rfl) ?_)
                  | (refine wpList_store_row rfl 27 (.tmp 9) (.tmp 62) rfl g #[.slice a3 n3 c3, .int .i64 s3.steps, .bool s3.armed, .int .i64 s3.left, .bool s3.down] rfl rfl 27 _ M.out.c.box (by kernel_rfl) rfl (rs_one a3 n3 c3 ⟨[], s3.steps, s3.armed, s3.left, s3.down⟩) ?_))
                have M2 := Lib.hid (M.out.set (C' := #[.slice a3 n3 c3, .int .i64 s3.steps, .bool s3.armed, .int .i64 s3.left, .bool s3.down]) rfl)
                generalize World.setRow _ _ _ = w7 at *
                clear M HH
                go_roundw
                case rel => exact ⟨i + 1, by omega, by omega, by go_num, Rc3, a3, n3, c3, s3, hp3, M2⟩
                case measure => simp [intOf]; omega
            · have HS2 := Lib.hid (fun w' (m : LawM W w' Rc g #[.slice a2 n2 c2, .int .i64 s.steps, .bool s.armed, .int .i64 s.left, .bool s.down] a2 n2 c2 s (j + i)) => m.same HET.out (by have := HJ40.out; omega))
              rw [hpc] at HS2
              have HLS0 := Lib.hid hpc
              clear hpc
              by_cases hl1 : (i : Int) < (us.length : Int)
              · have hl2 : ¬ ((i : Int) < 40) := by omega
                clear hlt
                clear HY HUS HET HLS0
                go_wp2_with (first
                  | (refine wpList_load_row rfl 27 (.tmp 6) rfl q rfl 27 #[.slice a n c, .int .i64 r.steps, .bool r.armed, .int .i64 r.left, .bool r.down] (0, 0) _ M.out.f.box Tryd.underlying27 rfl (by kernel_rfl) ?_)
                  | (refine wpList_load_row rfl 27 (.tmp 9) rfl g rfl 27 #[.slice a2 n2 c2, .int .i64 s.steps, .bool s.armed, .int .i64 s.left, .bool s.down] (0, 0) _ M.out.c.box Tryd.underlying27 rfl (by kernel_rfl) ?_)
                  | (go_at_call 10; (first | (with_reducible refine (HS1.out _ M.out.f).mono ?_) | (with_reducible refine (HS2.out _ M.out.c).mono ?_)); rintro e w8 ⟨rfl, hb⟩; replace M := Lib.hid (M.out.call hb); clear hb; obtain ⟨g0, g1, g2, g3, g4, -⟩ := rs_cells M.out.c.box)
                  | (go_at_call 21; (with_reducible refine (sure_any _).mono ?_); rintro e w9 ⟨rfl, hb⟩; replace M := Lib.hid (M.out.call hb); clear hb))
                go_ret
                exact ⟨rfl, M.out.f.below⟩
              · clear hlt
                clear HY HUS HET HLS0
                go_wp2_with (first
                  | (refine wpList_load_row rfl 27 (.tmp 6) rfl q rfl 27 #[.slice a n c, .int .i64 r.steps, .bool r.armed, .int .i64 r.left, .bool r.down] (0, 0) _ M.out.f.box Tryd.underlying27 rfl (by kernel_rfl) ?_)
                  | (refine wpList_load_row rfl 27 (.tmp 9) rfl g rfl 27 #[.slice a2 n2 c2, .int .i64 s.steps, .bool s.armed, .int .i64 s.left, .bool s.down] (0, 0) _ M.out.c.box Tryd.underlying27 rfl (by kernel_rfl) ?_)
                  | (go_at_call 10; (first | (with_reducible refine (HS1.out _ M.out.f).mono ?_) | (with_reducible refine (HS2.out _ M.out.c).mono ?_)); rintro e w8 ⟨rfl, hb⟩; replace M := Lib.hid (M.out.call hb); clear hb; obtain ⟨g0, g1, g2, g3, g4, -⟩ := rs_cells M.out.c.box)
                  | (go_at_call 21; (with_reducible refine (sure_any _).mono ?_); rintro e w9 ⟨rfl, hb⟩; replace M := Lib.hid (M.out.call hb); clear hb))
                go_ret
                exact ⟨rfl, M.out.f.below⟩

end Go.Proofs.YtggcodobkmhkgaaDoor
