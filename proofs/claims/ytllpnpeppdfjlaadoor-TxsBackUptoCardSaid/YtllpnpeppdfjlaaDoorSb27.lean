/- Part 27 of the proof. -/
import Derived.BigQuiet
import Derived.Test.YtllpnpeppdfjlaaDoorSb26
namespace Go.Proofs.YtllpnpeppdfjlaaDoor
set_option linter.unusedVariables false
set_option linter.unusedSimpArgs false
open Go.RowKit
set_option maxRecDepth 100000
set_option linter.unusedSimpArgs false
set_option linter.unusedVariables false
set_option maxHeartbeats 16000000 in
theorem lxsame_any (a b : Tr) (w : World) (ha : TrE w a) (hb : TrE w b) (hs : pxP a = pxP b) : Calls Tryd.prog 7 #[.agg (trC15 a), .agg (trC15 b)] w fun e w' => e = .returned (.bool true) ∧ Below w.heap.size w w' := by
  obtain ⟨⟨am, amc, e1⟩, ⟨sa, sac, e2⟩⟩ := ha.v
  obtain ⟨⟨bm, bmc, e3⟩, ⟨sb, sbc, e4⟩⟩ := hb.v
  have heq := hs
  unfold pxP at heq
  injection heq with h1 h2 h3 h4 h5 h6
  have hlen : b.ms.length = a.ms.length := by have := congrArg List.length h5; simpa using this.symm
  have HP := Lib.hid h5
  have HAM := Lib.hid (show MgIn w (.slice am a.ms.length amc) a.ms from e1 ▸ ha.m)
  have HBM := Lib.hid (show MgIn w (.slice bm a.ms.length bmc) b.ms from by have h := hb.m; rw [e3, hlen] at h; exact h)
  have HAE := Lib.hid ha.e
  have HBE := Lib.hid hb.e
  have HAS := Lib.hid (show BytesIn w (.slice sa a.sg.length sac) a.sg from e2 ▸ ha.s)
  have HBS := Lib.hid (show BytesIn w (.slice sb a.sg.length sbc) a.sg from by have h := hb.s; rw [e4, ← h6] at h; exact h)
  have HCA := Lib.hid (show trC15 a = #[.string a.acc, .int .i64 a.seq, .string a.den, .int .i64 a.amt, .slice am a.ms.length amc, .slice sa a.sg.length sac] from by unfold trC15; rw [e1, e2])
  have HCB := Lib.hid (show trC15 b = #[.string a.acc, .int .i64 a.seq, .string a.den, .int .i64 a.amt, .slice bm a.ms.length bmc, .slice sb a.sg.length sbc] from by unfold trC15; rw [e3, e4, ← h1, ← h2, ← h3, ← h4, hlen, ← h6])
  have HNM := Lib.hid HAM.out.len_le
  clear ha hb hs h1 h2 h3 h4 h5 h6 e1 e2 e3 e4
  rw [HCA.out, HCB.out]
  clear HCA HCB
  obtain ⟨n, hn⟩ : ∃ n, n = a.ms.length := ⟨_, rfl⟩
  rw [← hn] at HAM HBM HNM ⊢
  have HN := Lib.hid hn
  clear hn hlen
  obtain ⟨dn, hdn⟩ : ∃ z, z = a.den := ⟨_, rfl⟩
  obtain ⟨ac, hac⟩ : ∃ z, z = a.acc := ⟨_, rfl⟩
  obtain ⟨am_, hamt⟩ : ∃ z, z = a.amt := ⟨_, rfl⟩
  obtain ⟨sq, hsq⟩ : ∃ z, z = a.seq := ⟨_, rfl⟩
  rw [← hdn, ← hac, ← hamt, ← hsq]
  clear hdn hac hamt hsq
  have hb1 := below_alloc w (.cells #[.string ac, .int .i64 sq, .string dn, .int .i64 am_, .slice am n amc, .slice sa a.sg.length sac] 34)
  have hb2 := below_alloc (w.alloc (.cells #[.string ac, .int .i64 sq, .string dn, .int .i64 am_, .slice am n amc, .slice sa a.sg.length sac] 34)) (.cells #[.string ac, .int .i64 sq, .string dn, .int .i64 am_, .slice bm n bmc, .slice sb a.sg.length sbc] 27)
  have HQ := Lib.hid ((hb2.block _ (by simp)).trans (heap_alloc_new w (.cells #[.string ac, .int .i64 sq, .string dn, .int .i64 am_, .slice am n amc, .slice sa a.sg.length sac] 34)))
  have HC := Lib.hid (heap_alloc_new (w.alloc (.cells #[.string ac, .int .i64 sq, .string dn, .int .i64 am_, .slice am n amc, .slice sa a.sg.length sac] 34)) (.cells #[.string ac, .int .i64 sq, .string dn, .int .i64 am_, .slice bm n bmc, .slice sb a.sg.length sbc] 27))
  rw [size_alloc] at HC
  have HB := Lib.hid (hb1.trans (hb2.mono (by simp)))
  clear hb1 hb2
  go_enter Tryd.func7, Tryd.ntmps7
  go_upto_region 1 with (fail)
  generalize (w.alloc (.cells #[.string ac, .int .i64 sq, .string dn, .int .i64 am_, .slice am n amc, .slice sa a.sg.length sac] 34)).alloc (.cells #[.string ac, .int .i64 sq, .string dn, .int .i64 am_, .slice bm n bmc, .slice sb a.sg.length sbc] 27) = w1 at *
  obtain ⟨p2, hp2⟩ : ∃ z, z = w.heap.size := ⟨_, rfl⟩
  obtain ⟨p3, hp3⟩ : ∃ z, z = w.heap.size + 1 := ⟨_, rfl⟩
  rw [← hp3] at HC ⊢
  rw [← hp2] at HQ ⊢
  clear hp2 hp3
  obtain ⟨c0, c1, c2, -, -, c4, c5⟩ := tx_cells HQ.out
  obtain ⟨d0, d1, d2, -, -, d4, d5⟩ := tx_cells HC.out
  have HR1 := Lib.hid c2
  have HR2 := Lib.hid d2
  have hc1 := conv_bytes w1 (.slice sa a.sg.length sac) _ (HAS.out.below HB.out)
  have hc2 := conv_bytes w1 (.slice sb a.sg.length sbc) _ (HBS.out.below HB.out)
  obtain ⟨S0, hS0⟩ : ∃ s, s = strOfNums a.sg := ⟨_, rfl⟩
  rw [← hS0] at hc1 hc2
  have hk0 : (S0.toList == S0.toList) = true := by simp
  have hk1 : (ac.toList == ac.toList) = true := by simp
  obtain ⟨sn, hsn⟩ : ∃ z, z = a.sg.length := ⟨_, rfl⟩
  rw [← hsn] at hc1 hc2 c5 d5
  clear hS0 c2 d2 hsn HAS HBS
  go_upto_region 3 with (first
    | (refine wpList_load_rowT (by rfl) 23 (.tmp 24) rfl p2 2 rfl #[.string dn, .int .i64 am_] _ HR1.out Tryd.underlying23 rfl (by kernel_rfl) ?_)
    | (refine wpList_load_rowT (by rfl) 23 (.tmp 26) rfl p3 2 rfl #[.string dn, .int .i64 am_] _ HR2.out Tryd.underlying23 rfl (by kernel_rfl) ?_)
    | (refine wpList_neqCoin (by rfl) (.tmp 25) (.tmp 27) rfl dn am_ rfl rfl ?_))
  clear c0 c1 c5 d0 d1 d5 hc1 hc2 hk0 hk1 HR1 HR2
  have hnle : (n : Int) ≤ 9223372036854775807 := by have := HNM.out; unfold maxLen at this; omega
  have HCP := Lib.hid (show ∀ w', Below w1.heap.size w1 w' → w'.cell? ⟨p2, 4, none⟩ = some (.slice am n amc) ∧ w'.cell? ⟨p3, 4, none⟩ = some (.slice bm n bmc) from fun w' hb => ⟨(hb.cell (p := ⟨p2, 4, none⟩) (World.block_lt_of_cell? _ _ c4)).trans c4, (hb.cell (p := ⟨p3, 4, none⟩) (World.block_lt_of_cell? _ _ d4)).trans d4⟩)
  clear c4 d4 HQ HC
  go_wp2_with (fail)
  go_loopw [5] (fun v wr => ∃ k : Nat, k ≤ n ∧ v = .int .i64 (k : Int) ∧ Hid (Below w1.heap.size w1 wr)) (fun v _ => n - (intOf v).toNat)
  case atStart => exact ⟨0, Nat.zero_le _, rfl, Lib.hid (Below.refl _ _)⟩
  case round =>
    obtain ⟨wx, hwx⟩ : ∃ z, z = wr := ⟨_, rfl⟩
    subst hwx
    obtain ⟨k, hkn, rfl, HW⟩ := hrel
    have r2 := (HCP.out wx HW.out).1
    by_cases hlt : k < n
    · have hltI : (k : Int) < (n : Int) := by omega
      obtain ⟨x, hx⟩ : ∃ x, a.ms[k]? = some x := ⟨a.ms[k]'(by rw [← HN.out]; exact hlt), List.getElem?_eq_getElem _⟩
      have hxy := congrArg (fun l : List Pm => l[k]?) HP.out
      simp only [List.getElem?_map, hx, Option.map_some] at hxy
      obtain ⟨y, hy, hyx⟩ := Option.map_eq_some_iff.1 hxy.symm
      have hbw := HB.out.trans (HW.out.mono HB.out.size)
      obtain ⟨ab, ao, rfl, hab, hra⟩ := (HAM.out.below hbw).at hx
      obtain ⟨bb, bo, rfl, hbb, hrb⟩ := (HBM.out.below hbw).at hy
      have HXE := Lib.hid ((HAE.out x (List.mem_of_getElem? hx)).below hbw)
      have HYE := Lib.hid ((HBE.out y (List.mem_of_getElem? hy)).below hbw)
      unfold mgP at hyx
      injection hyx with y1 y2 y3 y4
      obtain ⟨⟨ta, tc, et⟩, ⟨ia, ic, ei⟩, ⟨da, dc, ed⟩⟩ := HXE.out.v
      obtain ⟨⟨tb, ud, ft⟩, ⟨ib, uc, fi⟩, ⟨db, uf, fd⟩⟩ := HYE.out.v
      have y5 : y.ds.length = x.ds.length := by have := congrArg List.length y4; simpa using this
      have HDP := Lib.hid y4
      obtain ⟨CX, hCX⟩ : ∃ z : Array Value, z = #[.int .i64 x.kind, .slice ta x.ts.length tc, .slice ia x.is.length ic, .slice da x.ds.length dc] := ⟨_, rfl⟩
      obtain ⟨CY, hCY⟩ : ∃ z : Array Value, z = #[.int .i64 x.kind, .slice tb x.ts.length ud, .slice ib x.is.length uc, .slice db x.ds.length uf] := ⟨_, rfl⟩
      have hra' : wx.rangeAt ab (ao + k * 4) CX.toList := by
        have h : CX.toList = mgL x := by rw [hCX]; unfold mgL; rw [et, ei, ed]
        rw [h]; exact hra
      have hrb' : wx.rangeAt bb (bo + k * 4) CY.toList := by
        have h : CY.toList = mgL y := by rw [hCY]; unfold mgL; rw [ft, fi, fd, y1, y2, y3, y5]
        rw [h]; exact hrb
      have HTA := Lib.hid (show StIn wx (.slice ta x.ts.length tc) x.ts from et ▸ HXE.out.t)
      have HIA := Lib.hid (show ItIn wx (.slice ia x.is.length ic) x.is from ei ▸ HXE.out.i)
      have HDA := Lib.hid (show TbIn wx (.slice da x.ds.length dc) x.ds from ed ▸ HXE.out.d)
      have HTB := Lib.hid (show StIn wx (.slice tb x.ts.length ud) x.ts from by have h := HYE.out.t; rw [ft, y2] at h; exact h)
      have HIB := Lib.hid (show ItIn wx (.slice ib x.is.length uc) x.is from by have h := HYE.out.i; rw [fi, y3] at h; exact h)
      have HDB := Lib.hid (show TbIn wx (.slice db x.ds.length uf) y.ds from by have h := HYE.out.d; rw [fd, y5] at h; exact h)
      have HX2 := Lib.hid (show CX.size = 4 ∧ CX.all (·.oneCell') = true from by rw [hCX]; exact ⟨rfl, by simp [Value.oneCell']⟩)
      have HY2 := Lib.hid (show CY.size = 4 ∧ CY.all (·.oneCell') = true from by rw [hCY]; exact ⟨rfl, by simp [Value.oneCell']⟩)
      have HCX := Lib.hid hCX
      have HCY := Lib.hid hCY
      have HSW := Lib.hid (show ∀ w', Below wx.heap.size wx w' → ((w'.cell? ⟨p2, 4, none⟩ = some (.slice (some ⟨ab, ao, none⟩) n amc) ∧ w'.cell? ⟨p3, 4, none⟩ = some (.slice (some ⟨bb, bo, none⟩) n bmc)) ∧ w'.rangeAt ab (ao + k * 4) CX.toList) ∧ w'.rangeAt bb (bo + k * 4) CY.toList from fun w' hb => ⟨⟨HCP.out w' (HW.out.trans (hb.mono HW.out.size)), fun j v hv => (hb.cell (p := ⟨ab, ao + k * 4 + j, none⟩) hab).trans (hra' j v hv)⟩, fun j v hv => (hb.cell (p := ⟨bb, bo + k * 4 + j, none⟩) hbb).trans (hrb' j v hv)⟩)
      have hl1 : (x.ts.length : Int) ≤ 9223372036854775807 := by have := HTA.out.len_le; unfold maxLen at this; omega
      have hl2 : (x.is.length : Int) ≤ 9223372036854775807 := by have := HIA.out.len_le; unfold maxLen at this; omega
      have hl3 : (x.ds.length : Int) ≤ 9223372036854775807 := by have := HDA.out.len_le; unfold maxLen at this; omega
      clear hra hrb hra' hrb' et ei ed ft fi fd y1 y2 y3 y4 y5 hCX hCY hxy hbw hab hbb hx hy
      go_upto_region 6 with (fail)
      clear r2
      have HD := Lib.hid (show Below wx.heap.size wx wx.drew from (Below.refl _ _).drew)
      refine wp_region_T (fun w' => ((w'.cell? ⟨p2, 4, none⟩ = some (.slice (some ⟨ab, ao, none⟩) n amc) ∧ w'.cell? ⟨p3, 4, none⟩ = some (.slice (some ⟨bb, bo, none⟩) n bmc)) ∧ w'.rangeAt ab (ao + k * 4) CX.toList) ∧ w'.rangeAt bb (bo + k * 4) CY.toList) [1, 3, 4, 6, 8, 9, 10, 11, 12] (by kernel_rfl) ?_
      generalize wx.drew = w2 at *
      refine anyT_takeY (i := 0) (v := .pointer (some ⟨p2, 4, none⟩)) rfl (by kernel_rfl) (by kernel_rfl) (by kernel_rfl) (fun _ _ _ h => h) (by kernel_rfl) (Or.inl ⟨by rfl, by intro w; go_simp⟩) ?_
      try simp only [List.getElem_toArray, List.getElem_cons_succ, List.getElem_cons_zero, Act.put, List.setIfInBounds_toArray, List.set_cons_zero, List.set_cons_succ]
      refine anyT_takeY (i := 2) (v := .int .i64 (k : Int)) rfl (by kernel_rfl) (by kernel_rfl) (by kernel_rfl) (fun _ _ _ h => h) (by kernel_rfl) (Or.inl ⟨by rfl, by intro w; go_simp⟩) ?_
      try simp only [List.getElem_toArray, List.getElem_cons_succ, List.getElem_cons_zero, Act.put, List.setIfInBounds_toArray, List.set_cons_zero, List.set_cons_succ]
      refine anyT_takeY (i := 5) (v := .pointer (some ⟨p3, 4, none⟩)) rfl (by kernel_rfl) (by kernel_rfl) (by kernel_rfl) (fun _ _ _ h => h) (by kernel_rfl) (Or.inl ⟨by rfl, by intro w; go_simp⟩) ?_
      try simp only [List.getElem_toArray, List.getElem_cons_succ, List.getElem_cons_zero, Act.put, List.setIfInBounds_toArray, List.set_cons_zero, List.set_cons_succ]
      refine anyT_takeY (i := 7) (v := .int .i64 (k : Int)) rfl (by kernel_rfl) (by kernel_rfl) (by kernel_rfl) (fun _ _ _ h => h) (by kernel_rfl) (Or.inl ⟨by rfl, by intro w; go_simp⟩) ?_
      try simp only [List.getElem_toArray, List.getElem_cons_succ, List.getElem_cons_zero, Act.put, List.setIfInBounds_toArray, List.set_cons_zero, List.set_cons_succ]
      refine anyT_take [3, 4, 12, 13] (i := 1) (v := .slice (some ⟨ab, ao, none⟩) n amc) rfl (by kernel_rfl) (by kernel_rfl) (by kernel_rfl) (fun _ _ _ h => h) (by kernel_rfl) (Or.inl ⟨by rfl, fun w' hS => by have c := hS.1.1.1; go_simp⟩) (HSW.out w2 HD.out) ?_
      try simp only [List.getElem_toArray, List.getElem_cons_succ, List.getElem_cons_zero, Act.put, List.setIfInBounds_toArray, List.set_cons_zero, List.set_cons_succ]
      refine anyT_take [4, 12, 13] (i := 3) (v := .pointer (some ⟨ab, ao + k * 4, none⟩)) rfl (by kernel_rfl) (by kernel_rfl) (by kernel_rfl) (fun _ _ _ h => h) (by kernel_rfl) (Or.inl ⟨by rfl, fun w' _ => by go_simp⟩) (HSW.out w2 HD.out) ?_
      try simp only [List.getElem_toArray, List.getElem_cons_succ, List.getElem_cons_zero, Act.put, List.setIfInBounds_toArray, List.set_cons_zero, List.set_cons_succ]
      refine anyT_take [12, 13] (i := 4) (v := .agg CX) rfl (by kernel_rfl) (by kernel_rfl) (by kernel_rfl) (fun _ _ _ h => h) (by kernel_rfl) (row_yields15 (by rfl) 54 (.tmp 58) rfl ab (ao + k * 4) rfl _ _ (fun _ h => h.1.2) Tryd.underlying54 rfl (by rw [HX2.out.1]; kernel_rfl)) (HSW.out w2 HD.out) ?_
      try simp only [List.getElem_toArray, List.getElem_cons_succ, List.getElem_cons_zero, Act.put, List.setIfInBounds_toArray, List.set_cons_zero, List.set_cons_succ]
      refine anyT_take [8, 9, 13] (i := 6) (v := .slice (some ⟨bb, bo, none⟩) n bmc) rfl (by kernel_rfl) (by kernel_rfl) (by kernel_rfl) (fun _ _ _ h => h) (by kernel_rfl) (Or.inl ⟨by rfl, fun w' hS => by have c := hS.1.1.2; go_simp⟩) (HSW.out w2 HD.out) ?_
      try simp only [List.getElem_toArray, List.getElem_cons_succ, List.getElem_cons_zero, Act.put, List.setIfInBounds_toArray, List.set_cons_zero, List.set_cons_succ]
      refine anyT_take [9, 13] (i := 8) (v := .pointer (some ⟨bb, bo + k * 4, none⟩)) rfl (by kernel_rfl) (by kernel_rfl) (by kernel_rfl) (fun _ _ _ h => h) (by kernel_rfl) (Or.inl ⟨by rfl, fun w' _ => by go_simp⟩) (HSW.out w2 HD.out) ?_
      try simp only [List.getElem_toArray, List.getElem_cons_succ, List.getElem_cons_zero, Act.put, List.setIfInBounds_toArray, List.set_cons_zero, List.set_cons_succ]
      refine anyT_take [13] (i := 9) (v := .agg CY) rfl (by kernel_rfl) (by kernel_rfl) (by kernel_rfl) (fun _ _ _ h => h) (by kernel_rfl) (row_yields15 (by rfl) 53 (.tmp 63) rfl bb (bo + k * 4) rfl _ _ (fun _ h => h.2) Tryd.underlying53 rfl (by rw [HY2.out.1]; kernel_rfl)) (HSW.out w2 HD.out) ?_
      try simp only [List.getElem_toArray, List.getElem_cons_succ, List.getElem_cons_zero, Act.put, List.setIfInBounds_toArray, List.set_cons_zero, List.set_cons_succ]
      refine anyT_ready (rs := [10, 11]) (by kernel_rfl) (by simp) ?_
      refine readyT_cons rfl (fun K hK => ?_) (readyT_cons rfl (fun K hK => ?_) readyT_nil)
      · rw [if_pos (by rfl)]
        try simp only [List.getElem_toArray, List.getElem_cons_succ, List.getElem_cons_zero]
        (go_simp)
        refine hK _ _ (fun _ => HSW.out _ (HD.out.trans ((below_alloc w2 _).mono HD.out.size))) ?_
        clear hK K
        try simp only [List.getElem_toArray, List.getElem_cons_succ, List.getElem_cons_zero, Act.put, List.setIfInBounds_toArray, List.set_cons_zero, List.set_cons_succ]
        have hnew := heap_alloc_new w2 (.cells #[.int .i64 0, .slice none 0 0, .slice none 0 0, .slice none 0 0] 54)
        have hbn := below_alloc w2 (.cells #[.int .i64 0, .slice none 0 0, .slice none 0 0, .slice none 0 0] 54)
        obtain ⟨g6, hg⟩ : ∃ z, z = w2.heap.size := ⟨_, rfl⟩
        rw [← hg] at hnew ⊢
        have HGg6 := Lib.hid (show wx.heap.size ≤ g6 from by rw [hg]; exact HD.out.size)
        have HEg6 := Lib.hid hg
        have HNg6 := Lib.hid hnew
        have HBw3 := Lib.hid hbn
        have HDw3 := Lib.hid (HD.out.trans (hbn.mono HD.out.size))
        clear hnew hbn hg
        generalize w2.alloc (.cells #[.int .i64 0, .slice none 0 0, .slice none 0 0, .slice none 0 0] 54) = w3 at *
        refine anyT_one (i := 11) (by kernel_rfl) rfl (fun K hK => ?_)
        rw [if_pos (by rfl)]
        try simp only [List.getElem_toArray, List.getElem_cons_succ, List.getElem_cons_zero]
        (go_simp)
        refine hK _ _ (fun _ => HSW.out _ (HDw3.out.trans ((below_alloc w3 _).mono HDw3.out.size))) ?_
        clear hK K
        try simp only [List.getElem_toArray, List.getElem_cons_succ, List.getElem_cons_zero, Act.put, List.setIfInBounds_toArray, List.set_cons_zero, List.set_cons_succ]
        have hnew := heap_alloc_new w3 (.cells #[.int .i64 0, .slice none 0 0, .slice none 0 0, .slice none 0 0] 53)
        have hbn := below_alloc w3 (.cells #[.int .i64 0, .slice none 0 0, .slice none 0 0, .slice none 0 0] 53)
        obtain ⟨g7, hg⟩ : ∃ z, z = w3.heap.size := ⟨_, rfl⟩
        rw [← hg] at hnew ⊢
        have HGg7 := Lib.hid (show wx.heap.size ≤ g7 from by rw [hg]; exact HDw3.out.size)
        have HEg7 := Lib.hid hg
        have HNg7 := Lib.hid hnew
        have HBw4 := Lib.hid hbn
        have HDw4 := Lib.hid (HDw3.out.trans (hbn.mono HDw3.out.size))
        clear hnew hbn hg
        generalize w3.alloc (.cells #[.int .i64 0, .slice none 0 0, .slice none 0 0, .slice none 0 0] 53) = w4 at *
        have HNE := Lib.hid (show g6 ≠ g7 from by have h1 := bkT_lt HNg6.out; have h2 := HEg7.out; omega)
        replace HNg6 := Lib.hid ((HBw4.out.block g6 (bkT_lt HNg6.out)).trans HNg6.out)
        refine anyT_one (i := 12) (by kernel_rfl) rfl (fun K hK => ?_)
        rw [if_pos (by rfl)]
        try simp only [List.getElem_toArray, List.getElem_cons_succ, List.getElem_cons_zero]
        refine wp_store_row 54 (.tmp 6) (.tmp 59) rfl g6 CX rfl rfl 54 _ HNg6.out (by rw [HX2.out.1]; kernel_rfl) (by rw [HX2.out.1]; rfl) HX2.out.2 ?_
        have HD5 := Lib.hid (below_setRow HDw4.out HGg6.out CX)
        have HN6 := Lib.hid (setRow_heap w4 g6 _ CX 54 (0, 0) HNg6.out)
        have HN7 := Lib.hid ((setRow_other w4 g6 g7 CX (fun e => HNE.out e.symm)).trans HNg7.out)
        refine hK _ _ (fun _ => HSW.out _ HD5.out) ?_
        clear hK K
        try simp only [List.getElem_toArray, List.getElem_cons_succ, List.getElem_cons_zero, Act.put, List.setIfInBounds_toArray, List.set_cons_zero, List.set_cons_succ]
        generalize w4.setRow g6 CX = w5 at *
        refine anyT_one (i := 13) (by kernel_rfl) rfl (fun K hK => ?_)
        rw [if_pos (by rfl)]
        try simp only [List.getElem_toArray, List.getElem_cons_succ, List.getElem_cons_zero]
        refine wp_store_row 53 (.tmp 7) (.tmp 64) rfl g7 CY rfl rfl 53 _ HN7.out (by rw [HY2.out.1]; kernel_rfl) (by rw [HY2.out.1]; rfl) HY2.out.2 ?_
        have HD6 := Lib.hid (below_setRow HD5.out HGg7.out CY)
        have HM7 := Lib.hid (setRow_heap w5 g7 _ CY 53 (0, 0) HN7.out)
        have HM6 := Lib.hid ((setRow_other w5 g7 g6 CY HNE.out).trans HN6.out)
        refine hK _ _ (not_mem rfl) ?_
        clear hK K
        try simp only [List.getElem_toArray, List.getElem_cons_succ, List.getElem_cons_zero, Act.put, List.setIfInBounds_toArray, List.set_cons_zero, List.set_cons_succ]
        generalize w5.setRow g7 CY = w6 at *
        refine anyT_done (by kernel_rfl) ?_ _
        clear HNg6 HNg7 HEg6 HEg7 HGg6 HGg7 HBw3 HBw4 HDw3 HDw4 HD5 HN6 HN7 HNE HX2 HY2 HSW HD
        have HC6 := Lib.hid (show ∀ w', Below w6.heap.size w6 w' → w'.cell? ⟨g6, 0, none⟩ = some (.int .i64 x.kind) ∧ w'.cell? ⟨g6, 1, none⟩ = some (.slice ta x.ts.length tc) ∧ w'.cell? ⟨g6, 2, none⟩ = some (.slice ia x.is.length ic) ∧ w'.cell? ⟨g6, 3, none⟩ = some (.slice da x.ds.length dc) from fun w' hb => mg_cells (((hb.block g6 (bkT_lt HM6.out)).trans HM6.out).trans (by rw [HCX.out])))
        have HC7 := Lib.hid (show ∀ w', Below w6.heap.size w6 w' → w'.cell? ⟨g7, 0, none⟩ = some (.int .i64 x.kind) ∧ w'.cell? ⟨g7, 1, none⟩ = some (.slice tb x.ts.length ud) ∧ w'.cell? ⟨g7, 2, none⟩ = some (.slice ib x.is.length uc) ∧ w'.cell? ⟨g7, 3, none⟩ = some (.slice db x.ds.length uf) from fun w' hb => mg_cells (((hb.block g7 (bkT_lt HM7.out)).trans HM7.out).trans (by rw [HCY.out])))
        have HI0 := Lib.hid (Below.refl w6.heap.size w6)
        obtain ⟨f0, f1, f2, f3⟩ := HC6.out w6 HI0.out
        obtain ⟨f4, f5, f6, f7⟩ := HC7.out w6 HI0.out
        clear HM6 HM7 HCX HCY
        go_upto_region 9 with (fail)
        clear f0 f1 f2 f3 f4 f5 f6 f7
        go_wp2_with (fail)
        go_loopw [8] (fun v wr => ∃ j : Nat, j ≤ x.ts.length ∧ v = .int .i64 (j : Int) ∧ Hid (Below w6.heap.size w6 wr)) (fun v _ => x.ts.length - (intOf v).toNat)
        case atStart => exact ⟨0, Nat.zero_le _, rfl, HI0⟩
        case round =>
          clear HI0
          obtain ⟨j, hjn, rfl, HJ⟩ := hrel
          have l6 := (HC6.out wr HJ.out).2.1
          have l7 := (HC7.out wr HJ.out).2.1
          by_cases hjt : j < x.ts.length
          · have hjI : (j : Int) < (x.ts.length : Int) := by omega
            obtain ⟨s, hs⟩ : ∃ s, x.ts[j]? = some s := ⟨x.ts[j], List.getElem?_eq_getElem hjt⟩
            have hbj := HD6.out.trans (HJ.out.mono HD6.out.size)
            obtain ⟨ub, uo, rfl, hub, hur⟩ := (HTA.out.below hbj).at hs
            obtain ⟨vb, vo, rfl, hvb, hvr⟩ := (HTB.out.below hbj).at hs
            have s1 : wr.cell? ⟨ub, uo + j, none⟩ = some (.string s) := by have h := hur 0 _ rfl; simpa using h
            have s2 : wr.cell? ⟨vb, vo + j, none⟩ = some (.string s) := by have h := hvr 0 _ rfl; simpa using h
            have hk0 : (s.toList == s.toList) = true := by simp
            clear hur hvr hbj hub hvb hs
            go_upto_region 12 with (fail)
            go_quiet (fail)
            have HZ := Lib.hid (show Below w6.heap.size w6 (wr.drewN nq) from HJ.out.trans (b := wr) ⟨rfl, rfl, rfl, Nat.le_refl _, fun _ _ => rfl⟩)
            clear l6 l7 s1 s2
            generalize wr.drewN nq = wz at *
            go_wp2_with (fail)
            go_roundw
            case rel => exact ⟨j + 1, by omega, by go_num, HZ⟩
            case measure => simp [intOf]; omega
          · obtain rfl : j = x.ts.length := by omega
            have HI1 := HJ
            clear HJ
            go_wp2_with (fail)
            go_loopw [9] (fun v wr => ∃ j : Nat, j ≤ x.is.length ∧ v = .int .i64 (j : Int) ∧ Hid (Below w6.heap.size w6 wr)) (fun v _ => x.is.length - (intOf v).toNat)
            case atStart => exact ⟨0, Nat.zero_le _, rfl, HI1⟩
            case round =>
              clear HI1
              obtain ⟨j, hjn, rfl, HJ⟩ := hrel
              have l6 := (HC6.out wr HJ.out).2.2.1
              have l7 := (HC7.out wr HJ.out).2.2.1
              by_cases hjt : j < x.is.length
              · have hjI : (j : Int) < (x.is.length : Int) := by omega
                obtain ⟨s, hs⟩ : ∃ s, x.is[j]? = some s := ⟨x.is[j], List.getElem?_eq_getElem hjt⟩
                have hbj := HD6.out.trans (HJ.out.mono HD6.out.size)
                obtain ⟨ub, uo, rfl, hub, hur⟩ := (HIA.out.below hbj).at hs
                obtain ⟨vb, vo, rfl, hvb, hvr⟩ := (HIB.out.below hbj).at hs
                have s1 : wr.cell? ⟨ub, uo + j, none⟩ = some (.int .i64 s) := by have h := hur 0 _ rfl; simpa using h
                have s2 : wr.cell? ⟨vb, vo + j, none⟩ = some (.int .i64 s) := by have h := hvr 0 _ rfl; simpa using h
                skip
                clear hur hvr hbj hub hvb hs
                go_upto_region 17 with (fail)
                go_quiet (fail)
                have HZ := Lib.hid (show Below w6.heap.size w6 (wr.drewN nq) from HJ.out.trans (b := wr) ⟨rfl, rfl, rfl, Nat.le_refl _, fun _ _ => rfl⟩)
                clear l6 l7 s1 s2
                generalize wr.drewN nq = wz at *
                go_wp2_with (fail)
                go_roundw
                case rel => exact ⟨j + 1, by omega, by go_num, HZ⟩
                case measure => simp [intOf]; omega
              · obtain rfl : j = x.is.length := by omega
                have HI2 := HJ
                clear HJ
                go_wp2_with (fail)
                go_loopw [10] (fun v wr => ∃ j : Nat, j ≤ x.ds.length ∧ v = .int .i64 (j : Int) ∧ Hid (Below w6.heap.size w6 wr)) (fun v _ => x.ds.length - (intOf v).toNat)
                case atStart => exact ⟨0, Nat.zero_le _, rfl, HI2⟩
                case round =>
                  clear HI2
                  obtain ⟨j, hjn, rfl, HJ⟩ := hrel
                  have l6 := (HC6.out wr HJ.out).2.2.2
                  have l7 := (HC7.out wr HJ.out).2.2.2
                  by_cases hjt : j < x.ds.length
                  · have hjI : (j : Int) < (x.ds.length : Int) := by omega
                    obtain ⟨s, hs⟩ : ∃ s, x.ds[j]? = some s := ⟨x.ds[j], List.getElem?_eq_getElem hjt⟩
                    have hst := congrArg (fun l : List (List Int) => l[j]?) HDP.out
                    simp only [List.getElem?_map, hs, Option.map_some] at hst
                    obtain ⟨t, ht, hts⟩ := Option.map_eq_some_iff.1 hst
                    have hbj := HD6.out.trans (HJ.out.mono HD6.out.size)
                    obtain ⟨ub, uo, rfl, hub, hur⟩ := (HDA.out.below hbj).at hs
                    obtain ⟨vb, vo, rfl, hvb, hvr⟩ := (HDB.out.below hbj).at ht
                    have hbs := (HXE.out.b s (List.mem_of_getElem? hs)).below hbj
                    have hbt := (HYE.out.b t (List.mem_of_getElem? ht)).below hbj
                    rw [hts] at hbt
                    obtain ⟨xv, hxv⟩ : ∃ z, z = s.bv := ⟨_, rfl⟩
                    obtain ⟨yv, hyv⟩ : ∃ z, z = t.bv := ⟨_, rfl⟩
                    have s1 : wr.cell? ⟨ub, uo + j, none⟩ = some xv := by have h := hur 0 _ rfl; rw [hxv]; simpa using h
                    have s2 : wr.cell? ⟨vb, vo + j, none⟩ = some yv := by have h := hvr 0 _ rfl; rw [hyv]; simpa using h
                    rw [← hxv] at hbs
                    rw [← hyv] at hbt
                    have hc1 := conv_bytes wr.drew xv _ (hbs.below (Below.refl _ _).drew)
                    have hc2 := conv_bytes wr.drew yv _ (hbt.below (Below.refl _ _).drew)
                    obtain ⟨S0, hS0⟩ : ∃ z, z = strOfNums s.bs := ⟨_, rfl⟩
                    rw [← hS0] at hc1 hc2
                    have hk0 : (S0.toList == S0.toList) = true := by simp
                    have s1' : wr.drew.cell? ⟨ub, uo + j, none⟩ = some xv := s1
                    have s2' : wr.drew.cell? ⟨vb, vo + j, none⟩ = some yv := s2
                    have HZ := Lib.hid (show Below w6.heap.size w6 wr.drew from HJ.out.trans (b := wr) (Below.refl _ _).drew)
                    have l6' : wr.drew.cell? ⟨g6, 3, none⟩ = some (.slice (some ⟨ub, uo, none⟩) x.ds.length dc) := l6
                    have l7' : wr.drew.cell? ⟨g7, 3, none⟩ = some (.slice (some ⟨vb, vo, none⟩) x.ds.length uf) := l7
                    clear hur hvr hbj hub hvb hs ht hts hst hbs hbt hxv hyv hS0
                    go_upto_region 22 with (fail)
                    clear s1 s2 l6 l7
                    refine wp_region_T (fun w' => w' = wr.drew) [0, 1, 2, 3, 4, 5, 6, 7, 8, 9, 10, 11, 12] (by kernel_rfl) ?_
                    generalize hwd : wr.drew = w10 at *
                    refine anyT_take [] (i := 0) (v := .pointer (some ⟨g6, 3, none⟩)) rfl (by kernel_rfl) (by kernel_rfl) (by kernel_rfl) (fun _ _ _ h => h) (by kernel_rfl) (Or.inl ⟨by rfl, fun w' _ => by go_simp⟩) rfl ?_
                    try simp only [List.getElem_toArray, List.getElem_cons_succ, List.getElem_cons_zero, Act.put, List.setIfInBounds_toArray, List.set_cons_zero, List.set_cons_succ]
                    refine anyT_take [] (i := 2) (v := .int .i64 (j : Int)) rfl (by kernel_rfl) (by kernel_rfl) (by kernel_rfl) (fun _ _ _ h => h) (by kernel_rfl) (Or.inl ⟨by rfl, fun w' _ => by go_simp⟩) rfl ?_
                    try simp only [List.getElem_toArray, List.getElem_cons_succ, List.getElem_cons_zero, Act.put, List.setIfInBounds_toArray, List.set_cons_zero, List.set_cons_succ]
                    refine anyT_take [] (i := 6) (v := .pointer (some ⟨g7, 3, none⟩)) rfl (by kernel_rfl) (by kernel_rfl) (by kernel_rfl) (fun _ _ _ h => h) (by kernel_rfl) (Or.inl ⟨by rfl, fun w' _ => by go_simp⟩) rfl ?_
                    try simp only [List.getElem_toArray, List.getElem_cons_succ, List.getElem_cons_zero, Act.put, List.setIfInBounds_toArray, List.set_cons_zero, List.set_cons_succ]
                    refine anyT_take [] (i := 8) (v := .int .i64 (j : Int)) rfl (by kernel_rfl) (by kernel_rfl) (by kernel_rfl) (fun _ _ _ h => h) (by kernel_rfl) (Or.inl ⟨by rfl, fun w' _ => by go_simp⟩) rfl ?_
                    try simp only [List.getElem_toArray, List.getElem_cons_succ, List.getElem_cons_zero, Act.put, List.setIfInBounds_toArray, List.set_cons_zero, List.set_cons_succ]
                    refine anyT_take [] (i := 1) (v := .slice (some ⟨ub, uo, none⟩) x.ds.length dc) rfl (by kernel_rfl) (by kernel_rfl) (by kernel_rfl) (fun _ _ _ h => h) (by kernel_rfl) (Or.inl ⟨by rfl, fun w' hS => by subst hS; go_simp⟩) rfl ?_
                    try simp only [List.getElem_toArray, List.getElem_cons_succ, List.getElem_cons_zero, Act.put, List.setIfInBounds_toArray, List.set_cons_zero, List.set_cons_succ]
                    refine anyT_take [] (i := 7) (v := .slice (some ⟨vb, vo, none⟩) x.ds.length uf) rfl (by kernel_rfl) (by kernel_rfl) (by kernel_rfl) (fun _ _ _ h => h) (by kernel_rfl) (Or.inl ⟨by rfl, fun w' hS => by subst hS; go_simp⟩) rfl ?_
                    try simp only [List.getElem_toArray, List.getElem_cons_succ, List.getElem_cons_zero, Act.put, List.setIfInBounds_toArray, List.set_cons_zero, List.set_cons_succ]
                    refine anyT_take [] (i := 3) (v := .pointer (some ⟨ub, uo + j, none⟩)) rfl (by kernel_rfl) (by kernel_rfl) (by kernel_rfl) (fun _ _ _ h => h) (by kernel_rfl) (Or.inl ⟨by rfl, fun w' _ => by go_simp⟩) rfl ?_
                    try simp only [List.getElem_toArray, List.getElem_cons_succ, List.getElem_cons_zero, Act.put, List.setIfInBounds_toArray, List.set_cons_zero, List.set_cons_succ]
                    refine anyT_take [] (i := 9) (v := .pointer (some ⟨vb, vo + j, none⟩)) rfl (by kernel_rfl) (by kernel_rfl) (by kernel_rfl) (fun _ _ _ h => h) (by kernel_rfl) (Or.inl ⟨by rfl, fun w' _ => by go_simp⟩) rfl ?_
                    try simp only [List.getElem_toArray, List.getElem_cons_succ, List.getElem_cons_zero, Act.put, List.setIfInBounds_toArray, List.set_cons_zero, List.set_cons_succ]
                    refine anyT_take [] (i := 4) (v := xv) rfl (by kernel_rfl) (by kernel_rfl) (by kernel_rfl) (fun _ _ _ h => h) (by kernel_rfl) (Or.inl ⟨by rfl, fun w' hS => by subst hS; go_simp⟩) rfl ?_
                    try simp only [List.getElem_toArray, List.getElem_cons_succ, List.getElem_cons_zero, Act.put, List.setIfInBounds_toArray, List.set_cons_zero, List.set_cons_succ]
                    refine anyT_take [] (i := 10) (v := yv) rfl (by kernel_rfl) (by kernel_rfl) (by kernel_rfl) (fun _ _ _ h => h) (by kernel_rfl) (Or.inl ⟨by rfl, fun w' hS => by subst hS; go_simp⟩) rfl ?_
                    try simp only [List.getElem_toArray, List.getElem_cons_succ, List.getElem_cons_zero, Act.put, List.setIfInBounds_toArray, List.set_cons_zero, List.set_cons_succ]
                    refine anyT_take [] (i := 5) (v := .string S0) rfl (by kernel_rfl) (by kernel_rfl) (by kernel_rfl) (fun _ _ _ h => h) (by kernel_rfl) (Or.inl ⟨by rfl, fun w' hS => by subst hS; go_simp⟩) rfl ?_
                    try simp only [List.getElem_toArray, List.getElem_cons_succ, List.getElem_cons_zero, Act.put, List.setIfInBounds_toArray, List.set_cons_zero, List.set_cons_succ]
                    refine anyT_take [] (i := 11) (v := .string S0) rfl (by kernel_rfl) (by kernel_rfl) (by kernel_rfl) (fun _ _ _ h => h) (by kernel_rfl) (Or.inl ⟨by rfl, fun w' hS => by subst hS; go_simp⟩) rfl ?_
                    try simp only [List.getElem_toArray, List.getElem_cons_succ, List.getElem_cons_zero, Act.put, List.setIfInBounds_toArray, List.set_cons_zero, List.set_cons_succ]
                    refine anyT_take [] (i := 12) (v := .bool false) rfl (by kernel_rfl) (by kernel_rfl) (by kernel_rfl) (fun _ _ _ h => h) (by kernel_rfl) (Or.inl ⟨by rfl, fun w' _ => by go_simp⟩) rfl ?_
                    try simp only [List.getElem_toArray, List.getElem_cons_succ, List.getElem_cons_zero, Act.put, List.setIfInBounds_toArray, List.set_cons_zero, List.set_cons_succ]
                    refine anyT_done (by kernel_rfl) ?_ _
                    clear s1' s2' l6' l7' hc1 hc2 hk0 hwd
                    go_wp2_with (fail)
                    go_roundw
                    case rel => exact ⟨j + 1, by omega, by go_num, HZ⟩
                    case measure => simp [intOf]; omega
                  · obtain rfl : j = x.ds.length := by omega
                    have HEND := Lib.hid (HW.out.trans ((HD6.out.trans (HJ.out.mono HD6.out.size)).mono HW.out.size))
                    clear HC6 HC7 HJ
                    go_wp2_with (fail)
                    go_roundw
                    case rel => exact ⟨k + 1, by omega, by go_num, HEND⟩
                    case measure => simp [intOf]; omega
      · rw [if_pos (by rfl)]
        try simp only [List.getElem_toArray, List.getElem_cons_succ, List.getElem_cons_zero]
        (go_simp)
        refine hK _ _ (fun _ => HSW.out _ (HD.out.trans ((below_alloc w2 _).mono HD.out.size))) ?_
        clear hK K
        try simp only [List.getElem_toArray, List.getElem_cons_succ, List.getElem_cons_zero, Act.put, List.setIfInBounds_toArray, List.set_cons_zero, List.set_cons_succ]
        have hnew := heap_alloc_new w2 (.cells #[.int .i64 0, .slice none 0 0, .slice none 0 0, .slice none 0 0] 53)
        have hbn := below_alloc w2 (.cells #[.int .i64 0, .slice none 0 0, .slice none 0 0, .slice none 0 0] 53)
        obtain ⟨g7, hg⟩ : ∃ z, z = w2.heap.size := ⟨_, rfl⟩
        rw [← hg] at hnew ⊢
        have HGg7 := Lib.hid (show wx.heap.size ≤ g7 from by rw [hg]; exact HD.out.size)
        have HEg7 := Lib.hid hg
        have HNg7 := Lib.hid hnew
        have HBw3 := Lib.hid hbn
        have HDw3 := Lib.hid (HD.out.trans (hbn.mono HD.out.size))
        clear hnew hbn hg
        generalize w2.alloc (.cells #[.int .i64 0, .slice none 0 0, .slice none 0 0, .slice none 0 0] 53) = w3 at *
        refine anyT_one (i := 10) (by kernel_rfl) rfl (fun K hK => ?_)
        rw [if_pos (by rfl)]
        try simp only [List.getElem_toArray, List.getElem_cons_succ, List.getElem_cons_zero]
        (go_simp)
        refine hK _ _ (fun _ => HSW.out _ (HDw3.out.trans ((below_alloc w3 _).mono HDw3.out.size))) ?_
        clear hK K
        try simp only [List.getElem_toArray, List.getElem_cons_succ, List.getElem_cons_zero, Act.put, List.setIfInBounds_toArray, List.set_cons_zero, List.set_cons_succ]
        have hnew := heap_alloc_new w3 (.cells #[.int .i64 0, .slice none 0 0, .slice none 0 0, .slice none 0 0] 54)
        have hbn := below_alloc w3 (.cells #[.int .i64 0, .slice none 0 0, .slice none 0 0, .slice none 0 0] 54)
        obtain ⟨g6, hg⟩ : ∃ z, z = w3.heap.size := ⟨_, rfl⟩
        rw [← hg] at hnew ⊢
        have HGg6 := Lib.hid (show wx.heap.size ≤ g6 from by rw [hg]; exact HDw3.out.size)
        have HEg6 := Lib.hid hg
        have HNg6 := Lib.hid hnew
        have HBw4 := Lib.hid hbn
        have HDw4 := Lib.hid (HDw3.out.trans (hbn.mono HDw3.out.size))
        clear hnew hbn hg
        generalize w3.alloc (.cells #[.int .i64 0, .slice none 0 0, .slice none 0 0, .slice none 0 0] 54) = w4 at *
        have HNE := Lib.hid (show g6 ≠ g7 from by have h1 := bkT_lt HNg7.out; have h2 := HEg6.out; omega)
        replace HNg7 := Lib.hid ((HBw4.out.block g7 (bkT_lt HNg7.out)).trans HNg7.out)
        refine anyT_one (i := 12) (by kernel_rfl) rfl (fun K hK => ?_)
        rw [if_pos (by rfl)]
        try simp only [List.getElem_toArray, List.getElem_cons_succ, List.getElem_cons_zero]
        refine wp_store_row 54 (.tmp 6) (.tmp 59) rfl g6 CX rfl rfl 54 _ HNg6.out (by rw [HX2.out.1]; kernel_rfl) (by rw [HX2.out.1]; rfl) HX2.out.2 ?_
        have HD5 := Lib.hid (below_setRow HDw4.out HGg6.out CX)
        have HN6 := Lib.hid (setRow_heap w4 g6 _ CX 54 (0, 0) HNg6.out)
        have HN7 := Lib.hid ((setRow_other w4 g6 g7 CX (fun e => HNE.out e.symm)).trans HNg7.out)
        refine hK _ _ (fun _ => HSW.out _ HD5.out) ?_
        clear hK K
        try simp only [List.getElem_toArray, List.getElem_cons_succ, List.getElem_cons_zero, Act.put, List.setIfInBounds_toArray, List.set_cons_zero, List.set_cons_succ]
        generalize w4.setRow g6 CX = w5 at *
        refine anyT_one (i := 13) (by kernel_rfl) rfl (fun K hK => ?_)
        rw [if_pos (by rfl)]
        try simp only [List.getElem_toArray, List.getElem_cons_succ, List.getElem_cons_zero]
        refine wp_store_row 53 (.tmp 7) (.tmp 64) rfl g7 CY rfl rfl 53 _ HN7.out (by rw [HY2.out.1]; kernel_rfl) (by rw [HY2.out.1]; rfl) HY2.out.2 ?_
        have HD6 := Lib.hid (below_setRow HD5.out HGg7.out CY)
        have HM7 := Lib.hid (setRow_heap w5 g7 _ CY 53 (0, 0) HN7.out)
        have HM6 := Lib.hid ((setRow_other w5 g7 g6 CY HNE.out).trans HN6.out)
        refine hK _ _ (not_mem rfl) ?_
        clear hK K
        try simp only [List.getElem_toArray, List.getElem_cons_succ, List.getElem_cons_zero, Act.put, List.setIfInBounds_toArray, List.set_cons_zero, List.set_cons_succ]
        generalize w5.setRow g7 CY = w6 at *
        refine anyT_done (by kernel_rfl) ?_ _
        clear HNg6 HNg7 HEg6 HEg7 HGg6 HGg7 HBw3 HBw4 HDw3 HDw4 HD5 HN6 HN7 HNE HX2 HY2 HSW HD
        have HC6 := Lib.hid (show ∀ w', Below w6.heap.size w6 w' → w'.cell? ⟨g6, 0, none⟩ = some (.int .i64 x.kind) ∧ w'.cell? ⟨g6, 1, none⟩ = some (.slice ta x.ts.length tc) ∧ w'.cell? ⟨g6, 2, none⟩ = some (.slice ia x.is.length ic) ∧ w'.cell? ⟨g6, 3, none⟩ = some (.slice da x.ds.length dc) from fun w' hb => mg_cells (((hb.block g6 (bkT_lt HM6.out)).trans HM6.out).trans (by rw [HCX.out])))
        have HC7 := Lib.hid (show ∀ w', Below w6.heap.size w6 w' → w'.cell? ⟨g7, 0, none⟩ = some (.int .i64 x.kind) ∧ w'.cell? ⟨g7, 1, none⟩ = some (.slice tb x.ts.length ud) ∧ w'.cell? ⟨g7, 2, none⟩ = some (.slice ib x.is.length uc) ∧ w'.cell? ⟨g7, 3, none⟩ = some (.slice db x.ds.length uf) from fun w' hb => mg_cells (((hb.block g7 (bkT_lt HM7.out)).trans HM7.out).trans (by rw [HCY.out])))
        have HI0 := Lib.hid (Below.refl w6.heap.size w6)
        obtain ⟨f0, f1, f2, f3⟩ := HC6.out w6 HI0.out
        obtain ⟨f4, f5, f6, f7⟩ := HC7.out w6 HI0.out
        clear HM6 HM7 HCX HCY
        go_upto_region 9 with (fail)
        clear f0 f1 f2 f3 f4 f5 f6 f7
        go_wp2_with (fail)
        go_loopw [8] (fun v wr => ∃ j : Nat, j ≤ x.ts.length ∧ v = .int .i64 (j : Int) ∧ Hid (Below w6.heap.size w6 wr)) (fun v _ => x.ts.length - (intOf v).toNat)
        case atStart => exact ⟨0, Nat.zero_le _, rfl, HI0⟩
        case round =>
          clear HI0
          obtain ⟨j, hjn, rfl, HJ⟩ := hrel
          have l6 := (HC6.out wr HJ.out).2.1
          have l7 := (HC7.out wr HJ.out).2.1
          by_cases hjt : j < x.ts.length
          · have hjI : (j : Int) < (x.ts.length : Int) := by omega
            obtain ⟨s, hs⟩ : ∃ s, x.ts[j]? = some s := ⟨x.ts[j], List.getElem?_eq_getElem hjt⟩
            have hbj := HD6.out.trans (HJ.out.mono HD6.out.size)
            obtain ⟨ub, uo, rfl, hub, hur⟩ := (HTA.out.below hbj).at hs
            obtain ⟨vb, vo, rfl, hvb, hvr⟩ := (HTB.out.below hbj).at hs
            have s1 : wr.cell? ⟨ub, uo + j, none⟩ = some (.string s) := by have h := hur 0 _ rfl; simpa using h
            have s2 : wr.cell? ⟨vb, vo + j, none⟩ = some (.string s) := by have h := hvr 0 _ rfl; simpa using h
            have hk0 : (s.toList == s.toList) = true := by simp
            clear hur hvr hbj hub hvb hs
            go_upto_region 12 with (fail)
            go_quiet (fail)
            have HZ := Lib.hid (show Below w6.heap.size w6 (wr.drewN nq) from HJ.out.trans (b := wr) ⟨rfl, rfl, rfl, Nat.le_refl _, fun _ _ => rfl⟩)
            clear l6 l7 s1 s2
            generalize wr.drewN nq = wz at *
            go_wp2_with (fail)
            go_roundw
            case rel => exact ⟨j + 1, by omega, by go_num, HZ⟩
            case measure => simp [intOf]; omega
          · obtain rfl : j = x.ts.length := by omega
            have HI1 := HJ
            clear HJ
            go_wp2_with (fail)
            go_loopw [9] (fun v wr => ∃ j : Nat, j ≤ x.is.length ∧ v = .int .i64 (j : Int) ∧ Hid (Below w6.heap.size w6 wr)) (fun v _ => x.is.length - (intOf v).toNat)
            case atStart => exact ⟨0, Nat.zero_le _, rfl, HI1⟩
            case round =>
              clear HI1
              obtain ⟨j, hjn, rfl, HJ⟩ := hrel
              have l6 := (HC6.out wr HJ.out).2.2.1
              have l7 := (HC7.out wr HJ.out).2.2.1
              by_cases hjt : j < x.is.length
              · have hjI : (j : Int) < (x.is.length : Int) := by omega
                obtain ⟨s, hs⟩ : ∃ s, x.is[j]? = some s := ⟨x.is[j], List.getElem?_eq_getElem hjt⟩
                have hbj := HD6.out.trans (HJ.out.mono HD6.out.size)
                obtain ⟨ub, uo, rfl, hub, hur⟩ := (HIA.out.below hbj).at hs
                obtain ⟨vb, vo, rfl, hvb, hvr⟩ := (HIB.out.below hbj).at hs
                have s1 : wr.cell? ⟨ub, uo + j, none⟩ = some (.int .i64 s) := by have h := hur 0 _ rfl; simpa using h
                have s2 : wr.cell? ⟨vb, vo + j, none⟩ = some (.int .i64 s) := by have h := hvr 0 _ rfl; simpa using h
                skip
                clear hur hvr hbj hub hvb hs
                go_upto_region 17 with (fail)
                go_quiet (fail)
                have HZ := Lib.hid (show Below w6.heap.size w6 (wr.drewN nq) from HJ.out.trans (b := wr) ⟨rfl, rfl, rfl, Nat.le_refl _, fun _ _ => rfl⟩)
                clear l6 l7 s1 s2
                generalize wr.drewN nq = wz at *
                go_wp2_with (fail)
                go_roundw
                case rel => exact ⟨j + 1, by omega, by go_num, HZ⟩
                case measure => simp [intOf]; omega
              · obtain rfl : j = x.is.length := by omega
                have HI2 := HJ
                clear HJ
                go_wp2_with (fail)
                go_loopw [10] (fun v wr => ∃ j : Nat, j ≤ x.ds.length ∧ v = .int .i64 (j : Int) ∧ Hid (Below w6.heap.size w6 wr)) (fun v _ => x.ds.length - (intOf v).toNat)
                case atStart => exact ⟨0, Nat.zero_le _, rfl, HI2⟩
                case round =>
                  clear HI2
                  obtain ⟨j, hjn, rfl, HJ⟩ := hrel
                  have l6 := (HC6.out wr HJ.out).2.2.2
                  have l7 := (HC7.out wr HJ.out).2.2.2
                  by_cases hjt : j < x.ds.length
                  · have hjI : (j : Int) < (x.ds.length : Int) := by omega
                    obtain ⟨s, hs⟩ : ∃ s, x.ds[j]? = some s := ⟨x.ds[j], List.getElem?_eq_getElem hjt⟩
                    have hst := congrArg (fun l : List (List Int) => l[j]?) HDP.out
                    simp only [List.getElem?_map, hs, Option.map_some] at hst
                    obtain ⟨t, ht, hts⟩ := Option.map_eq_some_iff.1 hst
                    have hbj := HD6.out.trans (HJ.out.mono HD6.out.size)
                    obtain ⟨ub, uo, rfl, hub, hur⟩ := (HDA.out.below hbj).at hs
                    obtain ⟨vb, vo, rfl, hvb, hvr⟩ := (HDB.out.below hbj).at ht
                    have hbs := (HXE.out.b s (List.mem_of_getElem? hs)).below hbj
                    have hbt := (HYE.out.b t (List.mem_of_getElem? ht)).below hbj
                    rw [hts] at hbt
                    obtain ⟨xv, hxv⟩ : ∃ z, z = s.bv := ⟨_, rfl⟩
                    obtain ⟨yv, hyv⟩ : ∃ z, z = t.bv := ⟨_, rfl⟩
                    have s1 : wr.cell? ⟨ub, uo + j, none⟩ = some xv := by have h := hur 0 _ rfl; rw [hxv]; simpa using h
                    have s2 : wr.cell? ⟨vb, vo + j, none⟩ = some yv := by have h := hvr 0 _ rfl; rw [hyv]; simpa using h
                    rw [← hxv] at hbs
                    rw [← hyv] at hbt
                    have hc1 := conv_bytes wr.drew xv _ (hbs.below (Below.refl _ _).drew)
                    have hc2 := conv_bytes wr.drew yv _ (hbt.below (Below.refl _ _).drew)
                    obtain ⟨S0, hS0⟩ : ∃ z, z = strOfNums s.bs := ⟨_, rfl⟩
                    rw [← hS0] at hc1 hc2
                    have hk0 : (S0.toList == S0.toList) = true := by simp
                    have s1' : wr.drew.cell? ⟨ub, uo + j, none⟩ = some xv := s1
                    have s2' : wr.drew.cell? ⟨vb, vo + j, none⟩ = some yv := s2
                    have HZ := Lib.hid (show Below w6.heap.size w6 wr.drew from HJ.out.trans (b := wr) (Below.refl _ _).drew)
                    have l6' : wr.drew.cell? ⟨g6, 3, none⟩ = some (.slice (some ⟨ub, uo, none⟩) x.ds.length dc) := l6
                    have l7' : wr.drew.cell? ⟨g7, 3, none⟩ = some (.slice (some ⟨vb, vo, none⟩) x.ds.length uf) := l7
                    clear hur hvr hbj hub hvb hs ht hts hst hbs hbt hxv hyv hS0
                    go_upto_region 22 with (fail)
                    clear s1 s2 l6 l7
                    refine wp_region_T (fun w' => w' = wr.drew) [0, 1, 2, 3, 4, 5, 6, 7, 8, 9, 10, 11, 12] (by kernel_rfl) ?_
                    generalize hwd : wr.drew = w10 at *
                    refine anyT_take [] (i := 0) (v := .pointer (some ⟨g6, 3, none⟩)) rfl (by kernel_rfl) (by kernel_rfl) (by kernel_rfl) (fun _ _ _ h => h) (by kernel_rfl) (Or.inl ⟨by rfl, fun w' _ => by go_simp⟩) rfl ?_
                    try simp only [List.getElem_toArray, List.getElem_cons_succ, List.getElem_cons_zero, Act.put, List.setIfInBounds_toArray, List.set_cons_zero, List.set_cons_succ]
                    refine anyT_take [] (i := 2) (v := .int .i64 (j : Int)) rfl (by kernel_rfl) (by kernel_rfl) (by kernel_rfl) (fun _ _ _ h => h) (by kernel_rfl) (Or.inl ⟨by rfl, fun w' _ => by go_simp⟩) rfl ?_
                    try simp only [List.getElem_toArray, List.getElem_cons_succ, List.getElem_cons_zero, Act.put, List.setIfInBounds_toArray, List.set_cons_zero, List.set_cons_succ]
                    refine anyT_take [] (i := 6) (v := .pointer (some ⟨g7, 3, none⟩)) rfl (by kernel_rfl) (by kernel_rfl) (by kernel_rfl) (fun _ _ _ h => h) (by kernel_rfl) (Or.inl ⟨by rfl, fun w' _ => by go_simp⟩) rfl ?_
                    try simp only [List.getElem_toArray, List.getElem_cons_succ, List.getElem_cons_zero, Act.put, List.setIfInBounds_toArray, List.set_cons_zero, List.set_cons_succ]
                    refine anyT_take [] (i := 8) (v := .int .i64 (j : Int)) rfl (by kernel_rfl) (by kernel_rfl) (by kernel_rfl) (fun _ _ _ h => h) (by kernel_rfl) (Or.inl ⟨by rfl, fun w' _ => by go_simp⟩) rfl ?_
                    try simp only [List.getElem_toArray, List.getElem_cons_succ, List.getElem_cons_zero, Act.put, List.setIfInBounds_toArray, List.set_cons_zero, List.set_cons_succ]
                    refine anyT_take [] (i := 1) (v := .slice (some ⟨ub, uo, none⟩) x.ds.length dc) rfl (by kernel_rfl) (by kernel_rfl) (by kernel_rfl) (fun _ _ _ h => h) (by kernel_rfl) (Or.inl ⟨by rfl, fun w' hS => by subst hS; go_simp⟩) rfl ?_
                    try simp only [List.getElem_toArray, List.getElem_cons_succ, List.getElem_cons_zero, Act.put, List.setIfInBounds_toArray, List.set_cons_zero, List.set_cons_succ]
                    refine anyT_take [] (i := 7) (v := .slice (some ⟨vb, vo, none⟩) x.ds.length uf) rfl (by kernel_rfl) (by kernel_rfl) (by kernel_rfl) (fun _ _ _ h => h) (by kernel_rfl) (Or.inl ⟨by rfl, fun w' hS => by subst hS; go_simp⟩) rfl ?_
                    try simp only [List.getElem_toArray, List.getElem_cons_succ, List.getElem_cons_zero, Act.put, List.setIfInBounds_toArray, List.set_cons_zero, List.set_cons_succ]
                    refine anyT_take [] (i := 3) (v := .pointer (some ⟨ub, uo + j, none⟩)) rfl (by kernel_rfl) (by kernel_rfl) (by kernel_rfl) (fun _ _ _ h => h) (by kernel_rfl) (Or.inl ⟨by rfl, fun w' _ => by go_simp⟩) rfl ?_
                    try simp only [List.getElem_toArray, List.getElem_cons_succ, List.getElem_cons_zero, Act.put, List.setIfInBounds_toArray, List.set_cons_zero, List.set_cons_succ]
                    refine anyT_take [] (i := 9) (v := .pointer (some ⟨vb, vo + j, none⟩)) rfl (by kernel_rfl) (by kernel_rfl) (by kernel_rfl) (fun _ _ _ h => h) (by kernel_rfl) (Or.inl ⟨by rfl, fun w' _ => by go_simp⟩) rfl ?_
                    try simp only [List.getElem_toArray, List.getElem_cons_succ, List.getElem_cons_zero, Act.put, List.setIfInBounds_toArray, List.set_cons_zero, List.set_cons_succ]
                    refine anyT_take [] (i := 4) (v := xv) rfl (by kernel_rfl) (by kernel_rfl) (by kernel_rfl) (fun _ _ _ h => h) (by kernel_rfl) (Or.inl ⟨by rfl, fun w' hS => by subst hS; go_simp⟩) rfl ?_
                    try simp only [List.getElem_toArray, List.getElem_cons_succ, List.getElem_cons_zero, Act.put, List.setIfInBounds_toArray, List.set_cons_zero, List.set_cons_succ]
                    refine anyT_take [] (i := 10) (v := yv) rfl (by kernel_rfl) (by kernel_rfl) (by kernel_rfl) (fun _ _ _ h => h) (by kernel_rfl) (Or.inl ⟨by rfl, fun w' hS => by subst hS; go_simp⟩) rfl ?_
                    try simp only [List.getElem_toArray, List.getElem_cons_succ, List.getElem_cons_zero, Act.put, List.setIfInBounds_toArray, List.set_cons_zero, List.set_cons_succ]
                    refine anyT_take [] (i := 5) (v := .string S0) rfl (by kernel_rfl) (by kernel_rfl) (by kernel_rfl) (fun _ _ _ h => h) (by kernel_rfl) (Or.inl ⟨by rfl, fun w' hS => by subst hS; go_simp⟩) rfl ?_
                    try simp only [List.getElem_toArray, List.getElem_cons_succ, List.getElem_cons_zero, Act.put, List.setIfInBounds_toArray, List.set_cons_zero, List.set_cons_succ]
                    refine anyT_take [] (i := 11) (v := .string S0) rfl (by kernel_rfl) (by kernel_rfl) (by kernel_rfl) (fun _ _ _ h => h) (by kernel_rfl) (Or.inl ⟨by rfl, fun w' hS => by subst hS; go_simp⟩) rfl ?_
                    try simp only [List.getElem_toArray, List.getElem_cons_succ, List.getElem_cons_zero, Act.put, List.setIfInBounds_toArray, List.set_cons_zero, List.set_cons_succ]
                    refine anyT_take [] (i := 12) (v := .bool false) rfl (by kernel_rfl) (by kernel_rfl) (by kernel_rfl) (fun _ _ _ h => h) (by kernel_rfl) (Or.inl ⟨by rfl, fun w' _ => by go_simp⟩) rfl ?_
                    try simp only [List.getElem_toArray, List.getElem_cons_succ, List.getElem_cons_zero, Act.put, List.setIfInBounds_toArray, List.set_cons_zero, List.set_cons_succ]
                    refine anyT_done (by kernel_rfl) ?_ _
                    clear s1' s2' l6' l7' hc1 hc2 hk0 hwd
                    go_wp2_with (fail)
                    go_roundw
                    case rel => exact ⟨j + 1, by omega, by go_num, HZ⟩
                    case measure => simp [intOf]; omega
                  · obtain rfl : j = x.ds.length := by omega
                    have HEND := Lib.hid (HW.out.trans ((HD6.out.trans (HJ.out.mono HD6.out.size)).mono HW.out.size))
                    clear HC6 HC7 HJ
                    go_wp2_with (fail)
                    go_roundw
                    case rel => exact ⟨k + 1, by omega, by go_num, HEND⟩
                    case measure => simp [intOf]; omega
    · obtain rfl : k = n := by omega
      go_wp2_with (fail)
      go_ret
      exact ⟨rfl, HB.out.trans (HW.out.mono HB.out.size)⟩
end Go.Proofs.YtllpnpeppdfjlaaDoor
