/- Part 45 of the proof. -/
import Derived.Test.YtggcodobkmhkgaaDoorFc38
namespace Go.Proofs.YtggcodobkmhkgaaDoor
set_option linter.unusedVariables false
set_option linter.unusedSimpArgs false
open Go.RowKit Go.Maps Go.Proofs
set_option maxRecDepth 100000
set_option linter.unusedSimpArgs false
set_option linter.unusedVariables false
set_option maxHeartbeats 8000000 in
theorem lstep_6 (B : Nat) (R : FsR) (r : RSt) (lv : Value) (t : AT) (k : Nat) (w W : World) (ho : Own B w R) (hb : Below B W w) (hW : W.heap.size = B) (hg : ErrType W) (hL : FilesIn w lv r.L) (hrel : Rel4 (absR R) r) (hn : NumK r k) (hk : k ≤ 500) (ht : AOk W t) (hd : t.data.length ≤ 140737488351232) (hdk : t.keep.length ≤ 17592186043904)
    (hkd : wrap64 ((IntKind.u64.wrap t.kind).tmod 8) = 6) :
    Calls Tryd.prog 9 #[.pointer (some ⟨R.pb, 0, none⟩), rsV lv r, .agg t.cells.toArray] w (LStep R w k) := by
  obtain ⟨a, n, c, rfl⟩ := hL.wide
  obtain ⟨kd, an, nm, nw, dv, data, kv, keep⟩ := t
  dsimp only at hd hdk hkd
  have HO := Lib.hid ho
  have HB := Lib.hid hb
  have HW := Lib.hid hW
  have HET := Lib.hid hg
  have HREL := Lib.hid hrel
  have HN := Lib.hid hn
  have HK := Lib.hid hk
  have HT := Lib.hid ht
  have HD := Lib.hid hd
  have HDK := Lib.hid hdk
  have HL := Lib.hid hL
  obtain ⟨da, dn, dc, hdv⟩ : ∃ a n c, dv = .slice a n c := by obtain ⟨a, c, h, _⟩ := ht.data; exact ⟨a, _, c, h⟩
  obtain ⟨ka, kn, kc, hkv⟩ : ∃ a n c, kv = .slice a n c := by obtain ⟨a, c, h, _⟩ := ht.keep; exact ⟨a, _, c, h⟩
  subst hdv hkv
  clear ho hb hW hg hrel hn hk ht hd hdk hL
  unfold rsV rsC AT.cells
  dsimp only
  go_enter Tryd.func9, Tryd.ntmps9
  go_upto_region 2 with (fail)
  have hm := stm_start (C := #[.slice a n c, .int .i64 r.steps, .bool r.armed, .int .i64 r.left, .bool r.down]) (t := ⟨kd, an, nm, nw, .slice da dn dc, data, .slice ka kn kc, keep⟩) HO.out HL.out
  unfold zeroRS AT.cells at hm
  dsimp only at hm
  have HM := Lib.hid hm
  clear hm
  generalize ((w.alloc (.cells #[.slice a n c, .int .i64 r.steps, .bool r.armed, .int .i64 r.left, .bool r.down] 27)).alloc (.cells #[.int .i64 kd, .int .i64 an, .string nm, .string nw, .slice da dn dc, .slice ka kn kc] 33)).alloc (.cells #[.slice none 0 0, .int .i64 0, .bool false, .int .i64 0, .bool false] 27) = w1 at *
  obtain ⟨q, hq⟩ : ∃ q, q = w.heap.size := ⟨_, rfl⟩
  rw [← hq] at HM ⊢
  have HQ := Lib.hid hq
  clear hq
  have HQ1 := Lib.hid (show q ≤ w1.heap.size from by rw [HQ.out]; exact HM.out.st.keep.size)
  have HDA := Lib.hid (show ∀ w', Below B W w' → BytesIn w' (.slice da dn dc) data from fun w' hb => HT.out.data.below (by rw [HW.out]; exact hb))
  have HSP := Lib.hid (show R.steps < 4611686018427387904 from by have h1 := HREL.out.steps; have h2 := HN.out.s1; have h3 := HK.out; have h4 : (absR R).steps = R.steps := rfl; omega)
  have HSO := Lib.hid (show StOk (absR R) from OwnP.ok ⟨R, HO.out, rfl, rfl⟩)
  obtain ⟨c0, c1, c2, c3, c4, c5⟩ := HM.out.bx.facts
  go_upto_region 3 with (refine wpList_append_bytes rfl (.tmp 13) (.tmp 15) rfl rfl q (.slice none 0 0) 0 [] rfl (World.ownsRow_nil _ _ _ _) (.slice da dn dc) data rfl (HDA.out _ (HB.out.trans (HM.out.belowB HO.out))) (by have := HD.out; omega) HQ1.out ?_; intro mv w2 hmo hmg _; simp only [Nat.zero_add, List.nil_append] at hmo; have HMO := Lib.hid hmo; have HB2 := Lib.hid (grown_none hmg); clear hmo hmg)
  obtain ⟨ma, mc, rfl⟩ := own_slice HMO.out
  have HM2 := Lib.hid (HM.out.call HB2.out)
  clear c0 c1 c2 c3 c4 c5 HM
  obtain ⟨c0, c1, c2, c3, c4, c5⟩ := HM2.out.bx.facts
  obtain ⟨ea, st', hA⟩ : ∃ x y, aArm (absR R) an = (x, y) := ⟨_, _, rfl⟩
  have hbo := rel_arm HREL.out an
  have hnk := num_arm HN.out an HT.out.n.2
  have HPR := Lib.hid (fun w h => arm_abs R w h an HT.out.n.2)
  unfold MethPost at HPR
  rw [hA] at hbo HPR
  dsimp only at HPR
  clear hA
  go_upto_region 32 with (go_at_call 17; (with_reducible refine (HPR.out _ HM2.out.st.fs).mono ?_); rintro e w3 ⟨rfl, R2, hs2, rfl⟩; have HM3 := Lib.hid (HM2.out.fs hs2); clear hs2)
  clear c0 c1 c2 c3 c4 c5 HM2
  obtain ⟨c0, c1, c2, c3, c4, c5⟩ := HM3.out.bx.facts
  obtain ⟨r0, r1, r2, r3, r4, f0, f1, f2, f3, f4⟩ := rs_cells HM3.out.bx.rs
  by_cases h0 : an < 0
  · have hC : armN r an = (r, 1) := by unfold armN; rw [if_pos h0]
    rw [hC] at hbo hnk
    have HR2 := Lib.hid hbo.1
    have HNE := Lib.hid (show numE ea = 1 from hbo.2)
    have HNK := Lib.hid hnk
    have HM := HM3
    clear hbo hnk hC HM3
    go_upto_region 36 with (fail)
    clear c0 c1 c2 c3 c4 c5 r0 r1 r2 r3 r4 f0 f1 f2 f3 f4
    go_upto_region 36 with (fail)
    refine wp_region_T (fun w' => w'.heap[q]? = some (.cells #[.slice a n c, .int .i64 r.steps, .bool r.armed, .int .i64 r.left, .bool r.down] 27 (0, 0))) [0, 2, 4, 5] (by kernel_rfl) ?_
    replace HM := Lib.hid (HM.out.call ((Below.refl _ _).drew))
    generalize World.drew _ = w8 at *
    refine anyT_takeY (i := 1) (v := errV ea) rfl (by kernel_rfl) (by kernel_rfl) (by kernel_rfl) (fun _ _ _ h => h) (by kernel_rfl) (Or.inl ⟨by rfl, by intro w; go_simp⟩) ?_
    try simp only [List.getElem_toArray, List.getElem_cons_succ, List.getElem_cons_zero, Act.put, List.setIfInBounds_toArray, List.set_cons_zero, List.set_cons_succ]
    refine anyT_takeY (i := 3) (v := .int .i64 1) rfl (by kernel_rfl) (by kernel_rfl) (by kernel_rfl) (fun _ _ _ h => h) (by kernel_rfl) (Or.inl ⟨by rfl, by intro w; go_simp⟩) ?_
    try simp only [List.getElem_toArray, List.getElem_cons_succ, List.getElem_cons_zero, Act.put, List.setIfInBounds_toArray, List.set_cons_zero, List.set_cons_succ]
    refine anyT_take [6] (i := 0) (v := .agg #[.slice a n c, .int .i64 r.steps, .bool r.armed, .int .i64 r.left, .bool r.down]) rfl (by kernel_rfl) (by kernel_rfl) (by kernel_rfl) (fun _ _ _ h => h) (by kernel_rfl) (agg_yields (by rfl) 27 (.tmp 4) rfl q rfl _ _ (fun _ h => h) Tryd.underlying27 rfl (by kernel_rfl)) HM.out.bx.rs ?_
    try simp only [List.getElem_toArray, List.getElem_cons_succ, List.getElem_cons_zero, Act.put, List.setIfInBounds_toArray, List.set_cons_zero, List.set_cons_succ]
    refine anyT_one (i := 2) (by kernel_rfl) rfl (fun K hK => ?_)
    rw [if_pos (by rfl)]
    try simp only [List.getElem_toArray, List.getElem_cons_succ, List.getElem_cons_zero]
    (go_simp; refine (num_any ea _ (HET.out.below (by rw [HW.out]; exact HB.out.trans (HM.out.belowB HO.out)))).mono ?_; rintro e w9 ⟨rfl, hb9⟩; replace HM := Lib.hid (HM.out.call hb9); clear hb9)
    refine hK _ _ (fun _ => HM.out.bx.rs) ?_
    clear hK K
    try simp only [List.getElem_toArray, List.getElem_cons_succ, List.getElem_cons_zero, Act.put, List.setIfInBounds_toArray, List.set_cons_zero, List.set_cons_succ]
    refine anyT_take [6] (i := 4) (v := .bool true) rfl (by kernel_rfl) (by kernel_rfl) (by kernel_rfl) (fun _ _ _ h => h) (by kernel_rfl) (Or.inl ⟨by rfl, fun w' _ => by have h := HNE.out; go_simp⟩) HM.out.bx.rs ?_
    try simp only [List.getElem_toArray, List.getElem_cons_succ, List.getElem_cons_zero, Act.put, List.setIfInBounds_toArray, List.set_cons_zero, List.set_cons_succ]
    refine anyT_one (i := 5) (by kernel_rfl) rfl (fun K hK => ?_)
    rw [if_pos (by rfl)]
    try simp only [List.getElem_toArray, List.getElem_cons_succ, List.getElem_cons_zero]
    (refine wp_store_row 27 (.tmp 6) (.tmp 136) rfl (q + 1 + 1) #[.slice a n c, .int .i64 r.steps, .bool r.armed, .int .i64 r.left, .bool r.down] rfl rfl 27 _ HM.out.bx.res (by kernel_rfl) rfl (rs_one a n c ⟨[], r.steps, r.armed, r.left, r.down⟩) ?_)
    refine hK _ _ (fun _ => (setRow_other _ _ _ _ (by omega)).trans HM.out.bx.rs) ?_
    clear hK K
    try simp only [List.getElem_toArray, List.getElem_cons_succ, List.getElem_cons_zero, Act.put, List.setIfInBounds_toArray, List.set_cons_zero, List.set_cons_succ]
    refine anyT_takeY (i := 6) (v := .bool true) rfl (by kernel_rfl) (by kernel_rfl) (by kernel_rfl) (fun _ _ _ h => h) (by kernel_rfl) (Or.inl ⟨by rfl, by intro w; go_simp⟩) ?_
    try simp only [List.getElem_toArray, List.getElem_cons_succ, List.getElem_cons_zero, Act.put, List.setIfInBounds_toArray, List.set_cons_zero, List.set_cons_succ]
    refine anyT_done (by kernel_rfl) ?_ _
    go_wp2_with (fail)
    refine bodyPost_ret (results_cell_tmp_row rfl _ _ (q + 1 + 1) 27 #[.slice a n c, .int .i64 r.steps, .bool r.armed, .int .i64 r.left, .bool r.down] (0, 0) _ rfl (setRow_heap _ _ _ _ _ _ HM.out.bx.res) Tryd.underlying27 rfl (by kernel_rfl)) rfl ?_
    exact lstep_end (r' := r) HM.out HR2.out HNK.out

  · by_cases hdn : r.down = true
    · have hC : armN r an = (r, 13) := by unfold armN; rw [if_neg h0, if_pos hdn]
      rw [hC] at hbo hnk
      have HR2 := Lib.hid hbo.1
      have HNE := Lib.hid (show numE ea = 13 from hbo.2)
      have HNK := Lib.hid hnk
      have HM := HM3
      clear hbo hnk hC HM3
      go_upto_region 36 with (fail)
      clear c0 c1 c2 c3 c4 c5 r0 r1 r2 r3 r4 f0 f1 f2 f3 f4 hdn
      go_upto_region 36 with (fail)
      refine wp_region_T (fun w' => w'.heap[q]? = some (.cells #[.slice a n c, .int .i64 r.steps, .bool r.armed, .int .i64 r.left, .bool r.down] 27 (0, 0))) [0, 2, 4, 5] (by kernel_rfl) ?_
      replace HM := Lib.hid (HM.out.call ((Below.refl _ _).drew))
      generalize World.drew _ = w8 at *
      refine anyT_takeY (i := 1) (v := errV ea) rfl (by kernel_rfl) (by kernel_rfl) (by kernel_rfl) (fun _ _ _ h => h) (by kernel_rfl) (Or.inl ⟨by rfl, by intro w; go_simp⟩) ?_
      try simp only [List.getElem_toArray, List.getElem_cons_succ, List.getElem_cons_zero, Act.put, List.setIfInBounds_toArray, List.set_cons_zero, List.set_cons_succ]
      refine anyT_takeY (i := 3) (v := .int .i64 13) rfl (by kernel_rfl) (by kernel_rfl) (by kernel_rfl) (fun _ _ _ h => h) (by kernel_rfl) (Or.inl ⟨by rfl, by intro w; go_simp⟩) ?_
      try simp only [List.getElem_toArray, List.getElem_cons_succ, List.getElem_cons_zero, Act.put, List.setIfInBounds_toArray, List.set_cons_zero, List.set_cons_succ]
      refine anyT_take [6] (i := 0) (v := .agg #[.slice a n c, .int .i64 r.steps, .bool r.armed, .int .i64 r.left, .bool r.down]) rfl (by kernel_rfl) (by kernel_rfl) (by kernel_rfl) (fun _ _ _ h => h) (by kernel_rfl) (agg_yields (by rfl) 27 (.tmp 4) rfl q rfl _ _ (fun _ h => h) Tryd.underlying27 rfl (by kernel_rfl)) HM.out.bx.rs ?_
      try simp only [List.getElem_toArray, List.getElem_cons_succ, List.getElem_cons_zero, Act.put, List.setIfInBounds_toArray, List.set_cons_zero, List.set_cons_succ]
      refine anyT_one (i := 2) (by kernel_rfl) rfl (fun K hK => ?_)
      rw [if_pos (by rfl)]
      try simp only [List.getElem_toArray, List.getElem_cons_succ, List.getElem_cons_zero]
      (go_simp; refine (num_any ea _ (HET.out.below (by rw [HW.out]; exact HB.out.trans (HM.out.belowB HO.out)))).mono ?_; rintro e w9 ⟨rfl, hb9⟩; replace HM := Lib.hid (HM.out.call hb9); clear hb9)
      refine hK _ _ (fun _ => HM.out.bx.rs) ?_
      clear hK K
      try simp only [List.getElem_toArray, List.getElem_cons_succ, List.getElem_cons_zero, Act.put, List.setIfInBounds_toArray, List.set_cons_zero, List.set_cons_succ]
      refine anyT_take [6] (i := 4) (v := .bool true) rfl (by kernel_rfl) (by kernel_rfl) (by kernel_rfl) (fun _ _ _ h => h) (by kernel_rfl) (Or.inl ⟨by rfl, fun w' _ => by have h := HNE.out; go_simp⟩) HM.out.bx.rs ?_
      try simp only [List.getElem_toArray, List.getElem_cons_succ, List.getElem_cons_zero, Act.put, List.setIfInBounds_toArray, List.set_cons_zero, List.set_cons_succ]
      refine anyT_one (i := 5) (by kernel_rfl) rfl (fun K hK => ?_)
      rw [if_pos (by rfl)]
      try simp only [List.getElem_toArray, List.getElem_cons_succ, List.getElem_cons_zero]
      (refine wp_store_row 27 (.tmp 6) (.tmp 136) rfl (q + 1 + 1) #[.slice a n c, .int .i64 r.steps, .bool r.armed, .int .i64 r.left, .bool r.down] rfl rfl 27 _ HM.out.bx.res (by kernel_rfl) rfl (rs_one a n c ⟨[], r.steps, r.armed, r.left, r.down⟩) ?_)
      refine hK _ _ (fun _ => (setRow_other _ _ _ _ (by omega)).trans HM.out.bx.rs) ?_
      clear hK K
      try simp only [List.getElem_toArray, List.getElem_cons_succ, List.getElem_cons_zero, Act.put, List.setIfInBounds_toArray, List.set_cons_zero, List.set_cons_succ]
      refine anyT_takeY (i := 6) (v := .bool true) rfl (by kernel_rfl) (by kernel_rfl) (by kernel_rfl) (fun _ _ _ h => h) (by kernel_rfl) (Or.inl ⟨by rfl, by intro w; go_simp⟩) ?_
      try simp only [List.getElem_toArray, List.getElem_cons_succ, List.getElem_cons_zero, Act.put, List.setIfInBounds_toArray, List.set_cons_zero, List.set_cons_succ]
      refine anyT_done (by kernel_rfl) ?_ _
      go_wp2_with (fail)
      refine bodyPost_ret (results_cell_tmp_row rfl _ _ (q + 1 + 1) 27 #[.slice a n c, .int .i64 r.steps, .bool r.armed, .int .i64 r.left, .bool r.down] (0, 0) _ rfl (setRow_heap _ _ _ _ _ _ HM.out.bx.res) Tryd.underlying27 rfl (by kernel_rfl)) rfl ?_
      exact lstep_end (r' := r) HM.out HR2.out HNK.out

    · have hC : armN r an = ({ r with armed := true, left := an }, 0) := by unfold armN; rw [if_neg h0, if_neg hdn]
      rw [hC] at hbo hnk
      have HR2 := Lib.hid hbo.1
      have HNE := Lib.hid (show numE ea = 0 from hbo.2)
      have HNK := Lib.hid hnk
      clear hbo hnk hC
      have hdf : r.down = false := by simpa using hdn
      clear hdn
      go_upto_region 31 with (fail)
      clear c0 c2 c3 c4 c5 r0 r1 r4
      go_region
      have HM := Lib.hid (show StM _ _ _ _ _ _ #[.slice a n c, .int .i64 r.steps, .bool true, .int .i64 an, .bool r.down] _ _ _ from (((HM3.out.setC 2 (.bool true)).setC 3 (.int .i64 an)).call ((Below.refl _ _).drew)))
      clear HM3 c1 r2 r3 f0 f1 f2 f3 f4 hdf
      generalize World.drew (World.setCell _ _ _) = w7 at *
      go_upto_region 36 with (fail)
      refine wp_region_T (fun w' => w'.heap[q]? = some (.cells #[.slice a n c, .int .i64 r.steps, .bool true, .int .i64 an, .bool r.down] 27 (0, 0))) [0, 2, 4, 5] (by kernel_rfl) ?_
      replace HM := Lib.hid (HM.out.call ((Below.refl _ _).drew))
      generalize World.drew _ = w8 at *
      refine anyT_takeY (i := 1) (v := errV ea) rfl (by kernel_rfl) (by kernel_rfl) (by kernel_rfl) (fun _ _ _ h => h) (by kernel_rfl) (Or.inl ⟨by rfl, by intro w; go_simp⟩) ?_
      try simp only [List.getElem_toArray, List.getElem_cons_succ, List.getElem_cons_zero, Act.put, List.setIfInBounds_toArray, List.set_cons_zero, List.set_cons_succ]
      refine anyT_takeY (i := 3) (v := .int .i64 0) rfl (by kernel_rfl) (by kernel_rfl) (by kernel_rfl) (fun _ _ _ h => h) (by kernel_rfl) (Or.inl ⟨by rfl, by intro w; go_simp⟩) ?_
      try simp only [List.getElem_toArray, List.getElem_cons_succ, List.getElem_cons_zero, Act.put, List.setIfInBounds_toArray, List.set_cons_zero, List.set_cons_succ]
      refine anyT_take [6] (i := 0) (v := .agg #[.slice a n c, .int .i64 r.steps, .bool true, .int .i64 an, .bool r.down]) rfl (by kernel_rfl) (by kernel_rfl) (by kernel_rfl) (fun _ _ _ h => h) (by kernel_rfl) (agg_yields (by rfl) 27 (.tmp 4) rfl q rfl _ _ (fun _ h => h) Tryd.underlying27 rfl (by kernel_rfl)) HM.out.bx.rs ?_
      try simp only [List.getElem_toArray, List.getElem_cons_succ, List.getElem_cons_zero, Act.put, List.setIfInBounds_toArray, List.set_cons_zero, List.set_cons_succ]
      refine anyT_one (i := 2) (by kernel_rfl) rfl (fun K hK => ?_)
      rw [if_pos (by rfl)]
      try simp only [List.getElem_toArray, List.getElem_cons_succ, List.getElem_cons_zero]
      (go_simp; refine (num_any ea _ (HET.out.below (by rw [HW.out]; exact HB.out.trans (HM.out.belowB HO.out)))).mono ?_; rintro e w9 ⟨rfl, hb9⟩; replace HM := Lib.hid (HM.out.call hb9); clear hb9)
      refine hK _ _ (fun _ => HM.out.bx.rs) ?_
      clear hK K
      try simp only [List.getElem_toArray, List.getElem_cons_succ, List.getElem_cons_zero, Act.put, List.setIfInBounds_toArray, List.set_cons_zero, List.set_cons_succ]
      refine anyT_take [6] (i := 4) (v := .bool true) rfl (by kernel_rfl) (by kernel_rfl) (by kernel_rfl) (fun _ _ _ h => h) (by kernel_rfl) (Or.inl ⟨by rfl, fun w' _ => by have h := HNE.out; go_simp⟩) HM.out.bx.rs ?_
      try simp only [List.getElem_toArray, List.getElem_cons_succ, List.getElem_cons_zero, Act.put, List.setIfInBounds_toArray, List.set_cons_zero, List.set_cons_succ]
      refine anyT_one (i := 5) (by kernel_rfl) rfl (fun K hK => ?_)
      rw [if_pos (by rfl)]
      try simp only [List.getElem_toArray, List.getElem_cons_succ, List.getElem_cons_zero]
      (refine wp_store_row 27 (.tmp 6) (.tmp 136) rfl (q + 1 + 1) #[.slice a n c, .int .i64 r.steps, .bool true, .int .i64 an, .bool r.down] rfl rfl 27 _ HM.out.bx.res (by kernel_rfl) rfl (rs_one a n c ⟨[], r.steps, true, an, r.down⟩) ?_)
      refine hK _ _ (fun _ => (setRow_other _ _ _ _ (by omega)).trans HM.out.bx.rs) ?_
      clear hK K
      try simp only [List.getElem_toArray, List.getElem_cons_succ, List.getElem_cons_zero, Act.put, List.setIfInBounds_toArray, List.set_cons_zero, List.set_cons_succ]
      refine anyT_takeY (i := 6) (v := .bool true) rfl (by kernel_rfl) (by kernel_rfl) (by kernel_rfl) (fun _ _ _ h => h) (by kernel_rfl) (Or.inl ⟨by rfl, by intro w; go_simp⟩) ?_
      try simp only [List.getElem_toArray, List.getElem_cons_succ, List.getElem_cons_zero, Act.put, List.setIfInBounds_toArray, List.set_cons_zero, List.set_cons_succ]
      refine anyT_done (by kernel_rfl) ?_ _
      go_wp2_with (fail)
      refine bodyPost_ret (results_cell_tmp_row rfl _ _ (q + 1 + 1) 27 #[.slice a n c, .int .i64 r.steps, .bool true, .int .i64 an, .bool r.down] (0, 0) _ rfl (setRow_heap _ _ _ _ _ _ HM.out.bx.res) Tryd.underlying27 rfl (by kernel_rfl)) rfl ?_
      exact lstep_end (r' := { r with armed := true, left := an }) HM.out HR2.out HNK.out


end Go.Proofs.YtggcodobkmhkgaaDoor
