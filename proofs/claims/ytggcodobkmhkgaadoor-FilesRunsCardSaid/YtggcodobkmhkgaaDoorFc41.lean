/- Part 41 of the proof. -/
import Derived.Test.YtggcodobkmhkgaaDoorFc38
namespace Go.Proofs.YtggcodobkmhkgaaDoor
set_option linter.unusedVariables false
set_option linter.unusedSimpArgs false
open Go.RowKit Go.Maps Go.Proofs
set_option maxRecDepth 100000
set_option linter.unusedSimpArgs false
set_option linter.unusedVariables false
set_option maxHeartbeats 8000000 in
theorem lstep_2 (B : Nat) (R : FsR) (r : RSt) (lv : Value) (t : AT) (k : Nat) (w W : World) (ho : Own B w R) (hb : Below B W w) (hW : W.heap.size = B) (hg : ErrType W) (hL : FilesIn w lv r.L) (hrel : Rel4 (absR R) r) (hn : NumK r k) (hk : k ≤ 500) (ht : AOk W t) (hd : t.data.length ≤ 140737488351232) (hdk : t.keep.length ≤ 17592186043904)
    (hkd : wrap64 ((IntKind.u64.wrap t.kind).tmod 8) = 2) :
    Calls Tryd.prog 9 #[.pointer (some ⟨R.pb, 0, none⟩), rsV lv r, .agg t.cells.toArray] w (LStep R w k) := by
  obtain ⟨a, n, c, rfl⟩ := hL.wide
  obtain ⟨kd, an, nm, nw, dv, data, kv, keep⟩ := t
  dsimp only at hd hdk hkd
  have HO := Lib.hid ho
  have HB := Lib.hid hb
  have HW := Lib.hid hW
  have HET := Lib.hid hg
  have HREL := Lib.hid hrel
  have HN := Lib.hid hn
  have HK := Lib.hid hk
  have HT := Lib.hid ht
  have HD := Lib.hid hd
  have HDK := Lib.hid hdk
  have HL := Lib.hid hL
  obtain ⟨da, dn, dc, hdv⟩ : ∃ a n c, dv = .slice a n c := by obtain ⟨a, c, h, _⟩ := ht.data; exact ⟨a, _, c, h⟩
  obtain ⟨ka, kn, kc, hkv⟩ : ∃ a n c, kv = .slice a n c := by obtain ⟨a, c, h, _⟩ := ht.keep; exact ⟨a, _, c, h⟩
  subst hdv hkv
  clear ho hb hW hg hrel hn hk ht hd hdk hL
  unfold rsV rsC AT.cells
  dsimp only
  go_enter Tryd.func9, Tryd.ntmps9
  go_upto_region 2 with (fail)
  have hm := stm_start (C := #[.slice a n c, .int .i64 r.steps, .bool r.armed, .int .i64 r.left, .bool r.down]) (t := ⟨kd, an, nm, nw, .slice da dn dc, data, .slice ka kn kc, keep⟩) HO.out HL.out
  unfold zeroRS AT.cells at hm
  dsimp only at hm
  have HM := Lib.hid hm
  clear hm
  generalize ((w.alloc (.cells #[.slice a n c, .int .i64 r.steps, .bool r.armed, .int .i64 r.left, .bool r.down] 27)).alloc (.cells #[.int .i64 kd, .int .i64 an, .string nm, .string nw, .slice da dn dc, .slice ka kn kc] 33)).alloc (.cells #[.slice none 0 0, .int .i64 0, .bool false, .int .i64 0, .bool false] 27) = w1 at *
  obtain ⟨q, hq⟩ : ∃ q, q = w.heap.size := ⟨_, rfl⟩
  rw [← hq] at HM ⊢
  have HQ := Lib.hid hq
  clear hq
  have HQ1 := Lib.hid (show q ≤ w1.heap.size from by rw [HQ.out]; exact HM.out.st.keep.size)
  have HDA := Lib.hid (show ∀ w', Below B W w' → BytesIn w' (.slice da dn dc) data from fun w' hb => HT.out.data.below (by rw [HW.out]; exact hb))
  have HSP := Lib.hid (show R.steps < 4611686018427387904 from by have h1 := HREL.out.steps; have h2 := HN.out.s1; have h3 := HK.out; have h4 : (absR R).steps = R.steps := rfl; omega)
  have HSO := Lib.hid (show StOk (absR R) from OwnP.ok ⟨R, HO.out, rfl, rfl⟩)
  obtain ⟨c0, c1, c2, c3, c4, c5⟩ := HM.out.bx.facts
  go_upto_region 3 with (refine wpList_append_bytes rfl (.tmp 13) (.tmp 15) rfl rfl q (.slice none 0 0) 0 [] rfl (World.ownsRow_nil _ _ _ _) (.slice da dn dc) data rfl (HDA.out _ (HB.out.trans (HM.out.belowB HO.out))) (by have := HD.out; omega) HQ1.out ?_; intro mv w2 hmo hmg _; simp only [Nat.zero_add, List.nil_append] at hmo; have HMO := Lib.hid hmo; have HB2 := Lib.hid (grown_none hmg); clear hmo hmg)
  obtain ⟨ma, mc, rfl⟩ := own_slice HMO.out
  have HM2 := Lib.hid (HM.out.call HB2.out)
  clear c0 c1 c2 c3 c4 c5 HM
  obtain ⟨c0, c1, c2, c3, c4, c5⟩ := HM2.out.bx.facts
  obtain ⟨ea, st', hA⟩ : ∃ x y, aSync (absR R) nm = (x, y) := ⟨_, _, rfl⟩
  obtain ⟨r2, kk, hC⟩ : ∃ x y, chgN r 0 nm { data := #[] } 0 = (x, y) := ⟨_, _, rfl⟩
  have hbo := rel_sync HREL.out HSO.out nm { data := #[] } 0
  have hnk := num_change HN.out 0 nm { data := #[] } 0
  have HPR := Lib.hid (fun w h => sync_abs R w h nm HT.out.name HSP.out)
  have HCH := Lib.hid (fun w h => chg4_0 (.slice a n c) r nm { data := #[] } 0 w h HT.out.name (by decide) (Nat.lt_of_le_of_lt (HREL.out.many HSO.out) (by decide)) (rel_size HREL.out HSO.out nm) (HN.out.ok (by have := HK.out; omega)))
  unfold MethPost at HPR
  unfold Ref4 at HCH
  rw [hA] at hbo HPR
  rw [hC] at hbo HCH hnk
  have HR2 := Lib.hid hbo.1
  have HNE := Lib.hid hbo.2
  have HNK := Lib.hid hnk
  clear hbo hnk hA hC
  dsimp only at HR2 HNE HNK HPR HCH
  obtain ⟨L2, st2, ar2, lf2, dn2⟩ := r2
  dsimp only at HNK HCH
  unfold rsV rsC at HCH
  dsimp only at HCH
  go_upto_region 19 with (go_at_call 16; (with_reducible refine (HPR.out _ HM2.out.st.fs).mono ?_); rintro e w3 ⟨rfl, R2, hs2, rfl⟩; have HM3 := Lib.hid (HM2.out.fs hs2); clear hs2)
  clear c0 c1 c2 c3 c4 c5 HM2
  obtain ⟨c0, c1, c2, c3, c4, c5⟩ := HM3.out.bx.facts
  go_upto_region 36 with (first
    | (refine wpList_load_row rfl 27 (.tmp 4) rfl q rfl 27 #[.slice a n c, .int .i64 r.steps, .bool r.armed, .int .i64 r.left, .bool r.down] (0, 0) _ HM3.out.bx.rs Tryd.underlying27 rfl (by kernel_rfl) ?_)
    | (go_at_call 41; (with_reducible refine (HCH.out _ HM3.out.fl).mono ?_); rintro e w4 ⟨lv', rfl, hf4, hb4⟩; obtain ⟨a2, n2, c2', hv4⟩ := FilesIn.wide hf4; subst hv4; have HM4 := Lib.hid ((HM3.out.call hb4).files hf4); clear hf4 hb4)
    | (refine wpList_store_row rfl 27 (.tmp 4) (.tmp 70) rfl q #[.slice a2 n2 c2', .int .i64 st2, .bool ar2, .int .i64 lf2, .bool dn2] rfl rfl 27 _ HM4.out.bx.rs (by kernel_rfl) rfl (rs_one a2 n2 c2' ⟨[], st2, ar2, lf2, dn2⟩) ?_))
  have HM := Lib.hid (HM4.out.set #[.slice a2 n2 c2', .int .i64 st2, .bool ar2, .int .i64 lf2, .bool dn2] rfl)
  generalize w4.setRow q #[.slice a2 n2 c2', .int .i64 st2, .bool ar2, .int .i64 lf2, .bool dn2] = w5 at *
  clear c0 c1 c2 c3 c4 c5 HM3
  go_upto_region 36 with (fail)
  refine wp_region_T (fun w' => w'.heap[q]? = some (.cells #[.slice a2 n2 c2', .int .i64 st2, .bool ar2, .int .i64 lf2, .bool dn2] 27 (0, 0))) [0, 2, 4, 5] (by kernel_rfl) ?_
  replace HM := Lib.hid (HM.out.call ((Below.refl _ _).drew))
  generalize World.drew _ = w8 at *
  refine anyT_takeY (i := 1) (v := errV ea) rfl (by kernel_rfl) (by kernel_rfl) (by kernel_rfl) (fun _ _ _ h => h) (by kernel_rfl) (Or.inl ⟨by rfl, by intro w; go_simp⟩) ?_
  try simp only [List.getElem_toArray, List.getElem_cons_succ, List.getElem_cons_zero, Act.put, List.setIfInBounds_toArray, List.set_cons_zero, List.set_cons_succ]
  refine anyT_takeY (i := 3) (v := .int .i64 (kk : Int)) rfl (by kernel_rfl) (by kernel_rfl) (by kernel_rfl) (fun _ _ _ h => h) (by kernel_rfl) (Or.inl ⟨by rfl, by intro w; go_simp⟩) ?_
  try simp only [List.getElem_toArray, List.getElem_cons_succ, List.getElem_cons_zero, Act.put, List.setIfInBounds_toArray, List.set_cons_zero, List.set_cons_succ]
  refine anyT_take [6] (i := 0) (v := .agg #[.slice a2 n2 c2', .int .i64 st2, .bool ar2, .int .i64 lf2, .bool dn2]) rfl (by kernel_rfl) (by kernel_rfl) (by kernel_rfl) (fun _ _ _ h => h) (by kernel_rfl) (agg_yields (by rfl) 27 (.tmp 4) rfl q rfl _ _ (fun _ h => h) Tryd.underlying27 rfl (by kernel_rfl)) HM.out.bx.rs ?_
  try simp only [List.getElem_toArray, List.getElem_cons_succ, List.getElem_cons_zero, Act.put, List.setIfInBounds_toArray, List.set_cons_zero, List.set_cons_succ]
  refine anyT_one (i := 2) (by kernel_rfl) rfl (fun K hK => ?_)
  rw [if_pos (by rfl)]
  try simp only [List.getElem_toArray, List.getElem_cons_succ, List.getElem_cons_zero]
  (go_simp; refine (num_any ea _ (HET.out.below (by rw [HW.out]; exact HB.out.trans (HM.out.belowB HO.out)))).mono ?_; rintro e w9 ⟨rfl, hb9⟩; replace HM := Lib.hid (HM.out.call hb9); clear hb9)
  refine hK _ _ (fun _ => HM.out.bx.rs) ?_
  clear hK K
  try simp only [List.getElem_toArray, List.getElem_cons_succ, List.getElem_cons_zero, Act.put, List.setIfInBounds_toArray, List.set_cons_zero, List.set_cons_succ]
  refine anyT_take [6] (i := 4) (v := .bool true) rfl (by kernel_rfl) (by kernel_rfl) (by kernel_rfl) (fun _ _ _ h => h) (by kernel_rfl) (Or.inl ⟨by rfl, fun w' _ => by have h := HNE.out; go_simp⟩) HM.out.bx.rs ?_
  try simp only [List.getElem_toArray, List.getElem_cons_succ, List.getElem_cons_zero, Act.put, List.setIfInBounds_toArray, List.set_cons_zero, List.set_cons_succ]
  refine anyT_one (i := 5) (by kernel_rfl) rfl (fun K hK => ?_)
  rw [if_pos (by rfl)]
  try simp only [List.getElem_toArray, List.getElem_cons_succ, List.getElem_cons_zero]
  (refine wp_store_row 27 (.tmp 6) (.tmp 136) rfl (q + 1 + 1) #[.slice a2 n2 c2', .int .i64 st2, .bool ar2, .int .i64 lf2, .bool dn2] rfl rfl 27 _ HM.out.bx.res (by kernel_rfl) rfl (rs_one a2 n2 c2' ⟨[], st2, ar2, lf2, dn2⟩) ?_)
  refine hK _ _ (fun _ => (setRow_other _ _ _ _ (by omega)).trans HM.out.bx.rs) ?_
  clear hK K
  try simp only [List.getElem_toArray, List.getElem_cons_succ, List.getElem_cons_zero, Act.put, List.setIfInBounds_toArray, List.set_cons_zero, List.set_cons_succ]
  refine anyT_takeY (i := 6) (v := .bool true) rfl (by kernel_rfl) (by kernel_rfl) (by kernel_rfl) (fun _ _ _ h => h) (by kernel_rfl) (Or.inl ⟨by rfl, by intro w; go_simp⟩) ?_
  try simp only [List.getElem_toArray, List.getElem_cons_succ, List.getElem_cons_zero, Act.put, List.setIfInBounds_toArray, List.set_cons_zero, List.set_cons_succ]
  refine anyT_done (by kernel_rfl) ?_ _
  go_wp2_with (fail)
  refine bodyPost_ret (results_cell_tmp_row rfl _ _ (q + 1 + 1) 27 #[.slice a2 n2 c2', .int .i64 st2, .bool ar2, .int .i64 lf2, .bool dn2] (0, 0) _ rfl (setRow_heap _ _ _ _ _ _ HM.out.bx.res) Tryd.underlying27 rfl (by kernel_rfl)) rfl ?_
  exact lstep_end (r' := ⟨L2, st2, ar2, lf2, dn2⟩) HM.out HR2.out HNK.out

end Go.Proofs.YtggcodobkmhkgaaDoor
