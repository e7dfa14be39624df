/- coin, the reference: Into, From (written by gencni.py). -/
import Derived.Test.YteokgklfljhcaaaDoorCnX
namespace Go.Proofs.YteokgklfljhcaaaDoor
open Go.RowKit
set_option maxRecDepth 100000
set_option linter.unusedSimpArgs false
set_option linter.unusedVariables false
theorem RiM_start {T : TypeId} {w w1 : World} {pv : Value} {b : ByteArray} {w0 : World} {q : Nat} (m : IoM T w0 q pv b w) (cs : Array Value) (h : w.alloc (.cells cs T) = w1) : IoM T w0 q pv b w1 ∧ w1.heap[w.heap.size]? = some (.cells cs T (0, 0)) ∧ q + 1 < w.heap.size := by
  subst h
  exact ⟨m.call (below_alloc _ _), heap_alloc_new _ _, hlt14 m.res⟩
theorem SsIn.lt {w : World} {v : Value} {l : List ByteArray} (h : SsIn w v l) (hn : l ≠ []) : ∀ k, v.ownBlock = some k → k < w.heap.size := fun k hk => by
  obtain ⟨a, c, rfl, -, -, h3⟩ := h
  rcases h3 with h3 | ⟨ab, ao, rfl, hlt, -⟩
  · exact absurd h3 hn
  · have : ab = k := Option.some.inj hk
    omega
theorem SsIn.onlyE {w w' : World} {v : Value} {l : List ByteArray} {g : Nat} (h : SsIn w v l) (ho : Only g w w') (hn : l ≠ [] → ∀ k, v.ownBlock = some k → k ≠ g) : SsIn w' v l := by
  by_cases e : l = []
  · obtain ⟨a, c, rfl, h1, h2, -⟩ := h
    exact ⟨a, c, rfl, h1, h2, .inl e⟩
  · exact h.only ho (hn e)
set_option maxHeartbeats 4000000 in
theorem rinto_any (t : List ByteArray) (b p c : ByteArray) (pv : Value) (w : World) (hp : SsIn w pv t) (hl : t.length + 1 ≤ 8796093022208) (hs : ∀ s ∈ t, s.size ≤ 9223372036854775806) (hb : b.size ≤ 9223372036854775807) (hps : p.size ≤ 9223372036854775807) (hcs : c.size ≤ 9223372036854775807) :
    Calls Tryd.prog 21 #[.agg (trC pv b), .string p, .string c] w fun e w' => ∃ pv', e = .returned (.tuple #[.agg (trC pv' (intoB t b p c)), .int .i64 (numE (intoE t b p c))]) ∧ SsIn w' pv' (intoP t b p c) ∧ Below w.heap.size w w' := by
  obtain ⟨pa, pc, rfl, -, -⟩ := id hp
  have HPO := Lib.hid (fun w => rport_any p c w hps hcs)
  have HEM := portR_empty p c
  obtain ⟨R, hR⟩ : ∃ r, r = portR p c := ⟨_, rfl⟩
  have hRs := portR_size p c
  rw [← hR] at HPO HEM hRs
  have HC := Lib.hid (fun v w h => rfull_any (R :: t) b v w h (fun s m => (List.mem_cons.1 m).elim (fun e => by rw [e]; omega) (hs s)) hb)
  have HP := Lib.hid hp
  have HLN := Lib.hid hl
  obtain ⟨E, hE⟩ : ∃ e, e = intoE t b p c := ⟨_, rfl⟩
  obtain ⟨RP, hRP⟩ : ∃ e, e = intoP t b p c := ⟨_, rfl⟩
  obtain ⟨RB, hRB⟩ : ∃ e, e = intoB t b p c := ⟨_, rfl⟩
  rw [← hE, ← hRP, ← hRB]
  unfold intoP at hRP
  unfold intoB at hRB
  rw [← hE, ← hR] at hRP
  rw [← hE] at hRB
  unfold intoE at hE
  rw [← hR] at hE
  obtain ⟨E1, hE1⟩ : ∃ e, e = trE (R :: t) b := ⟨_, rfl⟩
  obtain ⟨F1, hF1⟩ : ∃ e, e = fullR (R :: t) b := ⟨_, rfl⟩
  rw [← hE1] at HC hE
  rw [← hF1] at HC
  obtain ⟨n, hn⟩ : ∃ n, n = t.length := ⟨_, rfl⟩
  have HST := Lib.hid (fun w1 h => io_start (T := 34) (w := w) (w1 := w1) (pv := .slice pa n pc) (b := b) h)
  rw [← hn] at HP ⊢
  have HN := Lib.hid hn
  have HRB := Lib.hid hRB
  have HRP := Lib.hid hRP
  have hE0 : E1 = none ∨ ∃ x, E1 = some x ∧ x ≠ 0 := by
    rw [hE1]
    unfold trE
    split
    · exact .inr ⟨2, rfl, by decide⟩
    · split
      · exact .inr ⟨40, rfl, by decide⟩
      · exact .inl rfl
  clear hp hs hb hl hRP hRB hR hRs hE1 hF1 hn hps hcs
  go_enter Tryd.func21, Tryd.ntmps21
  go_upto_region 1 with (fail)
  generalize hA : World.alloc (World.alloc w _) _ = w1
  have M := Lib.hid (HST.out w1 hA)
  clear hA HST
  obtain ⟨q, hq⟩ : ∃ q, q = w.heap.size := ⟨_, rfl⟩
  have hq1 : w.heap.size + 1 = q + 1 := by rw [hq]
  rw [← hq] at M ⊢
  clear hq hq1
  cases hk : okP p c with
  | false =>
    rw [hk] at HEM hE
    have HE := Lib.hid (show E = some 40 from hE)
    clear hE hk hE0
    simp only [Bool.not_false] at HEM
    go_wp2_with (first
      | (go_at_call 24; (with_reducible refine (HPO.out _).mono ?_); rintro e w2 ⟨rfl, rfl⟩)
      | (refine wpList_buildTo rfl 34 #[] rfl (some 15) rfl (trC (.slice none 0 0) { data := #[] }) (by kernel_rfl) ?_)
      | (refine wpList_store_row rfl 34 (.tmp 6) (.tmp 15) rfl (q + 1) (trC (.slice none 0 0) { data := #[] }) rfl rfl 34 _ M.out.res (by kernel_rfl) (by rfl) (trC_one _ _ _ _) ?_))
    refine bodyPost_ret (results_cell_tmp_row rfl _ _ (q + 1) 34 _ (0, 0) _ rfl (setRow_heap _ _ _ _ _ _ M.out.res) Tryd.underlying34 rfl (by kernel_rfl)) rfl ?_
    exact ⟨.slice none 0 0, by rw [HRB.out, HE.out]; rfl, by rw [HRP.out, HE.out]; exact ss_nil _, below_setRow M.out.below (by have := M.out.q0; omega) _⟩
  | true =>
    rw [hk] at HEM hE
    have HE := Lib.hid (show E = E1 from hE)
    clear hE hk
    simp only [Bool.not_true] at HEM
    have c1 := M.out.c1
    go_upto_region 4 with (first
      | (go_at_call 24; (with_reducible refine (HPO.out _).mono ?_); rintro e w2 ⟨rfl, hw⟩; obtain rfl := hw.symm)
      | (refine wpList_store_row rfl 34 (.tmp 8) (.tmp 18) rfl w1.heap.size (trC (.slice none 0 0) b) rfl rfl 34 _ (heap_alloc_new _ _) (by kernel_rfl) (by rfl) (trC_one _ _ _ _) ?_; rw [World.setRow_alloc_new]))
    clear c1
    have h3 := RiM_start M.out (trC (.slice none 0 0) b) rfl
    replace M := Lib.hid h3.1
    have X := Lib.hid h3.2.1
    have QX := Lib.hid h3.2.2
    clear h3
    obtain ⟨g, hg⟩ : ∃ g, g = w1.heap.size := ⟨_, rfl⟩
    rw [← hg] at X QX ⊢
    clear hg
    generalize w1.alloc (.cells (trC (.slice none 0 0) b) 34) = w2 at *
    have hbd : Below w2.heap.size w2 w2.drew := (Below.refl _ w2).drew
    replace M := Lib.hid (M.out.call hbd)
    replace X := Lib.hid ((hbd.block _ (hlt14 X.out)).trans X.out)
    clear hbd
    replace HP := Lib.hid (HP.out.below M.out.below)
    refine wp_region_T (fun W => W.cell? ⟨q, 0, none⟩ = some (.slice pa n pc) ∧ W.cell? ⟨g, 0, none⟩ = some (.slice none 0 0)) [0, 1, 2, 3, 4, 5, 6, 7, 8, 9, 10] (by kernel_rfl) ?_
    generalize w2.drew = w3 at *
    have SX := Lib.hid (show w3.cell? ⟨q, 0, none⟩ = some (.slice pa n pc) ∧ w3.cell? ⟨g, 0, none⟩ = some (.slice none 0 0) from ⟨M.out.c0, cell_of_row _ _ _ _ _ _ X.out⟩)
    refine anyT_take [11] (i := 0) (v := .pointer (some ⟨g, 0, none⟩)) rfl (by kernel_rfl) (by kernel_rfl) (by kernel_rfl) (fun _ _ _ h => h) (by kernel_rfl) (Or.inl ⟨by rfl, fun w' _ => by go_simp⟩) SX.out ?_
    try simp only [List.getElem_toArray, List.getElem_cons_succ, List.getElem_cons_zero, Act.put, List.setIfInBounds_toArray, List.set_cons_zero, List.set_cons_succ]
    refine anyT_take [11] (i := 2) (v := .string p) rfl (by kernel_rfl) (by kernel_rfl) (by kernel_rfl) (fun _ _ _ h => h) (by kernel_rfl) (Or.inl ⟨by rfl, fun w' _ => by go_simp⟩) SX.out ?_
    try simp only [List.getElem_toArray, List.getElem_cons_succ, List.getElem_cons_zero, Act.put, List.setIfInBounds_toArray, List.set_cons_zero, List.set_cons_succ]
    refine anyT_take [11] (i := 3) (v := .string c) rfl (by kernel_rfl) (by kernel_rfl) (by kernel_rfl) (fun _ _ _ h => h) (by kernel_rfl) (Or.inl ⟨by rfl, fun w' _ => by go_simp⟩) SX.out ?_
    try simp only [List.getElem_toArray, List.getElem_cons_succ, List.getElem_cons_zero, Act.put, List.setIfInBounds_toArray, List.set_cons_zero, List.set_cons_succ]
    refine anyT_take [11] (i := 7) (v := .pointer (some ⟨q, 0, none⟩)) rfl (by kernel_rfl) (by kernel_rfl) (by kernel_rfl) (fun _ _ _ h => h) (by kernel_rfl) (Or.inl ⟨by rfl, fun w' _ => by go_simp⟩) SX.out ?_
    try simp only [List.getElem_toArray, List.getElem_cons_succ, List.getElem_cons_zero, Act.put, List.setIfInBounds_toArray, List.set_cons_zero, List.set_cons_succ]
    refine anyT_take [11] (i := 1) (v := .slice none 0 0) rfl (by kernel_rfl) (by kernel_rfl) (by kernel_rfl) (fun _ _ _ h => h) (by kernel_rfl) (Or.inl ⟨by rfl, fun w' hS => by have c := hS.2; go_simp⟩) SX.out ?_
    try simp only [List.getElem_toArray, List.getElem_cons_succ, List.getElem_cons_zero, Act.put, List.setIfInBounds_toArray, List.set_cons_zero, List.set_cons_succ]
    refine anyT_take [11] (i := 8) (v := .slice pa n pc) rfl (by kernel_rfl) (by kernel_rfl) (by kernel_rfl) (fun _ _ _ h => h) (by kernel_rfl) (Or.inl ⟨by rfl, fun w' hS => by have c := hS.1; go_simp⟩) SX.out ?_
    try simp only [List.getElem_toArray, List.getElem_cons_succ, List.getElem_cons_zero, Act.put, List.setIfInBounds_toArray, List.set_cons_zero, List.set_cons_succ]
    refine anyT_one (i := 4) (by kernel_rfl) rfl (fun K hK => ?_)
    rw [if_pos (by rfl)]
    try simp only [List.getElem_toArray, List.getElem_cons_succ, List.getElem_cons_zero]
    (go_simp; (with_reducible refine (HPO.out _).mono ?_); rintro e w4 ⟨rfl, rfl⟩)
    refine hK _ _ (fun _ => SX.out) ?_
    clear hK K
    try simp only [List.getElem_toArray, List.getElem_cons_succ, List.getElem_cons_zero, Act.put, List.setIfInBounds_toArray, List.set_cons_zero, List.set_cons_succ]
    refine anyT_one (i := 5) (by kernel_rfl) rfl (fun K hK => ?_)
    rw [if_pos (by rfl)]
    try simp only [List.getElem_toArray, List.getElem_cons_succ, List.getElem_cons_zero]
    (refine wp_str1 (.tmp 23) rfl R rfl ?_; have hba := below_alloc w4 (.cells #[.string R] 9); have H24 := Lib.hid (heap_alloc_new w4 (.cells #[.string R] 9)); replace M := Lib.hid (M.out.call hba); replace X := Lib.hid ((hba.block _ (hlt14 X.out)).trans X.out); replace HP := Lib.hid (HP.out.below hba); replace SX := Lib.hid (show (w4.alloc (.cells #[.string R] 9)).cell? ⟨q, 0, none⟩ = some (.slice pa n pc) ∧ (w4.alloc (.cells #[.string R] 9)).cell? ⟨g, 0, none⟩ = some (.slice none 0 0) from ⟨M.out.c0, cell_of_row _ _ _ _ _ _ X.out⟩); clear hba; obtain ⟨g24, hg24⟩ : ∃ z, z = w4.heap.size := ⟨_, rfl⟩; rw [← hg24] at H24 ⊢; clear hg24; generalize w4.alloc (.cells #[.string R] 9) = w5 at *)
    refine hK _ _ (fun _ => SX.out) ?_
    clear hK K
    try simp only [List.getElem_toArray, List.getElem_cons_succ, List.getElem_cons_zero, Act.put, List.setIfInBounds_toArray, List.set_cons_zero, List.set_cons_succ]
    refine anyT_one (i := 6) (by kernel_rfl) rfl (fun K hK => ?_)
    rw [if_pos (by rfl)]
    try simp only [List.getElem_toArray, List.getElem_cons_succ, List.getElem_cons_zero]
    (refine wp_append_ss (.tmp 20) (.tmp 24) rfl rfl w5.heap.size (.slice none 0 0) (.slice (some ⟨g24, 0, none⟩) 1 1) [] [R] rfl (World.ownsRow_nil _ _ _ _) rfl (ss_one H24.out) (by rw [List.length_nil, List.length_singleton]; omega) (Nat.le_refl _) ?_; intro v25 w6 ho hgr hw; rw [List.nil_append] at ho; have hnx : ∀ j, j < w5.heap.size → w6.heap[j]? = w5.heap[j]? := fun j hj => hgr.block j hj (fun e => by cases e); have HO25 := Lib.hid ho; have HB25 := Lib.hid (show w5.heap.size ≤ w6.heap.size from hgr.size); have HQ25 := Lib.hid (show g < w5.heap.size from hlt14 X.out); replace M := Lib.hid (M.out.grow hgr (fun k hk => by cases hk)); replace X := Lib.hid ((hnx g (hlt14 X.out)).trans X.out); replace HP := Lib.hid (HP.out.below ((Below.refl w5.heap.size w5).grown hgr (Nat.le_refl _) (fun k hk => by cases hk))); replace SX := Lib.hid (show w6.cell? ⟨q, 0, none⟩ = some (.slice pa n pc) ∧ w6.cell? ⟨g, 0, none⟩ = some (.slice none 0 0) from ⟨M.out.c0, cell_of_row _ _ _ _ _ _ X.out⟩); clear ho hgr hw hnx)
    refine hK _ _ (fun _ => SX.out) ?_
    clear hK K
    try simp only [List.getElem_toArray, List.getElem_cons_succ, List.getElem_cons_zero, Act.put, List.setIfInBounds_toArray, List.set_cons_zero, List.set_cons_succ]
    refine anyT_one (i := 9) (by kernel_rfl) rfl (fun K hK => ?_)
    rw [if_pos (by rfl)]
    try simp only [List.getElem_toArray, List.getElem_cons_succ, List.getElem_cons_zero]
    (refine wp_append_ss (.tmp 25) (.tmp 27) rfl rfl w5.heap.size v25 (.slice pa n pc) [R] t rfl HO25.out rfl HP.out (by have := HLN.out; rw [List.length_singleton]; omega) HB25.out ?_; intro v28 w7 ho hgr hw; obtain ⟨va, vl, vc, rfl⟩ : ∃ a n c, v28 = .slice a n c := own_sl14 ho; have HI := Lib.hid (ss_own ho (by rw [List.length_append, List.length_singleton]; unfold maxLen; have := HLN.out; omega)); have HO := Lib.hid (fun k (hk : (Value.slice va vl vc).ownBlock = some k) => ho.lt k hk); have hnq : ∀ k, v25.ownBlock = some k → w5.heap.size ≤ k := fun k hk => (HO25.out.lt k hk).1; replace X := Lib.hid ((hgr.block g (hlt14 X.out) (fun e => by have := hnq g e.symm; have := HQ25.out; omega)).trans X.out); replace M := Lib.hid (M.out.grow hgr (fun k hk => by have := hnq k hk; have := HQ25.out; have := QX.out; omega)); replace SX := Lib.hid (show w7.cell? ⟨q, 0, none⟩ = some (.slice pa n pc) ∧ w7.cell? ⟨g, 0, none⟩ = some (.slice none 0 0) from ⟨M.out.c0, cell_of_row _ _ _ _ _ _ X.out⟩); clear ho hgr hw hnq)
    refine hK _ _ (fun _ => SX.out) ?_
    clear hK K
    try simp only [List.getElem_toArray, List.getElem_cons_succ, List.getElem_cons_zero, Act.put, List.setIfInBounds_toArray, List.set_cons_zero, List.set_cons_succ]
    refine anyT_take [11] (i := 10) (v := .pointer (some ⟨g, 0, none⟩)) rfl (by kernel_rfl) (by kernel_rfl) (by kernel_rfl) (fun _ _ _ h => h) (by kernel_rfl) (Or.inl ⟨by rfl, fun w' _ => by go_simp⟩) SX.out ?_
    try simp only [List.getElem_toArray, List.getElem_cons_succ, List.getElem_cons_zero, Act.put, List.setIfInBounds_toArray, List.set_cons_zero, List.set_cons_succ]
    refine anyT_one (i := 11) (by kernel_rfl) rfl (fun K hK => ?_)
    rw [if_pos (by rfl)]
    try simp only [List.getElem_toArray, List.getElem_cons_succ, List.getElem_cons_zero]
    (have k0 := SX.out.2; have k1 : w7.frozen? ⟨g, 0, none⟩ = false := frozen_of_row _ _ _ _ _ X.out; go_simp)
    refine hK _ _ (not_mem rfl) ?_
    clear hK K
    try simp only [List.getElem_toArray, List.getElem_cons_succ, List.getElem_cons_zero, Act.put, List.setIfInBounds_toArray, List.set_cons_zero, List.set_cons_succ]
    refine anyT_done (by kernel_rfl) ?_ _
    have ho := Only.setCell w7 ⟨g, 0, none⟩ (.slice va vl vc)
    replace HI := Lib.hid (HI.out.only ho (fun k hk => by have := (HO.out k hk).1; have := HQ25.out; show k ≠ g; omega))
    replace M := Lib.hid (M.out.only ho QX.out)
    replace X := Lib.hid (trC_put (v := .slice va vl vc) X.out)
    clear ho SX
    generalize w7.setCell ⟨g, 0, none⟩ (.slice va vl vc) = w8 at *
    rcases hE0 with rfl | ⟨x, rfl, hx0⟩
    · simp only [numE] at HC
      go_wp2_with (first
        | (refine wpList_load_row rfl 34 (.tmp 8) rfl g rfl 34 _ (0, 0) _ X.out Tryd.underlying34 rfl (by kernel_rfl) ?_)
        | (go_at_call 37; (with_reducible refine (HC.out _ _ HI.out).mono ?_); rintro e w9 ⟨rfl, hb⟩; replace M := Lib.hid (M.out.call hb); replace HI := Lib.hid (HI.out.below hb); replace X := Lib.hid ((hb.block _ (hlt14 X.out)).trans X.out); clear hb)
        | (refine wpList_buildTo rfl 34 #[] rfl (some 37) rfl (trC (.slice none 0 0) { data := #[] }) (by kernel_rfl) ?_)
        | (refine wpList_store_row rfl 34 (.tmp 6) (.tmp 37) rfl (q + 1) (trC (.slice none 0 0) { data := #[] }) rfl rfl 34 _ M.out.res (by kernel_rfl) (by rfl) (trC_one _ _ _ _) ?_)
        | (refine wpList_store_row rfl 34 (.tmp 6) (.tmp 39) rfl (q + 1) (trC (.slice va vl vc) b) rfl rfl 34 _ M.out.res (by kernel_rfl) (by rfl) (trC_one _ _ _ _) ?_))
      refine bodyPost_ret (results_cell_tmp_row rfl _ _ (q + 1) 34 _ (0, 0) _ rfl (setRow_heap _ _ _ _ _ _ M.out.res) Tryd.underlying34 rfl (by kernel_rfl)) rfl ?_
      have hk := M.out.q0
      exact ⟨.slice va vl vc, by rw [HRB.out, HE.out]; rfl, by rw [HRP.out, HE.out]; exact HI.out.only (only_setRow14 _ _ _) (fun k hk => by have := (HO.out k hk).1; have := HQ25.out; have := QX.out; omega), below_setRow M.out.below (by omega) _⟩
    · have hxb : (((x : Nat) : Int) != 0) = true := by simpa using hx0
      have hxI : ¬ ((x : Nat) : Int) = 0 := by omega
      simp only [numE] at HC
      go_wp2_with (first
        | (refine wpList_load_row rfl 34 (.tmp 8) rfl g rfl 34 _ (0, 0) _ X.out Tryd.underlying34 rfl (by kernel_rfl) ?_)
        | (go_at_call 37; (with_reducible refine (HC.out _ _ HI.out).mono ?_); rintro e w9 ⟨rfl, hb⟩; replace M := Lib.hid (M.out.call hb); replace HI := Lib.hid (HI.out.below hb); replace X := Lib.hid ((hb.block _ (hlt14 X.out)).trans X.out); clear hb)
        | (refine wpList_buildTo rfl 34 #[] rfl (some 37) rfl (trC (.slice none 0 0) { data := #[] }) (by kernel_rfl) ?_)
        | (refine wpList_store_row rfl 34 (.tmp 6) (.tmp 37) rfl (q + 1) (trC (.slice none 0 0) { data := #[] }) rfl rfl 34 _ M.out.res (by kernel_rfl) (by rfl) (trC_one _ _ _ _) ?_)
        | (refine wpList_store_row rfl 34 (.tmp 6) (.tmp 39) rfl (q + 1) (trC (.slice va vl vc) b) rfl rfl 34 _ M.out.res (by kernel_rfl) (by rfl) (trC_one _ _ _ _) ?_))
      refine bodyPost_ret (results_cell_tmp_row rfl _ _ (q + 1) 34 _ (0, 0) _ rfl (setRow_heap _ _ _ _ _ _ M.out.res) Tryd.underlying34 rfl (by kernel_rfl)) rfl ?_
      exact ⟨.slice none 0 0, by rw [HRB.out, HE.out]; rfl, by rw [HRP.out, HE.out]; exact ss_nil _, below_setRow M.out.below (by have := M.out.q0; omega) _⟩
set_option maxHeartbeats 4000000 in
theorem rfrom_any (t : List ByteArray) (b p c : ByteArray) (pv : Value) (w : World) (hp : SsIn w pv t) (hl : t.length ≤ 8796093022208) (hps : p.size ≤ 9223372036854775807) (hcs : c.size ≤ 9223372036854775807) :
    Calls Tryd.prog 22 #[.agg (trC pv b), .string p, .string c] w (FromP t b p c w) := by
  obtain ⟨pa, pc, rfl, -, -⟩ := id hp
  unfold FromP
  have HPO := Lib.hid (fun w => rport_any p c w hps hcs)
  have HEM := portR_empty p c
  obtain ⟨CM, hCM⟩ : ∃ x, x = cameB t p c := ⟨_, rfl⟩
  have hCM2 := hCM
  rw [← hCM]
  unfold cameB at hCM
  obtain ⟨R, hR⟩ : ∃ r, r = portR p c := ⟨_, rfl⟩
  rw [← hR] at HPO HEM hCM
  have HP := Lib.hid hp
  have HPW := Lib.hid hp.lt
  have HLN := Lib.hid hl
  obtain ⟨n, hn⟩ : ∃ n, n = t.length := ⟨_, rfl⟩
  have HST := Lib.hid (fun w1 h => io_start (T := 34) (w := w) (w1 := w1) (pv := .slice pa n pc) (b := b) h)
  have HCM := Lib.hid hCM2.symm
  rw [← hn] at HP HPW ⊢
  have HN := Lib.hid hn
  clear hp hl hR hCM2 hn hps hcs
  go_enter Tryd.func22, Tryd.ntmps22
  go_upto_region 1 with (fail)
  generalize hA : World.alloc (World.alloc w _) _ = w1
  have M := Lib.hid (HST.out w1 hA)
  clear hA HST
  obtain ⟨q, hq⟩ : ∃ q, q = w.heap.size := ⟨_, rfl⟩
  have hq1 : w.heap.size + 1 = q + 1 := by rw [hq]
  have HNB := Lib.hid (show t ≠ [] → ∀ k, (Value.slice pa n pc).ownBlock = some k → k ≠ q + 1 from fun hne k hk => by have := HPW.out hne k hk; omega)
  rw [← hq] at M ⊢
  clear hq hq1
  go_upto_region 2 with (go_at_call 24; (with_reducible refine (HPO.out _).mono ?_); rintro e w2 ⟨rfl, rfl⟩)
  replace HP := Lib.hid (HP.out.below M.out.below)
  have c0 := M.out.c0
  cases hk : okP p c with
  | false =>
    rw [hk] at HEM hCM
    simp only [Bool.not_false, Bool.false_and] at HEM hCM
    subst hCM
    go_wp2_with (first
      | (refine wpList_load_row rfl 34 (.tmp 3) rfl q rfl 34 _ (0, 0) _ M.out.at_ Tryd.underlying34 rfl (by kernel_rfl) ?_)
      | (refine wpList_store_row rfl 34 (.tmp 6) (.tmp 28) rfl (q + 1) _ rfl rfl 34 _ M.out.res (by kernel_rfl) (by rfl) (trC_one _ _ _ _) ?_))
    refine bodyPost_ret (results_cell_tmp_row rfl _ _ (q + 1) 34 _ (0, 0) _ rfl (setRow_heap _ _ _ _ _ _ M.out.res) Tryd.underlying34 rfl (by kernel_rfl)) rfl ?_
    have hk := M.out.q0
    exact ⟨_, rfl, by unfold fromP; rw [HCM.out]; exact HP.out.onlyE (only_setRow14 _ _ _) HNB.out, below_setRow M.out.below (by omega) _⟩
  | true =>
    rw [hk] at HEM hCM
    simp only [Bool.not_true, Bool.true_and] at HEM hCM
    cases t with
    | nil =>
      simp only at hCM
      subst hCM
      have hn0 : n = 0 := HN.out
      subst hn0
      go_wp2_with (first
        | (refine wpList_load_row rfl 34 (.tmp 3) rfl q rfl 34 _ (0, 0) _ M.out.at_ Tryd.underlying34 rfl (by kernel_rfl) ?_)
        | (refine wpList_store_row rfl 34 (.tmp 6) (.tmp 28) rfl (q + 1) _ rfl rfl 34 _ M.out.res (by kernel_rfl) (by rfl) (trC_one _ _ _ _) ?_))
      refine bodyPost_ret (results_cell_tmp_row rfl _ _ (q + 1) 34 _ (0, 0) _ rfl (setRow_heap _ _ _ _ _ _ M.out.res) Tryd.underlying34 rfl (by kernel_rfl)) rfl ?_
      have hk := M.out.q0
      exact ⟨_, rfl, by unfold fromP; rw [HCM.out]; exact HP.out.onlyE (only_setRow14 _ _ _) HNB.out, below_setRow M.out.below (by omega) _⟩
    | cons x t =>
      simp only at hCM
      have hnI : ¬ (n : Int) = 0 := by rw [HN.out, List.length_cons]; omega
      have hn1 : 1 ≤ n := by rw [HN.out, List.length_cons]; omega
      have hn0I : (0 : Int) < (n : Int) := by omega
      have hn1I : (1 : Int) ≤ (n : Int) := by omega
      obtain ⟨ab, ao, hpa, hx⟩ : ∃ ab ao, pa = some ⟨ab, ao, none⟩ ∧ w2.cell? ⟨ab, ao, none⟩ = some (.string x) := by
        obtain ⟨ab, ao, h1, h2⟩ := HP.out.get (k := 0) (s := x) rfl
        exact ⟨ab, ao, h1, by rwa [Nat.add_zero] at h2⟩
      subst hpa
      have hxr := beq14 x R
      by_cases he : x = R
      · rw [decide_eq_true he] at hxr hCM
        subst hCM
        clear he
        have HS1 := Lib.hid (fun w => sliceS14 (some ⟨ab, ao, none⟩) n pc 1 hn1 w)
        have HNT := Lib.hid (show ∀ k, (Value.slice (cutA (some ⟨ab, ao, none⟩) pc 1) (n - 1) (pc - 1)).ownBlock = some k → k ≠ q + 1 from fun k hk => HNB.out (by simp) k (by rw [← hk]; unfold cutA; split <;> rfl))
        obtain ⟨p1, hp1⟩ : ∃ z, z = cutA (some ⟨ab, ao, none⟩) pc 1 := ⟨_, rfl⟩
        have HTL := Lib.hid HP.out.tail
        rw [← hp1] at HTL HS1 HNT
        have HP1 := Lib.hid (show (if pc = 1 then some (⟨ab, ao, none⟩ : Addr) else some ⟨ab, ao + 1, none⟩) = p1 from by rw [hp1]; rfl)
        clear hp1
        go_upto_region 4 with (fail)
        replace M := Lib.hid (M.out.call (Below.refl _ w2).drew)
        replace HTL := Lib.hid (HTL.out.below (Below.refl _ w2).drew)
        refine wp_region_T (fun W => W.cell? ⟨q, 0, none⟩ = some (.slice (some ⟨ab, ao, none⟩) n pc) ∧ W.cell? ⟨q, 1, none⟩ = some (.string b)) [0, 1, 2, 3, 4, 5, 6, 7] (by kernel_rfl) ?_
        generalize w2.drew = w8 at *
        refine anyT_take [] (i := 0) (v := .pointer (some ⟨q, 0, none⟩)) rfl (by kernel_rfl) (by kernel_rfl) (by kernel_rfl) (fun _ _ _ h => h) (by kernel_rfl) (Or.inl ⟨by rfl, fun w' _ => by go_simp⟩) ⟨M.out.c0, M.out.c1⟩ ?_
        try simp only [List.getElem_toArray, List.getElem_cons_succ, List.getElem_cons_zero, Act.put, List.setIfInBounds_toArray, List.set_cons_zero, List.set_cons_succ]
        refine anyT_take [] (i := 3) (v := .pointer (some ⟨q, 1, none⟩)) rfl (by kernel_rfl) (by kernel_rfl) (by kernel_rfl) (fun _ _ _ h => h) (by kernel_rfl) (Or.inl ⟨by rfl, fun w' _ => by go_simp⟩) ⟨M.out.c0, M.out.c1⟩ ?_
        try simp only [List.getElem_toArray, List.getElem_cons_succ, List.getElem_cons_zero, Act.put, List.setIfInBounds_toArray, List.set_cons_zero, List.set_cons_succ]
        refine anyT_take [] (i := 1) (v := .slice (some ⟨ab, ao, none⟩) n pc) rfl (by kernel_rfl) (by kernel_rfl) (by kernel_rfl) (fun _ _ _ h => h) (by kernel_rfl) (Or.inl ⟨by rfl, fun w' hS => by have c := hS.1; go_simp⟩) ⟨M.out.c0, M.out.c1⟩ ?_
        try simp only [List.getElem_toArray, List.getElem_cons_succ, List.getElem_cons_zero, Act.put, List.setIfInBounds_toArray, List.set_cons_zero, List.set_cons_succ]
        refine anyT_take [] (i := 4) (v := .string b) rfl (by kernel_rfl) (by kernel_rfl) (by kernel_rfl) (fun _ _ _ h => h) (by kernel_rfl) (Or.inl ⟨by rfl, fun w' hS => by have c := hS.2; go_simp⟩) ⟨M.out.c0, M.out.c1⟩ ?_
        try simp only [List.getElem_toArray, List.getElem_cons_succ, List.getElem_cons_zero, Act.put, List.setIfInBounds_toArray, List.set_cons_zero, List.set_cons_succ]
        refine anyT_take [] (i := 2) (v := .slice p1 (n - 1) (pc - 1)) rfl (by kernel_rfl) (by kernel_rfl) (by kernel_rfl) (fun _ _ _ h => h) (by kernel_rfl) (Or.inl ⟨by rfl, fun w' _ => by have c := HS1.out w'; go_simp; try rw [HP1.out]⟩) ⟨M.out.c0, M.out.c1⟩ ?_
        try simp only [List.getElem_toArray, List.getElem_cons_succ, List.getElem_cons_zero, Act.put, List.setIfInBounds_toArray, List.set_cons_zero, List.set_cons_succ]
        refine anyT_take [] (i := 5) (v := .agg #[.slice p1 (n - 1) (pc - 1), .string b]) rfl (by kernel_rfl) (by kernel_rfl) (by kernel_rfl) (fun _ _ _ h => h) (by kernel_rfl) (Or.inl ⟨by rfl, fun w' _ => by go_simp⟩) ⟨M.out.c0, M.out.c1⟩ ?_
        try simp only [List.getElem_toArray, List.getElem_cons_succ, List.getElem_cons_zero, Act.put, List.setIfInBounds_toArray, List.set_cons_zero, List.set_cons_succ]
        refine anyT_one (i := 6) (by kernel_rfl) rfl (fun K hK => ?_)
        rw [if_pos (by rfl)]
        try simp only [List.getElem_toArray, List.getElem_cons_succ, List.getElem_cons_zero]
        (refine wp_store_row 34 (.tmp 6) (.tmp 34) rfl (q + 1) (trC (.slice p1 (n - 1) (pc - 1)) b) rfl rfl 34 _ M.out.res (by kernel_rfl) (by rfl) (trC_one _ _ _ _) ?_; have HC0 := Lib.hid (show (w8.setRow (q + 1) (trC (.slice p1 (n - 1) (pc - 1)) b)).cell? ⟨q, 0, none⟩ = some (.slice (some ⟨ab, ao, none⟩) n pc) ∧ (w8.setRow (q + 1) (trC (.slice p1 (n - 1) (pc - 1)) b)).cell? ⟨q, 1, none⟩ = some (.string b) from ⟨cell_of_row _ _ _ _ _ _ ((setRow_other _ _ _ _ (by omega)).trans M.out.at_), cell_of_row _ _ _ _ _ _ ((setRow_other _ _ _ _ (by omega)).trans M.out.at_)⟩))
        refine hK _ _ (fun _ => HC0.out) ?_
        clear hK K
        try simp only [List.getElem_toArray, List.getElem_cons_succ, List.getElem_cons_zero, Act.put, List.setIfInBounds_toArray, List.set_cons_zero, List.set_cons_succ]
        refine anyT_take [] (i := 7) (v := .bool true) rfl (by kernel_rfl) (by kernel_rfl) (by kernel_rfl) (fun _ _ _ h => h) (by kernel_rfl) (Or.inl ⟨by rfl, fun w' _ => by go_simp⟩) HC0.out ?_
        try simp only [List.getElem_toArray, List.getElem_cons_succ, List.getElem_cons_zero, Act.put, List.setIfInBounds_toArray, List.set_cons_zero, List.set_cons_succ]
        refine anyT_done (by kernel_rfl) ?_ _
        go_wp2_with (fail)
        refine bodyPost_ret (results_cell_tmp_row rfl _ _ (q + 1) 34 _ (0, 0) _ rfl (setRow_heap _ _ _ _ _ _ M.out.res) Tryd.underlying34 rfl (by kernel_rfl)) rfl ?_
        have hk := M.out.q0
        exact ⟨.slice p1 (n - 1) (pc - 1), rfl, by unfold fromP; rw [HCM.out]; exact HTL.out.only (only_setRow14 _ _ _) HNT.out, below_setRow M.out.below (by omega) _⟩
      · rw [decide_eq_false he] at hxr hCM
        subst hCM
        clear he
        go_wp2_with (first
          | (refine wpList_load_row rfl 34 (.tmp 3) rfl q rfl 34 _ (0, 0) _ M.out.at_ Tryd.underlying34 rfl (by kernel_rfl) ?_)
          | (refine wpList_store_row rfl 34 (.tmp 6) (.tmp 28) rfl (q + 1) _ rfl rfl 34 _ M.out.res (by kernel_rfl) (by rfl) (trC_one _ _ _ _) ?_))
        refine bodyPost_ret (results_cell_tmp_row rfl _ _ (q + 1) 34 _ (0, 0) _ rfl (setRow_heap _ _ _ _ _ _ M.out.res) Tryd.underlying34 rfl (by kernel_rfl)) rfl ?_
        have hk := M.out.q0
        exact ⟨_, rfl, by unfold fromP; rw [HCM.out]; exact HP.out.onlyE (only_setRow14 _ _ _) HNB.out, below_setRow M.out.below (by omega) _⟩

end Go.Proofs.YteokgklfljhcaaaDoor
