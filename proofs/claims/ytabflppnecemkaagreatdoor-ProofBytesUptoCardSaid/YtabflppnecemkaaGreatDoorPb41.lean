/- Part 41 of the proof. -/
import Derived.Test.YtabflppnecemkaaGreatDoorPb40
namespace Go.Proofs.YtabflppnecemkaaGreatDoor
set_option linter.unusedVariables false
set_option linter.unusedSimpArgs false
open Go.RowKit
set_option maxRecDepth 100000
set_option linter.unusedSimpArgs false
set_option linter.unusedVariables false
abbrev s8B (n : UInt8) : ByteArray := { data := #[n] }
theorem bl8B (a b : UInt8) : bl (s8B a) (s8B b) = (a < b || (a == b && false)) := by
  unfold bl
  rw [ByteArray.toList_eq, ByteArray.toList_eq]
  rfl
theorem ne8B {a b : UInt8} (h : a ≠ b) : s8B a ≠ s8B b := fun e => h (by injection e with e; simpa using e)
def sP1 : AvT := .leaf (s8B 97) (s8B 49)
def sP2 : AvT := .node (.leaf (s8B 97) (s8B 49)) (.leaf (s8B 99) (s8B 50))
theorem sP2_eq : setO (some sP1) (s8B 99) (s8B 50) = sP2 := by
  show AvT.set _ _ (.leaf _ _) = _
  rw [AvT.set, if_neg (ne8B (by decide)), if_neg (by rw [bl8B]; decide)]
  rfl
theorem sP2_srt : Srt (pairsO (some sP2)) := by
  show List.Pairwise _ [(s8B 97, s8B 49), (s8B 99, s8B 50)]
  refine List.Pairwise.cons (fun q hq => ?_) (List.Pairwise.cons (fun q hq => by cases hq) List.Pairwise.nil)
  rw [List.mem_singleton.1 hq]
  rw [bl8B]; decide
theorem sP2_none : getO (some sP2) (s8B 98) = none := by
  show AvT.get _ (.node _ _) = _
  rw [AvT.get, if_pos (show bl (s8B 98) (AvT.leaf (s8B 99) (s8B 50)).least = true by rw [show (AvT.leaf (s8B 99) (s8B 50)).least = s8B 99 from rfl, bl8B]; decide), AvT.get, if_neg (ne8B (by decide))]
theorem sP2_find : findO (some sP2) (s8B 98) = 1 := by
  show AvT.find _ sP2 = 1
  rw [find_eq _ _ sP2_srt]
  show (List.filter _ [(s8B 97, s8B 49), (s8B 99, s8B 50)]).length = 1
  rw [List.filter_cons, if_pos (by show bl _ _ = true; rw [bl8B]; decide), List.filter_cons, if_neg (by show ¬ bl _ _ = true; rw [bl8B]; decide)]
  rfl
theorem sP2_exist : ∃ s, exP (some sP2) (s8B 97) = some ⟨s8B 97, s8B 49, s⟩ ∧ verF (rootO (some sP2)) (s8B 97) (s8B 49) ⟨s8B 97, s8B 49, s⟩ = none :=
  exist_at (t := some sP2) (i := 0) (p := (s8B 97, s8B 49)) sP2_srt rfl (by decide)
theorem verF_other {R : Nat → Int} {k v v2 : ByteArray} {s : List AvS} (h : v ≠ v2) : verF R k v2 ⟨k, v, s⟩ = some 23 := by
  unfold verF
  rw [if_neg (fun e => h e.2)]
theorem sP2_LR : ∃ p s p' s', noL (some sP2) (s8B 98) = [⟨(p : KV).1, p.2, s⟩] ∧ noR (some sP2) (s8B 98) = [⟨(p' : KV).1, p'.2, s'⟩] := by
  obtain ⟨p, s, _, h, _⟩ := noL_at (t := some sP2) sP2_srt (by decide) sP2_none (by rw [sP2_find]; decide)
  obtain ⟨p', s', h', _⟩ := noR_at (t := some sP2) sP2_srt (by decide) sP2_none (by rw [sP2_find]; decide)
  exact ⟨p, s, p', s', h, h'⟩
theorem sP2_size {p : KV} (h : p ∈ pairsO (some sP2)) : p.1.size + p.2.size ≤ 140737488351232 := by
  have h' : p ∈ [(s8B 97, s8B 49), (s8B 99, s8B 50)] := h
  rcases List.mem_cons.1 h' with rfl | h'
  · decide
  · rw [List.mem_singleton.1 h']; decide
/-- what lies in memory at the end of sure -/
structure SuM (w0 w : World) (g g2 g4 : Nat) (P : PvP) (sv vl vr : Value) (L R : List PvP) : Prop where
  below : Below w0.heap.size w0 w
  tree : TreeAt w g sP2
  prf : w.heap[g2]? = some (.cells (prC P sv) 31 (0, 0))
  abs : w.heap[g4]? = some (.cells #[vl, vr] 40 (0, 0))
  st : StIn w sv P.steps
  l : PrsIn w vl L
  r : PrsIn w vr R
theorem SuM.call {w0 w w' : World} {g g2 g4 : Nat} {P : PvP} {sv vl vr : Value} {L R : List PvP} (m : SuM w0 w g g2 g4 P sv vl vr L R) (h : Below w.heap.size w w') : SuM w0 w' g g2 g4 P sv vl vr L R :=
  ⟨m.below.trans (h.mono m.below.size), m.tree.below h, (h.block _ (bk_lt m.prf)).trans m.prf, (h.block _ (bk_lt m.abs)).trans m.abs, m.st.below h, m.l.below h, m.r.below h⟩
def suS (w : World) (g2 g4 : Nat) (P : PvP) (sv vl vr : Value) : Prop := w.rangeAt g2 0 (prC P sv).toList ∧ w.rangeAt g4 0 (#[vl, vr] : Array Value).toList ∧ w.cell? ⟨g4, 0, none⟩ = some vl ∧ w.cell? ⟨g4, 1, none⟩ = some vr
theorem suS_of {w0 w : World} {g g2 g4 : Nat} {P : PvP} {sv vl vr : Value} {L R : List PvP} (m : SuM w0 w g g2 g4 P sv vl vr L R) : suS w g2 g4 P sv vl vr :=
  ⟨row_range m.prf, row_range m.abs, cell_of_row w _ 0 _ _ _ m.abs, cell_of_row w _ 1 _ _ _ m.abs⟩
set_option maxHeartbeats 8000000 in
theorem pvsure_any (w : World) (he : Env w) (hg : ErrType w) (hg0 : 0 < w.heap.size) : Calls Tryz.prog 17 #[] w fun e w' => e = .returned (.bool true) ∧ Below w.heap.size w w' := by
  have H1 := Lib.hid (set_nil (s8B 97) (s8B 49) w he (by decide))
  have H2 := Lib.hid (fun w g (he : Env w) (h : TreeAt w g sP1) => set_any (.pointer (some ⟨g, 0, none⟩)) (some sP1) (s8B 99) (s8B 50) w he h.toO (by decide) (by decide))
  rw [show AvT.leaf (s8B 97) (s8B 49) = sP1 from rfl] at H1
  rw [sP2_eq] at H2
  obtain ⟨s, hx, hv⟩ := sP2_exist
  obtain ⟨p1, t1, p2, t2, hL, hR⟩ := sP2_LR
  have hV2 : verF (rootO (some sP2)) (s8B 97) (s8B 50) ⟨s8B 97, s8B 49, s⟩ = some 23 := verF_other (ne8B (by decide))
  have hz : (⟨s8B 97, s8B 49, s⟩ : PvP).key.size + (⟨s8B 97, s8B 49, s⟩ : PvP).val.size ≤ 140737488351232 := by show (s8B 97).size + (s8B 49).size ≤ _; decide
  have hVN := absent_ok (t := some sP2) sP2_srt (by decide) sP2_none
  have hzl : ∀ p ∈ noL (some sP2) (s8B 98), p.key.size + p.val.size ≤ 140737488351232 := fun p hp => sP2_size (noL_mem hp)
  have hzr : ∀ p ∈ noR (some sP2) (s8B 98), p.key.size + p.val.size ≤ 140737488351232 := fun p hp => sP2_size (noR_mem hp)
  obtain ⟨P, hP⟩ : ∃ P : PvP, P = ⟨s8B 97, s8B 49, s⟩ := ⟨_, rfl⟩
  rw [← hP] at hx hv hV2 hz
  have HX := Lib.hid (fun w g (h : TreeAt w g sP2) => exist_ok (.pointer (some ⟨g, 0, none⟩)) (some sP2) (s8B 97) P hx (by decide) w h.toO)
  have HN := Lib.hid (fun w g (h : TreeAt w g sP2) => none_out (.pointer (some ⟨g, 0, none⟩)) (some sP2) (s8B 98) sP2_none (by decide) (by rw [sP2_find]; decide) w h.toO)
  have HRT := Lib.hid (fun w g he (h : TreeAt w g sP2) => root_any (.pointer (some ⟨g, 0, none⟩)) (some sP2) w he h.toO)
  obtain ⟨R, hRR⟩ : ∃ R, R = rootO (some sP2) := ⟨_, rfl⟩
  rw [← hRR] at hv hV2 hVN HRT
  obtain ⟨L, hLL⟩ : ∃ L, L = noL (some sP2) (s8B 98) := ⟨_, rfl⟩
  obtain ⟨Q, hQQ⟩ : ∃ Q, Q = noR (some sP2) (s8B 98) := ⟨_, rfl⟩
  rw [← hLL] at hVN HN hL hzl
  rw [← hQQ] at hVN HN hR hzr
  have hl1 : L.length = 1 := by rw [hL]; rfl
  have hr1 : Q.length = 1 := by rw [hR]; rfl
  have HV1 := Lib.hid (fun v w he hst => verify_ok R (s8B 97) (s8B 49) P none hv hz v w he hst)
  have HV2 := Lib.hid (fun v w he hst => verify_ok R (s8B 97) (s8B 50) P (some 23) hV2 hz v w he hst)
  have HVN := Lib.hid (fun vl vr w he hl hr => verNone_ok R (s8B 98) L Q none hVN hzl hzr vl vr w he hl hr)
  unfold ExOk at HX
  unfold NoOut at HN
  unfold VeOk at HV1 HV2 HVN
  rw [hl1, hr1] at HN
  simp only [errV] at HV1 HV2 HVN
  have HE := Lib.hid he
  have HG := Lib.hid hg
  have HNU := Lib.hid (fun w h => num8_any (some 23) w h)
  simp only [errV, numE] at HNU
  clear he hg hx hv hV2 hz hVN hzl hzr hP hRR hLL hQQ hL hR hl1 hr1
  go_enter Tryz.func17, Tryz.ntmps17
  go_upto_region 3 with (first
    | (go_at_call 47; (with_reducible refine H1.out.mono ?_); rintro e w1 ⟨g1, rfl, ht, hb⟩; have HT := Lib.hid ht; have HB := Lib.hid hb; clear ht hb)
    | (go_at_call 47; (with_reducible refine (H2.out _ g1 (HE.out.below HB.out HE.out.lt) HT.out).mono ?_); rintro e w2 ⟨g, rfl, ht, hb⟩; replace HT := Lib.hid ht; replace HB := Lib.hid (HB.out.trans (hb.mono HB.out.size)); clear ht hb))
  go_upto_region 4 with (first
    | (go_at_call 48; (with_reducible refine (HX.out _ g HT.out).mono ?_); rintro e w3 ⟨sa, sc, rfl, hst, hb⟩; have HST := Lib.hid hst; replace HT := Lib.hid (HT.out.below hb); replace HB := Lib.hid (HB.out.trans (hb.mono HB.out.size)); clear hst hb)
    | (refine wpList_store_row rfl 31 (.tmp 2) (.tmp 12) rfl w3.heap.size (prC P (.slice sa P.steps.length sc)) rfl rfl 31 _ (heap_alloc_new _ _) (by kernel_rfl) rfl (prC_one _ _ _ _) ?_; rw [World.setRow_alloc_new]))
  have H2P := Lib.hid (heap_alloc_new w3 (.cells (prC P (.slice sa P.steps.length sc)) 31))
  have hb2 := below_alloc w3 (.cells (prC P (.slice sa P.steps.length sc)) 31)
  replace HST := Lib.hid (HST.out.below hb2)
  replace HT := Lib.hid (HT.out.below hb2)
  replace HB := Lib.hid (HB.out.trans (hb2.mono HB.out.size))
  obtain ⟨g2, hg2⟩ : ∃ g, g = w3.heap.size := ⟨_, rfl⟩
  rw [← hg2] at H2P ⊢
  clear hg2 hb2
  generalize w3.alloc (.cells (prC P (.slice sa P.steps.length sc)) 31) = w4 at *
  go_upto_region 5 with (first
    | (go_at_call 49; (with_reducible refine (HN.out _ g HT.out).mono ?_); rintro e w5 ⟨a1, c1, a2, c2, rfl, hl, hr, hb⟩; have HL := Lib.hid hl; have HQ := Lib.hid hr; replace HST := Lib.hid (HST.out.below hb); replace H2P := Lib.hid ((hb.block _ (bk_lt H2P.out)).trans H2P.out); replace HT := Lib.hid (HT.out.below hb); replace HB := Lib.hid (HB.out.trans (hb.mono HB.out.size)); clear hl hr hb)
    | (refine wpList_store_row rfl 40 (.tmp 4) (.tmp 17) rfl w5.heap.size #[.slice a1 1 c1, .slice a2 1 c2] rfl rfl 40 _ (heap_alloc_new _ _) (by kernel_rfl) rfl (by simp [Value.oneCell']) ?_; rw [World.setRow_alloc_new]))
  have hb2 := below_alloc w5 (.cells #[.slice a1 1 c1, .slice a2 1 c2] 40)
  have M := Lib.hid (show SuM w (w5.alloc (.cells #[.slice a1 1 c1, .slice a2 1 c2] 40)) g g2 w5.heap.size P (.slice sa P.steps.length sc) (.slice a1 1 c1) (.slice a2 1 c2) L Q from ⟨HB.out.trans (hb2.mono HB.out.size), HT.out.below hb2, (hb2.block _ (bk_lt H2P.out)).trans H2P.out, heap_alloc_new _ _, HST.out.below hb2, HL.out.below hb2, HQ.out.below hb2⟩)
  obtain ⟨g4, hg4⟩ : ∃ g, g = w5.heap.size := ⟨_, rfl⟩
  rw [← hg4] at M ⊢
  clear hg4 hb2 HL HQ HST H2P HT HB
  generalize w5.alloc (.cells #[.slice a1 1 c1, .slice a2 1 c2] 40) = w6 at *
  refine wp_region_T (fun w' => suS w' g2 g4 P (.slice sa P.steps.length sc) (.slice a1 1 c1) (.slice a2 1 c2)) [8, 9, 10, 15, 16, 17, 18, 23, 24, 25, 30, 36] (by kernel_rfl) ?_
  replace M := Lib.hid (M.out.call (Below.refl _ _).drew)
  generalize w6.drew = w7 at *
  refine anyT_takeY (i := 0) (v := .nilIface) rfl (by kernel_rfl) (by kernel_rfl) (by kernel_rfl) (fun _ _ _ h => h) (by kernel_rfl) (Or.inl ⟨by rfl, by intro w; go_simp⟩) ?_
  try simp only [List.getElem_toArray, List.getElem_cons_succ, List.getElem_cons_zero, Act.put, List.setIfInBounds_toArray, List.set_cons_zero, List.set_cons_succ]
  refine anyT_takeY (i := 1) (v := .bool true) rfl (by kernel_rfl) (by kernel_rfl) (by kernel_rfl) (fun _ _ _ h => h) (by kernel_rfl) (Or.inl ⟨by rfl, by intro w; go_simp⟩) ?_
  try simp only [List.getElem_toArray, List.getElem_cons_succ, List.getElem_cons_zero, Act.put, List.setIfInBounds_toArray, List.set_cons_zero, List.set_cons_succ]
  refine anyT_takeY (i := 2) (v := .bool true) rfl (by kernel_rfl) (by kernel_rfl) (by kernel_rfl) (fun _ _ _ h => h) (by kernel_rfl) (Or.inl ⟨by rfl, by intro w; go_simp⟩) ?_
  try simp only [List.getElem_toArray, List.getElem_cons_succ, List.getElem_cons_zero, Act.put, List.setIfInBounds_toArray, List.set_cons_zero, List.set_cons_succ]
  refine anyT_takeY (i := 3) (v := .nilIface) rfl (by kernel_rfl) (by kernel_rfl) (by kernel_rfl) (fun _ _ _ h => h) (by kernel_rfl) (Or.inl ⟨by rfl, by intro w; go_simp⟩) ?_
  try simp only [List.getElem_toArray, List.getElem_cons_succ, List.getElem_cons_zero, Act.put, List.setIfInBounds_toArray, List.set_cons_zero, List.set_cons_succ]
  refine anyT_takeY (i := 4) (v := .bool true) rfl (by kernel_rfl) (by kernel_rfl) (by kernel_rfl) (fun _ _ _ h => h) (by kernel_rfl) (Or.inl ⟨by rfl, by intro w; go_simp⟩) ?_
  try simp only [List.getElem_toArray, List.getElem_cons_succ, List.getElem_cons_zero, Act.put, List.setIfInBounds_toArray, List.set_cons_zero, List.set_cons_succ]
  refine anyT_takeY (i := 5) (v := .bool true) rfl (by kernel_rfl) (by kernel_rfl) (by kernel_rfl) (fun _ _ _ h => h) (by kernel_rfl) (Or.inl ⟨by rfl, by intro w; go_simp⟩) ?_
  try simp only [List.getElem_toArray, List.getElem_cons_succ, List.getElem_cons_zero, Act.put, List.setIfInBounds_toArray, List.set_cons_zero, List.set_cons_succ]
  refine anyT_takeY (i := 6) (v := .bool true) rfl (by kernel_rfl) (by kernel_rfl) (by kernel_rfl) (fun _ _ _ h => h) (by kernel_rfl) (Or.inl ⟨by rfl, by intro w; go_simp⟩) ?_
  try simp only [List.getElem_toArray, List.getElem_cons_succ, List.getElem_cons_zero, Act.put, List.setIfInBounds_toArray, List.set_cons_zero, List.set_cons_succ]
  refine anyT_takeY (i := 7) (v := .pointer (some ⟨g, 0, none⟩)) rfl (by kernel_rfl) (by kernel_rfl) (by kernel_rfl) (fun _ _ _ h => h) (by kernel_rfl) (Or.inl ⟨by rfl, by intro w; go_simp⟩) ?_
  try simp only [List.getElem_toArray, List.getElem_cons_succ, List.getElem_cons_zero, Act.put, List.setIfInBounds_toArray, List.set_cons_zero, List.set_cons_succ]
  refine anyT_take [10, 11, 12, 13, 14, 15, 16, 17, 18, 19, 20, 21, 22, 23, 24, 25, 26, 27, 28, 29, 30, 31, 32, 33, 34, 35, 36, 37, 38, 39, 40] (i := 9) (v := .agg (prC P (.slice sa P.steps.length sc))) rfl (by kernel_rfl) (by kernel_rfl) (by kernel_rfl) (fun _ _ _ h => h) (by kernel_rfl) (row_yields' (by rfl) 31 (.tmp 2) rfl g2 0 rfl _ _ (fun _ h => h.1) Tryz.underlying31 rfl (by kernel_rfl)) (suS_of M.out) ?_
  try simp only [List.getElem_toArray, List.getElem_cons_succ, List.getElem_cons_zero, Act.put, List.setIfInBounds_toArray, List.set_cons_zero, List.set_cons_succ]
  refine anyT_one (i := 8) (by kernel_rfl) rfl (fun K hK => ?_)
  rw [if_pos (by rfl)]
  try simp only [List.getElem_toArray, List.getElem_cons_succ, List.getElem_cons_zero]
  (go_simp; refine (HRT.out _ g (HE.out.below M.out.below HE.out.lt) M.out.tree).mono ?_; rintro e w8 ⟨rfl, hb⟩; replace M := Lib.hid (M.out.call hb); clear hb)
  refine hK _ _ (fun _ => suS_of M.out) ?_
  clear hK K
  try simp only [List.getElem_toArray, List.getElem_cons_succ, List.getElem_cons_zero, Act.put, List.setIfInBounds_toArray, List.set_cons_zero, List.set_cons_succ]
  refine anyT_one (i := 10) (by kernel_rfl) rfl (fun K hK => ?_)
  rw [if_pos (by rfl)]
  try simp only [List.getElem_toArray, List.getElem_cons_succ, List.getElem_cons_zero]
  (go_simp; refine (HV1.out _ _ (HE.out.below M.out.below HE.out.lt) M.out.st).mono ?_; rintro e w9 ⟨rfl, hb⟩; replace M := Lib.hid (M.out.call hb); clear hb)
  refine hK _ _ (fun _ => suS_of M.out) ?_
  clear hK K
  try simp only [List.getElem_toArray, List.getElem_cons_succ, List.getElem_cons_zero, Act.put, List.setIfInBounds_toArray, List.set_cons_zero, List.set_cons_succ]
  refine anyT_takeY (i := 11) (v := .bool true) rfl (by kernel_rfl) (by kernel_rfl) (by kernel_rfl) (fun _ _ _ h => h) (by kernel_rfl) (Or.inl ⟨by rfl, by intro w; go_simp⟩) ?_
  try simp only [List.getElem_toArray, List.getElem_cons_succ, List.getElem_cons_zero, Act.put, List.setIfInBounds_toArray, List.set_cons_zero, List.set_cons_succ]
  refine anyT_takeY (i := 12) (v := .bool true) rfl (by kernel_rfl) (by kernel_rfl) (by kernel_rfl) (fun _ _ _ h => h) (by kernel_rfl) (Or.inl ⟨by rfl, by intro w; go_simp⟩) ?_
  try simp only [List.getElem_toArray, List.getElem_cons_succ, List.getElem_cons_zero, Act.put, List.setIfInBounds_toArray, List.set_cons_zero, List.set_cons_succ]
  refine anyT_takeY (i := 13) (v := .bool true) rfl (by kernel_rfl) (by kernel_rfl) (by kernel_rfl) (fun _ _ _ h => h) (by kernel_rfl) (Or.inl ⟨by rfl, by intro w; go_simp⟩) ?_
  try simp only [List.getElem_toArray, List.getElem_cons_succ, List.getElem_cons_zero, Act.put, List.setIfInBounds_toArray, List.set_cons_zero, List.set_cons_succ]
  refine anyT_takeY (i := 14) (v := .pointer (some ⟨g, 0, none⟩)) rfl (by kernel_rfl) (by kernel_rfl) (by kernel_rfl) (fun _ _ _ h => h) (by kernel_rfl) (Or.inl ⟨by rfl, by intro w; go_simp⟩) ?_
  try simp only [List.getElem_toArray, List.getElem_cons_succ, List.getElem_cons_zero, Act.put, List.setIfInBounds_toArray, List.set_cons_zero, List.set_cons_succ]
  refine anyT_take [17, 18, 19, 20, 21, 22, 23, 24, 25, 26, 27, 28, 29, 30, 31, 32, 33, 34, 35, 36, 37, 38, 39, 40] (i := 16) (v := .agg (prC P (.slice sa P.steps.length sc))) rfl (by kernel_rfl) (by kernel_rfl) (by kernel_rfl) (fun _ _ _ h => h) (by kernel_rfl) (row_yields' (by rfl) 31 (.tmp 2) rfl g2 0 rfl _ _ (fun _ h => h.1) Tryz.underlying31 rfl (by kernel_rfl)) (suS_of M.out) ?_
  try simp only [List.getElem_toArray, List.getElem_cons_succ, List.getElem_cons_zero, Act.put, List.setIfInBounds_toArray, List.set_cons_zero, List.set_cons_succ]
  refine anyT_one (i := 15) (by kernel_rfl) rfl (fun K hK => ?_)
  rw [if_pos (by rfl)]
  try simp only [List.getElem_toArray, List.getElem_cons_succ, List.getElem_cons_zero]
  (go_simp; refine (HRT.out _ g (HE.out.below M.out.below HE.out.lt) M.out.tree).mono ?_; rintro e w10 ⟨rfl, hb⟩; replace M := Lib.hid (M.out.call hb); clear hb)
  refine hK _ _ (fun _ => suS_of M.out) ?_
  clear hK K
  try simp only [List.getElem_toArray, List.getElem_cons_succ, List.getElem_cons_zero, Act.put, List.setIfInBounds_toArray, List.set_cons_zero, List.set_cons_succ]
  refine anyT_one (i := 17) (by kernel_rfl) rfl (fun K hK => ?_)
  rw [if_pos (by rfl)]
  try simp only [List.getElem_toArray, List.getElem_cons_succ, List.getElem_cons_zero]
  (go_simp; refine (HV2.out _ _ (HE.out.below M.out.below HE.out.lt) M.out.st).mono ?_; rintro e w11 ⟨rfl, hb⟩; replace M := Lib.hid (M.out.call hb); clear hb)
  refine hK _ _ (fun _ => suS_of M.out) ?_
  clear hK K
  try simp only [List.getElem_toArray, List.getElem_cons_succ, List.getElem_cons_zero, Act.put, List.setIfInBounds_toArray, List.set_cons_zero, List.set_cons_succ]
  refine anyT_one (i := 18) (by kernel_rfl) rfl (fun K hK => ?_)
  rw [if_pos (by rfl)]
  try simp only [List.getElem_toArray, List.getElem_cons_succ, List.getElem_cons_zero]
  (go_simp; refine (HNU.out _ (HG.out.below M.out.below)).mono ?_; rintro e w12 ⟨rfl, hb⟩; replace M := Lib.hid (M.out.call hb); clear hb)
  refine hK _ _ (fun _ => suS_of M.out) ?_
  clear hK K
  try simp only [List.getElem_toArray, List.getElem_cons_succ, List.getElem_cons_zero, Act.put, List.setIfInBounds_toArray, List.set_cons_zero, List.set_cons_succ]
  refine anyT_takeY (i := 19) (v := .bool true) rfl (by kernel_rfl) (by kernel_rfl) (by kernel_rfl) (fun _ _ _ h => h) (by kernel_rfl) (Or.inl ⟨by rfl, by intro w; go_simp⟩) ?_
  try simp only [List.getElem_toArray, List.getElem_cons_succ, List.getElem_cons_zero, Act.put, List.setIfInBounds_toArray, List.set_cons_zero, List.set_cons_succ]
  refine anyT_takeY (i := 20) (v := .bool true) rfl (by kernel_rfl) (by kernel_rfl) (by kernel_rfl) (fun _ _ _ h => h) (by kernel_rfl) (Or.inl ⟨by rfl, by intro w; go_simp⟩) ?_
  try simp only [List.getElem_toArray, List.getElem_cons_succ, List.getElem_cons_zero, Act.put, List.setIfInBounds_toArray, List.set_cons_zero, List.set_cons_succ]
  refine anyT_takeY (i := 21) (v := .bool true) rfl (by kernel_rfl) (by kernel_rfl) (by kernel_rfl) (fun _ _ _ h => h) (by kernel_rfl) (Or.inl ⟨by rfl, by intro w; go_simp⟩) ?_
  try simp only [List.getElem_toArray, List.getElem_cons_succ, List.getElem_cons_zero, Act.put, List.setIfInBounds_toArray, List.set_cons_zero, List.set_cons_succ]
  refine anyT_takeY (i := 22) (v := .pointer (some ⟨g, 0, none⟩)) rfl (by kernel_rfl) (by kernel_rfl) (by kernel_rfl) (fun _ _ _ h => h) (by kernel_rfl) (Or.inl ⟨by rfl, by intro w; go_simp⟩) ?_
  try simp only [List.getElem_toArray, List.getElem_cons_succ, List.getElem_cons_zero, Act.put, List.setIfInBounds_toArray, List.set_cons_zero, List.set_cons_succ]
  refine anyT_take [25, 26, 27, 28, 29, 30, 31, 32, 33, 34, 35, 36, 37, 38, 39, 40] (i := 24) (v := .agg #[.slice a1 1 c1, .slice a2 1 c2]) rfl (by kernel_rfl) (by kernel_rfl) (by kernel_rfl) (fun _ _ _ h => h) (by kernel_rfl) (row_yields' (by rfl) 40 (.tmp 4) rfl g4 0 rfl _ _ (fun _ h => h.2.1) Tryz.underlying40 rfl (by kernel_rfl)) (suS_of M.out) ?_
  try simp only [List.getElem_toArray, List.getElem_cons_succ, List.getElem_cons_zero, Act.put, List.setIfInBounds_toArray, List.set_cons_zero, List.set_cons_succ]
  refine anyT_one (i := 23) (by kernel_rfl) rfl (fun K hK => ?_)
  rw [if_pos (by rfl)]
  try simp only [List.getElem_toArray, List.getElem_cons_succ, List.getElem_cons_zero]
  (go_simp; refine (HRT.out _ g (HE.out.below M.out.below HE.out.lt) M.out.tree).mono ?_; rintro e w13 ⟨rfl, hb⟩; replace M := Lib.hid (M.out.call hb); clear hb)
  refine hK _ _ (fun _ => suS_of M.out) ?_
  clear hK K
  try simp only [List.getElem_toArray, List.getElem_cons_succ, List.getElem_cons_zero, Act.put, List.setIfInBounds_toArray, List.set_cons_zero, List.set_cons_succ]
  refine anyT_one (i := 25) (by kernel_rfl) rfl (fun K hK => ?_)
  rw [if_pos (by rfl)]
  try simp only [List.getElem_toArray, List.getElem_cons_succ, List.getElem_cons_zero]
  (go_simp; refine (HVN.out _ _ _ (HE.out.below M.out.below HE.out.lt) M.out.l M.out.r).mono ?_; rintro e w14 ⟨rfl, hb⟩; replace M := Lib.hid (M.out.call hb); clear hb)
  refine hK _ _ (fun _ => suS_of M.out) ?_
  clear hK K
  try simp only [List.getElem_toArray, List.getElem_cons_succ, List.getElem_cons_zero, Act.put, List.setIfInBounds_toArray, List.set_cons_zero, List.set_cons_succ]
  refine anyT_takeY (i := 26) (v := .bool true) rfl (by kernel_rfl) (by kernel_rfl) (by kernel_rfl) (fun _ _ _ h => h) (by kernel_rfl) (Or.inl ⟨by rfl, by intro w; go_simp⟩) ?_
  try simp only [List.getElem_toArray, List.getElem_cons_succ, List.getElem_cons_zero, Act.put, List.setIfInBounds_toArray, List.set_cons_zero, List.set_cons_succ]
  refine anyT_takeY (i := 27) (v := .bool true) rfl (by kernel_rfl) (by kernel_rfl) (by kernel_rfl) (fun _ _ _ h => h) (by kernel_rfl) (Or.inl ⟨by rfl, by intro w; go_simp⟩) ?_
  try simp only [List.getElem_toArray, List.getElem_cons_succ, List.getElem_cons_zero, Act.put, List.setIfInBounds_toArray, List.set_cons_zero, List.set_cons_succ]
  refine anyT_takeY (i := 28) (v := .bool true) rfl (by kernel_rfl) (by kernel_rfl) (by kernel_rfl) (fun _ _ _ h => h) (by kernel_rfl) (Or.inl ⟨by rfl, by intro w; go_simp⟩) ?_
  try simp only [List.getElem_toArray, List.getElem_cons_succ, List.getElem_cons_zero, Act.put, List.setIfInBounds_toArray, List.set_cons_zero, List.set_cons_succ]
  refine anyT_takeY (i := 29) (v := .pointer (some ⟨g4, 0, none⟩)) rfl (by kernel_rfl) (by kernel_rfl) (by kernel_rfl) (fun _ _ _ h => h) (by kernel_rfl) (Or.inl ⟨by rfl, by intro w; go_simp⟩) ?_
  try simp only [List.getElem_toArray, List.getElem_cons_succ, List.getElem_cons_zero, Act.put, List.setIfInBounds_toArray, List.set_cons_zero, List.set_cons_succ]
  refine anyT_take [31, 32, 33, 34, 35, 36, 37, 38, 39, 40] (i := 30) (v := .slice a1 1 c1) rfl (by kernel_rfl) (by kernel_rfl) (by kernel_rfl) (fun _ _ _ h => h) (by kernel_rfl) (Or.inl ⟨by rfl, fun w' hS => by have c := hS.2.2.1; go_simp⟩) (suS_of M.out) ?_
  try simp only [List.getElem_toArray, List.getElem_cons_succ, List.getElem_cons_zero, Act.put, List.setIfInBounds_toArray, List.set_cons_zero, List.set_cons_succ]
  refine anyT_takeY (i := 31) (v := .int .i64 1) rfl (by kernel_rfl) (by kernel_rfl) (by kernel_rfl) (fun _ _ _ h => h) (by kernel_rfl) (Or.inl ⟨by rfl, by intro w; go_simp⟩) ?_
  try simp only [List.getElem_toArray, List.getElem_cons_succ, List.getElem_cons_zero, Act.put, List.setIfInBounds_toArray, List.set_cons_zero, List.set_cons_succ]
  refine anyT_takeY (i := 32) (v := .bool true) rfl (by kernel_rfl) (by kernel_rfl) (by kernel_rfl) (fun _ _ _ h => h) (by kernel_rfl) (Or.inl ⟨by rfl, by intro w; go_simp⟩) ?_
  try simp only [List.getElem_toArray, List.getElem_cons_succ, List.getElem_cons_zero, Act.put, List.setIfInBounds_toArray, List.set_cons_zero, List.set_cons_succ]
  refine anyT_takeY (i := 33) (v := .bool true) rfl (by kernel_rfl) (by kernel_rfl) (by kernel_rfl) (fun _ _ _ h => h) (by kernel_rfl) (Or.inl ⟨by rfl, by intro w; go_simp⟩) ?_
  try simp only [List.getElem_toArray, List.getElem_cons_succ, List.getElem_cons_zero, Act.put, List.setIfInBounds_toArray, List.set_cons_zero, List.set_cons_succ]
  refine anyT_takeY (i := 34) (v := .bool true) rfl (by kernel_rfl) (by kernel_rfl) (by kernel_rfl) (fun _ _ _ h => h) (by kernel_rfl) (Or.inl ⟨by rfl, by intro w; go_simp⟩) ?_
  try simp only [List.getElem_toArray, List.getElem_cons_succ, List.getElem_cons_zero, Act.put, List.setIfInBounds_toArray, List.set_cons_zero, List.set_cons_succ]
  refine anyT_takeY (i := 35) (v := .pointer (some ⟨g4, 1, none⟩)) rfl (by kernel_rfl) (by kernel_rfl) (by kernel_rfl) (fun _ _ _ h => h) (by kernel_rfl) (Or.inl ⟨by rfl, by intro w; go_simp⟩) ?_
  try simp only [List.getElem_toArray, List.getElem_cons_succ, List.getElem_cons_zero, Act.put, List.setIfInBounds_toArray, List.set_cons_zero, List.set_cons_succ]
  refine anyT_take [37, 38, 39, 40] (i := 36) (v := .slice a2 1 c2) rfl (by kernel_rfl) (by kernel_rfl) (by kernel_rfl) (fun _ _ _ h => h) (by kernel_rfl) (Or.inl ⟨by rfl, fun w' hS => by have c := hS.2.2.2; go_simp⟩) (suS_of M.out) ?_
  try simp only [List.getElem_toArray, List.getElem_cons_succ, List.getElem_cons_zero, Act.put, List.setIfInBounds_toArray, List.set_cons_zero, List.set_cons_succ]
  refine anyT_takeY (i := 37) (v := .int .i64 1) rfl (by kernel_rfl) (by kernel_rfl) (by kernel_rfl) (fun _ _ _ h => h) (by kernel_rfl) (Or.inl ⟨by rfl, by intro w; go_simp⟩) ?_
  try simp only [List.getElem_toArray, List.getElem_cons_succ, List.getElem_cons_zero, Act.put, List.setIfInBounds_toArray, List.set_cons_zero, List.set_cons_succ]
  refine anyT_takeY (i := 38) (v := .bool true) rfl (by kernel_rfl) (by kernel_rfl) (by kernel_rfl) (fun _ _ _ h => h) (by kernel_rfl) (Or.inl ⟨by rfl, by intro w; go_simp⟩) ?_
  try simp only [List.getElem_toArray, List.getElem_cons_succ, List.getElem_cons_zero, Act.put, List.setIfInBounds_toArray, List.set_cons_zero, List.set_cons_succ]
  refine anyT_takeY (i := 39) (v := .bool true) rfl (by kernel_rfl) (by kernel_rfl) (by kernel_rfl) (fun _ _ _ h => h) (by kernel_rfl) (Or.inl ⟨by rfl, by intro w; go_simp⟩) ?_
  try simp only [List.getElem_toArray, List.getElem_cons_succ, List.getElem_cons_zero, Act.put, List.setIfInBounds_toArray, List.set_cons_zero, List.set_cons_succ]
  refine anyT_takeY (i := 40) (v := .bool true) rfl (by kernel_rfl) (by kernel_rfl) (by kernel_rfl) (fun _ _ _ h => h) (by kernel_rfl) (Or.inl ⟨by rfl, by intro w; go_simp⟩) ?_
  try simp only [List.getElem_toArray, List.getElem_cons_succ, List.getElem_cons_zero, Act.put, List.setIfInBounds_toArray, List.set_cons_zero, List.set_cons_succ]
  refine anyT_done (by kernel_rfl) ?_ _
  go_wp2_with (fail)
  go_ret
  exact ⟨rfl, M.out.below⟩
end Go.Proofs.YtabflppnecemkaaGreatDoor
