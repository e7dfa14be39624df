/- Part 20 of the proof. -/
import Derived.Test.YtabflppnecemkaaGreatDoorPb19
namespace Go.Proofs.YtabflppnecemkaaGreatDoor
set_option linter.unusedVariables false
set_option linter.unusedSimpArgs false
open Go.RowKit
set_option maxRecDepth 100000
set_option linter.unusedSimpArgs false
set_option linter.unusedVariables false
theorem infoPrz : (Tryz.prog.info? 31).map (fun i => (i.zero, i.size, i.bytes)) = some (some zPr, 3, 56) := by kernel_rfl
/-- a slice of proofs of one's own -/
def OwnP (w : World) (B : Nat) (v : Value) (ps : List PvP) : Prop := ∃ l : List PV, l.map (·.1) = ps ∧ w.ownsRow B 31 3 v l.length (flatPr l) ∧ ∀ t ∈ l, ∃ b, w.ownsRow b 65 34 t.2 t.1.steps.length (flatSt t.1.steps)
theorem OwnP.nil (w : World) (B : Nat) : OwnP w B (.slice none 0 0) [] := ⟨[], rfl, World.ownsRow_nil _ _ _ _, fun _ h => by cases h⟩
theorem OwnP.stay {w w' : World} {B : Nat} {v : Value} {ps : List PvP} (h : OwnP w B v ps) (hw : ∀ (k : Nat) (cs : Array Value) (ty : TypeId), w.heap[k]? = some (.cells cs ty (0, 0)) → (ty = 31 ∨ ty = 65) → w'.heap[k]? = w.heap[k]?) : OwnP w' B v ps := by
  obtain ⟨l, h1, h2, h3⟩ := h
  refine ⟨l, h1, own_stay h2 fun k hk => ?_, fun t ht => ?_⟩
  · obtain ⟨cs, hc⟩ := own_type h2 hk; exact hw k cs _ hc (.inl rfl)
  · obtain ⟨b, hb⟩ := h3 t ht
    exact ⟨b, own_stay hb fun k hk => by obtain ⟨cs, hc⟩ := own_type hb hk; exact hw k cs _ hc (.inr rfl)⟩
theorem OwnP.below {w w' : World} {B : Nat} {v : Value} {ps : List PvP} (h : OwnP w B v ps) (hb : Below w.heap.size w w') : OwnP w' B v ps :=
  h.stay fun k cs ty hk _ => hb.block k (Array.getElem?_eq_some_iff.1 hk).1
theorem OwnP.gb {w w' : World} {B g : Nat} {v : Value} {ps : List PvP} {cs0 : Array Value} (h : OwnP w B v ps) (hg : w.grownBy w' (some g)) (h3 : w.heap[g]? = some (.cells cs0 40 (0, 0))) : OwnP w' B v ps :=
  h.stay fun k cs ty hk hty => hg.block k (Array.getElem?_eq_some_iff.1 hk).1 fun e => by
    injection e with e
    subst e
    rw [h3] at hk
    injection hk with hk
    injection hk with _ hk _
    subst hk
    rcases hty with h | h <;> exact absurd h (by decide)
theorem OwnP.slice {w : World} {B : Nat} {v : Value} {ps : List PvP} (h : OwnP w B v ps) : ∃ a c, v = .slice a ps.length c := by
  obtain ⟨l, h1, h2, _⟩ := h
  obtain ⟨a, c, e⟩ := own_slice h2
  exact ⟨a, c, by rw [e, ← h1, List.length_map]⟩
theorem OwnP.ge {w : World} {B : Nat} {v : Value} {ps : List PvP} (h : OwnP w B v ps) {j : Nat} (hj : v.ownBlock = some j) : B ≤ j := by
  obtain ⟨l, h1, h2, _⟩ := h
  exact own_ge h2 hj
theorem OwnP.prs {w : World} {B : Nat} {v : Value} {ps : List PvP} (h : OwnP w B v ps) : PrsIn w v ps := by
  obtain ⟨l, h1, h2, h3⟩ := h
  rw [← h1]
  exact prs_of_own h2 fun t ht => by obtain ⟨b, hb⟩ := h3 t ht; exact StIn.of_own hb
/-- one proof more -/
theorem wp_append_own {w : World} {o : Oper} {a : Act} {K : Act → World → Prop} {Q : Exit → Act → World → Prop} (s y : Operand)
    (ho : o.op = .call { callee := .builtin .append, args := #[s, y], argTypes := #[38, 38] }) (hty : o.type = 38)
    (B : Nat) (v : Value) (ps : List PvP) (hs : a.eval s = v) (hown : OwnP w B v ps) (b : Nat) (p : PvP) (sv : Value) (hxs : ∃ a n c, sv = .slice a n c) (hy : a.eval y = .slice (some ⟨b, 0, none⟩) 1 1) (hyb : w.heap[b]? = some (.cells #[.string p.key, .string p.val, sv] 31 (0, 0)))
    (hst : ∃ bs, w.ownsRow bs 65 34 sv p.steps.length (flatSt p.steps)) (hl : (ps.length + 1) * 56 ≤ 140737488355328) (hb : B ≤ w.heap.size)
    (h : ∀ v' w', OwnP w' B v' (ps ++ [p]) → w.grownBy w' v.ownBlock → K (a.put o.dst v') w') : o.wp Tryz.prog a w K Q := by
  obtain ⟨l, h1, h2, h3⟩ := hown
  have hlen : l.length = ps.length := by rw [← h1, List.length_map]
  refine wp_append_pr 38 31 Tryz.underlying38 infoPrz s y ho hty B v l hs h2 b (p, sv) hxs hy hyb (by rw [hlen]; exact hl) hb fun v' w' k1 k2 => h v' w' ⟨l ++ [(p, sv)], by rw [List.map_append, h1]; rfl, k1, fun t ht => ?_⟩ k2
  rcases List.mem_append.1 ht with ht | ht
  · obtain ⟨bs, hbs⟩ := h3 t ht
    exact ⟨bs, own_two hbs h2 (by decide) k2⟩
  · rw [List.mem_singleton.1 ht]
    obtain ⟨bs, hbs⟩ := hst
    exact ⟨bs, own_two hbs h2 (by decide) k2⟩
def gsW (w : World) (vl vr : Value) : World := ((w.alloc (.cells #[vl, vr] 27)).alloc (.cells abZ 40)).alloc (.cells abZ 40)
theorem gsW_at (w : World) (vl vr : Value) : (gsW w vl vr).heap[w.heap.size]? = some (.cells #[vl, vr] 27 (0, 0)) ∧ (gsW w vl vr).heap[w.heap.size + 1]? = some (.cells abZ 40 (0, 0)) ∧ (gsW w vl vr).heap[w.heap.size + 1 + 1]? = some (.cells abZ 40 (0, 0)) ∧ Below w.heap.size w (gsW w vl vr) ∧ (gsW w vl vr).heap.size = w.heap.size + 3 := by
  unfold gsW
  refine ⟨?_, ?_, ?_, (((Below.refl _ w).alloc (Nat.le_refl _) _).alloc (by simp) _).alloc (by simp; omega) _, by simp⟩
  · rw [heap_alloc_old _ _ (by simp; omega), heap_alloc_old _ _ (by simp), heap_alloc_new]
  · rw [heap_alloc_old _ _ (by simp)]
    have := heap_alloc_new (w.alloc (.cells #[vl, vr] 27)) (.cells abZ 40)
    rw [size_alloc] at this; exact this
  · have := heap_alloc_new ((w.alloc (.cells #[vl, vr] 27)).alloc (.cells abZ 40)) (.cells abZ 40)
    rw [size_alloc, size_alloc] at this; exact this
theorem take_snoc8 {α : Type} (S : List α) (k : Nat) (s : α) (h : S[k]? = some s) : S.take (k + 1) = S.take k ++ [s] := by rw [List.take_add_one, h]; rfl
def GsRel0 (ws : World) (g3 : Nat) (L : List PvP) (x : Value) (wr : World) : Prop :=
  ∃ (k : Nat) (v : Value), k ≤ L.length ∧ x = .int .i64 (k : Int) ∧ Hid (ws.grownBy wr (some g3)) ∧ Hid (wr.heap[g3]? = some (.cells #[v, .slice none 0 0] 40 (0, 0))) ∧ Hid (OwnP wr ws.heap.size v (L.take k))
def GsRel1 (ws : World) (g3 : Nat) (u : Value) (R : List PvP) (x : Value) (wr : World) : Prop :=
  ∃ (k : Nat) (v : Value), k ≤ R.length ∧ x = .int .i64 (k : Int) ∧ Hid (ws.grownBy wr (some g3)) ∧ Hid (wr.heap[g3]? = some (.cells #[u, v] 40 (0, 0))) ∧ Hid (OwnP wr ws.heap.size v (R.take k))
def GivesPost (L R : List PvP) (w : World) (e : Ending) (w' : World) : Prop := ∃ a1 c1 a2 c2, e = .returned (.agg #[.slice a1 L.length c1, .slice a2 R.length c2]) ∧ PrsIn w' (.slice a1 L.length c1) L ∧ PrsIn w' (.slice a2 R.length c2) R ∧ Below w.heap.size w w'
set_option maxHeartbeats 8000000 in
theorem gives_any (vl vr : Value) (L R : List PvP) (w : World) (hl : PrsIn w vl L) (hr : PrsIn w vr R) (hzl : ∀ p ∈ L, p.steps.length ≤ 1048576) (hzr : ∀ p ∈ R, p.steps.length ≤ 1048576) (hnl : L.length ≤ 1048576) (hnr : R.length ≤ 1048576) : Calls Tryz.prog 12 #[.agg #[vl, vr]] w (GivesPost L R w) := by
  obtain ⟨la, lc, rfl, _⟩ := hl.len
  obtain ⟨ra, rc, rfl, _⟩ := hr.len
  obtain ⟨x1, x2, x3, x4, x5⟩ := gsW_at w (.slice la L.length lc) (.slice ra R.length rc)
  have HPL := Lib.hid hl
  have HPR := Lib.hid hr
  have HZL := Lib.hid hzl
  have HZR := Lib.hid hzr
  have HB0 := Lib.hid x4
  have HZ := Lib.hid x5
  have H1 := Lib.hid x1
  have H2 := Lib.hid x2
  have H3 := Lib.hid x3
  unfold GivesPost
  have HW := Lib.hid (show ((w.alloc (.cells #[.slice la L.length lc, .slice ra R.length rc] 27)).alloc (.cells #[.slice none 0 0, .slice none 0 0] 40)).alloc (.cells abZ 40) = gsW w (.slice la L.length lc) (.slice ra R.length rc) from rfl)
  have HSZ := Lib.hid (show ((w.alloc (.cells #[.slice la L.length lc, .slice ra R.length rc] 27)).alloc (.cells #[.slice none 0 0, .slice none 0 0] 40)).heap.size = w.heap.size + 1 + 1 from by simp)
  clear hl hr hzl hzr x1 x2 x3 x4 x5
  go_enter Tryz.func12, Tryz.ntmps12
  go_upto_region 1 with (fail)
  generalize (w.alloc (.cells #[.slice la L.length lc, .slice ra R.length rc] 27)).alloc (.cells #[.slice none 0 0, .slice none 0 0] 40) = w1 at *
  go_upto_region 2 with (first
    | (refine wpList_store_row rfl 40 (.tmp 3) (.tmp 6) rfl w1.heap.size abZ rfl rfl 40 _ (heap_alloc_new _ _) (by kernel_rfl) rfl (by simp [abZ, Value.oneCell']) ?_; rw [World.setRow_alloc_new]))
  rw [HW.out, HSZ.out]
  clear HW HSZ
  obtain ⟨ws, hws⟩ : ∃ ws, ws = gsW w (.slice la L.length lc) (.slice ra R.length rc) := ⟨_, rfl⟩
  rw [← hws] at HB0 HZ H1 H2 H3 ⊢
  clear hws
  obtain ⟨g3, hg3⟩ : ∃ g, g = w.heap.size + 1 + 1 := ⟨_, rfl⟩
  have HG3 := Lib.hid hg3
  rw [← hg3] at H3 ⊢
  clear hg3
  have HGB := Lib.hid (gb_refl ws (some g3))
  have HO := Lib.hid (OwnP.nil ws ws.heap.size)
  have HZ3 := Lib.hid (show w.heap.size + 3 ≤ ws.heap.size from by rw [HZ.out]; exact Nat.le_refl _)
  go_wp2_with (fail)
  go_loopw [4] (fun x wr => GsRel0 ws g3 L x wr) (fun x _ => L.length - (intOf x).toNat)
  case atStart => unfold GsRel0; exact ⟨0, .slice none 0 0, Nat.zero_le _, rfl, HGB, H3, HO⟩
  case round =>
    clear HGB HO
    obtain ⟨k, v, hkl, rfl, HGB, H3', HO⟩ := hrel
    have HB := Lib.hid (HB0.out.grown HGB.out (by have := HZ3.out; omega) (fun j hj => by injection hj with hj; rw [← hj, HG3.out]; omega))
    have H1' := Lib.hid ((HGB.out.block w.heap.size (by have := HZ3.out; omega) (fun e => by injection e with e; rw [HG3.out] at e; omega)).trans H1.out)
    have H2' := Lib.hid ((HGB.out.block (w.heap.size + 1) (by have := HZ3.out; omega) (fun e => by injection e with e; rw [HG3.out] at e; omega)).trans H2.out)
    obtain ⟨ua, uc, rfl⟩ := HO.out.slice
    by_cases hlt : k < L.length
    · obtain ⟨p, hp⟩ : ∃ p, L[k]? = some p := ⟨L[k], List.getElem?_eq_getElem hlt⟩
      obtain ⟨ab, ao, c', sa, sc, e1, hra, hsp⟩ := pr_in_range (HPL.out.below HB.out) hp
      injection e1 with e1 _ _
      subst e1
      have hltI : (k : Int) < (L.length : Int) := by omega
      have HGI := Lib.hid (fun w h => give_any p (.slice sa p.steps.length sc) w h (HZL.out p (List.mem_of_getElem? hp)))
      unfold GivePost at HGI
      have htl : (L.take k).length = k := by rw [List.length_take]; omega
      have cs : wr.cell? ⟨w.heap.size, 0, none⟩ = some (.slice (some ⟨ab, ao, none⟩) L.length lc) := cell_of_row _ _ 0 _ _ _ H1'.out
      have cu : wr.cell? ⟨g3, 0, none⟩ = some (.slice ua (L.take k).length uc) := cell_of_row _ _ 0 _ _ _ H3'.out
      rw [htl] at cu
      have HSN := Lib.hid (take_snoc8 L k p hp)
      have HTL := Lib.hid htl
      have HLE := Lib.hid (show (L.take k ++ [p]).length = k + 1 by rw [List.length_append, htl]; rfl)
      have HAB := Lib.hid (World.block_lt_of_cell? _ (a := ⟨ab, ao + k * 3 + 0, none⟩) (hra 0 _ rfl))
      have HALL := Lib.hid (⟨⟨cu, cs⟩, hra⟩ : (wr.cell? ⟨g3, 0, none⟩ = some (.slice ua k uc) ∧ wr.cell? ⟨w.heap.size, 0, none⟩ = some (.slice (some ⟨ab, ao, none⟩) L.length lc)) ∧ wr.rangeAt ab (ao + k * 3) (prC p (.slice sa p.steps.length sc)).toList)
      have HSP := Lib.hid hsp
      clear hp hra hsp cu htl
      go_upto_region 5 with (fail)
      clear cs
      refine wp_region_T (fun w' => (w'.cell? ⟨g3, 0, none⟩ = some (.slice ua k uc) ∧ w'.cell? ⟨w.heap.size, 0, none⟩ = some (.slice (some ⟨ab, ao, none⟩) L.length lc)) ∧ w'.rangeAt ab (ao + k * 3) (prC p (.slice sa p.steps.length sc)).toList) [1, 3, 5, 6, 7, 8] (by kernel_rfl) ?_
      have hdr : Below wr.heap.size wr wr.drew := (Below.refl _ _).drew
      replace HALL := Lib.hid (show (wr.drew.cell? ⟨g3, 0, none⟩ = some (.slice ua k uc) ∧ wr.drew.cell? ⟨w.heap.size, 0, none⟩ = some (.slice (some ⟨ab, ao, none⟩) L.length lc)) ∧ wr.drew.rangeAt ab (ao + k * 3) (prC p (.slice sa p.steps.length sc)).toList from HALL.out)
      have HTURN := Lib.hid (show ∀ a b : World, Below a.heap.size a b → ab < a.heap.size → ((a.cell? ⟨g3, 0, none⟩ = some (.slice ua k uc) ∧ a.cell? ⟨w.heap.size, 0, none⟩ = some (.slice (some ⟨ab, ao, none⟩) L.length lc)) ∧ a.rangeAt ab (ao + k * 3) (prC p (.slice sa p.steps.length sc)).toList) → ((b.cell? ⟨g3, 0, none⟩ = some (.slice ua k uc) ∧ b.cell? ⟨w.heap.size, 0, none⟩ = some (.slice (some ⟨ab, ao, none⟩) L.length lc)) ∧ b.rangeAt ab (ao + k * 3) (prC p (.slice sa p.steps.length sc)).toList) from fun a b hb hl h =>
        ⟨⟨(hb.cell (p := ⟨g3, 0, none⟩) (World.block_lt_of_cell? _ _ h.1.1)).trans h.1.1, (hb.cell (p := ⟨w.heap.size, 0, none⟩) (World.block_lt_of_cell? _ _ h.1.2)).trans h.1.2⟩, range_below h.2 hb hl⟩)
      replace HGB := Lib.hid (gb_step HGB.out (gb_below hdr) (fun j hj => by cases hj))
      replace H3' := Lib.hid ((hdr.block _ (bk_lt H3'.out)).trans H3'.out)
      replace HO := Lib.hid (HO.out.below hdr)
      replace HAB := Lib.hid (show ab < wr.drew.heap.size from HAB.out)
      replace HSP := Lib.hid (HSP.out.below hdr)
      clear hdr HB H1' H2'
      generalize wr.drew = w2 at *
      refine anyT_takeY (i := 0) (v := .pointer (some ⟨g3, 0, none⟩)) rfl (by kernel_rfl) (by kernel_rfl) (by kernel_rfl) (fun _ _ _ h => h) (by kernel_rfl) (Or.inl ⟨by rfl, by intro w; go_simp⟩) ?_
      try simp only [List.getElem_toArray, List.getElem_cons_succ, List.getElem_cons_zero, Act.put, List.setIfInBounds_toArray, List.set_cons_zero, List.set_cons_succ]
      refine anyT_takeY (i := 2) (v := .pointer (some ⟨w.heap.size, 0, none⟩)) rfl (by kernel_rfl) (by kernel_rfl) (by kernel_rfl) (fun _ _ _ h => h) (by kernel_rfl) (Or.inl ⟨by rfl, by intro w; go_simp⟩) ?_
      try simp only [List.getElem_toArray, List.getElem_cons_succ, List.getElem_cons_zero, Act.put, List.setIfInBounds_toArray, List.set_cons_zero, List.set_cons_succ]
      refine anyT_takeY (i := 4) (v := .int .i64 (k : Int)) rfl (by kernel_rfl) (by kernel_rfl) (by kernel_rfl) (fun _ _ _ h => h) (by kernel_rfl) (Or.inl ⟨by rfl, by intro w; go_simp⟩) ?_
      try simp only [List.getElem_toArray, List.getElem_cons_succ, List.getElem_cons_zero, Act.put, List.setIfInBounds_toArray, List.set_cons_zero, List.set_cons_succ]
      refine anyT_take [9, 10, 11] (i := 1) (v := .slice ua k uc) rfl (by kernel_rfl) (by kernel_rfl) (by kernel_rfl) (fun _ _ _ h => h) (by kernel_rfl) (Or.inl ⟨by rfl, fun w' hS => by have c := hS.1.1; go_simp⟩) HALL.out ?_
      try simp only [List.getElem_toArray, List.getElem_cons_succ, List.getElem_cons_zero, Act.put, List.setIfInBounds_toArray, List.set_cons_zero, List.set_cons_succ]
      refine anyT_take [5, 6, 7, 8, 9, 10, 11] (i := 3) (v := .slice (some ⟨ab, ao, none⟩) L.length lc) rfl (by kernel_rfl) (by kernel_rfl) (by kernel_rfl) (fun _ _ _ h => h) (by kernel_rfl) (Or.inl ⟨by rfl, fun w' hS => by have c := hS.1.2; go_simp⟩) HALL.out ?_
      try simp only [List.getElem_toArray, List.getElem_cons_succ, List.getElem_cons_zero, Act.put, List.setIfInBounds_toArray, List.set_cons_zero, List.set_cons_succ]
      refine anyT_take [6, 7, 8, 9, 10, 11] (i := 5) (v := .pointer (some ⟨ab, ao + k * 3, none⟩)) rfl (by kernel_rfl) (by kernel_rfl) (by kernel_rfl) (fun _ _ _ h => h) (by kernel_rfl) (Or.inl ⟨by rfl, fun w' _ => by go_simp⟩) HALL.out ?_
      try simp only [List.getElem_toArray, List.getElem_cons_succ, List.getElem_cons_zero, Act.put, List.setIfInBounds_toArray, List.set_cons_zero, List.set_cons_succ]
      refine anyT_take [7, 8, 9, 10, 11] (i := 6) (v := .agg (prC p (.slice sa p.steps.length sc))) rfl (by kernel_rfl) (by kernel_rfl) (by kernel_rfl) (fun _ _ _ h => h) (by kernel_rfl) (row_yields' (by rfl) 24 (.tmp 19) rfl ab (ao + k * 3) rfl _ _ (fun _ h => h.2) Tryz.underlying24 rfl (by kernel_rfl)) HALL.out ?_
      try simp only [List.getElem_toArray, List.getElem_cons_succ, List.getElem_cons_zero, Act.put, List.setIfInBounds_toArray, List.set_cons_zero, List.set_cons_succ]
      refine anyT_one (i := 7) (by kernel_rfl) rfl (fun K hK => ?_)
      rw [if_pos (by rfl)]
      try simp only [List.getElem_toArray, List.getElem_cons_succ, List.getElem_cons_zero]
      (go_simp; (with_reducible refine (HGI.out _ HSP.out).mono ?_); rintro e w3 ⟨ta, tc, rfl, hown, hb⟩; have HOW := Lib.hid hown; replace HALL := Lib.hid (HTURN.out _ _ hb HAB.out HALL.out); replace HAB := Lib.hid (Nat.lt_of_lt_of_le HAB.out hb.size); replace HGB := Lib.hid (gb_step HGB.out (gb_below hb) (fun j hj => by cases hj)); replace H3' := Lib.hid ((hb.block _ (bk_lt H3'.out)).trans H3'.out); replace HO := Lib.hid (HO.out.below hb); clear hown hb)
      refine hK _ _ (fun _ => HALL.out) ?_
      clear hK K
      try simp only [List.getElem_toArray, List.getElem_cons_succ, List.getElem_cons_zero, Act.put, List.setIfInBounds_toArray, List.set_cons_zero, List.set_cons_succ]
      refine anyT_one (i := 8) (by kernel_rfl) rfl (fun K hK => ?_)
      rw [if_pos (by rfl)]
      try simp only [List.getElem_toArray, List.getElem_cons_succ, List.getElem_cons_zero]
      (refine wp_pr1 38 31 Tryz.underlying38 infoPrz (.tmp 21) rfl p.key p.val ta p.steps.length tc rfl ?_; have hb := below_alloc w3 (.cells #[.string p.key, .string p.val, .slice ta p.steps.length tc] 31); replace HALL := Lib.hid (HTURN.out _ _ hb HAB.out HALL.out); replace HGB := Lib.hid (gb_step HGB.out (gb_below hb) (fun j hj => by cases hj)); replace H3' := Lib.hid ((hb.block _ (bk_lt H3'.out)).trans H3'.out); replace HO := Lib.hid (HO.out.below hb); replace HOW := Lib.hid (HOW.out.alloc (.cells #[.string p.key, .string p.val, .slice ta p.steps.length tc] 31)); rw [HTL.out] at HO; clear hb)
      refine hK _ _ (fun _ => HALL.out) ?_
      clear hK K
      try simp only [List.getElem_toArray, List.getElem_cons_succ, List.getElem_cons_zero, Act.put, List.setIfInBounds_toArray, List.set_cons_zero, List.set_cons_succ]
      refine anyT_one (i := 9) (by kernel_rfl) rfl (fun K hK => ?_)
      rw [if_pos (by rfl)]
      try simp only [List.getElem_toArray, List.getElem_cons_succ, List.getElem_cons_zero]
      (refine wp_append_own (.tmp 15) (.tmp 22) rfl rfl ws.heap.size (.slice ua k uc) (L.take k) rfl HO.out w3.heap.size p (.slice ta p.steps.length tc) ⟨_, _, _, rfl⟩ rfl (heap_alloc_new w3 _) ⟨_, HOW.out⟩ (by rw [HTL.out]; omega) HGB.out.size ?_; intro v8 w8 ho hgr; obtain ⟨xa, xc, rfl⟩ := ho.slice; rw [HLE.out] at ho; have HO8 := Lib.hid ho; have HGB8 := Lib.hid (gb_step HGB.out hgr (fun j hj => .inl (HO.out.ge hj))); have H38 := Lib.hid ((hgr.block g3 (bk_lt H3'.out) (fun e => by have := HO.out.ge e.symm; have h2 := HZ3.out; rw [HG3.out] at this; omega)).trans H3'.out); clear ho hgr)
      refine hK _ _ (not_mem rfl) ?_
      clear hK K
      try simp only [List.getElem_toArray, List.getElem_cons_succ, List.getElem_cons_zero, Act.put, List.setIfInBounds_toArray, List.set_cons_zero, List.set_cons_succ]
      refine anyT_takeY (i := 10) (v := .pointer (some ⟨g3, 0, none⟩)) rfl (by kernel_rfl) (by kernel_rfl) (by kernel_rfl) (fun _ _ _ h => h) (by kernel_rfl) (Or.inl ⟨by rfl, by intro w; go_simp⟩) ?_
      try simp only [List.getElem_toArray, List.getElem_cons_succ, List.getElem_cons_zero, Act.put, List.setIfInBounds_toArray, List.set_cons_zero, List.set_cons_succ]
      refine anyT_one (i := 11) (by kernel_rfl) rfl (fun K hK => ?_)
      rw [if_pos (by rfl)]
      try simp only [List.getElem_toArray, List.getElem_cons_succ, List.getElem_cons_zero]
      (have k1 : w8.cell? ⟨g3, 0, none⟩ = some (.slice ua (L.take k).length uc) := cell_of_row _ _ 0 _ _ _ H38.out; have k2 : w8.frozen? ⟨g3, 0, none⟩ = false := frozen_of_row _ _ _ _ _ H38.out; go_simp; clear k1 k2)
      refine hK _ _ (not_mem rfl) ?_
      clear hK K
      try simp only [List.getElem_toArray, List.getElem_cons_succ, List.getElem_cons_zero, Act.put, List.setIfInBounds_toArray, List.set_cons_zero, List.set_cons_succ]
      refine anyT_done (by kernel_rfl) ?_ _
      have HGB9 := Lib.hid (gb_step HGB8.out (gb_set w8 g3 0 (.slice xa (k + 1) xc)) (fun j hj => .inr (by injection hj with hj; exact hj.symm)))
      have H39 := Lib.hid (show (w8.setCell ⟨g3, 0, none⟩ (.slice xa (k + 1) xc)).heap[g3]? = some (.cells #[.slice xa (k + 1) xc, .slice none 0 0] 40 (0, 0)) from heap_setCell_same _ g3 0 _ _ _ H38.out)
      have HO9 := Lib.hid (HO8.out.gb (gb_set w8 g3 0 (.slice xa (k + 1) xc)) H38.out)
      clear HGB8 H38 HO8 HGB HO HALL HTURN HOW
      generalize w8.setCell ⟨g3, 0, none⟩ (.slice xa (k + 1) xc) = w9 at *
      go_wp2_with (fail)
      go_roundw
      case rel => unfold GsRel0; exact ⟨k + 1, .slice xa (k + 1) xc, by omega, by go_num, HGB9, H39, by rw [HSN.out]; exact HO9⟩
      case measure => simp [intOf]; omega
    · obtain rfl : k = L.length := by omega
      rw [List.take_length] at HO H3'
      obtain ⟨uL, rfl⟩ : ∃ x, x = ua := ⟨_, rfl⟩
      obtain ⟨uM, rfl⟩ : ∃ x, x = uc := ⟨_, rfl⟩
      have cs : wr.cell? ⟨w.heap.size, 0, none⟩ = some (.slice la L.length lc) := cell_of_row _ _ 0 _ _ _ H1'.out
      have HOL := Lib.hid HO.out
      have HZ3' := Lib.hid (show w.heap.size + 3 ≤ wr.heap.size from Nat.le_trans HZ3.out HGB.out.size)
      clear hlt hkl HGB HZ3 HO HB0 H1 H2 H3 HZ
      generalize wr = ws at *
      have HZ3 := HZ3'
      have HB0 := HB
      have H1 := H1'
      have H2 := H2'
      have H3 := H3'
      clear HZ3' HB H1' H2' H3'
      have HGB := Lib.hid (gb_refl ws (some g3))
      have HO := Lib.hid (OwnP.nil ws ws.heap.size)
      go_upto_region 7 with (fail)
      clear cs
      go_wp2_with (fail)
      go_loopw [5] (fun x wr => GsRel1 ws g3 (.slice uL L.length uM) R x wr) (fun x _ => R.length - (intOf x).toNat)
      case atStart => unfold GsRel1; exact ⟨0, .slice none 0 0, Nat.zero_le _, rfl, HGB, H3, HO⟩
      case round =>
        clear HGB HO
        obtain ⟨k, v, hkl, rfl, HGB, H3', HO⟩ := hrel
        have HB := Lib.hid (HB0.out.grown HGB.out (by have := HZ3.out; omega) (fun j hj => by injection hj with hj; rw [← hj, HG3.out]; omega))
        have H1' := Lib.hid ((HGB.out.block w.heap.size (by have := HZ3.out; omega) (fun e => by injection e with e; rw [HG3.out] at e; omega)).trans H1.out)
        have H2' := Lib.hid ((HGB.out.block (w.heap.size + 1) (by have := HZ3.out; omega) (fun e => by injection e with e; rw [HG3.out] at e; omega)).trans H2.out)
        obtain ⟨ua, uc, rfl⟩ := HO.out.slice
        by_cases hlt : k < R.length
        · obtain ⟨p, hp⟩ : ∃ p, R[k]? = some p := ⟨R[k], List.getElem?_eq_getElem hlt⟩
          obtain ⟨ab, ao, c', sa, sc, e1, hra, hsp⟩ := pr_in_range (HPR.out.below HB.out) hp
          injection e1 with e1 _ _
          subst e1
          have hltI : (k : Int) < (R.length : Int) := by omega
          have HGI := Lib.hid (fun w h => give_any p (.slice sa p.steps.length sc) w h (HZR.out p (List.mem_of_getElem? hp)))
          unfold GivePost at HGI
          have htl : (R.take k).length = k := by rw [List.length_take]; omega
          have cs : wr.cell? ⟨w.heap.size, 1, none⟩ = some (.slice (some ⟨ab, ao, none⟩) R.length rc) := cell_of_row _ _ 1 _ _ _ H1'.out
          have cu : wr.cell? ⟨g3, 1, none⟩ = some (.slice ua (R.take k).length uc) := cell_of_row _ _ 1 _ _ _ H3'.out
          rw [htl] at cu
          have HSN := Lib.hid (take_snoc8 R k p hp)
          have HTL := Lib.hid htl
          have HLE := Lib.hid (show (R.take k ++ [p]).length = k + 1 by rw [List.length_append, htl]; rfl)
          have HAB := Lib.hid (World.block_lt_of_cell? _ (a := ⟨ab, ao + k * 3 + 0, none⟩) (hra 0 _ rfl))
          have HALL := Lib.hid (⟨⟨cu, cs⟩, hra⟩ : (wr.cell? ⟨g3, 1, none⟩ = some (.slice ua k uc) ∧ wr.cell? ⟨w.heap.size, 1, none⟩ = some (.slice (some ⟨ab, ao, none⟩) R.length rc)) ∧ wr.rangeAt ab (ao + k * 3) (prC p (.slice sa p.steps.length sc)).toList)
          have HSP := Lib.hid hsp
          clear hp hra hsp cu htl
          go_upto_region 9 with (fail)
          clear cs
          refine wp_region_T (fun w' => (w'.cell? ⟨g3, 1, none⟩ = some (.slice ua k uc) ∧ w'.cell? ⟨w.heap.size, 1, none⟩ = some (.slice (some ⟨ab, ao, none⟩) R.length rc)) ∧ w'.rangeAt ab (ao + k * 3) (prC p (.slice sa p.steps.length sc)).toList) [1, 3, 5, 6, 7, 8] (by kernel_rfl) ?_
          have hdr : Below wr.heap.size wr wr.drew := (Below.refl _ _).drew
          replace HALL := Lib.hid (show (wr.drew.cell? ⟨g3, 1, none⟩ = some (.slice ua k uc) ∧ wr.drew.cell? ⟨w.heap.size, 1, none⟩ = some (.slice (some ⟨ab, ao, none⟩) R.length rc)) ∧ wr.drew.rangeAt ab (ao + k * 3) (prC p (.slice sa p.steps.length sc)).toList from HALL.out)
          have HTURN := Lib.hid (show ∀ a b : World, Below a.heap.size a b → ab < a.heap.size → ((a.cell? ⟨g3, 1, none⟩ = some (.slice ua k uc) ∧ a.cell? ⟨w.heap.size, 1, none⟩ = some (.slice (some ⟨ab, ao, none⟩) R.length rc)) ∧ a.rangeAt ab (ao + k * 3) (prC p (.slice sa p.steps.length sc)).toList) → ((b.cell? ⟨g3, 1, none⟩ = some (.slice ua k uc) ∧ b.cell? ⟨w.heap.size, 1, none⟩ = some (.slice (some ⟨ab, ao, none⟩) R.length rc)) ∧ b.rangeAt ab (ao + k * 3) (prC p (.slice sa p.steps.length sc)).toList) from fun a b hb hl h =>
            ⟨⟨(hb.cell (p := ⟨g3, 1, none⟩) (World.block_lt_of_cell? _ _ h.1.1)).trans h.1.1, (hb.cell (p := ⟨w.heap.size, 1, none⟩) (World.block_lt_of_cell? _ _ h.1.2)).trans h.1.2⟩, range_below h.2 hb hl⟩)
          replace HGB := Lib.hid (gb_step HGB.out (gb_below hdr) (fun j hj => by cases hj))
          replace H3' := Lib.hid ((hdr.block _ (bk_lt H3'.out)).trans H3'.out)
          replace HO := Lib.hid (HO.out.below hdr)
          replace HAB := Lib.hid (show ab < wr.drew.heap.size from HAB.out)
          replace HSP := Lib.hid (HSP.out.below hdr)
          clear hdr HB H1' H2'
          generalize wr.drew = w2 at *
          refine anyT_takeY (i := 0) (v := .pointer (some ⟨g3, 1, none⟩)) rfl (by kernel_rfl) (by kernel_rfl) (by kernel_rfl) (fun _ _ _ h => h) (by kernel_rfl) (Or.inl ⟨by rfl, by intro w; go_simp⟩) ?_
          try simp only [List.getElem_toArray, List.getElem_cons_succ, List.getElem_cons_zero, Act.put, List.setIfInBounds_toArray, List.set_cons_zero, List.set_cons_succ]
          refine anyT_takeY (i := 2) (v := .pointer (some ⟨w.heap.size, 1, none⟩)) rfl (by kernel_rfl) (by kernel_rfl) (by kernel_rfl) (fun _ _ _ h => h) (by kernel_rfl) (Or.inl ⟨by rfl, by intro w; go_simp⟩) ?_
          try simp only [List.getElem_toArray, List.getElem_cons_succ, List.getElem_cons_zero, Act.put, List.setIfInBounds_toArray, List.set_cons_zero, List.set_cons_succ]
          refine anyT_takeY (i := 4) (v := .int .i64 (k : Int)) rfl (by kernel_rfl) (by kernel_rfl) (by kernel_rfl) (fun _ _ _ h => h) (by kernel_rfl) (Or.inl ⟨by rfl, by intro w; go_simp⟩) ?_
          try simp only [List.getElem_toArray, List.getElem_cons_succ, List.getElem_cons_zero, Act.put, List.setIfInBounds_toArray, List.set_cons_zero, List.set_cons_succ]
          refine anyT_take [9, 10, 11] (i := 1) (v := .slice ua k uc) rfl (by kernel_rfl) (by kernel_rfl) (by kernel_rfl) (fun _ _ _ h => h) (by kernel_rfl) (Or.inl ⟨by rfl, fun w' hS => by have c := hS.1.1; go_simp⟩) HALL.out ?_
          try simp only [List.getElem_toArray, List.getElem_cons_succ, List.getElem_cons_zero, Act.put, List.setIfInBounds_toArray, List.set_cons_zero, List.set_cons_succ]
          refine anyT_take [5, 6, 7, 8, 9, 10, 11] (i := 3) (v := .slice (some ⟨ab, ao, none⟩) R.length rc) rfl (by kernel_rfl) (by kernel_rfl) (by kernel_rfl) (fun _ _ _ h => h) (by kernel_rfl) (Or.inl ⟨by rfl, fun w' hS => by have c := hS.1.2; go_simp⟩) HALL.out ?_
          try simp only [List.getElem_toArray, List.getElem_cons_succ, List.getElem_cons_zero, Act.put, List.setIfInBounds_toArray, List.set_cons_zero, List.set_cons_succ]
          refine anyT_take [6, 7, 8, 9, 10, 11] (i := 5) (v := .pointer (some ⟨ab, ao + k * 3, none⟩)) rfl (by kernel_rfl) (by kernel_rfl) (by kernel_rfl) (fun _ _ _ h => h) (by kernel_rfl) (Or.inl ⟨by rfl, fun w' _ => by go_simp⟩) HALL.out ?_
          try simp only [List.getElem_toArray, List.getElem_cons_succ, List.getElem_cons_zero, Act.put, List.setIfInBounds_toArray, List.set_cons_zero, List.set_cons_succ]
          refine anyT_take [7, 8, 9, 10, 11] (i := 6) (v := .agg (prC p (.slice sa p.steps.length sc))) rfl (by kernel_rfl) (by kernel_rfl) (by kernel_rfl) (fun _ _ _ h => h) (by kernel_rfl) (row_yields' (by rfl) 24 (.tmp 37) rfl ab (ao + k * 3) rfl _ _ (fun _ h => h.2) Tryz.underlying24 rfl (by kernel_rfl)) HALL.out ?_
          try simp only [List.getElem_toArray, List.getElem_cons_succ, List.getElem_cons_zero, Act.put, List.setIfInBounds_toArray, List.set_cons_zero, List.set_cons_succ]
          refine anyT_one (i := 7) (by kernel_rfl) rfl (fun K hK => ?_)
          rw [if_pos (by rfl)]
          try simp only [List.getElem_toArray, List.getElem_cons_succ, List.getElem_cons_zero]
          (go_simp; (with_reducible refine (HGI.out _ HSP.out).mono ?_); rintro e w3 ⟨ta, tc, rfl, hown, hb⟩; have HOW := Lib.hid hown; replace HALL := Lib.hid (HTURN.out _ _ hb HAB.out HALL.out); replace HAB := Lib.hid (Nat.lt_of_lt_of_le HAB.out hb.size); replace HGB := Lib.hid (gb_step HGB.out (gb_below hb) (fun j hj => by cases hj)); replace H3' := Lib.hid ((hb.block _ (bk_lt H3'.out)).trans H3'.out); replace HO := Lib.hid (HO.out.below hb); clear hown hb)
          refine hK _ _ (fun _ => HALL.out) ?_
          clear hK K
          try simp only [List.getElem_toArray, List.getElem_cons_succ, List.getElem_cons_zero, Act.put, List.setIfInBounds_toArray, List.set_cons_zero, List.set_cons_succ]
          refine anyT_one (i := 8) (by kernel_rfl) rfl (fun K hK => ?_)
          rw [if_pos (by rfl)]
          try simp only [List.getElem_toArray, List.getElem_cons_succ, List.getElem_cons_zero]
          (refine wp_pr1 38 31 Tryz.underlying38 infoPrz (.tmp 39) rfl p.key p.val ta p.steps.length tc rfl ?_; have hb := below_alloc w3 (.cells #[.string p.key, .string p.val, .slice ta p.steps.length tc] 31); replace HALL := Lib.hid (HTURN.out _ _ hb HAB.out HALL.out); replace HGB := Lib.hid (gb_step HGB.out (gb_below hb) (fun j hj => by cases hj)); replace H3' := Lib.hid ((hb.block _ (bk_lt H3'.out)).trans H3'.out); replace HO := Lib.hid (HO.out.below hb); replace HOW := Lib.hid (HOW.out.alloc (.cells #[.string p.key, .string p.val, .slice ta p.steps.length tc] 31)); rw [HTL.out] at HO; clear hb)
          refine hK _ _ (fun _ => HALL.out) ?_
          clear hK K
          try simp only [List.getElem_toArray, List.getElem_cons_succ, List.getElem_cons_zero, Act.put, List.setIfInBounds_toArray, List.set_cons_zero, List.set_cons_succ]
          refine anyT_one (i := 9) (by kernel_rfl) rfl (fun K hK => ?_)
          rw [if_pos (by rfl)]
          try simp only [List.getElem_toArray, List.getElem_cons_succ, List.getElem_cons_zero]
          (refine wp_append_own (.tmp 33) (.tmp 40) rfl rfl ws.heap.size (.slice ua k uc) (R.take k) rfl HO.out w3.heap.size p (.slice ta p.steps.length tc) ⟨_, _, _, rfl⟩ rfl (heap_alloc_new w3 _) ⟨_, HOW.out⟩ (by rw [HTL.out]; omega) HGB.out.size ?_; intro v8 w8 ho hgr; obtain ⟨xa, xc, rfl⟩ := ho.slice; rw [HLE.out] at ho; have HO8 := Lib.hid ho; have HGB8 := Lib.hid (gb_step HGB.out hgr (fun j hj => .inl (HO.out.ge hj))); have H38 := Lib.hid ((hgr.block g3 (bk_lt H3'.out) (fun e => by have := HO.out.ge e.symm; have h2 := HZ3.out; rw [HG3.out] at this; omega)).trans H3'.out); clear ho hgr)
          refine hK _ _ (not_mem rfl) ?_
          clear hK K
          try simp only [List.getElem_toArray, List.getElem_cons_succ, List.getElem_cons_zero, Act.put, List.setIfInBounds_toArray, List.set_cons_zero, List.set_cons_succ]
          refine anyT_takeY (i := 10) (v := .pointer (some ⟨g3, 1, none⟩)) rfl (by kernel_rfl) (by kernel_rfl) (by kernel_rfl) (fun _ _ _ h => h) (by kernel_rfl) (Or.inl ⟨by rfl, by intro w; go_simp⟩) ?_
          try simp only [List.getElem_toArray, List.getElem_cons_succ, List.getElem_cons_zero, Act.put, List.setIfInBounds_toArray, List.set_cons_zero, List.set_cons_succ]
          refine anyT_one (i := 11) (by kernel_rfl) rfl (fun K hK => ?_)
          rw [if_pos (by rfl)]
          try simp only [List.getElem_toArray, List.getElem_cons_succ, List.getElem_cons_zero]
          (have k1 : w8.cell? ⟨g3, 1, none⟩ = some (.slice ua (R.take k).length uc) := cell_of_row _ _ 1 _ _ _ H38.out; have k2 : w8.frozen? ⟨g3, 1, none⟩ = false := frozen_of_row _ _ _ _ _ H38.out; go_simp; clear k1 k2)
          refine hK _ _ (not_mem rfl) ?_
          clear hK K
          try simp only [List.getElem_toArray, List.getElem_cons_succ, List.getElem_cons_zero, Act.put, List.setIfInBounds_toArray, List.set_cons_zero, List.set_cons_succ]
          refine anyT_done (by kernel_rfl) ?_ _
          have HGB9 := Lib.hid (gb_step HGB8.out (gb_set w8 g3 1 (.slice xa (k + 1) xc)) (fun j hj => .inr (by injection hj with hj; exact hj.symm)))
          have H39 := Lib.hid (show (w8.setCell ⟨g3, 1, none⟩ (.slice xa (k + 1) xc)).heap[g3]? = some (.cells #[(.slice uL L.length uM), .slice xa (k + 1) xc] 40 (0, 0)) from heap_setCell_same _ g3 1 _ _ _ H38.out)
          have HO9 := Lib.hid (HO8.out.gb (gb_set w8 g3 1 (.slice xa (k + 1) xc)) H38.out)
          clear HGB8 H38 HO8 HGB HO HALL HTURN HOW
          generalize w8.setCell ⟨g3, 1, none⟩ (.slice xa (k + 1) xc) = w9 at *
          go_wp2_with (fail)
          go_roundw
          case rel => unfold GsRel1; exact ⟨k + 1, .slice xa (k + 1) xc, by omega, by go_num, HGB9, H39, by rw [HSN.out]; exact HO9⟩
          case measure => simp [intOf]; omega
        · obtain rfl : k = R.length := by omega
          rw [List.take_length] at HO H3'
          have HOL2 := Lib.hid (HOL.out.gb HGB.out H3.out)
          have cs : wr.cell? ⟨w.heap.size, 1, none⟩ = some (.slice ra R.length rc) := cell_of_row _ _ 1 _ _ _ H1'.out
          clear hlt hkl
          go_wp2_with (first
            | (refine wpList_load_row rfl 40 (.tmp 3) rfl g3 rfl 40 _ (0, 0) _ H3'.out Tryz.underlying40 rfl (by kernel_rfl) ?_)
            | (refine wpList_store_row rfl 40 (.tmp 2) (.tmp 43) rfl (w.heap.size + 1) #[.slice uL L.length uM, .slice ua R.length uc] rfl rfl 40 _ H2'.out (by kernel_rfl) rfl (by simp [Value.oneCell']) ?_))
          refine bodyPost_ret (results_cell_row rfl _ _ (w.heap.size + 1) 40 #[.slice uL L.length uM, .slice ua R.length uc] (0, 0) _ rfl (setRow_heap _ _ _ _ _ _ H2'.out) Tryz.underlying40 rfl (by kernel_rfl)) rfl ?_
          have hw2 : ∀ {v : Value} {ps : List PvP} {B : Nat}, OwnP wr B v ps → OwnP (wr.setRow (w.heap.size + 1) #[.slice uL L.length uM, .slice ua R.length uc]) B v ps := fun h => h.stay fun j cs ty hj hty => setRow_other _ _ _ _ fun e => by
            subst e
            rw [H2'.out] at hj
            injection hj with hj
            injection hj with _ hj _
            subst hj
            rcases hty with h | h <;> exact absurd h (by decide)
          exact ⟨uL, uM, ua, uc, rfl, (hw2 HOL2.out).prs, (hw2 HO.out).prs, below_setRow HB.out (by omega) _⟩
end Go.Proofs.YtabflppnecemkaaGreatDoor
