/- Part 7 of the proof. -/
import Derived.Test.YtfmfemmknccfmaaDoorPa34
import Derived.Test.YtfmfemmknccfmaaDoorPb6
namespace Go.Proofs.YtfmfemmknccfmaaDoor
set_option linter.unusedVariables false
set_option linter.unusedSimpArgs false
open Go.RowKit
set_option maxRecDepth 100000
set_option linter.unusedSimpArgs false
set_option linter.unusedVariables false
/-- a proof and its steps' slice: the cells -/
abbrev PV := PvP × Value
def pvCells (t : PV) : List Value := [.string t.1.key, .string t.1.val, t.2]
def flatPr (l : List PV) : List Value := l.flatMap pvCells
theorem flatPr_append (a b : List PV) : flatPr (a ++ b) = flatPr a ++ flatPr b := List.flatMap_append
theorem flatPr_get : ∀ (l : List PV) (i : Nat) (t : PV), l[i]? = some t → ∀ j, j < 3 → (flatPr l)[i * 3 + j]? = (pvCells t)[j]?
  | [], i, t, h, j, hj => by simp at h
  | x :: l, 0, t, h, j, hj => by
    injection h with h; subst h
    show (pvCells x ++ flatPr l)[0 * 3 + j]? = _
    rw [Nat.zero_mul, Nat.zero_add, List.getElem?_append_left (by show j < 3; exact hj)]
  | x :: l, i + 1, t, h, j, hj => by
    show (pvCells x ++ flatPr l)[(i + 1) * 3 + j]? = _
    rw [List.getElem?_append_right (by show 3 ≤ _; omega), show (i + 1) * 3 + j - (pvCells x).length = i * 3 + j from by show _ - 3 = _; omega]
    exact flatPr_get l i t (by simpa using h) j hj
theorem prs_of_own {w : World} {B : Nat} {E : TypeId} {v : Value} {l : List PV} (h : w.ownsRow B E 3 v l.length (flatPr l)) (hs : ∀ t ∈ l, StIn w t.2 t.1.steps) : PrsIn w v (l.map (·.1)) := by
  rcases h.2 with ⟨rfl, h0⟩ | ⟨tb, cap, cur, rfl, _, hh, hc, hm, _⟩
  · obtain rfl := List.eq_nil_of_length_eq_zero h0
    exact ⟨none, 0, rfl, by simp, .inl rfl⟩
  · refine ⟨_, cap, by simp, by simp; omega, .inr ⟨tb, 0, rfl, (Array.getElem?_eq_some_iff.1 hh).1, fun i p hi => ?_⟩⟩
    rw [List.getElem?_map] at hi
    cases hl : l[i]? with
    | none => rw [hl] at hi; cases hi
    | some t =>
      rw [hl] at hi
      injection hi with hi
      subst hi
      refine ⟨t.2, fun j u hu => ?_, hs t (List.mem_of_getElem? hl)⟩
      have hj : j < 3 := by have := (List.getElem?_eq_some_iff.1 hu).1; exact this
      have e := h.cells (g := tb) rfl (i * 3 + j) u ((flatPr_get l i t hl j hj).trans hu)
      rw [Addr.add_mid] at e
      rw [Nat.add_assoc]; exact e
theorem pv_slice {w : World} {v : Value} {l : List AvS} (h : StIn w v l) : ∃ a n c, v = .slice a n c := by obtain ⟨a, c, e⟩ := h.len; exact ⟨_, _, _, e⟩
def zPr : Value := .agg #[.string { data := #[] }, .string { data := #[] }, .slice none 0 0]
theorem run_append_pr (T E : TypeId) (hT : Tryd.prog.underlying T = some (.slice E)) (hI : (Tryd.prog.info? E).map (fun i => (i.zero, i.size, i.bytes)) = some (some zPr, 3, 56)) (w : World) (base : Nat) (v : Value) (l : List PV) (hown : w.ownsRow base E 3 v l.length (flatPr l)) (b : Nat) (x : PV) (hx : ∃ a n c, x.2 = .slice a n c)
    (hy : w.heap[b]? = some (.cells #[.string x.1.key, .string x.1.val, x.2] E (0, 0))) (hl : (l.length + 1) * 56 ≤ 140737488355328) (hb : base ≤ w.heap.size) :
    ∃ v' w', (Builtin.append_ #[T, T] T #[v, .slice (some ⟨b, 0, none⟩) 1 1]).run Tryd.prog w = .ok v' w' ∧ w'.ownsRow base E 3 v' (l ++ [x]).length (flatPr (l ++ [x])) ∧ w.grownBy w' v.ownBlock := by
  obtain ⟨i0, hi, hz0, hz1, hz2⟩ := info_parts hI
  obtain ⟨a, n, c, hx⟩ := hx
  obtain ⟨v', w', hr, h1, h2, _, _⟩ := run_append_own_at w base T T E i0 _ 3 56 hT hi hz0 hz1 hz2 (by simp [zPr, Value.cells]) (by decide) v l.length (flatPr l) hown ⟨b, 0, none⟩ 1 1 (pvCells x) (by rfl)
    (fun j u hj => by rw [Addr.add_mid, Nat.zero_add, cell_of_row w b j _ _ _ hy]; simpa [pvCells] using hj) (by intro u hu; simp only [pvCells, hx, List.mem_cons, List.not_mem_nil, or_false] at hu; rcases hu with rfl | rfl | rfl <;> rfl) (by unfold maxLen; omega) hl hb
  refine ⟨v', w', hr, ?_, h2⟩
  rw [List.length_append, flatPr_append, show flatPr [x] = pvCells x from by simp [flatPr]]
  exact h1
theorem wp_append_pr {w : World} {o : Oper} {a : Act} {K : Act → World → Prop} {Q : Exit → Act → World → Prop} (T E : TypeId) (hT : Tryd.prog.underlying T = some (.slice E)) (hI : (Tryd.prog.info? E).map (fun i => (i.zero, i.size, i.bytes)) = some (some zPr, 3, 56)) (s y : Operand)
    (ho : o.op = .call { callee := .builtin .append, args := #[s, y], argTypes := #[T, T] }) (hty : o.type = T)
    (base : Nat) (v : Value) (l : List PV) (hs : a.eval s = v) (hown : w.ownsRow base E 3 v l.length (flatPr l)) (b : Nat) (x : PV) (hxs : ∃ a n c, x.2 = .slice a n c) (hy : a.eval y = .slice (some ⟨b, 0, none⟩) 1 1) (hyb : w.heap[b]? = some (.cells #[.string x.1.key, .string x.1.val, x.2] E (0, 0))) (hl : (l.length + 1) * 56 ≤ 140737488355328) (hb : base ≤ w.heap.size)
    (h : ∀ v' w', w'.ownsRow base E 3 v' (l ++ [x]).length (flatPr (l ++ [x])) → w.grownBy w' v.ownBlock → K (a.put o.dst v') w') : o.wp Tryd.prog a w K Q := by
  obtain ⟨v', w', hr, h1, h2⟩ := run_append_pr T E hT hI w base v l hown b x hxs hyb hl hb
  unfold Oper.wp execOp
  simp only [ho, hty, resolve, invoke, builtin, Sem.run_bind, Sem.run_pure, Result.andThen_ok, List.map_toArray, List.map_cons, List.map_nil, hs, hy, hr]
  exact h v' w' h1 h2
theorem prs_fill (k v : ByteArray) (a : Option Addr) (n c : Nat) : Instr.fill (fun i => some (i * 3, 3)) ((Array.range (1 * 3)).map (zPr.cells[· % zPr.cells.size]!)) [(0, .agg #[.string k, .string v, .slice a n c])] = some #[.string k, .string v, .slice a n c] := by kernel_rfl
theorem wp_pr1 {o : Oper} {a : Act} {w : World} {K : Act → World → Prop} {Q : Exit → Act → World → Prop} (T E : TypeId) (hT : Tryd.prog.underlying T = some (.slice E)) (hI : (Tryd.prog.info? E).map (fun i => (i.zero, i.size, i.bytes)) = some (some zPr, 3, 56)) (x : Operand) (ho : o.op = .buildSlice T 1 #[(0, x)]) (k v : ByteArray) (sa : Option Addr) (n c : Nat) (hx : a.eval x = .agg #[.string k, .string v, .slice sa n c])
    (h : K (a.put o.dst (.slice (some ⟨w.heap.size, 0, none⟩) 1 1)) (w.alloc (.cells #[.string k, .string v, .slice sa n c] E))) : o.wp Tryd.prog a w K Q := by
  obtain ⟨i0, hi, hz0, hz1, hz2⟩ := info_parts hI
  refine wp_buildSlice T E 1 #[(0, x)] ho #[.string k, .string v, .slice sa n c] i0 _ hT hi hz0 (by rw [hz1]; decide) (by rw [hz1]; decide) ?_ h
  rw [hz1]
  simpa [hx] using prs_fill k v sa n c
theorem infoPr8 : (Tryd.prog.info? 57).map (fun i => (i.zero, i.size, i.bytes)) = some (some zPr, 3, 56) := by kernel_rfl
/-- a proof stays where a block of two slices is written -/
theorem prAt_stay {w : World} {b o q : Nat} {p : PvP} {v1 v2 : Value} {T : TypeId} {w' : World} (h : PrAt w b o p) (hq : w.heap[q]? = some (.cells #[v1, v2] T (0, 0))) (h1 : ∃ a n c, v1 = .slice a n c) (h2 : ∃ a n c, v2 = .slice a n c) (hw : ∀ k, k ≠ q → w'.heap[k]? = w.heap[k]?) (hsz : w.heap.size ≤ w'.heap.size) : PrAt w' b o p := by
  obtain ⟨a1, n1, c1, rfl⟩ := h1
  obtain ⟨a2, n2, c2, rfl⟩ := h2
  have hno : ∀ (k : Nat) (x : Value), (∀ a n c, x ≠ .slice a n c) → (#[Value.slice a1 n1 c1, .slice a2 n2 c2] : Array Value)[k]? ≠ some x := by
    intro k x hx h
    rcases k with _ | _ | k
    · injection h with h; exact hx _ _ _ h.symm
    · injection h with h; exact hx _ _ _ h.symm
    · simp at h
  obtain ⟨sv, hr, hst⟩ := h
  have hbq : b ≠ q := fun e => by
    subst e
    have h0 := hr 0 (.string p.key) rfl
    rw [cell_of_row _ _ _ _ _ _ hq] at h0
    exact hno _ _ (fun _ _ _ => by simp) h0
  refine ⟨sv, fun j v hv => (World.cell?_of_block (hw _ hbq)).trans (hr j v hv), ?_⟩
  obtain ⟨a, cap, rfl, hc, hm, hx⟩ := hst
  refine ⟨a, cap, rfl, hc, hm, hx.imp id ?_⟩
  rintro ⟨ab, ao, rfl, hl, hr⟩
  refine ⟨ab, ao, rfl, Nat.lt_of_lt_of_le hl hsz, fun i s hi => ?_⟩
  have hne : ab ≠ q := fun e => by
    subst e
    have h0 := hr i s hi 0 (.bool s.sec) (by simp [AvS.cells, stC])
    rw [cell_of_row _ _ _ _ _ _ hq] at h0
    exact hno _ _ (fun _ _ _ => by simp) h0
  exact fun j v hv => (World.cell?_of_block (hw _ hne)).trans (hr i s hi j v hv)
theorem prs_stay {w w' : World} {v : Value} {ps : List PvP} {q : Nat} {v1 v2 : Value} {T : TypeId} (h : PrsIn w v ps) (hq : w.heap[q]? = some (.cells #[v1, v2] T (0, 0))) (h1 : ∃ a n c, v1 = .slice a n c) (h2 : ∃ a n c, v2 = .slice a n c) (hw : ∀ k, k ≠ q → w'.heap[k]? = w.heap[k]?) (hsz : w.heap.size ≤ w'.heap.size) : PrsIn w' v ps := by
  obtain ⟨a, cap, rfl, hm, hx⟩ := h
  exact ⟨a, cap, rfl, hm, hx.imp id fun ⟨b, off, e, hl, hh⟩ => ⟨b, off, e, Nat.lt_of_lt_of_le hl hsz, fun i p hi => prAt_stay (hh i p hi) hq h1 h2 hw hsz⟩⟩
/-- trees of the reference stay where a block of two cells is written -/
theorem RT.stay {w w' : World} {q : Nat} {old : Array Value} {T : TypeId} (hq : w.heap[q]? = some (.cells old T (0, 0))) (hs : old.size = 2) (hw : ∀ k, k ≠ q → w'.heap[k]? = w.heap[k]?) (hsz : w.heap.size ≤ w'.heap.size) : ∀ {t : AvT} {cs : Array Value}, RT w cs t → RT w' cs t
  | .leaf k v, cs, h => h
  | .node a b, cs, h => by
    obtain ⟨blk, ca, cb, h, hl, r1, r2, h1, h2⟩ := h
    have hne : blk ≠ q := fun e => by
      subst e
      have hz := h2.size
      obtain ⟨x, hx⟩ : ∃ x, cb.toList[0]? = some x := ⟨cb[0]'(by omega), by simp [hz]⟩
      have := r2 0 x hx
      rw [cell_of_row w blk (4 + 0) _ _ _ hq] at this
      rw [Array.getElem?_eq_none (by omega)] at this
      cases this
    have hk : ∀ o (l : List Value), w.rangeAt blk o l → w'.rangeAt blk o l := fun o l h j v hv => (World.cell?_of_block (w := w) (hw _ hne)).trans (h j v hv)
    exact ⟨blk, ca, cb, h, Nat.lt_of_lt_of_le hl hsz, hk _ _ r1, hk _ _ r2, h1.stay hq hs hw hsz, h2.stay hq hs hw hsz⟩
theorem RO.stay {w w' : World} {q : Nat} {old : Array Value} {T : TypeId} (hq : w.heap[q]? = some (.cells old T (0, 0))) (hs : old.size = 2) (hw : ∀ k, k ≠ q → w'.heap[k]? = w.heap[k]?) (hsz : w.heap.size ≤ w'.heap.size) {t : Option AvT} {cs : Array Value} (h : RO w cs t) : RO w' cs t := by
  cases t with
  | none => exact h
  | some t => exact RT.stay hq hs hw hsz h
def abZ : Array Value := #[.slice none 0 0, .slice none 0 0]
/-- what lies in memory while the reference's None goes on -/
structure RnM (w0 w : World) (cs : Array Value) (t : Option AvT) (g8 : Nat) (vl vr : Value) (L R : List PvP) : Prop where
  m : RfM w0 w cs abZ 67 t
  h8 : w.heap[g8]? = some (.cells #[vl, vr] 67 (0, 0))
  g8 : w0.heap.size + 1 < g8
  sl : ∃ a n c, vl = .slice a n c
  sr : ∃ a n c, vr = .slice a n c
  l : PrsIn w vl L
  r : PrsIn w vr R
theorem RnM.call {w0 w w' : World} {cs : Array Value} {t : Option AvT} {g8 : Nat} {vl vr : Value} {L R : List PvP} (m : RnM w0 w cs t g8 vl vr L R) (h : Below w.heap.size w w') : RnM w0 w' cs t g8 vl vr L R :=
  ⟨m.m.call h, (h.block _ (bk_lt m.h8)).trans m.h8, m.g8, m.sl, m.sr, m.l.below h, m.r.below h⟩
theorem RnM.cells {w0 w : World} {cs : Array Value} {t : Option AvT} {g8 : Nat} {vl vr : Value} {L R : List PvP} (m : RnM w0 w cs t g8 vl vr L R) : w.cell? ⟨g8, 0, none⟩ = some vl ∧ w.cell? ⟨g8, 1, none⟩ = some vr ∧ w.frozen? ⟨g8, 0, none⟩ = false ∧ w.frozen? ⟨g8, 1, none⟩ = false :=
  ⟨cell_of_row w _ 0 _ _ _ m.h8, cell_of_row w _ 1 _ _ _ m.h8, frozen_of_row _ _ _ _ _ m.h8, frozen_of_row _ _ _ _ _ m.h8⟩
theorem setCell_size (w : World) (a : Addr) (v : Value) : (w.setCell a v).heap.size = w.heap.size := by
  unfold World.setCell; split <;> simp
theorem RnM.set {w0 w : World} {cs : Array Value} {t : Option AvT} {g8 : Nat} {vl vr : Value} {L R : List PvP} (m : RnM w0 w cs t g8 vl vr L R) (i : Nat) (v vl2 vr2 : Value) (L2 R2 : List PvP) (hr : (w.setCell ⟨g8, i, none⟩ v).heap[g8]? = some (.cells #[vl2, vr2] 67 (0, 0)))
    (h1 : ∃ a n c, vl2 = .slice a n c) (h2 : ∃ a n c, vr2 = .slice a n c) (p1 : PrsIn w vl2 L2) (p2 : PrsIn w vr2 R2) : RnM w0 (w.setCell ⟨g8, i, none⟩ v) cs t g8 vl2 vr2 L2 R2 := by
  have hw : ∀ k, k ≠ g8 → (w.setCell ⟨g8, i, none⟩ v).heap[k]? = w.heap[k]? := fun k hk => heap_setCell_other _ _ _ _ hk
  have hz := setCell_size w ⟨g8, i, none⟩ v
  have hg := m.g8
  exact ⟨⟨m.m.below.setCell (p := ⟨g8, i, none⟩) (by show w0.heap.size ≤ g8; omega) v, (hw _ (by omega)).trans m.m.h2, (hw _ (by omega)).trans m.m.h4, m.m.ro.stay m.h8 rfl hw (by rw [hz]; exact Nat.le_refl _)⟩, hr, hg, h1, h2,
    prs_stay p1 m.h8 m.sl m.sr hw (by rw [hz]; exact Nat.le_refl _), prs_stay p2 m.h8 m.sl m.sr hw (by rw [hz]; exact Nat.le_refl _)⟩
theorem RnM.setL {w0 w : World} {cs : Array Value} {t : Option AvT} {g8 : Nat} {vl vr : Value} {L R : List PvP} (m : RnM w0 w cs t g8 vl vr L R) (v : Value) (L2 : List PvP) (h1 : ∃ a n c, v = .slice a n c) (p1 : PrsIn w v L2) : RnM w0 (w.setCell ⟨g8, 0, none⟩ v) cs t g8 v vr L2 R :=
  m.set 0 v v vr L2 R (heap_setCell_same _ g8 0 _ _ v m.h8) h1 m.sr p1 m.r
theorem RnM.setR {w0 w : World} {cs : Array Value} {t : Option AvT} {g8 : Nat} {vl vr : Value} {L R : List PvP} (m : RnM w0 w cs t g8 vl vr L R) (v : Value) (R2 : List PvP) (h1 : ∃ a n c, v = .slice a n c) (p1 : PrsIn w v R2) : RnM w0 (w.setCell ⟨g8, 1, none⟩ v) cs t g8 vl v L R2 :=
  m.set 1 v vl v L R2 (heap_setCell_same _ g8 1 _ _ v m.h8) m.sl h1 m.l p1
def RNo (t : Option AvT) (key : ByteArray) (w : World) (e : Ending) (w' : World) : Prop :=
  ∃ vl vr, e = .returned (.tuple #[.agg #[vl, vr], .int .i64 (if (getO t key).isSome then 9 else 0)]) ∧ (∃ a n c, vl = .slice a n c) ∧ (∃ a n c, vr = .slice a n c) ∧ PrsIn w' vl (noL t key) ∧ PrsIn w' vr (noR t key) ∧ Below w.heap.size w w'
set_option maxHeartbeats 8000000 in
theorem rnone_any (t : Option AvT) (cs : Array Value) (key : ByteArray) (w : World) (he : Env w) (h : RO w cs t) (hs : Srt (pairsO t)) (hm : manyO t ≤ 64) (hz : ∀ p ∈ pairsO t, p.1.size + p.2.size ≤ 1048576) :
    Calls Tryd.prog 23 #[.agg cs, .string key] w (RNo t key w) := by
  have csZ := Lib.hid h.size
  have M := Lib.hid (rfM_start (zs := abZ) (T := 67) h)
  have HGE := Lib.hid (fun w h => rget_any t cs key w h (by omega))
  have HFI := Lib.hid (fun w h => rfind_any t cs key w h (by omega))
  have HPA := Lib.hid (fun w h => rpairs_any t cs w h (by omega))
  have HE := Lib.hid he
  rw [gl8_eq hs] at HGE
  rw [← findO_lead hs] at HFI
  cases hg : getO t key with
  | some v =>
    have hL : noL t key = [] := by unfold noL; rw [hg]; rfl
    have hR : noR t key = [] := by unfold noR; rw [hg]; rfl
    unfold RNo
    rw [hL, hR, hg]
    rw [hg] at HGE
    obtain ⟨G, hG⟩ : ∃ G, G = strO2 (some v) := ⟨_, rfl⟩
    rw [← hG] at HGE
    simp only [Option.isSome_some, if_true] at HGE ⊢
    clear hs hm hz h he hg hG hL hR
    go_enter Tryd.func23, Tryd.ntmps23
    go_upto_region 1 with (fail)
    have e0 : (w.alloc (.cells cs 29)).alloc (.cells #[.slice none 0 0, .slice none 0 0] 67) = (w.alloc (.cells cs 29)).alloc (.cells abZ 67) := rfl
    rw [e0]
    clear e0
    generalize (w.alloc (.cells cs 29)).alloc (.cells abZ 67) = w1 at *
    go_wp2_with (first
      | (refine wpList_load_row rfl 29 (.tmp 2) rfl w.heap.size rfl 29 _ (0, 0) _ M.out.h2 Tryd.underlying29 rfl (by rw [csZ.out]; kernel_rfl) ?_)
      | (go_at_call 56; (with_reducible refine (HGE.out _ M.out.ro).mono ?_); rintro e w2 ⟨rfl, hb⟩; replace M := Lib.hid (M.out.call hb); clear hb)
      | (refine wpList_store_row rfl 67 (.tmp 4) (.tmp 17) rfl (w.heap.size + 1) abZ rfl rfl 67 _ M.out.h4 (by kernel_rfl) rfl (by simp [abZ, Value.oneCell']) ?_))
    refine bodyPost_ret (results_cell_tmp_row rfl _ _ (w.heap.size + 1) 67 abZ (0, 0) _ rfl (setRow_heap _ _ _ _ _ _ M.out.h4) Tryd.underlying67 rfl (by kernel_rfl)) rfl ?_
    exact ⟨_, _, rfl, ⟨_, _, _, rfl⟩, ⟨_, _, _, rfl⟩, prs_nil _, prs_nil _, below_setRow M.out.below (by omega) _⟩
  | none =>
    unfold RNo
    rw [hg] at HGE ⊢
    obtain ⟨G, hG⟩ : ∃ G, G = strO2 none := ⟨_, rfl⟩
    rw [← hG] at HGE
    simp only [Option.isSome_none, Bool.false_eq_true, if_false] at HGE ⊢
    have hle := findO_le t hs key
    have hL0 : findO t key = 0 → noL t key = [] := noL_none hg
    have hR0 : manyO t ≤ findO t key → noR t key = [] := noR_none hg
    have hL1 : 0 < findO t key → ∃ P : PvP, noL t key = [P] ∧ ∀ w, Env w → RO w cs t → Calls Tryd.prog 57 #[.agg cs, .int .i64 ((findO t key : Int) - 1)] w (At8Post P w) := fun h0 => by
      obtain ⟨p, hp⟩ := place_of (t := t) (i := findO t key - 1) (by omega)
      have e : ((findO t key - 1 : Nat) : Int) = (findO t key : Int) - 1 := by omega
      refine ⟨⟨p.1, p.2, (pathO t ((findO t key - 1 : Nat) : Int)).1⟩, ?_, fun w he h => ?_⟩
      · unfold noL; rw [hg, ← e, (pathO_in hp).2]; rfl
      · have := rat8_any t cs _ p _ w he h hp (pathO_in hp).1 (by omega) hz
        rw [e] at this ⊢; exact this
    have hR1 : findO t key < manyO t → ∃ P : PvP, noR t key = [P] ∧ ∀ w, Env w → RO w cs t → Calls Tryd.prog 57 #[.agg cs, .int .i64 (findO t key : Int)] w (At8Post P w) := fun h0 => by
      obtain ⟨p, hp⟩ := place_of (t := t) (i := findO t key) h0
      refine ⟨⟨p.1, p.2, (pathO t (findO t key : Int)).1⟩, ?_, fun w he h => rat8_any t cs _ p _ w he h hp (pathO_in hp).1 (by omega) hz⟩
      unfold noR; rw [hg, (pathO_in hp).2]; rfl
    obtain ⟨LL, hLL⟩ : ∃ l, l = noL t key := ⟨_, rfl⟩
    obtain ⟨RR, hRR⟩ : ∃ l, l = noR t key := ⟨_, rfl⟩
    rw [← hLL] at hL0 hL1 ⊢
    rw [← hRR] at hR0 hR1 ⊢
    obtain ⟨n, hn⟩ : ∃ n, n = findO t key := ⟨_, rfl⟩
    rw [← hn] at hL0 hL1 hR0 hR1 hle HFI
    obtain ⟨ps, hps⟩ : ∃ l, l = pairsO t := ⟨_, rfl⟩
    have hlen : ps.length = manyO t := by rw [hps]; exact manyO_eq t
    rw [← hlen] at hle hR0 hR1 hm
    rw [← hps] at HPA
    unfold PsPost at HPA
    unfold At8Post at hL1 hR1
    clear hs hz h he hg hG hLL hRR hn hps hlen
    have hnI : (n : Int) ≤ 64 := by omega
    go_enter Tryd.func23, Tryd.ntmps23
    go_upto_region 1 with (fail)
    have e0 : (w.alloc (.cells cs 29)).alloc (.cells #[.slice none 0 0, .slice none 0 0] 67) = (w.alloc (.cells cs 29)).alloc (.cells abZ 67) := rfl
    rw [e0]
    clear e0
    generalize (w.alloc (.cells cs 29)).alloc (.cells abZ 67) = w1 at *
    go_upto_region 5 with (first
      | (refine wpList_load_row rfl 29 (.tmp 2) rfl w.heap.size rfl 29 _ (0, 0) _ M.out.h2 Tryd.underlying29 rfl (by rw [csZ.out]; kernel_rfl) ?_)
      | (go_at_call 56; (with_reducible refine (HGE.out _ M.out.ro).mono ?_); rintro e w2 ⟨rfl, hb⟩; replace M := Lib.hid (M.out.call hb); clear hb)
      | (refine wpList_store_row rfl 67 (.tmp 8) (.tmp 18) rfl w2.heap.size abZ rfl rfl 67 _ (heap_alloc_new _ _) (by kernel_rfl) rfl (by simp [abZ, Value.oneCell']) ?_; rw [World.setRow_alloc_new]))
    have hb2 := below_alloc w2 (.cells abZ 67)
    have N := Lib.hid (show RnM w (w2.alloc (.cells abZ 67)) cs t w2.heap.size (.slice none 0 0) (.slice none 0 0) [] [] from ⟨M.out.call hb2, heap_alloc_new _ _, bk_lt M.out.h4, ⟨_, _, _, rfl⟩, ⟨_, _, _, rfl⟩, prs_nil _, prs_nil _⟩)
    obtain ⟨g8, hg8⟩ : ∃ g, g = w2.heap.size := ⟨_, rfl⟩
    rw [← hg8] at N ⊢
    clear hg8 hb2 M
    generalize w2.alloc (.cells abZ 67) = w3 at *
    go_upto_region 6 with (first
      | (refine wpList_load_row rfl 29 (.tmp 2) rfl w.heap.size rfl 29 _ (0, 0) _ N.out.m.h2 Tryd.underlying29 rfl (by rw [csZ.out]; kernel_rfl) ?_)
      | (go_at_call 58; (with_reducible refine (HFI.out _ N.out.m.ro).mono ?_); rintro e w4 ⟨rfl, hb⟩; replace N := Lib.hid (N.out.call hb); clear hb))
    rcases Nat.eq_zero_or_pos n with h0 | h0
    · have hLZ := Lib.hid (hL0 h0)
      have hn0 : ¬ (0 : Int) < (n : Int) := by omega
      clear hL0 hL1 h0
      rcases Nat.lt_or_ge n ps.length with hr | hr
      · obtain ⟨PR, hRZ0, har⟩ := hR1 hr
        have hRZ := Lib.hid hRZ0
        have HAR := Lib.hid har
        have hrI : (n : Int) < (ps.length : Int) := by omega
        clear hR0 hR1 hRZ0 har
        go_upto_region 9 with (first
          | (refine wpList_load_row rfl 29 (.tmp 2) rfl w.heap.size rfl 29 _ (0, 0) _ N.out.m.h2 Tryd.underlying29 rfl (by rw [csZ.out]; kernel_rfl) ?_)
          | (go_at_call 53; (with_reducible refine (HPA.out _ N.out.m.ro).mono ?_); rintro e w9 ⟨r, rfl, ho, hb⟩; obtain ⟨ra, rc, rfl⟩ := (KVIn.of_own ho).len; replace N := Lib.hid (N.out.call hb); clear ho hb))
        refine wp_region_T (fun w' => w'.rangeAt w.heap.size 0 cs.toList ∧ w'.cell? ⟨g8, 1, none⟩ = some (.slice none 0 0)) [1, 2, 4, 5] (by kernel_rfl) ?_
        replace N := Lib.hid (N.out.call (Below.refl _ _).drew)
        generalize w9.drew = w10 at *
        refine anyT_takeY (i := 0) (v := .pointer (some ⟨g8, 1, none⟩)) rfl (by kernel_rfl) (by kernel_rfl) (by kernel_rfl) (fun _ _ _ h => h) (by kernel_rfl) (Or.inl ⟨by rfl, by intro w; go_simp⟩) ?_
        try simp only [List.getElem_toArray, List.getElem_cons_succ, List.getElem_cons_zero, Act.put, List.setIfInBounds_toArray, List.set_cons_zero, List.set_cons_succ]
        refine anyT_takeY (i := 3) (v := .int .i64 (n : Int)) rfl (by kernel_rfl) (by kernel_rfl) (by kernel_rfl) (fun _ _ _ h => h) (by kernel_rfl) (Or.inl ⟨by rfl, by intro w; go_simp⟩) ?_
        try simp only [List.getElem_toArray, List.getElem_cons_succ, List.getElem_cons_zero, Act.put, List.setIfInBounds_toArray, List.set_cons_zero, List.set_cons_succ]
        refine anyT_take [6, 7, 8] (i := 1) (v := .slice none 0 0) rfl (by kernel_rfl) (by kernel_rfl) (by kernel_rfl) (fun _ _ _ h => h) (by kernel_rfl) (Or.inl ⟨by rfl, fun w' hS => by have c := hS.2; go_simp⟩) ⟨row_range N.out.m.h2, N.out.cells.2.1⟩ ?_
        try simp only [List.getElem_toArray, List.getElem_cons_succ, List.getElem_cons_zero, Act.put, List.setIfInBounds_toArray, List.set_cons_zero, List.set_cons_succ]
        refine anyT_take [4, 5, 6, 7, 8] (i := 2) (v := .agg cs) rfl (by kernel_rfl) (by kernel_rfl) (by kernel_rfl) (fun _ _ _ h => h) (by kernel_rfl) (agg_mid (by rfl) 29 (.tmp 2) rfl w.heap.size 0 rfl _ _ (fun _ h => h.1) Tryd.underlying29 rfl (by rw [csZ.out]; kernel_rfl)) ⟨row_range N.out.m.h2, N.out.cells.2.1⟩ ?_
        try simp only [List.getElem_toArray, List.getElem_cons_succ, List.getElem_cons_zero, Act.put, List.setIfInBounds_toArray, List.set_cons_zero, List.set_cons_succ]
        refine anyT_one (i := 4) (by kernel_rfl) rfl (fun K hK => ?_)
        rw [if_pos (by rfl)]
        try simp only [List.getElem_toArray, List.getElem_cons_succ, List.getElem_cons_zero]
        (go_simp; (with_reducible refine (HAR.out _ (HE.out.below N.out.m.below HE.out.lt) N.out.m.ro).mono ?_); rintro e w11 ⟨ta, tc, rfl, hst, hb⟩; have HSR := Lib.hid hst; replace N := Lib.hid (N.out.call hb); clear hst hb)
        refine hK _ _ (fun _ => ⟨row_range N.out.m.h2, N.out.cells.2.1⟩) ?_
        clear hK K
        try simp only [List.getElem_toArray, List.getElem_cons_succ, List.getElem_cons_zero, Act.put, List.setIfInBounds_toArray, List.set_cons_zero, List.set_cons_succ]
        refine anyT_one (i := 5) (by kernel_rfl) rfl (fun K hK => ?_)
        rw [if_pos (by rfl)]
        try simp only [List.getElem_toArray, List.getElem_cons_succ, List.getElem_cons_zero]
        (refine wp_pr1 65 57 Tryd.underlying65 infoPr8 (.tmp 42) rfl PR.key PR.val ta PR.steps.length tc rfl ?_; replace N := Lib.hid (N.out.call (below_alloc w11 (.cells #[.string PR.key, .string PR.val, .slice ta PR.steps.length tc] 57))); replace HSR := Lib.hid (HSR.out.below (below_alloc w11 (.cells #[.string PR.key, .string PR.val, .slice ta PR.steps.length tc] 57))))
        refine hK _ _ (fun _ => ⟨row_range N.out.m.h2, N.out.cells.2.1⟩) ?_
        clear hK K
        try simp only [List.getElem_toArray, List.getElem_cons_succ, List.getElem_cons_zero, Act.put, List.setIfInBounds_toArray, List.set_cons_zero, List.set_cons_succ]
        refine anyT_one (i := 6) (by kernel_rfl) rfl (fun K hK => ?_)
        rw [if_pos (by rfl)]
        try simp only [List.getElem_toArray, List.getElem_cons_succ, List.getElem_cons_zero]
        (refine wp_append_pr 65 57 Tryd.underlying65 infoPr8 (.tmp 39) (.tmp 43) rfl rfl _ (.slice none 0 0) [] rfl (World.ownsRow_nil _ (w11.alloc (.cells #[.string PR.key, .string PR.val, .slice ta PR.steps.length tc] 57)).heap.size _ _) w11.heap.size (PR, .slice ta PR.steps.length tc) ⟨_, _, _, rfl⟩ rfl (heap_alloc_new w11 _) (by show (0 + 1) * 56 ≤ _; omega) (Nat.le_refl _) ?_; intro v12 w12 ho hgr; have hb := (Below.refl _ _).grown hgr (Nat.le_refl _) (fun j hj => by cases hj); have HQ := Lib.hid (show PrsIn w12 v12 [PR] from prs_of_own ho (fun t ht => by rw [List.mem_singleton.1 ht]; exact HSR.out.below hb)); replace N := Lib.hid (N.out.call hb); clear ho hgr hb)
        refine hK _ _ (not_mem rfl) ?_
        clear hK K
        try simp only [List.getElem_toArray, List.getElem_cons_succ, List.getElem_cons_zero, Act.put, List.setIfInBounds_toArray, List.set_cons_zero, List.set_cons_succ]
        refine anyT_takeY (i := 7) (v := .pointer (some ⟨g8, 1, none⟩)) rfl (by kernel_rfl) (by kernel_rfl) (by kernel_rfl) (fun _ _ _ h => h) (by kernel_rfl) (Or.inl ⟨by rfl, by intro w; go_simp⟩) ?_
        try simp only [List.getElem_toArray, List.getElem_cons_succ, List.getElem_cons_zero, Act.put, List.setIfInBounds_toArray, List.set_cons_zero, List.set_cons_succ]
        refine anyT_one (i := 8) (by kernel_rfl) rfl (fun K hK => ?_)
        rw [if_pos (by rfl)]
        try simp only [List.getElem_toArray, List.getElem_cons_succ, List.getElem_cons_zero]
        (obtain ⟨ua, uc, rfl, _⟩ := HQ.out.len; obtain ⟨k0, k1, f0, f1⟩ := N.out.cells; go_simp; clear k0 k1 f0 f1)
        refine hK _ _ (not_mem rfl) ?_
        clear hK K
        try simp only [List.getElem_toArray, List.getElem_cons_succ, List.getElem_cons_zero, Act.put, List.setIfInBounds_toArray, List.set_cons_zero, List.set_cons_succ]
        refine anyT_done (by kernel_rfl) ?_ _
        replace N := Lib.hid (N.out.setR _ [PR] ⟨_, _, _, rfl⟩ HQ.out)
        clear HQ HSR HAR hrI
        generalize w12.setCell ⟨g8, 1, none⟩ _ = w13 at *
        go_wp2_with (first
          | (refine wpList_load_row rfl 67 (.tmp 8) rfl g8 rfl 67 _ (0, 0) _ N.out.h8 Tryd.underlying67 rfl (by kernel_rfl) ?_)
          | (refine wpList_store_row rfl 67 (.tmp 4) (.tmp 46) rfl (w.heap.size + 1) #[.slice none 0 0, .slice ua 1 uc] rfl rfl 67 _ N.out.m.h4 (by kernel_rfl) rfl (by simp [Value.oneCell']) ?_))
        refine bodyPost_ret (results_cell_tmp_row rfl _ _ (w.heap.size + 1) 67 #[.slice none 0 0, .slice ua 1 uc] (0, 0) _ rfl (setRow_heap _ _ _ _ _ _ N.out.m.h4) Tryd.underlying67 rfl (by kernel_rfl)) rfl ?_
        exact ⟨_, _, rfl, ⟨_, _, _, rfl⟩, ⟨_, _, _, rfl⟩, by rw [hLZ.out]; exact prs_stay N.out.l N.out.m.h4 ⟨_, _, _, rfl⟩ ⟨_, _, _, rfl⟩ (fun k hk => setRow_other _ _ _ _ hk) (by simp [World.setRow]), by rw [hRZ.out]; exact prs_stay N.out.r N.out.m.h4 ⟨_, _, _, rfl⟩ ⟨_, _, _, rfl⟩ (fun k hk => setRow_other _ _ _ _ hk) (by simp [World.setRow]), below_setRow N.out.m.below (by omega) _⟩
      · have hRZ := Lib.hid (hR0 hr)
        have hrI : ¬ (n : Int) < (ps.length : Int) := by omega
        clear hR0 hR1
        go_wp2_with (first
          | (refine wpList_load_row rfl 29 (.tmp 2) rfl w.heap.size rfl 29 _ (0, 0) _ N.out.m.h2 Tryd.underlying29 rfl (by rw [csZ.out]; kernel_rfl) ?_)
          | (go_at_call 53; (with_reducible refine (HPA.out _ N.out.m.ro).mono ?_); rintro e w9 ⟨r, rfl, ho, hb⟩; obtain ⟨ra, rc, rfl⟩ := (KVIn.of_own ho).len; replace N := Lib.hid (N.out.call hb); clear ho hb)
          | (refine wpList_load_row rfl 67 (.tmp 8) rfl g8 rfl 67 _ (0, 0) _ N.out.h8 Tryd.underlying67 rfl (by kernel_rfl) ?_)
          | (refine wpList_store_row rfl 67 (.tmp 4) (.tmp 46) rfl (w.heap.size + 1) #[.slice none 0 0, .slice none 0 0] rfl rfl 67 _ N.out.m.h4 (by kernel_rfl) rfl (by simp [Value.oneCell']) ?_))
        refine bodyPost_ret (results_cell_tmp_row rfl _ _ (w.heap.size + 1) 67 #[.slice none 0 0, .slice none 0 0] (0, 0) _ rfl (setRow_heap _ _ _ _ _ _ N.out.m.h4) Tryd.underlying67 rfl (by kernel_rfl)) rfl ?_
        exact ⟨_, _, rfl, ⟨_, _, _, rfl⟩, ⟨_, _, _, rfl⟩, by rw [hLZ.out]; exact prs_stay N.out.l N.out.m.h4 ⟨_, _, _, rfl⟩ ⟨_, _, _, rfl⟩ (fun k hk => setRow_other _ _ _ _ hk) (by simp [World.setRow]), by rw [hRZ.out]; exact prs_stay N.out.r N.out.m.h4 ⟨_, _, _, rfl⟩ ⟨_, _, _, rfl⟩ (fun k hk => setRow_other _ _ _ _ hk) (by simp [World.setRow]), below_setRow N.out.m.below (by omega) _⟩
    · obtain ⟨PL, hLZ0, hal⟩ := hL1 h0
      have hLZ := Lib.hid hLZ0
      have HAL := Lib.hid hal
      have hn0 : (0 : Int) < (n : Int) := by omega
      clear hL0 hL1 hLZ0 hal
      go_upto_region 7 with (fail)
      refine wp_region_T (fun w' => w'.rangeAt w.heap.size 0 cs.toList ∧ w'.cell? ⟨g8, 0, none⟩ = some (.slice none 0 0)) [1, 2, 5, 6] (by kernel_rfl) ?_
      replace N := Lib.hid (N.out.call (Below.refl _ _).drew)
      generalize w4.drew = w5 at *
      refine anyT_takeY (i := 0) (v := .pointer (some ⟨g8, 0, none⟩)) rfl (by kernel_rfl) (by kernel_rfl) (by kernel_rfl) (fun _ _ _ h => h) (by kernel_rfl) (Or.inl ⟨by rfl, by intro w; go_simp⟩) ?_
      try simp only [List.getElem_toArray, List.getElem_cons_succ, List.getElem_cons_zero, Act.put, List.setIfInBounds_toArray, List.set_cons_zero, List.set_cons_succ]
      refine anyT_takeY (i := 3) (v := .int .i64 (n : Int)) rfl (by kernel_rfl) (by kernel_rfl) (by kernel_rfl) (fun _ _ _ h => h) (by kernel_rfl) (Or.inl ⟨by rfl, by intro w; go_simp⟩) ?_
      try simp only [List.getElem_toArray, List.getElem_cons_succ, List.getElem_cons_zero, Act.put, List.setIfInBounds_toArray, List.set_cons_zero, List.set_cons_succ]
      refine anyT_takeY (i := 4) (v := .int .i64 ((n : Int) - 1)) rfl (by kernel_rfl) (by kernel_rfl) (by kernel_rfl) (fun _ _ _ h => h) (by kernel_rfl) (Or.inl ⟨by rfl, by intro w; go_simp; exact IntWalk.i64_in _ (by omega)⟩) ?_
      try simp only [List.getElem_toArray, List.getElem_cons_succ, List.getElem_cons_zero, Act.put, List.setIfInBounds_toArray, List.set_cons_zero, List.set_cons_succ]
      refine anyT_take [7, 8, 9] (i := 1) (v := .slice none 0 0) rfl (by kernel_rfl) (by kernel_rfl) (by kernel_rfl) (fun _ _ _ h => h) (by kernel_rfl) (Or.inl ⟨by rfl, fun w' hS => by have c := hS.2; go_simp⟩) ⟨row_range N.out.m.h2, N.out.cells.1⟩ ?_
      try simp only [List.getElem_toArray, List.getElem_cons_succ, List.getElem_cons_zero, Act.put, List.setIfInBounds_toArray, List.set_cons_zero, List.set_cons_succ]
      refine anyT_take [5, 6, 7, 8, 9] (i := 2) (v := .agg cs) rfl (by kernel_rfl) (by kernel_rfl) (by kernel_rfl) (fun _ _ _ h => h) (by kernel_rfl) (agg_mid (by rfl) 29 (.tmp 2) rfl w.heap.size 0 rfl _ _ (fun _ h => h.1) Tryd.underlying29 rfl (by rw [csZ.out]; kernel_rfl)) ⟨row_range N.out.m.h2, N.out.cells.1⟩ ?_
      try simp only [List.getElem_toArray, List.getElem_cons_succ, List.getElem_cons_zero, Act.put, List.setIfInBounds_toArray, List.set_cons_zero, List.set_cons_succ]
      refine anyT_one (i := 5) (by kernel_rfl) rfl (fun K hK => ?_)
      rw [if_pos (by rfl)]
      try simp only [List.getElem_toArray, List.getElem_cons_succ, List.getElem_cons_zero]
      (go_simp; (with_reducible refine (HAL.out _ (HE.out.below N.out.m.below HE.out.lt) N.out.m.ro).mono ?_); rintro e w6 ⟨sa, sc, rfl, hst, hb⟩; have HST := Lib.hid hst; replace N := Lib.hid (N.out.call hb); clear hst hb)
      refine hK _ _ (fun _ => ⟨row_range N.out.m.h2, N.out.cells.1⟩) ?_
      clear hK K
      try simp only [List.getElem_toArray, List.getElem_cons_succ, List.getElem_cons_zero, Act.put, List.setIfInBounds_toArray, List.set_cons_zero, List.set_cons_succ]
      refine anyT_one (i := 6) (by kernel_rfl) rfl (fun K hK => ?_)
      rw [if_pos (by rfl)]
      try simp only [List.getElem_toArray, List.getElem_cons_succ, List.getElem_cons_zero]
      (refine wp_pr1 65 57 Tryd.underlying65 infoPr8 (.tmp 29) rfl PL.key PL.val sa PL.steps.length sc rfl ?_; replace N := Lib.hid (N.out.call (below_alloc w6 (.cells #[.string PL.key, .string PL.val, .slice sa PL.steps.length sc] 57))); replace HST := Lib.hid (HST.out.below (below_alloc w6 (.cells #[.string PL.key, .string PL.val, .slice sa PL.steps.length sc] 57))))
      refine hK _ _ (fun _ => ⟨row_range N.out.m.h2, N.out.cells.1⟩) ?_
      clear hK K
      try simp only [List.getElem_toArray, List.getElem_cons_succ, List.getElem_cons_zero, Act.put, List.setIfInBounds_toArray, List.set_cons_zero, List.set_cons_succ]
      refine anyT_one (i := 7) (by kernel_rfl) rfl (fun K hK => ?_)
      rw [if_pos (by rfl)]
      try simp only [List.getElem_toArray, List.getElem_cons_succ, List.getElem_cons_zero]
      (refine wp_append_pr 65 57 Tryd.underlying65 infoPr8 (.tmp 25) (.tmp 30) rfl rfl _ (.slice none 0 0) [] rfl (World.ownsRow_nil _ (w6.alloc (.cells #[.string PL.key, .string PL.val, .slice sa PL.steps.length sc] 57)).heap.size _ _) w6.heap.size (PL, .slice sa PL.steps.length sc) ⟨_, _, _, rfl⟩ rfl (heap_alloc_new w6 _) (by show (0 + 1) * 56 ≤ _; omega) (Nat.le_refl _) ?_; intro v7 w7 ho hgr; have hb := (Below.refl _ _).grown hgr (Nat.le_refl _) (fun j hj => by cases hj); have HL := Lib.hid (show PrsIn w7 v7 [PL] from prs_of_own ho (fun t ht => by rw [List.mem_singleton.1 ht]; exact HST.out.below hb)); replace N := Lib.hid (N.out.call hb); clear ho hgr hb)
      refine hK _ _ (not_mem rfl) ?_
      clear hK K
      try simp only [List.getElem_toArray, List.getElem_cons_succ, List.getElem_cons_zero, Act.put, List.setIfInBounds_toArray, List.set_cons_zero, List.set_cons_succ]
      refine anyT_takeY (i := 8) (v := .pointer (some ⟨g8, 0, none⟩)) rfl (by kernel_rfl) (by kernel_rfl) (by kernel_rfl) (fun _ _ _ h => h) (by kernel_rfl) (Or.inl ⟨by rfl, by intro w; go_simp⟩) ?_
      try simp only [List.getElem_toArray, List.getElem_cons_succ, List.getElem_cons_zero, Act.put, List.setIfInBounds_toArray, List.set_cons_zero, List.set_cons_succ]
      refine anyT_one (i := 9) (by kernel_rfl) rfl (fun K hK => ?_)
      rw [if_pos (by rfl)]
      try simp only [List.getElem_toArray, List.getElem_cons_succ, List.getElem_cons_zero]
      (obtain ⟨va, vc, rfl, _⟩ := HL.out.len; obtain ⟨k0, k1, f0, f1⟩ := N.out.cells; go_simp; clear k0 k1 f0 f1)
      refine hK _ _ (not_mem rfl) ?_
      clear hK K
      try simp only [List.getElem_toArray, List.getElem_cons_succ, List.getElem_cons_zero, Act.put, List.setIfInBounds_toArray, List.set_cons_zero, List.set_cons_succ]
      refine anyT_done (by kernel_rfl) ?_ _
      replace N := Lib.hid (N.out.setL _ [PL] ⟨_, _, _, rfl⟩ HL.out)
      clear HL HST HAL hn0
      generalize w7.setCell ⟨g8, 0, none⟩ _ = w8 at *
      rcases Nat.lt_or_ge n ps.length with hr | hr
      · obtain ⟨PR, hRZ0, har⟩ := hR1 hr
        have hRZ := Lib.hid hRZ0
        have HAR := Lib.hid har
        have hrI : (n : Int) < (ps.length : Int) := by omega
        clear hR0 hR1 hRZ0 har
        go_upto_region 9 with (first
          | (refine wpList_load_row rfl 29 (.tmp 2) rfl w.heap.size rfl 29 _ (0, 0) _ N.out.m.h2 Tryd.underlying29 rfl (by rw [csZ.out]; kernel_rfl) ?_)
          | (go_at_call 53; (with_reducible refine (HPA.out _ N.out.m.ro).mono ?_); rintro e w9 ⟨r, rfl, ho, hb⟩; obtain ⟨ra, rc, rfl⟩ := (KVIn.of_own ho).len; replace N := Lib.hid (N.out.call hb); clear ho hb))
        refine wp_region_T (fun w' => w'.rangeAt w.heap.size 0 cs.toList ∧ w'.cell? ⟨g8, 1, none⟩ = some (.slice none 0 0)) [1, 2, 4, 5] (by kernel_rfl) ?_
        replace N := Lib.hid (N.out.call (Below.refl _ _).drew)
        generalize w9.drew = w10 at *
        refine anyT_takeY (i := 0) (v := .pointer (some ⟨g8, 1, none⟩)) rfl (by kernel_rfl) (by kernel_rfl) (by kernel_rfl) (fun _ _ _ h => h) (by kernel_rfl) (Or.inl ⟨by rfl, by intro w; go_simp⟩) ?_
        try simp only [List.getElem_toArray, List.getElem_cons_succ, List.getElem_cons_zero, Act.put, List.setIfInBounds_toArray, List.set_cons_zero, List.set_cons_succ]
        refine anyT_takeY (i := 3) (v := .int .i64 (n : Int)) rfl (by kernel_rfl) (by kernel_rfl) (by kernel_rfl) (fun _ _ _ h => h) (by kernel_rfl) (Or.inl ⟨by rfl, by intro w; go_simp⟩) ?_
        try simp only [List.getElem_toArray, List.getElem_cons_succ, List.getElem_cons_zero, Act.put, List.setIfInBounds_toArray, List.set_cons_zero, List.set_cons_succ]
        refine anyT_take [6, 7, 8] (i := 1) (v := .slice none 0 0) rfl (by kernel_rfl) (by kernel_rfl) (by kernel_rfl) (fun _ _ _ h => h) (by kernel_rfl) (Or.inl ⟨by rfl, fun w' hS => by have c := hS.2; go_simp⟩) ⟨row_range N.out.m.h2, N.out.cells.2.1⟩ ?_
        try simp only [List.getElem_toArray, List.getElem_cons_succ, List.getElem_cons_zero, Act.put, List.setIfInBounds_toArray, List.set_cons_zero, List.set_cons_succ]
        refine anyT_take [4, 5, 6, 7, 8] (i := 2) (v := .agg cs) rfl (by kernel_rfl) (by kernel_rfl) (by kernel_rfl) (fun _ _ _ h => h) (by kernel_rfl) (agg_mid (by rfl) 29 (.tmp 2) rfl w.heap.size 0 rfl _ _ (fun _ h => h.1) Tryd.underlying29 rfl (by rw [csZ.out]; kernel_rfl)) ⟨row_range N.out.m.h2, N.out.cells.2.1⟩ ?_
        try simp only [List.getElem_toArray, List.getElem_cons_succ, List.getElem_cons_zero, Act.put, List.setIfInBounds_toArray, List.set_cons_zero, List.set_cons_succ]
        refine anyT_one (i := 4) (by kernel_rfl) rfl (fun K hK => ?_)
        rw [if_pos (by rfl)]
        try simp only [List.getElem_toArray, List.getElem_cons_succ, List.getElem_cons_zero]
        (go_simp; (with_reducible refine (HAR.out _ (HE.out.below N.out.m.below HE.out.lt) N.out.m.ro).mono ?_); rintro e w11 ⟨ta, tc, rfl, hst, hb⟩; have HSR := Lib.hid hst; replace N := Lib.hid (N.out.call hb); clear hst hb)
        refine hK _ _ (fun _ => ⟨row_range N.out.m.h2, N.out.cells.2.1⟩) ?_
        clear hK K
        try simp only [List.getElem_toArray, List.getElem_cons_succ, List.getElem_cons_zero, Act.put, List.setIfInBounds_toArray, List.set_cons_zero, List.set_cons_succ]
        refine anyT_one (i := 5) (by kernel_rfl) rfl (fun K hK => ?_)
        rw [if_pos (by rfl)]
        try simp only [List.getElem_toArray, List.getElem_cons_succ, List.getElem_cons_zero]
        (refine wp_pr1 65 57 Tryd.underlying65 infoPr8 (.tmp 42) rfl PR.key PR.val ta PR.steps.length tc rfl ?_; replace N := Lib.hid (N.out.call (below_alloc w11 (.cells #[.string PR.key, .string PR.val, .slice ta PR.steps.length tc] 57))); replace HSR := Lib.hid (HSR.out.below (below_alloc w11 (.cells #[.string PR.key, .string PR.val, .slice ta PR.steps.length tc] 57))))
        refine hK _ _ (fun _ => ⟨row_range N.out.m.h2, N.out.cells.2.1⟩) ?_
        clear hK K
        try simp only [List.getElem_toArray, List.getElem_cons_succ, List.getElem_cons_zero, Act.put, List.setIfInBounds_toArray, List.set_cons_zero, List.set_cons_succ]
        refine anyT_one (i := 6) (by kernel_rfl) rfl (fun K hK => ?_)
        rw [if_pos (by rfl)]
        try simp only [List.getElem_toArray, List.getElem_cons_succ, List.getElem_cons_zero]
        (refine wp_append_pr 65 57 Tryd.underlying65 infoPr8 (.tmp 39) (.tmp 43) rfl rfl _ (.slice none 0 0) [] rfl (World.ownsRow_nil _ (w11.alloc (.cells #[.string PR.key, .string PR.val, .slice ta PR.steps.length tc] 57)).heap.size _ _) w11.heap.size (PR, .slice ta PR.steps.length tc) ⟨_, _, _, rfl⟩ rfl (heap_alloc_new w11 _) (by show (0 + 1) * 56 ≤ _; omega) (Nat.le_refl _) ?_; intro v12 w12 ho hgr; have hb := (Below.refl _ _).grown hgr (Nat.le_refl _) (fun j hj => by cases hj); have HQ := Lib.hid (show PrsIn w12 v12 [PR] from prs_of_own ho (fun t ht => by rw [List.mem_singleton.1 ht]; exact HSR.out.below hb)); replace N := Lib.hid (N.out.call hb); clear ho hgr hb)
        refine hK _ _ (not_mem rfl) ?_
        clear hK K
        try simp only [List.getElem_toArray, List.getElem_cons_succ, List.getElem_cons_zero, Act.put, List.setIfInBounds_toArray, List.set_cons_zero, List.set_cons_succ]
        refine anyT_takeY (i := 7) (v := .pointer (some ⟨g8, 1, none⟩)) rfl (by kernel_rfl) (by kernel_rfl) (by kernel_rfl) (fun _ _ _ h => h) (by kernel_rfl) (Or.inl ⟨by rfl, by intro w; go_simp⟩) ?_
        try simp only [List.getElem_toArray, List.getElem_cons_succ, List.getElem_cons_zero, Act.put, List.setIfInBounds_toArray, List.set_cons_zero, List.set_cons_succ]
        refine anyT_one (i := 8) (by kernel_rfl) rfl (fun K hK => ?_)
        rw [if_pos (by rfl)]
        try simp only [List.getElem_toArray, List.getElem_cons_succ, List.getElem_cons_zero]
        (obtain ⟨ua, uc, rfl, _⟩ := HQ.out.len; obtain ⟨k0, k1, f0, f1⟩ := N.out.cells; go_simp; clear k0 k1 f0 f1)
        refine hK _ _ (not_mem rfl) ?_
        clear hK K
        try simp only [List.getElem_toArray, List.getElem_cons_succ, List.getElem_cons_zero, Act.put, List.setIfInBounds_toArray, List.set_cons_zero, List.set_cons_succ]
        refine anyT_done (by kernel_rfl) ?_ _
        replace N := Lib.hid (N.out.setR _ [PR] ⟨_, _, _, rfl⟩ HQ.out)
        clear HQ HSR HAR hrI
        generalize w12.setCell ⟨g8, 1, none⟩ _ = w13 at *
        go_wp2_with (first
          | (refine wpList_load_row rfl 67 (.tmp 8) rfl g8 rfl 67 _ (0, 0) _ N.out.h8 Tryd.underlying67 rfl (by kernel_rfl) ?_)
          | (refine wpList_store_row rfl 67 (.tmp 4) (.tmp 46) rfl (w.heap.size + 1) #[.slice va 1 vc, .slice ua 1 uc] rfl rfl 67 _ N.out.m.h4 (by kernel_rfl) rfl (by simp [Value.oneCell']) ?_))
        refine bodyPost_ret (results_cell_tmp_row rfl _ _ (w.heap.size + 1) 67 #[.slice va 1 vc, .slice ua 1 uc] (0, 0) _ rfl (setRow_heap _ _ _ _ _ _ N.out.m.h4) Tryd.underlying67 rfl (by kernel_rfl)) rfl ?_
        exact ⟨_, _, rfl, ⟨_, _, _, rfl⟩, ⟨_, _, _, rfl⟩, by rw [hLZ.out]; exact prs_stay N.out.l N.out.m.h4 ⟨_, _, _, rfl⟩ ⟨_, _, _, rfl⟩ (fun k hk => setRow_other _ _ _ _ hk) (by simp [World.setRow]), by rw [hRZ.out]; exact prs_stay N.out.r N.out.m.h4 ⟨_, _, _, rfl⟩ ⟨_, _, _, rfl⟩ (fun k hk => setRow_other _ _ _ _ hk) (by simp [World.setRow]), below_setRow N.out.m.below (by omega) _⟩
      · have hRZ := Lib.hid (hR0 hr)
        have hrI : ¬ (n : Int) < (ps.length : Int) := by omega
        clear hR0 hR1
        go_wp2_with (first
          | (refine wpList_load_row rfl 29 (.tmp 2) rfl w.heap.size rfl 29 _ (0, 0) _ N.out.m.h2 Tryd.underlying29 rfl (by rw [csZ.out]; kernel_rfl) ?_)
          | (go_at_call 53; (with_reducible refine (HPA.out _ N.out.m.ro).mono ?_); rintro e w9 ⟨r, rfl, ho, hb⟩; obtain ⟨ra, rc, rfl⟩ := (KVIn.of_own ho).len; replace N := Lib.hid (N.out.call hb); clear ho hb)
          | (refine wpList_load_row rfl 67 (.tmp 8) rfl g8 rfl 67 _ (0, 0) _ N.out.h8 Tryd.underlying67 rfl (by kernel_rfl) ?_)
          | (refine wpList_store_row rfl 67 (.tmp 4) (.tmp 46) rfl (w.heap.size + 1) #[.slice va 1 vc, .slice none 0 0] rfl rfl 67 _ N.out.m.h4 (by kernel_rfl) rfl (by simp [Value.oneCell']) ?_))
        refine bodyPost_ret (results_cell_tmp_row rfl _ _ (w.heap.size + 1) 67 #[.slice va 1 vc, .slice none 0 0] (0, 0) _ rfl (setRow_heap _ _ _ _ _ _ N.out.m.h4) Tryd.underlying67 rfl (by kernel_rfl)) rfl ?_
        exact ⟨_, _, rfl, ⟨_, _, _, rfl⟩, ⟨_, _, _, rfl⟩, by rw [hLZ.out]; exact prs_stay N.out.l N.out.m.h4 ⟨_, _, _, rfl⟩ ⟨_, _, _, rfl⟩ (fun k hk => setRow_other _ _ _ _ hk) (by simp [World.setRow]), by rw [hRZ.out]; exact prs_stay N.out.r N.out.m.h4 ⟨_, _, _, rfl⟩ ⟨_, _, _, rfl⟩ (fun k hk => setRow_other _ _ _ _ hk) (by simp [World.setRow]), below_setRow N.out.m.below (by omega) _⟩
end Go.Proofs.YtfmfemmknccfmaaDoor
