/- Part 17 of the proof. -/
import Derived.Test.YtabflppnecemkaaGreatDoorPb11
import Derived.Test.YtabflppnecemkaaGreatDoorPb12
import Derived.Test.YtabflppnecemkaaGreatDoorPb13
import Derived.Test.YtabflppnecemkaaGreatDoorPb14
import Derived.Test.YtabflppnecemkaaGreatDoorPb16
namespace Go.Proofs.YtabflppnecemkaaGreatDoor
set_option linter.unusedVariables false
set_option linter.unusedSimpArgs false
open Go.RowKit
set_option maxRecDepth 100000
set_option linter.unusedSimpArgs false
set_option linter.unusedVariables false
/-- the proof of the pair at a place, or none -/
def atP (t : Option AvT) (i : Int) : List PvP := if 0 ≤ i ∧ i < manyO t then [⟨(atO t i).1.1, (atO t i).1.2, (pathO t i).1⟩] else []
theorem atO_in {t : Option AvT} {i : Int} (h : 0 ≤ i ∧ i < manyO t) : (atO t i).2 = none ∧ (pathO t i).2 = none := by
  cases t with
  | none => exact absurd h.2 (by show ¬ i < ((0 : Nat) : Int); omega)
  | some t =>
    have h' : 0 ≤ i ∧ i < (t.many : Int) := h
    unfold atO pathO
    dsimp only
    rw [if_pos h', if_pos h']
    exact ⟨rfl, rfl⟩
theorem atO_out {t : Option AvT} {i : Int} (h : ¬ (0 ≤ i ∧ i < manyO t)) : (atO t i).2 = some 1 := by
  cases t with
  | none => rfl
  | some t =>
    have h' : ¬ (0 ≤ i ∧ i < (t.many : Int)) := h
    unfold atO
    dsimp only
    rw [if_neg h']
theorem pr_built (k v : ByteArray) (a : Option Addr) (n c : Nat) : Tryz.prog.built 31 [(0, .string k), (1, .string v), (2, .slice a n c)] = some #[.string k, .string v, .slice a n c] := by kernel_rfl
theorem infoPr : (Tryz.prog.info? 31).map (fun i => (i.zero, i.size, i.bytes)) = some (some (.agg #[.string { data := #[] }, .string { data := #[] }, .slice none 0 0]), 3, 56) := by kernel_rfl
theorem pr_fill (k v : ByteArray) (a : Option Addr) (n c : Nat) : Instr.fill (fun i => some (i * 3, 3)) ((Array.range (1 * 3)).map ((Value.agg #[.string { data := #[] }, .string { data := #[] }, .slice none 0 0]).cells[· % (Value.agg #[.string { data := #[] }, .string { data := #[] }, .slice none 0 0]).cells.size]!)) [(0, .agg #[.string k, .string v, .slice a n c])] = some #[.string k, .string v, .slice a n c] := by kernel_rfl
theorem wpList_pr1 {w : World} {ops : Array Oper} {rest : List Oper} {o : Oper} {a : Act} {Q : Exit → Act → World → Prop} (hgd : o.guard = none) (x : Operand) (ho : o.op = .buildSlice 38 1 #[(0, x)]) (k v : ByteArray) (sa : Option Addr) (n c : Nat) (hx : a.eval x = .agg #[.string k, .string v, .slice sa n c])
    (h : wpList Tryz.prog ops Q rest (a.put o.dst (.slice (some ⟨w.heap.size, 0, none⟩) 1 1)) (w.alloc (.cells #[.string k, .string v, .slice sa n c] 31))) : wpList Tryz.prog ops Q (o :: rest) a w := by
  refine wpList_plain hgd fun K hK => ?_
  obtain ⟨i0, hi, hz0, hz1, hz2⟩ := info_parts infoPr
  refine wp_buildSlice 38 31 1 #[(0, x)] ho #[.string k, .string v, .slice sa n c] i0 _ Tryz.underlying38 hi hz0 (by rw [hz1]; decide) (by rw [hz1]; decide) ?_ (hK _ _ h)
  rw [hz1]
  simpa [hx] using pr_fill k v sa n c
set_option maxHeartbeats 4000000 in
theorem at8_any (va : Value) (t : Option AvT) (i : Int) (w : World) (ht : TreeO w va t) (hm : manyO t ≤ 1099511627776) :
    Calls Tryz.prog 73 #[va, .int .i64 i] w fun e w' => ∃ v, e = .returned v ∧ PrsIn w' v (atP t i) ∧ Below w.heap.size w w' := by
  have HAT := Lib.hid (fun w h => at_any va t i w h (by omega))
  have HPA := Lib.hid (fun w h => path_any7 va t i w h hm)
  unfold AtPost at HAT
  unfold PathPost at HPA
  have HT := Lib.hid ht
  obtain ⟨p, rfl⟩ : ∃ p, va = .pointer p := by
    cases t with
    | none => exact ⟨_, ht⟩
    | some t => obtain ⟨g, e, _⟩ := ht; exact ⟨_, e⟩
  clear ht hm
  obtain ⟨pa, hpa⟩ : ∃ q, q = (atO t i).1 := ⟨_, rfl⟩
  obtain ⟨ea, hea⟩ : ∃ q, q = (atO t i).2 := ⟨_, rfl⟩
  obtain ⟨S, hS⟩ : ∃ q, q = (pathO t i).1 := ⟨_, rfl⟩
  obtain ⟨ec, hec⟩ : ∃ q, q = (pathO t i).2 := ⟨_, rfl⟩
  rw [← hpa, ← hea] at HAT
  rw [← hS, ← hec] at HPA
  by_cases hin : 0 ≤ i ∧ i < manyO t
  · have h2 := atO_in hin
    rw [← hea, ← hec] at h2
    obtain ⟨rfl, rfl⟩ := h2
    have HAP := Lib.hid (show atP t i = [⟨pa.1, pa.2, S⟩] from by unfold atP; rw [if_pos hin, hpa, hS])
    simp only [errV] at HAT HPA
    clear hin hpa hea hS hec
    go_enter Tryz.func73, Tryz.ntmps73
    go_upto_region 2 with (first
      | (go_at_call 89; (with_reducible refine (HAT.out _ HT.out).mono ?_); rintro e w2 ⟨rfl, hb⟩; have HB := Lib.hid hb; clear hb)
      | (refine wpList_store_row rfl 169 (.tmp 5) (.tmp 12) rfl w2.heap.size (kvC pa) rfl rfl 169 _ (heap_alloc_new _ _) (by kernel_rfl) rfl (kvC_one _) ?_; rw [World.setRow_alloc_new]))
    have H5 := Lib.hid (heap_alloc_new w2 (.cells (kvC pa) 169))
    replace HB := Lib.hid (HB.out.trans ((below_alloc w2 (.cells (kvC pa) 169)).mono HB.out.size))
    obtain ⟨g, hg⟩ : ∃ g, g = w2.heap.size := ⟨_, rfl⟩
    rw [← hg] at H5 ⊢
    clear hg
    generalize w2.alloc (.cells (kvC pa) 169) = w3 at *
    go_upto_region 7 with (go_at_call 90; (with_reducible refine (HPA.out _ (HT.out.below HB.out)).mono ?_); rintro e w4 ⟨sv, rfl, hst, hb⟩; replace H5 := Lib.hid ((hb.block _ (bk_lt H5.out)).trans H5.out); replace HB := Lib.hid (HB.out.trans (hb.mono HB.out.size)); have HST := Lib.hid hst; clear hb hst)
    obtain ⟨sa, sc, rfl⟩ := HST.out.len
    have c0 : w4.cell? ⟨g, 0, none⟩ = some (.string pa.1) := cell_of_row w4 g 0 _ _ _ H5.out
    have c1 : w4.cell? ⟨g, 1, none⟩ = some (.string pa.2) := cell_of_row w4 g 1 _ _ _ H5.out
    have hbu := pr_built pa.1 pa.2 sa S.length sc
    go_wp2_with (first
      | (refine wpList_pr1 rfl (.tmp 29) rfl pa.1 pa.2 sa S.length sc rfl ?_))
    go_ret
    refine ⟨_, rfl, ?_, HB.out.trans ((below_alloc w4 _).mono HB.out.size)⟩
    rw [HAP.out]
    refine ⟨_, _, rfl, by simp [maxLen], .inr ⟨w4.heap.size, 0, rfl, by simp, fun k p hk => ?_⟩⟩
    cases k with
    | zero =>
      injection hk with hk
      subst hk
      refine ⟨.slice sa S.length sc, fun j v hv => ?_, HST.out.below (below_alloc w4 _)⟩
      rw [cell_of_row _ w4.heap.size _ _ _ _ (heap_alloc_new w4 _)]
      simpa using hv
    | succ k => cases hk
  · have h2 := atO_out hin
    rw [← hea] at h2
    subst h2
    have HAP := Lib.hid (show atP t i = [] from by unfold atP; rw [if_neg hin])
    simp only [errV] at HAT
    clear hin hpa hea hS hec
    go_enter Tryz.func73, Tryz.ntmps73
    go_wp2_with (first
      | (go_at_call 89; (with_reducible refine (HAT.out _ HT.out).mono ?_); rintro e w2 ⟨rfl, hb⟩; have HB := Lib.hid hb; clear hb)
      | (refine wpList_store_row rfl 169 (.tmp 5) (.tmp 12) rfl w2.heap.size (kvC pa) rfl rfl 169 _ (heap_alloc_new _ _) (by kernel_rfl) rfl (kvC_one _) ?_; rw [World.setRow_alloc_new]))
    go_ret
    exact ⟨_, rfl, by rw [HAP.out]; exact ⟨none, 0, rfl, by simp, .inl rfl⟩, HB.out.trans ((below_alloc w2 _).mono HB.out.size)⟩
end Go.Proofs.YtabflppnecemkaaGreatDoor
namespace Go.Proofs.YtabflppnecemkaaGreatDoor
set_option linter.unusedVariables false
set_option linter.unusedSimpArgs false
open Go.RowKit
set_option maxRecDepth 100000
set_option linter.unusedSimpArgs false
set_option linter.unusedVariables false
def prZ : Array Value := #[.string { data := #[] }, .string { data := #[] }, .slice none 0 0]
def abZ : Array Value := #[.slice none 0 0, .slice none 0 0]
theorem setCell_size (w : World) (a : Addr) (v : Value) : (w.setCell a v).heap.size = w.heap.size := by
  unfold World.setCell; split <;> simp
/-- a proof and its steps' slice: the cells -/
abbrev PV := PvP × Value
def pvCells (t : PV) : List Value := [.string t.1.key, .string t.1.val, t.2]
def flatPr (l : List PV) : List Value := l.flatMap pvCells
theorem flatPr_append (a b : List PV) : flatPr (a ++ b) = flatPr a ++ flatPr b := List.flatMap_append
theorem flatPr_get : ∀ (l : List PV) (i : Nat) (t : PV), l[i]? = some t → ∀ j, j < 3 → (flatPr l)[i * 3 + j]? = (pvCells t)[j]?
  | [], i, t, h, j, hj => by simp at h
  | x :: l, 0, t, h, j, hj => by
    injection h with h; subst h
    show (pvCells x ++ flatPr l)[0 * 3 + j]? = _
    rw [Nat.zero_mul, Nat.zero_add, List.getElem?_append_left (by show j < 3; exact hj)]
  | x :: l, i + 1, t, h, j, hj => by
    show (pvCells x ++ flatPr l)[(i + 1) * 3 + j]? = _
    rw [List.getElem?_append_right (by show 3 ≤ _; omega), show (i + 1) * 3 + j - (pvCells x).length = i * 3 + j from by show _ - 3 = _; omega]
    exact flatPr_get l i t (by simpa using h) j hj
theorem prs_of_own {w : World} {B : Nat} {E : TypeId} {v : Value} {l : List PV} (h : w.ownsRow B E 3 v l.length (flatPr l)) (hs : ∀ t ∈ l, StIn w t.2 t.1.steps) : PrsIn w v (l.map (·.1)) := by
  rcases h.2 with ⟨rfl, h0⟩ | ⟨tb, cap, cur, rfl, _, hh, hc, hm, _⟩
  · obtain rfl := List.eq_nil_of_length_eq_zero h0
    exact ⟨none, 0, rfl, by simp, .inl rfl⟩
  · refine ⟨_, cap, by simp, by simp; omega, .inr ⟨tb, 0, rfl, (Array.getElem?_eq_some_iff.1 hh).1, fun i p hi => ?_⟩⟩
    rw [List.getElem?_map] at hi
    cases hl : l[i]? with
    | none => rw [hl] at hi; cases hi
    | some t =>
      rw [hl] at hi
      injection hi with hi
      subst hi
      refine ⟨t.2, fun j u hu => ?_, hs t (List.mem_of_getElem? hl)⟩
      have hj : j < 3 := by have := (List.getElem?_eq_some_iff.1 hu).1; exact this
      have e := h.cells (g := tb) rfl (i * 3 + j) u ((flatPr_get l i t hl j hj).trans hu)
      rw [Addr.add_mid] at e
      rw [Nat.add_assoc]; exact e
theorem pv_slice {w : World} {v : Value} {l : List AvS} (h : StIn w v l) : ∃ a n c, v = .slice a n c := by obtain ⟨a, c, e⟩ := h.len; exact ⟨_, _, _, e⟩
def zPr : Value := .agg #[.string { data := #[] }, .string { data := #[] }, .slice none 0 0]
theorem run_append_pr (T E : TypeId) (hT : Tryz.prog.underlying T = some (.slice E)) (hI : (Tryz.prog.info? E).map (fun i => (i.zero, i.size, i.bytes)) = some (some zPr, 3, 56)) (w : World) (base : Nat) (v : Value) (l : List PV) (hown : w.ownsRow base E 3 v l.length (flatPr l)) (b : Nat) (x : PV) (hx : ∃ a n c, x.2 = .slice a n c)
    (hy : w.heap[b]? = some (.cells #[.string x.1.key, .string x.1.val, x.2] E (0, 0))) (hl : (l.length + 1) * 56 ≤ 140737488355328) (hb : base ≤ w.heap.size) :
    ∃ v' w', (Builtin.append_ #[T, T] T #[v, .slice (some ⟨b, 0, none⟩) 1 1]).run Tryz.prog w = .ok v' w' ∧ w'.ownsRow base E 3 v' (l ++ [x]).length (flatPr (l ++ [x])) ∧ w.grownBy w' v.ownBlock := by
  obtain ⟨i0, hi, hz0, hz1, hz2⟩ := info_parts hI
  obtain ⟨a, n, c, hx⟩ := hx
  obtain ⟨v', w', hr, h1, h2, _, _⟩ := run_append_own_at w base T T E i0 _ 3 56 hT hi hz0 hz1 hz2 (by simp [zPr, Value.cells]) (by decide) v l.length (flatPr l) hown ⟨b, 0, none⟩ 1 1 (pvCells x) (by rfl)
    (fun j u hj => by rw [Addr.add_mid, Nat.zero_add, cell_of_row w b j _ _ _ hy]; simpa [pvCells] using hj) (by intro u hu; simp only [pvCells, hx, List.mem_cons, List.not_mem_nil, or_false] at hu; rcases hu with rfl | rfl | rfl <;> rfl) (by unfold maxLen; omega) hl hb
  refine ⟨v', w', hr, ?_, h2⟩
  rw [List.length_append, flatPr_append, show flatPr [x] = pvCells x from by simp [flatPr]]
  exact h1
theorem wp_append_pr {w : World} {o : Oper} {a : Act} {K : Act → World → Prop} {Q : Exit → Act → World → Prop} (T E : TypeId) (hT : Tryz.prog.underlying T = some (.slice E)) (hI : (Tryz.prog.info? E).map (fun i => (i.zero, i.size, i.bytes)) = some (some zPr, 3, 56)) (s y : Operand)
    (ho : o.op = .call { callee := .builtin .append, args := #[s, y], argTypes := #[T, T] }) (hty : o.type = T)
    (base : Nat) (v : Value) (l : List PV) (hs : a.eval s = v) (hown : w.ownsRow base E 3 v l.length (flatPr l)) (b : Nat) (x : PV) (hxs : ∃ a n c, x.2 = .slice a n c) (hy : a.eval y = .slice (some ⟨b, 0, none⟩) 1 1) (hyb : w.heap[b]? = some (.cells #[.string x.1.key, .string x.1.val, x.2] E (0, 0))) (hl : (l.length + 1) * 56 ≤ 140737488355328) (hb : base ≤ w.heap.size)
    (h : ∀ v' w', w'.ownsRow base E 3 v' (l ++ [x]).length (flatPr (l ++ [x])) → w.grownBy w' v.ownBlock → K (a.put o.dst v') w') : o.wp Tryz.prog a w K Q := by
  obtain ⟨v', w', hr, h1, h2⟩ := run_append_pr T E hT hI w base v l hown b x hxs hyb hl hb
  unfold Oper.wp execOp
  simp only [ho, hty, resolve, invoke, builtin, Sem.run_bind, Sem.run_pure, Result.andThen_ok, List.map_toArray, List.map_cons, List.map_nil, hs, hy, hr]
  exact h v' w' h1 h2
theorem prs_fill (k v : ByteArray) (a : Option Addr) (n c : Nat) : Instr.fill (fun i => some (i * 3, 3)) ((Array.range (1 * 3)).map (zPr.cells[· % zPr.cells.size]!)) [(0, .agg #[.string k, .string v, .slice a n c])] = some #[.string k, .string v, .slice a n c] := by kernel_rfl
theorem wp_pr1 {o : Oper} {a : Act} {w : World} {K : Act → World → Prop} {Q : Exit → Act → World → Prop} (T E : TypeId) (hT : Tryz.prog.underlying T = some (.slice E)) (hI : (Tryz.prog.info? E).map (fun i => (i.zero, i.size, i.bytes)) = some (some zPr, 3, 56)) (x : Operand) (ho : o.op = .buildSlice T 1 #[(0, x)]) (k v : ByteArray) (sa : Option Addr) (n c : Nat) (hx : a.eval x = .agg #[.string k, .string v, .slice sa n c])
    (h : K (a.put o.dst (.slice (some ⟨w.heap.size, 0, none⟩) 1 1)) (w.alloc (.cells #[.string k, .string v, .slice sa n c] E))) : o.wp Tryz.prog a w K Q := by
  obtain ⟨i0, hi, hz0, hz1, hz2⟩ := info_parts hI
  refine wp_buildSlice T E 1 #[(0, x)] ho #[.string k, .string v, .slice sa n c] i0 _ hT hi hz0 (by rw [hz1]; decide) (by rw [hz1]; decide) ?_ h
  rw [hz1]
  simpa [hx] using prs_fill k v sa n c
theorem infoPr8 : (Tryz.prog.info? 24).map (fun i => (i.zero, i.size, i.bytes)) = some (some zPr, 3, 56) := by kernel_rfl
/-- a proof stays where a block of two slices is written -/
theorem prAt_stay {w : World} {b o q : Nat} {p : PvP} {v1 v2 : Value} {T : TypeId} {w' : World} (h : PrAt w b o p) (hq : w.heap[q]? = some (.cells #[v1, v2] T (0, 0))) (h1 : ∃ a n c, v1 = .slice a n c) (h2 : ∃ a n c, v2 = .slice a n c) (hw : ∀ k, k ≠ q → w'.heap[k]? = w.heap[k]?) (hsz : w.heap.size ≤ w'.heap.size) : PrAt w' b o p := by
  obtain ⟨a1, n1, c1, rfl⟩ := h1
  obtain ⟨a2, n2, c2, rfl⟩ := h2
  have hno : ∀ (k : Nat) (x : Value), (∀ a n c, x ≠ .slice a n c) → (#[Value.slice a1 n1 c1, .slice a2 n2 c2] : Array Value)[k]? ≠ some x := by
    intro k x hx h
    rcases k with _ | _ | k
    · injection h with h; exact hx _ _ _ h.symm
    · injection h with h; exact hx _ _ _ h.symm
    · simp at h
  obtain ⟨sv, hr, hst⟩ := h
  have hbq : b ≠ q := fun e => by
    subst e
    have h0 := hr 0 (.string p.key) rfl
    rw [cell_of_row _ _ _ _ _ _ hq] at h0
    exact hno _ _ (fun _ _ _ => by simp) h0
  refine ⟨sv, fun j v hv => (World.cell?_of_block (hw _ hbq)).trans (hr j v hv), ?_⟩
  obtain ⟨a, cap, rfl, hc, hm, hx⟩ := hst
  refine ⟨a, cap, rfl, hc, hm, hx.imp id ?_⟩
  rintro ⟨ab, ao, rfl, hl, hr⟩
  refine ⟨ab, ao, rfl, Nat.lt_of_lt_of_le hl hsz, fun i s hi => ?_⟩
  have hne : ab ≠ q := fun e => by
    subst e
    have h0 := hr i s hi 0 (.bool s.sec) (by simp [AvS.cells, stC])
    rw [cell_of_row _ _ _ _ _ _ hq] at h0
    exact hno _ _ (fun _ _ _ => by simp) h0
  exact fun j v hv => (World.cell?_of_block (hw _ hne)).trans (hr i s hi j v hv)
theorem prs_stay {w w' : World} {v : Value} {ps : List PvP} {q : Nat} {v1 v2 : Value} {T : TypeId} (h : PrsIn w v ps) (hq : w.heap[q]? = some (.cells #[v1, v2] T (0, 0))) (h1 : ∃ a n c, v1 = .slice a n c) (h2 : ∃ a n c, v2 = .slice a n c) (hw : ∀ k, k ≠ q → w'.heap[k]? = w.heap[k]?) (hsz : w.heap.size ≤ w'.heap.size) : PrsIn w' v ps := by
  obtain ⟨a, cap, rfl, hm, hx⟩ := h
  exact ⟨a, cap, rfl, hm, hx.imp id fun ⟨b, off, e, hl, hh⟩ => ⟨b, off, e, Nat.lt_of_lt_of_le hl hsz, fun i p hi => prAt_stay (hh i p hi) hq h1 h2 hw hsz⟩⟩
end Go.Proofs.YtabflppnecemkaaGreatDoor
namespace Go.Proofs.YtabflppnecemkaaGreatDoor
set_option linter.unusedVariables false
set_option linter.unusedSimpArgs false
open Go.RowKit
set_option maxRecDepth 100000
set_option linter.unusedSimpArgs false
set_option linter.unusedVariables false
theorem StIn.of_own7 {w : World} {B : Nat} {v : Value} {l : List AvS} (h : w.ownsRow B 74 34 v l.length (flatSt l)) : StIn w v l := by
  rcases h.2 with ⟨rfl, h0⟩ | ⟨tb, cap, cur, rfl, _, hh, hc, hm, _⟩
  · exact ⟨none, 0, by rw [h0], by omega, by simp [maxLen]; omega, .inl (List.eq_nil_of_length_eq_zero h0)⟩
  · refine ⟨_, cap, rfl, hc, Nat.le_trans hc hm, .inr ⟨tb, 0, rfl, (Array.getElem?_eq_some_iff.1 hh).1, fun i s hi j u hu => ?_⟩⟩
    have hj : j < 34 := by have := (List.getElem?_eq_some_iff.1 hu).1; rw [AvS.cells_length] at this; exact this
    have e1 := h.cells (g := tb) rfl (i * 34 + j) u (by rw [flatSt_get l i s hi j hj]; exact hu)
    rw [Addr.add_mid] at e1
    rw [show 0 + i * 34 + j = 0 + (i * 34 + j) by omega]; exact e1
theorem eqItems32d (f g : Nat → Int) (d : Nat) (w : World) : ∀ is : List Nat, (∀ i ∈ is, i < 32) → (Op.eqItems (d + 1) 5 1 (rowOf .u8 32 f) (rowOf .u8 32 g) is).run Tryz.prog w = .ok (is.all fun i => f i == g i) w
  | [], _ => by simp [Op.eqItems]
  | i :: is, h => by
    have hi : i < 32 := h i (by simp)
    have ha : (isAgg 5).run Tryz.prog w = .ok false w := by kernel_rfl
    have hp : ∀ f : Nat → Int, (part 5 (rowOf .u8 32 f) (i * 1)).run Tryz.prog w = .ok (.int .u8 (f i)) w := fun f => by
      simp [part, Sem.run_bind, ha, rowOf_get .u8 32 f i hi]
    have ih := eqItems32d f g d w is (fun j hj => h j (by simp [hj]))
    have pe : (Op.equalIn (d + 1) 5 (.int .u8 (f i)) (.int .u8 (g i))).run Tryz.prog w = .ok (f i == g i) w := run_equalIn_int w d 5 .u8 .u8 _ _ Tryz.underlying5
    simp only [Op.eqItems, Sem.run_bind, hp, pe, Result.andThen_ok, List.all_cons]
    cases hb : (f i == g i)
    · simp
    · simpa using ih
theorem eqIn32d (f : Nat → Int) (w : World) : (Op.equalIn 9999 62 (.agg (rowOf .u8 32 f)) (.agg (rowOf .u8 32 f))).run Tryz.prog w = .ok true w := by
  rw [run_equalIn_array w 9998 (i := (Tryz.prog.info? 5).getD default) _ _ Tryz.underlying62 (by kernel_rfl), show Tryz.prog.cellsOf 5 = 1 by kernel_rfl, eqItems32d f f 9997 w _ (fun i hi => by simpa using hi)]
  simp
theorem stepFields : (Tryz.prog.fieldsOf 65).toList.map (fun f => (f.type, f.offset, f.name != "_")) = [(4, 0, true), (3, 1, true), (62, 2, true)] := by kernel_rfl
theorem eqInStep_self (s : AvS) (w : World) : (Op.equalIn 10000 65 (.agg (stC s)) (.agg (stC s))).run Tryz.prog w = .ok true w := by
  rw [run_equalIn_struct w 9999 65 _ _ (by kernel_rfl) (by kernel_rfl)]
  have hp0 : (part 4 (stC s) 0).run Tryz.prog w = .ok (.bool s.sec) w := by kernel_rfl
  have hp1 : (part 3 (stC s) 1).run Tryz.prog w = .ok (.int .i64 s.many) w := by kernel_rfl
  have hp2 : (part 62 (stC s) 2).run Tryz.prog w = .ok (.agg (rowOf .u8 32 s.oth)) w := by kernel_rfl
  have e0 : (Op.equalIn 9999 4 (.bool s.sec) (.bool s.sec)).run Tryz.prog w = .ok true w := by
    have h := run_equalIn_bool' (P := Tryz.prog) w 9998 4 s.sec s.sec Tryz.underlying4
    rw [beq_self_eq_true] at h; exact h
  have e1 : (Op.equalIn 9999 3 (.int .i64 s.many) (.int .i64 s.many)).run Tryz.prog w = .ok true w := by
    have h := run_equalIn_int (P := Tryz.prog) w 9998 3 .i64 .i64 s.many s.many Tryz.underlying3
    rw [beq_self_eq_true] at h; exact h
  have e2 := eqIn32d s.oth w
  have hf := stepFields
  generalize (Tryz.prog.fieldsOf 65).toList = l at hf ⊢
  generalize 9999 = D at e0 e1 e2 ⊢
  rcases l with _ | ⟨f0, _ | ⟨f1, _ | ⟨f2, _ | ⟨f3, r⟩⟩⟩⟩
  · exact absurd (congrArg List.length hf) (by simp)
  · exact absurd (congrArg List.length hf) (by simp)
  · exact absurd (congrArg List.length hf) (by simp)
  · simp only [List.map_cons, List.map_nil, List.cons.injEq, Prod.mk.injEq, bne_iff_ne, and_true] at hf
    obtain ⟨⟨t0, o0, n0⟩, ⟨t1, o1, n1⟩, ⟨t2, o2, n2⟩⟩ := hf
    rw [← t0] at hp0 e0
    rw [← t1] at hp1 e1
    rw [← t2] at hp2 e2
    rw [← o0] at hp0
    rw [← o1] at hp1
    rw [← o2] at hp2
    have g2 : (Op.eqFields D (stC s) (stC s) [f2]).run Tryz.prog w = .ok true w := by
      rw [Op.eqFields, if_pos n2]
      simp only [Sem.run_bind, hp2, e2, Result.andThen_ok, Bool.not_true, Bool.false_eq_true, if_false, Op.eqFields, Sem.run_pure]
    have g1 : (Op.eqFields D (stC s) (stC s) [f1, f2]).run Tryz.prog w = .ok true w := by
      rw [Op.eqFields, if_pos n1]
      simp only [Sem.run_bind, hp1, e1, Result.andThen_ok, Bool.not_true, Bool.false_eq_true, if_false, g2]
    have g0 : (Op.eqFields D (stC s) (stC s) [f0, f1, f2]).run Tryz.prog w = .ok true w := by
      rw [Op.eqFields, if_pos n0]
      simp only [Sem.run_bind, hp0, e0, Result.andThen_ok, Bool.not_true, Bool.false_eq_true, if_false, g1]
    exact g0
  · exact absurd (congrArg List.length hf) (by simp)
theorem neqStep_self (s : AvS) (w : World) : (binOp .neq 65 (.agg (stC s)) (.agg (stC s))).run Tryz.prog w = .ok (.bool false) w := by
  rw [run_neq_struct, eqInStep_self]
  rfl
theorem execStep {w : World} {o : Oper} {ρ : Operand → Value} (x y : Operand) (ho : o.op = .binOp .neq 65 x y 65) (s : AvS) (hx : ρ x = .agg (stC s)) (hy : ρ y = .agg (stC s)) : (execOp ρ o).run Tryz.prog w = .ok (.value (.bool false)) w := by
  have hb := neqStep_self s w
  have hg : (eqGuard .neq 65 x y (.agg (stC s)) (.agg (stC s))).run Tryz.prog w = .ok () w := by
    have h1 : Tryz.prog.eqGuardType Tryz.prog.depth 65 = false := by kernel_rfl
    unfold eqGuard
    go_simp
  unfold execOp
  simp only [ho, hx, hy, Sem.run_bind, hg, hb, Result.andThen_ok, Sem.run_pure]
end Go.Proofs.YtabflppnecemkaaGreatDoor
