/- Part 18 of the proof. -/
import Derived.Test.YtadolfacjolbkaaDoorPe6
import Derived.Test.YtadolfacjolbkaaDoorPe11
import Derived.Test.YtadolfacjolbkaaDoorPe13
import Derived.Test.YtadolfacjolbkaaDoorPe17
namespace Go.Proofs.YtadolfacjolbkaaDoor
set_option linter.unusedVariables false
set_option linter.unusedSimpArgs false
open Go.RowKit
set_option maxRecDepth 100000
set_option linter.unusedSimpArgs false
set_option linter.unusedVariables false
/-- the proof of the pair at a place, or none -/
def atP (t : Option AvT) (i : Int) : List PvP := if 0 ≤ i ∧ i < manyO t then [⟨(atO t i).1.1, (atO t i).1.2, (pathO t i).1⟩] else []
theorem atO_in {t : Option AvT} {i : Int} (h : 0 ≤ i ∧ i < manyO t) : (atO t i).2 = none ∧ (pathO t i).2 = none := by
  cases t with
  | none => exact absurd h.2 (by show ¬ i < ((0 : Nat) : Int); omega)
  | some t =>
    have h' : 0 ≤ i ∧ i < (t.many : Int) := h
    unfold atO pathO
    dsimp only
    rw [if_pos h', if_pos h']
    exact ⟨rfl, rfl⟩
theorem atO_out {t : Option AvT} {i : Int} (h : ¬ (0 ≤ i ∧ i < manyO t)) : (atO t i).2 = some 1 := by
  cases t with
  | none => rfl
  | some t =>
    have h' : ¬ (0 ≤ i ∧ i < (t.many : Int)) := h
    unfold atO
    dsimp only
    rw [if_neg h']
theorem pr_built (k v : ByteArray) (a : Option Addr) (n c : Nat) : Tryd.prog.built 58 [(0, .string k), (1, .string v), (2, .slice a n c)] = some #[.string k, .string v, .slice a n c] := by kernel_rfl
theorem infoPr : (Tryd.prog.info? 58).map (fun i => (i.zero, i.size, i.bytes)) = some (some (.agg #[.string { data := #[] }, .string { data := #[] }, .slice none 0 0]), 3, 56) := by kernel_rfl
theorem pr_fill (k v : ByteArray) (a : Option Addr) (n c : Nat) : Instr.fill (fun i => some (i * 3, 3)) ((Array.range (1 * 3)).map ((Value.agg #[.string { data := #[] }, .string { data := #[] }, .slice none 0 0]).cells[· % (Value.agg #[.string { data := #[] }, .string { data := #[] }, .slice none 0 0]).cells.size]!)) [(0, .agg #[.string k, .string v, .slice a n c])] = some #[.string k, .string v, .slice a n c] := by kernel_rfl
theorem wpList_pr1 {w : World} {ops : Array Oper} {rest : List Oper} {o : Oper} {a : Act} {Q : Exit → Act → World → Prop} (hgd : o.guard = none) (x : Operand) (ho : o.op = .buildSlice 62 1 #[(0, x)]) (k v : ByteArray) (sa : Option Addr) (n c : Nat) (hx : a.eval x = .agg #[.string k, .string v, .slice sa n c])
    (h : wpList Tryd.prog ops Q rest (a.put o.dst (.slice (some ⟨w.heap.size, 0, none⟩) 1 1)) (w.alloc (.cells #[.string k, .string v, .slice sa n c] 58))) : wpList Tryd.prog ops Q (o :: rest) a w := by
  refine wpList_plain hgd fun K hK => ?_
  obtain ⟨i0, hi, hz0, hz1, hz2⟩ := info_parts infoPr
  refine wp_buildSlice 62 58 1 #[(0, x)] ho #[.string k, .string v, .slice sa n c] i0 _ Tryd.underlying62 hi hz0 (by rw [hz1]; decide) (by rw [hz1]; decide) ?_ (hK _ _ h)
  rw [hz1]
  simpa [hx] using pr_fill k v sa n c
set_option maxHeartbeats 4000000 in
theorem at8_any (va : Value) (t : Option AvT) (i : Int) (w : World) (ht : TreeO w va t) (hm : manyO t ≤ 1099511627776) :
    Calls Tryd.prog 76 #[va, .int .i64 i] w fun e w' => ∃ v, e = .returned v ∧ PrsIn w' v (atP t i) ∧ Below w.heap.size w w' := by
  have HAT := Lib.hid (fun w h => at_any va t i w h (by omega))
  have HPA := Lib.hid (fun w h => path_any7 va t i w h hm)
  unfold AtPost at HAT
  unfold PathPost at HPA
  have HT := Lib.hid ht
  obtain ⟨p, rfl⟩ : ∃ p, va = .pointer p := by
    cases t with
    | none => exact ⟨_, ht⟩
    | some t => obtain ⟨g, e, _⟩ := ht; exact ⟨_, e⟩
  clear ht hm
  obtain ⟨pa, hpa⟩ : ∃ q, q = (atO t i).1 := ⟨_, rfl⟩
  obtain ⟨ea, hea⟩ : ∃ q, q = (atO t i).2 := ⟨_, rfl⟩
  obtain ⟨S, hS⟩ : ∃ q, q = (pathO t i).1 := ⟨_, rfl⟩
  obtain ⟨ec, hec⟩ : ∃ q, q = (pathO t i).2 := ⟨_, rfl⟩
  rw [← hpa, ← hea] at HAT
  rw [← hS, ← hec] at HPA
  by_cases hin : 0 ≤ i ∧ i < manyO t
  · have h2 := atO_in hin
    rw [← hea, ← hec] at h2
    obtain ⟨rfl, rfl⟩ := h2
    have HAP := Lib.hid (show atP t i = [⟨pa.1, pa.2, S⟩] from by unfold atP; rw [if_pos hin, hpa, hS])
    simp only [errV] at HAT HPA
    clear hin hpa hea hS hec
    go_enter Tryd.func76, Tryd.ntmps76
    go_upto_region 2 with (first
      | (go_at_call 92; (with_reducible refine (HAT.out _ HT.out).mono ?_); rintro e w2 ⟨rfl, hb⟩; have HB := Lib.hid hb; clear hb)
      | (refine wpList_store_row rfl 87 (.tmp 5) (.tmp 12) rfl w2.heap.size (kvC pa) rfl rfl 87 _ (heap_alloc_new _ _) (by kernel_rfl) rfl (kvC_one _) ?_; rw [World.setRow_alloc_new]))
    have H5 := Lib.hid (heap_alloc_new w2 (.cells (kvC pa) 87))
    replace HB := Lib.hid (HB.out.trans ((below_alloc w2 (.cells (kvC pa) 87)).mono HB.out.size))
    obtain ⟨g, hg⟩ : ∃ g, g = w2.heap.size := ⟨_, rfl⟩
    rw [← hg] at H5 ⊢
    clear hg
    generalize w2.alloc (.cells (kvC pa) 87) = w3 at *
    go_upto_region 7 with (go_at_call 93; (with_reducible refine (HPA.out _ (HT.out.below HB.out)).mono ?_); rintro e w4 ⟨sv, rfl, hst, hb⟩; replace H5 := Lib.hid ((hb.block _ (bk_lt H5.out)).trans H5.out); replace HB := Lib.hid (HB.out.trans (hb.mono HB.out.size)); have HST := Lib.hid hst; clear hb hst)
    obtain ⟨sa, sc, rfl⟩ := HST.out.len
    have c0 : w4.cell? ⟨g, 0, none⟩ = some (.string pa.1) := cell_of_row w4 g 0 _ _ _ H5.out
    have c1 : w4.cell? ⟨g, 1, none⟩ = some (.string pa.2) := cell_of_row w4 g 1 _ _ _ H5.out
    have hbu := pr_built pa.1 pa.2 sa S.length sc
    go_wp2_with (first
      | (refine wpList_pr1 rfl (.tmp 29) rfl pa.1 pa.2 sa S.length sc rfl ?_))
    go_ret
    refine ⟨_, rfl, ?_, HB.out.trans ((below_alloc w4 _).mono HB.out.size)⟩
    rw [HAP.out]
    refine ⟨_, _, rfl, by simp [maxLen], .inr ⟨w4.heap.size, 0, rfl, by simp, fun k p hk => ?_⟩⟩
    cases k with
    | zero =>
      injection hk with hk
      subst hk
      refine ⟨.slice sa S.length sc, fun j v hv => ?_, HST.out.below (below_alloc w4 _)⟩
      rw [cell_of_row _ w4.heap.size _ _ _ _ (heap_alloc_new w4 _)]
      simpa using hv
    | succ k => cases hk
  · have h2 := atO_out hin
    rw [← hea] at h2
    subst h2
    have HAP := Lib.hid (show atP t i = [] from by unfold atP; rw [if_neg hin])
    simp only [errV] at HAT
    clear hin hpa hea hS hec
    go_enter Tryd.func76, Tryd.ntmps76
    go_wp2_with (first
      | (go_at_call 92; (with_reducible refine (HAT.out _ HT.out).mono ?_); rintro e w2 ⟨rfl, hb⟩; have HB := Lib.hid hb; clear hb)
      | (refine wpList_store_row rfl 87 (.tmp 5) (.tmp 12) rfl w2.heap.size (kvC pa) rfl rfl 87 _ (heap_alloc_new _ _) (by kernel_rfl) rfl (kvC_one _) ?_; rw [World.setRow_alloc_new]))
    go_ret
    exact ⟨_, rfl, by rw [HAP.out]; exact ⟨none, 0, rfl, by simp, .inl rfl⟩, HB.out.trans ((below_alloc w2 _).mono HB.out.size)⟩
end Go.Proofs.YtadolfacjolbkaaDoor
namespace Go.Proofs.YtadolfacjolbkaaDoor
set_option linter.unusedVariables false
set_option linter.unusedSimpArgs false
open Go.RowKit
set_option maxRecDepth 100000
set_option linter.unusedSimpArgs false
set_option linter.unusedVariables false
def prZ : Array Value := #[.string { data := #[] }, .string { data := #[] }, .slice none 0 0]
def abZ : Array Value := #[.slice none 0 0, .slice none 0 0]
theorem setCell_size (w : World) (a : Addr) (v : Value) : (w.setCell a v).heap.size = w.heap.size := by
  unfold World.setCell; split <;> simp
/-- a proof and its steps' slice: the cells -/
abbrev PV := PvP × Value
def pvCells (t : PV) : List Value := [.string t.1.key, .string t.1.val, t.2]
def flatPr (l : List PV) : List Value := l.flatMap pvCells
theorem flatPr_append (a b : List PV) : flatPr (a ++ b) = flatPr a ++ flatPr b := List.flatMap_append
theorem flatPr_get : ∀ (l : List PV) (i : Nat) (t : PV), l[i]? = some t → ∀ j, j < 3 → (flatPr l)[i * 3 + j]? = (pvCells t)[j]?
  | [], i, t, h, j, hj => by simp at h
  | x :: l, 0, t, h, j, hj => by
    injection h with h; subst h
    show (pvCells x ++ flatPr l)[0 * 3 + j]? = _
    rw [Nat.zero_mul, Nat.zero_add, List.getElem?_append_left (by show j < 3; exact hj)]
  | x :: l, i + 1, t, h, j, hj => by
    show (pvCells x ++ flatPr l)[(i + 1) * 3 + j]? = _
    rw [List.getElem?_append_right (by show 3 ≤ _; omega), show (i + 1) * 3 + j - (pvCells x).length = i * 3 + j from by show _ - 3 = _; omega]
    exact flatPr_get l i t (by simpa using h) j hj
theorem prs_of_own {w : World} {B : Nat} {E : TypeId} {v : Value} {l : List PV} (h : w.ownsRow B E 3 v l.length (flatPr l)) (hs : ∀ t ∈ l, StIn w t.2 t.1.steps) : PrsIn w v (l.map (·.1)) := by
  rcases h.2 with ⟨rfl, h0⟩ | ⟨tb, cap, cur, rfl, _, hh, hc, hm, _⟩
  · obtain rfl := List.eq_nil_of_length_eq_zero h0
    exact ⟨none, 0, rfl, by simp, .inl rfl⟩
  · refine ⟨_, cap, by simp, by simp; omega, .inr ⟨tb, 0, rfl, (Array.getElem?_eq_some_iff.1 hh).1, fun i p hi => ?_⟩⟩
    rw [List.getElem?_map] at hi
    cases hl : l[i]? with
    | none => rw [hl] at hi; cases hi
    | some t =>
      rw [hl] at hi
      injection hi with hi
      subst hi
      refine ⟨t.2, fun j u hu => ?_, hs t (List.mem_of_getElem? hl)⟩
      have hj : j < 3 := by have := (List.getElem?_eq_some_iff.1 hu).1; exact this
      have e := h.cells (g := tb) rfl (i * 3 + j) u ((flatPr_get l i t hl j hj).trans hu)
      rw [Addr.add_mid] at e
      rw [Nat.add_assoc]; exact e
theorem pv_slice {w : World} {v : Value} {l : List AvS} (h : StIn w v l) : ∃ a n c, v = .slice a n c := by obtain ⟨a, c, e⟩ := h.len; exact ⟨_, _, _, e⟩
def zPr : Value := .agg #[.string { data := #[] }, .string { data := #[] }, .slice none 0 0]
theorem run_append_pr (T E : TypeId) (hT : Tryd.prog.underlying T = some (.slice E)) (hI : (Tryd.prog.info? E).map (fun i => (i.zero, i.size, i.bytes)) = some (some zPr, 3, 56)) (w : World) (base : Nat) (v : Value) (l : List PV) (hown : w.ownsRow base E 3 v l.length (flatPr l)) (b : Nat) (x : PV) (hx : ∃ a n c, x.2 = .slice a n c)
    (hy : w.heap[b]? = some (.cells #[.string x.1.key, .string x.1.val, x.2] E (0, 0))) (hl : (l.length + 1) * 56 ≤ 140737488355328) (hb : base ≤ w.heap.size) :
    ∃ v' w', (Builtin.append_ #[T, T] T #[v, .slice (some ⟨b, 0, none⟩) 1 1]).run Tryd.prog w = .ok v' w' ∧ w'.ownsRow base E 3 v' (l ++ [x]).length (flatPr (l ++ [x])) ∧ w.grownBy w' v.ownBlock := by
  obtain ⟨i0, hi, hz0, hz1, hz2⟩ := info_parts hI
  obtain ⟨a, n, c, hx⟩ := hx
  obtain ⟨v', w', hr, h1, h2, _, _⟩ := run_append_own_at w base T T E i0 _ 3 56 hT hi hz0 hz1 hz2 (by simp [zPr, Value.cells]) (by decide) v l.length (flatPr l) hown ⟨b, 0, none⟩ 1 1 (pvCells x) (by rfl)
    (fun j u hj => by rw [Addr.add_mid, Nat.zero_add, cell_of_row w b j _ _ _ hy]; simpa [pvCells] using hj) (by intro u hu; simp only [pvCells, hx, List.mem_cons, List.not_mem_nil, or_false] at hu; rcases hu with rfl | rfl | rfl <;> rfl) (by unfold maxLen; omega) hl hb
  refine ⟨v', w', hr, ?_, h2⟩
  rw [List.length_append, flatPr_append, show flatPr [x] = pvCells x from by simp [flatPr]]
  exact h1
theorem wp_append_pr {w : World} {o : Oper} {a : Act} {K : Act → World → Prop} {Q : Exit → Act → World → Prop} (T E : TypeId) (hT : Tryd.prog.underlying T = some (.slice E)) (hI : (Tryd.prog.info? E).map (fun i => (i.zero, i.size, i.bytes)) = some (some zPr, 3, 56)) (s y : Operand)
    (ho : o.op = .call { callee := .builtin .append, args := #[s, y], argTypes := #[T, T] }) (hty : o.type = T)
    (base : Nat) (v : Value) (l : List PV) (hs : a.eval s = v) (hown : w.ownsRow base E 3 v l.length (flatPr l)) (b : Nat) (x : PV) (hxs : ∃ a n c, x.2 = .slice a n c) (hy : a.eval y = .slice (some ⟨b, 0, none⟩) 1 1) (hyb : w.heap[b]? = some (.cells #[.string x.1.key, .string x.1.val, x.2] E (0, 0))) (hl : (l.length + 1) * 56 ≤ 140737488355328) (hb : base ≤ w.heap.size)
    (h : ∀ v' w', w'.ownsRow base E 3 v' (l ++ [x]).length (flatPr (l ++ [x])) → w.grownBy w' v.ownBlock → K (a.put o.dst v') w') : o.wp Tryd.prog a w K Q := by
  obtain ⟨v', w', hr, h1, h2⟩ := run_append_pr T E hT hI w base v l hown b x hxs hyb hl hb
  unfold Oper.wp execOp
  simp only [ho, hty, resolve, invoke, builtin, Sem.run_bind, Sem.run_pure, Result.andThen_ok, List.map_toArray, List.map_cons, List.map_nil, hs, hy, hr]
  exact h v' w' h1 h2
theorem prs_fill (k v : ByteArray) (a : Option Addr) (n c : Nat) : Instr.fill (fun i => some (i * 3, 3)) ((Array.range (1 * 3)).map (zPr.cells[· % zPr.cells.size]!)) [(0, .agg #[.string k, .string v, .slice a n c])] = some #[.string k, .string v, .slice a n c] := by kernel_rfl
theorem wp_pr1 {o : Oper} {a : Act} {w : World} {K : Act → World → Prop} {Q : Exit → Act → World → Prop} (T E : TypeId) (hT : Tryd.prog.underlying T = some (.slice E)) (hI : (Tryd.prog.info? E).map (fun i => (i.zero, i.size, i.bytes)) = some (some zPr, 3, 56)) (x : Operand) (ho : o.op = .buildSlice T 1 #[(0, x)]) (k v : ByteArray) (sa : Option Addr) (n c : Nat) (hx : a.eval x = .agg #[.string k, .string v, .slice sa n c])
    (h : K (a.put o.dst (.slice (some ⟨w.heap.size, 0, none⟩) 1 1)) (w.alloc (.cells #[.string k, .string v, .slice sa n c] E))) : o.wp Tryd.prog a w K Q := by
  obtain ⟨i0, hi, hz0, hz1, hz2⟩ := info_parts hI
  refine wp_buildSlice T E 1 #[(0, x)] ho #[.string k, .string v, .slice sa n c] i0 _ hT hi hz0 (by rw [hz1]; decide) (by rw [hz1]; decide) ?_ h
  rw [hz1]
  simpa [hx] using prs_fill k v sa n c
theorem infoPr8 : (Tryd.prog.info? 51).map (fun i => (i.zero, i.size, i.bytes)) = some (some zPr, 3, 56) := by kernel_rfl
/-- a proof stays where a block of two slices is written -/
theorem prAt_stay {w : World} {b o q : Nat} {p : PvP} {v1 v2 : Value} {T : TypeId} {w' : World} (h : PrAt w b o p) (hq : w.heap[q]? = some (.cells #[v1, v2] T (0, 0))) (h1 : ∃ a n c, v1 = .slice a n c) (h2 : ∃ a n c, v2 = .slice a n c) (hw : ∀ k, k ≠ q → w'.heap[k]? = w.heap[k]?) (hsz : w.heap.size ≤ w'.heap.size) : PrAt w' b o p := by
  obtain ⟨a1, n1, c1, rfl⟩ := h1
  obtain ⟨a2, n2, c2, rfl⟩ := h2
  have hno : ∀ (k : Nat) (x : Value), (∀ a n c, x ≠ .slice a n c) → (#[Value.slice a1 n1 c1, .slice a2 n2 c2] : Array Value)[k]? ≠ some x := by
    intro k x hx h
    rcases k with _ | _ | k
    · injection h with h; exact hx _ _ _ h.symm
    · injection h with h; exact hx _ _ _ h.symm
    · simp at h
  obtain ⟨sv, hr, hst⟩ := h
  have hbq : b ≠ q := fun e => by
    subst e
    have h0 := hr 0 (.string p.key) rfl
    rw [cell_of_row _ _ _ _ _ _ hq] at h0
    exact hno _ _ (fun _ _ _ => by simp) h0
  refine ⟨sv, fun j v hv => (World.cell?_of_block (hw _ hbq)).trans (hr j v hv), ?_⟩
  obtain ⟨a, cap, rfl, hc, hm, hx⟩ := hst
  refine ⟨a, cap, rfl, hc, hm, hx.imp id ?_⟩
  rintro ⟨ab, ao, rfl, hl, hr⟩
  refine ⟨ab, ao, rfl, Nat.lt_of_lt_of_le hl hsz, fun i s hi => ?_⟩
  have hne : ab ≠ q := fun e => by
    subst e
    have h0 := hr i s hi 0 (.bool s.sec) (by simp [AvS.cells, stC])
    rw [cell_of_row _ _ _ _ _ _ hq] at h0
    exact hno _ _ (fun _ _ _ => by simp) h0
  exact fun j v hv => (World.cell?_of_block (hw _ hne)).trans (hr i s hi j v hv)
theorem prs_stay {w w' : World} {v : Value} {ps : List PvP} {q : Nat} {v1 v2 : Value} {T : TypeId} (h : PrsIn w v ps) (hq : w.heap[q]? = some (.cells #[v1, v2] T (0, 0))) (h1 : ∃ a n c, v1 = .slice a n c) (h2 : ∃ a n c, v2 = .slice a n c) (hw : ∀ k, k ≠ q → w'.heap[k]? = w.heap[k]?) (hsz : w.heap.size ≤ w'.heap.size) : PrsIn w' v ps := by
  obtain ⟨a, cap, rfl, hm, hx⟩ := h
  exact ⟨a, cap, rfl, hm, hx.imp id fun ⟨b, off, e, hl, hh⟩ => ⟨b, off, e, Nat.lt_of_lt_of_le hl hsz, fun i p hi => prAt_stay (hh i p hi) hq h1 h2 hw hsz⟩⟩
end Go.Proofs.YtadolfacjolbkaaDoor
namespace Go.Proofs.YtadolfacjolbkaaDoor
set_option linter.unusedVariables false
set_option linter.unusedSimpArgs false
open Go.RowKit
theorem bits_or_comm (x y : Int) : bits .or .u32 x y = bits .or .u32 y x := by
  unfold bits; simp only [BitVec.or_comm]
theorem ofInt_wrap32 (a : BitVec IntKind.u32.bits) : BitVec.ofInt IntKind.u32.bits (IntKind.u32.wrap (a.toNat : Int)) = a := by
  have hlt : a.toNat < 4294967296 := a.isLt
  have h : IntKind.u32.wrap (a.toNat : Int) = (a.toNat : Int) := by
    show ((a.toNat : Int) % 4294967296) = _
    omega
  rw [h]
  apply BitVec.eq_of_toNat_eq
  rw [BitVec.toNat_ofInt]
  show ((a.toNat : Int) % ((4294967296 : Nat) : Int)).toNat = _
  omega
theorem choose_vec (E F G : BitVec 32) : (E &&& F ||| (BitVec.allOnes 32 ^^^ E) &&& G) = (E &&& F ^^^ (BitVec.allOnes 32 ^^^ E) &&& G) := by
  ext i hi
  simp only [BitVec.getElem_or, BitVec.getElem_and, BitVec.getElem_xor, BitVec.getElem_allOnes]
  cases E[i] <;> cases F[i] <;> cases G[i] <;> rfl
theorem major_vec (A B C : BitVec 32) : (A &&& B ||| A &&& C ||| B &&& C) = (A &&& B ^^^ A &&& C ^^^ B &&& C) := by
  ext i hi
  simp only [BitVec.getElem_or, BitVec.getElem_and, BitVec.getElem_xor]
  cases A[i] <;> cases B[i] <;> cases C[i] <;> rfl
theorem or32 (x y : BitVec IntKind.u32.bits) (X Y : Int) (hx : BitVec.ofInt IntKind.u32.bits X = x) (hy : BitVec.ofInt IntKind.u32.bits Y = y) : bits .or .u32 X Y = IntKind.u32.wrap ((x ||| y).toNat : Int) := by subst hx; subst hy; rfl
theorem xor32 (x y : BitVec IntKind.u32.bits) (X Y : Int) (hx : BitVec.ofInt IntKind.u32.bits X = x) (hy : BitVec.ofInt IntKind.u32.bits Y = y) : bits .xor .u32 X Y = IntKind.u32.wrap ((x ^^^ y).toNat : Int) := by subst hx; subst hy; rfl
theorem and32 (x y : BitVec IntKind.u32.bits) (X Y : Int) (hx : BitVec.ofInt IntKind.u32.bits X = x) (hy : BitVec.ofInt IntKind.u32.bits Y = y) : bits .and .u32 X Y = IntKind.u32.wrap ((x &&& y).toNat : Int) := by subst hx; subst hy; rfl
theorem choose_bits (e f g : Int) : bits .or .u32 (bits .and .u32 e f) (bits .and .u32 (bits .xor .u32 4294967295 e) g) = bits .xor .u32 (bits .and .u32 e f) (bits .and .u32 (bits .xor .u32 IntKind.u32.max e) g) := by
  have hm : IntKind.u32.max = 4294967295 := by kernel_rfl
  rw [hm]
  obtain ⟨E, hE⟩ : ∃ E, BitVec.ofInt IntKind.u32.bits e = E := ⟨_, rfl⟩
  obtain ⟨F, hF⟩ : ∃ F, BitVec.ofInt IntKind.u32.bits f = F := ⟨_, rfl⟩
  obtain ⟨G, hG⟩ : ∃ G, BitVec.ofInt IntKind.u32.bits g = G := ⟨_, rfl⟩
  have hM : BitVec.ofInt IntKind.u32.bits 4294967295 = BitVec.allOnes 32 := by apply BitVec.eq_of_toNat_eq; kernel_rfl
  rw [and32 E F e f hE hF, xor32 _ E _ e hM hE, and32 _ G _ g (ofInt_wrap32 _) hG, or32 _ _ _ _ (ofInt_wrap32 _) (ofInt_wrap32 _), xor32 _ _ _ _ (ofInt_wrap32 _) (ofInt_wrap32 _)]
  exact congrArg (fun v : BitVec 32 => IntKind.u32.wrap (v.toNat : Int)) (choose_vec E F G)
theorem major_bits (a b c : Int) : bits .or .u32 (bits .or .u32 (bits .and .u32 a b) (bits .and .u32 a c)) (bits .and .u32 b c) = bits .xor .u32 (bits .xor .u32 (bits .and .u32 a b) (bits .and .u32 a c)) (bits .and .u32 b c) := by
  obtain ⟨A, hA⟩ : ∃ A, BitVec.ofInt IntKind.u32.bits a = A := ⟨_, rfl⟩
  obtain ⟨B, hB⟩ : ∃ B, BitVec.ofInt IntKind.u32.bits b = B := ⟨_, rfl⟩
  obtain ⟨C, hC⟩ : ∃ C, BitVec.ofInt IntKind.u32.bits c = C := ⟨_, rfl⟩
  rw [and32 A B a b hA hB, and32 A C a c hA hC, and32 B C b c hB hC, or32 _ _ _ _ (ofInt_wrap32 _) (ofInt_wrap32 _), or32 _ _ _ _ (ofInt_wrap32 _) (ofInt_wrap32 _), xor32 _ _ _ _ (ofInt_wrap32 _) (ofInt_wrap32 _), xor32 _ _ _ _ (ofInt_wrap32 _) (ofInt_wrap32 _)]
  exact congrArg (fun v : BitVec 32 => IntKind.u32.wrap (v.toNat : Int)) (major_vec A B C)
/- only the block's 64 bytes matter -/
theorem expA_congr (b b' : Nat → Int) (h : ∀ i, i < 64 → b i = b' i) : ∀ k, k ≤ 16 → expA b k = expA b' k
  | 0, _ => rfl
  | k + 1, hk => by
    have e : wordB b k = wordB b' k := by
      unfold wordB
      rw [h (4 * k) (by omega), h (4 * k + 1) (by omega), h (4 * k + 2) (by omega), h (4 * k + 3) (by omega)]
    show upd (expA b k) k (wordB b k) = upd (expA b' k) k (wordB b' k)
    rw [expA_congr b b' h k (by omega), e]
theorem expB_congr (b b' : Nat → Int) (h : ∀ i, i < 64 → b i = b' i) : ∀ k, expB b k = expB b' k
  | 0 => expA_congr b b' h 16 (by omega)
  | k + 1 => by
    show upd (expB b k) (k + 16) (nextW (expB b k) k) = upd (expB b' k) (k + 16) (nextW (expB b' k) k)
    rw [expB_congr b b' h k]
theorem mixF_congr (s b b' : Nat → Int) (h : ∀ i, i < 64 → b i = b' i) : mixF s b = mixF s b' := by
  unfold mixF; rw [expB_congr b b' h 48]
theorem lenF_get (f : Nat → Int) (n : Int) (i : Nat) (hi : i < 64) : ∀ k, k ≤ 8 → lenF f n k i = if 64 - k ≤ i then IntKind.u64.wrap (n * 8) / 2 ^ (8 * (63 - i)) % 256 else f i
  | 0, _ => by rw [if_neg (by omega)]; rfl
  | k + 1, hk => by
    show upd (lenF f n k) (63 - k) (IntKind.u64.wrap (n * 8) / 2 ^ (8 * k) % 256) i = _
    unfold upd
    by_cases h : i = 63 - k
    · rw [if_pos h, if_pos (by omega), show 63 - i = k by omega]
    · rw [if_neg h, lenF_get f n i hi k (by omega)]
      by_cases h2 : 64 - k ≤ i
      · rw [if_pos h2, if_pos (by omega)]
      · rw [if_neg h2, if_neg (by omega)]
/-- the first k of the last eight bytes -/
def lenB (n : Int) (k : Nat) : List Int := (List.range k).map fun j => IntKind.u64.wrap (n * 8) / 2 ^ (8 * (7 - j)) % 256
theorem lenB_length (n : Int) (k : Nat) : (lenB n k).length = k := by simp [lenB]
theorem lenB_succ (n : Int) (k : Nat) : lenB n (k + 1) = lenB n k ++ [IntKind.u64.wrap (n * 8) / 2 ^ (8 * (7 - k)) % 256] := by simp [lenB, List.range_succ]
theorem lenB_get (n : Int) (k j : Nat) (h : j < k) : (lenB n k).getD j 0 = IntKind.u64.wrap (n * 8) / 2 ^ (8 * (7 - j)) % 256 := by
  simp [lenB, List.getD_eq_getElem?_getD, h]
/-- noughts behind the bit 1 -/
def zN (n : Nat) : Nat := (119 - n % 64) % 64
def padL (n : Nat) : List Int := 128 :: (List.replicate (zN n) 0 ++ lenB n 8)
theorem padL_length (n : Nat) : (padL n).length = zN n + 9 := by simp [padL, lenB_length]
theorem padL_get (n i : Nat) : (padL n).getD i 0 = if i = 0 then 128 else if i < zN n + 1 then 0 else (lenB n 8).getD (i - (zN n + 1)) 0 := by
  unfold padL
  cases i with
  | zero => rfl
  | succ i =>
    rw [if_neg (by omega), List.getD_cons_succ, List.getD_eq_getElem?_getD, List.getElem?_append]
    simp only [List.length_replicate]
    by_cases h : i < zN n
    · rw [if_pos h, if_pos (by omega), List.getElem?_replicate, if_pos h]; rfl
    · rw [if_neg h, if_neg (by omega), ← List.getD_eq_getElem?_getD, show i + 1 - (zN n + 1) = i - zN n by omega]
/-- the padding put byte by byte is finish -/
theorem fin_put (s b : Nat → Int) (n : Nat) (hn : n < 18446744073709551616) : (putF ⟨s, b, n⟩ (padL n)).s = finF s b n ((n : Int) % 64).toNat := by
  obtain ⟨u, hu⟩ : ∃ u, n % 64 = u := ⟨_, rfl⟩
  have hu1 : ((n : Int) % 64).toNat = u := by omega
  have hz : zN n = (119 - u) % 64 := by unfold zN; rw [hu]
  rw [hu1]
  unfold finF
  by_cases h56 : u < 56
  · have hz' : zN n = 55 - u := by omega
    rw [if_pos h56, put_full s (padL n) b n u (by omega) (by omega) (by omega) (by rw [padL_length]; omega) (by omega)]
    refine mixF_congr _ _ _ fun i hi => ?_
    rw [lay_get, lenF_get _ _ _ hi 8 (by omega), padL_length, padL_get, hz']
    by_cases h1 : i < u
    · rw [if_neg (by omega), if_neg (by omega)]
      unfold padB clr upd
      rw [if_neg (by omega), if_neg (by omega)]
    · rw [if_pos (by omega)]
      by_cases h2 : i = u
      · rw [if_pos (by omega), if_neg (by omega)]
        unfold padB clr upd
        rw [if_neg (by omega), if_pos h2]
      · rw [if_neg (by omega)]
        by_cases h3 : i < 56
        · rw [if_pos (by omega), if_neg (by omega)]
          unfold padB clr
          rw [if_pos (by omega)]
        · rw [if_neg (by omega), if_pos (by omega), lenB_get _ _ _ (by omega), show 7 - (i - u - (55 - u + 1)) = 63 - i by omega]
  · have hz' : zN n = 119 - u := by omega
    rw [if_neg h56]
    have hsplit : padL n = (padL n).take (64 - u) ++ (padL n).drop (64 - u) := (List.take_append_drop _ _).symm
    have hl1 : ((padL n).take (64 - u)).length = 64 - u := by rw [List.length_take, padL_length]; omega
    have hl2 : ((padL n).drop (64 - u)).length = 64 := by rw [List.length_drop, padL_length]; omega
    rw [hsplit, putF_append, put_full s _ b n u (by omega) (by omega) (by omega) (by rw [hl1]; omega) (by omega)]
    rw [put_full _ _ _ _ 0 (by omega) (by omega) (by rw [hl1]; omega) (by rw [hl2]) (by omega)]
    have e1 : mixF s (lay b u ((padL n).take (64 - u))) = mixF s (padB b u) := by
      refine mixF_congr _ _ _ fun i hi => ?_
      rw [lay_get, hl1]
      by_cases h1 : i < u
      · rw [if_neg (by omega)]
        unfold padB clr upd
        rw [if_neg (by omega), if_neg (by omega)]
      · rw [if_pos (by omega), List.getD_eq_getElem?_getD, List.getElem?_take, if_pos (by omega), ← List.getD_eq_getElem?_getD, padL_get]
        by_cases h2 : i = u
        · rw [if_pos (by omega)]
          unfold padB clr upd
          rw [if_neg (by omega), if_pos h2]
        · rw [if_neg (by omega), if_pos (by omega)]
          unfold padB clr
          rw [if_pos (by omega)]
    show mixF (mixF s _) _ = _
    rw [e1]
    refine mixF_congr _ _ _ fun i hi => ?_
    rw [lay_get, hl2, if_pos (by omega), lenF_get _ _ _ hi 8 (by omega), List.getD_eq_getElem?_getD, List.getElem?_drop, ← List.getD_eq_getElem?_getD, padL_get, if_neg (by omega)]
    by_cases h3 : i < 56
    · rw [if_pos (by omega), if_neg (by omega)]
      unfold clr
      rw [if_pos (by omega)]
    · rw [if_neg (by omega), if_pos (by omega), lenB_get _ _ _ (by omega), show 7 - (64 - u + (i - 0) - (zN n + 1)) = 63 - i by omega]
theorem put_n (h : HS) : ∀ xs : List Int, 0 ≤ h.n → h.n < 18446744073709551616 → (putF h xs).n = (h.n + xs.length) % 18446744073709551616 := by
  intro xs
  induction xs generalizing h with
  | nil => intro h0 h1; show h.n = (h.n + ((0 : Nat) : Int)) % _; omega
  | cons x xs ih =>
    intro h0 h1
    have e : (put1 h x).n = (h.n + 1) % 18446744073709551616 := by unfold put1; split <;> rfl
    have := ih (put1 h x) (by rw [e]; omega) (by rw [e]; omega)
    show (putF (put1 h x) xs).n = _
    rw [this, e, List.length_cons]
    omega
/-- the whole padded message -/
def msgL (xs : List Int) : List Int := xs ++ padL xs.length
theorem msgL_length (xs : List Int) : (msgL xs).length % 64 = 0 := by
  unfold msgL
  rw [List.length_append, padL_length]
  unfold zN
  omega
theorem sum_msg (xs : List Int) (hl : xs.length < 18446744073709551616) : sumF xs = outF (putF h0 (msgL xs)).s := by
  have hn : (putF h0 xs).n = (xs.length : Nat) := by
    rw [put_n h0 xs (by decide) (by decide)]
    show ((0 : Int) + xs.length) % _ = _
    omega
  unfold sumF hsum msgL
  rw [putF_append]
  congr 1
  have := fin_put (putF h0 xs).s (putF h0 xs).b xs.length hl
  rw [← hn] at this
  exact this.symm
/-- one block of the message -/
def blkF (ms : List Int) (at_ : Nat) : Nat → Int := fun i => ms.getD (at_ + i) 0
def stF (ms : List Int) (at_ : Nat) : Nat → Int := (putF h0 (ms.take at_)).s
theorem stF_zero (ms : List Int) : stF ms 0 = BT := rfl
theorem stF_all (ms : List Int) : stF ms ms.length = (putF h0 ms).s := by unfold stF; rw [List.take_length]
theorem stF_next (ms : List Int) (p : Nat) (hp : p % 64 = 0) (hl : p + 64 ≤ ms.length) (hm : ms.length < 18446744073709551616) : stF ms (p + 64) = mixF (stF ms p) (blkF ms p) := by
  have hn : (putF h0 (ms.take p)).n = (p : Nat) := by
    rw [put_n h0 _ (by decide) (by decide), List.length_take]
    show ((0 : Int) + (min p ms.length : Nat)) % _ = _
    omega
  unfold stF
  have hs : ms.take (p + 64) = ms.take p ++ (ms.drop p).take 64 := by rw [List.take_add]
  have hl2 : ((ms.drop p).take 64).length = 64 := by rw [List.length_take, List.length_drop]; omega
  rw [hs, putF_append]
  have := put_full (putF h0 (ms.take p)).s ((ms.drop p).take 64) (putF h0 (ms.take p)).b (putF h0 (ms.take p)).n 0 (by rw [hn]; omega) (by rw [hn]; omega) (by rw [hn]; omega) (by rw [hl2]) (by omega)
  rw [show putF (putF h0 (ms.take p)) ((ms.drop p).take 64) = _ from this]
  show mixF _ _ = _
  refine mixF_congr _ _ _ fun i hi => ?_
  rw [lay_get, hl2, if_pos (by omega), List.getD_eq_getElem?_getD, List.getElem?_take, if_pos (by omega), List.getElem?_drop]
  unfold blkF
  rw [List.getD_eq_getElem?_getD, Nat.sub_zero]
end Go.Proofs.YtadolfacjolbkaaDoor
namespace Go.Proofs.YtadolfacjolbkaaDoor
set_option linter.unusedVariables false
set_option linter.unusedSimpArgs false
open Go.RowKit
set_option maxRecDepth 100000
theorem rturn2 (x : Int) (w : World) : Calls Tryd.prog 72 #[.int .u32 x, .int .u64 2] w fun e w' => e = .returned (.int .u32 (rotI x 30)) ∧ w = w' := by
  go_enter Tryd.func72, Tryd.ntmps72
  go_wp2
  go_ret
  refine ⟨?_, rfl⟩
  unfold rotI
  rw [bits_or_comm]
  rfl
theorem rturn6 (x : Int) (w : World) : Calls Tryd.prog 72 #[.int .u32 x, .int .u64 6] w fun e w' => e = .returned (.int .u32 (rotI x 26)) ∧ w = w' := by
  go_enter Tryd.func72, Tryd.ntmps72
  go_wp2
  go_ret
  refine ⟨?_, rfl⟩
  unfold rotI
  rw [bits_or_comm]
  rfl
theorem rturn7 (x : Int) (w : World) : Calls Tryd.prog 72 #[.int .u32 x, .int .u64 7] w fun e w' => e = .returned (.int .u32 (rotI x 25)) ∧ w = w' := by
  go_enter Tryd.func72, Tryd.ntmps72
  go_wp2
  go_ret
  refine ⟨?_, rfl⟩
  unfold rotI
  rw [bits_or_comm]
  rfl
theorem rturn11 (x : Int) (w : World) : Calls Tryd.prog 72 #[.int .u32 x, .int .u64 11] w fun e w' => e = .returned (.int .u32 (rotI x 21)) ∧ w = w' := by
  go_enter Tryd.func72, Tryd.ntmps72
  go_wp2
  go_ret
  refine ⟨?_, rfl⟩
  unfold rotI
  rw [bits_or_comm]
  rfl
theorem rturn13 (x : Int) (w : World) : Calls Tryd.prog 72 #[.int .u32 x, .int .u64 13] w fun e w' => e = .returned (.int .u32 (rotI x 19)) ∧ w = w' := by
  go_enter Tryd.func72, Tryd.ntmps72
  go_wp2
  go_ret
  refine ⟨?_, rfl⟩
  unfold rotI
  rw [bits_or_comm]
  rfl
theorem rturn17 (x : Int) (w : World) : Calls Tryd.prog 72 #[.int .u32 x, .int .u64 17] w fun e w' => e = .returned (.int .u32 (rotI x 15)) ∧ w = w' := by
  go_enter Tryd.func72, Tryd.ntmps72
  go_wp2
  go_ret
  refine ⟨?_, rfl⟩
  unfold rotI
  rw [bits_or_comm]
  rfl
theorem rturn18 (x : Int) (w : World) : Calls Tryd.prog 72 #[.int .u32 x, .int .u64 18] w fun e w' => e = .returned (.int .u32 (rotI x 14)) ∧ w = w' := by
  go_enter Tryd.func72, Tryd.ntmps72
  go_wp2
  go_ret
  refine ⟨?_, rfl⟩
  unfold rotI
  rw [bits_or_comm]
  rfl
theorem rturn19 (x : Int) (w : World) : Calls Tryd.prog 72 #[.int .u32 x, .int .u64 19] w fun e w' => e = .returned (.int .u32 (rotI x 13)) ∧ w = w' := by
  go_enter Tryd.func72, Tryd.ntmps72
  go_wp2
  go_ret
  refine ⟨?_, rfl⟩
  unfold rotI
  rw [bits_or_comm]
  rfl
theorem rturn22 (x : Int) (w : World) : Calls Tryd.prog 72 #[.int .u32 x, .int .u64 22] w fun e w' => e = .returned (.int .u32 (rotI x 10)) ∧ w = w' := by
  go_enter Tryd.func72, Tryd.ntmps72
  go_wp2
  go_ret
  refine ⟨?_, rfl⟩
  unfold rotI
  rw [bits_or_comm]
  rfl
theorem rturn25 (x : Int) (w : World) : Calls Tryd.prog 72 #[.int .u32 x, .int .u64 25] w fun e w' => e = .returned (.int .u32 (rotI x 7)) ∧ w = w' := by
  go_enter Tryd.func72, Tryd.ntmps72
  go_wp2
  go_ret
  refine ⟨?_, rfl⟩
  unfold rotI
  rw [bits_or_comm]
  rfl
theorem results_cell2 {P : Program} {fn : Func} {p q : Tmp} {ty uy : TypeId} (h : fn.results = #[.cell p ty, .cell q uy]) (tmps : Array Value) (w : World) (g g2 : Nat) (t t2 : TypeId) (cs cs2 : Array Value) (fr fr2 : Nat × Nat) (d d2 : TypeDesc)
    (hp : tmps.getD p undef = .pointer (some ⟨g, 0, none⟩)) (hg : w.heap[g]? = some (.cells cs t fr))
    (hu : P.underlying ty = some d) (hd : (match d with | .struct _ | .array _ _ => true | _ => false) = true) (hi : (P.info? ty).map (·.size) = some cs.size)
    (hp2 : tmps.getD q undef = .pointer (some ⟨g2, 0, none⟩)) (hg2 : w.heap[g2]? = some (.cells cs2 t2 fr2))
    (hu2 : P.underlying uy = some d2) (hd2 : (match d2 with | .struct _ | .array _ _ => true | _ => false) = true) (hi2 : (P.info? uy).map (·.size) = some cs2.size) :
    (results fn tmps).run P w = .ok (.tuple #[.agg cs, .agg cs2]) w := by
  have hp' : tmps[p]?.getD undef = .pointer (some ⟨g, 0, none⟩) := by simpa using hp
  have hp2' : tmps[q]?.getD undef = .pointer (some ⟨g2, 0, none⟩) := by simpa using hp2
  simp [results, h, hp', hp2', asAddr, run_loadVar_row w g t ty cs fr d hg hu hd hi, run_loadVar_row w g2 t2 uy cs2 fr2 d2 hg2 hu2 hd2 hi2]
set_option maxHeartbeats 1000000 in
theorem rconsts_any (w : World) : Calls Tryd.prog 71 #[] w fun e w' => e = .returned (.tuple #[.agg (rowOf .u32 64 KT), .agg (rowOf .u32 8 BT)]) ∧ Below w.heap.size w w' := by
  go_enter Tryd.func71, Tryd.ntmps71
  go_upto_region 1 with (fail)
  rw [zeros64, zeros8]
  have h1 := (RowAt.new w .u32 64 143 (fun _ => 0)).alloc (.cells (rowOf .u32 8 (fun _ => 0)) 144)
  have h2 := RowAt.new (w.alloc (.cells (rowOf .u32 64 (fun _ => 0)) 143)) .u32 8 144 (fun _ => 0)
  have hB := (below_alloc w (.cells (rowOf .u32 64 (fun _ => 0)) 143)).trans ((below_alloc _ (.cells (rowOf .u32 8 (fun _ => 0)) 144)).mono (by simp))
  rw [shSize_alloc] at h2
  generalize (w.alloc (.cells (rowOf .u32 64 (fun _ => 0)) 143)).alloc (.cells (rowOf .u32 8 (fun _ => 0)) 144) = w1 at *
  have H1 := Lib.hid h1
  have H2 := Lib.hid h2
  have HB := Lib.hid hB
  clear h1 h2 hB
  go_wp2_with (first
    | (refine wpList_store_row rfl 143 (.tmp 0) (.tmp 2) rfl w.heap.size (rowOf .u32 64 KT) rfl rfl 143 _ H1.out (by rw [rowOf_size]; kernel_rfl) (by rw [rowOf_size, rowOf_size]) (rowOf_one _ _ _) ?_)
    | (refine wpList_store_row rfl 144 (.tmp 1) (.tmp 3) rfl (w.heap.size + 1) (rowOf .u32 8 BT) rfl rfl 144 _ ((setRow_other _ _ _ _ (by omega)).trans H2.out) (by rw [rowOf_size]; kernel_rfl) (by rw [rowOf_size, rowOf_size]) (rowOf_one _ _ _) ?_))
  refine bodyPost_ret (results_cell2 rfl _ _ w.heap.size (w.heap.size + 1) 143 144 (rowOf .u32 64 KT) (rowOf .u32 8 BT) (0, 0) (0, 0) _ _ rfl ((setRow_other _ _ _ _ (by omega)).trans (setRow_heap _ _ _ _ _ _ H1.out)) Tryd.underlying143 rfl (by rw [rowOf_size]; kernel_rfl)
    rfl (setRow_heap _ _ _ _ _ _ ((setRow_other _ _ _ _ (by omega)).trans H2.out)) Tryd.underlying144 rfl (by rw [rowOf_size]; kernel_rfl)) rfl ?_
  exact ⟨rfl, below_setRow (below_setRow HB.out (Nat.le_refl _) _) (by omega) _⟩
end Go.Proofs.YtadolfacjolbkaaDoor
