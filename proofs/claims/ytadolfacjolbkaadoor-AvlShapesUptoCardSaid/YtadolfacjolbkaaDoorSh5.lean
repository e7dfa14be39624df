/- Part 5 of the proof. -/
import Derived.Handy
import Derived.Test.YtadolfacjolbkaaDoorSh3
import Derived.Test.YtadolfacjolbkaaDoorSh4
namespace Go.Proofs.YtadolfacjolbkaaDoor
set_option linter.unusedVariables false
set_option linter.unusedSimpArgs false
open Go.RowKit
set_option maxRecDepth 100000
set_option linter.unusedSimpArgs false
set_option linter.unusedVariables false
theorem agg_mid {P : Program} {ops : Array Oper} {S : World → Prop} {op : Oper} {a : Act} (hw : Region.wanted op (yielded ops a.tmps) = true) (ty : TypeId) (x : Operand) (ho : op.op = .load ty x)
    (b o : Nat) (hx : a.eval x = .pointer (some ⟨b, o, none⟩)) (cs : Array Value) (d : TypeDesc) (hS : ∀ w, S w → w.rangeAt b o cs.toList)
    (hu : P.underlying ty = some d) (hd : d.isRow = true) (hi : (P.info? ty).map (·.size) = some cs.size) : YieldsIf P ops S op (.agg cs) a := by
  have h := yieldsIf_load_mid (P := P) (S := S) hw ty x ho b o hx cs.toList d hS hu hd (by rw [hi]; simp)
  simpa using h
/-- the cells of a tree of the reference -/
def rC (is : Bool) (k v : ByteArray) (kids : Value) : Array Value := #[.bool is, .string k, .string v, kids]
/-- cs is the tree t -/
def RT (w : World) : Array Value → AvT → Prop
  | cs, .leaf k v => cs = rC true k v (.slice none 0 0)
  | cs, .node a b => ∃ blk ca cb, cs = rC true eBA eBA (.slice (some ⟨blk, 0, none⟩) 2 2) ∧ blk < w.heap.size ∧ w.rangeAt blk 0 ca.toList ∧ w.rangeAt blk 4 cb.toList ∧ RT w ca a ∧ RT w cb b
def RO (w : World) (cs : Array Value) (t : Option AvT) : Prop := match t with
  | none => cs = rC false eBA eBA (.slice none 0 0)
  | some t => RT w cs t
theorem RT.below {w w' : World} : ∀ {t : AvT} {cs : Array Value}, RT w cs t → Below w.heap.size w w' → RT w' cs t
  | .leaf k v, cs, h, _ => h
  | .node a b, cs, h, hb => by
    obtain ⟨blk, ca, cb, h, hl, r1, r2, h1, h2⟩ := h
    exact ⟨blk, ca, cb, h, Nat.lt_of_lt_of_le hl hb.size, range_below r1 hb hl, range_below r2 hb hl, h1.below hb, h2.below hb⟩
theorem RO.below {w w' : World} {t : Option AvT} {cs : Array Value} (h : RO w cs t) (hb : Below w.heap.size w w') : RO w' cs t := by
  cases t with
  | none => exact h
  | some t => exact RT.below h hb
theorem RT.form {w : World} {t : AvT} {cs : Array Value} (h : RT w cs t) : ∃ k v a n c, cs = #[.bool true, .string k, .string v, .slice a n c] := by
  cases t with
  | leaf k v => exact ⟨k, v, none, 0, 0, h⟩
  | node a b => obtain ⟨blk, ca, cb, h, _⟩ := h; exact ⟨_, _, _, _, _, h⟩
theorem RO.form {w : World} {t : Option AvT} {cs : Array Value} (h : RO w cs t) : ∃ is k v a n c, cs = #[.bool is, .string k, .string v, .slice a n c] := by
  cases t with
  | none => exact ⟨_, _, _, _, _, _, h⟩
  | some t => obtain ⟨k, v, a, n, c, e⟩ := RT.form h; exact ⟨_, k, v, a, n, c, e⟩
theorem RT.size {w : World} {t : AvT} {cs : Array Value} (h : RT w cs t) : cs.size = 4 := by obtain ⟨k, v, a, n, c, e⟩ := h.form; rw [e]; rfl
theorem RO.size {w : World} {t : Option AvT} {cs : Array Value} (h : RO w cs t) : cs.size = 4 := by obtain ⟨i, k, v, a, n, c, e⟩ := h.form; rw [e]; rfl
theorem RO.one {w : World} {t : Option AvT} {cs : Array Value} (h : RO w cs t) : cs.all (·.oneCell') = true := by obtain ⟨i, k, v, a, n, c, e⟩ := h.form; rw [e]; simp [Value.oneCell']
/-- a block that holds just these cells -/
theorem range_of {w : World} {g : Nat} {cs : Array Value} {T : TypeId} (h : w.heap[g]? = some (.cells cs T (0, 0))) : w.rangeAt g 0 cs.toList := fun j v hv => by
  rw [Nat.zero_add, cell_of_row w g j _ T _ h]
  simpa using hv
theorem r_cells {w : World} {g : Nat} {x0 x1 x2 x3 : Value} {T : TypeId} (h : w.heap[g]? = some (.cells #[x0, x1, x2, x3] T (0, 0))) : w.cell? ⟨g, 0, none⟩ = some x0 ∧ w.cell? ⟨g, 1, none⟩ = some x1 ∧ w.cell? ⟨g, 2, none⟩ = some x2 ∧ w.cell? ⟨g, 3, none⟩ = some x3 :=
  ⟨cell_of_row w g 0 _ _ _ h, cell_of_row w g 1 _ _ _ h, cell_of_row w g 2 _ _ _ h, cell_of_row w g 3 _ _ _ h⟩
/-- a call that answers a tree -/
def NewR (t : Option AvT) (w : World) (e : Ending) (w' : World) : Prop := ∃ cs, e = .returned (.agg cs) ∧ RO w' cs t ∧ Below w.heap.size w w'
theorem rleaf_any (k v : ByteArray) (w : World) : Calls Tryd.prog 56 #[.string k, .string v] w (NewR (some (.leaf k v)) w) := by
  have HB := Lib.hid (below_alloc w (.cells #[.bool false, .string { data := #[] }, .string { data := #[] }, .slice none 0 0] 29))
  have HP := Lib.hid (heap_alloc_new w (.cells #[.bool false, .string { data := #[] }, .string { data := #[] }, .slice none 0 0] 29))
  unfold NewR
  go_enter Tryd.func56, Tryd.ntmps56
  go_upto_region 1 with (fail)
  generalize w.alloc (.cells #[.bool false, .string { data := #[] }, .string { data := #[] }, .slice none 0 0] 29) = w1 at *
  go_wp2_with (refine wpList_store_row rfl 29 (.tmp 4) (.tmp 7) rfl w.heap.size (rC true k v (.slice none 0 0)) rfl rfl 29 _ HP.out (by kernel_rfl) rfl (by simp [rC, Value.oneCell']) ?_)
  refine bodyPost_ret (results_cell_row rfl _ _ w.heap.size 29 (rC true k v (.slice none 0 0)) (0, 0) _ rfl (setRow_heap _ _ _ _ _ _ HP.out) Tryd.underlying29 rfl (by kernel_rfl)) rfl ?_
  exact ⟨_, rfl, rfl, below_setRow HB.out (Nat.le_refl _) _⟩
set_option maxHeartbeats 1000000 in
theorem rtwo_any (ca cb : Array Value) (a b : AvT) (w : World) (ha : RT w ca a) (hb : RT w cb b) : Calls Tryd.prog 57 #[.agg ca, .agg cb] w (NewR (some (.node a b)) w) := by
  have HA := Lib.hid ha
  have HB := Lib.hid hb
  obtain ⟨ka, va, aa, na, la, rfl⟩ := ha.form
  obtain ⟨kb, vb, ab, nb, lb, rfl⟩ := hb.form
  clear ha hb
  obtain ⟨w1, hw1⟩ : ∃ w1, w1 = ((w.alloc (.cells #[.bool true, .string ka, .string va, .slice aa na la] 29)).alloc (.cells #[.bool true, .string kb, .string vb, .slice ab nb lb] 29)).alloc (.cells #[.bool false, .string { data := #[] }, .string { data := #[] }, .slice none 0 0] 29) := ⟨_, rfl⟩
  have HBW : Hid (Below w.heap.size w w1) := Lib.hid (by rw [hw1]; exact ((below_alloc w _).trans ((below_alloc _ _).mono (by simp))).trans ((below_alloc _ _).mono (by simp; omega)))
  have HSZ : Hid (w1.heap.size = w.heap.size + 1 + 1 + 1) := Lib.hid (by rw [hw1]; simp)
  have HPA : Hid (w1.heap[w.heap.size]? = some (.cells #[.bool true, .string ka, .string va, .slice aa na la] 29 (0, 0))) := Lib.hid (by
    rw [hw1, heap_alloc_old _ _ (by simp; omega), heap_alloc_old _ _ (by simp), heap_alloc_new])
  have HPB : Hid (w1.heap[w.heap.size + 1]? = some (.cells #[.bool true, .string kb, .string vb, .slice ab nb lb] 29 (0, 0))) := Lib.hid (by
    rw [hw1, heap_alloc_old _ _ (by simp)]
    have := heap_alloc_new (w.alloc (.cells #[.bool true, .string ka, .string va, .slice aa na la] 29)) (.cells #[.bool true, .string kb, .string vb, .slice ab nb lb] 29)
    rw [size_alloc] at this; exact this)
  have HPC : Hid (w1.heap[w.heap.size + 1 + 1]? = some (.cells #[.bool false, .string { data := #[] }, .string { data := #[] }, .slice none 0 0] 29 (0, 0))) := Lib.hid (by
    rw [hw1]
    have := heap_alloc_new ((w.alloc (.cells #[.bool true, .string ka, .string va, .slice aa na la] 29)).alloc (.cells #[.bool true, .string kb, .string vb, .slice ab nb lb] 29)) (.cells #[.bool false, .string { data := #[] }, .string { data := #[] }, .slice none 0 0] 29)
    rw [size_alloc, size_alloc] at this; exact this)
  unfold NewR
  go_enter Tryd.func57, Tryd.ntmps57
  go_upto_region 1 with (fail)
  rw [← hw1]
  replace hw1 := Lib.hid hw1
  obtain ⟨w2, hw2⟩ : ∃ w2, w2 = w1.alloc (.cells #[.bool true, .string ka, .string va, .slice aa na la, .bool true, .string kb, .string vb, .slice ab nb lb] 29) := ⟨_, rfl⟩
  have HB2 := Lib.hid (show Below w1.heap.size w1 w2 by rw [hw2]; exact below_alloc _ _)
  have HN := Lib.hid (show w2.heap[w1.heap.size]? = some (.cells #[.bool true, .string ka, .string va, .slice aa na la, .bool true, .string kb, .string vb, .slice ab nb lb] 29 (0, 0)) by rw [hw2]; exact heap_alloc_new _ _)
  have HPC2 := Lib.hid ((HB2.out.block _ (Array.getElem?_eq_some_iff.1 HPC.out).1).trans HPC.out)
  replace hw2 := Lib.hid hw2.symm
  go_wp2_with (first
    | (refine wpList_load_row rfl 29 (.tmp 2) rfl w.heap.size rfl 29 _ (0, 0) _ HPA.out Tryd.underlying29 rfl (by kernel_rfl) ?_)
    | (refine wpList_load_row rfl 29 (.tmp 3) rfl (w.heap.size + 1) rfl 29 _ (0, 0) _ HPB.out Tryd.underlying29 rfl (by kernel_rfl) ?_)
    | (rw [hw2.out]; refine wpList_store_row rfl 29 (.tmp 4) (.tmp 8) rfl (w.heap.size + 1 + 1) (rC true eBA eBA (.slice (some ⟨w1.heap.size, 0, none⟩) 2 2)) rfl rfl 29 _ HPC2.out (by kernel_rfl) rfl (by simp [rC, Value.oneCell']) ?_))
  refine bodyPost_ret (results_cell_row rfl _ _ (w.heap.size + 1 + 1) 29 (rC true eBA eBA (.slice (some ⟨w1.heap.size, 0, none⟩) 2 2)) (0, 0) _ rfl (setRow_heap _ _ _ _ _ _ HPC2.out) Tryd.underlying29 rfl (by kernel_rfl)) rfl ?_
  have hb3 : Below w.heap.size w (w2.setRow (w.heap.size + 1 + 1) (rC true eBA eBA (.slice (some ⟨w1.heap.size, 0, none⟩) 2 2))) := below_setRow (HBW.out.trans (HB2.out.mono HBW.out.size)) (by omega) _
  have hn3 : (w2.setRow (w.heap.size + 1 + 1) (rC true eBA eBA (.slice (some ⟨w1.heap.size, 0, none⟩) 2 2))).heap[w1.heap.size]? = _ := (setRow_other _ _ _ _ (by have := HSZ.out; omega)).trans HN.out
  refine ⟨_, rfl, ⟨w1.heap.size, _, _, rfl, (Array.getElem?_eq_some_iff.1 hn3).1, ?_, ?_, HA.out.below hb3, HB.out.below hb3⟩, hb3⟩
  · intro j v hv
    rw [Nat.zero_add, cell_of_row _ _ j _ _ _ hn3]
    have hj : j < 4 := by have := (List.getElem?_eq_some_iff.1 hv).1; simpa using this
    match j, hj, hv with
    | 0, _, hv => exact hv
    | 1, _, hv => exact hv
    | 2, _, hv => exact hv
    | 3, _, hv => exact hv
  · intro j v hv
    rw [cell_of_row _ _ (4 + j) _ _ _ hn3]
    have hj : j < 4 := by have := (List.getElem?_eq_some_iff.1 hv).1; simpa using this
    match j, hj, hv with
    | 0, _, hv => exact hv
    | 1, _, hv => exact hv
    | 2, _, hv => exact hv
    | 3, _, hv => exact hv
def HtPost (n : Nat) (w : World) (e : Ending) (w' : World) : Prop := e = .returned (.int .i64 (n : Int)) ∧ Below w.heap.size w w'
theorem rheight_none (w : World) : Calls Tryd.prog 63 #[.agg (rC false eBA eBA (.slice none 0 0))] w (HtPost 0 w) := by
  unfold rC eBA HtPost
  go_enter Tryd.func63, Tryd.ntmps63
  go_wp2_with (fail)
  go_ret
  exact ⟨rfl, below_alloc _ _⟩
set_option maxHeartbeats 4000000 in
theorem rheight_some : ∀ (t : AvT) (cs : Array Value) (w : World), RT w cs t → t.many ≤ 4611686018427387904 → Calls Tryd.prog 63 #[.agg cs] w (HtPost t.height w)
  | .leaf k v, cs, w, hcs, _ => by
    obtain rfl := hcs
    unfold rC HtPost
    go_enter Tryd.func63, Tryd.ntmps63
    go_wp2_with (fail)
    go_ret
    exact ⟨rfl, below_alloc _ _⟩
  | .node a b, cs, w, hcs, hm => by
    simp only [AvT.many] at hm
    have hla := a.height_le
    have hlb := b.height_le
    obtain ⟨blk, ca, cb, rfl, hblk, r1, r2, ta, tb⟩ := hcs
    have HZca := Lib.hid ta.size
    have HZcb := Lib.hid tb.size
    have HB := Lib.hid (below_alloc w (.cells #[.bool true, .string { data := #[] }, .string { data := #[] }, .slice (some ⟨blk, 0, none⟩) 2 2] 29))
    have HP := Lib.hid (heap_alloc_new w (.cells #[.bool true, .string { data := #[] }, .string { data := #[] }, .slice (some ⟨blk, 0, none⟩) 2 2] 29))
    have HT := Lib.hid (show RT _ ca a ∧ RT _ cb b from ⟨ta.below HB.out, tb.below HB.out⟩)
    have HL := Lib.hid (show w.heap.size < Array.size (World.heap _) ∧ blk < Array.size (World.heap _) from ⟨(Array.getElem?_eq_some_iff.1 HP.out).1, Nat.lt_of_lt_of_le hblk HB.out.size⟩)
    have HR := Lib.hid (show World.rangeAt _ blk 0 ca.toList ∧ World.rangeAt _ blk 4 cb.toList from ⟨range_below r1 HB.out hblk, range_below r2 HB.out hblk⟩)
    have HST : Hid (∀ w1 w2 : World, (w1.cell? ⟨w.heap.size, 3, none⟩ = some (.slice (some ⟨blk, 0, none⟩) 2 2) ∧ w1.rangeAt blk 0 ca.toList ∧ w1.rangeAt blk 4 cb.toList) → Below w1.heap.size w1 w2 → (w.heap.size < w1.heap.size ∧ blk < w1.heap.size) → (w2.cell? ⟨w.heap.size, 3, none⟩ = some (.slice (some ⟨blk, 0, none⟩) 2 2) ∧ w2.rangeAt blk 0 ca.toList ∧ w2.rangeAt blk 4 cb.toList)) := Lib.hid fun w1 w2 h hb hl => ⟨(hb.cell (p := ⟨w.heap.size, 3, none⟩) hl.1).trans h.1, range_below h.2.1 hb hl.2, range_below h.2.2 hb hl.2⟩
    have HIA := Lib.hid (fun w h => rheight_some a ca w h (by omega))
    have HIB := Lib.hid (fun w h => rheight_some b cb w h (by omega))
    clear ta tb r1 r2 hblk
    obtain ⟨ha, hha⟩ : ∃ n, n = a.height := ⟨_, rfl⟩
    obtain ⟨hb, hhb⟩ : ∃ n, n = b.height := ⟨_, rfl⟩
    rw [show (AvT.node a b).height = 1 + max a.height b.height from rfl]
    rw [← hha] at HIA hla ⊢
    rw [← hhb] at HIB hlb ⊢
    have hla' : ha ≤ 4611686018427387904 := by omega
    have hlb' : hb ≤ 4611686018427387904 := by omega
    clear hha hhb hla hlb hm
    unfold rC HtPost eBA at *
    go_enter Tryd.func63, Tryd.ntmps63
    go_upto_region 1 with (fail)
    generalize w.alloc (.cells #[.bool true, .string { data := #[] }, .string { data := #[] }, .slice (some ⟨blk, 0, none⟩) 2 2] 29) = w1 at *
    obtain ⟨c0, -, -, c3⟩ := r_cells HP.out
    go_upto_region 5 with (fail)
    refine wp_region_T (fun w' => w'.cell? ⟨w.heap.size, 3, none⟩ = some (.slice (some ⟨blk, 0, none⟩) 2 2) ∧ w'.rangeAt blk 0 ca.toList ∧ w'.rangeAt blk 4 cb.toList) [1, 2, 3, 4, 6, 7, 8] (by kernel_rfl) ?_
    have HS := Lib.hid (show w1.drew.cell? ⟨w.heap.size, 3, none⟩ = some (.slice (some ⟨blk, 0, none⟩) 2 2) ∧ w1.drew.rangeAt blk 0 ca.toList ∧ w1.drew.rangeAt blk 4 cb.toList from ⟨c3, HR.out.1, HR.out.2⟩)
    replace HB := Lib.hid (show Below w.heap.size w w1.drew from HB.out.drew)
    replace HT := Lib.hid (show RT w1.drew ca a ∧ RT w1.drew cb b from ⟨HT.out.1.below (Below.refl _ _).drew, HT.out.2.below (Below.refl _ _).drew⟩)
    replace HL := Lib.hid (show w.heap.size < w1.drew.heap.size ∧ blk < w1.drew.heap.size from HL.out)
    clear c0 c3 HR HP
    generalize w1.drew = w2 at *
    refine anyT_takeY (i := 0) (v := .pointer (some ⟨w.heap.size, 3, none⟩)) rfl (by kernel_rfl) (by kernel_rfl) (by kernel_rfl) (fun _ _ _ h => h) (by kernel_rfl) (Or.inl ⟨by rfl, by intro w; go_simp⟩) ?_
    try simp only [List.getElem_toArray, List.getElem_cons_succ, List.getElem_cons_zero, Act.put, List.setIfInBounds_toArray, List.set_cons_zero, List.set_cons_succ]
    refine anyT_takeY (i := 5) (v := .pointer (some ⟨w.heap.size, 3, none⟩)) rfl (by kernel_rfl) (by kernel_rfl) (by kernel_rfl) (fun _ _ _ h => h) (by kernel_rfl) (Or.inl ⟨by rfl, by intro w; go_simp⟩) ?_
    try simp only [List.getElem_toArray, List.getElem_cons_succ, List.getElem_cons_zero, Act.put, List.setIfInBounds_toArray, List.set_cons_zero, List.set_cons_succ]
    refine anyT_take [2, 3, 4, 9, 10, 11, 12] (i := 1) (v := .slice (some ⟨blk, 0, none⟩) 2 2) rfl (by kernel_rfl) (by kernel_rfl) (by kernel_rfl) (fun _ _ _ h => h) (by kernel_rfl) (Or.inl ⟨by rfl, fun w' hS => by have c := hS.1; go_simp⟩) HS.out ?_
    try simp only [List.getElem_toArray, List.getElem_cons_succ, List.getElem_cons_zero, Act.put, List.setIfInBounds_toArray, List.set_cons_zero, List.set_cons_succ]
    refine anyT_take [3, 4, 9, 10, 11, 12] (i := 2) (v := .pointer (some ⟨blk, 0, none⟩)) rfl (by kernel_rfl) (by kernel_rfl) (by kernel_rfl) (fun _ _ _ h => h) (by kernel_rfl) (Or.inl ⟨by rfl, fun w' _ => by go_simp⟩) HS.out ?_
    try simp only [List.getElem_toArray, List.getElem_cons_succ, List.getElem_cons_zero, Act.put, List.setIfInBounds_toArray, List.set_cons_zero, List.set_cons_succ]
    refine anyT_take [4, 9, 10, 11, 12] (i := 3) (v := .agg ca) rfl (by kernel_rfl) (by kernel_rfl) (by kernel_rfl) (fun _ _ _ h => h) (by kernel_rfl) (agg_mid (by rfl) 29 (.tmp 12) rfl blk 0 rfl ca _ (fun _ h => h.2.1) Tryd.underlying29 rfl (by rw [HZca.out]; kernel_rfl)) HS.out ?_
    try simp only [List.getElem_toArray, List.getElem_cons_succ, List.getElem_cons_zero, Act.put, List.setIfInBounds_toArray, List.set_cons_zero, List.set_cons_succ]
    refine anyT_take [7, 8, 9, 10, 11, 12] (i := 6) (v := .slice (some ⟨blk, 0, none⟩) 2 2) rfl (by kernel_rfl) (by kernel_rfl) (by kernel_rfl) (fun _ _ _ h => h) (by kernel_rfl) (Or.inl ⟨by rfl, fun w' hS => by have c := hS.1; go_simp⟩) HS.out ?_
    try simp only [List.getElem_toArray, List.getElem_cons_succ, List.getElem_cons_zero, Act.put, List.setIfInBounds_toArray, List.set_cons_zero, List.set_cons_succ]
    refine anyT_take [8, 9, 10, 11, 12] (i := 7) (v := .pointer (some ⟨blk, 4, none⟩)) rfl (by kernel_rfl) (by kernel_rfl) (by kernel_rfl) (fun _ _ _ h => h) (by kernel_rfl) (Or.inl ⟨by rfl, fun w' _ => by go_simp⟩) HS.out ?_
    try simp only [List.getElem_toArray, List.getElem_cons_succ, List.getElem_cons_zero, Act.put, List.setIfInBounds_toArray, List.set_cons_zero, List.set_cons_succ]
    refine anyT_take [9, 10, 11, 12] (i := 8) (v := .agg cb) rfl (by kernel_rfl) (by kernel_rfl) (by kernel_rfl) (fun _ _ _ h => h) (by kernel_rfl) (agg_mid (by rfl) 29 (.tmp 17) rfl blk 4 rfl cb _ (fun _ h => h.2.2) Tryd.underlying29 rfl (by rw [HZcb.out]; kernel_rfl)) HS.out ?_
    try simp only [List.getElem_toArray, List.getElem_cons_succ, List.getElem_cons_zero, Act.put, List.setIfInBounds_toArray, List.set_cons_zero, List.set_cons_succ]
    refine anyT_one (i := 4) (by kernel_rfl) rfl (fun K hK => ?_)
    rw [if_pos (by rfl)]
    try simp only [List.getElem_toArray, List.getElem_cons_succ, List.getElem_cons_zero]
    (go_simp; refine (HIA.out _ HT.out.1).mono ?_; rintro e w4 ⟨rfl, hb⟩; replace HS := Lib.hid (HST.out _ _ HS.out hb HL.out); replace HT := Lib.hid (show _ ∧ _ from ⟨HT.out.1.below hb, HT.out.2.below hb⟩); replace HB := Lib.hid (HB.out.trans (hb.mono HB.out.size)); replace HL := Lib.hid (show _ ∧ _ from ⟨Nat.lt_of_lt_of_le HL.out.1 hb.size, Nat.lt_of_lt_of_le HL.out.2 hb.size⟩); clear hb)
    refine hK _ _ (fun _ => HS.out) ?_
    clear hK K
    try simp only [List.getElem_toArray, List.getElem_cons_succ, List.getElem_cons_zero, Act.put, List.setIfInBounds_toArray, List.set_cons_zero, List.set_cons_succ]
    refine anyT_one (i := 9) (by kernel_rfl) rfl (fun K hK => ?_)
    rw [if_pos (by rfl)]
    try simp only [List.getElem_toArray, List.getElem_cons_succ, List.getElem_cons_zero]
    (go_simp; refine (HIB.out _ HT.out.2).mono ?_; rintro e w5 ⟨rfl, hb⟩; replace HB := Lib.hid (HB.out.trans (hb.mono HB.out.size)); clear hb)
    refine hK _ _ (not_mem rfl) ?_
    clear hK K
    try simp only [List.getElem_toArray, List.getElem_cons_succ, List.getElem_cons_zero, Act.put, List.setIfInBounds_toArray, List.set_cons_zero, List.set_cons_succ]
    refine anyT_takeY (i := 10) (v := .int .i64 ((max ha hb : Nat) : Int)) rfl (by kernel_rfl) (by kernel_rfl) (by kernel_rfl) (fun _ _ _ h => h) (by kernel_rfl) (Or.inl ⟨by rfl, by intro w; go_simp; omega⟩) ?_
    try simp only [List.getElem_toArray, List.getElem_cons_succ, List.getElem_cons_zero, Act.put, List.setIfInBounds_toArray, List.set_cons_zero, List.set_cons_succ]
    refine anyT_takeY (i := 11) (v := .int .i64 ((1 + max ha hb : Nat) : Int)) rfl (by kernel_rfl) (by kernel_rfl) (by kernel_rfl) (fun _ _ _ h => h) (by kernel_rfl) (Or.inl ⟨by rfl, by intro w; go_simp; exact IntWalk.i64_in _ (by omega)⟩) ?_
    try simp only [List.getElem_toArray, List.getElem_cons_succ, List.getElem_cons_zero, Act.put, List.setIfInBounds_toArray, List.set_cons_zero, List.set_cons_succ]
    refine anyT_takeY (i := 12) (v := .int .i64 ((1 + max ha hb : Nat) : Int)) rfl (by kernel_rfl) (by kernel_rfl) (by kernel_rfl) (fun _ _ _ h => h) (by kernel_rfl) (Or.inl ⟨by rfl, by intro w; go_simp⟩) ?_
    try simp only [List.getElem_toArray, List.getElem_cons_succ, List.getElem_cons_zero, Act.put, List.setIfInBounds_toArray, List.set_cons_zero, List.set_cons_succ]
    refine anyT_done (by kernel_rfl) ?_ _
    go_wp2_with (fail)
    go_ret
    exact ⟨rfl, HB.out⟩
theorem rheight_any (t : Option AvT) (cs : Array Value) (w : World) (h : RO w cs t) (hm : manyO t ≤ 4611686018427387904) : Calls Tryd.prog 63 #[.agg cs] w (HtPost (heightO t) w) := by
  cases t with
  | none => cases h; exact rheight_none w
  | some t => exact rheight_some t cs w h hm
/-- a call that answers pairs of its own -/
def PsPost (l : List KV) (w : World) (e : Ending) (w' : World) : Prop := ∃ r, e = .returned r ∧ w'.ownsRow w.heap.size 87 2 r l.length (flatKV l) ∧ Below w.heap.size w w'
theorem rpairs_none (w : World) : Calls Tryd.prog 44 #[.agg (rC false eBA eBA (.slice none 0 0))] w (PsPost [] w) := by
  unfold rC eBA PsPost
  go_enter Tryd.func44, Tryd.ntmps44
  go_wp2_with (fail)
  go_ret
  exact ⟨_, rfl, World.ownsRow_nil _ _ _ _, below_alloc _ _⟩
set_option maxHeartbeats 4000000 in
theorem rpairs_some : ∀ (t : AvT) (cs : Array Value) (w : World), RT w cs t → t.many ≤ 1099511627776 → Calls Tryd.prog 44 #[.agg cs] w (PsPost t.pairs w)
  | .leaf k v, cs, w, hcs, _ => by
    obtain rfl := hcs
    have HB := Lib.hid (below_alloc w (.cells #[.bool true, .string k, .string v, .slice none 0 0] 29))
    have HO := Lib.hid (kv_new (w.alloc (.cells #[.bool true, .string k, .string v, .slice none 0 0] 29)) (k, v))
    have HB2 := Lib.hid (below_alloc (w.alloc (.cells #[.bool true, .string k, .string v, .slice none 0 0] 29)) (.cells #[.string k, .string v] 87))
    unfold rC PsPost
    go_enter Tryd.func44, Tryd.ntmps44
    go_upto_region 1 with (fail)
    obtain ⟨c0, c1, c2, c3⟩ := r_cells (heap_alloc_new w (.cells #[.bool true, .string k, .string v, .slice none 0 0] 29))
    generalize w.alloc (.cells #[.bool true, .string k, .string v, .slice none 0 0] 29) = w1 at *
    go_wp2_with (fail)
    go_ret
    exact ⟨_, rfl, ownsRow_base HO.out HB.out.size, HB.out.trans (HB2.out.mono HB.out.size)⟩
  | .node a b, cs, w, hcs, hm => by
    have hme := a.many_eq
    have hme2 := b.many_eq
    simp only [AvT.many] at hm
    obtain ⟨blk, ca, cb, rfl, hblk, r1, r2, ta, tb⟩ := hcs
    have HZca := Lib.hid ta.size
    have HZcb := Lib.hid tb.size
    have HB := Lib.hid (below_alloc w (.cells #[.bool true, .string { data := #[] }, .string { data := #[] }, .slice (some ⟨blk, 0, none⟩) 2 2] 29))
    have HP := Lib.hid (heap_alloc_new w (.cells #[.bool true, .string { data := #[] }, .string { data := #[] }, .slice (some ⟨blk, 0, none⟩) 2 2] 29))
    have HT := Lib.hid (show RT _ ca a ∧ RT _ cb b from ⟨ta.below HB.out, tb.below HB.out⟩)
    have HL := Lib.hid (show w.heap.size < Array.size (World.heap _) ∧ blk < Array.size (World.heap _) from ⟨(Array.getElem?_eq_some_iff.1 HP.out).1, Nat.lt_of_lt_of_le hblk HB.out.size⟩)
    have HR := Lib.hid (show World.rangeAt _ blk 0 ca.toList ∧ World.rangeAt _ blk 4 cb.toList from ⟨range_below r1 HB.out hblk, range_below r2 HB.out hblk⟩)
    have HST : Hid (∀ w1 w2 : World, (w1.cell? ⟨w.heap.size, 3, none⟩ = some (.slice (some ⟨blk, 0, none⟩) 2 2) ∧ w1.rangeAt blk 0 ca.toList ∧ w1.rangeAt blk 4 cb.toList) → Below w1.heap.size w1 w2 → (w.heap.size < w1.heap.size ∧ blk < w1.heap.size) → (w2.cell? ⟨w.heap.size, 3, none⟩ = some (.slice (some ⟨blk, 0, none⟩) 2 2) ∧ w2.rangeAt blk 0 ca.toList ∧ w2.rangeAt blk 4 cb.toList)) := Lib.hid fun w1 w2 h hb hl => ⟨(hb.cell (p := ⟨w.heap.size, 3, none⟩) hl.1).trans h.1, range_below h.2.1 hb hl.2, range_below h.2.2 hb hl.2⟩
    have HIA := Lib.hid (fun w h => rpairs_some a ca w h (by omega))
    have HIB := Lib.hid (fun w h => rpairs_some b cb w h (by omega))
    clear ta tb r1 r2 hblk
    rw [show (AvT.node a b).pairs = a.pairs ++ b.pairs from rfl]
    obtain ⟨la, hla⟩ : ∃ l, l = a.pairs := ⟨_, rfl⟩
    obtain ⟨lb, hlb⟩ : ∃ l, l = b.pairs := ⟨_, rfl⟩
    rw [← hla] at HIA hme ⊢
    rw [← hlb] at HIB hme2 ⊢
    have HLB := Lib.hid (show la.length + lb.length ≤ 1099511627776 by omega)
    clear hla hlb hm hme hme2
    unfold rC PsPost eBA at *
    go_enter Tryd.func44, Tryd.ntmps44
    go_upto_region 1 with (fail)
    generalize w.alloc (.cells #[.bool true, .string { data := #[] }, .string { data := #[] }, .slice (some ⟨blk, 0, none⟩) 2 2] 29) = w1 at *
    obtain ⟨c0, -, -, c3⟩ := r_cells HP.out
    go_upto_region 5 with (fail)
    refine wp_region_T (fun w' => w'.cell? ⟨w.heap.size, 3, none⟩ = some (.slice (some ⟨blk, 0, none⟩) 2 2) ∧ w'.rangeAt blk 0 ca.toList ∧ w'.rangeAt blk 4 cb.toList) [1, 2, 3, 4, 6, 7, 8] (by kernel_rfl) ?_
    have HS := Lib.hid (show w1.drew.cell? ⟨w.heap.size, 3, none⟩ = some (.slice (some ⟨blk, 0, none⟩) 2 2) ∧ w1.drew.rangeAt blk 0 ca.toList ∧ w1.drew.rangeAt blk 4 cb.toList from ⟨c3, HR.out.1, HR.out.2⟩)
    replace HB := Lib.hid (show Below w.heap.size w w1.drew from HB.out.drew)
    replace HT := Lib.hid (show RT w1.drew ca a ∧ RT w1.drew cb b from ⟨HT.out.1.below (Below.refl _ _).drew, HT.out.2.below (Below.refl _ _).drew⟩)
    replace HL := Lib.hid (show w.heap.size < w1.drew.heap.size ∧ blk < w1.drew.heap.size from HL.out)
    clear c0 c3 HR HP
    generalize w1.drew = w2 at *
    refine anyT_takeY (i := 0) (v := .pointer (some ⟨w.heap.size, 3, none⟩)) rfl (by kernel_rfl) (by kernel_rfl) (by kernel_rfl) (fun _ _ _ h => h) (by kernel_rfl) (Or.inl ⟨by rfl, by intro w; go_simp⟩) ?_
    try simp only [List.getElem_toArray, List.getElem_cons_succ, List.getElem_cons_zero, Act.put, List.setIfInBounds_toArray, List.set_cons_zero, List.set_cons_succ]
    refine anyT_takeY (i := 5) (v := .pointer (some ⟨w.heap.size, 3, none⟩)) rfl (by kernel_rfl) (by kernel_rfl) (by kernel_rfl) (fun _ _ _ h => h) (by kernel_rfl) (Or.inl ⟨by rfl, by intro w; go_simp⟩) ?_
    try simp only [List.getElem_toArray, List.getElem_cons_succ, List.getElem_cons_zero, Act.put, List.setIfInBounds_toArray, List.set_cons_zero, List.set_cons_succ]
    refine anyT_take [2, 3, 4, 9, 10, 11] (i := 1) (v := .slice (some ⟨blk, 0, none⟩) 2 2) rfl (by kernel_rfl) (by kernel_rfl) (by kernel_rfl) (fun _ _ _ h => h) (by kernel_rfl) (Or.inl ⟨by rfl, fun w' hS => by have c := hS.1; go_simp⟩) HS.out ?_
    try simp only [List.getElem_toArray, List.getElem_cons_succ, List.getElem_cons_zero, Act.put, List.setIfInBounds_toArray, List.set_cons_zero, List.set_cons_succ]
    refine anyT_take [3, 4, 9, 10, 11] (i := 2) (v := .pointer (some ⟨blk, 0, none⟩)) rfl (by kernel_rfl) (by kernel_rfl) (by kernel_rfl) (fun _ _ _ h => h) (by kernel_rfl) (Or.inl ⟨by rfl, fun w' _ => by go_simp⟩) HS.out ?_
    try simp only [List.getElem_toArray, List.getElem_cons_succ, List.getElem_cons_zero, Act.put, List.setIfInBounds_toArray, List.set_cons_zero, List.set_cons_succ]
    refine anyT_take [4, 9, 10, 11] (i := 3) (v := .agg ca) rfl (by kernel_rfl) (by kernel_rfl) (by kernel_rfl) (fun _ _ _ h => h) (by kernel_rfl) (agg_mid (by rfl) 29 (.tmp 18) rfl blk 0 rfl ca _ (fun _ h => h.2.1) Tryd.underlying29 rfl (by rw [HZca.out]; kernel_rfl)) HS.out ?_
    try simp only [List.getElem_toArray, List.getElem_cons_succ, List.getElem_cons_zero, Act.put, List.setIfInBounds_toArray, List.set_cons_zero, List.set_cons_succ]
    refine anyT_take [7, 8, 9, 10, 11] (i := 6) (v := .slice (some ⟨blk, 0, none⟩) 2 2) rfl (by kernel_rfl) (by kernel_rfl) (by kernel_rfl) (fun _ _ _ h => h) (by kernel_rfl) (Or.inl ⟨by rfl, fun w' hS => by have c := hS.1; go_simp⟩) HS.out ?_
    try simp only [List.getElem_toArray, List.getElem_cons_succ, List.getElem_cons_zero, Act.put, List.setIfInBounds_toArray, List.set_cons_zero, List.set_cons_succ]
    refine anyT_take [8, 9, 10, 11] (i := 7) (v := .pointer (some ⟨blk, 4, none⟩)) rfl (by kernel_rfl) (by kernel_rfl) (by kernel_rfl) (fun _ _ _ h => h) (by kernel_rfl) (Or.inl ⟨by rfl, fun w' _ => by go_simp⟩) HS.out ?_
    try simp only [List.getElem_toArray, List.getElem_cons_succ, List.getElem_cons_zero, Act.put, List.setIfInBounds_toArray, List.set_cons_zero, List.set_cons_succ]
    refine anyT_take [9, 10, 11] (i := 8) (v := .agg cb) rfl (by kernel_rfl) (by kernel_rfl) (by kernel_rfl) (fun _ _ _ h => h) (by kernel_rfl) (agg_mid (by rfl) 29 (.tmp 23) rfl blk 4 rfl cb _ (fun _ h => h.2.2) Tryd.underlying29 rfl (by rw [HZcb.out]; kernel_rfl)) HS.out ?_
    try simp only [List.getElem_toArray, List.getElem_cons_succ, List.getElem_cons_zero, Act.put, List.setIfInBounds_toArray, List.set_cons_zero, List.set_cons_succ]
    refine anyT_one (i := 4) (by kernel_rfl) rfl (fun K hK => ?_)
    rw [if_pos (by rfl)]
    try simp only [List.getElem_toArray, List.getElem_cons_succ, List.getElem_cons_zero]
    (go_simp; refine (HIA.out _ HT.out.1).mono ?_; rintro e w4 ⟨r4, rfl, ho, hb⟩; have HO := Lib.hid (ownsRow_base ho HB.out.size); replace HS := Lib.hid (HST.out _ _ HS.out hb HL.out); replace HT := Lib.hid (show _ ∧ _ from ⟨HT.out.1.below hb, HT.out.2.below hb⟩); replace HB := Lib.hid (HB.out.trans (hb.mono HB.out.size)); replace HL := Lib.hid (show _ ∧ _ from ⟨Nat.lt_of_lt_of_le HL.out.1 hb.size, Nat.lt_of_lt_of_le HL.out.2 hb.size⟩); clear hb ho)
    refine hK _ _ (fun _ => HS.out) ?_
    clear hK K
    try simp only [List.getElem_toArray, List.getElem_cons_succ, List.getElem_cons_zero, Act.put, List.setIfInBounds_toArray, List.set_cons_zero, List.set_cons_succ]
    refine anyT_one (i := 9) (by kernel_rfl) rfl (fun K hK => ?_)
    rw [if_pos (by rfl)]
    try simp only [List.getElem_toArray, List.getElem_cons_succ, List.getElem_cons_zero]
    (go_simp; refine (HIB.out _ HT.out.2).mono ?_; rintro e w5 ⟨r5, rfl, ho, hb⟩; have HO5 := Lib.hid (KVIn.of_own ho); replace HO := Lib.hid (ownsRow_below HO.out hb); replace HB := Lib.hid (HB.out.trans (hb.mono HB.out.size)); clear hb ho)
    refine hK _ _ (not_mem rfl) ?_
    clear hK K
    try simp only [List.getElem_toArray, List.getElem_cons_succ, List.getElem_cons_zero, Act.put, List.setIfInBounds_toArray, List.set_cons_zero, List.set_cons_succ]
    refine anyT_one (i := 10) (by kernel_rfl) rfl (fun K hK => ?_)
    rw [if_pos (by rfl)]
    try simp only [List.getElem_toArray, List.getElem_cons_succ, List.getElem_cons_zero]
    (refine wp_append_kvs (.tmp 20) (.tmp 25) rfl rfl w.heap.size r4 _ (flatKV la) rfl HO.out r5 lb rfl HO5.out (by have := HLB.out; omega) HB.out.size ?_; intro v6 w6 ho6 hg6; have HO6 := Lib.hid ho6; have HB6 := Lib.hid (HB.out.grown hg6 HB.out.size (fun k hk => (HO.out.lt k hk).1)); clear ho6 hg6)
    refine hK _ _ (not_mem rfl) ?_
    clear hK K
    try simp only [List.getElem_toArray, List.getElem_cons_succ, List.getElem_cons_zero, Act.put, List.setIfInBounds_toArray, List.set_cons_zero, List.set_cons_succ]
    refine anyT_takeY (i := 11) (v := v6) rfl (by kernel_rfl) (by kernel_rfl) (by kernel_rfl) (fun _ _ _ h => h) (by kernel_rfl) (Or.inl ⟨by rfl, by intro w; go_simp⟩) ?_
    try simp only [List.getElem_toArray, List.getElem_cons_succ, List.getElem_cons_zero, Act.put, List.setIfInBounds_toArray, List.set_cons_zero, List.set_cons_succ]
    refine anyT_done (by kernel_rfl) ?_ _
    go_wp2_with (fail)
    go_ret
    refine ⟨v6, rfl, ?_, HB6.out⟩
    rw [List.length_append, flatKV_append]
    exact HO6.out
theorem rpairs_any (t : Option AvT) (cs : Array Value) (w : World) (h : RO w cs t) (hm : manyO t ≤ 1099511627776) : Calls Tryd.prog 44 #[.agg cs] w (PsPost (pairsO t) w) := by
  cases t with
  | none => cases h; exact rpairs_none w
  | some t => exact rpairs_some t cs w h hm
end Go.Proofs.YtadolfacjolbkaaDoor
