/- Part 14 of the proof. -/
import Derived.ChangeKeysEq
import Derived.Test.YtabflppnecemkaaGreatDoorPb6
import Derived.Test.YtabflppnecemkaaGreatDoorPb11
import Derived.Test.YtabflppnecemkaaGreatDoorPb13
namespace Go.Proofs.YtabflppnecemkaaGreatDoor
set_option linter.unusedVariables false
set_option linter.unusedSimpArgs false
open Go.RowKit
set_option maxRecDepth 100000
def intVals (l : List Int) : List Value := l.map (Value.int .i64)
theorem intVals_length (l : List Int) : (intVals l).length = l.length := by simp [intVals]
theorem intVals_append (a b : List Int) : intVals (a ++ b) = intVals a ++ intVals b := by simp [intVals]
theorem intVals_one (l : List Int) : ∀ v ∈ intVals l, v.oneCell' = true := by
  intro v hv
  simp only [intVals, List.mem_map] at hv
  obtain ⟨i, _, rfl⟩ := hv
  rfl
theorem infoInt : (Tryz.prog.info? 3).map (fun i => (i.zero, i.size, i.bytes)) = some (some (.int .i64 0), 1, 8) := by kernel_rfl
/-- v is a slice of the numbers l -/
def IntsIn (w : World) (v : Value) (l : List Int) : Prop :=
  ∃ a cap, v = .slice a l.length cap ∧ l.length ≤ cap ∧ l.length ≤ maxLen ∧ (l = [] ∨ ∃ ab ao, a = some ⟨ab, ao, none⟩ ∧ ∀ i x, l[i]? = some x → w.cell? ⟨ab, ao + i, none⟩ = some (.int .i64 x))
theorem IntsIn.below {w w' : World} {v : Value} {l : List Int} (h : IntsIn w v l) (hb : Below w.heap.size w w') : IntsIn w' v l := by
  obtain ⟨a, cap, rfl, hc, hm, hx⟩ := h
  refine ⟨a, cap, rfl, hc, hm, ?_⟩
  rcases hx with hx | ⟨ab, ao, rfl, hx⟩
  · exact .inl hx
  · exact .inr ⟨ab, ao, rfl, fun i y hi => (hb.cell (p := ⟨ab, ao + i, none⟩) (World.block_lt_of_cell? w _ (hx i y hi))).trans (hx i y hi)⟩
theorem owns_ints {w : World} {base : Nat} {v : Value} {l : List Int} (h : w.ownsRow base 3 1 v l.length (intVals l)) (hl : l.length ≤ maxLen) : IntsIn w v l := by
  rcases h.2 with ⟨rfl, h0⟩ | ⟨g, c, cur, rfl, hb, hg, hc, hm, hs, ht⟩
  · obtain rfl := List.eq_nil_of_length_eq_zero h0
    exact ⟨none, 0, rfl, Nat.le_refl _, hl, .inl rfl⟩
  · refine ⟨_, c, rfl, hc, hl, .inr ⟨g, 0, rfl, fun i x hi => ?_⟩⟩
    have := h.cells (g := g) rfl i (.int .i64 x) (by simp [intVals, hi])
    rw [Addr.add_mid] at this
    exact this
theorem ints_nil (w : World) : IntsIn w (.slice none 0 0) [] := ⟨_, _, rfl, by simp, by simp [maxLen], .inl rfl⟩
theorem lits_in (w : World) (l : List Int) (hl : l.length ≤ maxLen) : IntsIn (w.alloc (.cells (intVals l).toArray 3)) (.slice (some ⟨w.heap.size, 0, none⟩) l.length l.length) l := by
  refine ⟨_, _, rfl, Nat.le_refl _, hl, .inr ⟨_, _, rfl, fun i x hi => ?_⟩⟩
  rw [Nat.zero_add, cell_of_row _ _ _ _ _ _ (heap_alloc_new w _)]
  simp [intVals, hi]
end Go.Proofs.YtabflppnecemkaaGreatDoor
namespace Go.Proofs.YtabflppnecemkaaGreatDoor
set_option linter.unusedVariables false
set_option linter.unusedSimpArgs false
open Go.RowKit
set_option maxRecDepth 100000
/-- are the first 32 numbers the same? -/
def eqB (f g : Nat → Int) : Bool := (List.range 32).all fun i => f i == g i
theorem eqB_self (f : Nat → Int) : eqB f f = true := by simp [eqB]
theorem eqItems32 (f g : Nat → Int) (w : World) : ∀ is : List Nat, (∀ i ∈ is, i < 32) → (Op.eqItems 9999 5 1 (rowOf .u8 32 f) (rowOf .u8 32 g) is).run Tryz.prog w = .ok (is.all fun i => f i == g i) w
  | [], _ => by simp [Op.eqItems]
  | i :: is, h => by
    have hi : i < 32 := h i (by simp)
    have ha : (isAgg 5).run Tryz.prog w = .ok false w := by kernel_rfl
    have hp : ∀ f : Nat → Int, (part 5 (rowOf .u8 32 f) (i * 1)).run Tryz.prog w = .ok (.int .u8 (f i)) w := fun f => by
      simp [part, Sem.run_bind, ha, rowOf_get .u8 32 f i hi]
    have ih := eqItems32 f g w is (fun j hj => h j (by simp [hj]))
    have pe : (Op.equalIn 9999 5 (.int .u8 (f i)) (.int .u8 (g i))).run Tryz.prog w = .ok (f i == g i) w := run_equalIn_int w 9998 5 .u8 .u8 _ _ Tryz.underlying5
    simp only [Op.eqItems, Sem.run_bind, hp, pe, Result.andThen_ok, List.all_cons]
    cases hb : (f i == g i)
    · simp
    · simpa using ih
theorem eq32 (f g : Nat → Int) (w : World) : (binOp .eql 62 (.agg (rowOf .u8 32 f)) (.agg (rowOf .u8 32 g))).run Tryz.prog w = .ok (.bool (eqB f g)) w := by
  rw [run_eql_struct, run_equalIn_array w 9999 (i := (Tryz.prog.info? 5).getD default) _ _ Tryz.underlying62 (by kernel_rfl), show Tryz.prog.cellsOf 5 = 1 by kernel_rfl, eqItems32 f g w _ (fun i hi => by simpa using hi)]
  rfl
theorem eqIn32 (f g : Nat → Int) (w : World) : (Op.equalIn 10000 62 (.agg (rowOf .u8 32 f)) (.agg (rowOf .u8 32 g))).run Tryz.prog w = .ok (eqB f g) w := by
  rw [run_equalIn_array w 9999 (i := (Tryz.prog.info? 5).getD default) _ _ Tryz.underlying62 (by kernel_rfl), show Tryz.prog.cellsOf 5 = 1 by kernel_rfl, eqItems32 f g w _ (fun i hi => by simpa using hi)]
  rfl
theorem neq32_self (f : Nat → Int) (w : World) : (binOp .neq 62 (.agg (rowOf .u8 32 f)) (.agg (rowOf .u8 32 f))).run Tryz.prog w = .ok (.bool false) w := by
  rw [run_neq_struct, eqIn32, eqB_self]
  rfl
theorem eqIn32_self (f : Nat → Int) (w : World) : (Op.equalIn 10000 62 (.agg (rowOf .u8 32 f)) (.agg (rowOf .u8 32 f))).run Tryz.prog w = .ok true w := by rw [eqIn32, eqB_self]
theorem eq32_self (f : Nat → Int) (w : World) : (binOp .eql 62 (.agg (rowOf .u8 32 f)) (.agg (rowOf .u8 32 f))).run Tryz.prog w = .ok (.bool true) w := by rw [eq32, eqB_self]
end Go.Proofs.YtabflppnecemkaaGreatDoor
namespace Go.Proofs.YtabflppnecemkaaGreatDoor
set_option linter.unusedVariables false
set_option linter.unusedSimpArgs false
open Go.RowKit
set_option maxRecDepth 100000
set_option linter.unusedSimpArgs false
set_option linter.unusedVariables false
theorem sbeq_self (a : ByteArray) : (a.toList == a.toList) = true := by simp
theorem sbeq_ne {a b : ByteArray} (h : a ≠ b) : (a.toList == b.toList) = false := by
  rw [beq_eq_false_iff_ne]
  intro e
  rw [ByteArray.toList_eq, ByteArray.toList_eq] at e
  exact h (by cases a; cases b; simp at e; rw [e])
/-- a place: the root, the index, the count -/
abbrev Pl := (Nat → Int) × Int × Int
def plC (x : Pl) : Array Value := rowOf .u8 32 x.1 ++ #[.int .i64 x.2.1, .int .i64 x.2.2]
theorem plC_size (x : Pl) : (plC x).size = 34 := by simp [plC, rowOf_size]
theorem plC_one (x : Pl) : (plC x).all (·.oneCell') = true := by
  unfold plC
  rw [Array.all_append, rowOf_one]
  simp [Value.oneCell']
theorem pl_cells {w : World} {g : Nat} {x : Pl} {T : TypeId} (h : w.heap[g]? = some (.cells (plC x) T (0, 0))) :
    w.rangeAt g 0 (rowOf .u8 32 x.1).toList ∧ w.cell? ⟨g, 32, none⟩ = some (.int .i64 x.2.1) ∧ w.cell? ⟨g, 33, none⟩ = some (.int .i64 x.2.2) := by
  have hs : (rowOf .u8 32 x.1).size = 32 := rowOf_size _ _ _
  refine ⟨fun j u hu => ?_, ?_, ?_⟩
  · have hj : j < 32 := by have := (List.getElem?_eq_some_iff.1 hu).1; simpa [hs] using this
    rw [Nat.zero_add, cell_of_row w g j _ _ _ h]; unfold plC
    rw [Array.getElem?_append_left (by simp [hs]; omega)]
    simpa using hu
  · rw [cell_of_row w g 32 _ _ _ h]; unfold plC
    rw [Array.getElem?_append_right (by simp [hs])]; simp [hs]
  · rw [cell_of_row w g 33 _ _ _ h]; unfold plC
    rw [Array.getElem?_append_right (by simp [hs])]; simp [hs]
theorem st_cells {w : World} {g : Nat} {s : AvS} {T : TypeId} (h : w.heap[g]? = some (.cells (stC s) T (0, 0))) :
    w.cell? ⟨g, 0, none⟩ = some (.bool s.sec) ∧ w.cell? ⟨g, 1, none⟩ = some (.int .i64 s.many) ∧ w.rangeAt g 2 (rowOf .u8 32 s.oth).toList := by
  have hs : (rowOf .u8 32 s.oth).size = 32 := rowOf_size _ _ _
  refine ⟨?_, ?_, fun j u hu => ?_⟩
  · rw [cell_of_row w g 0 _ _ _ h]; unfold stC; rw [Array.getElem?_append_left (by simp)]; rfl
  · rw [cell_of_row w g 1 _ _ _ h]; unfold stC; rw [Array.getElem?_append_left (by simp)]; rfl
  · rw [cell_of_row w g (2 + j) _ _ _ h]; unfold stC
    rw [Array.getElem?_append_right (by simp)]
    simpa using hu
theorem pl_built (x : Pl) : Tryz.prog.built 142 [(0, .agg (rowOf .u8 32 x.1)), (1, .int .i64 x.2.1), (2, .int .i64 x.2.2)] = some (plC x) := by
  obtain ⟨F, i, n⟩ := x
  kernel_rfl
def plZ : Pl := (fun _ => 0, 0, 0)
theorem plZ_lit : #[Value.int IntKind.u8 0, Value.int IntKind.u8 0, Value.int IntKind.u8 0, Value.int IntKind.u8 0, Value.int IntKind.u8 0, Value.int IntKind.u8 0, Value.int IntKind.u8 0, Value.int IntKind.u8 0, Value.int IntKind.u8 0, Value.int IntKind.u8 0, Value.int IntKind.u8 0, Value.int IntKind.u8 0, Value.int IntKind.u8 0, Value.int IntKind.u8 0, Value.int IntKind.u8 0, Value.int IntKind.u8 0, Value.int IntKind.u8 0, Value.int IntKind.u8 0, Value.int IntKind.u8 0, Value.int IntKind.u8 0, Value.int IntKind.u8 0, Value.int IntKind.u8 0, Value.int IntKind.u8 0, Value.int IntKind.u8 0, Value.int IntKind.u8 0, Value.int IntKind.u8 0, Value.int IntKind.u8 0, Value.int IntKind.u8 0, Value.int IntKind.u8 0, Value.int IntKind.u8 0, Value.int IntKind.u8 0, Value.int IntKind.u8 0, Value.int IntKind.i64 0, Value.int IntKind.i64 0] = plC plZ := by rfl
/-- one step up -/
def upP (x : Pl) (s : AvS) : Pl :=
  if s.sec then (avNodeF (uN s.many) s.oth (uN x.2.2) x.1, s.many + x.2.1, x.2.2 + s.many) else (avNodeF (uN x.2.2) x.1 (uN s.many) s.oth, x.2.1, x.2.2 + s.many)
theorem wpList_load_rowsz {w : World} {ops : Array Oper} {rest : List Oper} {o : Oper} {a : Act} {Q : Exit → Act → World → Prop} (hgd : Region.wanted o (yielded ops a.tmps) = true) (ty : TypeId) (x : Operand) (ho : o.op = .load ty x)
    (b off : Nat) (hx : a.eval x = .pointer (some ⟨b, off, none⟩)) (cs : Array Value) (d : TypeDesc) (hc : w.rangeAt b off cs.toList) (hu : Tryz.prog.underlying ty = some d) (hd : d.isRow = true) (hi : (Tryz.prog.info? ty).map (·.size) = some cs.size)
    (h : wpList Tryz.prog ops Q rest (a.put o.dst (.agg cs)) w) : wpList Tryz.prog ops Q (o :: rest) a w :=
  BigFrame.wpList_want hgd fun _ hK => wp_load_mid ty x ho b off hx cs.toList d hc hu hd (by rw [hi, Array.length_toList]) (hK _ _ (by simpa using h))
theorem row_range {w : World} {g : Nat} {cs : Array Value} {T : TypeId} (h : w.heap[g]? = some (.cells cs T (0, 0))) : w.rangeAt g 0 cs.toList := fun j v hv => by
  rw [Nat.zero_add, cell_of_row w g j _ _ _ h]; simpa using hv
theorem row_yields' {ops : Array Oper} {S : World → Prop} {op : Oper} {a : Act} (hw : Region.wanted op (yielded ops a.tmps) = true) (ty : TypeId) (x : Operand) (ho : op.op = .load ty x)
    (b o : Nat) (hx : a.eval x = .pointer (some ⟨b, o, none⟩)) (cs : Array Value) (d : TypeDesc) (hS : ∀ w, S w → w.rangeAt b o cs.toList)
    (hu : Tryz.prog.underlying ty = some d) (hd : d.isRow = true) (hi : (Tryz.prog.info? ty).map (·.size) = some cs.size) : YieldsIf Tryz.prog ops S op (.agg cs) a := by
  have h := yieldsIf_load_mid (P := Tryz.prog) (S := S) hw ty x ho b o hx cs.toList d hS hu hd (by rw [hi, Array.length_toList])
  simpa using h
end Go.Proofs.YtabflppnecemkaaGreatDoor
namespace Go.Proofs.YtabflppnecemkaaGreatDoor
set_option linter.unusedVariables false
set_option linter.unusedSimpArgs false
open Go.RowKit
set_option maxRecDepth 100000
set_option linter.unusedSimpArgs false
set_option linter.unusedVariables false
def upS8 (w : World) (g2 g3 : Nat) (x : Pl) (s : AvS) : Prop := w.heap[g2]? = some (.cells (plC x) 142 (0, 0)) ∧ w.heap[g3]? = some (.cells (stC s) 65 (0, 0))
theorem upS8.below {w w' : World} {g2 g3 : Nat} {x : Pl} {s : AvS} (h : upS8 w g2 g3 x s) (hb : Below w.heap.size w w') : upS8 w' g2 g3 x s :=
  ⟨(hb.block _ (Array.getElem?_eq_some_iff.1 h.1).1).trans h.1, (hb.block _ (Array.getElem?_eq_some_iff.1 h.2).1).trans h.2⟩
/-- what up leaves in memory as it begins -/
def upW (w : World) (x : Pl) (s : AvS) : World := ((w.alloc (.cells (plC x) 142)).alloc (.cells (stC s) 65)).alloc (.cells (plC plZ) 142)
theorem upW_at (w : World) (x : Pl) (s : AvS) : upS8 (upW w x s) w.heap.size (w.heap.size + 1) x s ∧ (upW w x s).heap[w.heap.size + 1 + 1]? = some (.cells (plC plZ) 142 (0, 0)) ∧ Below w.heap.size w (upW w x s) := by
  refine ⟨⟨?_, ?_⟩, ?_, ?_⟩
  · unfold upW; rw [heap_alloc_old _ _ (by simp; omega), heap_alloc_old _ _ (by simp), heap_alloc_new]
  · unfold upW; rw [heap_alloc_old _ _ (by simp)]
    have := heap_alloc_new (w.alloc (.cells (plC x) 142)) (.cells (stC s) 65)
    rw [size_alloc] at this; exact this
  · unfold upW
    have := heap_alloc_new ((w.alloc (.cells (plC x) 142)).alloc (.cells (stC s) 65)) (.cells (plC plZ) 142)
    rw [size_alloc, size_alloc] at this; exact this
  · exact ((((Below.refl _ w).alloc (Nat.le_refl _) _).alloc (by simp) _).alloc (by simp; omega) _)
set_option maxHeartbeats 4000000 in
theorem up_any (x : Pl) (s : AvS) (w : World) (he : Env w) (hi : 0 ≤ x.2.1 ∧ x.2.1 ≤ 1099511627776) (hn : 0 ≤ x.2.2 ∧ x.2.2 ≤ 1099511627776) (hm : 1 ≤ s.many ∧ s.many ≤ 4294967296) :
    Calls Tryz.prog 91 #[.agg (plC x), .agg (stC s)] w fun e w' => e = .returned (.agg (plC (upP x s))) ∧ Below w.heap.size w w' := by
  have HA := Lib.hid (upW_at w x s)
  have HE := Lib.hid (he.below HA.out.2.2 he.lt)
  have HS := Lib.hid HA.out.1
  have HP := Lib.hid HA.out.2.1
  have HB := Lib.hid HA.out.2.2
  clear he HA
  obtain ⟨h, i, n⟩ := x
  obtain ⟨sec, m, O⟩ := s
  simp only at hi hn hm
  have hw1 : IntKind.i64.wrap (n + m) = n + m := IntWalk.i64_in _ (by omega)
  have hw2 : IntKind.i64.wrap (m + i) = m + i := IntWalk.i64_in _ (by omega)
  have hu1 : IntKind.i64.wrap m = m := IntWalk.i64_in _ (by omega)
  go_enter Tryz.func91, Tryz.ntmps91
  go_upto_region 1 with (fail)
  rw [plZ_lit]
  have e0 : ((w.alloc (.cells (plC (h, i, n)) 142)).alloc (.cells (stC ⟨sec, m, O⟩) 65)).alloc (.cells (plC plZ) 142) = upW w (h, i, n) ⟨sec, m, O⟩ := rfl
  rw [e0]
  clear e0
  generalize upW w (h, i, n) ⟨sec, m, O⟩ = w1 at *
  obtain ⟨-, ci, cn⟩ := pl_cells HS.out.1
  obtain ⟨cs, cm, -⟩ := st_cells HS.out.2
  simp only at ci cn cs cm
  clear hu1
  cases sec with
  | true =>
    have HND := Lib.hid (fun w he => avNode_any m n O h w he)
    obtain ⟨NF, hNF⟩ : ∃ F, F = avNodeF (uN m) O (uN n) h := ⟨_, rfl⟩
    rw [← hNF] at HND
    have HU := Lib.hid (show upP (h, i, n) ⟨true, m, O⟩ = (NF, m + i, n + m) by rw [hNF]; rfl)
    clear hNF
    go_upto_region 3 with (fail)
    refine wp_region_T (fun w' => upS8 w' w.heap.size (w.heap.size + 1) (h, i, n) ⟨true, m, O⟩) [1, 3, 5, 7, 8, 10, 12] (by kernel_rfl) ?_
    clear ci cn cs cm
    replace HS := Lib.hid (HS.out.below (Below.refl _ w1).drew)
    replace HE := Lib.hid (HE.out.below (Below.refl _ w1).drew HE.out.lt)
    replace HP := Lib.hid (show w1.drew.heap[w.heap.size + 1 + 1]? = some (.cells (plC plZ) 142 (0, 0)) from HP.out)
    replace HB := Lib.hid HB.out.drew
    generalize w1.drew = w2 at *
    refine anyT_takeY (i := 0) (v := .pointer (some ⟨w.heap.size + 1, 1, none⟩)) rfl (by kernel_rfl) (by kernel_rfl) (by kernel_rfl) (fun _ _ _ h => h) (by kernel_rfl) (Or.inl ⟨by rfl, by intro w; go_simp⟩) ?_
    try simp only [List.getElem_toArray, List.getElem_cons_succ, List.getElem_cons_zero, Act.put, List.setIfInBounds_toArray, List.set_cons_zero, List.set_cons_succ]
    refine anyT_takeY (i := 2) (v := .pointer (some ⟨w.heap.size + 1, 2, none⟩)) rfl (by kernel_rfl) (by kernel_rfl) (by kernel_rfl) (fun _ _ _ h => h) (by kernel_rfl) (Or.inl ⟨by rfl, by intro w; go_simp⟩) ?_
    try simp only [List.getElem_toArray, List.getElem_cons_succ, List.getElem_cons_zero, Act.put, List.setIfInBounds_toArray, List.set_cons_zero, List.set_cons_succ]
    refine anyT_takeY (i := 4) (v := .pointer (some ⟨w.heap.size, 33, none⟩)) rfl (by kernel_rfl) (by kernel_rfl) (by kernel_rfl) (fun _ _ _ h => h) (by kernel_rfl) (Or.inl ⟨by rfl, by intro w; go_simp⟩) ?_
    try simp only [List.getElem_toArray, List.getElem_cons_succ, List.getElem_cons_zero, Act.put, List.setIfInBounds_toArray, List.set_cons_zero, List.set_cons_succ]
    refine anyT_takeY (i := 6) (v := .pointer (some ⟨w.heap.size, 0, none⟩)) rfl (by kernel_rfl) (by kernel_rfl) (by kernel_rfl) (fun _ _ _ h => h) (by kernel_rfl) (Or.inl ⟨by rfl, by intro w; go_simp⟩) ?_
    try simp only [List.getElem_toArray, List.getElem_cons_succ, List.getElem_cons_zero, Act.put, List.setIfInBounds_toArray, List.set_cons_zero, List.set_cons_succ]
    refine anyT_takeY (i := 9) (v := .pointer (some ⟨w.heap.size + 1, 1, none⟩)) rfl (by kernel_rfl) (by kernel_rfl) (by kernel_rfl) (fun _ _ _ h => h) (by kernel_rfl) (Or.inl ⟨by rfl, by intro w; go_simp⟩) ?_
    try simp only [List.getElem_toArray, List.getElem_cons_succ, List.getElem_cons_zero, Act.put, List.setIfInBounds_toArray, List.set_cons_zero, List.set_cons_succ]
    refine anyT_takeY (i := 11) (v := .pointer (some ⟨w.heap.size, 32, none⟩)) rfl (by kernel_rfl) (by kernel_rfl) (by kernel_rfl) (fun _ _ _ h => h) (by kernel_rfl) (Or.inl ⟨by rfl, by intro w; go_simp⟩) ?_
    try simp only [List.getElem_toArray, List.getElem_cons_succ, List.getElem_cons_zero, Act.put, List.setIfInBounds_toArray, List.set_cons_zero, List.set_cons_succ]
    refine anyT_takeY (i := 14) (v := .int .i64 (n + m)) rfl (by kernel_rfl) (by kernel_rfl) (by kernel_rfl) (fun _ _ _ h => h) (by kernel_rfl) (Or.inl ⟨by rfl, by intro w; go_simp⟩) ?_
    try simp only [List.getElem_toArray, List.getElem_cons_succ, List.getElem_cons_zero, Act.put, List.setIfInBounds_toArray, List.set_cons_zero, List.set_cons_succ]
    refine anyT_take [13, 15, 16] (i := 10) (v := .int .i64 m) rfl (by kernel_rfl) (by kernel_rfl) (by kernel_rfl) (fun _ _ _ h => h) (by kernel_rfl) (Or.inl ⟨by rfl, fun w' hS => by have c := (st_cells hS.2).2.1; go_simp⟩) HS.out ?_
    try simp only [List.getElem_toArray, List.getElem_cons_succ, List.getElem_cons_zero, Act.put, List.setIfInBounds_toArray, List.set_cons_zero, List.set_cons_succ]
    refine anyT_take [13, 15, 16] (i := 12) (v := .int .i64 i) rfl (by kernel_rfl) (by kernel_rfl) (by kernel_rfl) (fun _ _ _ h => h) (by kernel_rfl) (Or.inl ⟨by rfl, fun w' hS => by have c := (pl_cells hS.1).2.1; go_simp⟩) HS.out ?_
    try simp only [List.getElem_toArray, List.getElem_cons_succ, List.getElem_cons_zero, Act.put, List.setIfInBounds_toArray, List.set_cons_zero, List.set_cons_succ]
    refine anyT_takeY (i := 13) (v := .int .i64 (m + i)) rfl (by kernel_rfl) (by kernel_rfl) (by kernel_rfl) (fun _ _ _ h => h) (by kernel_rfl) (Or.inl ⟨by rfl, by intro w; go_simp⟩) ?_
    try simp only [List.getElem_toArray, List.getElem_cons_succ, List.getElem_cons_zero, Act.put, List.setIfInBounds_toArray, List.set_cons_zero, List.set_cons_succ]
    refine anyT_take [8, 15, 16] (i := 1) (v := .int .i64 m) rfl (by kernel_rfl) (by kernel_rfl) (by kernel_rfl) (fun _ _ _ h => h) (by kernel_rfl) (Or.inl ⟨by rfl, fun w' hS => by have c := (st_cells hS.2).2.1; go_simp⟩) HS.out ?_
    try simp only [List.getElem_toArray, List.getElem_cons_succ, List.getElem_cons_zero, Act.put, List.setIfInBounds_toArray, List.set_cons_zero, List.set_cons_succ]
    refine anyT_take [8, 15, 16] (i := 3) (v := .agg (rowOf .u8 32 O)) rfl (by kernel_rfl) (by kernel_rfl) (by kernel_rfl) (fun _ _ _ h => h) (by kernel_rfl) (row_yields_mid (by rfl) 62 (.tmp 15) rfl (w.heap.size + 1) 2 rfl .u8 32 O _ (fun _ hS => (st_cells hS.2).2.2) Tryz.underlying62 rfl (by kernel_rfl)) HS.out ?_
    try simp only [List.getElem_toArray, List.getElem_cons_succ, List.getElem_cons_zero, Act.put, List.setIfInBounds_toArray, List.set_cons_zero, List.set_cons_succ]
    refine anyT_take [8, 15, 16] (i := 5) (v := .int .i64 n) rfl (by kernel_rfl) (by kernel_rfl) (by kernel_rfl) (fun _ _ _ h => h) (by kernel_rfl) (Or.inl ⟨by rfl, fun w' hS => by have c := (pl_cells hS.1).2.2; go_simp⟩) HS.out ?_
    try simp only [List.getElem_toArray, List.getElem_cons_succ, List.getElem_cons_zero, Act.put, List.setIfInBounds_toArray, List.set_cons_zero, List.set_cons_succ]
    refine anyT_take [8, 15, 16] (i := 7) (v := .agg (rowOf .u8 32 h)) rfl (by kernel_rfl) (by kernel_rfl) (by kernel_rfl) (fun _ _ _ h => h) (by kernel_rfl) (row_yields_mid (by rfl) 62 (.tmp 19) rfl w.heap.size 0 rfl .u8 32 h _ (fun _ hS => (pl_cells hS.1).1) Tryz.underlying62 rfl (by kernel_rfl)) HS.out ?_
    try simp only [List.getElem_toArray, List.getElem_cons_succ, List.getElem_cons_zero, Act.put, List.setIfInBounds_toArray, List.set_cons_zero, List.set_cons_succ]
    refine anyT_one (i := 8) (by kernel_rfl) rfl (fun K hK => ?_)
    rw [if_pos (by rfl)]
    try simp only [List.getElem_toArray, List.getElem_cons_succ, List.getElem_cons_zero]
    (go_simp; refine (HND.out _ HE.out).mono ?_; rintro e w3 ⟨rfl, hb⟩; replace HP := Lib.hid ((hb.block _ (Array.getElem?_eq_some_iff.1 HP.out).1).trans HP.out); replace HB := Lib.hid (HB.out.trans (hb.mono HB.out.size)))
    refine hK _ _ (fun _ => HS.out.below hb) ?_
    clear hK K
    try simp only [List.getElem_toArray, List.getElem_cons_succ, List.getElem_cons_zero, Act.put, List.setIfInBounds_toArray, List.set_cons_zero, List.set_cons_succ]
    refine anyT_takeY (i := 15) (v := .agg (plC (NF, m + i, n + m))) rfl (by kernel_rfl) (by kernel_rfl) (by kernel_rfl) (fun _ _ _ h => h) (by kernel_rfl) (build_yields (by rfl) 142 #[(0, .tmp 21), (1, .tmp 26), (2, .tmp 27)] rfl (plC (NF, m + i, n + m)) (by refine Eq.trans (congrArg (Tryz.prog.built 142) ?_) (pl_built (NF, m + i, n + m)); kernel_rfl)) ?_
    try simp only [List.getElem_toArray, List.getElem_cons_succ, List.getElem_cons_zero, Act.put, List.setIfInBounds_toArray, List.set_cons_zero, List.set_cons_succ]
    refine anyT_one (i := 16) (by kernel_rfl) rfl (fun K hK => ?_)
    rw [if_pos (by rfl)]
    try simp only [List.getElem_toArray, List.getElem_cons_succ, List.getElem_cons_zero]
    (refine wp_store_row 142 (.tmp 4) (.tmp 28) rfl (w.heap.size + 1 + 1) (plC (NF, m + i, n + m)) rfl rfl 142 _ HP.out (by rw [plC_size]; kernel_rfl) (by rw [plC_size, plC_size]) (plC_one _) ?_)
    refine hK _ _ (not_mem rfl) ?_
    clear hK K
    try simp only [List.getElem_toArray, List.getElem_cons_succ, List.getElem_cons_zero, Act.put, List.setIfInBounds_toArray, List.set_cons_zero, List.set_cons_succ]
    refine anyT_done (by kernel_rfl) ?_ _
    go_wp2_with (fail)
    refine bodyPost_ret (results_cell_row rfl _ _ (w.heap.size + 1 + 1) 142 (plC (NF, m + i, n + m)) (0, 0) _ rfl (setRow_heap _ _ _ _ _ _ HP.out) Tryz.underlying142 rfl (by rw [plC_size]; kernel_rfl)) rfl ?_
    exact ⟨by rw [HU.out], below_setRow HB.out (by omega) _⟩
  | false =>
    have HND := Lib.hid (fun w he => avNode_any n m h O w he)
    obtain ⟨NF, hNF⟩ : ∃ F, F = avNodeF (uN n) h (uN m) O := ⟨_, rfl⟩
    rw [← hNF] at HND
    have HU := Lib.hid (show upP (h, i, n) ⟨false, m, O⟩ = (NF, i, n + m) by rw [hNF]; rfl)
    clear hNF
    go_upto_region 4 with (fail)
    refine wp_region_T (fun w' => upS8 w' w.heap.size (w.heap.size + 1) (h, i, n) ⟨false, m, O⟩) [1, 3, 5, 7, 8, 10] (by kernel_rfl) ?_
    clear ci cn cs cm
    replace HS := Lib.hid (HS.out.below (Below.refl _ w1).drew)
    replace HE := Lib.hid (HE.out.below (Below.refl _ w1).drew HE.out.lt)
    replace HP := Lib.hid (show w1.drew.heap[w.heap.size + 1 + 1]? = some (.cells (plC plZ) 142 (0, 0)) from HP.out)
    replace HB := Lib.hid HB.out.drew
    generalize w1.drew = w2 at *
    refine anyT_takeY (i := 0) (v := .pointer (some ⟨w.heap.size, 33, none⟩)) rfl (by kernel_rfl) (by kernel_rfl) (by kernel_rfl) (fun _ _ _ h => h) (by kernel_rfl) (Or.inl ⟨by rfl, by intro w; go_simp⟩) ?_
    try simp only [List.getElem_toArray, List.getElem_cons_succ, List.getElem_cons_zero, Act.put, List.setIfInBounds_toArray, List.set_cons_zero, List.set_cons_succ]
    refine anyT_takeY (i := 2) (v := .pointer (some ⟨w.heap.size, 0, none⟩)) rfl (by kernel_rfl) (by kernel_rfl) (by kernel_rfl) (fun _ _ _ h => h) (by kernel_rfl) (Or.inl ⟨by rfl, by intro w; go_simp⟩) ?_
    try simp only [List.getElem_toArray, List.getElem_cons_succ, List.getElem_cons_zero, Act.put, List.setIfInBounds_toArray, List.set_cons_zero, List.set_cons_succ]
    refine anyT_takeY (i := 4) (v := .pointer (some ⟨w.heap.size + 1, 1, none⟩)) rfl (by kernel_rfl) (by kernel_rfl) (by kernel_rfl) (fun _ _ _ h => h) (by kernel_rfl) (Or.inl ⟨by rfl, by intro w; go_simp⟩) ?_
    try simp only [List.getElem_toArray, List.getElem_cons_succ, List.getElem_cons_zero, Act.put, List.setIfInBounds_toArray, List.set_cons_zero, List.set_cons_succ]
    refine anyT_takeY (i := 6) (v := .pointer (some ⟨w.heap.size + 1, 2, none⟩)) rfl (by kernel_rfl) (by kernel_rfl) (by kernel_rfl) (fun _ _ _ h => h) (by kernel_rfl) (Or.inl ⟨by rfl, by intro w; go_simp⟩) ?_
    try simp only [List.getElem_toArray, List.getElem_cons_succ, List.getElem_cons_zero, Act.put, List.setIfInBounds_toArray, List.set_cons_zero, List.set_cons_succ]
    refine anyT_takeY (i := 9) (v := .pointer (some ⟨w.heap.size, 32, none⟩)) rfl (by kernel_rfl) (by kernel_rfl) (by kernel_rfl) (fun _ _ _ h => h) (by kernel_rfl) (Or.inl ⟨by rfl, by intro w; go_simp⟩) ?_
    try simp only [List.getElem_toArray, List.getElem_cons_succ, List.getElem_cons_zero, Act.put, List.setIfInBounds_toArray, List.set_cons_zero, List.set_cons_succ]
    refine anyT_takeY (i := 11) (v := .int .i64 (n + m)) rfl (by kernel_rfl) (by kernel_rfl) (by kernel_rfl) (fun _ _ _ h => h) (by kernel_rfl) (Or.inl ⟨by rfl, by intro w; go_simp⟩) ?_
    try simp only [List.getElem_toArray, List.getElem_cons_succ, List.getElem_cons_zero, Act.put, List.setIfInBounds_toArray, List.set_cons_zero, List.set_cons_succ]
    refine anyT_take [8, 12, 13] (i := 1) (v := .int .i64 n) rfl (by kernel_rfl) (by kernel_rfl) (by kernel_rfl) (fun _ _ _ h => h) (by kernel_rfl) (Or.inl ⟨by rfl, fun w' hS => by have c := (pl_cells hS.1).2.2; go_simp⟩) HS.out ?_
    try simp only [List.getElem_toArray, List.getElem_cons_succ, List.getElem_cons_zero, Act.put, List.setIfInBounds_toArray, List.set_cons_zero, List.set_cons_succ]
    refine anyT_take [8, 12, 13] (i := 3) (v := .agg (rowOf .u8 32 h)) rfl (by kernel_rfl) (by kernel_rfl) (by kernel_rfl) (fun _ _ _ h => h) (by kernel_rfl) (row_yields_mid (by rfl) 62 (.tmp 31) rfl w.heap.size 0 rfl .u8 32 h _ (fun _ hS => (pl_cells hS.1).1) Tryz.underlying62 rfl (by kernel_rfl)) HS.out ?_
    try simp only [List.getElem_toArray, List.getElem_cons_succ, List.getElem_cons_zero, Act.put, List.setIfInBounds_toArray, List.set_cons_zero, List.set_cons_succ]
    refine anyT_take [8, 12, 13] (i := 5) (v := .int .i64 m) rfl (by kernel_rfl) (by kernel_rfl) (by kernel_rfl) (fun _ _ _ h => h) (by kernel_rfl) (Or.inl ⟨by rfl, fun w' hS => by have c := (st_cells hS.2).2.1; go_simp⟩) HS.out ?_
    try simp only [List.getElem_toArray, List.getElem_cons_succ, List.getElem_cons_zero, Act.put, List.setIfInBounds_toArray, List.set_cons_zero, List.set_cons_succ]
    refine anyT_take [8, 12, 13] (i := 7) (v := .agg (rowOf .u8 32 O)) rfl (by kernel_rfl) (by kernel_rfl) (by kernel_rfl) (fun _ _ _ h => h) (by kernel_rfl) (row_yields_mid (by rfl) 62 (.tmp 35) rfl (w.heap.size + 1) 2 rfl .u8 32 O _ (fun _ hS => (st_cells hS.2).2.2) Tryz.underlying62 rfl (by kernel_rfl)) HS.out ?_
    try simp only [List.getElem_toArray, List.getElem_cons_succ, List.getElem_cons_zero, Act.put, List.setIfInBounds_toArray, List.set_cons_zero, List.set_cons_succ]
    refine anyT_take [12, 13] (i := 10) (v := .int .i64 i) rfl (by kernel_rfl) (by kernel_rfl) (by kernel_rfl) (fun _ _ _ h => h) (by kernel_rfl) (Or.inl ⟨by rfl, fun w' hS => by have c := (pl_cells hS.1).2.1; go_simp⟩) HS.out ?_
    try simp only [List.getElem_toArray, List.getElem_cons_succ, List.getElem_cons_zero, Act.put, List.setIfInBounds_toArray, List.set_cons_zero, List.set_cons_succ]
    refine anyT_one (i := 8) (by kernel_rfl) rfl (fun K hK => ?_)
    rw [if_pos (by rfl)]
    try simp only [List.getElem_toArray, List.getElem_cons_succ, List.getElem_cons_zero]
    (go_simp; refine (HND.out _ HE.out).mono ?_; rintro e w3 ⟨rfl, hb⟩; replace HP := Lib.hid ((hb.block _ (Array.getElem?_eq_some_iff.1 HP.out).1).trans HP.out); replace HB := Lib.hid (HB.out.trans (hb.mono HB.out.size)))
    refine hK _ _ (fun _ => HS.out.below hb) ?_
    clear hK K
    try simp only [List.getElem_toArray, List.getElem_cons_succ, List.getElem_cons_zero, Act.put, List.setIfInBounds_toArray, List.set_cons_zero, List.set_cons_succ]
    refine anyT_takeY (i := 12) (v := .agg (plC (NF, i, n + m))) rfl (by kernel_rfl) (by kernel_rfl) (by kernel_rfl) (fun _ _ _ h => h) (by kernel_rfl) (build_yields (by rfl) 142 #[(0, .tmp 37), (1, .tmp 39), (2, .tmp 40)] rfl (plC (NF, i, n + m)) (by refine Eq.trans (congrArg (Tryz.prog.built 142) ?_) (pl_built (NF, i, n + m)); kernel_rfl)) ?_
    try simp only [List.getElem_toArray, List.getElem_cons_succ, List.getElem_cons_zero, Act.put, List.setIfInBounds_toArray, List.set_cons_zero, List.set_cons_succ]
    refine anyT_one (i := 13) (by kernel_rfl) rfl (fun K hK => ?_)
    rw [if_pos (by rfl)]
    try simp only [List.getElem_toArray, List.getElem_cons_succ, List.getElem_cons_zero]
    (refine wp_store_row 142 (.tmp 4) (.tmp 41) rfl (w.heap.size + 1 + 1) (plC (NF, i, n + m)) rfl rfl 142 _ HP.out (by rw [plC_size]; kernel_rfl) (by rw [plC_size, plC_size]) (plC_one _) ?_)
    refine hK _ _ (not_mem rfl) ?_
    clear hK K
    try simp only [List.getElem_toArray, List.getElem_cons_succ, List.getElem_cons_zero, Act.put, List.setIfInBounds_toArray, List.set_cons_zero, List.set_cons_succ]
    refine anyT_done (by kernel_rfl) ?_ _
    go_wp2_with (fail)
    refine bodyPost_ret (results_cell_row rfl _ _ (w.heap.size + 1 + 1) 142 (plC (NF, i, n + m)) (0, 0) _ rfl (setRow_heap _ _ _ _ _ _ HP.out) Tryz.underlying142 rfl (by rw [plC_size]; kernel_rfl)) rfl ?_
    exact ⟨by rw [HU.out], below_setRow HB.out (by omega) _⟩
end Go.Proofs.YtabflppnecemkaaGreatDoor
