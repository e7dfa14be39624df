/- Part 26 of the proof. -/
import Derived.ChangeKeysEq
import Derived.Test.YtfmfemmknccfmaaDoorPa9
import Derived.Test.YtfmfemmknccfmaaDoorPa20
import Derived.Test.YtfmfemmknccfmaaDoorPa23
import Derived.Test.YtfmfemmknccfmaaDoorPa25
namespace Go.Proofs.YtfmfemmknccfmaaDoor
set_option linter.unusedVariables false
set_option linter.unusedSimpArgs false
open Go.RowKit
set_option maxRecDepth 100000
set_option linter.unusedSimpArgs false
set_option linter.unusedVariables false
theorem eBA_list : eBA.toList = [] := by
  unfold eBA ByteArray.toList ByteArray.toList.loop
  simp [ByteArray.size]
theorem bl_eBA (a : ByteArray) : bl a eBA = false := by
  rw [Bool.eq_false_iff]
  intro h
  rw [bl_lt, eBA_list] at h
  exact absurd h (by simp)
theorem visO_eq {t : Option AvT} (h : Srt (pairsO t)) (k : ByteArray) : (t.map (AvT.vis k)).getD [] = (pairsO t).filter fun p => !bl p.1 k := by
  cases t with
  | none => rfl
  | some t => exact vis_eq k t h
theorem take_srt (hi : ByteArray) : ∀ l : List KV, Srt l → l.takeWhile (upTo hi) = l.filter (upTo hi)
  | [], _ => rfl
  | p :: l, h => by
    obtain ⟨h1, h2⟩ := List.pairwise_cons.1 h
    cases e : upTo hi p with
    | true => rw [List.takeWhile_cons, if_pos e, List.filter_cons, if_pos e, take_srt hi l h2]
    | false =>
      rw [List.takeWhile_cons, if_neg (by rw [e]; simp), List.filter_cons, if_neg (by rw [e]; simp)]
      refine (filter_no fun q hq => ?_).symm
      unfold upTo at e ⊢
      simp only [Bool.or_eq_false_iff] at e ⊢
      refine ⟨e.1, Bool.eq_false_iff.2 fun hq2 => ?_⟩
      have := bl_trans (h1 q hq) hq2
      rw [e.2] at this; cases this
theorem range_eq {t : Option AvT} (h : Srt (pairsO t)) (k hi : ByteArray) : rangeO t k hi = (pairsO t).filter fun p => !bl p.1 k && upTo hi p := by
  unfold rangeO
  rw [visO_eq h, take_srt hi _ (h.filter _), List.filter_filter]
  congr 1
  funext p
  rw [Bool.and_comm]
theorem range_full {t : Option AvT} (h : Srt (pairsO t)) : rangeO t eBA eBA = pairsO t := by
  rw [range_eq h]
  refine filter_all fun p _ => ?_
  rw [bl_eBA]
  unfold upTo
  rw [eBA_list]
  rfl
theorem manyO_eq (t : Option AvT) : (pairsO t).length = manyO t := by
  cases t with
  | none => rfl
  | some t => exact AvT.many_eq t
theorem getO_mem {t : Option AvT} (h : Srt (pairsO t)) (k v : ByteArray) : getO t k = some v ↔ (k, v) ∈ pairsO t := by
  cases t with
  | none => simp [getO, pairsO]
  | some t => exact get_mem k t h v
theorem getO_drop {t : Option AvT} (h : Srt (pairsO t)) (k : ByteArray) : getO (dropO t k) k = none := by
  cases e : getO (dropO t k) k with
  | none => rfl
  | some v =>
    have := (getO_mem (dropO_srt h k) k v).1 e
    rw [dropO_pairs h] at this
    have := (List.mem_filter.1 this).2
    simp at this
theorem drop_count (k : ByteArray) : ∀ l : List KV, Srt l → (l.filter fun p => !decide (p.1 = k)).length + (if l.any (fun p => decide (p.1 = k)) then 1 else 0) = l.length
  | [], _ => rfl
  | p :: l, h => by
    obtain ⟨h1, h2⟩ := List.pairwise_cons.1 h
    have ih := drop_count k l h2
    by_cases e : p.1 = k
    · have hn : ∀ q ∈ l, (!decide (q.1 = k)) = true := fun q hq => by
        have := bl_ne (h1 q hq)
        rw [e] at this
        simpa using fun e' => this e'.symm
      rw [List.filter_cons, if_neg (by simp [e]), filter_all hn, List.any_cons]
      simp [e]
    · rw [List.filter_cons, if_pos (by simp [e]), List.any_cons]
      simp only [e, decide_false, Bool.false_or, List.length_cons]
      omega
theorem manyO_drop {t : Option AvT} (h : Srt (pairsO t)) (k : ByteArray) : manyO (dropO t k) + (if (getO t k).isSome then 1 else 0) = manyO t := by
  rw [← manyO_eq, ← manyO_eq, dropO_pairs h]
  have := drop_count k (pairsO t) h
  have e : (getO t k).isSome = (pairsO t).any fun p => decide (p.1 = k) := by
    rw [Bool.eq_iff_iff, Option.isSome_iff_exists, List.any_eq_true]
    constructor
    · rintro ⟨v, hv⟩
      exact ⟨(k, v), (getO_mem h k v).1 hv, by simp⟩
    · rintro ⟨⟨k', v⟩, hv, he⟩
      have he : k' = k := by simpa using he
      subst he
      exact ⟨v, (getO_mem h k' v).2 hv⟩
  rw [e]; exact this
theorem find_place {t : Option AvT} (h : Srt (pairsO t)) {i : Nat} {p : KV} (hi : (pairsO t)[i]? = some p) : findO t p.1 = i ∧ getO t p.1 = some p.2 := by
  refine ⟨?_, (getO_mem h p.1 p.2).2 (List.mem_of_getElem? hi)⟩
  cases t with
  | none => simp [pairsO] at hi
  | some t =>
    show t.find p.1 = i
    rw [find_eq p.1 t h]
    exact srt_place _ h i p hi
/-- Range as a slice of pairs -/
theorem range_kv (p : Option Addr) (t : Option AvT) (k hi : ByteArray) (w : World) (ht : TreeO w (.pointer p) t) (hs : Srt (pairsO t)) (hm : manyO t ≤ 1048576) :
    Calls Tryd.prog 11 #[.pointer p, .string k, .string hi] w fun e w' => ∃ v, e = .returned v ∧ KVIn w' v (rangeO t k hi) ∧ Below w.heap.size w w' := by
  refine (range_any p t k hi w ht ?_).mono ?_
  · rw [visO_eq hs]
    have := List.length_filter_le (fun p : KV => !bl p.1 k) (pairsO t)
    rw [manyO_eq] at this
    omega
  · rintro e w' ⟨v, rfl, hrow, hb⟩
    exact ⟨v, rfl, KVIn.of_own hrow, hb⟩
end Go.Proofs.YtfmfemmknccfmaaDoor
namespace Go.Proofs.YtfmfemmknccfmaaDoor
set_option linter.unusedVariables false
set_option linter.unusedSimpArgs false
open Go.RowKit
set_option maxRecDepth 100000
def intVals (l : List Int) : List Value := l.map (Value.int .i64)
theorem intVals_length (l : List Int) : (intVals l).length = l.length := by simp [intVals]
theorem intVals_append (a b : List Int) : intVals (a ++ b) = intVals a ++ intVals b := by simp [intVals]
theorem intVals_one (l : List Int) : ∀ v ∈ intVals l, v.oneCell' = true := by
  intro v hv
  simp only [intVals, List.mem_map] at hv
  obtain ⟨i, _, rfl⟩ := hv
  rfl
theorem infoInt : (Tryd.prog.info? 3).map (fun i => (i.zero, i.size, i.bytes)) = some (some (.int .i64 0), 1, 8) := by kernel_rfl
/-- v is a slice of the numbers l -/
def IntsIn (w : World) (v : Value) (l : List Int) : Prop :=
  ∃ a cap, v = .slice a l.length cap ∧ l.length ≤ cap ∧ l.length ≤ maxLen ∧ (l = [] ∨ ∃ ab ao, a = some ⟨ab, ao, none⟩ ∧ ∀ i x, l[i]? = some x → w.cell? ⟨ab, ao + i, none⟩ = some (.int .i64 x))
theorem IntsIn.below {w w' : World} {v : Value} {l : List Int} (h : IntsIn w v l) (hb : Below w.heap.size w w') : IntsIn w' v l := by
  obtain ⟨a, cap, rfl, hc, hm, hx⟩ := h
  refine ⟨a, cap, rfl, hc, hm, ?_⟩
  rcases hx with hx | ⟨ab, ao, rfl, hx⟩
  · exact .inl hx
  · exact .inr ⟨ab, ao, rfl, fun i y hi => (hb.cell (p := ⟨ab, ao + i, none⟩) (World.block_lt_of_cell? w _ (hx i y hi))).trans (hx i y hi)⟩
theorem owns_ints {w : World} {base : Nat} {v : Value} {l : List Int} (h : w.ownsRow base 3 1 v l.length (intVals l)) (hl : l.length ≤ maxLen) : IntsIn w v l := by
  rcases h.2 with ⟨rfl, h0⟩ | ⟨g, c, cur, rfl, hb, hg, hc, hm, hs, ht⟩
  · obtain rfl := List.eq_nil_of_length_eq_zero h0
    exact ⟨none, 0, rfl, Nat.le_refl _, hl, .inl rfl⟩
  · refine ⟨_, c, rfl, hc, hl, .inr ⟨g, 0, rfl, fun i x hi => ?_⟩⟩
    have := h.cells (g := g) rfl i (.int .i64 x) (by simp [intVals, hi])
    rw [Addr.add_mid] at this
    exact this
theorem ints_nil (w : World) : IntsIn w (.slice none 0 0) [] := ⟨_, _, rfl, by simp, by simp [maxLen], .inl rfl⟩
theorem lits_in (w : World) (l : List Int) (hl : l.length ≤ maxLen) : IntsIn (w.alloc (.cells (intVals l).toArray 3)) (.slice (some ⟨w.heap.size, 0, none⟩) l.length l.length) l := by
  refine ⟨_, _, rfl, Nat.le_refl _, hl, .inr ⟨_, _, rfl, fun i x hi => ?_⟩⟩
  rw [Nat.zero_add, cell_of_row _ _ _ _ _ _ (heap_alloc_new w _)]
  simp [intVals, hi]
end Go.Proofs.YtfmfemmknccfmaaDoor
namespace Go.Proofs.YtfmfemmknccfmaaDoor
set_option linter.unusedVariables false
set_option linter.unusedSimpArgs false
open Go.RowKit
set_option maxRecDepth 100000
/-- are the first 32 numbers the same? -/
def eqB (f g : Nat → Int) : Bool := (List.range 32).all fun i => f i == g i
theorem eqB_self (f : Nat → Int) : eqB f f = true := by simp [eqB]
theorem eqItems32 (f g : Nat → Int) (w : World) : ∀ is : List Nat, (∀ i ∈ is, i < 32) → (Op.eqItems 9999 5 1 (rowOf .u8 32 f) (rowOf .u8 32 g) is).run Tryd.prog w = .ok (is.all fun i => f i == g i) w
  | [], _ => by simp [Op.eqItems]
  | i :: is, h => by
    have hi : i < 32 := h i (by simp)
    have ha : (isAgg 5).run Tryd.prog w = .ok false w := by kernel_rfl
    have hp : ∀ f : Nat → Int, (part 5 (rowOf .u8 32 f) (i * 1)).run Tryd.prog w = .ok (.int .u8 (f i)) w := fun f => by
      simp [part, Sem.run_bind, ha, rowOf_get .u8 32 f i hi]
    have ih := eqItems32 f g w is (fun j hj => h j (by simp [hj]))
    have pe : (Op.equalIn 9999 5 (.int .u8 (f i)) (.int .u8 (g i))).run Tryd.prog w = .ok (f i == g i) w := run_equalIn_int w 9998 5 .u8 .u8 _ _ Tryd.underlying5
    simp only [Op.eqItems, Sem.run_bind, hp, pe, Result.andThen_ok, List.all_cons]
    cases hb : (f i == g i)
    · simp
    · simpa using ih
theorem eq32 (f g : Nat → Int) (w : World) : (binOp .eql 43 (.agg (rowOf .u8 32 f)) (.agg (rowOf .u8 32 g))).run Tryd.prog w = .ok (.bool (eqB f g)) w := by
  rw [run_eql_struct, run_equalIn_array w 9999 (i := (Tryd.prog.info? 5).getD default) _ _ Tryd.underlying43 (by kernel_rfl), show Tryd.prog.cellsOf 5 = 1 by kernel_rfl, eqItems32 f g w _ (fun i hi => by simpa using hi)]
  rfl
theorem eqIn32 (f g : Nat → Int) (w : World) : (Op.equalIn 10000 43 (.agg (rowOf .u8 32 f)) (.agg (rowOf .u8 32 g))).run Tryd.prog w = .ok (eqB f g) w := by
  rw [run_equalIn_array w 9999 (i := (Tryd.prog.info? 5).getD default) _ _ Tryd.underlying43 (by kernel_rfl), show Tryd.prog.cellsOf 5 = 1 by kernel_rfl, eqItems32 f g w _ (fun i hi => by simpa using hi)]
  rfl
theorem neq32_self (f : Nat → Int) (w : World) : (binOp .neq 43 (.agg (rowOf .u8 32 f)) (.agg (rowOf .u8 32 f))).run Tryd.prog w = .ok (.bool false) w := by
  rw [run_neq_struct, eqIn32, eqB_self]
  rfl
theorem eqIn32_self (f : Nat → Int) (w : World) : (Op.equalIn 10000 43 (.agg (rowOf .u8 32 f)) (.agg (rowOf .u8 32 f))).run Tryd.prog w = .ok true w := by rw [eqIn32, eqB_self]
theorem eq32_self (f : Nat → Int) (w : World) : (binOp .eql 43 (.agg (rowOf .u8 32 f)) (.agg (rowOf .u8 32 f))).run Tryd.prog w = .ok (.bool true) w := by rw [eq32, eqB_self]
end Go.Proofs.YtfmfemmknccfmaaDoor
namespace Go.Proofs.YtfmfemmknccfmaaDoor
set_option linter.unusedVariables false
set_option linter.unusedSimpArgs false
open Go.RowKit
set_option maxRecDepth 100000
set_option linter.unusedSimpArgs false
set_option linter.unusedVariables false
theorem sbeq_self (a : ByteArray) : (a.toList == a.toList) = true := by simp
theorem sbeq_ne {a b : ByteArray} (h : a ≠ b) : (a.toList == b.toList) = false := by
  rw [beq_eq_false_iff_ne]
  intro e
  rw [ByteArray.toList_eq, ByteArray.toList_eq] at e
  exact h (by cases a; cases b; simp at e; rw [e])
/-- a place: the root, the index, the count -/
abbrev Pl := (Nat → Int) × Int × Int
def plC (x : Pl) : Array Value := rowOf .u8 32 x.1 ++ #[.int .i64 x.2.1, .int .i64 x.2.2]
theorem plC_size (x : Pl) : (plC x).size = 34 := by simp [plC, rowOf_size]
theorem plC_one (x : Pl) : (plC x).all (·.oneCell') = true := by
  unfold plC
  rw [Array.all_append, rowOf_one]
  simp [Value.oneCell']
theorem pl_cells {w : World} {g : Nat} {x : Pl} {T : TypeId} (h : w.heap[g]? = some (.cells (plC x) T (0, 0))) :
    w.rangeAt g 0 (rowOf .u8 32 x.1).toList ∧ w.cell? ⟨g, 32, none⟩ = some (.int .i64 x.2.1) ∧ w.cell? ⟨g, 33, none⟩ = some (.int .i64 x.2.2) := by
  have hs : (rowOf .u8 32 x.1).size = 32 := rowOf_size _ _ _
  refine ⟨fun j u hu => ?_, ?_, ?_⟩
  · have hj : j < 32 := by have := (List.getElem?_eq_some_iff.1 hu).1; simpa [hs] using this
    rw [Nat.zero_add, cell_of_row w g j _ _ _ h]; unfold plC
    rw [Array.getElem?_append_left (by simp [hs]; omega)]
    simpa using hu
  · rw [cell_of_row w g 32 _ _ _ h]; unfold plC
    rw [Array.getElem?_append_right (by simp [hs])]; simp [hs]
  · rw [cell_of_row w g 33 _ _ _ h]; unfold plC
    rw [Array.getElem?_append_right (by simp [hs])]; simp [hs]
theorem st_cells {w : World} {g : Nat} {s : AvS} {T : TypeId} (h : w.heap[g]? = some (.cells (stC s) T (0, 0))) :
    w.cell? ⟨g, 0, none⟩ = some (.bool s.sec) ∧ w.cell? ⟨g, 1, none⟩ = some (.int .i64 s.many) ∧ w.rangeAt g 2 (rowOf .u8 32 s.oth).toList := by
  have hs : (rowOf .u8 32 s.oth).size = 32 := rowOf_size _ _ _
  refine ⟨?_, ?_, fun j u hu => ?_⟩
  · rw [cell_of_row w g 0 _ _ _ h]; unfold stC; rw [Array.getElem?_append_left (by simp)]; rfl
  · rw [cell_of_row w g 1 _ _ _ h]; unfold stC; rw [Array.getElem?_append_left (by simp)]; rfl
  · rw [cell_of_row w g (2 + j) _ _ _ h]; unfold stC
    rw [Array.getElem?_append_right (by simp)]
    simpa using hu
theorem pl_built (x : Pl) : Tryd.prog.built 122 [(0, .agg (rowOf .u8 32 x.1)), (1, .int .i64 x.2.1), (2, .int .i64 x.2.2)] = some (plC x) := by
  obtain ⟨F, i, n⟩ := x
  kernel_rfl
def plZ : Pl := (fun _ => 0, 0, 0)
theorem plZ_lit : #[Value.int IntKind.u8 0, Value.int IntKind.u8 0, Value.int IntKind.u8 0, Value.int IntKind.u8 0, Value.int IntKind.u8 0, Value.int IntKind.u8 0, Value.int IntKind.u8 0, Value.int IntKind.u8 0, Value.int IntKind.u8 0, Value.int IntKind.u8 0, Value.int IntKind.u8 0, Value.int IntKind.u8 0, Value.int IntKind.u8 0, Value.int IntKind.u8 0, Value.int IntKind.u8 0, Value.int IntKind.u8 0, Value.int IntKind.u8 0, Value.int IntKind.u8 0, Value.int IntKind.u8 0, Value.int IntKind.u8 0, Value.int IntKind.u8 0, Value.int IntKind.u8 0, Value.int IntKind.u8 0, Value.int IntKind.u8 0, Value.int IntKind.u8 0, Value.int IntKind.u8 0, Value.int IntKind.u8 0, Value.int IntKind.u8 0, Value.int IntKind.u8 0, Value.int IntKind.u8 0, Value.int IntKind.u8 0, Value.int IntKind.u8 0, Value.int IntKind.i64 0, Value.int IntKind.i64 0] = plC plZ := by rfl
/-- one step up -/
def upP (x : Pl) (s : AvS) : Pl :=
  if s.sec then (avNodeF (uN s.many) s.oth (uN x.2.2) x.1, s.many + x.2.1, x.2.2 + s.many) else (avNodeF (uN x.2.2) x.1 (uN s.many) s.oth, x.2.1, x.2.2 + s.many)
theorem wpList_load_rowsz {w : World} {ops : Array Oper} {rest : List Oper} {o : Oper} {a : Act} {Q : Exit → Act → World → Prop} (hgd : Region.wanted o (yielded ops a.tmps) = true) (ty : TypeId) (x : Operand) (ho : o.op = .load ty x)
    (b off : Nat) (hx : a.eval x = .pointer (some ⟨b, off, none⟩)) (cs : Array Value) (d : TypeDesc) (hc : w.rangeAt b off cs.toList) (hu : Tryd.prog.underlying ty = some d) (hd : d.isRow = true) (hi : (Tryd.prog.info? ty).map (·.size) = some cs.size)
    (h : wpList Tryd.prog ops Q rest (a.put o.dst (.agg cs)) w) : wpList Tryd.prog ops Q (o :: rest) a w :=
  BigFrame.wpList_want hgd fun _ hK => wp_load_mid ty x ho b off hx cs.toList d hc hu hd (by rw [hi, Array.length_toList]) (hK _ _ (by simpa using h))
theorem row_range {w : World} {g : Nat} {cs : Array Value} {T : TypeId} (h : w.heap[g]? = some (.cells cs T (0, 0))) : w.rangeAt g 0 cs.toList := fun j v hv => by
  rw [Nat.zero_add, cell_of_row w g j _ _ _ h]; simpa using hv
theorem row_yields' {ops : Array Oper} {S : World → Prop} {op : Oper} {a : Act} (hw : Region.wanted op (yielded ops a.tmps) = true) (ty : TypeId) (x : Operand) (ho : op.op = .load ty x)
    (b o : Nat) (hx : a.eval x = .pointer (some ⟨b, o, none⟩)) (cs : Array Value) (d : TypeDesc) (hS : ∀ w, S w → w.rangeAt b o cs.toList)
    (hu : Tryd.prog.underlying ty = some d) (hd : d.isRow = true) (hi : (Tryd.prog.info? ty).map (·.size) = some cs.size) : YieldsIf Tryd.prog ops S op (.agg cs) a := by
  have h := yieldsIf_load_mid (P := Tryd.prog) (S := S) hw ty x ho b o hx cs.toList d hS hu hd (by rw [hi, Array.length_toList])
  simpa using h
end Go.Proofs.YtfmfemmknccfmaaDoor
