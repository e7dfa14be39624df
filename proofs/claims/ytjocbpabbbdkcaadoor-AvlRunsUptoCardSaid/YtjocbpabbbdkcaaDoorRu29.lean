/- Part 29 of the proof. -/
import Derived.ChangeKeysEq
import Derived.Test.YtjocbpabbbdkcaaDoorRu3
import Derived.Test.YtjocbpabbbdkcaaDoorRu18
import Derived.Test.YtjocbpabbbdkcaaDoorRu24
import Derived.Test.YtjocbpabbbdkcaaDoorRu28
namespace Go.Proofs.YtjocbpabbbdkcaaDoor
set_option linter.unusedVariables false
set_option linter.unusedSimpArgs false
open Go.RowKit
set_option maxRecDepth 100000
set_option linter.unusedSimpArgs false
set_option linter.unusedVariables false
theorem eBA_list : eBA.toList = [] := by
  unfold eBA ByteArray.toList ByteArray.toList.loop
  simp [ByteArray.size]
theorem bl_eBA (a : ByteArray) : bl a eBA = false := by
  rw [Bool.eq_false_iff]
  intro h
  rw [bl_lt, eBA_list] at h
  exact absurd h (by simp)
theorem visO_eq {t : Option AvT} (h : Srt (pairsO t)) (k : ByteArray) : (t.map (AvT.vis k)).getD [] = (pairsO t).filter fun p => !bl p.1 k := by
  cases t with
  | none => rfl
  | some t => exact vis_eq k t h
theorem take_srt (hi : ByteArray) : ∀ l : List KV, Srt l → l.takeWhile (upTo hi) = l.filter (upTo hi)
  | [], _ => rfl
  | p :: l, h => by
    obtain ⟨h1, h2⟩ := List.pairwise_cons.1 h
    cases e : upTo hi p with
    | true => rw [List.takeWhile_cons, if_pos e, List.filter_cons, if_pos e, take_srt hi l h2]
    | false =>
      rw [List.takeWhile_cons, if_neg (by rw [e]; simp), List.filter_cons, if_neg (by rw [e]; simp)]
      refine (filter_no fun q hq => ?_).symm
      unfold upTo at e ⊢
      simp only [Bool.or_eq_false_iff] at e ⊢
      refine ⟨e.1, Bool.eq_false_iff.2 fun hq2 => ?_⟩
      have := bl_trans (h1 q hq) hq2
      rw [e.2] at this; cases this
theorem range_eq {t : Option AvT} (h : Srt (pairsO t)) (k hi : ByteArray) : rangeO t k hi = (pairsO t).filter fun p => !bl p.1 k && upTo hi p := by
  unfold rangeO
  rw [visO_eq h, take_srt hi _ (h.filter _), List.filter_filter]
  congr 1
  funext p
  rw [Bool.and_comm]
theorem range_full {t : Option AvT} (h : Srt (pairsO t)) : rangeO t eBA eBA = pairsO t := by
  rw [range_eq h]
  refine filter_all fun p _ => ?_
  rw [bl_eBA]
  unfold upTo
  rw [eBA_list]
  rfl
theorem manyO_eq (t : Option AvT) : (pairsO t).length = manyO t := by
  cases t with
  | none => rfl
  | some t => exact AvT.many_eq t
theorem getO_mem {t : Option AvT} (h : Srt (pairsO t)) (k v : ByteArray) : getO t k = some v ↔ (k, v) ∈ pairsO t := by
  cases t with
  | none => simp [getO, pairsO]
  | some t => exact get_mem k t h v
theorem getO_drop {t : Option AvT} (h : Srt (pairsO t)) (k : ByteArray) : getO (dropO t k) k = none := by
  cases e : getO (dropO t k) k with
  | none => rfl
  | some v =>
    have := (getO_mem (dropO_srt h k) k v).1 e
    rw [dropO_pairs h] at this
    have := (List.mem_filter.1 this).2
    simp at this
theorem drop_count (k : ByteArray) : ∀ l : List KV, Srt l → (l.filter fun p => !decide (p.1 = k)).length + (if l.any (fun p => decide (p.1 = k)) then 1 else 0) = l.length
  | [], _ => rfl
  | p :: l, h => by
    obtain ⟨h1, h2⟩ := List.pairwise_cons.1 h
    have ih := drop_count k l h2
    by_cases e : p.1 = k
    · have hn : ∀ q ∈ l, (!decide (q.1 = k)) = true := fun q hq => by
        have := bl_ne (h1 q hq)
        rw [e] at this
        simpa using fun e' => this e'.symm
      rw [List.filter_cons, if_neg (by simp [e]), filter_all hn, List.any_cons]
      simp [e]
    · rw [List.filter_cons, if_pos (by simp [e]), List.any_cons]
      simp only [e, decide_false, Bool.false_or, List.length_cons]
      omega
theorem manyO_drop {t : Option AvT} (h : Srt (pairsO t)) (k : ByteArray) : manyO (dropO t k) + (if (getO t k).isSome then 1 else 0) = manyO t := by
  rw [← manyO_eq, ← manyO_eq, dropO_pairs h]
  have := drop_count k (pairsO t) h
  have e : (getO t k).isSome = (pairsO t).any fun p => decide (p.1 = k) := by
    rw [Bool.eq_iff_iff, Option.isSome_iff_exists, List.any_eq_true]
    constructor
    · rintro ⟨v, hv⟩
      exact ⟨(k, v), (getO_mem h k v).1 hv, by simp⟩
    · rintro ⟨⟨k', v⟩, hv, he⟩
      have he : k' = k := by simpa using he
      subst he
      exact ⟨v, (getO_mem h k' v).2 hv⟩
  rw [e]; exact this
theorem find_place {t : Option AvT} (h : Srt (pairsO t)) {i : Nat} {p : KV} (hi : (pairsO t)[i]? = some p) : findO t p.1 = i ∧ getO t p.1 = some p.2 := by
  refine ⟨?_, (getO_mem h p.1 p.2).2 (List.mem_of_getElem? hi)⟩
  cases t with
  | none => simp [pairsO] at hi
  | some t =>
    show t.find p.1 = i
    rw [find_eq p.1 t h]
    exact srt_place _ h i p hi
/-- Range as a slice of pairs -/
theorem range_kv (p : Option Addr) (t : Option AvT) (k hi : ByteArray) (w : World) (ht : TreeO w (.pointer p) t) (hs : Srt (pairsO t)) (hm : manyO t ≤ 1048576) :
    Calls Tryd.prog 21 #[.pointer p, .string k, .string hi] w fun e w' => ∃ v, e = .returned v ∧ KVIn w' v (rangeO t k hi) ∧ Below w.heap.size w w' := by
  refine (range_any p t k hi w ht ?_).mono ?_
  · rw [visO_eq hs]
    have := List.length_filter_le (fun p : KV => !bl p.1 k) (pairsO t)
    rw [manyO_eq] at this
    omega
  · rintro e w' ⟨v, rfl, hrow, hb⟩
    exact ⟨v, rfl, KVIn.of_own hrow, hb⟩
end Go.Proofs.YtjocbpabbbdkcaaDoor
namespace Go.Proofs.YtjocbpabbbdkcaaDoor
set_option linter.unusedVariables false
set_option linter.unusedSimpArgs false
open Go.RowKit
set_option maxRecDepth 100000
def intVals (l : List Int) : List Value := l.map (Value.int .i64)
theorem intVals_length (l : List Int) : (intVals l).length = l.length := by simp [intVals]
theorem intVals_append (a b : List Int) : intVals (a ++ b) = intVals a ++ intVals b := by simp [intVals]
theorem intVals_one (l : List Int) : ∀ v ∈ intVals l, v.oneCell' = true := by
  intro v hv
  simp only [intVals, List.mem_map] at hv
  obtain ⟨i, _, rfl⟩ := hv
  rfl
theorem infoInt : (Tryd.prog.info? 3).map (fun i => (i.zero, i.size, i.bytes)) = some (some (.int .i64 0), 1, 8) := by kernel_rfl
/-- v is a slice of the numbers l -/
def IntsIn (w : World) (v : Value) (l : List Int) : Prop :=
  ∃ a cap, v = .slice a l.length cap ∧ l.length ≤ cap ∧ l.length ≤ maxLen ∧ (l = [] ∨ ∃ ab ao, a = some ⟨ab, ao, none⟩ ∧ ∀ i x, l[i]? = some x → w.cell? ⟨ab, ao + i, none⟩ = some (.int .i64 x))
theorem IntsIn.below {w w' : World} {v : Value} {l : List Int} (h : IntsIn w v l) (hb : Below w.heap.size w w') : IntsIn w' v l := by
  obtain ⟨a, cap, rfl, hc, hm, hx⟩ := h
  refine ⟨a, cap, rfl, hc, hm, ?_⟩
  rcases hx with hx | ⟨ab, ao, rfl, hx⟩
  · exact .inl hx
  · exact .inr ⟨ab, ao, rfl, fun i y hi => (hb.cell (p := ⟨ab, ao + i, none⟩) (World.block_lt_of_cell? w _ (hx i y hi))).trans (hx i y hi)⟩
theorem owns_ints {w : World} {base : Nat} {v : Value} {l : List Int} (h : w.ownsRow base 3 1 v l.length (intVals l)) (hl : l.length ≤ maxLen) : IntsIn w v l := by
  rcases h.2 with ⟨rfl, h0⟩ | ⟨g, c, cur, rfl, hb, hg, hc, hm, hs, ht⟩
  · obtain rfl := List.eq_nil_of_length_eq_zero h0
    exact ⟨none, 0, rfl, Nat.le_refl _, hl, .inl rfl⟩
  · refine ⟨_, c, rfl, hc, hl, .inr ⟨g, 0, rfl, fun i x hi => ?_⟩⟩
    have := h.cells (g := g) rfl i (.int .i64 x) (by simp [intVals, hi])
    rw [Addr.add_mid] at this
    exact this
theorem ints_nil (w : World) : IntsIn w (.slice none 0 0) [] := ⟨_, _, rfl, by simp, by simp [maxLen], .inl rfl⟩
theorem lits_in (w : World) (l : List Int) (hl : l.length ≤ maxLen) : IntsIn (w.alloc (.cells (intVals l).toArray 3)) (.slice (some ⟨w.heap.size, 0, none⟩) l.length l.length) l := by
  refine ⟨_, _, rfl, Nat.le_refl _, hl, .inr ⟨_, _, rfl, fun i x hi => ?_⟩⟩
  rw [Nat.zero_add, cell_of_row _ _ _ _ _ _ (heap_alloc_new w _)]
  simp [intVals, hi]
end Go.Proofs.YtjocbpabbbdkcaaDoor
namespace Go.Proofs.YtjocbpabbbdkcaaDoor
set_option linter.unusedVariables false
set_option linter.unusedSimpArgs false
open Go.RowKit
set_option maxRecDepth 100000
/-- are the first 32 numbers the same? -/
def eqB (f g : Nat → Int) : Bool := (List.range 32).all fun i => f i == g i
theorem eqB_self (f : Nat → Int) : eqB f f = true := by simp [eqB]
theorem eqItems32 (f g : Nat → Int) (w : World) : ∀ is : List Nat, (∀ i ∈ is, i < 32) → (Op.eqItems 9999 5 1 (rowOf .u8 32 f) (rowOf .u8 32 g) is).run Tryd.prog w = .ok (is.all fun i => f i == g i) w
  | [], _ => by simp [Op.eqItems]
  | i :: is, h => by
    have hi : i < 32 := h i (by simp)
    have ha : (isAgg 5).run Tryd.prog w = .ok false w := by kernel_rfl
    have hp : ∀ f : Nat → Int, (part 5 (rowOf .u8 32 f) (i * 1)).run Tryd.prog w = .ok (.int .u8 (f i)) w := fun f => by
      simp [part, Sem.run_bind, ha, rowOf_get .u8 32 f i hi]
    have ih := eqItems32 f g w is (fun j hj => h j (by simp [hj]))
    have pe : (Op.equalIn 9999 5 (.int .u8 (f i)) (.int .u8 (g i))).run Tryd.prog w = .ok (f i == g i) w := run_equalIn_int w 9998 5 .u8 .u8 _ _ Tryd.underlying5
    simp only [Op.eqItems, Sem.run_bind, hp, pe, Result.andThen_ok, List.all_cons]
    cases hb : (f i == g i)
    · simp
    · simpa using ih
theorem eq32 (f g : Nat → Int) (w : World) : (binOp .eql 50 (.agg (rowOf .u8 32 f)) (.agg (rowOf .u8 32 g))).run Tryd.prog w = .ok (.bool (eqB f g)) w := by
  rw [run_eql_struct, run_equalIn_array w 9999 (i := (Tryd.prog.info? 5).getD default) _ _ Tryd.underlying50 (by kernel_rfl), show Tryd.prog.cellsOf 5 = 1 by kernel_rfl, eqItems32 f g w _ (fun i hi => by simpa using hi)]
  rfl
theorem eqIn32 (f g : Nat → Int) (w : World) : (Op.equalIn 10000 50 (.agg (rowOf .u8 32 f)) (.agg (rowOf .u8 32 g))).run Tryd.prog w = .ok (eqB f g) w := by
  rw [run_equalIn_array w 9999 (i := (Tryd.prog.info? 5).getD default) _ _ Tryd.underlying50 (by kernel_rfl), show Tryd.prog.cellsOf 5 = 1 by kernel_rfl, eqItems32 f g w _ (fun i hi => by simpa using hi)]
  rfl
theorem neq32_self (f : Nat → Int) (w : World) : (binOp .neq 50 (.agg (rowOf .u8 32 f)) (.agg (rowOf .u8 32 f))).run Tryd.prog w = .ok (.bool false) w := by
  rw [run_neq_struct, eqIn32, eqB_self]
  rfl
theorem eqIn32_self (f : Nat → Int) (w : World) : (Op.equalIn 10000 50 (.agg (rowOf .u8 32 f)) (.agg (rowOf .u8 32 f))).run Tryd.prog w = .ok true w := by rw [eqIn32, eqB_self]
theorem eq32_self (f : Nat → Int) (w : World) : (binOp .eql 50 (.agg (rowOf .u8 32 f)) (.agg (rowOf .u8 32 f))).run Tryd.prog w = .ok (.bool true) w := by rw [eq32, eqB_self]
end Go.Proofs.YtjocbpabbbdkcaaDoor
namespace Go.Proofs.YtjocbpabbbdkcaaDoor
set_option linter.unusedVariables false
set_option linter.unusedSimpArgs false
open Go.RowKit
set_option maxRecDepth 100000
set_option linter.unusedSimpArgs false
set_option linter.unusedVariables false
theorem getL_hitmem (k v : ByteArray) : ∀ l : List KV, Srt l → (getL l k = some v ↔ (k, v) ∈ l)
  | [], _ => by simp [getL]
  | p :: l, h => by
    obtain ⟨h1, h2⟩ := List.pairwise_cons.1 h
    have ih := getL_hitmem k v l h2
    unfold getL
    by_cases e : p.1 = k
    · rw [if_pos e]
      constructor
      · intro hv
        injection hv with hv
        obtain ⟨k', v'⟩ := p
        simp only at e hv
        subst e hv
        exact List.mem_cons_self
      · intro hm
        rcases List.mem_cons.1 hm with hm | hm
        · rw [← hm]
        · have := bl_ne (h1 _ hm)
          exact absurd e this
    · rw [if_neg e, ih, List.mem_cons]
      constructor
      · exact .inr
      · rintro (hm | hm)
        · exact absurd (by rw [← hm]) e
        · exact hm
theorem getL_eq {t : Option AvT} (h : Srt (pairsO t)) (k : ByteArray) : getL (pairsO t) k = getO t k := by
  cases e : getO t k with
  | some v => exact (getL_hitmem k v _ h).2 ((getO_mem h k v).1 e)
  | none =>
    cases e2 : getL (pairsO t) k with
    | none => rfl
    | some v =>
      have := (getO_mem h k v).2 ((getL_hitmem k v _ h).1 e2)
      rw [e] at this; cases this
theorem eqItems32d (f g : Nat → Int) (d : Nat) (w : World) : ∀ is : List Nat, (∀ i ∈ is, i < 32) → (Op.eqItems (d + 1) 5 1 (rowOf .u8 32 f) (rowOf .u8 32 g) is).run Tryd.prog w = .ok (is.all fun i => f i == g i) w
  | [], _ => by simp [Op.eqItems]
  | i :: is, h => by
    have hi : i < 32 := h i (by simp)
    have ha : (isAgg 5).run Tryd.prog w = .ok false w := by kernel_rfl
    have hp : ∀ f : Nat → Int, (part 5 (rowOf .u8 32 f) (i * 1)).run Tryd.prog w = .ok (.int .u8 (f i)) w := fun f => by
      simp [part, Sem.run_bind, ha, rowOf_get .u8 32 f i hi]
    have ih := eqItems32d f g d w is (fun j hj => h j (by simp [hj]))
    have pe : (Op.equalIn (d + 1) 5 (.int .u8 (f i)) (.int .u8 (g i))).run Tryd.prog w = .ok (f i == g i) w := run_equalIn_int w d 5 .u8 .u8 _ _ Tryd.underlying5
    simp only [Op.eqItems, Sem.run_bind, hp, pe, Result.andThen_ok, List.all_cons]
    cases hb : (f i == g i)
    · simp
    · simpa using ih
theorem eqIn32d (f : Nat → Int) (w : World) : (Op.equalIn 9999 50 (.agg (rowOf .u8 32 f)) (.agg (rowOf .u8 32 f))).run Tryd.prog w = .ok true w := by
  rw [run_equalIn_array w 9998 (i := (Tryd.prog.info? 5).getD default) _ _ Tryd.underlying50 (by kernel_rfl), show Tryd.prog.cellsOf 5 = 1 by kernel_rfl, eqItems32d f f 9997 w _ (fun i hi => by simpa using hi)]
  simp
theorem stepFields : (Tryd.prog.fieldsOf 52).toList.map (fun f => (f.type, f.offset, f.name != "_")) = [(4, 0, true), (3, 1, true), (50, 2, true)] := by kernel_rfl
theorem eqInStep_self (s : AvS) (w : World) : (Op.equalIn 10000 52 (.agg (stC s)) (.agg (stC s))).run Tryd.prog w = .ok true w := by
  rw [run_equalIn_struct w 9999 52 _ _ (by kernel_rfl) (by kernel_rfl)]
  have hp0 : (part 4 (stC s) 0).run Tryd.prog w = .ok (.bool s.sec) w := by kernel_rfl
  have hp1 : (part 3 (stC s) 1).run Tryd.prog w = .ok (.int .i64 s.many) w := by kernel_rfl
  have hp2 : (part 50 (stC s) 2).run Tryd.prog w = .ok (.agg (rowOf .u8 32 s.oth)) w := by kernel_rfl
  have e0 : (Op.equalIn 9999 4 (.bool s.sec) (.bool s.sec)).run Tryd.prog w = .ok true w := by
    have h := run_equalIn_bool' (P := Tryd.prog) w 9998 4 s.sec s.sec Tryd.underlying4
    rw [beq_self_eq_true] at h; exact h
  have e1 : (Op.equalIn 9999 3 (.int .i64 s.many) (.int .i64 s.many)).run Tryd.prog w = .ok true w := by
    have h := run_equalIn_int (P := Tryd.prog) w 9998 3 .i64 .i64 s.many s.many Tryd.underlying3
    rw [beq_self_eq_true] at h; exact h
  have e2 := eqIn32d s.oth w
  have hf := stepFields
  generalize (Tryd.prog.fieldsOf 52).toList = l at hf ⊢
  generalize 9999 = D at e0 e1 e2 ⊢
  rcases l with _ | ⟨f0, _ | ⟨f1, _ | ⟨f2, _ | ⟨f3, r⟩⟩⟩⟩
  · exact absurd (congrArg List.length hf) (by simp)
  · exact absurd (congrArg List.length hf) (by simp)
  · exact absurd (congrArg List.length hf) (by simp)
  · simp only [List.map_cons, List.map_nil, List.cons.injEq, Prod.mk.injEq, bne_iff_ne, and_true] at hf
    obtain ⟨⟨t0, o0, n0⟩, ⟨t1, o1, n1⟩, ⟨t2, o2, n2⟩⟩ := hf
    rw [← t0] at hp0 e0
    rw [← t1] at hp1 e1
    rw [← t2] at hp2 e2
    rw [← o0] at hp0
    rw [← o1] at hp1
    rw [← o2] at hp2
    have g2 : (Op.eqFields D (stC s) (stC s) [f2]).run Tryd.prog w = .ok true w := by
      rw [Op.eqFields, if_pos n2]
      simp only [Sem.run_bind, hp2, e2, Result.andThen_ok, Bool.not_true, Bool.false_eq_true, if_false, Op.eqFields, Sem.run_pure]
    have g1 : (Op.eqFields D (stC s) (stC s) [f1, f2]).run Tryd.prog w = .ok true w := by
      rw [Op.eqFields, if_pos n1]
      simp only [Sem.run_bind, hp1, e1, Result.andThen_ok, Bool.not_true, Bool.false_eq_true, if_false, g2]
    have g0 : (Op.eqFields D (stC s) (stC s) [f0, f1, f2]).run Tryd.prog w = .ok true w := by
      rw [Op.eqFields, if_pos n0]
      simp only [Sem.run_bind, hp0, e0, Result.andThen_ok, Bool.not_true, Bool.false_eq_true, if_false, g1]
    exact g0
  · exact absurd (congrArg List.length hf) (by simp)
theorem neqStep_self (s : AvS) (w : World) : (binOp .neq 52 (.agg (stC s)) (.agg (stC s))).run Tryd.prog w = .ok (.bool false) w := by
  rw [run_neq_struct, eqInStep_self]
  rfl
end Go.Proofs.YtjocbpabbbdkcaaDoor
