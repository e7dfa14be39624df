/- Part 12 of the proof. -/
import Derived.Maps.AppendAt
import Derived.Shelf.SlicesQ.Reverse
import Derived.Great.BuildSlice
import Derived.Test.YtadolfacjolbkaaDoorProg
import Derived.Test.YtadolfacjolbkaaDoorPe2
import Derived.Test.YtadolfacjolbkaaDoorPe6
import Derived.Test.YtadolfacjolbkaaDoorPe8
import Derived.Test.YtadolfacjolbkaaDoorPe9
namespace Go.Proofs.YtadolfacjolbkaaDoor
set_option linter.unusedVariables false
set_option linter.unusedSimpArgs false
open Go.RowKit
set_option maxRecDepth 100000
set_option linter.unusedSimpArgs false
set_option linter.unusedVariables false
theorem range_below {w w' : World} {B b o : Nat} {cs : List Value} (h : w.rangeAt b o cs) (hb : Below B w w') (hB : b < B) : w'.rangeAt b o cs := fun j v hv => (hb.cell (p := ⟨b, o + j, none⟩) hB).trans (h j v hv)
theorem ownsRow_below {w w' : World} {B : Nat} {t : TypeId} {n m : Nat} {v : Value} {xs : List Value} (h : w.ownsRow B t n v m xs) (hb : Below w.heap.size w w') : w'.ownsRow B t n v m xs :=
  ⟨h.1, h.2.imp id fun ⟨g, cap, cur, e, h0, hg, r⟩ => ⟨g, cap, cur, e, h0, (hb.block g (Array.getElem?_eq_some_iff.1 hg).1).trans hg, r⟩⟩
theorem ownsRow_base {w : World} {B B' : Nat} {t : TypeId} {n m : Nat} {v : Value} {xs : List Value} (h : w.ownsRow B t n v m xs) (hB : B' ≤ B) : w.ownsRow B' t n v m xs :=
  ⟨h.1, h.2.imp id fun ⟨g, cap, cur, h1, h2, r⟩ => ⟨g, cap, cur, h1, Nat.le_trans hB h2, r⟩⟩
def flatKV (l : List KV) : List Value := l.flatMap fun p => [Value.string p.1, Value.string p.2]
theorem flatKV_length (l : List KV) : (flatKV l).length = l.length * 2 := by
  induction l with
  | nil => rfl
  | cons p l ih =>
    show (Value.string p.1 :: Value.string p.2 :: flatKV l).length = _
    simp only [List.length_cons, ih]; omega
theorem flatKV_append (a b : List KV) : flatKV (a ++ b) = flatKV a ++ flatKV b := List.flatMap_append
theorem flatKV_get : ∀ (l : List KV) (i : Nat) (p : KV), l[i]? = some p → (flatKV l)[i * 2]? = some (.string p.1) ∧ (flatKV l)[i * 2 + 1]? = some (.string p.2)
  | [], i, p, h => by simp at h
  | q :: l, 0, p, h => by
    injection h with h; subst h
    exact ⟨rfl, rfl⟩
  | q :: l, i + 1, p, h => by
    obtain ⟨h1, h2⟩ := flatKV_get l i p (by simpa using h)
    show (Value.string q.1 :: Value.string q.2 :: flatKV l)[_]? = _ ∧ (Value.string q.1 :: Value.string q.2 :: flatKV l)[_]? = _
    rw [show (i + 1) * 2 = i * 2 + 1 + 1 by omega, List.getElem?_cons_succ, List.getElem?_cons_succ, List.getElem?_cons_succ, List.getElem?_cons_succ]
    exact ⟨h1, h2⟩
theorem flatKV_one (l : List KV) : ∀ u ∈ flatKV l, u.oneCell' = true := by
  intro u hu
  simp only [flatKV, List.mem_flatMap] at hu
  obtain ⟨p, _, hp⟩ := hu
  simp at hp
  rcases hp with rfl | rfl <;> rfl
theorem infoKV : (Tryd.prog.info? 87).map (fun i => (i.zero, i.size, i.bytes)) = some (some (.agg #[.string { data := #[] }, .string { data := #[] }]), 2, 32) := by kernel_rfl
/-- v is a slice of the pairs l -/
def KVIn (w : World) (v : Value) (l : List KV) : Prop :=
  ∃ a cap, v = .slice a l.length cap ∧ l.length ≤ cap ∧ l.length ≤ maxLen ∧ (l = [] ∨ ∃ ab ao, a = some ⟨ab, ao, none⟩ ∧ ab < w.heap.size ∧ ∀ i p, l[i]? = some p → w.cell? ⟨ab, ao + i * 2, none⟩ = some (.string p.1) ∧ w.cell? ⟨ab, ao + i * 2 + 1, none⟩ = some (.string p.2))
theorem KVIn.below {w w' : World} {v : Value} {l : List KV} (h : KVIn w v l) (hb : Below w.heap.size w w') : KVIn w' v l := by
  obtain ⟨a, cap, rfl, hc, hm, hx⟩ := h
  refine ⟨a, cap, rfl, hc, hm, ?_⟩
  rcases hx with hx | ⟨ab, ao, rfl, hlt, hx⟩
  · exact .inl hx
  · exact .inr ⟨ab, ao, rfl, Nat.lt_of_lt_of_le hlt hb.size, fun i p hi => ⟨(hb.cell (p := ⟨ab, ao + i * 2, none⟩) hlt).trans (hx i p hi).1, (hb.cell (p := ⟨ab, ao + i * 2 + 1, none⟩) hlt).trans (hx i p hi).2⟩⟩
theorem KVIn.of_own {w : World} {B : Nat} {v : Value} {l : List KV} (h : w.ownsRow B 87 2 v l.length (flatKV l)) : KVIn w v l := by
  rcases h.2 with ⟨rfl, h0⟩ | ⟨tb, cap, cur, rfl, _, hh, hc, hm, _⟩
  · exact ⟨none, 0, by rw [h0], by omega, by simp [maxLen]; omega, .inl (List.eq_nil_of_length_eq_zero h0)⟩
  · refine ⟨_, cap, rfl, hc, Nat.le_trans hc hm, .inr ⟨tb, 0, rfl, (Array.getElem?_eq_some_iff.1 hh).1, fun i p hi => ?_⟩⟩
    obtain ⟨h1, h2⟩ := flatKV_get l i p hi
    have e1 := h.cells (g := tb) rfl _ _ h1
    have e2 := h.cells (g := tb) rfl _ _ h2
    rw [Addr.add_mid] at e1 e2
    exact ⟨e1, by rw [Nat.add_assoc]; exact e2⟩
theorem KVIn.len {w : World} {v : Value} {l : List KV} (h : KVIn w v l) : ∃ a cap, v = .slice a l.length cap := by
  obtain ⟨a, cap, e, _⟩ := h
  exact ⟨a, cap, e⟩
theorem KVIn.at {w : World} {a : Option Addr} {n cap : Nat} {l : List KV} (h : KVIn w (.slice a n cap) l) (i : Nat) (p : KV) (hi : l[i]? = some p) :
    ∃ ab ao, a = some ⟨ab, ao, none⟩ ∧ ab < w.heap.size ∧ w.cell? ⟨ab, ao + i * 2, none⟩ = some (.string p.1) ∧ w.cell? ⟨ab, ao + i * 2 + 1, none⟩ = some (.string p.2) := by
  obtain ⟨a', cap', e, hc, hm, hx⟩ := h
  injection e with e1 e2 e3
  subst e1
  rcases hx with rfl | ⟨ab, ao, rfl, hlt, hx⟩
  · simp at hi
  · exact ⟨ab, ao, rfl, hlt, hx i p hi⟩
/-- append of pairs to a slice of one's own -/
theorem run_append_kvs (w : World) (base : Nat) (v : Value) (n : Nat) (vs : List Value) (hown : w.ownsRow base 87 2 v n vs) (y : Value) (ps : List KV) (hy : KVIn w y ps) (hl : (n + ps.length) * 32 ≤ 140737488355328) (hb : base ≤ w.heap.size) :
    ∃ v' w', (Builtin.append_ #[24, 24] 24 #[v, y]).run Tryd.prog w = .ok v' w' ∧ w'.ownsRow base 87 2 v' (n + ps.length) (vs ++ flatKV ps) ∧ w.grownBy w' v.ownBlock := by
  obtain ⟨i0, hi, hz0, hz1, hz2⟩ := info_parts infoKV
  obtain ⟨a, c, rfl, hc, hm, hx⟩ := hy
  rcases a with _ | ad
  · have hn : ps = [] := by
      rcases hx with hx | ⟨_, _, h, _⟩
      · exact hx
      · cases h
    subst hn
    refine ⟨v, w, ?_, by simpa [flatKV] using hown, ⟨rfl, rfl, rfl, Nat.le_refl _, fun _ _ _ => rfl⟩⟩
    rcases hown.2 with ⟨rfl, rfl⟩ | ⟨g, cap, cur, rfl, _, _, hnc, _⟩
    · simp [Builtin.append_, run_underlying Tryd.underlying24, sizeOf, typeInfo, hi, Builtin.lenOf, Builtin.firstCells]
    · simp [Builtin.append_, run_underlying Tryd.underlying24, sizeOf, typeInfo, hi, Builtin.lenOf, Builtin.firstCells, hnc, storeCells]
  · have hcells : ∀ j u, (flatKV ps)[j]? = some u → w.cell? (ad.add j) = some u := fun j u hu => by
      rcases hx with rfl | ⟨ab, ao, h, _, hx⟩
      · simp [flatKV] at hu
      · injection h with h; subst h
        have hj : j < ps.length * 2 := by have := (List.getElem?_eq_some_iff.1 hu).1; rw [flatKV_length] at this; exact this
        obtain ⟨p, hp⟩ : ∃ p, ps[j / 2]? = some p := ⟨ps[j / 2]'(by omega), List.getElem?_eq_getElem _⟩
        obtain ⟨g1, g2⟩ := flatKV_get ps _ p hp
        obtain ⟨x1, x2⟩ := hx _ p hp
        rw [Addr.add_mid]
        rcases Nat.mod_two_eq_zero_or_one j with h0 | h0
        · rw [show j / 2 * 2 = j by omega] at g1 x1
          rw [g1] at hu; cases hu; exact x1
        · rw [show j / 2 * 2 + 1 = j by omega] at g2
          rw [Nat.add_assoc, show j / 2 * 2 + 1 = j by omega] at x2
          rw [g2] at hu; cases hu; exact x2
    obtain ⟨v', w', hr, h1, h2, _, h4⟩ := run_append_own_at w base 24 24 87 i0 _ 2 32 Tryd.underlying24 hi hz0 hz1 hz2 rfl (by decide) v n vs hown ad ps.length c (flatKV ps) (flatKV_length ps) hcells (flatKV_one ps) (by unfold maxLen; omega) hl hb
    exact ⟨v', w', hr, h1, h2⟩
theorem wpList_append_kvs {w : World} {ops : Array Oper} {rest : List Oper} {o : Oper} {a : Act} {Q : Exit → Act → World → Prop} (hgd : o.guard = none) (s x : Operand)
    (ho : o.op = .call { callee := .builtin .append, args := #[s, x], argTypes := #[24, 24] }) (hty : o.type = 24)
    (base : Nat) (v : Value) (n : Nat) (vs : List Value) (hs : a.eval s = v) (hown : w.ownsRow base 87 2 v n vs) (y : Value) (ps : List KV) (hx : a.eval x = y) (hy : KVIn w y ps) (hl : (n + ps.length) * 32 ≤ 140737488355328) (hb : base ≤ w.heap.size)
    (h : ∀ v' w', w'.ownsRow base 87 2 v' (n + ps.length) (vs ++ flatKV ps) → w.grownBy w' v.ownBlock → wpList Tryd.prog ops Q rest (a.put o.dst v') w') : wpList Tryd.prog ops Q (o :: rest) a w := by
  refine wpList_plain hgd fun K hK => ?_
  obtain ⟨v', w', hr, h1, h2⟩ := run_append_kvs w base v n vs hown y ps hy hl hb
  unfold Oper.wp execOp
  simp only [ho, hty, resolve, invoke, builtin, Sem.run_bind, Sem.run_pure, Result.andThen_ok, List.map_toArray, List.map_cons, List.map_nil, hs, hx, hr]
  exact hK _ _ (h v' w' h1 h2)
theorem wp_append_kvs {w : World} {o : Oper} {a : Act} {K : Act → World → Prop} {Q : Exit → Act → World → Prop} (s x : Operand)
    (ho : o.op = .call { callee := .builtin .append, args := #[s, x], argTypes := #[24, 24] }) (hty : o.type = 24)
    (base : Nat) (v : Value) (n : Nat) (vs : List Value) (hs : a.eval s = v) (hown : w.ownsRow base 87 2 v n vs) (y : Value) (ps : List KV) (hx : a.eval x = y) (hy : KVIn w y ps) (hl : (n + ps.length) * 32 ≤ 140737488355328) (hb : base ≤ w.heap.size)
    (h : ∀ v' w', w'.ownsRow base 87 2 v' (n + ps.length) (vs ++ flatKV ps) → w.grownBy w' v.ownBlock → K (a.put o.dst v') w') : o.wp Tryd.prog a w K Q := by
  obtain ⟨v', w', hr, h1, h2⟩ := run_append_kvs w base v n vs hown y ps hy hl hb
  unfold Oper.wp execOp
  simp only [ho, hty, resolve, invoke, builtin, Sem.run_bind, Sem.run_pure, Result.andThen_ok, List.map_toArray, List.map_cons, List.map_nil, hs, hx, hr]
  exact h v' w' h1 h2
theorem kv_new (w : World) (p : KV) : w.alloc (.cells #[.string p.1, .string p.2] 87) |>.ownsRow w.heap.size 87 2 (.slice (some ⟨w.heap.size, 0, none⟩) 1 1) 1 (flatKV [p]) := by
  refine ⟨rfl, .inr ⟨w.heap.size, 1, #[.string p.1, .string p.2], rfl, Nat.le_refl _, heap_alloc_new _ _, by omega, by simp [maxLen], by simp, rfl⟩⟩
end Go.Proofs.YtadolfacjolbkaaDoor
namespace Go.Proofs
set_option linter.unusedVariables false
set_option linter.unusedSimpArgs false
open Go.Shelf
def Tryd.avrev_ren : Go.Shelf.Ren := ⟨fun | 35 => 99 | n => n, fun | 0 => 0 | 3 => 3 | 4 => 4 | 22 => 56 | 23 => 110 | n => n, fun | n => n⟩
theorem Tryd.avrev : SlLaysE0.n35 Tryd.prog Tryd.avrev_ren := {
  mixed := by kernel_rfl
  f35 := ⟨(Tryd.f99).name, by kernel_rfl, Tryd.func99.trans (congrArg some (by kernel_rfl))⟩
  t0 := Tryd.underlying0
  a0 := Tryd.isAgg0
  z0 := Tryd.sizeOf0
  v0 := Tryd.zeroValue0
  t3 := Tryd.underlying3
  a3 := Tryd.isAgg3
  z3 := Tryd.sizeOf3
  v3 := Tryd.zeroValue3
  t4 := Tryd.underlying4
  a4 := Tryd.isAgg4
  z4 := Tryd.sizeOf4
  v4 := Tryd.zeroValue4
  t22 := Tryd.underlying56
  a22 := Tryd.isAgg56
  z22 := Tryd.sizeOf56
  v22 := Tryd.zeroValue56 }
end Go.Proofs
namespace Go.Proofs.YtadolfacjolbkaaDoor
open Go.RowKit Go.Sort
set_option maxRecDepth 100000
set_option linter.unusedSimpArgs false
set_option linter.unusedVariables false
/-- a Step -/
structure AvS where
  sec : Bool
  many : Int
  oth : Nat → Int
instance : Inhabited AvS := ⟨⟨false, 0, fun _ => 0⟩⟩
def stC (s : AvS) : Array Value := #[.bool s.sec, .int .i64 s.many] ++ rowOf .u8 32 s.oth
def AvS.cells (s : AvS) : List Value := (stC s).toList
theorem stC_size (s : AvS) : (stC s).size = 34 := by simp [stC, rowOf_size]
theorem AvS.cells_length (s : AvS) : s.cells.length = 34 := by simp [AvS.cells, stC_size]
theorem stC_one (s : AvS) : (stC s).all (·.oneCell') = true := by
  unfold stC
  rw [Array.all_append, rowOf_one]
  simp [Value.oneCell']
theorem AvS.cells_one (s : AvS) : ∀ v ∈ s.cells, v.oneCell' = true := fun v hv => (Array.all_eq_true_iff_forall_mem.1 (stC_one s)) v (by simpa [AvS.cells] using hv)
def flatSt (l : List AvS) : List Value := l.flatMap AvS.cells
theorem flatSt_cons (p : AvS) (l : List AvS) : flatSt (p :: l) = p.cells ++ flatSt l := List.flatMap_cons
theorem flatSt_length (l : List AvS) : (flatSt l).length = l.length * 34 := by
  induction l with
  | nil => rfl
  | cons p l ih =>
    rw [flatSt_cons, List.length_append, AvS.cells_length, ih, List.length_cons]; omega
theorem flatSt_append (a b : List AvS) : flatSt (a ++ b) = flatSt a ++ flatSt b := List.flatMap_append
theorem flatSt_get (l : List AvS) : ∀ (i : Nat) (s : AvS), l[i]? = some s → ∀ j, j < 34 → (flatSt l)[i * 34 + j]? = s.cells[j]? := by
  induction l with
  | nil => intro i s h; simp at h
  | cons q l ih =>
    intro i s h j hj
    have hq := q.cells_length
    rw [flatSt_cons]
    cases i with
    | zero =>
      simp only [List.getElem?_cons_zero, Option.some.injEq] at h
      subst h
      rw [Nat.zero_mul, Nat.zero_add, List.getElem?_append_left (by omega)]
    | succ i =>
      rw [List.getElem?_append_right (by omega), hq, show (i + 1) * 34 + j - 34 = i * 34 + j by omega]
      exact ih i s (by simpa using h) j hj
theorem flatSt_one (l : List AvS) : ∀ u ∈ flatSt l, u.oneCell' = true := by
  intro u hu
  simp only [flatSt, List.mem_flatMap] at hu
  obtain ⟨p, _, hp⟩ := hu
  exact p.cells_one u hp
theorem infoSt : (Tryd.prog.info? 110).map (fun i => (i.zero, i.size, i.bytes)) = some (some (.agg (stC ⟨false, 0, fun _ => 0⟩)), 34, 48) := by kernel_rfl
def StIn (w : World) (v : Value) (l : List AvS) : Prop :=
  ∃ a cap, v = .slice a l.length cap ∧ l.length ≤ cap ∧ l.length ≤ maxLen ∧ (l = [] ∨ ∃ ab ao, a = some ⟨ab, ao, none⟩ ∧ ab < w.heap.size ∧ ∀ i s, l[i]? = some s → w.rangeAt ab (ao + i * 34) s.cells)
theorem StIn.below {w w' : World} {v : Value} {l : List AvS} (h : StIn w v l) (hb : Below w.heap.size w w') : StIn w' v l := by
  obtain ⟨a, cap, rfl, hc, hm, hx⟩ := h
  refine ⟨a, cap, rfl, hc, hm, hx.imp id ?_⟩
  rintro ⟨ab, ao, rfl, hlt, hx⟩
  exact ⟨ab, ao, rfl, Nat.lt_of_lt_of_le hlt hb.size, fun i p hi => range_below (hx i p hi) hb hlt⟩
theorem StIn.of_own {w : World} {B : Nat} {v : Value} {l : List AvS} (h : w.ownsRow B 110 34 v l.length (flatSt l)) : StIn w v l := by
  rcases h.2 with ⟨rfl, h0⟩ | ⟨tb, cap, cur, rfl, _, hh, hc, hm, _⟩
  · exact ⟨none, 0, by rw [h0], by omega, by simp [maxLen]; omega, .inl (List.eq_nil_of_length_eq_zero h0)⟩
  · refine ⟨_, cap, rfl, hc, Nat.le_trans hc hm, .inr ⟨tb, 0, rfl, (Array.getElem?_eq_some_iff.1 hh).1, fun i s hi j u hu => ?_⟩⟩
    have hj : j < 34 := by have := (List.getElem?_eq_some_iff.1 hu).1; rw [AvS.cells_length] at this; exact this
    have e1 := h.cells (g := tb) rfl (i * 34 + j) u (by rw [flatSt_get l i s hi j hj]; exact hu)
    rw [Addr.add_mid] at e1
    rw [show 0 + i * 34 + j = 0 + (i * 34 + j) by omega]; exact e1
theorem StIn.len {w : World} {v : Value} {l : List AvS} (h : StIn w v l) : ∃ a cap, v = .slice a l.length cap := by
  obtain ⟨a, cap, e, _⟩ := h
  exact ⟨a, cap, e⟩
theorem StIn.at {w : World} {a : Option Addr} {n cap : Nat} {l : List AvS} (h : StIn w (.slice a n cap) l) (i : Nat) (s : AvS) (hi : l[i]? = some s) : ∃ ab ao, a = some ⟨ab, ao, none⟩ ∧ ab < w.heap.size ∧ w.rangeAt ab (ao + i * 34) s.cells := by
  obtain ⟨a', cap', e, hc, hm, hx⟩ := h
  injection e with e1 e2 e3
  subst e1
  rcases hx with rfl | ⟨ab, ao, rfl, hlt, hx⟩
  · simp at hi
  · exact ⟨ab, ao, rfl, hlt, hx i s hi⟩
/-- append of one Step, in a block of its own, to a slice of one's own -/
theorem wp_append_step {w : World} {o : Oper} {a : Act} {K : Act → World → Prop} {Q : Exit → Act → World → Prop} (s x : Operand)
    (ho : o.op = .call { callee := .builtin .append, args := #[s, x], argTypes := #[56, 56] }) (hty : o.type = 56)
    (base : Nat) (v : Value) (l : List AvS) (hs : a.eval s = v) (hown : w.ownsRow base 110 34 v l.length (flatSt l)) (b : Nat) (st : AvS) (hx : a.eval x = .slice (some ⟨b, 0, none⟩) 1 1) (hy : w.heap[b]? = some (.cells (stC st) 110 (0, 0))) (hl : (l.length + 1) * 48 ≤ 140737488355328) (hb : base ≤ w.heap.size)
    (h : ∀ v' w', w'.ownsRow base 110 34 v' (l ++ [st]).length (flatSt (l ++ [st])) → w.grownBy w' v.ownBlock → K (a.put o.dst v') w') : o.wp Tryd.prog a w K Q := by
  obtain ⟨i0, hi, hz0, hz1, hz2⟩ := info_parts infoSt
  obtain ⟨v', w', hr, h1, h2, _, _⟩ := run_append_own_at w base 56 56 110 i0 _ 34 48 Tryd.underlying56 hi hz0 hz1 hz2 (by simp [Value.cells, stC_size]) (by decide) v l.length (flatSt l) hown ⟨b, 0, none⟩ 1 1 st.cells (by rw [AvS.cells_length])
    (fun j u hj => by rw [Addr.add_mid, Nat.zero_add, cell_of_row w b j _ _ _ hy]; simpa [AvS.cells] using hj) st.cells_one (by unfold maxLen; omega) hl hb
  unfold Oper.wp execOp
  simp only [ho, hty, resolve, invoke, builtin, Sem.run_bind, Sem.run_pure, Result.andThen_ok, List.map_toArray, List.map_cons, List.map_nil, hs, hx, hr]
  exact h v' w' (by rw [List.length_append, flatSt_append, show flatSt [st] = st.cells from by simp [flatSt]]; exact h1) h2
theorem st_fill (s : AvS) : Instr.fill (fun i => some (i * 34, 34)) ((Array.range (1 * 34)).map ((Value.agg (stC ⟨false, 0, fun _ => 0⟩)).cells[· % (Value.agg (stC ⟨false, 0, fun _ => 0⟩)).cells.size]!)) [(0, .agg (stC s))] = some (stC s) := by kernel_rfl
/-- a slice of one Step -/
theorem wp_step1 {o : Oper} {a : Act} {w : World} {K : Act → World → Prop} {Q : Exit → Act → World → Prop} (x : Operand) (ho : o.op = .buildSlice 56 1 #[(0, x)]) (s : AvS) (hx : a.eval x = .agg (stC s))
    (h : K (a.put o.dst (.slice (some ⟨w.heap.size, 0, none⟩) 1 1)) (w.alloc (.cells (stC s) 110))) : o.wp Tryd.prog a w K Q := by
  obtain ⟨i0, hi, hz0, hz1, hz2⟩ := info_parts infoSt
  refine wp_buildSlice 56 110 1 #[(0, x)] ho (stC s) i0 _ Tryd.underlying56 hi hz0 (by rw [hz1]; decide) (by rw [hz1]; decide) ?_ h
  rw [hz1]
  simpa [hx] using st_fill s
theorem st_built (b : Bool) (m : Int) (F : Nat → Int) : Tryd.prog.built 110 [(0, .bool b), (1, .int .i64 m), (2, .agg (rowOf .u8 32 F))] = some (stC ⟨b, m, F⟩) := by kernel_rfl
theorem below_putRowK {α : Type} [Inhabited α] {B : Nat} {w0 w : World} (enc : α → List Value) (k n g : Nat) (d : Array α) (h : Below B w0 w) (hg : B ≤ g) : Below B w0 (putRowK enc k (Sort.ahead w n) g 0 d) := by
  refine h.trans ⟨rfl, rfl, rfl, by simp [putRowK, Sort.ahead], fun i hi => ?_⟩
  have : g ≠ i := by omega
  simp [putRowK, putRow, mapBlock, Sort.ahead, Array.getElem?_modify, this]
theorem flatK_st (l : List AvS) (j : Nat) (h : j < l.length * 34) : (flatSt l)[j]? = some (flatK AvS.cells 34 l.toArray)[j]! := by
  have hi : j / 34 < l.length := by omega
  rw [get_flatK _ _ _ _ (by simpa using h)]
  have e := flatSt_get l (j / 34) l[j / 34] (List.getElem?_eq_getElem hi) (j % 34) (by omega)
  rw [show j / 34 * 34 + j % 34 = j by omega] at e
  rw [e]
  have hz : (l[j / 34]).cells.length = 34 := AvS.cells_length _
  rw [List.getElem?_eq_getElem (by omega)]
  simp [hi, List.getElem?_eq_getElem (show j % 34 < (l[j / 34]).cells.length by omega)]
/-- slices.Reverse of one's own Steps -/
theorem revSteps_any (B : Nat) (v : Value) (l : List AvS) (w0 w : World) (h : w.ownsRow B 110 34 v l.length (flatSt l)) (hb : Below B w0 w) (hm : l.length ≤ 1099511627776) :
    Calls Tryd.prog 99 #[v] w fun e w' => e = .returned (.tuple #[]) ∧ StIn w' v l.reverse ∧ Below B w0 w' := by
  rcases h.2 with ⟨rfl, h0⟩ | ⟨g, cap, cur, rfl, hB, hh, hc, hcm, hs, ht⟩
  · have hl := List.eq_nil_of_length_eq_zero h0
    subst hl
    refine (AnyQ.slices_Reverse_empty Tryd.avrev none 0 w).mono ?_
    rintro e w' ⟨rfl, rfl⟩
    exact ⟨rfl, ⟨none, 0, rfl, by simp, by simp [maxLen], .inl rfl⟩, hb⟩
  · have hH : HoldsK AvS.cells 34 w g 0 l.toArray := fun j hj => by
      rw [size_flatK] at hj
      have hj' : j < l.length * 34 := by simpa using hj
      have e1 := h.cells (g := g) rfl j _ (flatK_st l j hj')
      rw [Addr.add_mid] at e1
      exact ⟨e1, frozen_of_row w g _ _ _ hh⟩
    have hR := AnyQ.slices_Reverse Tryd.avrev 34 Tryd.isAgg110 Tryd.sizeOf110 AvS.cells AvS.cells_length AvS.cells_one g 0 cap l.toArray w hH (by simp; omega)
    rw [show l.toArray.size = l.length by simp] at hR
    refine hR.mono ?_
    rintro e w' ⟨rfl, n, rfl⟩
    refine ⟨rfl, ?_, below_putRowK _ _ _ _ _ hb hB⟩
    have hH2 := holdsK_putRowK (enc := AvS.cells) (k := 34) (Sort.ahead w n) g 0 l.toArray l.toArray.reverse (holdsK_ahead _ _ w n g 0 l.toArray hH) (by simp)
    have hgl : g < w.heap.size := (Array.getElem?_eq_some_iff.1 hh).1
    refine ⟨_, cap, by rw [List.length_reverse], by rw [List.length_reverse]; exact hc, by rw [List.length_reverse]; omega, .inr ⟨g, 0, rfl, by simpa [putRowK, Sort.ahead] using hgl, fun i s hi j u hu => ?_⟩⟩
    have hj : j < 34 := by have := (List.getElem?_eq_some_iff.1 hu).1; rw [AvS.cells_length] at this; exact this
    have hil : i < l.length := by have := (List.getElem?_eq_some_iff.1 hi).1; simpa using this
    have e2 := (hH2 (i * 34 + j) (by rw [size_flatK]; simp; omega)).1
    rw [show l.toArray.reverse = l.reverse.toArray by simp] at e2 ⊢
    have e3 := flatK_st l.reverse (i * 34 + j) (by rw [List.length_reverse]; omega)
    rw [flatSt_get _ i s hi j hj, hu] at e3
    rw [show 0 + i * 34 + j = 0 + (i * 34 + j) by omega, e2]
    simpa using e3.symm
end Go.Proofs.YtadolfacjolbkaaDoor
