/- Part 21 of the proof. -/
import Derived.Maps.AppendAt
import Derived.Test.YtfmfemmknccfmaaDoorPa2
import Derived.Test.YtfmfemmknccfmaaDoorPa9
import Derived.Test.YtfmfemmknccfmaaDoorPa13
namespace Go.Proofs.YtfmfemmknccfmaaDoor
set_option linter.unusedVariables false
set_option linter.unusedSimpArgs false
open Go.RowKit
set_option maxRecDepth 100000
set_option linter.unusedSimpArgs false
set_option linter.unusedVariables false
theorem range_below {w w' : World} {B b o : Nat} {cs : List Value} (h : w.rangeAt b o cs) (hb : Below B w w') (hB : b < B) : w'.rangeAt b o cs := fun j v hv => (hb.cell (p := ⟨b, o + j, none⟩) hB).trans (h j v hv)
theorem ownsRow_below {w w' : World} {B : Nat} {t : TypeId} {n m : Nat} {v : Value} {xs : List Value} (h : w.ownsRow B t n v m xs) (hb : Below w.heap.size w w') : w'.ownsRow B t n v m xs :=
  ⟨h.1, h.2.imp id fun ⟨g, cap, cur, e, h0, hg, r⟩ => ⟨g, cap, cur, e, h0, (hb.block g (Array.getElem?_eq_some_iff.1 hg).1).trans hg, r⟩⟩
theorem ownsRow_base {w : World} {B B' : Nat} {t : TypeId} {n m : Nat} {v : Value} {xs : List Value} (h : w.ownsRow B t n v m xs) (hB : B' ≤ B) : w.ownsRow B' t n v m xs :=
  ⟨h.1, h.2.imp id fun ⟨g, cap, cur, h1, h2, r⟩ => ⟨g, cap, cur, h1, Nat.le_trans hB h2, r⟩⟩
def flatKV (l : List KV) : List Value := l.flatMap fun p => [Value.string p.1, Value.string p.2]
theorem flatKV_length (l : List KV) : (flatKV l).length = l.length * 2 := by
  induction l with
  | nil => rfl
  | cons p l ih =>
    show (Value.string p.1 :: Value.string p.2 :: flatKV l).length = _
    simp only [List.length_cons, ih]; omega
theorem flatKV_append (a b : List KV) : flatKV (a ++ b) = flatKV a ++ flatKV b := List.flatMap_append
theorem flatKV_get : ∀ (l : List KV) (i : Nat) (p : KV), l[i]? = some p → (flatKV l)[i * 2]? = some (.string p.1) ∧ (flatKV l)[i * 2 + 1]? = some (.string p.2)
  | [], i, p, h => by simp at h
  | q :: l, 0, p, h => by
    injection h with h; subst h
    exact ⟨rfl, rfl⟩
  | q :: l, i + 1, p, h => by
    obtain ⟨h1, h2⟩ := flatKV_get l i p (by simpa using h)
    show (Value.string q.1 :: Value.string q.2 :: flatKV l)[_]? = _ ∧ (Value.string q.1 :: Value.string q.2 :: flatKV l)[_]? = _
    rw [show (i + 1) * 2 = i * 2 + 1 + 1 by omega, List.getElem?_cons_succ, List.getElem?_cons_succ, List.getElem?_cons_succ, List.getElem?_cons_succ]
    exact ⟨h1, h2⟩
theorem flatKV_one (l : List KV) : ∀ u ∈ flatKV l, u.oneCell' = true := by
  intro u hu
  simp only [flatKV, List.mem_flatMap] at hu
  obtain ⟨p, _, hp⟩ := hu
  simp at hp
  rcases hp with rfl | rfl <;> rfl
theorem infoKV : (Tryd.prog.info? 81).map (fun i => (i.zero, i.size, i.bytes)) = some (some (.agg #[.string { data := #[] }, .string { data := #[] }]), 2, 32) := by kernel_rfl
/-- v is a slice of the pairs l -/
def KVIn (w : World) (v : Value) (l : List KV) : Prop :=
  ∃ a cap, v = .slice a l.length cap ∧ l.length ≤ cap ∧ l.length ≤ maxLen ∧ (l = [] ∨ ∃ ab ao, a = some ⟨ab, ao, none⟩ ∧ ab < w.heap.size ∧ ∀ i p, l[i]? = some p → w.cell? ⟨ab, ao + i * 2, none⟩ = some (.string p.1) ∧ w.cell? ⟨ab, ao + i * 2 + 1, none⟩ = some (.string p.2))
theorem KVIn.below {w w' : World} {v : Value} {l : List KV} (h : KVIn w v l) (hb : Below w.heap.size w w') : KVIn w' v l := by
  obtain ⟨a, cap, rfl, hc, hm, hx⟩ := h
  refine ⟨a, cap, rfl, hc, hm, ?_⟩
  rcases hx with hx | ⟨ab, ao, rfl, hlt, hx⟩
  · exact .inl hx
  · exact .inr ⟨ab, ao, rfl, Nat.lt_of_lt_of_le hlt hb.size, fun i p hi => ⟨(hb.cell (p := ⟨ab, ao + i * 2, none⟩) hlt).trans (hx i p hi).1, (hb.cell (p := ⟨ab, ao + i * 2 + 1, none⟩) hlt).trans (hx i p hi).2⟩⟩
theorem KVIn.of_own {w : World} {B : Nat} {v : Value} {l : List KV} (h : w.ownsRow B 81 2 v l.length (flatKV l)) : KVIn w v l := by
  rcases h.2 with ⟨rfl, h0⟩ | ⟨tb, cap, cur, rfl, _, hh, hc, hm, _⟩
  · exact ⟨none, 0, by rw [h0], by omega, by simp [maxLen]; omega, .inl (List.eq_nil_of_length_eq_zero h0)⟩
  · refine ⟨_, cap, rfl, hc, Nat.le_trans hc hm, .inr ⟨tb, 0, rfl, (Array.getElem?_eq_some_iff.1 hh).1, fun i p hi => ?_⟩⟩
    obtain ⟨h1, h2⟩ := flatKV_get l i p hi
    have e1 := h.cells (g := tb) rfl _ _ h1
    have e2 := h.cells (g := tb) rfl _ _ h2
    rw [Addr.add_mid] at e1 e2
    exact ⟨e1, by rw [Nat.add_assoc]; exact e2⟩
theorem KVIn.len {w : World} {v : Value} {l : List KV} (h : KVIn w v l) : ∃ a cap, v = .slice a l.length cap := by
  obtain ⟨a, cap, e, _⟩ := h
  exact ⟨a, cap, e⟩
theorem KVIn.at {w : World} {a : Option Addr} {n cap : Nat} {l : List KV} (h : KVIn w (.slice a n cap) l) (i : Nat) (p : KV) (hi : l[i]? = some p) :
    ∃ ab ao, a = some ⟨ab, ao, none⟩ ∧ ab < w.heap.size ∧ w.cell? ⟨ab, ao + i * 2, none⟩ = some (.string p.1) ∧ w.cell? ⟨ab, ao + i * 2 + 1, none⟩ = some (.string p.2) := by
  obtain ⟨a', cap', e, hc, hm, hx⟩ := h
  injection e with e1 e2 e3
  subst e1
  rcases hx with rfl | ⟨ab, ao, rfl, hlt, hx⟩
  · simp at hi
  · exact ⟨ab, ao, rfl, hlt, hx i p hi⟩
/-- append of pairs to a slice of one's own -/
theorem run_append_kvs (w : World) (base : Nat) (v : Value) (n : Nat) (vs : List Value) (hown : w.ownsRow base 81 2 v n vs) (y : Value) (ps : List KV) (hy : KVIn w y ps) (hl : (n + ps.length) * 32 ≤ 140737488355328) (hb : base ≤ w.heap.size) :
    ∃ v' w', (Builtin.append_ #[24, 24] 24 #[v, y]).run Tryd.prog w = .ok v' w' ∧ w'.ownsRow base 81 2 v' (n + ps.length) (vs ++ flatKV ps) ∧ w.grownBy w' v.ownBlock := by
  obtain ⟨i0, hi, hz0, hz1, hz2⟩ := info_parts infoKV
  obtain ⟨a, c, rfl, hc, hm, hx⟩ := hy
  rcases a with _ | ad
  · have hn : ps = [] := by
      rcases hx with hx | ⟨_, _, h, _⟩
      · exact hx
      · cases h
    subst hn
    refine ⟨v, w, ?_, by simpa [flatKV] using hown, ⟨rfl, rfl, rfl, Nat.le_refl _, fun _ _ _ => rfl⟩⟩
    rcases hown.2 with ⟨rfl, rfl⟩ | ⟨g, cap, cur, rfl, _, _, hnc, _⟩
    · simp [Builtin.append_, run_underlying Tryd.underlying24, sizeOf, typeInfo, hi, Builtin.lenOf, Builtin.firstCells]
    · simp [Builtin.append_, run_underlying Tryd.underlying24, sizeOf, typeInfo, hi, Builtin.lenOf, Builtin.firstCells, hnc, storeCells]
  · have hcells : ∀ j u, (flatKV ps)[j]? = some u → w.cell? (ad.add j) = some u := fun j u hu => by
      rcases hx with rfl | ⟨ab, ao, h, _, hx⟩
      · simp [flatKV] at hu
      · injection h with h; subst h
        have hj : j < ps.length * 2 := by have := (List.getElem?_eq_some_iff.1 hu).1; rw [flatKV_length] at this; exact this
        obtain ⟨p, hp⟩ : ∃ p, ps[j / 2]? = some p := ⟨ps[j / 2]'(by omega), List.getElem?_eq_getElem _⟩
        obtain ⟨g1, g2⟩ := flatKV_get ps _ p hp
        obtain ⟨x1, x2⟩ := hx _ p hp
        rw [Addr.add_mid]
        rcases Nat.mod_two_eq_zero_or_one j with h0 | h0
        · rw [show j / 2 * 2 = j by omega] at g1 x1
          rw [g1] at hu; cases hu; exact x1
        · rw [show j / 2 * 2 + 1 = j by omega] at g2
          rw [Nat.add_assoc, show j / 2 * 2 + 1 = j by omega] at x2
          rw [g2] at hu; cases hu; exact x2
    obtain ⟨v', w', hr, h1, h2, _, h4⟩ := run_append_own_at w base 24 24 81 i0 _ 2 32 Tryd.underlying24 hi hz0 hz1 hz2 rfl (by decide) v n vs hown ad ps.length c (flatKV ps) (flatKV_length ps) hcells (flatKV_one ps) (by unfold maxLen; omega) hl hb
    exact ⟨v', w', hr, h1, h2⟩
theorem wpList_append_kvs {w : World} {ops : Array Oper} {rest : List Oper} {o : Oper} {a : Act} {Q : Exit → Act → World → Prop} (hgd : o.guard = none) (s x : Operand)
    (ho : o.op = .call { callee := .builtin .append, args := #[s, x], argTypes := #[24, 24] }) (hty : o.type = 24)
    (base : Nat) (v : Value) (n : Nat) (vs : List Value) (hs : a.eval s = v) (hown : w.ownsRow base 81 2 v n vs) (y : Value) (ps : List KV) (hx : a.eval x = y) (hy : KVIn w y ps) (hl : (n + ps.length) * 32 ≤ 140737488355328) (hb : base ≤ w.heap.size)
    (h : ∀ v' w', w'.ownsRow base 81 2 v' (n + ps.length) (vs ++ flatKV ps) → w.grownBy w' v.ownBlock → wpList Tryd.prog ops Q rest (a.put o.dst v') w') : wpList Tryd.prog ops Q (o :: rest) a w := by
  refine wpList_plain hgd fun K hK => ?_
  obtain ⟨v', w', hr, h1, h2⟩ := run_append_kvs w base v n vs hown y ps hy hl hb
  unfold Oper.wp execOp
  simp only [ho, hty, resolve, invoke, builtin, Sem.run_bind, Sem.run_pure, Result.andThen_ok, List.map_toArray, List.map_cons, List.map_nil, hs, hx, hr]
  exact hK _ _ (h v' w' h1 h2)
theorem wp_append_kvs {w : World} {o : Oper} {a : Act} {K : Act → World → Prop} {Q : Exit → Act → World → Prop} (s x : Operand)
    (ho : o.op = .call { callee := .builtin .append, args := #[s, x], argTypes := #[24, 24] }) (hty : o.type = 24)
    (base : Nat) (v : Value) (n : Nat) (vs : List Value) (hs : a.eval s = v) (hown : w.ownsRow base 81 2 v n vs) (y : Value) (ps : List KV) (hx : a.eval x = y) (hy : KVIn w y ps) (hl : (n + ps.length) * 32 ≤ 140737488355328) (hb : base ≤ w.heap.size)
    (h : ∀ v' w', w'.ownsRow base 81 2 v' (n + ps.length) (vs ++ flatKV ps) → w.grownBy w' v.ownBlock → K (a.put o.dst v') w') : o.wp Tryd.prog a w K Q := by
  obtain ⟨v', w', hr, h1, h2⟩ := run_append_kvs w base v n vs hown y ps hy hl hb
  unfold Oper.wp execOp
  simp only [ho, hty, resolve, invoke, builtin, Sem.run_bind, Sem.run_pure, Result.andThen_ok, List.map_toArray, List.map_cons, List.map_nil, hs, hx, hr]
  exact h v' w' h1 h2
theorem kv_new (w : World) (p : KV) : w.alloc (.cells #[.string p.1, .string p.2] 81) |>.ownsRow w.heap.size 81 2 (.slice (some ⟨w.heap.size, 0, none⟩) 1 1) 1 (flatKV [p]) := by
  refine ⟨rfl, .inr ⟨w.heap.size, 1, #[.string p.1, .string p.2], rfl, Nat.le_refl _, heap_alloc_new _ _, by omega, by simp [maxLen], by simp, rfl⟩⟩
end Go.Proofs.YtfmfemmknccfmaaDoor
