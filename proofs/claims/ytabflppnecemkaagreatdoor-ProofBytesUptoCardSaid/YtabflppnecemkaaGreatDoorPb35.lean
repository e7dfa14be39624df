/- Part 35 of the proof. -/
import Derived.Test.YtabflppnecemkaaGreatDoorPb6
import Derived.Test.YtabflppnecemkaaGreatDoorPb12
import Derived.Test.YtabflppnecemkaaGreatDoorPb26
import Derived.Test.YtabflppnecemkaaGreatDoorPb28
import Derived.Test.YtabflppnecemkaaGreatDoorPb29
import Derived.Test.YtabflppnecemkaaGreatDoorPb34
namespace Go.Proofs.YtabflppnecemkaaGreatDoor
set_option linter.unusedVariables false
set_option linter.unusedSimpArgs false
open Go.RowKit
set_option maxRecDepth 100000
/-- are the params valid? -/
def kOk (D E : Int) : Prop := 1 ≤ D ∧ D ≤ 32 ∧ 0 ≤ E ∧ E ≤ 10
instance (D E : Int) : Decidable (kOk D E) := by unfold kOk; infer_instance
def parC (D E : Int) : Array Value := #[.int .i64 D, .int .i64 E]
def ckR (D E : Int) : Option Nat := if kOk D E then none else some 20
end Go.Proofs.YtabflppnecemkaaGreatDoor
namespace Go.Proofs.YtabflppnecemkaaGreatDoor
set_option linter.unusedVariables false
set_option linter.unusedSimpArgs false
open Go.RowKit
set_option maxRecDepth 100000
theorem rdone2_any (v : Value) (ys : List Int) (e : Option Nat) (he : e ≠ some 0) (w : World) (hy : BytesIn w v ys) (hl : ys.length ≤ 140737488355328) : Calls Tryz.prog 30 #[.agg (rdC v (numE e))] w fun r w' => r = .returned (.int .i64 (numE (doneE (ys, e)))) ∧ Below w.heap.size w w' := by
  obtain ⟨a, c, rfl, -⟩ := id hy
  have HB := Lib.hid (below_alloc w (.cells (rdC (.slice a ys.length c) (numE e)) 69))
  obtain ⟨c0, c1, -⟩ := rd_cells (heap_alloc_new w (.cells (rdC (.slice a ys.length c) (numE e)) 69))
  cases e with
  | some x =>
    have hx : x ≠ 0 := fun h => he (by rw [h])
    have hne : ((x : Int) == 0) = false := by simp; omega
    rw [show numE (some x) = (x : Int) from rfl] at *
    clear hx he hy
    go_enter Tryz.func30, Tryz.ntmps30
    go_wp2_with (fail)
    go_ret
    exact ⟨rfl, HB.out⟩
  | none =>
    rw [show numE none = 0 from rfl] at *
    by_cases h : 0 < ys.length
    · have q1 : decide ((0 : Int) < (ys.length : Int)) = true := by simp; omega
      have q2 : decide (0 < ys.length) = true := by simpa using h
      have HD := Lib.hid (show doneE (ys, none) = some 3 by unfold doneE; simp only; rw [if_pos h])
      clear h he hy
      go_enter Tryz.func30, Tryz.ntmps30
      go_wp2_with (fail)
      go_ret
      rw [HD.out]
      exact ⟨rfl, HB.out⟩
    · have q1 : decide ((0 : Int) < (ys.length : Int)) = false := decide_eq_false (by omega)
      have q2 : decide (0 < ys.length) = false := decide_eq_false h
      have HD := Lib.hid (show doneE (ys, none) = none by unfold doneE; simp only; rw [if_neg h])
      clear h he hy
      go_enter Tryz.func30, Tryz.ntmps30
      go_wp2_with (fail)
      go_ret
      rw [HD.out]
      exact ⟨rfl, HB.out⟩
/-- a small depth -/
def cutE5 (E : Int) : Int := if 4 < E ∧ E ≤ 10 then E % 5 else E
theorem cutE5_same (D E : Int) : kOk D (cutE5 E) ↔ kOk D E := by
  unfold cutE5
  by_cases h : 4 < E ∧ E ≤ 10
  · rw [if_pos h]
    unfold kOk; omega
  · rw [if_neg h]
theorem par_one (D E : Int) : (parC D E).all (·.oneCell') = true := by simp [parC, Value.oneCell']
end Go.Proofs.YtabflppnecemkaaGreatDoor
namespace Go.Proofs.YtabflppnecemkaaGreatDoor
set_option linter.unusedVariables false
set_option linter.unusedSimpArgs false
open Go.RowKit
set_option maxRecDepth 100000
set_option linter.unusedSimpArgs false
set_option linter.unusedVariables false
theorem infoSt7D : (Tryz.prog.info? 74).map (fun i => (i.zero, i.size, i.bytes)) = some (some (.agg (stC ⟨false, 0, fun _ => 0⟩)), 34, 48) := by kernel_rfl
theorem wpList_append7D {w : World} {ops : Array Oper} {rest : List Oper} {o : Oper} {a : Act} {Q : Exit → Act → World → Prop} (hgd : o.guard = none) (s x : Operand)
    (ho : o.op = .call { callee := .builtin .append, args := #[s, x], argTypes := #[22, 22] }) (hty : o.type = 22)
    (base : Nat) (v : Value) (l : List AvS) (hs : a.eval s = v) (hown : w.ownsRow base 74 34 v l.length (flatSt l)) (b : Nat) (st : AvS) (hx : a.eval x = .slice (some ⟨b, 0, none⟩) 1 1) (hy : w.heap[b]? = some (.cells (stC st) 74 (0, 0))) (hl : (l.length + 1) * 48 ≤ 140737488355328) (hb : base ≤ w.heap.size)
    (h : ∀ v' w', w'.ownsRow base 74 34 v' (l ++ [st]).length (flatSt (l ++ [st])) → w.grownBy w' v.ownBlock → wpList Tryz.prog ops Q rest (a.put o.dst v') w') : wpList Tryz.prog ops Q (o :: rest) a w := by
  refine wpList_plain hgd fun K hK => ?_
  obtain ⟨i0, hi, hz0, hz1, hz2⟩ := info_parts infoSt7D
  obtain ⟨v', w', hr, h1, h2, _, _⟩ := run_append_own_at w base 22 22 74 i0 _ 34 48 Tryz.underlying22 hi hz0 hz1 hz2 (by simp [Value.cells, stC_size]) (by decide) v l.length (flatSt l) hown ⟨b, 0, none⟩ 1 1 st.cells (by rw [AvS.cells_length])
    (fun j u hj => by rw [Addr.add_mid, Nat.zero_add, cell_of_row w b j _ _ _ hy]; simpa [AvS.cells] using hj) st.cells_one (by unfold maxLen; omega) hl hb
  unfold Oper.wp execOp
  simp only [ho, hty, resolve, invoke, builtin, Sem.run_bind, Sem.run_pure, Result.andThen_ok, List.map_toArray, List.map_cons, List.map_nil, hs, hx, hr]
  exact hK _ _ (h v' w' (by rw [List.length_append, flatSt_append, show flatSt [st] = st.cells from by simp [flatSt]]; exact h1) h2)
theorem st7_fillD (s : AvS) : Instr.fill (fun i => some (i * 34, 34)) ((Array.range (1 * 34)).map ((Value.agg (stC ⟨false, 0, fun _ => 0⟩)).cells[· % (Value.agg (stC ⟨false, 0, fun _ => 0⟩)).cells.size]!)) [(0, .agg (stC s))] = some (stC s) := by kernel_rfl
theorem wpList_step7D {w : World} {ops : Array Oper} {rest : List Oper} {o : Oper} {a : Act} {Q : Exit → Act → World → Prop} (hgd : o.guard = none) (x : Operand) (ho : o.op = .buildSlice 22 1 #[(0, x)]) (s : AvS) (hx : a.eval x = .agg (stC s))
    (h : wpList Tryz.prog ops Q rest (a.put o.dst (.slice (some ⟨w.heap.size, 0, none⟩) 1 1)) (w.alloc (.cells (stC s) 74))) : wpList Tryz.prog ops Q (o :: rest) a w := by
  refine wpList_plain hgd fun K hK => ?_
  obtain ⟨i0, hi, hz0, hz1, hz2⟩ := info_parts infoSt7D
  refine wp_buildSlice 22 74 1 #[(0, x)] ho (stC s) i0 _ Tryz.underlying22 hi hz0 (by rw [hz1]; decide) (by rw [hz1]; decide) ?_ (hK _ _ h)
  rw [hz1]
  simpa [hx] using st7_fillD s
theorem wpList_builtD {P : Program} {ops : Array Oper} {rest : List Oper} {o : Oper} {a : Act} {w : World} {Q : Exit → Act → World → Prop} (hg : o.guard = none) (t : TypeId) (parts : Array (Nat × Operand)) (ho : o.op = .build t parts) (cells : Array Value)
    (hf : P.built t (parts.map fun (i, x) => (i, a.eval x)).toList = some cells)
    (h : wpList P ops Q rest (a.put o.dst (.agg cells)) w) : wpList P ops Q (o :: rest) a w :=
  wpList_build hg t parts ho (by rw [hf]; rfl) (by rw [hf]; exact h)
theorem bytes_blk {w w' : World} {y : Value} {xs : List Int} (h : BytesIn w y xs) (hk : xs ≠ [] → ∀ k, y.ownBlock = some k → w'.heap[k]? = w.heap[k]?) : BytesIn w' y xs := by
  obtain ⟨a, c, rfl, h1, h2, h3⟩ := h
  refine ⟨a, c, rfl, h1, h2, ?_⟩
  by_cases hn : xs = []
  · exact .inl hn
  · rcases h3 with h3 | ⟨ab, ao, rfl, h3⟩
    · exact .inl h3
    · refine .inr ⟨ab, ao, rfl, fun i x hi => ?_⟩
      have h4 := h3 i x hi
      have h5 := hk hn ab rfl
      unfold World.cell? at h4 ⊢
      rw [h5]
      exact h4
theorem setCells_rows (g : Nat) (t : TypeId) : ∀ (vs : List Value) (o : Nat) (w : World) (cs : Array Value), w.heap[g]? = some (.cells cs t (0, 0)) → o + vs.length ≤ cs.size →
    ∃ cs' : Array Value, (w.setCells g o vs).heap[g]? = some (.cells cs' t (0, 0)) ∧ cs'.size = cs.size ∧ ∀ j, cs'[j]? = if o ≤ j ∧ j < o + vs.length then vs[j - o]? else cs[j]?
  | [], o, w, cs, h, _ => ⟨cs, h, rfl, fun j => by rw [if_neg (by simp)]⟩
  | v :: r, o, w, cs, h, hl => by
    have h1 := heap_setCell_same w g o _ t v h
    obtain ⟨cs', h2, h3, h4⟩ := setCells_rows g t r (o + 1) (w.setCell ⟨g, o, none⟩ v) _ h1 (by simp at hl ⊢; omega)
    refine ⟨cs', h2, by rw [h3]; simp, fun j => ?_⟩
    rw [h4 j]
    simp only [List.length_cons] at hl ⊢
    by_cases e : j = o
    · subst e
      rw [if_neg (by omega), if_pos (by omega)]
      have : j < cs.size := by omega
      simp [this]
    · by_cases e2 : o + 1 ≤ j ∧ j < o + 1 + r.length
      · rw [if_pos e2, if_pos (by omega), show j - o = (j - (o + 1)) + 1 by omega]; simp
      · rw [if_neg e2, if_neg (by omega), Array.getElem?_setIfInBounds_ne (by omega)]
theorem only_cells (g : Nat) : ∀ (vs : List Value) (o : Nat) (w : World), Only g w (w.setCells g o vs)
  | [], _, w => Only.refl _ _
  | v :: r, o, w => (Only.setCell w ⟨g, o, none⟩ v).trans (only_cells g r (o + 1) _)
/-- a Step's hash is written -/
theorem st_hash {w : World} {q : Nat} {b : Bool} {m : Int} {f F : Nat → Int} {t : TypeId} (h : w.heap[q]? = some (.cells (stC ⟨b, m, f⟩) t (0, 0))) : (w.setCells q 2 (rowOf .u8 32 F).toList).heap[q]? = some (.cells (stC ⟨b, m, F⟩) t (0, 0)) := by
  obtain ⟨cs', h1, h2, h3⟩ := setCells_rows q t (rowOf .u8 32 F).toList 2 w _ h (by simp [stC_size, rowOf_size])
  rw [h1]
  have : cs' = stC ⟨b, m, F⟩ := by
    apply Array.ext_getElem?
    intro j
    rw [h3 j]
    by_cases hj : 2 ≤ j ∧ j < 2 + (rowOf .u8 32 F).toList.length
    · rw [if_pos hj]
      unfold stC
      rw [Array.getElem?_append_right (by simp; omega)]
      simp
    · rw [if_neg hj]
      unfold stC
      rcases (by omega : j < 2 ∨ 2 ≤ j) with h4 | h4
      · rw [Array.getElem?_append_left (by simp; omega), Array.getElem?_append_left (by simp; omega)]
      · have : 34 ≤ j := by simp [rowOf_size] at hj; omega
        rw [Array.getElem?_eq_none (by simp [rowOf_size]; omega), Array.getElem?_eq_none (by simp [rowOf_size]; omega)]
  rw [this]
structure DdM (w : World) (B p4 p5 : Nat) (KK V : ByteArray) (ob : Option Nat) (s : RSt) (v0 v : Value) (l : List AvS) (wr : World) : Prop where
  below : Below w.heap.size w wr
  res : wr.heap[w.heap.size]? = some (.cells prZ 24 (0, 0))
  at4 : wr.heap[p4]? = some (.cells #[.string KK, .string V, v0] 24 (0, 0))
  rd : ∃ ra rn rc, wr.heap[p5]? = some (.cells (rdC (.slice ra rn rc) (numE s.2)) 69 (0, 0)) ∧ BytesIn wr (.slice ra rn rc) s.1 ∧ (Value.slice ra rn rc).ownBlock = ob
  ok : bytesOk s.1 ∧ s.1.length ≤ 140737488351232 ∧ s.2 ≠ some 0
  own : wr.ownsRow B 74 34 v l.length (flatSt l)
  obB : s.1 ≠ [] → ∀ k, ob = some k → k < B
  le : B ≤ wr.heap.size
  r4 : w.heap.size < p4
  p45 : p4 < p5
  p5B : p5 < B
theorem DdM.call {w : World} {B p4 p5 : Nat} {KK V : ByteArray} {ob : Option Nat} {s : RSt} {v0 v : Value} {l : List AvS} {wr wr' : World} (m : DdM w B p4 p5 KK V ob s v0 v l wr) (hb : Below wr.heap.size wr wr') : DdM w B p4 p5 KK V ob s v0 v l wr' := by
  obtain ⟨ra, rn, rc, h5, hin, ho⟩ := m.rd
  exact ⟨m.below.trans (hb.mono m.below.size), (hb.block _ (bk_lt m.res)).trans m.res, (hb.block _ (bk_lt m.at4)).trans m.at4, ⟨ra, rn, rc, (hb.block _ (bk_lt h5)).trans h5, hin.below hb, ho⟩, m.ok, own_stay m.own fun k hk => hb.block k (own_lt m.own hk), m.obB, Nat.le_trans m.le hb.size, m.r4, m.p45, m.p5B⟩
/-- a block apart turns -/
theorem DdM.side {w : World} {B p4 p5 q : Nat} {KK V : ByteArray} {ob : Option Nat} {s : RSt} {v0 v : Value} {l : List AvS} {wr wr' : World} (m : DdM w B p4 p5 KK V ob s v0 v l wr) (ho : Only q wr wr') (hq : B ≤ q) (hv : ∀ k, v.ownBlock = some k → k ≠ q) (hlt : ∀ k, k < B → k < wr.heap.size) : DdM w B p4 p5 KK V ob s v0 v l wr' := by
  have h1 := m.r4; have h2 := m.p45; have h3 := m.p5B
  obtain ⟨ra, rn, rc, h5, hin, hob⟩ := m.rd
  exact ⟨m.below.trans (ho.below (by omega) m.below.size), (ho.block _ (bk_lt m.res) (by omega)).trans m.res, (ho.block _ (bk_lt m.at4) (by omega)).trans m.at4,
    ⟨ra, rn, rc, (ho.block _ (bk_lt h5) (by omega)).trans h5, bytes_blk hin fun hn k hk => ho.block k (hlt k (m.obB hn k (hob ▸ hk))) (by have := m.obB hn k (hob ▸ hk); omega), hob⟩, m.ok,
    own_stay m.own fun k hk => ho.block k (own_lt m.own hk) (hv k hk), m.obB, Nat.le_trans m.le ho.size, h1, h2, h3⟩
/-- a part was read: the Reader is stored -/
theorem DdM.read {w : World} {B p4 p5 : Nat} {KK V : ByteArray} {ob : Option Nat} {s s' : RSt} {v0 v : Value} {l : List AvS} {wr wr' : World} (m : DdM w B p4 p5 KK V ob s v0 v l wr) (hb : Below wr.heap.size wr wr') {a : Option Addr} {n c : Nat} (hx : BytesIn wr' (.slice a n c) s'.1) (ho : (Value.slice a n c).ownBlock = ob) (hok : bytesOk s'.1 ∧ s'.1.length ≤ 140737488351232 ∧ s'.2 ≠ some 0) (hs : s.1 = [] → s'.1 = []) : DdM w B p4 p5 KK V ob s' v0 v l (wr'.setRow p5 (rdC (.slice a n c) (numE s'.2))) := by
  have m2 := m.call hb
  have h1 := m.r4; have h2 := m.p45; have h3 := m.p5B
  obtain ⟨ra, rn, rc, h5, hin, hob⟩ := m2.rd
  exact ⟨below_setRow m2.below (by omega) _, (setRow_other _ _ _ _ (by omega)).trans m2.res, (setRow_other _ _ _ _ (by omega)).trans m2.at4, ⟨a, n, c, setRow_heap _ _ _ _ _ _ h5, bytes_row hx h5 _, ho⟩, hok,
    own_stay m2.own fun k hk => setRow_other _ _ _ _ (by have := own_ge m2.own hk; omega), fun hn => m2.obB fun e => hn (hs e), by have := m2.le; simpa [World.setRow] using this, h1, h2, h3⟩
theorem DdM.grow {w : World} {B p4 p5 : Nat} {KK V : ByteArray} {ob : Option Nat} {s : RSt} {v0 v v' : Value} {l l' : List AvS} {wr wr' : World} (m : DdM w B p4 p5 KK V ob s v0 v l wr) (ho : wr'.ownsRow B 74 34 v' l'.length (flatSt l')) (hg : wr.grownBy wr' v.ownBlock) : DdM w B p4 p5 KK V ob s v0 v' l' wr' := by
  have h1 := m.r4; have h2 := m.p45; have h3 := m.p5B
  obtain ⟨ra, rn, rc, h5, hin, hob⟩ := m.rd
  have hne : ∀ k, k < B → some k ≠ v.ownBlock := fun k hk e => by have := own_ge m.own e.symm; omega
  exact ⟨m.below.trans ⟨hg.os, hg.tape, hg.output, hg.size, fun k hk => hg.block k (Nat.lt_of_lt_of_le hk m.below.size) (hne k (by omega))⟩, (hg.block _ (bk_lt m.res) (hne _ (by omega))).trans m.res, (hg.block _ (bk_lt m.at4) (hne _ (by omega))).trans m.at4,
    ⟨ra, rn, rc, (hg.block _ (bk_lt h5) (hne _ h3)).trans h5, bytes_blk hin fun hn k hk => hg.block k (Nat.lt_of_lt_of_le (m.obB hn k (hob ▸ hk)) m.le) (hne k (m.obB hn k (hob ▸ hk))), hob⟩, m.ok, ho, m.obB, Nat.le_trans m.le hg.size, h1, h2, h3⟩
theorem DdM.set {w : World} {B p4 p5 : Nat} {KK V : ByteArray} {ob : Option Nat} {s : RSt} {v0 v : Value} {l : List AvS} {wr : World} (m : DdM w B p4 p5 KK V ob s v0 v l wr) (hv : ∀ n, v0 ≠ .int .u8 n) : DdM w B p4 p5 KK V ob s v v l (wr.setCell ⟨p4, 2, none⟩ v) := by
  have h1 := m.r4; have h2 := m.p45; have h3 := m.p5B
  have hO := Only.setCell wr ⟨p4, 2, none⟩ v
  obtain ⟨ra, rn, rc, h5, hin, hob⟩ := m.rd
  refine ⟨m.below.trans (hO.below (by show _ ≤ p4; omega) m.below.size), (hO.block _ (bk_lt m.res) (by show _ ≠ p4; omega)).trans m.res, by rw [heap_setCell_same wr p4 2 _ _ _ m.at4]; rfl,
    ⟨ra, rn, rc, (hO.block _ (bk_lt h5) (by show _ ≠ p4; omega)).trans h5, bytes_setCell3 hin (by rw [cell_of_row _ _ 2 _ _ _ m.at4]; rfl) hv, hob⟩, m.ok, own_stay m.own fun k hk => hO.block k (own_lt m.own hk) (by have := own_ge m.own hk; show _ ≠ p4; omega), m.obB, by rw [setCell_size]; exact m.le, h1, h2, h3⟩
theorem boolS_k {s : RSt} (h : bytesOk s.1 ∧ s.1.length ≤ 140737488351232 ∧ s.2 ≠ some 0) : bytesOk (boolS s).2.1 ∧ (boolS s).2.1.length ≤ 140737488351232 ∧ (boolS s).2.2 ≠ some 0 := by
  obtain ⟨ys, e⟩ := s
  obtain ⟨h1, h2, h3⟩ := h
  cases e with
  | some x => exact ⟨h1, h2, h3⟩
  | none =>
    unfold boolS
    simp only
    split
    · exact ⟨h1, h2, by simp⟩
    · split
      · exact ⟨h1, h2, by simp⟩
      · exact ⟨bytesOk_drop h1 1, by rw [List.length_drop]; simp only at h2; omega, by simp⟩
theorem intS_k {s : RSt} (h : bytesOk s.1 ∧ s.1.length ≤ 140737488351232 ∧ s.2 ≠ some 0) : bytesOk (intS s).2.1 ∧ (intS s).2.1.length ≤ 140737488351232 ∧ (intS s).2.2 ≠ some 0 :=
  ⟨(uintS_ok s _ h.1).1, Nat.le_trans (uintS_ok s _ h.1).2 h.2.1, uintS_no0 s _ h.2.2⟩
theorem hashS_k {s : RSt} (h : bytesOk s.1 ∧ s.1.length ≤ 140737488351232 ∧ s.2 ≠ some 0) : bytesOk (hashS s).2.1 ∧ (hashS s).2.1.length ≤ 140737488351232 ∧ (hashS s).2.2 ≠ some 0 := by
  obtain ⟨ys, e⟩ := s
  obtain ⟨h1, h2, h3⟩ := h
  cases e with
  | some x => exact ⟨h1, h2, h3⟩
  | none =>
    by_cases hs : ys.length < 32
    · rw [hashS_short hs]; exact ⟨h1, h2, by simp⟩
    · rw [hashS_long hs]; exact ⟨bytesOk_drop h1 32, by rw [List.length_drop]; simp only at h2; omega, by simp⟩
end Go.Proofs.YtabflppnecemkaaGreatDoor
