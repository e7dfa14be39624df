/- Part 38 of the proof. -/
import Derived.Test.YtggcodobkmhkgaaDoorFc33
import Derived.Test.YtggcodobkmhkgaaDoorFc37
namespace Go.Proofs.YtggcodobkmhkgaaDoor
set_option linter.unusedVariables false
set_option linter.unusedSimpArgs false
open Go.RowKit Go.Maps Go.Proofs
set_option maxRecDepth 100000
theorem FilesIn.wide {w : World} {v : Value} {L : List RF} (h : FilesIn w v L) : ∃ a n c, v = .slice a n c := ownsF_wide h.1
/-- what step answers -/
def LStep (R : FsR) (w : World) (k : Nat) (e : Ending) (w' : World) : Prop :=
  ∃ R' r' lv', e = .returned (.tuple #[rsV lv' r', .bool true]) ∧ StepTo R R' w w' ∧ FilesIn w' lv' r'.L ∧ Rel4 (absR R') r' ∧ NumK r' (k + 1)
theorem StM.belowB {B : Nat} {w w' : World} {R R' : FsR} {q : Nat} {C : Array Value} {t : AT} {lv : Value} {L : List RF} (m : StM B w w' R R' q C t lv L) (ho : Own B w R) : Below B w w' := (ho.step m.st).2
theorem own_wide {w : World} {base n : Nat} {ty : TypeId} {z : Nat} {v : Value} {vs : List Value} (h : w.ownsRow base ty z v n vs) : ∃ a m c, v = .slice a m c := by
  rcases h.2 with ⟨h, _⟩ | ⟨g, cap, _, h, _⟩
  · exact ⟨_, _, _, h⟩
  · exact ⟨_, _, _, h⟩
theorem own_slice {w : World} {base n : Nat} {v : Value} {vs : List Value} (h : w.ownsRow base 5 1 v n vs) : ∃ a c, v = .slice a n c := by
  rcases h.2 with ⟨h, h0⟩ | ⟨g, cap, _, h, _⟩
  · exact ⟨none, 0, by rw [h, h0]⟩
  · exact ⟨_, _, h⟩
theorem grown_none {w w' : World} (h : w.grownBy w' (Value.ownBlock (.slice none 0 0))) : Below w.heap.size w w' := (Below.refl _ _).grown h (Nat.le_refl _) (fun j hj => by cases hj)
theorem stm_start {B : Nat} {w : World} {R : FsR} {C : Array Value} {t : AT} {lv : Value} {L : List RF} (ho : Own B w R) (hL : FilesIn w lv L) :
    StM B w (((w.alloc (.cells C 27)).alloc (.cells t.cells.toArray 33)).alloc (.cells zeroRS 27)) R R w.heap.size C t lv L := by
  have hb : Below w.heap.size w (((w.alloc (.cells C 27)).alloc (.cells t.cells.toArray 33)).alloc (.cells zeroRS 27)) := Below.alloc0 (Below.alloc0 (Below.alloc0 (Below.refl _ _) _) _) _
  refine ⟨.of_below ho.fs hb, ho.below hb, ⟨?_, ?_, ?_⟩, hL.below hb, Nat.le_refl _⟩
  · rw [heap_alloc_old _ _ (by simp; omega), heap_alloc_old _ _ (by simp), heap_alloc_new]
  · rw [heap_alloc_old _ _ (by simp)]
    have := heap_alloc_new (w.alloc (.cells C 27)) (.cells t.cells.toArray 33)
    rw [size_alloc] at this; exact this
  · have := heap_alloc_new ((w.alloc (.cells C 27)).alloc (.cells t.cells.toArray 33)) (.cells zeroRS 27)
    rw [size_alloc, size_alloc] at this; exact this
theorem StM.res {B : Nat} {w w' : World} {R R' : FsR} {q : Nat} {C : Array Value} {t : AT} {lv : Value} {L : List RF} (m : StM B w w' R R' q C t lv L) (C' : Array Value) (hz : C'.size = 5) : StepTo R R' w (w'.setRow (q + 1 + 1) C') ∧ FilesIn (w'.setRow (q + 1 + 1) C') lv L := by
  have hk : Keep (fun k _ => k = q + 1 + 1) w' (w'.setRow (q + 1 + 1) C') :=
    ⟨rfl, rfl, rfl, by simp [World.setRow], fun k hk hf => setRow_other _ _ _ _ (fun e => hf 0 e), fun k cur T hc => by
      by_cases e : k = q + 1 + 1
      · subst e
        rw [m.bx.res] at hc
        injection hc with hc
        injection hc with h1 h2
        subst h1 h2
        exact ⟨C', setRow_heap _ _ _ _ _ _ m.bx.res, hz, fun o ho => absurd rfl ho⟩
      · exact ⟨cur, (setRow_other _ _ _ _ e).trans hc, rfl, fun _ _ => rfl⟩⟩
  have hf : FsAt (w'.setRow (q + 1 + 1) C') R' := m.st.fs.keep hk fun k o e => by rw [e]; exact m.st.fs.typed m.bx.res (by decide) (by decide) o
  exact ⟨⟨hf, m.st.keep.trans hk fun i o hi e => absurd m.lo (by rw [e] at hi; omega), m.st.pb, m.st.mb, m.st.foot, m.st.reads⟩, FilesIn.setRow m.fl m.bx.res⟩
theorem lstep_end {B k : Nat} {w w' : World} {R R' : FsR} {q : Nat} {C : Array Value} {t : AT} {r' : RSt} {lv' : Value} (m : StM B w w' R R' q C t lv' r'.L) (hr : Rel4 (absR R') r') (hn : NumK r' (k + 1)) :
    LStep R w k (.returned (.tuple #[.agg #[lv', .int .i64 r'.steps, .bool r'.armed, .int .i64 r'.left, .bool r'.down], .bool true])) (w'.setRow (q + 1 + 1) #[lv', .int .i64 r'.steps, .bool r'.armed, .int .i64 r'.left, .bool r'.down]) :=
  ⟨R', r', lv', rfl, (m.res _ rfl).1, (m.res _ rfl).2, hr, hn⟩
theorem StM.setC {B : Nat} {w w' : World} {R R' : FsR} {q : Nat} {C : Array Value} {t : AT} {lv : Value} {L : List RF} (m : StM B w w' R R' q C t lv L) (i : Nat) (v : Value) : StM B w (w'.setCell ⟨q, i, none⟩ v) R R' q (C.setIfInBounds i v) t lv L := by
  have hk : Keep (fun k _ => k = q) w' (w'.setCell ⟨q, i, none⟩ v) := .setCell w' q i _ _ v m.bx.rs rfl
  have hf : FsAt (w'.setCell ⟨q, i, none⟩ v) R' := m.st.fs.keep hk fun k o e => by rw [e]; exact m.st.fs.typed m.bx.rs (by decide) (by decide) o
  have ho : ∀ k, k ≠ q → (w'.setCell ⟨q, i, none⟩ v).heap[k]? = w'.heap[k]? := fun k hk => heap_setCell_other _ _ _ _ hk
  refine ⟨⟨hf, m.st.keep.trans hk fun i o hi e => absurd m.lo (by rw [e] at hi; omega), m.st.pb, m.st.mb, m.st.foot, m.st.reads⟩, ⟨hf, m.own.reads, Nat.le_trans m.own.le hk.size⟩, ⟨heap_setCell_same w' q i _ _ _ m.bx.rs, (ho _ (by omega)).trans m.bx.act, (ho _ (by omega)).trans m.bx.res⟩, ?_, m.lo⟩
  obtain ⟨⟨h1, h2⟩, h3⟩ := m.fl
  refine ⟨⟨h1, h2.imp id fun ⟨g, cap, cur, e, hb, hg, r⟩ => ⟨g, cap, cur, e, hb, (ho _ fun e => ?_).trans hg, r⟩⟩, h3⟩
  subst e
  rw [m.bx.rs] at hg
  injection hg with hg
  injection hg with _ hg
  exact absurd hg (by decide)
/-- the bytes that step itself has laid: no file leads there -/
def Mine (lo : Nat) (w : World) (R : FsR) (a : Option Addr) (n : Nat) : Prop := n = 0 ∨ ∃ g cur, a = some ⟨g, 0, none⟩ ∧ lo ≤ g ∧ w.heap[g]? = some (.cells cur 5 (0, 0)) ∧ (∀ i, i < n → ∃ x, cur[i]? = some (.int .u8 x)) ∧ ∀ o, ¬ Reads R g o
theorem Mine.of {lo : Nat} {w : World} {R : FsR} {a : Option Addr} {c : Nat} {xs : List Int} (h : w.ownsRow lo 5 1 (.slice a xs.length c) xs.length (byteVals xs)) (hr : ∀ k o, Reads R k o → k < lo) : Mine lo w R a xs.length := by
  have h' := h
  rcases h.2 with ⟨_, h0⟩ | ⟨g, cap, cur, e, hg, hh, hc, hm, hs, ht⟩
  · exact .inl h0
  · injection e with e1 e2 e3
    subst e1
    refine .inr ⟨g, cur, rfl, hg, hh, fun i hi => ⟨xs[i], ?_⟩, fun o h => by have := hr g o h; omega⟩
    have := h'.cells (g := g) rfl i (.int .u8 xs[i]) (by simp [byteVals, hi])
    rw [Addr.add_mid, Nat.zero_add, cell_of_row _ _ _ _ _ _ hh] at this
    exact this
theorem Mine.fs {lo n : Nat} {w w' : World} {R R' : FsR} {a : Option Addr} (h : Mine lo w R a n) (s : StepTo R R' w w') : Mine lo w' R' a n :=
  h.imp id fun ⟨g, cur, e, h1, h2, h3, h4⟩ => ⟨g, cur, e, h1, (s.keep.block g (Array.getElem?_eq_some_iff.1 h2).1 fun o hf => h4 o hf.reads).trans h2, h3, fun o hr => h4 o (s.reads g o (Array.getElem?_eq_some_iff.1 h2).1 hr)⟩
theorem Mine.below {lo n : Nat} {w w' : World} {R : FsR} {a : Option Addr} (h : Mine lo w R a n) (hb : Below w.heap.size w w') : Mine lo w' R a n :=
  h.imp id fun ⟨g, cur, e, h1, h2, h3, h4⟩ => ⟨g, cur, e, h1, (hb.block g (Array.getElem?_eq_some_iff.1 h2).1).trans h2, h3, h4⟩
theorem Mine.row {lo n q : Nat} {w : World} {R : FsR} {a : Option Addr} {C C' : Array Value} (h : Mine lo w R a n) (hq : w.heap[q]? = some (.cells C 27 (0, 0))) : Mine lo (w.setRow q C') R a n :=
  h.imp id fun ⟨g, cur, e, h1, h2, h3, h4⟩ => ⟨g, cur, e, h1, (setRow_other _ _ _ _ (fun e => by
    subst e
    rw [hq] at h2
    injection h2 with h2
    injection h2 with _ h2
    exact absurd h2 (by decide))).trans h2, h3, h4⟩
/-- one of these bytes is written -/
theorem StM.mine {B : Nat} {w w' : World} {R R' : FsR} {q : Nat} {C : Array Value} {t : AT} {lv : Value} {L : List RF} (m : StM B w w' R R' q C t lv L) {g : Nat} {cur : Array Value} (hg : w'.heap[g]? = some (.cells cur 5 (0, 0))) (hlo : w.heap.size ≤ g) (hfar : ∀ o, ¬ Reads R' g o) (i : Nat) (v : Value) :
    StM B w (w'.setCell ⟨g, i, none⟩ v) R R' q C t lv L := by
  have hk : Keep (fun k _ => k = g) w' (w'.setCell ⟨g, i, none⟩ v) := .setCell w' g i _ _ v hg rfl
  have hf : FsAt (w'.setCell ⟨g, i, none⟩ v) R' := m.st.fs.keep hk fun k o e => by rw [e]; exact hfar o
  have ht : KeepT w' (w'.setCell ⟨g, i, none⟩ v) := fun b cs T hb h1 h2 => (heap_setCell_other _ _ _ _ (fun e => by
    subst e
    rw [hg] at hb
    injection hb with hb
    injection hb with _ hb
    exact h2 hb.symm)).trans hb
  exact ⟨⟨hf, m.st.keep.trans hk fun i o hi e => absurd hlo (by rw [e] at hi; omega), m.st.pb, m.st.mb, m.st.foot, m.st.reads⟩, ⟨hf, m.own.reads, Nat.le_trans m.own.le hk.size⟩, m.bx.keepT ht, m.fl.keepT ht, m.lo⟩
theorem Mine.set {lo n : Nat} {w : World} {R : FsR} {g : Nat} {cur : Array Value} (hlo : lo ≤ g) (hg : w.heap[g]? = some (.cells cur 5 (0, 0))) (hn : ∀ i, i < n → ∃ x, cur[i]? = some (.int .u8 x)) (hfar : ∀ o, ¬ Reads R g o) (i : Nat) (y : Int) : Mine lo (w.setCell ⟨g, i, none⟩ (.int .u8 y)) R (some ⟨g, 0, none⟩) n := by
  refine .inr ⟨g, cur.setIfInBounds i (.int .u8 y), rfl, hlo, heap_setCell_same w g i _ _ _ hg, fun k hk => ?_, hfar⟩
  obtain ⟨x, hx⟩ := hn k hk
  rw [Array.getElem?_setIfInBounds]
  split
  · rename_i e; subst e; have := (Array.getElem?_eq_some_iff.1 hx).1; exact ⟨y, by rw [if_pos this]⟩
  · exact ⟨x, hx⟩
theorem keep_at {B : Nat} {W w : World} {v : Value} {ks : List Int} (h : NumsIn W.heap.size W v ks) (hb : Below W.heap.size W w) : KeepAt w v ks := by
  obtain ⟨a, cap, rfl, h1, h2, h3⟩ := h
  refine ⟨a, cap, rfl, Nat.le_trans h1 h2, ?_⟩
  by_cases he : ks = []
  · exact .inl he
  · rcases h3 with h3 | ⟨ab, ao, rfl, _, hc⟩
    · exact absurd h3 he
    · have hlt : ab < W.heap.size := by
        cases ks with
        | nil => exact absurd rfl he
        | cons k t => exact World.block_lt_of_cell? W _ (hc 0 k rfl)
      exact .inr ⟨ab, ao, rfl, Nat.lt_of_lt_of_le hlt hb.size, fun i k hi => (hb.cell (p := ⟨ab, ao + i, none⟩) hlt).trans (hc i k hi)⟩
theorem nums_ints {W w : World} {v : Value} {ks : List Int} (h : NumsIn W.heap.size W v ks) (hb : Below W.heap.size W w) : IntsIn w v ks := by
  obtain ⟨a, cap, e, hm, hx⟩ := keep_at (B := 0) h hb
  obtain ⟨a', cap', e', h1, h2, _⟩ := h
  rw [e'] at e
  injection e with e1 e2 e3
  subst e1 e3
  exact ⟨a', cap', e', h1, hm, hx.imp id fun ⟨ab, ao, e, _, hc⟩ => ⟨ab, ao, e, hc⟩⟩
theorem own_nums {B lo : Nat} {w : World} {v : Value} {ks : List Int} (h : w.ownsRow lo 3 1 v ks.length (intVals ks)) (hl : ks.length ≤ maxLen) : NumsIn B w v ks := by
  rcases h.2 with ⟨rfl, h0⟩ | ⟨g, c, cur, rfl, hb, hg, hc, hm, hs, ht⟩
  · obtain rfl := List.eq_nil_of_length_eq_zero h0
    exact ⟨none, 0, rfl, Nat.le_refl _, by decide, .inl rfl⟩
  · refine ⟨_, c, rfl, hc, hm, .inr ⟨g, 0, rfl, .inr ⟨_, hg⟩, fun i x hi => ?_⟩⟩
    have := h.cells (g := g) rfl i (.int .i64 x) (by simp [intVals, hi])
    rw [Addr.add_mid] at this
    exact this
/-- append of no numbers to none -/
theorem wpList_append_noints {w : World} {ops : Array Oper} {rest : List Oper} {o : Oper} {a : Act} {Q : Exit → Act → World → Prop} (hgd : o.guard = none) (s x : Operand)
    (ho : o.op = .call { callee := .builtin .append, args := #[s, x], argTypes := #[31, 31] }) (hty : o.type = 31) (hs : a.eval s = .slice none 0 0) (ya : Option Addr) (yc : Nat) (hx : a.eval x = .slice ya 0 yc)
    (h : wpList Tryd.prog ops Q rest (a.put o.dst (.slice none 0 0)) w) : wpList Tryd.prog ops Q (o :: rest) a w := by
  refine wpList_plain hgd fun K hK => ?_
  obtain ⟨i0, hi, hz0, hz1, hz2⟩ := info_parts infoInt
  unfold Oper.wp execOp
  have hr : (Builtin.append_ #[31, 31] 31 #[.slice none 0 0, .slice ya 0 yc]).run Tryd.prog w = .ok (.slice none 0 0) w := by
    cases ya <;> simp [Builtin.append_, run_underlying Tryd.underlying31, sizeOf, typeInfo, hi, Builtin.lenOf, Builtin.firstCells, storeCells, loadCells, loadCellsFrom]
  simp [ho, resolve, invoke, builtin, hs, hx, hty, hr, Result.andThen]
  exact hK _ _ h
end Go.Proofs.YtggcodobkmhkgaaDoor
