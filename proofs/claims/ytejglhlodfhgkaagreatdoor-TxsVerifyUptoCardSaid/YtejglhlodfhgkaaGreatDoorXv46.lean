/- Part 46 of the proof. -/
import Derived.Test.YtejglhlodfhgkaaGreatDoorXv45
namespace Go.Proofs.YtejglhlodfhgkaaGreatDoor
set_option linter.unusedVariables false
set_option linter.unusedSimpArgs false
open Go.RowKit
set_option maxRecDepth 100000
set_option linter.unusedSimpArgs false
set_option linter.unusedVariables false
theorem RowsIn.keepLt {α : Type} {n : Nat} {C : α → List Value} {w w' : World} {v : Value} {l : List α} (h : RowsIn n C w v l) (hs : w.heap.size ≤ w'.heap.size) (hk : ∀ k, k < w.heap.size → v.ownBlock = some k → w'.heap[k]? = w.heap[k]?) : RowsIn n C w' v l := by
  obtain ⟨a, cap, rfl, hc, hm, hx⟩ := h
  refine ⟨a, cap, rfl, hc, hm, hx.imp id ?_⟩
  rintro ⟨ab, ao, rfl, hlt, hx⟩
  exact ⟨ab, ao, rfl, Nat.lt_of_lt_of_le hlt hs, fun i p hi j u hu => (World.cell?_of_block (hk ab hlt rfl)).trans (hx i p hi j u hu)⟩
theorem MgE.keepLt {w w' : World} {m : Mg} (h : MgE w m) (hs : w.heap.size ≤ w'.heap.size) (hk : ∀ k, k < w.heap.size → mgF m k → w'.heap[k]? = w.heap[k]?) : MgE w' m :=
  ⟨h.t.keepLt hs fun k hl e => hk k hl (.inl e), h.i.keepLt hs fun k hl e => hk k hl (.inr (.inl e)), h.d.keepLt hs fun k hl e => hk k hl (.inr (.inr (.inl e))), fun t ht => by
    obtain ⟨a, c, e, h1, h2, h3⟩ := h.b t ht
    refine ⟨a, c, e, h1, h2, h3.imp id ?_⟩
    rintro ⟨ab, ao, rfl, hx⟩
    exact ⟨ab, ao, rfl, fun i x hi => (World.cell?_of_block (hk ab (World.block_lt_of_cell? _ _ (hx i x hi)) (.inr (.inr (.inr ⟨t, ht, by rw [e]; rfl⟩))))).trans (hx i x hi)⟩⟩
abbrev trW15 (y : Tr) (v : Value) (g : List Int) (s a : Int) : Tr := { y with sv := v, sg := g, seq := s, amt := a }
/-- a transaction that give answered, at block q, with another Sign, number, amount -/
structure BkY (wo wg : World) (y : Tr) (q : Nat) (v : Value) (g : List Int) (s a : Int) (wr : World) : Prop where
  b : Below wo.heap.size wo wr
  r : wr.heap[q]? = some (.cells (trC15 (trW15 y v g s a)) 34 (0, 0))
  k : ∀ k, k < wg.heap.size → y.sv.ownBlock ≠ some k → wr.heap[k]? = wg.heap[k]?
  o : wr.ownsRow wo.heap.size 5 1 v g.length (byteVals g)
  n : ∀ j, v.ownBlock = some j → j ≠ q
  q : wg.heap.size ≤ q
  z : wo.heap.size ≤ wg.heap.size
  s : wg.heap.size ≤ wr.heap.size
theorem BkY.e {wo wg wr : World} {y : Tr} {q : Nat} {v : Value} {g : List Int} {s a : Int} (m : BkY wo wg y q v g s a wr) (he : TrE wg y) (hd : ∀ j, y.sv.ownBlock = some j → y.mv.ownBlock ≠ some j ∧ ∀ u ∈ y.ms, ¬ mgF u j) (hl : g.length ≤ maxLen) : TrE wr (trW15 y v g s a) :=
  ⟨he.m.keepLt m.s fun j hj e => m.k j hj (fun e' => (hd j e').1 e), fun u hu => (he.e u hu).keepLt m.s fun j hj e => m.k j hj (fun e' => (hd j e').2 u hu e), owns_in m.o hl⟩
theorem BkY.call {wo wg wr w' : World} {y : Tr} {q : Nat} {v : Value} {g : List Int} {s a : Int} (m : BkY wo wg y q v g s a wr) (h : Below wr.heap.size wr w') : BkY wo wg y q v g s a w' :=
  ⟨m.b.trans (h.mono m.b.size), (h.block q (bkT_lt m.r)).trans m.r, fun j hj e => (h.block j (Nat.lt_of_lt_of_le hj m.s)).trans (m.k j hj e), own_stay11 m.o fun j hj => h.block j (m.o.lt j hj).2, m.n, m.q, m.z, Nat.le_trans m.s h.size⟩
theorem BkY.set {wo wg wr : World} {y : Tr} {q : Nat} {v : Value} {g : List Int} {s a s' a' : Int} (m : BkY wo wg y q v g s a wr) (o : Nat) (u : Value) (hu : (trC15 (trW15 y v g s a)).setIfInBounds o u = trC15 (trW15 y v g s' a')) : BkY wo wg y q v g s' a' (wr.setCell ⟨q, o, none⟩ u) := by
  have hO := Only.setCell wr ⟨q, o, none⟩ u
  have hz := m.z
  have hq := m.q
  have hb : Below wo.heap.size wo (wr.setCell ⟨q, o, none⟩ u) := ⟨hO.os.trans m.b.os, hO.tape.trans m.b.tape, hO.output.trans m.b.output, Nat.le_trans m.b.size hO.size, fun j hj => (hO.block j (Nat.lt_of_lt_of_le hj m.b.size) (by show j ≠ q; omega)).trans (m.b.block j hj)⟩
  refine ⟨hb, ?_, fun j hj e => (hO.block j (Nat.lt_of_lt_of_le hj m.s) (by show j ≠ q; omega)).trans (m.k j hj e), own_stay11 m.o fun j hj => hO.block j (m.o.lt j hj).2 (m.n j hj), m.n, hq, hz, Nat.le_trans m.s hO.size⟩
  rw [heap_setCell_same wr q o _ _ u m.r, hu]
theorem BkY.new {wo wg : World} {y : Tr} (hb : Below wo.heap.size wo wg) (ho : wg.ownsRow wo.heap.size 5 1 y.sv y.sg.length (byteVals y.sg)) : BkY wo wg y wg.heap.size y.sv y.sg y.seq y.amt (wg.alloc (.cells (trC15 y) 34)) := by
  have hn := below_alloc wg (.cells (trC15 y) 34)
  exact ⟨hb.trans (hn.mono hb.size), heap_alloc_new _ _, fun j hj _ => hn.block j hj, own_stay11 ho fun j hj => hn.block j (ho.lt j hj).2, fun j hj => by have := (ho.lt j hj).2; omega, Nat.le_refl _, hb.size, hn.size⟩
theorem BkY.grow {wo wg wr w8 w9 : World} {y : Tr} {q : Nat} {g' : List Int} {s a : Int} {v' : Value} (m : BkY wo wg y q y.sv y.sg s a wr) (h8 : Below wr.heap.size wr w8) (hg : w8.grownBy w9 y.sv.ownBlock) (ho : w9.ownsRow wo.heap.size 5 1 v' g'.length (byteVals g')) : BkY wo wg y q v' g' s a (w9.setCell ⟨q, 5, none⟩ v') := by
  have m8 := m.call h8
  have hz := m8.z
  have hq := m8.q
  have hql := bkT_lt m8.r
  have hO := Only.setCell w9 ⟨q, 5, none⟩ v'
  have hown : ∀ j, y.sv.ownBlock = some j → wo.heap.size ≤ j := fun j e => (m8.o.lt j e).1
  have hq9 : w9.heap[q]? = some (.cells (trC15 (trW15 y y.sv y.sg s a)) 34 (0, 0)) := (hg.block q hql (fun e => m8.n q e.symm rfl)).trans m8.r
  have hb9 : Below wo.heap.size wo w9 := ⟨hg.os.trans m8.b.os, hg.tape.trans m8.b.tape, hg.output.trans m8.b.output, Nat.le_trans m8.b.size hg.size, fun j hj => (hg.block j (Nat.lt_of_lt_of_le hj m8.b.size) (fun e => by have := hown j e.symm; omega)).trans (m8.b.block j hj)⟩
  have hn : ∀ j, v'.ownBlock = some j → j ≠ q := fun j hj e => by
    subst e
    rcases ho.2 with ⟨rfl, -⟩ | ⟨g1, c1, u1, rfl, -, hh1, -⟩
    · cases hj
    · cases hj
      rw [hh1] at hq9
      injection hq9 with hq9
      injection hq9 with _ hq9
      exact absurd hq9 (by decide)
  refine ⟨⟨hO.os.trans hb9.os, hO.tape.trans hb9.tape, hO.output.trans hb9.output, Nat.le_trans hb9.size hO.size, fun j hj => (hO.block j (Nat.lt_of_lt_of_le hj hb9.size) (by show j ≠ q; omega)).trans (hb9.block j hj)⟩, ?_, fun j hj e => ?_, own_stay11 ho fun j hj => hO.block j (ho.lt j hj).2 (hn j hj), hn, hq, hz, Nat.le_trans (Nat.le_trans m8.s hg.size) hO.size⟩
  · rw [heap_setCell_same w9 q 5 _ _ v' hq9]; rfl
  · have h1 : j < w8.heap.size := Nat.lt_of_lt_of_le hj m8.s
    rw [hO.block j (Nat.lt_of_lt_of_le h1 hg.size) (by show j ≠ q; omega), hg.block j h1 (fun e' => e e'.symm)]
    exact m8.k j hj e
end Go.Proofs.YtejglhlodfhgkaaGreatDoor
