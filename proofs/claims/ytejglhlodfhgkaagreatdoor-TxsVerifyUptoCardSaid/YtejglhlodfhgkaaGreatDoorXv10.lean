/- Part 10 of the proof. -/
import Derived.Test.YtejglhlodfhgkaaGreatDoorXv7
namespace Go.Proofs.YtejglhlodfhgkaaGreatDoor
set_option linter.unusedVariables false
set_option linter.unusedSimpArgs false
open Go.RowKit
set_option maxRecDepth 100000
set_option linter.unusedSimpArgs false
set_option linter.unusedVariables false
theorem cnt_le15 (s : RSt) (most : Nat) : (countS s most).1 ≤ most := by
  unfold countS
  split
  · exact Nat.zero_le _
  · split
    · exact Nat.zero_le _
    · obtain ⟨ys, e⟩ := s
      cases e with
      | some x => exact Nat.zero_le _
      | none =>
        cases h : (rdF ys most).2.2 with
        | some x => rw [uintS_bad h]; exact Nat.zero_le _
        | none => rw [uintS_good h]; exact (rdF_ok h).2.2
/-- k readings on -/
def rN (f : RSt → RSt) : Nat → RSt → RSt
  | 0, s => s
  | k + 1, s => f (rN f k s)
def rL {β : Type} (V : RSt → β) (f : RSt → RSt) : Nat → RSt → List β
  | 0, _ => []
  | k + 1, s => rL V f k s ++ [V (rN f k s)]
theorem rN_front (f : RSt → RSt) (s : RSt) : ∀ k, rN f (k + 1) s = rN f k (f s)
  | 0 => rfl
  | k + 1 => by rw [rN, rN_front f s k, rN]
theorem rL_front {β : Type} (V : RSt → β) (f : RSt → RSt) (s : RSt) : ∀ k, rL V f (k + 1) s = V s :: rL V f k (f s)
  | 0 => rfl
  | k + 1 => by rw [rL, rL_front V f s k, rN_front, rL, List.cons_append]
theorem rNE {f : RSt → RSt} (hf : ∀ s : RSt, s.1 = [] → (f s).1 = []) {s : RSt} (h : s.1 = []) : ∀ k, (rN f k s).1 = []
  | 0 => h
  | k + 1 => hf _ (rNE hf h k)
/-- a list with its number ahead: what is read, and what is left -/
def lstV {β : Type} (V : RSt → β) (f : RSt → RSt) (most : Nat) (s : RSt) : List β := rL V f (countS s most).1 (countS s most).2
def lstR (f : RSt → RSt) (most : Nat) (s : RSt) : RSt := rN f (countS s most).1 (countS s most).2
theorem lstE {f : RSt → RSt} (hf : ∀ s : RSt, s.1 = [] → (f s).1 = []) {most : Nat} {s : RSt} (h : s.1 = []) : (lstR f most s).1 = [] := rNE hf (cntE11 h) _
structure LgM {α β : Type} (n : Nat) (C : α → List Value) (E : TypeId) (In : World → α → Prop) (F : α → Nat → Prop) (pu : α → β) (V : RSt → β) (R : RSt → RSt) (w : World) (p : Nat) (ob : Option Nat) (s1 : RSt) (B k : Nat) (vv : Value) (xs : List α) (wr : World) : Prop where
  row : wr.ownsRow B E n vv xs.length (xs.flatMap C)
  len : xs.length = k
  eq : xs.map pu = rL V R k s1
  el : ∀ x ∈ xs, In wr x ∧ ∀ j, F x j → B ≤ j ∧ j < wr.heap.size ∧ vv.ownBlock ≠ some j
  rd : RO wr p ob (rN R k s1)
  only : Only p w wr
  B0 : w.heap.size ≤ B
  B1 : B ≤ wr.heap.size
  pB : p < B
  ob : s1.1 ≠ [] → ∀ j, ob = some j → j < B
def LgR {α β : Type} (n : Nat) (C : α → List Value) (E : TypeId) (In : World → α → Prop) (F : α → Nat → Prop) (pu : α → β) (V : RSt → β) (R : RSt → RSt) (w : World) (p : Nat) (ob : Option Nat) (s1 : RSt) (B k : Nat) (vv : Value) (wr : World) : Prop := ∃ xs, LgM n C E In F pu V R w p ob s1 B k vv xs wr
/-- a list read: all of it is new from block N on -/
structure LgO {α : Type} (n : Nat) (C : α → List Value) (In : World → α → Prop) (F : α → Nat → Prop) (w : World) (N : Nat) (vv : Value) (xs : List α) : Prop where
  rows : RowsIn n C w vv xs
  own : ∀ j, vv.ownBlock = some j → N ≤ j ∧ j < w.heap.size
  el : ∀ x ∈ xs, In w x ∧ ∀ j, F x j → N ≤ j ∧ j < w.heap.size
section
variable {α β : Type} {n : Nat} {C : α → List Value} {E : TypeId} {In : World → α → Prop} {F : α → Nat → Prop} {pu : α → β} {V : RSt → β} {R : RSt → RSt}
theorem LgO.only {w w' : World} {N p : Nat} {vv : Value} {xs : List α} (hk : ∀ w w' x, In w x → w.heap.size ≤ w'.heap.size → (∀ k, F x k → w'.heap[k]? = w.heap[k]?) → In w' x) (h : LgO n C In F w N vv xs) (ho : Only p w w') (hp : p < N) : LgO n C In F w' N vv xs :=
  ⟨h.rows.keep ho.size fun k e => by have := h.own k e; exact ho.block k this.2 (by omega), fun j e => ⟨(h.own j e).1, Nat.lt_of_lt_of_le (h.own j e).2 ho.size⟩, fun x hx => ⟨hk w w' x (h.el x hx).1 ho.size fun k e => by have := (h.el x hx).2 k e; exact ho.block k this.2 (by omega), fun j e => ⟨((h.el x hx).2 j e).1, Nat.lt_of_lt_of_le ((h.el x hx).2 j e).2 ho.size⟩⟩⟩
theorem LgO.below {w w' : World} {N : Nat} {vv : Value} {xs : List α} (hk : ∀ w w' x, In w x → w.heap.size ≤ w'.heap.size → (∀ k, F x k → w'.heap[k]? = w.heap[k]?) → In w' x) (h : LgO n C In F w N vv xs) (ho : Below w.heap.size w w') : LgO n C In F w' N vv xs :=
  ⟨h.rows.keep ho.size fun k e => ho.block k (h.own k e).2, fun j e => ⟨(h.own j e).1, Nat.lt_of_lt_of_le (h.own j e).2 ho.size⟩, fun x hx => ⟨hk w w' x (h.el x hx).1 ho.size fun k e => ho.block k ((h.el x hx).2 k e).2, fun j e => ⟨((h.el x hx).2 j e).1, Nat.lt_of_lt_of_le ((h.el x hx).2 j e).2 ho.size⟩⟩⟩
theorem LgO.mono {w : World} {N M : Nat} {vv : Value} {xs : List α} (h : LgO n C In F w N vv xs) (hm : M ≤ N) : LgO n C In F w M vv xs :=
  ⟨h.rows, fun j e => ⟨Nat.le_trans hm (h.own j e).1, (h.own j e).2⟩, fun x hx => ⟨(h.el x hx).1, fun j e => ⟨Nat.le_trans hm ((h.el x hx).2 j e).1, ((h.el x hx).2 j e).2⟩⟩⟩
theorem LgM.new {w : World} {p : Nat} {ob : Option Nat} {s1 : RSt} {B k : Nat} {vv : Value} {xs : List α} {wr : World} (m : LgM n C E In F pu V R w p ob s1 B k vv xs wr) {j : Nat} (h : vv.ownBlock = some j) : B ≤ j ∧ j < wr.heap.size := m.row.lt j h
theorem LgM.start {w w1 : World} {p : Nat} {ob : Option Nat} {s1 : RSt} (hr : RO w1 p ob s1) (ho : Only p w w1) (hp : p < w.heap.size) : LgR n C E In F pu V R w p ob s1 w1.heap.size 0 (.slice none 0 0) w1 :=
  ⟨[], World.ownsRow_nil _ _ _ _, rfl, rfl, (fun x hx => by cases hx), hr, ho, ho.size, Nat.le_refl _, Nat.lt_of_lt_of_le hp ho.size, hr.own11⟩
theorem LgM.row3 {w : World} {p : Nat} {ob : Option Nat} {s1 : RSt} {B k : Nat} {vv : Value} {xs : List α} {wr w2 w3 : World} (m : LgM n C E In F pu V R w p ob s1 B k vv xs wr) (ho : Only p wr w2) (hb : Below w2.heap.size w2 w3) : w3.ownsRow B E n vv xs.length (xs.flatMap C) := by
  refine own_stay11 m.row fun j hj => ?_
  have := m.new hj
  have := m.pB
  rw [hb.block j (Nat.lt_of_lt_of_le (m.new hj).2 ho.size), ho.block j (m.new hj).2 (by omega)]
theorem LgM.next {w : World} {p : Nat} {ob : Option Nat} {s1 : RSt} {B k : Nat} {vv v4 : Value} {xs : List α} {x : α} {wr w2 w3 w4 : World} (hk : ∀ w w' x, In w x → w.heap.size ≤ w'.heap.size → (∀ k, F x k → w'.heap[k]? = w.heap[k]?) → In w' x) (hE : ∀ s : RSt, s.1 = [] → (R s).1 = [])
    (m : LgM n C E In F pu V R w p ob s1 B k vv xs wr) (ho : Only p wr w2) (hb : Below w2.heap.size w2 w3)
    (ho4 : w4.ownsRow B E n v4 (xs ++ [x]).length ((xs ++ [x]).flatMap C)) (hg4 : w3.grownBy w4 vv.ownBlock) (hw4 : v4.ownBlock = vv.ownBlock ∨ v4.ownBlock = some w3.heap.size)
    (hi : In w2 x) (hnw : ∀ j, F x j → wr.heap.size ≤ j ∧ j < w2.heap.size) (hp : pu x = V (rN R k s1)) (hr : RO w2 p ob (R (rN R k s1))) : LgR n C E In F pu V R w p ob s1 B (k + 1) v4 w4 := by
  have hpB := m.pB
  have hB1 := m.B1
  have hs1 := ho.size
  have hs2 := hb.size
  have hs3 := hg4.size
  have ho3 : Only p wr w3 := ho.trans (Only.of_below hb)
  have hst : ∀ j, j < w3.heap.size → vv.ownBlock ≠ some j → w4.heap[j]? = w3.heap[j]? := fun j hj hne => hg4.block j hj (fun e => hne e.symm)
  have hv4 : ∀ j, v4.ownBlock = some j → vv.ownBlock = some j ∨ j = w3.heap.size := fun j hj => by
    rcases hw4 with h | h
    · exact .inl (h ▸ hj)
    · rw [h] at hj; cases hj; exact .inr rfl
  refine ⟨xs ++ [x], ho4, by rw [List.length_append, m.len]; rfl, by rw [List.map_append, m.eq, rL, ← hp]; rfl, ?_, ?_, ?_, m.B0, by omega, hpB, m.ob⟩
  · intro t ht
    rcases List.mem_append.1 ht with ht | ht
    · obtain ⟨h1, h2⟩ := m.el t ht
      refine ⟨hk wr w4 t h1 (by omega) fun j hj => ?_, fun j hj => ⟨(h2 j hj).1, by have := (h2 j hj).2.1; omega, fun e => ?_⟩⟩
      · have h3 := h2 j hj
        rw [hst j (by omega) h3.2.2, ho3.block j h3.2.1 (by omega)]
      · rcases hv4 j e with h | h
        · exact (h2 j hj).2.2 h
        · have := (h2 j hj).2.1; omega
    · rw [List.mem_singleton.1 ht]
      have hne : ∀ j, F x j → vv.ownBlock ≠ some j := fun j hj e => by have := (m.new e).2; have := (hnw j hj).1; omega
      refine ⟨hk w2 w4 x hi (by omega) fun j hj => ?_, fun j hj => ?_⟩
      · have h5 := hnw j hj
        rw [hst j (by omega) (hne j hj), hb.block j h5.2]
      · have h5 := hnw j hj
        exact ⟨by omega, by omega, fun e => by
          rcases hv4 j e with h | h
          · exact hne j hj h
          · omega⟩
  · show RO w4 p ob (rN R (k + 1) s1)
    obtain ⟨y, hy, rfl⟩ := hr.below11 hb
    refine ⟨y, hy.keep (hst p (by omega) fun e => by have := (m.new e).1; omega) fun hn j hj => hst j (hy.own_lt hn j hj) fun e => ?_, rfl⟩
    have h7 := m.ob (fun e0 => hn (rNE hE e0 (k + 1))) j hj
    have := (m.new e).1
    omega
  · have hw0 : Only p w w3 := m.only.trans ho3
    exact ⟨hg4.os.trans hw0.os, hg4.tape.trans hw0.tape, hg4.output.trans hw0.output, Nat.le_trans hw0.size hg4.size, fun j hj hjp => (hst j (Nat.lt_of_lt_of_le hj hw0.size) fun e => by have := (m.new e).1; have := m.B0; omega).trans (hw0.block j hj hjp)⟩
theorem LgM.fin {w : World} {p : Nat} {ob : Option Nat} {s1 : RSt} {B k : Nat} {vv : Value} {xs : List α} {wr : World} (hC : ∀ t, (C t).length = n) (hk : k ≤ maxLen) (m : LgM n C E In F pu V R w p ob s1 B k vv xs wr) : LgO n C In F wr w.heap.size vv xs :=
  ⟨rows_of_own hC m.row (by rw [m.len]; exact hk), fun j e => ⟨Nat.le_trans m.B0 (m.new e).1, (m.new e).2⟩, fun x hx => ⟨(m.el x hx).1, fun j e => ⟨Nat.le_trans m.B0 ((m.el x hx).2 j e).1, ((m.el x hx).2 j e).2.1⟩⟩⟩
end
end Go.Proofs.YtejglhlodfhgkaaGreatDoor
