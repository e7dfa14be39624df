/- coin: Port, Into, From (written by gencnp.py). -/
import Derived.Test.YteokgklfljhcaaaGreatDoorCnF
import Derived.Test.YteokgklfljhcaaaGreatDoorRes
namespace Go.Proofs.YteokgklfljhcaaaGreatDoor
open Go.RowKit
set_option maxRecDepth 100000
set_option linter.unusedSimpArgs false
set_option linter.unusedVariables false
def joinP (p c : ByteArray) : ByteArray := p ++ { data := #[47] } ++ c
def okP (p c : ByteArray) : Bool := nameB p && nameB c
def portR (p c : ByteArray) : ByteArray := if okP p c then joinP p c else { data := #[] }
theorem name_size {s : ByteArray} (h : nameB s = true) : 1 ≤ s.size ∧ s.size ≤ 20 := by
  unfold nameB at h
  rw [Bool.and_eq_true, decide_eq_true_eq] at h
  exact h.1
theorem joinP_size (p c : ByteArray) : (joinP p c).size = p.size + 1 + c.size := by
  unfold joinP
  rw [ByteArray.size_append, ByteArray.size_append]
  rfl
theorem portR_size (p c : ByteArray) : (portR p c).size ≤ 41 := by
  unfold portR
  split
  · rename_i h
    unfold okP at h
    rw [Bool.and_eq_true] at h
    have h1 := name_size h.1
    have h2 := name_size h.2
    rw [joinP_size]; omega
  · exact Nat.zero_le _
theorem isEmpty14 (s : ByteArray) : s.toList.isEmpty = decide (s.size = 0) := by
  rw [ByteArray.toList_eq]
  rcases s with ⟨⟨l⟩⟩
  cases l <;> simp [ByteArray.size]
theorem portR_empty (p c : ByteArray) : (portR p c).toList.isEmpty = !okP p c := by
  rw [isEmpty14]
  unfold portR
  cases h : okP p c
  · rfl
  · rw [if_pos rfl, joinP_size, decide_eq_false (by omega)]; rfl
/-- what lies in memory: the trace's block q, the result's behind it -/
structure IoM (T : TypeId) (w : World) (q : Nat) (pv : Value) (b : ByteArray) (wr : World) : Prop where
  at_ : wr.heap[q]? = some (.cells (trC pv b) T (0, 0))
  res : wr.heap[q + 1]? = some (.cells (trC (.slice none 0 0) { data := #[] }) T (0, 0))
  below : Below w.heap.size w wr
  q0 : w.heap.size ≤ q
theorem hlt14 {w : World} {g : Nat} {o : Obj} (h : w.heap[g]? = some o) : g < w.heap.size := (Array.getElem?_eq_some_iff.1 h).1
section
variable {T : TypeId} {w : World} {q : Nat} {pv : Value} {b : ByteArray} {wr wr' : World}
theorem IoM.call (m : IoM T w q pv b wr) (hb : Below wr.heap.size wr wr') : IoM T w q pv b wr' := ⟨(hb.block _ (hlt14 m.at_)).trans m.at_, (hb.block _ (hlt14 m.res)).trans m.res, m.below.trans (hb.mono m.below.size), m.q0⟩
theorem IoM.grow (m : IoM T w q pv b wr) {own : Option Nat} (hg : wr.grownBy wr' own) (ho : ∀ k, own = some k → q + 1 < k) : IoM T w q pv b wr' :=
  ⟨(hg.block q (hlt14 m.at_) (fun e => by have := ho q e.symm; omega)).trans m.at_, (hg.block (q + 1) (hlt14 m.res) (fun e => by have := ho (q + 1) e.symm; omega)).trans m.res, m.below.trans ⟨hg.os, hg.tape, hg.output, hg.size, fun k hk => hg.block k (Nat.lt_of_lt_of_le hk m.below.size) (fun e => by have := ho k e.symm; have := m.q0; omega)⟩, m.q0⟩
theorem IoM.only (m : IoM T w q pv b wr) {g : Nat} (ho : Only g wr wr') (hg : q + 1 < g) : IoM T w q pv b wr' :=
  ⟨(ho.block q (hlt14 m.at_) (by omega)).trans m.at_, (ho.block (q + 1) (hlt14 m.res) (by omega)).trans m.res, m.below.trans (ho.below (by have := m.q0; omega) m.below.size), m.q0⟩
theorem IoM.c0 (m : IoM T w q pv b wr) : wr.cell? ⟨q, 0, none⟩ = some pv := cell_of_row _ _ _ _ _ _ m.at_
theorem IoM.c1 (m : IoM T w q pv b wr) : wr.cell? ⟨q, 1, none⟩ = some (.string b) := cell_of_row _ _ _ _ _ _ m.at_
end
theorem io_start {T : TypeId} {w w1 : World} {pv : Value} {b : ByteArray} (h : (w.alloc (.cells (trC pv b) T)).alloc (.cells (trC (.slice none 0 0) { data := #[] }) T) = w1) : IoM T w w.heap.size pv b w1 := by
  subst h
  have b1 := below_alloc w (.cells (trC pv b) T)
  have b2 := below_alloc (w.alloc (.cells (trC pv b) T)) (.cells (trC (.slice none 0 0) { data := #[] }) T)
  have h2 := heap_alloc_new (w.alloc (.cells (trC pv b) T)) (.cells (trC (.slice none 0 0) { data := #[] }) T)
  rw [show (w.alloc (.cells (trC pv b) T)).heap.size = w.heap.size + 1 from by simp] at h2
  exact ⟨(b2.block _ (by simp)).trans (heap_alloc_new _ _), h2, b1.trans (b2.mono (by simp)), Nat.le_refl _⟩
theorem SsIn.only {w w' : World} {v : Value} {l : List ByteArray} {g : Nat} (h : SsIn w v l) (ho : Only g w w') (hn : ∀ k, v.ownBlock = some k → k ≠ g) : SsIn w' v l := by
  obtain ⟨a, cap, rfl, h1, h2, h3⟩ := h
  refine ⟨a, cap, rfl, h1, h2, h3.imp id ?_⟩
  rintro ⟨ab, ao, rfl, hlt, hx⟩
  exact ⟨ab, ao, rfl, Nat.lt_of_lt_of_le hlt ho.size, fun i s hi => (World.cell?_of_block (ho.block ab hlt (hn ab rfl))).trans (hx i s hi)⟩
theorem own_one14 (w : World) (s : ByteArray) : (w.alloc (.cells #[.string s] 9)).ownsRow w.heap.size 9 1 (.slice (some ⟨w.heap.size, 0, none⟩) 1 1) [s].length (strV [s]) :=
  ⟨rfl, .inr ⟨w.heap.size, 1, #[.string s], rfl, Nat.le_refl _, heap_alloc_new _ _, Nat.le_refl _, by simp [maxLen], rfl, rfl⟩⟩
theorem own_sl14 {w : World} {B : Nat} {v : Value} {n : Nat} {xs : List Value} (h : w.ownsRow B 9 1 v n xs) : ∃ a m c, v = .slice a m c := by
  rcases h.2 with ⟨rfl, -⟩ | ⟨g, cap, cur, rfl, -⟩
  · exact ⟨_, _, _, rfl⟩
  · exact ⟨_, _, _, rfl⟩
theorem only_setRow14 (w : World) (q : Nat) (cs : Array Value) : Only q w (w.setRow q cs) := ⟨rfl, rfl, rfl, by simp [World.setRow], fun k hk hg => setRow_other _ _ _ _ hg⟩
theorem trC_one (a : Option Addr) (n c : Nat) (b : ByteArray) : (trC (.slice a n c) b).all (·.oneCell') = true := by simp [trC, Value.oneCell']
def intoE (t : List ByteArray) (b p c : ByteArray) : Option Nat := if okP p c then trE (portR p c :: t) b else some 40
def intoP (t : List ByteArray) (b p c : ByteArray) : List ByteArray := if intoE t b p c = none then portR p c :: t else []
def intoB (t : List ByteArray) (b p c : ByteArray) : ByteArray := if intoE t b p c = none then b else { data := #[] }
end Go.Proofs.YteokgklfljhcaaaGreatDoor
