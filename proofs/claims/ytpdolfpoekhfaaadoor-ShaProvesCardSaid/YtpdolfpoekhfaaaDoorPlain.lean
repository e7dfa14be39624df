/- Rows of numbers in memory: plain facts on one block that holds a row of integers. -/
import Derived.Test.YtpdolfpoekhfaaaDoorRows
import Derived.WalkKit
import Derived.WalkSpells
import Derived.WalkLawsBesides
import Derived.Lib.Hide
namespace Go.Proofs.YtpdolfpoekhfaaaDoor
open Go.RowKit
def upd (f : Nat → Int) (i : Nat) (v : Int) : Nat → Int := fun j => if j = i then v else f j
def rowOf (k : IntKind) (n : Nat) (f : Nat → Int) : Array Value := ((List.range n).map fun i => Value.int k (f i)).toArray
theorem rowOf_size (k : IntKind) (n : Nat) (f : Nat → Int) : (rowOf k n f).size = n := by simp [rowOf]
theorem rowOf_get (k : IntKind) (n : Nat) (f : Nat → Int) (i : Nat) (h : i < n) : (rowOf k n f)[i]? = some (.int k (f i)) := by simp [rowOf, h]
theorem rowOf_congr (k : IntKind) (n : Nat) (f g : Nat → Int) (h : ∀ i, i < n → f i = g i) : rowOf k n f = rowOf k n g := by
  unfold rowOf
  congr 1
  apply List.map_congr_left
  intro i hi
  rw [h i (by simpa using hi)]
theorem rowOf_set (k : IntKind) (n : Nat) (f : Nat → Int) (i : Nat) (v : Int) : (rowOf k n f).setIfInBounds i (.int k v) = rowOf k n (upd f i v) := by
  apply Array.ext_getElem?
  intro j
  simp only [Array.getElem?_setIfInBounds, rowOf_size]
  by_cases hj : j < n
  · rw [rowOf_get k n _ j hj, rowOf_get k n _ j hj]
    by_cases e : i = j
    · subst e; simp [hj, upd]
    · have e' : ¬ j = i := fun x => e x.symm
      simp [e, upd, e']
  · have h1 : (rowOf k n f)[j]? = none := by simp [rowOf_size]; omega
    have h2 : (rowOf k n (upd f i v))[j]? = none := by simp [rowOf_size]; omega
    rw [h1, h2]
    by_cases e : i = j
    · subst e; simp [hj]
    · simp [e]
/-- block g of w is a row of n numbers, not frozen -/
def RowAt (w : World) (g : Nat) (k : IntKind) (n : Nat) (t : TypeId) (f : Nat → Int) : Prop := w.heap[g]? = some (.cells (rowOf k n f) t (0, 0))
theorem RowAt.cell {w : World} {g n : Nat} {k : IntKind} {t : TypeId} {f : Nat → Int} (h : RowAt w g k n t f) (i : Nat) (hi : i < n) : w.cell? ⟨g, i, none⟩ = some (.int k (f i)) := by
  rw [cell_of_row w g i _ t _ h, rowOf_get k n f i hi]
theorem RowAt.free {w : World} {g n : Nat} {k : IntKind} {t : TypeId} {f : Nat → Int} (h : RowAt w g k n t f) (i : Nat) : w.frozen? ⟨g, i, none⟩ = false := frozen_of_row w g i _ t h
theorem RowAt.set {w : World} {g n : Nat} {k : IntKind} {t : TypeId} {f : Nat → Int} (h : RowAt w g k n t f) (i : Nat) (v : Int) : RowAt (w.setCell ⟨g, i, none⟩ (.int k v)) g k n t (upd f i v) := by
  unfold RowAt
  rw [heap_setCell_same w g i _ t _ h, rowOf_set]
theorem RowAt.other {w : World} {g n : Nat} {k : IntKind} {t : TypeId} {f : Nat → Int} (h : RowAt w g k n t f) (a : Addr) (v : Value) (hne : g ≠ a.block) : RowAt (w.setCell a v) g k n t f := by
  unfold RowAt
  rw [heap_setCell_other w a g v hne]; exact h
theorem RowAt.alloc {w : World} {g n : Nat} {k : IntKind} {t : TypeId} {f : Nat → Int} (h : RowAt w g k n t f) (o : Obj) : RowAt (w.alloc o) g k n t f := by
  unfold RowAt at h ⊢
  have hlt : g < w.heap.size := (Array.getElem?_eq_some_iff.1 h).1
  exact (Below.heap_alloc w o g hlt).trans h
theorem RowAt.drew {w : World} {g n : Nat} {k : IntKind} {t : TypeId} {f : Nat → Int} (h : RowAt w g k n t f) : RowAt w.drew g k n t f := h
theorem RowAt.new (w : World) (k : IntKind) (n : Nat) (t : TypeId) (f : Nat → Int) : RowAt (w.alloc (.cells (rowOf k n f) t)) w.heap.size k n t f := heap_alloc_new w _
theorem RowAt.lt {w : World} {g n : Nat} {k : IntKind} {t : TypeId} {f : Nat → Int} (h : RowAt w g k n t f) : g < w.heap.size := (Array.getElem?_eq_some_iff.1 h).1
theorem RowAt.below {w w' : World} {B g n : Nat} {k : IntKind} {t : TypeId} {f : Nat → Int} (h : RowAt w g k n t f) (hb : Below B w w') (hg : g < B) : RowAt w' g k n t f := (hb.block g hg).trans h
end Go.Proofs.YtpdolfpoekhfaaaDoor
