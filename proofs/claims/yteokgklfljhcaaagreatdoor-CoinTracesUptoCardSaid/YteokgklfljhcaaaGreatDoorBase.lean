/- Rows of numbers and slices of bytes in memory: plain facts; append and slicing of bytes. -/
import Derived.Test.YteokgklfljhcaaaGreatDoorRows
import Derived.WalkKit
import Derived.WalkSpells
import Derived.WalkLawsBesides
import Derived.Lib.Hide
import Derived.StillTailTactics
import Derived.Deep.QuietTactic
import Derived.BigQuiet
import Derived.Deep.MidRow
import Derived.Laws.CopyOwn
import Derived.Deep.RegionHeld3
import Derived.Maps.AppendAt
import Derived.Laws.BytesArg
import Derived.Laws.Bits64b
import Derived.ChangeKeysEq
import Derived.Lib.SlBytesConst
import Derived.Deep.WholeRow
import Derived.Lib.SliceRun
import Derived.Deep.Cut
import Derived.Deep.CutRange
import Derived.Deep.RegionWith
import Derived.Deep.RegionLaw
import Derived.OwnWalk
namespace Go.Proofs.YteokgklfljhcaaaGreatDoor
open Go.RowKit
def upd (f : Nat → Int) (i : Nat) (v : Int) : Nat → Int := fun j => if j = i then v else f j
def rowOf (k : IntKind) (n : Nat) (f : Nat → Int) : Array Value := ((List.range n).map fun i => Value.int k (f i)).toArray
theorem rowOf_size (k : IntKind) (n : Nat) (f : Nat → Int) : (rowOf k n f).size = n := by simp [rowOf]
theorem rowOf_get (k : IntKind) (n : Nat) (f : Nat → Int) (i : Nat) (h : i < n) : (rowOf k n f)[i]? = some (.int k (f i)) := by simp [rowOf, h]
theorem rowOf_congr (k : IntKind) (n : Nat) (f g : Nat → Int) (h : ∀ i, i < n → f i = g i) : rowOf k n f = rowOf k n g := by
  unfold rowOf
  congr 1
  apply List.map_congr_left
  intro i hi
  rw [h i (by simpa using hi)]
theorem rowOf_set (k : IntKind) (n : Nat) (f : Nat → Int) (i : Nat) (v : Int) : (rowOf k n f).setIfInBounds i (.int k v) = rowOf k n (upd f i v) := by
  apply Array.ext_getElem?
  intro j
  simp only [Array.getElem?_setIfInBounds, rowOf_size]
  by_cases hj : j < n
  · rw [rowOf_get k n _ j hj, rowOf_get k n _ j hj]
    by_cases e : i = j
    · subst e; simp [hj, upd]
    · have e' : ¬ j = i := fun x => e x.symm
      simp [e, upd, e']
  · have h1 : (rowOf k n f)[j]? = none := by simp [rowOf_size]; omega
    have h2 : (rowOf k n (upd f i v))[j]? = none := by simp [rowOf_size]; omega
    rw [h1, h2]
    by_cases e : i = j
    · subst e; simp [hj]
    · simp [e]
/-- block g of w is a row of n numbers, not frozen -/
def RowAt (w : World) (g : Nat) (k : IntKind) (n : Nat) (t : TypeId) (f : Nat → Int) : Prop := w.heap[g]? = some (.cells (rowOf k n f) t (0, 0))
theorem RowAt.cell {w : World} {g n : Nat} {k : IntKind} {t : TypeId} {f : Nat → Int} (h : RowAt w g k n t f) (i : Nat) (hi : i < n) : w.cell? ⟨g, i, none⟩ = some (.int k (f i)) := by
  rw [cell_of_row w g i _ t _ h, rowOf_get k n f i hi]
theorem RowAt.free {w : World} {g n : Nat} {k : IntKind} {t : TypeId} {f : Nat → Int} (h : RowAt w g k n t f) (i : Nat) : w.frozen? ⟨g, i, none⟩ = false := frozen_of_row w g i _ t h
theorem RowAt.set {w : World} {g n : Nat} {k : IntKind} {t : TypeId} {f : Nat → Int} (h : RowAt w g k n t f) (i : Nat) (v : Int) : RowAt (w.setCell ⟨g, i, none⟩ (.int k v)) g k n t (upd f i v) := by
  unfold RowAt
  rw [heap_setCell_same w g i _ t _ h, rowOf_set]
theorem RowAt.other {w : World} {g n : Nat} {k : IntKind} {t : TypeId} {f : Nat → Int} (h : RowAt w g k n t f) (a : Addr) (v : Value) (hne : g ≠ a.block) : RowAt (w.setCell a v) g k n t f := by
  unfold RowAt
  rw [heap_setCell_other w a g v hne]; exact h
theorem RowAt.alloc {w : World} {g n : Nat} {k : IntKind} {t : TypeId} {f : Nat → Int} (h : RowAt w g k n t f) (o : Obj) : RowAt (w.alloc o) g k n t f := by
  unfold RowAt at h ⊢
  have hlt : g < w.heap.size := (Array.getElem?_eq_some_iff.1 h).1
  exact (Below.heap_alloc w o g hlt).trans h
theorem RowAt.drew {w : World} {g n : Nat} {k : IntKind} {t : TypeId} {f : Nat → Int} (h : RowAt w g k n t f) : RowAt w.drew g k n t f := h
theorem RowAt.new (w : World) (k : IntKind) (n : Nat) (t : TypeId) (f : Nat → Int) : RowAt (w.alloc (.cells (rowOf k n f) t)) w.heap.size k n t f := heap_alloc_new w _
theorem RowAt.lt {w : World} {g n : Nat} {k : IntKind} {t : TypeId} {f : Nat → Int} (h : RowAt w g k n t f) : g < w.heap.size := (Array.getElem?_eq_some_iff.1 h).1
theorem RowAt.below {w w' : World} {B g n : Nat} {k : IntKind} {t : TypeId} {f : Nat → Int} (h : RowAt w g k n t f) (hb : Below B w w') (hg : g < B) : RowAt w' g k n t f := (hb.block g hg).trans h
theorem rowOf_one (k : IntKind) (n : Nat) (f : Nat → Int) : (rowOf k n f).all (·.oneCell') = true := by
  rw [Array.all_eq_true_iff_forall_mem]
  intro v hv
  simp only [rowOf, List.mem_toArray, List.mem_map] at hv
  obtain ⟨i, _, rfl⟩ := hv
  rfl
def byteVals (ys : List Int) : List Value := ys.map (Value.int .u8)
theorem byteVals_length (ys : List Int) : (byteVals ys).length = ys.length := by simp [byteVals]
theorem byteVals_one (ys : List Int) : ∀ v ∈ byteVals ys, v.oneCell' = true := by
  intro v hv
  simp only [byteVals, List.mem_map] at hv
  obtain ⟨i, _, rfl⟩ := hv
  rfl
/-- of the blocks that there are block g alone may turn; new ones may come -/
structure Only (g : Nat) (w w' : World) : Prop where
  os : w'.os = w.os
  tape : w'.tape = w.tape
  output : w'.output = w.output
  size : w.heap.size ≤ w'.heap.size
  block : ∀ k, k < w.heap.size → k ≠ g → w'.heap[k]? = w.heap[k]?
theorem Only.refl (g : Nat) (w : World) : Only g w w := ⟨rfl, rfl, rfl, Nat.le_refl _, fun _ _ _ => rfl⟩
theorem Only.trans {g : Nat} {a b c : World} (h : Only g a b) (k : Only g b c) : Only g a c :=
  ⟨k.os.trans h.os, k.tape.trans h.tape, k.output.trans h.output, Nat.le_trans h.size k.size, fun i hi hg => (k.block i (Nat.lt_of_lt_of_le hi h.size) hg).trans (h.block i hi hg)⟩
theorem Only.of_below {g : Nat} {w w' : World} (h : Below w.heap.size w w') : Only g w w' := ⟨h.os, h.tape, h.output, h.size, fun k hk _ => h.block k hk⟩
theorem Only.setCell (w : World) (p : Addr) (v : Value) : Only p.block w (w.setCell p v) := ⟨rfl, rfl, rfl, by simp [World.setCell], fun k _ hg => Below.heap_setCell _ _ _ _ hg⟩
theorem Only.setRow (w : World) (g : Nat) (cs : Array Value) : Only g w (w.setRow g cs) := ⟨rfl, rfl, rfl, by simp [World.setRow], fun k _ hg => setRow_other w g k cs hg⟩
theorem Only.drew (g : Nat) (w : World) : Only g w w.drew := ⟨rfl, rfl, rfl, Nat.le_refl _, fun _ _ _ => rfl⟩
theorem Only.cell {g : Nat} {w w' : World} (h : Only g w w') {p : Addr} {v : Value} (hv : w.cell? p = some v) (hg : p.block ≠ g) : w'.cell? p = some v :=
  (World.cell?_of_block (w := w) (h.block p.block (World.block_lt_of_cell? w _ hv) hg)).trans hv
theorem Only.below {g B : Nat} {w w' : World} (h : Only g w w') (hB : B ≤ g) (hs : B ≤ w.heap.size) : Below B w w' := ⟨h.os, h.tape, h.output, h.size, fun k hk => h.block k (by omega) (by omega)⟩
/-- v is a slice of the bytes xs -/
def BytesIn (w : World) (v : Value) (xs : List Int) : Prop :=
  ∃ a cap, v = .slice a xs.length cap ∧ xs.length ≤ cap ∧ xs.length ≤ maxLen ∧ (xs = [] ∨ ∃ ab ao, a = some ⟨ab, ao, none⟩ ∧ ∀ i x, xs[i]? = some x → w.cell? ⟨ab, ao + i, none⟩ = some (.int .u8 x))
/-- where a cut at p begins -/
def cutA (a : Option Addr) (cap p : Nat) : Option Addr := if cap = p then a else a.map (·.add p)
theorem sliceBlh (a : Option Addr) (n cap p q : Nat) (hp : p ≤ q) (hq : q ≤ cap) (w : World) : (Instr.slice 39 (.slice a n cap) (some (.int .i64 (p : Int))) (some (.int .i64 (q : Int))) none).run Tryz.prog w = .ok (.slice (cutA a cap p) (q - p) (cap - p)) w := by
  have he : Tryz.prog.elem 39 = 5 := by kernel_rfl
  have hs : (sizeOf 5).run Tryz.prog w = .ok 1 w := by kernel_rfl
  rw [run_slice_lh w 39 a n cap (by rw [he]; exact Tryz.underlying39) .i64 .i64 (p : Int) (q : Int) (by omega) (by omega) (by omega), he, hs]
  simp [Result.andThen_ok, sliced, cutA]
theorem sliceBlo (a : Option Addr) (n cap p : Nat) (hp : p ≤ n) (w : World) : (Instr.slice 39 (.slice a n cap) (some (.int .i64 (p : Int))) none none).run Tryz.prog w = .ok (.slice (cutA a cap p) (n - p) (cap - p)) w := by
  have he : Tryz.prog.elem 39 = 5 := by kernel_rfl
  have hs : (sizeOf 5).run Tryz.prog w = .ok 1 w := by kernel_rfl
  rw [run_slice_l w 39 a n cap (by rw [he]; exact Tryz.underlying39) .i64 (p : Int) (by omega) (by omega), he, hs]
  simp [Result.andThen_ok, sliced, cutA]
theorem sliceBhi (a : Option Addr) (n cap q : Nat) (hq : q ≤ cap) (w : World) : (Instr.slice 39 (.slice a n cap) none (some (.int .i64 (q : Int))) none).run Tryz.prog w = .ok (.slice (cutA a cap 0) q cap) w := by
  have he : Tryz.prog.elem 39 = 5 := by kernel_rfl
  have hs : (sizeOf 5).run Tryz.prog w = .ok 1 w := by kernel_rfl
  rw [run_slice_h w 39 a n cap (by rw [he]; exact Tryz.underlying39) .i64 (q : Int) (by omega) (by omega), he, hs]
  simp [Result.andThen_ok, sliced, cutA]
theorem BytesIn.cut {w : World} {a : Option Addr} {n cap : Nat} {xs : List Int} (h : BytesIn w (.slice a n cap) xs) (p q : Nat) (hp : p ≤ q) (hq : q ≤ n) :
    BytesIn w (.slice (cutA a cap p) (q - p) (cap - p)) ((xs.take q).drop p) := by
  obtain ⟨a', cap', e, hc, hm, hx⟩ := h
  injection e with e1 e2 e3
  subst e1 e2 e3
  have hl : ((xs.take q).drop p).length = q - p := by rw [List.length_drop, List.length_take]; omega
  refine ⟨cutA a cap p, cap - p, by rw [hl], by rw [hl]; omega, by rw [hl]; omega, ?_⟩
  by_cases he : (xs.take q).drop p = []
  · exact .inl he
  · right
    have hpq : p < q := by
      rcases Nat.lt_or_ge p q with h | h
      · exact h
      · exact absurd (List.eq_nil_of_length_eq_zero (by rw [hl]; omega)) he
    rcases hx with hx | ⟨ab, ao, rfl, hx⟩
    · subst hx; simp at hq; omega
    · refine ⟨ab, ao + p, ?_, fun i x hi => ?_⟩
      · unfold cutA
        rw [if_neg (by omega)]
        show some (Addr.add ⟨ab, ao, none⟩ p) = _
        rw [Addr.add_mid]
      · rw [List.getElem?_drop, List.getElem?_take] at hi
        split at hi
        · rw [Nat.add_assoc]; exact hx _ _ hi
        · cases hi
theorem BytesIn.cut0 {w : World} {a : Option Addr} {n cap : Nat} {xs : List Int} (h : BytesIn w (.slice a n cap) xs) (q : Nat) (hq : q ≤ n) : BytesIn w (.slice (cutA a cap 0) q cap) ((xs.take q).drop 0) :=
  h.cut 0 q (Nat.zero_le _) hq
theorem BytesIn.below {w w' : World} {v : Value} {xs : List Int} (h : BytesIn w v xs) (hb : Below w.heap.size w w') : BytesIn w' v xs := by
  obtain ⟨a, cap, rfl, hc, hm, hx⟩ := h
  refine ⟨a, cap, rfl, hc, hm, ?_⟩
  rcases hx with hx | ⟨ab, ao, rfl, hx⟩
  · exact .inl hx
  · exact .inr ⟨ab, ao, rfl, fun i y hi => (hb.cell (p := ⟨ab, ao + i, none⟩) (World.block_lt_of_cell? w _ (hx i y hi))).trans (hx i y hi)⟩
theorem BytesIn.le {w : World} {a : Option Addr} {n cap : Nat} {xs : List Int} (h : BytesIn w (.slice a n cap) xs) : n ≤ cap := by
  obtain ⟨a', cap', e, hc, hm, hx⟩ := h
  injection e with e1 e2 e3
  omega
theorem below_alloc (w : World) (o : Obj) : Below w.heap.size w (w.alloc o) := (Below.refl _ _).alloc (Nat.le_refl _) _
theorem infoU8 : (Tryz.prog.info? 5).map (fun i => (i.zero, i.size, i.bytes)) = some (some (.int .u8 0), 1, 1) := by kernel_rfl
theorem byteVals_append (xs ys : List Int) : byteVals (xs ++ ys) = byteVals xs ++ byteVals ys := by simp [byteVals]
def bytesOk (xs : List Int) : Prop := ∀ x ∈ xs, 0 ≤ x ∧ x < 256
end Go.Proofs.YteokgklfljhcaaaGreatDoor
