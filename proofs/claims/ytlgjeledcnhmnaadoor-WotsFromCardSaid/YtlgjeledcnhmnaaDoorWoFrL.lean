/- WotsFrom: what From answers in all cases, in one word; the law's memory. -/
import Derived.Test.YtlgjeledcnhmnaaDoorRWo5
import Derived.Test.YtlgjeledcnhmnaaDoorWoBk
import Derived.Test.YtlgjeledcnhmnaaDoorNum
namespace Go.Proofs.YtlgjeledcnhmnaaDoor
open Go.RowKit
set_option maxRecDepth 100000
def fromR (ss : List Int) (leaf : Int) (xs : List Int) : (Nat → Int) × Option Nat :=
  if 0 ≤ leaf ∧ leaf < 1024 ∧ 1 ≤ xs.length ∧ xs.length ≤ 32 then (if ss.length = 32 * (2 * xs.length + 3) then (fromF ss leaf xs, none) else (zF, some 2)) else (zF, some 1)
theorem wfrom_any (vs : Value) (ss : List Int) (leaf : Int) (v : Value) (xs : List Int) (w : World) (he : Env w) (hs : BytesIn w vs ss) (hx : BytesIn w v xs) (hb : bytesOk xs) :
    Calls Tryd.prog 21 #[vs, .int .i64 leaf, v] w fun e w' => e = .returned (.tuple #[.agg (rowOf .u8 32 (fromR ss leaf xs).1), errV (fromR ss leaf xs).2]) ∧ Below w.heap.size w w' := by
  unfold fromR
  by_cases h : 0 ≤ leaf ∧ leaf < 1024 ∧ 1 ≤ xs.length ∧ xs.length ≤ 32
  · rw [if_pos h]
    by_cases h2 : ss.length = 32 * (2 * xs.length + 3)
    · rw [if_pos h2]
      exact wfrom_ok vs ss leaf v xs w he ⟨h.1, h.2.1⟩ hs hx hb h.2.2 h2
    · rw [if_neg h2]
      obtain ⟨a, c, rfl, -⟩ := hx
      obtain ⟨a', c', rfl, -⟩ := hs
      exact wfrom_long a' ss.length c' leaf a xs.length c w ⟨h.1, h.2.1⟩ h.2.2 h2
  · rw [if_neg h]
    obtain ⟨a, c, rfl, -⟩ := hx
    exact wfrom_no vs leaf a xs.length c w h
theorem rfrom_any (vs : Value) (ss : List Int) (leaf : Int) (v : Value) (xs : List Int) (w : World) (hs : BytesIn w vs ss) (hx : BytesIn w v xs) (hb : bytesOk xs) :
    Calls Tryd.prog 22 #[vs, .int .i64 leaf, v] w fun e w' => e = .returned (.tuple #[.agg (rowOf .u8 32 (fromR ss leaf xs).1), .int .i64 (numE (fromR ss leaf xs).2)]) ∧ Below w.heap.size w w' := by
  unfold fromR
  by_cases h : 0 ≤ leaf ∧ leaf < 1024 ∧ 1 ≤ xs.length ∧ xs.length ≤ 32
  · rw [if_pos h]
    by_cases h2 : ss.length = 32 * (2 * xs.length + 3)
    · rw [if_pos h2]
      exact rfrom_ok vs ss leaf v xs w ⟨h.1, h.2.1⟩ hs hx hb h.2.2 h2
    · rw [if_neg h2]
      obtain ⟨a', c', rfl, -⟩ := hs
      exact rfrom_long a' ss.length c' leaf v xs w ⟨h.1, h.2.1⟩ hx hb h.2.2 h2
  · rw [if_neg h]
    obtain ⟨a, c, rfl, -⟩ := hx
    exact rfrom_no vs leaf a xs.length c w h
structure FrL (w w' : World) (F : Nat → Int) (leaf : Int) (v : Value) (xs : List Int) (vo : Value) (ys : List Int) (s0 s1 s2 : Int) : Prop where
  m : BackM w w' F leaf v xs vo ys
  hs : w'.heap[w.heap.size + 1]? = some (.cells #[.int .i64 s0, .int .i64 s1, .int .i64 s2] 47 (0, 0))
  et : ErrType w'
variable {w w' : World} {F : Nat → Int} {leaf s0 s1 s2 : Int} {v vo : Value} {xs ys : List Int}
theorem FrL.call {w2 : World} (m : FrL w w' F leaf v xs vo ys s0 s1 s2) (h : Below w'.heap.size w' w2) : FrL w w2 F leaf v xs vo ys s0 s1 s2 :=
  ⟨m.m.call h, (h.block _ (Array.getElem?_eq_some_iff.1 m.hs).1).trans m.hs, m.et.below h⟩
theorem FrL.st0 (m : FrL w w' F leaf v xs vo ys s0 s1 s2) : w'.cell? ⟨w.heap.size + 1, 0, none⟩ = some (.int .i64 s0) := by rw [cell_of_row _ _ _ _ _ _ m.hs]; rfl
theorem FrL.st1 (m : FrL w w' F leaf v xs vo ys s0 s1 s2) : w'.cell? ⟨w.heap.size + 1, 1, none⟩ = some (.int .i64 s1) := by rw [cell_of_row _ _ _ _ _ _ m.hs]; rfl
theorem FrL.st2 (m : FrL w w' F leaf v xs vo ys s0 s1 s2) : w'.cell? ⟨w.heap.size + 1, 2, none⟩ = some (.int .i64 s2) := by rw [cell_of_row _ _ _ _ _ _ m.hs]; rfl
theorem frl_start (he : Env w) (het : ErrType w) (hx : BytesIn w v xs) (hy : BytesIn w vo ys) :
    FrL w ((w.alloc (.cells (caseC F leaf v) 26)).alloc (.cells #[.int .i64 s0, .int .i64 s1, .int .i64 s2] 47)) F leaf v xs vo ys s0 s1 s2 := by
  have h1 := below_alloc w (.cells (caseC F leaf v) 26)
  have h2 := below_alloc (w.alloc (.cells (caseC F leaf v) 26)) (.cells #[.int .i64 s0, .int .i64 s1, .int .i64 s2] 47)
  refine ⟨(back_start he hx hy).call h2, ?_, (het.below h1).below h2⟩
  have h := heap_alloc_new (w.alloc (.cells (caseC F leaf v) 26)) (.cells #[.int .i64 s0, .int .i64 s1, .int .i64 s2] 47)
  rw [shSize_alloc] at h
  exact h
end Go.Proofs.YtlgjeledcnhmnaaDoor
