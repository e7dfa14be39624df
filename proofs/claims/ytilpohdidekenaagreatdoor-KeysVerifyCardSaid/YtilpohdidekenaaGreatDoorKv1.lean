/- Part 1 of the proof. -/
import Derived.Test.YtilpohdidekenaaGreatDoorKl17
import Derived.Test.YtilpohdidekenaaGreatDoorKl16
import Derived.Test.YtilpohdidekenaaGreatDoorKl10
namespace Go.Proofs.YtilpohdidekenaaGreatDoor
set_option linter.unusedVariables false
set_option linter.unusedSimpArgs false
open Go.RowKit
set_option maxRecDepth 100000
def dgt (xs : List Int) (i : Nat) : Nat := (xs.getD i 0).toNat % 128
/-- what the first i groups add up to -/
def accN (xs : List Int) : Nat → Nat
  | 0 => 0
  | i + 1 => accN xs i + dgt xs i * 128 ^ i
/-- what m groups from place j on add up to, the first the least -/
def hor (xs : List Int) : Nat → Nat → Nat
  | 0, _ => 0
  | m + 1, j => dgt xs j + 128 * hor xs m (j + 1)
theorem dgt_lt (xs : List Int) (i : Nat) : dgt xs i < 128 := Nat.mod_lt _ (by decide)
theorem accN_hor (xs : List Int) : ∀ m j, accN xs (j + m) = accN xs j + 128 ^ j * hor xs m j
  | 0, j => by simp [hor]
  | m + 1, j => by
    rw [show j + (m + 1) = (j + 1) + m by omega, accN_hor xs m (j + 1)]
    simp only [accN, hor, Nat.pow_succ, Nat.mul_add]
    rw [Nat.mul_comm (dgt xs j), Nat.mul_assoc, Nat.add_assoc]
theorem accN_lt (xs : List Int) : ∀ i, accN xs i < 128 ^ i
  | 0 => by simp [accN]
  | i + 1 => by
    have h1 := accN_lt xs i
    have h2 : dgt xs i * 128 ^ i ≤ 127 * 128 ^ i := Nat.mul_le_mul_right _ (by have := dgt_lt xs i; omega)
    simp only [accN, Nat.pow_succ]
    omega
theorem accF_accN (xs : List Int) : ∀ i, i ≤ 9 → accF xs i = accN xs i
  | 0, _ => rfl
  | i + 1, h => by
    have hp : (128 : Nat) ^ i ≤ 128 ^ 8 := Nat.pow_le_pow_right (by decide) (by omega)
    have h8 : (128 : Nat) ^ 8 = 72057594037927936 := by decide
    have h2 : dgt xs i * 128 ^ i ≤ 127 * 128 ^ i := Nat.mul_le_mul_right _ (by have := dgt_lt xs i; omega)
    show accF xs i + (dgt xs i * 128 ^ i) % 18446744073709551616 = accN xs i + dgt xs i * 128 ^ i
    rw [accF_accN xs i (by omega), Nat.mod_eq_of_lt (by omega)]
/-- a number of at most ten groups, the tenth of which is 0 or 1 -/
theorem acc_ok (xs : List Int) (i : Nat) (hi : i ≤ 9) (h : i = 9 → dgt xs i ≤ 1) : accF xs (i + 1) = accN xs (i + 1) ∧ accN xs (i + 1) < 18446744073709551616 := by
  have hl := accN_lt xs (i + 1)
  rcases Nat.lt_or_ge i 9 with h9 | h9
  · have hp : (128 : Nat) ^ (i + 1) ≤ 128 ^ 9 := Nat.pow_le_pow_right (by decide) (by omega)
    have e9 : (128 : Nat) ^ 9 = 9223372036854775808 := by decide
    exact ⟨accF_accN xs (i + 1) (by omega), by omega⟩
  · obtain rfl : i = 9 := by omega
    have h1 := h rfl
    have hn := accN_lt xs 9
    have e9 : (128 : Nat) ^ 9 = 9223372036854775808 := by decide
    have hd : dgt xs 9 * 128 ^ 9 ≤ 1 * 128 ^ 9 := Nat.mul_le_mul_right _ h1
    have e : accN xs (9 + 1) = accN xs 9 + dgt xs 9 * 128 ^ 9 := rfl
    refine ⟨?_, by omega⟩
    show accF xs 9 + (dgt xs 9 * 128 ^ 9) % 18446744073709551616 = accN xs (9 + 1)
    rw [accF_accN xs 9 (by omega), Nat.mod_eq_of_lt (by omega), e]
theorem hor_le (xs : List Int) (m j : Nat) : hor xs m j ≤ accN xs (j + m) := by
  rw [accN_hor]
  have : 1 ≤ (128 : Nat) ^ j := Nat.one_le_pow _ _ (by decide)
  have := Nat.mul_le_mul_right (hor xs m j) this
  omega
theorem hor_all (xs : List Int) (m : Nat) : hor xs m 0 = accN xs m := by
  have := accN_hor xs m 0
  simp [accN] at this
  exact this.symm
/-- an error's number once more: the first one stays -/
def firstE : Option Nat → Nat → Option Nat
  | none, x => some x
  | some y, _ => some y
end Go.Proofs.YtilpohdidekenaaGreatDoor
namespace Go.Proofs.YtilpohdidekenaaGreatDoor
set_option linter.unusedVariables false
set_option linter.unusedSimpArgs false
open Go.RowKit
set_option maxRecDepth 100000
def rdC (v : Value) (e : Int) : Array Value := #[v, .int .i64 e]
theorem rd_cells {w : World} {q : Nat} {v : Value} {e : Int} (h : w.heap[q]? = some (.cells (rdC v e) 78 (0, 0))) : w.cell? ⟨q, 0, none⟩ = some v ∧ w.cell? ⟨q, 1, none⟩ = some (.int .i64 e) ∧ ∀ i, w.frozen? ⟨q, i, none⟩ = false :=
  ⟨by rw [cell_of_row _ _ _ _ _ _ h]; rfl, by rw [cell_of_row _ _ _ _ _ _ h]; rfl, fun i => frozen_of_row _ _ _ _ _ h⟩
theorem rd_one (a : Option Addr) (n c : Nat) (e : Int) : (rdC (.slice a n c) e).all (·.oneCell') = true := by simp [rdC, Value.oneCell']
/-- two Readers: the argument's and the result's -/
structure R2M (w w' : World) (v : Value) (e : Int) : Prop where
  below : Below w.heap.size w w'
  arg : w'.heap[w.heap.size]? = some (.cells (rdC v e) 78 (0, 0))
  res : w'.heap[w.heap.size + 1]? = some (.cells (rdC (.slice none 0 0) 0) 78 (0, 0))
theorem r2M_start (w : World) (v : Value) (e : Int) : R2M w ((w.alloc (.cells (rdC v e) 78)).alloc (.cells (rdC (.slice none 0 0) 0) 78)) v e := by
  have h1 := heap_alloc_new w (.cells (rdC v e) 78)
  have hb := below_alloc (w.alloc (.cells (rdC v e) 78)) (.cells (rdC (.slice none 0 0) 0) 78)
  refine ⟨(below_alloc w _).trans (hb.mono (by simp)), (hb.block _ (by simp)).trans h1, ?_⟩
  have h2 := heap_alloc_new (w.alloc (.cells (rdC v e) 78)) (.cells (rdC (.slice none 0 0) 0) 78)
  rw [show (w.alloc (.cells (rdC v e) 78)).heap.size = w.heap.size + 1 by simp] at h2
  exact h2
theorem R2M.call {w w' w2 : World} {v : Value} {e : Int} (m : R2M w w' v e) (h : Below w'.heap.size w' w2) : R2M w w2 v e :=
  ⟨m.below.trans (h.mono m.below.size), (h.block _ (Array.getElem?_eq_some_iff.1 m.arg).1).trans m.arg, (h.block _ (Array.getElem?_eq_some_iff.1 m.res).1).trans m.res⟩
/-- the argument's error or its slice is written -/
theorem R2M.set {w w' : World} {v v' : Value} {e e' : Int} (m : R2M w w' v e) (i : Nat) (x : Value) (hx : (rdC v e).setIfInBounds i x = rdC v' e') : R2M w (w'.setCell ⟨w.heap.size, i, none⟩ x) v' e' := by
  have hO := Only.setCell w' ⟨w.heap.size, i, none⟩ x
  exact ⟨m.below.trans (hO.below (Nat.le_refl _) m.below.size), by rw [heap_setCell_same w' _ i _ _ _ m.arg, hx], (hO.block _ (Array.getElem?_eq_some_iff.1 m.res).1 (by show _ ≠ w.heap.size; omega)).trans m.res⟩
theorem rfail_any (a : Option Addr) (n c : Nat) (e x : Int) (w : World) : Calls Tryz.prog 61 #[.agg (rdC (.slice a n c) e), .int .i64 x] w fun r w' => r = .returned (.agg (rdC (.slice a n c) (if e = 0 then x else e))) ∧ Below w.heap.size w w' := by
  have M := Lib.hid (r2M_start w (.slice a n c) e)
  by_cases h0 : e = 0
  · rw [if_pos h0]
    have he : (e == 0) = true := by simpa using h0
    clear h0
    go_enter Tryz.func61, Tryz.ntmps61
    go_upto_region 1 with (fail)
    have e0 : (w.alloc (.cells (rdC (.slice a n c) e) 78)).alloc (.cells (rdC (.slice none 0 0) 0) 78) = (w.alloc (.cells (rdC (.slice a n c) e) 78)).alloc (.cells #[.slice none 0 0, .int .i64 0] 78) := rfl
    rw [← e0]; clear e0
    generalize (w.alloc (.cells (rdC (.slice a n c) e) 78)).alloc (.cells (rdC (.slice none 0 0) 0) 78) = w1 at *
    obtain ⟨c0, c1, cf⟩ := rd_cells M.out.arg
    have f1 := cf 1
    go_upto_region 3 with (fail)
    replace M := Lib.hid (M.out.set 1 (.int .i64 x) (v' := .slice a n c) (e' := x) rfl)
    clear c0 c1 cf f1
    generalize w1.setCell ⟨w.heap.size, 1, none⟩ (.int .i64 x) = w2 at *
    go_wp2_with (first
      | (refine wpList_load_row rfl 78 (.tmp 2) rfl w.heap.size rfl 78 _ (0, 0) _ M.out.arg Tryz.underlying78 rfl (by kernel_rfl) ?_)
      | (refine wpList_store_row rfl 78 (.tmp 4) (.tmp 10) rfl (w.heap.size + 1) _ rfl rfl 78 _ M.out.res (by kernel_rfl) (by rfl) (rd_one _ _ _ _) ?_))
    refine bodyPost_ret (results_cell_row rfl _ _ (w.heap.size + 1) 78 (rdC (.slice a n c) x) (0, 0) _ rfl (setRow_heap _ _ _ _ _ _ M.out.res) Tryz.underlying78 rfl (by kernel_rfl)) rfl ?_
    exact ⟨rfl, below_setRow M.out.below (by omega) _⟩
  · rw [if_neg h0]
    have he : (e == 0) = false := by simpa using h0
    clear h0
    go_enter Tryz.func61, Tryz.ntmps61
    go_upto_region 1 with (fail)
    have e0 : (w.alloc (.cells (rdC (.slice a n c) e) 78)).alloc (.cells (rdC (.slice none 0 0) 0) 78) = (w.alloc (.cells (rdC (.slice a n c) e) 78)).alloc (.cells #[.slice none 0 0, .int .i64 0] 78) := rfl
    rw [← e0]; clear e0
    generalize (w.alloc (.cells (rdC (.slice a n c) e) 78)).alloc (.cells (rdC (.slice none 0 0) 0) 78) = w1 at *
    obtain ⟨c0, c1, cf⟩ := rd_cells M.out.arg
    go_wp2_with (first
      | (refine wpList_load_row rfl 78 (.tmp 2) rfl w.heap.size rfl 78 _ (0, 0) _ M.out.arg Tryz.underlying78 rfl (by kernel_rfl) ?_)
      | (refine wpList_store_row rfl 78 (.tmp 4) (.tmp 10) rfl (w.heap.size + 1) _ rfl rfl 78 _ M.out.res (by kernel_rfl) (by rfl) (rd_one _ _ _ _) ?_))
    refine bodyPost_ret (results_cell_row rfl _ _ (w.heap.size + 1) 78 (rdC (.slice a n c) e) (0, 0) _ rfl (setRow_heap _ _ _ _ _ _ M.out.res) Tryz.underlying78 rfl (by kernel_rfl)) rfl ?_
    exact ⟨rfl, below_setRow M.out.below (by omega) _⟩
end Go.Proofs.YtilpohdidekenaaGreatDoor
