/- Part 16 of the proof. -/
import Derived.Test.YtejglhlodfhgkaaGreatDoorXv8
namespace Go.Proofs.YtejglhlodfhgkaaGreatDoor
set_option linter.unusedVariables false
set_option linter.unusedSimpArgs false
open Go.RowKit
set_option maxRecDepth 100000
set_option linter.unusedSimpArgs false
set_option linter.unusedVariables false
theorem shp_le (k : Int) : (shp k).1 ≤ 5 ∧ (shp k).2.1 ≤ 4 ∧ (shp k).2.2 ≤ 3 := by
  unfold shp
  split
  · rename_i h
    unfold kindB at h
    rw [Bool.and_eq_true, decide_eq_true_eq, decide_eq_true_eq] at h
    obtain ⟨j, hj⟩ : ∃ j, j = k.toNat := ⟨_, rfl⟩
    have hj2 : j ≤ 18 := by omega
    rw [← hj]
    have : ∀ i : Fin 19, (shpL.getD i.val (0, 0, 0)).1 ≤ 5 ∧ (shpL.getD i.val (0, 0, 0)).2.1 ≤ 4 ∧ (shpL.getD i.val (0, 0, 0)).2.2 ≤ 3 := by decide
    exact this ⟨j, by omega⟩
  · simp
theorem shp_pos {k : Int} (h : kindB k = true) : 1 ≤ (shp k).1 + (shp k).2.1 + (shp k).2.2 := by
  unfold shp
  rw [if_pos h]
  unfold kindB at h
  rw [Bool.and_eq_true, decide_eq_true_eq, decide_eq_true_eq] at h
  obtain ⟨j, hj⟩ : ∃ j, j = k.toNat := ⟨_, rfl⟩
  have hj1 : 1 ≤ j := by omega
  have hj2 : j ≤ 18 := by omega
  rw [← hj]
  have : ∀ i : Fin 19, 1 ≤ i.val → 1 ≤ (shpL.getD i.val (0, 0, 0)).1 + (shpL.getD i.val (0, 0, 0)).2.1 + (shpL.getD i.val (0, 0, 0)).2.2 := by decide
  exact this ⟨j, by omega⟩ hj1
theorem shp_zero {k : Int} (h : kindB k = false) : shp k = (0, 0, 0) := by unfold shp; rw [h]; rfl
theorem form_no {m : Pm} (h : kindB m.kind = false ∨ m.ts.length ≠ (shp m.kind).1 ∨ m.is.length ≠ (shp m.kind).2.1 ∨ m.ds.length ≠ (shp m.kind).2.2) : formM m = false := by
  unfold formM
  rcases h with h | h | h | h
  · rw [h]; rfl
  · rw [decide_eq_false h]; simp
  · rw [decide_eq_false h]; simp
  · rw [decide_eq_false h]; simp
theorem form_yes {m : Pm} (h : kindB m.kind = true) (h1 : m.ts.length = (shp m.kind).1) (h2 : m.is.length = (shp m.kind).2.1) (h3 : m.ds.length = (shp m.kind).2.2) : formM m = true := by
  unfold formM
  rw [h, decide_eq_true h1, decide_eq_true h2, decide_eq_true h3]; rfl
theorem chkL_len {l : List Pm} (h : l.length = 0 ∨ 8 < l.length) : chkL l = some 1 := by unfold chkL; rw [if_pos h]
theorem chkL_ms {l : List Pm} (h1 : 1 ≤ l.length) (h2 : l.length ≤ 8) : chkL l = chkMs l := by unfold chkL; rw [if_neg (by omega)]
end Go.Proofs.YtejglhlodfhgkaaGreatDoor
