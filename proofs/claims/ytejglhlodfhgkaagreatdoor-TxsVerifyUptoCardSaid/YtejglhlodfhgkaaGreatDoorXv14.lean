/- Part 14 of the proof. -/
import Derived.BigQuiet
import Derived.OwnWalk
import Derived.Test.YtejglhlodfhgkaaGreatDoorXv1
import Derived.Test.YtejglhlodfhgkaaGreatDoorXv9
import Derived.Test.YtejglhlodfhgkaaGreatDoorXv13
namespace Go.Proofs.YtejglhlodfhgkaaGreatDoor
set_option linter.unusedVariables false
set_option linter.unusedSimpArgs false
open Go.RowKit
set_option maxRecDepth 100000
set_option linter.unusedSimpArgs false
set_option linter.unusedVariables false
def shV (k : Int) : Value := .tuple #[.int .i64 ((shp k).1 : Int), .int .i64 ((shp k).2.1 : Int), .int .i64 ((shp k).2.2 : Int)]
set_option maxHeartbeats 4000000 in
theorem tshape_at (k : Nat) (r : Nat × Nat × Nat) (hk : 1 ≤ k ∧ k ≤ 18) (hr : shpL[k]? = some r) (w : World) (h : ShTab w) : Calls Tryz.prog 21 #[.int .i64 (k : Int)] w fun e w' => e = .returned (.tuple #[.int .i64 (r.1 : Int), .int .i64 (r.2.1 : Int), .int .i64 (r.2.2 : Int)]) ∧ Below w.heap.size w w' := by
  have HK := Lib.hid (fun w => tkind_any (k : Int) w)
  rw [show kindB (k : Int) = true from by unfold kindB; rw [decide_eq_true (by omega), decide_eq_true (by omega)]; rfl] at HK
  obtain ⟨a, b, c⟩ := r
  have HC := Lib.hid (show w.rangeAt 0 (k * 3) (#[.int .i64 (a : Int), .int .i64 (b : Int), .int .i64 (c : Int)] : Array Value).toList from fun j v hv => by
    obtain ⟨h0, h1, h2⟩ := h k _ hr
    match j, hv with
    | 0, hv => injection hv with hv; subst hv; exact h0
    | 1, hv => injection hv with hv; subst hv; exact h1
    | 2, hv => injection hv with hv; subst hv; exact h2)
  have k1 : (0 : Int) ≤ (k : Int) := by omega
  have k2 : (k : Int) < 19 := by omega
  clear h hr hk
  go_enter Tryz.func21, Tryz.ntmps21
  go_upto_region 4 with (first
    | (go_at_call 73; (with_reducible refine (HK.out _).mono ?_); rintro e w1 ⟨rfl, hw⟩; obtain rfl := hw.symm)
    | (refine wpList_load_rowT (by rfl) 137 (.tmp 10) rfl 0 (k * 3) rfl #[.int .i64 (a : Int), .int .i64 (b : Int), .int .i64 (c : Int)] _ HC.out Tryz.underlying137 rfl (by kernel_rfl) ?_)
    | (refine wpList_store_row rfl 137 (.tmp 5) (.tmp 11) rfl w.heap.size #[.int .i64 (a : Int), .int .i64 (b : Int), .int .i64 (c : Int)] rfl rfl 137 _ (heap_alloc_new _ _) (by kernel_rfl) (by rfl) (by simp [Value.oneCell']) ?_; rw [World.setRow_alloc_new]))
  have hq := heap_alloc_new w (.cells #[.int .i64 (a : Int), .int .i64 (b : Int), .int .i64 (c : Int)] 137)
  have hb := below_alloc w (.cells #[.int .i64 (a : Int), .int .i64 (b : Int), .int .i64 (c : Int)] 137)
  generalize w.alloc (.cells #[.int .i64 (a : Int), .int .i64 (b : Int), .int .i64 (c : Int)] 137) = w1 at *
  have HB := Lib.hid hb
  have c0 := cell_of_row w1 w.heap.size 0 _ _ _ hq
  have c1 := cell_of_row w1 w.heap.size 1 _ _ _ hq
  have c2 := cell_of_row w1 w.heap.size 2 _ _ _ hq
  clear hq hb
  simp only [List.getElem?_toArray, List.getElem?_cons_zero, List.getElem?_cons_succ] at c0 c1 c2
  go_quiet (fail)
  generalize hwr : World.drewN _ _ = w2
  have HB2 := Lib.hid (show Below w.heap.size w w2 from by rw [← hwr]; exact HB.out.trans ⟨rfl, rfl, rfl, Nat.le_refl _, fun _ _ => rfl⟩)
  go_wp2_with (fail)
  go_ret3
  exact ⟨rfl, HB2.out⟩
theorem tshape_no (k : Int) (hk : kindB k = false) (w : World) : Calls Tryz.prog 21 #[.int .i64 k] w fun e w' => e = .returned (.tuple #[.int .i64 0, .int .i64 0, .int .i64 0]) ∧ Below w.heap.size w w' := by
  have HK := Lib.hid (fun w => tkind_any k w)
  rw [hk] at HK
  clear hk
  go_enter Tryz.func21, Tryz.ntmps21
  go_wp2_with (go_at_call 73; (with_reducible refine (HK.out _).mono ?_); rintro e w1 ⟨rfl, hw⟩; obtain rfl := hw.symm)
  go_ret3
  exact ⟨rfl, Below.refl _ _⟩
theorem tshape_any (k : Int) (w : World) (h : ShTab w) : Calls Tryz.prog 21 #[.int .i64 k] w fun e w' => e = .returned (shV k) ∧ Below w.heap.size w w' := by
  unfold shV
  cases hk : kindB k with
  | false =>
    have e : shp k = (0, 0, 0) := by unfold shp; rw [hk]; rfl
    rw [e]
    exact tshape_no k hk w
  | true =>
    have h1 : 1 ≤ k ∧ k ≤ 18 := by unfold kindB at hk; simpa using hk
    obtain ⟨n, rfl⟩ : ∃ n : Nat, k = (n : Int) := ⟨k.toNat, by omega⟩
    have e : shpL[n]? = some (shp (n : Int)) := by
      unfold shp
      rw [hk, if_pos rfl, Int.toNat_natCast, List.getD_eq_getElem?_getD, List.getElem?_eq_getElem (by simp [shpL]; omega)]
      rfl
    exact tshape_at n _ (by omega) e w h
end Go.Proofs.YtejglhlodfhgkaaGreatDoor
