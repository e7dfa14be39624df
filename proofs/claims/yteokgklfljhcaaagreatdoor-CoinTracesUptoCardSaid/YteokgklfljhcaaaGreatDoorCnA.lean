/- coin: amounts. -/
import Derived.Test.YteokgklfljhcaaaGreatDoorNum
import Derived.Great.BuildSlice
namespace Go.Proofs.YteokgklfljhcaaaGreatDoor
open Go.RowKit
set_option maxRecDepth 100000
set_option linter.unusedSimpArgs false
set_option linter.unusedVariables false
def amt (x : Int) : Prop := 0 ≤ x ∧ x ≤ 1152921504606846976
instance (x : Int) : Decidable (amt x) := by unfold amt; infer_instance
def addE (a b : Int) : Option Nat := if amt a ∧ amt b then (if a + b ≤ 1152921504606846976 then none else some 5) else some 4
def addR (a b : Int) : Int := if addE a b = none then a + b else 0
def subE (a b : Int) : Option Nat := if amt a ∧ amt b then (if b ≤ a then none else some 41) else some 4
def subR (a b : Int) : Int := if subE a b = none then a - b else 0
def chkE (a b : Int) : Option Nat := if amt a ∧ amt b then none else some 4
theorem cchk_any (x y : Int) (g : Nat) (w : World) (h : w.heap[g]? = some (.cells #[.int .i64 x, .int .i64 y] 3 (0, 0))) :
    Calls Tryz.prog 140 #[.slice (some ⟨g, 0, none⟩) 2 2] w fun e w' => e = .returned (errV (chkE x y)) ∧ w' = w := by
  have c0 : w.cell? ⟨g, 0, none⟩ = some (.int .i64 x) := cell_of_row _ _ _ _ _ _ h
  have c1 : w.cell? ⟨g, 1, none⟩ = some (.int .i64 y) := cell_of_row _ _ _ _ _ _ h
  obtain ⟨E, hE⟩ : ∃ E, E = chkE x y := ⟨_, rfl⟩
  have HE := Lib.hid hE
  rw [← hE]
  clear hE h
  go_enter Tryz.func140, Tryz.ntmps140
  go_wp2_with (fail)
  go_loopw [7] (fun i wr => ∃ k : Nat, k ≤ 2 ∧ i = .int .i64 (k : Int) ∧ wr = w ∧ Hid ((0 < k → amt x) ∧ (1 < k → amt y))) (fun i _ => 2 - (intOf i).toNat)
  case atStart => exact ⟨0, by omega, rfl, rfl, Lib.hid ⟨fun h => by omega, fun h => by omega⟩⟩
  case round =>
    obtain ⟨k, hk, rfl, rfl, HR⟩ := hrel
    rcases (by omega : k = 0 ∨ k = 1 ∨ k = 2) with rfl | rfl | rfl
    · by_cases h1 : x < 0
      · have HF := Lib.hid (show E = some 4 from by rw [HE.out]; unfold chkE amt; rw [if_neg (by omega)])
        go_wp2_with (fail)
        go_ret
        exact ⟨by rw [HF.out]; rfl, rfl⟩
      by_cases h2 : 1152921504606846976 < x
      · have HF := Lib.hid (show E = some 4 from by rw [HE.out]; unfold chkE amt; rw [if_neg (by omega)])
        go_wp2_with (fail)
        go_ret
        exact ⟨by rw [HF.out]; rfl, rfl⟩
      have HA := Lib.hid (show amt x from ⟨by omega, by omega⟩)
      go_wp2_with (fail)
      go_roundw
      case rel => exact ⟨1, by omega, by go_num, by trivial, Lib.hid ⟨fun _ => HA.out, fun h => by omega⟩⟩
      case measure => simp [intOf]
    · by_cases h1 : y < 0
      · have HF := Lib.hid (show E = some 4 from by rw [HE.out]; unfold chkE amt; rw [if_neg (by omega)])
        go_wp2_with (fail)
        go_ret
        exact ⟨by rw [HF.out]; rfl, rfl⟩
      by_cases h2 : 1152921504606846976 < y
      · have HF := Lib.hid (show E = some 4 from by rw [HE.out]; unfold chkE amt; rw [if_neg (by omega)])
        go_wp2_with (fail)
        go_ret
        exact ⟨by rw [HF.out]; rfl, rfl⟩
      have HA := Lib.hid (show amt y from ⟨by omega, by omega⟩)
      go_wp2_with (fail)
      go_roundw
      case rel => exact ⟨2, by omega, by go_num, by trivial, Lib.hid ⟨HR.out.1 |> fun h _ => h (by omega), fun _ => HA.out⟩⟩
      case measure => simp [intOf]
    · have HF := Lib.hid (show E = none from by rw [HE.out]; unfold chkE; rw [if_pos ⟨HR.out.1 (by omega), HR.out.2 (by omega)⟩])
      go_wp2_with (fail)
      go_ret
      exact ⟨by rw [HF.out]; rfl, rfl⟩
theorem infoI14 : (Tryz.prog.info? 3).map (fun i => (i.zero, i.size, i.bytes)) = some (some (.int .i64 0), 1, 8) := by kernel_rfl
theorem two_fill14 (x y : Int) : Instr.fill (fun i => some (i * 1, 1)) ((Array.range (2 * 1)).map ((Value.int .i64 0).cells[· % (Value.int .i64 0).cells.size]!)) [(0, .int .i64 x), (1, .int .i64 y)] = some #[.int .i64 x, .int .i64 y] := by kernel_rfl
theorem wpList_two14 {w : World} {ops : Array Oper} {rest : List Oper} {o : Oper} {a : Act} {Q : Exit → Act → World → Prop} (hgd : o.guard = none) (s t : Operand) (ho : o.op = .buildSlice 247 2 #[(0, s), (1, t)]) (x y : Int) (hx : a.eval s = .int .i64 x) (hy : a.eval t = .int .i64 y)
    (h : wpList Tryz.prog ops Q rest (a.put o.dst (.slice (some ⟨w.heap.size, 0, none⟩) 2 2)) (w.alloc (.cells #[.int .i64 x, .int .i64 y] 3))) : wpList Tryz.prog ops Q (o :: rest) a w := by
  refine wpList_plain hgd fun K hK => ?_
  obtain ⟨i0, hi, hz0, hz1, hz2⟩ := info_parts infoI14
  refine wp_buildSlice 247 3 2 #[(0, s), (1, t)] ho #[.int .i64 x, .int .i64 y] i0 _ Tryz.underlying247 hi hz0 (by rw [hz1]; decide) (by rw [hz1]; decide) ?_ (hK _ _ h)
  rw [hz1]
  simpa [hx, hy] using two_fill14 x y
theorem cadd_any (a b : Int) (w : World) : Calls Tryz.prog 93 #[.int .i64 a, .int .i64 b] w fun e w' => e = .returned (.tuple #[.int .i64 (addR a b), errV (addE a b)]) ∧ Below w.heap.size w w' := by
  have HB := Lib.hid (below_alloc w (.cells #[.int .i64 a, .int .i64 b] 3))
  have HC := Lib.hid (cchk_any a b w.heap.size _ (heap_alloc_new w (.cells #[.int .i64 a, .int .i64 b] 3)))
  by_cases h : amt a ∧ amt b
  · rw [show chkE a b = none from by unfold chkE; rw [if_pos h]] at HC
    have h' := h
    unfold amt at h'
    by_cases h2 : a + b ≤ 1152921504606846976
    · have e1 : addE a b = none := by unfold addE; rw [if_pos h, if_pos h2]
      have e2 : addR a b = a + b := by unfold addR; rw [if_pos e1]
      rw [e1, e2]
      have h3 : ¬ 1152921504606846976 < a + b := by omega
      clear h e1 e2 h2
      go_enter Tryz.func93, Tryz.ntmps93
      go_wp2_with (first
        | (refine wpList_two14 rfl (.tmp 7) (.tmp 8) rfl a b rfl rfl ?_)
        | (go_at_call 140; (with_reducible refine HC.out.mono ?_); rintro e w1 ⟨rfl, rfl⟩; simp only [errV]))
      first | go_ret | go_ret2
      exact ⟨rfl, HB.out⟩
    · have e1 : addE a b = some 5 := by unfold addE; rw [if_pos h, if_neg h2]
      have e2 : addR a b = 0 := by unfold addR; rw [if_neg (by rw [e1]; simp)]
      rw [e1, e2]
      have h3 : 1152921504606846976 < a + b := by omega
      clear h e1 e2 h2
      go_enter Tryz.func93, Tryz.ntmps93
      go_wp2_with (first
        | (refine wpList_two14 rfl (.tmp 7) (.tmp 8) rfl a b rfl rfl ?_)
        | (go_at_call 140; (with_reducible refine HC.out.mono ?_); rintro e w1 ⟨rfl, rfl⟩; simp only [errV]))
      first | go_ret | go_ret2
      exact ⟨rfl, HB.out⟩
  · rw [show chkE a b = some 4 from by unfold chkE; rw [if_neg h]] at HC
    have e1 : addE a b = some 4 := by unfold addE; rw [if_neg h]
    have e2 : addR a b = 0 := by unfold addR; rw [if_neg (by rw [e1]; simp)]
    rw [e1, e2]
    clear h e1 e2
    go_enter Tryz.func93, Tryz.ntmps93
    go_wp2_with (first
      | (refine wpList_two14 rfl (.tmp 7) (.tmp 8) rfl a b rfl rfl ?_)
      | (go_at_call 140; (with_reducible refine HC.out.mono ?_); rintro e w1 ⟨rfl, rfl⟩; simp only [errV]))
    first | go_ret | go_ret2
    exact ⟨rfl, HB.out⟩
end Go.Proofs.YteokgklfljhcaaaGreatDoor
