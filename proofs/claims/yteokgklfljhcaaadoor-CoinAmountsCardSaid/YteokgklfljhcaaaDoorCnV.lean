/- coin, the reference: out, Add, Sub; CoinAmounts: the walk. -/
import Derived.Test.YteokgklfljhcaaaDoorCnW
namespace Go.Proofs.YteokgklfljhcaaaDoor
open Go.RowKit
set_option maxRecDepth 100000
set_option linter.unusedSimpArgs false
set_option linter.unusedVariables false
theorem rout_any (x : Int) (w : World) : Calls Tryd.prog 27 #[.int .i64 x] w fun e w' => e = .returned (.bool (decide (¬ amt x))) ∧ w' = w := by
  by_cases h1 : x < 0
  · rw [decide_eq_true (show ¬ amt x from by unfold amt; omega)]
    go_enter Tryd.func27, Tryd.ntmps27
    go_wp2_with (fail)
    go_ret
    exact ⟨rfl, rfl⟩
  by_cases h2 : 1152921504606846976 < x
  · rw [decide_eq_true (show ¬ amt x from by unfold amt; omega)]
    go_enter Tryd.func27, Tryd.ntmps27
    go_wp2_with (fail)
    go_ret
    exact ⟨rfl, rfl⟩
  · rw [decide_eq_false (show ¬ ¬ amt x from by unfold amt; omega)]
    go_enter Tryd.func27, Tryd.ntmps27
    go_wp2_with (fail)
    go_ret
    exact ⟨rfl, rfl⟩
theorem radd_any (a b : Int) (w : World) : Calls Tryd.prog 10 #[.int .i64 a, .int .i64 b] w fun e w' => e = .returned (.tuple #[.int .i64 (addR a b), .int .i64 (numE (addE a b))]) ∧ w' = w := by
  have HA := Lib.hid (fun w => rout_any a w)
  have HB := Lib.hid (fun w => rout_any b w)
  by_cases ha : amt a
  · rw [decide_eq_false (show ¬ ¬ amt a from fun h => h ha)] at HA
    by_cases hb : amt b
    · rw [decide_eq_false (show ¬ ¬ amt b from fun h => h hb)] at HB
      have h : amt a ∧ amt b := ⟨ha, hb⟩
      have h' := h
      unfold amt at h'
      by_cases h2 : a + b ≤ 1152921504606846976
      · have e1 : addE a b = none := by unfold addE; rw [if_pos h, if_pos h2]
        have e2 : addR a b = a + b := by unfold addR; rw [if_pos e1]
        rw [e1, e2]
        have h3 : ¬ 1152921504606846976 - b < a := by omega
        clear h e1 e2 h2 ha hb
        go_enter Tryd.func10, Tryd.ntmps10
        go_wp2_with (first
          | (go_at_call 27; (with_reducible refine (HA.out _).mono ?_); rintro e w1 ⟨rfl, rfl⟩)
          | (go_at_call 27; (with_reducible refine (HB.out _).mono ?_); rintro e w1 ⟨rfl, rfl⟩))
        first | go_ret | go_ret2
        exact ⟨rfl, rfl⟩
      · have e1 : addE a b = some 5 := by unfold addE; rw [if_pos h, if_neg h2]
        have e2 : addR a b = 0 := by unfold addR; rw [if_neg (by rw [e1]; simp)]
        rw [e1, e2]
        have h3 : 1152921504606846976 - b < a := by omega
        clear h e1 e2 h2 ha hb
        go_enter Tryd.func10, Tryd.ntmps10
        go_wp2_with (first
          | (go_at_call 27; (with_reducible refine (HA.out _).mono ?_); rintro e w1 ⟨rfl, rfl⟩)
          | (go_at_call 27; (with_reducible refine (HB.out _).mono ?_); rintro e w1 ⟨rfl, rfl⟩))
        first | go_ret | go_ret2
        exact ⟨rfl, rfl⟩
    · rw [decide_eq_true hb] at HB
      have e1 : addE a b = some 4 := by unfold addE; rw [if_neg (fun h => hb h.2)]
      have e2 : addR a b = 0 := by unfold addR; rw [if_neg (by rw [e1]; simp)]
      rw [e1, e2]
      clear e1 e2 ha hb
      go_enter Tryd.func10, Tryd.ntmps10
      go_wp2_with (first
        | (go_at_call 27; (with_reducible refine (HA.out _).mono ?_); rintro e w1 ⟨rfl, rfl⟩)
        | (go_at_call 27; (with_reducible refine (HB.out _).mono ?_); rintro e w1 ⟨rfl, rfl⟩))
      first | go_ret | go_ret2
      exact ⟨rfl, rfl⟩
  · rw [decide_eq_true ha] at HA
    have e1 : addE a b = some 4 := by unfold addE; rw [if_neg (fun h => ha h.1)]
    have e2 : addR a b = 0 := by unfold addR; rw [if_neg (by rw [e1]; simp)]
    rw [e1, e2]
    clear e1 e2 ha HB
    go_enter Tryd.func10, Tryd.ntmps10
    go_wp2_with (go_at_call 27; (with_reducible refine (HA.out _).mono ?_); rintro e w1 ⟨rfl, rfl⟩)
    first | go_ret | go_ret2
    exact ⟨rfl, rfl⟩
theorem rsub_any (a b : Int) (w : World) : Calls Tryd.prog 12 #[.int .i64 a, .int .i64 b] w fun e w' => e = .returned (.tuple #[.int .i64 (subR a b), .int .i64 (numE (subE a b))]) ∧ w' = w := by
  have HA := Lib.hid (fun w => rout_any a w)
  have HB := Lib.hid (fun w => rout_any b w)
  by_cases ha : amt a
  · rw [decide_eq_false (show ¬ ¬ amt a from fun h => h ha)] at HA
    by_cases hb : amt b
    · rw [decide_eq_false (show ¬ ¬ amt b from fun h => h hb)] at HB
      have h : amt a ∧ amt b := ⟨ha, hb⟩
      have h' := h
      unfold amt at h'
      by_cases h2 : b ≤ a
      · have e1 : subE a b = none := by unfold subE; rw [if_pos h, if_pos h2]
        have e2 : subR a b = a - b := by unfold subR; rw [if_pos e1]
        rw [e1, e2]
        have h3 : ¬ a < b := by omega
        clear h e1 e2 h2 ha hb
        go_enter Tryd.func12, Tryd.ntmps12
        go_wp2_with (first
          | (go_at_call 27; (with_reducible refine (HA.out _).mono ?_); rintro e w1 ⟨rfl, rfl⟩)
          | (go_at_call 27; (with_reducible refine (HB.out _).mono ?_); rintro e w1 ⟨rfl, rfl⟩))
        first | go_ret | go_ret2
        exact ⟨rfl, rfl⟩
      · have e1 : subE a b = some 41 := by unfold subE; rw [if_pos h, if_neg h2]
        have e2 : subR a b = 0 := by unfold subR; rw [if_neg (by rw [e1]; simp)]
        rw [e1, e2]
        have h3 : a < b := by omega
        clear h e1 e2 h2 ha hb
        go_enter Tryd.func12, Tryd.ntmps12
        go_wp2_with (first
          | (go_at_call 27; (with_reducible refine (HA.out _).mono ?_); rintro e w1 ⟨rfl, rfl⟩)
          | (go_at_call 27; (with_reducible refine (HB.out _).mono ?_); rintro e w1 ⟨rfl, rfl⟩))
        first | go_ret | go_ret2
        exact ⟨rfl, rfl⟩
    · rw [decide_eq_true hb] at HB
      have e1 : subE a b = some 4 := by unfold subE; rw [if_neg (fun h => hb h.2)]
      have e2 : subR a b = 0 := by unfold subR; rw [if_neg (by rw [e1]; simp)]
      rw [e1, e2]
      clear e1 e2 ha hb
      go_enter Tryd.func12, Tryd.ntmps12
      go_wp2_with (first
        | (go_at_call 27; (with_reducible refine (HA.out _).mono ?_); rintro e w1 ⟨rfl, rfl⟩)
        | (go_at_call 27; (with_reducible refine (HB.out _).mono ?_); rintro e w1 ⟨rfl, rfl⟩))
      first | go_ret | go_ret2
      exact ⟨rfl, rfl⟩
  · rw [decide_eq_true ha] at HA
    have e1 : subE a b = some 4 := by unfold subE; rw [if_neg (fun h => ha h.1)]
    have e2 : subR a b = 0 := by unfold subR; rw [if_neg (by rw [e1]; simp)]
    rw [e1, e2]
    clear e1 e2 ha HB
    go_enter Tryd.func12, Tryd.ntmps12
    go_wp2_with (go_at_call 27; (with_reducible refine (HA.out _).mono ?_); rintro e w1 ⟨rfl, rfl⟩)
    first | go_ret | go_ret2
    exact ⟨rfl, rfl⟩
theorem lcamounts_any (a b : Int) (w : World) (hg : ErrType w) : Calls Tryd.prog 4 #[.int .i64 a, .int .i64 b] w fun e w' => e = .returned (.bool true) ∧ Below w.heap.size w w' := by
  have HG := Lib.hid hg
  have HB := Lib.hid (Below.refl w.heap.size w)
  have HSU := Lib.hid csure_any
  have H1 := Lib.hid (addP a b)
  have H2 := Lib.hid (fun w => radd_any a b w)
  have H3 := Lib.hid (fun w => csub_any a b w)
  have H4 := Lib.hid (fun w => rsub_any a b w)
  have HN2 := Lib.hid (fun w h => num_any (subE a b) w h)
  obtain ⟨d, hd⟩ : ∃ d, d = subR a b := ⟨_, rfl⟩
  obtain ⟨F, hF⟩ : ∃ d, d = errV (subE a b) := ⟨_, rfl⟩
  obtain ⟨f, hf⟩ : ∃ d, d = numE (subE a b) := ⟨_, rfl⟩
  rw [← hd, ← hF] at H3
  rw [← hd, ← hf] at H4
  rw [← hF, ← hf] at HN2
  clear hg hd hF hf
  cases he : addE a b with
  | some n =>
    rw [addR_some he, he] at H1 H2
    have HN := Lib.hid (fun w h => num_any (some n) w h)
    simp only [errV, numE] at H1 H2 HN
    clear he
    go_enter Tryd.func4, Tryd.ntmps4
    go_wp2_with (first
      | (go_at_call 7; (with_reducible refine (H1.out _).mono ?_); rintro e w1 ⟨rfl, hb⟩; replace HB := Lib.hid (HB.out.trans (hb.mono HB.out.size)); clear hb)
      | (go_at_call 10; (with_reducible refine (H2.out _).mono ?_); rintro e w2 ⟨rfl, rfl⟩)
      | (go_at_call 11; (with_reducible refine (H3.out _).mono ?_); rintro e w3 ⟨rfl, hb⟩; replace HB := Lib.hid (HB.out.trans (hb.mono HB.out.size)); clear hb)
      | (go_at_call 12; (with_reducible refine (H4.out _).mono ?_); rintro e w2 ⟨rfl, rfl⟩)
      | (go_at_call 8; (with_reducible refine (HN.out _ (HG.out.below HB.out)).mono ?_); rintro e w4 ⟨rfl, hb⟩; replace HB := Lib.hid (HB.out.trans (hb.mono HB.out.size)); clear hb)
      | (go_at_call 8; (with_reducible refine (HN2.out _ (HG.out.below HB.out)).mono ?_); rintro e w5 ⟨rfl, hb⟩; replace HB := Lib.hid (HB.out.trans (hb.mono HB.out.size)); clear hb)
      | (go_at_call 9; (with_reducible refine (HSU.out _).mono ?_); rintro e w6 ⟨rfl, hb⟩; replace HB := Lib.hid (HB.out.trans (hb.mono HB.out.size)); clear hb))
    go_ret
    exact ⟨rfl, HB.out⟩
  | none =>
    obtain ⟨ha, hb', hab, hr⟩ := addE_none he
    have H5 := Lib.hid (fun w => csub_any (a + b) b w)
    have hs : amt (a + b) := by unfold amt at *; omega
    have e1 : subE (a + b) b = none := by unfold subE; rw [if_pos ⟨hs, hb'⟩, if_pos (by unfold amt at *; omega)]
    have e2 : subR (a + b) b = a := by unfold subR; rw [if_pos e1]; omega
    rw [e1, e2] at H5
    rw [hr, he] at H1 H2
    have HN := Lib.hid (fun w h => num_any none w h)
    simp only [errV, numE] at H1 H2 HN H5
    obtain ⟨s, hs⟩ : ∃ s, s = a + b := ⟨_, rfl⟩
    rw [← hs] at H1 H2 H5
    clear he ha hb' hab hr hs e1 e2
    go_enter Tryd.func4, Tryd.ntmps4
    go_wp2_with (first
      | (go_at_call 7; (with_reducible refine (H1.out _).mono ?_); rintro e w1 ⟨rfl, hb⟩; replace HB := Lib.hid (HB.out.trans (hb.mono HB.out.size)); clear hb)
      | (go_at_call 10; (with_reducible refine (H2.out _).mono ?_); rintro e w2 ⟨rfl, rfl⟩)
      | (go_at_call 11; (with_reducible refine (H3.out _).mono ?_); rintro e w3 ⟨rfl, hb⟩; replace HB := Lib.hid (HB.out.trans (hb.mono HB.out.size)); clear hb H3)
      | (go_at_call 12; (with_reducible refine (H4.out _).mono ?_); rintro e w2 ⟨rfl, rfl⟩)
      | (go_at_call 11; (with_reducible refine (H5.out _).mono ?_); rintro e w7 ⟨rfl, hb⟩; replace HB := Lib.hid (HB.out.trans (hb.mono HB.out.size)); clear hb)
      | (go_at_call 8; (with_reducible refine (HN.out _ (HG.out.below HB.out)).mono ?_); rintro e w4 ⟨rfl, hb⟩; replace HB := Lib.hid (HB.out.trans (hb.mono HB.out.size)); clear hb)
      | (go_at_call 8; (with_reducible refine (HN2.out _ (HG.out.below HB.out)).mono ?_); rintro e w5 ⟨rfl, hb⟩; replace HB := Lib.hid (HB.out.trans (hb.mono HB.out.size)); clear hb)
      | (go_at_call 9; (with_reducible refine (HSU.out _).mono ?_); rintro e w6 ⟨rfl, hb⟩; replace HB := Lib.hid (HB.out.trans (hb.mono HB.out.size)); clear hb))
    go_ret
    exact ⟨rfl, HB.out⟩
end Go.Proofs.YteokgklfljhcaaaDoor
