/- Part 15 of the proof. -/
import Derived.Test.YtejglhlodfhgkaaGreatDoorXv2
import Derived.Test.YtejglhlodfhgkaaGreatDoorXv14
namespace Go.Proofs.YtejglhlodfhgkaaGreatDoor
set_option linter.unusedVariables false
set_option linter.unusedSimpArgs false
open Go.RowKit
set_option maxRecDepth 100000
set_option linter.unusedSimpArgs false
set_option linter.unusedVariables false
theorem shape15_at (k : Fin 18) (w : World) : Calls Tryz.prog 22 #[.int .i64 ((k.val + 1 : Nat) : Int)] w fun e w' => e = .returned (shV ((k.val + 1 : Nat) : Int)) ∧ w' = w := by
  rcases k with ⟨k, hk⟩
  match k, hk with
  | 0, _ | 1, _ | 2, _ | 3, _ | 4, _ | 5, _ | 6, _ | 7, _ | 8, _ | 9, _ | 10, _ | 11, _ | 12, _ | 13, _ | 14, _ | 15, _ | 16, _ | 17, _ =>
    go_enter Tryz.func22, Tryz.ntmps22
    go_wp2_with (fail)
    go_ret3
    exact ⟨by kernel_rfl, rfl⟩
  | k + 18, h => exact absurd h (by omega)
theorem kind_ne {k : Int} (h : kindB k = false) : k ≠ 1 ∧ k ≠ 2 ∧ k ≠ 3 ∧ k ≠ 4 ∧ k ≠ 5 ∧ k ≠ 6 ∧ k ≠ 7 ∧ k ≠ 8 ∧ k ≠ 9 ∧ k ≠ 10 ∧ k ≠ 11 ∧ k ≠ 12 ∧ k ≠ 13 ∧ k ≠ 14 ∧ k ≠ 15 ∧ k ≠ 16 ∧ k ≠ 17 ∧ k ≠ 18 := by
  unfold kindB at h
  have : ¬ (1 ≤ k ∧ k ≤ 18) := fun hh => by rw [decide_eq_true hh.1, decide_eq_true hh.2] at h; cases h
  omega
theorem rshape15_any (k : Int) (w : World) : Calls Tryz.prog 22 #[.int .i64 k] w fun e w' => e = .returned (shV k) ∧ w' = w := by
  cases hk : kindB k with
  | true =>
    unfold kindB at hk
    rw [Bool.and_eq_true, decide_eq_true_eq, decide_eq_true_eq] at hk
    have h := shape15_at ⟨k.toNat - 1, by omega⟩ w
    rw [show (((⟨k.toNat - 1, by omega⟩ : Fin 18).val + 1 : Nat) : Int) = k from by show ((k.toNat - 1 + 1 : Nat) : Int) = k; omega] at h
    exact h
  | false =>
    obtain ⟨n1, n2, n3, n4, n5, n6, n7, n8, n9, n10, n11, n12, n13, n14, n15, n16, n17, n18⟩ := kind_ne hk
    have e : shV k = .tuple #[.int .i64 0, .int .i64 0, .int .i64 0] := by unfold shV shp; rw [hk]; rfl
    rw [e]
    clear hk e
    go_enter Tryz.func22, Tryz.ntmps22
    go_wp2_with (fail)
    go_ret3
    exact ⟨rfl, rfl⟩
set_option maxHeartbeats 4000000 in
theorem rnamed15_any (s : ByteArray) (w : World) (hs : s.size ≤ 9223372036854775807) : Calls Tryz.prog 61 #[.string s] w fun e w' => e = .returned (.bool (accB s)) ∧ w' = w := by
  have hsI : (s.size : Int) ≤ 9223372036854775807 := by omega
  obtain ⟨r, hr⟩ : ∃ r, r = accB s := ⟨_, rfl⟩
  rw [← hr]
  have HR := Lib.hid hr
  clear hr
  go_enter Tryz.func61, Tryz.ntmps61
  go_wp2_with (fail)
  go_loopw [3] (fun i wr => ∃ k : Nat, k ≤ s.size ∧ i = .int .i64 k ∧ wr = w ∧ Hid (BsK s k)) (fun i _ => s.size - (intOf i).toNat)
  case atStart => exact ⟨0, Nat.zero_le _, rfl, rfl, Lib.hid (fun i _ h => by omega)⟩
  case round =>
    obtain ⟨k, hk, rfl, rfl, H⟩ := hrel
    by_cases hlt : k < s.size
    · have hltI : (k : Int) < (s.size : Int) := by omega
      have HGD := Lib.hid (fun (h : smB (s[k].toNat : Int) = true ∨ (0 < k ∧ dgB (s[k].toNat : Int) = true)) => show BsK s (k + 1) from fun i hi hik => by
        by_cases e : i = k
        · subst e; exact h
        · exact H.out i hi (by omega))
      have HBD := Lib.hid (fun (hx0 : smB (s[k].toNat : Int) = false) (h : k = 0 ∨ dgB (s[k].toNat : Int) = false) => show r = false from by
        rw [HR.out]
        unfold accB
        rcases h with h | h
        · subst h
          rw [ext1Z s hlt, let_byte, hx0]; simp
        · rw [cons_bad (L := alnL) hlt (by rw [aln_byte, hx0, h]; rfl)]; simp)
      have hsm1 : smB (s[k].toNat : Int) = decide (97 ≤ (s[k].toNat : Int) ∧ (s[k].toNat : Int) ≤ 122) := rfl
      have hdg1 : dgB (s[k].toNat : Int) = decide (48 ≤ (s[k].toNat : Int) ∧ (s[k].toNat : Int) ≤ 57) := rfl
      rw [hsm1, hdg1] at HGD HBD
      obtain ⟨c, hc⟩ : ∃ c : Int, c = (s[k].toNat : Int) := ⟨_, rfl⟩
      rw [← hc] at HGD HBD
      have HC := Lib.hid hc
      clear hsm1 hdg1 H
      by_cases a1 : 97 ≤ c
      · have a1' : ¬ c < 97 := by omega
        by_cases a2 : c ≤ 122
        · have HN := Lib.hid (HGD.out (.inl (decide_eq_true ⟨a1, a2⟩)))
          rw [hc] at a1 a2 a1'
          clear hc
          go_wp2_with (fail)
          go_roundw
          case rel => exact ⟨k + 1, by omega, by go_num, by trivial, HN⟩
          case measure => simp [intOf]; omega
        · have HN := Lib.hid (HBD.out (decide_eq_false (fun h => a2 h.2)) (.inr (decide_eq_false (fun h => by omega))))
          have a3 : ¬ c ≤ 57 := by omega
          have a4 : 48 ≤ c := by omega
          rw [hc] at a1 a2 a1' a3 a4
          clear hc
          by_cases h0 : 0 < k
          · have h0I : (0 : Int) < (k : Int) := by omega
            go_wp2_with (fail)
            go_ret
            exact ⟨by rw [HN.out]; rfl, rfl⟩
          · have h0I : ¬ (0 : Int) < (k : Int) := by omega
            go_wp2_with (fail)
            go_ret
            exact ⟨by rw [HN.out]; rfl, rfl⟩
      · by_cases h0 : 0 < k
        · have h0I : (0 : Int) < (k : Int) := by omega
          by_cases b1 : 48 ≤ c
          · by_cases b2 : c ≤ 57
            · have HN := Lib.hid (HGD.out (.inr ⟨h0, decide_eq_true ⟨b1, b2⟩⟩))
              rw [hc] at a1 b1 b2
              clear hc
              go_wp2_with (fail)
              go_roundw
              case rel => exact ⟨k + 1, by omega, by go_num, by trivial, HN⟩
              case measure => simp [intOf]; omega
            · have HN := Lib.hid (HBD.out (decide_eq_false (fun h => a1 h.1)) (.inr (decide_eq_false (fun h => b2 h.2))))
              rw [hc] at a1 b1 b2
              clear hc
              go_wp2_with (fail)
              go_ret
              exact ⟨by rw [HN.out]; rfl, rfl⟩
          · have HN := Lib.hid (HBD.out (decide_eq_false (fun h => a1 h.1)) (.inr (decide_eq_false (fun h => b1 h.1))))
            rw [hc] at a1 b1
            clear hc
            go_wp2_with (fail)
            go_ret
            exact ⟨by rw [HN.out]; rfl, rfl⟩
        · have h0I : ¬ (0 : Int) < (k : Int) := by omega
          have HN := Lib.hid (HBD.out (decide_eq_false (fun h => a1 h.1)) (.inl (by omega)))
          rw [hc] at a1
          clear hc
          go_wp2_with (fail)
          go_ret
          exact ⟨by rw [HN.out]; rfl, rfl⟩
    · obtain rfl : k = s.size := by omega
      have HRR := Lib.hid (show r = decide (2 ≤ s.size ∧ s.size ≤ 20) from by
        rw [HR.out]
        unfold accB
        by_cases h0 : 0 < s.size
        · have h1 : consB (s.extract 0 1) letL = true := by
            rw [ext1Z s h0, let_byte]
            rcases H.out 0 h0 h0 with h | h
            · exact h
            · omega
          have h2 : consB s alnL = true := cons_good fun i hi => by
            rw [aln_byte]
            rcases H.out i hi hi with h | h
            · rw [h]; rfl
            · rw [h.2, Bool.or_true]
          rw [h1, h2]; simp
        · rw [decide_eq_false (by omega)]; rfl)
      by_cases h1 : 2 ≤ s.size
      · have h1I : (1 : Int) < (s.size : Int) := by omega
        by_cases h2 : s.size ≤ 20
        · have h2I : (s.size : Int) < 21 := by omega
          have HF := Lib.hid (show r = true from by rw [HRR.out]; exact decide_eq_true ⟨h1, h2⟩)
          go_wp2_with (fail)
          go_ret
          exact ⟨by rw [HF.out]; rfl, rfl⟩
        · have h2I : ¬ (s.size : Int) < 21 := by omega
          have HF := Lib.hid (show r = false from by rw [HRR.out]; exact decide_eq_false (fun h => h2 h.2))
          go_wp2_with (fail)
          go_ret
          exact ⟨by rw [HF.out]; rfl, rfl⟩
      · have h1I : ¬ (1 : Int) < (s.size : Int) := by omega
        have HF := Lib.hid (show r = false from by rw [HRR.out]; exact decide_eq_false (fun h => h1 h.1))
        go_wp2_with (fail)
        go_ret
        exact ⟨by rw [HF.out]; rfl, rfl⟩
end Go.Proofs.YtejglhlodfhgkaaGreatDoor
