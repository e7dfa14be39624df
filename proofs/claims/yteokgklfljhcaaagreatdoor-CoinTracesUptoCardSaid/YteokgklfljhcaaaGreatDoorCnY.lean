/- coin, the reference: small, digit, part, Base, end. -/
import Derived.Test.YteokgklfljhcaaaGreatDoorCnG
namespace Go.Proofs.YteokgklfljhcaaaGreatDoor
open Go.RowKit
set_option maxRecDepth 100000
set_option linter.unusedSimpArgs false
set_option linter.unusedVariables false
def smB (c : Int) : Bool := decide (97 ≤ c ∧ c ≤ 122)
def dgB (c : Int) : Bool := decide (48 ≤ c ∧ c ≤ 57)
theorem nm_fin : ∀ n : Fin 256, nmL14.contains (UInt8.ofNat n.val) = (smB (n.val : Int) || dgB (n.val : Int) || decide ((n.val : Int) = 45)) := by decide +kernel
theorem let_fin : ∀ n : Fin 256, letL.contains (UInt8.ofNat n.val) = smB (n.val : Int) := by decide +kernel
theorem aln_fin : ∀ n : Fin 256, alnL.contains (UInt8.ofNat n.val) = (smB (n.val : Int) || dgB (n.val : Int)) := by decide +kernel
theorem nm_byte (b : UInt8) : nmL14.contains b = (smB (b.toNat : Int) || dgB (b.toNat : Int) || decide ((b.toNat : Int) = 45)) := by
  have := nm_fin ⟨b.toNat, b.toNat_lt⟩
  simpa using this
theorem let_byte (b : UInt8) : letL.contains b = smB (b.toNat : Int) := by
  have := let_fin ⟨b.toNat, b.toNat_lt⟩
  simpa using this
theorem aln_byte (b : UInt8) : alnL.contains b = (smB (b.toNat : Int) || dgB (b.toNat : Int)) := by
  have := aln_fin ⟨b.toNat, b.toNat_lt⟩
  simpa using this
theorem get14 (s : ByteArray) (k : Nat) (h : k < s.size) : s.data.toList[k]? = some s[k] := by
  rw [Array.getElem?_toList]
  exact Array.getElem?_eq_getElem h
theorem cons_bad {s : ByteArray} {L : List UInt8} {k : Nat} (h : k < s.size) (hc : L.contains s[k] = false) : consB s L = false := by
  unfold consB
  rw [List.all_eq_false]
  exact ⟨s[k], List.mem_of_getElem? (get14 s k h), by rw [hc]; simp⟩
theorem cons_good {s : ByteArray} {L : List UInt8} (h : ∀ i (hi : i < s.size), L.contains s[i] = true) : consB s L = true := by
  unfold consB
  rw [List.all_eq_true]
  intro b hb
  obtain ⟨i, hi, e⟩ := List.getElem_of_mem hb
  rw [size14] at hi
  have h1 := get14 s i hi
  rw [List.getElem?_eq_getElem (by rw [size14]; exact hi)] at h1
  have h2 : b = s[i] := by rw [← e]; exact Option.some.inj h1
  rw [h2]
  exact h i hi
theorem rsmall_any (c : Int) (w : World) : Calls Tryz.prog 89 #[.int .u8 c] w fun e w' => e = .returned (.bool (smB c)) ∧ w' = w := by
  by_cases h1 : 97 ≤ c
  · by_cases h2 : c ≤ 122
    · rw [show smB c = true from decide_eq_true ⟨h1, h2⟩]
      go_enter Tryz.func89, Tryz.ntmps89
      go_wp2_with (fail)
      go_ret
      exact ⟨rfl, rfl⟩
    · rw [show smB c = false from decide_eq_false (fun h => h2 h.2)]
      go_enter Tryz.func89, Tryz.ntmps89
      go_wp2_with (fail)
      go_ret
      exact ⟨rfl, rfl⟩
  · rw [show smB c = false from decide_eq_false (fun h => h1 h.1)]
    go_enter Tryz.func89, Tryz.ntmps89
    go_wp2_with (fail)
    go_ret
    exact ⟨rfl, rfl⟩
theorem rdigit_any (c : Int) (w : World) : Calls Tryz.prog 90 #[.int .u8 c] w fun e w' => e = .returned (.bool (dgB c)) ∧ w' = w := by
  by_cases h1 : 48 ≤ c
  · by_cases h2 : c ≤ 57
    · rw [show dgB c = true from decide_eq_true ⟨h1, h2⟩]
      go_enter Tryz.func90, Tryz.ntmps90
      go_wp2_with (fail)
      go_ret
      exact ⟨rfl, rfl⟩
    · rw [show dgB c = false from decide_eq_false (fun h => h2 h.2)]
      go_enter Tryz.func90, Tryz.ntmps90
      go_wp2_with (fail)
      go_ret
      exact ⟨rfl, rfl⟩
  · rw [show dgB c = false from decide_eq_false (fun h => h1 h.1)]
    go_enter Tryz.func90, Tryz.ntmps90
    go_wp2_with (fail)
    go_ret
    exact ⟨rfl, rfl⟩
def NmK (s : ByteArray) (k : Nat) : Prop := ∀ i (hi : i < s.size), i < k → nmL14.contains s[i] = true
set_option maxHeartbeats 4000000 in
theorem rpart_any (s : ByteArray) (w : World) (hs : s.size ≤ 9223372036854775807) : Calls Tryz.prog 134 #[.string s] w fun e w' => e = .returned (.bool (nameB s)) ∧ w' = w := by
  have HS := Lib.hid (fun c w => rsmall_any c w)
  have HD := Lib.hid (fun c w => rdigit_any c w)
  have hsI : (s.size : Int) ≤ 9223372036854775807 := by omega
  obtain ⟨r, hr⟩ : ∃ r, r = nameB s := ⟨_, rfl⟩
  rw [← hr]
  have HR := Lib.hid hr
  clear hr
  go_enter Tryz.func134, Tryz.ntmps134
  go_wp2_with (fail)
  go_loopw [3] (fun i wr => ∃ k : Nat, k ≤ s.size ∧ i = .int .i64 k ∧ wr = w ∧ Hid (NmK s k)) (fun i _ => s.size - (intOf i).toNat)
  case atStart => exact ⟨0, Nat.zero_le _, rfl, rfl, Lib.hid (fun i _ h => by omega)⟩
  case round =>
    obtain ⟨k, hk, rfl, rfl, H⟩ := hrel
    by_cases hlt : k < s.size
    · have hltI : (k : Int) < (s.size : Int) := by omega
      have HB := Lib.hid (nm_byte s[k])
      have HS2 := Lib.hid (HS.out (s[k].toNat : Int))
      have HD2 := Lib.hid (HD.out (s[k].toNat : Int))
      obtain ⟨x, hx⟩ : ∃ x, x = smB (s[k].toNat : Int) := ⟨_, rfl⟩
      obtain ⟨y, hy⟩ : ∃ x, x = dgB (s[k].toNat : Int) := ⟨_, rfl⟩
      rw [← hx] at HS2 HB
      rw [← hy] at HD2 HB
      clear hx hy
      have good : nmL14.contains s[k] = true → Hid (NmK s (k + 1)) := fun h => Lib.hid (fun i hi hik => by
        by_cases e : i = k
        · subst e; exact h
        · exact H.out i hi (by omega))
      have HGD := Lib.hid good
      have HBD := Lib.hid (fun (h : nmL14.contains s[k] = false) => show r = false from by rw [HR.out]; unfold nameB; rw [cons_bad hlt h, Bool.and_false])
      clear good H
      cases x with
      | true =>
        have HN := HGD.out (by rw [HB.out]; simp)
        go_wp2_with (go_at_call 89; (with_reducible refine (HS2.out _).mono ?_); rintro e w1 ⟨rfl, rfl⟩)
        go_roundw
        case rel => exact ⟨k + 1, by omega, by go_num, by trivial, HN⟩
        case measure => simp [intOf]; omega
      | false =>
        cases y with
        | true =>
          have HN := HGD.out (by rw [HB.out]; simp)
          go_wp2_with (first
            | (go_at_call 89; (with_reducible refine (HS2.out _).mono ?_); rintro e w1 ⟨rfl, rfl⟩)
            | (go_at_call 90; (with_reducible refine (HD2.out _).mono ?_); rintro e w1 ⟨rfl, rfl⟩))
          go_roundw
          case rel => exact ⟨k + 1, by omega, by go_num, by trivial, HN⟩
          case measure => simp [intOf]; omega
        | false =>
          by_cases h45 : (s[k].toNat : Int) = 45
          · have HN := HGD.out (by rw [HB.out, h45]; simp)
            have h45n : s[k].toNat = 45 := by omega
            rw [h45] at HS2 HD2
            go_wp2_with (first
              | (go_at_call 89; (with_reducible refine (HS2.out _).mono ?_); rintro e w1 ⟨rfl, rfl⟩)
              | (go_at_call 90; (with_reducible refine (HD2.out _).mono ?_); rintro e w1 ⟨rfl, rfl⟩))
            go_roundw
            case rel => exact ⟨k + 1, by omega, by go_num, by trivial, HN⟩
            case measure => simp [intOf]; omega
          · have HN := Lib.hid (HBD.out (by rw [HB.out, decide_eq_false h45]; rfl))
            have h45n : ¬ s[k].toNat = 45 := by omega
            go_wp2_with (first
              | (go_at_call 89; (with_reducible refine (HS2.out _).mono ?_); rintro e w1 ⟨rfl, rfl⟩)
              | (go_at_call 90; (with_reducible refine (HD2.out _).mono ?_); rintro e w1 ⟨rfl, rfl⟩))
            go_ret
            exact ⟨by rw [HN.out]; rfl, rfl⟩
    · obtain rfl : k = s.size := by omega
      have HG := Lib.hid (cons_good (L := nmL14) (fun i hi => H.out i hi hi))
      have HRR := Lib.hid (show r = decide (1 ≤ s.size ∧ s.size ≤ 20) from by rw [HR.out]; unfold nameB; rw [HG.out, Bool.and_true])
      by_cases h1 : 1 ≤ s.size
      · have h1I : (0 : Int) < (s.size : Int) := by omega
        by_cases h2 : s.size ≤ 20
        · have h2I : (s.size : Int) < 21 := by omega
          have HF := Lib.hid (show r = true from by rw [HRR.out]; exact decide_eq_true ⟨h1, h2⟩)
          go_wp2_with (fail)
          go_ret
          exact ⟨by rw [HF.out]; rfl, rfl⟩
        · have h2I : ¬ (s.size : Int) < 21 := by omega
          have HF := Lib.hid (show r = false from by rw [HRR.out]; exact decide_eq_false (fun h => h2 h.2))
          go_wp2_with (fail)
          go_ret
          exact ⟨by rw [HF.out]; rfl, rfl⟩
      · have h1I : ¬ (0 : Int) < (s.size : Int) := by omega
        have HF := Lib.hid (show r = false from by rw [HRR.out]; exact decide_eq_false (fun h => h1 h.1))
        go_wp2_with (fail)
        go_ret
        exact ⟨by rw [HF.out]; rfl, rfl⟩
end Go.Proofs.YteokgklfljhcaaaGreatDoor
