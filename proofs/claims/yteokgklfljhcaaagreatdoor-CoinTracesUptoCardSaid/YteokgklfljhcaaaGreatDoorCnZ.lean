/- coin, the reference: Base, end, Port. -/
import Derived.Test.YteokgklfljhcaaaGreatDoorCnY
namespace Go.Proofs.YteokgklfljhcaaaGreatDoor
open Go.RowKit
set_option maxRecDepth 100000
set_option linter.unusedSimpArgs false
set_option linter.unusedVariables false
theorem ext1 (s : ByteArray) (h : 0 < s.size) : consB (s.extract 0 1) letL = letL.contains s[0] := by
  have e : (s.extract 0 1).data.toList = [s[0]] := by
    have h0 := get14 s 0 h
    rw [ByteArray.data_extract]
    rcases s with ⟨⟨l⟩⟩
    cases l with
    | nil => exact absurd h (by simp [ByteArray.size])
    | cons b l =>
      simp only [List.getElem?_cons_zero, Option.some.injEq] at h0
      rw [← h0]
      simp
  unfold consB
  rw [e]
  simp
def BsK (s : ByteArray) (k : Nat) : Prop := ∀ i (hi : i < s.size), i < k → smB (s[i].toNat : Int) = true ∨ (0 < i ∧ dgB (s[i].toNat : Int) = true)
set_option maxHeartbeats 4000000 in
theorem rbase_any (s : ByteArray) (w : World) (hs : s.size ≤ 9223372036854775807) : Calls Tryz.prog 40 #[.string s] w fun e w' => e = .returned (.bool (baseB s)) ∧ w' = w := by
  have HS := Lib.hid (fun c w => rsmall_any c w)
  have HD := Lib.hid (fun c w => rdigit_any c w)
  have hsI : (s.size : Int) ≤ 9223372036854775807 := by omega
  obtain ⟨r, hr⟩ : ∃ r, r = baseB s := ⟨_, rfl⟩
  rw [← hr]
  have HR := Lib.hid hr
  clear hr
  go_enter Tryz.func40, Tryz.ntmps40
  go_wp2_with (fail)
  go_loopw [3] (fun i wr => ∃ k : Nat, k ≤ s.size ∧ i = .int .i64 k ∧ wr = w ∧ Hid (BsK s k)) (fun i _ => s.size - (intOf i).toNat)
  case atStart => exact ⟨0, Nat.zero_le _, rfl, rfl, Lib.hid (fun i _ h => by omega)⟩
  case round =>
    obtain ⟨k, hk, rfl, rfl, H⟩ := hrel
    by_cases hlt : k < s.size
    · have hltI : (k : Int) < (s.size : Int) := by omega
      have HS2 := Lib.hid (HS.out (s[k].toNat : Int))
      have HD2 := Lib.hid (HD.out (s[k].toNat : Int))
      obtain ⟨x, hx⟩ : ∃ x, x = smB (s[k].toNat : Int) := ⟨_, rfl⟩
      obtain ⟨y, hy⟩ : ∃ x, x = dgB (s[k].toNat : Int) := ⟨_, rfl⟩
      have HX := Lib.hid hx
      have HY := Lib.hid hy
      rw [← hx] at HS2
      rw [← hy] at HD2
      clear hx hy
      have HGD := Lib.hid (fun (h : x = true ∨ (0 < k ∧ y = true)) => show BsK s (k + 1) from fun i hi hik => by
        by_cases e : i = k
        · subst e; rw [← HX.out, ← HY.out]; exact h
        · exact H.out i hi (by omega))
      have HBD := Lib.hid (fun (hx0 : x = false) (h : k = 0 ∨ y = false) => show r = false from by
        rw [HR.out]
        unfold baseB
        rcases h with h | h
        · subst h
          rw [ext1 s hlt, let_byte, ← HX.out, hx0]; simp
        · rw [cons_bad (L := alnL) hlt (by rw [aln_byte, ← HX.out, ← HY.out, hx0, h]; rfl)]; simp)
      clear H
      cases x with
      | true =>
        have HN := Lib.hid (HGD.out (.inl rfl))
        go_wp2_with (go_at_call 89; (with_reducible refine (HS2.out _).mono ?_); rintro e w1 ⟨rfl, rfl⟩)
        go_roundw
        case rel => exact ⟨k + 1, by omega, by go_num, by trivial, HN⟩
        case measure => simp [intOf]; omega
      | false =>
        by_cases h0 : 0 < k
        · have h0I : (0 : Int) < (k : Int) := by omega
          cases y with
          | true =>
            have HN := Lib.hid (HGD.out (.inr ⟨h0, rfl⟩))
            go_wp2_with (first
              | (go_at_call 89; (with_reducible refine (HS2.out _).mono ?_); rintro e w1 ⟨rfl, rfl⟩)
              | (go_at_call 90; (with_reducible refine (HD2.out _).mono ?_); rintro e w1 ⟨rfl, rfl⟩))
            go_roundw
            case rel => exact ⟨k + 1, by omega, by go_num, by trivial, HN⟩
            case measure => simp [intOf]; omega
          | false =>
            have HN := Lib.hid (HBD.out rfl (.inr rfl))
            go_wp2_with (first
              | (go_at_call 89; (with_reducible refine (HS2.out _).mono ?_); rintro e w1 ⟨rfl, rfl⟩)
              | (go_at_call 90; (with_reducible refine (HD2.out _).mono ?_); rintro e w1 ⟨rfl, rfl⟩))
            go_ret
            exact ⟨by rw [HN.out]; rfl, rfl⟩
        · have hk0 : k = 0 := by omega
          have HN := Lib.hid (HBD.out rfl (.inl hk0))
          clear HBD HGD HX HY HD2
          have h0I : ¬ (0 : Int) < (k : Int) := by omega
          clear hk0
          go_wp2_with (go_at_call 89; (with_reducible refine (HS2.out _).mono ?_); rintro e w1 ⟨rfl, rfl⟩)
          go_ret
          exact ⟨by rw [HN.out]; rfl, rfl⟩
    · obtain rfl : k = s.size := by omega
      have HRR := Lib.hid (show r = decide (3 ≤ s.size ∧ s.size ≤ 16) from by
        rw [HR.out]
        unfold baseB
        by_cases h0 : 0 < s.size
        · have h1 : consB (s.extract 0 1) letL = true := by
            rw [ext1 s h0, let_byte]
            rcases H.out 0 h0 h0 with h | h
            · exact h
            · omega
          have h2 : consB s alnL = true := cons_good fun i hi => by
            rw [aln_byte]
            rcases H.out i hi hi with h | h
            · rw [h]; rfl
            · rw [h.2, Bool.or_true]
          rw [h1, h2]; simp
        · rw [decide_eq_false (by omega)]; rfl)
      by_cases h1 : 3 ≤ s.size
      · have h1I : (2 : Int) < (s.size : Int) := by omega
        by_cases h2 : s.size ≤ 16
        · have h2I : (s.size : Int) < 17 := by omega
          have HF := Lib.hid (show r = true from by rw [HRR.out]; exact decide_eq_true ⟨h1, h2⟩)
          go_wp2_with (fail)
          go_ret
          exact ⟨by rw [HF.out]; rfl, rfl⟩
        · have h2I : ¬ (s.size : Int) < 17 := by omega
          have HF := Lib.hid (show r = false from by rw [HRR.out]; exact decide_eq_false (fun h => h2 h.2))
          go_wp2_with (fail)
          go_ret
          exact ⟨by rw [HF.out]; rfl, rfl⟩
      · have h1I : ¬ (2 : Int) < (s.size : Int) := by omega
        have HF := Lib.hid (show r = false from by rw [HRR.out]; exact decide_eq_false (fun h => h1 h.1))
        go_wp2_with (fail)
        go_ret
        exact ⟨by rw [HF.out]; rfl, rfl⟩
theorem ix_none (c : UInt8) : ∀ l : List UInt8, (∀ b ∈ l, b ≠ c) → Lib.indexByte l c = -1
  | [], _ => rfl
  | b :: l, h => by
    unfold Lib.indexByte
    rw [show (b == c) = false from by simpa using h b (by simp), ix_none c l fun x hx => h x (List.mem_cons_of_mem _ hx)]
    rfl
theorem ix_at (c : UInt8) : ∀ (l : List UInt8) (k : Nat), (∀ i b, i < k → l[i]? = some b → b ≠ c) → l[k]? = some c → Lib.indexByte l c = k
  | [], k, _, h => by cases h
  | b :: l, 0, _, h => by
    simp only [List.getElem?_cons_zero, Option.some.injEq] at h
    subst h
    unfold Lib.indexByte
    simp
  | b :: l, k + 1, hn, h => by
    unfold Lib.indexByte
    rw [show (b == c) = false from by simpa using hn 0 b (by omega) (by simp), ix_at c l k (fun i x hi hx => hn (i + 1) x (by omega) (by simpa using hx)) (by simpa using h)]
    have : ((k : Int) == -1) = false := by rw [beq_eq_false_iff_ne]; omega
    rw [this]
    simp
def SlK (s : ByteArray) (k : Nat) : Prop := ∀ i (hi : i < s.size), i < k → s[i] ≠ 47
set_option maxHeartbeats 4000000 in
theorem rend_any (s : ByteArray) (w : World) (hs : s.size ≤ 9223372036854775806) : Calls Tryz.prog 83 #[.string s] w fun e w' => e = .returned (.bool (endB s)) ∧ w' = w := by
  have hsI : (s.size : Int) ≤ 9223372036854775806 := by omega
  have HPT := Lib.hid (fun (p : ByteArray) w (h : p.size ≤ 9223372036854775807) => rpart_any p w h)
  obtain ⟨r, hr⟩ : ∃ r, r = endB s := ⟨_, rfl⟩
  rw [← hr]
  have HR := Lib.hid hr
  clear hr
  go_enter Tryz.func83, Tryz.ntmps83
  go_wp2_with (fail)
  go_loopw [3] (fun i wr => ∃ k : Nat, k ≤ s.size ∧ i = .int .i64 k ∧ wr = w ∧ Hid (SlK s k)) (fun i _ => s.size - (intOf i).toNat)
  case atStart => exact ⟨0, Nat.zero_le _, rfl, rfl, Lib.hid (fun i _ h => by omega)⟩
  case round =>
    obtain ⟨k, hk, rfl, rfl, H⟩ := hrel
    by_cases hlt : k < s.size
    · have hltI : (k : Int) < (s.size : Int) := by omega
      by_cases h47 : s[k] = 47
      · have HIX := Lib.hid (show ixB s = k from ix_at 47 _ k (fun i b hi hb => by
          have hi2 : i < s.size := by omega
          rw [get14 s i hi2] at hb
          have := Option.some.inj hb
          rw [← this]
          exact H.out i hi2 hi) (by rw [get14 s k hlt, h47]))
        have HRE := Lib.hid (show r = (nameB (s.extract 0 k) && nameB (s.extract (k + 1) s.size)) from by
          rw [HR.out]
          unfold endB portS chanS
          rw [HIX.out, if_neg (by omega), if_neg (by omega)]
          rfl)
        have hc47 : (s[k].toNat : Int) = 47 := by rw [h47]; rfl
        have hn47 : s[k].toNat = 47 := by rw [h47]; rfl
        have c1 : (0 : Int) ≤ (k : Int) := by omega
        have c2 : (k : Int) ≤ (s.size : Int) := by omega
        have c3 : (0 : Int) ≤ (k : Int) + 1 := by omega
        have c4 : (k : Int) + 1 ≤ (s.size : Int) := by omega
        have HP := Lib.hid (HPT.out (s.extract 0 k) · (by rw [ByteArray.size_extract]; omega))
        have HC := Lib.hid (HPT.out (s.extract (k + 1) s.size) · (by rw [ByteArray.size_extract]; omega))
        obtain ⟨x, hx⟩ : ∃ x, x = nameB (s.extract 0 k) := ⟨_, rfl⟩
        obtain ⟨y, hy⟩ : ∃ x, x = nameB (s.extract (k + 1) s.size) := ⟨_, rfl⟩
        rw [← hx] at HP HRE
        rw [← hy] at HC HRE
        clear hx hy H h47 HIX
        cases x with
        | true =>
          go_wp2_with (first
            | (go_at_call 134; (with_reducible refine (HP.out _).mono ?_); rintro e w1 ⟨rfl, rfl⟩)
            | (go_at_call 134; (with_reducible refine (HC.out _).mono ?_); rintro e w1 ⟨rfl, rfl⟩))
          go_ret
          exact ⟨by rw [HRE.out, Bool.true_and]; rfl, rfl⟩
        | false =>
          go_wp2_with (go_at_call 134; (with_reducible refine (HP.out _).mono ?_); rintro e w1 ⟨rfl, rfl⟩)
          go_ret
          exact ⟨by rw [HRE.out, Bool.false_and]; rfl, rfl⟩
      · have HN := Lib.hid (show SlK s (k + 1) from fun i hi hik => by
          by_cases e : i = k
          · subst e; exact h47
          · exact H.out i hi (by omega))
        have hn47 : ¬ s[k].toNat = 47 := fun h => h47 (by
          have : s[k] = UInt8.ofNat s[k].toNat := by simp
          rw [this, h]; rfl)
        have hc47 : ¬ (s[k].toNat : Int) = 47 := by omega
        clear h47 H
        go_wp2_with (fail)
        go_roundw
        case rel => exact ⟨k + 1, by omega, by go_num, by trivial, HN⟩
        case measure => simp [intOf]; omega
    · obtain rfl : k = s.size := by omega
      have HN := Lib.hid (show r = false from by
        rw [HR.out]
        unfold endB portS chanS
        have hix : ixB s = -1 := ix_none 47 _ fun b hb => by
          obtain ⟨i, hi, e⟩ := List.getElem_of_mem hb
          rw [size14] at hi
          have h1 := get14 s i hi
          rw [List.getElem?_eq_getElem (by rw [size14]; exact hi)] at h1
          rw [← e, Option.some.inj h1]
          exact H.out i hi hi
        rw [if_pos hix, if_pos hix, show nameB { data := #[] } = false from rfl, Bool.and_false])
      go_wp2_with (fail)
      go_ret
      exact ⟨by rw [HN.out]; rfl, rfl⟩
end Go.Proofs.YteokgklfljhcaaaGreatDoor
