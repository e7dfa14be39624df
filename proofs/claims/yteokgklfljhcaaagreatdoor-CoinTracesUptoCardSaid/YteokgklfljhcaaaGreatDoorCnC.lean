/- coin: a text cut at its first slash; an end. -/
import Derived.Test.YteokgklfljhcaaaGreatDoorCnS
namespace Go.Proofs.YteokgklfljhcaaaGreatDoor
open Go.RowKit
set_option maxRecDepth 100000
set_option linter.unusedSimpArgs false
set_option linter.unusedVariables false
def ixB (s : ByteArray) : Int := Lib.indexByte s.data.toList 47
def portS (s : ByteArray) : ByteArray := if ixB s = -1 then s else s.extract 0 (ixB s).toNat
def chanS (s : ByteArray) : ByteArray := if ixB s = -1 then { data := #[] } else s.extract ((ixB s).toNat + 1) s.size
def endB (s : ByteArray) : Bool := nameB (portS s) && nameB (chanS s)
theorem ix_cases (c : UInt8) : ∀ l : List UInt8, Lib.indexByte l c = -1 ∨ ∃ i : Nat, Lib.indexByte l c = i ∧ i < l.length
  | [] => .inl rfl
  | b :: l => by
    unfold Lib.indexByte
    cases hb : b == c
    · rcases ix_cases c l with h | ⟨i, h, hi⟩
      · left; rw [h]; rfl
      · right
        refine ⟨i + 1, ?_, by simpa using hi⟩
        rw [h]
        have : ((i : Int) == -1) = false := by rw [beq_eq_false_iff_ne]; omega
        simp [this]
    · right
      exact ⟨0, by simp, by simp⟩
theorem size14 (s : ByteArray) : s.data.toList.length = s.size := Array.length_toList
theorem slcut_any (s : ByteArray) (w : World) (hs : s.size ≤ 9223372036854775806) : Calls Tryz.prog 183 #[.string s, .string { data := #[47] }] w fun e w' => e = .returned (.tuple #[.string (portS s), .string (chanS s), .bool (decide (¬ ixB s = -1))]) ∧ Below w.heap.size w w' := by
  have HC := Lib.hid (show ∀ w, Calls Tryz.prog 189 #[.string s, .string { data := #[47] }] w fun e w' => e = .returned (.int .i64 (ixB s)) ∧ w' = w from fun w => Any.stringslite_Index_one Tryz.lays219 s 47 w)
  rcases ix_cases 47 s.data.toList with h | ⟨i, h, hi⟩
  · have hx : ixB s = -1 := h
    have e1 : portS s = s := by unfold portS; rw [if_pos hx]
    have e2 : chanS s = { data := #[] } := by unfold chanS; rw [if_pos hx]
    rw [e1, e2, decide_eq_false (by simpa using hx)]
    rw [hx] at HC
    clear h hx e1 e2
    go_enter Tryz.func183, Tryz.ntmps183
    go_wp2_with (go_at_call 189; (with_reducible refine (HC.out _).mono ?_); rintro e w1 ⟨rfl, rfl⟩)
    first | go_ret3 | go_ret | go_ret2
    exact ⟨rfl, Below.refl _ _⟩
  · have hx : ixB s = i := h
    rw [size14] at hi
    have e1 : portS s = s.extract 0 i := by unfold portS; rw [if_neg (by rw [hx]; omega), hx]; rfl
    have e2 : chanS s = s.extract (i + 1) s.size := by unfold chanS; rw [if_neg (by rw [hx]; omega), hx]; rfl
    rw [e1, e2, decide_eq_true (by rw [hx]; omega)]
    rw [hx] at HC
    have c1 : (0 : Int) ≤ (i : Int) := by omega
    have c2 : (i : Int) ≤ (s.size : Int) := by omega
    have c3 : (0 : Int) ≤ (i : Int) + 1 := by omega
    have c4 : (i : Int) + 1 ≤ (s.size : Int) := by omega
    clear h hx e1 e2
    go_enter Tryz.func183, Tryz.ntmps183
    go_upto_region 3 with (go_at_call 189; (with_reducible refine (HC.out _).mono ?_); rintro e w1 ⟨rfl, rfl⟩)
    go_region
    go_wp2_with (fail)
    first | go_ret3 | go_ret | go_ret2
    exact ⟨rfl, (Below.refl _ _).drew⟩
theorem scut_any (s : ByteArray) (w : World) (hs : s.size ≤ 9223372036854775806) : Calls Tryz.prog 161 #[.string s, .string { data := #[47] }] w fun e w' => e = .returned (.tuple #[.string (portS s), .string (chanS s), .bool (decide (¬ ixB s = -1))]) ∧ Below w.heap.size w w' := by
  have HC := Lib.hid (slcut_any s w hs)
  obtain ⟨p, hp⟩ : ∃ x, x = portS s := ⟨_, rfl⟩
  obtain ⟨c, hc⟩ : ∃ x, x = chanS s := ⟨_, rfl⟩
  obtain ⟨b, hb⟩ : ∃ x, x = decide (¬ ixB s = -1) := ⟨_, rfl⟩
  rw [← hp, ← hc, ← hb] at HC ⊢
  clear hp hc hb
  go_enter Tryz.func161, Tryz.ntmps161
  go_wp2_with (go_at_call 183; (with_reducible refine HC.out.mono ?_); rintro e w1 ⟨rfl, hb⟩; have HB := Lib.hid hb; clear hb)
  first | go_ret3 | go_ret | go_ret2
  exact ⟨rfl, HB.out⟩
theorem cend_any (s : ByteArray) (w : World) (hs : s.size ≤ 9223372036854775806) : Calls Tryz.prog 129 #[.string s] w fun e w' => e = .returned (.bool (endB s)) ∧ Below w.heap.size w w' := by
  have HC := Lib.hid (scut_any s w hs)
  have HP := Lib.hid (fun w => cname_any (portS s) w)
  have HQ := Lib.hid (fun w => cname_any (chanS s) w)
  unfold endB
  obtain ⟨p, hp⟩ : ∃ x, x = portS s := ⟨_, rfl⟩
  obtain ⟨c, hc⟩ : ∃ x, x = chanS s := ⟨_, rfl⟩
  obtain ⟨b, hb⟩ : ∃ x, x = decide (¬ ixB s = -1) := ⟨_, rfl⟩
  rw [← hp, ← hc] at HC ⊢
  rw [← hb] at HC
  rw [← hp] at HP
  rw [← hc] at HQ
  obtain ⟨x, hx⟩ : ∃ x, x = nameB p := ⟨_, rfl⟩
  obtain ⟨y, hy⟩ : ∃ x, x = nameB c := ⟨_, rfl⟩
  rw [← hx] at HP ⊢
  rw [← hy] at HQ ⊢
  clear hp hc hb hx hy
  cases x
  · go_enter Tryz.func129, Tryz.ntmps129
    go_wp2_with (first
      | (go_at_call 161; (with_reducible refine HC.out.mono ?_); rintro e w1 ⟨rfl, hb⟩; have HB := Lib.hid hb; clear hb)
      | (go_at_call 162; (with_reducible refine (HP.out _).mono ?_); rintro e w2 ⟨rfl, hb⟩; replace HB := Lib.hid (HB.out.trans (hb.mono HB.out.size)); clear hb))
    go_ret
    exact ⟨rfl, HB.out⟩
  · go_enter Tryz.func129, Tryz.ntmps129
    go_wp2_with (first
      | (go_at_call 161; (with_reducible refine HC.out.mono ?_); rintro e w1 ⟨rfl, hb⟩; have HB := Lib.hid hb; clear hb)
      | (go_at_call 162; (with_reducible refine (HP.out _).mono ?_); rintro e w2 ⟨rfl, hb⟩; replace HB := Lib.hid (HB.out.trans (hb.mono HB.out.size)); clear hb)
      | (go_at_call 162; (with_reducible refine (HQ.out _).mono ?_); rintro e w3 ⟨rfl, hb⟩; replace HB := Lib.hid (HB.out.trans (hb.mono HB.out.size)); clear hb))
    go_ret
    exact ⟨rfl, HB.out⟩
end Go.Proofs.YteokgklfljhcaaaGreatDoor
