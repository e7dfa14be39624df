/- Part 12 of the proof. -/
import Derived.Test.YtejglhlodfhgkaaGreatDoorXv5
namespace Go.Proofs.YtejglhlodfhgkaaGreatDoor
set_option linter.unusedVariables false
set_option linter.unusedSimpArgs false
theorem getD_varint (n i : Nat) (r : List Int) (h : i < glen n) : (varint n ++ r).getD i 0 = ((gby n i : Nat) : Int) := by
  simp [List.getD, List.getElem?_append_left (by rw [varint_length]; exact h : i < (varint n).length), varint_get h]
theorem rdFrom_varint (n most : Nat) (r : List Int) (hn : n < 18446744073709551616) : ∀ (d i k : Nat), i + d + 1 = glen n → d < k →
    rdFrom (varint n ++ r) most k i = if most < n then (0, 0, some 4) else (n, glen n, none) := by
  intro d
  induction d with
  | zero =>
    intro i k h hk
    obtain ⟨k, rfl⟩ : ∃ j, k = j + 1 := ⟨k - 1, by omega⟩
    have hl := gby_last (by omega : i + 1 = glen n)
    rw [rdFrom, getD_varint n i r (by omega), if_pos (by omega), Int.toNat_natCast, show i + 1 = glen n by omega, accF_varint n r hn (glen n) (Nat.le_refl _), mod_glen]
    unfold chk
    rw [if_neg]
    rintro (⟨h1, h2⟩ | ⟨h1, h2⟩)
    · rw [hl.1] at h2
      have h3 := glen_lo n (i - 1) (by omega)
      obtain ⟨j, rfl⟩ : ∃ j, i = j + 1 := ⟨i - 1, by omega⟩
      rw [Nat.add_sub_cancel] at h3
      rw [div_pow_step] at h2
      omega
    · rw [hl.1, show i = 9 by omega] at h2
      have e : (128 : Nat) ^ 9 = 9223372036854775808 := by decide
      rw [e] at h2
      omega
  | succ d ih =>
    intro i k h hk
    obtain ⟨k, rfl⟩ : ∃ j, k = j + 1 := ⟨k - 1, by omega⟩
    have hm := gby_more (by omega : i + 1 < glen n)
    rw [rdFrom, getD_varint n i r (by omega), if_neg (by omega)]
    exact ih (i + 1) k (by omega) (by omega)
theorem rdF_varint (n most : Nat) (r : List Int) (hn : n < 18446744073709551616) : rdF (varint n ++ r) most = if most < n then (0, 0, some 4) else (n, glen n, none) := by
  have h1 := glen_pos n
  have h2 := glen_le hn
  unfold rdF
  exact rdFrom_varint n most r hn (glen n - 1) 0 _ (by omega) (by rw [List.length_append, varint_length]; omega)
theorem drop_varint (n : Nat) (r : List Int) : (varint n ++ r).drop (glen n) = r := by rw [← varint_length n]; exact List.drop_left
theorem uintS_varint (n most : Nat) (r : List Int) (hn : n < 18446744073709551616) (hm : n ≤ most) : uintS (varint n ++ r, none) most = (n, r, none) := by
  have h := rdF_varint n most r hn
  rw [if_neg (by omega)] at h
  rw [uintS_good (by rw [h]), h]
  show (n, (varint n ++ r).drop (glen n), none) = _
  rw [drop_varint]
theorem intS_varint (i : Int) (r : List Int) (h0 : -9223372036854775808 ≤ i) (h1 : i ≤ 9223372036854775807) : intS (varint (zig i) ++ r, none) = (i, r, none) := by
  have hz := zig_lt h0 h1
  unfold intS
  rw [uintS_varint (zig i) 18446744073709551615 r hz (by omega)]
  simp only [unzig_zig]
theorem partS_bytes (l r : List Int) (most : Int) (hl : l.length < 18446744073709551616) (h0 : 0 ≤ most) (hm : (l.length : Int) ≤ most) : partS (varint l.length ++ (l ++ r), none) most = (l, r, none) := by
  have h := rdF_varint l.length 18446744073709551615 (l ++ r) hl
  rw [if_neg (by omega)] at h
  unfold partS
  simp only [h]
  rw [if_neg (by omega), if_neg (by omega), if_neg (by rw [List.length_append, List.length_append, varint_length]; omega), drop_varint, List.take_left, List.drop_left]
theorem rowL_length (n : Nat) (f : Nat → Int) : (rowL n f).length = n := by simp [rowL]
end Go.Proofs.YtejglhlodfhgkaaGreatDoor
