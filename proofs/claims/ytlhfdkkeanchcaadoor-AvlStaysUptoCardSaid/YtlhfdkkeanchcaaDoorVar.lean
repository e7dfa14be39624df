/- Varints: the groups of seven bits of a number, as a list of bytes; what a reader makes of a list. Nothing here speaks of the program. -/
import Derived.Test.YtlhfdkkeanchcaaDoorBase
namespace Go.Proofs.YtlhfdkkeanchcaaDoor
/-- how many groups -/
def glen (n : Nat) : Nat := if h : n < 128 then 1 else glen (n / 128) + 1
termination_by n
decreasing_by omega
theorem glen_small {n : Nat} (h : n < 128) : glen n = 1 := by rw [glen, dif_pos h]
theorem glen_big {n : Nat} (h : ¬ n < 128) : glen n = glen (n / 128) + 1 := by rw [glen, dif_neg h]
theorem glen_pos (n : Nat) : 0 < glen n := by
  by_cases h : n < 128
  · rw [glen_small h]; decide
  · rw [glen_big h]; omega
theorem div_pow_succ (n i : Nat) : n / 128 ^ (i + 1) = n / 128 / 128 ^ i := by rw [Nat.pow_succ, Nat.mul_comm, ← Nat.div_div_eq_div_mul]
theorem div_pow_step (n i : Nat) : n / 128 ^ (i + 1) = n / 128 ^ i / 128 := by rw [Nat.pow_succ, ← Nat.div_div_eq_div_mul]
theorem glen_lo : ∀ (n i : Nat), i + 1 < glen n → 128 ≤ n / 128 ^ i := by
  intro n
  induction n using Nat.strongRecOn with
  | ind n ih =>
    intro i hi
    by_cases h : n < 128
    · rw [glen_small h] at hi; omega
    · rw [glen_big h] at hi
      cases i with
      | zero => simp; omega
      | succ i => rw [div_pow_succ]; exact ih (n / 128) (by omega) i (by omega)
theorem glen_hi : ∀ n : Nat, n / 128 ^ (glen n - 1) < 128 := by
  intro n
  induction n using Nat.strongRecOn with
  | ind n ih =>
    by_cases h : n < 128
    · rw [glen_small h]; simpa using h
    · have := glen_pos (n / 128)
      rw [glen_big h, show glen (n / 128) + 1 - 1 = (glen (n / 128) - 1) + 1 by omega, div_pow_succ]
      exact ih (n / 128) (by omega)
theorem glen_iff {n k : Nat} (h : k < glen n) : 128 ≤ n / 128 ^ k ↔ k + 1 < glen n := by
  constructor
  · intro h1
    by_cases h2 : k + 1 < glen n
    · exact h2
    · have := glen_hi n
      rw [show glen n - 1 = k by omega] at this
      omega
  · exact glen_lo n k
theorem glen_le {n : Nat} (h : n < 18446744073709551616) : glen n ≤ 10 := by
  by_cases hc : glen n ≤ 10
  · exact hc
  · have := glen_lo n 9 (by omega)
    have e : (128 : Nat) ^ 9 = 9223372036854775808 := by decide
    rw [e] at this
    omega
/-- byte i of the varint -/
def gby (n i : Nat) : Nat := if i + 1 < glen n then n / 128 ^ i % 128 + 128 else n / 128 ^ i
def varint (n : Nat) : List Int := (List.range (glen n)).map fun i => ((gby n i : Nat) : Int)
theorem varint_length (n : Nat) : (varint n).length = glen n := by simp [varint]
theorem varint_get {n i : Nat} (h : i < glen n) : (varint n)[i]? = some ((gby n i : Nat) : Int) := by simp [varint, h]
theorem gby_lt {n i : Nat} (h : i < glen n) : gby n i < 256 := by
  unfold gby
  split
  · omega
  · have := glen_hi n
    rw [show glen n - 1 = i by omega] at this
    omega
theorem gby_more {n i : Nat} (h : i + 1 < glen n) : 128 ≤ gby n i ∧ gby n i % 128 = n / 128 ^ i % 128 := by
  unfold gby; rw [if_pos h]; omega
theorem gby_last {n i : Nat} (h : i + 1 = glen n) : gby n i = n / 128 ^ i ∧ gby n i < 128 := by
  have := glen_hi n
  rw [show glen n - 1 = i by omega] at this
  unfold gby; rw [if_neg (by omega)]
  exact ⟨rfl, this⟩
/-- the first bytes as they are laid, behind them zeros -/
def gbyK (n k : Nat) : Nat → Int := fun i => if i < k then ((gby n i : Nat) : Int) else 0
/-- what a reader adds up: the low seven bits of the first i bytes, below 2^64 -/
def accF (xs : List Int) : Nat → Nat
  | 0 => 0
  | i + 1 => accF xs i + ((xs.getD i 0).toNat % 128 * 128 ^ i) % 18446744073709551616
theorem pow128 (i : Nat) : 0 < 128 ^ i := Nat.pow_pos (by decide)
theorem accF_lt (xs : List Int) : ∀ i, i ≤ 9 → accF xs i < 128 ^ i
  | 0, _ => by simp [accF]
  | i + 1, h => by
    have ih := accF_lt xs i (by omega)
    have h1 : (xs.getD i 0).toNat % 128 * 128 ^ i % 18446744073709551616 ≤ (xs.getD i 0).toNat % 128 * 128 ^ i := Nat.mod_le _ _
    have h2 : (xs.getD i 0).toNat % 128 * 128 ^ i ≤ 127 * 128 ^ i := Nat.mul_le_mul_right _ (by omega)
    have h3 : (128 : Nat) ^ (i + 1) = 128 ^ i * 128 := Nat.pow_succ _ _
    have h4 : accF xs (i + 1) = accF xs i + (xs.getD i 0).toNat % 128 * 128 ^ i % 18446744073709551616 := rfl
    omega
/-- the bytes of a varint add up to its number -/
theorem accF_varint (n : Nat) (r : List Int) (hn : n < 18446744073709551616) : ∀ i, i ≤ glen n → accF (varint n ++ r) i = n % 128 ^ i := by
  intro i
  induction i with
  | zero => intro _; simp [accF, Nat.mod_one]
  | succ i ih =>
    intro h
    have hg : (varint n ++ r).getD i 0 = ((gby n i : Nat) : Int) := by
      simp [List.getD, List.getElem?_append_left (by rw [varint_length]; omega : i < (varint n).length), varint_get (show i < glen n by omega)]
    have e : gby n i % 128 = n / 128 ^ i % 128 := by
      by_cases h1 : i + 1 < glen n
      · exact (gby_more h1).2
      · rw [(gby_last (by omega : i + 1 = glen n)).1]
    show accF _ i + _ = _
    rw [ih (by omega), hg, Int.toNat_natCast, e]
    have hm : n / 128 ^ i % 128 * 128 ^ i ≤ n / 128 ^ i * 128 ^ i := Nat.mul_le_mul_right _ (Nat.mod_le _ _)
    have hd : n / 128 ^ i * 128 ^ i ≤ n := Nat.div_mul_le_self _ _
    have hlt : n / 128 ^ i % 128 * 128 ^ i < 18446744073709551616 := by omega
    rw [Nat.mod_eq_of_lt hlt, Nat.pow_succ, Nat.mod_mul, Nat.mul_comm (n / 128 ^ i % 128)]
theorem mod_glen (n : Nat) : n % 128 ^ glen n = n := by
  apply Nat.mod_eq_of_lt
  have h := glen_hi n
  have hp := glen_pos n
  have h2 : n / 128 ^ glen n = 0 := by
    obtain ⟨k, hk⟩ : ∃ k, glen n = k + 1 := ⟨glen n - 1, by omega⟩
    rw [hk, Nat.add_sub_cancel] at h
    rw [hk, div_pow_step]; exact Nat.div_eq_of_lt h
  rcases Nat.lt_or_ge n (128 ^ glen n) with h3 | h3
  · exact h3
  · have := Nat.div_pos h3 (pow128 _); omega
end Go.Proofs.YtlhfdkkeanchcaaDoor
