/- Bit by bit is four bits at once. Nothing here speaks of the program. -/
import Derived.Test.YtfdjmfomccckaaaDoorCrc
namespace Go.Proofs.YtfdjmfomccckaaaDoor
def bitS (r : Nat) : Nat := if r % 2 = 1 then r / 2 ^^^ 3988292384 else r / 2
def bitN : Nat → Nat → Nat
  | 0, r => r
  | t + 1, r => bitS (bitN t r)
theorem xor_div2 (a b : Nat) : (a ^^^ b) / 2 = a / 2 ^^^ b / 2 := by
  have h := Nat.shiftRight_xor_distrib (a := a) (b := b) (i := 1)
  simpa only [Nat.shiftRight_eq_div_pow, Nat.pow_one] using h
theorem xor_mod2 (a b : Nat) : (a ^^^ b) % 2 = (a % 2 + b % 2) % 2 := by
  have h := Nat.xor_mod_two_pow (a := a) (b := b) (n := 1)
  rw [Nat.pow_one] at h
  rw [h]
  rcases Nat.mod_two_eq_zero_or_one a with h1 | h1 <;> rcases Nat.mod_two_eq_zero_or_one b with h2 | h2 <;> rw [h1, h2] <;> rfl
theorem xor4 (a b c : Nat) : a ^^^ b ^^^ c ^^^ c = a ^^^ b := by rw [Nat.xor_assoc, Nat.xor_self, Nat.xor_zero]
theorem bitS_xor (a b : Nat) : bitS (a ^^^ b) = bitS a ^^^ bitS b := by
  unfold bitS
  rw [xor_mod2, xor_div2]
  rcases Nat.mod_two_eq_zero_or_one a with h1 | h1 <;> rcases Nat.mod_two_eq_zero_or_one b with h2 | h2
  · rw [h1, h2]; rfl
  · rw [h1, h2, if_pos (by decide), if_neg (by decide), if_pos rfl, Nat.xor_assoc]
  · rw [h1, h2, if_pos (by decide), if_pos rfl, if_neg (by decide), Nat.xor_assoc, Nat.xor_assoc, Nat.xor_comm (b / 2)]
  · rw [h1, h2, if_neg (by decide), if_pos rfl, if_pos rfl]
    generalize 3988292384 = c
    rw [Nat.xor_assoc, Nat.xor_comm c, Nat.xor_assoc, Nat.xor_self, Nat.xor_zero]
theorem bitN_xor (t a b : Nat) : bitN t (a ^^^ b) = bitN t a ^^^ bitN t b := by
  induction t with
  | zero => rfl
  | succ t ih => simp only [bitN]; rw [ih, bitS_xor]
theorem bitS_even (x : Nat) : bitS (2 * x) = x := by
  unfold bitS
  rw [if_neg (by omega)]; omega
theorem bitN_shift (h : Nat) : bitN 4 (16 * h) = h := by
  simp only [bitN]
  rw [show 16 * h = 2 * (8 * h) by omega, bitS_even, show 8 * h = 2 * (4 * h) by omega, bitS_even, show 4 * h = 2 * (2 * h) by omega, bitS_even, bitS_even]
theorem bitN_low (l : Nat) (h : l < 16) : bitN 4 l = tabN l := by
  have : ∀ l : Fin 16, bitN 4 l.val = tabN l.val := by decide +kernel
  exact this ⟨l, h⟩
theorem split16 (r : Nat) : r = (16 * (r / 16)) ^^^ (r % 16) := by
  have hd : ((16 * (r / 16)) ^^^ (r % 16)) / 16 = r / 16 := by
    have h := Nat.shiftRight_xor_distrib (a := 16 * (r / 16)) (b := r % 16) (i := 4)
    simp only [Nat.shiftRight_eq_div_pow] at h
    rw [show (2 : Nat) ^ 4 = 16 from rfl, Nat.mul_div_cancel_left _ (by decide), Nat.div_eq_of_lt (show r % 16 < 16 by omega), Nat.xor_zero] at h
    exact h
  have hm : ((16 * (r / 16)) ^^^ (r % 16)) % 16 = r % 16 := by
    have h := Nat.xor_mod_two_pow (a := 16 * (r / 16)) (b := r % 16) (n := 4)
    rw [show (2 : Nat) ^ 4 = 16 from rfl, Nat.mul_mod_right, Nat.mod_mod, Nat.zero_xor] at h
    exact h
  omega
theorem bitN_nib (r : Nat) : bitN 4 r = nib r := by
  conv => lhs; rw [split16 r]
  rw [bitN_xor, bitN_shift, bitN_low _ (by omega)]; rfl
theorem bitN_add (t : Nat) : ∀ s r, bitN (t + s) r = bitN s (bitN t r)
  | 0, _ => rfl
  | s + 1, r => by show bitS (bitN (t + s) r) = _; rw [bitN_add t s r]; rfl
theorem bitN_byte (r x : Nat) : bitN 8 (r ^^^ x) = byteS r x := by
  rw [show 8 = 4 + 4 from rfl, bitN_add, bitN_nib, bitN_nib]; rfl
theorem bitS_lt {r : Nat} (h : r < 4294967296) : bitS r < 4294967296 := by
  unfold bitS
  split
  · exact xor_lt32 (by omega) (by decide)
  · omega
theorem bitN_lt : ∀ (t : Nat) {r : Nat}, r < 4294967296 → bitN t r < 4294967296
  | 0, _, h => h
  | t + 1, _, h => bitS_lt (bitN_lt t h)
theorem crc_sub (r : Nat) (h : r < 4294967296) : 4294967295 ^^^ r = 4294967295 - r := by
  apply Nat.eq_of_testBit_eq
  intro i
  rw [Nat.testBit_xor, show 4294967295 - r = 2 ^ 32 - (r + 1) by omega, Nat.testBit_two_pow_sub_succ (by omega), show (4294967295 : Nat) = 2 ^ 32 - 1 from rfl, Nat.testBit_two_pow_sub_one]
  by_cases hi : i < 32
  · simp [hi]
  · have h2 : r.testBit i = false := Nat.testBit_lt_two_pow (Nat.lt_of_lt_of_le (show r < 2 ^ 32 from h) (Nat.pow_le_pow_right (by decide) (by omega)))
    simp [hi, h2]
end Go.Proofs.YtfdjmfomccckaaaDoor
