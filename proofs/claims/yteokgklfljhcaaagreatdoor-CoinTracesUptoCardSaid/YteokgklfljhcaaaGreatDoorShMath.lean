/- The padded message put byte by byte is the padding of finish; a block is 64 bytes put; bits written otherwise. -/
import Derived.Test.YteokgklfljhcaaaGreatDoorShSumM
namespace Go.Proofs.YteokgklfljhcaaaGreatDoor
open Go.RowKit
theorem bits_or_comm (x y : Int) : bits .or .u32 x y = bits .or .u32 y x := by
  unfold bits; simp only [BitVec.or_comm]
theorem ofInt_wrap32 (a : BitVec IntKind.u32.bits) : BitVec.ofInt IntKind.u32.bits (IntKind.u32.wrap (a.toNat : Int)) = a := by
  have hlt : a.toNat < 4294967296 := a.isLt
  have h : IntKind.u32.wrap (a.toNat : Int) = (a.toNat : Int) := by
    show ((a.toNat : Int) % 4294967296) = _
    omega
  rw [h]
  apply BitVec.eq_of_toNat_eq
  rw [BitVec.toNat_ofInt]
  show ((a.toNat : Int) % ((4294967296 : Nat) : Int)).toNat = _
  omega
theorem choose_vec (E F G : BitVec 32) : (E &&& F ||| (BitVec.allOnes 32 ^^^ E) &&& G) = (E &&& F ^^^ (BitVec.allOnes 32 ^^^ E) &&& G) := by
  ext i hi
  simp only [BitVec.getElem_or, BitVec.getElem_and, BitVec.getElem_xor, BitVec.getElem_allOnes]
  cases E[i] <;> cases F[i] <;> cases G[i] <;> rfl
theorem major_vec (A B C : BitVec 32) : (A &&& B ||| A &&& C ||| B &&& C) = (A &&& B ^^^ A &&& C ^^^ B &&& C) := by
  ext i hi
  simp only [BitVec.getElem_or, BitVec.getElem_and, BitVec.getElem_xor]
  cases A[i] <;> cases B[i] <;> cases C[i] <;> rfl
theorem or32 (x y : BitVec IntKind.u32.bits) (X Y : Int) (hx : BitVec.ofInt IntKind.u32.bits X = x) (hy : BitVec.ofInt IntKind.u32.bits Y = y) : bits .or .u32 X Y = IntKind.u32.wrap ((x ||| y).toNat : Int) := by subst hx; subst hy; rfl
theorem xor32 (x y : BitVec IntKind.u32.bits) (X Y : Int) (hx : BitVec.ofInt IntKind.u32.bits X = x) (hy : BitVec.ofInt IntKind.u32.bits Y = y) : bits .xor .u32 X Y = IntKind.u32.wrap ((x ^^^ y).toNat : Int) := by subst hx; subst hy; rfl
theorem and32 (x y : BitVec IntKind.u32.bits) (X Y : Int) (hx : BitVec.ofInt IntKind.u32.bits X = x) (hy : BitVec.ofInt IntKind.u32.bits Y = y) : bits .and .u32 X Y = IntKind.u32.wrap ((x &&& y).toNat : Int) := by subst hx; subst hy; rfl
theorem choose_bits (e f g : Int) : bits .or .u32 (bits .and .u32 e f) (bits .and .u32 (bits .xor .u32 4294967295 e) g) = bits .xor .u32 (bits .and .u32 e f) (bits .and .u32 (bits .xor .u32 IntKind.u32.max e) g) := by
  have hm : IntKind.u32.max = 4294967295 := by kernel_rfl
  rw [hm]
  obtain ⟨E, hE⟩ : ∃ E, BitVec.ofInt IntKind.u32.bits e = E := ⟨_, rfl⟩
  obtain ⟨F, hF⟩ : ∃ F, BitVec.ofInt IntKind.u32.bits f = F := ⟨_, rfl⟩
  obtain ⟨G, hG⟩ : ∃ G, BitVec.ofInt IntKind.u32.bits g = G := ⟨_, rfl⟩
  have hM : BitVec.ofInt IntKind.u32.bits 4294967295 = BitVec.allOnes 32 := by apply BitVec.eq_of_toNat_eq; kernel_rfl
  rw [and32 E F e f hE hF, xor32 _ E _ e hM hE, and32 _ G _ g (ofInt_wrap32 _) hG, or32 _ _ _ _ (ofInt_wrap32 _) (ofInt_wrap32 _), xor32 _ _ _ _ (ofInt_wrap32 _) (ofInt_wrap32 _)]
  exact congrArg (fun v : BitVec 32 => IntKind.u32.wrap (v.toNat : Int)) (choose_vec E F G)
theorem major_bits (a b c : Int) : bits .or .u32 (bits .or .u32 (bits .and .u32 a b) (bits .and .u32 a c)) (bits .and .u32 b c) = bits .xor .u32 (bits .xor .u32 (bits .and .u32 a b) (bits .and .u32 a c)) (bits .and .u32 b c) := by
  obtain ⟨A, hA⟩ : ∃ A, BitVec.ofInt IntKind.u32.bits a = A := ⟨_, rfl⟩
  obtain ⟨B, hB⟩ : ∃ B, BitVec.ofInt IntKind.u32.bits b = B := ⟨_, rfl⟩
  obtain ⟨C, hC⟩ : ∃ C, BitVec.ofInt IntKind.u32.bits c = C := ⟨_, rfl⟩
  rw [and32 A B a b hA hB, and32 A C a c hA hC, and32 B C b c hB hC, or32 _ _ _ _ (ofInt_wrap32 _) (ofInt_wrap32 _), or32 _ _ _ _ (ofInt_wrap32 _) (ofInt_wrap32 _), xor32 _ _ _ _ (ofInt_wrap32 _) (ofInt_wrap32 _), xor32 _ _ _ _ (ofInt_wrap32 _) (ofInt_wrap32 _)]
  exact congrArg (fun v : BitVec 32 => IntKind.u32.wrap (v.toNat : Int)) (major_vec A B C)
/- only the block's 64 bytes matter -/
theorem expA_congr (b b' : Nat → Int) (h : ∀ i, i < 64 → b i = b' i) : ∀ k, k ≤ 16 → expA b k = expA b' k
  | 0, _ => rfl
  | k + 1, hk => by
    have e : wordB b k = wordB b' k := by
      unfold wordB
      rw [h (4 * k) (by omega), h (4 * k + 1) (by omega), h (4 * k + 2) (by omega), h (4 * k + 3) (by omega)]
    show upd (expA b k) k (wordB b k) = upd (expA b' k) k (wordB b' k)
    rw [expA_congr b b' h k (by omega), e]
theorem expB_congr (b b' : Nat → Int) (h : ∀ i, i < 64 → b i = b' i) : ∀ k, expB b k = expB b' k
  | 0 => expA_congr b b' h 16 (by omega)
  | k + 1 => by
    show upd (expB b k) (k + 16) (nextW (expB b k) k) = upd (expB b' k) (k + 16) (nextW (expB b' k) k)
    rw [expB_congr b b' h k]
theorem mixF_congr (s b b' : Nat → Int) (h : ∀ i, i < 64 → b i = b' i) : mixF s b = mixF s b' := by
  unfold mixF; rw [expB_congr b b' h 48]
theorem lenF_get (f : Nat → Int) (n : Int) (i : Nat) (hi : i < 64) : ∀ k, k ≤ 8 → lenF f n k i = if 64 - k ≤ i then IntKind.u64.wrap (n * 8) / 2 ^ (8 * (63 - i)) % 256 else f i
  | 0, _ => by rw [if_neg (by omega)]; rfl
  | k + 1, hk => by
    show upd (lenF f n k) (63 - k) (IntKind.u64.wrap (n * 8) / 2 ^ (8 * k) % 256) i = _
    unfold upd
    by_cases h : i = 63 - k
    · rw [if_pos h, if_pos (by omega), show 63 - i = k by omega]
    · rw [if_neg h, lenF_get f n i hi k (by omega)]
      by_cases h2 : 64 - k ≤ i
      · rw [if_pos h2, if_pos (by omega)]
      · rw [if_neg h2, if_neg (by omega)]
/-- the first k of the last eight bytes -/
def lenB (n : Int) (k : Nat) : List Int := (List.range k).map fun j => IntKind.u64.wrap (n * 8) / 2 ^ (8 * (7 - j)) % 256
theorem lenB_length (n : Int) (k : Nat) : (lenB n k).length = k := by simp [lenB]
theorem lenB_succ (n : Int) (k : Nat) : lenB n (k + 1) = lenB n k ++ [IntKind.u64.wrap (n * 8) / 2 ^ (8 * (7 - k)) % 256] := by simp [lenB, List.range_succ]
theorem lenB_get (n : Int) (k j : Nat) (h : j < k) : (lenB n k).getD j 0 = IntKind.u64.wrap (n * 8) / 2 ^ (8 * (7 - j)) % 256 := by
  simp [lenB, List.getD_eq_getElem?_getD, h]
/-- noughts behind the bit 1 -/
def zN (n : Nat) : Nat := (119 - n % 64) % 64
def padL (n : Nat) : List Int := 128 :: (List.replicate (zN n) 0 ++ lenB n 8)
theorem padL_length (n : Nat) : (padL n).length = zN n + 9 := by simp [padL, lenB_length]
theorem padL_get (n i : Nat) : (padL n).getD i 0 = if i = 0 then 128 else if i < zN n + 1 then 0 else (lenB n 8).getD (i - (zN n + 1)) 0 := by
  unfold padL
  cases i with
  | zero => rfl
  | succ i =>
    rw [if_neg (by omega), List.getD_cons_succ, List.getD_eq_getElem?_getD, List.getElem?_append]
    simp only [List.length_replicate]
    by_cases h : i < zN n
    · rw [if_pos h, if_pos (by omega), List.getElem?_replicate, if_pos h]; rfl
    · rw [if_neg h, if_neg (by omega), ← List.getD_eq_getElem?_getD, show i + 1 - (zN n + 1) = i - zN n by omega]
/-- the padding put byte by byte is finish -/
theorem fin_put (s b : Nat → Int) (n : Nat) (hn : n < 18446744073709551616) : (putF ⟨s, b, n⟩ (padL n)).s = finF s b n ((n : Int) % 64).toNat := by
  obtain ⟨u, hu⟩ : ∃ u, n % 64 = u := ⟨_, rfl⟩
  have hu1 : ((n : Int) % 64).toNat = u := by omega
  have hz : zN n = (119 - u) % 64 := by unfold zN; rw [hu]
  rw [hu1]
  unfold finF
  by_cases h56 : u < 56
  · have hz' : zN n = 55 - u := by omega
    rw [if_pos h56, put_full s (padL n) b n u (by omega) (by omega) (by omega) (by rw [padL_length]; omega) (by omega)]
    refine mixF_congr _ _ _ fun i hi => ?_
    rw [lay_get, lenF_get _ _ _ hi 8 (by omega), padL_length, padL_get, hz']
    by_cases h1 : i < u
    · rw [if_neg (by omega), if_neg (by omega)]
      unfold padB clr upd
      rw [if_neg (by omega), if_neg (by omega)]
    · rw [if_pos (by omega)]
      by_cases h2 : i = u
      · rw [if_pos (by omega), if_neg (by omega)]
        unfold padB clr upd
        rw [if_neg (by omega), if_pos h2]
      · rw [if_neg (by omega)]
        by_cases h3 : i < 56
        · rw [if_pos (by omega), if_neg (by omega)]
          unfold padB clr
          rw [if_pos (by omega)]
        · rw [if_neg (by omega), if_pos (by omega), lenB_get _ _ _ (by omega), show 7 - (i - u - (55 - u + 1)) = 63 - i by omega]
  · have hz' : zN n = 119 - u := by omega
    rw [if_neg h56]
    have hsplit : padL n = (padL n).take (64 - u) ++ (padL n).drop (64 - u) := (List.take_append_drop _ _).symm
    have hl1 : ((padL n).take (64 - u)).length = 64 - u := by rw [List.length_take, padL_length]; omega
    have hl2 : ((padL n).drop (64 - u)).length = 64 := by rw [List.length_drop, padL_length]; omega
    rw [hsplit, putF_append, put_full s _ b n u (by omega) (by omega) (by omega) (by rw [hl1]; omega) (by omega)]
    rw [put_full _ _ _ _ 0 (by omega) (by omega) (by rw [hl1]; omega) (by rw [hl2]) (by omega)]
    have e1 : mixF s (lay b u ((padL n).take (64 - u))) = mixF s (padB b u) := by
      refine mixF_congr _ _ _ fun i hi => ?_
      rw [lay_get, hl1]
      by_cases h1 : i < u
      · rw [if_neg (by omega)]
        unfold padB clr upd
        rw [if_neg (by omega), if_neg (by omega)]
      · rw [if_pos (by omega), List.getD_eq_getElem?_getD, List.getElem?_take, if_pos (by omega), ← List.getD_eq_getElem?_getD, padL_get]
        by_cases h2 : i = u
        · rw [if_pos (by omega)]
          unfold padB clr upd
          rw [if_neg (by omega), if_pos h2]
        · rw [if_neg (by omega), if_pos (by omega)]
          unfold padB clr
          rw [if_pos (by omega)]
    show mixF (mixF s _) _ = _
    rw [e1]
    refine mixF_congr _ _ _ fun i hi => ?_
    rw [lay_get, hl2, if_pos (by omega), lenF_get _ _ _ hi 8 (by omega), List.getD_eq_getElem?_getD, List.getElem?_drop, ← List.getD_eq_getElem?_getD, padL_get, if_neg (by omega)]
    by_cases h3 : i < 56
    · rw [if_pos (by omega), if_neg (by omega)]
      unfold clr
      rw [if_pos (by omega)]
    · rw [if_neg (by omega), if_pos (by omega), lenB_get _ _ _ (by omega), show 7 - (64 - u + (i - 0) - (zN n + 1)) = 63 - i by omega]
theorem put_n (h : HS) : ∀ xs : List Int, 0 ≤ h.n → h.n < 18446744073709551616 → (putF h xs).n = (h.n + xs.length) % 18446744073709551616 := by
  intro xs
  induction xs generalizing h with
  | nil => intro h0 h1; show h.n = (h.n + ((0 : Nat) : Int)) % _; omega
  | cons x xs ih =>
    intro h0 h1
    have e : (put1 h x).n = (h.n + 1) % 18446744073709551616 := by unfold put1; split <;> rfl
    have := ih (put1 h x) (by rw [e]; omega) (by rw [e]; omega)
    show (putF (put1 h x) xs).n = _
    rw [this, e, List.length_cons]
    omega
/-- the whole padded message -/
def msgL (xs : List Int) : List Int := xs ++ padL xs.length
theorem msgL_length (xs : List Int) : (msgL xs).length % 64 = 0 := by
  unfold msgL
  rw [List.length_append, padL_length]
  unfold zN
  omega
theorem sum_msg (xs : List Int) (hl : xs.length < 18446744073709551616) : sumF xs = outF (putF h0 (msgL xs)).s := by
  have hn : (putF h0 xs).n = (xs.length : Nat) := by
    rw [put_n h0 xs (by decide) (by decide)]
    show ((0 : Int) + xs.length) % _ = _
    omega
  unfold sumF hsum msgL
  rw [putF_append]
  congr 1
  have := fin_put (putF h0 xs).s (putF h0 xs).b xs.length hl
  rw [← hn] at this
  exact this.symm
/-- one block of the message -/
def blkF (ms : List Int) (at_ : Nat) : Nat → Int := fun i => ms.getD (at_ + i) 0
def stF (ms : List Int) (at_ : Nat) : Nat → Int := (putF h0 (ms.take at_)).s
theorem stF_zero (ms : List Int) : stF ms 0 = BT := rfl
theorem stF_all (ms : List Int) : stF ms ms.length = (putF h0 ms).s := by unfold stF; rw [List.take_length]
theorem stF_next (ms : List Int) (p : Nat) (hp : p % 64 = 0) (hl : p + 64 ≤ ms.length) (hm : ms.length < 18446744073709551616) : stF ms (p + 64) = mixF (stF ms p) (blkF ms p) := by
  have hn : (putF h0 (ms.take p)).n = (p : Nat) := by
    rw [put_n h0 _ (by decide) (by decide), List.length_take]
    show ((0 : Int) + (min p ms.length : Nat)) % _ = _
    omega
  unfold stF
  have hs : ms.take (p + 64) = ms.take p ++ (ms.drop p).take 64 := by rw [List.take_add]
  have hl2 : ((ms.drop p).take 64).length = 64 := by rw [List.length_take, List.length_drop]; omega
  rw [hs, putF_append]
  have := put_full (putF h0 (ms.take p)).s ((ms.drop p).take 64) (putF h0 (ms.take p)).b (putF h0 (ms.take p)).n 0 (by rw [hn]; omega) (by rw [hn]; omega) (by rw [hn]; omega) (by rw [hl2]) (by omega)
  rw [show putF (putF h0 (ms.take p)) ((ms.drop p).take 64) = _ from this]
  show mixF _ _ = _
  refine mixF_congr _ _ _ fun i hi => ?_
  rw [lay_get, hl2, if_pos (by omega), List.getD_eq_getElem?_getD, List.getElem?_take, if_pos (by omega), List.getElem?_drop]
  unfold blkF
  rw [List.getD_eq_getElem?_getD, Nat.sub_zero]
end Go.Proofs.YteokgklfljhcaaaGreatDoor
