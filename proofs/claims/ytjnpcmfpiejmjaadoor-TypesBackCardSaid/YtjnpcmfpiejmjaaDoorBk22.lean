/- Part 22 of the proof. -/
import Derived.Deep.RegionHeld3
import Derived.Maps.AppendAt
import Derived.Test.YtjnpcmfpiejmjaaDoorBk1
import Derived.Test.YtjnpcmfpiejmjaaDoorBk5
import Derived.Test.YtjnpcmfpiejmjaaDoorBk8
import Derived.Test.YtjnpcmfpiejmjaaDoorBk9
import Derived.Test.YtjnpcmfpiejmjaaDoorBk15
import Derived.Test.YtjnpcmfpiejmjaaDoorBk19
import Derived.Test.YtjnpcmfpiejmjaaDoorBk20
import Derived.Test.YtjnpcmfpiejmjaaDoorBk21
namespace Go.Proofs.YtjnpcmfpiejmjaaDoor
set_option linter.unusedVariables false
set_option linter.unusedSimpArgs false
open Go.RowKit
theorem bits_or_comm (x y : Int) : bits .or .u32 x y = bits .or .u32 y x := by
  unfold bits; simp only [BitVec.or_comm]
theorem ofInt_wrap32 (a : BitVec IntKind.u32.bits) : BitVec.ofInt IntKind.u32.bits (IntKind.u32.wrap (a.toNat : Int)) = a := by
  have hlt : a.toNat < 4294967296 := a.isLt
  have h : IntKind.u32.wrap (a.toNat : Int) = (a.toNat : Int) := by
    show ((a.toNat : Int) % 4294967296) = _
    omega
  rw [h]
  apply BitVec.eq_of_toNat_eq
  rw [BitVec.toNat_ofInt]
  show ((a.toNat : Int) % ((4294967296 : Nat) : Int)).toNat = _
  omega
theorem choose_vec (E F G : BitVec 32) : (E &&& F ||| (BitVec.allOnes 32 ^^^ E) &&& G) = (E &&& F ^^^ (BitVec.allOnes 32 ^^^ E) &&& G) := by
  ext i hi
  simp only [BitVec.getElem_or, BitVec.getElem_and, BitVec.getElem_xor, BitVec.getElem_allOnes]
  cases E[i] <;> cases F[i] <;> cases G[i] <;> rfl
theorem major_vec (A B C : BitVec 32) : (A &&& B ||| A &&& C ||| B &&& C) = (A &&& B ^^^ A &&& C ^^^ B &&& C) := by
  ext i hi
  simp only [BitVec.getElem_or, BitVec.getElem_and, BitVec.getElem_xor]
  cases A[i] <;> cases B[i] <;> cases C[i] <;> rfl
theorem or32 (x y : BitVec IntKind.u32.bits) (X Y : Int) (hx : BitVec.ofInt IntKind.u32.bits X = x) (hy : BitVec.ofInt IntKind.u32.bits Y = y) : bits .or .u32 X Y = IntKind.u32.wrap ((x ||| y).toNat : Int) := by subst hx; subst hy; rfl
theorem xor32 (x y : BitVec IntKind.u32.bits) (X Y : Int) (hx : BitVec.ofInt IntKind.u32.bits X = x) (hy : BitVec.ofInt IntKind.u32.bits Y = y) : bits .xor .u32 X Y = IntKind.u32.wrap ((x ^^^ y).toNat : Int) := by subst hx; subst hy; rfl
theorem and32 (x y : BitVec IntKind.u32.bits) (X Y : Int) (hx : BitVec.ofInt IntKind.u32.bits X = x) (hy : BitVec.ofInt IntKind.u32.bits Y = y) : bits .and .u32 X Y = IntKind.u32.wrap ((x &&& y).toNat : Int) := by subst hx; subst hy; rfl
theorem choose_bits (e f g : Int) : bits .or .u32 (bits .and .u32 e f) (bits .and .u32 (bits .xor .u32 4294967295 e) g) = bits .xor .u32 (bits .and .u32 e f) (bits .and .u32 (bits .xor .u32 IntKind.u32.max e) g) := by
  have hm : IntKind.u32.max = 4294967295 := by kernel_rfl
  rw [hm]
  obtain ⟨E, hE⟩ : ∃ E, BitVec.ofInt IntKind.u32.bits e = E := ⟨_, rfl⟩
  obtain ⟨F, hF⟩ : ∃ F, BitVec.ofInt IntKind.u32.bits f = F := ⟨_, rfl⟩
  obtain ⟨G, hG⟩ : ∃ G, BitVec.ofInt IntKind.u32.bits g = G := ⟨_, rfl⟩
  have hM : BitVec.ofInt IntKind.u32.bits 4294967295 = BitVec.allOnes 32 := by apply BitVec.eq_of_toNat_eq; kernel_rfl
  rw [and32 E F e f hE hF, xor32 _ E _ e hM hE, and32 _ G _ g (ofInt_wrap32 _) hG, or32 _ _ _ _ (ofInt_wrap32 _) (ofInt_wrap32 _), xor32 _ _ _ _ (ofInt_wrap32 _) (ofInt_wrap32 _)]
  exact congrArg (fun v : BitVec 32 => IntKind.u32.wrap (v.toNat : Int)) (choose_vec E F G)
theorem major_bits (a b c : Int) : bits .or .u32 (bits .or .u32 (bits .and .u32 a b) (bits .and .u32 a c)) (bits .and .u32 b c) = bits .xor .u32 (bits .xor .u32 (bits .and .u32 a b) (bits .and .u32 a c)) (bits .and .u32 b c) := by
  obtain ⟨A, hA⟩ : ∃ A, BitVec.ofInt IntKind.u32.bits a = A := ⟨_, rfl⟩
  obtain ⟨B, hB⟩ : ∃ B, BitVec.ofInt IntKind.u32.bits b = B := ⟨_, rfl⟩
  obtain ⟨C, hC⟩ : ∃ C, BitVec.ofInt IntKind.u32.bits c = C := ⟨_, rfl⟩
  rw [and32 A B a b hA hB, and32 A C a c hA hC, and32 B C b c hB hC, or32 _ _ _ _ (ofInt_wrap32 _) (ofInt_wrap32 _), or32 _ _ _ _ (ofInt_wrap32 _) (ofInt_wrap32 _), xor32 _ _ _ _ (ofInt_wrap32 _) (ofInt_wrap32 _), xor32 _ _ _ _ (ofInt_wrap32 _) (ofInt_wrap32 _)]
  exact congrArg (fun v : BitVec 32 => IntKind.u32.wrap (v.toNat : Int)) (major_vec A B C)
/- only the block's 64 bytes matter -/
theorem expA_congr (b b' : Nat → Int) (h : ∀ i, i < 64 → b i = b' i) : ∀ k, k ≤ 16 → expA b k = expA b' k
  | 0, _ => rfl
  | k + 1, hk => by
    have e : wordB b k = wordB b' k := by
      unfold wordB
      rw [h (4 * k) (by omega), h (4 * k + 1) (by omega), h (4 * k + 2) (by omega), h (4 * k + 3) (by omega)]
    show upd (expA b k) k (wordB b k) = upd (expA b' k) k (wordB b' k)
    rw [expA_congr b b' h k (by omega), e]
theorem expB_congr (b b' : Nat → Int) (h : ∀ i, i < 64 → b i = b' i) : ∀ k, expB b k = expB b' k
  | 0 => expA_congr b b' h 16 (by omega)
  | k + 1 => by
    show upd (expB b k) (k + 16) (nextW (expB b k) k) = upd (expB b' k) (k + 16) (nextW (expB b' k) k)
    rw [expB_congr b b' h k]
theorem mixF_congr (s b b' : Nat → Int) (h : ∀ i, i < 64 → b i = b' i) : mixF s b = mixF s b' := by
  unfold mixF; rw [expB_congr b b' h 48]
theorem lenF_get (f : Nat → Int) (n : Int) (i : Nat) (hi : i < 64) : ∀ k, k ≤ 8 → lenF f n k i = if 64 - k ≤ i then IntKind.u64.wrap (n * 8) / 2 ^ (8 * (63 - i)) % 256 else f i
  | 0, _ => by rw [if_neg (by omega)]; rfl
  | k + 1, hk => by
    show upd (lenF f n k) (63 - k) (IntKind.u64.wrap (n * 8) / 2 ^ (8 * k) % 256) i = _
    unfold upd
    by_cases h : i = 63 - k
    · rw [if_pos h, if_pos (by omega), show 63 - i = k by omega]
    · rw [if_neg h, lenF_get f n i hi k (by omega)]
      by_cases h2 : 64 - k ≤ i
      · rw [if_pos h2, if_pos (by omega)]
      · rw [if_neg h2, if_neg (by omega)]
/-- the first k of the last eight bytes -/
def lenB (n : Int) (k : Nat) : List Int := (List.range k).map fun j => IntKind.u64.wrap (n * 8) / 2 ^ (8 * (7 - j)) % 256
theorem lenB_length (n : Int) (k : Nat) : (lenB n k).length = k := by simp [lenB]
theorem lenB_succ (n : Int) (k : Nat) : lenB n (k + 1) = lenB n k ++ [IntKind.u64.wrap (n * 8) / 2 ^ (8 * (7 - k)) % 256] := by simp [lenB, List.range_succ]
theorem lenB_get (n : Int) (k j : Nat) (h : j < k) : (lenB n k).getD j 0 = IntKind.u64.wrap (n * 8) / 2 ^ (8 * (7 - j)) % 256 := by
  simp [lenB, List.getD_eq_getElem?_getD, h]
/-- noughts behind the bit 1 -/
def zN (n : Nat) : Nat := (119 - n % 64) % 64
def padL (n : Nat) : List Int := 128 :: (List.replicate (zN n) 0 ++ lenB n 8)
theorem padL_length (n : Nat) : (padL n).length = zN n + 9 := by simp [padL, lenB_length]
theorem padL_get (n i : Nat) : (padL n).getD i 0 = if i = 0 then 128 else if i < zN n + 1 then 0 else (lenB n 8).getD (i - (zN n + 1)) 0 := by
  unfold padL
  cases i with
  | zero => rfl
  | succ i =>
    rw [if_neg (by omega), List.getD_cons_succ, List.getD_eq_getElem?_getD, List.getElem?_append]
    simp only [List.length_replicate]
    by_cases h : i < zN n
    · rw [if_pos h, if_pos (by omega), List.getElem?_replicate, if_pos h]; rfl
    · rw [if_neg h, if_neg (by omega), ← List.getD_eq_getElem?_getD, show i + 1 - (zN n + 1) = i - zN n by omega]
/-- the padding put byte by byte is finish -/
theorem fin_put (s b : Nat → Int) (n : Nat) (hn : n < 18446744073709551616) : (putF ⟨s, b, n⟩ (padL n)).s = finF s b n ((n : Int) % 64).toNat := by
  obtain ⟨u, hu⟩ : ∃ u, n % 64 = u := ⟨_, rfl⟩
  have hu1 : ((n : Int) % 64).toNat = u := by omega
  have hz : zN n = (119 - u) % 64 := by unfold zN; rw [hu]
  rw [hu1]
  unfold finF
  by_cases h56 : u < 56
  · have hz' : zN n = 55 - u := by omega
    rw [if_pos h56, put_full s (padL n) b n u (by omega) (by omega) (by omega) (by rw [padL_length]; omega) (by omega)]
    refine mixF_congr _ _ _ fun i hi => ?_
    rw [lay_get, lenF_get _ _ _ hi 8 (by omega), padL_length, padL_get, hz']
    by_cases h1 : i < u
    · rw [if_neg (by omega), if_neg (by omega)]
      unfold padB clr upd
      rw [if_neg (by omega), if_neg (by omega)]
    · rw [if_pos (by omega)]
      by_cases h2 : i = u
      · rw [if_pos (by omega), if_neg (by omega)]
        unfold padB clr upd
        rw [if_neg (by omega), if_pos h2]
      · rw [if_neg (by omega)]
        by_cases h3 : i < 56
        · rw [if_pos (by omega), if_neg (by omega)]
          unfold padB clr
          rw [if_pos (by omega)]
        · rw [if_neg (by omega), if_pos (by omega), lenB_get _ _ _ (by omega), show 7 - (i - u - (55 - u + 1)) = 63 - i by omega]
  · have hz' : zN n = 119 - u := by omega
    rw [if_neg h56]
    have hsplit : padL n = (padL n).take (64 - u) ++ (padL n).drop (64 - u) := (List.take_append_drop _ _).symm
    have hl1 : ((padL n).take (64 - u)).length = 64 - u := by rw [List.length_take, padL_length]; omega
    have hl2 : ((padL n).drop (64 - u)).length = 64 := by rw [List.length_drop, padL_length]; omega
    rw [hsplit, putF_append, put_full s _ b n u (by omega) (by omega) (by omega) (by rw [hl1]; omega) (by omega)]
    rw [put_full _ _ _ _ 0 (by omega) (by omega) (by rw [hl1]; omega) (by rw [hl2]) (by omega)]
    have e1 : mixF s (lay b u ((padL n).take (64 - u))) = mixF s (padB b u) := by
      refine mixF_congr _ _ _ fun i hi => ?_
      rw [lay_get, hl1]
      by_cases h1 : i < u
      · rw [if_neg (by omega)]
        unfold padB clr upd
        rw [if_neg (by omega), if_neg (by omega)]
      · rw [if_pos (by omega), List.getD_eq_getElem?_getD, List.getElem?_take, if_pos (by omega), ← List.getD_eq_getElem?_getD, padL_get]
        by_cases h2 : i = u
        · rw [if_pos (by omega)]
          unfold padB clr upd
          rw [if_neg (by omega), if_pos h2]
        · rw [if_neg (by omega), if_pos (by omega)]
          unfold padB clr
          rw [if_pos (by omega)]
    show mixF (mixF s _) _ = _
    rw [e1]
    refine mixF_congr _ _ _ fun i hi => ?_
    rw [lay_get, hl2, if_pos (by omega), lenF_get _ _ _ hi 8 (by omega), List.getD_eq_getElem?_getD, List.getElem?_drop, ← List.getD_eq_getElem?_getD, padL_get, if_neg (by omega)]
    by_cases h3 : i < 56
    · rw [if_pos (by omega), if_neg (by omega)]
      unfold clr
      rw [if_pos (by omega)]
    · rw [if_neg (by omega), if_pos (by omega), lenB_get _ _ _ (by omega), show 7 - (64 - u + (i - 0) - (zN n + 1)) = 63 - i by omega]
theorem put_n (h : HS) : ∀ xs : List Int, 0 ≤ h.n → h.n < 18446744073709551616 → (putF h xs).n = (h.n + xs.length) % 18446744073709551616 := by
  intro xs
  induction xs generalizing h with
  | nil => intro h0 h1; show h.n = (h.n + ((0 : Nat) : Int)) % _; omega
  | cons x xs ih =>
    intro h0 h1
    have e : (put1 h x).n = (h.n + 1) % 18446744073709551616 := by unfold put1; split <;> rfl
    have := ih (put1 h x) (by rw [e]; omega) (by rw [e]; omega)
    show (putF (put1 h x) xs).n = _
    rw [this, e, List.length_cons]
    omega
/-- the whole padded message -/
def msgL (xs : List Int) : List Int := xs ++ padL xs.length
theorem msgL_length (xs : List Int) : (msgL xs).length % 64 = 0 := by
  unfold msgL
  rw [List.length_append, padL_length]
  unfold zN
  omega
theorem sum_msg (xs : List Int) (hl : xs.length < 18446744073709551616) : sumF xs = outF (putF h0 (msgL xs)).s := by
  have hn : (putF h0 xs).n = (xs.length : Nat) := by
    rw [put_n h0 xs (by decide) (by decide)]
    show ((0 : Int) + xs.length) % _ = _
    omega
  unfold sumF hsum msgL
  rw [putF_append]
  congr 1
  have := fin_put (putF h0 xs).s (putF h0 xs).b xs.length hl
  rw [← hn] at this
  exact this.symm
/-- one block of the message -/
def blkF (ms : List Int) (at_ : Nat) : Nat → Int := fun i => ms.getD (at_ + i) 0
def stF (ms : List Int) (at_ : Nat) : Nat → Int := (putF h0 (ms.take at_)).s
theorem stF_zero (ms : List Int) : stF ms 0 = BT := rfl
theorem stF_all (ms : List Int) : stF ms ms.length = (putF h0 ms).s := by unfold stF; rw [List.take_length]
theorem stF_next (ms : List Int) (p : Nat) (hp : p % 64 = 0) (hl : p + 64 ≤ ms.length) (hm : ms.length < 18446744073709551616) : stF ms (p + 64) = mixF (stF ms p) (blkF ms p) := by
  have hn : (putF h0 (ms.take p)).n = (p : Nat) := by
    rw [put_n h0 _ (by decide) (by decide), List.length_take]
    show ((0 : Int) + (min p ms.length : Nat)) % _ = _
    omega
  unfold stF
  have hs : ms.take (p + 64) = ms.take p ++ (ms.drop p).take 64 := by rw [List.take_add]
  have hl2 : ((ms.drop p).take 64).length = 64 := by rw [List.length_take, List.length_drop]; omega
  rw [hs, putF_append]
  have := put_full (putF h0 (ms.take p)).s ((ms.drop p).take 64) (putF h0 (ms.take p)).b (putF h0 (ms.take p)).n 0 (by rw [hn]; omega) (by rw [hn]; omega) (by rw [hn]; omega) (by rw [hl2]) (by omega)
  rw [show putF (putF h0 (ms.take p)) ((ms.drop p).take 64) = _ from this]
  show mixF _ _ = _
  refine mixF_congr _ _ _ fun i hi => ?_
  rw [lay_get, hl2, if_pos (by omega), List.getD_eq_getElem?_getD, List.getElem?_take, if_pos (by omega), List.getElem?_drop]
  unfold blkF
  rw [List.getD_eq_getElem?_getD, Nat.sub_zero]
end Go.Proofs.YtjnpcmfpiejmjaaDoor
namespace Go.Proofs.YtjnpcmfpiejmjaaDoor
set_option linter.unusedVariables false
set_option linter.unusedSimpArgs false
open Go.RowKit
set_option maxRecDepth 100000
theorem results_cell2 {P : Program} {fn : Func} {p q : Tmp} {ty uy : TypeId} (h : fn.results = #[.cell p ty, .cell q uy]) (tmps : Array Value) (w : World) (g g2 : Nat) (t t2 : TypeId) (cs cs2 : Array Value) (fr fr2 : Nat × Nat) (d d2 : TypeDesc)
    (hp : tmps.getD p undef = .pointer (some ⟨g, 0, none⟩)) (hg : w.heap[g]? = some (.cells cs t fr))
    (hu : P.underlying ty = some d) (hd : (match d with | .struct _ | .array _ _ => true | _ => false) = true) (hi : (P.info? ty).map (·.size) = some cs.size)
    (hp2 : tmps.getD q undef = .pointer (some ⟨g2, 0, none⟩)) (hg2 : w.heap[g2]? = some (.cells cs2 t2 fr2))
    (hu2 : P.underlying uy = some d2) (hd2 : (match d2 with | .struct _ | .array _ _ => true | _ => false) = true) (hi2 : (P.info? uy).map (·.size) = some cs2.size) :
    (results fn tmps).run P w = .ok (.tuple #[.agg cs, .agg cs2]) w := by
  have hp' : tmps[p]?.getD undef = .pointer (some ⟨g, 0, none⟩) := by simpa using hp
  have hp2' : tmps[q]?.getD undef = .pointer (some ⟨g2, 0, none⟩) := by simpa using hp2
  simp [results, h, hp', hp2', asAddr, run_loadVar_row w g t ty cs fr d hg hu hd hi, run_loadVar_row w g2 t2 uy cs2 fr2 d2 hg2 hu2 hd2 hi2]
end Go.Proofs.YtjnpcmfpiejmjaaDoor
namespace Go.Proofs.YtjnpcmfpiejmjaaDoor
set_option linter.unusedVariables false
set_option linter.unusedSimpArgs false
open Go.RowKit
set_option maxRecDepth 100000
theorem one_in1 (w : World) (x : Int) : BytesIn (w.alloc (.cells #[.int .u8 x] 5)) (.slice (some ⟨w.heap.size, 0, none⟩) 1 1) [x] := by
  refine ⟨_, 1, rfl, by simp, by simp [maxLen], .inr ⟨w.heap.size, 0, rfl, fun i y hi => ?_⟩⟩
  match i, hi with
  | 0, hi =>
    simp at hi
    subst hi
    rw [cell_of_row _ w.heap.size 0 _ _ _ (heap_alloc_new _ _)]
    rfl
  | i + 1, hi => simp at hi
theorem owns_msg {w : World} {base n c : Nat} {a : Option Addr} {M : List Int} (h : w.ownsRow base 5 1 (.slice a n c) n (byteVals M)) (hn : M.length = n) (hp : 0 < n) :
    ∃ g0, base ≤ g0 ∧ a = some ⟨g0, 0, none⟩ ∧ g0 < w.heap.size ∧ ∀ i, i < n → w.cell? ⟨g0, i, none⟩ = some (.int .u8 (M.getD i 0)) := by
  rcases h.2 with ⟨_, h0⟩ | ⟨g, c', cur, hv, hb, hg, hc, hm, hs, ht⟩
  · omega
  · injection hv with e1 e2 e3
    subst e1
    refine ⟨g, hb, rfl, ?_, fun i hi => ?_⟩
    · exact (h.lt g rfl).2
    · have := h.cells (g := g) rfl i (.int .u8 (M.getD i 0)) (by simp [byteVals, List.getElem?_eq_getElem (show i < M.length by omega)])
      rw [Addr.add_mid] at this
      simpa using this
/-- the words after t steps -/
def expT (bl : Nat → Int) (t : Nat) : Nat → Int := if t ≤ 16 then expA bl t else expB bl (t - 16)
theorem expT_lo (bl : Nat → Int) (t : Nat) (h : t < 16) : upd (expT bl t) t (wordB bl t) = expT bl (t + 1) := by
  unfold expT; rw [if_pos (by omega), if_pos (by omega)]; rfl
theorem expT_hi (bl : Nat → Int) (k : Nat) : upd (expT bl (k + 16)) (k + 16) (nextW (expT bl (k + 16)) k) = expT bl (k + 16 + 1) := by
  have e : expT bl (k + 16) = expB bl k := by
    unfold expT
    by_cases h : k = 0
    · subst h; rfl
    · rw [if_neg (by omega), show k + 16 - 16 = k by omega]
  rw [e]
  unfold expT
  rw [if_neg (by omega), show k + 16 + 1 - 16 = k + 1 by omega]
  rfl
theorem expT_end (bl : Nat → Int) : expT bl 64 = expB bl 48 := by unfold expT; rw [if_neg (by omega)]
theorem nextW_sum (e : Nat → Int) (k0 k1 k2 k3 : Nat) (h1 : k1 = k0 + 1) (h2 : k2 = k0 + 14) (h3 : k3 = k0 + 9) :
    (bits BinOp.xor IntKind.u32 (bits BinOp.xor IntKind.u32 (rotI (e k2) 15) (rotI (e k2) 13)) (e k2 / 1024) + e k3 + bits BinOp.xor IntKind.u32 (bits BinOp.xor IntKind.u32 (rotI (e k1) 25) (rotI (e k1) 14)) (e k1 / 8) + e k0) % 4294967296 = nextW e k0 := by
  subst h1; subst h2; subst h3
  unfold nextW
  congr 1
  omega
/-- the first k words of the state summed -/
def addK (h v : Nat → Int) (k : Nat) : Nat → Int := fun i => if i < k then (h i + v i) % 4294967296 else h i
theorem addK_zero (h v : Nat → Int) : addK h v 0 = h := by funext i; unfold addK; rw [if_neg (by omega)]
theorem addK_at (h v : Nat → Int) (k : Nat) : addK h v k k = h k := by unfold addK; rw [if_neg (by omega)]
theorem addK_succ (h v : Nat → Int) (k : Nat) : upd (addK h v k) k ((h k + v k) % 4294967296) = addK h v (k + 1) := by
  funext i
  unfold addK upd
  by_cases h1 : i = k
  · subst h1; rw [if_pos rfl, if_pos (by omega)]
  · rw [if_neg h1]
    by_cases h2 : i < k
    · show (if i < k then _ else _) = _
      rw [if_pos h2, if_pos (by omega)]
    · show (if i < k then _ else _) = _
      rw [if_neg h2, if_neg (by omega)]
/-- a round's second sum -/
def twoF (t : Nat → Int) : Int :=
  bits BinOp.xor IntKind.u32 (bits BinOp.xor IntKind.u32 (rotI (t 0) 30) (rotI (t 0) 19)) (rotI (t 0) 10) +
    bits BinOp.xor IntKind.u32 (bits BinOp.xor IntKind.u32 (bits BinOp.and IntKind.u32 (t 0) (t 1)) (bits BinOp.and IntKind.u32 (t 0) (t 2))) (bits BinOp.and IntKind.u32 (t 1) (t 2))
theorem one_eq (k w : Int) (t : Nat → Int) : ((t 7 + bits BinOp.xor IntKind.u32 (bits BinOp.xor IntKind.u32 (rotI (t 4) 26) (rotI (t 4) 21)) (rotI (t 4) 7) +
      bits BinOp.or IntKind.u32 (bits BinOp.and IntKind.u32 (t 4) (t 5)) (bits BinOp.and IntKind.u32 (bits BinOp.xor IntKind.u32 4294967295 (t 4)) (t 6)) + k) % 4294967296 + w) % 4294967296 = firstF k w t % 4294967296 := by
  rw [choose_bits]
  unfold firstF
  omega
theorem two_eq (t : Nat → Int) : (bits BinOp.xor IntKind.u32 (bits BinOp.xor IntKind.u32 (rotI (t 0) 30) (rotI (t 0) 19)) (rotI (t 0) 10) +
    bits BinOp.or IntKind.u32 (bits BinOp.or IntKind.u32 (bits BinOp.and IntKind.u32 (t 0) (t 1)) (bits BinOp.and IntKind.u32 (t 0) (t 2))) (bits BinOp.and IntKind.u32 (t 1) (t 2))) % 4294967296 = twoF t % 4294967296 := by
  rw [major_bits]
  rfl
theorem row_round (k w : Int) (t : Nat → Int) (one two : Int) (h1 : firstF k w t % 4294967296 = one) (h2 : twoF t % 4294967296 = two) :
    (#[.int .u32 ((one + two) % 4294967296), .int .u32 (t 0), .int .u32 (t 1), .int .u32 (t 2), .int .u32 ((t 3 + one) % 4294967296), .int .u32 (t 4), .int .u32 (t 5), .int .u32 (t 6)] : Array Value) = rowOf .u32 8 (roundF k w t) := by
  have e0 : roundF k w t 0 = (one + two) % 4294967296 := by
    rw [← h1, ← h2]
    unfold twoF
    show (_ % 4294967296 + _) % 4294967296 = _
    omega
  have e4 : roundF k w t 4 = (t 3 + one) % 4294967296 := by rw [← h1]; rfl
  rw [← e0, ← e4]
  rfl
end Go.Proofs.YtjnpcmfpiejmjaaDoor
namespace Go.Proofs.YtjnpcmfpiejmjaaDoor
set_option linter.unusedVariables false
set_option linter.unusedSimpArgs false
open Go.RowKit
set_option maxRecDepth 100000
theorem pow_sep (a b n : Nat) (h1 : 2 ^ a < n) (h2 : n ≤ 2 * 2 ^ a) (h3 : 2 ^ b < n) (h4 : n ≤ 2 * 2 ^ b) : a = b := by
  have e1 : 2 ^ a < 2 ^ (b + 1) := by rw [Nat.pow_succ]; omega
  have e2 : 2 ^ b < 2 ^ (a + 1) := by rw [Nat.pow_succ]; omega
  have := (Nat.pow_lt_pow_iff_right (a := 2) (by omega)).1 e1
  have := (Nat.pow_lt_pow_iff_right (a := 2) (by omega)).1 e2
  omega
theorem split_unique (n j : Nat) (h2 : 2 ≤ n) (hn : n < 18446744073709551616) (h1 : 2 ^ j < n) (h3 : n ≤ 2 * 2 ^ j) : 2 ^ j = splitF n := by
  have sp := splitF_spec n h2 hn
  unfold splitF at sp ⊢
  rw [pow_sep j (Lib.bitLen (n - 1) - 1) n h1 h3 sp.2.1 sp.2.2.1]
theorem RowAt.bytesIn {w : World} {b : Nat} {a : Nat → Int} (h : RowAt w b .u8 32 23 a) : BytesIn w (.slice (some ⟨b, 0, none⟩) 32 32) (bytesOf a) := by
  refine ⟨_, _, by rw [bytesOf_length], by rw [bytesOf_length]; omega, by rw [bytesOf_length]; unfold maxLen; omega, .inr ⟨b, 0, rfl, fun i x hi => ?_⟩⟩
  have hil : i < 32 := by have := (List.getElem?_eq_some_iff.1 hi).1; rw [bytesOf_length] at this; exact this
  rw [Nat.zero_add, h.cell i hil]
  simp [bytesOf, hil] at hi
  rw [hi]
theorem own_cat {w : World} {g : Nat} {v : Value} {a b : Nat → Int} (h : w.ownsRow g 5 1 v (33 + (bytesOf b).length) (byteVals (1 :: bytesOf a) ++ byteVals (bytesOf b))) : w.ownsRow g 5 1 v (1 :: (bytesOf a ++ bytesOf b)).length (byteVals (1 :: (bytesOf a ++ bytesOf b))) := by
  rw [← byteVals_append] at h
  have e : 33 + (bytesOf b).length = (1 :: (bytesOf a ++ bytesOf b)).length := by simp [bytesOf_length]
  rw [e] at h; exact h
end Go.Proofs.YtjnpcmfpiejmjaaDoor
namespace Go.Proofs.YtjnpcmfpiejmjaaDoor
set_option linter.unusedVariables false
set_option linter.unusedSimpArgs false
open Go.RowKit
set_option maxRecDepth 100000
theorem build32s (f : Nat → Int) : Array.foldl (fun (cs : Array Value) (x : Value × Nat) => cs.setIfInBounds x.snd x.fst) #[Value.int IntKind.u8 0, Value.int IntKind.u8 0, Value.int IntKind.u8 0, Value.int IntKind.u8 0, Value.int IntKind.u8 0, Value.int IntKind.u8 0, Value.int IntKind.u8 0, Value.int IntKind.u8 0, Value.int IntKind.u8 0, Value.int IntKind.u8 0, Value.int IntKind.u8 0, Value.int IntKind.u8 0, Value.int IntKind.u8 0, Value.int IntKind.u8 0, Value.int IntKind.u8 0, Value.int IntKind.u8 0, Value.int IntKind.u8 0, Value.int IntKind.u8 0, Value.int IntKind.u8 0, Value.int IntKind.u8 0, Value.int IntKind.u8 0, Value.int IntKind.u8 0, Value.int IntKind.u8 0, Value.int IntKind.u8 0, Value.int IntKind.u8 0, Value.int IntKind.u8 0, Value.int IntKind.u8 0, Value.int IntKind.u8 0, Value.int IntKind.u8 0, Value.int IntKind.u8 0, Value.int IntKind.u8 0, Value.int IntKind.u8 0] ((rowOf IntKind.u8 32 f).zipIdx 0) 0 32 = rowOf .u8 32 f := by kernel_rfl
def RPathPost (ps : List (Nat → Int)) (w : World) (e : Ending) (w' : World) : Prop := ∃ r, e = .returned (.tuple #[r, .int .i64 0]) ∧ w'.ownsRow w.heap.size 23 32 r ps.length (flatC ps) ∧ Below w.heap.size w w'
/-- Path in all cases -/
def pathR (hs : List (Nat → Int)) (i : Int) : List (Nat → Int) × Option Nat := if 0 ≤ i ∧ i < hs.length then (pathF hs i.toNat, none) else ([], some 1)
theorem pathR_len (hs : List (Nat → Int)) (i : Int) (h : hs.length ≤ 9223372036854775807) : (pathR hs i).1.length ≤ 63 := by
  unfold pathR
  split
  · exact path_depth 63 _ _ (by omega) (by omega) (by omega)
  · simp
end Go.Proofs.YtjnpcmfpiejmjaaDoor
namespace Go.Proofs.YtjnpcmfpiejmjaaDoor
set_option linter.unusedVariables false
set_option linter.unusedSimpArgs false
open Go.RowKit
set_option maxRecDepth 100000
theorem hashS_ne (s : RSt) (h : (hashS s).2.1 ≠ []) : s.1 ≠ [] := by
  rintro e
  obtain ⟨ys, x⟩ := s
  subst e
  cases x with
  | some x => exact h rfl
  | none => exact h rfl
theorem sgz_one (leaf : Nat) : (sgC leaf (.slice none 0 0) (.slice none 0 0)).all (·.oneCell') = true := by simp [sgC, Value.oneCell']
theorem sg_one (leaf : Nat) (a b : Option Addr) (n c m d : Nat) : (sgC leaf (.slice a n c) (.slice b m d)).all (·.oneCell') = true := by simp [sgC, Value.oneCell']
theorem flat_wide {w : World} {B n : Nat} {v : Value} {vs : List Value} (h : w.ownsRow B 23 32 v n vs) : ∃ a c, v = .slice a n c := by
  rcases h.2 with ⟨rfl, h0⟩ | ⟨g, c, _, rfl, _⟩
  · exact ⟨none, 0, by rw [h0]⟩
  · exact ⟨_, c, rfl⟩
theorem sg_all {w w2 : World} {vo vp : Value} {on : List Int} {ps : List (Nat → Int)} (lf : Nat) (ho : BytesIn w vo on) (hp : HashesIn w2 vp ps) : (sgC lf vo vp).all (·.oneCell') = true := by
  obtain ⟨a, c, rfl, -⟩ := ho
  obtain ⟨b, d, rfl, -⟩ := hp
  exact sg_one _ _ _ _ _ _ _
end Go.Proofs.YtjnpcmfpiejmjaaDoor
namespace Go.Proofs.YtjnpcmfpiejmjaaDoor
set_option linter.unusedVariables false
set_option linter.unusedSimpArgs false
open Go.RowKit
set_option maxRecDepth 100000
end Go.Proofs.YtjnpcmfpiejmjaaDoor
namespace Go.Proofs.YtjnpcmfpiejmjaaDoor
set_option linter.unusedVariables false
set_option linter.unusedSimpArgs false
open Go.RowKit
set_option maxRecDepth 100000
theorem varint_one {n : Nat} (h : n < 128) : varint n = [(n : Int)] := by simp [varint, glen_small h, gby]
theorem step_sum (leaf chain : Int) (v : Nat → Int) (a k q : Nat) (hq : q = a + k) : sumF ([3] ++ varint (uN leaf) ++ varint (uN chain) ++ varint q ++ rowL 32 (stepN leaf chain v a k)) = stepN leaf chain v a (k + 1) := by
  subst hq
  show _ = step1 leaf chain (stepN leaf chain v a k) (a + k)
  unfold step1
  rw [varint_one (n := 3) (by decide)]
  rfl
theorem start_sum (seed : Nat → Int) (leaf chain : Int) : sumF ([2] ++ rowL 32 seed ++ varint (uN leaf) ++ varint (uN chain)) = startF seed leaf chain := by
  unfold startF
  rw [varint_one (n := 2) (by decide)]
  rfl
theorem dUint_in (b : Value) (bs : List Int) (m : Int) (n : Nat) (hm : m = (n : Int)) (w : World) (hb : BytesIn w b bs) (hn : n < 18446744073709551616) (hl : bs.length + 10 ≤ 140737488355328) :
    Calls Tryd.prog 73 #[b, .int .u64 m] w fun e w' => ∃ v', e = .returned v' ∧ BytesIn w' v' (bs ++ varint n) ∧ Below w.heap.size w w' := by
  subst hm
  refine (dUint_any b bs n w hb hn hl).mono ?_
  rintro e w' ⟨v', he, ho, hbl⟩
  exact ⟨v', he, owns_in ho (by rw [List.length_append, varint_length]; have := glen_le hn; unfold maxLen; omega), hbl⟩
theorem dHash_in (b : Value) (bs : List Int) (f : Nat → Int) (w : World) (hb : BytesIn w b bs) (hl : bs.length + 32 ≤ 140737488355328) :
    Calls Tryd.prog 47 #[b, .agg (rowOf .u8 32 f)] w fun e w' => ∃ v', e = .returned v' ∧ BytesIn w' v' (bs ++ rowL 32 f) ∧ Below w.heap.size w w' := by
  refine (dHash_any b bs f w hb hl).mono ?_
  rintro e w' ⟨v', he, ho, hbl⟩
  exact ⟨v', he, owns_in ho (by rw [List.length_append, rowL32]; unfold maxLen; omega), hbl⟩
/-- rows of 32 bytes below a mark -/
structure Has2 (w w' : World) (b r B : Nat) (v : Nat → Int) : Prop where
  below : Below w.heap.size w w'
  val : RowAt w' b .u8 32 23 v
  res : RowAt w' r .u8 32 23 (fun _ => 0)
  size : B ≤ w'.heap.size
  hb : b < B
  hr : r < B
  wB : w.heap.size ≤ B
theorem Has2.calls {w w' w2 : World} {b r B : Nat} {v : Nat → Int} (m : Has2 w w' b r B v) (h : Below B w' w2) : Has2 w w2 b r B v :=
  ⟨m.below.trans (h.mono m.wB), m.val.below h m.hb, m.res.below h m.hr, Nat.le_trans m.size h.size, m.hb, m.hr, m.wB⟩
theorem Has2.call {w w' w2 : World} {b r B : Nat} {v : Nat → Int} (m : Has2 w w' b r B v) (h : Below w'.heap.size w' w2) : Has2 w w2 b r B v := m.calls (h.mono m.size)
theorem Has2.put {w w' : World} {b r B : Nat} {v : Nat → Int} (m : Has2 w w' b r B v) (h : w.heap.size ≤ b) (hbr : b ≠ r) (v' : Nat → Int) : Has2 w (w'.setRow b (rowOf .u8 32 v')) b r B v' :=
  ⟨below_setRow m.below h _, setRow_heap _ _ _ _ _ _ m.val, (setRow_other _ _ _ _ (Ne.symm hbr)).trans m.res, by simpa [World.setRow] using m.size, m.hb, m.hr, m.wB⟩
theorem has2_start (w : World) (v : Nat → Int) : Has2 w ((w.alloc (.cells (rowOf .u8 32 v) 23)).alloc (.cells (rowOf .u8 32 (fun _ => 0)) 23)) w.heap.size (w.heap.size + 1) (w.heap.size + 1 + 1) v :=
  ⟨(below_alloc w _).trans ((below_alloc _ _).mono (by simp)), (RowAt.new w .u8 32 23 v).alloc _, by
    have := RowAt.new (w.alloc (.cells (rowOf .u8 32 v) 23)) .u8 32 23 (fun _ => 0)
    rw [shSize_alloc] at this; exact this, by simp, by omega, by omega, by omega⟩
end Go.Proofs.YtjnpcmfpiejmjaaDoor
namespace Go.Proofs.YtjnpcmfpiejmjaaDoor
set_option linter.unusedVariables false
set_option linter.unusedSimpArgs false
open Go.RowKit
set_option maxRecDepth 100000
theorem ownsRow_lower {w : World} {B B' n : Nat} {e : TypeId} {s : Nat} {v : Value} {vs : List Value} (h : w.ownsRow B e s v n vs) (hB : B' ≤ B) : w.ownsRow B' e s v n vs := by
  refine ⟨h.1, ?_⟩
  rcases h.2 with hn | ⟨g, cap, cur, h1, hb, rest⟩
  · exact .inl hn
  · exact .inr ⟨g, cap, cur, h1, Nat.le_trans hB hb, rest⟩
def noB : Value := .tuple #[.slice none 0 0, errV (some 1)]
theorem nat_get (L : List Nat) (k d : Nat) (h : L[k]? = some d) : (natInts L)[k]? = some (d : Int) := by simp [natInts, h]
end Go.Proofs.YtjnpcmfpiejmjaaDoor
namespace Go.Proofs.YtjnpcmfpiejmjaaDoor
set_option linter.unusedVariables false
set_option linter.unusedSimpArgs false
open Go.RowKit
set_option maxRecDepth 100000
theorem lack2 (s a b : Nat) (ha : a ≤ 15) (hb : b ≤ 15) : (s : Int) + 30 - a - b = ((s + (15 - a) + (15 - b) : Nat) : Int) := by omega
theorem lacks_two (l : List Nat) (a b : Nat) : lacks (l ++ [a, b]) = lacks l + (15 - a) + (15 - b) := by rw [lacks_append]; simp [lacks]; omega
end Go.Proofs.YtjnpcmfpiejmjaaDoor
namespace Go.Proofs.YtjnpcmfpiejmjaaDoor
set_option linter.unusedVariables false
set_option linter.unusedSimpArgs false
open Go.RowKit
set_option maxRecDepth 100000
theorem has2_startz (w : World) (v : Nat → Int) : Has2 w ((w.alloc (.cells (rowOf .u8 32 v) 23)).alloc (.cells (rowOf .u8 32 zF) 23)) w.heap.size (w.heap.size + 1) (w.heap.size + 1 + 1) v := has2_start w v
end Go.Proofs.YtjnpcmfpiejmjaaDoor
namespace Go.Proofs.YtjnpcmfpiejmjaaDoor
set_option linter.unusedVariables false
set_option linter.unusedSimpArgs false
open Go.RowKit
set_option maxRecDepth 100000
structure SgM (w2 w' : World) (b : Nat) (f : Nat → Int) (gb go : Nat) (L : List Nat) (s : Value) (l : List Int) : Prop where
  below : Below w2.heap.size w2 w'
  val : RowAt w' b .u8 32 23 f
  hb : b < w2.heap.size
  hg : gb < w2.heap.size
  cells : ∀ i x, (natInts L)[i]? = some x → w'.cell? ⟨gb, go + i, none⟩ = some (.int .i64 x)
  bytes : BytesIn w' s l
theorem SgM.calls {w2 w' w3 : World} {b : Nat} {f : Nat → Int} {gb go : Nat} {L : List Nat} {s : Value} {l : List Int} (m : SgM w2 w' b f gb go L s l) (h : Below w'.heap.size w' w3) : SgM w2 w3 b f gb go L s l :=
  ⟨m.below.trans (h.mono m.below.size), m.val.below h m.val.lt, m.hb, m.hg, fun i x hi => (h.cell (p := ⟨gb, go + i, none⟩) (World.block_lt_of_cell? w' _ (m.cells i x hi))).trans (m.cells i x hi), m.bytes.below h⟩
theorem SgM.with {w2 w' : World} {b : Nat} {f : Nat → Int} {gb go : Nat} {L : List Nat} {s s' : Value} {l l' : List Int} (m : SgM w2 w' b f gb go L s l) (h : BytesIn w' s' l') : SgM w2 w' b f gb go L s' l' := ⟨m.below, m.val, m.hb, m.hg, m.cells, h⟩
end Go.Proofs.YtjnpcmfpiejmjaaDoor
namespace Go.Proofs.YtjnpcmfpiejmjaaDoor
set_option linter.unusedVariables false
set_option linter.unusedSimpArgs false
open Go.RowKit
set_option maxRecDepth 100000
def longV : Value := .tuple #[.agg (rowOf .u8 32 zF), errV (some 2)]
theorem arrayAt32 (a : Addr) (cap : Nat) (w : World) : (Instr.arrayAt 23 (.slice (some a) 32 cap)).run Tryd.prog w = .ok (.pointer (some a)) w := by
  simp [Instr.arrayAt, run_underlying Tryd.underlying23]
theorem sliceS (sb so ns cs k : Nat) (h1 : 32 * (k + 1) ≤ ns) (h2 : ns ≤ cs) (w : World) : (Instr.slice 33 (.slice (some ⟨sb, so, none⟩) ns cs) (some (.int .i64 (32 * (k : Int)))) (some (.int .i64 (32 * ((k : Int) + 1)))) none).run Tryd.prog w = .ok (.slice (some ⟨sb, so + 32 * k, none⟩) 32 (cs - 32 * k)) w := by
  have h := sliceBlh (some ⟨sb, so, none⟩) ns cs (32 * k) (32 * (k + 1)) (by omega) (by omega) w
  unfold cutA at h
  rw [if_neg (by omega)] at h
  simp only [Option.map_some] at h
  rw [Addr.add_mid, show 32 * (k + 1) - 32 * k = 32 by omega, show ((32 * k : Nat) : Int) = 32 * (k : Int) by omega, show ((32 * (k + 1) : Nat) : Int) = 32 * ((k : Int) + 1) by omega] at h
  exact h
theorem seg_range {w : World} {sb so k : Nat} {ss : List Int} (h : ∀ i x, ss[i]? = some x → w.cell? ⟨sb, so + i, none⟩ = some (.int .u8 x)) (hl : 32 * (k + 1) ≤ ss.length) :
    w.rangeAt sb (so + 32 * k) ((List.range 32).map fun i => Value.int .u8 (((ss.drop (32 * k)).take 32).getD i 0)) := fun j v hj => by
  simp only [List.getElem?_map] at hj
  rcases Nat.lt_or_ge j 32 with h1 | h1
  · rw [List.getElem?_range h1] at hj
    cases hj
    have e : ss[32 * k + j]? = some (((ss.drop (32 * k)).take 32).getD j 0) := by
      have h2 : 32 * k + j < ss.length := by omega
      rw [List.getElem?_eq_getElem h2]
      simp [List.getD, List.getElem?_take, h1, List.getElem?_drop, List.getElem?_eq_getElem h2]
    have := h _ _ e
    rw [Nat.add_assoc]; exact this
  · rw [List.getElem?_eq_none (by simpa using h1)] at hj; cases hj
end Go.Proofs.YtjnpcmfpiejmjaaDoor
