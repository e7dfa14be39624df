/- Part 21 of the proof. -/
import Derived.Laws.BitsAllLaws
import Derived.LaidEql
import Derived.Stop.Asserts
import Derived.RowKitTokens
import Derived.Lib.IfaceEq
import Derived.Test.YtjnpcmfpiejmjaaDoorBk1
import Derived.Test.YtjnpcmfpiejmjaaDoorBk12
import Derived.Test.YtjnpcmfpiejmjaaDoorBk20
namespace Go.Proofs.YtjnpcmfpiejmjaaDoor
set_option linter.unusedVariables false
set_option linter.unusedSimpArgs false
def tabL : List Nat := [0, 498536548, 997073096, 651767980, 1994146192, 1802195444, 1303535960, 1342533948, 3988292384, 4027552580, 3604390888, 3412177804, 2607071920, 2262029012, 2685067896, 3183342108]
def tabN (i : Nat) : Nat := tabL.getD i 0
theorem tabN_lt (i : Nat) (h : i < 16) : tabN i < 4294967296 := by
  have : ∀ i : Fin 16, tabN i.val < 4294967296 := by decide
  exact this ⟨i, h⟩
theorem tabN_top (i j : Nat) (hi : i < 16) (hj : j < 16) (h : tabN i / 268435456 = tabN j / 268435456) : i = j := by
  have : ∀ i j : Fin 16, tabN i.val / 268435456 = tabN j.val / 268435456 → i.val = j.val := by decide
  exact this ⟨i, hi⟩ ⟨j, hj⟩ h
/-- four bits -/
def nib (r : Nat) : Nat := r / 16 ^^^ tabN (r % 16)
/-- a byte -/
def byteS (r x : Nat) : Nat := nib (nib (r ^^^ x))
theorem xor_lt32 {a b : Nat} (ha : a < 4294967296) (hb : b < 4294967296) : a ^^^ b < 4294967296 := Nat.xor_lt_two_pow (n := 32) ha hb
theorem nib_lt {r : Nat} (h : r < 4294967296) : nib r < 4294967296 := xor_lt32 (by omega) (tabN_lt _ (by omega))
theorem byteS_lt {r x : Nat} (h : r < 4294967296) (hx : x < 256) : byteS r x < 4294967296 := nib_lt (nib_lt (xor_lt32 h (by omega)))
theorem xor_top (a t : Nat) (ha : a < 268435456) : (a ^^^ t) / 268435456 = t / 268435456 := by
  have h := Nat.shiftRight_xor_distrib (a := a) (b := t) (i := 28)
  simp only [Nat.shiftRight_eq_div_pow] at h
  rw [show (2 : Nat) ^ 28 = 268435456 from rfl, Nat.div_eq_of_lt ha, Nat.zero_xor] at h
  exact h
theorem xor_cancel {a b t : Nat} (h : a ^^^ t = b ^^^ t) : a = b := by
  have := congrArg (· ^^^ t) h
  simpa [Nat.xor_assoc] using this
theorem xor_cancel_l {a b t : Nat} (h : t ^^^ a = t ^^^ b) : a = b := by
  rw [Nat.xor_comm t a, Nat.xor_comm t b] at h
  exact xor_cancel h
theorem nib_inj {a b : Nat} (ha : a < 4294967296) (hb : b < 4294967296) (h : nib a = nib b) : a = b := by
  have h1 : tabN (a % 16) / 268435456 = tabN (b % 16) / 268435456 := by
    rw [← xor_top (a / 16) _ (by omega), ← xor_top (b / 16) (tabN (b % 16)) (by omega)]
    exact congrArg (· / 268435456) h
  have h2 := tabN_top _ _ (by omega) (by omega) h1
  unfold nib at h
  rw [h2] at h
  have h3 := xor_cancel h
  omega
theorem byteS_inj_r {a b x : Nat} (ha : a < 4294967296) (hb : b < 4294967296) (hx : x < 256) (h : byteS a x = byteS b x) : a = b :=
  xor_cancel (nib_inj (xor_lt32 ha (by omega)) (xor_lt32 hb (by omega)) (nib_inj (nib_lt (xor_lt32 ha (by omega))) (nib_lt (xor_lt32 hb (by omega))) h))
theorem byteS_inj_x {r x y : Nat} (hr : r < 4294967296) (hx : x < 256) (hy : y < 256) (h : byteS r x = byteS r y) : x = y :=
  xor_cancel_l (nib_inj (xor_lt32 hr (by omega)) (xor_lt32 hr (by omega)) (nib_inj (nib_lt (xor_lt32 hr (by omega))) (nib_lt (xor_lt32 hr (by omega))) h))
theorem bytesOk_nil : bytesOk [] := fun _ h => by cases h
theorem bytesOk.cons {x : Int} {xs : List Int} (h : bytesOk (x :: xs)) : (0 ≤ x ∧ x < 256) ∧ bytesOk xs := ⟨h x (by simp), fun y hy => h y (by simp [hy])⟩
theorem bytesOk.append {xs ys : List Int} (h1 : bytesOk xs) (h2 : bytesOk ys) : bytesOk (xs ++ ys) := fun x hx => by
  rcases List.mem_append.1 hx with h | h
  · exact h1 x h
  · exact h2 x h
theorem bytesOk.take {xs : List Int} (h : bytesOk xs) (n : Nat) : bytesOk (xs.take n) := fun x hx => h x (List.mem_of_mem_take hx)
theorem bytesOk.drop {xs : List Int} (h : bytesOk xs) (n : Nat) : bytesOk (xs.drop n) := fun x hx => h x (List.mem_of_mem_drop hx)
theorem bytesOk.set {xs : List Int} (h : bytesOk xs) (i : Nat) (y : Int) (hy : 0 ≤ y ∧ y < 256) : bytesOk (xs.set i y) := fun x hx => by
  rcases List.mem_or_eq_of_mem_set hx with h1 | h1
  · exact h x h1
  · rw [h1]; exact hy
/-- the register behind xs -/
def regF (r : Nat) : List Int → Nat
  | [] => r
  | x :: xs => regF (byteS r x.toNat) xs
theorem regF_lt : ∀ (xs : List Int) (r : Nat), r < 4294967296 → bytesOk xs → regF r xs < 4294967296
  | [], _, h, _ => h
  | _ :: xs, _, h, ho => regF_lt xs _ (byteS_lt h (by have := ho.cons.1; omega)) ho.cons.2
theorem regF_append : ∀ (xs ys : List Int) (r : Nat), regF r (xs ++ ys) = regF (regF r xs) ys
  | [], _, _ => rfl
  | _ :: xs, ys, _ => regF_append xs ys _
theorem regF_inj : ∀ (xs : List Int) (a b : Nat), a < 4294967296 → b < 4294967296 → bytesOk xs → regF a xs = regF b xs → a = b
  | [], _, _, _, _, _, h => h
  | x :: xs, a, b, ha, hb, ho, h => by
    have hx := ho.cons.1
    have hx' : x.toNat < 256 := by omega
    exact byteS_inj_r ha hb hx' (regF_inj xs _ _ (byteS_lt ha hx') (byteS_lt hb hx') ho.cons.2 h)
/-- the checksum -/
def crcF (xs : List Int) : Nat := 4294967295 ^^^ regF 4294967295 xs
theorem crcF_lt {xs : List Int} (h : bytesOk xs) : crcF xs < 4294967296 := xor_lt32 (by decide) (regF_lt xs _ (by decide) h)
theorem set_split (xs : List Int) (i : Nat) (h : i < xs.length) (y : Int) : xs.set i y = xs.take i ++ y :: xs.drop (i + 1) := List.set_eq_take_append_cons_drop.trans (if_pos h)
theorem get_split (xs : List Int) (i : Nat) (x : Int) (h : xs[i]? = some x) : xs = xs.take i ++ x :: xs.drop (i + 1) := by
  obtain ⟨hl, hx⟩ := List.getElem?_eq_some_iff.1 h
  have := List.take_append_drop i xs
  rw [List.drop_eq_getElem_cons hl, hx] at this
  exact this.symm
/-- another byte makes another checksum -/
theorem crcF_set {xs : List Int} (ho : bytesOk xs) (i : Nat) (x y : Int) (hx : xs[i]? = some x) (hy : 0 ≤ y ∧ y < 256) (hne : x ≠ y) : crcF (xs.set i y) ≠ crcF xs := by
  have hl : i < xs.length := (List.getElem?_eq_some_iff.1 hx).1
  have hxo : 0 ≤ x ∧ x < 256 := ho x (List.mem_of_getElem? hx)
  intro h
  have h1 := xor_cancel_l h
  rw [set_split xs i hl y] at h1
  rw [get_split xs i x hx] at h1
  have hlen : (xs.take i).length = i := by rw [List.length_take]; omega
  have e1 : (xs.take i ++ x :: xs.drop (i + 1)).take i = xs.take i := by rw [List.take_append_of_le_length (by omega), List.take_of_length_le (by omega)]
  have e2 : (xs.take i ++ x :: xs.drop (i + 1)).drop (i + 1) = xs.drop (i + 1) := by
    rw [List.drop_append, hlen, show i + 1 - i = 1 by omega, List.drop_of_length_le (by omega)]; rfl
  rw [e1, e2, regF_append, regF_append] at h1
  have hr : regF 4294967295 (xs.take i) < 4294967296 := regF_lt _ _ (by decide) (ho.take i)
  have h2 := regF_inj (xs.drop (i + 1)) _ _ (byteS_lt hr (by omega)) (byteS_lt hr (by omega)) (ho.drop _) h1
  have h3 := byteS_inj_x hr (by omega) (by omega) h2
  omega
/-- a number as four bytes -/
def wordL (n : Nat) : List Int := [((n / 16777216 % 256 : Nat) : Int), ((n / 65536 % 256 : Nat) : Int), ((n / 256 % 256 : Nat) : Int), ((n % 256 : Nat) : Int)]
theorem wordL_length (n : Nat) : (wordL n).length = 4 := rfl
theorem wordL_ok (n : Nat) : bytesOk (wordL n) := fun x hx => by
  simp only [wordL, List.mem_cons, List.not_mem_nil, or_false] at hx
  omega
/-- four bytes as a number -/
def rdW (xs : List Int) : Nat := (xs.getD 0 0).toNat * 16777216 + (xs.getD 1 0).toNat * 65536 + (xs.getD 2 0).toNat * 256 + (xs.getD 3 0).toNat
theorem four_sum (n : Nat) (h : n < 4294967296) : n / 16777216 % 256 * 16777216 + n / 65536 % 256 * 65536 + n / 256 % 256 * 256 + n % 256 = n := by omega
theorem rdW_wordL (n : Nat) (h : n < 4294967296) (ys : List Int) : rdW (wordL n ++ ys) = n := by
  simp only [rdW, wordL, List.cons_append, List.nil_append, List.getD_cons_zero, List.getD_cons_succ, Int.toNat_natCast]
  exact four_sum n h
theorem rdW_lt {xs : List Int} (h : bytesOk xs) : rdW xs < 4294967296 := by
  have hg : ∀ i, (xs.getD i 0).toNat < 256 := fun i => by
    rcases Nat.lt_or_ge i xs.length with hi | hi
    · have := h _ (List.getElem_mem hi)
      simp only [List.getD, List.getElem?_eq_getElem hi, Option.getD_some]
      omega
    · simp [List.getD, List.getElem?_eq_none hi]
  have h0 := hg 0
  have h1 := hg 1
  have h2 := hg 2
  have h3 := hg 3
  unfold rdW
  generalize (xs.getD 0 0).toNat = a at *
  generalize (xs.getD 1 0).toNat = b at *
  generalize (xs.getD 2 0).toNat = c at *
  generalize (xs.getD 3 0).toNat = d at *
  omega
theorem list4 (xs : List Int) (h : xs.length = 4) : ∃ a b c d, xs = [a, b, c, d] := by
  rcases xs with _ | ⟨a, _ | ⟨b, _ | ⟨c, _ | ⟨d, _ | ⟨e, l⟩⟩⟩⟩⟩
  · simp at h
  · simp at h
  · simp at h
  · simp at h
  · exact ⟨a, b, c, d, rfl⟩
  · simp at h
theorem four_inj (a b c d a' b' c' d' : Int) (h1 : 0 ≤ a ∧ a < 256) (h2 : 0 ≤ b ∧ b < 256) (h3 : 0 ≤ c ∧ c < 256) (h4 : 0 ≤ d ∧ d < 256) (h5 : 0 ≤ a' ∧ a' < 256) (h6 : 0 ≤ b' ∧ b' < 256) (h7 : 0 ≤ c' ∧ c' < 256) (h8 : 0 ≤ d' ∧ d' < 256)
    (h : a.toNat * 16777216 + b.toNat * 65536 + c.toNat * 256 + d.toNat = a'.toNat * 16777216 + b'.toNat * 65536 + c'.toNat * 256 + d'.toNat) : a = a' ∧ b = b' ∧ c = c' ∧ d = d' := by omega
/-- the same four bytes, if the numbers are the same -/
theorem rdW_inj {xs ys : List Int} (hx : bytesOk xs) (hy : bytesOk ys) (lx : xs.length = 4) (ly : ys.length = 4) (h : rdW xs = rdW ys) : xs = ys := by
  obtain ⟨a, b, c, d, rfl⟩ := list4 xs lx
  obtain ⟨a', b', c', d', rfl⟩ := list4 ys ly
  obtain ⟨e1, e2, e3, e4⟩ := four_inj a b c d a' b' c' d' (hx a (by simp)) (hx b (by simp)) (hx c (by simp)) (hx d (by simp)) (hy a' (by simp)) (hy b' (by simp)) (hy c' (by simp)) (hy d' (by simp)) h
  rw [e1, e2, e3, e4]
/-- the record of p -/
def recF (p : List Int) : List Int := wordL p.length ++ wordL (crcF (wordL p.length)) ++ p ++ wordL (crcF p)
theorem recF_length (p : List Int) : (recF p).length = p.length + 12 := by simp [recF, wordL_length]; omega
theorem recF_ok {p : List Int} (h : bytesOk p) : bytesOk (recF p) := (((wordL_ok _).append (wordL_ok _)).append h).append (wordL_ok _)
/-- what bytes begin with: an error, or a payload -/
def oneF (b : List Int) : Option Nat × List Int :=
  if b.length = 0 then (some 8, [])
  else if b.length < 8 then (some 12, [])
  else if rdW (b.drop 4) ≠ crcF (b.take 4) ∨ rdW b = 0 ∨ 1048576 < rdW b then (some 11, [])
  else if b.length < rdW b + 12 then (some 12, [])
  else if rdW (b.drop (rdW b + 8)) ≠ crcF ((b.take (rdW b + 8)).drop 8) then (some 11, [])
  else (none, (b.take (rdW b + 8)).drop 8)
/-- a record is read as its payload -/
theorem oneF_rec (p r : List Int) (hp : bytesOk p) (h1 : p.length ≠ 0) (h2 : p.length ≤ 1048576) : oneF (recF p ++ r) = (none, p) := by
  have hl : (recF p ++ r).length = p.length + 12 + r.length := by rw [List.length_append, recF_length]
  have e0 : recF p ++ r = wordL p.length ++ (wordL (crcF (wordL p.length)) ++ (p ++ (wordL (crcF p) ++ r))) := by simp [recF]
  have e1 : rdW (recF p ++ r) = p.length := by rw [e0]; exact rdW_wordL _ (by omega) _
  have e2 : (recF p ++ r).take 4 = wordL p.length := by rw [e0, List.take_append_of_le_length (by rw [wordL_length]; omega), List.take_of_length_le (by rw [wordL_length]; omega)]
  have e3 : rdW ((recF p ++ r).drop 4) = crcF (wordL p.length) := by
    rw [e0, List.drop_append, wordL_length, Nat.sub_self, List.drop_of_length_le (by rw [wordL_length]; omega), List.nil_append, List.drop_zero]
    exact rdW_wordL _ (crcF_lt (wordL_ok _)) _
  have e4 : (recF p ++ r).drop 8 = p ++ (wordL (crcF p) ++ r) := by
    rw [e0, ← List.append_assoc, List.drop_append, List.length_append, wordL_length, wordL_length, List.drop_of_length_le (by simp [wordL_length])]; simp
  have e5 : ((recF p ++ r).take (p.length + 8)).drop 8 = p := by
    rw [List.drop_take, e4, Nat.add_sub_cancel, List.take_append_of_le_length (by omega), List.take_of_length_le (by omega)]
  have e6 : rdW ((recF p ++ r).drop (p.length + 8)) = crcF p := by
    rw [Nat.add_comm, ← List.drop_drop, e4, List.drop_append, Nat.sub_self, List.drop_of_length_le (by omega), List.nil_append, List.drop_zero]
    exact rdW_wordL _ (crcF_lt hp) _
  unfold oneF
  rw [if_neg (by omega), if_neg (by omega), e1, e2, e3, if_neg (by omega), if_neg (by omega), e5, e6, if_neg (by simp)]
end Go.Proofs.YtjnpcmfpiejmjaaDoor
namespace Go.Proofs.YtjnpcmfpiejmjaaDoor
set_option linter.unusedVariables false
set_option linter.unusedSimpArgs false
open Go.RowKit
set_option maxRecDepth 100000
theorem BytesIn.cell {w : World} {a : Option Addr} {n cap : Nat} {xs : List Int} (h : BytesIn w (.slice a n cap) xs) : n = xs.length ∧ (xs = [] ∨ ∃ ab ao, a = some ⟨ab, ao, none⟩ ∧ ∀ i x, xs[i]? = some x → w.cell? ⟨ab, ao + i, none⟩ = some (.int .u8 x)) := by
  obtain ⟨a', c', e, _, _, hx⟩ := h
  injection e with e1 e2 e3
  subst e1 e2
  exact ⟨rfl, hx⟩
theorem regF_snoc (r : Nat) (xs : List Int) (x : Int) : regF r (xs ++ [x]) = byteS (regF r xs) x.toNat := by rw [regF_append]; rfl
theorem take_snoc {xs : List Int} {k : Nat} {x : Int} (h : xs[k]? = some x) : xs.take (k + 1) = xs.take k ++ [x] := by
  rw [List.take_add_one, h]; rfl
theorem nib_and (m : Nat) (h : m < 4294967296) : bits .and .u32 (m : Int) 15 = ((m % 16 : Nat) : Int) := by
  have := u32_and_nat m 15 h (by decide)
  rw [show m &&& 15 = m % 16 from Nat.and_two_pow_sub_one_eq_mod m 4] at this
  exact this
theorem nib_not (m : Nat) (h : m < 4294967296) : bits .xor .u32 IntKind.u32.max (m : Int) = ((4294967295 ^^^ m : Nat) : Int) := u32_xor_nat 4294967295 m (by decide) h
end Go.Proofs.YtjnpcmfpiejmjaaDoor
namespace Go.Proofs.YtjnpcmfpiejmjaaDoor
set_option linter.unusedVariables false
set_option linter.unusedSimpArgs false
open Go.RowKit
set_option maxRecDepth 100000
theorem or_add (a b i : Nat) (h : b < 2 ^ i) : a * 2 ^ i ||| b = a * 2 ^ i + b := by
  rw [Nat.mul_comm]; exact (Nat.two_pow_add_eq_or_of_lt h a).symm
theorem or4 (a b c d : Nat) (ha : a < 256) (hb : b < 256) (hc : c < 256) (hd : d < 256) :
    bits .or .u32 (bits .or .u32 (bits .or .u32 ((a : Int) * 16777216) ((b : Int) * 65536)) ((c : Int) * 256)) (d : Int) = ((a * 16777216 + b * 65536 + c * 256 + d : Nat) : Int) := by
  have e1 := u32_or_nat (a * 16777216) (b * 65536) (by omega) (by omega)
  have o1 := or_add a (b * 65536) 24 (by omega)
  rw [show (2 : Nat) ^ 24 = 16777216 from rfl] at o1
  rw [o1] at e1
  have e2 := u32_or_nat (a * 16777216 + b * 65536) (c * 256) (by omega) (by omega)
  have o2 := or_add (a * 256 + b) (c * 256) 16 (by omega)
  rw [show (2 : Nat) ^ 16 = 65536 from rfl, show (a * 256 + b) * 65536 = a * 16777216 + b * 65536 by omega] at o2
  rw [o2] at e2
  have e3 := u32_or_nat (a * 16777216 + b * 65536 + c * 256) d (by omega) (by omega)
  have o3 := or_add (a * 65536 + b * 256 + c) d 8 (by omega)
  rw [show (2 : Nat) ^ 8 = 256 from rfl, show (a * 65536 + b * 256 + c) * 256 = a * 16777216 + b * 65536 + c * 256 by omega] at o3
  rw [o3] at e3
  rw [show ((a : Int) * 16777216) = ((a * 16777216 : Nat) : Int) by omega, show ((b : Int) * 65536) = ((b * 65536 : Nat) : Int) by omega, show ((c : Int) * 256) = ((c * 256 : Nat) : Int) by omega, e1, e2, e3]
theorem lit4_in (w : World) (a b c d : Int) : BytesIn (w.alloc (.cells #[.int .u8 a, .int .u8 b, .int .u8 c, .int .u8 d] 5)) (.slice (some ⟨w.heap.size, 0, none⟩) 4 4) [a, b, c, d] := by
  refine ⟨_, _, rfl, by simp, by simp [maxLen], .inr ⟨_, _, rfl, fun i x hi => ?_⟩⟩
  rw [Nat.zero_add, cell_of_row _ _ _ _ _ _ (heap_alloc_new w _)]
  match i, hi with
  | 0, hi => cases hi; rfl
  | 1, hi => cases hi; rfl
  | 2, hi => cases hi; rfl
  | 3, hi => cases hi; rfl
theorem grown_alloc {w w' : World} {o : Obj} {r : Option Nat} (h : (w.alloc o).grownBy w' r) : w.grownBy w' r :=
  ⟨h.os, h.tape, h.output, Nat.le_trans (by simp) h.size, fun k hk hne => (h.block k (by simp; omega) hne).trans (Below.heap_alloc w o k hk)⟩
theorem OwnOf.alloc {v v' : Value} {w : World} {o : Obj} (h : OwnOf v v' (w.alloc o)) : OwnOf v v' w := by
  rcases h with h | ⟨k, h1, h2⟩
  · exact .inl h
  · exact .inr ⟨k, h1, by simp at h2; omega⟩
theorem wordI (m : Nat) (h : m < 4294967296) : [(m : Int) / 16777216, (m : Int) / 65536 % 256, (m : Int) / 256 % 256, (m : Int) % 256] = wordL m := by
  unfold wordL
  rw [Nat.mod_eq_of_lt (show m / 16777216 < 256 by omega), Int.natCast_ediv, Int.natCast_emod, Int.natCast_ediv, Int.natCast_emod, Int.natCast_ediv, Int.natCast_emod]
  rfl
end Go.Proofs.YtjnpcmfpiejmjaaDoor
namespace Go.Proofs.YtjnpcmfpiejmjaaDoor
set_option linter.unusedVariables false
set_option linter.unusedSimpArgs false
open Go.RowKit
set_option maxRecDepth 100000
theorem byteVals_len (xs : List Int) : (byteVals xs).length = xs.length := by simp [byteVals]
def FrameOk (ys : List Int) (w : World) (e : Ending) (w' : World) : Prop :=
  ∃ v', e = .returned (.tuple #[v', .nilIface]) ∧ w'.ownsRow w.heap.size 5 1 v' (recF ys).length (byteVals (recF ys)) ∧ Below w.heap.size w w'
end Go.Proofs.YtjnpcmfpiejmjaaDoor
namespace Go.Proofs.YtjnpcmfpiejmjaaDoor
set_option linter.unusedVariables false
set_option linter.unusedSimpArgs false
open Go.RowKit
set_option maxRecDepth 100000
theorem quiet_left {P : Program} {f : FuncId} {args : Array Value} {w : World} {n : Nat} {v : Value}
    (h : Calls P f args (w.drewN n) fun e w' => e = .returned v ∧ w.drewN n = w') : Calls P f args (w.drewN n) fun e w'' => e = .returned v ∧ ∃ m, w'' = w.drewN m :=
  h.mono fun _ _ ⟨he, hm⟩ => ⟨he, n, hm.symm⟩
theorem below_drewN (w : World) (n : Nat) : Below w.heap.size w (w.drewN n) := ⟨rfl, rfl, rfl, Nat.le_refl _, fun _ _ => rfl⟩
theorem BytesIn.drewN {w : World} {y : Value} {ys : List Int} (h : BytesIn w y ys) (n : Nat) : BytesIn (w.drewN n) y ys := h
def OnePost (r : Option Nat × List Int) (w : World) (e : Ending) (w' : World) : Prop :=
  Below w.heap.size w w' ∧ match r.1 with
    | some k => e = .returned (.tuple #[.slice none 0 0, .int .i64 0, errV (some k)])
    | none => ∃ v', e = .returned (.tuple #[v', .int .i64 ((r.2.length + 12 : Nat) : Int), .nilIface]) ∧ w'.ownsRow w.heap.size 5 1 v' r.2.length (byteVals r.2)
theorem BytesIn.from {w : World} {a : Option Addr} {n cap : Nat} {xs : List Int} (h : BytesIn w (.slice a n cap) xs) (p : Nat) (hp : p ≤ n) : BytesIn w (.slice (cutA a cap p) (n - p) (cap - p)) (xs.drop p) := by
  have h1 := h.cut p n hp (Nat.le_refl _)
  rw [List.take_of_length_le (by have := h.cell.1; omega)] at h1
  exact h1
theorem BytesIn.upto {w : World} {a : Option Addr} {n cap : Nat} {xs : List Int} (h : BytesIn w (.slice a n cap) xs) (q : Nat) (hq : q ≤ n) : BytesIn w (.slice (cutA a cap 0) q cap) (xs.take q) := h.cut 0 q (Nat.zero_le _) hq
theorem owns_base {w : World} {base base' n : Nat} {v : Value} {vs : List Value} (h : w.ownsRow base 5 1 v n vs) (hb : base' ≤ base) : w.ownsRow base' 5 1 v n vs := by
  obtain ⟨h1, h2⟩ := h
  refine ⟨h1, ?_⟩
  rcases h2 with h2 | ⟨g, c, cur, e1, e2, r⟩
  · exact .inl h2
  · exact .inr ⟨g, c, cur, e1, Nat.le_trans hb e2, r⟩
end Go.Proofs.YtjnpcmfpiejmjaaDoor
namespace Go.Proofs.YtjnpcmfpiejmjaaDoor
set_option linter.unusedVariables false
set_option linter.unusedSimpArgs false
open Go.RowKit Go.Extern.Stop Go.Stop Go.Extern
set_option maxRecDepth 100000
theorem isTypeOf (v : Value) (w : World) : (ReflectliteType.typeOf #[.iface 71 v]).run Tryd.prog w = .ok (.iface 135 (.agg #[.pointer (some ⟨1, 71, none⟩)])) w := by kernel_rfl
theorem isComparable (w : World) : ((ReflectliteType.method fun t => do Rtype.noPackHeld "Comparable" t; pure (.bool (← typeInfo t).comparable)) #[.agg #[.pointer (some ⟨1, 71, none⟩)]]).run Tryd.prog w = .ok (.bool true) w := by kernel_rfl
theorem isMethodComparable (m : Nat) (v : Value) (w : World) : (Go.method (m + 1) 135 v "Comparable").run Tryd.prog w = .ok (106, v) w := by kernel_rfl
theorem isCompCall (w : World) : (callFunc 106 #[.agg #[.pointer (some ⟨1, 71, none⟩)]]).run Tryd.prog w = .ok (.value (.bool true)) w := by
  rw [@run_callFunc_extern Tryd.prog 106 _ (ReflectliteType.method fun t => do Rtype.noPackHeld "Comparable" t; pure (.bool (← typeInfo t).comparable)) Tryd.func106 (by kernel_rfl) (by kernel_rfl) (by kernel_rfl) (by kernel_rfl), isComparable]
  rfl
theorem isComp : (Tryd.prog.info? 71).map (·.comparable) = some true := by kernel_rfl
theorem noUnwrapE (v : Value) (xT : TypeId) (w : World) : (Instr.typeAssert (.iface 71 v) xT 143 true).run Tryd.prog w = .ok (.tuple #[.nilIface, .bool false]) w := run_typeAssert_lacksB Tryd.underlying143 (by kernel_rfl) (by kernel_rfl) v xT w
theorem noUnwrapsE (v : Value) (xT : TypeId) (w : World) : (Instr.typeAssert (.iface 71 v) xT 144 true).run Tryd.prog w = .ok (.tuple #[.nilIface, .bool false]) w := run_typeAssert_lacksB Tryd.underlying144 (by kernel_rfl) (by kernel_rfl) v xT w
end Go.Proofs.YtjnpcmfpiejmjaaDoor
namespace Go.Proofs.YtjnpcmfpiejmjaaDoor
set_option linter.unusedVariables false
set_option linter.unusedSimpArgs false
open Go.RowKit
set_option maxRecDepth 100000
theorem ext0 (x y z : Value) (w : World) : (Instr.extract (.tuple #[x, y, z]) 0).run Tryd.prog w = .ok x w := rfl
theorem ext1 (x y z : Value) (w : World) : (Instr.extract (.tuple #[x, y, z]) 1).run Tryd.prog w = .ok y w := rfl
theorem ext2 (x y z : Value) (w : World) : (Instr.extract (.tuple #[x, y, z]) 2).run Tryd.prog w = .ok z w := rfl
/-- what bytes hold: payloads, how many bytes, why no more -/
def scanG : Nat → List Int → List (List Int) × Nat × Option Nat
  | 0, _ => ([], 0, none)
  | f + 1, b => match oneF b with
    | (none, p) => (p :: (scanG f (b.drop (p.length + 12))).1, p.length + 12 + (scanG f (b.drop (p.length + 12))).2.1, (scanG f (b.drop (p.length + 12))).2.2)
    | (some k, _) => ([], 0, if k = 8 then none else some k)
def scanF (b : List Int) : List (List Int) × Nat × Option Nat := scanG b.length b
theorem oneF_cases (b : List Int) : (∃ k, oneF b = (some k, []) ∧ (k = 8 ↔ b.length = 0) ∧ (k = 8 ∨ k = 11 ∨ k = 12)) ∨ (∃ p, oneF b = (none, p) ∧ p.length + 12 ≤ b.length ∧ 0 < p.length ∧ p.length ≤ 1048576) := by
  unfold oneF
  split
  · next h => exact .inl ⟨8, rfl, by simp [h], by simp⟩
  · next h =>
    split
    · exact .inl ⟨12, rfl, by simp [h], by simp⟩
    · split
      · exact .inl ⟨11, rfl, by simp [h], by simp⟩
      · next h1 =>
        split
        · exact .inl ⟨12, rfl, by simp [h], by simp⟩
        · split
          · exact .inl ⟨11, rfl, by simp [h], by simp⟩
          · refine .inr ⟨_, rfl, ?_, ?_, ?_⟩ <;> rw [List.length_drop, List.length_take] <;> omega
/-- a slice of slices of bytes, each in a block of its own -/
def ListsIn (w : World) (B : Nat) (own : Option Nat) (vs : List Value) (ps : List (List Int)) : Prop :=
  vs.length = ps.length ∧ ∀ (i : Nat) (v : Value) (p : List Int), vs[i]? = some v → ps[i]? = some p → BytesIn w v p ∧ ∀ k, v.ownBlock = some k → B ≤ k ∧ some k ≠ own ∧ k < w.heap.size
theorem ListsIn.nil (w : World) (B : Nat) (own : Option Nat) : ListsIn w B own [] [] := ⟨rfl, fun i v p h => by simp at h⟩
theorem BytesIn.grown {w w' : World} {own : Option Nat} {v : Value} {p : List Int} (h : BytesIn w v p) (hg : w.grownBy w' own) (hne : ∀ k, v.ownBlock = some k → some k ≠ own) : BytesIn w' v p := by
  obtain ⟨a, c, rfl, hc, hm, hx⟩ := h
  refine ⟨a, c, rfl, hc, hm, ?_⟩
  rcases hx with hx | ⟨ab, ao, rfl, hx⟩
  · exact .inl hx
  · exact .inr ⟨ab, ao, rfl, fun i y hi => (World.cell?_of_block (hg.block ab (World.block_lt_of_cell? w _ (hx i y hi)) (hne ab rfl))).trans (hx i y hi)⟩
theorem ListsIn.below {w w' : World} {B : Nat} {own : Option Nat} {vs : List Value} {ps : List (List Int)} (h : ListsIn w B own vs ps) (hb : Below w.heap.size w w') : ListsIn w' B own vs ps :=
  ⟨h.1, fun i v p hv hp => ⟨(h.2 i v p hv hp).1.below hb, fun k hk => ⟨((h.2 i v p hv hp).2 k hk).1, ((h.2 i v p hv hp).2 k hk).2.1, Nat.lt_of_lt_of_le ((h.2 i v p hv hp).2 k hk).2.2 hb.size⟩⟩⟩
theorem infoBs : (Tryd.prog.info? 33).map (fun i => (i.zero, i.size, i.bytes)) = some (some (.slice none 0 0), 1, 24) := by kernel_rfl
/-- append of one slice -/
theorem wpList_append_slice {w : World} {ops : Array Oper} {rest : List Oper} {o : Oper} {a : Act} {Q : Exit → Act → World → Prop} (hgd : o.guard = none) (s x : Operand)
    (ho : o.op = .call { callee := .builtin .append, args := #[s, x], argTypes := #[26, 26] }) (hty : o.type = 26)
    (base : Nat) (v : Value) (vs : List Value) (hs : a.eval s = v) (hown : w.ownsRow base 33 1 v vs.length vs) (b : Addr) (y : Value) (hx : a.eval x = .slice (some b) 1 1) (hy : w.cell? b = some y) (hy1 : y.oneCell' = true) (hl : vs.length < 1099511627776) (hb : base ≤ w.heap.size)
    (h : ∀ v' w', w'.ownsRow base 33 1 v' (vs ++ [y]).length (vs ++ [y]) → w.grownBy w' v.ownBlock → (v'.ownBlock = v.ownBlock ∨ v'.ownBlock = some w.heap.size) → wpList Tryd.prog ops Q rest (a.put o.dst v') w') : wpList Tryd.prog ops Q (o :: rest) a w := by
  refine wpList_plain hgd fun K hK => ?_
  obtain ⟨i0, hi, hz0, hz1, hz2⟩ := info_parts infoBs
  obtain ⟨v', w', hr, h1, h2, _, h4⟩ := run_append_own_at w base 26 26 33 i0 (.slice none 0 0) 1 24 Tryd.underlying26 hi hz0 hz1 hz2 rfl (by decide) v vs.length vs hown b 1 1 [y] rfl (fun j u hu => by
      match j, hu with
      | 0, hu => cases hu; rw [show b.add 0 = b by simp [Addr.add]]; exact hy) (fun u hu => by simp at hu; rw [hu]; exact hy1) (by unfold maxLen; omega) (by omega) hb
  unfold Oper.wp execOp
  simp only [ho, hty, resolve, invoke, builtin, Sem.run_bind, Sem.run_pure, Result.andThen_ok, List.map_toArray, List.map_cons, List.map_nil, hs, hx, hr]
  exact hK _ _ (h v' w' (by rw [List.length_append]; exact h1) h2 h4)
structure ScanSt (b : List Int) (w : World) (v : Value) (k : Nat) (f : Nat) (vs : List Value) (ps : List (List Int)) (wr : World) : Prop where
  fuel : b.length - k ≤ f
  le : k ≤ b.length
  eq : scanF b = (ps ++ (scanG f (b.drop k)).1, k + (scanG f (b.drop k)).2.1, (scanG f (b.drop k)).2.2)
  own : wr.ownsRow w.heap.size 33 1 v vs.length vs
  lists : ListsIn wr w.heap.size v.ownBlock vs ps
  few : vs.length ≤ k
  below : Below w.heap.size w wr
def ScanAt (b : List Int) (w : World) (v : Value) (k : Nat) (wr : World) : Prop := ∃ f vs ps, ScanSt b w v k f vs ps wr
def ScanPost (b : List Int) (w : World) (e : Ending) (w' : World) : Prop :=
  ∃ v vs, e = .returned (.tuple #[v, .int .i64 (((scanF b).2.1 : Nat) : Int), errV (scanF b).2.2]) ∧ w'.ownsRow w.heap.size 33 1 v vs.length vs ∧ ListsIn w' w.heap.size v.ownBlock vs (scanF b).1 ∧ Below w.heap.size w w'
theorem ScanAt.stop {b : List Int} {w wr w' : World} {v : Value} {k : Nat} {x : Nat} (h : ScanAt b w v k wr) (hx : oneF (b.drop k) = (some x, [])) (hb : Below wr.heap.size wr w') :
    ScanPost b w (.returned (.tuple #[v, .int .i64 (k : Int), errV (if x = 8 then none else some x)])) w' := by
  obtain ⟨f, vs, ps, h⟩ := h
  have hg : scanG f (b.drop k) = ([], 0, if x = 8 then none else some x) := by
    cases f with
    | zero =>
      have h0 : (b.drop k).length = 0 := by rw [List.length_drop]; have := h.fuel; omega
      rcases oneF_cases (b.drop k) with ⟨y, hy, h8, _⟩ | ⟨p, hp, hl, _⟩
      · rw [hx] at hy
        obtain rfl : x = y := by simpa using hy
        rw [if_pos (h8.2 h0)]; rfl
      · omega
    | succ f => simp only [scanG, hx]
  have he := h.eq
  rw [hg] at he
  simp only [List.append_nil, Nat.add_zero] at he
  refine ⟨v, vs, by rw [he], h.own.kept (row := none) ⟨hb.os, hb.tape, hb.output, hb.size, fun k hk _ => hb.block k hk⟩ (by cases v.ownBlock <;> simp), ?_, h.below.trans (hb.mono h.below.size)⟩
  rw [he]
  exact h.lists.below hb
theorem kept_below {w w' : World} {B e n : Nat} {v : Value} {vs : List Value} (h : w.ownsRow B e 1 v n vs) (hb : Below w.heap.size w w') : w'.ownsRow B e 1 v n vs :=
  h.kept (row := none) ⟨hb.os, hb.tape, hb.output, hb.size, fun k hk _ => hb.block k hk⟩ (by cases v.ownBlock <;> simp)
/-- one record more -/
theorem ScanAt.next {b : List Int} {w wr w1 w2 w3 : World} {v y v' : Value} {k : Nat} {p : List Int} {vs : List Value} {f : Nat} {ps : List (List Int)} (h : ScanSt b w v k f vs ps wr) (hx : oneF (b.drop k) = (none, p)) (hb : Below wr.heap.size wr w1) (hy : w1.ownsRow wr.heap.size 5 1 y p.length (byteVals p))
    (hb2 : Below w1.heap.size w1 w2) (hg : w2.grownBy w3 v.ownBlock) (hof : v'.ownBlock = v.ownBlock ∨ v'.ownBlock = some w2.heap.size) (ho : w3.ownsRow w.heap.size 33 1 v' (vs ++ [y]).length (vs ++ [y])) : ScanAt b w v' (k + (p.length + 12)) w3 := by
  obtain ⟨hl12, hl0, hlm⟩ : p.length + 12 ≤ (b.drop k).length ∧ 0 < p.length ∧ p.length ≤ 1048576 := by
    rcases oneF_cases (b.drop k) with ⟨x, h1, _⟩ | ⟨q, h1, h2⟩
    · rw [hx] at h1; simp at h1
    · rw [hx] at h1
      obtain rfl : p = q := by simpa using h1
      exact h2
  rw [List.length_drop] at hl12
  have hfu := h.fuel
  obtain ⟨f, rfl⟩ : ∃ g, f = g + 1 := ⟨f - 1, by omega⟩
  have he := h.eq
  have hs : scanG (f + 1) (b.drop k) = (p :: (scanG f (b.drop (k + (p.length + 12)))).1, p.length + 12 + (scanG f (b.drop (k + (p.length + 12)))).2.1, (scanG f (b.drop (k + (p.length + 12)))).2.2) := by
    simp only [scanG, hx, List.drop_drop]
  rw [hs] at he
  have hw12 : Below wr.heap.size wr w2 := hb.trans (hb2.mono hb.size)
  have hle := h.below.size
  refine ⟨f, vs ++ [y], ps ++ [p], by omega, by omega, ?_, ho, ⟨by simp [h.lists.1], fun i u q hu hq => ?_⟩, by have := h.few; simp; omega, (h.below.trans (hw12.mono h.below.size)).grown hg (Nat.le_trans h.below.size hw12.size) (fun j hj => (h.own.lt j hj).1)⟩
  · rw [he]
    refine Prod.ext (by simp) (Prod.ext ?_ rfl)
    show k + (p.length + 12 + _) = k + (p.length + 12) + _
    omega
  · rcases Nat.lt_or_ge i vs.length with hi | hi
    · rw [List.getElem?_append_left hi] at hu
      rw [List.getElem?_append_left (by rw [← h.lists.1]; exact hi)] at hq
      obtain ⟨h1, h2⟩ := h.lists.2 i u q hu hq
      refine ⟨(h1.below hw12).grown hg fun j hj => (h2 j hj).2.1, fun j hj => ⟨(h2 j hj).1, ?_, Nat.lt_of_lt_of_le (h2 j hj).2.2 (Nat.le_trans hw12.size hg.size)⟩⟩
      rcases hof with e | e
      · rw [e]; exact (h2 j hj).2.1
      · rw [e]; intro e; injection e with e; have := (h2 j hj).2.2; have := hw12.size; omega
    · rw [List.getElem?_append_right hi] at hu
      rw [List.getElem?_append_right (by rw [← h.lists.1]; exact hi), ← h.lists.1] at hq
      obtain ⟨rfl, h0⟩ : u = y ∧ i - vs.length = 0 := by
        rcases Nat.eq_zero_or_pos (i - vs.length) with e | e
        · rw [e] at hu; simp at hu; exact ⟨hu.symm, e⟩
        · rw [List.getElem?_eq_none (by simp; omega)] at hu; cases hu
      rw [h0] at hq
      obtain rfl : p = q := by simpa using hq
      have hlt := fun j hj => hy.lt j hj
      have hne : ∀ j, u.ownBlock = some j → some j ≠ v.ownBlock := fun j hj e => by
        have h1 := h.own.lt j e.symm
        have h2 := hlt j hj
        omega
      refine ⟨((owns_in hy (by unfold maxLen; omega)).below hb2).grown hg hne, fun j hj => ⟨Nat.le_trans hle (hlt j hj).1, ?_, Nat.lt_of_lt_of_le (hlt j hj).2 (Nat.le_trans hb2.size hg.size)⟩⟩
      rcases hof with e | e
      · rw [e]; exact hne j hj
      · rw [e]; intro e; injection e with e; have := (hlt j hj).2; have := hb2.size; omega
theorem slice_one (y : Value) (ys : List Int) (w : World) (B n : Nat) (h : w.ownsRow B 5 1 y n (byteVals ys)) : y.oneCell' = true ∧ ∃ a c, y = .slice a n c := by
  obtain ⟨a, c, rfl⟩ := owns_wide h
  exact ⟨rfl, a, c, rfl⟩
end Go.Proofs.YtjnpcmfpiejmjaaDoor
namespace Go.Proofs.YtjnpcmfpiejmjaaDoor
set_option linter.unusedVariables false
set_option linter.unusedSimpArgs false
open Go.RowKit
set_option maxRecDepth 100000
theorem one_hash {w : World} {g : Nat} {f : Nat → Int} (h : RowAt w g .u8 32 23 f) : HashesIn w (.slice (some ⟨g, 0, none⟩) 1 1) [f] := by
  refine ⟨_, _, rfl, Nat.le_refl _, by unfold maxLen; decide, .inr ⟨g, 0, rfl, h.lt, fun i hi j v hv => ?_⟩⟩
  have hi0 : i = 0 := by simpa using hi
  subst hi0
  have := h.range j v hv
  rw [Nat.zero_mul, Nat.zero_add]
  rw [Nat.zero_add] at this
  exact this
def sgC (leaf : Nat) (vo vp : Value) : Array Value := #[.int .i64 (leaf : Int), vo, vp]
theorem BytesIn.only0 {w w' : World} {y : Value} {ys : List Int} {p : Nat} (h : BytesIn w y ys) (ho : Only p w w') (hn : ys ≠ [] → ∀ k, y.ownBlock = some k → k ≠ p) : BytesIn w' y ys := by
  by_cases he : ys = []
  · subst he
    obtain ⟨a, c, rfl, h1, h2, _⟩ := h
    exact ⟨a, c, rfl, h1, h2, .inl rfl⟩
  · exact h.only ho (hn he)
theorem Only.grown {p : Nat} {w w' : World} (h : Only p w w') : w.grownBy w' (some p) := ⟨h.os, h.tape, h.output, h.size, fun k hk hne => h.block k hk fun e => hne (by rw [e])⟩
theorem uintS_le (s : RSt) (most : Nat) : (uintS s most).1 ≤ most := by
  obtain ⟨ys, e⟩ := s
  cases e with
  | some x => rw [uintS_err]; exact Nat.zero_le _
  | none =>
    cases h : (rdF ys most).2.2 with
    | some x => rw [uintS_bad h]; exact Nat.zero_le _
    | none => rw [uintS_good h]; exact (rdF_ok h).2.2
theorem sgC_set (leaf : Nat) (vo vp vp' : Value) : (sgC leaf vo vp).setIfInBounds 2 vp' = sgC leaf vo vp' := rfl
theorem sgC_set1 (leaf : Nat) (vo vo' vp : Value) : (sgC leaf vo vp).setIfInBounds 1 vo' = sgC leaf vo' vp := rfl
theorem flatC_app1 (ps : List (Nat → Int)) (f : Nat → Int) : flatC ps ++ flatC [f] = flatC (ps ++ [f]) := by
  rw [flatC_snoc]; show flatC ps ++ ((rowOf .u8 32 f).toList ++ []) = _; rw [List.append_nil]
end Go.Proofs.YtjnpcmfpiejmjaaDoor
