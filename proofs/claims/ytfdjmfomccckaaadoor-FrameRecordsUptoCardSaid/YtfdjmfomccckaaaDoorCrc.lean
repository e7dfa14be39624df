/- The checksum: a register, two steps of four bits a byte; no byte can be turned unseen. Nothing here speaks of the program. -/
import Derived.Test.YtfdjmfomccckaaaDoorBase
import Derived.Laws.BitsAllLaws
namespace Go.Proofs.YtfdjmfomccckaaaDoor
def tabL : List Nat := [0, 498536548, 997073096, 651767980, 1994146192, 1802195444, 1303535960, 1342533948, 3988292384, 4027552580, 3604390888, 3412177804, 2607071920, 2262029012, 2685067896, 3183342108]
def tabN (i : Nat) : Nat := tabL.getD i 0
theorem tabN_lt (i : Nat) (h : i < 16) : tabN i < 4294967296 := by
  have : ∀ i : Fin 16, tabN i.val < 4294967296 := by decide
  exact this ⟨i, h⟩
theorem tabN_top (i j : Nat) (hi : i < 16) (hj : j < 16) (h : tabN i / 268435456 = tabN j / 268435456) : i = j := by
  have : ∀ i j : Fin 16, tabN i.val / 268435456 = tabN j.val / 268435456 → i.val = j.val := by decide
  exact this ⟨i, hi⟩ ⟨j, hj⟩ h
/-- four bits -/
def nib (r : Nat) : Nat := r / 16 ^^^ tabN (r % 16)
/-- a byte -/
def byteS (r x : Nat) : Nat := nib (nib (r ^^^ x))
theorem xor_lt32 {a b : Nat} (ha : a < 4294967296) (hb : b < 4294967296) : a ^^^ b < 4294967296 := Nat.xor_lt_two_pow (n := 32) ha hb
theorem nib_lt {r : Nat} (h : r < 4294967296) : nib r < 4294967296 := xor_lt32 (by omega) (tabN_lt _ (by omega))
theorem byteS_lt {r x : Nat} (h : r < 4294967296) (hx : x < 256) : byteS r x < 4294967296 := nib_lt (nib_lt (xor_lt32 h (by omega)))
theorem xor_top (a t : Nat) (ha : a < 268435456) : (a ^^^ t) / 268435456 = t / 268435456 := by
  have h := Nat.shiftRight_xor_distrib (a := a) (b := t) (i := 28)
  simp only [Nat.shiftRight_eq_div_pow] at h
  rw [show (2 : Nat) ^ 28 = 268435456 from rfl, Nat.div_eq_of_lt ha, Nat.zero_xor] at h
  exact h
theorem xor_cancel {a b t : Nat} (h : a ^^^ t = b ^^^ t) : a = b := by
  have := congrArg (· ^^^ t) h
  simpa [Nat.xor_assoc] using this
theorem xor_cancel_l {a b t : Nat} (h : t ^^^ a = t ^^^ b) : a = b := by
  rw [Nat.xor_comm t a, Nat.xor_comm t b] at h
  exact xor_cancel h
theorem nib_inj {a b : Nat} (ha : a < 4294967296) (hb : b < 4294967296) (h : nib a = nib b) : a = b := by
  have h1 : tabN (a % 16) / 268435456 = tabN (b % 16) / 268435456 := by
    rw [← xor_top (a / 16) _ (by omega), ← xor_top (b / 16) (tabN (b % 16)) (by omega)]
    exact congrArg (· / 268435456) h
  have h2 := tabN_top _ _ (by omega) (by omega) h1
  unfold nib at h
  rw [h2] at h
  have h3 := xor_cancel h
  omega
theorem byteS_inj_r {a b x : Nat} (ha : a < 4294967296) (hb : b < 4294967296) (hx : x < 256) (h : byteS a x = byteS b x) : a = b :=
  xor_cancel (nib_inj (xor_lt32 ha (by omega)) (xor_lt32 hb (by omega)) (nib_inj (nib_lt (xor_lt32 ha (by omega))) (nib_lt (xor_lt32 hb (by omega))) h))
theorem byteS_inj_x {r x y : Nat} (hr : r < 4294967296) (hx : x < 256) (hy : y < 256) (h : byteS r x = byteS r y) : x = y :=
  xor_cancel_l (nib_inj (xor_lt32 hr (by omega)) (xor_lt32 hr (by omega)) (nib_inj (nib_lt (xor_lt32 hr (by omega))) (nib_lt (xor_lt32 hr (by omega))) h))
theorem bytesOk_nil : bytesOk [] := fun _ h => by cases h
theorem bytesOk.cons {x : Int} {xs : List Int} (h : bytesOk (x :: xs)) : (0 ≤ x ∧ x < 256) ∧ bytesOk xs := ⟨h x (by simp), fun y hy => h y (by simp [hy])⟩
theorem bytesOk.append {xs ys : List Int} (h1 : bytesOk xs) (h2 : bytesOk ys) : bytesOk (xs ++ ys) := fun x hx => by
  rcases List.mem_append.1 hx with h | h
  · exact h1 x h
  · exact h2 x h
theorem bytesOk.take {xs : List Int} (h : bytesOk xs) (n : Nat) : bytesOk (xs.take n) := fun x hx => h x (List.mem_of_mem_take hx)
theorem bytesOk.drop {xs : List Int} (h : bytesOk xs) (n : Nat) : bytesOk (xs.drop n) := fun x hx => h x (List.mem_of_mem_drop hx)
theorem bytesOk.set {xs : List Int} (h : bytesOk xs) (i : Nat) (y : Int) (hy : 0 ≤ y ∧ y < 256) : bytesOk (xs.set i y) := fun x hx => by
  rcases List.mem_or_eq_of_mem_set hx with h1 | h1
  · exact h x h1
  · rw [h1]; exact hy
/-- the register behind xs -/
def regF (r : Nat) : List Int → Nat
  | [] => r
  | x :: xs => regF (byteS r x.toNat) xs
theorem regF_lt : ∀ (xs : List Int) (r : Nat), r < 4294967296 → bytesOk xs → regF r xs < 4294967296
  | [], _, h, _ => h
  | _ :: xs, _, h, ho => regF_lt xs _ (byteS_lt h (by have := ho.cons.1; omega)) ho.cons.2
theorem regF_append : ∀ (xs ys : List Int) (r : Nat), regF r (xs ++ ys) = regF (regF r xs) ys
  | [], _, _ => rfl
  | _ :: xs, ys, _ => regF_append xs ys _
theorem regF_inj : ∀ (xs : List Int) (a b : Nat), a < 4294967296 → b < 4294967296 → bytesOk xs → regF a xs = regF b xs → a = b
  | [], _, _, _, _, _, h => h
  | x :: xs, a, b, ha, hb, ho, h => by
    have hx := ho.cons.1
    have hx' : x.toNat < 256 := by omega
    exact byteS_inj_r ha hb hx' (regF_inj xs _ _ (byteS_lt ha hx') (byteS_lt hb hx') ho.cons.2 h)
/-- the checksum -/
def crcF (xs : List Int) : Nat := 4294967295 ^^^ regF 4294967295 xs
theorem crcF_lt {xs : List Int} (h : bytesOk xs) : crcF xs < 4294967296 := xor_lt32 (by decide) (regF_lt xs _ (by decide) h)
theorem set_split (xs : List Int) (i : Nat) (h : i < xs.length) (y : Int) : xs.set i y = xs.take i ++ y :: xs.drop (i + 1) := List.set_eq_take_append_cons_drop.trans (if_pos h)
theorem get_split (xs : List Int) (i : Nat) (x : Int) (h : xs[i]? = some x) : xs = xs.take i ++ x :: xs.drop (i + 1) := by
  obtain ⟨hl, hx⟩ := List.getElem?_eq_some_iff.1 h
  have := List.take_append_drop i xs
  rw [List.drop_eq_getElem_cons hl, hx] at this
  exact this.symm
/-- another byte makes another checksum -/
theorem crcF_set {xs : List Int} (ho : bytesOk xs) (i : Nat) (x y : Int) (hx : xs[i]? = some x) (hy : 0 ≤ y ∧ y < 256) (hne : x ≠ y) : crcF (xs.set i y) ≠ crcF xs := by
  have hl : i < xs.length := (List.getElem?_eq_some_iff.1 hx).1
  have hxo : 0 ≤ x ∧ x < 256 := ho x (List.mem_of_getElem? hx)
  intro h
  have h1 := xor_cancel_l h
  rw [set_split xs i hl y] at h1
  rw [get_split xs i x hx] at h1
  have hlen : (xs.take i).length = i := by rw [List.length_take]; omega
  have e1 : (xs.take i ++ x :: xs.drop (i + 1)).take i = xs.take i := by rw [List.take_append_of_le_length (by omega), List.take_of_length_le (by omega)]
  have e2 : (xs.take i ++ x :: xs.drop (i + 1)).drop (i + 1) = xs.drop (i + 1) := by
    rw [List.drop_append, hlen, show i + 1 - i = 1 by omega, List.drop_of_length_le (by omega)]; rfl
  rw [e1, e2, regF_append, regF_append] at h1
  have hr : regF 4294967295 (xs.take i) < 4294967296 := regF_lt _ _ (by decide) (ho.take i)
  have h2 := regF_inj (xs.drop (i + 1)) _ _ (byteS_lt hr (by omega)) (byteS_lt hr (by omega)) (ho.drop _) h1
  have h3 := byteS_inj_x hr (by omega) (by omega) h2
  omega
/-- a number as four bytes -/
def wordL (n : Nat) : List Int := [((n / 16777216 % 256 : Nat) : Int), ((n / 65536 % 256 : Nat) : Int), ((n / 256 % 256 : Nat) : Int), ((n % 256 : Nat) : Int)]
theorem wordL_length (n : Nat) : (wordL n).length = 4 := rfl
theorem wordL_ok (n : Nat) : bytesOk (wordL n) := fun x hx => by
  simp only [wordL, List.mem_cons, List.not_mem_nil, or_false] at hx
  omega
/-- four bytes as a number -/
def rdW (xs : List Int) : Nat := (xs.getD 0 0).toNat * 16777216 + (xs.getD 1 0).toNat * 65536 + (xs.getD 2 0).toNat * 256 + (xs.getD 3 0).toNat
theorem four_sum (n : Nat) (h : n < 4294967296) : n / 16777216 % 256 * 16777216 + n / 65536 % 256 * 65536 + n / 256 % 256 * 256 + n % 256 = n := by omega
theorem rdW_wordL (n : Nat) (h : n < 4294967296) (ys : List Int) : rdW (wordL n ++ ys) = n := by
  simp only [rdW, wordL, List.cons_append, List.nil_append, List.getD_cons_zero, List.getD_cons_succ, Int.toNat_natCast]
  exact four_sum n h
theorem rdW_lt {xs : List Int} (h : bytesOk xs) : rdW xs < 4294967296 := by
  have hg : ∀ i, (xs.getD i 0).toNat < 256 := fun i => by
    rcases Nat.lt_or_ge i xs.length with hi | hi
    · have := h _ (List.getElem_mem hi)
      simp only [List.getD, List.getElem?_eq_getElem hi, Option.getD_some]
      omega
    · simp [List.getD, List.getElem?_eq_none hi]
  have h0 := hg 0
  have h1 := hg 1
  have h2 := hg 2
  have h3 := hg 3
  unfold rdW
  generalize (xs.getD 0 0).toNat = a at *
  generalize (xs.getD 1 0).toNat = b at *
  generalize (xs.getD 2 0).toNat = c at *
  generalize (xs.getD 3 0).toNat = d at *
  omega
theorem list4 (xs : List Int) (h : xs.length = 4) : ∃ a b c d, xs = [a, b, c, d] := by
  rcases xs with _ | ⟨a, _ | ⟨b, _ | ⟨c, _ | ⟨d, _ | ⟨e, l⟩⟩⟩⟩⟩
  · simp at h
  · simp at h
  · simp at h
  · simp at h
  · exact ⟨a, b, c, d, rfl⟩
  · simp at h
theorem four_inj (a b c d a' b' c' d' : Int) (h1 : 0 ≤ a ∧ a < 256) (h2 : 0 ≤ b ∧ b < 256) (h3 : 0 ≤ c ∧ c < 256) (h4 : 0 ≤ d ∧ d < 256) (h5 : 0 ≤ a' ∧ a' < 256) (h6 : 0 ≤ b' ∧ b' < 256) (h7 : 0 ≤ c' ∧ c' < 256) (h8 : 0 ≤ d' ∧ d' < 256)
    (h : a.toNat * 16777216 + b.toNat * 65536 + c.toNat * 256 + d.toNat = a'.toNat * 16777216 + b'.toNat * 65536 + c'.toNat * 256 + d'.toNat) : a = a' ∧ b = b' ∧ c = c' ∧ d = d' := by omega
/-- the same four bytes, if the numbers are the same -/
theorem rdW_inj {xs ys : List Int} (hx : bytesOk xs) (hy : bytesOk ys) (lx : xs.length = 4) (ly : ys.length = 4) (h : rdW xs = rdW ys) : xs = ys := by
  obtain ⟨a, b, c, d, rfl⟩ := list4 xs lx
  obtain ⟨a', b', c', d', rfl⟩ := list4 ys ly
  obtain ⟨e1, e2, e3, e4⟩ := four_inj a b c d a' b' c' d' (hx a (by simp)) (hx b (by simp)) (hx c (by simp)) (hx d (by simp)) (hy a' (by simp)) (hy b' (by simp)) (hy c' (by simp)) (hy d' (by simp)) h
  rw [e1, e2, e3, e4]
/-- the record of p -/
def recF (p : List Int) : List Int := wordL p.length ++ wordL (crcF (wordL p.length)) ++ p ++ wordL (crcF p)
theorem recF_length (p : List Int) : (recF p).length = p.length + 12 := by simp [recF, wordL_length]; omega
theorem recF_ok {p : List Int} (h : bytesOk p) : bytesOk (recF p) := (((wordL_ok _).append (wordL_ok _)).append h).append (wordL_ok _)
/-- what bytes begin with: an error, or a payload -/
def oneF (b : List Int) : Option Nat × List Int :=
  if b.length = 0 then (some 8, [])
  else if b.length < 8 then (some 12, [])
  else if rdW (b.drop 4) ≠ crcF (b.take 4) ∨ rdW b = 0 ∨ 1048576 < rdW b then (some 11, [])
  else if b.length < rdW b + 12 then (some 12, [])
  else if rdW (b.drop (rdW b + 8)) ≠ crcF ((b.take (rdW b + 8)).drop 8) then (some 11, [])
  else (none, (b.take (rdW b + 8)).drop 8)
/-- a record is read as its payload -/
theorem oneF_rec (p r : List Int) (hp : bytesOk p) (h1 : p.length ≠ 0) (h2 : p.length ≤ 1048576) : oneF (recF p ++ r) = (none, p) := by
  have hl : (recF p ++ r).length = p.length + 12 + r.length := by rw [List.length_append, recF_length]
  have e0 : recF p ++ r = wordL p.length ++ (wordL (crcF (wordL p.length)) ++ (p ++ (wordL (crcF p) ++ r))) := by simp [recF]
  have e1 : rdW (recF p ++ r) = p.length := by rw [e0]; exact rdW_wordL _ (by omega) _
  have e2 : (recF p ++ r).take 4 = wordL p.length := by rw [e0, List.take_append_of_le_length (by rw [wordL_length]; omega), List.take_of_length_le (by rw [wordL_length]; omega)]
  have e3 : rdW ((recF p ++ r).drop 4) = crcF (wordL p.length) := by
    rw [e0, List.drop_append, wordL_length, Nat.sub_self, List.drop_of_length_le (by rw [wordL_length]; omega), List.nil_append, List.drop_zero]
    exact rdW_wordL _ (crcF_lt (wordL_ok _)) _
  have e4 : (recF p ++ r).drop 8 = p ++ (wordL (crcF p) ++ r) := by
    rw [e0, ← List.append_assoc, List.drop_append, List.length_append, wordL_length, wordL_length, List.drop_of_length_le (by simp [wordL_length])]; simp
  have e5 : ((recF p ++ r).take (p.length + 8)).drop 8 = p := by
    rw [List.drop_take, e4, Nat.add_sub_cancel, List.take_append_of_le_length (by omega), List.take_of_length_le (by omega)]
  have e6 : rdW ((recF p ++ r).drop (p.length + 8)) = crcF p := by
    rw [Nat.add_comm, ← List.drop_drop, e4, List.drop_append, Nat.sub_self, List.drop_of_length_le (by omega), List.nil_append, List.drop_zero]
    exact rdW_wordL _ (crcF_lt hp) _
  unfold oneF
  rw [if_neg (by omega), if_neg (by omega), e1, e2, e3, if_neg (by omega), if_neg (by omega), e5, e6, if_neg (by simp)]
end Go.Proofs.YtfdjmfomccckaaaDoor
