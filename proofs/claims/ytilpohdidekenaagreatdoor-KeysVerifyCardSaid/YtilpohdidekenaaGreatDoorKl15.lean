/- Part 15 of the proof. -/
import Derived.Laws.BitsAllLaws
import Derived.Test.YtilpohdidekenaaGreatDoorKl1
namespace Go.Proofs.YtilpohdidekenaaGreatDoor
set_option linter.unusedVariables false
set_option linter.unusedSimpArgs false
def tabL : List Nat := [0, 498536548, 997073096, 651767980, 1994146192, 1802195444, 1303535960, 1342533948, 3988292384, 4027552580, 3604390888, 3412177804, 2607071920, 2262029012, 2685067896, 3183342108]
def tabN (i : Nat) : Nat := tabL.getD i 0
theorem tabN_lt (i : Nat) (h : i < 16) : tabN i < 4294967296 := by
  have : ∀ i : Fin 16, tabN i.val < 4294967296 := by decide
  exact this ⟨i, h⟩
theorem tabN_top (i j : Nat) (hi : i < 16) (hj : j < 16) (h : tabN i / 268435456 = tabN j / 268435456) : i = j := by
  have : ∀ i j : Fin 16, tabN i.val / 268435456 = tabN j.val / 268435456 → i.val = j.val := by decide
  exact this ⟨i, hi⟩ ⟨j, hj⟩ h
/-- four bits -/
def nib (r : Nat) : Nat := r / 16 ^^^ tabN (r % 16)
/-- a byte -/
def byteS (r x : Nat) : Nat := nib (nib (r ^^^ x))
theorem xor_lt32 {a b : Nat} (ha : a < 4294967296) (hb : b < 4294967296) : a ^^^ b < 4294967296 := Nat.xor_lt_two_pow (n := 32) ha hb
theorem nib_lt {r : Nat} (h : r < 4294967296) : nib r < 4294967296 := xor_lt32 (by omega) (tabN_lt _ (by omega))
theorem byteS_lt {r x : Nat} (h : r < 4294967296) (hx : x < 256) : byteS r x < 4294967296 := nib_lt (nib_lt (xor_lt32 h (by omega)))
theorem xor_top (a t : Nat) (ha : a < 268435456) : (a ^^^ t) / 268435456 = t / 268435456 := by
  have h := Nat.shiftRight_xor_distrib (a := a) (b := t) (i := 28)
  simp only [Nat.shiftRight_eq_div_pow] at h
  rw [show (2 : Nat) ^ 28 = 268435456 from rfl, Nat.div_eq_of_lt ha, Nat.zero_xor] at h
  exact h
theorem xor_cancel {a b t : Nat} (h : a ^^^ t = b ^^^ t) : a = b := by
  have := congrArg (· ^^^ t) h
  simpa [Nat.xor_assoc] using this
theorem xor_cancel_l {a b t : Nat} (h : t ^^^ a = t ^^^ b) : a = b := by
  rw [Nat.xor_comm t a, Nat.xor_comm t b] at h
  exact xor_cancel h
theorem nib_inj {a b : Nat} (ha : a < 4294967296) (hb : b < 4294967296) (h : nib a = nib b) : a = b := by
  have h1 : tabN (a % 16) / 268435456 = tabN (b % 16) / 268435456 := by
    rw [← xor_top (a / 16) _ (by omega), ← xor_top (b / 16) (tabN (b % 16)) (by omega)]
    exact congrArg (· / 268435456) h
  have h2 := tabN_top _ _ (by omega) (by omega) h1
  unfold nib at h
  rw [h2] at h
  have h3 := xor_cancel h
  omega
theorem byteS_inj_r {a b x : Nat} (ha : a < 4294967296) (hb : b < 4294967296) (hx : x < 256) (h : byteS a x = byteS b x) : a = b :=
  xor_cancel (nib_inj (xor_lt32 ha (by omega)) (xor_lt32 hb (by omega)) (nib_inj (nib_lt (xor_lt32 ha (by omega))) (nib_lt (xor_lt32 hb (by omega))) h))
theorem byteS_inj_x {r x y : Nat} (hr : r < 4294967296) (hx : x < 256) (hy : y < 256) (h : byteS r x = byteS r y) : x = y :=
  xor_cancel_l (nib_inj (xor_lt32 hr (by omega)) (xor_lt32 hr (by omega)) (nib_inj (nib_lt (xor_lt32 hr (by omega))) (nib_lt (xor_lt32 hr (by omega))) h))
theorem bytesOk_nil : bytesOk [] := fun _ h => by cases h
theorem bytesOk.cons {x : Int} {xs : List Int} (h : bytesOk (x :: xs)) : (0 ≤ x ∧ x < 256) ∧ bytesOk xs := ⟨h x (by simp), fun y hy => h y (by simp [hy])⟩
theorem bytesOk.append {xs ys : List Int} (h1 : bytesOk xs) (h2 : bytesOk ys) : bytesOk (xs ++ ys) := fun x hx => by
  rcases List.mem_append.1 hx with h | h
  · exact h1 x h
  · exact h2 x h
theorem bytesOk.take {xs : List Int} (h : bytesOk xs) (n : Nat) : bytesOk (xs.take n) := fun x hx => h x (List.mem_of_mem_take hx)
theorem bytesOk.drop {xs : List Int} (h : bytesOk xs) (n : Nat) : bytesOk (xs.drop n) := fun x hx => h x (List.mem_of_mem_drop hx)
theorem bytesOk.set {xs : List Int} (h : bytesOk xs) (i : Nat) (y : Int) (hy : 0 ≤ y ∧ y < 256) : bytesOk (xs.set i y) := fun x hx => by
  rcases List.mem_or_eq_of_mem_set hx with h1 | h1
  · exact h x h1
  · rw [h1]; exact hy
/-- the register behind xs -/
def regF (r : Nat) : List Int → Nat
  | [] => r
  | x :: xs => regF (byteS r x.toNat) xs
theorem regF_lt : ∀ (xs : List Int) (r : Nat), r < 4294967296 → bytesOk xs → regF r xs < 4294967296
  | [], _, h, _ => h
  | _ :: xs, _, h, ho => regF_lt xs _ (byteS_lt h (by have := ho.cons.1; omega)) ho.cons.2
theorem regF_append : ∀ (xs ys : List Int) (r : Nat), regF r (xs ++ ys) = regF (regF r xs) ys
  | [], _, _ => rfl
  | _ :: xs, ys, _ => regF_append xs ys _
theorem regF_inj : ∀ (xs : List Int) (a b : Nat), a < 4294967296 → b < 4294967296 → bytesOk xs → regF a xs = regF b xs → a = b
  | [], _, _, _, _, _, h => h
  | x :: xs, a, b, ha, hb, ho, h => by
    have hx := ho.cons.1
    have hx' : x.toNat < 256 := by omega
    exact byteS_inj_r ha hb hx' (regF_inj xs _ _ (byteS_lt ha hx') (byteS_lt hb hx') ho.cons.2 h)
/-- the checksum -/
def crcF (xs : List Int) : Nat := 4294967295 ^^^ regF 4294967295 xs
theorem crcF_lt {xs : List Int} (h : bytesOk xs) : crcF xs < 4294967296 := xor_lt32 (by decide) (regF_lt xs _ (by decide) h)
theorem set_split (xs : List Int) (i : Nat) (h : i < xs.length) (y : Int) : xs.set i y = xs.take i ++ y :: xs.drop (i + 1) := List.set_eq_take_append_cons_drop.trans (if_pos h)
theorem get_split (xs : List Int) (i : Nat) (x : Int) (h : xs[i]? = some x) : xs = xs.take i ++ x :: xs.drop (i + 1) := by
  obtain ⟨hl, hx⟩ := List.getElem?_eq_some_iff.1 h
  have := List.take_append_drop i xs
  rw [List.drop_eq_getElem_cons hl, hx] at this
  exact this.symm
/-- another byte makes another checksum -/
theorem crcF_set {xs : List Int} (ho : bytesOk xs) (i : Nat) (x y : Int) (hx : xs[i]? = some x) (hy : 0 ≤ y ∧ y < 256) (hne : x ≠ y) : crcF (xs.set i y) ≠ crcF xs := by
  have hl : i < xs.length := (List.getElem?_eq_some_iff.1 hx).1
  have hxo : 0 ≤ x ∧ x < 256 := ho x (List.mem_of_getElem? hx)
  intro h
  have h1 := xor_cancel_l h
  rw [set_split xs i hl y] at h1
  rw [get_split xs i x hx] at h1
  have hlen : (xs.take i).length = i := by rw [List.length_take]; omega
  have e1 : (xs.take i ++ x :: xs.drop (i + 1)).take i = xs.take i := by rw [List.take_append_of_le_length (by omega), List.take_of_length_le (by omega)]
  have e2 : (xs.take i ++ x :: xs.drop (i + 1)).drop (i + 1) = xs.drop (i + 1) := by
    rw [List.drop_append, hlen, show i + 1 - i = 1 by omega, List.drop_of_length_le (by omega)]; rfl
  rw [e1, e2, regF_append, regF_append] at h1
  have hr : regF 4294967295 (xs.take i) < 4294967296 := regF_lt _ _ (by decide) (ho.take i)
  have h2 := regF_inj (xs.drop (i + 1)) _ _ (byteS_lt hr (by omega)) (byteS_lt hr (by omega)) (ho.drop _) h1
  have h3 := byteS_inj_x hr (by omega) (by omega) h2
  omega
/-- a number as four bytes -/
def wordL (n : Nat) : List Int := [((n / 16777216 % 256 : Nat) : Int), ((n / 65536 % 256 : Nat) : Int), ((n / 256 % 256 : Nat) : Int), ((n % 256 : Nat) : Int)]
theorem wordL_length (n : Nat) : (wordL n).length = 4 := rfl
theorem wordL_ok (n : Nat) : bytesOk (wordL n) := fun x hx => by
  simp only [wordL, List.mem_cons, List.not_mem_nil, or_false] at hx
  omega
/-- four bytes as a number -/
def rdW (xs : List Int) : Nat := (xs.getD 0 0).toNat * 16777216 + (xs.getD 1 0).toNat * 65536 + (xs.getD 2 0).toNat * 256 + (xs.getD 3 0).toNat
theorem four_sum (n : Nat) (h : n < 4294967296) : n / 16777216 % 256 * 16777216 + n / 65536 % 256 * 65536 + n / 256 % 256 * 256 + n % 256 = n := by omega
theorem rdW_wordL (n : Nat) (h : n < 4294967296) (ys : List Int) : rdW (wordL n ++ ys) = n := by
  simp only [rdW, wordL, List.cons_append, List.nil_append, List.getD_cons_zero, List.getD_cons_succ, Int.toNat_natCast]
  exact four_sum n h
theorem rdW_lt {xs : List Int} (h : bytesOk xs) : rdW xs < 4294967296 := by
  have hg : ∀ i, (xs.getD i 0).toNat < 256 := fun i => by
    rcases Nat.lt_or_ge i xs.length with hi | hi
    · have := h _ (List.getElem_mem hi)
      simp only [List.getD, List.getElem?_eq_getElem hi, Option.getD_some]
      omega
    · simp [List.getD, List.getElem?_eq_none hi]
  have h0 := hg 0
  have h1 := hg 1
  have h2 := hg 2
  have h3 := hg 3
  unfold rdW
  generalize (xs.getD 0 0).toNat = a at *
  generalize (xs.getD 1 0).toNat = b at *
  generalize (xs.getD 2 0).toNat = c at *
  generalize (xs.getD 3 0).toNat = d at *
  omega
theorem list4 (xs : List Int) (h : xs.length = 4) : ∃ a b c d, xs = [a, b, c, d] := by
  rcases xs with _ | ⟨a, _ | ⟨b, _ | ⟨c, _ | ⟨d, _ | ⟨e, l⟩⟩⟩⟩⟩
  · simp at h
  · simp at h
  · simp at h
  · simp at h
  · exact ⟨a, b, c, d, rfl⟩
  · simp at h
theorem four_inj (a b c d a' b' c' d' : Int) (h1 : 0 ≤ a ∧ a < 256) (h2 : 0 ≤ b ∧ b < 256) (h3 : 0 ≤ c ∧ c < 256) (h4 : 0 ≤ d ∧ d < 256) (h5 : 0 ≤ a' ∧ a' < 256) (h6 : 0 ≤ b' ∧ b' < 256) (h7 : 0 ≤ c' ∧ c' < 256) (h8 : 0 ≤ d' ∧ d' < 256)
    (h : a.toNat * 16777216 + b.toNat * 65536 + c.toNat * 256 + d.toNat = a'.toNat * 16777216 + b'.toNat * 65536 + c'.toNat * 256 + d'.toNat) : a = a' ∧ b = b' ∧ c = c' ∧ d = d' := by omega
/-- the same four bytes, if the numbers are the same -/
theorem rdW_inj {xs ys : List Int} (hx : bytesOk xs) (hy : bytesOk ys) (lx : xs.length = 4) (ly : ys.length = 4) (h : rdW xs = rdW ys) : xs = ys := by
  obtain ⟨a, b, c, d, rfl⟩ := list4 xs lx
  obtain ⟨a', b', c', d', rfl⟩ := list4 ys ly
  obtain ⟨e1, e2, e3, e4⟩ := four_inj a b c d a' b' c' d' (hx a (by simp)) (hx b (by simp)) (hx c (by simp)) (hx d (by simp)) (hy a' (by simp)) (hy b' (by simp)) (hy c' (by simp)) (hy d' (by simp)) h
  rw [e1, e2, e3, e4]
/-- the record of p -/
def recF (p : List Int) : List Int := wordL p.length ++ wordL (crcF (wordL p.length)) ++ p ++ wordL (crcF p)
theorem recF_length (p : List Int) : (recF p).length = p.length + 12 := by simp [recF, wordL_length]; omega
theorem recF_ok {p : List Int} (h : bytesOk p) : bytesOk (recF p) := (((wordL_ok _).append (wordL_ok _)).append h).append (wordL_ok _)
/-- what bytes begin with: an error, or a payload -/
def oneF (b : List Int) : Option Nat × List Int :=
  if b.length = 0 then (some 8, [])
  else if b.length < 8 then (some 12, [])
  else if rdW (b.drop 4) ≠ crcF (b.take 4) ∨ rdW b = 0 ∨ 1048576 < rdW b then (some 11, [])
  else if b.length < rdW b + 12 then (some 12, [])
  else if rdW (b.drop (rdW b + 8)) ≠ crcF ((b.take (rdW b + 8)).drop 8) then (some 11, [])
  else (none, (b.take (rdW b + 8)).drop 8)
/-- a record is read as its payload -/
theorem oneF_rec (p r : List Int) (hp : bytesOk p) (h1 : p.length ≠ 0) (h2 : p.length ≤ 1048576) : oneF (recF p ++ r) = (none, p) := by
  have hl : (recF p ++ r).length = p.length + 12 + r.length := by rw [List.length_append, recF_length]
  have e0 : recF p ++ r = wordL p.length ++ (wordL (crcF (wordL p.length)) ++ (p ++ (wordL (crcF p) ++ r))) := by simp [recF]
  have e1 : rdW (recF p ++ r) = p.length := by rw [e0]; exact rdW_wordL _ (by omega) _
  have e2 : (recF p ++ r).take 4 = wordL p.length := by rw [e0, List.take_append_of_le_length (by rw [wordL_length]; omega), List.take_of_length_le (by rw [wordL_length]; omega)]
  have e3 : rdW ((recF p ++ r).drop 4) = crcF (wordL p.length) := by
    rw [e0, List.drop_append, wordL_length, Nat.sub_self, List.drop_of_length_le (by rw [wordL_length]; omega), List.nil_append, List.drop_zero]
    exact rdW_wordL _ (crcF_lt (wordL_ok _)) _
  have e4 : (recF p ++ r).drop 8 = p ++ (wordL (crcF p) ++ r) := by
    rw [e0, ← List.append_assoc, List.drop_append, List.length_append, wordL_length, wordL_length, List.drop_of_length_le (by simp [wordL_length])]; simp
  have e5 : ((recF p ++ r).take (p.length + 8)).drop 8 = p := by
    rw [List.drop_take, e4, Nat.add_sub_cancel, List.take_append_of_le_length (by omega), List.take_of_length_le (by omega)]
  have e6 : rdW ((recF p ++ r).drop (p.length + 8)) = crcF p := by
    rw [Nat.add_comm, ← List.drop_drop, e4, List.drop_append, Nat.sub_self, List.drop_of_length_le (by omega), List.nil_append, List.drop_zero]
    exact rdW_wordL _ (crcF_lt hp) _
  unfold oneF
  rw [if_neg (by omega), if_neg (by omega), e1, e2, e3, if_neg (by omega), if_neg (by omega), e5, e6, if_neg (by simp)]
end Go.Proofs.YtilpohdidekenaaGreatDoor
namespace Go.Proofs.YtilpohdidekenaaGreatDoor
set_option linter.unusedVariables false
set_option linter.unusedSimpArgs false
theorem getD_app (B r : List Int) (i : Nat) (h : i < B.length) : (B ++ r).getD i 0 = B.getD i 0 := by
  simp [List.getD, List.getElem?_append_left h]
theorem rdW_app (B r : List Int) (h : B.length = 4) : rdW (B ++ r) = rdW B := by
  unfold rdW
  rw [getD_app B r 0 (by omega), getD_app B r 1 (by omega), getD_app B r 2 (by omega), getD_app B r 3 (by omega)]
theorem rdW_word (n : Nat) (h : n < 4294967296) : rdW (wordL n) = n := by
  have := rdW_wordL n h []
  rwa [List.append_nil] at this
theorem drop_len {α : Type} (A r : List α) (n : Nat) (h : A.length = n) : (A ++ r).drop n = r := by
  rw [List.drop_append, List.drop_of_length_le (by omega), h, Nat.sub_self]; rfl
theorem take_len {α : Type} (A r : List α) (n : Nat) (h : A.length = n) : (A ++ r).take n = A := by
  rw [List.take_append_of_le_length (by omega), List.take_of_length_le (by omega)]
theorem oneF_head (A B r : List Int) (hA : A.length = 4) (hB : B.length = 4) (h : rdW B ≠ crcF A) : oneF (A ++ (B ++ r)) = (some 11, []) := by
  have hl : (A ++ (B ++ r)).length = 8 + r.length := by simp [hA, hB]; omega
  unfold oneF
  rw [if_neg (by omega), if_neg (by omega), drop_len A _ 4 hA, take_len A _ 4 hA, rdW_app B r hB, if_pos (.inl h)]
theorem oneF_body (A B C D : List Int) (hA : A.length = 4) (hB : B.length = 4) (hD : D.length = 4) (h : rdW B = crcF A) (hn : rdW A = C.length) (h0 : C.length ≠ 0) (h1 : C.length ≤ 1048576) (hd : rdW D ≠ crcF C) :
    oneF (A ++ (B ++ (C ++ D))) = (some 11, []) := by
  have hl : (A ++ (B ++ (C ++ D))).length = C.length + 12 := by simp [hA, hB, hD]; omega
  have e8 : (A ++ (B ++ (C ++ D))).drop 8 = C ++ D := by
    rw [show 8 = 4 + 4 from rfl, ← List.drop_drop, drop_len A _ 4 hA, drop_len B _ 4 hB]
  unfold oneF
  rw [if_neg (by omega), if_neg (by omega), drop_len A _ 4 hA, take_len A _ 4 hA, rdW_app B _ hB, rdW_app A _ hA, hn, if_neg (by omega), if_neg (by omega), List.drop_take, e8, Nat.add_sub_cancel, take_len C _ _ rfl, Nat.add_comm, ← List.drop_drop, e8, drop_len C _ _ rfl, if_pos hd]
theorem rdW_set (n i : Nat) (x y : Int) (hn : n < 4294967296) (hx : (wordL n)[i]? = some x) (hy : 0 ≤ y ∧ y < 256) (hne : x ≠ y) : rdW ((wordL n).set i y) ≠ n := by
  intro h
  have h2 := rdW_inj ((wordL_ok n).set i y hy) (wordL_ok n) (by rw [List.length_set]; rfl) rfl (h.trans (rdW_word n hn).symm)
  have hi := (List.getElem?_eq_some_iff.1 hx).1
  have h3 : ((wordL n).set i y)[i]? = some y := by rw [List.getElem?_set_self hi]
  rw [h2, hx] at h3
  exact hne (by simpa using h3)
theorem oneF_spoilt (p : List Int) (i : Nat) (x y : Int) (hp : bytesOk p) (h0 : p.length ≠ 0) (h1 : p.length ≤ 1048576) (hx : (recF p)[i]? = some x) (hy : 0 ≤ y ∧ y < 256) (hne : x ≠ y) : oneF ((recF p).set i y) = (some 11, []) := by
  have hc1 := crcF_lt (wordL_ok p.length)
  have hc2 := crcF_lt hp
  have e0 : recF p = wordL p.length ++ (wordL (crcF (wordL p.length)) ++ (p ++ wordL (crcF p))) := by simp [recF]
  rw [e0] at hx ⊢
  rw [List.set_append]
  rw [List.getElem?_append] at hx
  split
  · next h4 =>
    rw [if_pos h4] at hx
    refine oneF_head _ _ _ (by rw [List.length_set]; rfl) rfl ?_
    rw [rdW_word _ hc1]
    exact fun h => crcF_set (wordL_ok _) i x y hx hy hne h.symm
  · next h4 =>
    rw [if_neg h4, List.getElem?_append] at hx
    rw [List.set_append]
    split
    · next h8 =>
      rw [if_pos h8] at hx
      exact oneF_head _ _ _ rfl (by rw [List.length_set]; rfl) (rdW_set _ _ x y hc1 hx hy hne)
    · next h8 =>
      rw [if_neg h8, List.getElem?_append] at hx
      rw [List.set_append]
      split
      · next hb =>
        rw [if_pos hb] at hx
        refine oneF_body _ _ _ _ rfl rfl rfl (rdW_word _ hc1) (by rw [List.length_set]; exact rdW_word _ (by omega)) (by rw [List.length_set]; exact h0) (by rw [List.length_set]; exact h1) ?_
        rw [rdW_word _ hc2]
        exact fun h => crcF_set hp _ x y hx hy hne h.symm
      · next hb =>
        rw [if_neg hb] at hx
        exact oneF_body _ _ _ _ rfl rfl (by rw [List.length_set]; rfl) (rdW_word _ hc1) (rdW_word _ (by omega)) h0 h1 (rdW_set _ _ x y hc2 hx hy hne)
end Go.Proofs.YtilpohdidekenaaGreatDoor
namespace Go.Proofs.YtilpohdidekenaaGreatDoor
set_option linter.unusedVariables false
set_option linter.unusedSimpArgs false
open Go.RowKit
set_option maxRecDepth 100000
/-- the table of package frame, as it is laid -/
def NibAt (w : World) : Prop := ∀ i, i < 16 → w.cell? ⟨2, i, none⟩ = some (.int .u32 ((tabN i : Nat) : Int))
theorem NibAt.lt {w : World} (h : NibAt w) : 2 < w.heap.size := World.block_lt_of_cell? w _ (h 0 (by decide))
theorem NibAt.below {w w' : World} {B : Nat} (h : NibAt w) (hb : Below B w w') (hB : 2 < B) : NibAt w' := fun i hi => (hb.cell (p := ⟨2, i, none⟩) hB).trans (h i hi)
theorem NibAt.only {p : Nat} {w w' : World} (h : NibAt w) (ho : Only p w w') (hp : 2 < p) : NibAt w' := fun i hi => ho.cell (h i hi) (show 2 ≠ p by omega)
theorem BytesIn.cell {w : World} {a : Option Addr} {n cap : Nat} {xs : List Int} (h : BytesIn w (.slice a n cap) xs) : n = xs.length ∧ (xs = [] ∨ ∃ ab ao, a = some ⟨ab, ao, none⟩ ∧ ∀ i x, xs[i]? = some x → w.cell? ⟨ab, ao + i, none⟩ = some (.int .u8 x)) := by
  obtain ⟨a', c', e, _, _, hx⟩ := h
  injection e with e1 e2 e3
  subst e1 e2
  exact ⟨rfl, hx⟩
theorem regF_snoc (r : Nat) (xs : List Int) (x : Int) : regF r (xs ++ [x]) = byteS (regF r xs) x.toNat := by rw [regF_append]; rfl
theorem take_snoc {xs : List Int} {k : Nat} {x : Int} (h : xs[k]? = some x) : xs.take (k + 1) = xs.take k ++ [x] := by
  rw [List.take_add_one, h]; rfl
theorem nib_and (m : Nat) (h : m < 4294967296) : bits .and .u32 (m : Int) 15 = ((m % 16 : Nat) : Int) := by
  have := u32_and_nat m 15 h (by decide)
  rw [show m &&& 15 = m % 16 from Nat.and_two_pow_sub_one_eq_mod m 4] at this
  exact this
theorem nib_not (m : Nat) (h : m < 4294967296) : bits .xor .u32 IntKind.u32.max (m : Int) = ((4294967295 ^^^ m : Nat) : Int) := u32_xor_nat 4294967295 m (by decide) h
set_option maxHeartbeats 1000000 in
theorem sumc_any (y : Value) (ys : List Int) (w : World) (hT : NibAt w) (hy : BytesIn w y ys) (ho : bytesOk ys) (hl : ys.length ≤ 140737488355328) :
    Calls Tryz.prog 125 #[y] w fun e w' => e = .returned (.int .u32 ((crcF ys : Nat) : Int)) ∧ w = w' := by
  have HY := Lib.hid hy
  have HT := Lib.hid hT
  have HO := Lib.hid ho
  obtain ⟨a, c, rfl, hc, hm, hx⟩ := hy
  have HX := Lib.hid hx
  clear hT ho hx hm hc
  go_enter Tryz.func125, Tryz.ntmps125
  go_wp2
  go_loop [3, 8] (fun r i => ∃ k : Nat, k ≤ ys.length ∧ i = .int .i64 k ∧ r = .int .u32 ((regF 4294967295 (ys.take k) : Nat) : Int)) (fun _ i => ys.length - (intOf i).toNat)
  case atStart => exact ⟨0, Nat.zero_le _, rfl, rfl⟩
  case round =>
    obtain ⟨k, hk, rfl, rfl⟩ := hrel
    by_cases hlt : k < ys.length
    · obtain ⟨x, hxk⟩ : ∃ x, ys[k]? = some x := ⟨_, List.getElem?_eq_getElem hlt⟩
      have hxo := HO.out x (List.mem_of_getElem? hxk)
      rcases HX.out with h0 | ⟨ab, ao, rfl, hx⟩
      · rw [h0] at hlt; simp at hlt
      · have hcell := hx k x hxk
        have HS := Lib.hid (show regF 4294967295 (ys.take (k + 1)) = byteS (regF 4294967295 (ys.take k)) x.toNat by rw [take_snoc hxk, regF_snoc])
        have hr := regF_lt (ys.take k) 4294967295 (by decide) (HO.out.take k)
        obtain ⟨z, rfl⟩ : ∃ z : Nat, x = (z : Int) := ⟨x.toNat, by omega⟩
        have hz : z < 256 := by omega
        clear hx hxo hxk
        generalize regF 4294967295 (ys.take k) = r at *
        have e1 := u32_xor_nat r z hr (by omega)
        have l1 : r ^^^ z < 4294967296 := xor_lt32 hr (by omega)
        have HB := Lib.hid (show byteS r z = nib (nib (r ^^^ z)) from rfl)
        generalize r ^^^ z = m at *
        have e2 := nib_and m l1
        have e3 := u32_xor_nat (m / 16) (tabN (m % 16)) (by omega) (tabN_lt _ (by omega))
        have l3 : nib m < 4294967296 := nib_lt l1
        have HN := Lib.hid (show nib m = m / 16 ^^^ tabN (m % 16) from rfl)
        rw [← HN.out] at e3
        have c2 := HT.out (m % 16) (by omega)
        have b2 : m % 16 < 16 := by omega
        generalize nib m = m2 at *
        have e4 := nib_and m2 l3
        have e5 := u32_xor_nat (m2 / 16) (tabN (m2 % 16)) (by omega) (tabN_lt _ (by omega))
        have c4 := HT.out (m2 % 16) (by omega)
        have b4 : m2 % 16 < 16 := by omega
        have HM := Lib.hid (show nib m2 = m2 / 16 ^^^ tabN (m2 % 16) from rfl)
        generalize m % 16 = p at *
        generalize m2 % 16 = q at *
        clear HN
        rw [show ((m / 16 : Nat) : Int) = (m : Int) / 16 by omega] at e3
        rw [show ((m2 / 16 : Nat) : Int) = (m2 : Int) / 16 by omega] at e5
        go_wp2
        go_round
        case rel => exact ⟨k + 1, by omega, by go_num, by rw [HS.out, Int.toNat_natCast, HB.out, ← HM.out]⟩
        case measure => simp [intOf]; omega
    · have HK := Lib.hid (show k = ys.length by omega)
      have hr := regF_lt (ys.take k) 4294967295 (by decide) (HO.out.take k)
      have hn := nib_not _ hr
      have HC := Lib.hid (show crcF ys = 4294967295 ^^^ regF 4294967295 (ys.take k) by rw [HK.out, List.take_length]; rfl)
      rw [← HC.out] at hn
      go_wp2
      go_ret
      exact ⟨rfl, rfl⟩
end Go.Proofs.YtilpohdidekenaaGreatDoor
namespace Go.Proofs.YtilpohdidekenaaGreatDoor
set_option linter.unusedVariables false
set_option linter.unusedSimpArgs false
open Go.RowKit
set_option maxRecDepth 100000
theorem or_add (a b i : Nat) (h : b < 2 ^ i) : a * 2 ^ i ||| b = a * 2 ^ i + b := by
  rw [Nat.mul_comm]; exact (Nat.two_pow_add_eq_or_of_lt h a).symm
theorem or4 (a b c d : Nat) (ha : a < 256) (hb : b < 256) (hc : c < 256) (hd : d < 256) :
    bits .or .u32 (bits .or .u32 (bits .or .u32 ((a : Int) * 16777216) ((b : Int) * 65536)) ((c : Int) * 256)) (d : Int) = ((a * 16777216 + b * 65536 + c * 256 + d : Nat) : Int) := by
  have e1 := u32_or_nat (a * 16777216) (b * 65536) (by omega) (by omega)
  have o1 := or_add a (b * 65536) 24 (by omega)
  rw [show (2 : Nat) ^ 24 = 16777216 from rfl] at o1
  rw [o1] at e1
  have e2 := u32_or_nat (a * 16777216 + b * 65536) (c * 256) (by omega) (by omega)
  have o2 := or_add (a * 256 + b) (c * 256) 16 (by omega)
  rw [show (2 : Nat) ^ 16 = 65536 from rfl, show (a * 256 + b) * 65536 = a * 16777216 + b * 65536 by omega] at o2
  rw [o2] at e2
  have e3 := u32_or_nat (a * 16777216 + b * 65536 + c * 256) d (by omega) (by omega)
  have o3 := or_add (a * 65536 + b * 256 + c) d 8 (by omega)
  rw [show (2 : Nat) ^ 8 = 256 from rfl, show (a * 65536 + b * 256 + c) * 256 = a * 16777216 + b * 65536 + c * 256 by omega] at o3
  rw [o3] at e3
  rw [show ((a : Int) * 16777216) = ((a * 16777216 : Nat) : Int) by omega, show ((b : Int) * 65536) = ((b * 65536 : Nat) : Int) by omega, show ((c : Int) * 256) = ((c * 256 : Nat) : Int) by omega, e1, e2, e3]
set_option maxHeartbeats 1000000 in
theorem readw_any (y : Value) (ys : List Int) (w : World) (hy : BytesIn w y ys) (ho : bytesOk ys) (hl : 4 ≤ ys.length) :
    Calls Tryz.prog 142 #[y] w fun e w' => e = .returned (.int .u32 ((rdW ys : Nat) : Int)) ∧ ∃ n, w' = w.drewN n := by
  obtain ⟨a, c, rfl, hc, hm, hx⟩ := hy
  rcases hx with h0 | ⟨ab, ao, rfl, hx⟩
  · rw [h0] at hl; simp at hl
  have g : ∀ i, i < ys.length → ∃ z : Nat, z < 256 ∧ ys.getD i 0 = (z : Int) ∧ w.cell? ⟨ab, ao + i, none⟩ = some (.int .u8 (z : Int)) := fun i hi => by
    have h1 := ho _ (List.getElem_mem hi)
    refine ⟨ys[i].toNat, by omega, by simp [List.getD, List.getElem?_eq_getElem hi]; omega, ?_⟩
    rw [show ((ys[i].toNat : Nat) : Int) = ys[i] by omega]
    exact hx i _ (List.getElem?_eq_getElem hi)
  obtain ⟨z0, b0, g0, c0⟩ := g 0 (by omega)
  obtain ⟨z1, b1, g1, c1⟩ := g 1 (by omega)
  obtain ⟨z2, b2, g2, c2⟩ := g 2 (by omega)
  obtain ⟨z3, b3, g3, c3⟩ := g 3 (by omega)
  have HR := Lib.hid (show rdW ys = z0 * 16777216 + z1 * 65536 + z2 * 256 + z3 by unfold rdW; rw [g0, g1, g2, g3]; rfl)
  have q0 : (0 : Int) < ys.length := by omega
  have q1 : (1 : Int) < ys.length := by omega
  have q2 : (2 : Int) < ys.length := by omega
  have q3 : (3 : Int) < ys.length := by omega
  rw [Nat.add_zero] at c0
  have m0 : 0 < ys.length := by omega
  have m1 : 1 < ys.length := by omega
  have m2 : 2 < ys.length := by omega
  have m3 : 3 < ys.length := by omega
  clear g g0 g1 g2 g3 hx ho hc hm
  go_enter Tryz.func142, Tryz.ntmps142
  go_wp2
  go_quiet (fail)
  go_wp2
  go_ret
  refine ⟨?_, _, rfl⟩
  rw [HR.out, ← or4 z0 z1 z2 z3 b0 b1 b2 b3]
  rfl
theorem lit4_in (w : World) (a b c d : Int) : BytesIn (w.alloc (.cells #[.int .u8 a, .int .u8 b, .int .u8 c, .int .u8 d] 5)) (.slice (some ⟨w.heap.size, 0, none⟩) 4 4) [a, b, c, d] := by
  refine ⟨_, _, rfl, by simp, by simp [maxLen], .inr ⟨_, _, rfl, fun i x hi => ?_⟩⟩
  rw [Nat.zero_add, cell_of_row _ _ _ _ _ _ (heap_alloc_new w _)]
  match i, hi with
  | 0, hi => cases hi; rfl
  | 1, hi => cases hi; rfl
  | 2, hi => cases hi; rfl
  | 3, hi => cases hi; rfl
theorem grown_alloc {w w' : World} {o : Obj} {r : Option Nat} (h : (w.alloc o).grownBy w' r) : w.grownBy w' r :=
  ⟨h.os, h.tape, h.output, Nat.le_trans (by simp) h.size, fun k hk hne => (h.block k (by simp; omega) hne).trans (Below.heap_alloc w o k hk)⟩
theorem OwnOf.alloc {v v' : Value} {w : World} {o : Obj} (h : OwnOf v v' (w.alloc o)) : OwnOf v v' w := by
  rcases h with h | ⟨k, h1, h2⟩
  · exact .inl h
  · exact .inr ⟨k, h1, by simp at h2; omega⟩
theorem wordI (m : Nat) (h : m < 4294967296) : [(m : Int) / 16777216, (m : Int) / 65536 % 256, (m : Int) / 256 % 256, (m : Int) % 256] = wordL m := by
  unfold wordL
  rw [Nat.mod_eq_of_lt (show m / 16777216 < 256 by omega), Int.natCast_ediv, Int.natCast_emod, Int.natCast_ediv, Int.natCast_emod, Int.natCast_ediv, Int.natCast_emod]
  rfl
set_option maxHeartbeats 1000000 in
theorem appw_any (v : Value) (base n m : Nat) (vs : List Value) (w : World) (hown : w.ownsRow base 5 1 v n vs) (hm : m < 4294967296) (hl : n + 4 ≤ 140737488355328) (hb : base ≤ w.heap.size) :
    Calls Tryz.prog 124 #[v, .int .u32 (m : Int)] w fun e w' => ∃ v', e = .returned v' ∧ w'.ownsRow base 5 1 v' (n + 4) (vs ++ byteVals (wordL m)) ∧ w.grownBy w' v.ownBlock ∧ OwnOf v v' w := by
  have HO := Lib.hid hown
  have HL := Lib.hid hl
  have HB := Lib.hid hb
  clear hl hb hown
  go_enter Tryz.func124, Tryz.ntmps124
  go_wp2_with (at_builtin; refine wpList_append_bytes rfl (.tmp 5) (.tmp 17) rfl rfl base v n vs rfl (HO.out.alloc _) _ _ rfl (lit4_in _ _ _ _ _) HL.out (Nat.le_trans HB.out (by simp)) ?_; intro v' w1 ho hg hof; have H := Lib.hid (And.intro ho (And.intro (grown_alloc hg) hof.alloc)); clear ho hg hof)
  go_ret
  obtain ⟨h1, h2, h3⟩ := H.out
  rw [wordI m hm] at h1
  exact ⟨_, rfl, h1, h2, h3⟩
end Go.Proofs.YtilpohdidekenaaGreatDoor
namespace Go.Proofs.YtilpohdidekenaaGreatDoor
set_option linter.unusedVariables false
set_option linter.unusedSimpArgs false
open Go.RowKit
set_option maxRecDepth 100000
theorem byteVals_len (xs : List Int) : (byteVals xs).length = xs.length := by simp [byteVals]
/-- appendWord to a slice of one's own -/
theorem appw_own (v : Value) (base m : Nat) (xs : List Int) (w w0 : World) (hown : w.ownsRow base 5 1 v xs.length (byteVals xs)) (hm : m < 4294967296) (hl : xs.length + 4 ≤ 140737488355328) (hb : base ≤ w.heap.size) (hB : Below base w0 w) :
    Calls Tryz.prog 124 #[v, .int .u32 (m : Int)] w fun e w' => ∃ v', e = .returned v' ∧ w'.ownsRow base 5 1 v' (xs ++ wordL m).length (byteVals (xs ++ wordL m)) ∧ Below base w0 w' ∧ base ≤ w'.heap.size := by
  refine (appw_any v base xs.length m (byteVals xs) w hown hm hl hb).mono fun e w' h => ?_
  obtain ⟨v', he, h1, h2, _⟩ := h
  refine ⟨v', he, ?_, hB.grown h2 hb (fun k hk => (hown.lt k hk).1), Nat.le_trans hb h2.size⟩
  rw [List.length_append, byteVals_append]
  exact h1
def FrameOk (ys : List Int) (w : World) (e : Ending) (w' : World) : Prop :=
  ∃ v', e = .returned (.tuple #[v', .nilIface]) ∧ w'.ownsRow w.heap.size 5 1 v' (recF ys).length (byteVals (recF ys)) ∧ Below w.heap.size w w'
set_option maxHeartbeats 1000000 in
theorem frame_ok (y : Value) (ys : List Int) (w : World) (hT : NibAt w) (hy : BytesIn w y ys) (ho : bytesOk ys) (h1 : ys.length ≠ 0) (h2 : ys.length ≤ 1048576) :
    Calls Tryz.prog 83 #[y] w (FrameOk ys w) := by
  have HY := Lib.hid hy
  have HT := Lib.hid hT
  have HO := Lib.hid ho
  obtain ⟨i0, hi, hz0, hz1, hz2⟩ := info_parts infoU8
  have HI := Lib.hid (And.intro hi (And.intro hz0 (And.intro hz1 hz2)))
  obtain ⟨a, c, rfl, hc, hm, hx⟩ := hy
  have n1 : ¬ ys.length = 0 := h1
  have n2 : ¬ (1048576 : Int) < ys.length := by omega
  have HL := Lib.hid h2
  have HB0 := Lib.hid (Below.refl w.heap.size w)
  clear hT ho hx hm hc hi hz0 hz1 hz2 h1
  go_enter Tryz.func83, Tryz.ntmps83
  go_wp2_with (first
    | (refine wpList_make_own _ rfl (.const (.int .i64 0)) (.tmp 15) 26 rfl w.heap.size 5 i0 (.int .u8 0) 1 Tryz.underlying26 HI.out.1 HI.out.2.1 HI.out.2.2.1 .i64 .i64 _ (ys.length + 12) rfl rfl rfl (by rw [HI.out.2.2.2]; have := HL.out; omega) (by have := HL.out; unfold maxLen; omega) (Nat.le_refl _) ?_; intro w1 ho1 hg1; have H1 := Lib.hid (show w1.ownsRow w.heap.size 5 1 _ ([] : List Int).length (byteVals []) from ho1); have HB1 := Lib.hid (HB0.out.grown hg1 (Nat.le_refl _) (fun k hk => by cases hk)); have HZ1 := Lib.hid hg1.size; clear ho1 hg1)
    | (go_at_call 124; (with_reducible refine (appw_own _ w.heap.size ys.length [] w1 w H1.out (by have := HL.out; omega) (by decide) HZ1.out HB1.out).mono ?_); rintro e w2 ⟨v2, rfl, h2, hb2, hz2⟩; rw [List.nil_append] at h2; have H2 := Lib.hid h2; have HB2 := Lib.hid hb2; have HZ2 := Lib.hid hz2; clear h2 hb2 hz2)
    | (go_at_call 125; (with_reducible refine (sumc_any v2 (wordL ys.length) w2 (HT.out.below HB2.out HT.out.lt) (owns_in H2.out (by unfold maxLen; rw [wordL_length]; omega)) (wordL_ok _) (by rw [wordL_length]; omega)).mono ?_); rintro e w2' ⟨rfl, rfl⟩)
    | (go_at_call 124; (with_reducible refine (appw_own v2 w.heap.size (crcF (wordL ys.length)) (wordL ys.length) w2 w H2.out (crcF_lt (wordL_ok _)) (by rw [wordL_length]; omega) HZ2.out HB2.out).mono ?_); rintro e w3 ⟨v3, rfl, h3, hb3, hz3⟩; have H3 := Lib.hid h3; have HB3 := Lib.hid hb3; have HZ3 := Lib.hid hz3; clear h3 hb3 hz3)
    | (at_builtin; refine wpList_append_bytes rfl (.tmp 26) (.tmp 27) rfl rfl w.heap.size v3 _ _ rfl H3.out _ ys rfl (HY.out.below HB3.out) (by rw [List.length_append, wordL_length, wordL_length]; have := HL.out; omega) HZ3.out ?_; intro v4 w4 ho4 hg4 _; have H4 := Lib.hid (show w4.ownsRow w.heap.size 5 1 v4 (wordL ys.length ++ wordL (crcF (wordL ys.length)) ++ ys).length (byteVals (wordL ys.length ++ wordL (crcF (wordL ys.length)) ++ ys)) by rw [List.length_append, byteVals_append]; exact ho4); have HB4 := Lib.hid (HB3.out.grown hg4 HZ3.out (fun k hk => (H3.out.lt k hk).1)); have HZ4 := Lib.hid (Nat.le_trans HZ3.out hg4.size); clear ho4 hg4)
    | (go_at_call 125; (with_reducible refine (sumc_any _ ys w4 (HT.out.below HB4.out HT.out.lt) (HY.out.below HB4.out) HO.out (by have := HL.out; omega)).mono ?_); rintro e w4' ⟨rfl, rfl⟩)
    | (go_at_call 124; (with_reducible refine (appw_own v4 w.heap.size (crcF ys) _ w4 w H4.out (crcF_lt HO.out) (by rw [List.length_append, List.length_append, wordL_length, wordL_length]; have := HL.out; omega) HZ4.out HB4.out).mono ?_); rintro e w5 ⟨v5, rfl, h5, hb5, hz5⟩; have H5 := Lib.hid h5; have HB5 := Lib.hid hb5; clear h5 hb5 hz5))
  go_ret2
  exact ⟨_, rfl, H5.out, HB5.out⟩
set_option maxHeartbeats 1000000 in
theorem frame_nil (y : Value) (ys : List Int) (w : World) (hy : BytesIn w y ys) (h1 : ys.length = 0) :
    Calls Tryz.prog 83 #[y] w fun e w' => e = .returned (.tuple #[.slice none 0 0, .iface 87 (.int .i64 1)]) ∧ w = w' := by
  obtain ⟨a, c, rfl, _, _, _⟩ := hy
  obtain rfl : ys = [] := List.eq_nil_of_length_eq_zero h1
  clear h1
  go_enter Tryz.func83, Tryz.ntmps83
  go_wp2
  go_ret2
  exact ⟨rfl, rfl⟩
set_option maxHeartbeats 1000000 in
theorem frame_long (y : Value) (ys : List Int) (w : World) (hy : BytesIn w y ys) (h1 : 1048576 < ys.length) :
    Calls Tryz.prog 83 #[y] w fun e w' => e = .returned (.tuple #[.slice none 0 0, .iface 87 (.int .i64 2)]) ∧ w = w' := by
  obtain ⟨a, c, rfl, _, _, _⟩ := hy
  have n1 : ¬ ys.length = 0 := by omega
  have n2 : (1048576 : Int) < ys.length := by omega
  go_enter Tryz.func83, Tryz.ntmps83
  go_wp2
  go_ret2
  exact ⟨rfl, rfl⟩
end Go.Proofs.YtilpohdidekenaaGreatDoor
