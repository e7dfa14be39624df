/- The hash of 'abc', reckoned by the kernel: each number is forced before the next one is made. -/
import Derived.Test.YtbppainejdphpaaDoorShText
namespace Go.Proofs.YtbppainejdphpaaDoor
open Go.RowKit
def forceI {α : Type} (x : Int) (f : Int → α) : α :=
  match x with
  | .ofNat n => Nat.rec (motive := fun _ => α) (f (.ofNat 0)) (fun m _ => f (.ofNat (m + 1))) n
  | .negSucc n => f (.negSucc n)
theorem forceI_eq {α : Type} (x : Int) (f : Int → α) : forceI x f = f x := by
  cases x with
  | ofNat n => cases n <;> rfl
  | negSucc n => rfl
def nextI (a b c d : Int) : Int :=
  (a + bits BinOp.xor IntKind.u32 (bits BinOp.xor IntKind.u32 (rotI b 25) (rotI b 14)) (b / 8) + c + bits BinOp.xor IntKind.u32 (bits BinOp.xor IntKind.u32 (rotI d 15) (rotI d 13)) (d / 1024)) % 4294967296
theorem nextW_eq (e : Nat → Int) (k : Nat) : nextW e k = nextI (e k) (e (k + 1)) (e (k + 9)) (e (k + 14)) := rfl
/-- a list of sixteen words and n more -/
def expL : Nat → List Int → List Int
  | 0, l => l
  | n + 1, l => forceI (nextI (l.getD 0 0) (l.getD 1 0) (l.getD 9 0) (l.getD 14 0)) fun x => l.getD 0 0 :: expL n (l.drop 1 ++ [x])
def rng (f : Nat → Int) (k n : Nat) : List Int := (List.range' k n).map f
theorem rng_getD (f : Nat → Int) (k n i : Nat) (h : i < n) : (rng f k n).getD i 0 = f (k + i) := by
  simp [rng, List.getD, h]
theorem rng_cons (f : Nat → Int) (k n : Nat) : rng f k (n + 1) = f k :: rng f (k + 1) n := by simp [rng, List.range'_succ]
theorem rng_snoc (f : Nat → Int) (k n : Nat) : rng f k n ++ [f (k + n)] = rng f k (n + 1) := by
  simp [rng, List.range'_concat]
theorem expL_rng (E : Nat → Int) : ∀ (n k : Nat), (∀ t, k ≤ t → t < k + n → E (t + 16) = nextI (E t) (E (t + 1)) (E (t + 9)) (E (t + 14))) → expL n (rng E k 16) = rng E k (16 + n)
  | 0, _, _ => rfl
  | n + 1, k, h => by
    rw [expL, forceI_eq, rng_getD E k 16 0 (by decide), rng_getD E k 16 1 (by decide), rng_getD E k 16 9 (by decide), rng_getD E k 16 14 (by decide), Nat.add_zero, ← h k (Nat.le_refl _) (by omega)]
    have e : (rng E k 16).drop 1 ++ [E (k + 16)] = rng E (k + 1) 16 := by
      rw [rng_cons, List.drop_succ_cons, List.drop_zero, show k + 16 = k + 1 + 15 by omega, rng_snoc]
    rw [e, expL_rng E n (k + 1) (fun t h1 h2 => h t (by omega) (by omega)), show 16 + (n + 1) = (16 + n) + 1 by omega, rng_cons]
theorem expA_get (bl : Nat → Int) : ∀ (k i : Nat), expA bl k i = if i < k then wordB bl i else 0
  | 0, i => by rw [if_neg (by omega)]; rfl
  | k + 1, i => by
    unfold expA upd
    by_cases h : i = k
    · subst h; rw [if_pos rfl, if_pos (by omega)]
    · rw [if_neg h, expA_get bl k i]
      by_cases h2 : i < k
      · rw [if_pos h2, if_pos (by omega)]
      · rw [if_neg h2, if_neg (by omega)]
theorem expB_old (bl : Nat → Int) (k i : Nat) (h : i < k + 16) : ∀ n, expB bl (k + n) i = expB bl k i
  | 0 => rfl
  | n + 1 => by
    rw [← Nat.add_assoc]
    show upd (expB bl (k + n)) (k + n + 16) _ i = _
    unfold upd
    rw [if_neg (by omega)]
    exact expB_old bl k i h n
theorem expB_first (bl : Nat → Int) (i : Nat) (h : i < 16) : expB bl 48 i = wordB bl i := by
  have := expB_old bl 0 i (by omega) 48
  rw [Nat.zero_add] at this
  rw [this]
  show expA bl 16 i = _
  rw [expA_get, if_pos h]
theorem expB_rec (bl : Nat → Int) (t : Nat) (h : t < 48) : expB bl 48 (t + 16) = nextI (expB bl 48 t) (expB bl 48 (t + 1)) (expB bl 48 (t + 9)) (expB bl 48 (t + 14)) := by
  have e : ∀ i, i < t + 16 → expB bl 48 i = expB bl t i := fun i hi => by
    have := expB_old bl t i hi (48 - t)
    rw [show t + (48 - t) = 48 by omega] at this; exact this
  have e1 : expB bl 48 (t + 16) = expB bl (t + 1) (t + 16) := by
    have := expB_old bl (t + 1) (t + 16) (by omega) (47 - t)
    rw [show t + 1 + (47 - t) = 48 by omega] at this; exact this
  rw [e1, e t (by omega), e (t + 1) (by omega), e (t + 9) (by omega), e (t + 14) (by omega), ← nextW_eq]
  show upd _ (t + 16) _ (t + 16) = _
  unfold upd
  rw [if_pos rfl]
theorem expB_list (bl : Nat → Int) : expL 48 (rng (wordB bl) 0 16) = rng (expB bl 48) 0 64 := by
  have e : rng (wordB bl) 0 16 = rng (expB bl 48) 0 16 := by
    unfold rng
    apply List.map_congr_left
    intro i hi
    rw [expB_first bl i (by simp at hi; omega)]
  rw [e]
  exact expL_rng (expB bl 48) 48 0 (fun t _ h2 => expB_rec bl t (by omega))
def stepA (k w t0 t1 t2 t4 t5 t6 t7 : Int) : Int :=
  ((t7 + bits BinOp.xor IntKind.u32 (bits BinOp.xor IntKind.u32 (rotI t4 26) (rotI t4 21)) (rotI t4 7) +
    bits BinOp.xor IntKind.u32 (bits BinOp.and IntKind.u32 t4 t5) (bits BinOp.and IntKind.u32 (bits BinOp.xor IntKind.u32 IntKind.u32.max t4) t6) + k + w + bits BinOp.xor IntKind.u32 (bits BinOp.xor IntKind.u32 (rotI t0 30) (rotI t0 19)) (rotI t0 10)) % 4294967296 +
      bits BinOp.xor IntKind.u32 (bits BinOp.xor IntKind.u32 (bits BinOp.and IntKind.u32 t0 t1) (bits BinOp.and IntKind.u32 t0 t2)) (bits BinOp.and IntKind.u32 t1 t2)) % 4294967296
def stepE (k w t3 t4 t5 t6 t7 : Int) : Int :=
  (t3 + (t7 + bits BinOp.xor IntKind.u32 (bits BinOp.xor IntKind.u32 (rotI t4 26) (rotI t4 21)) (rotI t4 7) +
    bits BinOp.xor IntKind.u32 (bits BinOp.and IntKind.u32 t4 t5) (bits BinOp.and IntKind.u32 (bits BinOp.xor IntKind.u32 IntKind.u32.max t4) t6) + k + w) % 4294967296) % 4294967296
def rndL : List Int → List Int → Int → Int → Int → Int → Int → Int → Int → Int → List Int
  | k :: ks, w :: ws, a, b, c, d, e, f, g, h => forceI (stepA k w a b c e f g h) fun x => forceI (stepE k w d e f g h) fun y => rndL ks ws x a b c y e f g
  | _, _, a, b, c, d, e, f, g, h => [a, b, c, d, e, f, g, h]
theorem rndL_rng (E s : Nat → Int) : ∀ (n k : Nat), rndL (rng KT k n) (rng E k n) (rnd E s k 0) (rnd E s k 1) (rnd E s k 2) (rnd E s k 3) (rnd E s k 4) (rnd E s k 5) (rnd E s k 6) (rnd E s k 7) = rng (rnd E s (k + n)) 0 8
  | 0, k => by
    simp only [rng_cons, Nat.add_zero]
    rfl
  | n + 1, k => by
    rw [rng_cons, rng_cons, rndL, forceI_eq, forceI_eq]
    have := rndL_rng E s n (k + 1)
    rw [show k + (n + 1) = k + 1 + n by omega, ← this]
    rfl
def mixL (s B : Nat → Int) : List Int := rndL (rng KT 0 64) (expL 48 (rng (wordB B) 0 16)) (s 0) (s 1) (s 2) (s 3) (s 4) (s 5) (s 6) (s 7)
theorem mixL_eq (s B : Nat → Int) : mixL s B = rng (rnd (expB B 48) s 64) 0 8 := by
  unfold mixL
  rw [expB_list]
  have := rndL_rng (expB B 48) s 64 0
  rw [Nat.zero_add] at this
  exact this
theorem mixF_get (s B : Nat → Int) (i : Nat) (h : i < 8) : mixF s B i = (s i + (mixL s B).getD i 0) % 4294967296 := by
  rw [mixL_eq, rng_getD _ _ _ _ h, Nat.zero_add]
  rfl
def abcB : Nat → Int := lenF (padB (lay (fun _ => 0) 0 [97, 98, 99]) 3) 3 8
theorem abc_mix : mixL BT abcB = [1349398616, 3550093669, 80891244, 3093179625, 1593118500, 4212265488, 2492278198, 2518632596] := by kernel_rfl
theorem abc_put : putF h0 [97, 98, 99] = ⟨BT, lay (fun _ => 0) 0 [97, 98, 99], 3⟩ := put_run BT [97, 98, 99] (fun _ => 0) 0 0 (by decide) (by decide) (by decide) (by decide)
def abcW : Nat → Int := fun i => ([3128432319, 2399260650, 1094795486, 1571693091, 2953011619, 2518121116, 3021012833, 4060091821] : List Int).getD i 0
theorem abc_words (i : Nat) (h : i < 8) : finF BT (lay (fun _ => 0) 0 [97, 98, 99]) 3 3 i = abcW i := by
  show mixF BT abcB i = _
  rw [mixF_get BT abcB i h, abc_mix]
  rcases (by omega : i = 0 ∨ i = 1 ∨ i = 2 ∨ i = 3 ∨ i = 4 ∨ i = 5 ∨ i = 6 ∨ i = 7) with rfl | rfl | rfl | rfl | rfl | rfl | rfl | rfl <;> rfl
theorem abc_sum (i : Nat) (h : i < 32) : sumF [97, 98, 99] i = outF abcW i := by
  unfold sumF hsum
  rw [abc_put]
  show outF (finF BT (lay (fun _ => 0) 0 [97, 98, 99]) 3 (3 % 64 : Int).toNat) i = _
  unfold outF
  rw [show ((3 : Int) % 64).toNat = 3 by decide, abc_words (i / 4) (by omega)]
theorem abc_text : strOfNums (textL (sumF [97, 98, 99])) = { data := #[98, 97, 55, 56, 49, 54, 98, 102, 56, 102, 48, 49, 99, 102, 101, 97, 52, 49, 52, 49, 52, 48, 100, 101, 53, 100, 97, 101, 50, 50, 50, 51, 98, 48, 48, 51, 54, 49, 97, 51, 57, 54, 49, 55, 55, 97, 57, 99, 98, 52, 49, 48, 102, 102, 54, 49, 102, 50, 48, 48, 49, 53, 97, 100] } := by
  have e : textL (sumF [97, 98, 99]) = textL (outF abcW) := by
    unfold textL
    apply List.map_congr_left
    intro i hi
    have hi' : i < 64 := by simpa using hi
    unfold textF
    rw [abc_sum (i / 2) (by omega)]
  exact (congrArg strOfNums e).trans (by rfl)
end Go.Proofs.YtbppainejdphpaaDoor
