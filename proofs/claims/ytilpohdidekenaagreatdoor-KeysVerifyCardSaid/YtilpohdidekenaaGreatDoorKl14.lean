/- Part 14 of the proof. -/
import Derived.Lib.ItoaNum
import Derived.Test.YtilpohdidekenaaGreatDoorKl9
import Derived.Test.YtilpohdidekenaaGreatDoorKl10
import Derived.Test.YtilpohdidekenaaGreatDoorKl13
namespace Go.Proofs.YtilpohdidekenaaGreatDoor
set_option linter.unusedVariables false
set_option linter.unusedSimpArgs false
/-- a number as the unsigned one of the same 64 bits -/
def uN (i : Int) : Nat := (IntKind.u64.wrap i).toNat
theorem uN_wrap (i : Int) : IntKind.u64.wrap i = ((uN i : Nat) : Int) := by
  unfold uN
  have : IntKind.u64.wrap i = i % 18446744073709551616 := rfl
  rw [this]; omega
theorem uN_lt (i : Int) : uN i < 18446744073709551616 := by
  unfold uN
  have : IntKind.u64.wrap i = i % 18446744073709551616 := rfl
  rw [this]; omega
/-- a chain's beginning -/
def startF (seed : Nat → Int) (leaf chain : Int) : Nat → Int := sumF (varint 2 ++ rowL 32 seed ++ varint (uN leaf) ++ varint (uN chain))
/-- one step further, from place p on -/
def step1 (leaf chain : Int) (v : Nat → Int) (p : Nat) : Nat → Int := sumF (varint 3 ++ varint (uN leaf) ++ varint (uN chain) ++ varint p ++ rowL 32 v)
/-- n steps from place p on -/
def stepN (leaf chain : Int) (v : Nat → Int) (p : Nat) : Nat → (Nat → Int)
  | 0 => v
  | n + 1 => step1 leaf chain (stepN leaf chain v p n) (p + n)
theorem stepN_add (leaf chain : Int) (v : Nat → Int) (p m : Nat) : ∀ n, stepN leaf chain (stepN leaf chain v p m) (p + m) n = stepN leaf chain v p (m + n)
  | 0 => rfl
  | n + 1 => by
    show step1 leaf chain (stepN leaf chain (stepN leaf chain v p m) (p + m) n) (p + m + n) = step1 leaf chain (stepN leaf chain v p (m + n)) (p + (m + n))
    rw [stepN_add leaf chain v p m n, Nat.add_assoc]
/-- a chain's value brought from place a to place b -/
def stepF (v : Nat → Int) (leaf chain a b : Int) : Nat → Int := stepN leaf chain v (max a 0).toNat ((min b 15).toNat - (max a 0).toNat)
theorem stepF_nat (v : Nat → Int) (leaf chain : Int) (a b : Nat) (hb : b ≤ 15) : stepF v leaf chain (a : Int) (b : Int) = stepN leaf chain v a (b - a) := by
  unfold stepF
  rw [show (max (a : Int) 0).toNat = a by omega, show (min (b : Int) 15).toNat = b by omega]
/-- on, and on again -/
theorem stepF_on (v : Nat → Int) (leaf chain : Int) (a b c : Nat) (hab : a ≤ b) (hbc : b ≤ c) (hc : c ≤ 15) : stepF (stepF v leaf chain a b) leaf chain b c = stepF v leaf chain a c := by
  rw [stepF_nat v _ _ a b (by omega), stepF_nat _ _ _ b c hc, stepF_nat v _ _ a c hc]
  have h := stepN_add leaf chain v a (b - a) (c - b)
  rw [show a + (b - a) = b by omega, show b - a + (c - b) = c - a by omega] at h
  exact h
theorem stepF_stay (v : Nat → Int) (leaf chain : Int) (b : Nat) (hb : b ≤ 15) : stepF v leaf chain b b = v := by
  rw [stepF_nat _ _ _ _ _ hb, Nat.sub_self]; rfl
/-- the digits of the bytes of a digest -/
def digs : List Int → List Nat
  | [] => []
  | x :: r => x.toNat / 16 :: x.toNat % 16 :: digs r
theorem digs_length : ∀ xs, (digs xs).length = 2 * xs.length
  | [] => rfl
  | x :: r => by simp only [digs, List.length_cons, digs_length r]; omega
theorem digs_append : ∀ xs ys, digs (xs ++ ys) = digs xs ++ digs ys
  | [], _ => rfl
  | x :: r, ys => by simp only [digs, List.cons_append, digs_append r ys]
theorem digs_le : ∀ {xs : List Int}, bytesOk xs → ∀ d ∈ digs xs, d ≤ 15
  | [], _, d, h => by cases h
  | x :: r, hb, d, h => by
    have hx := hb x (by simp)
    simp only [digs, List.mem_cons] at h
    rcases h with rfl | rfl | h
    · omega
    · omega
    · exact digs_le (fun y hy => hb y (by simp [hy])) d h
/-- what digits lack to 15, together -/
def lacks : List Nat → Nat
  | [] => 0
  | d :: r => (15 - d) + lacks r
theorem lacks_append : ∀ a b, lacks (a ++ b) = lacks a + lacks b
  | [], b => by simp [lacks]
  | d :: r, b => by simp only [lacks, List.cons_append, lacks_append r b]; omega
theorem lacks_le : ∀ l, lacks l ≤ 15 * l.length
  | [] => by simp [lacks]
  | d :: r => by have := lacks_le r; simp only [lacks, List.length_cons]; omega
/-- the digits of a digest, with those of the sum -/
def digF (xs : List Int) : List Nat := digs xs ++ [lacks (digs xs) / 256, lacks (digs xs) / 16 % 16, lacks (digs xs) % 16]
theorem digF_length (xs : List Int) : (digF xs).length = 2 * xs.length + 3 := by simp [digF, digs_length]
theorem lacks_bound {xs : List Int} (h : xs.length ≤ 32) : lacks (digs xs) ≤ 960 := by
  have := lacks_le (digs xs); rw [digs_length] at this; omega
theorem digF_le {xs : List Int} (hb : bytesOk xs) (hl : xs.length ≤ 32) : ∀ d ∈ digF xs, d ≤ 15 := by
  intro d h
  have := lacks_bound hl
  simp only [digF, List.mem_append, List.mem_cons, List.not_mem_nil, or_false] at h
  rcases h with h | rfl | rfl | rfl
  · exact digs_le hb d h
  all_goals omega
/-- the digest's digits say the digest -/
theorem digs_inj : ∀ {xs ys : List Int}, bytesOk xs → bytesOk ys → digs xs = digs ys → xs = ys
  | [], [], _, _, _ => rfl
  | [], y :: s, _, _, h => by simp [digs] at h
  | x :: r, [], _, _, h => by simp [digs] at h
  | x :: r, y :: s, hx, hy, h => by
    simp only [digs, List.cons.injEq] at h
    have h1 := hx x (by simp)
    have h2 := hy y (by simp)
    rw [digs_inj (fun z hz => hx z (by simp [hz])) (fun z hz => hy z (by simp [hz])) h.2.2, show x = y by omega]
/-- a digit of a that is greater than b's -/
def gtB : List Nat → List Nat → Bool
  | x :: a, y :: b => decide (y < x) || gtB a b
  | _, _ => false
theorem gtB_append : ∀ {a b : List Nat} (c d : List Nat), a.length = b.length → gtB (a ++ c) (b ++ d) = (gtB a b || gtB c d)
  | [], [], c, d, _ => by simp [gtB]
  | [], _ :: _, _, _, h => by cases h
  | _ :: _, [], _, _, h => by cases h
  | x :: a, y :: b, c, d, h => by simp only [List.cons_append, gtB, gtB_append c d (by simpa using h), Bool.or_assoc]
/-- where none of a is greater than b's, a lacks at least as much; as much only where they are the same -/
theorem lacks_mono : ∀ {a b : List Nat}, a.length = b.length → (∀ d ∈ b, d ≤ 15) → gtB a b = false → lacks b ≤ lacks a ∧ (lacks a = lacks b → a = b)
  | [], [], _, _, _ => by simp [lacks]
  | [], _ :: _, h, _, _ => by cases h
  | _ :: _, [], h, _, _ => by cases h
  | x :: a, y :: b, h, hb, hg => by
    simp only [gtB, Bool.or_eq_false_iff, decide_eq_false_iff_not, Nat.not_lt] at hg
    obtain ⟨h1, h2⟩ := lacks_mono (by simpa using h) (fun d hd => hb d (by simp [hd])) hg.2
    have hy := hb y (by simp)
    simp only [lacks]
    refine ⟨by omega, fun he => ?_⟩
    rw [show x = y by omega, h2 (by omega)]
theorem gt3 (m n : Nat) (h : n < m) : gtB [m / 256, m / 16 % 16, m % 16] [n / 256, n / 16 % 16, n % 16] = true := by
  simp only [gtB, Bool.or_eq_true, decide_eq_true_eq, Bool.or_false]
  omega
/-- of two unlike digests of one length each has a digit that is greater than the other's -/
theorem digF_gt {xs ys : List Int} (hx : bytesOk xs) (hy : bytesOk ys) (hl : xs.length = ys.length) (hne : xs ≠ ys) : gtB (digF xs) (digF ys) = true := by
  unfold digF
  rw [gtB_append _ _ (by rw [digs_length, digs_length, hl]), Bool.or_eq_true]
  by_cases hg : gtB (digs xs) (digs ys) = true
  · exact .inl hg
  · right
    obtain ⟨h1, h2⟩ := lacks_mono (a := digs xs) (b := digs ys) (by rw [digs_length, digs_length, hl]) (digs_le hy) (by simpa using hg)
    refine gt3 _ _ ?_
    rcases Nat.lt_or_ge (lacks (digs ys)) (lacks (digs xs)) with h | h
    · exact h
    · exact absurd (digs_inj hx hy (h2 (by omega))) hne
/-- the values of all chains, brought to their places, one behind the other -/
def chainsF (seed : Nat → Int) (leaf : Int) : Nat → List Nat → List Int
  | _, [] => []
  | c, d :: r => rowL 32 (stepF (startF seed leaf (c : Int)) leaf (c : Int) 0 (d : Int)) ++ chainsF seed leaf (c + 1) r
theorem chainsF_length (seed : Nat → Int) (leaf : Int) : ∀ (l : List Nat) (c : Nat), (chainsF seed leaf c l).length = 32 * l.length
  | [], _ => rfl
  | d :: r, c => by simp only [chainsF, List.length_append, rowL_length, chainsF_length seed leaf r (c + 1), List.length_cons]; omega
theorem chainsF_append (seed : Nat → Int) (leaf : Int) : ∀ (l m : List Nat) (c : Nat), chainsF seed leaf c (l ++ m) = chainsF seed leaf c l ++ chainsF seed leaf (c + l.length) m
  | [], m, c => by simp [chainsF]
  | d :: r, m, c => by
    simp only [List.cons_append, chainsF, chainsF_append seed leaf r m (c + 1), List.append_assoc, List.length_cons]
    rw [show c + 1 + r.length = c + (r.length + 1) by omega]
theorem chainsF_snoc (seed : Nat → Int) (leaf : Int) (l : List Nat) (k : Nat) (d : Nat) (h : l[k]? = some d) : chainsF seed leaf 0 (l.take (k + 1)) = chainsF seed leaf 0 (l.take k) ++ rowL 32 (stepF (startF seed leaf (k : Int)) leaf (k : Int) 0 (d : Int)) := by
  have hlt : k < l.length := (List.getElem?_eq_some_iff.1 h).1
  rw [List.take_add_one, h, Option.toList_some, chainsF_append, List.length_take, Nat.min_eq_left (by omega), Nat.zero_add]
  simp [chainsF]
/-- what a signature's values make, brought on from their digits to the end -/
def endsF (leaf : Int) : Nat → List Nat → List Int → List Int
  | _, [], _ => []
  | c, d :: r, s => rowL 32 (stepF (fun i => (s.take 32).getD i 0) leaf (c : Int) (d : Int) 15) ++ endsF leaf (c + 1) r (s.drop 32)
theorem endsF_length (leaf : Int) : ∀ (l : List Nat) (c : Nat) (s : List Int), (endsF leaf c l s).length = 32 * l.length
  | [], _, _ => rfl
  | d :: r, c, s => by simp only [endsF, List.length_append, rowL_length, endsF_length leaf r (c + 1), List.length_cons]; omega
theorem endsF_append (leaf : Int) : ∀ (l m : List Nat) (c : Nat) (s : List Int), endsF leaf c (l ++ m) s = endsF leaf c l s ++ endsF leaf (c + l.length) m (s.drop (32 * l.length))
  | [], m, c, s => by simp [endsF]
  | d :: r, m, c, s => by
    simp only [List.cons_append, endsF, endsF_append leaf r m (c + 1), List.append_assoc, List.length_cons, List.drop_drop]
    rw [show c + 1 + r.length = c + (r.length + 1) by omega, show 32 + 32 * r.length = 32 * (r.length + 1) by omega]
theorem endsF_snoc (leaf : Int) (l : List Nat) (k : Nat) (d : Nat) (s : List Int) (h : l[k]? = some d) : endsF leaf 0 (l.take (k + 1)) s = endsF leaf 0 (l.take k) s ++ rowL 32 (stepF (fun i => ((s.drop (32 * k)).take 32).getD i 0) leaf (k : Int) (d : Int) 15) := by
  have hlt : k < l.length := (List.getElem?_eq_some_iff.1 h).1
  rw [List.take_add_one, h, Option.toList_some, endsF_append, List.length_take, Nat.min_eq_left (by omega), Nat.zero_add]
  simp [endsF]
theorem rowL_congr {n : Nat} {f g : Nat → Int} (h : ∀ i, i < n → f i = g i) : rowL n f = rowL n g := by
  unfold rowL
  exact List.map_congr_left fun i hi => h i (by simpa using hi)
theorem step1_congr {leaf chain : Int} {f g : Nat → Int} {p : Nat} (h : ∀ i, i < 32 → f i = g i) : step1 leaf chain f p = step1 leaf chain g p := by
  unfold step1; rw [rowL_congr h]
theorem stepN_congr {leaf chain : Int} {f g : Nat → Int} {p : Nat} (h : ∀ i, i < 32 → f i = g i) : ∀ n i, i < 32 → stepN leaf chain f p n i = stepN leaf chain g p n i
  | 0, i, hi => h i hi
  | n + 1, i, hi => by
    show step1 leaf chain (stepN leaf chain f p n) (p + n) i = step1 leaf chain (stepN leaf chain g p n) (p + n) i
    rw [step1_congr (stepN_congr h n)]
theorem stepF_congr {leaf chain a b : Int} {f g : Nat → Int} (h : ∀ i, i < 32 → f i = g i) : rowL 32 (stepF f leaf chain a b) = rowL 32 (stepF g leaf chain a b) :=
  rowL_congr (stepN_congr h _)
theorem rowL_getD (n : Nat) (f : Nat → Int) (i : Nat) (h : i < n) : (rowL n f).getD i 0 = f i := by simp [rowL, List.getD, h]
/-- a signature makes the public sum -/
theorem ends_chains (seed : Nat → Int) (leaf : Int) : ∀ (l : List Nat) (c : Nat), (∀ d ∈ l, d ≤ 15) → endsF leaf c l (chainsF seed leaf c l) = chainsF seed leaf c (List.replicate l.length 15)
  | [], _, _ => rfl
  | d :: r, c, h => by
    have hl := rowL_length 32 (stepF (startF seed leaf (c : Int)) leaf (c : Int) 0 (d : Int))
    simp only [chainsF, endsF, List.length_cons, List.replicate_succ]
    rw [List.take_left' hl, List.drop_left' hl, ends_chains seed leaf r (c + 1) (fun x hx => h x (by simp [hx]))]
    have e := stepF_on (startF seed leaf (c : Int)) leaf (c : Int) 0 d 15 (Nat.zero_le _) (h d (by simp)) (Nat.le_refl _)
    rw [stepF_congr (g := stepF (startF seed leaf (c : Int)) leaf (c : Int) 0 (d : Int)) (fun i hi => rowL_getD _ _ _ hi)]
    rw [show ((0 : Nat) : Int) = 0 from rfl] at e
    rw [show ((15 : Nat) : Int) = 15 from rfl] at e ⊢
    rw [e]
/-- a leaf's sum -/
def leafF (xs : List Int) : Nat → Int := sumF (0 :: xs)
def pubF (seed : Nat → Int) (leaf : Int) (n : Nat) : Nat → Int := leafF (chainsF seed leaf 0 (List.replicate (2 * n + 3) 15))
def signF (seed : Nat → Int) (leaf : Int) (d : List Int) : List Int := chainsF seed leaf 0 (digF d)
def fromF (s : List Int) (leaf : Int) (d : List Int) : Nat → Int := leafF (endsF leaf 0 (digF d) s)
theorem from_sign (seed : Nat → Int) (leaf : Int) (d : List Int) (hb : bytesOk d) (hl : d.length ≤ 32) : fromF (signF seed leaf d) leaf d = pubF seed leaf d.length := by
  unfold fromF signF pubF
  rw [ends_chains seed leaf _ _ (digF_le hb hl), digF_length]
/-- may a leaf and a digest's length be? -/
def leafOk (leaf : Int) : Prop := 0 ≤ leaf ∧ leaf < 1024
end Go.Proofs.YtilpohdidekenaaGreatDoor
namespace Go.Proofs.YtilpohdidekenaaGreatDoor
set_option linter.unusedVariables false
set_option linter.unusedSimpArgs false
open Go.RowKit
def bytesOf (h : Nat → Int) : List Int := (List.range 32).map h
/-- the hash of a node -/
def nodeF (a b : Nat → Int) : Nat → Int := sumF (1 :: (bytesOf a ++ bytesOf b))
/-- how many leaves stand in the first part -/
def splitF (n : Nat) : Nat := 2 ^ (Lib.bitLen (n - 1) - 1)
theorem splitF_spec (n : Nat) (h : 2 ≤ n) (hn : n < 18446744073709551616) : 1 ≤ splitF n ∧ splitF n < n ∧ n ≤ 2 * splitF n ∧ 1 ≤ Lib.bitLen (n - 1) ∧ Lib.bitLen (n - 1) ≤ 64 := by
  have hb := Lib.bitLenAux_bounds 64 (n - 1) (by omega) (by omega)
  have h64 : Lib.bitLenAux 64 (n - 1) ≤ 64 := Lib.bitLenAux_le 64 (n - 1) 64 (by omega)
  unfold splitF Lib.bitLen
  obtain ⟨e, he⟩ : ∃ e, Lib.bitLenAux 64 (n - 1) = e + 1 := ⟨Lib.bitLenAux 64 (n - 1) - 1, by omega⟩
  rw [he] at hb h64 ⊢
  simp only [Nat.add_sub_cancel] at hb ⊢
  have hp : 1 ≤ 2 ^ e := Nat.one_le_two_pow
  have hs : 2 ^ (e + 1) = 2 * 2 ^ e := by rw [Nat.pow_succ, Nat.mul_comm]
  omega
def rootF (l : List (Nat → Int)) : Nat → Int :=
  if l.length = 1 then l.getD 0 (fun _ => 0)
  else if _h : 1 ≤ splitF l.length ∧ splitF l.length < l.length then nodeF (rootF (l.take (splitF l.length))) (rootF (l.drop (splitF l.length)))
  else sumF []
termination_by l.length
decreasing_by
  · rw [List.length_take]; omega
  · rw [List.length_drop]; omega
def pathF (l : List (Nat → Int)) (i : Nat) : List (Nat → Int) :=
  if _h : 1 ≤ splitF l.length ∧ splitF l.length < l.length then
    if i < splitF l.length then pathF (l.take (splitF l.length)) i ++ [rootF (l.drop (splitF l.length))] else pathF (l.drop (splitF l.length)) (i - splitF l.length) ++ [rootF (l.take (splitF l.length))]
  else []
termination_by l.length
decreasing_by
  · rw [List.length_take]; omega
  · rw [List.length_drop]; omega
def turnsF (i n : Nat) : List Bool :=
  if _h : 1 ≤ splitF n ∧ splitF n < n then
    if i < splitF n then false :: turnsF i (splitF n) else true :: turnsF (i - splitF n) (n - splitF n)
  else []
termination_by n
decreasing_by
  · omega
  · omega
theorem splitF_one : splitF 1 = 1 := by decide
theorem splitF_zero : splitF 0 = 1 := by decide
theorem rootF_nil : rootF [] = sumF [] := by
  rw [rootF, if_neg (by simp), dif_neg (by simp)]
theorem rootF_one (l : List (Nat → Int)) (h : l.length = 1) : rootF l = l.getD 0 (fun _ => 0) := by rw [rootF, if_pos h]
theorem rootF_step (l : List (Nat → Int)) (h : 2 ≤ l.length) (hs : 1 ≤ splitF l.length ∧ splitF l.length < l.length) :
    rootF l = nodeF (rootF (l.take (splitF l.length))) (rootF (l.drop (splitF l.length))) := by rw [rootF, if_neg (by omega), dif_pos hs]
theorem pathF_one (l : List (Nat → Int)) (h : l.length = 1) (i : Nat) : pathF l i = [] := by
  rw [pathF, dif_neg]
  rw [h, splitF_one]; omega
theorem pathF_lo (l : List (Nat → Int)) (hs : 1 ≤ splitF l.length ∧ splitF l.length < l.length) (i : Nat) (h : i < splitF l.length) : pathF l i = pathF (l.take (splitF l.length)) i ++ [rootF (l.drop (splitF l.length))] := by
  rw [pathF, dif_pos hs, if_pos h]
theorem pathF_hi (l : List (Nat → Int)) (hs : 1 ≤ splitF l.length ∧ splitF l.length < l.length) (i : Nat) (h : ¬ i < splitF l.length) : pathF l i = pathF (l.drop (splitF l.length)) (i - splitF l.length) ++ [rootF (l.take (splitF l.length))] := by
  rw [pathF, dif_pos hs, if_neg h]
theorem turnsF_one (i : Nat) : turnsF i 1 = [] := by rw [turnsF, dif_neg]; rw [splitF_one]; omega
theorem turnsF_lo (i n : Nat) (hs : 1 ≤ splitF n ∧ splitF n < n) (h : i < splitF n) : turnsF i n = false :: turnsF i (splitF n) := by rw [turnsF, dif_pos hs, if_pos h]
theorem turnsF_hi (i n : Nat) (hs : 1 ≤ splitF n ∧ splitF n < n) (h : ¬ i < splitF n) : turnsF i n = true :: turnsF (i - splitF n) (n - splitF n) := by rw [turnsF, dif_pos hs, if_neg h]
def foldStep (s : Nat → Int) (x : Bool × (Nat → Int)) : Nat → Int := if x.1 then nodeF x.2 s else nodeF s x.2
def foldT (s : Nat → Int) (l : List (Bool × (Nat → Int))) : Nat → Int := l.foldl foldStep s
theorem path_turns : ∀ (n : Nat) (l : List (Nat → Int)) (i : Nat), l.length = n → n < 18446744073709551616 → i < n → (pathF l i).length = (turnsF i n).length := by
  intro n
  induction n using Nat.strongRecOn with
  | _ n ih =>
    intro l i hl hn hi
    by_cases h1 : n = 1
    · subst h1; rw [pathF_one l hl, turnsF_one]; rfl
    · have hs := splitF_spec n (by omega) hn
      have hs2 : 1 ≤ splitF l.length ∧ splitF l.length < l.length := by rw [hl]; exact ⟨hs.1, hs.2.1⟩
      by_cases hlt : i < splitF n
      · rw [pathF_lo l hs2 i (by rw [hl]; exact hlt), turnsF_lo i n ⟨hs.1, hs.2.1⟩ hlt, List.length_append, List.length_cons, hl, ih (splitF n) hs.2.1 _ i (by rw [List.length_take]; omega) (by omega) hlt]
        rfl
      · rw [pathF_hi l hs2 i (by rw [hl]; exact hlt), turnsF_hi i n ⟨hs.1, hs.2.1⟩ hlt, List.length_append, List.length_cons, hl, ih (n - splitF n) (by omega) _ (i - splitF n) (by rw [List.length_drop]; omega) (by omega) (by omega)]
        rfl
theorem path_root : ∀ (n : Nat) (l : List (Nat → Int)) (i : Nat), l.length = n → n < 18446744073709551616 → i < n → foldT (l.getD i (fun _ => 0)) ((turnsF i n).reverse.zip (pathF l i)) = rootF l := by
  intro n
  induction n using Nat.strongRecOn with
  | _ n ih =>
    intro l i hl hn hi
    by_cases h1 : n = 1
    · subst h1
      obtain rfl : i = 0 := by omega
      rw [pathF_one l hl, turnsF_one, rootF_one l hl]; rfl
    · have hs := splitF_spec n (by omega) hn
      have hs2 : 1 ≤ splitF l.length ∧ splitF l.length < l.length := by rw [hl]; exact ⟨hs.1, hs.2.1⟩
      by_cases hlt : i < splitF n
      · have hlk : (l.take (splitF n)).length = splitF n := by rw [List.length_take]; omega
        have ih1 := ih (splitF n) hs.2.1 (l.take (splitF n)) i hlk (by omega) hlt
        have pt := path_turns (splitF n) (l.take (splitF n)) i hlk (by omega) hlt
        rw [pathF_lo l hs2 i (by rw [hl]; exact hlt), turnsF_lo i n ⟨hs.1, hs.2.1⟩ hlt, rootF_step l (by omega) hs2, hl, List.reverse_cons, List.zip_append (by rw [List.length_reverse, pt]), foldT, List.foldl_append]
        have e : l.getD i (fun _ => 0) = (l.take (splitF n)).getD i (fun _ => 0) := by
          simp only [List.getD, List.getElem?_take, if_pos hlt]
        unfold foldT at ih1
        rw [e, ih1]
        rfl
      · have hlk : (l.drop (splitF n)).length = n - splitF n := by rw [List.length_drop]; omega
        have ih1 := ih (n - splitF n) (by omega) (l.drop (splitF n)) (i - splitF n) hlk (by omega) (by omega)
        have pt := path_turns (n - splitF n) (l.drop (splitF n)) (i - splitF n) hlk (by omega) (by omega)
        rw [pathF_hi l hs2 i (by rw [hl]; exact hlt), turnsF_hi i n ⟨hs.1, hs.2.1⟩ hlt, rootF_step l (by omega) hs2, hl, List.reverse_cons, List.zip_append (by rw [List.length_reverse, pt]), foldT, List.foldl_append]
        have e : l.getD i (fun _ => 0) = (l.drop (splitF n)).getD (i - splitF n) (fun _ => 0) := by
          simp only [List.getD, List.getElem?_drop, show splitF n + (i - splitF n) = i by omega]
        unfold foldT at ih1
        rw [e, ih1]
        rfl
theorem path_depth : ∀ (m : Nat) (l : List (Nat → Int)) (i : Nat), l.length ≤ 2 ^ m → l.length < 18446744073709551616 → i < l.length → (pathF l i).length ≤ m := by
  intro m
  induction m with
  | zero =>
    intro l i hl _ hi
    rw [pathF_one l (by omega)]; simp
  | succ m ih =>
    intro l i hl hn hi
    by_cases h1 : l.length = 1
    · rw [pathF_one l h1]; simp
    · have hs := splitF_spec l.length (by omega) hn
      have hk : splitF l.length ≤ 2 ^ m := by
        have h2 : splitF l.length < 2 ^ (m + 1) := by omega
        unfold splitF at h2 ⊢
        have h3 := (Nat.pow_lt_pow_iff_right (a := 2) (by omega)).1 h2
        exact Nat.pow_le_pow_right (by omega) (by omega)
      by_cases hlt : i < splitF l.length
      · have hlk : (l.take (splitF l.length)).length = splitF l.length := by rw [List.length_take]; omega
        rw [pathF_lo l ⟨hs.1, hs.2.1⟩ i hlt, List.length_append]
        have := ih (l.take (splitF l.length)) i (by omega) (by omega) (by omega)
        simp only [List.length_cons, List.length_nil]; omega
      · have hlk : (l.drop (splitF l.length)).length = l.length - splitF l.length := by rw [List.length_drop]
        rw [pathF_hi l ⟨hs.1, hs.2.1⟩ i hlt, List.length_append]
        have := ih (l.drop (splitF l.length)) (i - splitF l.length) (by omega) (by omega) (by omega)
        simp only [List.length_cons, List.length_nil]; omega
end Go.Proofs.YtilpohdidekenaaGreatDoor
namespace Go.Proofs.YtilpohdidekenaaGreatDoor
set_option linter.unusedVariables false
set_option linter.unusedSimpArgs false
open Go.RowKit
set_option maxRecDepth 100000
/-- equal in the first 32 places -/
def E32 (p q : Nat → Int) : Prop := ∀ j, j < 32 → p j = q j
theorem E32.bytes {p q : Nat → Int} (h : E32 p q) : bytesOf p = bytesOf q := by
  unfold bytesOf
  exact List.map_congr_left fun j hj => h j (List.mem_range.1 hj)
theorem E32.rowL {p q : Nat → Int} (h : E32 p q) : rowL 32 p = rowL 32 q := rowL_congr h
theorem E32.node1 {p q s : Nat → Int} (h : E32 p q) : nodeF p s = nodeF q s := by unfold nodeF; rw [h.bytes]
theorem E32.node2 {p q s : Nat → Int} (h : E32 p q) : nodeF s p = nodeF s q := by unfold nodeF; rw [h.bytes]
theorem E32.step {p q s : Nat → Int} {b : Bool} (h : E32 p q) : foldStep s (b, p) = foldStep s (b, q) := by
  unfold foldStep
  cases b
  · exact h.node2
  · exact h.node1
inductive All32 : List (Nat → Int) → List (Nat → Int) → Prop
  | nil : All32 [] []
  | cons {p q : Nat → Int} {ps qs : List (Nat → Int)} : E32 p q → All32 ps qs → All32 (p :: ps) (q :: qs)
theorem All32.length {ps qs : List (Nat → Int)} (h : All32 ps qs) : ps.length = qs.length := by
  induction h with
  | nil => rfl
  | cons _ _ ih => simp [ih]
theorem All32.snoc {ps qs : List (Nat → Int)} {p q : Nat → Int} (h : All32 ps qs) (e : E32 p q) : All32 (ps ++ [p]) (qs ++ [q]) := by
  induction h with
  | nil => exact .cons e .nil
  | cons e' _ ih => exact .cons e' ih
theorem All32.refl : ∀ ps : List (Nat → Int), All32 ps ps
  | [] => .nil
  | _ :: r => .cons (fun _ _ => rfl) (All32.refl r)
theorem All32.fold {ps qs : List (Nat → Int)} (h : All32 ps qs) : ∀ (ts : List Bool) (s : Nat → Int), foldT s (ts.zip ps) = foldT s (ts.zip qs) := by
  induction h with
  | nil => intro ts s; rfl
  | cons e _ ih =>
    intro ts s
    cases ts with
    | nil => rfl
    | cons b ts =>
      show foldT (foldStep s (b, _)) (ts.zip _) = foldT (foldStep s (b, _)) (ts.zip _)
      rw [e.step, ih]
def pathL : List (Nat → Int) → List Int
  | [] => []
  | p :: r => rowL 32 p ++ pathL r
theorem pathL_snoc (ps : List (Nat → Int)) (p : Nat → Int) : pathL (ps ++ [p]) = pathL ps ++ rowL 32 p := by
  induction ps with
  | nil => simp [pathL]
  | cons q r ih => simp only [List.cons_append, pathL, ih, List.append_assoc]
theorem pathL_length : ∀ ps, (pathL ps).length = 32 * ps.length
  | [] => rfl
  | p :: r => by simp only [pathL, List.length_append, rowL_length, pathL_length r, List.length_cons]; omega
/-- the bytes of a signature -/
def encF (leaf : Nat) (once : List Int) (ps : List (Nat → Int)) : List Int := varint leaf ++ (varint once.length ++ once) ++ varint ps.length ++ pathL ps
def hashesS (s : RSt) : Nat → List (Nat → Int) × RSt
  | 0 => ([], s)
  | k + 1 => ((hashesS s k).1 ++ [(hashS (hashesS s k).2).1], (hashS (hashesS s k).2).2)
theorem hashesS_length (s : RSt) : ∀ k, (hashesS s k).1.length = k
  | 0 => rfl
  | k + 1 => by simp [hashesS, hashesS_length s k]
structure Sg where
  leaf : Nat
  once : List Int
  path : List (Nat → Int)
def zSg : Sg := ⟨0, [], []⟩
def sA (xs : List Int) := uintS (xs, none) 1023
def sB (xs : List Int) := partS (sA xs).2 4096
def sC (xs : List Int) := uintS (sB xs).2 10
def sD (xs : List Int) := hashesS (sC xs).2 (sC xs).1
/-- the parts of bytes, or the error -/
def decS (xs : List Int) : Sg × Option Nat := if doneE (sD xs).2 = none then (⟨(sA xs).1, (sB xs).1, (sD xs).1⟩, none) else (zSg, some 3)
theorem hashS_rowE (p : Nat → Int) (r : List Int) : E32 (hashS (rowL 32 p ++ r, none)).1 p ∧ (hashS (rowL 32 p ++ r, none)).2 = (r, none) := by
  have hl : ¬ (rowL 32 p ++ r).length < 32 := by rw [List.length_append, rowL_length]; omega
  rw [hashS_long hl]
  refine ⟨fun j hj => ?_, ?_⟩
  · show (rowL 32 p ++ r).getD j 0 = p j
    rw [List.getD_eq_getElem?_getD, List.getElem?_append_left (by rw [rowL_length]; exact hj)]
    simp [rowL, hj]
  · show ((rowL 32 p ++ r).drop 32, (none : Option Nat)) = (r, none)
    rw [List.drop_left' (rowL_length 32 p)]
theorem hashesS_path (ps : List (Nat → Int)) : ∀ k, k ≤ ps.length → All32 (hashesS (pathL ps, none) k).1 (ps.take k) ∧ (hashesS (pathL ps, none) k).2 = (pathL (ps.drop k), none)
  | 0, _ => ⟨.nil, rfl⟩
  | k + 1, h => by
    obtain ⟨h1, h2⟩ := hashesS_path ps k (by omega)
    have hk : k < ps.length := by omega
    have e : ps.drop k = ps[k] :: ps.drop (k + 1) := List.drop_eq_getElem_cons hk
    have e2 : ps.take (k + 1) = ps.take k ++ [ps[k]] := by rw [List.take_succ_eq_append_getElem hk]
    obtain ⟨h3, h4⟩ := hashS_rowE ps[k] (pathL (ps.drop (k + 1)))
    have e3 : (hashesS (pathL ps, none) k).2 = (rowL 32 ps[k] ++ pathL (ps.drop (k + 1)), none) := by rw [h2, e]; rfl
    refine ⟨?_, ?_⟩
    · show All32 ((hashesS (pathL ps, none) k).1 ++ [(hashS (hashesS (pathL ps, none) k).2).1]) _
      rw [e2, e3]; exact h1.snoc h3
    · show (hashS (hashesS (pathL ps, none) k).2).2 = _
      rw [e3]; exact h4
theorem decS_encF (leaf : Nat) (once : List Int) (ps : List (Nat → Int)) (h1 : leaf ≤ 1023) (h2 : once.length ≤ 4096) (h3 : ps.length ≤ 10) :
    ∃ ps', decS (encF leaf once ps) = (⟨leaf, once, ps'⟩, none) ∧ All32 ps' ps := by
  have hA : sA (encF leaf once ps) = (leaf, (varint once.length ++ (once ++ (varint ps.length ++ pathL ps))), none) := by
    unfold sA encF
    rw [List.append_assoc, List.append_assoc, uintS_varint leaf 1023 _ (by omega) h1, List.append_assoc]
  have hB : sB (encF leaf once ps) = (once, varint ps.length ++ pathL ps, none) := by
    unfold sB
    rw [hA]
    exact partS_bytes once _ 4096 (by omega) (by omega) (by omega)
  have hC : sC (encF leaf once ps) = (ps.length, pathL ps, none) := by
    unfold sC
    rw [hB]
    exact uintS_varint ps.length 10 _ (by omega) h3
  obtain ⟨h4, h5⟩ := hashesS_path ps ps.length (Nat.le_refl _)
  rw [List.take_length] at h4
  rw [List.drop_length] at h5
  have hD : sD (encF leaf once ps) = hashesS (pathL ps, none) ps.length := by unfold sD; rw [hC]
  refine ⟨(hashesS (pathL ps, none) ps.length).1, ?_, h4⟩
  unfold decS
  rw [hA, hB, hD, h5]
  rfl
end Go.Proofs.YtilpohdidekenaaGreatDoor
