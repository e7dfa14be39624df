/- Part 19 of the proof. -/
import Derived.Lib.ItoaNum
import Derived.Shelf.Small.Bits
import Derived.Shelf.Small.Strs
import Derived.Shelf.Strconv.Itoa0
import Derived.Shelf.Strings.Search1
import Derived.Test.YtjnpcmfpiejmjaaDoorProg
import Derived.Test.YtjnpcmfpiejmjaaDoorBk1
import Derived.Test.YtjnpcmfpiejmjaaDoorBk2
import Derived.Test.YtjnpcmfpiejmjaaDoorBk5
import Derived.Test.YtjnpcmfpiejmjaaDoorBk7
import Derived.Test.YtjnpcmfpiejmjaaDoorBk8
import Derived.Test.YtjnpcmfpiejmjaaDoorBk9
import Derived.Test.YtjnpcmfpiejmjaaDoorBk10
import Derived.Test.YtjnpcmfpiejmjaaDoorBk14
namespace Go.Proofs.YtjnpcmfpiejmjaaDoor
set_option linter.unusedVariables false
set_option linter.unusedSimpArgs false
/-- a number as the unsigned one of the same 64 bits -/
def uN (i : Int) : Nat := (IntKind.u64.wrap i).toNat
theorem uN_wrap (i : Int) : IntKind.u64.wrap i = ((uN i : Nat) : Int) := by
  unfold uN
  have : IntKind.u64.wrap i = i % 18446744073709551616 := rfl
  rw [this]; omega
theorem uN_lt (i : Int) : uN i < 18446744073709551616 := by
  unfold uN
  have : IntKind.u64.wrap i = i % 18446744073709551616 := rfl
  rw [this]; omega
/-- a chain's beginning -/
def startF (seed : Nat → Int) (leaf chain : Int) : Nat → Int := sumF (varint 2 ++ rowL 32 seed ++ varint (uN leaf) ++ varint (uN chain))
/-- one step further, from place p on -/
def step1 (leaf chain : Int) (v : Nat → Int) (p : Nat) : Nat → Int := sumF (varint 3 ++ varint (uN leaf) ++ varint (uN chain) ++ varint p ++ rowL 32 v)
/-- n steps from place p on -/
def stepN (leaf chain : Int) (v : Nat → Int) (p : Nat) : Nat → (Nat → Int)
  | 0 => v
  | n + 1 => step1 leaf chain (stepN leaf chain v p n) (p + n)
theorem stepN_add (leaf chain : Int) (v : Nat → Int) (p m : Nat) : ∀ n, stepN leaf chain (stepN leaf chain v p m) (p + m) n = stepN leaf chain v p (m + n)
  | 0 => rfl
  | n + 1 => by
    show step1 leaf chain (stepN leaf chain (stepN leaf chain v p m) (p + m) n) (p + m + n) = step1 leaf chain (stepN leaf chain v p (m + n)) (p + (m + n))
    rw [stepN_add leaf chain v p m n, Nat.add_assoc]
/-- a chain's value brought from place a to place b -/
def stepF (v : Nat → Int) (leaf chain a b : Int) : Nat → Int := stepN leaf chain v (max a 0).toNat ((min b 15).toNat - (max a 0).toNat)
theorem stepF_nat (v : Nat → Int) (leaf chain : Int) (a b : Nat) (hb : b ≤ 15) : stepF v leaf chain (a : Int) (b : Int) = stepN leaf chain v a (b - a) := by
  unfold stepF
  rw [show (max (a : Int) 0).toNat = a by omega, show (min (b : Int) 15).toNat = b by omega]
/-- on, and on again -/
theorem stepF_on (v : Nat → Int) (leaf chain : Int) (a b c : Nat) (hab : a ≤ b) (hbc : b ≤ c) (hc : c ≤ 15) : stepF (stepF v leaf chain a b) leaf chain b c = stepF v leaf chain a c := by
  rw [stepF_nat v _ _ a b (by omega), stepF_nat _ _ _ b c hc, stepF_nat v _ _ a c hc]
  have h := stepN_add leaf chain v a (b - a) (c - b)
  rw [show a + (b - a) = b by omega, show b - a + (c - b) = c - a by omega] at h
  exact h
theorem stepF_stay (v : Nat → Int) (leaf chain : Int) (b : Nat) (hb : b ≤ 15) : stepF v leaf chain b b = v := by
  rw [stepF_nat _ _ _ _ _ hb, Nat.sub_self]; rfl
/-- the digits of the bytes of a digest -/
def digs : List Int → List Nat
  | [] => []
  | x :: r => x.toNat / 16 :: x.toNat % 16 :: digs r
theorem digs_length : ∀ xs, (digs xs).length = 2 * xs.length
  | [] => rfl
  | x :: r => by simp only [digs, List.length_cons, digs_length r]; omega
theorem digs_append : ∀ xs ys, digs (xs ++ ys) = digs xs ++ digs ys
  | [], _ => rfl
  | x :: r, ys => by simp only [digs, List.cons_append, digs_append r ys]
theorem digs_le : ∀ {xs : List Int}, bytesOk xs → ∀ d ∈ digs xs, d ≤ 15
  | [], _, d, h => by cases h
  | x :: r, hb, d, h => by
    have hx := hb x (by simp)
    simp only [digs, List.mem_cons] at h
    rcases h with rfl | rfl | h
    · omega
    · omega
    · exact digs_le (fun y hy => hb y (by simp [hy])) d h
/-- what digits lack to 15, together -/
def lacks : List Nat → Nat
  | [] => 0
  | d :: r => (15 - d) + lacks r
theorem lacks_append : ∀ a b, lacks (a ++ b) = lacks a + lacks b
  | [], b => by simp [lacks]
  | d :: r, b => by simp only [lacks, List.cons_append, lacks_append r b]; omega
theorem lacks_le : ∀ l, lacks l ≤ 15 * l.length
  | [] => by simp [lacks]
  | d :: r => by have := lacks_le r; simp only [lacks, List.length_cons]; omega
/-- the digits of a digest, with those of the sum -/
def digF (xs : List Int) : List Nat := digs xs ++ [lacks (digs xs) / 256, lacks (digs xs) / 16 % 16, lacks (digs xs) % 16]
theorem digF_length (xs : List Int) : (digF xs).length = 2 * xs.length + 3 := by simp [digF, digs_length]
theorem lacks_bound {xs : List Int} (h : xs.length ≤ 32) : lacks (digs xs) ≤ 960 := by
  have := lacks_le (digs xs); rw [digs_length] at this; omega
theorem digF_le {xs : List Int} (hb : bytesOk xs) (hl : xs.length ≤ 32) : ∀ d ∈ digF xs, d ≤ 15 := by
  intro d h
  have := lacks_bound hl
  simp only [digF, List.mem_append, List.mem_cons, List.not_mem_nil, or_false] at h
  rcases h with h | rfl | rfl | rfl
  · exact digs_le hb d h
  all_goals omega
/-- the digest's digits say the digest -/
theorem digs_inj : ∀ {xs ys : List Int}, bytesOk xs → bytesOk ys → digs xs = digs ys → xs = ys
  | [], [], _, _, _ => rfl
  | [], y :: s, _, _, h => by simp [digs] at h
  | x :: r, [], _, _, h => by simp [digs] at h
  | x :: r, y :: s, hx, hy, h => by
    simp only [digs, List.cons.injEq] at h
    have h1 := hx x (by simp)
    have h2 := hy y (by simp)
    rw [digs_inj (fun z hz => hx z (by simp [hz])) (fun z hz => hy z (by simp [hz])) h.2.2, show x = y by omega]
/-- a digit of a that is greater than b's -/
def gtB : List Nat → List Nat → Bool
  | x :: a, y :: b => decide (y < x) || gtB a b
  | _, _ => false
theorem gtB_append : ∀ {a b : List Nat} (c d : List Nat), a.length = b.length → gtB (a ++ c) (b ++ d) = (gtB a b || gtB c d)
  | [], [], c, d, _ => by simp [gtB]
  | [], _ :: _, _, _, h => by cases h
  | _ :: _, [], _, _, h => by cases h
  | x :: a, y :: b, c, d, h => by simp only [List.cons_append, gtB, gtB_append c d (by simpa using h), Bool.or_assoc]
/-- where none of a is greater than b's, a lacks at least as much; as much only where they are the same -/
theorem lacks_mono : ∀ {a b : List Nat}, a.length = b.length → (∀ d ∈ b, d ≤ 15) → gtB a b = false → lacks b ≤ lacks a ∧ (lacks a = lacks b → a = b)
  | [], [], _, _, _ => by simp [lacks]
  | [], _ :: _, h, _, _ => by cases h
  | _ :: _, [], h, _, _ => by cases h
  | x :: a, y :: b, h, hb, hg => by
    simp only [gtB, Bool.or_eq_false_iff, decide_eq_false_iff_not, Nat.not_lt] at hg
    obtain ⟨h1, h2⟩ := lacks_mono (by simpa using h) (fun d hd => hb d (by simp [hd])) hg.2
    have hy := hb y (by simp)
    simp only [lacks]
    refine ⟨by omega, fun he => ?_⟩
    rw [show x = y by omega, h2 (by omega)]
theorem gt3 (m n : Nat) (h : n < m) : gtB [m / 256, m / 16 % 16, m % 16] [n / 256, n / 16 % 16, n % 16] = true := by
  simp only [gtB, Bool.or_eq_true, decide_eq_true_eq, Bool.or_false]
  omega
/-- of two unlike digests of one length each has a digit that is greater than the other's -/
theorem digF_gt {xs ys : List Int} (hx : bytesOk xs) (hy : bytesOk ys) (hl : xs.length = ys.length) (hne : xs ≠ ys) : gtB (digF xs) (digF ys) = true := by
  unfold digF
  rw [gtB_append _ _ (by rw [digs_length, digs_length, hl]), Bool.or_eq_true]
  by_cases hg : gtB (digs xs) (digs ys) = true
  · exact .inl hg
  · right
    obtain ⟨h1, h2⟩ := lacks_mono (a := digs xs) (b := digs ys) (by rw [digs_length, digs_length, hl]) (digs_le hy) (by simpa using hg)
    refine gt3 _ _ ?_
    rcases Nat.lt_or_ge (lacks (digs ys)) (lacks (digs xs)) with h | h
    · exact h
    · exact absurd (digs_inj hx hy (h2 (by omega))) hne
/-- the values of all chains, brought to their places, one behind the other -/
def chainsF (seed : Nat → Int) (leaf : Int) : Nat → List Nat → List Int
  | _, [] => []
  | c, d :: r => rowL 32 (stepF (startF seed leaf (c : Int)) leaf (c : Int) 0 (d : Int)) ++ chainsF seed leaf (c + 1) r
theorem chainsF_length (seed : Nat → Int) (leaf : Int) : ∀ (l : List Nat) (c : Nat), (chainsF seed leaf c l).length = 32 * l.length
  | [], _ => rfl
  | d :: r, c => by simp only [chainsF, List.length_append, rowL_length, chainsF_length seed leaf r (c + 1), List.length_cons]; omega
theorem chainsF_append (seed : Nat → Int) (leaf : Int) : ∀ (l m : List Nat) (c : Nat), chainsF seed leaf c (l ++ m) = chainsF seed leaf c l ++ chainsF seed leaf (c + l.length) m
  | [], m, c => by simp [chainsF]
  | d :: r, m, c => by
    simp only [List.cons_append, chainsF, chainsF_append seed leaf r m (c + 1), List.append_assoc, List.length_cons]
    rw [show c + 1 + r.length = c + (r.length + 1) by omega]
theorem chainsF_snoc (seed : Nat → Int) (leaf : Int) (l : List Nat) (k : Nat) (d : Nat) (h : l[k]? = some d) : chainsF seed leaf 0 (l.take (k + 1)) = chainsF seed leaf 0 (l.take k) ++ rowL 32 (stepF (startF seed leaf (k : Int)) leaf (k : Int) 0 (d : Int)) := by
  have hlt : k < l.length := (List.getElem?_eq_some_iff.1 h).1
  rw [List.take_add_one, h, Option.toList_some, chainsF_append, List.length_take, Nat.min_eq_left (by omega), Nat.zero_add]
  simp [chainsF]
/-- what a signature's values make, brought on from their digits to the end -/
def endsF (leaf : Int) : Nat → List Nat → List Int → List Int
  | _, [], _ => []
  | c, d :: r, s => rowL 32 (stepF (fun i => (s.take 32).getD i 0) leaf (c : Int) (d : Int) 15) ++ endsF leaf (c + 1) r (s.drop 32)
theorem endsF_length (leaf : Int) : ∀ (l : List Nat) (c : Nat) (s : List Int), (endsF leaf c l s).length = 32 * l.length
  | [], _, _ => rfl
  | d :: r, c, s => by simp only [endsF, List.length_append, rowL_length, endsF_length leaf r (c + 1), List.length_cons]; omega
theorem endsF_append (leaf : Int) : ∀ (l m : List Nat) (c : Nat) (s : List Int), endsF leaf c (l ++ m) s = endsF leaf c l s ++ endsF leaf (c + l.length) m (s.drop (32 * l.length))
  | [], m, c, s => by simp [endsF]
  | d :: r, m, c, s => by
    simp only [List.cons_append, endsF, endsF_append leaf r m (c + 1), List.append_assoc, List.length_cons, List.drop_drop]
    rw [show c + 1 + r.length = c + (r.length + 1) by omega, show 32 + 32 * r.length = 32 * (r.length + 1) by omega]
theorem endsF_snoc (leaf : Int) (l : List Nat) (k : Nat) (d : Nat) (s : List Int) (h : l[k]? = some d) : endsF leaf 0 (l.take (k + 1)) s = endsF leaf 0 (l.take k) s ++ rowL 32 (stepF (fun i => ((s.drop (32 * k)).take 32).getD i 0) leaf (k : Int) (d : Int) 15) := by
  have hlt : k < l.length := (List.getElem?_eq_some_iff.1 h).1
  rw [List.take_add_one, h, Option.toList_some, endsF_append, List.length_take, Nat.min_eq_left (by omega), Nat.zero_add]
  simp [endsF]
theorem rowL_congr {n : Nat} {f g : Nat → Int} (h : ∀ i, i < n → f i = g i) : rowL n f = rowL n g := by
  unfold rowL
  exact List.map_congr_left fun i hi => h i (by simpa using hi)
theorem step1_congr {leaf chain : Int} {f g : Nat → Int} {p : Nat} (h : ∀ i, i < 32 → f i = g i) : step1 leaf chain f p = step1 leaf chain g p := by
  unfold step1; rw [rowL_congr h]
theorem stepN_congr {leaf chain : Int} {f g : Nat → Int} {p : Nat} (h : ∀ i, i < 32 → f i = g i) : ∀ n i, i < 32 → stepN leaf chain f p n i = stepN leaf chain g p n i
  | 0, i, hi => h i hi
  | n + 1, i, hi => by
    show step1 leaf chain (stepN leaf chain f p n) (p + n) i = step1 leaf chain (stepN leaf chain g p n) (p + n) i
    rw [step1_congr (stepN_congr h n)]
theorem stepF_congr {leaf chain a b : Int} {f g : Nat → Int} (h : ∀ i, i < 32 → f i = g i) : rowL 32 (stepF f leaf chain a b) = rowL 32 (stepF g leaf chain a b) :=
  rowL_congr (stepN_congr h _)
theorem rowL_getD (n : Nat) (f : Nat → Int) (i : Nat) (h : i < n) : (rowL n f).getD i 0 = f i := by simp [rowL, List.getD, h]
/-- a signature makes the public sum -/
theorem ends_chains (seed : Nat → Int) (leaf : Int) : ∀ (l : List Nat) (c : Nat), (∀ d ∈ l, d ≤ 15) → endsF leaf c l (chainsF seed leaf c l) = chainsF seed leaf c (List.replicate l.length 15)
  | [], _, _ => rfl
  | d :: r, c, h => by
    have hl := rowL_length 32 (stepF (startF seed leaf (c : Int)) leaf (c : Int) 0 (d : Int))
    simp only [chainsF, endsF, List.length_cons, List.replicate_succ]
    rw [List.take_left' hl, List.drop_left' hl, ends_chains seed leaf r (c + 1) (fun x hx => h x (by simp [hx]))]
    have e := stepF_on (startF seed leaf (c : Int)) leaf (c : Int) 0 d 15 (Nat.zero_le _) (h d (by simp)) (Nat.le_refl _)
    rw [stepF_congr (g := stepF (startF seed leaf (c : Int)) leaf (c : Int) 0 (d : Int)) (fun i hi => rowL_getD _ _ _ hi)]
    rw [show ((0 : Nat) : Int) = 0 from rfl] at e
    rw [show ((15 : Nat) : Int) = 15 from rfl] at e ⊢
    rw [e]
/-- a leaf's sum -/
def leafF (xs : List Int) : Nat → Int := sumF (0 :: xs)
def pubF (seed : Nat → Int) (leaf : Int) (n : Nat) : Nat → Int := leafF (chainsF seed leaf 0 (List.replicate (2 * n + 3) 15))
def signF (seed : Nat → Int) (leaf : Int) (d : List Int) : List Int := chainsF seed leaf 0 (digF d)
def fromF (s : List Int) (leaf : Int) (d : List Int) : Nat → Int := leafF (endsF leaf 0 (digF d) s)
theorem from_sign (seed : Nat → Int) (leaf : Int) (d : List Int) (hb : bytesOk d) (hl : d.length ≤ 32) : fromF (signF seed leaf d) leaf d = pubF seed leaf d.length := by
  unfold fromF signF pubF
  rw [ends_chains seed leaf _ _ (digF_le hb hl), digF_length]
/-- may a leaf and a digest's length be? -/
def leafOk (leaf : Int) : Prop := 0 ≤ leaf ∧ leaf < 1024
end Go.Proofs.YtjnpcmfpiejmjaaDoor
namespace Go.Proofs.YtjnpcmfpiejmjaaDoor
set_option linter.unusedVariables false
set_option linter.unusedSimpArgs false
open Go.RowKit
theorem wpList_min2 {P : Program} {w : World} {ops : Array Oper} {rest : List Oper} {o : Oper} {a : Act} {Q : Exit → Act → World → Prop} (hgd : o.guard = none) (x y : Operand) (t : TypeId)
    (ho : o.op = .call { callee := .builtin .min, args := #[x, y], argTypes := #[t, t] }) (p q : Int) (hx : a.eval x = .int .i64 p) (hy : a.eval y = .int .i64 q) (r : Int) (hr : min p q = r)
    (h : wpList P ops Q rest (a.put o.dst (.int .i64 r)) w) : wpList P ops Q (o :: rest) a w := by
  refine wpList_plain hgd fun K hK => ?_
  have hrun := run_min_int2 (P := P) (w := w) #[t, t] o.type .i64 .i64 p q
  rw [show (if q < p then q else p) = r by rw [← hr]; split <;> omega] at hrun
  unfold Oper.wp
  simp only [execOp, ho, resolve, invoke, builtin, Sem.run_bind, Sem.run_pure, Result.andThen_ok, List.map_toArray, List.map_cons, List.map_nil, hx, hy, hrun]
  exact hK _ _ h
theorem wpList_max2 {P : Program} {w : World} {ops : Array Oper} {rest : List Oper} {o : Oper} {a : Act} {Q : Exit → Act → World → Prop} (hgd : o.guard = none) (x y : Operand) (t : TypeId)
    (ho : o.op = .call { callee := .builtin .max, args := #[x, y], argTypes := #[t, t] }) (p q : Int) (hx : a.eval x = .int .i64 p) (hy : a.eval y = .int .i64 q) (r : Int) (hr : max p q = r)
    (h : wpList P ops Q rest (a.put o.dst (.int .i64 r)) w) : wpList P ops Q (o :: rest) a w := by
  refine wpList_plain hgd fun K hK => ?_
  have hrun := run_max_int2 (P := P) (w := w) #[t, t] o.type .i64 .i64 p q
  rw [show (if p < q then q else p) = r by rw [← hr]; split <;> omega] at hrun
  unfold Oper.wp
  simp only [execOp, ho, resolve, invoke, builtin, Sem.run_bind, Sem.run_pure, Result.andThen_ok, List.map_toArray, List.map_cons, List.map_nil, hx, hy, hrun]
  exact hK _ _ h
end Go.Proofs.YtjnpcmfpiejmjaaDoor
namespace Go.Proofs.YtjnpcmfpiejmjaaDoor
set_option linter.unusedVariables false
set_option linter.unusedSimpArgs false
open Go.RowKit
set_option maxRecDepth 100000
theorem and15 (n : Nat) (h : n < 1024) : bits .and .i64 (n : Int) 15 = ((n % 16 : Nat) : Int) := by
  have : ∀ b : Fin 1024, bits .and .i64 (b.val : Int) 15 = ((b.val % 16 : Nat) : Int) := by decide +kernel
  exact this ⟨n, h⟩
end Go.Proofs.YtjnpcmfpiejmjaaDoor
namespace Go.Proofs.YtjnpcmfpiejmjaaDoor
set_option linter.unusedVariables false
set_option linter.unusedSimpArgs false
open Go.RowKit
set_option maxRecDepth 100000
theorem RowAt.range {w : World} {g n : Nat} {k : IntKind} {t : TypeId} {f : Nat → Int} (h : RowAt w g k n t f) : w.rangeAt g 0 (rowOf k n f).toList := fun j v hv => by
  rw [Nat.zero_add, cell_of_row w g j _ t _ h]
  simpa using hv
theorem row_yields {ops : Array Oper} {S : World → Prop} {op : Oper} {a : Act} (hw : Region.wanted op (yielded ops a.tmps) = true) (ty : TypeId) (x : Operand) (ho : op.op = .load ty x)
    (b : Nat) (hx : a.eval x = .pointer (some ⟨b, 0, none⟩)) (k : IntKind) (n : Nat) (f : Nat → Int) (d : TypeDesc) (hS : ∀ w, S w → RowAt w b k n ty f)
    (hu : Tryd.prog.underlying ty = some d) (hd : d.isRow = true) (hi : (Tryd.prog.info? ty).map (·.size) = some n) : YieldsIf Tryd.prog ops S op (.agg (rowOf k n f)) a := by
  have h := yieldsIf_load_mid (P := Tryd.prog) (S := S) hw ty x ho b 0 hx (rowOf k n f).toList d (fun w h => (hS w h).range) hu hd (by rw [hi]; simp [rowOf])
  simpa using h
theorem row_yields_mid {ops : Array Oper} {S : World → Prop} {op : Oper} {a : Act} (hw : Region.wanted op (yielded ops a.tmps) = true) (ty : TypeId) (x : Operand) (ho : op.op = .load ty x)
    (b o : Nat) (hx : a.eval x = .pointer (some ⟨b, o, none⟩)) (k : IntKind) (n : Nat) (f : Nat → Int) (d : TypeDesc) (hS : ∀ w, S w → w.rangeAt b o (rowOf k n f).toList)
    (hu : Tryd.prog.underlying ty = some d) (hd : d.isRow = true) (hi : (Tryd.prog.info? ty).map (·.size) = some n) : YieldsIf Tryd.prog ops S op (.agg (rowOf k n f)) a := by
  have h := yieldsIf_load_mid (P := Tryd.prog) (S := S) hw ty x ho b o hx (rowOf k n f).toList d hS hu hd (by rw [hi]; simp [rowOf])
  simpa using h
end Go.Proofs.YtjnpcmfpiejmjaaDoor
namespace Go.Proofs.YtjnpcmfpiejmjaaDoor
set_option linter.unusedVariables false
set_option linter.unusedSimpArgs false
open Go.RowKit
set_option maxRecDepth 100000
/-- behind a call of a Writer that was made above the mark B -/
theorem wpost_on {p B : Nat} {v : Value} {xs ys : List Int} {w0 w w' : World} {e : Ending} (h : WPost p v xs ys w e w') (hw : WAt w p v xs) (hb : Below B w0 w) (hB : B ≤ p) :
    e = .returned (.pointer (some ⟨p, 0, none⟩)) ∧ ∃ v', WAt w' p v' (xs ++ ys) ∧ Below B w0 w' := by
  obtain ⟨he, v', h1, h2⟩ := h
  exact ⟨he, v', h1, hb.trans (h2.below hw hB)⟩
theorem wuint_on (p B : Nat) (v : Value) (xs : List Int) (n : Nat) (w0 w : World) (hw : WAt w p v xs) (hb : Below B w0 w) (hB : B ≤ p) (hn : n < 18446744073709551616) (hl : xs.length + 10 ≤ 140737488355328) :
    Calls Tryd.prog 71 #[.pointer (some ⟨p, 0, none⟩), .int .u64 (n : Int)] w fun e w' => e = .returned (.pointer (some ⟨p, 0, none⟩)) ∧ ∃ v', WAt w' p v' (xs ++ varint n) ∧ Below B w0 w' :=
  (wuint_any p v xs n w hw hn hl).mono fun _ _ h => wpost_on h hw hb hB
theorem wuint_lit (p B : Nat) (v : Value) (xs : List Int) (n : Nat) (m : Int) (hm : m = (n : Int)) (w0 w : World) (hw : WAt w p v xs) (hb : Below B w0 w) (hB : B ≤ p) (hn : n < 18446744073709551616) (hl : xs.length + 10 ≤ 140737488355328) :
    Calls Tryd.prog 71 #[.pointer (some ⟨p, 0, none⟩), .int .u64 m] w fun e w' => e = .returned (.pointer (some ⟨p, 0, none⟩)) ∧ ∃ v', WAt w' p v' (xs ++ varint n) ∧ Below B w0 w' := by
  subst hm; exact wuint_on p B v xs n w0 w hw hb hB hn hl
theorem whash_on (p B : Nat) (v : Value) (xs : List Int) (f : Nat → Int) (w0 w : World) (hw : WAt w p v xs) (hb : Below B w0 w) (hB : B ≤ p) (hl : xs.length + 32 ≤ 140737488355328) :
    Calls Tryd.prog 45 #[.pointer (some ⟨p, 0, none⟩), .agg (rowOf .u8 32 f)] w fun e w' => e = .returned (.pointer (some ⟨p, 0, none⟩)) ∧ ∃ v', WAt w' p v' (xs ++ rowL 32 f) ∧ Below B w0 w' :=
  (whash_any p v xs f w hw hl).mono fun _ _ h => wpost_on h hw hb hB
theorem wdone_on (p B : Nat) (v : Value) (xs : List Int) (w0 w : World) (hw : WAt w p v xs) (hb : Below B w0 w) (hB : B ≤ p) (hl : xs.length ≤ 140737488355328) :
    Calls Tryd.prog 43 #[.pointer (some ⟨p, 0, none⟩)] w fun e w' => ∃ v', e = .returned v' ∧ BytesIn w' v' xs ∧ Below B w0 w' :=
  (done_any p v xs w hw hl).mono fun _ _ ⟨v', he, ho, hb'⟩ => ⟨v', he, owns_in ho (by unfold maxLen; omega), hb.trans (hb'.mono (by have := hw.lt; omega))⟩
theorem new_on (w : World) : Calls Tryd.prog 42 #[] w fun e w' => e = .returned (.pointer (some ⟨w.heap.size, 0, none⟩)) ∧ WAt w' w.heap.size (.slice none 0 0) [] ∧ Below w.heap.size w w' := new_any w
theorem vlen (n : Nat) (h : n < 18446744073709551616) : (varint n).length ≤ 10 := by rw [varint_length]; exact glen_le h
theorem row32_list (f : Nat → Int) : (rowOf .u8 32 f).toList.length = 32 := by simp [rowOf]
end Go.Proofs.YtjnpcmfpiejmjaaDoor
namespace Go.Proofs.YtjnpcmfpiejmjaaDoor
set_option linter.unusedVariables false
set_option linter.unusedSimpArgs false
open Go.RowKit
set_option maxRecDepth 100000
def natInts (l : List Nat) : List Int := l.map fun d : Nat => (d : Int)
theorem natInts_length (l : List Nat) : (natInts l).length = l.length := by simp [natInts]
theorem natInts_append (a b : List Nat) : natInts (a ++ b) = natInts a ++ natInts b := by simp [natInts]
theorem digs_snoc (xs : List Int) (k : Nat) (x : Int) (h : xs[k]? = some x) : digs (xs.take (k + 1)) = digs (xs.take k) ++ [x.toNat / 16, x.toNat % 16] := by
  rw [List.take_add_one, h, Option.toList_some, digs_append]
  rfl
theorem lacks_snoc (l : List Nat) (k d : Nat) (h : l[k]? = some d) : lacks (l.take (k + 1)) = lacks (l.take k) + (15 - d) := by
  rw [List.take_add_one, h, Option.toList_some, lacks_append]
  simp [lacks]
theorem wkept_below {w w' : World} {B n : Nat} {e : TypeId} {v : Value} {vs : List Value} (h : w.ownsRow B e 1 v n vs) (hb : Below w.heap.size w w') : w'.ownsRow B e 1 v n vs := by
  refine h.kept (row := none) ⟨hb.os, hb.tape, hb.output, hb.size, fun k hk _ => hb.block k hk⟩ ?_
  cases v.ownBlock <;> simp
structure DigM (w wr : World) (v : Value) (xs : List Int) (v' : Value) (l : List Nat) : Prop where
  arg : BytesIn wr v xs
  row : wr.ownsRow w.heap.size 3 1 v' (natInts l).length (intVals (natInts l))
  below : Below w.heap.size w wr
theorem DigM.grow {w wr w2 w3 : World} {v v' v2 : Value} {xs : List Int} {l m : List Nat} (h : DigM w wr v xs v' l) (hb : Below wr.heap.size wr w2) (hg : w2.grownBy w3 v'.ownBlock)
    (ho : w3.ownsRow w.heap.size 3 1 v2 (natInts l ++ natInts m).length (intVals (natInts l ++ natInts m))) (hx : BytesIn w v xs) : DigM w w3 v xs v2 (l ++ m) := by
  have h1 := (h.below.trans (hb.mono h.below.size)).grown hg (Nat.le_trans h.below.size hb.size) (fun k hk => (h.row.lt k hk).1)
  exact ⟨hx.below h1, by rw [natInts_append]; exact ho, h1⟩
end Go.Proofs.YtjnpcmfpiejmjaaDoor
namespace Go.Proofs.YtjnpcmfpiejmjaaDoor
set_option linter.unusedVariables false
set_option linter.unusedSimpArgs false
open Go.RowKit
set_option maxRecDepth 100000
theorem oneAt (w : World) (g : Nat) (hg : g < w.heap.size) (x : Int) : BytesAt (w.alloc (.cells #[.int .u8 x] 5)) g (.slice (some ⟨w.heap.size, 0, none⟩) 1 1) [x] := by
  refine ⟨_, _, rfl, by simp, by simp [maxLen], .inr ⟨_, _, rfl, by omega, fun i y hi => ?_⟩⟩
  rw [Nat.zero_add, cell_of_row _ _ _ _ _ _ (heap_alloc_new w _)]
  match i, hi with
  | 0, hi => cases hi; rfl
theorem BytesAt.below' {w w' : World} {g : Nat} {v : Value} {xs : List Int} (h : BytesAt w g v xs) (hb : Below w.heap.size w w') : BytesAt w' g v xs := by
  obtain ⟨a, cap, rfl, hc, hm, hx⟩ := h
  refine ⟨a, cap, rfl, hc, hm, ?_⟩
  rcases hx with hx | ⟨ab, ao, rfl, hne, hx⟩
  · exact .inl hx
  · exact .inr ⟨ab, ao, rfl, hne, fun i y hi => (hb.cell (p := ⟨ab, ao + i, none⟩) (World.block_lt_of_cell? w _ (hx i y hi))).trans (hx i y hi)⟩
end Go.Proofs.YtjnpcmfpiejmjaaDoor
namespace Go.Proofs.YtjnpcmfpiejmjaaDoor
set_option linter.unusedVariables false
set_option linter.unusedSimpArgs false
open Go.RowKit
set_option maxRecDepth 100000
def zF : Nat → Int := fun _ => 0
theorem zeros32' : (#[Value.int IntKind.u8 0, Value.int IntKind.u8 0, Value.int IntKind.u8 0, Value.int IntKind.u8 0, Value.int IntKind.u8 0, Value.int IntKind.u8 0, Value.int IntKind.u8 0, Value.int IntKind.u8 0, Value.int IntKind.u8 0, Value.int IntKind.u8 0, Value.int IntKind.u8 0, Value.int IntKind.u8 0, Value.int IntKind.u8 0, Value.int IntKind.u8 0, Value.int IntKind.u8 0, Value.int IntKind.u8 0, Value.int IntKind.u8 0, Value.int IntKind.u8 0, Value.int IntKind.u8 0, Value.int IntKind.u8 0, Value.int IntKind.u8 0, Value.int IntKind.u8 0, Value.int IntKind.u8 0, Value.int IntKind.u8 0, Value.int IntKind.u8 0, Value.int IntKind.u8 0, Value.int IntKind.u8 0, Value.int IntKind.u8 0, Value.int IntKind.u8 0, Value.int IntKind.u8 0, Value.int IntKind.u8 0, Value.int IntKind.u8 0] : Array Value) = rowOf .u8 32 zF := by rfl
def noV : Value := .tuple #[.agg (rowOf .u8 32 zF), errV (some 1)]
def okV (f : Nat → Int) : Value := .tuple #[.agg (rowOf .u8 32 f), errV none]
theorem rep_get (n k : Nat) (h : k < n) : (List.replicate n 15)[k]? = some 15 := by simp [h]
end Go.Proofs.YtjnpcmfpiejmjaaDoor
namespace Go.Proofs.YtjnpcmfpiejmjaaDoor
set_option linter.unusedVariables false
set_option linter.unusedSimpArgs false
open Go.RowKit
def bytesOf (h : Nat → Int) : List Int := (List.range 32).map h
/-- the hash of a node -/
def nodeF (a b : Nat → Int) : Nat → Int := sumF (1 :: (bytesOf a ++ bytesOf b))
/-- how many leaves stand in the first part -/
def splitF (n : Nat) : Nat := 2 ^ (Lib.bitLen (n - 1) - 1)
theorem splitF_spec (n : Nat) (h : 2 ≤ n) (hn : n < 18446744073709551616) : 1 ≤ splitF n ∧ splitF n < n ∧ n ≤ 2 * splitF n ∧ 1 ≤ Lib.bitLen (n - 1) ∧ Lib.bitLen (n - 1) ≤ 64 := by
  have hb := Lib.bitLenAux_bounds 64 (n - 1) (by omega) (by omega)
  have h64 : Lib.bitLenAux 64 (n - 1) ≤ 64 := Lib.bitLenAux_le 64 (n - 1) 64 (by omega)
  unfold splitF Lib.bitLen
  obtain ⟨e, he⟩ : ∃ e, Lib.bitLenAux 64 (n - 1) = e + 1 := ⟨Lib.bitLenAux 64 (n - 1) - 1, by omega⟩
  rw [he] at hb h64 ⊢
  simp only [Nat.add_sub_cancel] at hb ⊢
  have hp : 1 ≤ 2 ^ e := Nat.one_le_two_pow
  have hs : 2 ^ (e + 1) = 2 * 2 ^ e := by rw [Nat.pow_succ, Nat.mul_comm]
  omega
def rootF (l : List (Nat → Int)) : Nat → Int :=
  if l.length = 1 then l.getD 0 (fun _ => 0)
  else if _h : 1 ≤ splitF l.length ∧ splitF l.length < l.length then nodeF (rootF (l.take (splitF l.length))) (rootF (l.drop (splitF l.length)))
  else sumF []
termination_by l.length
decreasing_by
  · rw [List.length_take]; omega
  · rw [List.length_drop]; omega
def pathF (l : List (Nat → Int)) (i : Nat) : List (Nat → Int) :=
  if _h : 1 ≤ splitF l.length ∧ splitF l.length < l.length then
    if i < splitF l.length then pathF (l.take (splitF l.length)) i ++ [rootF (l.drop (splitF l.length))] else pathF (l.drop (splitF l.length)) (i - splitF l.length) ++ [rootF (l.take (splitF l.length))]
  else []
termination_by l.length
decreasing_by
  · rw [List.length_take]; omega
  · rw [List.length_drop]; omega
def turnsF (i n : Nat) : List Bool :=
  if _h : 1 ≤ splitF n ∧ splitF n < n then
    if i < splitF n then false :: turnsF i (splitF n) else true :: turnsF (i - splitF n) (n - splitF n)
  else []
termination_by n
decreasing_by
  · omega
  · omega
theorem splitF_one : splitF 1 = 1 := by decide
theorem splitF_zero : splitF 0 = 1 := by decide
theorem rootF_nil : rootF [] = sumF [] := by
  rw [rootF, if_neg (by simp), dif_neg (by simp)]
theorem rootF_one (l : List (Nat → Int)) (h : l.length = 1) : rootF l = l.getD 0 (fun _ => 0) := by rw [rootF, if_pos h]
theorem rootF_step (l : List (Nat → Int)) (h : 2 ≤ l.length) (hs : 1 ≤ splitF l.length ∧ splitF l.length < l.length) :
    rootF l = nodeF (rootF (l.take (splitF l.length))) (rootF (l.drop (splitF l.length))) := by rw [rootF, if_neg (by omega), dif_pos hs]
theorem pathF_one (l : List (Nat → Int)) (h : l.length = 1) (i : Nat) : pathF l i = [] := by
  rw [pathF, dif_neg]
  rw [h, splitF_one]; omega
theorem pathF_lo (l : List (Nat → Int)) (hs : 1 ≤ splitF l.length ∧ splitF l.length < l.length) (i : Nat) (h : i < splitF l.length) : pathF l i = pathF (l.take (splitF l.length)) i ++ [rootF (l.drop (splitF l.length))] := by
  rw [pathF, dif_pos hs, if_pos h]
theorem pathF_hi (l : List (Nat → Int)) (hs : 1 ≤ splitF l.length ∧ splitF l.length < l.length) (i : Nat) (h : ¬ i < splitF l.length) : pathF l i = pathF (l.drop (splitF l.length)) (i - splitF l.length) ++ [rootF (l.take (splitF l.length))] := by
  rw [pathF, dif_pos hs, if_neg h]
theorem turnsF_one (i : Nat) : turnsF i 1 = [] := by rw [turnsF, dif_neg]; rw [splitF_one]; omega
theorem turnsF_lo (i n : Nat) (hs : 1 ≤ splitF n ∧ splitF n < n) (h : i < splitF n) : turnsF i n = false :: turnsF i (splitF n) := by rw [turnsF, dif_pos hs, if_pos h]
theorem turnsF_hi (i n : Nat) (hs : 1 ≤ splitF n ∧ splitF n < n) (h : ¬ i < splitF n) : turnsF i n = true :: turnsF (i - splitF n) (n - splitF n) := by rw [turnsF, dif_pos hs, if_neg h]
def foldStep (s : Nat → Int) (x : Bool × (Nat → Int)) : Nat → Int := if x.1 then nodeF x.2 s else nodeF s x.2
def foldT (s : Nat → Int) (l : List (Bool × (Nat → Int))) : Nat → Int := l.foldl foldStep s
theorem path_turns : ∀ (n : Nat) (l : List (Nat → Int)) (i : Nat), l.length = n → n < 18446744073709551616 → i < n → (pathF l i).length = (turnsF i n).length := by
  intro n
  induction n using Nat.strongRecOn with
  | _ n ih =>
    intro l i hl hn hi
    by_cases h1 : n = 1
    · subst h1; rw [pathF_one l hl, turnsF_one]; rfl
    · have hs := splitF_spec n (by omega) hn
      have hs2 : 1 ≤ splitF l.length ∧ splitF l.length < l.length := by rw [hl]; exact ⟨hs.1, hs.2.1⟩
      by_cases hlt : i < splitF n
      · rw [pathF_lo l hs2 i (by rw [hl]; exact hlt), turnsF_lo i n ⟨hs.1, hs.2.1⟩ hlt, List.length_append, List.length_cons, hl, ih (splitF n) hs.2.1 _ i (by rw [List.length_take]; omega) (by omega) hlt]
        rfl
      · rw [pathF_hi l hs2 i (by rw [hl]; exact hlt), turnsF_hi i n ⟨hs.1, hs.2.1⟩ hlt, List.length_append, List.length_cons, hl, ih (n - splitF n) (by omega) _ (i - splitF n) (by rw [List.length_drop]; omega) (by omega) (by omega)]
        rfl
theorem path_root : ∀ (n : Nat) (l : List (Nat → Int)) (i : Nat), l.length = n → n < 18446744073709551616 → i < n → foldT (l.getD i (fun _ => 0)) ((turnsF i n).reverse.zip (pathF l i)) = rootF l := by
  intro n
  induction n using Nat.strongRecOn with
  | _ n ih =>
    intro l i hl hn hi
    by_cases h1 : n = 1
    · subst h1
      obtain rfl : i = 0 := by omega
      rw [pathF_one l hl, turnsF_one, rootF_one l hl]; rfl
    · have hs := splitF_spec n (by omega) hn
      have hs2 : 1 ≤ splitF l.length ∧ splitF l.length < l.length := by rw [hl]; exact ⟨hs.1, hs.2.1⟩
      by_cases hlt : i < splitF n
      · have hlk : (l.take (splitF n)).length = splitF n := by rw [List.length_take]; omega
        have ih1 := ih (splitF n) hs.2.1 (l.take (splitF n)) i hlk (by omega) hlt
        have pt := path_turns (splitF n) (l.take (splitF n)) i hlk (by omega) hlt
        rw [pathF_lo l hs2 i (by rw [hl]; exact hlt), turnsF_lo i n ⟨hs.1, hs.2.1⟩ hlt, rootF_step l (by omega) hs2, hl, List.reverse_cons, List.zip_append (by rw [List.length_reverse, pt]), foldT, List.foldl_append]
        have e : l.getD i (fun _ => 0) = (l.take (splitF n)).getD i (fun _ => 0) := by
          simp only [List.getD, List.getElem?_take, if_pos hlt]
        unfold foldT at ih1
        rw [e, ih1]
        rfl
      · have hlk : (l.drop (splitF n)).length = n - splitF n := by rw [List.length_drop]; omega
        have ih1 := ih (n - splitF n) (by omega) (l.drop (splitF n)) (i - splitF n) hlk (by omega) (by omega)
        have pt := path_turns (n - splitF n) (l.drop (splitF n)) (i - splitF n) hlk (by omega) (by omega)
        rw [pathF_hi l hs2 i (by rw [hl]; exact hlt), turnsF_hi i n ⟨hs.1, hs.2.1⟩ hlt, rootF_step l (by omega) hs2, hl, List.reverse_cons, List.zip_append (by rw [List.length_reverse, pt]), foldT, List.foldl_append]
        have e : l.getD i (fun _ => 0) = (l.drop (splitF n)).getD (i - splitF n) (fun _ => 0) := by
          simp only [List.getD, List.getElem?_drop, show splitF n + (i - splitF n) = i by omega]
        unfold foldT at ih1
        rw [e, ih1]
        rfl
theorem path_depth : ∀ (m : Nat) (l : List (Nat → Int)) (i : Nat), l.length ≤ 2 ^ m → l.length < 18446744073709551616 → i < l.length → (pathF l i).length ≤ m := by
  intro m
  induction m with
  | zero =>
    intro l i hl _ hi
    rw [pathF_one l (by omega)]; simp
  | succ m ih =>
    intro l i hl hn hi
    by_cases h1 : l.length = 1
    · rw [pathF_one l h1]; simp
    · have hs := splitF_spec l.length (by omega) hn
      have hk : splitF l.length ≤ 2 ^ m := by
        have h2 : splitF l.length < 2 ^ (m + 1) := by omega
        unfold splitF at h2 ⊢
        have h3 := (Nat.pow_lt_pow_iff_right (a := 2) (by omega)).1 h2
        exact Nat.pow_le_pow_right (by omega) (by omega)
      by_cases hlt : i < splitF l.length
      · have hlk : (l.take (splitF l.length)).length = splitF l.length := by rw [List.length_take]; omega
        rw [pathF_lo l ⟨hs.1, hs.2.1⟩ i hlt, List.length_append]
        have := ih (l.take (splitF l.length)) i (by omega) (by omega) (by omega)
        simp only [List.length_cons, List.length_nil]; omega
      · have hlk : (l.drop (splitF l.length)).length = l.length - splitF l.length := by rw [List.length_drop]
        rw [pathF_hi l ⟨hs.1, hs.2.1⟩ i hlt, List.length_append]
        have := ih (l.drop (splitF l.length)) (i - splitF l.length) (by omega) (by omega) (by omega)
        simp only [List.length_cons, List.length_nil]; omega
end Go.Proofs.YtjnpcmfpiejmjaaDoor
namespace Go.Proofs
set_option linter.unusedVariables false
set_option linter.unusedSimpArgs false
open Go.Shelf
end Go.Proofs
