/- Part 30 of the proof. -/
import Derived.Lib.ItoaNum
import Derived.Shelf.Small.Bits
import Derived.Shelf.Small.Strs
import Derived.Shelf.Strconv.Itoa0
import Derived.Shelf.Strings.Search1
import Derived.Test.YtejglhlodfhgkaaGreatDoorProg
import Derived.Test.YtejglhlodfhgkaaGreatDoorXv1
import Derived.Test.YtejglhlodfhgkaaGreatDoorXv3
import Derived.Test.YtejglhlodfhgkaaGreatDoorXv4
import Derived.Test.YtejglhlodfhgkaaGreatDoorXv6
import Derived.Test.YtejglhlodfhgkaaGreatDoorXv12
import Derived.Test.YtejglhlodfhgkaaGreatDoorXv20
namespace Go.Proofs.YtejglhlodfhgkaaGreatDoor
set_option linter.unusedVariables false
set_option linter.unusedSimpArgs false
/-- a number as the unsigned one of the same 64 bits -/
def uN (i : Int) : Nat := (IntKind.u64.wrap i).toNat
theorem uN_wrap (i : Int) : IntKind.u64.wrap i = ((uN i : Nat) : Int) := by
  unfold uN
  have : IntKind.u64.wrap i = i % 18446744073709551616 := rfl
  rw [this]; omega
theorem uN_lt (i : Int) : uN i < 18446744073709551616 := by
  unfold uN
  have : IntKind.u64.wrap i = i % 18446744073709551616 := rfl
  rw [this]; omega
/-- a chain's beginning -/
def startF (seed : Nat → Int) (leaf chain : Int) : Nat → Int := sumF (varint 2 ++ rowL 32 seed ++ varint (uN leaf) ++ varint (uN chain))
/-- one step further, from place p on -/
def step1 (leaf chain : Int) (v : Nat → Int) (p : Nat) : Nat → Int := sumF (varint 3 ++ varint (uN leaf) ++ varint (uN chain) ++ varint p ++ rowL 32 v)
/-- n steps from place p on -/
def stepN (leaf chain : Int) (v : Nat → Int) (p : Nat) : Nat → (Nat → Int)
  | 0 => v
  | n + 1 => step1 leaf chain (stepN leaf chain v p n) (p + n)
/-- a chain's value brought from place a to place b -/
def stepF (v : Nat → Int) (leaf chain a b : Int) : Nat → Int := stepN leaf chain v (max a 0).toNat ((min b 15).toNat - (max a 0).toNat)
/-- the digits of the bytes of a digest -/
def digs : List Int → List Nat
  | [] => []
  | x :: r => x.toNat / 16 :: x.toNat % 16 :: digs r
theorem digs_length : ∀ xs, (digs xs).length = 2 * xs.length
  | [] => rfl
  | x :: r => by simp only [digs, List.length_cons, digs_length r]; omega
theorem digs_append : ∀ xs ys, digs (xs ++ ys) = digs xs ++ digs ys
  | [], _ => rfl
  | x :: r, ys => by simp only [digs, List.cons_append, digs_append r ys]
theorem digs_le : ∀ {xs : List Int}, bytesOk xs → ∀ d ∈ digs xs, d ≤ 15
  | [], _, d, h => by cases h
  | x :: r, hb, d, h => by
    have hx := hb x (by simp)
    simp only [digs, List.mem_cons] at h
    rcases h with rfl | rfl | h
    · omega
    · omega
    · exact digs_le (fun y hy => hb y (by simp [hy])) d h
/-- what digits lack to 15, together -/
def lacks : List Nat → Nat
  | [] => 0
  | d :: r => (15 - d) + lacks r
theorem lacks_append : ∀ a b, lacks (a ++ b) = lacks a + lacks b
  | [], b => by simp [lacks]
  | d :: r, b => by simp only [lacks, List.cons_append, lacks_append r b]; omega
theorem lacks_le : ∀ l, lacks l ≤ 15 * l.length
  | [] => by simp [lacks]
  | d :: r => by have := lacks_le r; simp only [lacks, List.length_cons]; omega
/-- the digits of a digest, with those of the sum -/
def digF (xs : List Int) : List Nat := digs xs ++ [lacks (digs xs) / 256, lacks (digs xs) / 16 % 16, lacks (digs xs) % 16]
theorem digF_length (xs : List Int) : (digF xs).length = 2 * xs.length + 3 := by simp [digF, digs_length]
theorem lacks_bound {xs : List Int} (h : xs.length ≤ 32) : lacks (digs xs) ≤ 960 := by
  have := lacks_le (digs xs); rw [digs_length] at this; omega
theorem digF_le {xs : List Int} (hb : bytesOk xs) (hl : xs.length ≤ 32) : ∀ d ∈ digF xs, d ≤ 15 := by
  intro d h
  have := lacks_bound hl
  simp only [digF, List.mem_append, List.mem_cons, List.not_mem_nil, or_false] at h
  rcases h with h | rfl | rfl | rfl
  · exact digs_le hb d h
  all_goals omega
/-- the values of all chains, brought to their places, one behind the other -/
def chainsF (seed : Nat → Int) (leaf : Int) : Nat → List Nat → List Int
  | _, [] => []
  | c, d :: r => rowL 32 (stepF (startF seed leaf (c : Int)) leaf (c : Int) 0 (d : Int)) ++ chainsF seed leaf (c + 1) r
theorem chainsF_length (seed : Nat → Int) (leaf : Int) : ∀ (l : List Nat) (c : Nat), (chainsF seed leaf c l).length = 32 * l.length
  | [], _ => rfl
  | d :: r, c => by simp only [chainsF, List.length_append, rowL_length, chainsF_length seed leaf r (c + 1), List.length_cons]; omega
theorem chainsF_append (seed : Nat → Int) (leaf : Int) : ∀ (l m : List Nat) (c : Nat), chainsF seed leaf c (l ++ m) = chainsF seed leaf c l ++ chainsF seed leaf (c + l.length) m
  | [], m, c => by simp [chainsF]
  | d :: r, m, c => by
    simp only [List.cons_append, chainsF, chainsF_append seed leaf r m (c + 1), List.append_assoc, List.length_cons]
    rw [show c + 1 + r.length = c + (r.length + 1) by omega]
theorem chainsF_snoc (seed : Nat → Int) (leaf : Int) (l : List Nat) (k : Nat) (d : Nat) (h : l[k]? = some d) : chainsF seed leaf 0 (l.take (k + 1)) = chainsF seed leaf 0 (l.take k) ++ rowL 32 (stepF (startF seed leaf (k : Int)) leaf (k : Int) 0 (d : Int)) := by
  have hlt : k < l.length := (List.getElem?_eq_some_iff.1 h).1
  rw [List.take_add_one, h, Option.toList_some, chainsF_append, List.length_take, Nat.min_eq_left (by omega), Nat.zero_add]
  simp [chainsF]
/-- what a signature's values make, brought on from their digits to the end -/
def endsF (leaf : Int) : Nat → List Nat → List Int → List Int
  | _, [], _ => []
  | c, d :: r, s => rowL 32 (stepF (fun i => (s.take 32).getD i 0) leaf (c : Int) (d : Int) 15) ++ endsF leaf (c + 1) r (s.drop 32)
theorem endsF_length (leaf : Int) : ∀ (l : List Nat) (c : Nat) (s : List Int), (endsF leaf c l s).length = 32 * l.length
  | [], _, _ => rfl
  | d :: r, c, s => by simp only [endsF, List.length_append, rowL_length, endsF_length leaf r (c + 1), List.length_cons]; omega
theorem endsF_append (leaf : Int) : ∀ (l m : List Nat) (c : Nat) (s : List Int), endsF leaf c (l ++ m) s = endsF leaf c l s ++ endsF leaf (c + l.length) m (s.drop (32 * l.length))
  | [], m, c, s => by simp [endsF]
  | d :: r, m, c, s => by
    simp only [List.cons_append, endsF, endsF_append leaf r m (c + 1), List.append_assoc, List.length_cons, List.drop_drop]
    rw [show c + 1 + r.length = c + (r.length + 1) by omega, show 32 + 32 * r.length = 32 * (r.length + 1) by omega]
theorem endsF_snoc (leaf : Int) (l : List Nat) (k : Nat) (d : Nat) (s : List Int) (h : l[k]? = some d) : endsF leaf 0 (l.take (k + 1)) s = endsF leaf 0 (l.take k) s ++ rowL 32 (stepF (fun i => ((s.drop (32 * k)).take 32).getD i 0) leaf (k : Int) (d : Int) 15) := by
  have hlt : k < l.length := (List.getElem?_eq_some_iff.1 h).1
  rw [List.take_add_one, h, Option.toList_some, endsF_append, List.length_take, Nat.min_eq_left (by omega), Nat.zero_add]
  simp [endsF]
theorem rowL_congr {n : Nat} {f g : Nat → Int} (h : ∀ i, i < n → f i = g i) : rowL n f = rowL n g := by
  unfold rowL
  exact List.map_congr_left fun i hi => h i (by simpa using hi)
theorem step1_congr {leaf chain : Int} {f g : Nat → Int} {p : Nat} (h : ∀ i, i < 32 → f i = g i) : step1 leaf chain f p = step1 leaf chain g p := by
  unfold step1; rw [rowL_congr h]
theorem stepN_congr {leaf chain : Int} {f g : Nat → Int} {p : Nat} (h : ∀ i, i < 32 → f i = g i) : ∀ n i, i < 32 → stepN leaf chain f p n i = stepN leaf chain g p n i
  | 0, i, hi => h i hi
  | n + 1, i, hi => by
    show step1 leaf chain (stepN leaf chain f p n) (p + n) i = step1 leaf chain (stepN leaf chain g p n) (p + n) i
    rw [step1_congr (stepN_congr h n)]
theorem stepF_congr {leaf chain a b : Int} {f g : Nat → Int} (h : ∀ i, i < 32 → f i = g i) : rowL 32 (stepF f leaf chain a b) = rowL 32 (stepF g leaf chain a b) :=
  rowL_congr (stepN_congr h _)
/-- a leaf's sum -/
def leafF (xs : List Int) : Nat → Int := sumF (0 :: xs)
def pubF (seed : Nat → Int) (leaf : Int) (n : Nat) : Nat → Int := leafF (chainsF seed leaf 0 (List.replicate (2 * n + 3) 15))
def fromF (s : List Int) (leaf : Int) (d : List Int) : Nat → Int := leafF (endsF leaf 0 (digF d) s)
end Go.Proofs.YtejglhlodfhgkaaGreatDoor
namespace Go.Proofs.YtejglhlodfhgkaaGreatDoor
set_option linter.unusedVariables false
set_option linter.unusedSimpArgs false
open Go.RowKit
set_option maxRecDepth 100000
theorem wlen_ok (n : Nat) (w : World) (h1 : 1 ≤ n) (h2 : n ≤ 32) : Calls Tryz.prog 235 #[.int .i64 (n : Int)] w fun e w' => e = .returned (.int .i64 (2 * (n : Int) + 3)) ∧ w = w' := by
  go_enter Tryz.func235, Tryz.ntmps235
  go_wp2
  go_ret
  exact ⟨rfl, rfl⟩
theorem wlen_no (n : Int) (w : World) (h : n < 1 ∨ 32 < n) : Calls Tryz.prog 235 #[.int .i64 n] w fun e w' => e = .returned (.int .i64 0) ∧ w = w' := by
  rcases h with h | h
  · go_enter Tryz.func235, Tryz.ntmps235
    go_wp2
    go_ret
    exact ⟨rfl, rfl⟩
  · have h' : ¬ n < 1 := by omega
    go_enter Tryz.func235, Tryz.ntmps235
    go_wp2
    go_ret
    exact ⟨rfl, rfl⟩
theorem wleaf_ok (n : Int) (w : World) (h1 : 0 ≤ n) (h2 : n < 1024) : Calls Tryz.prog 236 #[.int .i64 n] w fun e w' => e = .returned (.bool true) ∧ w = w' := by
  have e1 : decide (n < 1024) = true := by simpa using h2
  go_enter Tryz.func236, Tryz.ntmps236
  go_wp2
  go_ret
  exact ⟨by simp, rfl⟩
theorem wleaf_no (n : Int) (w : World) (h : n < 0 ∨ 1024 ≤ n) : Calls Tryz.prog 236 #[.int .i64 n] w fun e w' => e = .returned (.bool false) ∧ w = w' := by
  rcases h with h | h
  · have e1 : decide (0 ≤ n) = false := by simpa using h
    go_enter Tryz.func236, Tryz.ntmps236
    go_wp2
    go_ret
    exact ⟨by simp, rfl⟩
  · have e1 : decide (n < 1024) = false := by simpa using h
    have e2 : 0 ≤ n := by omega
    go_enter Tryz.func236, Tryz.ntmps236
    go_wp2
    go_ret
    exact ⟨by simp, rfl⟩
theorem and15 (n : Nat) (h : n < 1024) : bits .and .i64 (n : Int) 15 = ((n % 16 : Nat) : Int) := by
  have : ∀ b : Fin 1024, bits .and .i64 (b.val : Int) 15 = ((b.val % 16 : Nat) : Int) := by decide +kernel
  exact this ⟨n, h⟩
theorem wup_any (n : Nat) (w : World) (h : n < 1024) : Calls Tryz.prog 254 #[.int .i64 (n : Int)] w fun e w' => e = .returned (.int .i64 ((n / 16 : Nat) : Int)) ∧ w = w' := by
  go_enter Tryz.func254, Tryz.ntmps254
  go_wp2
  go_ret
  exact ⟨by simp, rfl⟩
theorem wlow_any (n : Nat) (w : World) (h : n < 1024) : Calls Tryz.prog 255 #[.int .i64 (n : Int)] w fun e w' => e = .returned (.int .i64 ((n % 16 : Nat) : Int)) ∧ w = w' := by
  have hb := and15 n h
  go_enter Tryz.func255, Tryz.ntmps255
  go_wp2
  go_ret
  exact ⟨by simp, rfl⟩
end Go.Proofs.YtejglhlodfhgkaaGreatDoor
namespace Go.Proofs.YtejglhlodfhgkaaGreatDoor
set_option linter.unusedVariables false
set_option linter.unusedSimpArgs false
open Go.RowKit
set_option maxRecDepth 100000
theorem RowAt.range {w : World} {g n : Nat} {k : IntKind} {t : TypeId} {f : Nat → Int} (h : RowAt w g k n t f) : w.rangeAt g 0 (rowOf k n f).toList := fun j v hv => by
  rw [Nat.zero_add, cell_of_row w g j _ t _ h]
  simpa using hv
theorem row_yields {ops : Array Oper} {S : World → Prop} {op : Oper} {a : Act} (hw : Region.wanted op (yielded ops a.tmps) = true) (ty : TypeId) (x : Operand) (ho : op.op = .load ty x)
    (b : Nat) (hx : a.eval x = .pointer (some ⟨b, 0, none⟩)) (k : IntKind) (n : Nat) (f : Nat → Int) (d : TypeDesc) (hS : ∀ w, S w → RowAt w b k n ty f)
    (hu : Tryz.prog.underlying ty = some d) (hd : d.isRow = true) (hi : (Tryz.prog.info? ty).map (·.size) = some n) : YieldsIf Tryz.prog ops S op (.agg (rowOf k n f)) a := by
  have h := yieldsIf_load_mid (P := Tryz.prog) (S := S) hw ty x ho b 0 hx (rowOf k n f).toList d (fun w h => (hS w h).range) hu hd (by rw [hi]; simp [rowOf])
  simpa using h
theorem row_yields_mid {ops : Array Oper} {S : World → Prop} {op : Oper} {a : Act} (hw : Region.wanted op (yielded ops a.tmps) = true) (ty : TypeId) (x : Operand) (ho : op.op = .load ty x)
    (b o : Nat) (hx : a.eval x = .pointer (some ⟨b, o, none⟩)) (k : IntKind) (n : Nat) (f : Nat → Int) (d : TypeDesc) (hS : ∀ w, S w → w.rangeAt b o (rowOf k n f).toList)
    (hu : Tryz.prog.underlying ty = some d) (hd : d.isRow = true) (hi : (Tryz.prog.info? ty).map (·.size) = some n) : YieldsIf Tryz.prog ops S op (.agg (rowOf k n f)) a := by
  have h := yieldsIf_load_mid (P := Tryz.prog) (S := S) hw ty x ho b o hx (rowOf k n f).toList d hS hu hd (by rw [hi]; simp [rowOf])
  simpa using h
end Go.Proofs.YtejglhlodfhgkaaGreatDoor
namespace Go.Proofs.YtejglhlodfhgkaaGreatDoor
set_option linter.unusedVariables false
set_option linter.unusedSimpArgs false
open Go.RowKit
set_option maxRecDepth 100000
/-- behind a call of a Writer that was made above the mark B -/
theorem wpost_on {p B : Nat} {v : Value} {xs ys : List Int} {w0 w w' : World} {e : Ending} (h : WPost p v xs ys w e w') (hw : WAt w p v xs) (hb : Below B w0 w) (hB : B ≤ p) :
    e = .returned (.pointer (some ⟨p, 0, none⟩)) ∧ ∃ v', WAt w' p v' (xs ++ ys) ∧ Below B w0 w' := by
  obtain ⟨he, v', h1, h2⟩ := h
  exact ⟨he, v', h1, hb.trans (h2.below hw hB)⟩
theorem wuint_on (p B : Nat) (v : Value) (xs : List Int) (n : Nat) (w0 w : World) (hw : WAt w p v xs) (hb : Below B w0 w) (hB : B ≤ p) (hn : n < 18446744073709551616) (hl : xs.length + 10 ≤ 140737488355328) :
    Calls Tryz.prog 119 #[.pointer (some ⟨p, 0, none⟩), .int .u64 (n : Int)] w fun e w' => e = .returned (.pointer (some ⟨p, 0, none⟩)) ∧ ∃ v', WAt w' p v' (xs ++ varint n) ∧ Below B w0 w' :=
  (wuint_any p v xs n w hw hn hl).mono fun _ _ h => wpost_on h hw hb hB
theorem wuint_lit (p B : Nat) (v : Value) (xs : List Int) (n : Nat) (m : Int) (hm : m = (n : Int)) (w0 w : World) (hw : WAt w p v xs) (hb : Below B w0 w) (hB : B ≤ p) (hn : n < 18446744073709551616) (hl : xs.length + 10 ≤ 140737488355328) :
    Calls Tryz.prog 119 #[.pointer (some ⟨p, 0, none⟩), .int .u64 m] w fun e w' => e = .returned (.pointer (some ⟨p, 0, none⟩)) ∧ ∃ v', WAt w' p v' (xs ++ varint n) ∧ Below B w0 w' := by
  subst hm; exact wuint_on p B v xs n w0 w hw hb hB hn hl
theorem whash_on (p B : Nat) (v : Value) (xs : List Int) (f : Nat → Int) (w0 w : World) (hw : WAt w p v xs) (hb : Below B w0 w) (hB : B ≤ p) (hl : xs.length + 32 ≤ 140737488355328) :
    Calls Tryz.prog 176 #[.pointer (some ⟨p, 0, none⟩), .agg (rowOf .u8 32 f)] w fun e w' => e = .returned (.pointer (some ⟨p, 0, none⟩)) ∧ ∃ v', WAt w' p v' (xs ++ rowL 32 f) ∧ Below B w0 w' :=
  (whash_any p v xs f w hw hl).mono fun _ _ h => wpost_on h hw hb hB
theorem wdone_on (p B : Nat) (v : Value) (xs : List Int) (w0 w : World) (hw : WAt w p v xs) (hb : Below B w0 w) (hB : B ≤ p) (hl : xs.length ≤ 140737488355328) :
    Calls Tryz.prog 54 #[.pointer (some ⟨p, 0, none⟩)] w fun e w' => ∃ v', e = .returned v' ∧ BytesIn w' v' xs ∧ Below B w0 w' :=
  (done_any p v xs w hw hl).mono fun _ _ ⟨v', he, ho, hb'⟩ => ⟨v', he, owns_in ho (by unfold maxLen; omega), hb.trans (hb'.mono (by have := hw.lt; omega))⟩
theorem shSum_on (B : Nat) (v : Value) (xs : List Int) (w0 w : World) (hx : BytesIn w v xs) (hb : Below B w0 w) (hB : B ≤ w.heap.size) (he : Env w) :
    Calls Tryz.prog 74 #[v] w fun e w' => e = .returned (.agg (rowOf .u8 32 (sumF xs))) ∧ Below B w0 w' :=
  (shSum_any v xs w hx he).mono fun _ _ ⟨h1, h2⟩ => ⟨h1, hb.trans (h2.mono hB)⟩
theorem new_on (w : World) : Calls Tryz.prog 51 #[] w fun e w' => e = .returned (.pointer (some ⟨w.heap.size, 0, none⟩)) ∧ WAt w' w.heap.size (.slice none 0 0) [] ∧ Below w.heap.size w w' := new_any w
theorem vlen (n : Nat) (h : n < 18446744073709551616) : (varint n).length ≤ 10 := by rw [varint_length]; exact glen_le h
/-- what lies in memory while a chain's value is made: the value v in block b, the result's zeros in block r, all above the mark m -/
structure HaveM (w w' : World) (b r B : Nat) (v : Nat → Int) : Prop where
  below : Below w.heap.size w w'
  val : RowAt w' b .u8 32 53 v
  res : RowAt w' r .u8 32 53 (fun _ => 0)
  env : Env w'
  size : B ≤ w'.heap.size
  lo : 3 < B
  hb : b < B
  hr : r < B
theorem HaveM.calls {w w' w2 : World} {b r B : Nat} {v : Nat → Int} (m : HaveM w w' b r B v) (hw : w.heap.size ≤ B) (h : Below B w' w2) : HaveM w w2 b r B v :=
  ⟨m.below.trans (h.mono hw), m.val.below h m.hb, m.res.below h m.hr, m.env.below h m.lo, Nat.le_trans m.size h.size, m.lo, m.hb, m.hr⟩
theorem HaveM.put {w w' : World} {b r B : Nat} {v : Nat → Int} (m : HaveM w w' b r B v) (h : w.heap.size ≤ b ∧ b ≠ r ∧ 3 < b) (v' : Nat → Int) : HaveM w (w'.setRow b (rowOf .u8 32 v')) b r B v' :=
  ⟨below_setRow m.below h.1 _, setRow_heap _ _ _ _ _ _ m.val, (setRow_other _ _ _ _ (Ne.symm h.2.1)).trans m.res, m.env.below (B := b) (below_setRow (Below.refl _ _) (Nat.le_refl _) _) h.2.2, by simpa [World.setRow] using m.size, m.lo, m.hb, m.hr⟩
set_option maxHeartbeats 1000000 in
theorem wstep_any (v : Nat → Int) (leaf chain from_ to_ : Int) (w : World) (he : Env w) :
    Calls Tryz.prog 238 #[.agg (rowOf .u8 32 v), .int .i64 leaf, .int .i64 chain, .int .i64 from_, .int .i64 to_] w fun e w' => e = .returned (.agg (rowOf .u8 32 (stepF v leaf chain from_ to_))) ∧ Below w.heap.size w w' := by
  have HE := Lib.hid he
  clear he
  have HU1 := Lib.hid (uN_wrap leaf)
  have HU2 := Lib.hid (uN_wrap chain)
  have HL1 := Lib.hid (uN_lt leaf)
  have HL2 := Lib.hid (uN_lt chain)
  have HG1 := Lib.hid (vlen _ (uN_lt leaf))
  have HG2 := Lib.hid (vlen _ (uN_lt chain))
  have HG0 := Lib.hid (vlen 3 (by decide))
  have HGL := Lib.hid HE.out.lt
  obtain ⟨a, ha⟩ : ∃ a : Nat, max from_ 0 = (a : Int) := ⟨(max from_ 0).toNat, by omega⟩
  obtain ⟨b, hb⟩ : ∃ b : Int, min to_ 15 = b := ⟨_, rfl⟩
  have HF := Lib.hid (show stepF v leaf chain from_ to_ = stepN leaf chain v a (b.toNat - a) by unfold stepF; rw [ha, hb]; rfl)
  have HA := Lib.hid ha
  have HB15 := Lib.hid (show b ≤ 15 by omega)
  have HBM := Lib.hid hb
  clear ha hb
  go_enter Tryz.func238, Tryz.ntmps238
  go_wp2_with (refine wpList_max2 rfl (.tmp 12) (.const (.int .i64 0)) 3 rfl from_ 0 rfl rfl (a : Int) HA.out ?_)
  rw [zeros32]
  have HB := Lib.hid ((below_alloc w (.cells (rowOf .u8 32 v) 53)).trans ((below_alloc _ (.cells (rowOf .u8 32 (fun _ => 0)) 53)).mono (by simp)))
  have M : Hid (HaveM w ((w.alloc (.cells (rowOf .u8 32 v) 53)).alloc (.cells (rowOf .u8 32 (fun _ => 0)) 53)) w.heap.size (w.heap.size + 1) (w.heap.size + 1 + 1) (stepN leaf chain v a 0)) := Lib.hid ⟨HB.out, (RowAt.new w .u8 32 53 v).alloc _, by
    have := RowAt.new (w.alloc (.cells (rowOf .u8 32 v) 53)) .u8 32 53 (fun _ => 0)
    rw [shSize_alloc] at this; exact this, HE.out.below HB.out HE.out.lt, by simp, by have := HE.out.lt; omega, by omega, by omega⟩
  clear HB HE
  generalize (w.alloc (.cells (rowOf .u8 32 v) 53)).alloc (.cells (rowOf .u8 32 (fun _ => 0)) 53) = w1 at *
  go_loopw [11] (fun p wr => ∃ q k : Nat, k ≤ b.toNat - a ∧ q = a + k ∧ p = .int .i64 (q : Int) ∧ Hid (HaveM w wr w.heap.size (w.heap.size + 1) (w.heap.size + 1 + 1) (stepN leaf chain v a k))) (fun p _ => (15 - intOf p).toNat)
  case atStart => exact ⟨a, 0, Nat.zero_le _, rfl, rfl, M⟩
  case round =>
    clear M w1
    obtain ⟨q, k, hk, hq, rfl, M⟩ := hrel
    by_cases hlt : (q : Int) < b
    · have hq15 : q < 15 := by have := HB15.out; omega
      have HQ := Lib.hid (show IntKind.u64.wrap (q : Int) = (q : Int) from IntWalk.u64_in _ (by omega))
      have HQL := Lib.hid (show q < 18446744073709551616 by omega)
      have HGQ := Lib.hid (vlen q (by omega))
      have HK := Lib.hid (show k + 1 ≤ b.toNat - a by omega)
      replace hq := Lib.hid hq
      go_upto_region 4 with (refine wpList_min2 rfl (.tmp 15) (.const (.int .i64 15)) 3 rfl to_ 15 rfl rfl b HBM.out ?_)
      refine wp_region_T (fun w' => RowAt w' w.heap.size .u8 32 53 (stepN leaf chain v a k)) [0, 1, 4, 7, 10] (by kernel_rfl) ?_
      replace M := Lib.hid (show HaveM w wr.drew w.heap.size (w.heap.size + 1) (w.heap.size + 1 + 1) (stepN leaf chain v a k) from M.out.calls (by omega) ((Below.refl _ _).drew))
      generalize wr.drew = w2 at *
      clear wr
      refine anyT_takeY (i := 2) (v := .int .i64 leaf) rfl (by kernel_rfl) (by kernel_rfl) (by kernel_rfl) (fun _ _ _ h => h) (by kernel_rfl) (Or.inl ⟨by rfl, by intro w; go_simp⟩) ?_
      try simp only [List.getElem_toArray, List.getElem_cons_succ, List.getElem_cons_zero, Act.put, List.setIfInBounds_toArray, List.set_cons_zero, List.set_cons_succ]
      refine anyT_takeY (i := 3) (v := .int .u64 (IntKind.u64.wrap leaf)) rfl (by kernel_rfl) (by kernel_rfl) (by kernel_rfl) (fun _ _ _ h => h) (by kernel_rfl) (Or.inl ⟨by rfl, by intro w; go_simp⟩) ?_
      try simp only [List.getElem_toArray, List.getElem_cons_succ, List.getElem_cons_zero, Act.put, List.setIfInBounds_toArray, List.set_cons_zero, List.set_cons_succ]
      refine anyT_takeY (i := 5) (v := .int .i64 chain) rfl (by kernel_rfl) (by kernel_rfl) (by kernel_rfl) (fun _ _ _ h => h) (by kernel_rfl) (Or.inl ⟨by rfl, by intro w; go_simp⟩) ?_
      try simp only [List.getElem_toArray, List.getElem_cons_succ, List.getElem_cons_zero, Act.put, List.setIfInBounds_toArray, List.set_cons_zero, List.set_cons_succ]
      refine anyT_takeY (i := 6) (v := .int .u64 (IntKind.u64.wrap chain)) rfl (by kernel_rfl) (by kernel_rfl) (by kernel_rfl) (fun _ _ _ h => h) (by kernel_rfl) (Or.inl ⟨by rfl, by intro w; go_simp⟩) ?_
      try simp only [List.getElem_toArray, List.getElem_cons_succ, List.getElem_cons_zero, Act.put, List.setIfInBounds_toArray, List.set_cons_zero, List.set_cons_succ]
      refine anyT_takeY (i := 8) (v := .int .i64 (q : Int)) rfl (by kernel_rfl) (by kernel_rfl) (by kernel_rfl) (fun _ _ _ h => h) (by kernel_rfl) (Or.inl ⟨by rfl, by intro w; go_simp⟩) ?_
      try simp only [List.getElem_toArray, List.getElem_cons_succ, List.getElem_cons_zero, Act.put, List.setIfInBounds_toArray, List.set_cons_zero, List.set_cons_succ]
      refine anyT_takeY (i := 9) (v := .int .u64 (IntKind.u64.wrap (q : Int))) rfl (by kernel_rfl) (by kernel_rfl) (by kernel_rfl) (fun _ _ _ h => h) (by kernel_rfl) (Or.inl ⟨by rfl, by intro w; go_simp⟩) ?_
      try simp only [List.getElem_toArray, List.getElem_cons_succ, List.getElem_cons_zero, Act.put, List.setIfInBounds_toArray, List.set_cons_zero, List.set_cons_succ]
      rw [HU1.out, HU2.out, HQ.out]
      refine anyT_take [12, 13, 14, 15] (i := 11) (v := .agg (rowOf .u8 32 (stepN leaf chain v a k))) rfl (by kernel_rfl) (by kernel_rfl) (by kernel_rfl) (fun _ _ _ h => h) (by kernel_rfl) (row_yields (by rfl) 53 (.tmp 5) rfl w.heap.size rfl .u8 32 _ _ (fun _ h => h) Tryz.underlying53 rfl (by kernel_rfl)) M.out.val ?_
      try simp only [List.getElem_toArray, List.getElem_cons_succ, List.getElem_cons_zero, Act.put, List.setIfInBounds_toArray, List.set_cons_zero, List.set_cons_succ]
      refine anyT_one (i := 0) (by kernel_rfl) rfl (fun K hK => ?_)
      rw [if_pos (by rfl)]
      try simp only [List.getElem_toArray, List.getElem_cons_succ, List.getElem_cons_zero]
      (go_simp; refine (new_on _).mono ?_; rintro e w3 ⟨rfl, HW, HB2⟩; have HP := Lib.hid M.out.size; replace M := Lib.hid (M.out.calls (by omega) (HB2.mono HP.out)); replace HW := Lib.hid HW; clear HB2)
      refine hK _ _ (fun _ => M.out.val) ?_
      clear hK K
      try simp only [List.getElem_toArray, List.getElem_cons_succ, List.getElem_cons_zero, Act.put, List.setIfInBounds_toArray, List.set_cons_zero, List.set_cons_succ]
      generalize w2.heap.size = p at *
      clear w2
      refine anyT_one (i := 1) (by kernel_rfl) rfl (fun K hK => ?_)
      rw [if_pos (by rfl)]
      try simp only [List.getElem_toArray, List.getElem_cons_succ, List.getElem_cons_zero]
      (go_simp; refine (wuint_lit p (w.heap.size + 1 + 1) _ _ 3 3 rfl _ _ HW.out (Below.refl _ _) HP.out (by decide) (by simp)).mono ?_; rintro e w4 ⟨rfl, v4, hw4, HB4⟩; replace M := Lib.hid (M.out.calls (by omega) HB4); replace HW := Lib.hid hw4; clear hw4 HB4 w3)
      refine hK _ _ (fun _ => M.out.val) ?_
      clear hK K
      try simp only [List.getElem_toArray, List.getElem_cons_succ, List.getElem_cons_zero, Act.put, List.setIfInBounds_toArray, List.set_cons_zero, List.set_cons_succ]
      refine anyT_one (i := 4) (by kernel_rfl) rfl (fun K hK => ?_)
      rw [if_pos (by rfl)]
      try simp only [List.getElem_toArray, List.getElem_cons_succ, List.getElem_cons_zero]
      (go_simp; refine (wuint_on p (w.heap.size + 1 + 1) _ _ (uN leaf) _ _ HW.out (Below.refl _ _) HP.out HL1.out (by have := HG0.out; simp only [List.length_append, List.length_nil]; omega)).mono ?_; rintro e w6 ⟨rfl, v6, hw6, HB6⟩; replace M := Lib.hid (M.out.calls (by omega) HB6); replace HW := Lib.hid hw6; clear hw6 HB6 w4)
      refine hK _ _ (fun _ => M.out.val) ?_
      clear hK K
      try simp only [List.getElem_toArray, List.getElem_cons_succ, List.getElem_cons_zero, Act.put, List.setIfInBounds_toArray, List.set_cons_zero, List.set_cons_succ]
      refine anyT_one (i := 7) (by kernel_rfl) rfl (fun K hK => ?_)
      rw [if_pos (by rfl)]
      try simp only [List.getElem_toArray, List.getElem_cons_succ, List.getElem_cons_zero]
      (go_simp; refine (wuint_on p (w.heap.size + 1 + 1) _ _ (uN chain) _ _ HW.out (Below.refl _ _) HP.out HL2.out (by have := HG0.out; have := HG1.out; simp only [List.length_append, List.length_nil]; omega)).mono ?_; rintro e w7 ⟨rfl, v7, hw7, HB7⟩; replace M := Lib.hid (M.out.calls (by omega) HB7); replace HW := Lib.hid hw7; clear hw7 HB7 w6)
      refine hK _ _ (fun _ => M.out.val) ?_
      clear hK K
      try simp only [List.getElem_toArray, List.getElem_cons_succ, List.getElem_cons_zero, Act.put, List.setIfInBounds_toArray, List.set_cons_zero, List.set_cons_succ]
      refine anyT_one (i := 10) (by kernel_rfl) rfl (fun K hK => ?_)
      rw [if_pos (by rfl)]
      try simp only [List.getElem_toArray, List.getElem_cons_succ, List.getElem_cons_zero]
      (go_simp; refine (wuint_on p (w.heap.size + 1 + 1) _ _ q _ _ HW.out (Below.refl _ _) HP.out HQL.out (by have := HG0.out; have := HG1.out; have := HG2.out; simp only [List.length_append, List.length_nil]; omega)).mono ?_; rintro e w5 ⟨rfl, v5, hw5, HB5⟩; replace M := Lib.hid (M.out.calls (by omega) HB5); replace HW := Lib.hid hw5; clear hw5 HB5 w7)
      refine hK _ _ (fun _ => M.out.val) ?_
      clear hK K
      try simp only [List.getElem_toArray, List.getElem_cons_succ, List.getElem_cons_zero, Act.put, List.setIfInBounds_toArray, List.set_cons_zero, List.set_cons_succ]
      refine anyT_one (i := 12) (by kernel_rfl) rfl (fun K hK => ?_)
      rw [if_pos (by rfl)]
      try simp only [List.getElem_toArray, List.getElem_cons_succ, List.getElem_cons_zero]
      (go_simp; refine (whash_on p (w.heap.size + 1 + 1) _ _ (stepN leaf chain v a k) _ _ HW.out (Below.refl _ _) HP.out (by have := HG0.out; have := HG1.out; have := HG2.out; have := HGQ.out; simp only [List.length_append, List.length_nil]; omega)).mono ?_; rintro e w8 ⟨rfl, v8, hw8, HB8⟩; replace M := Lib.hid (M.out.calls (by omega) HB8); replace HW := Lib.hid hw8; clear hw8 HB8 w5)
      refine hK _ _ (not_mem rfl) ?_
      clear hK K
      try simp only [List.getElem_toArray, List.getElem_cons_succ, List.getElem_cons_zero, Act.put, List.setIfInBounds_toArray, List.set_cons_zero, List.set_cons_succ]
      refine anyT_one (i := 13) (by kernel_rfl) rfl (fun K hK => ?_)
      rw [if_pos (by rfl)]
      try simp only [List.getElem_toArray, List.getElem_cons_succ, List.getElem_cons_zero]
      (go_simp; refine (wdone_on p (w.heap.size + 1 + 1) _ _ _ _ HW.out (Below.refl _ _) HP.out (by have := HG0.out; have := HG1.out; have := HG2.out; have := HGQ.out; have := rowL32 (stepN leaf chain v a k); simp only [List.length_append, List.length_nil]; omega)).mono ?_; rintro e w9 ⟨v9, rfl, hw9, HB9⟩; replace M := Lib.hid (M.out.calls (by omega) HB9); have HX := Lib.hid hw9; clear hw9 HB9 HW w8)
      refine hK _ _ (not_mem rfl) ?_
      clear hK K
      try simp only [List.getElem_toArray, List.getElem_cons_succ, List.getElem_cons_zero, Act.put, List.setIfInBounds_toArray, List.set_cons_zero, List.set_cons_succ]
      refine anyT_one (i := 14) (by kernel_rfl) rfl (fun K hK => ?_)
      rw [if_pos (by rfl)]
      try simp only [List.getElem_toArray, List.getElem_cons_succ, List.getElem_cons_zero]
      (go_simp; refine (shSum_on (w.heap.size + 1 + 1) _ _ _ _ HX.out (Below.refl _ _) M.out.size M.out.env).mono ?_; rintro e w10 ⟨rfl, HB10⟩; replace M := Lib.hid (M.out.calls (by omega) HB10); clear HB10 HX w9)
      refine hK _ _ (not_mem rfl) ?_
      clear hK K
      try simp only [List.getElem_toArray, List.getElem_cons_succ, List.getElem_cons_zero, Act.put, List.setIfInBounds_toArray, List.set_cons_zero, List.set_cons_succ]
      rw [show sumF ([] ++ varint 3 ++ varint (uN leaf) ++ varint (uN chain) ++ varint q ++ rowL 32 (stepN leaf chain v a k)) = stepN leaf chain v a (k + 1) from by rw [List.nil_append, hq.out]; rfl]
      refine anyT_one (i := 15) (by kernel_rfl) rfl (fun K hK => ?_)
      rw [if_pos (by rfl)]
      try simp only [List.getElem_toArray, List.getElem_cons_succ, List.getElem_cons_zero]
      (refine wp_store_row 53 (.tmp 5) (.tmp 34) rfl w.heap.size _ rfl rfl 53 _ M.out.val (by rw [rowOf_size]; kernel_rfl) (by rw [rowOf_size, rowOf_size]) (rowOf_one _ _ _) ?_)
      refine hK _ _ (not_mem rfl) ?_
      clear hK K
      try simp only [List.getElem_toArray, List.getElem_cons_succ, List.getElem_cons_zero, Act.put, List.setIfInBounds_toArray, List.set_cons_zero, List.set_cons_succ]
      refine anyT_done (by kernel_rfl) ?_ _
      replace M := Lib.hid (M.out.put ⟨Nat.le_refl _, by omega, HGL.out⟩ (stepN leaf chain v a (k + 1)))
      generalize w10.setRow w.heap.size (rowOf .u8 32 (stepN leaf chain v a (k + 1))) = w11 at *
      go_wp2_with (fail)
      go_roundw
      case rel => exact ⟨q + 1, k + 1, HK.out, by rw [hq.out]; omega, by go_num, M⟩
      case measure => simp [intOf]; omega
    · have HK := Lib.hid (show k = b.toNat - a by omega)
      replace hq := Lib.hid hq
      go_wp2_with (first
        | (refine wpList_min2 rfl (.tmp 15) (.const (.int .i64 15)) 3 rfl to_ 15 rfl rfl b HBM.out ?_)
        | (refine wpList_load_row rfl 53 (.tmp 5) rfl w.heap.size rfl 53 _ (0, 0) _ M.out.val Tryz.underlying53 rfl (by rw [rowOf_size]; kernel_rfl) ?_)
        | (refine wpList_store_row rfl 53 (.tmp 10) (.tmp 35) rfl (w.heap.size + 1) _ rfl rfl 53 _ M.out.res (by rw [rowOf_size]; kernel_rfl) (by rw [rowOf_size, rowOf_size]) (rowOf_one _ _ _) ?_))
      refine bodyPost_ret (results_cell_row rfl _ _ (w.heap.size + 1) 53 (rowOf .u8 32 (stepN leaf chain v a k)) (0, 0) _ rfl (setRow_heap _ _ _ _ _ _ M.out.res) Tryz.underlying53 rfl (by rw [rowOf_size]; kernel_rfl)) rfl ?_
      exact ⟨by rw [HF.out, ← HK.out], below_setRow M.out.below (by omega) _⟩
#print axioms wstep_any
end Go.Proofs.YtejglhlodfhgkaaGreatDoor
namespace Go.Proofs.YtejglhlodfhgkaaGreatDoor
set_option linter.unusedVariables false
set_option linter.unusedSimpArgs false
open Go.RowKit
set_option maxRecDepth 100000
def natInts (l : List Nat) : List Int := l.map fun d : Nat => (d : Int)
theorem natInts_length (l : List Nat) : (natInts l).length = l.length := by simp [natInts]
theorem natInts_append (a b : List Nat) : natInts (a ++ b) = natInts a ++ natInts b := by simp [natInts]
theorem digs_snoc (xs : List Int) (k : Nat) (x : Int) (h : xs[k]? = some x) : digs (xs.take (k + 1)) = digs (xs.take k) ++ [x.toNat / 16, x.toNat % 16] := by
  rw [List.take_add_one, h, Option.toList_some, digs_append]
  rfl
theorem lacks_snoc (l : List Nat) (k d : Nat) (h : l[k]? = some d) : lacks (l.take (k + 1)) = lacks (l.take k) + (15 - d) := by
  rw [List.take_add_one, h, Option.toList_some, lacks_append]
  simp [lacks]
theorem wkept_below {w w' : World} {B n : Nat} {e : TypeId} {v : Value} {vs : List Value} (h : w.ownsRow B e 1 v n vs) (hb : Below w.heap.size w w') : w'.ownsRow B e 1 v n vs := by
  refine h.kept (row := none) ⟨hb.os, hb.tape, hb.output, hb.size, fun k hk _ => hb.block k hk⟩ ?_
  cases v.ownBlock <;> simp
structure DigM (w wr : World) (v : Value) (xs : List Int) (v' : Value) (l : List Nat) : Prop where
  arg : BytesIn wr v xs
  row : wr.ownsRow w.heap.size 3 1 v' (natInts l).length (intVals (natInts l))
  below : Below w.heap.size w wr
theorem DigM.grow {w wr w2 w3 : World} {v v' v2 : Value} {xs : List Int} {l m : List Nat} (h : DigM w wr v xs v' l) (hb : Below wr.heap.size wr w2) (hg : w2.grownBy w3 v'.ownBlock)
    (ho : w3.ownsRow w.heap.size 3 1 v2 (natInts l ++ natInts m).length (intVals (natInts l ++ natInts m))) (hx : BytesIn w v xs) : DigM w w3 v xs v2 (l ++ m) := by
  have h1 := (h.below.trans (hb.mono h.below.size)).grown hg (Nat.le_trans h.below.size hb.size) (fun k hk => (h.row.lt k hk).1)
  exact ⟨hx.below h1, by rw [natInts_append]; exact ho, h1⟩
set_option maxHeartbeats 2000000 in
theorem wdigits_ok (v : Value) (xs : List Int) (w : World) (hx : BytesIn w v xs) (hb : bytesOk xs) (h1 : 1 ≤ xs.length) (h2 : xs.length ≤ 32) :
    Calls Tryz.prog 237 #[v] w fun e w' => ∃ v', e = .returned v' ∧ w'.ownsRow w.heap.size 3 1 v' (natInts (digF xs)).length (intVals (natInts (digF xs))) ∧ Below w.heap.size w w' := by
  have HX := Lib.hid hx
  have HB := Lib.hid hb
  have HL := Lib.hid (And.intro h1 h2)
  have hxx := hx
  obtain ⟨a, cap, rfl, hc, hm, hcell⟩ := hx
  rcases hcell with rfl | ⟨ab, ao, rfl, hcell⟩
  · simp at h1
  have HCE := Lib.hid hcell
  obtain ⟨n, hn⟩ : ∃ n, n = xs.length := ⟨_, rfl⟩
  rw [← hn] at HX hxx h1 h2 hc hm HL ⊢
  have HN := Lib.hid hn
  clear hcell hb hxx hc hm hn
  obtain ⟨iI, hI, hI0, hI1, hI2⟩ := info_parts infoInt
  have HI := Lib.hid (And.intro hI (And.intro hI0 (And.intro hI1 hI2)))
  clear hI hI0 hI1 hI2
  have hln : (2 * (n : Int) + 3) = ((2 * n + 3 : Nat) : Int) := by omega
  have HLN := Lib.hid hln
  clear hln
  have hn0 : ¬ (2 * (n : Int) + 3 = 0) := by omega
  go_enter Tryz.func237, Tryz.ntmps237
  go_wp2_with (first
    | (go_at_call 235; (with_reducible refine (wlen_ok n _ HL.out.1 HL.out.2).mono ?_); rintro e w' ⟨rfl, rfl⟩)
    | (refine wpList_make_own w rfl (.const (.int .i64 0)) (.tmp 15) 109 rfl w.heap.size 3 iI (.int .i64 0) 1 Tryz.underlying109 HI.out.1 HI.out.2.1 HI.out.2.2.1 .i64 .i64 _ (2 * n + 3) rfl rfl HLN.out (by rw [HI.out.2.2.2]; have := HL.out; omega) (by unfold maxLen; have := HL.out; omega) (Nat.le_refl _) ?_; intro w1 ho hg; have M : Hid (DigM w w1 (.slice (some ⟨ab, ao, none⟩) n cap) xs (.slice (some ⟨w.heap.size, 0, none⟩) 0 (2 * n + 3)) []) := Lib.hid ⟨HX.out.below ((Below.refl _ _).grown hg (Nat.le_refl _) (fun k hk => by cases hk)), ho, (Below.refl _ _).grown hg (Nat.le_refl _) (fun k hk => by cases hk)⟩; clear ho hg))
  go_loopw [3, 19] (fun s i wr => ∃ k : Nat, k ≤ n ∧ i = .int .i64 (k : Int) ∧ Hid (DigM w wr (.slice (some ⟨ab, ao, none⟩) n cap) xs s (digs (xs.take k)))) (fun _ i _ => n - (intOf i).toNat)
  case atStart => exact ⟨0, Nat.zero_le _, rfl, M⟩
  case round =>
    clear M w1
    obtain ⟨k, hk, rfl, M⟩ := hrel
    by_cases hlt : k < n
    · obtain ⟨x, hx⟩ : ∃ x, xs[k]? = some x := ⟨_, List.getElem?_eq_getElem (by rw [← HN.out]; exact hlt)⟩
      have hxb := HB.out x (List.mem_of_getElem? hx)
      obtain ⟨m, rfl⟩ : ∃ m : Nat, x = (m : Int) := ⟨x.toNat, by omega⟩
      have hm : m < 1024 := by omega
      have HD := Lib.hid (digs_snoc xs k _ hx)
      have c0 := M.out.below.cell (p := ⟨ab, ao + k, none⟩) (World.block_lt_of_cell? w _ (HCE.out k _ hx))
      rw [HCE.out k _ hx] at c0
      replace hx := Lib.hid hx
      have HA := Lib.hid (below_alloc wr (.cells (intVals (natInts [m / 16, m % 16])).toArray 3))
      have HY := Lib.hid (lits_in wr (natInts [m / 16, m % 16]) (by simp [natInts, maxLen]))
      have HLN2 := Lib.hid (show (natInts (digs (xs.take k))).length ≤ 64 by rw [natInts_length, digs_length, List.length_take]; have := HL.out; omega)
      go_wp2_with (first
        | (go_at_call 254; (with_reducible refine (wup_any m _ (by omega)).mono ?_); rintro e w' ⟨rfl, rfl⟩)
        | (go_at_call 255; (with_reducible refine (wlow_any m _ (by omega)).mono ?_); rintro e w' ⟨rfl, rfl⟩)
        | (at_builtin; refine wpList_append_ints rfl (.tmp 23) (.tmp 30) rfl rfl w.heap.size _ _ rfl (wkept_below M.out.row HA.out) _ (natInts [m / 16, m % 16]) rfl HY.out (by simp [natInts]) (by rw [natInts_length [m / 16, m % 16]]; have := HLN2.out; simp; omega) (Nat.le_trans M.out.below.size HA.out.size) ?_; intro v2 w3 ho hg; have M2 := Lib.hid (M.out.grow HA.out hg ho HX.out); clear ho hg))
      go_roundw
      case rel => exact ⟨k + 1, by omega, by go_num, by rw [HD.out]; exact M2⟩
      case measure => simp [intOf]; omega
    · have hkn : k = n := by omega
      obtain ⟨s, rfl⟩ : ∃ s, s = u3 := ⟨_, rfl⟩
      have HD := Lib.hid (show xs.take k = xs by rw [hkn, HN.out, List.take_length])
      rw [HD.out] at M
      replace hkn := Lib.hid hkn
      clear HD
      obtain ⟨L, hL⟩ : ∃ L, L = digs xs := ⟨_, rfl⟩
      have HLL := Lib.hid (show L.length = 2 * n by rw [hL, digs_length, HN.out])
      have HLE := Lib.hid (show ∀ d ∈ L, d ≤ 15 by rw [hL]; exact digs_le HB.out)
      have HLS := Lib.hid (show lacks L ≤ 960 by rw [hL]; exact lacks_bound (by have := HL.out; have := HN.out; omega))
      have HDF := Lib.hid (show digF xs = L ++ [lacks L / 256, lacks L / 16 % 16, lacks L % 16] by rw [hL]; rfl)
      rw [← hL] at M
      replace hL := Lib.hid hL
      have hi := owns_ints M.out.row (by rw [natInts_length]; unfold maxLen; have := HLL.out; have := HL.out; omega)
      obtain ⟨a2, cap2, rfl, hc2, hm2, hcell⟩ := hi
      rcases hcell with h0 | ⟨gb, go, rfl, hcell⟩
      · exfalso; have h3 := natInts_length L; rw [h0] at h3; have := HLL.out; simp at h3; omega
      have HC2 := Lib.hid hcell
      obtain ⟨N, hN⟩ : ∃ N, N = (natInts L).length := ⟨_, rfl⟩
      have HN2 := Lib.hid (show N = L.length by rw [hN, natInts_length])
      rw [← hN] at M hc2 hm2 ⊢
      have HN3 := Lib.hid hN
      clear hcell hN hc2 hm2
      have hN64 : N ≤ 64 := by have := HN2.out; have := HLL.out; have := HL.out; omega
      go_wp2_with (fail)
      go_loop [6, 35] (fun s i => ∃ k : Nat, k ≤ N ∧ i = .int .i64 (k : Int) ∧ s = .int .i64 ((lacks (L.take k) : Nat) : Int)) (fun _ i => N - (intOf i).toNat)
      case atStart => exact ⟨0, Nat.zero_le _, rfl, rfl⟩
      case round =>
        clear hk hlt
        obtain ⟨k2, hk2, rfl, rfl⟩ := hrel
        by_cases hlt2 : k2 < N
        · obtain ⟨d, hd⟩ : ∃ d, L[k2]? = some d := ⟨_, List.getElem?_eq_getElem (by rw [← HN2.out]; exact hlt2)⟩
          have hd15 := HLE.out d (List.mem_of_getElem? hd)
          have HS := Lib.hid (lacks_snoc L k2 d hd)
          have hb2 : lacks (L.take k2) ≤ 960 := by
            have := lacks_le (L.take k2)
            rw [List.length_take] at this
            omega
          have c0 := HC2.out k2 (d : Int) (by simp [natInts, hd])
          replace hd := Lib.hid hd
          obtain ⟨S, hS⟩ : ∃ S, S = lacks (L.take k2) := ⟨_, rfl⟩
          rw [← hS] at HS hb2 ⊢
          replace hS := Lib.hid hS
          go_wp2_with (fail)
          go_round
          case rel => exact ⟨k2 + 1, by omega, by go_num, by rw [HS.out]; congr 1; omega⟩
          case measure => simp [intOf]; omega
        · have HE := Lib.hid (show L.take k2 = L by rw [show k2 = L.length by have := HN2.out; omega, List.take_length])
          rw [HE.out]
          clear HE
          obtain ⟨S, hS⟩ : ∃ S, S = lacks L := ⟨_, rfl⟩
          rw [← hS] at HLS HDF ⊢
          replace hS := Lib.hid hS
          have hs9 := HLS.out
          have hs1 : S < 1024 := by omega
          have hs2 : S / 16 < 1024 := by omega
          have HA := Lib.hid (below_alloc wr (.cells (intVals (natInts [S / 256, S / 16 % 16, S % 16])).toArray 3))
          have HY := Lib.hid (lits_in wr (natInts [S / 256, S / 16 % 16, S % 16]) (by simp [natInts, maxLen]))
          have H256 := Lib.hid (show S / 16 / 16 = S / 256 by omega)
          clear hs9
          go_wp2_with (first
            | (go_at_call 254; (with_reducible refine (wup_any S _ hs1).mono ?_); rintro e w' ⟨rfl, rfl⟩)
            | (go_at_call 254; (refine (wup_any (S / 16) _ hs2).mono ?_); rintro e w' ⟨rfl, rfl⟩; rw [H256.out])
            | (go_at_call 255; (with_reducible refine (wlow_any S _ hs1).mono ?_); rintro e w' ⟨rfl, rfl⟩)
            | (go_at_call 255; (refine (wlow_any (S / 16) _ hs2).mono ?_); rintro e w' ⟨rfl, rfl⟩)
            | (at_builtin; refine wpList_append_ints rfl (.tmp 44) (.tmp 53) rfl rfl w.heap.size _ (natInts L) rfl (wkept_below (HN3.out ▸ M.out.row) HA.out) _ (natInts [S / 256, S / 16 % 16, S % 16]) rfl HY.out (by simp [natInts]) (by rw [natInts_length, natInts_length]; have := HN2.out; simp; omega) (Nat.le_trans M.out.below.size HA.out.size) ?_; intro v2 w3 ho hg; have M2 := Lib.hid (M.out.grow HA.out hg ho HX.out); clear ho hg))
          go_ret
          refine ⟨_, rfl, ?_, M2.out.below⟩
          rw [HDF.out]
          exact M2.out.row
end Go.Proofs.YtejglhlodfhgkaaGreatDoor
namespace Go.Proofs.YtejglhlodfhgkaaGreatDoor
set_option linter.unusedVariables false
set_option linter.unusedSimpArgs false
open Go.RowKit
set_option maxRecDepth 100000
structure LeafM (w w' : World) (g : Nat) (h : HS) : Prop where
  re : RowAt w' w.heap.size .u8 32 53 (fun _ => 0)
  hash : HashAt w' g h.s h.b h.n
  gg : w.heap.size < g
  bounds : 0 ≤ h.n ∧ h.n < 18446744073709551616
  below : Below w.heap.size w w'
  env : Env w'
theorem LeafM.wrote {w w' w2 : World} {g : Nat} {h : HS} (m : LeafM w w' g h) {xs : List Int} (hh : HashAt w2 g (putF h xs).s (putF h xs).b (putF h xs).n) (ho : Only g w' w2) (hc : 3 < w.heap.size) : LeafM w w2 g (putF h xs) :=
  ⟨(ho.block _ m.re.lt (by have := m.gg; omega)).trans m.re, hh, m.gg, putF_bounds h m.bounds.1 m.bounds.2 xs, m.below.trans (ho.below (by have := m.gg; omega) m.below.size), ho.env m.env (by have := m.gg; omega)⟩
theorem LeafM.calls {w w' w2 : World} {g : Nat} {h : HS} (m : LeafM w w' g h) (hb : Below w'.heap.size w' w2) : LeafM w w2 g h :=
  ⟨m.re.below hb m.re.lt, m.hash.below hb m.hash.lt, m.gg, m.bounds, m.below.trans (hb.mono m.below.size), m.env.below hb m.env.lt⟩
theorem leaf_start (w : World) (he : Env w) : LeafM w ((w.alloc (.cells (rowOf .u8 32 (fun _ => 0)) 53)).alloc (.cells (hashCells BT (fun _ => 0) 0) 282)) (w.heap.size + 1) h0 := by
  have hb : Below w.heap.size w ((w.alloc (.cells (rowOf .u8 32 (fun _ => 0)) 53)).alloc (.cells (hashCells BT (fun _ => 0) 0) 282)) := (below_alloc w _).trans ((below_alloc _ _).mono (by simp))
  refine ⟨(RowAt.new w _ _ _ _).alloc _, ?_, by omega, by decide, hb, he.below hb he.lt⟩
  have := heap_alloc_new (w.alloc (.cells (rowOf .u8 32 (fun _ => 0)) 53)) (.cells (hashCells BT (fun _ => 0) 0) 282)
  rw [shSize_alloc] at this; exact this
theorem oneAt (w : World) (g : Nat) (hg : g < w.heap.size) (x : Int) : BytesAt (w.alloc (.cells #[.int .u8 x] 5)) g (.slice (some ⟨w.heap.size, 0, none⟩) 1 1) [x] := by
  refine ⟨_, _, rfl, by simp, by simp [maxLen], .inr ⟨_, _, rfl, by omega, fun i y hi => ?_⟩⟩
  rw [Nat.zero_add, cell_of_row _ _ _ _ _ _ (heap_alloc_new w _)]
  match i, hi with
  | 0, hi => cases hi; rfl
theorem BytesAt.below' {w w' : World} {g : Nat} {v : Value} {xs : List Int} (h : BytesAt w g v xs) (hb : Below w.heap.size w w') : BytesAt w' g v xs := by
  obtain ⟨a, cap, rfl, hc, hm, hx⟩ := h
  refine ⟨a, cap, rfl, hc, hm, ?_⟩
  rcases hx with hx | ⟨ab, ao, rfl, hne, hx⟩
  · exact .inl hx
  · exact .inr ⟨ab, ao, rfl, hne, fun i y hi => (hb.cell (p := ⟨ab, ao + i, none⟩) (World.block_lt_of_cell? w _ (hx i y hi))).trans (hx i y hi)⟩
set_option maxHeartbeats 400000 in
theorem leaf_any (v : Value) (xs : List Int) (w : World) (hx : BytesIn w v xs) (he : Env w) :
    Calls Tryz.prog 239 #[v] w fun e w' => e = .returned (.agg (rowOf .u8 32 (sumF (0 :: xs)))) ∧ Below w.heap.size w w' := by
  have M := Lib.hid (leaf_start w he)
  have HE := Lib.hid (he.below (below_alloc w (.cells (rowOf .u8 32 (fun _ => 0)) 53)) he.lt)
  have HC := Lib.hid he.lt
  have HX := Lib.hid (hx.at (g := w.heap.size + 1) M.out.below (Nat.le_refl _) (by omega))
  clear he hx
  go_enter Tryz.func239, Tryz.ntmps239
  go_upto_region 1 with (fail)
  rw [zeros32]
  go_upto_region 2 with (go_at_call 141; (with_reducible refine (shNew_any _ HE.out).mono ?_); rintro e w' ⟨rfl, rfl⟩)
  generalize (w.alloc (.cells (rowOf .u8 32 (fun _ => 0)) 53)).alloc (.cells (hashCells BT (fun _ => 0) 0) 282) = w1 at *
  obtain ⟨g, hg⟩ : ∃ g, g = w.heap.size + 1 := ⟨_, rfl⟩
  rw [← hg] at M HX ⊢
  replace hg := Lib.hid hg
  clear HE
  have M1 := Lib.hid (M.out.calls (below_alloc w1 (.cells #[.int .u8 0] 5)))
  have HO1 := Lib.hid (oneAt w1 g M.out.hash.lt 0)
  have HX1 := Lib.hid (HX.out.below' (below_alloc w1 (.cells #[.int .u8 0] 5)))
  have HG := Lib.hid (show 3 < g from by have := HC.out; have := hg.out; omega)
  go_upto_region 3 with (go_at_call 142; (with_reducible refine (shWrite_any g _ _ _ [0] _ _ M1.out.hash M1.out.bounds.1 M1.out.bounds.2 HO1.out M1.out.env HG.out).mono ?_); rintro e w2 ⟨rfl, HH, HO⟩; replace HH := Lib.hid HH; replace HO := Lib.hid HO)
  have M2 := Lib.hid (M1.out.wrote HH.out HO.out HC.out)
  have HX2 := Lib.hid (HX1.out.only HO.out)
  clear M M1 HX HX1 HH HO HO1
  go_upto_region 4 with (go_at_call 142; (with_reducible refine (shWrite_any g _ _ _ xs v _ M2.out.hash M2.out.bounds.1 M2.out.bounds.2 HX2.out M2.out.env HG.out).mono ?_); rintro e w3 ⟨rfl, HH, HO⟩; replace HH := Lib.hid HH; replace HO := Lib.hid HO)
  have M3 := Lib.hid (M2.out.wrote HH.out HO.out HC.out)
  clear M2 HX2 HH HO
  go_wp2_with (first
    | (go_at_call 143; (with_reducible refine (sumM_any g _ _ _ _ M3.out.hash M3.out.bounds.1 M3.out.bounds.2 M3.out.env.consts).mono ?_); rintro e w5 ⟨rfl, HB5⟩; replace M3 := Lib.hid (M3.out.calls HB5); clear HB5)
    | (refine wpList_store_row rfl 53 (.tmp 2) (.tmp 12) rfl w.heap.size _ rfl rfl 53 _ M3.out.re (by rw [rowOf_size]; kernel_rfl) (by rw [rowOf_size, rowOf_size]) (rowOf_one _ _ _) ?_))
  refine bodyPost_ret (results_cell_row rfl _ _ w.heap.size 53 _ (0, 0) _ rfl (setRow_heap _ _ _ _ _ _ M3.out.re) Tryz.underlying53 rfl (by rw [rowOf_size]; kernel_rfl)) rfl ?_
  exact ⟨by rfl, below_setRow M3.out.below (by omega) _⟩
end Go.Proofs.YtejglhlodfhgkaaGreatDoor
namespace Go.Proofs.YtejglhlodfhgkaaGreatDoor
set_option linter.unusedVariables false
set_option linter.unusedSimpArgs false
open Go.RowKit
set_option maxRecDepth 100000
/-- rows of 32 bytes in memory, below the mark B; above it what calls make -/
structure HasR (w w' : World) (B : Nat) (rows : List (Nat × (Nat → Int))) : Prop where
  below : Below w.heap.size w w'
  row : ∀ p ∈ rows, RowAt w' p.1 .u8 32 53 p.2 ∧ p.1 < B
  env : Env w'
  size : B ≤ w'.heap.size
  lo : 3 < B
  wB : w.heap.size ≤ B
theorem HasR.calls {w w' w2 : World} {B : Nat} {rows : List (Nat × (Nat → Int))} (m : HasR w w' B rows) (h : Below B w' w2) : HasR w w2 B rows :=
  ⟨m.below.trans (h.mono m.wB), fun p hp => ⟨(m.row p hp).1.below h (m.row p hp).2, (m.row p hp).2⟩, m.env.below h m.lo, Nat.le_trans m.size h.size, m.lo, m.wB⟩
theorem HasR.call {w w' w2 : World} {B : Nat} {rows : List (Nat × (Nat → Int))} (m : HasR w w' B rows) (h : Below w'.heap.size w' w2) : HasR w w2 B rows := m.calls (h.mono m.size)
theorem HasR.grown {w w' w2 : World} {B n : Nat} {v : Value} {vs : List Value} {rows : List (Nat × (Nat → Int))} (m : HasR w w' B rows) (hg : w'.grownBy w2 v.ownBlock) (ho : w'.ownsRow B 5 1 v n vs) : HasR w w2 B rows :=
  m.calls ((Below.refl _ _).grown hg m.size (fun k hk => (ho.lt k hk).1))
theorem HasR.at0 {w w' : World} {B : Nat} {p : Nat × (Nat → Int)} {rows : List (Nat × (Nat → Int))} (m : HasR w w' B (p :: rows)) : RowAt w' p.1 .u8 32 53 p.2 := (m.row p (by simp)).1
def zF : Nat → Int := fun _ => 0
theorem zeros32' : (#[Value.int IntKind.u8 0, Value.int IntKind.u8 0, Value.int IntKind.u8 0, Value.int IntKind.u8 0, Value.int IntKind.u8 0, Value.int IntKind.u8 0, Value.int IntKind.u8 0, Value.int IntKind.u8 0, Value.int IntKind.u8 0, Value.int IntKind.u8 0, Value.int IntKind.u8 0, Value.int IntKind.u8 0, Value.int IntKind.u8 0, Value.int IntKind.u8 0, Value.int IntKind.u8 0, Value.int IntKind.u8 0, Value.int IntKind.u8 0, Value.int IntKind.u8 0, Value.int IntKind.u8 0, Value.int IntKind.u8 0, Value.int IntKind.u8 0, Value.int IntKind.u8 0, Value.int IntKind.u8 0, Value.int IntKind.u8 0, Value.int IntKind.u8 0, Value.int IntKind.u8 0, Value.int IntKind.u8 0, Value.int IntKind.u8 0, Value.int IntKind.u8 0, Value.int IntKind.u8 0, Value.int IntKind.u8 0, Value.int IntKind.u8 0] : Array Value) = rowOf .u8 32 zF := by rfl
theorem hasR1 (w : World) (f : Nat → Int) (he : Env w) : HasR w (w.alloc (.cells (rowOf .u8 32 f) 53)) (w.heap.size + 1) [(w.heap.size, f)] := by
  refine ⟨below_alloc w _, fun p hp => ?_, he.below (below_alloc w _) he.lt, by simp, by have := he.lt; omega, by omega⟩
  simp only [List.mem_cons, List.not_mem_nil, or_false] at hp
  subst hp
  exact ⟨RowAt.new w _ _ _ _, by simp⟩
def noV : Value := .tuple #[.agg (rowOf .u8 32 zF), errV (some 1)]
def okV (f : Nat → Int) : Value := .tuple #[.agg (rowOf .u8 32 f), errV none]
theorem rep_get (n k : Nat) (h : k < n) : (List.replicate n 15)[k]? = some 15 := by simp [h]
end Go.Proofs.YtejglhlodfhgkaaGreatDoor
namespace Go.Proofs.YtejglhlodfhgkaaGreatDoor
set_option linter.unusedVariables false
set_option linter.unusedSimpArgs false
open Go.RowKit
def bytesOf (h : Nat → Int) : List Int := (List.range 32).map h
/-- the hash of a node -/
def nodeF (a b : Nat → Int) : Nat → Int := sumF (1 :: (bytesOf a ++ bytesOf b))
/-- how many leaves stand in the first part -/
def splitF (n : Nat) : Nat := 2 ^ (Lib.bitLen (n - 1) - 1)
theorem splitF_spec (n : Nat) (h : 2 ≤ n) (hn : n < 18446744073709551616) : 1 ≤ splitF n ∧ splitF n < n ∧ n ≤ 2 * splitF n ∧ 1 ≤ Lib.bitLen (n - 1) ∧ Lib.bitLen (n - 1) ≤ 64 := by
  have hb := Lib.bitLenAux_bounds 64 (n - 1) (by omega) (by omega)
  have h64 : Lib.bitLenAux 64 (n - 1) ≤ 64 := Lib.bitLenAux_le 64 (n - 1) 64 (by omega)
  unfold splitF Lib.bitLen
  obtain ⟨e, he⟩ : ∃ e, Lib.bitLenAux 64 (n - 1) = e + 1 := ⟨Lib.bitLenAux 64 (n - 1) - 1, by omega⟩
  rw [he] at hb h64 ⊢
  simp only [Nat.add_sub_cancel] at hb ⊢
  have hp : 1 ≤ 2 ^ e := Nat.one_le_two_pow
  have hs : 2 ^ (e + 1) = 2 * 2 ^ e := by rw [Nat.pow_succ, Nat.mul_comm]
  omega
def rootF (l : List (Nat → Int)) : Nat → Int :=
  if l.length = 1 then l.getD 0 (fun _ => 0)
  else if _h : 1 ≤ splitF l.length ∧ splitF l.length < l.length then nodeF (rootF (l.take (splitF l.length))) (rootF (l.drop (splitF l.length)))
  else sumF []
termination_by l.length
decreasing_by
  · rw [List.length_take]; omega
  · rw [List.length_drop]; omega
def pathF (l : List (Nat → Int)) (i : Nat) : List (Nat → Int) :=
  if _h : 1 ≤ splitF l.length ∧ splitF l.length < l.length then
    if i < splitF l.length then pathF (l.take (splitF l.length)) i ++ [rootF (l.drop (splitF l.length))] else pathF (l.drop (splitF l.length)) (i - splitF l.length) ++ [rootF (l.take (splitF l.length))]
  else []
termination_by l.length
decreasing_by
  · rw [List.length_take]; omega
  · rw [List.length_drop]; omega
def turnsF (i n : Nat) : List Bool :=
  if _h : 1 ≤ splitF n ∧ splitF n < n then
    if i < splitF n then false :: turnsF i (splitF n) else true :: turnsF (i - splitF n) (n - splitF n)
  else []
termination_by n
decreasing_by
  · omega
  · omega
theorem splitF_one : splitF 1 = 1 := by decide
theorem rootF_nil : rootF [] = sumF [] := by
  rw [rootF, if_neg (by simp), dif_neg (by simp)]
theorem rootF_one (l : List (Nat → Int)) (h : l.length = 1) : rootF l = l.getD 0 (fun _ => 0) := by rw [rootF, if_pos h]
theorem rootF_step (l : List (Nat → Int)) (h : 2 ≤ l.length) (hs : 1 ≤ splitF l.length ∧ splitF l.length < l.length) :
    rootF l = nodeF (rootF (l.take (splitF l.length))) (rootF (l.drop (splitF l.length))) := by rw [rootF, if_neg (by omega), dif_pos hs]
theorem pathF_one (l : List (Nat → Int)) (h : l.length = 1) (i : Nat) : pathF l i = [] := by
  rw [pathF, dif_neg]
  rw [h, splitF_one]; omega
theorem pathF_lo (l : List (Nat → Int)) (hs : 1 ≤ splitF l.length ∧ splitF l.length < l.length) (i : Nat) (h : i < splitF l.length) : pathF l i = pathF (l.take (splitF l.length)) i ++ [rootF (l.drop (splitF l.length))] := by
  rw [pathF, dif_pos hs, if_pos h]
theorem pathF_hi (l : List (Nat → Int)) (hs : 1 ≤ splitF l.length ∧ splitF l.length < l.length) (i : Nat) (h : ¬ i < splitF l.length) : pathF l i = pathF (l.drop (splitF l.length)) (i - splitF l.length) ++ [rootF (l.take (splitF l.length))] := by
  rw [pathF, dif_pos hs, if_neg h]
theorem turnsF_one (i : Nat) : turnsF i 1 = [] := by rw [turnsF, dif_neg]; rw [splitF_one]; omega
theorem turnsF_lo (i n : Nat) (hs : 1 ≤ splitF n ∧ splitF n < n) (h : i < splitF n) : turnsF i n = false :: turnsF i (splitF n) := by rw [turnsF, dif_pos hs, if_pos h]
theorem turnsF_hi (i n : Nat) (hs : 1 ≤ splitF n ∧ splitF n < n) (h : ¬ i < splitF n) : turnsF i n = true :: turnsF (i - splitF n) (n - splitF n) := by rw [turnsF, dif_pos hs, if_neg h]
def foldStep (s : Nat → Int) (x : Bool × (Nat → Int)) : Nat → Int := if x.1 then nodeF x.2 s else nodeF s x.2
def foldT (s : Nat → Int) (l : List (Bool × (Nat → Int))) : Nat → Int := l.foldl foldStep s
theorem path_turns : ∀ (n : Nat) (l : List (Nat → Int)) (i : Nat), l.length = n → n < 18446744073709551616 → i < n → (pathF l i).length = (turnsF i n).length := by
  intro n
  induction n using Nat.strongRecOn with
  | _ n ih =>
    intro l i hl hn hi
    by_cases h1 : n = 1
    · subst h1; rw [pathF_one l hl, turnsF_one]; rfl
    · have hs := splitF_spec n (by omega) hn
      have hs2 : 1 ≤ splitF l.length ∧ splitF l.length < l.length := by rw [hl]; exact ⟨hs.1, hs.2.1⟩
      by_cases hlt : i < splitF n
      · rw [pathF_lo l hs2 i (by rw [hl]; exact hlt), turnsF_lo i n ⟨hs.1, hs.2.1⟩ hlt, List.length_append, List.length_cons, hl, ih (splitF n) hs.2.1 _ i (by rw [List.length_take]; omega) (by omega) hlt]
        rfl
      · rw [pathF_hi l hs2 i (by rw [hl]; exact hlt), turnsF_hi i n ⟨hs.1, hs.2.1⟩ hlt, List.length_append, List.length_cons, hl, ih (n - splitF n) (by omega) _ (i - splitF n) (by rw [List.length_drop]; omega) (by omega) (by omega)]
        rfl
theorem path_depth : ∀ (m : Nat) (l : List (Nat → Int)) (i : Nat), l.length ≤ 2 ^ m → l.length < 18446744073709551616 → i < l.length → (pathF l i).length ≤ m := by
  intro m
  induction m with
  | zero =>
    intro l i hl _ hi
    rw [pathF_one l (by omega)]; simp
  | succ m ih =>
    intro l i hl hn hi
    by_cases h1 : l.length = 1
    · rw [pathF_one l h1]; simp
    · have hs := splitF_spec l.length (by omega) hn
      have hk : splitF l.length ≤ 2 ^ m := by
        have h2 : splitF l.length < 2 ^ (m + 1) := by omega
        unfold splitF at h2 ⊢
        have h3 := (Nat.pow_lt_pow_iff_right (a := 2) (by omega)).1 h2
        exact Nat.pow_le_pow_right (by omega) (by omega)
      by_cases hlt : i < splitF l.length
      · have hlk : (l.take (splitF l.length)).length = splitF l.length := by rw [List.length_take]; omega
        rw [pathF_lo l ⟨hs.1, hs.2.1⟩ i hlt, List.length_append]
        have := ih (l.take (splitF l.length)) i (by omega) (by omega) (by omega)
        simp only [List.length_cons, List.length_nil]; omega
      · have hlk : (l.drop (splitF l.length)).length = l.length - splitF l.length := by rw [List.length_drop]
        rw [pathF_hi l ⟨hs.1, hs.2.1⟩ i hlt, List.length_append]
        have := ih (l.drop (splitF l.length)) (i - splitF l.length) (by omega) (by omega) (by omega)
        simp only [List.length_cons, List.length_nil]; omega
end Go.Proofs.YtejglhlodfhgkaaGreatDoor
namespace Go.Proofs
set_option linter.unusedVariables false
set_option linter.unusedSimpArgs false
open Go.Shelf
def Tryz.lays125_ren : Go.Shelf.Ren := ⟨fun | 125 => 261 | 128 => 263 | 129 => 264 | n => n, fun | 3 => 3 | 4 => 4 | 5 => 5 | 9 => 9 | 46 => 93 | 51 => 215 | 53 => 183 | n => n, fun | n => n⟩
theorem Tryz.lays125 : Go.Proofs.Lays.n125 Tryz.prog Tryz.lays125_ren := {
  mixed := by kernel_rfl
  f125 := Tryz.func261.trans (congrArg some (by kernel_rfl))
  f128 := Tryz.func263.trans (congrArg some (by kernel_rfl))
  f129 := Tryz.func264.trans (congrArg some (by kernel_rfl))
  t3 := Tryz.underlying3
  a3 := Tryz.isAgg3
  z3 := Tryz.sizeOf3
  v3 := Tryz.zeroValue3
  t4 := Tryz.underlying4
  a4 := Tryz.isAgg4
  z4 := Tryz.sizeOf4
  v4 := Tryz.zeroValue4
  t5 := Tryz.underlying5
  a5 := Tryz.isAgg5
  z5 := Tryz.sizeOf5
  v5 := Tryz.zeroValue5
  t9 := Tryz.underlying9
  a9 := Tryz.isAgg9
  z9 := Tryz.sizeOf9
  v9 := Tryz.zeroValue9
  t46 := Tryz.underlying93
  a46 := Tryz.isAgg93
  z46 := Tryz.sizeOf93
  v46 := Tryz.zeroValue93
  t51 := Tryz.underlying215
  a51 := Tryz.isAgg215
  z51 := Tryz.sizeOf215
  v51 := Tryz.zeroValue215
  t53 := Tryz.underlying183
  a53 := Tryz.isAgg183
  z53 := Tryz.sizeOf183
  v53 := Tryz.zeroValue183 }
theorem Tryz.bits_Len (x : Int) (w : World) (h0 : 0 ≤ x) (h1 : x ≤ 18446744073709551615) :
    Calls Tryz.prog 261 #[.int .u64 x] w fun e w' => e = .returned (.int .i64 (Lib.bitLen x.toNat)) ∧ w' = w := Any.bits_Len Tryz.lays125 x w h0 h1
end Go.Proofs
