/- Part 2 of the proof. -/
import Derived.Sort.Walk0
import Derived.Test.YtabflppnecemkaaGreatDoorPb1
namespace Go.Proofs.YtabflppnecemkaaGreatDoor
set_option linter.unusedVariables false
set_option linter.unusedSimpArgs false
open Go.RowKit
/-- the order of keys -/
def bl (a b : ByteArray) : Bool := Op.bytesLess a.toList b.toList
theorem bl_lt (a b : ByteArray) : bl a b = true ↔ a.toList < b.toList := by
  unfold bl; rw [bytesLess_eq]; simp
theorem bl_irrefl (a : ByteArray) : bl a a = false := by
  rw [Bool.eq_false_iff]; intro h; exact List.lt_irrefl _ ((bl_lt _ _).1 h)
theorem bl_trans {a b c : ByteArray} (h : bl a b = true) (k : bl b c = true) : bl a c = true :=
  (bl_lt _ _).2 (List.lt_trans ((bl_lt _ _).1 h) ((bl_lt _ _).1 k))
theorem ba_eq {a b : ByteArray} (h : a.toList = b.toList) : a = b := by
  rw [ByteArray.toList_eq, ByteArray.toList_eq] at h
  cases a; cases b; congr; exact Array.toList_inj.1 h
theorem bl_total {a b : ByteArray} (h : bl a b = false) (k : bl b a = false) : a = b := by
  refine ba_eq (List.le_antisymm ?_ ?_)
  · rw [← List.not_lt]; intro h'; rw [(bl_lt _ _).2 h'] at k; cases k
  · rw [← List.not_lt]; intro h'; rw [(bl_lt _ _).2 h'] at h; cases h
theorem bl_asymm {a b : ByteArray} (h : bl a b = true) : bl b a = false := by
  rw [Bool.eq_false_iff]; intro k
  have := bl_trans h k; rw [bl_irrefl] at this; cases this
theorem bl_ne {a b : ByteArray} (h : bl a b = true) : a ≠ b := fun e => by subst e; rw [bl_irrefl] at h; cases h
/-- not less, and less: less -/
theorem bl_le_lt {a b c : ByteArray} (h : bl b a = false) (k : bl b c = true) : bl a c = true := by
  cases e : bl a b with
  | true => exact bl_trans e k
  | false => rw [bl_total e h]; exact k
theorem bl_lt_le {a b c : ByteArray} (h : bl a b = true) (k : bl c b = false) : bl a c = true := by
  cases e : bl b c with
  | true => exact bl_trans h e
  | false => rw [← bl_total e k]; exact h
theorem beqL (a b : ByteArray) : (a.toList == b.toList) = decide (a = b) := by
  rw [Bool.eq_iff_iff]
  simp only [beq_iff_eq, decide_eq_true_eq]
  exact ⟨ba_eq, fun h => by rw [h]⟩
def eBA : ByteArray := { data := #[] }
abbrev KV := ByteArray × ByteArray
/-- a tree that has keys -/
inductive AvT where
  | leaf (k v : ByteArray)
  | node (a b : AvT)
namespace AvT
def least : AvT → ByteArray
  | leaf k _ => k
  | node a _ => a.least
def value : AvT → ByteArray
  | leaf _ v => v
  | node _ _ => eBA
def many : AvT → Nat
  | leaf _ _ => 1
  | node a b => a.many + b.many
def height : AvT → Nat
  | leaf _ _ => 1
  | node a b => 1 + max a.height b.height
def pairs : AvT → List KV
  | leaf k v => [(k, v)]
  | node a b => a.pairs ++ b.pairs
def bal : AvT → Prop
  | leaf _ _ => True
  | node a b => a.bal ∧ b.bal ∧ a.height ≤ b.height + 1 ∧ b.height ≤ a.height + 1
end AvT
def fromFirst (x y s : AvT) : AvT :=
  if x.height < y.height then
    match y with
    | .node p q => .node (.node x p) (.node q s)
    | .leaf _ _ => .node x (.node y s)
  else .node x (.node y s)
def fromSecond (f x y : AvT) : AvT :=
  if y.height < x.height then
    match x with
    | .node p q => .node (.node f p) (.node q y)
    | .leaf _ _ => .node (.node f x) y
  else .node (.node f x) y
def joinN (a b : AvT) : AvT :=
  if b.height + 1 < a.height then
    match a with
    | .node x y => fromFirst x y b
    | .leaf _ _ => .node a b
  else if a.height + 1 < b.height then
    match b with
    | .node x y => fromSecond a x y
    | .leaf _ _ => .node a b
  else .node a b
def joinO : Option AvT → Option AvT → Option AvT
  | none, s => s
  | some a, none => some a
  | some a, some b => some (joinN a b)
namespace AvT
def set (k v : ByteArray) : AvT → AvT
  | leaf k0 v0 => if k = k0 then leaf k v else if bl k k0 then node (leaf k v) (leaf k0 v0) else node (leaf k0 v0) (leaf k v)
  | node a b => if bl k b.least then joinN (a.set k v) b else joinN a (b.set k v)
def without (k : ByteArray) : AvT → Option AvT
  | leaf _ _ => none
  | node a b => if bl k b.least then joinO (a.without k) (some b) else joinO (some a) (b.without k)
def get (k : ByteArray) : AvT → Option ByteArray
  | leaf k0 v0 => if k0 = k then some v0 else none
  | node a b => if bl k b.least then a.get k else b.get k
def find (k : ByteArray) : AvT → Nat
  | leaf k0 _ => if bl k0 k then 1 else 0
  | node a b => if bl k b.least then a.find k else a.many + b.find k
def at? (i : Nat) : AvT → KV
  | leaf k v => (k, v)
  | node a b => if i < a.many then a.at? i else b.at? (i - a.many)
end AvT
def setO (t : Option AvT) (k v : ByteArray) : AvT := match t with
  | none => .leaf k v
  | some t => t.set k v
def getO (t : Option AvT) (k : ByteArray) : Option ByteArray := match t with
  | none => none
  | some t => t.get k
def dropO (t : Option AvT) (k : ByteArray) : Option AvT := match t with
  | none => none
  | some t => if (t.get k).isSome then t.without k else some t
def manyO (t : Option AvT) : Nat := match t with
  | none => 0
  | some t => t.many
def heightO (t : Option AvT) : Nat := match t with
  | none => 0
  | some t => t.height
def pairsO (t : Option AvT) : List KV := match t with
  | none => []
  | some t => t.pairs
def balO (t : Option AvT) : Prop := match t with
  | none => True
  | some t => t.bal
namespace AvT
theorem height_pos (t : AvT) : 1 ≤ t.height := by cases t <;> simp [height]
theorem many_pos : ∀ t : AvT, 1 ≤ t.many
  | leaf _ _ => by simp [many]
  | node a b => by have := many_pos a; simp [many]; omega
theorem height_le : ∀ t : AvT, t.height ≤ t.many
  | leaf _ _ => by simp [many, height]
  | node a b => by
    have := height_le a; have := height_le b; have := many_pos a; have := many_pos b
    simp only [many, height]; omega
theorem many_eq : ∀ t : AvT, t.pairs.length = t.many
  | leaf _ _ => rfl
  | node a b => by simp only [pairs, many, List.length_append, many_eq a, many_eq b]
theorem pairs_head : ∀ t : AvT, ∃ v l, t.pairs = (t.least, v) :: l
  | leaf k v => ⟨v, [], rfl⟩
  | node a b => by
    obtain ⟨v, l, h⟩ := pairs_head a
    exact ⟨v, l ++ b.pairs, by simp only [pairs, least, h]; rfl⟩
theorem many_one {t : AvT} (h : t.many = 1) : ∃ k v, t = leaf k v := by
  cases t with
  | leaf k v => exact ⟨k, v, rfl⟩
  | node a b => have := many_pos a; have := many_pos b; simp only [many] at h; omega
end AvT
theorem fromFirst_spec (x y s : AvT) (hx : x.bal) (hy : y.bal) (hs : s.bal) (h1 : x.height ≤ y.height + 1) (h2 : y.height ≤ x.height + 1) (h3 : 1 + max x.height y.height = s.height + 2) :
    (fromFirst x y s).bal ∧ s.height + 2 ≤ (fromFirst x y s).height ∧ (fromFirst x y s).height ≤ s.height + 3 := by
  unfold fromFirst
  split
  · rename_i h
    cases y with
    | leaf k v => have := x.height_pos; have := s.height_pos; simp only [AvT.height] at h h1 h2 h3; omega
    | node p q =>
      obtain ⟨b1, b2, b3, b4⟩ := hy
      simp only [AvT.bal, AvT.height] at h h1 h2 h3 ⊢
      refine ⟨⟨⟨hx, b1, ?_, ?_⟩, ⟨b2, hs, ?_, ?_⟩, ?_, ?_⟩, ?_, ?_⟩ <;> omega
  · rename_i h
    simp only [AvT.bal, AvT.height] at h h1 h2 h3 ⊢
    refine ⟨⟨hx, ⟨hy, hs, ?_, ?_⟩, ?_, ?_⟩, ?_, ?_⟩ <;> omega
theorem fromSecond_spec (f x y : AvT) (hf : f.bal) (hx : x.bal) (hy : y.bal) (h1 : x.height ≤ y.height + 1) (h2 : y.height ≤ x.height + 1) (h3 : 1 + max x.height y.height = f.height + 2) :
    (fromSecond f x y).bal ∧ f.height + 2 ≤ (fromSecond f x y).height ∧ (fromSecond f x y).height ≤ f.height + 3 := by
  unfold fromSecond
  split
  · rename_i h
    cases x with
    | leaf k v => have := y.height_pos; simp only [AvT.height] at h h1 h2 h3; omega
    | node p q =>
      obtain ⟨b1, b2, b3, b4⟩ := hx
      simp only [AvT.bal, AvT.height] at h h1 h2 h3 ⊢
      refine ⟨⟨⟨hf, b1, ?_, ?_⟩, ⟨b2, hy, ?_, ?_⟩, ?_, ?_⟩, ?_, ?_⟩ <;> omega
  · rename_i h
    simp only [AvT.bal, AvT.height] at h h1 h2 h3 ⊢
    refine ⟨⟨⟨hf, hx, ?_, ?_⟩, hy, ?_, ?_⟩, ?_, ?_⟩ <;> omega
/-- what becomes of two balanced parts whose heights differ by two at most -/
theorem joinN_spec (a b : AvT) (ha : a.bal) (hb : b.bal) (h1 : a.height ≤ b.height + 2) (h2 : b.height ≤ a.height + 2) :
    (joinN a b).bal ∧ (b.height + 1 < a.height → a.height ≤ (joinN a b).height ∧ (joinN a b).height ≤ a.height + 1) ∧ (a.height + 1 < b.height → b.height ≤ (joinN a b).height ∧ (joinN a b).height ≤ b.height + 1) ∧
    (¬ b.height + 1 < a.height → ¬ a.height + 1 < b.height → (joinN a b).height = 1 + max a.height b.height) := by
  unfold joinN
  split
  · rename_i h
    cases a with
    | leaf k v => simp only [AvT.height] at h; have := b.height_pos; omega
    | node x y =>
      obtain ⟨b1, b2, b3, b4⟩ := ha
      have e : 1 + max x.height y.height = b.height + 2 := by simp only [AvT.height] at h h1; omega
      obtain ⟨c1, c2, c3⟩ := fromFirst_spec x y b b1 b2 hb b3 b4 e
      refine ⟨c1, fun _ => ?_, fun k => ?_, fun k => absurd h k⟩
      · simp only [AvT.height]; omega
      · omega
  · rename_i h
    split
    · rename_i k
      cases b with
      | leaf k' v => simp only [AvT.height] at k; have := a.height_pos; omega
      | node x y =>
        obtain ⟨b1, b2, b3, b4⟩ := hb
        have e : 1 + max x.height y.height = a.height + 2 := by simp only [AvT.height] at k h2; omega
        obtain ⟨c1, c2, c3⟩ := fromSecond_spec a x y ha b1 b2 b3 b4 e
        refine ⟨c1, fun k => absurd k h, fun _ => ?_, fun _ k' => absurd k k'⟩
        simp only [AvT.height]; omega
    · rename_i k
      exact ⟨⟨ha, hb, by omega, by omega⟩, fun k' => absurd k' h, fun k' => absurd k' k, fun _ _ => rfl⟩
theorem set_spec (k v : ByteArray) : ∀ t : AvT, t.bal → (t.set k v).bal ∧ t.height ≤ (t.set k v).height ∧ (t.set k v).height ≤ t.height + 1
  | .leaf k0 v0, _ => by
    unfold AvT.set
    split
    · simp [AvT.bal, AvT.height]
    · split <;> simp [AvT.bal, AvT.height]
  | .node a b, ⟨h1, h2, h3, h4⟩ => by
    unfold AvT.set
    simp only [AvT.height]
    split
    · obtain ⟨i1, i2, i3⟩ := set_spec k v a h1
      obtain ⟨j1, j2, j3, j4⟩ := joinN_spec (a.set k v) b i1 h2 (by omega) (by omega)
      refine ⟨j1, ?_, ?_⟩ <;> (by_cases c1 : b.height + 1 < (a.set k v).height <;> by_cases c2 : (a.set k v).height + 1 < b.height <;> simp only [c1, c2, not_true, not_false_eq_true, true_implies, false_implies] at j2 j3 j4 <;> omega)
    · obtain ⟨i1, i2, i3⟩ := set_spec k v b h2
      obtain ⟨j1, j2, j3, j4⟩ := joinN_spec a (b.set k v) h1 i1 (by omega) (by omega)
      refine ⟨j1, ?_, ?_⟩ <;> (by_cases c1 : (b.set k v).height + 1 < a.height <;> by_cases c2 : a.height + 1 < (b.set k v).height <;> simp only [c1, c2, not_true, not_false_eq_true, true_implies, false_implies] at j2 j3 j4 <;> omega)
theorem joinO_none (s : Option AvT) : joinO none s = s := rfl
theorem without_spec (k : ByteArray) : ∀ t : AvT, t.bal → balO (t.without k) ∧ t.height ≤ heightO (t.without k) + 1 ∧ heightO (t.without k) ≤ t.height
  | .leaf k0 v0, _ => by simp [AvT.without, balO, heightO, AvT.height]
  | .node a b, ⟨h1, h2, h3, h4⟩ => by
    have ha := a.height_pos
    have hb := b.height_pos
    unfold AvT.without
    simp only [AvT.height]
    split
    · obtain ⟨i1, i2, i3⟩ := without_spec k a h1
      cases e : a.without k with
      | none => rw [e] at i1 i2 i3; simp only [heightO] at i2 i3; simp only [joinO, balO, heightO]; exact ⟨h2, by omega, by omega⟩
      | some a' =>
        rw [e] at i1 i2 i3; simp only [heightO, balO] at i1 i2 i3
        simp only [joinO, balO, heightO]
        obtain ⟨j1, j2, j3, j4⟩ := joinN_spec a' b i1 h2 (by omega) (by omega)
        refine ⟨j1, ?_, ?_⟩ <;> (by_cases c1 : b.height + 1 < a'.height <;> by_cases c2 : a'.height + 1 < b.height <;> simp only [c1, c2, not_true, not_false_eq_true, true_implies, false_implies] at j2 j3 j4 <;> omega)
    · obtain ⟨i1, i2, i3⟩ := without_spec k b h2
      cases e : b.without k with
      | none => rw [e] at i1 i2 i3; simp only [heightO] at i2 i3; simp only [joinO, balO, heightO]; exact ⟨h1, by omega, by omega⟩
      | some b' =>
        rw [e] at i1 i2 i3; simp only [heightO, balO] at i1 i2 i3
        simp only [joinO, balO, heightO]
        obtain ⟨j1, j2, j3, j4⟩ := joinN_spec a b' h1 i1 (by omega) (by omega)
        refine ⟨j1, ?_, ?_⟩ <;> (by_cases c1 : b'.height + 1 < a.height <;> by_cases c2 : a.height + 1 < b'.height <;> simp only [c1, c2, not_true, not_false_eq_true, true_implies, false_implies] at j2 j3 j4 <;> omega)
theorem setO_bal {t : Option AvT} (h : balO t) (k v : ByteArray) : (setO t k v).bal := by
  cases t with
  | none => trivial
  | some t => exact (set_spec k v t h).1
theorem dropO_bal {t : Option AvT} (h : balO t) (k : ByteArray) : balO (dropO t k) := by
  cases t with
  | none => trivial
  | some t =>
    unfold dropO
    dsimp only
    split
    · exact (without_spec k t h).1
    · exact h
/-- how many keys a tree of such a height has at least -/
def minL : Nat → Nat
  | 0 => 0
  | 1 => 1
  | n + 2 => max (minL n) 1 + minL (n + 1)
theorem minL_mono1 : ∀ n, minL n ≤ minL (n + 1)
  | 0 => by simp [minL]
  | 1 => by simp [minL]
  | n + 2 => by
    show minL (n + 2) ≤ max (minL (n + 1)) 1 + minL (n + 2)
    omega
theorem minL_mono {m n : Nat} (h : m ≤ n) : minL m ≤ minL n := by
  induction n with
  | zero => rw [Nat.le_zero.1 h]; exact Nat.le_refl _
  | succ n ih =>
    rcases Nat.lt_or_ge m (n + 1) with h' | h'
    · exact Nat.le_trans (ih (by omega)) (minL_mono1 n)
    · rw [show m = n + 1 by omega]; exact Nat.le_refl _
theorem minL_many : ∀ t : AvT, t.bal → minL t.height ≤ t.many
  | .leaf _ _, _ => by simp [AvT.height, AvT.many, minL]
  | .node a b, ⟨h1, h2, h3, h4⟩ => by
    have ia := minL_many a h1
    have ib := minL_many b h2
    have pa := a.height_pos
    have pb := b.height_pos
    have ma := a.many_pos
    have mb := b.many_pos
    simp only [AvT.height, AvT.many]
    rcases Nat.lt_or_ge a.height b.height with h | h
    · obtain ⟨n, hn⟩ : ∃ n, b.height = n + 2 := ⟨b.height - 2, by omega⟩
      rw [show 1 + max a.height b.height = (n + 1) + 2 by omega]
      have e1 : a.height = n + 1 := by omega
      rw [e1] at ia
      rw [hn] at ib
      show max (minL (n + 1)) 1 + minL (n + 2) ≤ _
      omega
    · obtain ⟨n, hn⟩ : ∃ n, a.height = n + 1 := ⟨a.height - 1, by omega⟩
      rw [show 1 + max a.height b.height = n + 2 by omega]
      rw [hn] at ia
      show max (minL n) 1 + minL (n + 1) ≤ _
      have : minL n ≤ minL b.height := minL_mono (by omega)
      omega
theorem joinN_pairs (a b : AvT) : (joinN a b).pairs = a.pairs ++ b.pairs := by
  unfold joinN
  split
  · cases a with
    | leaf k v => rfl
    | node x y =>
      simp only [fromFirst]
      split
      · cases y <;> simp [AvT.pairs, List.append_assoc]
      · simp [AvT.pairs, List.append_assoc]
  · split
    · cases b with
      | leaf k v => rfl
      | node x y =>
        simp only [fromSecond]
        split
        · cases x <;> simp [AvT.pairs, List.append_assoc]
        · simp [AvT.pairs, List.append_assoc]
    · rfl
theorem joinO_pairs (a b : Option AvT) : pairsO (joinO a b) = pairsO a ++ pairsO b := by
  cases a with
  | none => rfl
  | some a =>
    cases b with
    | none => simp [joinO, pairsO]
    | some b => exact joinN_pairs a b
def Srt (l : List KV) : Prop := l.Pairwise fun p q => bl p.1 q.1 = true
theorem Srt.append {a b : List KV} : Srt (a ++ b) ↔ Srt a ∧ Srt b ∧ ∀ p ∈ a, ∀ q ∈ b, bl p.1 q.1 = true := List.pairwise_append
theorem Srt.least {t : AvT} (h : Srt t.pairs) : ∀ q ∈ t.pairs, bl q.1 t.least = false := by
  obtain ⟨v, l, e⟩ := t.pairs_head
  rw [e] at h ⊢
  intro q hq
  rcases List.mem_cons.1 hq with rfl | hq
  · exact bl_irrefl _
  · exact bl_asymm ((List.pairwise_cons.1 h).1 q hq)
theorem least_mem (t : AvT) : ∃ v, (t.least, v) ∈ t.pairs := by
  obtain ⟨v, l, e⟩ := t.pairs_head
  exact ⟨v, by rw [e]; exact List.mem_cons_self ..⟩
/-- in a node: what is less than the second part's first key is less than all of it; else all of the first part is less than it -/
theorem Srt.node_lo {a b : AvT} (h : Srt (a.pairs ++ b.pairs)) {k : ByteArray} (hk : bl k b.least = true) : ∀ q ∈ b.pairs, bl k q.1 = true := fun q hq =>
  bl_lt_le hk ((Srt.append.1 h).2.1.least q hq)
theorem Srt.node_hi {a b : AvT} (h : Srt (a.pairs ++ b.pairs)) {k : ByteArray} (hk : bl k b.least = false) : ∀ q ∈ a.pairs, bl q.1 k = true := fun q hq => by
  obtain ⟨v, hv⟩ := least_mem b
  exact bl_lt_le ((Srt.append.1 h).2.2 q hq _ hv) hk
/-- a key laid into a list -/
def insL (k v : ByteArray) (l : List KV) : List KV := (l.filter fun p => bl p.1 k) ++ (k, v) :: l.filter fun p => bl k p.1
theorem filter_all {l : List KV} {f : KV → Bool} (h : ∀ q ∈ l, f q = true) : l.filter f = l := List.filter_eq_self.2 h
theorem filter_no {l : List KV} {f : KV → Bool} (h : ∀ q ∈ l, f q = false) : l.filter f = [] := List.filter_eq_nil_iff.2 fun q hq => by rw [h q hq]; simp
theorem set_pairs (k v : ByteArray) : ∀ t : AvT, Srt t.pairs → (t.set k v).pairs = insL k v t.pairs
  | .leaf k0 v0, _ => by
    unfold AvT.set
    split
    · rename_i h; subst h; simp [AvT.pairs, insL, bl_irrefl]
    · split
      · rename_i h1 h2; simp [AvT.pairs, insL, h2, bl_asymm h2]
      · rename_i h1 h2
        have h3 : bl k0 k = true := by
          cases e : bl k0 k with
          | true => rfl
          | false => exact absurd (bl_total (Bool.eq_false_iff.2 h2) e) h1
        simp [AvT.pairs, insL, h3, h2]
  | .node a b, h => by
    have h' : Srt (a.pairs ++ b.pairs) := h
    unfold AvT.set
    split
    · rename_i hk
      have lo := h'.node_lo hk
      rw [joinN_pairs, set_pairs k v a (Srt.append.1 h').1]
      simp only [insL, AvT.pairs, List.filter_append]
      rw [filter_no (l := b.pairs) (f := fun p => bl p.1 k) (fun q hq => bl_asymm (lo q hq)), filter_all (l := b.pairs) (f := fun p => bl k p.1) lo]
      simp
    · rename_i hk
      have hi := h'.node_hi (Bool.eq_false_iff.2 hk)
      rw [joinN_pairs, set_pairs k v b (Srt.append.1 h').2.1]
      simp only [insL, AvT.pairs, List.filter_append]
      rw [filter_all (l := a.pairs) (f := fun p => bl p.1 k) hi, filter_no (l := a.pairs) (f := fun p => bl k p.1) (fun q hq => bl_asymm (hi q hq))]
      simp
theorem insL_srt {l : List KV} (h : Srt l) (k v : ByteArray) : Srt (insL k v l) := by
  unfold insL
  rw [Srt.append]
  refine ⟨h.filter _, ?_, ?_⟩
  · refine List.pairwise_cons.2 ⟨fun q hq => ?_, h.filter _⟩
    exact (List.mem_filter.1 hq).2
  · intro p hp q hq
    have h1 := (List.mem_filter.1 hp).2
    rcases List.mem_cons.1 hq with rfl | hq
    · exact h1
    · exact bl_trans h1 (List.mem_filter.1 hq).2
theorem setO_srt {t : Option AvT} (h : Srt (pairsO t)) (k v : ByteArray) : Srt (setO t k v).pairs := by
  cases t with
  | none => exact List.pairwise_singleton _ _
  | some t => show Srt (t.set k v).pairs; rw [set_pairs k v t h]; exact insL_srt h k v
theorem get_mem (k : ByteArray) : ∀ t : AvT, Srt t.pairs → ∀ v, t.get k = some v ↔ (k, v) ∈ t.pairs
  | .leaf k0 v0, _, v => by
    unfold AvT.get
    split
    · rename_i h; subst h; simp [AvT.pairs]; exact eq_comm
    · rename_i h
      simp only [AvT.pairs, List.mem_singleton, Prod.mk.injEq]
      exact ⟨(fun e => by cases e), fun e => absurd e.1.symm h⟩
  | .node a b, h, v => by
    have h' : Srt (a.pairs ++ b.pairs) := h
    unfold AvT.get
    simp only [AvT.pairs, List.mem_append]
    split
    · rename_i hk
      rw [get_mem k a (Srt.append.1 h').1 v]
      exact ⟨.inl, fun e => e.elim id fun e => by have := h'.node_lo hk _ e; rw [bl_irrefl] at this; cases this⟩
    · rename_i hk
      rw [get_mem k b (Srt.append.1 h').2.1 v]
      exact ⟨.inr, fun e => e.elim (fun e => by have := h'.node_hi (Bool.eq_false_iff.2 hk) _ e; rw [bl_irrefl] at this; cases this) id⟩
theorem find_eq (k : ByteArray) : ∀ t : AvT, Srt t.pairs → t.find k = (t.pairs.filter fun p => bl p.1 k).length
  | .leaf k0 v0, _ => by
    unfold AvT.find
    simp only [AvT.pairs, List.filter_cons, List.filter_nil]
    split <;> simp_all
  | .node a b, h => by
    have h' : Srt (a.pairs ++ b.pairs) := h
    unfold AvT.find
    simp only [AvT.pairs, List.filter_append, List.length_append]
    split
    · rename_i hk
      rw [find_eq k a (Srt.append.1 h').1, filter_no (l := b.pairs) (f := fun p => bl p.1 k) (fun q hq => bl_asymm (h'.node_lo hk q hq))]
      rfl
    · rename_i hk
      rw [find_eq k b (Srt.append.1 h').2.1, filter_all (l := a.pairs) (f := fun p => bl p.1 k) (h'.node_hi (Bool.eq_false_iff.2 hk)), AvT.many_eq]
theorem at_eq : ∀ (t : AvT) (i : Nat), i < t.many → t.pairs[i]? = some (t.at? i)
  | .leaf k v, i, h => by simp only [AvT.many] at h; obtain rfl : i = 0 := by omega
                          rfl
  | .node a b, i, h => by
    simp only [AvT.many] at h
    unfold AvT.at?
    simp only [AvT.pairs]
    split
    · rename_i hi
      rw [List.getElem?_append_left (by rw [AvT.many_eq]; exact hi), at_eq a i hi]
    · rename_i hi
      rw [List.getElem?_append_right (by rw [AvT.many_eq]; omega), AvT.many_eq, at_eq b _ (by omega)]
/-- the place of the i-th key is i -/
theorem srt_place : ∀ (l : List KV), Srt l → ∀ i p, l[i]? = some p → (l.filter fun q => bl q.1 p.1).length = i
  | [], _, i, p, h => by simp at h
  | q :: l, hs, 0, p, h => by
    injection h with h; subst h
    obtain ⟨h1, _⟩ := List.pairwise_cons.1 hs
    rw [List.filter_cons, bl_irrefl, filter_no (fun r hr => bl_asymm (h1 r hr))]
    rfl
  | q :: l, hs, i + 1, p, h => by
    obtain ⟨h1, h2⟩ := List.pairwise_cons.1 hs
    have hp : p ∈ l := List.mem_of_getElem? (by simpa using h)
    rw [List.filter_cons, h1 p hp, if_pos rfl, List.length_cons, srt_place l h2 i p (by simpa using h)]
theorem find_at {t : AvT} (h : Srt t.pairs) {i : Nat} (hi : i < t.many) : t.find (t.at? i).1 = i := by
  rw [find_eq _ t h]
  exact srt_place _ h i _ (at_eq t i hi)
theorem without_pairs (k : ByteArray) : ∀ t : AvT, Srt t.pairs → (∃ v, (k, v) ∈ t.pairs) → pairsO (t.without k) = t.pairs.filter fun p => !decide (p.1 = k)
  | .leaf k0 v0, _, ⟨v, hv⟩ => by
    simp only [AvT.pairs, List.mem_singleton, Prod.mk.injEq] at hv
    simp [AvT.without, pairsO, AvT.pairs, hv.1]
  | .node a b, h, ⟨v, hv⟩ => by
    have h' : Srt (a.pairs ++ b.pairs) := h
    simp only [AvT.pairs, List.mem_append] at hv
    unfold AvT.without
    simp only [AvT.pairs, List.filter_append]
    split
    · rename_i hk
      have lo := h'.node_lo hk
      have ha : (k, v) ∈ a.pairs := hv.elim id fun e => by have := lo _ e; rw [bl_irrefl] at this; cases this
      rw [joinO_pairs, without_pairs k a (Srt.append.1 h').1 ⟨v, ha⟩, filter_all (l := b.pairs) (fun q hq => by simpa using (bl_ne (lo q hq)).symm)]
      rfl
    · rename_i hk
      have hi := h'.node_hi (Bool.eq_false_iff.2 hk)
      have hb : (k, v) ∈ b.pairs := hv.elim (fun e => by have := hi _ e; rw [bl_irrefl] at this; cases this) id
      rw [joinO_pairs, without_pairs k b (Srt.append.1 h').2.1 ⟨v, hb⟩, filter_all (l := a.pairs) (fun q hq => by simpa using bl_ne (hi q hq))]
      rfl
theorem dropO_pairs {t : Option AvT} (h : Srt (pairsO t)) (k : ByteArray) : pairsO (dropO t k) = (pairsO t).filter fun p => !decide (p.1 = k) := by
  cases t with
  | none => rfl
  | some t =>
    unfold dropO
    dsimp only
    cases e : t.get k with
    | some v => exact without_pairs k t h ⟨v, (get_mem k t h v).1 e⟩
    | none =>
      rw [if_neg (by simp)]
      refine (filter_all fun q hq => ?_).symm
      simp only [Bool.not_eq_eq_eq_not, Bool.not_true, decide_eq_false_iff_not]
      intro e'
      have := (get_mem k t h q.2).2 (by rw [← e']; exact hq)
      rw [e] at this; cases this
theorem dropO_srt {t : Option AvT} (h : Srt (pairsO t)) (k : ByteArray) : Srt (pairsO (dropO t k)) := by
  rw [dropO_pairs h]; exact h.filter _
/-- what is visited from a key on -/
def AvT.vis (k : ByteArray) : AvT → List KV
  | .leaf k0 v0 => if bl k0 k then [] else [(k0, v0)]
  | .node a b => if bl k b.least then a.vis k ++ b.vis k else b.vis k
theorem vis_eq (k : ByteArray) : ∀ t : AvT, Srt t.pairs → t.vis k = t.pairs.filter fun p => !bl p.1 k
  | .leaf k0 v0, _ => by
    unfold AvT.vis
    simp only [AvT.pairs, List.filter_cons, List.filter_nil]
    split <;> simp_all
  | .node a b, h => by
    have h' : Srt (a.pairs ++ b.pairs) := h
    unfold AvT.vis
    simp only [AvT.pairs, List.filter_append]
    split
    · rw [vis_eq k a (Srt.append.1 h').1, vis_eq k b (Srt.append.1 h').2.1]
    · rename_i hk
      rw [vis_eq k b (Srt.append.1 h').2.1, filter_no (l := a.pairs) (f := fun p => !bl p.1 k) (fun q hq => by rw [h'.node_hi (Bool.eq_false_iff.2 hk) q hq]; rfl)]
      rfl
end Go.Proofs.YtabflppnecemkaaGreatDoor
