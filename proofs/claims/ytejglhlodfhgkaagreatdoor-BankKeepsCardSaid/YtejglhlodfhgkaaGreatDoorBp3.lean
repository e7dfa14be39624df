/- Part 3 of the proof. -/
import Derived.Sort.Walk0
import Derived.StillTailTactics
import Derived.Deep.QuietTactic
import Derived.BigQuiet
import Derived.Deep.MidRow
import Derived.Laws.CopyOwn
import Derived.Test.YtejglhlodfhgkaaGreatDoorBp1
namespace Go.Proofs.YtejglhlodfhgkaaGreatDoor
set_option linter.unusedVariables false
set_option linter.unusedSimpArgs false
open Go.RowKit
/-- the order of keys -/
def bl (a b : ByteArray) : Bool := Op.bytesLess a.toList b.toList
theorem bl_lt (a b : ByteArray) : bl a b = true ↔ a.toList < b.toList := by
  unfold bl; rw [bytesLess_eq]; simp
theorem bl_irrefl (a : ByteArray) : bl a a = false := by
  rw [Bool.eq_false_iff]; intro h; exact List.lt_irrefl _ ((bl_lt _ _).1 h)
theorem bl_trans {a b c : ByteArray} (h : bl a b = true) (k : bl b c = true) : bl a c = true :=
  (bl_lt _ _).2 (List.lt_trans ((bl_lt _ _).1 h) ((bl_lt _ _).1 k))
theorem ba_eq {a b : ByteArray} (h : a.toList = b.toList) : a = b := by
  rw [ByteArray.toList_eq, ByteArray.toList_eq] at h
  cases a; cases b; congr; exact Array.toList_inj.1 h
theorem bl_total {a b : ByteArray} (h : bl a b = false) (k : bl b a = false) : a = b := by
  refine ba_eq (List.le_antisymm ?_ ?_)
  · rw [← List.not_lt]; intro h'; rw [(bl_lt _ _).2 h'] at k; cases k
  · rw [← List.not_lt]; intro h'; rw [(bl_lt _ _).2 h'] at h; cases h
theorem bl_asymm {a b : ByteArray} (h : bl a b = true) : bl b a = false := by
  rw [Bool.eq_false_iff]; intro k
  have := bl_trans h k; rw [bl_irrefl] at this; cases this
theorem bl_ne {a b : ByteArray} (h : bl a b = true) : a ≠ b := fun e => by subst e; rw [bl_irrefl] at h; cases h
theorem bl_lt_le {a b c : ByteArray} (h : bl a b = true) (k : bl c b = false) : bl a c = true := by
  cases e : bl b c with
  | true => exact bl_trans h e
  | false => rw [← bl_total e k]; exact h
theorem beqL (a b : ByteArray) : (a.toList == b.toList) = decide (a = b) := by
  rw [Bool.eq_iff_iff]
  simp only [beq_iff_eq, decide_eq_true_eq]
  exact ⟨ba_eq, fun h => by rw [h]⟩
def eBA : ByteArray := { data := #[] }
abbrev KV := ByteArray × ByteArray
/-- a tree that has keys -/
inductive AvT where
  | leaf (k v : ByteArray)
  | node (a b : AvT)
namespace AvT
def least : AvT → ByteArray
  | leaf k _ => k
  | node a _ => a.least
def value : AvT → ByteArray
  | leaf _ v => v
  | node _ _ => eBA
def many : AvT → Nat
  | leaf _ _ => 1
  | node a b => a.many + b.many
def height : AvT → Nat
  | leaf _ _ => 1
  | node a b => 1 + max a.height b.height
def pairs : AvT → List KV
  | leaf k v => [(k, v)]
  | node a b => a.pairs ++ b.pairs
def bal : AvT → Prop
  | leaf _ _ => True
  | node a b => a.bal ∧ b.bal ∧ a.height ≤ b.height + 1 ∧ b.height ≤ a.height + 1
end AvT
def fromFirst (x y s : AvT) : AvT :=
  if x.height < y.height then
    match y with
    | .node p q => .node (.node x p) (.node q s)
    | .leaf _ _ => .node x (.node y s)
  else .node x (.node y s)
def fromSecond (f x y : AvT) : AvT :=
  if y.height < x.height then
    match x with
    | .node p q => .node (.node f p) (.node q y)
    | .leaf _ _ => .node (.node f x) y
  else .node (.node f x) y
def joinN (a b : AvT) : AvT :=
  if b.height + 1 < a.height then
    match a with
    | .node x y => fromFirst x y b
    | .leaf _ _ => .node a b
  else if a.height + 1 < b.height then
    match b with
    | .node x y => fromSecond a x y
    | .leaf _ _ => .node a b
  else .node a b
def joinO : Option AvT → Option AvT → Option AvT
  | none, s => s
  | some a, none => some a
  | some a, some b => some (joinN a b)
namespace AvT
def set (k v : ByteArray) : AvT → AvT
  | leaf k0 v0 => if k = k0 then leaf k v else if bl k k0 then node (leaf k v) (leaf k0 v0) else node (leaf k0 v0) (leaf k v)
  | node a b => if bl k b.least then joinN (a.set k v) b else joinN a (b.set k v)
def without (k : ByteArray) : AvT → Option AvT
  | leaf _ _ => none
  | node a b => if bl k b.least then joinO (a.without k) (some b) else joinO (some a) (b.without k)
def get (k : ByteArray) : AvT → Option ByteArray
  | leaf k0 v0 => if k0 = k then some v0 else none
  | node a b => if bl k b.least then a.get k else b.get k
def find (k : ByteArray) : AvT → Nat
  | leaf k0 _ => if bl k0 k then 1 else 0
  | node a b => if bl k b.least then a.find k else a.many + b.find k
end AvT
def setO (t : Option AvT) (k v : ByteArray) : AvT := match t with
  | none => .leaf k v
  | some t => t.set k v
def getO (t : Option AvT) (k : ByteArray) : Option ByteArray := match t with
  | none => none
  | some t => t.get k
def dropO (t : Option AvT) (k : ByteArray) : Option AvT := match t with
  | none => none
  | some t => if (t.get k).isSome then t.without k else some t
def manyO (t : Option AvT) : Nat := match t with
  | none => 0
  | some t => t.many
def heightO (t : Option AvT) : Nat := match t with
  | none => 0
  | some t => t.height
def pairsO (t : Option AvT) : List KV := match t with
  | none => []
  | some t => t.pairs
def balO (t : Option AvT) : Prop := match t with
  | none => True
  | some t => t.bal
namespace AvT
theorem height_pos (t : AvT) : 1 ≤ t.height := by cases t <;> simp [height]
theorem many_pos : ∀ t : AvT, 1 ≤ t.many
  | leaf _ _ => by simp [many]
  | node a b => by have := many_pos a; simp [many]; omega
theorem height_le : ∀ t : AvT, t.height ≤ t.many
  | leaf _ _ => by simp [many, height]
  | node a b => by
    have := height_le a; have := height_le b; have := many_pos a; have := many_pos b
    simp only [many, height]; omega
theorem many_eq : ∀ t : AvT, t.pairs.length = t.many
  | leaf _ _ => rfl
  | node a b => by simp only [pairs, many, List.length_append, many_eq a, many_eq b]
theorem pairs_head : ∀ t : AvT, ∃ v l, t.pairs = (t.least, v) :: l
  | leaf k v => ⟨v, [], rfl⟩
  | node a b => by
    obtain ⟨v, l, h⟩ := pairs_head a
    exact ⟨v, l ++ b.pairs, by simp only [pairs, least, h]; rfl⟩
end AvT
theorem fromFirst_spec (x y s : AvT) (hx : x.bal) (hy : y.bal) (hs : s.bal) (h1 : x.height ≤ y.height + 1) (h2 : y.height ≤ x.height + 1) (h3 : 1 + max x.height y.height = s.height + 2) :
    (fromFirst x y s).bal ∧ s.height + 2 ≤ (fromFirst x y s).height ∧ (fromFirst x y s).height ≤ s.height + 3 := by
  unfold fromFirst
  split
  · rename_i h
    cases y with
    | leaf k v => have := x.height_pos; have := s.height_pos; simp only [AvT.height] at h h1 h2 h3; omega
    | node p q =>
      obtain ⟨b1, b2, b3, b4⟩ := hy
      simp only [AvT.bal, AvT.height] at h h1 h2 h3 ⊢
      refine ⟨⟨⟨hx, b1, ?_, ?_⟩, ⟨b2, hs, ?_, ?_⟩, ?_, ?_⟩, ?_, ?_⟩ <;> omega
  · rename_i h
    simp only [AvT.bal, AvT.height] at h h1 h2 h3 ⊢
    refine ⟨⟨hx, ⟨hy, hs, ?_, ?_⟩, ?_, ?_⟩, ?_, ?_⟩ <;> omega
theorem fromSecond_spec (f x y : AvT) (hf : f.bal) (hx : x.bal) (hy : y.bal) (h1 : x.height ≤ y.height + 1) (h2 : y.height ≤ x.height + 1) (h3 : 1 + max x.height y.height = f.height + 2) :
    (fromSecond f x y).bal ∧ f.height + 2 ≤ (fromSecond f x y).height ∧ (fromSecond f x y).height ≤ f.height + 3 := by
  unfold fromSecond
  split
  · rename_i h
    cases x with
    | leaf k v => have := y.height_pos; simp only [AvT.height] at h h1 h2 h3; omega
    | node p q =>
      obtain ⟨b1, b2, b3, b4⟩ := hx
      simp only [AvT.bal, AvT.height] at h h1 h2 h3 ⊢
      refine ⟨⟨⟨hf, b1, ?_, ?_⟩, ⟨b2, hy, ?_, ?_⟩, ?_, ?_⟩, ?_, ?_⟩ <;> omega
  · rename_i h
    simp only [AvT.bal, AvT.height] at h h1 h2 h3 ⊢
    refine ⟨⟨⟨hf, hx, ?_, ?_⟩, hy, ?_, ?_⟩, ?_, ?_⟩ <;> omega
/-- what becomes of two balanced parts whose heights differ by two at most -/
theorem joinN_spec (a b : AvT) (ha : a.bal) (hb : b.bal) (h1 : a.height ≤ b.height + 2) (h2 : b.height ≤ a.height + 2) :
    (joinN a b).bal ∧ (b.height + 1 < a.height → a.height ≤ (joinN a b).height ∧ (joinN a b).height ≤ a.height + 1) ∧ (a.height + 1 < b.height → b.height ≤ (joinN a b).height ∧ (joinN a b).height ≤ b.height + 1) ∧
    (¬ b.height + 1 < a.height → ¬ a.height + 1 < b.height → (joinN a b).height = 1 + max a.height b.height) := by
  unfold joinN
  split
  · rename_i h
    cases a with
    | leaf k v => simp only [AvT.height] at h; have := b.height_pos; omega
    | node x y =>
      obtain ⟨b1, b2, b3, b4⟩ := ha
      have e : 1 + max x.height y.height = b.height + 2 := by simp only [AvT.height] at h h1; omega
      obtain ⟨c1, c2, c3⟩ := fromFirst_spec x y b b1 b2 hb b3 b4 e
      refine ⟨c1, fun _ => ?_, fun k => ?_, fun k => absurd h k⟩
      · simp only [AvT.height]; omega
      · omega
  · rename_i h
    split
    · rename_i k
      cases b with
      | leaf k' v => simp only [AvT.height] at k; have := a.height_pos; omega
      | node x y =>
        obtain ⟨b1, b2, b3, b4⟩ := hb
        have e : 1 + max x.height y.height = a.height + 2 := by simp only [AvT.height] at k h2; omega
        obtain ⟨c1, c2, c3⟩ := fromSecond_spec a x y ha b1 b2 b3 b4 e
        refine ⟨c1, fun k => absurd k h, fun _ => ?_, fun _ k' => absurd k k'⟩
        simp only [AvT.height]; omega
    · rename_i k
      exact ⟨⟨ha, hb, by omega, by omega⟩, fun k' => absurd k' h, fun k' => absurd k' k, fun _ _ => rfl⟩
theorem set_spec (k v : ByteArray) : ∀ t : AvT, t.bal → (t.set k v).bal ∧ t.height ≤ (t.set k v).height ∧ (t.set k v).height ≤ t.height + 1
  | .leaf k0 v0, _ => by
    unfold AvT.set
    split
    · simp [AvT.bal, AvT.height]
    · split <;> simp [AvT.bal, AvT.height]
  | .node a b, ⟨h1, h2, h3, h4⟩ => by
    unfold AvT.set
    simp only [AvT.height]
    split
    · obtain ⟨i1, i2, i3⟩ := set_spec k v a h1
      obtain ⟨j1, j2, j3, j4⟩ := joinN_spec (a.set k v) b i1 h2 (by omega) (by omega)
      refine ⟨j1, ?_, ?_⟩ <;> (by_cases c1 : b.height + 1 < (a.set k v).height <;> by_cases c2 : (a.set k v).height + 1 < b.height <;> simp only [c1, c2, not_true, not_false_eq_true, true_implies, false_implies] at j2 j3 j4 <;> omega)
    · obtain ⟨i1, i2, i3⟩ := set_spec k v b h2
      obtain ⟨j1, j2, j3, j4⟩ := joinN_spec a (b.set k v) h1 i1 (by omega) (by omega)
      refine ⟨j1, ?_, ?_⟩ <;> (by_cases c1 : (b.set k v).height + 1 < a.height <;> by_cases c2 : a.height + 1 < (b.set k v).height <;> simp only [c1, c2, not_true, not_false_eq_true, true_implies, false_implies] at j2 j3 j4 <;> omega)
theorem without_spec (k : ByteArray) : ∀ t : AvT, t.bal → balO (t.without k) ∧ t.height ≤ heightO (t.without k) + 1 ∧ heightO (t.without k) ≤ t.height
  | .leaf k0 v0, _ => by simp [AvT.without, balO, heightO, AvT.height]
  | .node a b, ⟨h1, h2, h3, h4⟩ => by
    have ha := a.height_pos
    have hb := b.height_pos
    unfold AvT.without
    simp only [AvT.height]
    split
    · obtain ⟨i1, i2, i3⟩ := without_spec k a h1
      cases e : a.without k with
      | none => rw [e] at i1 i2 i3; simp only [heightO] at i2 i3; simp only [joinO, balO, heightO]; exact ⟨h2, by omega, by omega⟩
      | some a' =>
        rw [e] at i1 i2 i3; simp only [heightO, balO] at i1 i2 i3
        simp only [joinO, balO, heightO]
        obtain ⟨j1, j2, j3, j4⟩ := joinN_spec a' b i1 h2 (by omega) (by omega)
        refine ⟨j1, ?_, ?_⟩ <;> (by_cases c1 : b.height + 1 < a'.height <;> by_cases c2 : a'.height + 1 < b.height <;> simp only [c1, c2, not_true, not_false_eq_true, true_implies, false_implies] at j2 j3 j4 <;> omega)
    · obtain ⟨i1, i2, i3⟩ := without_spec k b h2
      cases e : b.without k with
      | none => rw [e] at i1 i2 i3; simp only [heightO] at i2 i3; simp only [joinO, balO, heightO]; exact ⟨h1, by omega, by omega⟩
      | some b' =>
        rw [e] at i1 i2 i3; simp only [heightO, balO] at i1 i2 i3
        simp only [joinO, balO, heightO]
        obtain ⟨j1, j2, j3, j4⟩ := joinN_spec a b' h1 i1 (by omega) (by omega)
        refine ⟨j1, ?_, ?_⟩ <;> (by_cases c1 : b'.height + 1 < a.height <;> by_cases c2 : a.height + 1 < b'.height <;> simp only [c1, c2, not_true, not_false_eq_true, true_implies, false_implies] at j2 j3 j4 <;> omega)
theorem setO_bal {t : Option AvT} (h : balO t) (k v : ByteArray) : (setO t k v).bal := by
  cases t with
  | none => trivial
  | some t => exact (set_spec k v t h).1
theorem dropO_bal {t : Option AvT} (h : balO t) (k : ByteArray) : balO (dropO t k) := by
  cases t with
  | none => trivial
  | some t =>
    unfold dropO
    dsimp only
    split
    · exact (without_spec k t h).1
    · exact h
theorem joinN_pairs (a b : AvT) : (joinN a b).pairs = a.pairs ++ b.pairs := by
  unfold joinN
  split
  · cases a with
    | leaf k v => rfl
    | node x y =>
      simp only [fromFirst]
      split
      · cases y <;> simp [AvT.pairs, List.append_assoc]
      · simp [AvT.pairs, List.append_assoc]
  · split
    · cases b with
      | leaf k v => rfl
      | node x y =>
        simp only [fromSecond]
        split
        · cases x <;> simp [AvT.pairs, List.append_assoc]
        · simp [AvT.pairs, List.append_assoc]
    · rfl
theorem joinO_pairs (a b : Option AvT) : pairsO (joinO a b) = pairsO a ++ pairsO b := by
  cases a with
  | none => rfl
  | some a =>
    cases b with
    | none => simp [joinO, pairsO]
    | some b => exact joinN_pairs a b
def Srt (l : List KV) : Prop := l.Pairwise fun p q => bl p.1 q.1 = true
theorem Srt.append {a b : List KV} : Srt (a ++ b) ↔ Srt a ∧ Srt b ∧ ∀ p ∈ a, ∀ q ∈ b, bl p.1 q.1 = true := List.pairwise_append
theorem Srt.least {t : AvT} (h : Srt t.pairs) : ∀ q ∈ t.pairs, bl q.1 t.least = false := by
  obtain ⟨v, l, e⟩ := t.pairs_head
  rw [e] at h ⊢
  intro q hq
  rcases List.mem_cons.1 hq with rfl | hq
  · exact bl_irrefl _
  · exact bl_asymm ((List.pairwise_cons.1 h).1 q hq)
theorem least_mem (t : AvT) : ∃ v, (t.least, v) ∈ t.pairs := by
  obtain ⟨v, l, e⟩ := t.pairs_head
  exact ⟨v, by rw [e]; exact List.mem_cons_self ..⟩
/-- in a node: what is less than the second part's first key is less than all of it; else all of the first part is less than it -/
theorem Srt.node_lo {a b : AvT} (h : Srt (a.pairs ++ b.pairs)) {k : ByteArray} (hk : bl k b.least = true) : ∀ q ∈ b.pairs, bl k q.1 = true := fun q hq =>
  bl_lt_le hk ((Srt.append.1 h).2.1.least q hq)
theorem Srt.node_hi {a b : AvT} (h : Srt (a.pairs ++ b.pairs)) {k : ByteArray} (hk : bl k b.least = false) : ∀ q ∈ a.pairs, bl q.1 k = true := fun q hq => by
  obtain ⟨v, hv⟩ := least_mem b
  exact bl_lt_le ((Srt.append.1 h).2.2 q hq _ hv) hk
/-- a key laid into a list -/
def insL (k v : ByteArray) (l : List KV) : List KV := (l.filter fun p => bl p.1 k) ++ (k, v) :: l.filter fun p => bl k p.1
theorem filter_all {l : List KV} {f : KV → Bool} (h : ∀ q ∈ l, f q = true) : l.filter f = l := List.filter_eq_self.2 h
theorem filter_no {l : List KV} {f : KV → Bool} (h : ∀ q ∈ l, f q = false) : l.filter f = [] := List.filter_eq_nil_iff.2 fun q hq => by rw [h q hq]; simp
theorem set_pairs (k v : ByteArray) : ∀ t : AvT, Srt t.pairs → (t.set k v).pairs = insL k v t.pairs
  | .leaf k0 v0, _ => by
    unfold AvT.set
    split
    · rename_i h; subst h; simp [AvT.pairs, insL, bl_irrefl]
    · split
      · rename_i h1 h2; simp [AvT.pairs, insL, h2, bl_asymm h2]
      · rename_i h1 h2
        have h3 : bl k0 k = true := by
          cases e : bl k0 k with
          | true => rfl
          | false => exact absurd (bl_total (Bool.eq_false_iff.2 h2) e) h1
        simp [AvT.pairs, insL, h3, h2]
  | .node a b, h => by
    have h' : Srt (a.pairs ++ b.pairs) := h
    unfold AvT.set
    split
    · rename_i hk
      have lo := h'.node_lo hk
      rw [joinN_pairs, set_pairs k v a (Srt.append.1 h').1]
      simp only [insL, AvT.pairs, List.filter_append]
      rw [filter_no (l := b.pairs) (f := fun p => bl p.1 k) (fun q hq => bl_asymm (lo q hq)), filter_all (l := b.pairs) (f := fun p => bl k p.1) lo]
      simp
    · rename_i hk
      have hi := h'.node_hi (Bool.eq_false_iff.2 hk)
      rw [joinN_pairs, set_pairs k v b (Srt.append.1 h').2.1]
      simp only [insL, AvT.pairs, List.filter_append]
      rw [filter_all (l := a.pairs) (f := fun p => bl p.1 k) hi, filter_no (l := a.pairs) (f := fun p => bl k p.1) (fun q hq => bl_asymm (hi q hq))]
      simp
theorem insL_srt {l : List KV} (h : Srt l) (k v : ByteArray) : Srt (insL k v l) := by
  unfold insL
  rw [Srt.append]
  refine ⟨h.filter _, ?_, ?_⟩
  · refine List.pairwise_cons.2 ⟨fun q hq => ?_, h.filter _⟩
    exact (List.mem_filter.1 hq).2
  · intro p hp q hq
    have h1 := (List.mem_filter.1 hp).2
    rcases List.mem_cons.1 hq with rfl | hq
    · exact h1
    · exact bl_trans h1 (List.mem_filter.1 hq).2
theorem setO_srt {t : Option AvT} (h : Srt (pairsO t)) (k v : ByteArray) : Srt (setO t k v).pairs := by
  cases t with
  | none => exact List.pairwise_singleton _ _
  | some t => show Srt (t.set k v).pairs; rw [set_pairs k v t h]; exact insL_srt h k v
theorem get_mem (k : ByteArray) : ∀ t : AvT, Srt t.pairs → ∀ v, t.get k = some v ↔ (k, v) ∈ t.pairs
  | .leaf k0 v0, _, v => by
    unfold AvT.get
    split
    · rename_i h; subst h; simp [AvT.pairs]; exact eq_comm
    · rename_i h
      simp only [AvT.pairs, List.mem_singleton, Prod.mk.injEq]
      exact ⟨(fun e => by cases e), fun e => absurd e.1.symm h⟩
  | .node a b, h, v => by
    have h' : Srt (a.pairs ++ b.pairs) := h
    unfold AvT.get
    simp only [AvT.pairs, List.mem_append]
    split
    · rename_i hk
      rw [get_mem k a (Srt.append.1 h').1 v]
      exact ⟨.inl, fun e => e.elim id fun e => by have := h'.node_lo hk _ e; rw [bl_irrefl] at this; cases this⟩
    · rename_i hk
      rw [get_mem k b (Srt.append.1 h').2.1 v]
      exact ⟨.inr, fun e => e.elim (fun e => by have := h'.node_hi (Bool.eq_false_iff.2 hk) _ e; rw [bl_irrefl] at this; cases this) id⟩
theorem without_pairs (k : ByteArray) : ∀ t : AvT, Srt t.pairs → (∃ v, (k, v) ∈ t.pairs) → pairsO (t.without k) = t.pairs.filter fun p => !decide (p.1 = k)
  | .leaf k0 v0, _, ⟨v, hv⟩ => by
    simp only [AvT.pairs, List.mem_singleton, Prod.mk.injEq] at hv
    simp [AvT.without, pairsO, AvT.pairs, hv.1]
  | .node a b, h, ⟨v, hv⟩ => by
    have h' : Srt (a.pairs ++ b.pairs) := h
    simp only [AvT.pairs, List.mem_append] at hv
    unfold AvT.without
    simp only [AvT.pairs, List.filter_append]
    split
    · rename_i hk
      have lo := h'.node_lo hk
      have ha : (k, v) ∈ a.pairs := hv.elim id fun e => by have := lo _ e; rw [bl_irrefl] at this; cases this
      rw [joinO_pairs, without_pairs k a (Srt.append.1 h').1 ⟨v, ha⟩, filter_all (l := b.pairs) (fun q hq => by simpa using (bl_ne (lo q hq)).symm)]
      rfl
    · rename_i hk
      have hi := h'.node_hi (Bool.eq_false_iff.2 hk)
      have hb : (k, v) ∈ b.pairs := hv.elim (fun e => by have := hi _ e; rw [bl_irrefl] at this; cases this) id
      rw [joinO_pairs, without_pairs k b (Srt.append.1 h').2.1 ⟨v, hb⟩, filter_all (l := a.pairs) (fun q hq => by simpa using bl_ne (hi q hq))]
      rfl
theorem dropO_pairs {t : Option AvT} (h : Srt (pairsO t)) (k : ByteArray) : pairsO (dropO t k) = (pairsO t).filter fun p => !decide (p.1 = k) := by
  cases t with
  | none => rfl
  | some t =>
    unfold dropO
    dsimp only
    cases e : t.get k with
    | some v => exact without_pairs k t h ⟨v, (get_mem k t h v).1 e⟩
    | none =>
      rw [if_neg (by simp)]
      refine (filter_all fun q hq => ?_).symm
      simp only [Bool.not_eq_eq_eq_not, Bool.not_true, decide_eq_false_iff_not]
      intro e'
      have := (get_mem k t h q.2).2 (by rw [← e']; exact hq)
      rw [e] at this; cases this
theorem dropO_srt {t : Option AvT} (h : Srt (pairsO t)) (k : ByteArray) : Srt (pairsO (dropO t k)) := by
  rw [dropO_pairs h]; exact h.filter _
/-- what is visited from a key on -/
def AvT.vis (k : ByteArray) : AvT → List KV
  | .leaf k0 v0 => if bl k0 k then [] else [(k0, v0)]
  | .node a b => if bl k b.least then a.vis k ++ b.vis k else b.vis k
theorem vis_eq (k : ByteArray) : ∀ t : AvT, Srt t.pairs → t.vis k = t.pairs.filter fun p => !bl p.1 k
  | .leaf k0 v0, _ => by
    unfold AvT.vis
    simp only [AvT.pairs, List.filter_cons, List.filter_nil]
    split <;> simp_all
  | .node a b, h => by
    have h' : Srt (a.pairs ++ b.pairs) := h
    unfold AvT.vis
    simp only [AvT.pairs, List.filter_append]
    split
    · rw [vis_eq k a (Srt.append.1 h').1, vis_eq k b (Srt.append.1 h').2.1]
    · rename_i hk
      rw [vis_eq k b (Srt.append.1 h').2.1, filter_no (l := a.pairs) (f := fun p => !bl p.1 k) (fun q hq => by rw [h'.node_hi (Bool.eq_false_iff.2 hk) q hq]; rfl)]
      rfl
end Go.Proofs.YtejglhlodfhgkaaGreatDoor
namespace Go.Proofs.YtejglhlodfhgkaaGreatDoor
set_option linter.unusedVariables false
set_option linter.unusedSimpArgs false
open Go.RowKit
def rotI (x r : Int) : Int := bits BinOp.or IntKind.u32 (x * 2 ^ r.toNat % 4294967296) (x / 2 ^ (32 - r).toNat)
set_option maxHeartbeats 400000 in
theorem rot_any (x k : Int) (r : Int) (hb : bits .and .u64 (IntKind.u64.wrap k) 31 = r) (h0 : 0 ≤ r) (h1 : r ≤ 31) (w : World) :
    Calls Tryz.prog 234 #[.int .u32 x, .int .i64 k] w fun e w' => e = .returned (.int .u32 (rotI x r)) ∧ w = w' := by
  go_enter Tryz.func234, Tryz.ntmps234
  go_wp2
  go_ret
  exact ⟨rfl, rfl⟩
theorem rot2 (x : Int) (w : World) : Calls Tryz.prog 234 #[.int .u32 x, .int .i64 (-2)] w fun e w' => e = .returned (.int .u32 (rotI x 30)) ∧ w = w' :=
  rot_any x (-2) 30 (by kernel_rfl) (by decide) (by decide) w
theorem rot6 (x : Int) (w : World) : Calls Tryz.prog 234 #[.int .u32 x, .int .i64 (-6)] w fun e w' => e = .returned (.int .u32 (rotI x 26)) ∧ w = w' :=
  rot_any x (-6) 26 (by kernel_rfl) (by decide) (by decide) w
theorem rot7 (x : Int) (w : World) : Calls Tryz.prog 234 #[.int .u32 x, .int .i64 (-7)] w fun e w' => e = .returned (.int .u32 (rotI x 25)) ∧ w = w' :=
  rot_any x (-7) 25 (by kernel_rfl) (by decide) (by decide) w
theorem rot11 (x : Int) (w : World) : Calls Tryz.prog 234 #[.int .u32 x, .int .i64 (-11)] w fun e w' => e = .returned (.int .u32 (rotI x 21)) ∧ w = w' :=
  rot_any x (-11) 21 (by kernel_rfl) (by decide) (by decide) w
theorem rot13 (x : Int) (w : World) : Calls Tryz.prog 234 #[.int .u32 x, .int .i64 (-13)] w fun e w' => e = .returned (.int .u32 (rotI x 19)) ∧ w = w' :=
  rot_any x (-13) 19 (by kernel_rfl) (by decide) (by decide) w
theorem rot17 (x : Int) (w : World) : Calls Tryz.prog 234 #[.int .u32 x, .int .i64 (-17)] w fun e w' => e = .returned (.int .u32 (rotI x 15)) ∧ w = w' :=
  rot_any x (-17) 15 (by kernel_rfl) (by decide) (by decide) w
theorem rot18 (x : Int) (w : World) : Calls Tryz.prog 234 #[.int .u32 x, .int .i64 (-18)] w fun e w' => e = .returned (.int .u32 (rotI x 14)) ∧ w = w' :=
  rot_any x (-18) 14 (by kernel_rfl) (by decide) (by decide) w
theorem rot19 (x : Int) (w : World) : Calls Tryz.prog 234 #[.int .u32 x, .int .i64 (-19)] w fun e w' => e = .returned (.int .u32 (rotI x 13)) ∧ w = w' :=
  rot_any x (-19) 13 (by kernel_rfl) (by decide) (by decide) w
theorem rot22 (x : Int) (w : World) : Calls Tryz.prog 234 #[.int .u32 x, .int .i64 (-22)] w fun e w' => e = .returned (.int .u32 (rotI x 10)) ∧ w = w' :=
  rot_any x (-22) 10 (by kernel_rfl) (by decide) (by decide) w
theorem rot25 (x : Int) (w : World) : Calls Tryz.prog 234 #[.int .u32 x, .int .i64 (-25)] w fun e w' => e = .returned (.int .u32 (rotI x 7)) ∧ w = w' :=
  rot_any x (-25) 7 (by kernel_rfl) (by decide) (by decide) w
/-- word i of a block -/
def wordB (bl : Nat → Int) (k : Nat) : Int :=
  bits BinOp.or IntKind.u32 (bits BinOp.or IntKind.u32 (bits BinOp.or IntKind.u32 (IntKind.u32.wrap (IntKind.u32.wrap (bl (4 * k)) * 16777216))
    (IntKind.u32.wrap (IntKind.u32.wrap (bl (4 * k + 1)) * 65536))) (IntKind.u32.wrap (IntKind.u32.wrap (bl (4 * k + 2)) * 256))) (IntKind.u32.wrap (bl (4 * k + 3)))
def expA (bl : Nat → Int) : Nat → Nat → Int
  | 0 => fun _ => 0
  | k + 1 => upd (expA bl k) k (wordB bl k)
/-- the word behind 16 others that begin at k -/
def nextW (e : Nat → Int) (k : Nat) : Int :=
  (e k + bits BinOp.xor IntKind.u32 (bits BinOp.xor IntKind.u32 (rotI (e (k + 1)) 25) (rotI (e (k + 1)) 14)) (e (k + 1) / 8) + e (k + 9) + bits BinOp.xor IntKind.u32 (bits BinOp.xor IntKind.u32 (rotI (e (k + 14)) 15) (rotI (e (k + 14)) 13)) (e (k + 14) / 1024)) % 4294967296
def expB (bl : Nat → Int) : Nat → Nat → Int
  | 0 => expA bl 16
  | k + 1 => upd (expB bl k) (k + 16) (nextW (expB bl k) k)
theorem zeros64 : (#[Value.int IntKind.u32 0, Value.int IntKind.u32 0, Value.int IntKind.u32 0, Value.int IntKind.u32 0, Value.int IntKind.u32 0, Value.int IntKind.u32 0, Value.int IntKind.u32 0, Value.int IntKind.u32 0,Value.int IntKind.u32 0, Value.int IntKind.u32 0, Value.int IntKind.u32 0, Value.int IntKind.u32 0, Value.int IntKind.u32 0, Value.int IntKind.u32 0, Value.int IntKind.u32 0, Value.int IntKind.u32 0,Value.int IntKind.u32 0, Value.int IntKind.u32 0, Value.int IntKind.u32 0, Value.int IntKind.u32 0, Value.int IntKind.u32 0, Value.int IntKind.u32 0, Value.int IntKind.u32 0, Value.int IntKind.u32 0,Value.int IntKind.u32 0, Value.int IntKind.u32 0, Value.int IntKind.u32 0, Value.int IntKind.u32 0, Value.int IntKind.u32 0, Value.int IntKind.u32 0, Value.int IntKind.u32 0, Value.int IntKind.u32 0,Value.int IntKind.u32 0, Value.int IntKind.u32 0, Value.int IntKind.u32 0, Value.int IntKind.u32 0, Value.int IntKind.u32 0, Value.int IntKind.u32 0, Value.int IntKind.u32 0, Value.int IntKind.u32 0,Value.int IntKind.u32 0, Value.int IntKind.u32 0, Value.int IntKind.u32 0, Value.int IntKind.u32 0, Value.int IntKind.u32 0, Value.int IntKind.u32 0, Value.int IntKind.u32 0, Value.int IntKind.u32 0,Value.int IntKind.u32 0, Value.int IntKind.u32 0, Value.int IntKind.u32 0, Value.int IntKind.u32 0, Value.int IntKind.u32 0, Value.int IntKind.u32 0, Value.int IntKind.u32 0, Value.int IntKind.u32 0,Value.int IntKind.u32 0, Value.int IntKind.u32 0, Value.int IntKind.u32 0, Value.int IntKind.u32 0, Value.int IntKind.u32 0, Value.int IntKind.u32 0, Value.int IntKind.u32 0, Value.int IntKind.u32 0] : Array Value) = rowOf .u32 64 (fun _ => 0) := by rfl
set_option maxRecDepth 100000 in
set_option maxHeartbeats 400000 in
theorem expand_any (bl : Nat → Int) (w : World) :
    Calls Tryz.prog 233 #[.agg (rowOf .u8 64 bl)] w fun e w' => e = .returned (.agg (rowOf .u32 64 (expB bl 48))) ∧ Below w.heap.size w w' := by
  go_enter Tryz.func233, Tryz.ntmps233
  go_wp2
  rw [zeros64]
  have hR1 := (((RowAt.new w .u8 64 280 bl).alloc (.cells (rowOf .u32 64 (fun _ => 0)) 216)).alloc (.cells (rowOf .u32 64 (fun _ => 0)) 216))
  have hR2 := ((RowAt.new (w.alloc (.cells (rowOf .u8 64 bl) 280)) .u32 64 216 (fun _ => 0)).alloc (.cells (rowOf .u32 64 (fun _ => 0)) 216))
  have hR3 := (RowAt.new ((w.alloc (.cells (rowOf .u8 64 bl) 280)).alloc (.cells (rowOf .u32 64 (fun _ => 0)) 216)) .u32 64 216 (fun _ => 0))
  have hB : Below w.heap.size w (((w.alloc (.cells (rowOf .u8 64 bl) 280)).alloc (.cells (rowOf .u32 64 (fun _ => 0)) 216)).alloc (.cells (rowOf .u32 64 (fun _ => 0)) 216)) :=
    (((Below.refl _ _).alloc (Nat.le_refl _) _).alloc (by simp) _).alloc (by simp; omega) _
  simp at hR2 hR3
  go_loopw [10] (fun i wr => ∃ k : Nat, k ≤ 16 ∧ i = .int .i64 k ∧ RowAt wr w.heap.size .u8 64 280 bl ∧ RowAt wr (w.heap.size + 1) .u32 64 216 (fun _ => 0) ∧ RowAt wr (w.heap.size + 1 + 1) .u32 64 216 (expA bl k) ∧ Below w.heap.size w wr)
    (fun i _ => 16 - (intOf i).toNat)
  case atStart => exact ⟨0, by omega, rfl, hR1, hR2, hR3, hB⟩
  case round =>
    clear hR1 hR2 hR3 hB
    obtain ⟨k, hk, rfl, R1, R2, R3, HB⟩ := hrel
    by_cases hlt : k < 16
    · have c0 := R1.cell (4 * k) (by omega)
      have c1 := R1.cell (4 * k + 1) (by omega)
      have c2 := R1.cell (4 * k + 2) (by omega)
      have c3 := R1.cell (4 * k + 3) (by omega)
      have f0 := R3.free k
      go_wp2
      have m0 : IntKind.i64.wrap (4 * (k : Int)) = 4 * k := IntWalk.i64_in _ (by omega)
      have m1 : IntKind.i64.wrap (4 * (k : Int) + 1) = 4 * k + 1 := IntWalk.i64_in _ (by omega)
      have m2 : IntKind.i64.wrap (4 * (k : Int) + 2) = 4 * k + 2 := IntWalk.i64_in _ (by omega)
      have m3 : IntKind.i64.wrap (4 * (k : Int) + 3) = 4 * k + 3 := IntWalk.i64_in _ (by omega)
      have n0 : (4 * (k : Int)).toNat = 4 * k := by omega
      have n1 : (4 * (k : Int) + 1).toNat = 4 * k + 1 := by omega
      have n2 : (4 * (k : Int) + 2).toNat = 4 * k + 2 := by omega
      have n3 : (4 * (k : Int) + 3).toNat = 4 * k + 3 := by omega
      have p0 : 0 ≤ (4 * (k : Int)) := by omega
      have p1 : 0 ≤ (4 * (k : Int) + 1) := by omega
      have p2 : 0 ≤ (4 * (k : Int) + 2) := by omega
      have p3 : 0 ≤ (4 * (k : Int) + 3) := by omega
      have q0 : 4 * (k : Int) < 64 := by omega
      have q1 : 4 * (k : Int) + 1 < 64 := by omega
      have q2 : 4 * (k : Int) + 2 < 64 := by omega
      have q3 : 4 * (k : Int) + 3 < 64 := by omega
      have q4 : (k : Int) < 64 := by omega
      go_still_tail 31, (by kernel_rfl)
      change wpList _ _ _ _ _ wr.drew
      clear m0 m1 m2 m3 n0 n1 n2 n3 p0 p1 p2 p3 q0 q1 q2 q3 c0 c1 c2 c3 f0
      replace R1 : RowAt wr.drew w.heap.size .u8 64 280 bl := R1
      replace R2 : RowAt wr.drew (w.heap.size + 1) .u32 64 216 (fun _ => 0) := R2
      replace R3 : RowAt wr.drew (w.heap.size + 1 + 1) .u32 64 216 (expA bl k) := R3
      replace HB := HB.drew
      generalize wr.drew = w2 at *
      have f0 := R3.free k
      have c0 := R3.cell k (by omega)
      go_wp2
      go_roundw
      case rel => exact ⟨k + 1, by omega, by go_num, R1.other _ _ (by simp; omega), R2.other _ _ (by simp), R3.set k _, HB.setCell (by simp; omega) _⟩
      case measure => simp [intOf]; omega
    · have H16 := Lib.hid (show k = 16 by omega)
      replace R3 : RowAt wr (w.heap.size + 1 + 1) .u32 64 216 (expA bl 16) := by rw [← H16.out]; exact R3
      go_wp2
      go_loopw [45] (fun i wr => ∃ k : Nat, k ≤ 48 ∧ i = .int .i64 k ∧ RowAt wr w.heap.size .u8 64 280 bl ∧ RowAt wr (w.heap.size + 1) .u32 64 216 (fun _ => 0) ∧ RowAt wr (w.heap.size + 1 + 1) .u32 64 216 (expB bl k) ∧ Below w.heap.size w wr)
        (fun i _ => 48 - (intOf i).toNat)
      case atStart => exact ⟨0, by omega, rfl, R1, R2, R3, HB⟩
      case round =>
        clear R1 R2 R3 HB hk hlt
        obtain ⟨q, hk, rfl, R1, R2, R3, HB⟩ := hrel
        by_cases hlt : q < 48
        · have c0 := R3.cell (q + 1) (by omega)
          have c1 := R3.cell (q + 14) (by omega)
          have c2 := R3.cell q (by omega)
          have c3 := R3.cell (q + 9) (by omega)
          have c4 := R3.cell (q + 16) (by omega)
          have f0 := R3.free (q + 16)
          go_wp2
          have m0 : IntKind.i64.wrap ((q : Int) + 1) = q + 1 := IntWalk.i64_in _ (by omega)
          have m1 : IntKind.i64.wrap ((q : Int) + 14) = q + 14 := IntWalk.i64_in _ (by omega)
          have n0 : ((q : Int) + 1).toNat = q + 1 := by omega
          have n1 : ((q : Int) + 14).toNat = q + 14 := by omega
          have p0 : 0 ≤ ((q : Int) + 1) := by omega
          have p1 : 0 ≤ ((q : Int) + 14) := by omega
          have q0 : (q : Int) + 1 < 64 := by omega
          have q1 : (q : Int) + 14 < 64 := by omega
          go_quiet (fail)
          go_wp2_with (first | (go_at_call 234; (with_reducible refine (rot7 _ _).mono ?_); rintro e w' ⟨rfl, rfl⟩) | (go_at_call 234; (with_reducible refine (rot18 _ _).mono ?_); rintro e w' ⟨rfl, rfl⟩) | (go_at_call 234; (with_reducible refine (rot17 _ _).mono ?_); rintro e w' ⟨rfl, rfl⟩) | (go_at_call 234; (with_reducible refine (rot19 _ _).mono ?_); rintro e w' ⟨rfl, rfl⟩))
          clear m0 m1 n0 n1 p0 p1 q0 q1 c0 c1 c2 c3 c4 f0
          replace R1 : RowAt (wr.drewN nq) w.heap.size .u8 64 280 bl := R1
          replace R2 : RowAt (wr.drewN nq) (w.heap.size + 1) .u32 64 216 (fun _ => 0) := R2
          replace R3 : RowAt (wr.drewN nq) (w.heap.size + 1 + 1) .u32 64 216 (expB bl q) := R3
          replace HB : Below w.heap.size w (wr.drewN nq) := ⟨HB.os, HB.tape, HB.output, HB.size, HB.block⟩
          generalize wr.drewN nq = w2 at *
          have c2 := R3.cell q (by omega)
          have c3 := R3.cell (q + 9) (by omega)
          have m0 : IntKind.i64.wrap ((q : Int) + 16) = q + 16 := IntWalk.i64_in _ (by omega)
          have m1 : IntKind.i64.wrap ((q : Int) + 9) = q + 9 := IntWalk.i64_in _ (by omega)
          have n0 : ((q : Int) + 16).toNat = q + 16 := by omega
          have n1 : ((q : Int) + 9).toNat = q + 9 := by omega
          have p0 : 0 ≤ ((q : Int) + 16) := by omega
          have p1 : 0 ≤ ((q : Int) + 9) := by omega
          have q0 : (q : Int) + 16 < 64 := by omega
          have q1 : (q : Int) + 9 < 64 := by omega
          have q2 : (q : Int) < 64 := by omega
          go_still_tail 15, (by kernel_rfl)
          change wpList _ _ _ _ _ w2.drew
          clear m0 m1 n0 n1 p0 p1 q0 q1 q2 c2 c3
          replace R1 : RowAt w2.drew w.heap.size .u8 64 280 bl := R1
          replace R2 : RowAt w2.drew (w.heap.size + 1) .u32 64 216 (fun _ => 0) := R2
          replace R3 : RowAt w2.drew (w.heap.size + 1 + 1) .u32 64 216 (expB bl q) := R3
          replace HB := HB.drew
          generalize w2.drew = w3 at *
          have f0 := R3.free (q + 16)
          have c0 := R3.cell (q + 16) (by omega)
          go_wp2
          go_roundw
          case rel =>
            have R4 := R3.set (q + 16) (nextW (expB bl q) q)
            exact ⟨q + 1, by omega, by go_num, R1.other _ _ (by simp; omega), R2.other _ _ (by simp), R4, HB.setCell (by simp; omega) _⟩
          case measure => simp [intOf]; omega
        · replace R3 : RowAt wr (w.heap.size + 1 + 1) .u32 64 216 (expB bl 48) := by rw [show (48 : Nat) = q by omega]; exact R3
          go_wp2_with (first | (refine wpList_load_row rfl 216 (.tmp 3) rfl _ rfl 216 _ (0,0) _ R3 Tryz.underlying216 rfl (by rw [rowOf_size]; kernel_rfl) ?_) | (refine wpList_store_row rfl 216 (.tmp 2) (.tmp 88) rfl _ _ rfl rfl 216 _ R2 (by rw [rowOf_size]; kernel_rfl) (by rw [rowOf_size, rowOf_size]) (rowOf_one _ _ _) ?_))
          refine bodyPost_ret (results_cell_row rfl _ _ (w.heap.size + 1) 216 (rowOf .u32 64 (expB bl 48)) (0, 0) _ rfl (setRow_heap _ _ _ _ _ _ R2) Tryz.underlying216 rfl (by rw [rowOf_size]; kernel_rfl)) rfl ?_
          exact ⟨rfl, below_setRow HB (by omega) _⟩
end Go.Proofs.YtejglhlodfhgkaaGreatDoor
