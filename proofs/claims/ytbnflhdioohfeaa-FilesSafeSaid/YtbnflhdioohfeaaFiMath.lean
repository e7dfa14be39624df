/- Files by their names: sorted lists of entries, and what a map that holds them reads as. -/
import Derived.Test.YtbnflhdioohfeaaBase
import Derived.Maps.OwnSet
import Derived.Sort.KeysCollected
namespace Go.Proofs.Ytbnflhdioohfeaa
open Go.RowKit Go.Maps
set_option maxRecDepth 100000
/-- a file: its name, the slice of its bytes, the bytes, how many are safe -/
structure Ent where
  nm : List UInt8
  v : Value
  xs : List Int
  safe : Nat
def entV (e : Ent) : Value := .agg #[e.v, .int .i64 e.safe]
def entKV (e : Ent) : Lit × DataW Value := (.string e.nm, .held (entV e))
def entD (es : List Ent) : DataW Value := .map (es.map entKV)
def heldE (v : Value) : Option (DataW Value × List MemPlace) := some (.held v, [])
def SortedE (es : List Ent) : Prop := es.Pairwise fun a b => bytesBefore a.nm b.nm = true
def insE (e : Ent) : List Ent → List Ent
  | [] => [e]
  | y :: r => if bytesBefore e.nm y.nm then e :: y :: r else y :: insE e r
def delE (n : List UInt8) (es : List Ent) : List Ent := es.filter fun e => !(e.nm == n)
def putE (e : Ent) (es : List Ent) : List Ent := insE e (delE e.nm es)
def getE (n : List UInt8) (es : List Ent) : Option Ent := es.find? fun e => e.nm == n
theorem entD_del (n : List UInt8) (es : List Ent) : (entD es).del (.string n) = entD (delE n es) := by
  unfold entD delE DataW.del
  simp only [List.filter_map, DataW.map.injEq]
  rfl
theorem entD_ins (e : Ent) : ∀ es : List Ent, DataW.insert (entKV e) (es.map entKV) = (insE e es).map entKV
  | [] => rfl
  | y :: r => by
    simp only [List.map_cons, DataW.insert, insE]
    show (if bytesBefore e.nm y.nm = true then _ else _) = _
    split
    · rfl
    · rw [List.map_cons, entD_ins e r]
theorem entD_put (e : Ent) (es : List Ent) : (entD es).put (.string e.nm) (.held (entV e)) = entD (putE e es) := by
  have h := entD_del e.nm es
  unfold entD DataW.del at h
  simp only [DataW.map.injEq] at h
  unfold putE entD DataW.put
  simp only [DataW.map.injEq]
  rw [h]
  exact entD_ins e _
theorem entD_has (n : List UInt8) (es : List Ent) : Maps.has (entD es) (.string n) = (getE n es).isSome := by
  unfold entD getE
  rw [has_eq, List.any_map, Bool.eq_iff_iff, List.any_eq_true, List.find?_isSome]
  exact Iff.rfl
theorem entD_at (n : List UInt8) (es : List Ent) (zd : DataW Value) : (entD es).atKey (.string n) zd = match getE n es with | some e => .held (entV e) | none => zd := by
  unfold entD getE DataW.atKey
  simp only [List.find?_map]
  have h : ((fun p : Lit × DataW Value => p.1.sameKey (.string n)) ∘ entKV) = fun e => e.nm == n := rfl
  rw [h]
  cases es.find? fun e => e.nm == n <;> rfl
theorem entD_size (es : List Ent) : Maps.size (entD es) = es.length := by unfold entD; rw [size_eq, List.length_map]
theorem entD_keys (es : List Ent) : strKeys (entD es) = es.map (·.nm) := by show (es.map entKV).map (fun p => strOf p.1) = _; rw [List.map_map]; rfl
theorem mem_insE {e x : Ent} : ∀ {es : List Ent}, x ∈ insE e es ↔ x = e ∨ x ∈ es
  | [] => by simp [insE]
  | y :: r => by
    unfold insE
    split
    · simp
    · simp only [List.mem_cons, mem_insE (es := r)]; constructor
      · rintro (h | h | h)
        · exact .inr (.inl h)
        · exact .inl h
        · exact .inr (.inr h)
      · rintro (h | h | h)
        · exact .inr (.inl h)
        · exact .inl h
        · exact .inr (.inr h)
theorem mem_delE {n : List UInt8} {x : Ent} {es : List Ent} : x ∈ delE n es ↔ x ∈ es ∧ x.nm ≠ n := by
  unfold delE; rw [List.mem_filter]; simp
theorem mem_putE {e x : Ent} {es : List Ent} : x ∈ putE e es ↔ x = e ∨ x ∈ es ∧ x.nm ≠ e.nm := by
  unfold putE; rw [mem_insE, mem_delE]
theorem getE_some {n : List UInt8} {es : List Ent} {e : Ent} (h : getE n es = some e) : e ∈ es ∧ e.nm = n := by
  unfold getE at h
  exact ⟨List.mem_of_find?_eq_some h, by simpa using List.find?_some h⟩
theorem getE_none {n : List UInt8} {es : List Ent} (h : getE n es = none) : ∀ e ∈ es, e.nm ≠ n := fun e he => by
  unfold getE at h
  simpa using (List.find?_eq_none.1 h) e he
theorem sorted_del {es : List Ent} (n : List UInt8) (h : SortedE es) : SortedE (delE n es) := h.filter _
theorem sorted_ins {e : Ent} : ∀ {es : List Ent}, SortedE es → (∀ x ∈ es, x.nm ≠ e.nm) → SortedE (insE e es)
  | [], _, _ => by simp [insE, SortedE]
  | y :: r, h, hne => by
    obtain ⟨h1, h2⟩ := List.pairwise_cons.1 h
    unfold insE
    split
    · rename_i hb
      refine List.pairwise_cons.2 ⟨fun q hq => ?_, h⟩
      rcases List.mem_cons.1 hq with rfl | hq
      · exact hb
      · exact WideShapes.bytes_trans _ _ _ hb (h1 q hq)
    · rename_i hb
      refine List.pairwise_cons.2 ⟨fun q hq => ?_, sorted_ins h2 fun x hx => hne x (List.mem_cons_of_mem _ hx)⟩
      rcases mem_insE.1 hq with rfl | hq
      · rcases WideAt.bytes_total q.nm y.nm (fun e => hne y (by simp) e.symm) with h' | h'
        · exact absurd h' hb
        · exact h'
      · exact h1 q hq
theorem sorted_put {e : Ent} {es : List Ent} (h : SortedE es) : SortedE (putE e es) :=
  sorted_ins (sorted_del _ h) fun x hx => (mem_delE.1 hx).2
theorem length_insE (e : Ent) : ∀ es : List Ent, (insE e es).length = es.length + 1
  | [] => rfl
  | y :: r => by
    unfold insE
    split
    · rfl
    · simp [length_insE e r]
theorem sorted_nodup {es : List Ent} (h : SortedE es) : es.Pairwise fun a b => a.nm ≠ b.nm :=
  h.imp fun {a b} hab e => by rw [e, WideAt.bytes_irrefl] at hab; cases hab
theorem length_delE_some {n : List UInt8} {es : List Ent} {e : Ent} (h : SortedE es) (hg : getE n es = some e) : (delE n es).length + 1 = es.length := by
  induction es with
  | nil => cases hg
  | cons y r ih =>
    obtain ⟨h1, h2⟩ := List.pairwise_cons.1 (sorted_nodup h)
    unfold getE at hg
    by_cases hy : y.nm = n
    · subst hy
      have : delE y.nm r = r := by
        unfold delE
        rw [List.filter_eq_self]
        intro a ha
        have := (h1 a ha).symm
        simpa using this
      unfold delE at this ⊢
      rw [List.filter_cons_of_neg (by simp), this, List.length_cons]
    · rw [List.find?_cons_of_neg (by simpa using hy)] at hg
      have := ih (List.pairwise_cons.1 h).2 hg
      unfold delE at this ⊢
      rw [List.filter_cons_of_pos (by simpa using hy), List.length_cons, List.length_cons, this]
theorem length_delE_none {n : List UInt8} {es : List Ent} (hg : getE n es = none) : (delE n es).length = es.length := by
  unfold delE
  rw [List.filter_eq_self.2 fun a ha => by simpa using getE_none hg a ha]
theorem length_putE_some {e x : Ent} {es : List Ent} (h : SortedE es) (hg : getE e.nm es = some x) : (putE e es).length = es.length := by
  unfold putE; rw [length_insE]; exact length_delE_some h hg
theorem length_putE_none {e : Ent} {es : List Ent} (hg : getE e.nm es = none) : (putE e es).length = es.length + 1 := by
  unfold putE; rw [length_insE, length_delE_none hg]
theorem before_lt : ∀ a b : List UInt8, bytesBefore a b = true ↔ a < b
  | [], [] => by simp [bytesBefore]
  | [], b :: s => by simp [bytesBefore]
  | a :: r, [] => by simp [bytesBefore]
  | a :: r, b :: s => by
    rw [List.cons_lt_cons_iff, ← before_lt r s]
    simp [bytesBefore]
theorem before_le {a b : List UInt8} (h : bytesBefore a b = true) : a ≤ b := List.le_of_lt ((before_lt a b).1 h)
/-- the names of a sorted list, sorted, are as they are -/
theorem names_sort {es : List Ent} (h : SortedE es) {ss : List (List UInt8)} (hp : ss.Perm (strKeys (entD es))) : ss.mergeSort (fun x y => decide (x ≤ y)) = es.map (·.nm) := by
  rw [entD_keys] at hp
  have h1 := mergeSort_of_perm hp
  show ss.mergeSort leB = _
  rw [h1]
  refine List.mergeSort_of_pairwise (le := leB) ?_
  exact List.pairwise_map.2 (h.imp fun {a b} hab => by simp only [leB, decide_eq_true_eq]; exact before_le hab)
end Go.Proofs.Ytbnflhdioohfeaa
