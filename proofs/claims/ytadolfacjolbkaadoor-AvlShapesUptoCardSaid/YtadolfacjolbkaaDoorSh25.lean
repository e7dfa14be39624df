/- Part 25 of the proof. -/
import Derived.ProofKit
import Derived.OpenShut
import Derived.Deep.Slices
import Derived.SizedLaws
import Derived.Test.YtadolfacjolbkaaDoorSh1
import Derived.Test.YtadolfacjolbkaaDoorSh2
namespace Go.Proofs.YtadolfacjolbkaaDoor
set_option linter.unusedVariables false
set_option linter.unusedSimpArgs false
open Go.RowKit
set_option linter.unusedSimpArgs false
set_option linter.unusedVariables false
namespace AvT
def shape : AvT → List Bool
  | leaf _ _ => [false]
  | node a b => true :: (a.shape ++ b.shape)
theorem shape_len : ∀ t : AvT, t.shape.length + 1 = 2 * t.many
  | leaf _ _ => rfl
  | node a b => by
    have := shape_len a; have := shape_len b
    simp only [shape, many, List.length_cons, List.length_append]; omega
end AvT
def shapeO (t : Option AvT) : List Bool := match t with
  | none => []
  | some t => t.shape
def nearB (a b : AvT) : Bool := decide (a.height ≤ b.height + 1) && decide (b.height ≤ a.height + 1)
theorem nearB_bal {a b : AvT} : (AvT.node a b).bal ↔ a.bal ∧ b.bal ∧ nearB a b = true := by
  simp only [AvT.bal, nearB, Bool.and_eq_true, decide_eq_true_eq]
/-- a round of Build: the stack (top first), and the pairs that are left (the last one first) -/
def bst (x : Bool) (s : List AvT × List KV) : Option (List AvT × List KV) := match x, s with
  | false, (st, p :: l) => some (.leaf p.1 p.2 :: st, l)
  | true, (a :: b :: st, l) => if nearB a b then some (.node a b :: st, l) else none
  | _, _ => none
def bfold : List Bool → List AvT × List KV → Option (List AvT × List KV)
  | [], s => some s
  | x :: r, s => (bst x s).bind (bfold r)
theorem bfold_append (p q : List Bool) : ∀ s, bfold (p ++ q) s = (bfold p s).bind (bfold q) := by
  induction p with
  | nil => intro s; rfl
  | cons x p ih =>
    intro s
    simp only [List.cons_append, bfold]
    cases bst x s with
    | none => rfl
    | some s' => exact ih s'
theorem bfold_snoc (p : List Bool) (x : Bool) (s : List AvT × List KV) : bfold (p ++ [x]) s = (bfold p s).bind (bst x) := by
  rw [bfold_append]
  cases bfold p s with
  | none => rfl
  | some s' =>
    simp only [Option.bind_some, bfold]
    cases bst x s' with
    | none => rfl
    | some s'' => rfl
/-- what the stack holds is what was read -/
theorem bfold_sound (L : List KV) (p : List Bool) : ∀ st l, bfold p.reverse ([], L) = some (st, l) → p = st.flatMap AvT.shape ∧ L.reverse = l.reverse ++ st.flatMap AvT.pairs ∧ ∀ t ∈ st, t.bal := by
  induction p with
  | nil =>
    intro st l h
    simp only [List.reverse_nil, bfold, Option.some.injEq, Prod.mk.injEq] at h
    obtain ⟨rfl, rfl⟩ := h
    refine ⟨rfl, ?_, fun t ht => by cases ht⟩
    rw [List.flatMap_nil, List.append_nil]
  | cons x p ih =>
    intro st l h
    rw [List.reverse_cons, bfold_snoc] at h
    cases hb : bfold p.reverse ([], L) with
    | none => rw [hb] at h; cases h
    | some s =>
      obtain ⟨st0, l0⟩ := s
      rw [hb] at h
      simp only [Option.bind_some] at h
      obtain ⟨h1, h2, h3⟩ := ih st0 l0 hb
      unfold bst at h
      split at h
      · rename_i st1 q l1 e
        cases e
        cases h
        refine ⟨by rw [List.flatMap_cons, h1]; rfl, ?_, fun t ht => ?_⟩
        · rw [h2, List.flatMap_cons, List.reverse_cons, List.append_assoc]; rfl
        · rcases List.mem_cons.1 ht with rfl | ht
          · exact trivial
          · exact h3 t ht
      · rename_i a b st1 l1 e
        cases e
        split at h
        · rename_i hn
          cases h
          refine ⟨?_, ?_, fun t ht => ?_⟩
          · rw [h1]; simp only [List.flatMap_cons, AvT.shape, List.cons_append, List.append_assoc]
          · rw [h2]; simp only [List.flatMap_cons, AvT.pairs, List.append_assoc]
          · rcases List.mem_cons.1 ht with rfl | ht
            · exact nearB_bal.2 ⟨h3 a (by simp), h3 b (by simp), hn⟩
            · exact h3 t (by simp [ht])
        · cases h
      · cases h
theorem bfold_count {p : List Bool} {L : List KV} {st : List AvT} {l : List KV} (h : bfold p ([], L) = some (st, l)) : L.length = l.length + (st.flatMap AvT.pairs).length := by
  have h1 := (bfold_sound L p.reverse st l (by rw [List.reverse_reverse]; exact h)).2.1
  have h2 := congrArg List.length h1
  simpa using h2
theorem bfold_bal {p : List Bool} {L : List KV} {st : List AvT} {l : List KV} (h : bfold p ([], L) = some (st, l)) : ∀ t ∈ st, t.bal := (bfold_sound L p.reverse st l (by rw [List.reverse_reverse]; exact h)).2.2
theorem stack_len : ∀ st : List AvT, st.length ≤ (st.flatMap AvT.pairs).length
  | [] => by simp
  | t :: st => by
    have h1 := stack_len st
    have h2 := t.many_pos
    have h3 := t.many_eq
    simp only [List.flatMap_cons, List.length_append, List.length_cons]; omega
theorem stack_two (a b : AvT) (st : List AvT) : a.many + b.many ≤ ((a :: b :: st).flatMap AvT.pairs).length := by
  have h3 := a.many_eq
  have h4 := b.many_eq
  simp only [List.flatMap_cons, List.length_append]; omega
theorem bfold_whole : ∀ (t : AvT), t.bal → ∀ st l, bfold t.shape.reverse (st, t.pairs.reverse ++ l) = some (t :: st, l)
  | .leaf k v, _, st, l => rfl
  | .node a b, h, st, l => by
    obtain ⟨ha, hb, hn⟩ := nearB_bal.1 h
    simp only [AvT.shape, AvT.pairs, List.reverse_cons, List.reverse_append, List.append_assoc]
    rw [bfold_append, bfold_whole b hb, Option.bind_some, bfold_append, bfold_whole a ha, Option.bind_some]
    simp only [bfold, bst, hn, if_true, Option.bind_some]
def buildP (s : List Bool) (L : List KV) : Option AvT := match bfold s.reverse ([], L.reverse) with
  | some ([t], []) => some t
  | _ => none
theorem buildP_iff (s : List Bool) (L : List KV) (t : AvT) : buildP s L = some t ↔ s = t.shape ∧ L = t.pairs ∧ t.bal := by
  constructor
  · intro h
    unfold buildP at h
    split at h
    · rename_i t' hb
      cases h
      obtain ⟨h1, h2, h3⟩ := bfold_sound _ _ _ _ hb
      simp only [List.reverse_reverse, List.reverse_nil, List.nil_append, List.flatMap_cons, List.flatMap_nil, List.append_nil] at h1 h2
      exact ⟨h1, h2, h3 _ (by simp)⟩
    · cases h
  · rintro ⟨rfl, rfl, h⟩
    unfold buildP
    have := bfold_whole t h [] []
    rw [List.append_nil] at this
    rw [this]
/-- read from ahead, as the reference reads -/
def rdF : Nat → List Bool → List KV → Option (AvT × List Bool × List KV)
  | 0, _, _ => none
  | _ + 1, [], _ => none
  | _ + 1, _ :: _, [] => none
  | _ + 1, false :: s, p :: l => some (.leaf p.1 p.2, s, l)
  | n + 1, true :: s, p :: l => match rdF n s (p :: l) with
    | none => none
    | some (a, s1, l1) => match rdF n s1 l1 with
      | none => none
      | some (b, s2, l2) => if nearB a b then some (.node a b, s2, l2) else none
theorem rdF_sound : ∀ (n : Nat) (s : List Bool) (l : List KV) (t : AvT) (s' : List Bool) (l' : List KV), rdF n s l = some (t, s', l') → s = t.shape ++ s' ∧ l = t.pairs ++ l' ∧ t.bal := by
  intro n
  induction n with
  | zero => intro s l t s' l' h; cases h
  | succ n ih =>
    intro s l t s' l' h
    match s, l, h with
    | [], _, h => cases h
    | _ :: _, [], h => cases h
    | false :: s, p :: l, h =>
      simp only [rdF, Option.some.injEq, Prod.mk.injEq] at h
      obtain ⟨rfl, rfl, rfl⟩ := h
      exact ⟨rfl, rfl, trivial⟩
    | true :: s, p :: l, h =>
      simp only [rdF] at h
      cases h1 : rdF n s (p :: l) with
      | none => rw [h1] at h; cases h
      | some x =>
        obtain ⟨a, s1, l1⟩ := x
        rw [h1] at h
        simp only at h
        cases h2 : rdF n s1 l1 with
        | none => rw [h2] at h; cases h
        | some y =>
          obtain ⟨b, s2, l2⟩ := y
          rw [h2] at h
          simp only at h
          split at h
          · rename_i hn
            simp only [Option.some.injEq, Prod.mk.injEq] at h
            obtain ⟨rfl, rfl, rfl⟩ := h
            obtain ⟨e1, e2, e3⟩ := ih _ _ _ _ _ h1
            obtain ⟨f1, f2, f3⟩ := ih _ _ _ _ _ h2
            refine ⟨by rw [e1, f1]; simp only [AvT.shape, List.cons_append, List.append_assoc], by rw [e2, f2]; simp only [AvT.pairs, List.append_assoc], nearB_bal.2 ⟨e3, f3, hn⟩⟩
          · cases h
theorem rdF_whole : ∀ (t : AvT), t.bal → ∀ (n : Nat) (s' : List Bool) (l' : List KV), t.shape.length ≤ n → rdF n (t.shape ++ s') (t.pairs ++ l') = some (t, s', l')
  | .leaf k v, _, n, s', l', hn => by
    obtain ⟨n, rfl⟩ : ∃ m, n = m + 1 := ⟨n - 1, by simp only [AvT.shape, List.length_cons] at hn; omega⟩
    rfl
  | .node a b, h, n, s', l', hn => by
    obtain ⟨ha, hb, hnb⟩ := nearB_bal.1 h
    simp only [AvT.shape, List.length_cons, List.length_append] at hn
    obtain ⟨n, rfl⟩ : ∃ m, n = m + 1 := ⟨n - 1, by omega⟩
    have h1 := rdF_whole a ha n (b.shape ++ s') (b.pairs ++ l') (by omega)
    have h2 := rdF_whole b hb n s' l' (by omega)
    simp only [AvT.shape, AvT.pairs, List.cons_append, List.append_assoc]
    obtain ⟨v, r, hr⟩ := AvT.pairs_head a
    rw [hr, List.cons_append] at h1 ⊢
    simp only [rdF, h1, h2, hnb, if_true]
def buildR (s : List Bool) (L : List KV) : Option AvT := match rdF s.length s L with
  | some (t, [], []) => some t
  | _ => none
theorem buildR_iff (s : List Bool) (L : List KV) (t : AvT) : buildR s L = some t ↔ s = t.shape ∧ L = t.pairs ∧ t.bal := by
  constructor
  · intro h
    unfold buildR at h
    split at h
    · rename_i t' hb
      cases h
      obtain ⟨h1, h2, h3⟩ := rdF_sound _ _ _ _ _ _ hb
      rw [List.append_nil] at h1 h2
      exact ⟨h1, h2, h3⟩
    · cases h
  · rintro ⟨rfl, rfl, h⟩
    unfold buildR
    have := rdF_whole t h t.shape.length [] [] (Nat.le_refl _)
    rw [List.append_nil, List.append_nil] at this
    rw [this]
theorem build_same (s : List Bool) (L : List KV) : buildP s L = buildR s L := by
  cases h : buildP s L with
  | some t => exact ((buildR_iff s L t).2 ((buildP_iff s L t).1 h)).symm
  | none =>
    cases h2 : buildR s L with
    | none => rfl
    | some t => rw [(buildP_iff s L t).2 ((buildR_iff s L t).1 h2)] at h; cases h
/-- each key is greater than the one ahead of it -/
def Ris (l : List KV) : Prop := ∀ i p q, l[i]? = some p → l[i + 1]? = some q → bl p.1 q.1 = true
theorem ris_of_srt {l : List KV} (h : Srt l) : Ris l := fun i p q hp hq => by
  obtain ⟨hi, rfl⟩ := List.getElem?_eq_some_iff.1 hp
  obtain ⟨hj, rfl⟩ := List.getElem?_eq_some_iff.1 hq
  exact List.pairwise_iff_getElem.1 h i (i + 1) hi hj (by omega)
def risB (l : List KV) : Bool := (List.range l.length).all fun i => match l[i]?, l[i + 1]? with
  | some p, some q => bl p.1 q.1
  | _, _ => true
theorem risB_iff (l : List KV) : risB l = true ↔ Ris l := by
  unfold risB Ris
  rw [List.all_eq_true]
  constructor
  · intro h i p q hp hq
    have := h i (List.mem_range.2 (List.getElem?_eq_some_iff.1 hp).1)
    rw [hp, hq] at this
    exact this
  · intro h i hi
    cases hp : l[i]? with
    | none => rfl
    | some p =>
      cases hq : l[i + 1]? with
      | none => rfl
      | some q => exact h i p q hp hq
/-- Build's answer: a tree or none, or the error 3 -/
def buildA (s : List Bool) (L : List KV) : Option (Option AvT) :=
  if s.length = 0 ∧ L.length = 0 then some none else if risB L = true then (buildP s L).map some else none
theorem buildA_own {t : Option AvT} (hb : balO t) (hs : Srt (pairsO t)) : buildA (shapeO t) (pairsO t) = some t := by
  unfold buildA
  cases t with
  | none => rw [if_pos ⟨rfl, rfl⟩]
  | some t =>
    rw [if_neg, if_pos ((risB_iff _).2 (ris_of_srt hs)), show buildP (shapeO (some t)) (pairsO (some t)) = some t from (buildP_iff _ _ t).2 ⟨rfl, rfl, hb⟩]
    · rfl
    · rintro ⟨h, _⟩
      cases t <;> simp [shapeO, AvT.shape] at h
theorem buildA_pairs {s : List Bool} {L : List KV} {t : Option AvT} (h : buildA s L = some t) : pairsO t = L := by
  unfold buildA at h
  split at h
  · rename_i h0; cases h; exact (List.eq_nil_of_length_eq_zero h0.2).symm
  · split at h
    · cases hb : buildP s L with
      | none => rw [hb] at h; cases h
      | some t' => rw [hb] at h; cases h; exact ((buildP_iff _ _ _).1 hb).2.1.symm
    · cases h
end Go.Proofs.YtadolfacjolbkaaDoor
namespace Go.Proofs.YtadolfacjolbkaaDoor
set_option linter.unusedVariables false
set_option linter.unusedSimpArgs false
open Go.ChangeShapes Go.WideShapes Go.ChangeAt Go.RowKit
theorem cellsU8 : Tryd.prog.cellsOf 5 = 1 := by kernel_rfl
theorem bytesOfU8 : Tryd.prog.bytesOf 5 = 1 := by kernel_rfl
/-- each value counts one at least -/
theorem bulk_one {H : Type} (d : DataW H) : 1 ≤ Rows.uptoBulk d := by
  cases d with
  | lit l => cases l <;> simp [Rows.uptoBulk]
  | _ => simp [Rows.uptoBulk]
theorem bulk_len {H : Type} : ∀ l : List (DataW H), l.length ≤ Rows.uptoBulkAll l
  | [] => by simp
  | d :: r => by
    have h1 := bulk_one d
    have h2 := bulk_len r
    simp only [Rows.uptoBulkAll, List.length_cons]
    omega
theorem bulk_mem {H : Type} {d : DataW H} : ∀ {l : List (DataW H)}, d ∈ l → Rows.uptoBulk d ≤ Rows.uptoBulkAll l
  | e :: r, h => by
    simp only [Rows.uptoBulkAll]
    rcases List.mem_cons.1 h with rfl | h
    · omega
    · have := bulk_mem h; omega
/-- a slice of bytes that came in -/
theorem bytes_raw {H : Type} {enc : TypeId × Value → H} {W : World} {fuel : Nat} {cs : List Value} {x : DataW H × List MemPlace} (h : DataW.trod enc Tryd.prog W 0 (fun _ => true) true fuel 126 cs = some x) :
    ∃ v xs, cs = [v] ∧ BytesIn W v xs ∧ bytesOk xs ∧ (∃ a c, v = .slice a xs.length c) ∧ xs.length ≤ Rows.uptoBulk x.1 ∧ (x.1 = .nil ∧ xs = [] ∨ ∃ elems spare, x.1 = .slice elems spare ∧ elems.length = xs.length) := by
  rcases open_ints Tryd.underlying126 Tryd.underlying5 (by kernel_rfl) h with ⟨hcs, hx⟩ | ⟨a, l, c, zs, hcs, _, hl, hm, hz, hx, hcell, hwz⟩
  · exact ⟨_, [], hcs, ⟨_, _, rfl, by simp, by simp [maxLen], .inl rfl⟩, (by intro x hx; cases hx), ⟨_, _, rfl⟩, by simp, .inl ⟨by rw [hx], rfl⟩⟩
  · simp only [if_true] at hz
    have hlen : (zs.take l).length = l := by rw [List.length_take]; omega
    refine ⟨_, zs.take l, hcs, ⟨some a, c, by rw [hlen], by rw [hlen]; exact hl, by rw [hlen]; omega, ?_⟩, fun y hy => ?_, ⟨some a, c, by rw [hlen]⟩, ?_, ?_⟩
    · by_cases hl0 : l = 0
      · left; subst hl0; simp
      · right
        obtain ⟨b, off, spot⟩ := a
        have hspot : spot = none := by simpa [Addr.add] using World.cell?_spot (hcell 0 (by omega))
        subst hspot
        refine ⟨b, off, rfl, fun i y hi => ?_⟩
        have hil : i < l := by have := (List.getElem?_eq_some_iff.1 hi).1; omega
        rw [List.getElem?_take, if_pos hil] at hi
        have := hcell i (by omega)
        rw [Addr.add_mid] at this
        rw [this]
        simp [List.getD, hi]
    · have h2 := bounds_u8 (hwz y (List.mem_of_mem_take hy))
      omega
    · rw [hx]
      have h1 := bulk_len (lits (H := H) IntKind.u8 (zs.take l))
      simp only [lits, List.length_map] at h1
      simp only [Rows.uptoBulk, lits]
      omega
    · rw [hx]
      exact .inr ⟨_, _, rfl, by simp [lits]⟩
/-- a slice of bytes that came in -/
theorem bytes_arg {H : Type} {enc : TypeId × Value → H} {W : World} {a : Option Addr} {len cap : Nat} {d : DataW H} {p : List MemPlace} (h : DataW.Trod enc Tryd.prog W 0 (fun _ => true) true 126 (.slice a len cap) d p) :
    ∃ xs : List Int, xs.length = len ∧ BytesIn W (.slice a len cap) xs ∧ bytesOk xs ∧ (∀ ts ds : List _, ∀ j : Nat, ts[j]? = some 126 → ds[j]? = some d → (DataW.weightsEach Tryd.prog ts ds).all (· ≤ reachBytes) = true → len ≤ 140737488351232) := by
  obtain ⟨fuel, hf⟩ := h
  obtain ⟨v, xs, hcs, hin, hok, ⟨a', c', hv⟩, _, hd⟩ := bytes_raw hf
  simp only [Value.cells] at hcs
  obtain rfl : Value.slice a len cap = v := by simpa using hcs
  injection hv with e1 e2 e3
  refine ⟨xs, e2.symm, hin, hok, fun ts ds j ht hdj hw => ?_⟩
  rcases hd with ⟨_, rfl⟩ | ⟨elems, spare, he, hel⟩
  · simp at e2; omega
  · simp only at he
    rw [he] at hdj
    have := sized_slice hw (j := j) (t := 126) (e := 5) ht hdj Tryd.underlying126
    rw [bytesOfU8] at this
    simp only [reachBytes] at this
    omega
theorem bytes_argB {H : Type} {enc : TypeId × Value → H} {W : World} {a : Option Addr} {len cap : Nat} {d : DataW H} {p : List MemPlace} (h : DataW.Trod enc Tryd.prog W 0 (fun _ => true) true 126 (.slice a len cap) d p) :
    ∃ xs : List Int, xs.length = len ∧ BytesIn W (.slice a len cap) xs ∧ bytesOk xs ∧ len ≤ Rows.uptoBulk d := by
  obtain ⟨fuel, hf⟩ := h
  obtain ⟨v, xs, hcs, hin, hok, ⟨a', c', hv⟩, hbulk, hd⟩ := bytes_raw hf
  simp only [Value.cells] at hcs
  obtain rfl : Value.slice a len cap = v := by simpa using hcs
  injection hv with e1 e2 e3
  exact ⟨xs, e2.symm, hin, hok, by rw [e2]; exact hbulk⟩
/-- a slice of slices of bytes -/
def BssIn (w : World) (v : Value) (ps : List (List Int)) : Prop :=
  ∃ a c, v = .slice a ps.length c ∧ ps.length ≤ c ∧ ps.length ≤ maxLen ∧ (ps = [] ∨ ∃ ab ao, a = some ⟨ab, ao, none⟩ ∧ ∀ i p, ps[i]? = some p → ∃ u, w.cell? ⟨ab, ao + i, none⟩ = some u ∧ BytesIn w u p)
theorem BssIn.below {w w' : World} {v : Value} {ps : List (List Int)} (h : BssIn w v ps) (hb : Below w.heap.size w w') : BssIn w' v ps := by
  obtain ⟨a, c, rfl, hc, hm, hx⟩ := h
  refine ⟨a, c, rfl, hc, hm, ?_⟩
  rcases hx with hx | ⟨ab, ao, rfl, hx⟩
  · exact .inl hx
  · refine .inr ⟨ab, ao, rfl, fun i p hi => ?_⟩
    obtain ⟨u, hu, hp⟩ := hx i p hi
    exact ⟨u, (hb.cell (p := ⟨ab, ao + i, none⟩) (World.block_lt_of_cell? w _ hu)).trans hu, hp.below hb⟩
end Go.Proofs.YtadolfacjolbkaaDoor
