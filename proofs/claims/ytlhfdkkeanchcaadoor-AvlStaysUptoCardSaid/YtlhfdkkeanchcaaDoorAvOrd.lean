/- avl: what lies in a range, in a tree dropped from. -/
import Derived.Test.YtlhfdkkeanchcaaDoorAvRng
namespace Go.Proofs.YtlhfdkkeanchcaaDoor
open Go.RowKit
set_option maxRecDepth 100000
set_option linter.unusedSimpArgs false
set_option linter.unusedVariables false
theorem eBA_list : eBA.toList = [] := by
  unfold eBA ByteArray.toList ByteArray.toList.loop
  simp [ByteArray.size]
theorem bl_eBA (a : ByteArray) : bl a eBA = false := by
  rw [Bool.eq_false_iff]
  intro h
  rw [bl_lt, eBA_list] at h
  exact absurd h (by simp)
theorem visO_eq {t : Option AvT} (h : Srt (pairsO t)) (k : ByteArray) : (t.map (AvT.vis k)).getD [] = (pairsO t).filter fun p => !bl p.1 k := by
  cases t with
  | none => rfl
  | some t => exact vis_eq k t h
theorem take_srt (hi : ByteArray) : ∀ l : List KV, Srt l → l.takeWhile (upTo hi) = l.filter (upTo hi)
  | [], _ => rfl
  | p :: l, h => by
    obtain ⟨h1, h2⟩ := List.pairwise_cons.1 h
    cases e : upTo hi p with
    | true => rw [List.takeWhile_cons, if_pos e, List.filter_cons, if_pos e, take_srt hi l h2]
    | false =>
      rw [List.takeWhile_cons, if_neg (by rw [e]; simp), List.filter_cons, if_neg (by rw [e]; simp)]
      refine (filter_no fun q hq => ?_).symm
      unfold upTo at e ⊢
      simp only [Bool.or_eq_false_iff] at e ⊢
      refine ⟨e.1, Bool.eq_false_iff.2 fun hq2 => ?_⟩
      have := bl_trans (h1 q hq) hq2
      rw [e.2] at this; cases this
theorem range_eq {t : Option AvT} (h : Srt (pairsO t)) (k hi : ByteArray) : rangeO t k hi = (pairsO t).filter fun p => !bl p.1 k && upTo hi p := by
  unfold rangeO
  rw [visO_eq h, take_srt hi _ (h.filter _), List.filter_filter]
  congr 1
  funext p
  rw [Bool.and_comm]
theorem range_full {t : Option AvT} (h : Srt (pairsO t)) : rangeO t eBA eBA = pairsO t := by
  rw [range_eq h]
  refine filter_all fun p _ => ?_
  rw [bl_eBA]
  unfold upTo
  rw [eBA_list]
  rfl
theorem manyO_eq (t : Option AvT) : (pairsO t).length = manyO t := by
  cases t with
  | none => rfl
  | some t => exact AvT.many_eq t
theorem getO_mem {t : Option AvT} (h : Srt (pairsO t)) (k v : ByteArray) : getO t k = some v ↔ (k, v) ∈ pairsO t := by
  cases t with
  | none => simp [getO, pairsO]
  | some t => exact get_mem k t h v
theorem getO_drop {t : Option AvT} (h : Srt (pairsO t)) (k : ByteArray) : getO (dropO t k) k = none := by
  cases e : getO (dropO t k) k with
  | none => rfl
  | some v =>
    have := (getO_mem (dropO_srt h k) k v).1 e
    rw [dropO_pairs h] at this
    have := (List.mem_filter.1 this).2
    simp at this
theorem drop_count (k : ByteArray) : ∀ l : List KV, Srt l → (l.filter fun p => !decide (p.1 = k)).length + (if l.any (fun p => decide (p.1 = k)) then 1 else 0) = l.length
  | [], _ => rfl
  | p :: l, h => by
    obtain ⟨h1, h2⟩ := List.pairwise_cons.1 h
    have ih := drop_count k l h2
    by_cases e : p.1 = k
    · have hn : ∀ q ∈ l, (!decide (q.1 = k)) = true := fun q hq => by
        have := bl_ne (h1 q hq)
        rw [e] at this
        simpa using fun e' => this e'.symm
      rw [List.filter_cons, if_neg (by simp [e]), filter_all hn, List.any_cons]
      simp [e]
    · rw [List.filter_cons, if_pos (by simp [e]), List.any_cons]
      simp only [e, decide_false, Bool.false_or, List.length_cons]
      omega
theorem manyO_drop {t : Option AvT} (h : Srt (pairsO t)) (k : ByteArray) : manyO (dropO t k) + (if (getO t k).isSome then 1 else 0) = manyO t := by
  rw [← manyO_eq, ← manyO_eq, dropO_pairs h]
  have := drop_count k (pairsO t) h
  have e : (getO t k).isSome = (pairsO t).any fun p => decide (p.1 = k) := by
    rw [Bool.eq_iff_iff, Option.isSome_iff_exists, List.any_eq_true]
    constructor
    · rintro ⟨v, hv⟩
      exact ⟨(k, v), (getO_mem h k v).1 hv, by simp⟩
    · rintro ⟨⟨k', v⟩, hv, he⟩
      have he : k' = k := by simpa using he
      subst he
      exact ⟨v, (getO_mem h k' v).2 hv⟩
  rw [e]; exact this
theorem find_place {t : Option AvT} (h : Srt (pairsO t)) {i : Nat} {p : KV} (hi : (pairsO t)[i]? = some p) : findO t p.1 = i ∧ getO t p.1 = some p.2 := by
  refine ⟨?_, (getO_mem h p.1 p.2).2 (List.mem_of_getElem? hi)⟩
  cases t with
  | none => simp [pairsO] at hi
  | some t =>
    show t.find p.1 = i
    rw [find_eq p.1 t h]
    exact srt_place _ h i p hi
/-- Range as a slice of pairs -/
theorem range_kv (p : Option Addr) (t : Option AvT) (k hi : ByteArray) (w : World) (ht : TreeO w (.pointer p) t) (hs : Srt (pairsO t)) (hm : manyO t ≤ 1048576) :
    Calls Tryd.prog 24 #[.pointer p, .string k, .string hi] w fun e w' => ∃ v, e = .returned v ∧ KVIn w' v (rangeO t k hi) ∧ Below w.heap.size w w' := by
  refine (range_any p t k hi w ht ?_).mono ?_
  · rw [visO_eq hs]
    have := List.length_filter_le (fun p : KV => !bl p.1 k) (pairsO t)
    rw [manyO_eq] at this
    omega
  · rintro e w' ⟨v, rfl, hrow, hb⟩
    exact ⟨v, rfl, KVIn.of_own hrow, hb⟩
end Go.Proofs.YtlhfdkkeanchcaaDoor
