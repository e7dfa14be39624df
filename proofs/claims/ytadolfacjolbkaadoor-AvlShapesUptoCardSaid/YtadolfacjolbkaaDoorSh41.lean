/- Part 41 of the proof. -/
import Derived.RangeFuncBox
import Derived.Maps.AppendAt
import Derived.Test.YtadolfacjolbkaaDoorSh3
import Derived.Test.YtadolfacjolbkaaDoorSh24
namespace Go.Proofs.YtadolfacjolbkaaDoor
set_option linter.unusedVariables false
set_option linter.unusedSimpArgs false
open Go.RowKit Go.Shelf
set_option maxRecDepth 100000
set_option linter.unusedSimpArgs false
set_option linter.unusedVariables false
attribute [local go_sem] Oper.semAt_some
/-- below the end, or no end at all -/
def upTo (hi : ByteArray) (p : KV) : Bool := hi.toList.isEmpty || bl p.1 hi
def rangeO (t : Option AvT) (k hi : ByteArray) : List KV := ((t.map (AvT.vis k)).getD []).takeWhile (upTo hi)
theorem upTo_all {hi : ByteArray} {l : List KV} (h : ∀ p ∈ l, upTo hi p = true) : l.takeWhile (upTo hi) = l := by
  induction l with
  | nil => rfl
  | cons x l ih => rw [List.takeWhile_cons, if_pos (h x (by simp)), ih fun p hp => h p (by simp [hp])]
theorem upTo_stop {hi : ByteArray} {l q : List KV} {x : KV} (h : ∀ p ∈ q, upTo hi p = true) (hx : upTo hi x = false) (hp : q ++ [x] <+: l) : l.takeWhile (upTo hi) = q := by
  obtain ⟨r, rfl⟩ := hp
  induction q with
  | nil => simp [hx]
  | cons y q ih =>
    rw [List.cons_append, List.cons_append, List.takeWhile_cons, if_pos (h y (by simp)), ih fun p hp => h p (by simp [hp])]
theorem pairs_stops (n n₀ : Nat) (Bt Bk : Nat) (p : Option Addr) (t : Option AvT) (k : ByteArray) (w : World) (hBt : Bt < w.heap.size) (hBk : Bk < w.heap.size) (hn₀ : n₀ ≤ w.heap.size)
    (hct : w.cell? ⟨Bt, 0, none⟩ = some (.pointer p)) (hck : w.cell? ⟨Bk, 0, none⟩ = some (.string k)) (ht : TreeO w (.pointer p) t) (hg : ∀ g, p = some ⟨g, 0, none⟩ → g < n₀) :
    SeqStopsK Fence.wide n Tryd.prog 61 #[.pointer (some ⟨Bt, 0, none⟩), .pointer (some ⟨Bk, 0, none⟩)] (fun x : KV => #[Value.agg (kvC x)]) (Below n₀) (fun ys => ys = (t.map (AvT.vis k)).getD []) (fun pre => pre <+: (t.map (AvT.vis k)).getD []) ((t.map (AvT.vis k)).getD []).length w := fun l J Jx W hW hJ _ hY h0 =>
  pairsC_in l n₀ J Jx k t n W hJ (Nat.le_trans hn₀ hW.size) hY (.pointer p) Bt Bk ((hW.cell (p := ⟨Bt, 0, none⟩) hBt).trans hct) ((hW.cell (p := ⟨Bk, 0, none⟩) hBk).trans hck) (ht.below hW) (fun g e => hg g (by injection e)) h0
set_option maxHeartbeats 2000000 in
theorem range_any (p : Option Addr) (t : Option AvT) (k hi : ByteArray) (w : World) (ht : TreeO w (.pointer p) t) (hm : ((t.map (AvT.vis k)).getD []).length * 32 ≤ 140737488355328) :
    Calls Tryd.prog 9 #[.pointer p, .string k, .string hi] w fun e w' => ∃ v, e = .returned v ∧ w'.ownsRow w.heap.size 87 2 v (rangeO t k hi).length (flatKV (rangeO t k hi)) ∧ Below w.heap.size w w' := by
  refine (callsIn_wide (n := 5)).1 ?_
  have hgl : ∀ g, p = some ⟨g, 0, none⟩ → g < w.heap.size := fun g e => by
    cases t with
    | none => rw [e] at ht; cases ht
    | some t =>
      obtain ⟨g', e', h⟩ := ht
      rw [e] at e'; injection e' with e'; injection e' with e'; injection e' with e'; rw [e']; exact h.lt
  obtain ⟨i0, hif, hz0, hz1, hz2⟩ := info_parts infoKV
  refine callsIn_of_wp_marks Tryd.func9 rfl trivial ?_ rfl
  simp only [Tryd.ntmps9, List.size_toArray, List.length_cons, List.length_nil, Nat.reduceAdd, Nat.reduceSub, Array.replicate_succ, Array.replicate_zero, List.push_toArray, List.append_toArray, List.nil_append, List.cons_append]
  gi_wp2_with (refine ⟨trivial, ?_⟩; gi_at_call 37; (with_reducible refine (pairs_in _ _ _ _).mono ?_); rintro e w' ⟨rfl, rfl⟩)
  have bT := (((Boxed.new w 9 (.string hi)).alloc (.cells #[.slice none 0 0] 24)).alloc (.cells #[.pointer p] 26)).alloc (.cells #[.string k] 9)
  have bL := ((Boxed.new (w.alloc (.cells #[.string hi] 9)) 24 (.slice none 0 0)).alloc (.cells #[.pointer p] 26)).alloc (.cells #[.string k] 9)
  have bP := (Boxed.new ((w.alloc (.cells #[.string hi] 9)).alloc (.cells #[.slice none 0 0] 24)) 26 (.pointer p)).alloc (.cells #[.string k] 9)
  have bK := Boxed.new (((w.alloc (.cells #[.string hi] 9)).alloc (.cells #[.slice none 0 0] 24)).alloc (.cells #[.pointer p] 26)) 9 (.string k)
  simp only [World.size_alloc] at bL bP bK
  have hB0 : Below w.heap.size w ((((w.alloc (.cells #[.string hi] 9)).alloc (.cells #[.slice none 0 0] 24)).alloc (.cells #[.pointer p] 26)).alloc (.cells #[.string k] 9)) := ((((Below.refl _ w).alloc (Nat.le_refl _) _).alloc (by simp) _).alloc (by simp; omega) _).alloc (by simp; omega) _
  have hsz : ((((w.alloc (.cells #[.string hi] 9)).alloc (.cells #[.slice none 0 0] 24)).alloc (.cells #[.pointer p] 26)).alloc (.cells #[.string k] 9)).heap.size = w.heap.size + 4 := by simp
  obtain ⟨W0, hW0⟩ : ∃ W0, (((w.alloc (.cells #[.string hi] 9)).alloc (.cells #[.slice none 0 0] 24)).alloc (.cells #[.pointer p] 26)).alloc (.cells #[.string k] 9) = W0 := ⟨_, rfl⟩
  rw [hW0] at bT bL bP bK hB0 hsz ⊢
  clear hW0
  refine wpIn_rangeFunc_ownH rfl (by omega) (gf := 61) (lb := #[.pointer (some ⟨w.heap.size + 1 + 1, 0, none⟩), .pointer (some ⟨w.heap.size + 1 + 1 + 1, 0, none⟩)]) rfl trivial (enters_of Tryd.func61 (by kernel_rfl) rfl)
    (pairs_stops _ w.heap.size _ _ p t k W0 (by omega) (by omega) (by omega) bP.cell bK.cell (ht.below hB0) hgl) belowK_t (belowK_b (by omega)) (Below.refl _ _) (fun _ => rfl)
    (fun pre W => (((∃ v, Boxed W (w.heap.size + 1) 24 v ∧ W.ownsRow w.heap.size 87 2 v pre.length (flatKV pre) ∧ True) ∧ Boxed W w.heap.size 9 (.string hi)) ∧ (∀ p ∈ pre, upTo hi p = true)) ∧ Below w.heap.size w W)
    (fun c pre W => ((∃ v, Boxed W (w.heap.size + 1) 24 v ∧ W.ownsRow w.heap.size 87 2 v pre.dropLast.length (flatKV pre.dropLast) ∧ True) ∧ (c = .exit 0 ∧ (∀ p ∈ pre.dropLast, upTo hi p = true) ∧ ∃ x, pre = pre.dropLast ++ [x] ∧ upTo hi x = false)) ∧ Below w.heap.size w W)
    (OwnFrom.and (OwnFrom.and (OwnFrom.and (Own.from (holdsRow_own w.heap.size (w.heap.size + 1) 24 87 2 (fun pre : List KV => pre.length) (fun pre => flatKV pre) (fun _ _ => True)) _) (Own.from (boxed_own _ _ _) _)) (ownFrom_pure _ _)) (ownFrom_below (Nat.le_refl _) (by omega)))
    (fun c => OwnFrom.and (OwnFrom.and (Own.from (holdsRow_own w.heap.size (w.heap.size + 1) 24 87 2 (fun pre : List KV => pre.dropLast.length) (fun pre => flatKV pre.dropLast) (fun _ _ => True)) _) (ownFrom_pure _ _)) (ownFrom_below (Nat.le_refl _) (by omega)))
    ⟨⟨⟨⟨_, bL, World.ownsRow_nil _ _ _ _, trivial⟩, bT⟩, fun _ h => by cases h⟩, hB0⟩
    (fun x a' W => ∃ Bx, w.heap.size + 1 < Bx ∧ W.heap[Bx]? = some (.cells (kvC x) 87 (0, 0)) ∧ a' = { tmps := #[.pointer p, .string k, .string hi, undef, undef, .pointer (some ⟨w.heap.size, 0, none⟩), .slice none 0 0, .pointer (some ⟨w.heap.size + 1, 0, none⟩), .pointer (some ⟨Bx, 0, none⟩), .pointer p, .string k, .func (.func 61) #[] #[.pointer (some ⟨w.heap.size + 1 + 1, 0, none⟩), .pointer (some ⟨w.heap.size + 1 + 1 + 1, 0, none⟩)], .agg (kvC x), undef, undef, undef, undef, undef, undef, undef, undef, undef, undef, undef, undef, undef], defers := [] })
    (fun x a' _ X Y row hs hg hr => by obtain ⟨Bx, h1, h2, h3⟩ := hs; exact ⟨Bx, h1, (hg.block Bx (Array.getElem?_eq_some_iff.1 h2).1 (fun e => by obtain ⟨_, o, ho, hc⟩ := hr Bx e.symm; rw [h2] at ho; cases ho; cases hc)).trans h2, h3⟩)
    ?assign ?body ?done ?stop
  case assign =>
    rintro l pre x W K ⟨⟨⟨⟨v, bL1, hrow, -⟩, bT1⟩, hall⟩, hB1⟩ hK
    gi_wp2
    rw [run_storeCells_new W 87 #[.string { data := #[] }, .string { data := #[] }] (kvC x) (by kernel_rfl) rfl (kvC_one x)]
    gi_wp2
    exact hK _ _ ((KeepsOthers.alloc _ _).from _) ((Below.refl _ W).alloc hB1.size _) ⟨⟨⟨⟨v, bL1.alloc _, hrow.alloc _, trivial⟩, bT1.alloc _⟩, hall⟩, hB1.alloc hB1.size _⟩ ⟨W.heap.size, bL1.lt, heap_alloc_new _ _, rfl⟩
  case body =>
    rintro l pre x a' W hl ⟨r, hr⟩ ⟨⟨⟨⟨v, bL1, hrow, -⟩, bT1⟩, hall⟩, hB1⟩ ⟨Bx, hBx, bX, rfl⟩ hlt
    have cT := bT1.cell
    have cL := bL1.cell
    have c0 : W.cell? ⟨Bx, 0, none⟩ = some (.string x.1) := cell_of_row W Bx 0 _ _ _ bX
    have c1 : W.cell? ⟨Bx, 1, none⟩ = some (.string x.2) := cell_of_row W Bx 1 _ _ _ bX
    have hlen : pre.length + 1 ≤ 4398046511104 := by omega
    by_cases he : hi.toList = []
    · have hux : upTo hi x = true := by unfold upTo; rw [he]; rfl
      gi_wp2_with (gi_at_builtin; refine wpListIn_append_own _ rfl _ _ 24 rfl w.heap.size 87 i0 _ 2 32 Tryd.underlying24 hif hz0 hz1 hz2 rfl (by decide) _ _ _ rfl (hrow.alloc _) ⟨W.heap.size, 0, none⟩ 1 1 (flatKV [x]) rfl rfl (fun j u hu => (kv_new W x).cells rfl j u hu) (flatKV_one [x]) (by unfold maxLen; omega) (by omega) (by have := hB1.size; simp; omega) ?_; intro v' w1 hown' hgrow _; obtain ⟨g', cap', rfl⟩ := ownsRow_succ hown'; obtain ⟨hv1, hv2, hr2, hk2, hb2⟩ := bL1.appended (by decide) hrow hB1.size (by omega) hown' hgrow; have hc1 := hv1.cell; have hf1 := hv1.frozen)
      exact ⟨hk2.from _, hb2, ⟨⟨⟨⟨_, hv2, by rw [List.length_append, flatKV_append]; exact hr2, trivial⟩, ((bT1.alloc _).kept hgrow (bT1.not_row (by decide) hrow)).other (by omega) _⟩, fun q hq => by rcases List.mem_append.1 hq with h | h; exact hall q h; rw [List.mem_singleton.1 h]; exact hux⟩, hB1.trans hb2⟩⟩
    · cases h1 : bl x.1 hi with
      | true =>
        have hux : upTo hi x = true := by unfold upTo; rw [h1, Bool.or_true]
        have hk : Op.bytesLess x.1.toList hi.toList = true := h1
        clear h1
        gi_wp2_with (gi_at_builtin; refine wpListIn_append_own _ rfl _ _ 24 rfl w.heap.size 87 i0 _ 2 32 Tryd.underlying24 hif hz0 hz1 hz2 rfl (by decide) _ _ _ rfl (hrow.alloc _) ⟨W.heap.size, 0, none⟩ 1 1 (flatKV [x]) rfl rfl (fun j u hu => (kv_new W x).cells rfl j u hu) (flatKV_one [x]) (by unfold maxLen; omega) (by omega) (by have := hB1.size; simp; omega) ?_; intro v' w1 hown' hgrow _; obtain ⟨g', cap', rfl⟩ := ownsRow_succ hown'; obtain ⟨hv1, hv2, hr2, hk2, hb2⟩ := bL1.appended (by decide) hrow hB1.size (by omega) hown' hgrow; have hc1 := hv1.cell; have hf1 := hv1.frozen)
        exact ⟨hk2.from _, hb2, ⟨⟨⟨⟨_, hv2, by rw [List.length_append, flatKV_append]; exact hr2, trivial⟩, ((bT1.alloc _).kept hgrow (bT1.not_row (by decide) hrow)).other (by omega) _⟩, fun q hq => by rcases List.mem_append.1 hq with h | h; exact hall q h; rw [List.mem_singleton.1 h]; exact hux⟩, hB1.trans hb2⟩⟩
      | false =>
        have hux : upTo hi x = false := by unfold upTo; rw [h1, Bool.or_false]; simpa using he
        have hk : Op.bytesLess x.1.toList hi.toList = false := h1
        clear h1
        have he2 : hi.toList.isEmpty = false := by simpa using he
        gi_wp2
        · exact ⟨KeepsFrom.refl _ _, ⟨⟨v, bL1, by rw [List.dropLast_concat]; exact hrow, trivial⟩, rfl, by rw [List.dropLast_concat]; exact hall, x, by rw [List.dropLast_concat], hux⟩, hB1⟩
        all_goals exact absurd (by assumption) he
  case done =>
    rintro D ys W hD rfl ⟨⟨⟨⟨v, bL1, hrow, -⟩, bT1⟩, hall⟩, hB1⟩ hK
    have hr : rangeO t k hi = (t.map (AvT.vis k)).getD [] := upTo_all hall
    rw [← hr] at hrow
    have cL := bL1.cell
    gi_wp2
    refine ⟨by simp, .inl ⟨_, _, rfl, run_takeDeferred hK, ?_⟩⟩
    exact ⟨_, results_tmp rfl _ _ _, v, rfl, ownsRow_putObj hrow _ hK rfl, hB1.trans (belowK_b (w := w) (Nat.le_refl _) W D _ _ (by omega) hK rfl rfl)⟩
  case stop =>
    rintro D c pre W hD hpre ⟨⟨⟨v, bL1, hrow, -⟩, rfl, hall, x, hx, hux⟩, hB1⟩ hK
    have hr : rangeO t k hi = pre.dropLast := upTo_stop hall hux (by rw [← hx]; exact hpre)
    rw [← hr] at hrow
    have cL := bL1.cell
    gi_wp2
    refine ⟨by simp, .inl ⟨_, _, rfl, run_takeDeferred hK, ?_⟩⟩
    exact ⟨_, results_tmp rfl _ _ _, v, rfl, ownsRow_putObj hrow _ hK rfl, hB1.trans (belowK_b (w := w) (Nat.le_refl _) W D _ _ (by omega) hK rfl rfl)⟩
end Go.Proofs.YtadolfacjolbkaaDoor
namespace Go.Proofs.YtadolfacjolbkaaDoor
set_option linter.unusedVariables false
set_option linter.unusedSimpArgs false
open Go.RowKit
set_option maxRecDepth 100000
set_option linter.unusedSimpArgs false
set_option linter.unusedVariables false
theorem eBA_list : eBA.toList = [] := by
  unfold eBA ByteArray.toList ByteArray.toList.loop
  simp [ByteArray.size]
theorem bl_eBA (a : ByteArray) : bl a eBA = false := by
  rw [Bool.eq_false_iff]
  intro h
  rw [bl_lt, eBA_list] at h
  exact absurd h (by simp)
theorem visO_eq {t : Option AvT} (h : Srt (pairsO t)) (k : ByteArray) : (t.map (AvT.vis k)).getD [] = (pairsO t).filter fun p => !bl p.1 k := by
  cases t with
  | none => rfl
  | some t => exact vis_eq k t h
theorem take_srt (hi : ByteArray) : ∀ l : List KV, Srt l → l.takeWhile (upTo hi) = l.filter (upTo hi)
  | [], _ => rfl
  | p :: l, h => by
    obtain ⟨h1, h2⟩ := List.pairwise_cons.1 h
    cases e : upTo hi p with
    | true => rw [List.takeWhile_cons, if_pos e, List.filter_cons, if_pos e, take_srt hi l h2]
    | false =>
      rw [List.takeWhile_cons, if_neg (by rw [e]; simp), List.filter_cons, if_neg (by rw [e]; simp)]
      refine (filter_no fun q hq => ?_).symm
      unfold upTo at e ⊢
      simp only [Bool.or_eq_false_iff] at e ⊢
      refine ⟨e.1, Bool.eq_false_iff.2 fun hq2 => ?_⟩
      have := bl_trans (h1 q hq) hq2
      rw [e.2] at this; cases this
theorem range_eq {t : Option AvT} (h : Srt (pairsO t)) (k hi : ByteArray) : rangeO t k hi = (pairsO t).filter fun p => !bl p.1 k && upTo hi p := by
  unfold rangeO
  rw [visO_eq h, take_srt hi _ (h.filter _), List.filter_filter]
  congr 1
  funext p
  rw [Bool.and_comm]
theorem range_full {t : Option AvT} (h : Srt (pairsO t)) : rangeO t eBA eBA = pairsO t := by
  rw [range_eq h]
  refine filter_all fun p _ => ?_
  rw [bl_eBA]
  unfold upTo
  rw [eBA_list]
  rfl
theorem manyO_eq (t : Option AvT) : (pairsO t).length = manyO t := by
  cases t with
  | none => rfl
  | some t => exact AvT.many_eq t
theorem getO_mem {t : Option AvT} (h : Srt (pairsO t)) (k v : ByteArray) : getO t k = some v ↔ (k, v) ∈ pairsO t := by
  cases t with
  | none => simp [getO, pairsO]
  | some t => exact get_mem k t h v
theorem getO_drop {t : Option AvT} (h : Srt (pairsO t)) (k : ByteArray) : getO (dropO t k) k = none := by
  cases e : getO (dropO t k) k with
  | none => rfl
  | some v =>
    have := (getO_mem (dropO_srt h k) k v).1 e
    rw [dropO_pairs h] at this
    have := (List.mem_filter.1 this).2
    simp at this
theorem drop_count (k : ByteArray) : ∀ l : List KV, Srt l → (l.filter fun p => !decide (p.1 = k)).length + (if l.any (fun p => decide (p.1 = k)) then 1 else 0) = l.length
  | [], _ => rfl
  | p :: l, h => by
    obtain ⟨h1, h2⟩ := List.pairwise_cons.1 h
    have ih := drop_count k l h2
    by_cases e : p.1 = k
    · have hn : ∀ q ∈ l, (!decide (q.1 = k)) = true := fun q hq => by
        have := bl_ne (h1 q hq)
        rw [e] at this
        simpa using fun e' => this e'.symm
      rw [List.filter_cons, if_neg (by simp [e]), filter_all hn, List.any_cons]
      simp [e]
    · rw [List.filter_cons, if_pos (by simp [e]), List.any_cons]
      simp only [e, decide_false, Bool.false_or, List.length_cons]
      omega
theorem manyO_drop {t : Option AvT} (h : Srt (pairsO t)) (k : ByteArray) : manyO (dropO t k) + (if (getO t k).isSome then 1 else 0) = manyO t := by
  rw [← manyO_eq, ← manyO_eq, dropO_pairs h]
  have := drop_count k (pairsO t) h
  have e : (getO t k).isSome = (pairsO t).any fun p => decide (p.1 = k) := by
    rw [Bool.eq_iff_iff, Option.isSome_iff_exists, List.any_eq_true]
    constructor
    · rintro ⟨v, hv⟩
      exact ⟨(k, v), (getO_mem h k v).1 hv, by simp⟩
    · rintro ⟨⟨k', v⟩, hv, he⟩
      have he : k' = k := by simpa using he
      subst he
      exact ⟨v, (getO_mem h k' v).2 hv⟩
  rw [e]; exact this
theorem find_place {t : Option AvT} (h : Srt (pairsO t)) {i : Nat} {p : KV} (hi : (pairsO t)[i]? = some p) : findO t p.1 = i ∧ getO t p.1 = some p.2 := by
  refine ⟨?_, (getO_mem h p.1 p.2).2 (List.mem_of_getElem? hi)⟩
  cases t with
  | none => simp [pairsO] at hi
  | some t =>
    show t.find p.1 = i
    rw [find_eq p.1 t h]
    exact srt_place _ h i p hi
/-- Range as a slice of pairs -/
theorem range_kv (p : Option Addr) (t : Option AvT) (k hi : ByteArray) (w : World) (ht : TreeO w (.pointer p) t) (hs : Srt (pairsO t)) (hm : manyO t ≤ 1048576) :
    Calls Tryd.prog 9 #[.pointer p, .string k, .string hi] w fun e w' => ∃ v, e = .returned v ∧ KVIn w' v (rangeO t k hi) ∧ Below w.heap.size w w' := by
  refine (range_any p t k hi w ht ?_).mono ?_
  · rw [visO_eq hs]
    have := List.length_filter_le (fun p : KV => !bl p.1 k) (pairsO t)
    rw [manyO_eq] at this
    omega
  · rintro e w' ⟨v, rfl, hrow, hb⟩
    exact ⟨v, rfl, KVIn.of_own hrow, hb⟩
end Go.Proofs.YtadolfacjolbkaaDoor
