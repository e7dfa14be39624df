/- Part 17 of the proof. -/
import Derived.RangeFuncBox
import Derived.Maps.AppendAt
import Derived.Test.YtejglhlodfhgkaaGreatDoorBs15
import Derived.Test.YtejglhlodfhgkaaGreatDoorBs16
namespace Go.Proofs.YtejglhlodfhgkaaGreatDoor
set_option linter.unusedVariables false
set_option linter.unusedSimpArgs false
open Go.RowKit Go.Shelf
set_option maxRecDepth 100000
set_option linter.unusedSimpArgs false
set_option linter.unusedVariables false
attribute [local go_sem] Oper.semAt_some
/-- below the end, or no end at all -/
def upTo (hi : ByteArray) (p : KV) : Bool := hi.toList.isEmpty || bl p.1 hi
def rangeO (t : Option AvT) (k hi : ByteArray) : List KV := ((t.map (AvT.vis k)).getD []).takeWhile (upTo hi)
theorem upTo_all {hi : ByteArray} {l : List KV} (h : ∀ p ∈ l, upTo hi p = true) : l.takeWhile (upTo hi) = l := by
  induction l with
  | nil => rfl
  | cons x l ih => rw [List.takeWhile_cons, if_pos (h x (by simp)), ih fun p hp => h p (by simp [hp])]
theorem upTo_stop {hi : ByteArray} {l q : List KV} {x : KV} (h : ∀ p ∈ q, upTo hi p = true) (hx : upTo hi x = false) (hp : q ++ [x] <+: l) : l.takeWhile (upTo hi) = q := by
  obtain ⟨r, rfl⟩ := hp
  induction q with
  | nil => simp [hx]
  | cons y q ih =>
    rw [List.cons_append, List.cons_append, List.takeWhile_cons, if_pos (h y (by simp)), ih fun p hp => h p (by simp [hp])]
theorem pairs_stops (n n₀ : Nat) (Bt Bk : Nat) (p : Option Addr) (t : Option AvT) (k : ByteArray) (w : World) (hBt : Bt < w.heap.size) (hBk : Bk < w.heap.size) (hn₀ : n₀ ≤ w.heap.size)
    (hct : w.cell? ⟨Bt, 0, none⟩ = some (.pointer p)) (hck : w.cell? ⟨Bk, 0, none⟩ = some (.string k)) (ht : TreeO w (.pointer p) t) (hg : ∀ g, p = some ⟨g, 0, none⟩ → g < n₀) :
    SeqStopsK Fence.wide n Tryz.prog 223 #[.pointer (some ⟨Bt, 0, none⟩), .pointer (some ⟨Bk, 0, none⟩)] (fun x : KV => #[Value.agg (kvC x)]) (Below n₀) (fun ys => ys = (t.map (AvT.vis k)).getD []) (fun pre => pre <+: (t.map (AvT.vis k)).getD []) ((t.map (AvT.vis k)).getD []).length w := fun l J Jx W hW hJ _ hY h0 =>
  pairsC_in l n₀ J Jx k t n W hJ (Nat.le_trans hn₀ hW.size) hY (.pointer p) Bt Bk ((hW.cell (p := ⟨Bt, 0, none⟩) hBt).trans hct) ((hW.cell (p := ⟨Bk, 0, none⟩) hBk).trans hck) (ht.below hW) (fun g e => hg g (by injection e)) h0
set_option maxHeartbeats 2000000 in
theorem range_any (p : Option Addr) (t : Option AvT) (k hi : ByteArray) (w : World) (ht : TreeO w (.pointer p) t) (hm : ((t.map (AvT.vis k)).getD []).length * 32 ≤ 140737488355328) :
    Calls Tryz.prog 109 #[.pointer p, .string k, .string hi] w fun e w' => ∃ v, e = .returned v ∧ w'.ownsRow w.heap.size 70 2 v (rangeO t k hi).length (flatKV (rangeO t k hi)) ∧ Below w.heap.size w w' := by
  refine (callsIn_wide (n := 5)).1 ?_
  have hgl : ∀ g, p = some ⟨g, 0, none⟩ → g < w.heap.size := fun g e => by
    cases t with
    | none => rw [e] at ht; cases ht
    | some t =>
      obtain ⟨g', e', h⟩ := ht
      rw [e] at e'; injection e' with e'; injection e' with e'; injection e' with e'; rw [e']; exact h.lt
  obtain ⟨i0, hif, hz0, hz1, hz2⟩ := info_parts infoKV
  refine callsIn_of_wp_marks Tryz.func109 rfl trivial ?_ rfl
  simp only [Tryz.ntmps109, List.size_toArray, List.length_cons, List.length_nil, Nat.reduceAdd, Nat.reduceSub, Array.replicate_succ, Array.replicate_zero, List.push_toArray, List.append_toArray, List.nil_append, List.cons_append]
  gi_wp2_with (refine ⟨trivial, ?_⟩; gi_at_call 174; (with_reducible refine (pairs_in _ _ _ _).mono ?_); rintro e w' ⟨rfl, rfl⟩)
  have bT := (((Boxed.new w 9 (.string hi)).alloc (.cells #[.slice none 0 0] 89)).alloc (.cells #[.pointer p] 65)).alloc (.cells #[.string k] 9)
  have bL := ((Boxed.new (w.alloc (.cells #[.string hi] 9)) 89 (.slice none 0 0)).alloc (.cells #[.pointer p] 65)).alloc (.cells #[.string k] 9)
  have bP := (Boxed.new ((w.alloc (.cells #[.string hi] 9)).alloc (.cells #[.slice none 0 0] 89)) 65 (.pointer p)).alloc (.cells #[.string k] 9)
  have bK := Boxed.new (((w.alloc (.cells #[.string hi] 9)).alloc (.cells #[.slice none 0 0] 89)).alloc (.cells #[.pointer p] 65)) 9 (.string k)
  simp only [World.size_alloc] at bL bP bK
  have hB0 : Below w.heap.size w ((((w.alloc (.cells #[.string hi] 9)).alloc (.cells #[.slice none 0 0] 89)).alloc (.cells #[.pointer p] 65)).alloc (.cells #[.string k] 9)) := ((((Below.refl _ w).alloc (Nat.le_refl _) _).alloc (by simp) _).alloc (by simp; omega) _).alloc (by simp; omega) _
  have hsz : ((((w.alloc (.cells #[.string hi] 9)).alloc (.cells #[.slice none 0 0] 89)).alloc (.cells #[.pointer p] 65)).alloc (.cells #[.string k] 9)).heap.size = w.heap.size + 4 := by simp
  obtain ⟨W0, hW0⟩ : ∃ W0, (((w.alloc (.cells #[.string hi] 9)).alloc (.cells #[.slice none 0 0] 89)).alloc (.cells #[.pointer p] 65)).alloc (.cells #[.string k] 9) = W0 := ⟨_, rfl⟩
  rw [hW0] at bT bL bP bK hB0 hsz ⊢
  clear hW0
  refine wpIn_rangeFunc_ownH rfl (by omega) (gf := 223) (lb := #[.pointer (some ⟨w.heap.size + 1 + 1, 0, none⟩), .pointer (some ⟨w.heap.size + 1 + 1 + 1, 0, none⟩)]) rfl trivial (enters_of Tryz.func223 (by kernel_rfl) rfl)
    (pairs_stops _ w.heap.size _ _ p t k W0 (by omega) (by omega) (by omega) bP.cell bK.cell (ht.below hB0) hgl) belowK_t (belowK_b (by omega)) (Below.refl _ _) (fun _ => rfl)
    (fun pre W => (((∃ v, Boxed W (w.heap.size + 1) 89 v ∧ W.ownsRow w.heap.size 70 2 v pre.length (flatKV pre) ∧ True) ∧ Boxed W w.heap.size 9 (.string hi)) ∧ (∀ p ∈ pre, upTo hi p = true)) ∧ Below w.heap.size w W)
    (fun c pre W => ((∃ v, Boxed W (w.heap.size + 1) 89 v ∧ W.ownsRow w.heap.size 70 2 v pre.dropLast.length (flatKV pre.dropLast) ∧ True) ∧ (c = .exit 0 ∧ (∀ p ∈ pre.dropLast, upTo hi p = true) ∧ ∃ x, pre = pre.dropLast ++ [x] ∧ upTo hi x = false)) ∧ Below w.heap.size w W)
    (OwnFrom.and (OwnFrom.and (OwnFrom.and (Own.from (holdsRow_own w.heap.size (w.heap.size + 1) 89 70 2 (fun pre : List KV => pre.length) (fun pre => flatKV pre) (fun _ _ => True)) _) (Own.from (boxed_own _ _ _) _)) (ownFrom_pure _ _)) (ownFrom_below (Nat.le_refl _) (by omega)))
    (fun c => OwnFrom.and (OwnFrom.and (Own.from (holdsRow_own w.heap.size (w.heap.size + 1) 89 70 2 (fun pre : List KV => pre.dropLast.length) (fun pre => flatKV pre.dropLast) (fun _ _ => True)) _) (ownFrom_pure _ _)) (ownFrom_below (Nat.le_refl _) (by omega)))
    ⟨⟨⟨⟨_, bL, World.ownsRow_nil _ _ _ _, trivial⟩, bT⟩, fun _ h => by cases h⟩, hB0⟩
    (fun x a' W => ∃ Bx, w.heap.size + 1 < Bx ∧ W.heap[Bx]? = some (.cells (kvC x) 70 (0, 0)) ∧ a' = { tmps := #[.pointer p, .string k, .string hi, undef, undef, .pointer (some ⟨w.heap.size, 0, none⟩), .slice none 0 0, .pointer (some ⟨w.heap.size + 1, 0, none⟩), .pointer (some ⟨Bx, 0, none⟩), .pointer p, .string k, .func (.func 223) #[] #[.pointer (some ⟨w.heap.size + 1 + 1, 0, none⟩), .pointer (some ⟨w.heap.size + 1 + 1 + 1, 0, none⟩)], .agg (kvC x), undef, undef, undef, undef, undef, undef, undef, undef, undef, undef, undef, undef, undef], defers := [] })
    (fun x a' _ X Y row hs hg hr => by obtain ⟨Bx, h1, h2, h3⟩ := hs; exact ⟨Bx, h1, (hg.block Bx (Array.getElem?_eq_some_iff.1 h2).1 (fun e => by obtain ⟨_, o, ho, hc⟩ := hr Bx e.symm; rw [h2] at ho; cases ho; cases hc)).trans h2, h3⟩)
    ?assign ?body ?done ?stop
  case assign =>
    rintro l pre x W K ⟨⟨⟨⟨v, bL1, hrow, -⟩, bT1⟩, hall⟩, hB1⟩ hK
    gi_wp2
    rw [run_storeCells_new W 70 #[.string { data := #[] }, .string { data := #[] }] (kvC x) (by kernel_rfl) rfl (kvC_one x)]
    gi_wp2
    exact hK _ _ ((KeepsOthers.alloc _ _).from _) ((Below.refl _ W).alloc hB1.size _) ⟨⟨⟨⟨v, bL1.alloc _, hrow.alloc _, trivial⟩, bT1.alloc _⟩, hall⟩, hB1.alloc hB1.size _⟩ ⟨W.heap.size, bL1.lt, heap_alloc_new _ _, rfl⟩
  case body =>
    rintro l pre x a' W hl ⟨r, hr⟩ ⟨⟨⟨⟨v, bL1, hrow, -⟩, bT1⟩, hall⟩, hB1⟩ ⟨Bx, hBx, bX, rfl⟩ hlt
    have cT := bT1.cell
    have cL := bL1.cell
    have c0 : W.cell? ⟨Bx, 0, none⟩ = some (.string x.1) := cell_of_row W Bx 0 _ _ _ bX
    have c1 : W.cell? ⟨Bx, 1, none⟩ = some (.string x.2) := cell_of_row W Bx 1 _ _ _ bX
    have hlen : pre.length + 1 ≤ 4398046511104 := by omega
    by_cases he : hi.toList = []
    · have hux : upTo hi x = true := by unfold upTo; rw [he]; rfl
      gi_wp2_with (gi_at_builtin; refine wpListIn_append_own _ rfl _ _ 89 rfl w.heap.size 70 i0 _ 2 32 Tryz.underlying89 hif hz0 hz1 hz2 rfl (by decide) _ _ _ rfl (hrow.alloc _) ⟨W.heap.size, 0, none⟩ 1 1 (flatKV [x]) rfl rfl (fun j u hu => (kv_new W x).cells rfl j u hu) (flatKV_one [x]) (by unfold maxLen; omega) (by omega) (by have := hB1.size; simp; omega) ?_; intro v' w1 hown' hgrow _; obtain ⟨g', cap', rfl⟩ := ownsRow_succ hown'; obtain ⟨hv1, hv2, hr2, hk2, hb2⟩ := bL1.appended (by decide) hrow hB1.size (by omega) hown' hgrow; have hc1 := hv1.cell; have hf1 := hv1.frozen)
      exact ⟨hk2.from _, hb2, ⟨⟨⟨⟨_, hv2, by rw [List.length_append, flatKV_append]; exact hr2, trivial⟩, ((bT1.alloc _).kept hgrow (bT1.not_row (by decide) hrow)).other (by omega) _⟩, fun q hq => by rcases List.mem_append.1 hq with h | h; exact hall q h; rw [List.mem_singleton.1 h]; exact hux⟩, hB1.trans hb2⟩⟩
    · cases h1 : bl x.1 hi with
      | true =>
        have hux : upTo hi x = true := by unfold upTo; rw [h1, Bool.or_true]
        have hk : Op.bytesLess x.1.toList hi.toList = true := h1
        clear h1
        gi_wp2_with (gi_at_builtin; refine wpListIn_append_own _ rfl _ _ 89 rfl w.heap.size 70 i0 _ 2 32 Tryz.underlying89 hif hz0 hz1 hz2 rfl (by decide) _ _ _ rfl (hrow.alloc _) ⟨W.heap.size, 0, none⟩ 1 1 (flatKV [x]) rfl rfl (fun j u hu => (kv_new W x).cells rfl j u hu) (flatKV_one [x]) (by unfold maxLen; omega) (by omega) (by have := hB1.size; simp; omega) ?_; intro v' w1 hown' hgrow _; obtain ⟨g', cap', rfl⟩ := ownsRow_succ hown'; obtain ⟨hv1, hv2, hr2, hk2, hb2⟩ := bL1.appended (by decide) hrow hB1.size (by omega) hown' hgrow; have hc1 := hv1.cell; have hf1 := hv1.frozen)
        exact ⟨hk2.from _, hb2, ⟨⟨⟨⟨_, hv2, by rw [List.length_append, flatKV_append]; exact hr2, trivial⟩, ((bT1.alloc _).kept hgrow (bT1.not_row (by decide) hrow)).other (by omega) _⟩, fun q hq => by rcases List.mem_append.1 hq with h | h; exact hall q h; rw [List.mem_singleton.1 h]; exact hux⟩, hB1.trans hb2⟩⟩
      | false =>
        have hux : upTo hi x = false := by unfold upTo; rw [h1, Bool.or_false]; simpa using he
        have hk : Op.bytesLess x.1.toList hi.toList = false := h1
        clear h1
        have he2 : hi.toList.isEmpty = false := by simpa using he
        gi_wp2
        · exact ⟨KeepsFrom.refl _ _, ⟨⟨v, bL1, by rw [List.dropLast_concat]; exact hrow, trivial⟩, rfl, by rw [List.dropLast_concat]; exact hall, x, by rw [List.dropLast_concat], hux⟩, hB1⟩
        all_goals exact absurd (by assumption) he
  case done =>
    rintro D ys W hD rfl ⟨⟨⟨⟨v, bL1, hrow, -⟩, bT1⟩, hall⟩, hB1⟩ hK
    have hr : rangeO t k hi = (t.map (AvT.vis k)).getD [] := upTo_all hall
    rw [← hr] at hrow
    have cL := bL1.cell
    gi_wp2
    refine ⟨by simp, .inl ⟨_, _, rfl, run_takeDeferred hK, ?_⟩⟩
    exact ⟨_, results_tmp rfl _ _ _, v, rfl, ownsRow_putObj hrow _ hK rfl, hB1.trans (belowK_b (w := w) (Nat.le_refl _) W D _ _ (by omega) hK rfl rfl)⟩
  case stop =>
    rintro D c pre W hD hpre ⟨⟨⟨v, bL1, hrow, -⟩, rfl, hall, x, hx, hux⟩, hB1⟩ hK
    have hr : rangeO t k hi = pre.dropLast := upTo_stop hall hux (by rw [← hx]; exact hpre)
    rw [← hr] at hrow
    have cL := bL1.cell
    gi_wp2
    refine ⟨by simp, .inl ⟨_, _, rfl, run_takeDeferred hK, ?_⟩⟩
    exact ⟨_, results_tmp rfl _ _ _, v, rfl, ownsRow_putObj hrow _ hK rfl, hB1.trans (belowK_b (w := w) (Nat.le_refl _) W D _ _ (by omega) hK rfl rfl)⟩
end Go.Proofs.YtejglhlodfhgkaaGreatDoor
namespace Go.Proofs.YtejglhlodfhgkaaGreatDoor
set_option linter.unusedVariables false
set_option linter.unusedSimpArgs false
open Go.RowKit
set_option maxRecDepth 100000
set_option linter.unusedSimpArgs false
set_option linter.unusedVariables false
theorem visO_eq {t : Option AvT} (h : Srt (pairsO t)) (k : ByteArray) : (t.map (AvT.vis k)).getD [] = (pairsO t).filter fun p => !bl p.1 k := by
  cases t with
  | none => rfl
  | some t => exact vis_eq k t h
theorem take_srt (hi : ByteArray) : ∀ l : List KV, Srt l → l.takeWhile (upTo hi) = l.filter (upTo hi)
  | [], _ => rfl
  | p :: l, h => by
    obtain ⟨h1, h2⟩ := List.pairwise_cons.1 h
    cases e : upTo hi p with
    | true => rw [List.takeWhile_cons, if_pos e, List.filter_cons, if_pos e, take_srt hi l h2]
    | false =>
      rw [List.takeWhile_cons, if_neg (by rw [e]; simp), List.filter_cons, if_neg (by rw [e]; simp)]
      refine (filter_no fun q hq => ?_).symm
      unfold upTo at e ⊢
      simp only [Bool.or_eq_false_iff] at e ⊢
      refine ⟨e.1, Bool.eq_false_iff.2 fun hq2 => ?_⟩
      have := bl_trans (h1 q hq) hq2
      rw [e.2] at this; cases this
theorem range_eq {t : Option AvT} (h : Srt (pairsO t)) (k hi : ByteArray) : rangeO t k hi = (pairsO t).filter fun p => !bl p.1 k && upTo hi p := by
  unfold rangeO
  rw [visO_eq h, take_srt hi _ (h.filter _), List.filter_filter]
  congr 1
  funext p
  rw [Bool.and_comm]
theorem manyO_eq (t : Option AvT) : (pairsO t).length = manyO t := by
  cases t with
  | none => rfl
  | some t => exact AvT.many_eq t
/-- Range as a slice of pairs -/
theorem range_kv (p : Option Addr) (t : Option AvT) (k hi : ByteArray) (w : World) (ht : TreeO w (.pointer p) t) (hs : Srt (pairsO t)) (hm : manyO t ≤ 1048576) :
    Calls Tryz.prog 109 #[.pointer p, .string k, .string hi] w fun e w' => ∃ v, e = .returned v ∧ KVIn w' v (rangeO t k hi) ∧ Below w.heap.size w w' := by
  refine (range_any p t k hi w ht ?_).mono ?_
  · rw [visO_eq hs]
    have := List.length_filter_le (fun p : KV => !bl p.1 k) (pairsO t)
    rw [manyO_eq] at this
    omega
  · rintro e w' ⟨v, rfl, hrow, hb⟩
    exact ⟨v, rfl, KVIn.of_own hrow, hb⟩
end Go.Proofs.YtejglhlodfhgkaaGreatDoor
namespace Go.Proofs.YtejglhlodfhgkaaGreatDoor
set_option linter.unusedVariables false
set_option linter.unusedSimpArgs false
open Go.RowKit
set_option maxRecDepth 100000
set_option linter.unusedSimpArgs false
set_option linter.unusedVariables false
theorem kv_range16 {w : World} {ab o : Nat} {p : KV} (h1 : w.cell? ⟨ab, o, none⟩ = some (.string p.1)) (h2 : w.cell? ⟨ab, o + 1, none⟩ = some (.string p.2)) : w.rangeAt ab o (kvC p).toList := fun j v hv => by
  match j, hv with
  | 0, hv => cases hv; rw [Nat.add_zero]; exact h1
  | 1, hv => cases hv; exact h2
theorem bkzero_any (p : KV) (w : World) (hs : p.2.size ≤ 140737488351232) : Calls Tryz.prog 110 #[.agg (kvC p)] w fun e w' => e = .returned (.bool (decide (bkDec p.2 = 0))) ∧ Below w.heap.size w w' := by
  have HB := Lib.hid (below_alloc w (.cells (kvC p) 70))
  have HQ := Lib.hid (heap_alloc_new w (.cells (kvC p) 70))
  have HD := Lib.hid (fun w => bkdec_any p.2 w hs)
  obtain ⟨n, hn⟩ : ∃ n, n = bkDec p.2 := ⟨_, rfl⟩
  rw [← hn] at HD ⊢
  have HC := Lib.hid (fun (W : World) {g : Nat} (h : W.heap[g]? = some (.cells (kvC p) 70 (0, 0))) => show W.cell? ⟨g, 1, none⟩ = some (.string p.2) from by rw [cell_of_row _ _ _ _ _ _ h]; rfl)
  clear hn hs
  obtain ⟨C, hC⟩ : ∃ c, c = kvC p := ⟨_, rfl⟩
  rw [← hC] at HB HQ HC ⊢
  obtain ⟨V, hV⟩ : ∃ v, v = p.2 := ⟨_, rfl⟩
  rw [← hV] at HC HD
  clear hC hV
  by_cases h0 : n = 0
  · subst h0
    go_enter Tryz.func110, Tryz.ntmps110
    go_upto_region 1 with (fail)
    generalize w.alloc (.cells C 70) = w1 at *
    have k1 := HC.out w1 HQ.out
    go_wp2_with (go_at_call 104; (with_reducible refine (HD.out _).mono ?_); rintro e w2 ⟨rfl, hb⟩; replace HB := Lib.hid (HB.out.trans (hb.mono HB.out.size)); clear hb)
    go_ret
    exact ⟨rfl, HB.out⟩
  · have h0B : (n == 0) = false := by rw [beq_eq_false_iff_ne]; exact h0
    rw [decide_eq_false h0]
    go_enter Tryz.func110, Tryz.ntmps110
    go_upto_region 1 with (fail)
    generalize w.alloc (.cells C 70) = w1 at *
    have k1 := HC.out w1 HQ.out
    go_wp2_with (go_at_call 104; (with_reducible refine (HD.out _).mono ?_); rintro e w2 ⟨rfl, hb⟩; replace HB := Lib.hid (HB.out.trans (hb.mono HB.out.size)); clear hb)
    go_ret
    exact ⟨rfl, HB.out⟩
set_option maxHeartbeats 2000000 in
theorem bkidx_any (l : List KV) (v : Value) (w : World) (hv : KVIn w v l) (hs : ∀ p ∈ l, p.2.size ≤ 140737488351232) (hz : ∀ p ∈ l, bkDec p.2 ≠ 0) :
    Calls Tryz.prog 173 #[v, .func (.func 110) #[] #[]] w fun e w' => e = .returned (.int .i64 (-1)) ∧ Below w.heap.size w w' := by
  have hmax : l.length ≤ maxLen := by obtain ⟨_, _, _, _, h, _⟩ := hv; exact h
  obtain ⟨a, cap, rfl⟩ := hv.len
  have HV := Lib.hid hv
  obtain ⟨n, hn⟩ : ∃ n, n = l.length := ⟨_, rfl⟩
  have HN := Lib.hid hn
  have hnI : (n : Int) ≤ 9223372036854775807 := by unfold maxLen at hmax; omega
  have HZ := Lib.hid (fun (p : KV) (hp : p ∈ l) (W : World) => show Calls Tryz.prog 110 #[.agg (kvC p)] W fun e w' => e = .returned (.bool false) ∧ Below W.heap.size W w' from by
    have h := bkzero_any p W (hs p hp)
    rw [decide_eq_false (hz p hp)] at h
    exact h)
  rw [← hn] at HV ⊢
  clear hv hn hmax hs hz
  go_enter Tryz.func173, Tryz.ntmps173
  go_upto_region 2 with (fail)
  have HR0 := Lib.hid (Below.refl w.heap.size w)
  go_wp2_with (fail)
  go_loopw [8] (fun v wr => ∃ k : Nat, k ≤ n ∧ v = .int .i64 (k : Int) ∧ Hid (Below w.heap.size w wr)) (fun v _ => n - (intOf v).toNat)
  case atStart => exact ⟨0, Nat.zero_le _, rfl, HR0⟩
  case round =>
    clear HR0
    obtain ⟨k, hkn, rfl, HR⟩ := hrel
    by_cases hlt : k < n
    · have hltI : (k : Int) < (n : Int) := by omega
      obtain ⟨p, hp⟩ : ∃ x, l[k]? = some x := ⟨l[k]'(by have := HN.out; omega), List.getElem?_eq_getElem _⟩
      have hv := HV.out.below HR.out
      rw [HN.out] at hv
      obtain ⟨ab, ao, rfl, hab, h1, h2⟩ := hv.at k p hp
      have HRA := Lib.hid (kv_range16 h1 h2)
      have HZP := Lib.hid (HZ.out p (List.mem_of_getElem? hp))
      have HS2 := Lib.hid (show (kvC p).size = 2 from rfl)
      obtain ⟨C, hC⟩ : ∃ c, c = kvC p := ⟨_, rfl⟩
      rw [← hC] at HRA HZP HS2
      clear hv hab h1 h2 hp hC
      go_wp2_with (first
        | (refine wpList_load_rowT (by rfl) 70 (.tmp 14) rfl ab (ao + k * 2) rfl C _ HRA.out Tryz.underlying70 rfl (by rw [HS2.out]; kernel_rfl) ?_)
        | (go_at_call 110; (with_reducible refine (HZP.out _).mono ?_); rintro e w2 ⟨rfl, hb⟩; have HR2 := Lib.hid (HR.out.trans (hb.mono HR.out.size)); clear hb))
      go_roundw
      case rel => exact ⟨k + 1, by omega, by go_num, HR2⟩
      case measure => simp [intOf]; omega
    · obtain rfl : k = n := by omega
      go_wp2_with (fail)
      go_ret
      exact ⟨rfl, HR.out⟩
theorem bkdel_any (l : List KV) (v : Value) (w : World) (hv : KVIn w v l) (hs : ∀ p ∈ l, p.2.size ≤ 140737488351232) (hz : ∀ p ∈ l, bkDec p.2 ≠ 0) :
    Calls Tryz.prog 108 #[v, .func (.func 110) #[] #[]] w fun e w' => e = .returned v ∧ Below w.heap.size w w' := by
  have HI := Lib.hid (bkidx_any l v w hv hs hz)
  clear hv hs hz
  go_enter Tryz.func108, Tryz.ntmps108
  go_wp2_with (go_at_call 173; (with_reducible refine HI.out.mono ?_); rintro e w2 ⟨rfl, hb⟩; have HB := Lib.hid hb; clear hb)
  go_ret
  exact ⟨rfl, HB.out⟩
abbrev loK : ByteArray := { data := #[98, 97, 110, 107, 47] }
abbrev hiK : ByteArray := { data := #[98, 97, 110, 107, 48] }
def balsO (t : Option AvT) : List KV := rangeO t loK hiK
theorem TreeO.ptr {w : World} {v : Value} {t : Option AvT} (h : TreeO w v t) : ∃ p, v = .pointer p := by
  cases t with
  | none => exact ⟨none, h⟩
  | some t => obtain ⟨g, e, _⟩ := h; exact ⟨_, e⟩
theorem bals_mem {t : Option AvT} (h : Srt (pairsO t)) {p : KV} (hp : p ∈ balsO t) : p ∈ pairsO t := by
  unfold balsO at hp
  rw [range_eq h] at hp
  exact (List.mem_filter.1 hp).1
theorem bkbals_any (va : Value) (t : Option AvT) (w : World) (g : Nat) (ht : TreeO w va t) (hg : GT 140737488351232 g t) (hgn : g ≤ 1048576) (hz : ∀ p ∈ balsO t, bkDec p.2 ≠ 0) :
    Calls Tryz.prog 43 #[va] w fun e w' => ∃ v, e = .returned v ∧ KVIn w' v (balsO t) ∧ Below w.heap.size w w' := by
  obtain ⟨p, rfl⟩ := ht.ptr
  have HR := Lib.hid (range_kv p t loK hiK w ht hg.srt (Nat.le_trans hg.many hgn))
  have HD := Lib.hid (fun (W : World) (v : Value) (h : KVIn W v (balsO t)) => bkdel_any (balsO t) v W h (fun p hp => by have := hg.size p (bals_mem hg.srt hp); omega) hz)
  have HBL := Lib.hid (show rangeO t loK hiK = balsO t from rfl)
  rw [HBL.out] at HR
  obtain ⟨L, hL⟩ : ∃ l, l = balsO t := ⟨_, rfl⟩
  rw [← hL] at HR HD ⊢
  clear hL HBL ht hg hgn hz
  go_enter Tryz.func43, Tryz.ntmps43
  go_wp2_with (first
    | (go_at_call 109; (with_reducible refine HR.out.mono ?_); rintro e w1 ⟨v1, rfl, hk, hb⟩; have HK := Lib.hid hk; have HB := Lib.hid hb; clear hk hb)
    | (go_at_call 108; (with_reducible refine (HD.out _ _ HK.out).mono ?_); rintro e w2 ⟨rfl, hb⟩; replace HK := Lib.hid (HK.out.below hb); replace HB := Lib.hid (HB.out.trans (hb.mono HB.out.size)); clear hb))
  go_ret
  exact ⟨_, rfl, HK.out, HB.out⟩
end Go.Proofs.YtejglhlodfhgkaaGreatDoor
namespace Go.Proofs.YtejglhlodfhgkaaGreatDoor
set_option linter.unusedVariables false
set_option linter.unusedSimpArgs false
open Go.RowKit
set_option maxRecDepth 100000
set_option linter.unusedSimpArgs false
set_option linter.unusedVariables false
theorem balK_list (n d : ByteArray) : (balK n d).toList = 98 :: 97 :: 110 :: 107 :: 47 :: (n.data.toList ++ 47 :: d.data.toList) := by
  rw [ByteArray.toList_eq]
  unfold balK
  rw [ByteArray.data_append, ByteArray.data_append, ByteArray.data_append]
  simp only [Array.toList_append]
  simp
theorem supK_list (d : ByteArray) : (supK d).toList = 115 :: 117 :: 112 :: 112 :: 108 :: 121 :: 47 :: d.data.toList := by
  rw [ByteArray.toList_eq]
  unfold supK
  rw [ByteArray.data_append, Array.toList_append]
  simp
theorem loK_list : loK.toList = [98, 97, 110, 107, 47] := by decide +kernel
theorem hiK_list : hiK.toList = [98, 97, 110, 107, 48] := by decide +kernel
theorem bl_bal_sup (n d d' : ByteArray) : bl (balK n d) (supK d') = true := by
  unfold bl
  rw [balK_list, supK_list]
  simp [Op.bytesLess]
theorem bal_lo (n d : ByteArray) : bl (balK n d) loK = false := by
  unfold bl
  rw [balK_list, loK_list]
  simp [Op.bytesLess]
theorem bal_hi (n d e : ByteArray) : upTo hiK (balK n d, e) = true := by
  unfold upTo bl
  simp only
  rw [balK_list, hiK_list]
  simp [Op.bytesLess]
theorem sup_hi (d e : ByteArray) : upTo hiK (supK d, e) = false := by
  unfold upTo bl
  simp only
  rw [supK_list, hiK_list]
  simp [Op.bytesLess]
def twT (k1 v1 k2 v2 : ByteArray) : AvT := .node (.leaf k1 v1) (.leaf k2 v2)
theorem lf_set {k1 k2 : ByteArray} (h : bl k1 k2 = true) (v1 v2 : ByteArray) : (AvT.leaf k2 v2).set k1 v1 = twT k1 v1 k2 v2 := by
  unfold AvT.set
  rw [if_neg (bl_ne h), if_pos h]
  rfl
theorem joinN_lf (k1 v1 k2 v2 : ByteArray) : joinN (.leaf k1 v1) (.leaf k2 v2) = twT k1 v1 k2 v2 := by
  unfold joinN
  simp [AvT.height, twT]
theorem tw_set {k1 k2 : ByteArray} (h : bl k1 k2 = true) (v v1 v2 : ByteArray) : (twT k1 v1 k2 v2).set k1 v = twT k1 v k2 v2 := by
  unfold twT
  rw [AvT.set, if_pos (show bl k1 (AvT.leaf k2 v2).least = true from h)]
  unfold AvT.set
  rw [if_pos rfl, joinN_lf]
  rfl
theorem tw_drop {k1 k2 : ByteArray} (h : bl k1 k2 = true) (v1 v2 : ByteArray) : dropO (some (twT k1 v1 k2 v2)) k1 = some (.leaf k2 v2) := by
  unfold dropO twT
  have hg : (AvT.node (.leaf k1 v1) (.leaf k2 v2)).get k1 = some v1 := by
    unfold AvT.get
    rw [if_pos (show bl k1 (AvT.leaf k2 v2).least = true from h)]
    unfold AvT.get
    rw [if_pos rfl]
  simp only
  rw [hg, if_pos (by rfl)]
  unfold AvT.without
  rw [if_pos (show bl k1 (AvT.leaf k2 v2).least = true from h)]
  rfl
theorem mint_tw {n : ByteArray} {a : Int} (h0 : a ≠ 0) : chgT (chgT none (supK atD) a) (balK n atD) a = some (twT (balK n atD) (encI a) (supK atD) (encI a)) := by
  unfold chgT
  rw [if_neg h0, if_neg h0]
  show some ((AvT.leaf (supK atD) (encI a)).set _ _) = _
  rw [lf_set (bl_bal_sup _ _ _)]
structure SfF where
  T : Option AvT
  V : Option AvT
/-- what the law's calls answer where Mint went well -/
structure SfH (s o : ByteArray) (n : Int) (F : SfF) : Prop where
  n0 : amt n
  t : (mintR none s atD n).t = F.T
  g : GT 140737488351232 2 F.T
  yes : ∀ m, 0 ≤ m → m ≤ n → (sendR F.T s s atD m).e = none ∧ (sendR F.T s s atD m).t = F.T
  no : ∀ m, ¬ (0 ≤ m ∧ m ≤ n) → ∃ e, (sendR F.T s s atD m).e = some e ∧ (sendR F.T s s atD m).t = none
  bad : bkN o = false → (sendR F.T s o atD n).e = some 42 ∧ (sendR F.T s o atD n).t = none
  ok : bkN o = true → (sendR F.T s o atD n).e = none ∧ (sendR F.T s o atD n).t = F.V ∧ GT 140737488351232 4 F.V ∧ bkV F.V (balK o atD) = n ∧ (s ≠ o → bkV F.V (balK s atD) = 0) ∧ bkV F.V (supK atD) = n ∧ (n ≠ 0 → (balsO F.V).length = 1 ∧ ∀ p ∈ balsO F.V, bkDec p.2 ≠ 0)
theorem balK_inj0 {n m d : ByteArray} (h : balK n d = balK m d) : n = m := by
  have h1 := congrArg ByteArray.toList h
  rw [balK_list, balK_list] at h1
  have h2 : n.data.toList ++ 47 :: d.data.toList = m.data.toList ++ 47 :: d.data.toList := by simpa using h1
  have h3 := List.append_cancel_right h2
  cases n; cases m
  congr
  exact Array.toList_inj.1 h3
theorem sf_yes {s o : ByteArray} {n : Int} (he : (mintR none s atD n).e = none) : ∃ F, SfH s o n F := by
  obtain ⟨hc, h1, -, -⟩ := stp2_ok he
  obtain ⟨hnm, -⟩ := ckC_parts hc
  have hs : bkN s = true := by
    cases hb : bkN s with
    | true => rfl
    | false => rw [ckN_no hb] at hnm; cases hnm
  have han : amt n := (addE_ok h1).2.1
  have hz := ckN_one hnm
  have hz4 : atD.size = 4 := rfl
  obtain ⟨-, hT⟩ := mint_new hs han
  have hg : GT 140737488351232 2 (mintR none s atD n).t := mint_GT (GT.none _) he (by omega)
  have hS := hg.srt
  have hv : bkV (mintR none s atD n).t (balK s atD) = n := by rw [hT]; exact bkV_same (srt_chg srt_nil _ _) _ (amt_i64 han)
  have hvs : bkV (mintR none s atD n).t (supK atD) = n := by rw [hT, bkV_other (srt_chg srt_nil _ _) _ (sup_bal s atD atD)]; exact bkV_same srt_nil _ (amt_i64 han)
  have hcs : ckC atD [s, s] = none := by unfold ckC; rw [ckN2_of hs hs]; exact chk_atD
  -- to themselves
  have hyes : ∀ m, 0 ≤ m → m ≤ n → (sendR (mintR none s atD n).t s s atD m).e = none ∧ (sendR (mintR none s atD n).t s s atD m).t = (mintR none s atD n).t := fun m h0 hm => by
    have ham : amt m := ⟨h0, by obtain ⟨_, _⟩ := han; omega⟩
    have hnm : amt (n - m) := ⟨by omega, by obtain ⟨_, _⟩ := han; omega⟩
    have hy : bkV (chgT (mintR none s atD n).t (balK s atD) (n - m)) (balK s atD) = n - m := bkV_same hS _ (amt_i64 hnm)
    obtain ⟨a1, a2⟩ := send_yes hS hcs hv ham han hm hy hnm (by obtain ⟨_, _⟩ := han; omega)
    refine ⟨a1, a2.trans ?_⟩
    rw [show n - m + m = n by omega]
    by_cases hn0 : n = 0
    · have hm0 : m = 0 := by omega
      subst hn0 hm0
      rw [hT]; rfl
    · rw [hT, mint_tw hn0]
      by_cases hd : n - m = 0
      · unfold chgT
        rw [if_pos hd, if_neg hn0, tw_drop (bl_bal_sup _ _ _)]
        show some ((AvT.leaf (supK atD) (encI n)).set _ _) = _
        rw [lf_set (bl_bal_sup _ _ _)]
      · unfold chgT
        rw [if_neg hd, if_neg hn0]
        show some (((twT (balK s atD) (encI n) (supK atD) (encI n)).set (balK s atD) (encI (n - m))).set (balK s atD) (encI n)) = _
        rw [tw_set (bl_bal_sup _ _ _), tw_set (bl_bal_sup _ _ _)]
  have hno : ∀ m, ¬ (0 ≤ m ∧ m ≤ n) → ∃ e, (sendR (mintR none s atD n).t s s atD m).e = some e ∧ (sendR (mintR none s atD n).t s s atD m).t = none := fun m hm => by
    cases hE : (sendR (mintR none s atD n).t s s atD m).e with
    | some e => exact ⟨e, rfl, stp2_err hE⟩
    | none =>
      obtain ⟨-, k1, -, -⟩ := stp2_ok hE
      obtain ⟨-, k2, k3, -⟩ := subE_ok k1
      rw [hv] at k3
      exact absurd ⟨k2.1, k3⟩ hm
  have hbad : bkN o = false → (sendR (mintR none s atD n).t s o atD n).e = some 42 ∧ (sendR (mintR none s atD n).t s o atD n).t = none := fun ho => by
    have e3 : (sendR (mintR none s atD n).t s o atD n).e = some 42 := by unfold sendR stp2 st2E ckC; rw [ckN2_no ho]
    exact ⟨e3, stp2_err e3⟩
  by_cases ho : bkN o = true
  case neg => exact ⟨⟨(mintR none s atD n).t, none⟩, han, rfl, hg, hyes, hno, hbad, fun h => absurd h ho⟩
  have hco : ckC atD [s, o] = none := by unfold ckC; rw [ckN2_of hs ho]; exact chk_atD
  have hoz := ckN_one (ckN_of ho)
  have h00 : n - n = 0 := by omega
  have hy : bkV (chgT (mintR none s atD n).t (balK s atD) (n - n)) (balK o atD) = 0 := by
    by_cases e : balK o atD = balK s atD
    · rw [e, bkV_same hS _ (by omega), h00]
    · rw [bkV_other hS _ e, hT, bkV_other (srt_chg srt_nil _ _) _ e, bkV_other srt_nil _ (bal_sup o atD atD)]
      exact bkV_nil _
  obtain ⟨a1, a2⟩ := send_yes hS hco hv han han (by omega) hy ⟨by decide, by decide⟩ (by obtain ⟨_, _⟩ := han; omega)
  have gv : GT 140737488351232 4 (sendR (mintR none s atD n).t s o atD n).t := send_GT hg a1 (by omega)
  have a3 : (sendR (mintR none s atD n).t s o atD n).t = chgT (chgT (mintR none s atD n).t (balK s atD) 0) (balK o atD) n := by rw [a2, h00, Int.zero_add]
  have hS1 := srt_chg hS (balK s atD) 0
  refine ⟨⟨(mintR none s atD n).t, (sendR (mintR none s atD n).t s o atD n).t⟩, han, rfl, hg, hyes, hno, hbad, fun _ => ⟨a1, rfl, gv, ?_, fun hso => ?_, ?_, fun hn0 => ?_⟩⟩
  · show bkV (sendR (mintR none s atD n).t s o atD n).t _ = n
    rw [a3]; exact bkV_same hS1 _ (amt_i64 han)
  · show bkV (sendR (mintR none s atD n).t s o atD n).t _ = 0
    rw [a3, bkV_other hS1 _ (fun e => hso (balK_inj0 e))]
    exact bkV_same hS _ (by decide)
  · show bkV (sendR (mintR none s atD n).t s o atD n).t _ = n
    rw [a3, bkV_other hS1 _ (sup_bal o atD atD), bkV_other hS _ (sup_bal s atD atD), hvs]
  · have hVt : (sendR (mintR none s atD n).t s o atD n).t = some (twT (balK o atD) (encI n) (supK atD) (encI n)) := by
      rw [a3, hT, mint_tw hn0]
      unfold chgT
      rw [if_pos rfl, if_neg hn0, tw_drop (bl_bal_sup _ _ _)]
      show some ((AvT.leaf (supK atD) (encI n)).set _ _) = _
      rw [lf_set (bl_bal_sup _ _ _)]
    have hb : balsO (sendR (mintR none s atD n).t s o atD n).t = [(balK o atD, encI n)] := by
      unfold balsO
      rw [range_eq gv.srt, hVt]
      show List.filter _ [(balK o atD, encI n), (supK atD, encI n)] = _
      rw [List.filter_cons_of_pos (by simp only; rw [bal_lo, bal_hi]; rfl), List.filter_cons_of_neg (by simp only; rw [sup_hi, Bool.and_false]; decide), List.filter_nil]
    show (balsO (sendR (mintR none s atD n).t s o atD n).t).length = 1 ∧ ∀ p ∈ balsO (sendR (mintR none s atD n).t s o atD n).t, _
    rw [hb]
    refine ⟨rfl, fun p hp => ?_⟩
    rw [List.mem_singleton] at hp
    subst hp
    show bkDec (encI n) ≠ 0
    rw [bkDec_enc (amt_i64 han)]
    exact hn0
end Go.Proofs.YtejglhlodfhgkaaGreatDoor
