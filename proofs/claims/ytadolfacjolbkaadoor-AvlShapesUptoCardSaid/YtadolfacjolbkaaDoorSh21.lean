/- Part 21 of the proof. -/
import Derived.Deep.DeepCutAuto
import Derived.Test.YtadolfacjolbkaaDoorSh5
import Derived.Test.YtadolfacjolbkaaDoorSh20
namespace Go.Proofs.YtadolfacjolbkaaDoor
set_option linter.unusedVariables false
set_option linter.unusedSimpArgs false
open Go.RowKit
set_option maxRecDepth 100000
set_option linter.unusedSimpArgs false
set_option linter.unusedVariables false
theorem RT.setRow {w : World} {g : Nat} {old new : Array Value} {T : TypeId} (hg : w.heap[g]? = some (.cells old T (0, 0))) (hs : old.size = 4) : ∀ {t : AvT} {cs : Array Value}, RT w cs t → RT (w.setRow g new) cs t
  | .leaf k v, cs, h => h
  | .node a b, cs, h => by
    obtain ⟨blk, ca, cb, h, hl, r1, r2, h1, h2⟩ := h
    have hne : blk ≠ g := fun e => by
      subst e
      have hz := h2.size
      obtain ⟨x, hx⟩ : ∃ x, cb.toList[0]? = some x := ⟨cb[0]'(by omega), by simp [hz]⟩
      have := r2 0 x hx
      rw [cell_of_row w blk (4 + 0) _ _ _ hg] at this
      rw [Array.getElem?_eq_none (by omega)] at this
      cases this
    have hk : ∀ o (l : List Value), w.rangeAt blk o l → (w.setRow g new).rangeAt blk o l := fun o l h j v hv => (World.cell?_of_block (w := w) (setRow_other _ _ _ _ hne)).trans (h j v hv)
    exact ⟨blk, ca, cb, h, by simpa [World.setRow] using hl, hk _ _ r1, hk _ _ r2, h1.setRow hg hs, h2.setRow hg hs⟩
theorem RO.setRow {w : World} {g : Nat} {old new : Array Value} {T : TypeId} (hg : w.heap[g]? = some (.cells old T (0, 0))) (hs : old.size = 4) {t : Option AvT} {cs : Array Value} (h : RO w cs t) : RO (w.setRow g new) cs t := by
  cases t with
  | none => exact h
  | some t => exact RT.setRow hg hs h
/-- Get, in a list -/
def getL (l : List KV) (k : ByteArray) : Option ByteArray := match l with
  | [] => none
  | p :: l => if p.1 = k then some p.2 else getL l k
theorem getL_drop (k : ByteArray) : ∀ (l : List KV) (i : Nat) (p : KV), l[i]? = some p → p.1 ≠ k → getL (l.drop i) k = getL (l.drop (i + 1)) k
  | [], i, p, h, _ => by simp at h
  | q :: l, 0, p, h, hn => by
    injection h with h; subst h
    show getL (q :: l) k = getL l k
    rw [getL, if_neg hn]
  | q :: l, i + 1, p, h, hn => by simpa using getL_drop k l i p (by simpa using h) hn
theorem getL_hit (k : ByteArray) : ∀ (l : List KV) (i : Nat) (p : KV), l[i]? = some p → p.1 = k → getL (l.drop i) k = some p.2
  | [], i, p, h, _ => by simp at h
  | q :: l, 0, p, h, hn => by
    injection h with h; subst h
    show getL (q :: l) k = some q.2
    rw [getL, if_pos hn]
  | q :: l, i + 1, p, h, hn => by simpa using getL_hit k l i p (by simpa using h) hn
def strO2 (o : Option ByteArray) : ByteArray := o.getD eBA
set_option maxHeartbeats 2000000 in
theorem rget_any (t : Option AvT) (cs : Array Value) (k : ByteArray) (w : World) (h : RO w cs t) (hm : manyO t ≤ 1099511627776) : Calls Tryd.prog 54 #[.agg cs, .string k] w fun e w' => e = .returned (.tuple #[.string (strO2 (getL (pairsO t) k)), .bool (getL (pairsO t) k).isSome]) ∧ Below w.heap.size w w' := by
  have hml : (pairsO t).length ≤ 1099511627776 := by
    cases t with
    | none => simp [pairsO]
    | some t => rw [show pairsO (some t) = t.pairs from rfl, AvT.many_eq]; exact hm
  obtain ⟨is, k0, v0, a0, n0, c0', rfl⟩ := h.form
  have HB := Lib.hid (below_alloc w (.cells #[.bool is, .string k0, .string v0, .slice a0 n0 c0'] 29))
  have HP := Lib.hid (heap_alloc_new w (.cells #[.bool is, .string k0, .string v0, .slice a0 n0 c0'] 29))
  have HR := Lib.hid (h.below HB.out)
  have HPS := Lib.hid (rpairs_any t _ _ HR.out hm)
  obtain ⟨l, hl⟩ : ∃ l, l = pairsO t := ⟨_, rfl⟩
  rw [← hl] at HPS hml ⊢
  have HG := Lib.hid (show getL l k = getL (l.drop 0) k by rw [List.drop_zero])
  obtain ⟨G, hG⟩ : ∃ G, G = getL l k := ⟨_, rfl⟩
  rw [← hG] at HG ⊢
  have HML := Lib.hid hml
  clear h hl hG hm hml
  go_enter Tryd.func54, Tryd.ntmps54
  go_upto_region 1 with (fail)
  generalize w.alloc (.cells #[.bool is, .string k0, .string v0, .slice a0 n0 c0'] 29) = w1 at *
  go_upto_region 3 with (first
    | (refine wpList_load_row rfl 29 (.tmp 2) rfl w.heap.size rfl 29 _ (0, 0) _ HP.out Tryd.underlying29 rfl (by kernel_rfl) ?_)
    | (go_at_call 44; (with_reducible refine HPS.out.mono ?_); rintro e w4 ⟨r, rfl, ho, hb⟩; have HK := Lib.hid (KVIn.of_own ho); replace HB := Lib.hid (HB.out.trans (hb.mono HB.out.size)); clear ho hb))
  obtain ⟨ra, rc, rfl⟩ := HK.out.len
  go_loop [7] (fun x => ∃ i : Nat, i ≤ l.length ∧ x = .int .i64 (i : Int) ∧ Hid (G = getL (l.drop i) k)) (fun x => l.length - (intOf x).toNat)
  case atStart => exact ⟨0, Nat.zero_le _, rfl, HG⟩
  case round =>
    clear HG
    obtain ⟨i, hi, rfl, HG⟩ := hrel
    have hib : i ≤ 1099511627776 := by have := HML.out; omega
    by_cases hlt : i < l.length
    · obtain ⟨p, hp⟩ : ∃ p, l[i]? = some p := ⟨l[i], List.getElem?_eq_getElem hlt⟩
      obtain ⟨ab, ao, rfl, -, c1, c2⟩ := HK.out.at i p hp
      have HPI := Lib.hid hp
      clear hp
      by_cases he : p.1 = k
      · have hk : (p.1.toList == k.toList) = true := by rw [beqL]; simp [he]
        have HF := Lib.hid (HG.out.trans (getL_hit k l i p HPI.out he))
        clear he HG
        go_wp2_with (fail)
        go_ret2
        rw [HF.out]
        exact ⟨rfl, HB.out⟩
      · have hk : (p.1.toList == k.toList) = false := by rw [beqL]; simp [he]
        have HF := Lib.hid (HG.out.trans (getL_drop k l i p HPI.out he))
        clear he HG
        go_wp2_with (fail)
        go_round
        case rel => exact ⟨i + 1, by omega, by go_num, HF⟩
        case measure => simp [intOf]; omega
    · obtain rfl : i = l.length := by omega
      have HF := Lib.hid (show G = none by rw [HG.out, List.drop_length]; rfl)
      clear HG
      go_wp2_with (fail)
      go_ret2
      rw [HF.out]
      exact ⟨rfl, HB.out⟩
/-- right -/
def rightN (a b : AvT) : AvT :=
  if a.height = b.height + 2 then
    match a with
    | .node x y => fromFirst x y b
    | .leaf _ _ => .node a b
  else if b.height = a.height + 2 then
    match b with
    | .node x y => fromSecond a x y
    | .leaf _ _ => .node a b
  else .node a b
theorem rightN_many (a b : AvT) : (rightN a b).many = a.many + b.many := by
  rw [← AvT.many_eq]
  have : (rightN a b).pairs = a.pairs ++ b.pairs := by
    unfold rightN
    split
    · cases a with
      | leaf k v => rfl
      | node x y =>
        simp only [fromFirst]
        split
        · cases y <;> simp [AvT.pairs, List.append_assoc]
        · simp [AvT.pairs, List.append_assoc]
    · split
      · cases b with
        | leaf k v => rfl
        | node x y =>
          simp only [fromSecond]
          split
          · cases x <;> simp [AvT.pairs, List.append_assoc]
          · simp [AvT.pairs, List.append_assoc]
      · rfl
  rw [this, List.length_append, AvT.many_eq, AvT.many_eq]
def zR : Array Value := #[.bool false, .string { data := #[] }, .string { data := #[] }, .slice none 0 0]
/-- what lies in memory while right goes on -/
structure RgM (w w' : World) (ca cb : Array Value) (a b : AvT) : Prop where
  below : Below w.heap.size w w'
  pa : w'.heap[w.heap.size]? = some (.cells ca 29 (0, 0))
  pb : w'.heap[w.heap.size + 1]? = some (.cells cb 29 (0, 0))
  re : w'.heap[w.heap.size + 1 + 1]? = some (.cells zR 29 (0, 0))
  ta : RT w' ca a
  tb : RT w' cb b
theorem blk_lt {w : World} {g : Nat} {o : Obj} (h : w.heap[g]? = some o) : g < w.heap.size := (Array.getElem?_eq_some_iff.1 h).1
theorem RgM.call {w w' w2 : World} {ca cb : Array Value} {a b : AvT} (m : RgM w w' ca cb a b) (h : Below w'.heap.size w' w2) : RgM w w2 ca cb a b :=
  ⟨m.below.trans (h.mono m.below.size), (h.block _ (blk_lt m.pa)).trans m.pa, (h.block _ (blk_lt m.pb)).trans m.pb, (h.block _ (blk_lt m.re)).trans m.re, m.ta.below h, m.tb.below h⟩
def rgW (w : World) (ca cb : Array Value) : World := ((w.alloc (.cells ca 29)).alloc (.cells cb 29)).alloc (.cells zR 29)
theorem rgM_start {w : World} {ca cb : Array Value} {a b : AvT} (ha : RT w ca a) (hb : RT w cb b) : RgM w (rgW w ca cb) ca cb a b := by
  have hB : Below w.heap.size w (rgW w ca cb) := ((below_alloc w _).trans ((below_alloc _ _).mono (by simp))).trans ((below_alloc _ _).mono (by simp; omega))
  refine ⟨hB, ?_, ?_, ?_, ha.below hB, hb.below hB⟩
  · unfold rgW; rw [heap_alloc_old _ _ (by simp; omega), heap_alloc_old _ _ (by simp), heap_alloc_new]
  · unfold rgW; rw [heap_alloc_old _ _ (by simp)]
    have := heap_alloc_new (w.alloc (.cells ca 29)) (.cells cb 29)
    rw [size_alloc] at this; exact this
  · unfold rgW
    have := heap_alloc_new ((w.alloc (.cells ca 29)).alloc (.cells cb 29)) (.cells zR 29)
    rw [size_alloc, size_alloc] at this; exact this
theorem RgM.done {w w' : World} {ca cb cs : Array Value} {a b t : AvT} (m : RgM w w' ca cb a b) (h : RT w' cs t) : Below w.heap.size w (w'.setRow (w.heap.size + 1 + 1) cs) ∧ RO (w'.setRow (w.heap.size + 1 + 1) cs) cs (some t) ∧ (w'.setRow (w.heap.size + 1 + 1) cs).heap[w.heap.size + 1 + 1]? = some (.cells cs 29 (0, 0)) :=
  ⟨below_setRow m.below (by omega) _, RT.setRow m.re rfl h, setRow_heap _ _ _ _ _ _ m.re⟩
/-- and two parts of one of them in blocks of their own -/
structure RgX (w w' : World) (ca cb : Array Value) (a b : AvT) (g6 g7 : Nat) (cx cy : Array Value) (x y : AvT) : Prop where
  m : RgM w w' ca cb a b
  h6 : w'.heap[g6]? = some (.cells cx 29 (0, 0))
  h7 : w'.heap[g7]? = some (.cells cy 29 (0, 0))
  tx : RT w' cx x
  ty : RT w' cy y
theorem RgX.call {w w' w2 : World} {ca cb cx cy : Array Value} {a b x y : AvT} {g6 g7 : Nat} (m : RgX w w' ca cb a b g6 g7 cx cy x y) (h : Below w'.heap.size w' w2) : RgX w w2 ca cb a b g6 g7 cx cy x y :=
  ⟨m.m.call h, (h.block _ (blk_lt m.h6)).trans m.h6, (h.block _ (blk_lt m.h7)).trans m.h7, m.tx.below h, m.ty.below h⟩
def al2 (w : World) : World := (w.alloc (.cells zR 29)).alloc (.cells zR 29)
theorem al2_at (w : World) : (al2 w).heap[w.heap.size]? = some (.cells zR 29 (0, 0)) ∧ (al2 w).heap[w.heap.size + 1]? = some (.cells zR 29 (0, 0)) ∧ Below w.heap.size w (al2 w) := by
  unfold al2
  refine ⟨?_, ?_, (below_alloc w _).trans ((below_alloc _ _).mono (by simp))⟩
  · rw [heap_alloc_old _ _ (by simp), heap_alloc_new]
  · have := heap_alloc_new (w.alloc (.cells zR 29)) (.cells zR 29)
    rw [size_alloc] at this; exact this
theorem al2_set (w : World) (g h : Nat) (c d : Array Value) (hg : g = w.heap.size ∧ h = w.heap.size + 1 ∨ g = w.heap.size + 1 ∧ h = w.heap.size) :
    ((al2 w).setRow g c).heap[h]? = some (.cells zR 29 (0, 0)) ∧ (((al2 w).setRow g c).setRow h d).heap[g]? = some (.cells c 29 (0, 0)) ∧ (((al2 w).setRow g c).setRow h d).heap[h]? = some (.cells d 29 (0, 0)) ∧ Below w.heap.size w (((al2 w).setRow g c).setRow h d) := by
  obtain ⟨a1, a2, a3⟩ := al2_at w
  rcases hg with ⟨rfl, rfl⟩ | ⟨rfl, rfl⟩
  · have e1 : ((al2 w).setRow w.heap.size c).heap[w.heap.size + 1]? = some (.cells zR 29 (0, 0)) := (setRow_other _ _ _ _ (by omega)).trans a2
    exact ⟨e1, (setRow_other _ _ _ _ (by omega)).trans (setRow_heap _ _ _ _ _ _ a1), setRow_heap _ _ _ _ _ _ e1, below_setRow (below_setRow a3 (Nat.le_refl _) _) (by omega) _⟩
  · have e1 : ((al2 w).setRow (w.heap.size + 1) c).heap[w.heap.size]? = some (.cells zR 29 (0, 0)) := (setRow_other _ _ _ _ (by omega)).trans a1
    exact ⟨e1, (setRow_other _ _ _ _ (by omega)).trans (setRow_heap _ _ _ _ _ _ a2), setRow_heap _ _ _ _ _ _ e1, below_setRow (below_setRow a3 (by omega) _) (Nat.le_refl _) _⟩
set_option maxRecDepth 1000000 in
set_option maxHeartbeats 8000000 in
theorem rright_any (ca cb : Array Value) (a b : AvT) (w : World) (ha : RT w ca a) (hb : RT w cb b) (hm : a.many + b.many ≤ 1099511627776) : Calls Tryd.prog 55 #[.agg ca, .agg cb] w (NewR (some (rightN a b)) w) := by
  have HZA := Lib.hid ha.size
  have HZB := Lib.hid hb.size
  have hla := a.height_le
  have hlb := b.height_le
  have M := Lib.hid (rgM_start ha hb)
  have HHA := Lib.hid (fun w h => rheight_some a ca w h (by omega))
  have HHB := Lib.hid (fun w h => rheight_some b cb w h (by omega))
  have HM := Lib.hid hm
  obtain ⟨ah, hah⟩ : ∃ n, n = a.height := ⟨_, rfl⟩
  obtain ⟨bh, hbh⟩ : ∃ n, n = b.height := ⟨_, rfl⟩
  rw [← hah] at HHA hla
  rw [← hbh] at HHB hlb
  have hah2 : ah ≤ 1099511627776 := by omega
  have hbh2 : bh ≤ 1099511627776 := by omega
  replace hah := Lib.hid hah
  replace hbh := Lib.hid hbh
  clear ha hb hm hla hlb
  unfold HtPost at HHA HHB
  unfold NewR
  go_enter Tryd.func55, Tryd.ntmps55
  go_upto_region 1 with (fail)
  have e0 : ((w.alloc (.cells ca 29)).alloc (.cells cb 29)).alloc (.cells #[.bool false, .string { data := #[] }, .string { data := #[] }, .slice none 0 0] 29) = rgW w ca cb := rfl
  rw [e0]
  clear e0
  generalize rgW w ca cb = w1 at *
  refine wp_region_T (fun w' => w'.rangeAt w.heap.size 0 ca.toList ∧ w'.rangeAt (w.heap.size + 1) 0 cb.toList) [0, 1, 2] (by kernel_rfl) ?_
  replace M := Lib.hid (M.out.call (Below.refl _ w1).drew)
  generalize w1.drew = w2 at *
  refine anyT_take [1, 3, 4, 5] (i := 0) (v := .agg ca) rfl (by kernel_rfl) (by kernel_rfl) (by kernel_rfl) (fun _ _ _ h => h) (by kernel_rfl) (agg_mid (by rfl) 29 (.tmp 2) rfl w.heap.size 0 rfl _ _ (fun _ h => h.1) Tryd.underlying29 rfl (by rw [HZA.out]; kernel_rfl)) ⟨range_of M.out.pa, range_of M.out.pb⟩ ?_
  try simp only [List.getElem_toArray, List.getElem_cons_succ, List.getElem_cons_zero, Act.put, List.setIfInBounds_toArray, List.set_cons_zero, List.set_cons_succ]
  refine anyT_take [3, 4, 5] (i := 2) (v := .agg cb) rfl (by kernel_rfl) (by kernel_rfl) (by kernel_rfl) (fun _ _ _ h => h) (by kernel_rfl) (agg_mid (by rfl) 29 (.tmp 3) rfl (w.heap.size + 1) 0 rfl _ _ (fun _ h => h.2) Tryd.underlying29 rfl (by rw [HZB.out]; kernel_rfl)) ⟨range_of M.out.pa, range_of M.out.pb⟩ ?_
  try simp only [List.getElem_toArray, List.getElem_cons_succ, List.getElem_cons_zero, Act.put, List.setIfInBounds_toArray, List.set_cons_zero, List.set_cons_succ]
  refine anyT_one (i := 1) (by kernel_rfl) rfl (fun K hK => ?_)
  rw [if_pos (by rfl)]
  try simp only [List.getElem_toArray, List.getElem_cons_succ, List.getElem_cons_zero]
  (go_simp; refine (HHA.out _ M.out.ta).mono ?_; rintro e w3 ⟨rfl, hb⟩; replace M := Lib.hid (M.out.call hb); clear hb)
  refine hK _ _ (fun _ => ⟨range_of M.out.pa, range_of M.out.pb⟩) ?_
  clear hK K
  try simp only [List.getElem_toArray, List.getElem_cons_succ, List.getElem_cons_zero, Act.put, List.setIfInBounds_toArray, List.set_cons_zero, List.set_cons_succ]
  refine anyT_one (i := 3) (by kernel_rfl) rfl (fun K hK => ?_)
  rw [if_pos (by rfl)]
  try simp only [List.getElem_toArray, List.getElem_cons_succ, List.getElem_cons_zero]
  (go_simp; refine (HHB.out _ M.out.tb).mono ?_; rintro e w4 ⟨rfl, hb⟩; replace M := Lib.hid (M.out.call hb); clear hb)
  refine hK _ _ (not_mem rfl) ?_
  clear hK K
  try simp only [List.getElem_toArray, List.getElem_cons_succ, List.getElem_cons_zero, Act.put, List.setIfInBounds_toArray, List.set_cons_zero, List.set_cons_succ]
  refine anyT_takeY (i := 4) (v := .int .i64 ((ah : Int) - (bh : Int))) rfl (by kernel_rfl) (by kernel_rfl) (by kernel_rfl) (fun _ _ _ h => h) (by kernel_rfl) (Or.inl ⟨by rfl, by intro w; go_simp; exact IntWalk.i64_in _ (by omega)⟩) ?_
  try simp only [List.getElem_toArray, List.getElem_cons_succ, List.getElem_cons_zero, Act.put, List.setIfInBounds_toArray, List.set_cons_zero, List.set_cons_succ]
  refine anyT_takeY (i := 5) (v := .int .i64 ((ah : Int) - (bh : Int))) rfl (by kernel_rfl) (by kernel_rfl) (by kernel_rfl) (fun _ _ _ h => h) (by kernel_rfl) (Or.inl ⟨by rfl, by intro w; go_simp⟩) ?_
  try simp only [List.getElem_toArray, List.getElem_cons_succ, List.getElem_cons_zero, Act.put, List.setIfInBounds_toArray, List.set_cons_zero, List.set_cons_succ]
  refine anyT_done (by kernel_rfl) ?_ _
  clear HHA HHB
  by_cases h2 : ah = bh + 2
  · have hd2 : ((ah : Int) - (bh : Int) == 2) = true := by rw [beq_iff_eq]; omega
    cases a with
    | leaf k v => have e1 := hah.out; simp only [AvT.height] at e1; omega
    | node x y =>
      have HRN := Lib.hid (show rightN (.node x y) b = fromFirst x y b by unfold rightN; rw [if_pos (by rw [← hah.out, ← hbh.out]; exact h2)])
      clear h2 hah2 hbh2 hah hbh
      obtain ⟨bk, cx, cy, hca, hbk, r1, r2, tx, ty⟩ := M.out.ta
      have HXY := Lib.hid (show RT w4 cx x ∧ RT w4 cy y from ⟨tx, ty⟩)
      have HZX := Lib.hid tx.size
      have HZY := Lib.hid ty.size
      have HOX := Lib.hid (RO.one (t := some x) tx)
      have HOY := Lib.hid (RO.one (t := some y) ty)
      have HSX := Lib.hid (show w4.cell? ⟨w.heap.size, 3, none⟩ = some (.slice (some ⟨bk, 0, none⟩) 2 2) ∧ w4.rangeAt bk 0 cx.toList ∧ w4.rangeAt bk 4 cy.toList from ⟨by rw [cell_of_row w4 _ 3 _ _ _ M.out.pa, hca]; rfl, r1, r2⟩)
      have HXM := Lib.hid (show x.many ≤ 1099511627776 ∧ y.many ≤ 1099511627776 by have := HM.out; simp only [AvT.many] at this; omega)
      have HBK0 := Lib.hid hbk
      clear hca hbk r1 r2 tx ty
      go_upto_region 3 with (fail)
      go_cut [6, 7] (fun p6 p7 wx => ∃ g6 g7, p6 = .pointer (some ⟨g6, 0, none⟩) ∧ p7 = .pointer (some ⟨g7, 0, none⟩) ∧ Hid (RgX w wx ca cb (.node x y) b g6 g7 cx cy x y))
      case first =>
        refine wp_region_T (fun w' => w'.cell? ⟨w.heap.size, 3, none⟩ = some (.slice (some ⟨bk, 0, none⟩) 2 2) ∧ w'.rangeAt bk 0 cx.toList ∧ w'.rangeAt bk 4 cy.toList) [1, 2, 3, 5, 6, 7, 8, 9, 10] (by kernel_rfl) ?_
        replace M := Lib.hid (M.out.call (Below.refl _ _).drew)
        replace HXY := Lib.hid (show RT w4.drew cx x ∧ RT w4.drew cy y from ⟨HXY.out.1.below (Below.refl _ _).drew, HXY.out.2.below (Below.refl _ _).drew⟩)
        replace HSX := Lib.hid (show w4.drew.cell? ⟨w.heap.size, 3, none⟩ = some (.slice (some ⟨bk, 0, none⟩) 2 2) ∧ w4.drew.rangeAt bk 0 cx.toList ∧ w4.drew.rangeAt bk 4 cy.toList from HSX.out)
        have HBK := Lib.hid (show w.heap.size < w4.drew.heap.size ∧ bk < w4.drew.heap.size from ⟨blk_lt M.out.pa, HBK0.out⟩)
        generalize w4.drew = w5 at *
        have HKX : Hid (∀ u : World, Below w5.heap.size w5 u → u.cell? ⟨w.heap.size, 3, none⟩ = some (.slice (some ⟨bk, 0, none⟩) 2 2) ∧ u.rangeAt bk 0 cx.toList ∧ u.rangeAt bk 4 cy.toList) := Lib.hid fun u hb => ⟨(hb.cell (p := ⟨w.heap.size, 3, none⟩) HBK.out.1).trans HSX.out.1, range_below HSX.out.2.1 hb HBK.out.2, range_below HSX.out.2.2 hb HBK.out.2⟩
        refine anyT_takeY (i := 0) (v := .pointer (some ⟨w.heap.size, 3, none⟩)) rfl (by kernel_rfl) (by kernel_rfl) (by kernel_rfl) (fun _ _ _ h => h) (by kernel_rfl) (Or.inl ⟨by rfl, by intro w; go_simp⟩) ?_
        try simp only [List.getElem_toArray, List.getElem_cons_succ, List.getElem_cons_zero, Act.put, List.setIfInBounds_toArray, List.set_cons_zero, List.set_cons_succ]
        refine anyT_takeY (i := 4) (v := .pointer (some ⟨w.heap.size, 3, none⟩)) rfl (by kernel_rfl) (by kernel_rfl) (by kernel_rfl) (fun _ _ _ h => h) (by kernel_rfl) (Or.inl ⟨by rfl, by intro w; go_simp⟩) ?_
        try simp only [List.getElem_toArray, List.getElem_cons_succ, List.getElem_cons_zero, Act.put, List.setIfInBounds_toArray, List.set_cons_zero, List.set_cons_succ]
        refine anyT_take [2, 3, 10, 11] (i := 1) (v := .slice (some ⟨bk, 0, none⟩) 2 2) rfl (by kernel_rfl) (by kernel_rfl) (by kernel_rfl) (fun _ _ _ h => h) (by kernel_rfl) (Or.inl ⟨by rfl, fun w' hS => by have c := hS.1; go_simp⟩) HSX.out ?_
        try simp only [List.getElem_toArray, List.getElem_cons_succ, List.getElem_cons_zero, Act.put, List.setIfInBounds_toArray, List.set_cons_zero, List.set_cons_succ]
        refine anyT_take [3, 10, 11] (i := 2) (v := .pointer (some ⟨bk, 0, none⟩)) rfl (by kernel_rfl) (by kernel_rfl) (by kernel_rfl) (fun _ _ _ h => h) (by kernel_rfl) (Or.inl ⟨by rfl, fun w' _ => by go_simp⟩) HSX.out ?_
        try simp only [List.getElem_toArray, List.getElem_cons_succ, List.getElem_cons_zero, Act.put, List.setIfInBounds_toArray, List.set_cons_zero, List.set_cons_succ]
        refine anyT_take [10, 11] (i := 3) (v := .agg cx) rfl (by kernel_rfl) (by kernel_rfl) (by kernel_rfl) (fun _ _ _ h => h) (by kernel_rfl) (agg_mid (by rfl) 29 (.tmp 19) rfl bk 0 rfl _ _ (fun _ h => h.2.1) Tryd.underlying29 rfl (by rw [HZX.out]; kernel_rfl)) HSX.out ?_
        try simp only [List.getElem_toArray, List.getElem_cons_succ, List.getElem_cons_zero, Act.put, List.setIfInBounds_toArray, List.set_cons_zero, List.set_cons_succ]
        refine anyT_take [6, 7, 11] (i := 5) (v := .slice (some ⟨bk, 0, none⟩) 2 2) rfl (by kernel_rfl) (by kernel_rfl) (by kernel_rfl) (fun _ _ _ h => h) (by kernel_rfl) (Or.inl ⟨by rfl, fun w' hS => by have c := hS.1; go_simp⟩) HSX.out ?_
        try simp only [List.getElem_toArray, List.getElem_cons_succ, List.getElem_cons_zero, Act.put, List.setIfInBounds_toArray, List.set_cons_zero, List.set_cons_succ]
        refine anyT_take [7, 11] (i := 6) (v := .pointer (some ⟨bk, 4, none⟩)) rfl (by kernel_rfl) (by kernel_rfl) (by kernel_rfl) (fun _ _ _ h => h) (by kernel_rfl) (Or.inl ⟨by rfl, fun w' _ => by go_simp⟩) HSX.out ?_
        try simp only [List.getElem_toArray, List.getElem_cons_succ, List.getElem_cons_zero, Act.put, List.setIfInBounds_toArray, List.set_cons_zero, List.set_cons_succ]
        refine anyT_take [11] (i := 7) (v := .agg cy) rfl (by kernel_rfl) (by kernel_rfl) (by kernel_rfl) (fun _ _ _ h => h) (by kernel_rfl) (agg_mid (by rfl) 29 (.tmp 23) rfl bk 4 rfl _ _ (fun _ h => h.2.2) Tryd.underlying29 rfl (by rw [HZY.out]; kernel_rfl)) HSX.out ?_
        try simp only [List.getElem_toArray, List.getElem_cons_succ, List.getElem_cons_zero, Act.put, List.setIfInBounds_toArray, List.set_cons_zero, List.set_cons_succ]
        refine anyT_ready (rs := [8, 9]) (by kernel_rfl) (by simp) ?_
        refine readyT_cons rfl (fun K hK => ?_) (readyT_cons rfl (fun K hK => ?_) readyT_nil)
        · rw [if_pos (by rfl)]
          try simp only [List.getElem_toArray, List.getElem_cons_succ, List.getElem_cons_zero]
          (go_simp)
          refine hK _ _ (fun _ => HKX.out _ (below_alloc w5 _)) ?_
          clear hK K
          try simp only [List.getElem_toArray, List.getElem_cons_succ, List.getElem_cons_zero, Act.put, List.setIfInBounds_toArray, List.set_cons_zero, List.set_cons_succ]
          refine anyT_one (i := 9) (by kernel_rfl) rfl (fun K hK => ?_)
          rw [if_pos (by rfl)]
          try simp only [List.getElem_toArray, List.getElem_cons_succ, List.getElem_cons_zero]
          (go_simp)
          refine hK _ _ (fun _ => HKX.out _ (al2_at w5).2.2) ?_
          clear hK K
          try simp only [List.getElem_toArray, List.getElem_cons_succ, List.getElem_cons_zero, Act.put, List.setIfInBounds_toArray, List.set_cons_zero, List.set_cons_succ]
          have HSE := Lib.hid (al2_set w5 w5.heap.size (w5.heap.size + 1) cx cy (.inl ⟨rfl, rfl⟩))
          refine anyT_one (i := 10) (by kernel_rfl) rfl (fun K hK => ?_)
          rw [if_pos (by rfl)]
          try simp only [List.getElem_toArray, List.getElem_cons_succ, List.getElem_cons_zero]
          (refine wp_store_row 29 (.tmp 6) (.tmp 20) rfl w5.heap.size cx rfl rfl 29 _ (al2_at w5).1 (by rw [HZX.out]; kernel_rfl) (by rw [HZX.out]; rfl) HOX.out ?_)
          refine hK _ _ (fun _ => HKX.out _ (below_setRow (al2_at w5).2.2 (by omega) _)) ?_
          clear hK K
          try simp only [List.getElem_toArray, List.getElem_cons_succ, List.getElem_cons_zero, Act.put, List.setIfInBounds_toArray, List.set_cons_zero, List.set_cons_succ]
          refine anyT_one (i := 11) (by kernel_rfl) rfl (fun K hK => ?_)
          rw [if_pos (by rfl)]
          try simp only [List.getElem_toArray, List.getElem_cons_succ, List.getElem_cons_zero]
          (refine wp_store_row 29 (.tmp 7) (.tmp 24) rfl (w5.heap.size + 1) cy rfl rfl 29 _ HSE.out.1 (by rw [HZY.out]; kernel_rfl) (by rw [HZY.out]; rfl) HOY.out ?_)
          refine hK _ _ (not_mem rfl) ?_
          clear hK K
          try simp only [List.getElem_toArray, List.getElem_cons_succ, List.getElem_cons_zero, Act.put, List.setIfInBounds_toArray, List.set_cons_zero, List.set_cons_succ]
          refine anyT_done (by kernel_rfl) ?_ _
          go_wp2_with (fail)
          go_meet
          exact ⟨w5.heap.size, (w5.heap.size + 1), rfl, rfl, Lib.hid ⟨M.out.call HSE.out.2.2.2, HSE.out.2.1, HSE.out.2.2.1, HXY.out.1.below HSE.out.2.2.2, HXY.out.2.below HSE.out.2.2.2⟩⟩
        · rw [if_pos (by rfl)]
          try simp only [List.getElem_toArray, List.getElem_cons_succ, List.getElem_cons_zero]
          (go_simp)
          refine hK _ _ (fun _ => HKX.out _ (below_alloc w5 _)) ?_
          clear hK K
          try simp only [List.getElem_toArray, List.getElem_cons_succ, List.getElem_cons_zero, Act.put, List.setIfInBounds_toArray, List.set_cons_zero, List.set_cons_succ]
          refine anyT_one (i := 8) (by kernel_rfl) rfl (fun K hK => ?_)
          rw [if_pos (by rfl)]
          try simp only [List.getElem_toArray, List.getElem_cons_succ, List.getElem_cons_zero]
          (go_simp)
          refine hK _ _ (fun _ => HKX.out _ (al2_at w5).2.2) ?_
          clear hK K
          try simp only [List.getElem_toArray, List.getElem_cons_succ, List.getElem_cons_zero, Act.put, List.setIfInBounds_toArray, List.set_cons_zero, List.set_cons_succ]
          have HSE := Lib.hid (al2_set w5 (w5.heap.size + 1) w5.heap.size cx cy (.inr ⟨rfl, rfl⟩))
          refine anyT_one (i := 10) (by kernel_rfl) rfl (fun K hK => ?_)
          rw [if_pos (by rfl)]
          try simp only [List.getElem_toArray, List.getElem_cons_succ, List.getElem_cons_zero]
          (refine wp_store_row 29 (.tmp 6) (.tmp 20) rfl (w5.heap.size + 1) cx rfl rfl 29 _ (al2_at w5).2.1 (by rw [HZX.out]; kernel_rfl) (by rw [HZX.out]; rfl) HOX.out ?_)
          refine hK _ _ (fun _ => HKX.out _ (below_setRow (al2_at w5).2.2 (by omega) _)) ?_
          clear hK K
          try simp only [List.getElem_toArray, List.getElem_cons_succ, List.getElem_cons_zero, Act.put, List.setIfInBounds_toArray, List.set_cons_zero, List.set_cons_succ]
          refine anyT_one (i := 11) (by kernel_rfl) rfl (fun K hK => ?_)
          rw [if_pos (by rfl)]
          try simp only [List.getElem_toArray, List.getElem_cons_succ, List.getElem_cons_zero]
          (refine wp_store_row 29 (.tmp 7) (.tmp 24) rfl w5.heap.size cy rfl rfl 29 _ HSE.out.1 (by rw [HZY.out]; kernel_rfl) (by rw [HZY.out]; rfl) HOY.out ?_)
          refine hK _ _ (not_mem rfl) ?_
          clear hK K
          try simp only [List.getElem_toArray, List.getElem_cons_succ, List.getElem_cons_zero, Act.put, List.setIfInBounds_toArray, List.set_cons_zero, List.set_cons_succ]
          refine anyT_done (by kernel_rfl) ?_ _
          go_wp2_with (fail)
          go_meet
          exact ⟨(w5.heap.size + 1), w5.heap.size, rfl, rfl, Lib.hid ⟨M.out.call HSE.out.2.2.2, HSE.out.2.1, HSE.out.2.2.1, HXY.out.1.below HSE.out.2.2.2, HXY.out.2.below HSE.out.2.2.2⟩⟩
      case rest =>
        obtain ⟨g6, g7, rfl, rfl, MX⟩ := hcut
        clear M HXY HSX HBK0
        go_upto_region 4 with (fail)
        have HH1 := Lib.hid (fun w h => rheight_some y cy w h (by have := HXM.out; omega))
        have HH2 := Lib.hid (fun w h => rheight_some x cx w h (by have := HXM.out; omega))
        obtain ⟨h1, hh1⟩ : ∃ n, n = y.height := ⟨_, rfl⟩
        obtain ⟨h2, hh2⟩ : ∃ n, n = x.height := ⟨_, rfl⟩
        rw [← hh1] at HH1
        rw [← hh2] at HH2
        unfold HtPost at HH1 HH2
        replace hh1 := Lib.hid hh1
        replace hh2 := Lib.hid hh2
        refine wp_region_T (fun w' => w'.rangeAt g7 0 cy.toList ∧ w'.rangeAt g6 0 cx.toList) [0, 1, 2] (by kernel_rfl) ?_
        replace MX := Lib.hid (MX.out.call (Below.refl _ _).drew)
        generalize wc.drew = w6 at *
        refine anyT_take [1, 3, 4] (i := 0) (v := .agg cy) rfl (by kernel_rfl) (by kernel_rfl) (by kernel_rfl) (fun _ _ _ h => h) (by kernel_rfl) (agg_mid (by rfl) 29 (.tmp 7) rfl g7 0 rfl _ _ (fun _ h => h.1) Tryd.underlying29 rfl (by rw [HZY.out]; kernel_rfl)) ⟨range_of MX.out.h7, range_of MX.out.h6⟩ ?_
        try simp only [List.getElem_toArray, List.getElem_cons_succ, List.getElem_cons_zero, Act.put, List.setIfInBounds_toArray, List.set_cons_zero, List.set_cons_succ]
        refine anyT_take [3, 4] (i := 2) (v := .agg cx) rfl (by kernel_rfl) (by kernel_rfl) (by kernel_rfl) (fun _ _ _ h => h) (by kernel_rfl) (agg_mid (by rfl) 29 (.tmp 6) rfl g6 0 rfl _ _ (fun _ h => h.2) Tryd.underlying29 rfl (by rw [HZX.out]; kernel_rfl)) ⟨range_of MX.out.h7, range_of MX.out.h6⟩ ?_
        try simp only [List.getElem_toArray, List.getElem_cons_succ, List.getElem_cons_zero, Act.put, List.setIfInBounds_toArray, List.set_cons_zero, List.set_cons_succ]
        refine anyT_one (i := 1) (by kernel_rfl) rfl (fun K hK => ?_)
        rw [if_pos (by rfl)]
        try simp only [List.getElem_toArray, List.getElem_cons_succ, List.getElem_cons_zero]
        (go_simp; refine (HH1.out _ MX.out.ty).mono ?_; rintro e w7 ⟨rfl, hb⟩; replace MX := Lib.hid (MX.out.call hb); clear hb)
        refine hK _ _ (fun _ => ⟨range_of MX.out.h7, range_of MX.out.h6⟩) ?_
        clear hK K
        try simp only [List.getElem_toArray, List.getElem_cons_succ, List.getElem_cons_zero, Act.put, List.setIfInBounds_toArray, List.set_cons_zero, List.set_cons_succ]
        refine anyT_one (i := 3) (by kernel_rfl) rfl (fun K hK => ?_)
        rw [if_pos (by rfl)]
        try simp only [List.getElem_toArray, List.getElem_cons_succ, List.getElem_cons_zero]
        (go_simp; refine (HH2.out _ MX.out.tx).mono ?_; rintro e w8 ⟨rfl, hb⟩; replace MX := Lib.hid (MX.out.call hb); clear hb)
        refine hK _ _ (not_mem rfl) ?_
        clear hK K
        try simp only [List.getElem_toArray, List.getElem_cons_succ, List.getElem_cons_zero, Act.put, List.setIfInBounds_toArray, List.set_cons_zero, List.set_cons_succ]
        refine anyT_takeY (i := 4) (v := .bool (decide ((h2 : Int) < (h1 : Int)))) rfl (by kernel_rfl) (by kernel_rfl) (by kernel_rfl) (fun _ _ _ h => h) (by kernel_rfl) (Or.inl ⟨by rfl, by intro w; go_simp⟩) ?_
        try simp only [List.getElem_toArray, List.getElem_cons_succ, List.getElem_cons_zero, Act.put, List.setIfInBounds_toArray, List.set_cons_zero, List.set_cons_succ]
        refine anyT_done (by kernel_rfl) ?_ _
        by_cases hlt : h2 < h1
        · have hltI : (h2 : Int) < (h1 : Int) := by omega
          cases y with
          | leaf k v => have := x.height_pos; have e1 := hh1.out; have e2 := hh2.out; simp only [AvT.height] at e1; omega
          | node p q =>
          have HF := Lib.hid (show rightN (.node x (.node p q)) b = .node (.node x p) (.node q b) by
            have e1 := hh1.out
            have e2 := hh2.out
            rw [HRN.out]
            unfold fromFirst
            rw [if_pos (by omega)])
          obtain ⟨bq, cp, cq, hcs, hbq, q1, q2, tp, tq⟩ := MX.out.ty
          have HPQ := Lib.hid (show RT _ cp p ∧ RT _ cq q from ⟨tp, tq⟩)
          have HZP := Lib.hid tp.size
          have HZQ := Lib.hid tq.size
          have HBQ := Lib.hid hbq
          have HS5 := Lib.hid (show World.cell? _ ⟨g7, 3, none⟩ = some (.slice (some ⟨bq, 0, none⟩) 2 2) ∧ World.rangeAt _ bq 0 cp.toList ∧ World.rangeAt _ bq 4 cq.toList ∧ World.rangeAt _ g6 0 cx.toList ∧ World.rangeAt _ (w.heap.size + 1) 0 cb.toList from ⟨by rw [cell_of_row _ _ 3 _ _ _ MX.out.h7, hcs]; rfl, q1, q2, range_of MX.out.h6, range_of MX.out.m.pb⟩)
          have HK5 : Hid (∀ u1 u2 : World, (u1.cell? ⟨g7, 3, none⟩ = some (.slice (some ⟨bq, 0, none⟩) 2 2) ∧ u1.rangeAt bq 0 cp.toList ∧ u1.rangeAt bq 4 cq.toList ∧ u1.rangeAt g6 0 cx.toList ∧ u1.rangeAt (w.heap.size + 1) 0 cb.toList) → Below u1.heap.size u1 u2 → (g7 < u1.heap.size ∧ bq < u1.heap.size ∧ g6 < u1.heap.size ∧ (w.heap.size + 1) < u1.heap.size) → (u2.cell? ⟨g7, 3, none⟩ = some (.slice (some ⟨bq, 0, none⟩) 2 2) ∧ u2.rangeAt bq 0 cp.toList ∧ u2.rangeAt bq 4 cq.toList ∧ u2.rangeAt g6 0 cx.toList ∧ u2.rangeAt (w.heap.size + 1) 0 cb.toList)) := Lib.hid fun u1 u2 h hb hl => ⟨(hb.cell (p := ⟨g7, 3, none⟩) hl.1).trans h.1, range_below h.2.1 hb hl.2.1, range_below h.2.2.1 hb hl.2.1, range_below h.2.2.2.1 hb hl.2.2.1, range_below h.2.2.2.2 hb hl.2.2.2⟩
          clear hcs hbq q1 q2 tp tq hlt HH1 HH2
          go_upto_region 5 with (fail)
          refine wp_region_T (fun w' => w'.cell? ⟨g7, 3, none⟩ = some (.slice (some ⟨bq, 0, none⟩) 2 2) ∧ w'.rangeAt bq 0 cp.toList ∧ w'.rangeAt bq 4 cq.toList ∧ w'.rangeAt g6 0 cx.toList ∧ w'.rangeAt (w.heap.size + 1) 0 cb.toList) [0, 2, 3, 4, 5, 7, 8, 9, 10, 11] (by kernel_rfl) ?_
          replace HS5 := Lib.hid (HK5.out _ _ HS5.out (Below.refl _ _).drew ⟨blk_lt MX.out.h7, HBQ.out, blk_lt MX.out.h6, blk_lt MX.out.m.pb⟩)
          replace HPQ := Lib.hid (show RT _ cp p ∧ RT _ cq q from ⟨HPQ.out.1.below (Below.refl _ _).drew, HPQ.out.2.below (Below.refl _ _).drew⟩)
          replace HBQ := Lib.hid (show bq < w8.drew.heap.size from HBQ.out)
          replace MX := Lib.hid (MX.out.call (Below.refl _ _).drew)
          generalize w8.drew = w8' at *
          refine anyT_takeY (i := 1) (v := .pointer (some ⟨g7, 3, none⟩)) rfl (by kernel_rfl) (by kernel_rfl) (by kernel_rfl) (fun _ _ _ h => h) (by kernel_rfl) (Or.inl ⟨by rfl, by intro w; go_simp⟩) ?_
          try simp only [List.getElem_toArray, List.getElem_cons_succ, List.getElem_cons_zero, Act.put, List.setIfInBounds_toArray, List.set_cons_zero, List.set_cons_succ]
          refine anyT_takeY (i := 6) (v := .pointer (some ⟨g7, 3, none⟩)) rfl (by kernel_rfl) (by kernel_rfl) (by kernel_rfl) (fun _ _ _ h => h) (by kernel_rfl) (Or.inl ⟨by rfl, by intro w; go_simp⟩) ?_
          try simp only [List.getElem_toArray, List.getElem_cons_succ, List.getElem_cons_zero, Act.put, List.setIfInBounds_toArray, List.set_cons_zero, List.set_cons_succ]
          refine anyT_take [5, 11, 12, 13] (i := 0) (v := .agg cx) rfl (by kernel_rfl) (by kernel_rfl) (by kernel_rfl) (fun _ _ _ h => h) (by kernel_rfl) (agg_mid (by rfl) 29 (.tmp 6) rfl g6 0 rfl _ _ (fun _ h => h.2.2.2.1) Tryd.underlying29 rfl (by rw [HZX.out]; kernel_rfl)) HS5.out ?_
          try simp only [List.getElem_toArray, List.getElem_cons_succ, List.getElem_cons_zero, Act.put, List.setIfInBounds_toArray, List.set_cons_zero, List.set_cons_succ]
          refine anyT_take [3, 4, 5, 11, 12, 13] (i := 2) (v := .slice (some ⟨bq, 0, none⟩) 2 2) rfl (by kernel_rfl) (by kernel_rfl) (by kernel_rfl) (fun _ _ _ h => h) (by kernel_rfl) (Or.inl ⟨by rfl, fun w' hS => by have c := hS.1; go_simp⟩) HS5.out ?_
          try simp only [List.getElem_toArray, List.getElem_cons_succ, List.getElem_cons_zero, Act.put, List.setIfInBounds_toArray, List.set_cons_zero, List.set_cons_succ]
          refine anyT_take [4, 5, 11, 12, 13] (i := 3) (v := .pointer (some ⟨bq, 0, none⟩)) rfl (by kernel_rfl) (by kernel_rfl) (by kernel_rfl) (fun _ _ _ h => h) (by kernel_rfl) (Or.inl ⟨by rfl, fun w' _ => by go_simp⟩) HS5.out ?_
          try simp only [List.getElem_toArray, List.getElem_cons_succ, List.getElem_cons_zero, Act.put, List.setIfInBounds_toArray, List.set_cons_zero, List.set_cons_succ]
          refine anyT_take [5, 11, 12, 13] (i := 4) (v := .agg cp) rfl (by kernel_rfl) (by kernel_rfl) (by kernel_rfl) (fun _ _ _ h => h) (by kernel_rfl) (agg_mid (by rfl) 29 (.tmp 33) rfl bq 0 rfl _ _ (fun _ h => h.2.1) Tryd.underlying29 rfl (by rw [HZP.out]; kernel_rfl)) HS5.out ?_
          try simp only [List.getElem_toArray, List.getElem_cons_succ, List.getElem_cons_zero, Act.put, List.setIfInBounds_toArray, List.set_cons_zero, List.set_cons_succ]
          refine anyT_take [8, 9, 11, 12, 13] (i := 7) (v := .slice (some ⟨bq, 0, none⟩) 2 2) rfl (by kernel_rfl) (by kernel_rfl) (by kernel_rfl) (fun _ _ _ h => h) (by kernel_rfl) (Or.inl ⟨by rfl, fun w' hS => by have c := hS.1; go_simp⟩) HS5.out ?_
          try simp only [List.getElem_toArray, List.getElem_cons_succ, List.getElem_cons_zero, Act.put, List.setIfInBounds_toArray, List.set_cons_zero, List.set_cons_succ]
          refine anyT_take [9, 11, 12, 13] (i := 8) (v := .pointer (some ⟨bq, 4, none⟩)) rfl (by kernel_rfl) (by kernel_rfl) (by kernel_rfl) (fun _ _ _ h => h) (by kernel_rfl) (Or.inl ⟨by rfl, fun w' _ => by go_simp⟩) HS5.out ?_
          try simp only [List.getElem_toArray, List.getElem_cons_succ, List.getElem_cons_zero, Act.put, List.setIfInBounds_toArray, List.set_cons_zero, List.set_cons_succ]
          refine anyT_take [11, 12, 13] (i := 9) (v := .agg cq) rfl (by kernel_rfl) (by kernel_rfl) (by kernel_rfl) (fun _ _ _ h => h) (by kernel_rfl) (agg_mid (by rfl) 29 (.tmp 38) rfl bq 4 rfl _ _ (fun _ h => h.2.2.1) Tryd.underlying29 rfl (by rw [HZQ.out]; kernel_rfl)) HS5.out ?_
          try simp only [List.getElem_toArray, List.getElem_cons_succ, List.getElem_cons_zero, Act.put, List.setIfInBounds_toArray, List.set_cons_zero, List.set_cons_succ]
          refine anyT_take [11, 12, 13] (i := 10) (v := .agg cb) rfl (by kernel_rfl) (by kernel_rfl) (by kernel_rfl) (fun _ _ _ h => h) (by kernel_rfl) (agg_mid (by rfl) 29 (.tmp 3) rfl (w.heap.size + 1) 0 rfl _ _ (fun _ h => h.2.2.2.2) Tryd.underlying29 rfl (by rw [HZB.out]; kernel_rfl)) HS5.out ?_
          try simp only [List.getElem_toArray, List.getElem_cons_succ, List.getElem_cons_zero, Act.put, List.setIfInBounds_toArray, List.set_cons_zero, List.set_cons_succ]
          refine anyT_one (i := 5) (by kernel_rfl) rfl (fun K hK => ?_)
          rw [if_pos (by rfl)]
          try simp only [List.getElem_toArray, List.getElem_cons_succ, List.getElem_cons_zero]
          (go_simp; refine (rtwo_any _ _ _ _ _ MX.out.tx HPQ.out.1).mono ?_; rintro e w9 ⟨u1, rfl, ht, hb⟩; have HRu1 := Lib.hid (show RT w9 u1 _ from ht); have u1Z := Lib.hid (RO.size ht); have u1O := Lib.hid (RO.one ht); replace HS5 := Lib.hid (HK5.out _ _ HS5.out hb (show _ ∧ _ ∧ _ ∧ _ from ⟨blk_lt MX.out.h7, HBQ.out, blk_lt MX.out.h6, blk_lt MX.out.m.pb⟩)); replace HBQ := Lib.hid (Nat.lt_of_lt_of_le HBQ.out hb.size); replace HPQ := Lib.hid (show _ ∧ _ from ⟨HPQ.out.1.below hb, HPQ.out.2.below hb⟩); replace MX := Lib.hid (MX.out.call hb); clear ht hb)
          refine hK _ _ (fun _ => HS5.out) ?_
          clear hK K
          try simp only [List.getElem_toArray, List.getElem_cons_succ, List.getElem_cons_zero, Act.put, List.setIfInBounds_toArray, List.set_cons_zero, List.set_cons_succ]
          refine anyT_one (i := 11) (by kernel_rfl) rfl (fun K hK => ?_)
          rw [if_pos (by rfl)]
          try simp only [List.getElem_toArray, List.getElem_cons_succ, List.getElem_cons_zero]
          (go_simp; refine (rtwo_any _ _ _ _ _ HPQ.out.2 MX.out.m.tb).mono ?_; rintro e w10 ⟨u2, rfl, ht, hb⟩; have HRu2 := Lib.hid (show RT w10 u2 _ from ht); have u2Z := Lib.hid (RO.size ht); have u2O := Lib.hid (RO.one ht); replace HRu1 := Lib.hid (HRu1.out.below hb); replace HS5 := Lib.hid (HK5.out _ _ HS5.out hb (show _ ∧ _ ∧ _ ∧ _ from ⟨blk_lt MX.out.h7, HBQ.out, blk_lt MX.out.h6, blk_lt MX.out.m.pb⟩)); replace HBQ := Lib.hid (Nat.lt_of_lt_of_le HBQ.out hb.size); replace HPQ := Lib.hid (show _ ∧ _ from ⟨HPQ.out.1.below hb, HPQ.out.2.below hb⟩); replace MX := Lib.hid (MX.out.call hb); clear ht hb)
          refine hK _ _ (fun _ => HS5.out) ?_
          clear hK K
          try simp only [List.getElem_toArray, List.getElem_cons_succ, List.getElem_cons_zero, Act.put, List.setIfInBounds_toArray, List.set_cons_zero, List.set_cons_succ]
          refine anyT_one (i := 12) (by kernel_rfl) rfl (fun K hK => ?_)
          rw [if_pos (by rfl)]
          try simp only [List.getElem_toArray, List.getElem_cons_succ, List.getElem_cons_zero]
          (go_simp; refine (rtwo_any _ _ _ _ _ HRu1.out HRu2.out).mono ?_; rintro e w11 ⟨u3, rfl, ht, hb⟩; have HRu3 := Lib.hid (show RT w11 u3 _ from ht); have u3Z := Lib.hid (RO.size ht); have u3O := Lib.hid (RO.one ht); replace MX := Lib.hid (MX.out.call hb); clear ht hb)
          refine hK _ _ (not_mem rfl) ?_
          clear hK K
          try simp only [List.getElem_toArray, List.getElem_cons_succ, List.getElem_cons_zero, Act.put, List.setIfInBounds_toArray, List.set_cons_zero, List.set_cons_succ]
          refine anyT_one (i := 13) (by kernel_rfl) rfl (fun K hK => ?_)
          rw [if_pos (by rfl)]
          try simp only [List.getElem_toArray, List.getElem_cons_succ, List.getElem_cons_zero]
          (refine wp_store_row 29 (.tmp 4) (.tmp 42) rfl (w.heap.size + 1 + 1) u3 rfl rfl 29 _ MX.out.m.re (by rw [u3Z.out]; kernel_rfl) (by rw [u3Z.out]; rfl) u3O.out ?_)
          refine hK _ _ (not_mem rfl) ?_
          clear hK K
          try simp only [List.getElem_toArray, List.getElem_cons_succ, List.getElem_cons_zero, Act.put, List.setIfInBounds_toArray, List.set_cons_zero, List.set_cons_succ]
          refine anyT_done (by kernel_rfl) ?_ _
          go_wp2_with (fail)
          obtain ⟨e1, e2, e3⟩ := MX.out.m.done HRu3.out
          refine bodyPost_ret (results_cell_row rfl _ _ (w.heap.size + 1 + 1) 29 u3 (0, 0) _ rfl e3 Tryd.underlying29 rfl (by rw [u3Z.out]; kernel_rfl)) rfl ?_
          rw [HF.out]
          exact ⟨_, rfl, e2, e1⟩
        · have hltI : ¬ (h2 : Int) < (h1 : Int) := by omega
          have HF := Lib.hid (show rightN (.node x y) b = .node x (.node y b) by
            have e1 := hh1.out
            have e2 := hh2.out
            rw [HRN.out]
            unfold fromFirst
            rw [if_neg (by omega)])
          clear hlt HH1 HH2
          go_upto_region 6 with (fail)
          refine wp_region_T (fun w' => w'.rangeAt g6 0 cx.toList ∧ w'.rangeAt g7 0 cy.toList ∧ w'.rangeAt (w.heap.size + 1) 0 cb.toList) [0, 1, 2, 3] (by kernel_rfl) ?_
          replace MX := Lib.hid (MX.out.call (Below.refl _ _).drew)
          generalize w8.drew = w8' at *
          refine anyT_take [4, 5] (i := 0) (v := .agg cx) rfl (by kernel_rfl) (by kernel_rfl) (by kernel_rfl) (fun _ _ _ h => h) (by kernel_rfl) (agg_mid (by rfl) 29 (.tmp 6) rfl g6 0 rfl _ _ (fun _ h => h.1) Tryd.underlying29 rfl (by rw [HZX.out]; kernel_rfl)) ⟨range_of MX.out.h6, range_of MX.out.h7, range_of MX.out.m.pb⟩ ?_
          try simp only [List.getElem_toArray, List.getElem_cons_succ, List.getElem_cons_zero, Act.put, List.setIfInBounds_toArray, List.set_cons_zero, List.set_cons_succ]
          refine anyT_take [3, 4, 5] (i := 1) (v := .agg cy) rfl (by kernel_rfl) (by kernel_rfl) (by kernel_rfl) (fun _ _ _ h => h) (by kernel_rfl) (agg_mid (by rfl) 29 (.tmp 7) rfl g7 0 rfl _ _ (fun _ h => h.2.1) Tryd.underlying29 rfl (by rw [HZY.out]; kernel_rfl)) ⟨range_of MX.out.h6, range_of MX.out.h7, range_of MX.out.m.pb⟩ ?_
          try simp only [List.getElem_toArray, List.getElem_cons_succ, List.getElem_cons_zero, Act.put, List.setIfInBounds_toArray, List.set_cons_zero, List.set_cons_succ]
          refine anyT_take [3, 4, 5] (i := 2) (v := .agg cb) rfl (by kernel_rfl) (by kernel_rfl) (by kernel_rfl) (fun _ _ _ h => h) (by kernel_rfl) (agg_mid (by rfl) 29 (.tmp 3) rfl (w.heap.size + 1) 0 rfl _ _ (fun _ h => h.2.2) Tryd.underlying29 rfl (by rw [HZB.out]; kernel_rfl)) ⟨range_of MX.out.h6, range_of MX.out.h7, range_of MX.out.m.pb⟩ ?_
          try simp only [List.getElem_toArray, List.getElem_cons_succ, List.getElem_cons_zero, Act.put, List.setIfInBounds_toArray, List.set_cons_zero, List.set_cons_succ]
          refine anyT_one (i := 3) (by kernel_rfl) rfl (fun K hK => ?_)
          rw [if_pos (by rfl)]
          try simp only [List.getElem_toArray, List.getElem_cons_succ, List.getElem_cons_zero]
          (go_simp; refine (rtwo_any _ _ _ _ _ MX.out.ty MX.out.m.tb).mono ?_; rintro e w9 ⟨u1, rfl, ht, hb⟩; have HRu1 := Lib.hid (show RT w9 u1 _ from ht); replace MX := Lib.hid (MX.out.call hb); clear ht hb)
          refine hK _ _ (fun _ => ⟨range_of MX.out.h6, range_of MX.out.h7, range_of MX.out.m.pb⟩) ?_
          clear hK K
          try simp only [List.getElem_toArray, List.getElem_cons_succ, List.getElem_cons_zero, Act.put, List.setIfInBounds_toArray, List.set_cons_zero, List.set_cons_succ]
          refine anyT_one (i := 4) (by kernel_rfl) rfl (fun K hK => ?_)
          rw [if_pos (by rfl)]
          try simp only [List.getElem_toArray, List.getElem_cons_succ, List.getElem_cons_zero]
          (go_simp; refine (rtwo_any _ _ _ _ _ MX.out.tx HRu1.out).mono ?_; rintro e w10 ⟨u2, rfl, ht, hb⟩; have HRu2 := Lib.hid (show RT w10 u2 _ from ht); have u2Z := Lib.hid (RO.size ht); have u2O := Lib.hid (RO.one ht); replace MX := Lib.hid (MX.out.call hb); clear ht hb)
          refine hK _ _ (not_mem rfl) ?_
          clear hK K
          try simp only [List.getElem_toArray, List.getElem_cons_succ, List.getElem_cons_zero, Act.put, List.setIfInBounds_toArray, List.set_cons_zero, List.set_cons_succ]
          refine anyT_one (i := 5) (by kernel_rfl) rfl (fun K hK => ?_)
          rw [if_pos (by rfl)]
          try simp only [List.getElem_toArray, List.getElem_cons_succ, List.getElem_cons_zero]
          (refine wp_store_row 29 (.tmp 4) (.tmp 47) rfl (w.heap.size + 1 + 1) u2 rfl rfl 29 _ MX.out.m.re (by rw [u2Z.out]; kernel_rfl) (by rw [u2Z.out]; rfl) u2O.out ?_)
          refine hK _ _ (not_mem rfl) ?_
          clear hK K
          try simp only [List.getElem_toArray, List.getElem_cons_succ, List.getElem_cons_zero, Act.put, List.setIfInBounds_toArray, List.set_cons_zero, List.set_cons_succ]
          refine anyT_done (by kernel_rfl) ?_ _
          go_wp2_with (fail)
          obtain ⟨e1, e2, e3⟩ := MX.out.m.done HRu2.out
          refine bodyPost_ret (results_cell_row rfl _ _ (w.heap.size + 1 + 1) 29 u2 (0, 0) _ rfl e3 Tryd.underlying29 rfl (by rw [u2Z.out]; kernel_rfl)) rfl ?_
          rw [HF.out]
          exact ⟨_, rfl, e2, e1⟩
  · have hd2 : ((ah : Int) - (bh : Int) == 2) = false := by rw [beq_eq_false_iff_ne]; omega
    by_cases h3 : bh = ah + 2
    · have hd3 : ((ah : Int) - (bh : Int) == -2) = true := by rw [beq_iff_eq]; omega
      cases b with
      | leaf k v => have e1 := hbh.out; simp only [AvT.height] at e1; omega
      | node x y =>
      have HRN := Lib.hid (show rightN a (.node x y) = fromSecond a x y by unfold rightN; rw [if_neg (by rw [← hah.out, ← hbh.out]; exact h2), if_pos (by rw [← hah.out, ← hbh.out]; exact h3)])
      clear h2 h3 hah2 hbh2 hah hbh
      obtain ⟨bk, cx, cy, hca, hbk, r1, r2, tx, ty⟩ := M.out.tb
      have HXY := Lib.hid (show RT w4 cx x ∧ RT w4 cy y from ⟨tx, ty⟩)
      have HZX := Lib.hid tx.size
      have HZY := Lib.hid ty.size
      have HOX := Lib.hid (RO.one (t := some x) tx)
      have HOY := Lib.hid (RO.one (t := some y) ty)
      have HSX := Lib.hid (show w4.cell? ⟨w.heap.size + 1, 3, none⟩ = some (.slice (some ⟨bk, 0, none⟩) 2 2) ∧ w4.rangeAt bk 0 cx.toList ∧ w4.rangeAt bk 4 cy.toList from ⟨by rw [cell_of_row w4 _ 3 _ _ _ M.out.pb, hca]; rfl, r1, r2⟩)
      have HXM := Lib.hid (show x.many ≤ 1099511627776 ∧ y.many ≤ 1099511627776 by have := HM.out; simp only [AvT.many] at this; omega)
      have HBK0 := Lib.hid hbk
      clear hca hbk r1 r2 tx ty
      go_upto_region 8 with (fail)
      go_cut [8, 9] (fun p6 p7 wx => ∃ g6 g7, p6 = .pointer (some ⟨g6, 0, none⟩) ∧ p7 = .pointer (some ⟨g7, 0, none⟩) ∧ Hid (RgX w wx ca cb a (.node x y) g6 g7 cx cy x y))
      case first =>
        refine wp_region_T (fun w' => w'.cell? ⟨w.heap.size + 1, 3, none⟩ = some (.slice (some ⟨bk, 0, none⟩) 2 2) ∧ w'.rangeAt bk 0 cx.toList ∧ w'.rangeAt bk 4 cy.toList) [1, 2, 3, 5, 6, 7, 8, 9, 10] (by kernel_rfl) ?_
        replace M := Lib.hid (M.out.call (Below.refl _ _).drew)
        replace HXY := Lib.hid (show RT w4.drew cx x ∧ RT w4.drew cy y from ⟨HXY.out.1.below (Below.refl _ _).drew, HXY.out.2.below (Below.refl _ _).drew⟩)
        replace HSX := Lib.hid (show w4.drew.cell? ⟨w.heap.size + 1, 3, none⟩ = some (.slice (some ⟨bk, 0, none⟩) 2 2) ∧ w4.drew.rangeAt bk 0 cx.toList ∧ w4.drew.rangeAt bk 4 cy.toList from HSX.out)
        have HBK := Lib.hid (show w.heap.size + 1 < w4.drew.heap.size ∧ bk < w4.drew.heap.size from ⟨blk_lt M.out.pb, HBK0.out⟩)
        generalize w4.drew = w5 at *
        have HKX : Hid (∀ u : World, Below w5.heap.size w5 u → u.cell? ⟨w.heap.size + 1, 3, none⟩ = some (.slice (some ⟨bk, 0, none⟩) 2 2) ∧ u.rangeAt bk 0 cx.toList ∧ u.rangeAt bk 4 cy.toList) := Lib.hid fun u hb => ⟨(hb.cell (p := ⟨w.heap.size + 1, 3, none⟩) HBK.out.1).trans HSX.out.1, range_below HSX.out.2.1 hb HBK.out.2, range_below HSX.out.2.2 hb HBK.out.2⟩
        refine anyT_takeY (i := 0) (v := .pointer (some ⟨w.heap.size + 1, 3, none⟩)) rfl (by kernel_rfl) (by kernel_rfl) (by kernel_rfl) (fun _ _ _ h => h) (by kernel_rfl) (Or.inl ⟨by rfl, by intro w; go_simp⟩) ?_
        try simp only [List.getElem_toArray, List.getElem_cons_succ, List.getElem_cons_zero, Act.put, List.setIfInBounds_toArray, List.set_cons_zero, List.set_cons_succ]
        refine anyT_takeY (i := 4) (v := .pointer (some ⟨w.heap.size + 1, 3, none⟩)) rfl (by kernel_rfl) (by kernel_rfl) (by kernel_rfl) (fun _ _ _ h => h) (by kernel_rfl) (Or.inl ⟨by rfl, by intro w; go_simp⟩) ?_
        try simp only [List.getElem_toArray, List.getElem_cons_succ, List.getElem_cons_zero, Act.put, List.setIfInBounds_toArray, List.set_cons_zero, List.set_cons_succ]
        refine anyT_take [2, 3, 10, 11] (i := 1) (v := .slice (some ⟨bk, 0, none⟩) 2 2) rfl (by kernel_rfl) (by kernel_rfl) (by kernel_rfl) (fun _ _ _ h => h) (by kernel_rfl) (Or.inl ⟨by rfl, fun w' hS => by have c := hS.1; go_simp⟩) HSX.out ?_
        try simp only [List.getElem_toArray, List.getElem_cons_succ, List.getElem_cons_zero, Act.put, List.setIfInBounds_toArray, List.set_cons_zero, List.set_cons_succ]
        refine anyT_take [3, 10, 11] (i := 2) (v := .pointer (some ⟨bk, 0, none⟩)) rfl (by kernel_rfl) (by kernel_rfl) (by kernel_rfl) (fun _ _ _ h => h) (by kernel_rfl) (Or.inl ⟨by rfl, fun w' _ => by go_simp⟩) HSX.out ?_
        try simp only [List.getElem_toArray, List.getElem_cons_succ, List.getElem_cons_zero, Act.put, List.setIfInBounds_toArray, List.set_cons_zero, List.set_cons_succ]
        refine anyT_take [10, 11] (i := 3) (v := .agg cx) rfl (by kernel_rfl) (by kernel_rfl) (by kernel_rfl) (fun _ _ _ h => h) (by kernel_rfl) (agg_mid (by rfl) 29 (.tmp 52) rfl bk 0 rfl _ _ (fun _ h => h.2.1) Tryd.underlying29 rfl (by rw [HZX.out]; kernel_rfl)) HSX.out ?_
        try simp only [List.getElem_toArray, List.getElem_cons_succ, List.getElem_cons_zero, Act.put, List.setIfInBounds_toArray, List.set_cons_zero, List.set_cons_succ]
        refine anyT_take [6, 7, 11] (i := 5) (v := .slice (some ⟨bk, 0, none⟩) 2 2) rfl (by kernel_rfl) (by kernel_rfl) (by kernel_rfl) (fun _ _ _ h => h) (by kernel_rfl) (Or.inl ⟨by rfl, fun w' hS => by have c := hS.1; go_simp⟩) HSX.out ?_
        try simp only [List.getElem_toArray, List.getElem_cons_succ, List.getElem_cons_zero, Act.put, List.setIfInBounds_toArray, List.set_cons_zero, List.set_cons_succ]
        refine anyT_take [7, 11] (i := 6) (v := .pointer (some ⟨bk, 4, none⟩)) rfl (by kernel_rfl) (by kernel_rfl) (by kernel_rfl) (fun _ _ _ h => h) (by kernel_rfl) (Or.inl ⟨by rfl, fun w' _ => by go_simp⟩) HSX.out ?_
        try simp only [List.getElem_toArray, List.getElem_cons_succ, List.getElem_cons_zero, Act.put, List.setIfInBounds_toArray, List.set_cons_zero, List.set_cons_succ]
        refine anyT_take [11] (i := 7) (v := .agg cy) rfl (by kernel_rfl) (by kernel_rfl) (by kernel_rfl) (fun _ _ _ h => h) (by kernel_rfl) (agg_mid (by rfl) 29 (.tmp 56) rfl bk 4 rfl _ _ (fun _ h => h.2.2) Tryd.underlying29 rfl (by rw [HZY.out]; kernel_rfl)) HSX.out ?_
        try simp only [List.getElem_toArray, List.getElem_cons_succ, List.getElem_cons_zero, Act.put, List.setIfInBounds_toArray, List.set_cons_zero, List.set_cons_succ]
        refine anyT_ready (rs := [8, 9]) (by kernel_rfl) (by simp) ?_
        refine readyT_cons rfl (fun K hK => ?_) (readyT_cons rfl (fun K hK => ?_) readyT_nil)
        · rw [if_pos (by rfl)]
          try simp only [List.getElem_toArray, List.getElem_cons_succ, List.getElem_cons_zero]
          (go_simp)
          refine hK _ _ (fun _ => HKX.out _ (below_alloc w5 _)) ?_
          clear hK K
          try simp only [List.getElem_toArray, List.getElem_cons_succ, List.getElem_cons_zero, Act.put, List.setIfInBounds_toArray, List.set_cons_zero, List.set_cons_succ]
          refine anyT_one (i := 9) (by kernel_rfl) rfl (fun K hK => ?_)
          rw [if_pos (by rfl)]
          try simp only [List.getElem_toArray, List.getElem_cons_succ, List.getElem_cons_zero]
          (go_simp)
          refine hK _ _ (fun _ => HKX.out _ (al2_at w5).2.2) ?_
          clear hK K
          try simp only [List.getElem_toArray, List.getElem_cons_succ, List.getElem_cons_zero, Act.put, List.setIfInBounds_toArray, List.set_cons_zero, List.set_cons_succ]
          have HSE := Lib.hid (al2_set w5 w5.heap.size (w5.heap.size + 1) cx cy (.inl ⟨rfl, rfl⟩))
          refine anyT_one (i := 10) (by kernel_rfl) rfl (fun K hK => ?_)
          rw [if_pos (by rfl)]
          try simp only [List.getElem_toArray, List.getElem_cons_succ, List.getElem_cons_zero]
          (refine wp_store_row 29 (.tmp 8) (.tmp 53) rfl w5.heap.size cx rfl rfl 29 _ (al2_at w5).1 (by rw [HZX.out]; kernel_rfl) (by rw [HZX.out]; rfl) HOX.out ?_)
          refine hK _ _ (fun _ => HKX.out _ (below_setRow (al2_at w5).2.2 (by omega) _)) ?_
          clear hK K
          try simp only [List.getElem_toArray, List.getElem_cons_succ, List.getElem_cons_zero, Act.put, List.setIfInBounds_toArray, List.set_cons_zero, List.set_cons_succ]
          refine anyT_one (i := 11) (by kernel_rfl) rfl (fun K hK => ?_)
          rw [if_pos (by rfl)]
          try simp only [List.getElem_toArray, List.getElem_cons_succ, List.getElem_cons_zero]
          (refine wp_store_row 29 (.tmp 9) (.tmp 57) rfl (w5.heap.size + 1) cy rfl rfl 29 _ HSE.out.1 (by rw [HZY.out]; kernel_rfl) (by rw [HZY.out]; rfl) HOY.out ?_)
          refine hK _ _ (not_mem rfl) ?_
          clear hK K
          try simp only [List.getElem_toArray, List.getElem_cons_succ, List.getElem_cons_zero, Act.put, List.setIfInBounds_toArray, List.set_cons_zero, List.set_cons_succ]
          refine anyT_done (by kernel_rfl) ?_ _
          go_wp2_with (fail)
          go_meet
          exact ⟨w5.heap.size, (w5.heap.size + 1), rfl, rfl, Lib.hid ⟨M.out.call HSE.out.2.2.2, HSE.out.2.1, HSE.out.2.2.1, HXY.out.1.below HSE.out.2.2.2, HXY.out.2.below HSE.out.2.2.2⟩⟩
        · rw [if_pos (by rfl)]
          try simp only [List.getElem_toArray, List.getElem_cons_succ, List.getElem_cons_zero]
          (go_simp)
          refine hK _ _ (fun _ => HKX.out _ (below_alloc w5 _)) ?_
          clear hK K
          try simp only [List.getElem_toArray, List.getElem_cons_succ, List.getElem_cons_zero, Act.put, List.setIfInBounds_toArray, List.set_cons_zero, List.set_cons_succ]
          refine anyT_one (i := 8) (by kernel_rfl) rfl (fun K hK => ?_)
          rw [if_pos (by rfl)]
          try simp only [List.getElem_toArray, List.getElem_cons_succ, List.getElem_cons_zero]
          (go_simp)
          refine hK _ _ (fun _ => HKX.out _ (al2_at w5).2.2) ?_
          clear hK K
          try simp only [List.getElem_toArray, List.getElem_cons_succ, List.getElem_cons_zero, Act.put, List.setIfInBounds_toArray, List.set_cons_zero, List.set_cons_succ]
          have HSE := Lib.hid (al2_set w5 (w5.heap.size + 1) w5.heap.size cx cy (.inr ⟨rfl, rfl⟩))
          refine anyT_one (i := 10) (by kernel_rfl) rfl (fun K hK => ?_)
          rw [if_pos (by rfl)]
          try simp only [List.getElem_toArray, List.getElem_cons_succ, List.getElem_cons_zero]
          (refine wp_store_row 29 (.tmp 8) (.tmp 53) rfl (w5.heap.size + 1) cx rfl rfl 29 _ (al2_at w5).2.1 (by rw [HZX.out]; kernel_rfl) (by rw [HZX.out]; rfl) HOX.out ?_)
          refine hK _ _ (fun _ => HKX.out _ (below_setRow (al2_at w5).2.2 (by omega) _)) ?_
          clear hK K
          try simp only [List.getElem_toArray, List.getElem_cons_succ, List.getElem_cons_zero, Act.put, List.setIfInBounds_toArray, List.set_cons_zero, List.set_cons_succ]
          refine anyT_one (i := 11) (by kernel_rfl) rfl (fun K hK => ?_)
          rw [if_pos (by rfl)]
          try simp only [List.getElem_toArray, List.getElem_cons_succ, List.getElem_cons_zero]
          (refine wp_store_row 29 (.tmp 9) (.tmp 57) rfl w5.heap.size cy rfl rfl 29 _ HSE.out.1 (by rw [HZY.out]; kernel_rfl) (by rw [HZY.out]; rfl) HOY.out ?_)
          refine hK _ _ (not_mem rfl) ?_
          clear hK K
          try simp only [List.getElem_toArray, List.getElem_cons_succ, List.getElem_cons_zero, Act.put, List.setIfInBounds_toArray, List.set_cons_zero, List.set_cons_succ]
          refine anyT_done (by kernel_rfl) ?_ _
          go_wp2_with (fail)
          go_meet
          exact ⟨(w5.heap.size + 1), w5.heap.size, rfl, rfl, Lib.hid ⟨M.out.call HSE.out.2.2.2, HSE.out.2.1, HSE.out.2.2.1, HXY.out.1.below HSE.out.2.2.2, HXY.out.2.below HSE.out.2.2.2⟩⟩
      case rest =>
        obtain ⟨g6, g7, rfl, rfl, MX⟩ := hcut
        clear M HXY HSX HBK0
        go_upto_region 9 with (fail)
        have HH1 := Lib.hid (fun w h => rheight_some x cx w h (by have := HXM.out; omega))
        have HH2 := Lib.hid (fun w h => rheight_some y cy w h (by have := HXM.out; omega))
        obtain ⟨h1, hh1⟩ : ∃ n, n = x.height := ⟨_, rfl⟩
        obtain ⟨h2, hh2⟩ : ∃ n, n = y.height := ⟨_, rfl⟩
        rw [← hh1] at HH1
        rw [← hh2] at HH2
        unfold HtPost at HH1 HH2
        replace hh1 := Lib.hid hh1
        replace hh2 := Lib.hid hh2
        refine wp_region_T (fun w' => w'.rangeAt g6 0 cx.toList ∧ w'.rangeAt g7 0 cy.toList) [0, 1, 2] (by kernel_rfl) ?_
        replace MX := Lib.hid (MX.out.call (Below.refl _ _).drew)
        generalize wc.drew = w6 at *
        refine anyT_take [1, 3, 4] (i := 0) (v := .agg cx) rfl (by kernel_rfl) (by kernel_rfl) (by kernel_rfl) (fun _ _ _ h => h) (by kernel_rfl) (agg_mid (by rfl) 29 (.tmp 8) rfl g6 0 rfl _ _ (fun _ h => h.1) Tryd.underlying29 rfl (by rw [HZX.out]; kernel_rfl)) ⟨range_of MX.out.h6, range_of MX.out.h7⟩ ?_
        try simp only [List.getElem_toArray, List.getElem_cons_succ, List.getElem_cons_zero, Act.put, List.setIfInBounds_toArray, List.set_cons_zero, List.set_cons_succ]
        refine anyT_take [3, 4] (i := 2) (v := .agg cy) rfl (by kernel_rfl) (by kernel_rfl) (by kernel_rfl) (fun _ _ _ h => h) (by kernel_rfl) (agg_mid (by rfl) 29 (.tmp 9) rfl g7 0 rfl _ _ (fun _ h => h.2) Tryd.underlying29 rfl (by rw [HZY.out]; kernel_rfl)) ⟨range_of MX.out.h6, range_of MX.out.h7⟩ ?_
        try simp only [List.getElem_toArray, List.getElem_cons_succ, List.getElem_cons_zero, Act.put, List.setIfInBounds_toArray, List.set_cons_zero, List.set_cons_succ]
        refine anyT_one (i := 1) (by kernel_rfl) rfl (fun K hK => ?_)
        rw [if_pos (by rfl)]
        try simp only [List.getElem_toArray, List.getElem_cons_succ, List.getElem_cons_zero]
        (go_simp; refine (HH1.out _ MX.out.tx).mono ?_; rintro e w7 ⟨rfl, hb⟩; replace MX := Lib.hid (MX.out.call hb); clear hb)
        refine hK _ _ (fun _ => ⟨range_of MX.out.h6, range_of MX.out.h7⟩) ?_
        clear hK K
        try simp only [List.getElem_toArray, List.getElem_cons_succ, List.getElem_cons_zero, Act.put, List.setIfInBounds_toArray, List.set_cons_zero, List.set_cons_succ]
        refine anyT_one (i := 3) (by kernel_rfl) rfl (fun K hK => ?_)
        rw [if_pos (by rfl)]
        try simp only [List.getElem_toArray, List.getElem_cons_succ, List.getElem_cons_zero]
        (go_simp; refine (HH2.out _ MX.out.ty).mono ?_; rintro e w8 ⟨rfl, hb⟩; replace MX := Lib.hid (MX.out.call hb); clear hb)
        refine hK _ _ (not_mem rfl) ?_
        clear hK K
        try simp only [List.getElem_toArray, List.getElem_cons_succ, List.getElem_cons_zero, Act.put, List.setIfInBounds_toArray, List.set_cons_zero, List.set_cons_succ]
        refine anyT_takeY (i := 4) (v := .bool (decide ((h2 : Int) < (h1 : Int)))) rfl (by kernel_rfl) (by kernel_rfl) (by kernel_rfl) (fun _ _ _ h => h) (by kernel_rfl) (Or.inl ⟨by rfl, by intro w; go_simp⟩) ?_
        try simp only [List.getElem_toArray, List.getElem_cons_succ, List.getElem_cons_zero, Act.put, List.setIfInBounds_toArray, List.set_cons_zero, List.set_cons_succ]
        refine anyT_done (by kernel_rfl) ?_ _
        by_cases hlt : h2 < h1
        · have hltI : (h2 : Int) < (h1 : Int) := by omega
          cases x with
          | leaf k v => have := y.height_pos; have e1 := hh1.out; have e2 := hh2.out; simp only [AvT.height] at e1; omega
          | node p q =>
          have HF := Lib.hid (show rightN a (.node (.node p q) y) = .node (.node a p) (.node q y) by
            have e1 := hh1.out
            have e2 := hh2.out
            rw [HRN.out]
            unfold fromSecond
            rw [if_pos (by omega)])
          obtain ⟨bq, cp, cq, hcs, hbq, q1, q2, tp, tq⟩ := MX.out.tx
          have HPQ := Lib.hid (show RT _ cp p ∧ RT _ cq q from ⟨tp, tq⟩)
          have HZP := Lib.hid tp.size
          have HZQ := Lib.hid tq.size
          have HBQ := Lib.hid hbq
          have HS5 := Lib.hid (show World.cell? _ ⟨g6, 3, none⟩ = some (.slice (some ⟨bq, 0, none⟩) 2 2) ∧ World.rangeAt _ bq 0 cp.toList ∧ World.rangeAt _ bq 4 cq.toList ∧ World.rangeAt _ g7 0 cy.toList ∧ World.rangeAt _ w.heap.size 0 ca.toList from ⟨by rw [cell_of_row _ _ 3 _ _ _ MX.out.h6, hcs]; rfl, q1, q2, range_of MX.out.h7, range_of MX.out.m.pa⟩)
          have HK5 : Hid (∀ u1 u2 : World, (u1.cell? ⟨g6, 3, none⟩ = some (.slice (some ⟨bq, 0, none⟩) 2 2) ∧ u1.rangeAt bq 0 cp.toList ∧ u1.rangeAt bq 4 cq.toList ∧ u1.rangeAt g7 0 cy.toList ∧ u1.rangeAt w.heap.size 0 ca.toList) → Below u1.heap.size u1 u2 → (g6 < u1.heap.size ∧ bq < u1.heap.size ∧ g7 < u1.heap.size ∧ w.heap.size < u1.heap.size) → (u2.cell? ⟨g6, 3, none⟩ = some (.slice (some ⟨bq, 0, none⟩) 2 2) ∧ u2.rangeAt bq 0 cp.toList ∧ u2.rangeAt bq 4 cq.toList ∧ u2.rangeAt g7 0 cy.toList ∧ u2.rangeAt w.heap.size 0 ca.toList)) := Lib.hid fun u1 u2 h hb hl => ⟨(hb.cell (p := ⟨g6, 3, none⟩) hl.1).trans h.1, range_below h.2.1 hb hl.2.1, range_below h.2.2.1 hb hl.2.1, range_below h.2.2.2.1 hb hl.2.2.1, range_below h.2.2.2.2 hb hl.2.2.2⟩
          clear hcs hbq q1 q2 tp tq hlt HH1 HH2
          go_upto_region 10 with (fail)
          refine wp_region_T (fun w' => w'.cell? ⟨g6, 3, none⟩ = some (.slice (some ⟨bq, 0, none⟩) 2 2) ∧ w'.rangeAt bq 0 cp.toList ∧ w'.rangeAt bq 4 cq.toList ∧ w'.rangeAt g7 0 cy.toList ∧ w'.rangeAt w.heap.size 0 ca.toList) [0, 2, 3, 4, 5, 7, 8, 9, 10, 11] (by kernel_rfl) ?_
          replace HS5 := Lib.hid (HK5.out _ _ HS5.out (Below.refl _ _).drew ⟨blk_lt MX.out.h6, HBQ.out, blk_lt MX.out.h7, blk_lt MX.out.m.pa⟩)
          replace HPQ := Lib.hid (show RT _ cp p ∧ RT _ cq q from ⟨HPQ.out.1.below (Below.refl _ _).drew, HPQ.out.2.below (Below.refl _ _).drew⟩)
          replace HBQ := Lib.hid (show bq < w8.drew.heap.size from HBQ.out)
          replace MX := Lib.hid (MX.out.call (Below.refl _ _).drew)
          generalize w8.drew = w8' at *
          refine anyT_takeY (i := 1) (v := .pointer (some ⟨g6, 3, none⟩)) rfl (by kernel_rfl) (by kernel_rfl) (by kernel_rfl) (fun _ _ _ h => h) (by kernel_rfl) (Or.inl ⟨by rfl, by intro w; go_simp⟩) ?_
          try simp only [List.getElem_toArray, List.getElem_cons_succ, List.getElem_cons_zero, Act.put, List.setIfInBounds_toArray, List.set_cons_zero, List.set_cons_succ]
          refine anyT_takeY (i := 6) (v := .pointer (some ⟨g6, 3, none⟩)) rfl (by kernel_rfl) (by kernel_rfl) (by kernel_rfl) (fun _ _ _ h => h) (by kernel_rfl) (Or.inl ⟨by rfl, by intro w; go_simp⟩) ?_
          try simp only [List.getElem_toArray, List.getElem_cons_succ, List.getElem_cons_zero, Act.put, List.setIfInBounds_toArray, List.set_cons_zero, List.set_cons_succ]
          refine anyT_take [5, 11, 12, 13] (i := 0) (v := .agg ca) rfl (by kernel_rfl) (by kernel_rfl) (by kernel_rfl) (fun _ _ _ h => h) (by kernel_rfl) (agg_mid (by rfl) 29 (.tmp 2) rfl w.heap.size 0 rfl _ _ (fun _ h => h.2.2.2.2) Tryd.underlying29 rfl (by rw [HZA.out]; kernel_rfl)) HS5.out ?_
          try simp only [List.getElem_toArray, List.getElem_cons_succ, List.getElem_cons_zero, Act.put, List.setIfInBounds_toArray, List.set_cons_zero, List.set_cons_succ]
          refine anyT_take [3, 4, 5, 11, 12, 13] (i := 2) (v := .slice (some ⟨bq, 0, none⟩) 2 2) rfl (by kernel_rfl) (by kernel_rfl) (by kernel_rfl) (fun _ _ _ h => h) (by kernel_rfl) (Or.inl ⟨by rfl, fun w' hS => by have c := hS.1; go_simp⟩) HS5.out ?_
          try simp only [List.getElem_toArray, List.getElem_cons_succ, List.getElem_cons_zero, Act.put, List.setIfInBounds_toArray, List.set_cons_zero, List.set_cons_succ]
          refine anyT_take [4, 5, 11, 12, 13] (i := 3) (v := .pointer (some ⟨bq, 0, none⟩)) rfl (by kernel_rfl) (by kernel_rfl) (by kernel_rfl) (fun _ _ _ h => h) (by kernel_rfl) (Or.inl ⟨by rfl, fun w' _ => by go_simp⟩) HS5.out ?_
          try simp only [List.getElem_toArray, List.getElem_cons_succ, List.getElem_cons_zero, Act.put, List.setIfInBounds_toArray, List.set_cons_zero, List.set_cons_succ]
          refine anyT_take [5, 11, 12, 13] (i := 4) (v := .agg cp) rfl (by kernel_rfl) (by kernel_rfl) (by kernel_rfl) (fun _ _ _ h => h) (by kernel_rfl) (agg_mid (by rfl) 29 (.tmp 66) rfl bq 0 rfl _ _ (fun _ h => h.2.1) Tryd.underlying29 rfl (by rw [HZP.out]; kernel_rfl)) HS5.out ?_
          try simp only [List.getElem_toArray, List.getElem_cons_succ, List.getElem_cons_zero, Act.put, List.setIfInBounds_toArray, List.set_cons_zero, List.set_cons_succ]
          refine anyT_take [8, 9, 11, 12, 13] (i := 7) (v := .slice (some ⟨bq, 0, none⟩) 2 2) rfl (by kernel_rfl) (by kernel_rfl) (by kernel_rfl) (fun _ _ _ h => h) (by kernel_rfl) (Or.inl ⟨by rfl, fun w' hS => by have c := hS.1; go_simp⟩) HS5.out ?_
          try simp only [List.getElem_toArray, List.getElem_cons_succ, List.getElem_cons_zero, Act.put, List.setIfInBounds_toArray, List.set_cons_zero, List.set_cons_succ]
          refine anyT_take [9, 11, 12, 13] (i := 8) (v := .pointer (some ⟨bq, 4, none⟩)) rfl (by kernel_rfl) (by kernel_rfl) (by kernel_rfl) (fun _ _ _ h => h) (by kernel_rfl) (Or.inl ⟨by rfl, fun w' _ => by go_simp⟩) HS5.out ?_
          try simp only [List.getElem_toArray, List.getElem_cons_succ, List.getElem_cons_zero, Act.put, List.setIfInBounds_toArray, List.set_cons_zero, List.set_cons_succ]
          refine anyT_take [11, 12, 13] (i := 9) (v := .agg cq) rfl (by kernel_rfl) (by kernel_rfl) (by kernel_rfl) (fun _ _ _ h => h) (by kernel_rfl) (agg_mid (by rfl) 29 (.tmp 71) rfl bq 4 rfl _ _ (fun _ h => h.2.2.1) Tryd.underlying29 rfl (by rw [HZQ.out]; kernel_rfl)) HS5.out ?_
          try simp only [List.getElem_toArray, List.getElem_cons_succ, List.getElem_cons_zero, Act.put, List.setIfInBounds_toArray, List.set_cons_zero, List.set_cons_succ]
          refine anyT_take [11, 12, 13] (i := 10) (v := .agg cy) rfl (by kernel_rfl) (by kernel_rfl) (by kernel_rfl) (fun _ _ _ h => h) (by kernel_rfl) (agg_mid (by rfl) 29 (.tmp 9) rfl g7 0 rfl _ _ (fun _ h => h.2.2.2.1) Tryd.underlying29 rfl (by rw [HZY.out]; kernel_rfl)) HS5.out ?_
          try simp only [List.getElem_toArray, List.getElem_cons_succ, List.getElem_cons_zero, Act.put, List.setIfInBounds_toArray, List.set_cons_zero, List.set_cons_succ]
          refine anyT_one (i := 5) (by kernel_rfl) rfl (fun K hK => ?_)
          rw [if_pos (by rfl)]
          try simp only [List.getElem_toArray, List.getElem_cons_succ, List.getElem_cons_zero]
          (go_simp; refine (rtwo_any _ _ _ _ _ MX.out.m.ta HPQ.out.1).mono ?_; rintro e w9 ⟨u1, rfl, ht, hb⟩; have HRu1 := Lib.hid (show RT w9 u1 _ from ht); have u1Z := Lib.hid (RO.size ht); have u1O := Lib.hid (RO.one ht); replace HS5 := Lib.hid (HK5.out _ _ HS5.out hb (show _ ∧ _ ∧ _ ∧ _ from ⟨blk_lt MX.out.h6, HBQ.out, blk_lt MX.out.h7, blk_lt MX.out.m.pa⟩)); replace HBQ := Lib.hid (Nat.lt_of_lt_of_le HBQ.out hb.size); replace HPQ := Lib.hid (show _ ∧ _ from ⟨HPQ.out.1.below hb, HPQ.out.2.below hb⟩); replace MX := Lib.hid (MX.out.call hb); clear ht hb)
          refine hK _ _ (fun _ => HS5.out) ?_
          clear hK K
          try simp only [List.getElem_toArray, List.getElem_cons_succ, List.getElem_cons_zero, Act.put, List.setIfInBounds_toArray, List.set_cons_zero, List.set_cons_succ]
          refine anyT_one (i := 11) (by kernel_rfl) rfl (fun K hK => ?_)
          rw [if_pos (by rfl)]
          try simp only [List.getElem_toArray, List.getElem_cons_succ, List.getElem_cons_zero]
          (go_simp; refine (rtwo_any _ _ _ _ _ HPQ.out.2 MX.out.ty).mono ?_; rintro e w10 ⟨u2, rfl, ht, hb⟩; have HRu2 := Lib.hid (show RT w10 u2 _ from ht); have u2Z := Lib.hid (RO.size ht); have u2O := Lib.hid (RO.one ht); replace HRu1 := Lib.hid (HRu1.out.below hb); replace HS5 := Lib.hid (HK5.out _ _ HS5.out hb (show _ ∧ _ ∧ _ ∧ _ from ⟨blk_lt MX.out.h6, HBQ.out, blk_lt MX.out.h7, blk_lt MX.out.m.pa⟩)); replace HBQ := Lib.hid (Nat.lt_of_lt_of_le HBQ.out hb.size); replace HPQ := Lib.hid (show _ ∧ _ from ⟨HPQ.out.1.below hb, HPQ.out.2.below hb⟩); replace MX := Lib.hid (MX.out.call hb); clear ht hb)
          refine hK _ _ (fun _ => HS5.out) ?_
          clear hK K
          try simp only [List.getElem_toArray, List.getElem_cons_succ, List.getElem_cons_zero, Act.put, List.setIfInBounds_toArray, List.set_cons_zero, List.set_cons_succ]
          refine anyT_one (i := 12) (by kernel_rfl) rfl (fun K hK => ?_)
          rw [if_pos (by rfl)]
          try simp only [List.getElem_toArray, List.getElem_cons_succ, List.getElem_cons_zero]
          (go_simp; refine (rtwo_any _ _ _ _ _ HRu1.out HRu2.out).mono ?_; rintro e w11 ⟨u3, rfl, ht, hb⟩; have HRu3 := Lib.hid (show RT w11 u3 _ from ht); have u3Z := Lib.hid (RO.size ht); have u3O := Lib.hid (RO.one ht); replace MX := Lib.hid (MX.out.call hb); clear ht hb)
          refine hK _ _ (not_mem rfl) ?_
          clear hK K
          try simp only [List.getElem_toArray, List.getElem_cons_succ, List.getElem_cons_zero, Act.put, List.setIfInBounds_toArray, List.set_cons_zero, List.set_cons_succ]
          refine anyT_one (i := 13) (by kernel_rfl) rfl (fun K hK => ?_)
          rw [if_pos (by rfl)]
          try simp only [List.getElem_toArray, List.getElem_cons_succ, List.getElem_cons_zero]
          (refine wp_store_row 29 (.tmp 4) (.tmp 75) rfl (w.heap.size + 1 + 1) u3 rfl rfl 29 _ MX.out.m.re (by rw [u3Z.out]; kernel_rfl) (by rw [u3Z.out]; rfl) u3O.out ?_)
          refine hK _ _ (not_mem rfl) ?_
          clear hK K
          try simp only [List.getElem_toArray, List.getElem_cons_succ, List.getElem_cons_zero, Act.put, List.setIfInBounds_toArray, List.set_cons_zero, List.set_cons_succ]
          refine anyT_done (by kernel_rfl) ?_ _
          go_wp2_with (fail)
          obtain ⟨e1, e2, e3⟩ := MX.out.m.done HRu3.out
          refine bodyPost_ret (results_cell_row rfl _ _ (w.heap.size + 1 + 1) 29 u3 (0, 0) _ rfl e3 Tryd.underlying29 rfl (by rw [u3Z.out]; kernel_rfl)) rfl ?_
          rw [HF.out]
          exact ⟨_, rfl, e2, e1⟩
        · have hltI : ¬ (h2 : Int) < (h1 : Int) := by omega
          have HF := Lib.hid (show rightN a (.node x y) = .node (.node a x) y by
            have e1 := hh1.out
            have e2 := hh2.out
            rw [HRN.out]
            unfold fromSecond
            rw [if_neg (by omega)])
          clear hlt HH1 HH2
          go_upto_region 11 with (fail)
          refine wp_region_T (fun w' => w'.rangeAt w.heap.size 0 ca.toList ∧ w'.rangeAt g6 0 cx.toList ∧ w'.rangeAt g7 0 cy.toList) [0, 1, 2, 3] (by kernel_rfl) ?_
          replace MX := Lib.hid (MX.out.call (Below.refl _ _).drew)
          generalize w8.drew = w8' at *
          refine anyT_take [2, 4, 5] (i := 0) (v := .agg ca) rfl (by kernel_rfl) (by kernel_rfl) (by kernel_rfl) (fun _ _ _ h => h) (by kernel_rfl) (agg_mid (by rfl) 29 (.tmp 2) rfl w.heap.size 0 rfl _ _ (fun _ h => h.1) Tryd.underlying29 rfl (by rw [HZA.out]; kernel_rfl)) ⟨range_of MX.out.m.pa, range_of MX.out.h6, range_of MX.out.h7⟩ ?_
          try simp only [List.getElem_toArray, List.getElem_cons_succ, List.getElem_cons_zero, Act.put, List.setIfInBounds_toArray, List.set_cons_zero, List.set_cons_succ]
          refine anyT_take [2, 4, 5] (i := 1) (v := .agg cx) rfl (by kernel_rfl) (by kernel_rfl) (by kernel_rfl) (fun _ _ _ h => h) (by kernel_rfl) (agg_mid (by rfl) 29 (.tmp 8) rfl g6 0 rfl _ _ (fun _ h => h.2.1) Tryd.underlying29 rfl (by rw [HZX.out]; kernel_rfl)) ⟨range_of MX.out.m.pa, range_of MX.out.h6, range_of MX.out.h7⟩ ?_
          try simp only [List.getElem_toArray, List.getElem_cons_succ, List.getElem_cons_zero, Act.put, List.setIfInBounds_toArray, List.set_cons_zero, List.set_cons_succ]
          refine anyT_take [4, 5] (i := 3) (v := .agg cy) rfl (by kernel_rfl) (by kernel_rfl) (by kernel_rfl) (fun _ _ _ h => h) (by kernel_rfl) (agg_mid (by rfl) 29 (.tmp 9) rfl g7 0 rfl _ _ (fun _ h => h.2.2) Tryd.underlying29 rfl (by rw [HZY.out]; kernel_rfl)) ⟨range_of MX.out.m.pa, range_of MX.out.h6, range_of MX.out.h7⟩ ?_
          try simp only [List.getElem_toArray, List.getElem_cons_succ, List.getElem_cons_zero, Act.put, List.setIfInBounds_toArray, List.set_cons_zero, List.set_cons_succ]
          refine anyT_one (i := 2) (by kernel_rfl) rfl (fun K hK => ?_)
          rw [if_pos (by rfl)]
          try simp only [List.getElem_toArray, List.getElem_cons_succ, List.getElem_cons_zero]
          (go_simp; refine (rtwo_any _ _ _ _ _ MX.out.m.ta MX.out.tx).mono ?_; rintro e w9 ⟨u1, rfl, ht, hb⟩; have HRu1 := Lib.hid (show RT w9 u1 _ from ht); replace MX := Lib.hid (MX.out.call hb); clear ht hb)
          refine hK _ _ (fun _ => ⟨range_of MX.out.m.pa, range_of MX.out.h6, range_of MX.out.h7⟩) ?_
          clear hK K
          try simp only [List.getElem_toArray, List.getElem_cons_succ, List.getElem_cons_zero, Act.put, List.setIfInBounds_toArray, List.set_cons_zero, List.set_cons_succ]
          refine anyT_one (i := 4) (by kernel_rfl) rfl (fun K hK => ?_)
          rw [if_pos (by rfl)]
          try simp only [List.getElem_toArray, List.getElem_cons_succ, List.getElem_cons_zero]
          (go_simp; refine (rtwo_any _ _ _ _ _ HRu1.out MX.out.ty).mono ?_; rintro e w10 ⟨u2, rfl, ht, hb⟩; have HRu2 := Lib.hid (show RT w10 u2 _ from ht); have u2Z := Lib.hid (RO.size ht); have u2O := Lib.hid (RO.one ht); replace MX := Lib.hid (MX.out.call hb); clear ht hb)
          refine hK _ _ (not_mem rfl) ?_
          clear hK K
          try simp only [List.getElem_toArray, List.getElem_cons_succ, List.getElem_cons_zero, Act.put, List.setIfInBounds_toArray, List.set_cons_zero, List.set_cons_succ]
          refine anyT_one (i := 5) (by kernel_rfl) rfl (fun K hK => ?_)
          rw [if_pos (by rfl)]
          try simp only [List.getElem_toArray, List.getElem_cons_succ, List.getElem_cons_zero]
          (refine wp_store_row 29 (.tmp 4) (.tmp 80) rfl (w.heap.size + 1 + 1) u2 rfl rfl 29 _ MX.out.m.re (by rw [u2Z.out]; kernel_rfl) (by rw [u2Z.out]; rfl) u2O.out ?_)
          refine hK _ _ (not_mem rfl) ?_
          clear hK K
          try simp only [List.getElem_toArray, List.getElem_cons_succ, List.getElem_cons_zero, Act.put, List.setIfInBounds_toArray, List.set_cons_zero, List.set_cons_succ]
          refine anyT_done (by kernel_rfl) ?_ _
          go_wp2_with (fail)
          obtain ⟨e1, e2, e3⟩ := MX.out.m.done HRu2.out
          refine bodyPost_ret (results_cell_row rfl _ _ (w.heap.size + 1 + 1) 29 u2 (0, 0) _ rfl e3 Tryd.underlying29 rfl (by rw [u2Z.out]; kernel_rfl)) rfl ?_
          rw [HF.out]
          exact ⟨_, rfl, e2, e1⟩
    · have hd3 : ((ah : Int) - (bh : Int) == -2) = false := by rw [beq_eq_false_iff_ne]; omega
      have HF := Lib.hid (show rightN a b = .node a b by unfold rightN; rw [if_neg (by rw [← hah.out, ← hbh.out]; exact h2), if_neg (by rw [← hah.out, ← hbh.out]; exact h3)])
      clear h2 h3 hah2 hbh2 hah hbh
      go_wp2_with (first
        | (refine wpList_load_row rfl 29 (.tmp 2) rfl w.heap.size rfl 29 _ (0, 0) _ M.out.pa Tryd.underlying29 rfl (by rw [HZA.out]; kernel_rfl) ?_)
        | (refine wpList_load_row rfl 29 (.tmp 3) rfl (w.heap.size + 1) rfl 29 _ (0, 0) _ M.out.pb Tryd.underlying29 rfl (by rw [HZB.out]; kernel_rfl) ?_)
        | (go_at_call 57; (with_reducible refine (rtwo_any _ _ _ _ _ M.out.ta M.out.tb).mono ?_); rintro e w9 ⟨u1, rfl, ht, hb⟩; have HRu1 := Lib.hid (show RT w9 u1 _ from ht); have u1Z := Lib.hid (RO.size ht); have u1O := Lib.hid (RO.one ht); replace M := Lib.hid (M.out.call hb); clear ht hb)
        | (refine wpList_store_row rfl 29 (.tmp 4) (.tmp 83) rfl (w.heap.size + 1 + 1) u1 rfl rfl 29 _ M.out.re (by rw [u1Z.out]; kernel_rfl) (by rw [u1Z.out]; rfl) u1O.out ?_))
      obtain ⟨e1, e2, e3⟩ := M.out.done HRu1.out
      refine bodyPost_ret (results_cell_row rfl _ _ (w.heap.size + 1 + 1) 29 u1 (0, 0) _ rfl e3 Tryd.underlying29 rfl (by rw [u1Z.out]; kernel_rfl)) rfl ?_
      rw [HF.out]
      exact ⟨_, rfl, e2, e1⟩
end Go.Proofs.YtadolfacjolbkaaDoor
