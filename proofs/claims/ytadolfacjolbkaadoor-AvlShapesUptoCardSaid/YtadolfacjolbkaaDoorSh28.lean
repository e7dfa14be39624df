/- Part 28 of the proof. -/
import Derived.BigQuiet
import Derived.Test.YtadolfacjolbkaaDoorSh21
import Derived.Test.YtadolfacjolbkaaDoorSh27
namespace Go.Proofs.YtadolfacjolbkaaDoor
set_option linter.unusedVariables false
set_option linter.unusedSimpArgs false
open Go.RowKit
set_option maxRecDepth 100000
set_option linter.unusedSimpArgs false
set_option linter.unusedVariables false
theorem owns_belowB {w w' : World} {B : Nat} {v : Value} {l : List Bool} (h : w.ownsRow B 4 1 v l.length (blVals l)) (hb : Below w.heap.size w w') : w'.ownsRow B 4 1 v l.length (blVals l) := by
  refine h.kept (row := none) ⟨hb.os, hb.tape, hb.output, hb.size, fun k hk _ => hb.block k hk⟩ ?_
  cases v.ownBlock <;> simp
theorem owns_base {w : World} {B B' : Nat} {v : Value} {n : Nat} {xs : List Value} (h : w.ownsRow B 4 1 v n xs) (hB : B' ≤ B) : w.ownsRow B' 4 1 v n xs := ⟨h.1, h.2.imp id fun ⟨g, cap, cur, e, hb, r⟩ => ⟨g, cap, cur, e, Nat.le_trans hB hb, r⟩⟩
set_option maxHeartbeats 2000000 in
theorem bools_same (va vb : Value) (l : List Bool) (w : World) (ha : BlIn w va l) (hb : BlIn w vb l) : Calls Tryd.prog 11 #[va, vb] w fun e w' => e = .returned (.bool true) ∧ Below w.heap.size w w' := by
  obtain ⟨aa, ca, rfl⟩ := ha.len
  obtain ⟨ab, cb, rfl⟩ := hb.len
  have hlen : l.length ≤ maxLen := by obtain ⟨_, _, _, _, hm, _⟩ := ha; exact hm
  unfold maxLen at hlen
  have HA := Lib.hid ha
  have HB := Lib.hid hb
  clear ha hb
  go_enter Tryd.func11, Tryd.ntmps11
  go_wp2_with (fail)
  go_loopw [5] (fun x wr => ∃ k : Nat, k ≤ l.length ∧ x = .int .i64 (k : Int) ∧ Hid (Below w.heap.size w wr)) (fun x _ => l.length - (intOf x).toNat)
  case atStart => exact ⟨0, by omega, rfl, Lib.hid (Below.refl _ _)⟩
  case round =>
    obtain ⟨k, hkl, rfl, HBS⟩ := hrel
    by_cases hlt : k < l.length
    · obtain ⟨x, hx⟩ : ∃ x, l[k]? = some x := ⟨l[k], List.getElem?_eq_getElem hlt⟩
      obtain ⟨b1, o1, rfl, l1, p0⟩ := HA.out.at k x hx
      obtain ⟨b2, o2, rfl, l2, q0⟩ := HB.out.at k x hx
      have c0 := (HBS.out.cell (p := ⟨b1, o1 + k, none⟩) l1).trans p0
      have d0 := (HBS.out.cell (p := ⟨b2, o2 + k, none⟩) l2).trans q0
      have hltI : (k : Int) < (l.length : Int) := by omega
      clear p0 q0 hx
      cases x with
      | false =>
        go_upto_region 6 with (fail)
        go_quiet (fail)
        replace HBS := Lib.hid (below_drewN HBS.out nq)
        generalize wr.drewN nq = w5 at *
        clear c0 d0
        go_wp2_with (fail)
        go_roundw
        case rel => exact ⟨k + 1, by omega, by go_num, HBS⟩
        case measure => simp [intOf]; omega
      | true =>
        go_upto_region 6 with (fail)
        go_quiet (fail)
        replace HBS := Lib.hid (below_drewN HBS.out nq)
        generalize wr.drewN nq = w5 at *
        clear c0 d0
        go_wp2_with (fail)
        go_roundw
        case rel => exact ⟨k + 1, by omega, by go_num, HBS⟩
        case measure => simp [intOf]; omega
    · obtain rfl : k = l.length := by omega
      go_wp2_with (fail)
      go_ret
      exact ⟨rfl, HBS.out⟩
def RsPost (xs : List Bool) (w : World) (e : Ending) (w' : World) : Prop := ∃ v', e = .returned v' ∧ w'.ownsRow w.heap.size 4 1 v' xs.length (blVals xs) ∧ Below w.heap.size w w'
theorem rshape_none (w : World) : Calls Tryd.prog 12 #[.agg (rC false eBA eBA (.slice none 0 0))] w (RsPost [] w) := by
  unfold rC eBA RsPost
  go_enter Tryd.func12, Tryd.ntmps12
  go_wp2_with (fail)
  go_ret
  exact ⟨_, rfl, World.ownsRow_nil _ _ _ _, below_alloc _ _⟩
set_option maxHeartbeats 4000000 in
theorem rshape_some : ∀ (t : AvT) (cs : Array Value) (w : World), RT w cs t → t.many ≤ 1099511627776 → Calls Tryd.prog 12 #[.agg cs] w (RsPost t.shape w)
  | .leaf k v, cs, w, hcs, _ => by
    obtain rfl := hcs
    have HB := Lib.hid (below_alloc w (.cells #[.bool true, .string k, .string v, .slice none 0 0] 29))
    have HO := Lib.hid (bool1_own (w.alloc (.cells #[.bool true, .string k, .string v, .slice none 0 0] 29)) false (B := w.heap.size) (by simp))
    have HB2 := Lib.hid (below_alloc (w.alloc (.cells #[.bool true, .string k, .string v, .slice none 0 0] 29)) (.cells #[.bool false] 4))
    rw [show (AvT.leaf k v).shape = [false] from rfl]
    unfold rC RsPost
    go_enter Tryd.func12, Tryd.ntmps12
    go_upto_region 1 with (fail)
    obtain ⟨c0, c1, c2, c3⟩ := r_cells (heap_alloc_new w (.cells #[.bool true, .string k, .string v, .slice none 0 0] 29))
    generalize w.alloc (.cells #[.bool true, .string k, .string v, .slice none 0 0] 29) = w1 at *
    go_wp2_with (fail)
    go_ret
    exact ⟨_, rfl, HO.out, HB.out.trans (HB2.out.mono HB.out.size)⟩
  | .node a b, cs, w, hcs, hm => by
    have hme := a.shape_len
    have hme2 := b.shape_len
    simp only [AvT.many] at hm
    obtain ⟨blk, ca, cb, rfl, hblk, r1, r2, ta, tb⟩ := hcs
    have HZca := Lib.hid ta.size
    have HZcb := Lib.hid tb.size
    have HB := Lib.hid (below_alloc w (.cells #[.bool true, .string { data := #[] }, .string { data := #[] }, .slice (some ⟨blk, 0, none⟩) 2 2] 29))
    have HP := Lib.hid (heap_alloc_new w (.cells #[.bool true, .string { data := #[] }, .string { data := #[] }, .slice (some ⟨blk, 0, none⟩) 2 2] 29))
    have HT := Lib.hid (show RT _ ca a ∧ RT _ cb b from ⟨ta.below HB.out, tb.below HB.out⟩)
    have HL := Lib.hid (show w.heap.size < Array.size (World.heap _) ∧ blk < Array.size (World.heap _) from ⟨(Array.getElem?_eq_some_iff.1 HP.out).1, Nat.lt_of_lt_of_le hblk HB.out.size⟩)
    have HR := Lib.hid (show World.rangeAt _ blk 0 ca.toList ∧ World.rangeAt _ blk 4 cb.toList from ⟨range_below r1 HB.out hblk, range_below r2 HB.out hblk⟩)
    have HST : Hid (∀ w1 w2 : World, (w1.cell? ⟨w.heap.size, 3, none⟩ = some (.slice (some ⟨blk, 0, none⟩) 2 2) ∧ w1.rangeAt blk 0 ca.toList ∧ w1.rangeAt blk 4 cb.toList) → Below w1.heap.size w1 w2 → (w.heap.size < w1.heap.size ∧ blk < w1.heap.size) → (w2.cell? ⟨w.heap.size, 3, none⟩ = some (.slice (some ⟨blk, 0, none⟩) 2 2) ∧ w2.rangeAt blk 0 ca.toList ∧ w2.rangeAt blk 4 cb.toList)) := Lib.hid fun w1 w2 h hb hl => ⟨(hb.cell (p := ⟨w.heap.size, 3, none⟩) hl.1).trans h.1, range_below h.2.1 hb hl.2, range_below h.2.2 hb hl.2⟩
    have HIA := Lib.hid (fun w h => rshape_some a ca w h (by omega))
    have HIB := Lib.hid (fun w h => rshape_some b cb w h (by omega))
    clear ta tb r1 r2 hblk
    rw [show (AvT.node a b).shape = [true] ++ a.shape ++ b.shape from rfl]
    obtain ⟨la, hla⟩ : ∃ l, l = a.shape := ⟨_, rfl⟩
    obtain ⟨lb, hlb⟩ : ∃ l, l = b.shape := ⟨_, rfl⟩
    rw [← hla] at HIA hme ⊢
    rw [← hlb] at HIB hme2 ⊢
    have HLB := Lib.hid (show la.length + lb.length ≤ 4398046511104 by omega)
    clear hla hlb hm hme hme2
    unfold rC RsPost eBA at *
    go_enter Tryd.func12, Tryd.ntmps12
    go_upto_region 1 with (fail)
    generalize w.alloc (.cells #[.bool true, .string { data := #[] }, .string { data := #[] }, .slice (some ⟨blk, 0, none⟩) 2 2] 29) = w1 at *
    obtain ⟨c0, -, -, c3⟩ := r_cells HP.out
    go_upto_region 5 with (fail)
    refine wp_region_T (fun w' => w'.cell? ⟨w.heap.size, 3, none⟩ = some (.slice (some ⟨blk, 0, none⟩) 2 2) ∧ w'.rangeAt blk 0 ca.toList ∧ w'.rangeAt blk 4 cb.toList) [0, 2, 3, 4, 5, 6, 8, 9, 10, 11] (by kernel_rfl) ?_
    have HS := Lib.hid (show w1.drew.cell? ⟨w.heap.size, 3, none⟩ = some (.slice (some ⟨blk, 0, none⟩) 2 2) ∧ w1.drew.rangeAt blk 0 ca.toList ∧ w1.drew.rangeAt blk 4 cb.toList from ⟨c3, HR.out.1, HR.out.2⟩)
    replace HB := Lib.hid (show Below w.heap.size w w1.drew from HB.out.drew)
    replace HT := Lib.hid (show RT w1.drew ca a ∧ RT w1.drew cb b from ⟨HT.out.1.below (Below.refl _ _).drew, HT.out.2.below (Below.refl _ _).drew⟩)
    replace HL := Lib.hid (show w.heap.size < w1.drew.heap.size ∧ blk < w1.drew.heap.size from HL.out)
    clear c0 c3 HR HP
    generalize w1.drew = w2 at *
    have HSX := Lib.hid (fun X (hb : Below w2.heap.size w2 X) => HST.out w2 X HS.out hb HL.out)
    refine anyT_takeY (i := 1) (v := .pointer (some ⟨w.heap.size, 3, none⟩)) rfl (by kernel_rfl) (by kernel_rfl) (by kernel_rfl) (fun _ _ _ h => h) (by kernel_rfl) (Or.inl ⟨by rfl, by intro w; go_simp⟩) ?_
    try simp only [List.getElem_toArray, List.getElem_cons_succ, List.getElem_cons_zero, Act.put, List.setIfInBounds_toArray, List.set_cons_zero, List.set_cons_succ]
    refine anyT_takeY (i := 7) (v := .pointer (some ⟨w.heap.size, 3, none⟩)) rfl (by kernel_rfl) (by kernel_rfl) (by kernel_rfl) (fun _ _ _ h => h) (by kernel_rfl) (Or.inl ⟨by rfl, by intro w; go_simp⟩) ?_
    try simp only [List.getElem_toArray, List.getElem_cons_succ, List.getElem_cons_zero, Act.put, List.setIfInBounds_toArray, List.set_cons_zero, List.set_cons_succ]
    refine anyT_take [3, 4, 5, 6, 11, 12, 13] (i := 2) (v := .slice (some ⟨blk, 0, none⟩) 2 2) rfl (by kernel_rfl) (by kernel_rfl) (by kernel_rfl) (fun _ _ _ h => h) (by kernel_rfl) (Or.inl ⟨by rfl, fun w' hS => by have c := hS.1; go_simp⟩) HS.out ?_
    try simp only [List.getElem_toArray, List.getElem_cons_succ, List.getElem_cons_zero, Act.put, List.setIfInBounds_toArray, List.set_cons_zero, List.set_cons_succ]
    refine anyT_take [4, 5, 6, 11, 12, 13] (i := 3) (v := .pointer (some ⟨blk, 0, none⟩)) rfl (by kernel_rfl) (by kernel_rfl) (by kernel_rfl) (fun _ _ _ h => h) (by kernel_rfl) (Or.inl ⟨by rfl, fun w' _ => by go_simp⟩) HS.out ?_
    try simp only [List.getElem_toArray, List.getElem_cons_succ, List.getElem_cons_zero, Act.put, List.setIfInBounds_toArray, List.set_cons_zero, List.set_cons_succ]
    refine anyT_take [5, 6, 11, 12, 13] (i := 4) (v := .agg ca) rfl (by kernel_rfl) (by kernel_rfl) (by kernel_rfl) (fun _ _ _ h => h) (by kernel_rfl) (agg_mid (by rfl) 29 (.tmp 14) rfl blk 0 rfl ca _ (fun _ h => h.2.1) Tryd.underlying29 rfl (by rw [HZca.out]; kernel_rfl)) HS.out ?_
    try simp only [List.getElem_toArray, List.getElem_cons_succ, List.getElem_cons_zero, Act.put, List.setIfInBounds_toArray, List.set_cons_zero, List.set_cons_succ]
    refine anyT_take [9, 10, 11, 12, 13] (i := 8) (v := .slice (some ⟨blk, 0, none⟩) 2 2) rfl (by kernel_rfl) (by kernel_rfl) (by kernel_rfl) (fun _ _ _ h => h) (by kernel_rfl) (Or.inl ⟨by rfl, fun w' hS => by have c := hS.1; go_simp⟩) HS.out ?_
    try simp only [List.getElem_toArray, List.getElem_cons_succ, List.getElem_cons_zero, Act.put, List.setIfInBounds_toArray, List.set_cons_zero, List.set_cons_succ]
    refine anyT_take [10, 11, 12, 13] (i := 9) (v := .pointer (some ⟨blk, 4, none⟩)) rfl (by kernel_rfl) (by kernel_rfl) (by kernel_rfl) (fun _ _ _ h => h) (by kernel_rfl) (Or.inl ⟨by rfl, fun w' _ => by go_simp⟩) HS.out ?_
    try simp only [List.getElem_toArray, List.getElem_cons_succ, List.getElem_cons_zero, Act.put, List.setIfInBounds_toArray, List.set_cons_zero, List.set_cons_succ]
    refine anyT_take [11, 12, 13] (i := 10) (v := .agg cb) rfl (by kernel_rfl) (by kernel_rfl) (by kernel_rfl) (fun _ _ _ h => h) (by kernel_rfl) (agg_mid (by rfl) 29 (.tmp 20) rfl blk 4 rfl cb _ (fun _ h => h.2.2) Tryd.underlying29 rfl (by rw [HZcb.out]; kernel_rfl)) HS.out ?_
    try simp only [List.getElem_toArray, List.getElem_cons_succ, List.getElem_cons_zero, Act.put, List.setIfInBounds_toArray, List.set_cons_zero, List.set_cons_succ]
    refine anyT_ready (rs := [0, 5]) (by kernel_rfl) (by simp) ?_
    refine readyT_cons rfl (fun K hK => ?_) (readyT_cons rfl (fun K hK => ?_) readyT_nil)
    · rw [if_pos (by rfl)]
      try simp only [List.getElem_toArray, List.getElem_cons_succ, List.getElem_cons_zero]
      (refine wp_bool1 (.const (.bool true)) rfl true rfl ?_; have HB3 := Lib.hid (below_alloc w2 (.cells #[.bool true] 4)); have HO0 := Lib.hid (bool1_own w2 true (Nat.le_refl _)))
      refine hK _ _ (fun _ => HSX.out _ HB3.out) ?_
      clear hK K
      try simp only [List.getElem_toArray, List.getElem_cons_succ, List.getElem_cons_zero, Act.put, List.setIfInBounds_toArray, List.set_cons_zero, List.set_cons_succ]
      refine anyT_one (i := 5) (by kernel_rfl) rfl (fun K hK => ?_)
      rw [if_pos (by rfl)]
      try simp only [List.getElem_toArray, List.getElem_cons_succ, List.getElem_cons_zero]
      (go_simp; refine (HIA.out _ (HT.out.1.below HB3.out)).mono ?_; rintro e w4 ⟨va, rfl, ho, hb⟩; have HXA := Lib.hid (owns_bools ho (by have := HLB.out; unfold maxLen; omega)); have HB4 := Lib.hid (HB3.out.trans (hb.mono HB3.out.size)); have HO1 := Lib.hid (owns_belowB HO0.out hb); clear ho hb)
      refine hK _ _ (fun _ => HSX.out _ HB4.out) ?_
      clear hK K
      try simp only [List.getElem_toArray, List.getElem_cons_succ, List.getElem_cons_zero, Act.put, List.setIfInBounds_toArray, List.set_cons_zero, List.set_cons_succ]
      refine anyT_one (i := 6) (by kernel_rfl) rfl (fun K hK => ?_)
      rw [if_pos (by rfl)]
      try simp only [List.getElem_toArray, List.getElem_cons_succ, List.getElem_cons_zero]
      (refine wp_append_bools (.tmp 11) (.tmp 16) rfl rfl w2.heap.size (.slice (some ⟨w2.heap.size, 0, none⟩) 1 1) [true] rfl HO1.out va la rfl HXA.out (by have := HLB.out; simp only [List.length_cons, List.length_nil]; omega) HB4.out.size ?_; intro v6 w6 ho hgr; have HO6 := Lib.hid ho; have HB6 := Lib.hid (HB4.out.grown hgr HB4.out.size (fun k hk => (HO1.out.lt k hk).1)); clear ho hgr)
      refine hK _ _ (fun _ => HSX.out _ HB6.out) ?_
      clear hK K
      try simp only [List.getElem_toArray, List.getElem_cons_succ, List.getElem_cons_zero, Act.put, List.setIfInBounds_toArray, List.set_cons_zero, List.set_cons_succ]
      refine anyT_one (i := 11) (by kernel_rfl) rfl (fun K hK => ?_)
      rw [if_pos (by rfl)]
      try simp only [List.getElem_toArray, List.getElem_cons_succ, List.getElem_cons_zero]
      (go_simp; refine (HIB.out w6 (HT.out.2.below HB6.out)).mono ?_; rintro e w7 ⟨vb, rfl, ho, hb⟩; have HXB := Lib.hid (owns_bools ho (by have := HLB.out; unfold maxLen; omega)); have HB7 := Lib.hid (HB6.out.trans (hb.mono HB6.out.size)); have HO7 := Lib.hid (owns_belowB HO6.out hb); clear ho hb)
      refine hK _ _ (fun _ => HSX.out _ HB7.out) ?_
      clear hK K
      try simp only [List.getElem_toArray, List.getElem_cons_succ, List.getElem_cons_zero, Act.put, List.setIfInBounds_toArray, List.set_cons_zero, List.set_cons_succ]
      refine anyT_one (i := 12) (by kernel_rfl) rfl (fun K hK => ?_)
      rw [if_pos (by rfl)]
      try simp only [List.getElem_toArray, List.getElem_cons_succ, List.getElem_cons_zero]
      (refine wp_append_bools (.tmp 17) (.tmp 22) rfl rfl w2.heap.size v6 ([true] ++ la) rfl HO7.out vb lb rfl HXB.out (by have := HLB.out; simp only [List.length_append, List.length_cons, List.length_nil]; omega) HB7.out.size ?_; intro v8 w8 ho hgr; have HO8 := Lib.hid ho; have HB8 := Lib.hid (HB7.out.grown hgr HB7.out.size (fun k hk => (HO7.out.lt k hk).1)); clear ho hgr)
      refine hK _ _ (not_mem rfl) ?_
      clear hK K
      try simp only [List.getElem_toArray, List.getElem_cons_succ, List.getElem_cons_zero, Act.put, List.setIfInBounds_toArray, List.set_cons_zero, List.set_cons_succ]
      refine anyT_takeY (i := 13) (v := v8) rfl (by kernel_rfl) (by kernel_rfl) (by kernel_rfl) (fun _ _ _ h => h) (by kernel_rfl) (Or.inl ⟨by rfl, by intro w; go_simp⟩) ?_
      try simp only [List.getElem_toArray, List.getElem_cons_succ, List.getElem_cons_zero, Act.put, List.setIfInBounds_toArray, List.set_cons_zero, List.set_cons_succ]
      refine anyT_done (by kernel_rfl) ?_ _
      go_wp2_with (fail)
      go_ret
      exact ⟨v8, rfl, owns_base HO8.out HB.out.size, HB.out.trans (HB8.out.mono HB.out.size)⟩
    · rw [if_pos (by rfl)]
      try simp only [List.getElem_toArray, List.getElem_cons_succ, List.getElem_cons_zero]
      (go_simp; refine (HIA.out _ HT.out.1).mono ?_; rintro e w3 ⟨va, rfl, ho, hb⟩; have HXA0 := Lib.hid (owns_bools ho (by have := HLB.out; unfold maxLen; omega)); have HB3 := Lib.hid hb; clear ho hb)
      refine hK _ _ (fun _ => HSX.out _ HB3.out) ?_
      clear hK K
      try simp only [List.getElem_toArray, List.getElem_cons_succ, List.getElem_cons_zero, Act.put, List.setIfInBounds_toArray, List.set_cons_zero, List.set_cons_succ]
      refine anyT_one (i := 0) (by kernel_rfl) rfl (fun K hK => ?_)
      rw [if_pos (by rfl)]
      try simp only [List.getElem_toArray, List.getElem_cons_succ, List.getElem_cons_zero]
      (refine wp_bool1 (.const (.bool true)) rfl true rfl ?_; have HB4 := Lib.hid (HB3.out.trans ((below_alloc w3 (.cells #[.bool true] 4)).mono HB3.out.size)); have HO1 := Lib.hid (bool1_own w3 true HB3.out.size); have HXA := Lib.hid (HXA0.out.below (below_alloc w3 (.cells #[.bool true] 4))))
      refine hK _ _ (fun _ => HSX.out _ HB4.out) ?_
      clear hK K
      try simp only [List.getElem_toArray, List.getElem_cons_succ, List.getElem_cons_zero, Act.put, List.setIfInBounds_toArray, List.set_cons_zero, List.set_cons_succ]
      refine anyT_one (i := 6) (by kernel_rfl) rfl (fun K hK => ?_)
      rw [if_pos (by rfl)]
      try simp only [List.getElem_toArray, List.getElem_cons_succ, List.getElem_cons_zero]
      (refine wp_append_bools (.tmp 11) (.tmp 16) rfl rfl w2.heap.size (.slice (some ⟨w3.heap.size, 0, none⟩) 1 1) [true] rfl HO1.out va la rfl HXA.out (by have := HLB.out; simp only [List.length_cons, List.length_nil]; omega) HB4.out.size ?_; intro v6 w6 ho hgr; have HO6 := Lib.hid ho; have HB6 := Lib.hid (HB4.out.grown hgr HB4.out.size (fun k hk => (HO1.out.lt k hk).1)); clear ho hgr)
      refine hK _ _ (fun _ => HSX.out _ HB6.out) ?_
      clear hK K
      try simp only [List.getElem_toArray, List.getElem_cons_succ, List.getElem_cons_zero, Act.put, List.setIfInBounds_toArray, List.set_cons_zero, List.set_cons_succ]
      refine anyT_one (i := 11) (by kernel_rfl) rfl (fun K hK => ?_)
      rw [if_pos (by rfl)]
      try simp only [List.getElem_toArray, List.getElem_cons_succ, List.getElem_cons_zero]
      (go_simp; refine (HIB.out w6 (HT.out.2.below HB6.out)).mono ?_; rintro e w7 ⟨vb, rfl, ho, hb⟩; have HXB := Lib.hid (owns_bools ho (by have := HLB.out; unfold maxLen; omega)); have HB7 := Lib.hid (HB6.out.trans (hb.mono HB6.out.size)); have HO7 := Lib.hid (owns_belowB HO6.out hb); clear ho hb)
      refine hK _ _ (fun _ => HSX.out _ HB7.out) ?_
      clear hK K
      try simp only [List.getElem_toArray, List.getElem_cons_succ, List.getElem_cons_zero, Act.put, List.setIfInBounds_toArray, List.set_cons_zero, List.set_cons_succ]
      refine anyT_one (i := 12) (by kernel_rfl) rfl (fun K hK => ?_)
      rw [if_pos (by rfl)]
      try simp only [List.getElem_toArray, List.getElem_cons_succ, List.getElem_cons_zero]
      (refine wp_append_bools (.tmp 17) (.tmp 22) rfl rfl w2.heap.size v6 ([true] ++ la) rfl HO7.out vb lb rfl HXB.out (by have := HLB.out; simp only [List.length_append, List.length_cons, List.length_nil]; omega) HB7.out.size ?_; intro v8 w8 ho hgr; have HO8 := Lib.hid ho; have HB8 := Lib.hid (HB7.out.grown hgr HB7.out.size (fun k hk => (HO7.out.lt k hk).1)); clear ho hgr)
      refine hK _ _ (not_mem rfl) ?_
      clear hK K
      try simp only [List.getElem_toArray, List.getElem_cons_succ, List.getElem_cons_zero, Act.put, List.setIfInBounds_toArray, List.set_cons_zero, List.set_cons_succ]
      refine anyT_takeY (i := 13) (v := v8) rfl (by kernel_rfl) (by kernel_rfl) (by kernel_rfl) (fun _ _ _ h => h) (by kernel_rfl) (Or.inl ⟨by rfl, by intro w; go_simp⟩) ?_
      try simp only [List.getElem_toArray, List.getElem_cons_succ, List.getElem_cons_zero, Act.put, List.setIfInBounds_toArray, List.set_cons_zero, List.set_cons_succ]
      refine anyT_done (by kernel_rfl) ?_ _
      go_wp2_with (fail)
      go_ret
      exact ⟨v8, rfl, owns_base HO8.out HB.out.size, HB.out.trans (HB8.out.mono HB.out.size)⟩
theorem rshape_any (t : Option AvT) (cs : Array Value) (w : World) (h : RO w cs t) (hm : manyO t ≤ 1099511627776) : Calls Tryd.prog 12 #[.agg cs] w (RsPost (shapeO t) w) := by
  cases t with
  | none => cases h; exact rshape_none w
  | some t => exact rshape_some t cs w h hm
end Go.Proofs.YtadolfacjolbkaaDoor
