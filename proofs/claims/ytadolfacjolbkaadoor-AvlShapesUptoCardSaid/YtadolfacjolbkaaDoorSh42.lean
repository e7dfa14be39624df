/- Part 42 of the proof. -/
import Derived.Test.YtadolfacjolbkaaDoorSh21
import Derived.Test.YtadolfacjolbkaaDoorSh23
import Derived.Test.YtadolfacjolbkaaDoorSh40
import Derived.Test.YtadolfacjolbkaaDoorSh41
namespace Go.Proofs.YtadolfacjolbkaaDoor
set_option linter.unusedVariables false
set_option linter.unusedSimpArgs false
open Go.RowKit
set_option maxRecDepth 100000
set_option linter.unusedSimpArgs false
set_option linter.unusedVariables false
/-- what lies in memory while the reference makes a root: the result's zeros, both parts -/
structure RtM (w w' : World) (ca cb : Array Value) (a b : AvT) (g3 g4 : Nat) : Prop where
  below : Below w.heap.size w w'
  res : RowAt w' (w.heap.size + 1) .u8 32 43 (fun _ => 0)
  h3 : w'.heap[g3]? = some (.cells ca 29 (0, 0))
  h4 : w'.heap[g4]? = some (.cells cb 29 (0, 0))
  ta : RT w' ca a
  tb : RT w' cb b
theorem RtM.call {w w' w2 : World} {ca cb : Array Value} {a b : AvT} {g3 g4 : Nat} (m : RtM w w' ca cb a b g3 g4) (h : Below w'.heap.size w' w2) : RtM w w2 ca cb a b g3 g4 :=
  ⟨m.below.trans (h.mono m.below.size), m.res.below h m.res.lt, (h.block _ (blk_lt m.h3)).trans m.h3, (h.block _ (blk_lt m.h4)).trans m.h4, m.ta.below h, m.tb.below h⟩
theorem RowAt.putRow {w : World} {g b : Nat} {cs : Array Value} {F : Nat → Int} (h : RowAt w b .u8 32 43 F) (hne : b ≠ g) : RowAt (w.setRow g cs) b .u8 32 43 F := (setRow_other _ _ _ _ hne).trans h
theorem rRoot_none (w : World) : Calls Tryd.prog 16 #[.agg #[.bool false, .string eBA, .string eBA, .slice none 0 0]] w fun e w' => e = .returned (.agg (rowOf .u8 32 (sumF []))) ∧ Below w.heap.size w w' := by
  obtain ⟨w1, hw1⟩ : ∃ w1, w1 = (w.alloc (.cells #[.bool false, .string eBA, .string eBA, .slice none 0 0] 29)).alloc (.cells (rowOf .u8 32 (fun _ => 0)) 43) := ⟨_, rfl⟩
  have HB := Lib.hid (show Below w.heap.size w w1 by rw [hw1]; exact (below_alloc w _).trans ((below_alloc _ _).mono (by simp)))
  have HP := Lib.hid (show w1.heap[w.heap.size]? = some (.cells #[.bool false, .string eBA, .string eBA, .slice none 0 0] 29 (0, 0)) by rw [hw1, heap_alloc_old _ _ (by simp), heap_alloc_new])
  have HR := Lib.hid (show RowAt w1 (w.heap.size + 1) .u8 32 43 (fun _ => 0) by
    rw [hw1]
    have := RowAt.new (w.alloc (.cells #[.bool false, .string eBA, .string eBA, .slice none 0 0] 29)) .u8 32 43 (fun _ => 0)
    rw [size_alloc] at this; exact this)
  have cR := r_cells HP.out
  go_enter Tryd.func16, Tryd.ntmps16
  go_upto_region 1 with (fail)
  rw [zeros32]
  rw [← hw1]
  replace hw1 := Lib.hid hw1
  go_wp2_with (first
    | (go_at_call 41; (with_reducible refine (rsum_any _ [] _ (nil_in _) (by simp)).mono ?_); rintro e w5 ⟨rfl, hb⟩; replace HR := Lib.hid (HR.out.below hb HR.out.lt); replace HB := Lib.hid (HB.out.trans (hb.mono HB.out.size)); clear hb)
    | (refine wpList_store_row rfl 43 (.tmp 2) (.tmp 8) rfl (w.heap.size + 1) _ rfl rfl 43 _ HR.out (by rw [rowOf_size]; kernel_rfl) (by rw [rowOf_size, rowOf_size]) (rowOf_one _ _ _) ?_))
  refine bodyPost_ret (results_cell_row rfl _ _ (w.heap.size + 1) 43 _ (0, 0) _ rfl (setRow_heap _ _ _ _ _ _ HR.out) Tryd.underlying43 rfl (by rw [rowOf_size]; kernel_rfl)) rfl ?_
  exact ⟨rfl, below_setRow HB.out (by omega) _⟩
theorem rRoot_leaf (k v : ByteArray) (w : World) (hs : k.size + v.size ≤ 1048576) : Calls Tryd.prog 16 #[.agg #[.bool true, .string k, .string v, .slice none 0 0]] w fun e w' => e = .returned (.agg (rowOf .u8 32 (avLeafF k v))) ∧ Below w.heap.size w w' := by
  obtain ⟨w1, hw1⟩ : ∃ w1, w1 = (w.alloc (.cells #[.bool true, .string k, .string v, .slice none 0 0] 29)).alloc (.cells (rowOf .u8 32 (fun _ => 0)) 43) := ⟨_, rfl⟩
  have HB := Lib.hid (show Below w.heap.size w w1 by rw [hw1]; exact (below_alloc w _).trans ((below_alloc _ _).mono (by simp)))
  have HP := Lib.hid (show w1.heap[w.heap.size]? = some (.cells #[.bool true, .string k, .string v, .slice none 0 0] 29 (0, 0)) by rw [hw1, heap_alloc_old _ _ (by simp), heap_alloc_new])
  have HR := Lib.hid (show RowAt w1 (w.heap.size + 1) .u8 32 43 (fun _ => 0) by
    rw [hw1]
    have := RowAt.new (w.alloc (.cells #[.bool true, .string k, .string v, .slice none 0 0] 29)) .u8 32 43 (fun _ => 0)
    rw [size_alloc] at this; exact this)
  have cR := r_cells HP.out
  have HL := Lib.hid (rLeaf_any k v w1 hs)
  go_enter Tryd.func16, Tryd.ntmps16
  go_upto_region 1 with (fail)
  rw [zeros32]
  rw [← hw1]
  replace hw1 := Lib.hid hw1
  go_wp2_with (first
    | (go_at_call 42; (with_reducible refine HL.out.mono ?_); rintro e w5 ⟨rfl, hb⟩; replace HR := Lib.hid (HR.out.below hb HR.out.lt); replace HB := Lib.hid (HB.out.trans (hb.mono HB.out.size)); clear hb)
    | (refine wpList_store_row rfl 43 (.tmp 2) (.tmp 17) rfl (w.heap.size + 1) _ rfl rfl 43 _ HR.out (by rw [rowOf_size]; kernel_rfl) (by rw [rowOf_size, rowOf_size]) (rowOf_one _ _ _) ?_))
  refine bodyPost_ret (results_cell_row rfl _ _ (w.heap.size + 1) 43 _ (0, 0) _ rfl (setRow_heap _ _ _ _ _ _ HR.out) Tryd.underlying43 rfl (by rw [rowOf_size]; kernel_rfl)) rfl ?_
  exact ⟨rfl, below_setRow HB.out (by omega) _⟩
set_option maxHeartbeats 8000000 in
theorem rRoot_some : ∀ (t : AvT) (cs : Array Value) (w : World), Env w → RT w cs t → t.many ≤ 1048576 → (∀ p ∈ t.pairs, p.1.size + p.2.size ≤ 1048576) → Calls Tryd.prog 16 #[.agg cs] w fun e w' => e = .returned (.agg (rowOf .u8 32 t.root)) ∧ Below w.heap.size w w'
  | .leaf k v, cs, w, _, hcs, _, hz => by
    obtain rfl := hcs
    exact rRoot_leaf k v w (hz (k, v) (by simp [AvT.pairs]))
  | .node x y, cs, w, he, hcs, hm, hz => by
    simp only [AvT.many] at hm
    obtain ⟨bk, cx, cy, rfl, hbk, r1, r2, tx, ty⟩ := hcs
    have HZX := Lib.hid tx.size
    have HZY := Lib.hid ty.size
    have HOX := Lib.hid (RO.one (t := some x) tx)
    have HOY := Lib.hid (RO.one (t := some y) ty)
    have HIA := Lib.hid (fun w h1 h2 => rRoot_some x cx w h1 h2 (by omega) (fun p hp => hz p (List.mem_append.2 (.inl hp))))
    have HIB := Lib.hid (fun w h1 h2 => rRoot_some y cy w h1 h2 (by omega) (fun p hp => hz p (List.mem_append.2 (.inr hp))))
    have HPA := Lib.hid (fun w h => rpairs_some x cx w h (by omega))
    have HPB := Lib.hid (fun w h => rpairs_some y cy w h (by omega))
    obtain ⟨LA, hLA⟩ : ∃ l, l = x.pairs := ⟨_, rfl⟩
    obtain ⟨LB, hLB⟩ : ∃ l, l = y.pairs := ⟨_, rfl⟩
    rw [← hLA] at HPA
    rw [← hLB] at HPB
    have HFI := Lib.hid (show avNodeF (uN (LA.length : Int)) x.root (uN (LB.length : Int)) y.root = (AvT.node x y).root by rw [hLA, hLB, AvT.many_eq, AvT.many_eq, uN_nat _ (by omega), uN_nat _ (by omega)]; rfl)
    clear hLA hLB
    unfold PsPost at HPA HPB
    have HE := Lib.hid he
    obtain ⟨w1, hw1⟩ : ∃ w1, w1 = (w.alloc (.cells (rC true eBA eBA (.slice (some ⟨bk, 0, none⟩) 2 2)) 29)).alloc (.cells (rowOf .u8 32 (fun _ => 0)) 43) := ⟨_, rfl⟩
    have HB := Lib.hid (show Below w.heap.size w w1 by rw [hw1]; exact (below_alloc w _).trans ((below_alloc _ _).mono (by simp)))
    have HP := Lib.hid (show w1.heap[w.heap.size]? = some (.cells (rC true eBA eBA (.slice (some ⟨bk, 0, none⟩) 2 2)) 29 (0, 0)) by rw [hw1, heap_alloc_old _ _ (by simp), heap_alloc_new])
    have HR := Lib.hid (show RowAt w1 (w.heap.size + 1) .u8 32 43 (fun _ => 0) by
      rw [hw1]
      have := RowAt.new (w.alloc (.cells (rC true eBA eBA (.slice (some ⟨bk, 0, none⟩) 2 2)) 29)) .u8 32 43 (fun _ => 0)
      rw [size_alloc] at this; exact this)
    have HXY := Lib.hid (show RT w1 cx x ∧ RT w1 cy y by
      have := HB.out
      exact ⟨tx.below this, ty.below this⟩)
    have HSX := Lib.hid (show w1.cell? ⟨w.heap.size, 3, none⟩ = some (.slice (some ⟨bk, 0, none⟩) 2 2) ∧ w1.rangeAt bk 0 cx.toList ∧ w1.rangeAt bk 4 cy.toList from ⟨by rw [cell_of_row w1 _ 3 _ _ _ HP.out]; rfl, range_below r1 HB.out hbk, range_below r2 HB.out hbk⟩)
    have HBK0 := Lib.hid (show w.heap.size < w1.heap.size ∧ bk < w1.heap.size from ⟨blk_lt HP.out, Nat.lt_of_lt_of_le hbk HB.out.size⟩)
    have M := Lib.hid (show Below w.heap.size w w1 ∧ RowAt w1 (w.heap.size + 1) .u8 32 43 (fun _ => 0) from ⟨HB.out, HR.out⟩)
    have c0 := (r_cells (show w1.heap[w.heap.size]? = some (.cells #[.bool true, .string eBA, .string eBA, .slice (some ⟨bk, 0, none⟩) 2 2] 29 (0, 0)) from HP.out)).1
    have c3 := HSX.out.1
    clear he hz hm hbk r1 r2 tx ty HB HP HR
    go_enter Tryd.func16, Tryd.ntmps16
    go_upto_region 1 with (fail)
    rw [zeros32]
    rw [← hw1]
    replace hw1 := Lib.hid hw1
    go_upto_region 5 with (fail)
    go_cut [3, 4] (fun p3 p4 wx => ∃ g3 g4, p3 = .pointer (some ⟨g3, 0, none⟩) ∧ p4 = .pointer (some ⟨g4, 0, none⟩) ∧ Hid (RtM w wx cx cy x y g3 g4))
    case first =>
      refine wp_region_T (fun w' => w'.cell? ⟨w.heap.size, 3, none⟩ = some (.slice (some ⟨bk, 0, none⟩) 2 2) ∧ w'.rangeAt bk 0 cx.toList ∧ w'.rangeAt bk 4 cy.toList) [1, 2, 3, 5, 6, 7, 8, 9, 10] (by kernel_rfl) ?_
      replace M := Lib.hid (show Below w.heap.size w w1.drew ∧ RowAt w1.drew (w.heap.size + 1) .u8 32 43 (fun _ => 0) from ⟨M.out.1.drew, M.out.2⟩)
      replace HXY := Lib.hid (show RT w1.drew cx x ∧ RT w1.drew cy y from ⟨HXY.out.1.below (Below.refl _ _).drew, HXY.out.2.below (Below.refl _ _).drew⟩)
      replace HSX := Lib.hid (show w1.drew.cell? ⟨w.heap.size, 3, none⟩ = some (.slice (some ⟨bk, 0, none⟩) 2 2) ∧ w1.drew.rangeAt bk 0 cx.toList ∧ w1.drew.rangeAt bk 4 cy.toList from HSX.out)
      have HBK := Lib.hid (show w.heap.size < w1.drew.heap.size ∧ bk < w1.drew.heap.size from HBK0.out)
      generalize w1.drew = w5 at *
      have HKX : Hid (∀ u : World, Below w5.heap.size w5 u → u.cell? ⟨w.heap.size, 3, none⟩ = some (.slice (some ⟨bk, 0, none⟩) 2 2) ∧ u.rangeAt bk 0 cx.toList ∧ u.rangeAt bk 4 cy.toList) := Lib.hid fun u hb => ⟨(hb.cell (p := ⟨w.heap.size, 3, none⟩) HBK.out.1).trans HSX.out.1, range_below HSX.out.2.1 hb HBK.out.2, range_below HSX.out.2.2 hb HBK.out.2⟩
      refine anyT_takeY (i := 0) (v := .pointer (some ⟨w.heap.size, 3, none⟩)) rfl (by kernel_rfl) (by kernel_rfl) (by kernel_rfl) (fun _ _ _ h => h) (by kernel_rfl) (Or.inl ⟨by rfl, by intro w; go_simp⟩) ?_
      try simp only [List.getElem_toArray, List.getElem_cons_succ, List.getElem_cons_zero, Act.put, List.setIfInBounds_toArray, List.set_cons_zero, List.set_cons_succ]
      refine anyT_takeY (i := 4) (v := .pointer (some ⟨w.heap.size, 3, none⟩)) rfl (by kernel_rfl) (by kernel_rfl) (by kernel_rfl) (fun _ _ _ h => h) (by kernel_rfl) (Or.inl ⟨by rfl, by intro w; go_simp⟩) ?_
      try simp only [List.getElem_toArray, List.getElem_cons_succ, List.getElem_cons_zero, Act.put, List.setIfInBounds_toArray, List.set_cons_zero, List.set_cons_succ]
      refine anyT_take [2, 3, 10, 11] (i := 1) (v := .slice (some ⟨bk, 0, none⟩) 2 2) rfl (by kernel_rfl) (by kernel_rfl) (by kernel_rfl) (fun _ _ _ h => h) (by kernel_rfl) (Or.inl ⟨by rfl, fun w' hS => by have c := hS.1; go_simp⟩) HSX.out ?_
      try simp only [List.getElem_toArray, List.getElem_cons_succ, List.getElem_cons_zero, Act.put, List.setIfInBounds_toArray, List.set_cons_zero, List.set_cons_succ]
      refine anyT_take [3, 10, 11] (i := 2) (v := .pointer (some ⟨bk, 0, none⟩)) rfl (by kernel_rfl) (by kernel_rfl) (by kernel_rfl) (fun _ _ _ h => h) (by kernel_rfl) (Or.inl ⟨by rfl, fun w' _ => by go_simp⟩) HSX.out ?_
      try simp only [List.getElem_toArray, List.getElem_cons_succ, List.getElem_cons_zero, Act.put, List.setIfInBounds_toArray, List.set_cons_zero, List.set_cons_succ]
      refine anyT_take [10, 11] (i := 3) (v := .agg cx) rfl (by kernel_rfl) (by kernel_rfl) (by kernel_rfl) (fun _ _ _ h => h) (by kernel_rfl) (agg_mid (by rfl) 29 (.tmp 20) rfl bk 0 rfl _ _ (fun _ h => h.2.1) Tryd.underlying29 rfl (by rw [HZX.out]; kernel_rfl)) HSX.out ?_
      try simp only [List.getElem_toArray, List.getElem_cons_succ, List.getElem_cons_zero, Act.put, List.setIfInBounds_toArray, List.set_cons_zero, List.set_cons_succ]
      refine anyT_take [6, 7, 11] (i := 5) (v := .slice (some ⟨bk, 0, none⟩) 2 2) rfl (by kernel_rfl) (by kernel_rfl) (by kernel_rfl) (fun _ _ _ h => h) (by kernel_rfl) (Or.inl ⟨by rfl, fun w' hS => by have c := hS.1; go_simp⟩) HSX.out ?_
      try simp only [List.getElem_toArray, List.getElem_cons_succ, List.getElem_cons_zero, Act.put, List.setIfInBounds_toArray, List.set_cons_zero, List.set_cons_succ]
      refine anyT_take [7, 11] (i := 6) (v := .pointer (some ⟨bk, 4, none⟩)) rfl (by kernel_rfl) (by kernel_rfl) (by kernel_rfl) (fun _ _ _ h => h) (by kernel_rfl) (Or.inl ⟨by rfl, fun w' _ => by go_simp⟩) HSX.out ?_
      try simp only [List.getElem_toArray, List.getElem_cons_succ, List.getElem_cons_zero, Act.put, List.setIfInBounds_toArray, List.set_cons_zero, List.set_cons_succ]
      refine anyT_take [11] (i := 7) (v := .agg cy) rfl (by kernel_rfl) (by kernel_rfl) (by kernel_rfl) (fun _ _ _ h => h) (by kernel_rfl) (agg_mid (by rfl) 29 (.tmp 24) rfl bk 4 rfl _ _ (fun _ h => h.2.2) Tryd.underlying29 rfl (by rw [HZY.out]; kernel_rfl)) HSX.out ?_
      try simp only [List.getElem_toArray, List.getElem_cons_succ, List.getElem_cons_zero, Act.put, List.setIfInBounds_toArray, List.set_cons_zero, List.set_cons_succ]
      refine anyT_ready (rs := [8, 9]) (by kernel_rfl) (by simp) ?_
      refine readyT_cons rfl (fun K hK => ?_) (readyT_cons rfl (fun K hK => ?_) readyT_nil)
      · rw [if_pos (by rfl)]
        try simp only [List.getElem_toArray, List.getElem_cons_succ, List.getElem_cons_zero]
        (go_simp)
        refine hK _ _ (fun _ => HKX.out _ (below_alloc w5 _)) ?_
        clear hK K
        try simp only [List.getElem_toArray, List.getElem_cons_succ, List.getElem_cons_zero, Act.put, List.setIfInBounds_toArray, List.set_cons_zero, List.set_cons_succ]
        refine anyT_one (i := 9) (by kernel_rfl) rfl (fun K hK => ?_)
        rw [if_pos (by rfl)]
        try simp only [List.getElem_toArray, List.getElem_cons_succ, List.getElem_cons_zero]
        (go_simp)
        refine hK _ _ (fun _ => HKX.out _ (al2_at w5).2.2) ?_
        clear hK K
        try simp only [List.getElem_toArray, List.getElem_cons_succ, List.getElem_cons_zero, Act.put, List.setIfInBounds_toArray, List.set_cons_zero, List.set_cons_succ]
        have HSE := Lib.hid (al2_set w5 w5.heap.size (w5.heap.size + 1) cx cy (.inl ⟨rfl, rfl⟩))
        refine anyT_one (i := 10) (by kernel_rfl) rfl (fun K hK => ?_)
        rw [if_pos (by rfl)]
        try simp only [List.getElem_toArray, List.getElem_cons_succ, List.getElem_cons_zero]
        (refine wp_store_row 29 (.tmp 3) (.tmp 21) rfl w5.heap.size cx rfl rfl 29 _ (al2_at w5).1 (by rw [HZX.out]; kernel_rfl) (by rw [HZX.out]; rfl) HOX.out ?_)
        refine hK _ _ (fun _ => HKX.out _ (below_setRow (al2_at w5).2.2 (by omega) _)) ?_
        clear hK K
        try simp only [List.getElem_toArray, List.getElem_cons_succ, List.getElem_cons_zero, Act.put, List.setIfInBounds_toArray, List.set_cons_zero, List.set_cons_succ]
        refine anyT_one (i := 11) (by kernel_rfl) rfl (fun K hK => ?_)
        rw [if_pos (by rfl)]
        try simp only [List.getElem_toArray, List.getElem_cons_succ, List.getElem_cons_zero]
        (refine wp_store_row 29 (.tmp 4) (.tmp 25) rfl (w5.heap.size + 1) cy rfl rfl 29 _ HSE.out.1 (by rw [HZY.out]; kernel_rfl) (by rw [HZY.out]; rfl) HOY.out ?_)
        refine hK _ _ (not_mem rfl) ?_
        clear hK K
        try simp only [List.getElem_toArray, List.getElem_cons_succ, List.getElem_cons_zero, Act.put, List.setIfInBounds_toArray, List.set_cons_zero, List.set_cons_succ]
        refine anyT_done (by kernel_rfl) ?_ _
        go_wp2_with (fail)
        go_meet
        exact ⟨w5.heap.size, (w5.heap.size + 1), rfl, rfl, Lib.hid ⟨M.out.1.trans (HSE.out.2.2.2.mono M.out.1.size), M.out.2.below HSE.out.2.2.2 M.out.2.lt, HSE.out.2.1, HSE.out.2.2.1, HXY.out.1.below HSE.out.2.2.2, HXY.out.2.below HSE.out.2.2.2⟩⟩
      · rw [if_pos (by rfl)]
        try simp only [List.getElem_toArray, List.getElem_cons_succ, List.getElem_cons_zero]
        (go_simp)
        refine hK _ _ (fun _ => HKX.out _ (below_alloc w5 _)) ?_
        clear hK K
        try simp only [List.getElem_toArray, List.getElem_cons_succ, List.getElem_cons_zero, Act.put, List.setIfInBounds_toArray, List.set_cons_zero, List.set_cons_succ]
        refine anyT_one (i := 8) (by kernel_rfl) rfl (fun K hK => ?_)
        rw [if_pos (by rfl)]
        try simp only [List.getElem_toArray, List.getElem_cons_succ, List.getElem_cons_zero]
        (go_simp)
        refine hK _ _ (fun _ => HKX.out _ (al2_at w5).2.2) ?_
        clear hK K
        try simp only [List.getElem_toArray, List.getElem_cons_succ, List.getElem_cons_zero, Act.put, List.setIfInBounds_toArray, List.set_cons_zero, List.set_cons_succ]
        have HSE := Lib.hid (al2_set w5 (w5.heap.size + 1) w5.heap.size cx cy (.inr ⟨rfl, rfl⟩))
        refine anyT_one (i := 10) (by kernel_rfl) rfl (fun K hK => ?_)
        rw [if_pos (by rfl)]
        try simp only [List.getElem_toArray, List.getElem_cons_succ, List.getElem_cons_zero]
        (refine wp_store_row 29 (.tmp 3) (.tmp 21) rfl (w5.heap.size + 1) cx rfl rfl 29 _ (al2_at w5).2.1 (by rw [HZX.out]; kernel_rfl) (by rw [HZX.out]; rfl) HOX.out ?_)
        refine hK _ _ (fun _ => HKX.out _ (below_setRow (al2_at w5).2.2 (by omega) _)) ?_
        clear hK K
        try simp only [List.getElem_toArray, List.getElem_cons_succ, List.getElem_cons_zero, Act.put, List.setIfInBounds_toArray, List.set_cons_zero, List.set_cons_succ]
        refine anyT_one (i := 11) (by kernel_rfl) rfl (fun K hK => ?_)
        rw [if_pos (by rfl)]
        try simp only [List.getElem_toArray, List.getElem_cons_succ, List.getElem_cons_zero]
        (refine wp_store_row 29 (.tmp 4) (.tmp 25) rfl w5.heap.size cy rfl rfl 29 _ HSE.out.1 (by rw [HZY.out]; kernel_rfl) (by rw [HZY.out]; rfl) HOY.out ?_)
        refine hK _ _ (not_mem rfl) ?_
        clear hK K
        try simp only [List.getElem_toArray, List.getElem_cons_succ, List.getElem_cons_zero, Act.put, List.setIfInBounds_toArray, List.set_cons_zero, List.set_cons_succ]
        refine anyT_done (by kernel_rfl) ?_ _
        go_wp2_with (fail)
        go_meet
        exact ⟨(w5.heap.size + 1), w5.heap.size, rfl, rfl, Lib.hid ⟨M.out.1.trans (HSE.out.2.2.2.mono M.out.1.size), M.out.2.below HSE.out.2.2.2 M.out.2.lt, HSE.out.2.1, HSE.out.2.2.1, HXY.out.1.below HSE.out.2.2.2, HXY.out.2.below HSE.out.2.2.2⟩⟩
    case rest =>
      clear M HXY HSX HBK0 c0 c3
      obtain ⟨g3, g4, rfl, rfl, M⟩ := hcut
      go_upto_region 6 with (fail)
      refine wp_region_T (fun w' => w'.rangeAt g3 0 cx.toList ∧ w'.rangeAt g4 0 cy.toList) [0, 1, 2, 3, 4, 5, 6, 7, 8, 9] (by kernel_rfl) ?_
      replace M := Lib.hid (M.out.call (Below.refl _ _).drew)
      generalize wc.drew = w5 at *
      refine anyT_take [1, 2, 4, 6, 7, 9, 10, 11] (i := 0) (v := .agg cx) rfl (by kernel_rfl) (by kernel_rfl) (by kernel_rfl) (fun _ _ _ h => h) (by kernel_rfl) (agg_mid (by rfl) 29 (.tmp 3) rfl g3 0 rfl _ _ (fun _ h => h.1) Tryd.underlying29 rfl (by rw [HZX.out]; kernel_rfl)) ⟨range_of M.out.h3, range_of M.out.h4⟩ ?_
      try simp only [List.getElem_toArray, List.getElem_cons_succ, List.getElem_cons_zero, Act.put, List.setIfInBounds_toArray, List.set_cons_zero, List.set_cons_succ]
      refine anyT_take [4, 6, 7, 9, 10, 11] (i := 3) (v := .agg cx) rfl (by kernel_rfl) (by kernel_rfl) (by kernel_rfl) (fun _ _ _ h => h) (by kernel_rfl) (agg_mid (by rfl) 29 (.tmp 3) rfl g3 0 rfl _ _ (fun _ h => h.1) Tryd.underlying29 rfl (by rw [HZX.out]; kernel_rfl)) ⟨range_of M.out.h3, range_of M.out.h4⟩ ?_
      try simp only [List.getElem_toArray, List.getElem_cons_succ, List.getElem_cons_zero, Act.put, List.setIfInBounds_toArray, List.set_cons_zero, List.set_cons_succ]
      refine anyT_take [6, 7, 9, 10, 11] (i := 5) (v := .agg cy) rfl (by kernel_rfl) (by kernel_rfl) (by kernel_rfl) (fun _ _ _ h => h) (by kernel_rfl) (agg_mid (by rfl) 29 (.tmp 4) rfl g4 0 rfl _ _ (fun _ h => h.2) Tryd.underlying29 rfl (by rw [HZY.out]; kernel_rfl)) ⟨range_of M.out.h3, range_of M.out.h4⟩ ?_
      try simp only [List.getElem_toArray, List.getElem_cons_succ, List.getElem_cons_zero, Act.put, List.setIfInBounds_toArray, List.set_cons_zero, List.set_cons_succ]
      refine anyT_take [9, 10, 11] (i := 8) (v := .agg cy) rfl (by kernel_rfl) (by kernel_rfl) (by kernel_rfl) (fun _ _ _ h => h) (by kernel_rfl) (agg_mid (by rfl) 29 (.tmp 4) rfl g4 0 rfl _ _ (fun _ h => h.2) Tryd.underlying29 rfl (by rw [HZY.out]; kernel_rfl)) ⟨range_of M.out.h3, range_of M.out.h4⟩ ?_
      try simp only [List.getElem_toArray, List.getElem_cons_succ, List.getElem_cons_zero, Act.put, List.setIfInBounds_toArray, List.set_cons_zero, List.set_cons_succ]
      refine anyT_one (i := 1) (by kernel_rfl) rfl (fun K hK => ?_)
      rw [if_pos (by rfl)]
      try simp only [List.getElem_toArray, List.getElem_cons_succ, List.getElem_cons_zero]
      (go_simp; refine (HPA.out _ M.out.ta).mono ?_; rintro e w6 ⟨r6, rfl, ho, hb⟩; obtain ⟨a6, c6, rfl⟩ := (KVIn.of_own ho).len; replace M := Lib.hid (M.out.call hb); clear ho hb)
      refine hK _ _ (fun _ => ⟨range_of M.out.h3, range_of M.out.h4⟩) ?_
      clear hK K
      try simp only [List.getElem_toArray, List.getElem_cons_succ, List.getElem_cons_zero, Act.put, List.setIfInBounds_toArray, List.set_cons_zero, List.set_cons_succ]
      refine anyT_take [10, 11] (i := 2) (v := .int .i64 (LA.length : Int)) rfl (by kernel_rfl) (by kernel_rfl) (by kernel_rfl) (fun _ _ _ h => h) (by kernel_rfl) (Or.inl ⟨by rfl, fun w' _ => by go_simp⟩) ⟨range_of M.out.h3, range_of M.out.h4⟩ ?_
      try simp only [List.getElem_toArray, List.getElem_cons_succ, List.getElem_cons_zero, Act.put, List.setIfInBounds_toArray, List.set_cons_zero, List.set_cons_succ]
      refine anyT_one (i := 4) (by kernel_rfl) rfl (fun K hK => ?_)
      rw [if_pos (by rfl)]
      try simp only [List.getElem_toArray, List.getElem_cons_succ, List.getElem_cons_zero]
      (go_simp; refine (HIA.out _ (HE.out.below M.out.below HE.out.lt) M.out.ta).mono ?_; rintro e w7 ⟨rfl, hb⟩; replace M := Lib.hid (M.out.call hb); clear hb)
      refine hK _ _ (fun _ => ⟨range_of M.out.h3, range_of M.out.h4⟩) ?_
      clear hK K
      try simp only [List.getElem_toArray, List.getElem_cons_succ, List.getElem_cons_zero, Act.put, List.setIfInBounds_toArray, List.set_cons_zero, List.set_cons_succ]
      refine anyT_one (i := 6) (by kernel_rfl) rfl (fun K hK => ?_)
      rw [if_pos (by rfl)]
      try simp only [List.getElem_toArray, List.getElem_cons_succ, List.getElem_cons_zero]
      (go_simp; refine (HPB.out _ M.out.tb).mono ?_; rintro e w8 ⟨r8, rfl, ho, hb⟩; obtain ⟨a8, c8, rfl⟩ := (KVIn.of_own ho).len; replace M := Lib.hid (M.out.call hb); clear ho hb)
      refine hK _ _ (fun _ => ⟨range_of M.out.h3, range_of M.out.h4⟩) ?_
      clear hK K
      try simp only [List.getElem_toArray, List.getElem_cons_succ, List.getElem_cons_zero, Act.put, List.setIfInBounds_toArray, List.set_cons_zero, List.set_cons_succ]
      refine anyT_take [10, 11] (i := 7) (v := .int .i64 (LB.length : Int)) rfl (by kernel_rfl) (by kernel_rfl) (by kernel_rfl) (fun _ _ _ h => h) (by kernel_rfl) (Or.inl ⟨by rfl, fun w' _ => by go_simp⟩) ⟨range_of M.out.h3, range_of M.out.h4⟩ ?_
      try simp only [List.getElem_toArray, List.getElem_cons_succ, List.getElem_cons_zero, Act.put, List.setIfInBounds_toArray, List.set_cons_zero, List.set_cons_succ]
      refine anyT_one (i := 9) (by kernel_rfl) rfl (fun K hK => ?_)
      rw [if_pos (by rfl)]
      try simp only [List.getElem_toArray, List.getElem_cons_succ, List.getElem_cons_zero]
      (go_simp; refine (HIB.out _ (HE.out.below M.out.below HE.out.lt) M.out.tb).mono ?_; rintro e w9 ⟨rfl, hb⟩; replace M := Lib.hid (M.out.call hb); clear hb)
      refine hK _ _ (fun _ => ⟨range_of M.out.h3, range_of M.out.h4⟩) ?_
      clear hK K
      try simp only [List.getElem_toArray, List.getElem_cons_succ, List.getElem_cons_zero, Act.put, List.setIfInBounds_toArray, List.set_cons_zero, List.set_cons_succ]
      refine anyT_one (i := 10) (by kernel_rfl) rfl (fun K hK => ?_)
      rw [if_pos (by rfl)]
      try simp only [List.getElem_toArray, List.getElem_cons_succ, List.getElem_cons_zero]
      (go_simp; refine (rNode_any (LA.length : Int) (LB.length : Int) x.root y.root _ (HE.out.below M.out.below HE.out.lt)).mono ?_; rintro e w10 ⟨rfl, hb⟩; replace M := Lib.hid (M.out.call hb); clear hb)
      refine hK _ _ (not_mem rfl) ?_
      clear hK K
      try simp only [List.getElem_toArray, List.getElem_cons_succ, List.getElem_cons_zero, Act.put, List.setIfInBounds_toArray, List.set_cons_zero, List.set_cons_succ]
      refine anyT_one (i := 11) (by kernel_rfl) rfl (fun K hK => ?_)
      rw [if_pos (by rfl)]
      try simp only [List.getElem_toArray, List.getElem_cons_succ, List.getElem_cons_zero]
      (refine wp_store_row 43 (.tmp 2) (.tmp 36) rfl (w.heap.size + 1) _ rfl rfl 43 _ M.out.res (by rw [rowOf_size]; kernel_rfl) (by rw [rowOf_size, rowOf_size]) (rowOf_one _ _ _) ?_)
      refine hK _ _ (not_mem rfl) ?_
      clear hK K
      try simp only [List.getElem_toArray, List.getElem_cons_succ, List.getElem_cons_zero, Act.put, List.setIfInBounds_toArray, List.set_cons_zero, List.set_cons_succ]
      refine anyT_done (by kernel_rfl) ?_ _
      go_wp2_with (fail)
      refine bodyPost_ret (results_cell_row rfl _ _ (w.heap.size + 1) 43 _ (0, 0) _ rfl (setRow_heap _ _ _ _ _ _ M.out.res) Tryd.underlying43 rfl (by rw [rowOf_size]; kernel_rfl)) rfl ?_
      exact ⟨by rw [HFI.out], below_setRow M.out.below (by omega) _⟩
theorem rRoot_any (t : Option AvT) (cs : Array Value) (w : World) (he : Env w) (h : RO w cs t) (hm : manyO t ≤ 1048576) (hz : ∀ p ∈ pairsO t, p.1.size + p.2.size ≤ 1048576) : Calls Tryd.prog 16 #[.agg cs] w fun e w' => e = .returned (.agg (rowOf .u8 32 (rootO t))) ∧ Below w.heap.size w w' := by
  cases t with
  | none => cases h; exact rRoot_none w
  | some t => exact rRoot_some t cs w he h hm hz
end Go.Proofs.YtadolfacjolbkaaDoor
