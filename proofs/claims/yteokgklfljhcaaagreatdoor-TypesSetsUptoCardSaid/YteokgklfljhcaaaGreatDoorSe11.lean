/- Part 11 of the proof. -/
import Derived.Test.YteokgklfljhcaaaGreatDoorSe2
import Derived.Test.YteokgklfljhcaaaGreatDoorSe10
namespace Go.Proofs.YteokgklfljhcaaaGreatDoor
set_option linter.unusedVariables false
set_option linter.unusedSimpArgs false
open Go.RowKit
set_option maxRecDepth 100000
def RpPostO (v : Value) (r : List Int × RSt) (w : World) (e : Ending) (w' : World) : Prop :=
  ∃ v' vb, e = .returned (.tuple #[.agg (rdC v' (numE r.2.2)), vb]) ∧ BytesIn w' v' r.2.1 ∧ BytesIn w' vb r.1 ∧ v'.ownBlock = v.ownBlock ∧ (∀ j, vb.ownBlock = some j → w.heap.size ≤ j ∧ j < w'.heap.size) ∧ Below w.heap.size w w'
set_option maxHeartbeats 2000000 in
theorem rrbytesO_any (v : Value) (ys : List Int) (e : Option Nat) (he : e ≠ some 0) (most : Nat) (hm : most ≤ 1048576) (w : World) (hy : BytesIn w v ys) (hb : bytesOk ys) (hl : ys.length ≤ 140737488351232) : Calls Tryz.prog 123 #[.agg (rdC v (numE e)), .int .i64 (most : Int)] w (RpPostO v (partS (ys, e) (most : Int)) w) := by
  obtain ⟨a, c, rfl, -⟩ := id hy
  have M := Lib.hid (r2M_start w (.slice a ys.length c) (numE e))
  have HY := Lib.hid hy
  have h0 := uintS_no0 (ys, e) 18446744073709551615 he
  obtain ⟨hzb, hzl⟩ := uintS_ok (ys, e) 18446744073709551615 hb
  have hPe : ∀ x, e = some x → uintS (ys, e) 18446744073709551615 = (0, ys, some x) := fun x h => by subst h; rfl
  have hPS : partS (ys, e) (most : Int) = match (uintS (ys, e) 18446744073709551615).2.2 with
      | some x => ([], ys, some x)
      | none => if most < (uintS (ys, e) 18446744073709551615).1 then ([], ys, some 2) else if (uintS (ys, e) 18446744073709551615).2.1.length < (uintS (ys, e) 18446744073709551615).1 then ([], ys, some 12)
        else ((uintS (ys, e) 18446744073709551615).2.1.take (uintS (ys, e) 18446744073709551615).1, (uintS (ys, e) 18446744073709551615).2.1.drop (uintS (ys, e) 18446744073709551615).1, none) := by
    cases e with
    | some x => rfl
    | none =>
      unfold partS
      simp only
      rw [if_neg (by omega)]
      cases hr : (rdF ys 18446744073709551615).2.2 with
      | some x => rw [uintS_bad hr]
      | none =>
        rw [uintS_good hr]
        simp only [List.length_drop]
        by_cases h1 : most < (rdF ys 18446744073709551615).1
        · rw [if_pos h1, if_pos (by omega)]
        · rw [if_neg h1, if_neg (by omega)]
  have HU0 := Lib.hid (show ∀ w, BytesIn w (.slice a ys.length c) ys → Calls Tryz.prog 159 #[.agg (rdC (.slice a ys.length c) (numE e)), .int .u64 18446744073709551615] w (RuPostO (.slice a ys.length c) (uintS (ys, e) 18446744073709551615) w) from fun w h => ruintO2_any _ ys e he 18446744073709551615 (by decide) w h hb (by omega))
  obtain ⟨n, zs, ue, hU⟩ : ∃ n zs ue, uintS (ys, e) 18446744073709551615 = (n, zs, ue) := ⟨_, _, _, rfl⟩
  rw [hU] at h0 hzb hzl hPS HU0 hPe
  simp only at h0 hzb hzl hPS
  have HU := Lib.hid (show ∀ w, BytesIn w (.slice a ys.length c) ys → Calls Tryz.prog 159 #[.agg (rdC (.slice a ys.length c) (numE e)), .int .u64 18446744073709551615] w fun r w' => ∃ v', r = .returned (.tuple #[.agg (rdC v' (numE ue)), .int .u64 (n : Int)]) ∧ BytesIn w' v' zs ∧ v'.ownBlock = (Value.slice a ys.length c).ownBlock ∧ Below w.heap.size w w' from HU0.out)
  have HPS := Lib.hid hPS
  have HF := Lib.hid (show ∀ (x : Int) w, Calls Tryz.prog 160 #[.agg (rdC (.slice a ys.length c) (numE e)), .int .i64 x] w fun r w' => r = .returned (.agg (rdC (.slice a ys.length c) (if numE e = 0 then x else numE e))) ∧ Below w.heap.size w w' from fun x w => rfail_any a ys.length c (numE e) x w)
  have hmI : (0 : Int) ≤ most := by omega
  have hmI2 : (most : Int) ≤ 1048576 := by omega
  have hzI : (zs.length : Int) ≤ 140737488351232 := by omega
  have HNN := Lib.hid (uintS_le2 (ys, e) 18446744073709551615)
  rw [hU] at HNN
  clear hy hb hPS hU HU0
  cases ue with
  | some x =>
    have hx0 : ((x : Int) != 0) = true := by simp; intro h; exact h0 (by rw [h])
    have HXE := Lib.hid (show (if numE e = 0 then (x : Int) else numE e) = (x : Int) by
      rcases numE_ne he with rfl | ⟨y, rfl, hy, hy0⟩
      · rfl
      · have h := hPe y rfl
        injection h with _ h; injection h with _ h
        injection h with h
        rw [if_neg (by omega), hy, h])
    rw [show numE (some x) = (x : Int) from rfl] at HU
    clear h0 he hPe
    have HFX := Lib.hid (show ∀ w, Calls Tryz.prog 160 #[.agg (rdC (.slice a ys.length c) (numE e)), .int .i64 (x : Int)] w fun r w' => r = .returned (.agg (rdC (.slice a ys.length c) (x : Int))) ∧ Below w.heap.size w w' from fun w => by
      have h := HF.out x w
      rw [HXE.out] at h
      exact h)
    obtain ⟨en, hen⟩ : ∃ en, en = numE e := ⟨_, rfl⟩
    rw [← hen] at HU HFX M ⊢
    clear HF HXE
    clear hen
    go_enter Tryz.func123, Tryz.ntmps123
    go_upto_region 1 with (fail)
    rw [← r2_zero]
    generalize (w.alloc (.cells (rdC (.slice a ys.length c) en) 104)).alloc (.cells (rdC (.slice none 0 0) 0) 104) = w1 at *
    go_wp2_with (first
      | (refine wpList_load_row rfl 104 (.tmp 2) rfl w.heap.size rfl 104 _ (0, 0) _ M.out.arg Tryz.underlying104 rfl (by kernel_rfl) ?_)
      | (go_at_call 159; (with_reducible refine (HU.out _ (HY.out.below M.out.below)).mono ?_); rintro e w2 ⟨v2, rfl, hx, how, hb⟩; obtain ⟨a2, c2, rfl, hc2, -⟩ := id hx; have HOW := Lib.hid how; replace M := Lib.hid (M.out.call hb); have HZ := Lib.hid hx; have HC2 := Lib.hid hc2; clear hx hb hc2 how)
      | (refine wpList_store_row rfl 104 (.tmp 6) (.tmp 16) rfl w2.heap.size (rdC (.slice a2 zs.length c2) (x : Int)) rfl rfl 104 _ (heap_alloc_new _ _) (by kernel_rfl) (by rfl) (rd_one _ _ _ _) ?_; rw [World.setRow_alloc_new]; have HA := Lib.hid (below_alloc w2 (.cells (rdC (.slice a2 zs.length c2) (x : Int)) 104)); have T6 := Lib.hid (heap_alloc_new w2 (.cells (rdC (.slice a2 zs.length c2) (x : Int)) 104)); have HG := Lib.hid (show w.heap.size + 2 ≤ w2.heap.size by have := (Array.getElem?_eq_some_iff.1 M.out.res).1; omega); replace M := Lib.hid (M.out.call HA.out); replace HZ := Lib.hid (HZ.out.below HA.out); clear HA; generalize w2.heap.size = q at *; generalize w2.alloc (.cells (rdC (.slice a2 zs.length c2) (x : Int)) 104) = w3 at *; obtain ⟨t0, t1, tf⟩ := rd_cells T6.out)
      | (go_at_call 160; (with_reducible refine (HFX.out _).mono ?_); rintro e w4 ⟨rfl, hb⟩; replace M := Lib.hid (M.out.call hb); clear hb)
      | (refine wpList_store_row rfl 104 (.tmp 4) (.tmp 25) rfl (w.heap.size + 1) _ rfl rfl 104 _ M.out.res (by kernel_rfl) (by rfl) (rd_one _ _ _ _) ?_))
    refine bodyPost_ret (results_cell_tmp_row rfl _ _ (w.heap.size + 1) 104 (rdC _ (x : Int)) (0, 0) _ rfl (setRow_heap _ _ _ _ _ _ M.out.res) Tryz.underlying104 rfl (by kernel_rfl)) rfl ?_
    rw [HPS.out]
    exact ⟨_, _, rfl, HY.out.below (below_setRow M.out.below (Nat.le_succ _) _), nil_in _, rfl, (fun j h => by cases h), below_setRow M.out.below (Nat.le_succ _) _⟩
  | none =>
    have hen : e = none := by
      rcases numE_ne he with h | ⟨y, h, -, -⟩
      · exact h
      · have h2 := hPe y h
        injection h2 with _ h2; injection h2 with _ h2; cases h2
    subst hen
    rw [show numE none = 0 from rfl] at *
    simp only [if_true] at HF
    clear h0 he hPe
    by_cases h1 : most < n
    · rw [if_pos h1] at HPS
      have q1 : decide ((most : Int) < (n : Int)) = true := by simp; omega
      have q2 : decide (most < n) = true := by simpa using h1
      clear h1
      go_enter Tryz.func123, Tryz.ntmps123
      go_upto_region 1 with (fail)
      rw [← r2_zero]
      generalize (w.alloc (.cells (rdC (.slice a ys.length c) 0) 104)).alloc (.cells (rdC (.slice none 0 0) 0) 104) = w1 at *
      go_wp2_with (first
        | (refine wpList_load_row rfl 104 (.tmp 2) rfl w.heap.size rfl 104 _ (0, 0) _ M.out.arg Tryz.underlying104 rfl (by kernel_rfl) ?_)
        | (go_at_call 159; (with_reducible refine (HU.out _ (HY.out.below M.out.below)).mono ?_); rintro e w2 ⟨v2, rfl, hx, how, hb⟩; obtain ⟨a2, c2, rfl, hc2, -⟩ := id hx; have HOW := Lib.hid how; replace M := Lib.hid (M.out.call hb); have HZ := Lib.hid hx; have HC2 := Lib.hid hc2; clear hx hb hc2 how)
        | (refine wpList_store_row rfl 104 (.tmp 6) (.tmp 16) rfl w2.heap.size (rdC (.slice a2 zs.length c2) 0) rfl rfl 104 _ (heap_alloc_new _ _) (by kernel_rfl) (by rfl) (rd_one _ _ _ _) ?_; rw [World.setRow_alloc_new]; have HA := Lib.hid (below_alloc w2 (.cells (rdC (.slice a2 zs.length c2) 0) 104)); have T6 := Lib.hid (heap_alloc_new w2 (.cells (rdC (.slice a2 zs.length c2) 0) 104)); have HG := Lib.hid (show w.heap.size + 2 ≤ w2.heap.size by have := (Array.getElem?_eq_some_iff.1 M.out.res).1; omega); replace M := Lib.hid (M.out.call HA.out); replace HZ := Lib.hid (HZ.out.below HA.out); clear HA; generalize w2.heap.size = q at *; generalize w2.alloc (.cells (rdC (.slice a2 zs.length c2) 0) 104) = w3 at *; obtain ⟨t0, t1, tf⟩ := rd_cells T6.out)
        | (go_at_call 160; (with_reducible refine (HF.out _ _).mono ?_); rintro e w4 ⟨rfl, hb⟩; replace M := Lib.hid (M.out.call hb); clear hb)
        | (refine wpList_store_row rfl 104 (.tmp 4) (.tmp 32) rfl (w.heap.size + 1) _ rfl rfl 104 _ M.out.res (by kernel_rfl) (by rfl) (rd_one _ _ _ _) ?_))
      refine bodyPost_ret (results_cell_tmp_row rfl _ _ (w.heap.size + 1) 104 (rdC _ 2) (0, 0) _ rfl (setRow_heap _ _ _ _ _ _ M.out.res) Tryz.underlying104 rfl (by kernel_rfl)) rfl ?_
      rw [HPS.out]
      exact ⟨_, _, rfl, HY.out.below (below_setRow M.out.below (Nat.le_succ _) _), nil_in _, rfl, (fun j h => by cases h), below_setRow M.out.below (Nat.le_succ _) _⟩
    · rw [if_neg h1] at HPS
      have q1 : decide ((most : Int) < (n : Int)) = false := by simp; omega
      have q2 : decide (most < n) = false := by simpa using h1
      have hnI : (n : Int) ≤ 1048576 := by omega
      by_cases h2 : zs.length < n
      · rw [if_pos h2] at HPS
        have q3 : decide ((zs.length : Int) < (n : Int)) = true := by simp; omega
        have q4 : decide (zs.length < n) = true := by simpa using h2
        clear h1 h2
        go_enter Tryz.func123, Tryz.ntmps123
        go_upto_region 1 with (fail)
        rw [← r2_zero]
        generalize (w.alloc (.cells (rdC (.slice a ys.length c) 0) 104)).alloc (.cells (rdC (.slice none 0 0) 0) 104) = w1 at *
        go_wp2_with (first
          | (refine wpList_load_row rfl 104 (.tmp 2) rfl w.heap.size rfl 104 _ (0, 0) _ M.out.arg Tryz.underlying104 rfl (by kernel_rfl) ?_)
          | (go_at_call 159; (with_reducible refine (HU.out _ (HY.out.below M.out.below)).mono ?_); rintro e w2 ⟨v2, rfl, hx, how, hb⟩; obtain ⟨a2, c2, rfl, hc2, -⟩ := id hx; have HOW := Lib.hid how; replace M := Lib.hid (M.out.call hb); have HZ := Lib.hid hx; have HC2 := Lib.hid hc2; clear hx hb hc2 how)
          | (refine wpList_store_row rfl 104 (.tmp 6) (.tmp 16) rfl w2.heap.size (rdC (.slice a2 zs.length c2) 0) rfl rfl 104 _ (heap_alloc_new _ _) (by kernel_rfl) (by rfl) (rd_one _ _ _ _) ?_; rw [World.setRow_alloc_new]; have HA := Lib.hid (below_alloc w2 (.cells (rdC (.slice a2 zs.length c2) 0) 104)); have T6 := Lib.hid (heap_alloc_new w2 (.cells (rdC (.slice a2 zs.length c2) 0) 104)); have HG := Lib.hid (show w.heap.size + 2 ≤ w2.heap.size by have := (Array.getElem?_eq_some_iff.1 M.out.res).1; omega); replace M := Lib.hid (M.out.call HA.out); replace HZ := Lib.hid (HZ.out.below HA.out); clear HA; generalize w2.heap.size = q at *; generalize w2.alloc (.cells (rdC (.slice a2 zs.length c2) 0) 104) = w3 at *; obtain ⟨t0, t1, tf⟩ := rd_cells T6.out)
          | (go_at_call 160; (with_reducible refine (HF.out _ _).mono ?_); rintro e w4 ⟨rfl, hb⟩; replace M := Lib.hid (M.out.call hb); clear hb)
          | (refine wpList_store_row rfl 104 (.tmp 4) (.tmp 41) rfl (w.heap.size + 1) _ rfl rfl 104 _ M.out.res (by kernel_rfl) (by rfl) (rd_one _ _ _ _) ?_))
        refine bodyPost_ret (results_cell_tmp_row rfl _ _ (w.heap.size + 1) 104 (rdC _ 12) (0, 0) _ rfl (setRow_heap _ _ _ _ _ _ M.out.res) Tryz.underlying104 rfl (by kernel_rfl)) rfl ?_
        rw [HPS.out]
        exact ⟨_, _, rfl, HY.out.below (below_setRow M.out.below (Nat.le_succ _) _), nil_in _, rfl, (fun j h => by cases h), below_setRow M.out.below (Nat.le_succ _) _⟩
      · rw [if_neg h2] at HPS
        have q3 : decide ((zs.length : Int) < (n : Int)) = false := by simp; omega
        have q4 : decide (zs.length < n) = false := by simpa using h2
        have HNZ := Lib.hid (show n ≤ zs.length by omega)
        have HND := Lib.hid (show zs.length - n = (zs.drop n).length by rw [List.length_drop])
        clear h1 h2
        go_enter Tryz.func123, Tryz.ntmps123
        go_upto_region 1 with (fail)
        rw [← r2_zero]
        generalize (w.alloc (.cells (rdC (.slice a ys.length c) 0) 104)).alloc (.cells (rdC (.slice none 0 0) 0) 104) = w1 at *
        go_upto_region 11 with (first
          | (refine wpList_load_row rfl 104 (.tmp 2) rfl w.heap.size rfl 104 _ (0, 0) _ M.out.arg Tryz.underlying104 rfl (by kernel_rfl) ?_)
          | (go_at_call 159; (with_reducible refine (HU.out _ (HY.out.below M.out.below)).mono ?_); rintro e w2 ⟨v2, rfl, hx, how, hb⟩; obtain ⟨a2, c2, rfl, hc2, -⟩ := id hx; have HOW := Lib.hid how; replace M := Lib.hid (M.out.call hb); have HZ := Lib.hid hx; have HC2 := Lib.hid hc2; clear hx hb hc2 how)
          | (refine wpList_store_row rfl 104 (.tmp 6) (.tmp 16) rfl w2.heap.size (rdC (.slice a2 zs.length c2) 0) rfl rfl 104 _ (heap_alloc_new _ _) (by kernel_rfl) (by rfl) (rd_one _ _ _ _) ?_; rw [World.setRow_alloc_new]; have HA := Lib.hid (below_alloc w2 (.cells (rdC (.slice a2 zs.length c2) 0) 104)); have T6 := Lib.hid (heap_alloc_new w2 (.cells (rdC (.slice a2 zs.length c2) 0) 104)); have HG := Lib.hid (show w.heap.size + 2 ≤ w2.heap.size by have := (Array.getElem?_eq_some_iff.1 M.out.res).1; omega); replace M := Lib.hid (M.out.call HA.out); replace HZ := Lib.hid (HZ.out.below HA.out); clear HA; generalize w2.heap.size = q at *; generalize w2.alloc (.cells (rdC (.slice a2 zs.length c2) 0) 104) = w3 at *; obtain ⟨t0, t1, tf⟩ := rd_cells T6.out))
        have hnc : n ≤ c2 := Nat.le_trans HNZ.out HC2.out
        have hs2 := sliceUlo a2 zs.length c2 n HNZ.out
        have HT := Lib.hid (bytes_hi HZ.out n HNZ.out)
        have HD := Lib.hid (HZ.out.from n HNZ.out)
        have HO4 := Lib.hid (show (Value.slice (cutA a2 c2 n) (zs.length - n) (c2 - n)).ownBlock = (Value.slice a ys.length c).ownBlock from (own_cut a2 c2 n _ _).trans ((own_len a2 _ _ zs.length c2).trans HOW.out))
        have HS3 := Lib.hid M.out.below.size
        obtain ⟨a4, ha4⟩ : ∃ a4, a4 = cutA a2 c2 n := ⟨_, rfl⟩
        rw [← ha4] at hs2 HD HO4
        clear ha4
        go_upto_region 12 with (at_builtin; go_loud (refine wpList_append_bytes rfl (.tmp 42) (.tmp 46) rfl rfl w3.heap.size (.slice none 0 0) 0 [] rfl (World.ownsRow_nil _ _ _ _) _ (zs.take n) rfl HT.out (by rw [List.length_take]; omega) (Nat.le_refl _) ?_; intro vb w5 ho hg _; have HFR := Lib.hid (show ∀ j, vb.ownBlock = some j → w3.heap.size ≤ j ∧ j < w5.heap.size from fun j hj => ho.lt j hj); rw [Nat.zero_add, List.nil_append] at ho; have HVB := Lib.hid (owns_in ho (by rw [List.length_take]; unfold maxLen; omega)); have HG5 := Lib.hid ((Below.refl w3.heap.size w3).grown hg (Nat.le_refl _) (fun k hk => by cases hk)); replace M := Lib.hid (M.out.call HG5.out); replace HD := Lib.hid (HD.out.below HG5.out); replace T6 := Lib.hid ((HG5.out.block _ (Array.getElem?_eq_some_iff.1 T6.out).1).trans T6.out); clear ho hg HG5 t0 t1 tf))
        obtain ⟨t0, t1, tf⟩ := rd_cells T6.out
        have f0 := tf 0
        go_upto_region 13 with (fail)
        have HO := Lib.hid (Only.setCell w5 ⟨q, 0, none⟩ (.slice a4 (zs.length - n) (c2 - n)))
        replace M := Lib.hid (M.out.only HO.out HG.out)
        replace HD := Lib.hid (bytes_setCell2 HD.out (y := .slice a4 (zs.length - n) (c2 - n)) t0 (by simp))
        replace HVB := Lib.hid (bytes_setCell2 HVB.out (y := .slice a4 (zs.length - n) (c2 - n)) t0 (by simp))
        replace T6 := Lib.hid (show (w5.setCell ⟨q, 0, none⟩ (.slice a4 (zs.length - n) (c2 - n))).heap[q]? = some (.cells (rdC (.slice a4 (zs.length - n) (c2 - n)) 0) 104 (0, 0)) by rw [heap_setCell_same w5 q 0 _ _ _ T6.out]; rfl)
        have HS6 := Lib.hid HO.out.size
        clear t0 t1 tf f0 hs2 HO
        generalize w5.setCell ⟨q, 0, none⟩ (.slice a4 (zs.length - n) (c2 - n)) = w6 at *
        go_wp2_with (first
          | (refine wpList_load_row rfl 104 (.tmp 6) rfl q rfl 104 _ (0, 0) _ T6.out Tryz.underlying104 rfl (by kernel_rfl) ?_)
          | (refine wpList_store_row rfl 104 (.tmp 4) (.tmp 53) rfl (w.heap.size + 1) _ rfl rfl 104 _ M.out.res (by kernel_rfl) (by rfl) (rd_one _ _ _ _) ?_))
        refine bodyPost_ret (results_cell_tmp_row rfl _ _ (w.heap.size + 1) 104 (rdC _ 0) (0, 0) _ rfl (setRow_heap _ _ _ _ _ _ M.out.res) Tryz.underlying104 rfl (by kernel_rfl)) rfl ?_
        rw [HPS.out]
        have hbl := below_setRow M.out.below (Nat.le_succ _) (rdC (.slice a4 (zs.length - n) (c2 - n)) 0)
        exact ⟨_, _, rfl, bytes_row HD.out M.out.res _, bytes_row HVB.out M.out.res _, HO4.out, (fun j hj => by have h1 := HFR.out j hj; have h2 := HS3.out; have h3 := HS6.out; have h4 : (w6.setRow (w.heap.size + 1) (rdC (.slice a4 (zs.length - n) (c2 - n)) 0)).heap.size = w6.heap.size := (by simp [World.setRow]); omega), hbl⟩
end Go.Proofs.YteokgklfljhcaaaGreatDoor
namespace Go.Proofs.YteokgklfljhcaaaGreatDoor
set_option linter.unusedVariables false
set_option linter.unusedSimpArgs false
open Go.RowKit
set_option maxRecDepth 100000
def RcPostO (v : Value) (r : Nat × RSt) (w : World) (e : Ending) (w' : World) : Prop :=
  ∃ v', e = .returned (.tuple #[.agg (rdC v' (numE r.2.2)), .int .i64 (r.1 : Int)]) ∧ BytesIn w' v' r.2.1 ∧ v'.ownBlock = v.ownBlock ∧ Below w.heap.size w w'
set_option maxHeartbeats 2000000 in
theorem rrcountO_any (v : Value) (ys : List Int) (e : Option Nat) (he : e ≠ some 0) (most : Nat) (hm : most ≤ 9223372036854775807) (w : World) (hy : BytesIn w v ys) (hb : bytesOk ys) (hl : ys.length ≤ 140737488351232) : Calls Tryz.prog 122 #[.agg (rdC v (numE e)), .int .i64 (most : Int)] w (RcPostO v (countS (ys, e) most) w) := by
  obtain ⟨a, c, rfl, -⟩ := id hy
  have M := Lib.hid (r2M_start w (.slice a ys.length c) (numE e))
  have HY := Lib.hid hy
  have HU0 := Lib.hid (show ∀ w, BytesIn w (.slice a ys.length c) ys → Calls Tryz.prog 159 #[.agg (rdC (.slice a ys.length c) (numE e)), .int .u64 (most : Int)] w (RuPostO (.slice a ys.length c) (uintS (ys, e) most) w) from fun w h => ruintO2_any _ ys e he most (by omega) w h hb (by omega))
  have h0 := uintS_no0 (ys, e) most he
  have hzl := (uintS_ok (ys, e) most hb).2
  have hsm := fun x => uintS_some (s := (ys, e)) (most := most) (x := x)
  have hcb := fun x => countS_bad (s := (ys, e)) (most := most) (x := x)
  have hcl := countS_long (s := (ys, e)) (most := most)
  have hcg := countS_good (s := (ys, e)) (most := most)
  have hen : ∀ x, e = some x → uintS (ys, e) most = (0, ys, some x) := fun x h => by subst h; rfl
  obtain ⟨n, zs, ue, hU⟩ : ∃ n zs ue, uintS (ys, e) most = (n, zs, ue) := ⟨_, _, _, rfl⟩
  rw [hU] at h0 hzl hsm hcb hcl hcg HU0 hen
  simp only at h0 hzl hsm hcb hcl hcg
  have HU := Lib.hid (show ∀ w, BytesIn w (.slice a ys.length c) ys → Calls Tryz.prog 159 #[.agg (rdC (.slice a ys.length c) (numE e)), .int .u64 (most : Int)] w fun r w' => ∃ v', r = .returned (.tuple #[.agg (rdC v' (numE ue)), .int .u64 (n : Int)]) ∧ BytesIn w' v' zs ∧ v'.ownBlock = (Value.slice a ys.length c).ownBlock ∧ Below w.heap.size w w' from HU0.out)
  have hmx : max (most : Int) 0 = (most : Int) := by omega
  have hmw : IntKind.u64.wrap (most : Int) = (most : Int) := IntWalk.u64_in _ (by omega)
  have hzI : (zs.length : Int) ≤ 140737488351232 := by omega
  clear HU0 hU hy hb
  cases ue with
  | some x =>
    have hx0 : ((x : Int) == 0) = false := by simp; intro h; exact h0 (by rw [h])
    have hs := hsm x rfl
    injection hs with hs1 hs2
    injection hs2 with hs2 _
    subst hs1
    subst hs2
    have HC := Lib.hid (hcb x rfl)
    clear hsm hcb hcl hcg h0 hen he
    rw [show numE (some x) = (x : Int) from rfl] at HU
    obtain ⟨en, hen⟩ : ∃ en, en = numE e := ⟨_, rfl⟩
    rw [← hen] at HU M ⊢
    clear hen
    go_enter Tryz.func122, Tryz.ntmps122
    go_upto_region 1 with (fail)
    rw [← r2_zero]
    generalize (w.alloc (.cells (rdC (.slice a zs.length c) en) 104)).alloc (.cells (rdC (.slice none 0 0) 0) 104) = w1 at *
    go_wp2_with (first
      | (refine wpList_load_row rfl 104 (.tmp 2) rfl w.heap.size rfl 104 _ (0, 0) _ M.out.arg Tryz.underlying104 rfl (by kernel_rfl) ?_)
      | (go_at_call 159; (with_reducible refine (HU.out _ (HY.out.below M.out.below)).mono ?_); rintro e w2 ⟨v2, rfl, hx, how, hb⟩; obtain ⟨a2, c2, rfl, hc2, -⟩ := id hx; have HOW := Lib.hid how; replace M := Lib.hid (M.out.call hb); have HZ := Lib.hid hx; clear hx hb hc2 how)
      | (refine wpList_store_row rfl 104 (.tmp 6) (.tmp 14) rfl w2.heap.size (rdC (.slice a2 zs.length c2) (x : Int)) rfl rfl 104 _ (heap_alloc_new _ _) (by kernel_rfl) (by rfl) (rd_one _ _ _ _) ?_; rw [World.setRow_alloc_new]; have HA := Lib.hid (below_alloc w2 (.cells (rdC (.slice a2 zs.length c2) (x : Int)) 104)); have T6 := Lib.hid (heap_alloc_new w2 (.cells (rdC (.slice a2 zs.length c2) (x : Int)) 104)); have HG := Lib.hid (show w.heap.size + 2 ≤ w2.heap.size by have := (Array.getElem?_eq_some_iff.1 M.out.res).1; omega); replace M := Lib.hid (M.out.call HA.out); replace HZ := Lib.hid (HZ.out.below HA.out); clear HA; generalize w2.heap.size = q at *; generalize w2.alloc (.cells (rdC (.slice a2 zs.length c2) (x : Int)) 104) = w3 at *; obtain ⟨t0, t1, tf⟩ := rd_cells T6.out)
      | (refine wpList_load_row rfl 104 (.tmp 6) rfl q rfl 104 _ (0, 0) _ T6.out Tryz.underlying104 rfl (by kernel_rfl) ?_)
      | (refine wpList_store_row rfl 104 (.tmp 4) (.tmp 29) rfl (w.heap.size + 1) _ rfl rfl 104 _ M.out.res (by kernel_rfl) (by rfl) (rd_one _ _ _ _) ?_))
    refine bodyPost_ret (results_cell_tmp_row rfl _ _ (w.heap.size + 1) 104 (rdC _ (x : Int)) (0, 0) _ rfl (setRow_heap _ _ _ _ _ _ M.out.res) Tryz.underlying104 rfl (by kernel_rfl)) rfl ?_
    rw [HC.out]
    exact ⟨_, rfl, bytes_row HZ.out M.out.res _, HOW.out, below_setRow M.out.below (Nat.le_succ _) _⟩
  | none =>
    have he2 : e = none := by
      rcases numE_ne he with h | ⟨y, h, -, -⟩
      · exact h
      · have h2 := hen y h
        injection h2 with _ h2; injection h2 with _ h2; cases h2
    subst he2
    rw [show numE none = 0 from rfl] at *
    clear hsm hcb h0 hen he
    by_cases h1 : zs.length < n
    · have HC := Lib.hid (hcl rfl h1)
      have q1 : decide ((zs.length : Int) < (n : Int)) = true := by simp; omega
      have HF := Lib.hid (show ∀ w, Calls Tryz.prog 160 #[.agg (rdC (.slice a ys.length c) 0), .int .i64 2] w fun r w' => r = .returned (.agg (rdC (.slice a ys.length c) 2)) ∧ Below w.heap.size w w' from fun w => by
        have h := rfail_any a ys.length c 0 2 w
        rw [if_pos rfl] at h
        exact h)
      clear hcl hcg
      go_enter Tryz.func122, Tryz.ntmps122
      go_upto_region 1 with (fail)
      rw [← r2_zero]
      generalize (w.alloc (.cells (rdC (.slice a ys.length c) 0) 104)).alloc (.cells (rdC (.slice none 0 0) 0) 104) = w1 at *
      go_wp2_with (first
        | (refine wpList_load_row rfl 104 (.tmp 2) rfl w.heap.size rfl 104 _ (0, 0) _ M.out.arg Tryz.underlying104 rfl (by kernel_rfl) ?_)
        | (go_at_call 159; (with_reducible refine (HU.out _ (HY.out.below M.out.below)).mono ?_); rintro e w2 ⟨v2, rfl, hx, how, hb⟩; obtain ⟨a2, c2, rfl, hc2, -⟩ := id hx; have HOW := Lib.hid how; replace M := Lib.hid (M.out.call hb); have HZ := Lib.hid hx; clear hx hb hc2 how)
        | (refine wpList_store_row rfl 104 (.tmp 6) (.tmp 14) rfl w2.heap.size (rdC (.slice a2 zs.length c2) 0) rfl rfl 104 _ (heap_alloc_new _ _) (by kernel_rfl) (by rfl) (rd_one _ _ _ _) ?_; rw [World.setRow_alloc_new]; have HA := Lib.hid (below_alloc w2 (.cells (rdC (.slice a2 zs.length c2) 0) 104)); have T6 := Lib.hid (heap_alloc_new w2 (.cells (rdC (.slice a2 zs.length c2) 0) 104)); have HG := Lib.hid (show w.heap.size + 2 ≤ w2.heap.size by have := (Array.getElem?_eq_some_iff.1 M.out.res).1; omega); replace M := Lib.hid (M.out.call HA.out); replace HZ := Lib.hid (HZ.out.below HA.out); clear HA; generalize w2.heap.size = q at *; generalize w2.alloc (.cells (rdC (.slice a2 zs.length c2) 0) 104) = w3 at *; obtain ⟨t0, t1, tf⟩ := rd_cells T6.out)
        | (go_at_call 160; (with_reducible refine (HF.out _).mono ?_); rintro e w4 ⟨rfl, hb⟩; replace M := Lib.hid (M.out.call hb); clear hb)
        | (refine wpList_store_row rfl 104 (.tmp 4) (.tmp 28) rfl (w.heap.size + 1) _ rfl rfl 104 _ M.out.res (by kernel_rfl) (by rfl) (rd_one _ _ _ _) ?_))
      refine bodyPost_ret (results_cell_tmp_row rfl _ _ (w.heap.size + 1) 104 (rdC _ 2) (0, 0) _ rfl (setRow_heap _ _ _ _ _ _ M.out.res) Tryz.underlying104 rfl (by kernel_rfl)) rfl ?_
      rw [HC.out]
      exact ⟨_, rfl, bytes_row (HY.out.below M.out.below) M.out.res _, rfl, below_setRow M.out.below (Nat.le_succ _) _⟩
    · have HC := Lib.hid (hcg rfl h1)
      have q1 : decide ((zs.length : Int) < (n : Int)) = false := by simp; omega
      have hwn : IntKind.i64.wrap (n : Int) = n := by rw [IntKind.wrap_i64]; omega
      clear hcl hcg
      go_enter Tryz.func122, Tryz.ntmps122
      go_upto_region 1 with (fail)
      rw [← r2_zero]
      generalize (w.alloc (.cells (rdC (.slice a ys.length c) 0) 104)).alloc (.cells (rdC (.slice none 0 0) 0) 104) = w1 at *
      go_wp2_with (first
        | (refine wpList_load_row rfl 104 (.tmp 2) rfl w.heap.size rfl 104 _ (0, 0) _ M.out.arg Tryz.underlying104 rfl (by kernel_rfl) ?_)
        | (go_at_call 159; (with_reducible refine (HU.out _ (HY.out.below M.out.below)).mono ?_); rintro e w2 ⟨v2, rfl, hx, how, hb⟩; obtain ⟨a2, c2, rfl, hc2, -⟩ := id hx; have HOW := Lib.hid how; replace M := Lib.hid (M.out.call hb); have HZ := Lib.hid hx; clear hx hb hc2 how)
        | (refine wpList_store_row rfl 104 (.tmp 6) (.tmp 14) rfl w2.heap.size (rdC (.slice a2 zs.length c2) 0) rfl rfl 104 _ (heap_alloc_new _ _) (by kernel_rfl) (by rfl) (rd_one _ _ _ _) ?_; rw [World.setRow_alloc_new]; have HA := Lib.hid (below_alloc w2 (.cells (rdC (.slice a2 zs.length c2) 0) 104)); have T6 := Lib.hid (heap_alloc_new w2 (.cells (rdC (.slice a2 zs.length c2) 0) 104)); have HG := Lib.hid (show w.heap.size + 2 ≤ w2.heap.size by have := (Array.getElem?_eq_some_iff.1 M.out.res).1; omega); replace M := Lib.hid (M.out.call HA.out); replace HZ := Lib.hid (HZ.out.below HA.out); clear HA; generalize w2.heap.size = q at *; generalize w2.alloc (.cells (rdC (.slice a2 zs.length c2) 0) 104) = w3 at *; obtain ⟨t0, t1, tf⟩ := rd_cells T6.out)
        | (refine wpList_load_row rfl 104 (.tmp 6) rfl q rfl 104 _ (0, 0) _ T6.out Tryz.underlying104 rfl (by kernel_rfl) ?_)
        | (refine wpList_store_row rfl 104 (.tmp 4) (.tmp 29) rfl (w.heap.size + 1) _ rfl rfl 104 _ M.out.res (by kernel_rfl) (by rfl) (rd_one _ _ _ _) ?_))
      refine bodyPost_ret (results_cell_tmp_row rfl _ _ (w.heap.size + 1) 104 (rdC _ 0) (0, 0) _ rfl (setRow_heap _ _ _ _ _ _ M.out.res) Tryz.underlying104 rfl (by kernel_rfl)) rfl ?_
      rw [HC.out]
      exact ⟨_, rfl, bytes_row HZ.out M.out.res _, HOW.out, below_setRow M.out.below (Nat.le_succ _) _⟩
end Go.Proofs.YteokgklfljhcaaaGreatDoor
namespace Go.Proofs.YteokgklfljhcaaaGreatDoor
set_option linter.unusedVariables false
set_option linter.unusedSimpArgs false
open Go.RowKit
set_option maxRecDepth 100000
def RO (w : World) (p : Nat) (b : Option Nat) (s : RSt) : Prop := ∃ y, RAt w p y s.1 s.2 ∧ y.ownBlock = b
theorem RO.rs {w : World} {p : Nat} {b : Option Nat} {s : RSt} (h : RO w p b s) : RS w p s := by obtain ⟨y, h, _⟩ := h; exact ⟨y, h⟩
set_option maxHeartbeats 1000000 in
theorem uintO_any (p : Nat) (ob : Option Nat) (s : RSt) (most : Nat) (w : World) (h : RO w p ob s) :
    Calls Tryz.prog 182 #[.pointer (some ⟨p, 0, none⟩), .int .u64 (most : Int)] w fun r w' => r = .returned (.int .u64 ((uintS s most).1 : Int)) ∧ RO w' p ob (uintS s most).2 ∧ Only p w w' := by
  obtain ⟨ys, e⟩ := s
  obtain ⟨y, h, hob⟩ := h
  subst hob
  have HE := Lib.hid (err_any p y ys e w h)
  have HR := Lib.hid h
  have hc0 := h.cell0
  have hc1 := h.cell1
  have hf := h.free 1
  obtain ⟨a, c, rfl, hle⟩ := h.wide
  clear hle
  cases e with
  | some x =>
    rw [uintS_err]
    simp only [errV] at HE hc1
    go_enter Tryz.func182, Tryz.ntmps182
    go_wp2_with (go_at_call 153; (with_reducible refine HE.out.mono ?_); rintro e w2 ⟨rfl, rfl⟩)
    go_ret
    exact ⟨rfl, ⟨_, HR.out, rfl⟩, Only.refl _ _⟩
  | none =>
    simp only [errV] at HE hc1
    have HV := varint_any (.slice a ys.length c) ys most w h.in_ h.ok
    cases hx : (rdF ys most).2.2 with
    | some x =>
      rw [uintS_bad hx]
      rw [tripV_of _ _ hx] at HV
      replace HV := Lib.hid HV
      have HW := Lib.hid (h.err (some x))
      simp only [errV] at HV HW
      clear h
      go_enter Tryz.func182, Tryz.ntmps182
      go_wp2_with (first
        | (go_at_call 153; (with_reducible refine HE.out.mono ?_); rintro e w2 ⟨rfl, rfl⟩)
        | (go_at_call 179; (with_reducible refine HV.out.mono ?_); rintro e w2 ⟨rfl, rfl⟩))
      go_ret
      exact ⟨rfl, ⟨_, HW.out, rfl⟩, Only.setCell _ ⟨p, 1, none⟩ _⟩
    | none =>
      rw [uintS_good hx]
      have ht := take_any p _ ys none (rdF ys most).2.1 w h (rdF_ok hx).1
      rw [tripV_of _ _ hx] at HV
      replace HV := Lib.hid HV
      replace ht := Lib.hid ht
      simp only [errV] at HV
      clear h
      generalize (rdF ys most).2.1 = size at *
      generalize (rdF ys most).1 = n at *
      go_enter Tryz.func182, Tryz.ntmps182
      go_wp2_with (first
        | (go_at_call 153; (with_reducible refine HE.out.mono ?_); rintro e w2 ⟨rfl, rfl⟩)
        | (go_at_call 179; (with_reducible refine HV.out.mono ?_); rintro e w2 ⟨rfl, rfl⟩)
        | (go_at_call 180; (with_reducible refine ht.out.mono ?_); rintro e w3 ⟨a1, c1, y1, rfl, _, _, hr1, ho1, hob1⟩; replace hob1 := Lib.hid hob1; replace hr1 := Lib.hid hr1; replace ho1 := Lib.hid ho1))
      go_ret
      exact ⟨rfl, ⟨_, hr1.out, hob1.out⟩, ho1.out⟩
set_option maxHeartbeats 1000000 in
theorem intO_any (p : Nat) (ob : Option Nat) (s : RSt) (w : World) (h : RO w p ob s) :
    Calls Tryz.prog 158 #[.pointer (some ⟨p, 0, none⟩)] w fun r w' => r = .returned (.int .i64 (intS s).1) ∧ RO w' p ob (intS s).2 ∧ Only p w w' := by
  have H0 := uintO_any p ob s 18446744073709551615 w h
  rw [show ((18446744073709551615 : Nat) : Int) = 18446744073709551615 from rfl] at H0
  have H := Lib.hid H0
  clear H0
  have hl := uintS_lt s 18446744073709551615
  unfold intS
  generalize uintS s 18446744073709551615 = r at *
  obtain ⟨n, s'⟩ := r
  simp only at hl H ⊢
  have hm : (n : Int).tmod 2 = ((n % 2 : Nat) : Int) := by rw [Int.tmod_eq_emod_of_nonneg (by omega)]; omega
  have hq : (n : Int).tdiv 2 = ((n / 2 : Nat) : Int) := by rw [Int.tdiv_eq_ediv_of_nonneg (by omega)]; omega
  by_cases h1 : n % 2 = 1
  · have hx := not_i64 ((n / 2 : Nat) : Int) (by omega) (by omega)
    rw [h1] at hm
    go_enter Tryz.func158, Tryz.ntmps158
    go_wp2_with (go_at_call 182; (with_reducible refine H.out.mono ?_); rintro e w2 ⟨rfl, hr, ho⟩; replace hr := Lib.hid hr; replace ho := Lib.hid ho)
    go_ret
    refine ⟨?_, hr.out, ho.out⟩
    unfold unzig
    rw [if_pos h1]
    show Ending.returned (Value.int .i64 (bits .xor .i64 (-1) ((n : Int) / 2))) = _
    rw [show (n : Int) / 2 = ((n / 2 : Nat) : Int) by omega, hx]
  · have h2 : n % 2 = 0 := by omega
    rw [h2] at hm
    go_enter Tryz.func158, Tryz.ntmps158
    go_wp2_with (go_at_call 182; (with_reducible refine H.out.mono ?_); rintro e w2 ⟨rfl, hr, ho⟩; replace hr := Lib.hid hr; replace ho := Lib.hid ho)
    go_ret
    refine ⟨?_, hr.out, ho.out⟩
    unfold unzig
    rw [if_neg h1]
    show Ending.returned (Value.int .i64 ((n : Int) / 2)) = _
    rw [show (n : Int) / 2 = ((n / 2 : Nat) : Int) by omega]
end Go.Proofs.YteokgklfljhcaaaGreatDoor
