/- Part 22 of the proof. -/
import Derived.Test.YtanekacpalpcbaaGreatDoorRd4
import Derived.Test.YtanekacpalpcbaaGreatDoorRd8
import Derived.Test.YtanekacpalpcbaaGreatDoorRd19
import Derived.Test.YtanekacpalpcbaaGreatDoorRd21
namespace Go.Proofs.YtanekacpalpcbaaGreatDoor
set_option linter.unusedVariables false
set_option linter.unusedSimpArgs false
open Go.RowKit
set_option maxRecDepth 100000
theorem bytes_setCell2 {w : World} {v : Value} {xs : List Int} (h : BytesIn w v xs) {g i : Nat} {x y : Value} (hc : w.cell? ⟨g, i, none⟩ = some x) (hx : ∀ n, x ≠ .int .u8 n) : BytesIn (w.setCell ⟨g, i, none⟩ y) v xs := by
  obtain ⟨a, c, rfl, h1, h2, h3⟩ := h
  refine ⟨a, c, rfl, h1, h2, ?_⟩
  rcases h3 with h3 | ⟨ab, ao, rfl, h3⟩
  · exact .inl h3
  · right
    refine ⟨ab, ao, rfl, fun j z hz => ?_⟩
    have h4 := h3 j z hz
    rw [World.cell?_setCell_other _ _ _ _ (fun e => by rw [← e, hc] at h4; injection h4 with h4; exact hx z h4)]
    exact h4
theorem uintS_le2 (s : RSt) (most : Nat) : (uintS s most).1 ≤ most := by
  obtain ⟨ys, e⟩ := s
  cases e with
  | some x => rw [uintS_err]; exact Nat.zero_le _
  | none =>
    cases h : (rdF ys most).2.2 with
    | some x => rw [uintS_bad h]; exact Nat.zero_le _
    | none => rw [uintS_good h]; exact (rdF_ok h).2.2
theorem rdFrom_no0 (xs : List Int) (most : Nat) : ∀ k i, (rdFrom xs most k i).2.2 ≠ some 0
  | 0, i => by unfold rdFrom; split <;> simp
  | k + 1, i => by
    unfold rdFrom
    split
    · unfold chk
      split
      · simp
      · split <;> simp
    · exact rdFrom_no0 xs most k (i + 1)
theorem rdF_no0 (xs : List Int) (most : Nat) : (rdF xs most).2.2 ≠ some 0 := rdFrom_no0 _ _ _ _
theorem R2M.only {w w' w2 : World} {v : Value} {e : Int} {q : Nat} (m : R2M w w' v e) (h : Only q w' w2) (hq : w.heap.size + 2 ≤ q) : R2M w w2 v e :=
  ⟨m.below.trans (h.below (by omega) m.below.size), (h.block _ (Array.getElem?_eq_some_iff.1 m.arg).1 (by omega)).trans m.arg, (h.block _ (Array.getElem?_eq_some_iff.1 m.res).1 (by omega)).trans m.res⟩
theorem numE_ne {e : Option Nat} (h : e ≠ some 0) : e = none ∨ ∃ x, e = some x ∧ numE e = (x : Int) ∧ 0 < x := by
  cases e with
  | none => exact .inl rfl
  | some x => exact .inr ⟨x, rfl, rfl, by rcases Nat.eq_zero_or_pos x with h0 | h0; exact absurd (by rw [h0]) h; exact h0⟩
theorem sliceUlo (a : Option Addr) (n cap p : Nat) (hp : p ≤ n) (w : World) : (Instr.slice 34 (.slice a n cap) (some (.int .u64 (p : Int))) none none).run Tryz.prog w = .ok (.slice (cutA a cap p) (n - p) (cap - p)) w := by
  have he : Tryz.prog.elem 34 = 5 := by kernel_rfl
  have hs : (sizeOf 5).run Tryz.prog w = .ok 1 w := by kernel_rfl
  rw [run_slice_l w 34 a n cap (by rw [he]; exact Tryz.underlying34) .u64 (p : Int) (by omega) (by omega), he, hs]
  simp [Result.andThen_ok, sliced, cutA]
theorem bytes_hi {w : World} {a : Option Addr} {n c : Nat} {xs : List Int} (h : BytesIn w (.slice a n c) xs) (q : Nat) (hq : q ≤ n) : BytesIn w (.slice a q c) (xs.take q) := by
  obtain ⟨a', c', e, h1, h2, h3⟩ := h
  injection e with e1 e2 e3
  subst e1 e2 e3
  have hl : (xs.take q).length = q := by rw [List.length_take]; omega
  refine ⟨a, c, by rw [hl], by omega, by omega, ?_⟩
  rcases h3 with h3 | ⟨ab, ao, rfl, h3⟩
  · left; rw [h3]; simp
  · right
    refine ⟨ab, ao, rfl, fun i x hi => h3 i x ?_⟩
    have hiq : i < q := by have := (List.getElem?_eq_some_iff.1 hi).1; omega
    rw [List.getElem?_take, if_pos hiq] at hi
    exact hi
def RpPost (r : List Int × RSt) (w : World) (e : Ending) (w' : World) : Prop :=
  ∃ v' vb, e = .returned (.tuple #[.agg (rdC v' (numE r.2.2)), vb]) ∧ BytesIn w' v' r.2.1 ∧ BytesIn w' vb r.1 ∧ Below w.heap.size w w'
theorem ruint2_any (v : Value) (ys : List Int) (e : Option Nat) (he : e ≠ some 0) (most : Nat) (hm : most < 18446744073709551616) (w : World) (hy : BytesIn w v ys) (hb : bytesOk ys) (hl : ys.length ≤ 140737488355328) : Calls Tryz.prog 223 #[.agg (rdC v (numE e)), .int .u64 (most : Int)] w (RuPost (uintS (ys, e) most) w) := by
  rcases numE_ne he with rfl | ⟨x, rfl, hx, hx0⟩
  · exact rruint_ok v ys most hm w hy hb hl
  · exact rruint_err v ys x most hx0 w hy
theorem uintS_no0 (s : RSt) (most : Nat) (h : s.2 ≠ some 0) : (uintS s most).2.2 ≠ some 0 := by
  obtain ⟨ys, e⟩ := s
  cases e with
  | some x => exact h
  | none =>
    cases hr : (rdF ys most).2.2 with
    | none => rw [uintS_good hr]; simp
    | some x =>
      rw [uintS_bad hr]
      intro hx
      have hx0 : x = 0 := by simpa using hx
      subst hx0
      exact rdF_no0 ys most hr
theorem uintS_ok (s : RSt) (most : Nat) (h : bytesOk s.1) : bytesOk (uintS s most).2.1 ∧ (uintS s most).2.1.length ≤ s.1.length := by
  obtain ⟨ys, e⟩ := s
  cases e with
  | some x => exact ⟨h, Nat.le_refl _⟩
  | none =>
    cases hr : (rdF ys most).2.2 with
    | none => rw [uintS_good hr]; exact ⟨bytesOk_drop h _, by simp⟩
    | some x => rw [uintS_bad hr]; exact ⟨h, Nat.le_refl _⟩
theorem bytes_row {w : World} {v : Value} {xs : List Int} (h : BytesIn w v xs) {g : Nat} {x : Value} {e : Int} (hg : w.heap[g]? = some (.cells (rdC x e) 152 (0, 0))) (cs : Array Value) (hx : ∀ n, x ≠ .int .u8 n := by simp) : BytesIn (w.setRow g cs) v xs := by
  obtain ⟨a, c, rfl, h1, h2, h3⟩ := h
  refine ⟨a, c, rfl, h1, h2, ?_⟩
  rcases h3 with h3 | ⟨ab, ao, rfl, h3⟩
  · exact .inl h3
  · right
    refine ⟨ab, ao, rfl, fun i y hi => ?_⟩
    have h4 := h3 i y hi
    have hne : ab ≠ g := fun e => by
      subst e
      rw [cell_of_row _ _ _ _ _ _ hg] at h4
      unfold rdC at h4
      match hq : ao + i, h4 with
      | 0, h4 => simp at h4; exact hx _ h4
      | 1, h4 => simp at h4
      | n + 2, h4 => simp at h4
    unfold World.cell? at h4 ⊢
    rw [setRow_other w g ab cs hne]
    exact h4
set_option maxHeartbeats 2000000 in
theorem rrbytes_any (v : Value) (ys : List Int) (e : Option Nat) (he : e ≠ some 0) (most : Nat) (hm : most ≤ 1048576) (w : World) (hy : BytesIn w v ys) (hb : bytesOk ys) (hl : ys.length ≤ 140737488351232) : Calls Tryz.prog 156 #[.agg (rdC v (numE e)), .int .i64 (most : Int)] w (RpPost (partS (ys, e) (most : Int)) w) := by
  obtain ⟨a, c, rfl, -⟩ := id hy
  have M := Lib.hid (r2M_start w (.slice a ys.length c) (numE e))
  have HY := Lib.hid hy
  have h0 := uintS_no0 (ys, e) 18446744073709551615 he
  obtain ⟨hzb, hzl⟩ := uintS_ok (ys, e) 18446744073709551615 hb
  have hPe : ∀ x, e = some x → uintS (ys, e) 18446744073709551615 = (0, ys, some x) := fun x h => by subst h; rfl
  have hPS : partS (ys, e) (most : Int) = match (uintS (ys, e) 18446744073709551615).2.2 with
      | some x => ([], ys, some x)
      | none => if most < (uintS (ys, e) 18446744073709551615).1 then ([], ys, some 2) else if (uintS (ys, e) 18446744073709551615).2.1.length < (uintS (ys, e) 18446744073709551615).1 then ([], ys, some 12)
        else ((uintS (ys, e) 18446744073709551615).2.1.take (uintS (ys, e) 18446744073709551615).1, (uintS (ys, e) 18446744073709551615).2.1.drop (uintS (ys, e) 18446744073709551615).1, none) := by
    cases e with
    | some x => rfl
    | none =>
      unfold partS
      simp only
      rw [if_neg (by omega)]
      cases hr : (rdF ys 18446744073709551615).2.2 with
      | some x => rw [uintS_bad hr]
      | none =>
        rw [uintS_good hr]
        simp only [List.length_drop]
        by_cases h1 : most < (rdF ys 18446744073709551615).1
        · rw [if_pos h1, if_pos (by omega)]
        · rw [if_neg h1, if_neg (by omega)]
  have HU0 := Lib.hid (show ∀ w, BytesIn w (.slice a ys.length c) ys → Calls Tryz.prog 223 #[.agg (rdC (.slice a ys.length c) (numE e)), .int .u64 18446744073709551615] w (RuPost (uintS (ys, e) 18446744073709551615) w) from fun w h => ruint2_any _ ys e he 18446744073709551615 (by decide) w h hb (by omega))
  obtain ⟨n, zs, ue, hU⟩ : ∃ n zs ue, uintS (ys, e) 18446744073709551615 = (n, zs, ue) := ⟨_, _, _, rfl⟩
  rw [hU] at h0 hzb hzl hPS HU0 hPe
  simp only at h0 hzb hzl hPS
  have HU := Lib.hid (show ∀ w, BytesIn w (.slice a ys.length c) ys → Calls Tryz.prog 223 #[.agg (rdC (.slice a ys.length c) (numE e)), .int .u64 18446744073709551615] w fun r w' => ∃ v', r = .returned (.tuple #[.agg (rdC v' (numE ue)), .int .u64 (n : Int)]) ∧ BytesIn w' v' zs ∧ Below w.heap.size w w' from HU0.out)
  have HPS := Lib.hid hPS
  have HF := Lib.hid (show ∀ (x : Int) w, Calls Tryz.prog 224 #[.agg (rdC (.slice a ys.length c) (numE e)), .int .i64 x] w fun r w' => r = .returned (.agg (rdC (.slice a ys.length c) (if numE e = 0 then x else numE e))) ∧ Below w.heap.size w w' from fun x w => rfail_any a ys.length c (numE e) x w)
  have hmI : (0 : Int) ≤ most := by omega
  have hmI2 : (most : Int) ≤ 1048576 := by omega
  have hzI : (zs.length : Int) ≤ 140737488351232 := by omega
  have HNN := Lib.hid (uintS_le2 (ys, e) 18446744073709551615)
  rw [hU] at HNN
  clear hy hb hPS hU HU0
  cases ue with
  | some x =>
    have hx0 : ((x : Int) != 0) = true := by simp; intro h; exact h0 (by rw [h])
    have HXE := Lib.hid (show (if numE e = 0 then (x : Int) else numE e) = (x : Int) by
      rcases numE_ne he with rfl | ⟨y, rfl, hy, hy0⟩
      · rfl
      · have h := hPe y rfl
        injection h with _ h; injection h with _ h
        injection h with h
        rw [if_neg (by omega), hy, h])
    rw [show numE (some x) = (x : Int) from rfl] at HU
    clear h0 he hPe
    have HFX := Lib.hid (show ∀ w, Calls Tryz.prog 224 #[.agg (rdC (.slice a ys.length c) (numE e)), .int .i64 (x : Int)] w fun r w' => r = .returned (.agg (rdC (.slice a ys.length c) (x : Int))) ∧ Below w.heap.size w w' from fun w => by
      have h := HF.out x w
      rw [HXE.out] at h
      exact h)
    obtain ⟨en, hen⟩ : ∃ en, en = numE e := ⟨_, rfl⟩
    rw [← hen] at HU HFX M ⊢
    clear HF HXE
    clear hen
    go_enter Tryz.func156, Tryz.ntmps156
    go_upto_region 1 with (fail)
    rw [← r2_zero]
    generalize (w.alloc (.cells (rdC (.slice a ys.length c) en) 152)).alloc (.cells (rdC (.slice none 0 0) 0) 152) = w1 at *
    go_wp2_with (first
      | (refine wpList_load_row rfl 152 (.tmp 2) rfl w.heap.size rfl 152 _ (0, 0) _ M.out.arg Tryz.underlying152 rfl (by kernel_rfl) ?_)
      | (go_at_call 223; (with_reducible refine (HU.out _ (HY.out.below M.out.below)).mono ?_); rintro e w2 ⟨v2, rfl, hx, hb⟩; obtain ⟨a2, c2, rfl, hc2, -⟩ := id hx; replace M := Lib.hid (M.out.call hb); have HZ := Lib.hid hx; have HC2 := Lib.hid hc2; clear hx hb hc2)
      | (refine wpList_store_row rfl 152 (.tmp 6) (.tmp 16) rfl w2.heap.size (rdC (.slice a2 zs.length c2) (x : Int)) rfl rfl 152 _ (heap_alloc_new _ _) (by kernel_rfl) (by rfl) (rd_one _ _ _ _) ?_; rw [World.setRow_alloc_new]; have HA := Lib.hid (below_alloc w2 (.cells (rdC (.slice a2 zs.length c2) (x : Int)) 152)); have T6 := Lib.hid (heap_alloc_new w2 (.cells (rdC (.slice a2 zs.length c2) (x : Int)) 152)); have HG := Lib.hid (show w.heap.size + 2 ≤ w2.heap.size by have := (Array.getElem?_eq_some_iff.1 M.out.res).1; omega); replace M := Lib.hid (M.out.call HA.out); replace HZ := Lib.hid (HZ.out.below HA.out); clear HA; generalize w2.heap.size = q at *; generalize w2.alloc (.cells (rdC (.slice a2 zs.length c2) (x : Int)) 152) = w3 at *; obtain ⟨t0, t1, tf⟩ := rd_cells T6.out)
      | (go_at_call 224; (with_reducible refine (HFX.out _).mono ?_); rintro e w4 ⟨rfl, hb⟩; replace M := Lib.hid (M.out.call hb); clear hb)
      | (refine wpList_store_row rfl 152 (.tmp 4) (.tmp 25) rfl (w.heap.size + 1) _ rfl rfl 152 _ M.out.res (by kernel_rfl) (by rfl) (rd_one _ _ _ _) ?_))
    refine bodyPost_ret (results_cell_tmp_row rfl _ _ (w.heap.size + 1) 152 (rdC _ (x : Int)) (0, 0) _ rfl (setRow_heap _ _ _ _ _ _ M.out.res) Tryz.underlying152 rfl (by kernel_rfl)) rfl ?_
    rw [HPS.out]
    exact ⟨_, _, rfl, HY.out.below (below_setRow M.out.below (Nat.le_succ _) _), nil_in _, below_setRow M.out.below (Nat.le_succ _) _⟩
  | none =>
    have hen : e = none := by
      rcases numE_ne he with h | ⟨y, h, -, -⟩
      · exact h
      · have h2 := hPe y h
        injection h2 with _ h2; injection h2 with _ h2; cases h2
    subst hen
    rw [show numE none = 0 from rfl] at *
    simp only [if_true] at HF
    clear h0 he hPe
    by_cases h1 : most < n
    · rw [if_pos h1] at HPS
      have q1 : decide ((most : Int) < (n : Int)) = true := by simp; omega
      have q2 : decide (most < n) = true := by simpa using h1
      clear h1
      go_enter Tryz.func156, Tryz.ntmps156
      go_upto_region 1 with (fail)
      rw [← r2_zero]
      generalize (w.alloc (.cells (rdC (.slice a ys.length c) 0) 152)).alloc (.cells (rdC (.slice none 0 0) 0) 152) = w1 at *
      go_wp2_with (first
        | (refine wpList_load_row rfl 152 (.tmp 2) rfl w.heap.size rfl 152 _ (0, 0) _ M.out.arg Tryz.underlying152 rfl (by kernel_rfl) ?_)
        | (go_at_call 223; (with_reducible refine (HU.out _ (HY.out.below M.out.below)).mono ?_); rintro e w2 ⟨v2, rfl, hx, hb⟩; obtain ⟨a2, c2, rfl, hc2, -⟩ := id hx; replace M := Lib.hid (M.out.call hb); have HZ := Lib.hid hx; have HC2 := Lib.hid hc2; clear hx hb hc2)
        | (refine wpList_store_row rfl 152 (.tmp 6) (.tmp 16) rfl w2.heap.size (rdC (.slice a2 zs.length c2) 0) rfl rfl 152 _ (heap_alloc_new _ _) (by kernel_rfl) (by rfl) (rd_one _ _ _ _) ?_; rw [World.setRow_alloc_new]; have HA := Lib.hid (below_alloc w2 (.cells (rdC (.slice a2 zs.length c2) 0) 152)); have T6 := Lib.hid (heap_alloc_new w2 (.cells (rdC (.slice a2 zs.length c2) 0) 152)); have HG := Lib.hid (show w.heap.size + 2 ≤ w2.heap.size by have := (Array.getElem?_eq_some_iff.1 M.out.res).1; omega); replace M := Lib.hid (M.out.call HA.out); replace HZ := Lib.hid (HZ.out.below HA.out); clear HA; generalize w2.heap.size = q at *; generalize w2.alloc (.cells (rdC (.slice a2 zs.length c2) 0) 152) = w3 at *; obtain ⟨t0, t1, tf⟩ := rd_cells T6.out)
        | (go_at_call 224; (with_reducible refine (HF.out _ _).mono ?_); rintro e w4 ⟨rfl, hb⟩; replace M := Lib.hid (M.out.call hb); clear hb)
        | (refine wpList_store_row rfl 152 (.tmp 4) (.tmp 32) rfl (w.heap.size + 1) _ rfl rfl 152 _ M.out.res (by kernel_rfl) (by rfl) (rd_one _ _ _ _) ?_))
      refine bodyPost_ret (results_cell_tmp_row rfl _ _ (w.heap.size + 1) 152 (rdC _ 2) (0, 0) _ rfl (setRow_heap _ _ _ _ _ _ M.out.res) Tryz.underlying152 rfl (by kernel_rfl)) rfl ?_
      rw [HPS.out]
      exact ⟨_, _, rfl, HY.out.below (below_setRow M.out.below (Nat.le_succ _) _), nil_in _, below_setRow M.out.below (Nat.le_succ _) _⟩
    · rw [if_neg h1] at HPS
      have q1 : decide ((most : Int) < (n : Int)) = false := by simp; omega
      have q2 : decide (most < n) = false := by simpa using h1
      have hnI : (n : Int) ≤ 1048576 := by omega
      by_cases h2 : zs.length < n
      · rw [if_pos h2] at HPS
        have q3 : decide ((zs.length : Int) < (n : Int)) = true := by simp; omega
        have q4 : decide (zs.length < n) = true := by simpa using h2
        clear h1 h2
        go_enter Tryz.func156, Tryz.ntmps156
        go_upto_region 1 with (fail)
        rw [← r2_zero]
        generalize (w.alloc (.cells (rdC (.slice a ys.length c) 0) 152)).alloc (.cells (rdC (.slice none 0 0) 0) 152) = w1 at *
        go_wp2_with (first
          | (refine wpList_load_row rfl 152 (.tmp 2) rfl w.heap.size rfl 152 _ (0, 0) _ M.out.arg Tryz.underlying152 rfl (by kernel_rfl) ?_)
          | (go_at_call 223; (with_reducible refine (HU.out _ (HY.out.below M.out.below)).mono ?_); rintro e w2 ⟨v2, rfl, hx, hb⟩; obtain ⟨a2, c2, rfl, hc2, -⟩ := id hx; replace M := Lib.hid (M.out.call hb); have HZ := Lib.hid hx; have HC2 := Lib.hid hc2; clear hx hb hc2)
          | (refine wpList_store_row rfl 152 (.tmp 6) (.tmp 16) rfl w2.heap.size (rdC (.slice a2 zs.length c2) 0) rfl rfl 152 _ (heap_alloc_new _ _) (by kernel_rfl) (by rfl) (rd_one _ _ _ _) ?_; rw [World.setRow_alloc_new]; have HA := Lib.hid (below_alloc w2 (.cells (rdC (.slice a2 zs.length c2) 0) 152)); have T6 := Lib.hid (heap_alloc_new w2 (.cells (rdC (.slice a2 zs.length c2) 0) 152)); have HG := Lib.hid (show w.heap.size + 2 ≤ w2.heap.size by have := (Array.getElem?_eq_some_iff.1 M.out.res).1; omega); replace M := Lib.hid (M.out.call HA.out); replace HZ := Lib.hid (HZ.out.below HA.out); clear HA; generalize w2.heap.size = q at *; generalize w2.alloc (.cells (rdC (.slice a2 zs.length c2) 0) 152) = w3 at *; obtain ⟨t0, t1, tf⟩ := rd_cells T6.out)
          | (go_at_call 224; (with_reducible refine (HF.out _ _).mono ?_); rintro e w4 ⟨rfl, hb⟩; replace M := Lib.hid (M.out.call hb); clear hb)
          | (refine wpList_store_row rfl 152 (.tmp 4) (.tmp 41) rfl (w.heap.size + 1) _ rfl rfl 152 _ M.out.res (by kernel_rfl) (by rfl) (rd_one _ _ _ _) ?_))
        refine bodyPost_ret (results_cell_tmp_row rfl _ _ (w.heap.size + 1) 152 (rdC _ 12) (0, 0) _ rfl (setRow_heap _ _ _ _ _ _ M.out.res) Tryz.underlying152 rfl (by kernel_rfl)) rfl ?_
        rw [HPS.out]
        exact ⟨_, _, rfl, HY.out.below (below_setRow M.out.below (Nat.le_succ _) _), nil_in _, below_setRow M.out.below (Nat.le_succ _) _⟩
      · rw [if_neg h2] at HPS
        have q3 : decide ((zs.length : Int) < (n : Int)) = false := by simp; omega
        have q4 : decide (zs.length < n) = false := by simpa using h2
        have HNZ := Lib.hid (show n ≤ zs.length by omega)
        have HND := Lib.hid (show zs.length - n = (zs.drop n).length by rw [List.length_drop])
        clear h1 h2
        go_enter Tryz.func156, Tryz.ntmps156
        go_upto_region 1 with (fail)
        rw [← r2_zero]
        generalize (w.alloc (.cells (rdC (.slice a ys.length c) 0) 152)).alloc (.cells (rdC (.slice none 0 0) 0) 152) = w1 at *
        go_upto_region 11 with (first
          | (refine wpList_load_row rfl 152 (.tmp 2) rfl w.heap.size rfl 152 _ (0, 0) _ M.out.arg Tryz.underlying152 rfl (by kernel_rfl) ?_)
          | (go_at_call 223; (with_reducible refine (HU.out _ (HY.out.below M.out.below)).mono ?_); rintro e w2 ⟨v2, rfl, hx, hb⟩; obtain ⟨a2, c2, rfl, hc2, -⟩ := id hx; replace M := Lib.hid (M.out.call hb); have HZ := Lib.hid hx; have HC2 := Lib.hid hc2; clear hx hb hc2)
          | (refine wpList_store_row rfl 152 (.tmp 6) (.tmp 16) rfl w2.heap.size (rdC (.slice a2 zs.length c2) 0) rfl rfl 152 _ (heap_alloc_new _ _) (by kernel_rfl) (by rfl) (rd_one _ _ _ _) ?_; rw [World.setRow_alloc_new]; have HA := Lib.hid (below_alloc w2 (.cells (rdC (.slice a2 zs.length c2) 0) 152)); have T6 := Lib.hid (heap_alloc_new w2 (.cells (rdC (.slice a2 zs.length c2) 0) 152)); have HG := Lib.hid (show w.heap.size + 2 ≤ w2.heap.size by have := (Array.getElem?_eq_some_iff.1 M.out.res).1; omega); replace M := Lib.hid (M.out.call HA.out); replace HZ := Lib.hid (HZ.out.below HA.out); clear HA; generalize w2.heap.size = q at *; generalize w2.alloc (.cells (rdC (.slice a2 zs.length c2) 0) 152) = w3 at *; obtain ⟨t0, t1, tf⟩ := rd_cells T6.out))
        have hnc : n ≤ c2 := Nat.le_trans HNZ.out HC2.out
        have hs2 := sliceUlo a2 zs.length c2 n HNZ.out
        have HT := Lib.hid (bytes_hi HZ.out n HNZ.out)
        have HD := Lib.hid (HZ.out.from n HNZ.out)
        obtain ⟨a4, ha4⟩ : ∃ a4, a4 = cutA a2 c2 n := ⟨_, rfl⟩
        rw [← ha4] at hs2 HD
        clear ha4
        go_upto_region 12 with (at_builtin; go_loud (refine wpList_append_bytes rfl (.tmp 42) (.tmp 46) rfl rfl w3.heap.size (.slice none 0 0) 0 [] rfl (World.ownsRow_nil _ _ _ _) _ (zs.take n) rfl HT.out (by rw [List.length_take]; omega) (Nat.le_refl _) ?_; intro vb w5 ho hg _; rw [Nat.zero_add, List.nil_append] at ho; have HVB := Lib.hid (owns_in ho (by rw [List.length_take]; unfold maxLen; omega)); have HG5 := Lib.hid ((Below.refl w3.heap.size w3).grown hg (Nat.le_refl _) (fun k hk => by cases hk)); replace M := Lib.hid (M.out.call HG5.out); replace HD := Lib.hid (HD.out.below HG5.out); replace T6 := Lib.hid ((HG5.out.block _ (Array.getElem?_eq_some_iff.1 T6.out).1).trans T6.out); clear ho hg HG5 t0 t1 tf))
        obtain ⟨t0, t1, tf⟩ := rd_cells T6.out
        have f0 := tf 0
        go_upto_region 13 with (fail)
        have HO := Lib.hid (Only.setCell w5 ⟨q, 0, none⟩ (.slice a4 (zs.length - n) (c2 - n)))
        replace M := Lib.hid (M.out.only HO.out HG.out)
        replace HD := Lib.hid (bytes_setCell2 HD.out (y := .slice a4 (zs.length - n) (c2 - n)) t0 (by simp))
        replace HVB := Lib.hid (bytes_setCell2 HVB.out (y := .slice a4 (zs.length - n) (c2 - n)) t0 (by simp))
        replace T6 := Lib.hid (show (w5.setCell ⟨q, 0, none⟩ (.slice a4 (zs.length - n) (c2 - n))).heap[q]? = some (.cells (rdC (.slice a4 (zs.length - n) (c2 - n)) 0) 152 (0, 0)) by rw [heap_setCell_same w5 q 0 _ _ _ T6.out]; rfl)
        clear t0 t1 tf f0 hs2 HO
        generalize w5.setCell ⟨q, 0, none⟩ (.slice a4 (zs.length - n) (c2 - n)) = w6 at *
        go_wp2_with (first
          | (refine wpList_load_row rfl 152 (.tmp 6) rfl q rfl 152 _ (0, 0) _ T6.out Tryz.underlying152 rfl (by kernel_rfl) ?_)
          | (refine wpList_store_row rfl 152 (.tmp 4) (.tmp 53) rfl (w.heap.size + 1) _ rfl rfl 152 _ M.out.res (by kernel_rfl) (by rfl) (rd_one _ _ _ _) ?_))
        refine bodyPost_ret (results_cell_tmp_row rfl _ _ (w.heap.size + 1) 152 (rdC _ 0) (0, 0) _ rfl (setRow_heap _ _ _ _ _ _ M.out.res) Tryz.underlying152 rfl (by kernel_rfl)) rfl ?_
        rw [HPS.out]
        have hbl := below_setRow M.out.below (Nat.le_succ _) (rdC (.slice a4 (zs.length - n) (c2 - n)) 0)
        exact ⟨_, _, rfl, bytes_row HD.out M.out.res _, bytes_row HVB.out M.out.res _, hbl⟩
end Go.Proofs.YtanekacpalpcbaaGreatDoor
