/- Part 37 of the proof. -/
import Derived.Test.YtejglhlodfhgkaaGreatDoorXv1
import Derived.Test.YtejglhlodfhgkaaGreatDoorXv3
import Derived.Test.YtejglhlodfhgkaaGreatDoorXv5
import Derived.Test.YtejglhlodfhgkaaGreatDoorXv6
import Derived.Test.YtejglhlodfhgkaaGreatDoorXv30
import Derived.Test.YtejglhlodfhgkaaGreatDoorXv31
import Derived.Test.YtejglhlodfhgkaaGreatDoorXv32
import Derived.Test.YtejglhlodfhgkaaGreatDoorXv35
import Derived.Test.YtejglhlodfhgkaaGreatDoorXv36
namespace Go.Proofs.YtejglhlodfhgkaaGreatDoor
set_option linter.unusedVariables false
set_option linter.unusedSimpArgs false
open Go.RowKit
set_option maxRecDepth 100000
theorem bytes_setCell2 {w : World} {v : Value} {xs : List Int} (h : BytesIn w v xs) {g i : Nat} {x y : Value} (hc : w.cell? ⟨g, i, none⟩ = some x) (hx : ∀ n, x ≠ .int .u8 n) : BytesIn (w.setCell ⟨g, i, none⟩ y) v xs := by
  obtain ⟨a, c, rfl, h1, h2, h3⟩ := h
  refine ⟨a, c, rfl, h1, h2, ?_⟩
  rcases h3 with h3 | ⟨ab, ao, rfl, h3⟩
  · exact .inl h3
  · right
    refine ⟨ab, ao, rfl, fun j z hz => ?_⟩
    have h4 := h3 j z hz
    rw [World.cell?_setCell_other _ _ _ _ (fun e => by rw [← e, hc] at h4; injection h4 with h4; exact hx z h4)]
    exact h4
theorem uintS_le2 (s : RSt) (most : Nat) : (uintS s most).1 ≤ most := by
  obtain ⟨ys, e⟩ := s
  cases e with
  | some x => rw [uintS_err]; exact Nat.zero_le _
  | none =>
    cases h : (rdF ys most).2.2 with
    | some x => rw [uintS_bad h]; exact Nat.zero_le _
    | none => rw [uintS_good h]; exact (rdF_ok h).2.2
theorem rdFrom_no0 (xs : List Int) (most : Nat) : ∀ k i, (rdFrom xs most k i).2.2 ≠ some 0
  | 0, i => by unfold rdFrom; split <;> simp
  | k + 1, i => by
    unfold rdFrom
    split
    · unfold chk
      split
      · simp
      · split <;> simp
    · exact rdFrom_no0 xs most k (i + 1)
theorem rdF_no0 (xs : List Int) (most : Nat) : (rdF xs most).2.2 ≠ some 0 := rdFrom_no0 _ _ _ _
theorem R2M.only {w w' w2 : World} {v : Value} {e : Int} {q : Nat} (m : R2M w w' v e) (h : Only q w' w2) (hq : w.heap.size + 2 ≤ q) : R2M w w2 v e :=
  ⟨m.below.trans (h.below (by omega) m.below.size), (h.block _ (Array.getElem?_eq_some_iff.1 m.arg).1 (by omega)).trans m.arg, (h.block _ (Array.getElem?_eq_some_iff.1 m.res).1 (by omega)).trans m.res⟩
theorem numE_ne {e : Option Nat} (h : e ≠ some 0) : e = none ∨ ∃ x, e = some x ∧ numE e = (x : Int) ∧ 0 < x := by
  cases e with
  | none => exact .inl rfl
  | some x => exact .inr ⟨x, rfl, rfl, by rcases Nat.eq_zero_or_pos x with h0 | h0; exact absurd (by rw [h0]) h; exact h0⟩
theorem sliceUlo (a : Option Addr) (n cap p : Nat) (hp : p ≤ n) (w : World) : (Instr.slice 25 (.slice a n cap) (some (.int .u64 (p : Int))) none none).run Tryz.prog w = .ok (.slice (cutA a cap p) (n - p) (cap - p)) w := by
  have he : Tryz.prog.elem 25 = 5 := by kernel_rfl
  have hs : (sizeOf 5).run Tryz.prog w = .ok 1 w := by kernel_rfl
  rw [run_slice_l w 25 a n cap (by rw [he]; exact Tryz.underlying25) .u64 (p : Int) (by omega) (by omega), he, hs]
  simp [Result.andThen_ok, sliced, cutA]
theorem bytes_hi {w : World} {a : Option Addr} {n c : Nat} {xs : List Int} (h : BytesIn w (.slice a n c) xs) (q : Nat) (hq : q ≤ n) : BytesIn w (.slice a q c) (xs.take q) := by
  obtain ⟨a', c', e, h1, h2, h3⟩ := h
  injection e with e1 e2 e3
  subst e1 e2 e3
  have hl : (xs.take q).length = q := by rw [List.length_take]; omega
  refine ⟨a, c, by rw [hl], by omega, by omega, ?_⟩
  rcases h3 with h3 | ⟨ab, ao, rfl, h3⟩
  · left; rw [h3]; simp
  · right
    refine ⟨ab, ao, rfl, fun i x hi => h3 i x ?_⟩
    have hiq : i < q := by have := (List.getElem?_eq_some_iff.1 hi).1; omega
    rw [List.getElem?_take, if_pos hiq] at hi
    exact hi
def RpPost (r : List Int × RSt) (w : World) (e : Ending) (w' : World) : Prop :=
  ∃ v' vb, e = .returned (.tuple #[.agg (rdC v' (numE r.2.2)), vb]) ∧ BytesIn w' v' r.2.1 ∧ BytesIn w' vb r.1 ∧ Below w.heap.size w w'
theorem ruint2_any (v : Value) (ys : List Int) (e : Option Nat) (he : e ≠ some 0) (most : Nat) (hm : most < 18446744073709551616) (w : World) (hy : BytesIn w v ys) (hb : bytesOk ys) (hl : ys.length ≤ 140737488355328) : Calls Tryz.prog 140 #[.agg (rdC v (numE e)), .int .u64 (most : Int)] w (RuPost (uintS (ys, e) most) w) := by
  rcases numE_ne he with rfl | ⟨x, rfl, hx, hx0⟩
  · exact rruint_ok v ys most hm w hy hb hl
  · exact rruint_err v ys x most hx0 w hy
theorem uintS_no0 (s : RSt) (most : Nat) (h : s.2 ≠ some 0) : (uintS s most).2.2 ≠ some 0 := by
  obtain ⟨ys, e⟩ := s
  cases e with
  | some x => exact h
  | none =>
    cases hr : (rdF ys most).2.2 with
    | none => rw [uintS_good hr]; simp
    | some x =>
      rw [uintS_bad hr]
      intro hx
      have hx0 : x = 0 := by simpa using hx
      subst hx0
      exact rdF_no0 ys most hr
theorem uintS_ok (s : RSt) (most : Nat) (h : bytesOk s.1) : bytesOk (uintS s most).2.1 ∧ (uintS s most).2.1.length ≤ s.1.length := by
  obtain ⟨ys, e⟩ := s
  cases e with
  | some x => exact ⟨h, Nat.le_refl _⟩
  | none =>
    cases hr : (rdF ys most).2.2 with
    | none => rw [uintS_good hr]; exact ⟨bytesOk_drop h _, by simp⟩
    | some x => rw [uintS_bad hr]; exact ⟨h, Nat.le_refl _⟩
theorem bytes_row {w : World} {v : Value} {xs : List Int} (h : BytesIn w v xs) {g : Nat} {x : Value} {e : Int} (hg : w.heap[g]? = some (.cells (rdC x e) 129 (0, 0))) (cs : Array Value) (hx : ∀ n, x ≠ .int .u8 n := by simp) : BytesIn (w.setRow g cs) v xs := by
  obtain ⟨a, c, rfl, h1, h2, h3⟩ := h
  refine ⟨a, c, rfl, h1, h2, ?_⟩
  rcases h3 with h3 | ⟨ab, ao, rfl, h3⟩
  · exact .inl h3
  · right
    refine ⟨ab, ao, rfl, fun i y hi => ?_⟩
    have h4 := h3 i y hi
    have hne : ab ≠ g := fun e => by
      subst e
      rw [cell_of_row _ _ _ _ _ _ hg] at h4
      unfold rdC at h4
      match hq : ao + i, h4 with
      | 0, h4 => simp at h4; exact hx _ h4
      | 1, h4 => simp at h4
      | n + 2, h4 => simp at h4
    unfold World.cell? at h4 ⊢
    rw [setRow_other w g ab cs hne]
    exact h4
set_option maxHeartbeats 2000000 in
theorem rrbytes_any (v : Value) (ys : List Int) (e : Option Nat) (he : e ≠ some 0) (most : Nat) (hm : most ≤ 1048576) (w : World) (hy : BytesIn w v ys) (hb : bytesOk ys) (hl : ys.length ≤ 140737488351232) : Calls Tryz.prog 69 #[.agg (rdC v (numE e)), .int .i64 (most : Int)] w (RpPost (partS (ys, e) (most : Int)) w) := by
  obtain ⟨a, c, rfl, -⟩ := id hy
  have M := Lib.hid (r2M_start w (.slice a ys.length c) (numE e))
  have HY := Lib.hid hy
  have h0 := uintS_no0 (ys, e) 18446744073709551615 he
  obtain ⟨hzb, hzl⟩ := uintS_ok (ys, e) 18446744073709551615 hb
  have hPe : ∀ x, e = some x → uintS (ys, e) 18446744073709551615 = (0, ys, some x) := fun x h => by subst h; rfl
  have hPS : partS (ys, e) (most : Int) = match (uintS (ys, e) 18446744073709551615).2.2 with
      | some x => ([], ys, some x)
      | none => if most < (uintS (ys, e) 18446744073709551615).1 then ([], ys, some 2) else if (uintS (ys, e) 18446744073709551615).2.1.length < (uintS (ys, e) 18446744073709551615).1 then ([], ys, some 12)
        else ((uintS (ys, e) 18446744073709551615).2.1.take (uintS (ys, e) 18446744073709551615).1, (uintS (ys, e) 18446744073709551615).2.1.drop (uintS (ys, e) 18446744073709551615).1, none) := by
    cases e with
    | some x => rfl
    | none =>
      unfold partS
      simp only
      rw [if_neg (by omega)]
      cases hr : (rdF ys 18446744073709551615).2.2 with
      | some x => rw [uintS_bad hr]
      | none =>
        rw [uintS_good hr]
        simp only [List.length_drop]
        by_cases h1 : most < (rdF ys 18446744073709551615).1
        · rw [if_pos h1, if_pos (by omega)]
        · rw [if_neg h1, if_neg (by omega)]
  have HU0 := Lib.hid (show ∀ w, BytesIn w (.slice a ys.length c) ys → Calls Tryz.prog 140 #[.agg (rdC (.slice a ys.length c) (numE e)), .int .u64 18446744073709551615] w (RuPost (uintS (ys, e) 18446744073709551615) w) from fun w h => ruint2_any _ ys e he 18446744073709551615 (by decide) w h hb (by omega))
  obtain ⟨n, zs, ue, hU⟩ : ∃ n zs ue, uintS (ys, e) 18446744073709551615 = (n, zs, ue) := ⟨_, _, _, rfl⟩
  rw [hU] at h0 hzb hzl hPS HU0 hPe
  simp only at h0 hzb hzl hPS
  have HU := Lib.hid (show ∀ w, BytesIn w (.slice a ys.length c) ys → Calls Tryz.prog 140 #[.agg (rdC (.slice a ys.length c) (numE e)), .int .u64 18446744073709551615] w fun r w' => ∃ v', r = .returned (.tuple #[.agg (rdC v' (numE ue)), .int .u64 (n : Int)]) ∧ BytesIn w' v' zs ∧ Below w.heap.size w w' from HU0.out)
  have HPS := Lib.hid hPS
  have HF := Lib.hid (show ∀ (x : Int) w, Calls Tryz.prog 139 #[.agg (rdC (.slice a ys.length c) (numE e)), .int .i64 x] w fun r w' => r = .returned (.agg (rdC (.slice a ys.length c) (if numE e = 0 then x else numE e))) ∧ Below w.heap.size w w' from fun x w => rfail_any a ys.length c (numE e) x w)
  have hmI : (0 : Int) ≤ most := by omega
  have hmI2 : (most : Int) ≤ 1048576 := by omega
  have hzI : (zs.length : Int) ≤ 140737488351232 := by omega
  have HNN := Lib.hid (uintS_le2 (ys, e) 18446744073709551615)
  rw [hU] at HNN
  clear hy hb hPS hU HU0
  cases ue with
  | some x =>
    have hx0 : ((x : Int) != 0) = true := by simp; intro h; exact h0 (by rw [h])
    have HXE := Lib.hid (show (if numE e = 0 then (x : Int) else numE e) = (x : Int) by
      rcases numE_ne he with rfl | ⟨y, rfl, hy, hy0⟩
      · rfl
      · have h := hPe y rfl
        injection h with _ h; injection h with _ h
        injection h with h
        rw [if_neg (by omega), hy, h])
    rw [show numE (some x) = (x : Int) from rfl] at HU
    clear h0 he hPe
    have HFX := Lib.hid (show ∀ w, Calls Tryz.prog 139 #[.agg (rdC (.slice a ys.length c) (numE e)), .int .i64 (x : Int)] w fun r w' => r = .returned (.agg (rdC (.slice a ys.length c) (x : Int))) ∧ Below w.heap.size w w' from fun w => by
      have h := HF.out x w
      rw [HXE.out] at h
      exact h)
    obtain ⟨en, hen⟩ : ∃ en, en = numE e := ⟨_, rfl⟩
    rw [← hen] at HU HFX M ⊢
    clear HF HXE
    clear hen
    go_enter Tryz.func69, Tryz.ntmps69
    go_upto_region 1 with (fail)
    rw [← r2_zero]
    generalize (w.alloc (.cells (rdC (.slice a ys.length c) en) 129)).alloc (.cells (rdC (.slice none 0 0) 0) 129) = w1 at *
    go_wp2_with (first
      | (refine wpList_load_row rfl 129 (.tmp 2) rfl w.heap.size rfl 129 _ (0, 0) _ M.out.arg Tryz.underlying129 rfl (by kernel_rfl) ?_)
      | (go_at_call 140; (with_reducible refine (HU.out _ (HY.out.below M.out.below)).mono ?_); rintro e w2 ⟨v2, rfl, hx, hb⟩; obtain ⟨a2, c2, rfl, hc2, -⟩ := id hx; replace M := Lib.hid (M.out.call hb); have HZ := Lib.hid hx; have HC2 := Lib.hid hc2; clear hx hb hc2)
      | (refine wpList_store_row rfl 129 (.tmp 6) (.tmp 16) rfl w2.heap.size (rdC (.slice a2 zs.length c2) (x : Int)) rfl rfl 129 _ (heap_alloc_new _ _) (by kernel_rfl) (by rfl) (rd_one _ _ _ _) ?_; rw [World.setRow_alloc_new]; have HA := Lib.hid (below_alloc w2 (.cells (rdC (.slice a2 zs.length c2) (x : Int)) 129)); have T6 := Lib.hid (heap_alloc_new w2 (.cells (rdC (.slice a2 zs.length c2) (x : Int)) 129)); have HG := Lib.hid (show w.heap.size + 2 ≤ w2.heap.size by have := (Array.getElem?_eq_some_iff.1 M.out.res).1; omega); replace M := Lib.hid (M.out.call HA.out); replace HZ := Lib.hid (HZ.out.below HA.out); clear HA; generalize w2.heap.size = q at *; generalize w2.alloc (.cells (rdC (.slice a2 zs.length c2) (x : Int)) 129) = w3 at *; obtain ⟨t0, t1, tf⟩ := rd_cells T6.out)
      | (go_at_call 139; (with_reducible refine (HFX.out _).mono ?_); rintro e w4 ⟨rfl, hb⟩; replace M := Lib.hid (M.out.call hb); clear hb)
      | (refine wpList_store_row rfl 129 (.tmp 4) (.tmp 25) rfl (w.heap.size + 1) _ rfl rfl 129 _ M.out.res (by kernel_rfl) (by rfl) (rd_one _ _ _ _) ?_))
    refine bodyPost_ret (results_cell_tmp_row rfl _ _ (w.heap.size + 1) 129 (rdC _ (x : Int)) (0, 0) _ rfl (setRow_heap _ _ _ _ _ _ M.out.res) Tryz.underlying129 rfl (by kernel_rfl)) rfl ?_
    rw [HPS.out]
    exact ⟨_, _, rfl, HY.out.below (below_setRow M.out.below (Nat.le_succ _) _), nil_in _, below_setRow M.out.below (Nat.le_succ _) _⟩
  | none =>
    have hen : e = none := by
      rcases numE_ne he with h | ⟨y, h, -, -⟩
      · exact h
      · have h2 := hPe y h
        injection h2 with _ h2; injection h2 with _ h2; cases h2
    subst hen
    rw [show numE none = 0 from rfl] at *
    simp only [if_true] at HF
    clear h0 he hPe
    by_cases h1 : most < n
    · rw [if_pos h1] at HPS
      have q1 : decide ((most : Int) < (n : Int)) = true := by simp; omega
      have q2 : decide (most < n) = true := by simpa using h1
      clear h1
      go_enter Tryz.func69, Tryz.ntmps69
      go_upto_region 1 with (fail)
      rw [← r2_zero]
      generalize (w.alloc (.cells (rdC (.slice a ys.length c) 0) 129)).alloc (.cells (rdC (.slice none 0 0) 0) 129) = w1 at *
      go_wp2_with (first
        | (refine wpList_load_row rfl 129 (.tmp 2) rfl w.heap.size rfl 129 _ (0, 0) _ M.out.arg Tryz.underlying129 rfl (by kernel_rfl) ?_)
        | (go_at_call 140; (with_reducible refine (HU.out _ (HY.out.below M.out.below)).mono ?_); rintro e w2 ⟨v2, rfl, hx, hb⟩; obtain ⟨a2, c2, rfl, hc2, -⟩ := id hx; replace M := Lib.hid (M.out.call hb); have HZ := Lib.hid hx; have HC2 := Lib.hid hc2; clear hx hb hc2)
        | (refine wpList_store_row rfl 129 (.tmp 6) (.tmp 16) rfl w2.heap.size (rdC (.slice a2 zs.length c2) 0) rfl rfl 129 _ (heap_alloc_new _ _) (by kernel_rfl) (by rfl) (rd_one _ _ _ _) ?_; rw [World.setRow_alloc_new]; have HA := Lib.hid (below_alloc w2 (.cells (rdC (.slice a2 zs.length c2) 0) 129)); have T6 := Lib.hid (heap_alloc_new w2 (.cells (rdC (.slice a2 zs.length c2) 0) 129)); have HG := Lib.hid (show w.heap.size + 2 ≤ w2.heap.size by have := (Array.getElem?_eq_some_iff.1 M.out.res).1; omega); replace M := Lib.hid (M.out.call HA.out); replace HZ := Lib.hid (HZ.out.below HA.out); clear HA; generalize w2.heap.size = q at *; generalize w2.alloc (.cells (rdC (.slice a2 zs.length c2) 0) 129) = w3 at *; obtain ⟨t0, t1, tf⟩ := rd_cells T6.out)
        | (go_at_call 139; (with_reducible refine (HF.out _ _).mono ?_); rintro e w4 ⟨rfl, hb⟩; replace M := Lib.hid (M.out.call hb); clear hb)
        | (refine wpList_store_row rfl 129 (.tmp 4) (.tmp 32) rfl (w.heap.size + 1) _ rfl rfl 129 _ M.out.res (by kernel_rfl) (by rfl) (rd_one _ _ _ _) ?_))
      refine bodyPost_ret (results_cell_tmp_row rfl _ _ (w.heap.size + 1) 129 (rdC _ 2) (0, 0) _ rfl (setRow_heap _ _ _ _ _ _ M.out.res) Tryz.underlying129 rfl (by kernel_rfl)) rfl ?_
      rw [HPS.out]
      exact ⟨_, _, rfl, HY.out.below (below_setRow M.out.below (Nat.le_succ _) _), nil_in _, below_setRow M.out.below (Nat.le_succ _) _⟩
    · rw [if_neg h1] at HPS
      have q1 : decide ((most : Int) < (n : Int)) = false := by simp; omega
      have q2 : decide (most < n) = false := by simpa using h1
      have hnI : (n : Int) ≤ 1048576 := by omega
      by_cases h2 : zs.length < n
      · rw [if_pos h2] at HPS
        have q3 : decide ((zs.length : Int) < (n : Int)) = true := by simp; omega
        have q4 : decide (zs.length < n) = true := by simpa using h2
        clear h1 h2
        go_enter Tryz.func69, Tryz.ntmps69
        go_upto_region 1 with (fail)
        rw [← r2_zero]
        generalize (w.alloc (.cells (rdC (.slice a ys.length c) 0) 129)).alloc (.cells (rdC (.slice none 0 0) 0) 129) = w1 at *
        go_wp2_with (first
          | (refine wpList_load_row rfl 129 (.tmp 2) rfl w.heap.size rfl 129 _ (0, 0) _ M.out.arg Tryz.underlying129 rfl (by kernel_rfl) ?_)
          | (go_at_call 140; (with_reducible refine (HU.out _ (HY.out.below M.out.below)).mono ?_); rintro e w2 ⟨v2, rfl, hx, hb⟩; obtain ⟨a2, c2, rfl, hc2, -⟩ := id hx; replace M := Lib.hid (M.out.call hb); have HZ := Lib.hid hx; have HC2 := Lib.hid hc2; clear hx hb hc2)
          | (refine wpList_store_row rfl 129 (.tmp 6) (.tmp 16) rfl w2.heap.size (rdC (.slice a2 zs.length c2) 0) rfl rfl 129 _ (heap_alloc_new _ _) (by kernel_rfl) (by rfl) (rd_one _ _ _ _) ?_; rw [World.setRow_alloc_new]; have HA := Lib.hid (below_alloc w2 (.cells (rdC (.slice a2 zs.length c2) 0) 129)); have T6 := Lib.hid (heap_alloc_new w2 (.cells (rdC (.slice a2 zs.length c2) 0) 129)); have HG := Lib.hid (show w.heap.size + 2 ≤ w2.heap.size by have := (Array.getElem?_eq_some_iff.1 M.out.res).1; omega); replace M := Lib.hid (M.out.call HA.out); replace HZ := Lib.hid (HZ.out.below HA.out); clear HA; generalize w2.heap.size = q at *; generalize w2.alloc (.cells (rdC (.slice a2 zs.length c2) 0) 129) = w3 at *; obtain ⟨t0, t1, tf⟩ := rd_cells T6.out)
          | (go_at_call 139; (with_reducible refine (HF.out _ _).mono ?_); rintro e w4 ⟨rfl, hb⟩; replace M := Lib.hid (M.out.call hb); clear hb)
          | (refine wpList_store_row rfl 129 (.tmp 4) (.tmp 41) rfl (w.heap.size + 1) _ rfl rfl 129 _ M.out.res (by kernel_rfl) (by rfl) (rd_one _ _ _ _) ?_))
        refine bodyPost_ret (results_cell_tmp_row rfl _ _ (w.heap.size + 1) 129 (rdC _ 12) (0, 0) _ rfl (setRow_heap _ _ _ _ _ _ M.out.res) Tryz.underlying129 rfl (by kernel_rfl)) rfl ?_
        rw [HPS.out]
        exact ⟨_, _, rfl, HY.out.below (below_setRow M.out.below (Nat.le_succ _) _), nil_in _, below_setRow M.out.below (Nat.le_succ _) _⟩
      · rw [if_neg h2] at HPS
        have q3 : decide ((zs.length : Int) < (n : Int)) = false := by simp; omega
        have q4 : decide (zs.length < n) = false := by simpa using h2
        have HNZ := Lib.hid (show n ≤ zs.length by omega)
        have HND := Lib.hid (show zs.length - n = (zs.drop n).length by rw [List.length_drop])
        clear h1 h2
        go_enter Tryz.func69, Tryz.ntmps69
        go_upto_region 1 with (fail)
        rw [← r2_zero]
        generalize (w.alloc (.cells (rdC (.slice a ys.length c) 0) 129)).alloc (.cells (rdC (.slice none 0 0) 0) 129) = w1 at *
        go_upto_region 11 with (first
          | (refine wpList_load_row rfl 129 (.tmp 2) rfl w.heap.size rfl 129 _ (0, 0) _ M.out.arg Tryz.underlying129 rfl (by kernel_rfl) ?_)
          | (go_at_call 140; (with_reducible refine (HU.out _ (HY.out.below M.out.below)).mono ?_); rintro e w2 ⟨v2, rfl, hx, hb⟩; obtain ⟨a2, c2, rfl, hc2, -⟩ := id hx; replace M := Lib.hid (M.out.call hb); have HZ := Lib.hid hx; have HC2 := Lib.hid hc2; clear hx hb hc2)
          | (refine wpList_store_row rfl 129 (.tmp 6) (.tmp 16) rfl w2.heap.size (rdC (.slice a2 zs.length c2) 0) rfl rfl 129 _ (heap_alloc_new _ _) (by kernel_rfl) (by rfl) (rd_one _ _ _ _) ?_; rw [World.setRow_alloc_new]; have HA := Lib.hid (below_alloc w2 (.cells (rdC (.slice a2 zs.length c2) 0) 129)); have T6 := Lib.hid (heap_alloc_new w2 (.cells (rdC (.slice a2 zs.length c2) 0) 129)); have HG := Lib.hid (show w.heap.size + 2 ≤ w2.heap.size by have := (Array.getElem?_eq_some_iff.1 M.out.res).1; omega); replace M := Lib.hid (M.out.call HA.out); replace HZ := Lib.hid (HZ.out.below HA.out); clear HA; generalize w2.heap.size = q at *; generalize w2.alloc (.cells (rdC (.slice a2 zs.length c2) 0) 129) = w3 at *; obtain ⟨t0, t1, tf⟩ := rd_cells T6.out))
        have hnc : n ≤ c2 := Nat.le_trans HNZ.out HC2.out
        have hs2 := sliceUlo a2 zs.length c2 n HNZ.out
        have HT := Lib.hid (bytes_hi HZ.out n HNZ.out)
        have HD := Lib.hid (HZ.out.from n HNZ.out)
        obtain ⟨a4, ha4⟩ : ∃ a4, a4 = cutA a2 c2 n := ⟨_, rfl⟩
        rw [← ha4] at hs2 HD
        clear ha4
        go_upto_region 12 with (at_builtin; go_loud (refine wpList_append_bytes rfl (.tmp 42) (.tmp 46) rfl rfl w3.heap.size (.slice none 0 0) 0 [] rfl (World.ownsRow_nil _ _ _ _) _ (zs.take n) rfl HT.out (by rw [List.length_take]; omega) (Nat.le_refl _) ?_; intro vb w5 ho hg _; rw [Nat.zero_add, List.nil_append] at ho; have HVB := Lib.hid (owns_in ho (by rw [List.length_take]; unfold maxLen; omega)); have HG5 := Lib.hid ((Below.refl w3.heap.size w3).grown hg (Nat.le_refl _) (fun k hk => by cases hk)); replace M := Lib.hid (M.out.call HG5.out); replace HD := Lib.hid (HD.out.below HG5.out); replace T6 := Lib.hid ((HG5.out.block _ (Array.getElem?_eq_some_iff.1 T6.out).1).trans T6.out); clear ho hg HG5 t0 t1 tf))
        obtain ⟨t0, t1, tf⟩ := rd_cells T6.out
        have f0 := tf 0
        go_upto_region 13 with (fail)
        have HO := Lib.hid (Only.setCell w5 ⟨q, 0, none⟩ (.slice a4 (zs.length - n) (c2 - n)))
        replace M := Lib.hid (M.out.only HO.out HG.out)
        replace HD := Lib.hid (bytes_setCell2 HD.out (y := .slice a4 (zs.length - n) (c2 - n)) t0 (by simp))
        replace HVB := Lib.hid (bytes_setCell2 HVB.out (y := .slice a4 (zs.length - n) (c2 - n)) t0 (by simp))
        replace T6 := Lib.hid (show (w5.setCell ⟨q, 0, none⟩ (.slice a4 (zs.length - n) (c2 - n))).heap[q]? = some (.cells (rdC (.slice a4 (zs.length - n) (c2 - n)) 0) 129 (0, 0)) by rw [heap_setCell_same w5 q 0 _ _ _ T6.out]; rfl)
        clear t0 t1 tf f0 hs2 HO
        generalize w5.setCell ⟨q, 0, none⟩ (.slice a4 (zs.length - n) (c2 - n)) = w6 at *
        go_wp2_with (first
          | (refine wpList_load_row rfl 129 (.tmp 6) rfl q rfl 129 _ (0, 0) _ T6.out Tryz.underlying129 rfl (by kernel_rfl) ?_)
          | (refine wpList_store_row rfl 129 (.tmp 4) (.tmp 53) rfl (w.heap.size + 1) _ rfl rfl 129 _ M.out.res (by kernel_rfl) (by rfl) (rd_one _ _ _ _) ?_))
        refine bodyPost_ret (results_cell_tmp_row rfl _ _ (w.heap.size + 1) 129 (rdC _ 0) (0, 0) _ rfl (setRow_heap _ _ _ _ _ _ M.out.res) Tryz.underlying129 rfl (by kernel_rfl)) rfl ?_
        rw [HPS.out]
        have hbl := below_setRow M.out.below (Nat.le_succ _) (rdC (.slice a4 (zs.length - n) (c2 - n)) 0)
        exact ⟨_, _, rfl, bytes_row HD.out M.out.res _, bytes_row HVB.out M.out.res _, hbl⟩
end Go.Proofs.YtejglhlodfhgkaaGreatDoor
namespace Go.Proofs.YtejglhlodfhgkaaGreatDoor
set_option linter.unusedVariables false
set_option linter.unusedSimpArgs false
open Go.RowKit
set_option maxRecDepth 100000
theorem results_cell2_row {P : Program} {fn : Func} {p q : Tmp} {ty ty' : TypeId} (h : fn.results = #[.cell p ty, .cell q ty']) (tmps : Array Value) (w : World) (g g' : Nat) (t t' : TypeId) (cs cs' : Array Value) (fr fr' : Nat × Nat) (d d' : TypeDesc)
    (hp : tmps.getD p undef = .pointer (some ⟨g, 0, none⟩)) (hg : w.heap[g]? = some (.cells cs t fr)) (hu : P.underlying ty = some d) (hd : (match d with | .struct _ | .array _ _ => true | _ => false) = true) (hi : (P.info? ty).map (·.size) = some cs.size)
    (hp' : tmps.getD q undef = .pointer (some ⟨g', 0, none⟩)) (hg' : w.heap[g']? = some (.cells cs' t' fr')) (hu' : P.underlying ty' = some d') (hd' : (match d' with | .struct _ | .array _ _ => true | _ => false) = true) (hi' : (P.info? ty').map (·.size) = some cs'.size) :
    (results fn tmps).run P w = .ok (.tuple #[.agg cs, .agg cs']) w := by
  have h1 : tmps[p]?.getD undef = .pointer (some ⟨g, 0, none⟩) := by simpa using hp
  have h2 : tmps[q]?.getD undef = .pointer (some ⟨g', 0, none⟩) := by simpa using hp'
  simp [results, h, h1, h2, asAddr, run_loadVar_row w g t ty cs fr d hg hu hd hi, run_loadVar_row w g' t' ty' cs' fr' d' hg' hu' hd' hi']
theorem rdagg_yields {P : Program} {ops : Array Oper} {S : World → Prop} {op : Oper} {a : Act} (hw : Region.wanted op (yielded ops a.tmps) = true) (ty : TypeId) (x : Operand) (ho : op.op = .load ty x)
    (b : Nat) (hx : a.eval x = .pointer (some ⟨b, 0, none⟩)) (cs : Array Value) (d : TypeDesc) (hS : ∀ w, S w → w.heap[b]? = some (.cells cs ty (0, 0)))
    (hu : P.underlying ty = some d) (hd : d.isRow = true) (hi : (P.info? ty).map (·.size) = some cs.size) : YieldsIf P ops S op (.agg cs) a := by
  have h := yieldsIf_load_mid (P := P) (S := S) hw ty x ho b 0 hx cs.toList d (fun w h j v hv => by rw [Nat.zero_add, cell_of_row w b j _ ty _ (hS w h)]; simpa using hv) hu hd (by rw [hi]; simp)
  simpa using h
theorem cut_block (a : Option Addr) (c p n m n' m' : Nat) : (Value.slice (cutA a c p) n m).ownBlock = (Value.slice a n' m').ownBlock := by
  unfold cutA
  split
  · cases a <;> simp [Value.ownBlock]
  · cases a with
    | none => simp [Value.ownBlock]
    | some x =>
      simp only [Option.map_some, Value.ownBlock]
      unfold Addr.add
      split <;> rfl
def RhPost (v : Value) (r : (Nat → Int) × RSt) (w : World) (e : Ending) (w' : World) : Prop :=
  ∃ v', e = .returned (.tuple #[.agg (rdC v' (numE r.2.2)), .agg (rowOf .u8 32 r.1)]) ∧ BytesIn w' v' r.2.1 ∧ v'.ownBlock = v.ownBlock ∧ Below w.heap.size w w'
structure RhM (w w' : World) (v : Value) (e : Int) (f : Nat → Int) : Prop where
  below : Below w.heap.size w w'
  arg : w'.heap[w.heap.size]? = some (.cells (rdC v e) 129 (0, 0))
  res : w'.heap[w.heap.size + 1]? = some (.cells (rdC (.slice none 0 0) 0) 129 (0, 0))
  rh : RowAt w' (w.heap.size + 1 + 1) .u8 32 53 (fun _ => 0)
  hh : RowAt w' (w.heap.size + 1 + 1 + 1) .u8 32 53 f
theorem RhM.call {w w' w2 : World} {v : Value} {e : Int} {f : Nat → Int} (m : RhM w w' v e f) (h : Below w'.heap.size w' w2) : RhM w w2 v e f :=
  ⟨m.below.trans (h.mono m.below.size), (h.block _ (Array.getElem?_eq_some_iff.1 m.arg).1).trans m.arg, (h.block _ (Array.getElem?_eq_some_iff.1 m.res).1).trans m.res, m.rh.below h m.rh.lt, m.hh.below h m.hh.lt⟩
def rhW (w : World) (v : Value) (e : Int) : World := (((w.alloc (.cells (rdC v e) 129)).alloc (.cells (rdC (.slice none 0 0) 0) 129)).alloc (.cells (rowOf .u8 32 (fun _ => 0)) 53)).alloc (.cells (rowOf .u8 32 (fun _ => 0)) 53)
theorem rhM_start (w : World) (v : Value) (e : Int) : RhM w (rhW w v e) v e (fun _ => 0) := by
  have m := r2M_start w v e
  have s1 : ((w.alloc (.cells (rdC v e) 129)).alloc (.cells (rdC (.slice none 0 0) 0) 129)).heap.size = w.heap.size + 1 + 1 := by simp
  have b3 := below_alloc ((w.alloc (.cells (rdC v e) 129)).alloc (.cells (rdC (.slice none 0 0) 0) 129)) (.cells (rowOf .u8 32 (fun _ => 0)) 53)
  have r3 := RowAt.new ((w.alloc (.cells (rdC v e) 129)).alloc (.cells (rdC (.slice none 0 0) 0) 129)) .u8 32 53 (fun _ => 0)
  have m3 := m.call b3
  rw [s1] at r3
  have b4 := below_alloc (((w.alloc (.cells (rdC v e) 129)).alloc (.cells (rdC (.slice none 0 0) 0) 129)).alloc (.cells (rowOf .u8 32 (fun _ => 0)) 53)) (.cells (rowOf .u8 32 (fun _ => 0)) 53)
  have r4 := RowAt.new (((w.alloc (.cells (rdC v e) 129)).alloc (.cells (rdC (.slice none 0 0) 0) 129)).alloc (.cells (rowOf .u8 32 (fun _ => 0)) 53)) .u8 32 53 (fun _ => 0)
  rw [show (((w.alloc (.cells (rdC v e) 129)).alloc (.cells (rdC (.slice none 0 0) 0) 129)).alloc (.cells (rowOf .u8 32 (fun _ => 0)) 53)).heap.size = w.heap.size + 1 + 1 + 1 by simp] at r4
  have m4 := m3.call b4
  exact ⟨m4.below, m4.arg, m4.res, r3.below b4 r3.lt, r4⟩
theorem RhM.put {w w' : World} {v : Value} {e : Int} {f : Nat → Int} (m : RhM w w' v e f) (cs : Array Value) : Below w.heap.size w (w'.setRow (w.heap.size + 1) cs) ∧ (w'.setRow (w.heap.size + 1) cs).heap[w.heap.size]? = some (.cells (rdC v e) 129 (0, 0)) ∧ RowAt (w'.setRow (w.heap.size + 1) cs) (w.heap.size + 1 + 1 + 1) .u8 32 53 f ∧ RowAt (w'.setRow (w.heap.size + 1) cs) (w.heap.size + 1 + 1) .u8 32 53 (fun _ => 0) ∧ (w'.setRow (w.heap.size + 1) cs).heap[w.heap.size + 1]? = some (.cells cs 129 (0, 0)) :=
  ⟨below_setRow m.below (by omega) _, (setRow_other _ _ _ _ (by omega)).trans m.arg, (setRow_other _ _ _ _ (by omega)).trans m.hh, (setRow_other _ _ _ _ (by omega)).trans m.rh, setRow_heap _ _ _ _ _ _ m.res⟩
theorem rhash2_err (v : Value) (ys : List Int) (x : Nat) (hx0 : 0 < x) (w : World) (hy : BytesIn w v ys) : Calls Tryz.prog 95 #[.agg (rdC v (x : Int))] w (RhPost v (hashS (ys, some x)) w) := by
  obtain ⟨a, c, rfl, -⟩ := id hy
  have M := Lib.hid (rhM_start w (.slice a ys.length c) (x : Int))
  have HY := Lib.hid hy
  have hne : ((x : Int) != 0) = true := by simp; omega
  clear hy
  go_enter Tryz.func95, Tryz.ntmps95
  go_upto_region 2 with (fail)
  rw [← r2_zero, zeros32]
  rw [show (((w.alloc (.cells (rdC (.slice a ys.length c) (x : Int)) 129)).alloc (.cells (rdC (.slice none 0 0) 0) 129)).alloc (.cells (rowOf .u8 32 (fun _ => 0)) 53)).alloc (.cells (rowOf .u8 32 (fun _ => 0)) 53) = rhW w (.slice a ys.length c) (x : Int) from rfl]
  generalize rhW w (.slice a ys.length c) (x : Int) = w1 at *
  obtain ⟨c0, c1, -⟩ := rd_cells M.out.arg
  go_upto_region 3 with (fail)
  clear c0 c1
  refine wp_region_T (fun w' => w'.heap[w.heap.size]? = some (.cells (rdC (.slice a ys.length c) (x : Int)) 129 (0, 0)) ∧ RowAt w' (w.heap.size + 1 + 1 + 1) .u8 32 53 (fun _ => 0)) [0, 1, 2] (by kernel_rfl) ?_
  replace M := Lib.hid (M.out.call (Below.refl _ _).drew)
  generalize w1.drew = w2 at *
  refine anyT_take [2, 3] (i := 0) (v := .agg (rdC (.slice a ys.length c) (x : Int))) rfl (by kernel_rfl) (by kernel_rfl) (by kernel_rfl) (fun _ _ _ h => h) (by kernel_rfl) (rdagg_yields (by rfl) 129 (.tmp 1) rfl w.heap.size rfl _ _ (fun _ h => h.1) Tryz.underlying129 rfl (by kernel_rfl)) ⟨M.out.arg, M.out.hh⟩ ?_
  try simp only [List.getElem_toArray, List.getElem_cons_succ, List.getElem_cons_zero, Act.put, List.setIfInBounds_toArray, List.set_cons_zero, List.set_cons_succ]
  refine anyT_take [3] (i := 1) (v := .agg (rowOf .u8 32 (fun _ => 0))) rfl (by kernel_rfl) (by kernel_rfl) (by kernel_rfl) (fun _ _ _ h => h) (by kernel_rfl) (row_yields (by rfl) 53 (.tmp 4) rfl (w.heap.size + 1 + 1 + 1) rfl .u8 32 (fun _ => 0) _ (fun _ h => h.2) Tryz.underlying53 rfl (by kernel_rfl)) ⟨M.out.arg, M.out.hh⟩ ?_
  try simp only [List.getElem_toArray, List.getElem_cons_succ, List.getElem_cons_zero, Act.put, List.setIfInBounds_toArray, List.set_cons_zero, List.set_cons_succ]
  refine anyT_one (i := 2) (by kernel_rfl) rfl (fun K hK => ?_)
  rw [if_pos (by rfl)]
  try simp only [List.getElem_toArray, List.getElem_cons_succ, List.getElem_cons_zero]
  (refine wp_store_row 129 (.tmp 2) (.tmp 8) rfl (w.heap.size + 1) (rdC (.slice a ys.length c) (x : Int)) rfl rfl 129 _ M.out.res (by kernel_rfl) (by rfl) (rd_one _ _ _ _) ?_; have P := Lib.hid (M.out.put (rdC (.slice a ys.length c) (x : Int))); generalize w2.setRow (w.heap.size + 1) (rdC (.slice a ys.length c) (x : Int)) = w3 at *)
  refine hK _ _ (fun _ => ⟨P.out.2.1, P.out.2.2.1⟩) ?_
  clear hK K
  try simp only [List.getElem_toArray, List.getElem_cons_succ, List.getElem_cons_zero, Act.put, List.setIfInBounds_toArray, List.set_cons_zero, List.set_cons_succ]
  refine anyT_one (i := 3) (by kernel_rfl) rfl (fun K hK => ?_)
  rw [if_pos (by rfl)]
  try simp only [List.getElem_toArray, List.getElem_cons_succ, List.getElem_cons_zero]
  (refine wp_store_row 53 (.tmp 3) (.tmp 9) rfl (w.heap.size + 1 + 1) (rowOf .u8 32 (fun _ => 0)) rfl rfl 53 _ P.out.2.2.2.1 (by rw [rowOf_size]; kernel_rfl) (by rw [rowOf_size]) (rowOf_one _ _ _) ?_)
  refine hK _ _ (not_mem rfl) ?_
  clear hK K
  try simp only [List.getElem_toArray, List.getElem_cons_succ, List.getElem_cons_zero, Act.put, List.setIfInBounds_toArray, List.set_cons_zero, List.set_cons_succ]
  refine anyT_done (by kernel_rfl) ?_ _
  go_wp2_with (fail)
  have hb : Below w.heap.size w (w3.setRow (w.heap.size + 1 + 1) (rowOf .u8 32 (fun _ => 0))) := below_setRow P.out.1 (by omega) _
  refine bodyPost_ret (results_cell2_row rfl _ _ (w.heap.size + 1) (w.heap.size + 1 + 1) 129 53 _ _ (0, 0) (0, 0) _ _ rfl ((setRow_other _ _ _ _ (by omega)).trans P.out.2.2.2.2) Tryz.underlying129 rfl (by kernel_rfl) rfl (setRow_heap _ _ _ _ _ _ P.out.2.2.2.1) Tryz.underlying53 rfl (by rw [rowOf_size]; kernel_rfl)) rfl ?_
  rw [hashS_err]
  exact ⟨_, rfl, HY.out.below hb, rfl, hb⟩
theorem rhash2_short (v : Value) (ys : List Int) (w : World) (hy : BytesIn w v ys) (hs : ys.length < 32) : Calls Tryz.prog 95 #[.agg (rdC v 0)] w (RhPost v (hashS (ys, none)) w) := by
  obtain ⟨a, c, rfl, -⟩ := id hy
  have M := Lib.hid (rhM_start w (.slice a ys.length c) 0)
  have HY := Lib.hid hy
  have HF := Lib.hid (show ∀ w, Calls Tryz.prog 139 #[.agg (rdC (.slice a ys.length c) 0), .int .i64 12] w fun r w' => r = .returned (.agg (rdC (.slice a ys.length c) 12)) ∧ Below w.heap.size w w' from fun w => by
    have h := rfail_any a ys.length c 0 12 w
    rw [if_pos rfl] at h
    exact h)
  have HH := Lib.hid (hashS_short hs)
  have hs1 : (ys.length : Int) < 32 := by omega
  clear hy hs
  go_enter Tryz.func95, Tryz.ntmps95
  go_upto_region 2 with (fail)
  rw [← r2_zero, zeros32]
  rw [show (((w.alloc (.cells (rdC (.slice a ys.length c) 0) 129)).alloc (.cells (rdC (.slice none 0 0) 0) 129)).alloc (.cells (rowOf .u8 32 (fun _ => 0)) 53)).alloc (.cells (rowOf .u8 32 (fun _ => 0)) 53) = rhW w (.slice a ys.length c) 0 from rfl]
  generalize rhW w (.slice a ys.length c) 0 = w1 at *
  obtain ⟨c0, c1, -⟩ := rd_cells M.out.arg
  go_upto_region 5 with (fail)
  clear c0 c1
  refine wp_region_T (fun w' => w'.heap[w.heap.size]? = some (.cells (rdC (.slice a ys.length c) 0) 129 (0, 0)) ∧ RowAt w' (w.heap.size + 1 + 1 + 1) .u8 32 53 (fun _ => 0)) [0, 1, 2, 3] (by kernel_rfl) ?_
  replace M := Lib.hid (M.out.call (Below.refl _ _).drew)
  generalize w1.drew = w2 at *
  refine anyT_take [1, 3, 4] (i := 0) (v := .agg (rdC (.slice a ys.length c) 0)) rfl (by kernel_rfl) (by kernel_rfl) (by kernel_rfl) (fun _ _ _ h => h) (by kernel_rfl) (rdagg_yields (by rfl) 129 (.tmp 1) rfl w.heap.size rfl _ _ (fun _ h => h.1) Tryz.underlying129 rfl (by kernel_rfl)) ⟨M.out.arg, M.out.hh⟩ ?_
  try simp only [List.getElem_toArray, List.getElem_cons_succ, List.getElem_cons_zero, Act.put, List.setIfInBounds_toArray, List.set_cons_zero, List.set_cons_succ]
  refine anyT_take [4] (i := 2) (v := .agg (rowOf .u8 32 (fun _ => 0))) rfl (by kernel_rfl) (by kernel_rfl) (by kernel_rfl) (fun _ _ _ h => h) (by kernel_rfl) (row_yields (by rfl) 53 (.tmp 4) rfl (w.heap.size + 1 + 1 + 1) rfl .u8 32 (fun _ => 0) _ (fun _ h => h.2) Tryz.underlying53 rfl (by kernel_rfl)) ⟨M.out.arg, M.out.hh⟩ ?_
  try simp only [List.getElem_toArray, List.getElem_cons_succ, List.getElem_cons_zero, Act.put, List.setIfInBounds_toArray, List.set_cons_zero, List.set_cons_succ]
  refine anyT_one (i := 1) (by kernel_rfl) rfl (fun K hK => ?_)
  rw [if_pos (by rfl)]
  try simp only [List.getElem_toArray, List.getElem_cons_succ, List.getElem_cons_zero]
  (go_simp; refine (HF.out _).mono ?_; rintro e w3 ⟨rfl, hb⟩; replace M := Lib.hid (M.out.call hb); clear hb)
  refine hK _ _ (fun _ => ⟨M.out.arg, M.out.hh⟩) ?_
  clear hK K
  try simp only [List.getElem_toArray, List.getElem_cons_succ, List.getElem_cons_zero, Act.put, List.setIfInBounds_toArray, List.set_cons_zero, List.set_cons_succ]
  refine anyT_one (i := 3) (by kernel_rfl) rfl (fun K hK => ?_)
  rw [if_pos (by rfl)]
  try simp only [List.getElem_toArray, List.getElem_cons_succ, List.getElem_cons_zero]
  (refine wp_store_row 129 (.tmp 2) (.tmp 15) rfl (w.heap.size + 1) (rdC (.slice a ys.length c) 12) rfl rfl 129 _ M.out.res (by kernel_rfl) (by rfl) (rd_one _ _ _ _) ?_; have P := Lib.hid (M.out.put (rdC (.slice a ys.length c) 12)); generalize w3.setRow (w.heap.size + 1) (rdC (.slice a ys.length c) 12) = w4 at *)
  refine hK _ _ (fun _ => ⟨P.out.2.1, P.out.2.2.1⟩) ?_
  clear hK K
  try simp only [List.getElem_toArray, List.getElem_cons_succ, List.getElem_cons_zero, Act.put, List.setIfInBounds_toArray, List.set_cons_zero, List.set_cons_succ]
  refine anyT_one (i := 4) (by kernel_rfl) rfl (fun K hK => ?_)
  rw [if_pos (by rfl)]
  try simp only [List.getElem_toArray, List.getElem_cons_succ, List.getElem_cons_zero]
  (refine wp_store_row 53 (.tmp 3) (.tmp 16) rfl (w.heap.size + 1 + 1) (rowOf .u8 32 (fun _ => 0)) rfl rfl 53 _ P.out.2.2.2.1 (by rw [rowOf_size]; kernel_rfl) (by rw [rowOf_size]) (rowOf_one _ _ _) ?_)
  refine hK _ _ (not_mem rfl) ?_
  clear hK K
  try simp only [List.getElem_toArray, List.getElem_cons_succ, List.getElem_cons_zero, Act.put, List.setIfInBounds_toArray, List.set_cons_zero, List.set_cons_succ]
  refine anyT_done (by kernel_rfl) ?_ _
  go_wp2_with (fail)
  have hb : Below w.heap.size w (w4.setRow (w.heap.size + 1 + 1) (rowOf .u8 32 (fun _ => 0))) := below_setRow P.out.1 (by omega) _
  refine bodyPost_ret (results_cell2_row rfl _ _ (w.heap.size + 1) (w.heap.size + 1 + 1) 129 53 _ _ (0, 0) (0, 0) _ _ rfl ((setRow_other _ _ _ _ (by omega)).trans P.out.2.2.2.2) Tryz.underlying129 rfl (by kernel_rfl) rfl (setRow_heap _ _ _ _ _ _ P.out.2.2.2.1) Tryz.underlying53 rfl (by rw [rowOf_size]; kernel_rfl)) rfl ?_
  rw [HH.out]
  exact ⟨_, rfl, HY.out.below hb, rfl, hb⟩
theorem RhM.copied {w w' : World} {v : Value} {e : Int} {f : Nat → Int} (m : RhM w w' v e f) (f2 : Nat → Int) : RhM w (w'.setRow (w.heap.size + 1 + 1 + 1) (rowOf .u8 32 f2)) v e f2 :=
  ⟨below_setRow m.below (by omega) _, (setRow_other _ _ _ _ (by omega)).trans m.arg, (setRow_other _ _ _ _ (by omega)).trans m.res, (setRow_other _ _ _ _ (by omega)).trans m.rh, setRow_heap _ _ _ _ _ _ m.hh⟩
theorem RhM.set {w w' : World} {v v' : Value} {e : Int} {f : Nat → Int} (m : RhM w w' v e f) : RhM w (w'.setCell ⟨w.heap.size, 0, none⟩ v') v' e f := by
  have hO := Only.setCell w' ⟨w.heap.size, 0, none⟩ v'
  exact ⟨m.below.trans (hO.below (Nat.le_refl _) m.below.size), by rw [heap_setCell_same w' _ 0 _ _ _ m.arg]; rfl, (hO.block _ (Array.getElem?_eq_some_iff.1 m.res).1 (by show _ ≠ w.heap.size; omega)).trans m.res, (hO.block _ m.rh.lt (by show _ ≠ w.heap.size; omega)).trans m.rh, (hO.block _ m.hh.lt (by show _ ≠ w.heap.size; omega)).trans m.hh⟩
set_option maxHeartbeats 1000000 in
theorem rhash2_long (v : Value) (ys : List Int) (w : World) (hy : BytesIn w v ys) (hs : ¬ ys.length < 32) : Calls Tryz.prog 95 #[.agg (rdC v 0)] w (RhPost v (hashS (ys, none)) w) := by
  obtain ⟨a, c, rfl, hc, hm, hx⟩ := id hy
  obtain ⟨ab, ao, rfl, hx2⟩ := hx.resolve_left (fun h0 => by rw [h0] at hs; simp at hs)
  have M := Lib.hid (rhM_start w (.slice (some ⟨ab, ao, none⟩) ys.length c) 0)
  have HY := Lib.hid hy
  have HX := Lib.hid hx2
  have HH := Lib.hid (hashS_long hs)
  have hs1 : ¬ (ys.length : Int) < 32 := by omega
  have HS := Lib.hid hs
  obtain ⟨a, ha⟩ : ∃ a : Option Addr, a = some ⟨ab, ao, none⟩ := ⟨_, rfl⟩
  rw [← ha] at HY M ⊢
  have HA := Lib.hid ha
  clear hy hs hx hx2 ha
  go_enter Tryz.func95, Tryz.ntmps95
  go_upto_region 2 with (fail)
  rw [← r2_zero, zeros32]
  rw [show (((w.alloc (.cells (rdC (.slice a ys.length c) 0) 129)).alloc (.cells (rdC (.slice none 0 0) 0) 129)).alloc (.cells (rowOf .u8 32 (fun _ => 0)) 53)).alloc (.cells (rowOf .u8 32 (fun _ => 0)) 53) = rhW w (.slice a ys.length c) 0 from rfl]
  generalize rhW w (.slice a ys.length c) 0 = w1 at *
  obtain ⟨c0, c1, -⟩ := rd_cells M.out.arg
  go_upto_region 6 with (fail)
  refine wp_region_T (fun w' => w'.heap[w.heap.size]? = some (.cells (rdC (.slice a ys.length c) 0) 129 (0, 0))) [2] (by kernel_rfl) ?_
  replace M := Lib.hid (M.out.call (Below.refl _ _).drew)
  clear c0 c1
  generalize w1.drew = w2 at *
  have hcp := run_copy_row (P := Tryz.prog) w2 25 25 3 5 (w.heap.size + 1 + 1 + 1) 0 32 32 ⟨ab, ao, none⟩ ys.length c _ 53 (byteVals (ys.take 32)) Tryz.underlying25 (by kernel_rfl) M.out.hh (by rw [byteVals_length, List.length_take]; have := HS.out; show min 32 ys.length = min ys.length 32; omega) (fun j v hv => by
    rw [Addr.add_mid]
    simp only [byteVals, List.getElem?_map] at hv
    cases hj : (ys.take 32)[j]? with
    | none => rw [hj] at hv; cases hv
    | some x =>
      rw [hj] at hv; cases hv
      have hj32 : j < 32 := by have := (List.getElem?_eq_some_iff.1 hj).1; rw [List.length_take] at this; omega
      rw [List.getElem?_take, if_pos hj32] at hj
      have h1 := HX.out j x hj
      exact (M.out.below.cell (p := ⟨ab, ao + j, none⟩) (World.block_lt_of_cell? w _ h1)).trans h1) (by rw [byteVals_length, List.length_take, rowOf_size]; omega) (byteVals_one _)
  rw [copied32 _ ys HS.out, ← HA.out] at hcp
  have HCP := Lib.hid hcp
  clear hcp
  refine anyT_takeY (i := 0) (v := .slice (some ⟨w.heap.size + 1 + 1 + 1, 0, none⟩) 32 32) rfl (by kernel_rfl) (by kernel_rfl) (by kernel_rfl) (fun _ _ _ h => h) (by kernel_rfl) (Or.inl ⟨by rfl, by intro w; go_simp⟩) ?_
  try simp only [List.getElem_toArray, List.getElem_cons_succ, List.getElem_cons_zero, Act.put, List.setIfInBounds_toArray, List.set_cons_zero, List.set_cons_succ]
  refine anyT_takeY (i := 1) (v := .pointer (some ⟨w.heap.size, 0, none⟩)) rfl (by kernel_rfl) (by kernel_rfl) (by kernel_rfl) (fun _ _ _ h => h) (by kernel_rfl) (Or.inl ⟨by rfl, by intro w; go_simp⟩) ?_
  try simp only [List.getElem_toArray, List.getElem_cons_succ, List.getElem_cons_zero, Act.put, List.setIfInBounds_toArray, List.set_cons_zero, List.set_cons_succ]
  refine anyT_take [3] (i := 2) (v := .slice a ys.length c) rfl (by kernel_rfl) (by kernel_rfl) (by kernel_rfl) (fun _ _ _ h => h) (by kernel_rfl) (Or.inl ⟨by rfl, fun w' hS => by obtain ⟨c0, -, -⟩ := rd_cells hS; go_simp⟩) M.out.arg ?_
  try simp only [List.getElem_toArray, List.getElem_cons_succ, List.getElem_cons_zero, Act.put, List.setIfInBounds_toArray, List.set_cons_zero, List.set_cons_succ]
  refine anyT_one (i := 3) (by kernel_rfl) rfl (fun K hK => ?_)
  rw [if_pos (by rfl)]
  try simp only [List.getElem_toArray, List.getElem_cons_succ, List.getElem_cons_zero]
  (refine wp_copy_at w2 (.tmp 17) (.tmp 19) 25 25 rfl rfl _ _ rfl rfl HCP.out ?_; replace M := Lib.hid (M.out.copied (fun i => ys.getD i 0)); clear HCP; generalize w2.setRow (w.heap.size + 1 + 1 + 1) (rowOf .u8 32 (fun i => ys.getD i 0)) = w3 at *)
  refine hK _ _ (not_mem rfl) ?_
  clear hK K
  try simp only [List.getElem_toArray, List.getElem_cons_succ, List.getElem_cons_zero, Act.put, List.setIfInBounds_toArray, List.set_cons_zero, List.set_cons_succ]
  refine anyT_done (by kernel_rfl) ?_ _
  obtain ⟨c0, c1, cf⟩ := rd_cells M.out.arg
  have f0 := cf 0
  have hsl := sliceBlo a ys.length c 32 (by have := HS.out; omega)
  rw [show ((32 : Nat) : Int) = 32 from rfl] at hsl
  have HYD := Lib.hid (HY.out.from 32 (by have := HS.out; omega))
  obtain ⟨a2, ha2⟩ : ∃ a2, a2 = cutA a c 32 := ⟨_, rfl⟩
  have HOB := Lib.hid (show (Value.slice a2 (ys.length - 32) (c - 32)).ownBlock = (Value.slice a ys.length c).ownBlock by rw [ha2]; exact cut_block _ _ _ _ _ _ _)
  rw [← ha2] at hsl HYD
  clear ha2
  go_upto_region 8 with (fail)
  replace M := Lib.hid (M.out.set (v' := .slice a2 (ys.length - 32) (c - 32)))
  clear c0 c1 cf f0 hsl
  generalize w3.setCell ⟨w.heap.size, 0, none⟩ (.slice a2 (ys.length - 32) (c - 32)) = w4 at *
  refine wp_region_T (fun w' => w'.heap[w.heap.size]? = some (.cells (rdC (.slice a2 (ys.length - 32) (c - 32)) 0) 129 (0, 0)) ∧ RowAt w' (w.heap.size + 1 + 1 + 1) .u8 32 53 (fun i => ys.getD i 0)) [0, 1, 2] (by kernel_rfl) ?_
  replace M := Lib.hid (M.out.call (Below.refl _ _).drew)
  generalize w4.drew = w5 at *
  refine anyT_take [2, 3] (i := 0) (v := .agg (rdC (.slice a2 (ys.length - 32) (c - 32)) 0)) rfl (by kernel_rfl) (by kernel_rfl) (by kernel_rfl) (fun _ _ _ h => h) (by kernel_rfl) (rdagg_yields (by rfl) 129 (.tmp 1) rfl w.heap.size rfl _ _ (fun _ h => h.1) Tryz.underlying129 rfl (by kernel_rfl)) ⟨M.out.arg, M.out.hh⟩ ?_
  try simp only [List.getElem_toArray, List.getElem_cons_succ, List.getElem_cons_zero, Act.put, List.setIfInBounds_toArray, List.set_cons_zero, List.set_cons_succ]
  refine anyT_take [3] (i := 1) (v := .agg (rowOf .u8 32 (fun i => ys.getD i 0))) rfl (by kernel_rfl) (by kernel_rfl) (by kernel_rfl) (fun _ _ _ h => h) (by kernel_rfl) (row_yields (by rfl) 53 (.tmp 4) rfl (w.heap.size + 1 + 1 + 1) rfl .u8 32 (fun i => ys.getD i 0) _ (fun _ h => h.2) Tryz.underlying53 rfl (by kernel_rfl)) ⟨M.out.arg, M.out.hh⟩ ?_
  try simp only [List.getElem_toArray, List.getElem_cons_succ, List.getElem_cons_zero, Act.put, List.setIfInBounds_toArray, List.set_cons_zero, List.set_cons_succ]
  refine anyT_one (i := 2) (by kernel_rfl) rfl (fun K hK => ?_)
  rw [if_pos (by rfl)]
  try simp only [List.getElem_toArray, List.getElem_cons_succ, List.getElem_cons_zero]
  (refine wp_store_row 129 (.tmp 2) (.tmp 25) rfl (w.heap.size + 1) (rdC (.slice a2 (ys.length - 32) (c - 32)) 0) rfl rfl 129 _ M.out.res (by kernel_rfl) (by rfl) (rd_one _ _ _ _) ?_; have P := Lib.hid (M.out.put (rdC (.slice a2 (ys.length - 32) (c - 32)) 0)); generalize w5.setRow (w.heap.size + 1) (rdC (.slice a2 (ys.length - 32) (c - 32)) 0) = w6 at *)
  refine hK _ _ (fun _ => ⟨P.out.2.1, P.out.2.2.1⟩) ?_
  clear hK K
  try simp only [List.getElem_toArray, List.getElem_cons_succ, List.getElem_cons_zero, Act.put, List.setIfInBounds_toArray, List.set_cons_zero, List.set_cons_succ]
  refine anyT_one (i := 3) (by kernel_rfl) rfl (fun K hK => ?_)
  rw [if_pos (by rfl)]
  try simp only [List.getElem_toArray, List.getElem_cons_succ, List.getElem_cons_zero]
  (refine wp_store_row 53 (.tmp 3) (.tmp 26) rfl (w.heap.size + 1 + 1) (rowOf .u8 32 (fun i => ys.getD i 0)) rfl rfl 53 _ P.out.2.2.2.1 (by rw [rowOf_size]; kernel_rfl) (by rw [rowOf_size, rowOf_size]) (rowOf_one _ _ _) ?_)
  refine hK _ _ (not_mem rfl) ?_
  clear hK K
  try simp only [List.getElem_toArray, List.getElem_cons_succ, List.getElem_cons_zero, Act.put, List.setIfInBounds_toArray, List.set_cons_zero, List.set_cons_succ]
  refine anyT_done (by kernel_rfl) ?_ _
  go_wp2_with (fail)
  have hb : Below w.heap.size w (w6.setRow (w.heap.size + 1 + 1) (rowOf .u8 32 (fun i => ys.getD i 0))) := below_setRow P.out.1 (by omega) _
  refine bodyPost_ret (results_cell2_row rfl _ _ (w.heap.size + 1) (w.heap.size + 1 + 1) 129 53 _ _ (0, 0) (0, 0) _ _ rfl ((setRow_other _ _ _ _ (by omega)).trans P.out.2.2.2.2) Tryz.underlying129 rfl (by kernel_rfl) rfl (setRow_heap _ _ _ _ _ _ P.out.2.2.2.1) Tryz.underlying53 rfl (by rw [rowOf_size]; kernel_rfl)) rfl ?_
  rw [HH.out]
  exact ⟨_, rfl, HYD.out.below hb, HOB.out, hb⟩
theorem rhash2_any (v : Value) (ys : List Int) (e : Option Nat) (he : e ≠ some 0) (w : World) (hy : BytesIn w v ys) : Calls Tryz.prog 95 #[.agg (rdC v (numE e))] w (RhPost v (hashS (ys, e)) w) := by
  rcases numE_ne he with rfl | ⟨x, rfl, hx, hx0⟩
  · by_cases hs : ys.length < 32
    · exact rhash2_short v ys w hy hs
    · exact rhash2_long v ys w hy hs
  · exact rhash2_err v ys x hx0 w hy
end Go.Proofs.YtejglhlodfhgkaaGreatDoor
namespace Go.Proofs.YtejglhlodfhgkaaGreatDoor
set_option linter.unusedVariables false
set_option linter.unusedSimpArgs false
open Go.RowKit
set_option maxRecDepth 100000
theorem rdone2_any (v : Value) (ys : List Int) (e : Option Nat) (he : e ≠ some 0) (w : World) (hy : BytesIn w v ys) (hl : ys.length ≤ 140737488355328) : Calls Tryz.prog 72 #[.agg (rdC v (numE e))] w fun r w' => r = .returned (.int .i64 (numE (doneE (ys, e)))) ∧ Below w.heap.size w w' := by
  obtain ⟨a, c, rfl, -⟩ := id hy
  have HB := Lib.hid (below_alloc w (.cells (rdC (.slice a ys.length c) (numE e)) 129))
  obtain ⟨c0, c1, -⟩ := rd_cells (heap_alloc_new w (.cells (rdC (.slice a ys.length c) (numE e)) 129))
  cases e with
  | some x =>
    have hx : x ≠ 0 := fun h => he (by rw [h])
    have hne : ((x : Int) == 0) = false := by simp; omega
    rw [show numE (some x) = (x : Int) from rfl] at *
    clear hx he hy
    go_enter Tryz.func72, Tryz.ntmps72
    go_wp2_with (fail)
    go_ret
    exact ⟨rfl, HB.out⟩
  | none =>
    rw [show numE none = 0 from rfl] at *
    by_cases h : 0 < ys.length
    · have q1 : decide ((0 : Int) < (ys.length : Int)) = true := by simp; omega
      have q2 : decide (0 < ys.length) = true := by simpa using h
      have HD := Lib.hid (show doneE (ys, none) = some 3 by unfold doneE; simp only; rw [if_pos h])
      clear h he hy
      go_enter Tryz.func72, Tryz.ntmps72
      go_wp2_with (fail)
      go_ret
      rw [HD.out]
      exact ⟨rfl, HB.out⟩
    · have q1 : decide ((0 : Int) < (ys.length : Int)) = false := decide_eq_false (by omega)
      have q2 : decide (0 < ys.length) = false := decide_eq_false h
      have HD := Lib.hid (show doneE (ys, none) = none by unfold doneE; simp only; rw [if_neg h])
      clear h he hy
      go_enter Tryz.func72, Tryz.ntmps72
      go_wp2_with (fail)
      go_ret
      rw [HD.out]
      exact ⟨rfl, HB.out⟩
theorem rcheck_any (D E : Int) (w : World) : Calls Tryz.prog 76 #[.agg (parC D E)] w fun e w' => e = .returned (.int .i64 (numE (ckR D E))) ∧ Below w.heap.size w w' := by
  obtain ⟨c0, c1⟩ := par_cells w D E
  unfold parC at c0 c1 ⊢
  have HB := Lib.hid (below_alloc w (.cells #[.int .i64 D, .int .i64 E] 57))
  rcases (by omega : D < 1 ∨ (¬ D < 1 ∧ 32 < D) ∨ (¬ D < 1 ∧ ¬ 32 < D ∧ E < 0) ∨ (¬ D < 1 ∧ ¬ 32 < D ∧ ¬ E < 0 ∧ 10 < E) ∨ (¬ D < 1 ∧ ¬ 32 < D ∧ ¬ E < 0 ∧ ¬ 10 < E)) with h | ⟨h1, h⟩ | ⟨h1, h2, h⟩ | ⟨h1, h2, h3, h⟩ | ⟨h1, h2, h3, h⟩
  · have HR := Lib.hid (show ckR D E = some 20 by unfold ckR; rw [if_neg (by unfold kOk; omega)])
    go_enter Tryz.func76, Tryz.ntmps76
    go_wp2_with (fail)
    go_ret
    exact ⟨by rw [HR.out]; rfl, HB.out⟩
  · have HR := Lib.hid (show ckR D E = some 20 by unfold ckR; rw [if_neg (by unfold kOk; omega)])
    go_enter Tryz.func76, Tryz.ntmps76
    go_wp2_with (fail)
    go_ret
    exact ⟨by rw [HR.out]; rfl, HB.out⟩
  · have HR := Lib.hid (show ckR D E = some 20 by unfold ckR; rw [if_neg (by unfold kOk; omega)])
    go_enter Tryz.func76, Tryz.ntmps76
    go_wp2_with (fail)
    go_ret
    exact ⟨by rw [HR.out]; rfl, HB.out⟩
  · have HR := Lib.hid (show ckR D E = some 20 by unfold ckR; rw [if_neg (by unfold kOk; omega)])
    go_enter Tryz.func76, Tryz.ntmps76
    go_wp2_with (fail)
    go_ret
    exact ⟨by rw [HR.out]; rfl, HB.out⟩
  · have HR := Lib.hid (show ckR D E = none by unfold ckR; rw [if_pos (by unfold kOk; omega)])
    go_enter Tryz.func76, Tryz.ntmps76
    go_wp2_with (fail)
    go_ret
    exact ⟨by rw [HR.out]; rfl, HB.out⟩
end Go.Proofs.YtejglhlodfhgkaaGreatDoor
namespace Go.Proofs.YtejglhlodfhgkaaGreatDoor
set_option linter.unusedVariables false
set_option linter.unusedSimpArgs false
open Go.RowKit
set_option maxRecDepth 100000
theorem bytes_setCellR {w : World} {v : Value} {xs : List Int} (h : BytesIn w v xs) {g i : Nat} {x y : Value} (hc : w.cell? ⟨g, i, none⟩ = some x) (hx : ∀ n, x ≠ .int .u8 n) : BytesIn (w.setCell ⟨g, i, none⟩ y) v xs := by
  obtain ⟨a, c, rfl, h1, h2, h3⟩ := h
  refine ⟨a, c, rfl, h1, h2, ?_⟩
  rcases h3 with h3 | ⟨ab, ao, rfl, h3⟩
  · exact .inl h3
  · right
    refine ⟨ab, ao, rfl, fun j z hz => ?_⟩
    have h4 := h3 j z hz
    rw [World.cell?_setCell_other _ _ _ _ (fun e => by rw [← e, hc] at h4; injection h4 with h4; exact hx z h4)]
    exact h4
theorem bytes_rowG {w : World} {v : Value} {xs : List Int} (h : BytesIn w v xs) {g : Nat} {old : Array Value} {T : TypeId} (hg : w.heap[g]? = some (.cells old T (0, 0))) (hno : ∀ (i : Nat) (n : Int), old[i]? ≠ some (.int .u8 n)) (cs : Array Value) : BytesIn (w.setRow g cs) v xs := by
  obtain ⟨a, c, rfl, h1, h2, h3⟩ := h
  refine ⟨a, c, rfl, h1, h2, ?_⟩
  rcases h3 with h3 | ⟨ab, ao, rfl, h3⟩
  · exact .inl h3
  · right
    refine ⟨ab, ao, rfl, fun i y hi => ?_⟩
    have h4 := h3 i y hi
    have hne : ab ≠ g := fun e => by
      subst e
      rw [cell_of_row _ _ _ _ _ _ hg] at h4
      exact hno _ _ h4
    unfold World.cell? at h4 ⊢
    rw [setRow_other w g ab cs hne]
    exact h4
theorem rdC_no (a : Option Addr) (n c : Nat) (e : Int) (i : Nat) (m : Int) : (rdC (.slice a n c) e)[i]? ≠ some (.int .u8 m) := by
  unfold rdC
  match i with
  | 0 => simp
  | 1 => simp
  | n + 2 => simp
theorem sgC_no (leaf : Nat) (a b : Option Addr) (n c m d : Nat) (i : Nat) (x : Int) : (sgC leaf (.slice a n c) (.slice b m d))[i]? ≠ some (.int .u8 x) := by
  unfold sgC
  match i with
  | 0 => simp
  | 1 => simp
  | 2 => simp
  | n + 3 => simp
theorem partS_fine (s : RSt) (most : Nat) (h : s.2 ≠ some 0) (hb : bytesOk s.1) : (partS s most).2.2 ≠ some 0 ∧ bytesOk (partS s most).2.1 ∧ (partS s most).2.1.length ≤ s.1.length := by
  obtain ⟨ys, e⟩ := s
  unfold partS
  cases e with
  | some x => exact ⟨h, hb, Nat.le_refl _⟩
  | none =>
    simp only
    rw [if_neg (by omega)]
    have h0 := rdF_no0 ys 18446744073709551615
    cases hr : (rdF ys 18446744073709551615).2.2 with
    | some x => rw [hr] at h0; exact ⟨h0, hb, Nat.le_refl _⟩
    | none =>
      simp only
      split
      · exact ⟨by simp, hb, Nat.le_refl _⟩
      · split
        · exact ⟨by simp, hb, Nat.le_refl _⟩
        · refine ⟨by simp, bytesOk_drop (bytesOk_drop hb _) _, ?_⟩
          simp only [List.length_drop]
          omega
theorem hashS_fine (s : RSt) (h : s.2 ≠ some 0) : (hashS s).2.2 ≠ some 0 := by
  obtain ⟨ys, e⟩ := s
  cases e with
  | some x => exact h
  | none =>
    unfold hashS
    simp only
    split <;> simp
theorem hashesS_fine (s : RSt) (h : s.2 ≠ some 0) : ∀ k, (hashesS s k).2.2 ≠ some 0
  | 0 => h
  | k + 1 => hashS_fine _ (hashesS_fine s h k)
theorem sig6_cells {w : World} {q leaf : Nat} {vo vp : Value} (h : w.heap[q]? = some (.cells (sgC leaf vo vp) 232 (0, 0))) : w.cell? ⟨q, 0, none⟩ = some (.int .i64 (leaf : Int)) ∧ w.cell? ⟨q, 1, none⟩ = some vo ∧ w.cell? ⟨q, 2, none⟩ = some vp ∧ ∀ i, w.frozen? ⟨q, i, none⟩ = false :=
  ⟨by rw [cell_of_row _ _ _ _ _ _ h]; rfl, by rw [cell_of_row _ _ _ _ _ _ h]; rfl, by rw [cell_of_row _ _ _ _ _ _ h]; rfl, fun i => frozen_of_row _ _ _ _ _ h⟩
/-- what lies in memory while the reference takes a signature apart -/
structure PaM (w w' : World) (q B leaf : Nat) (v vo vp : Value) (once : List Int) (s : RSt) (ps : List (Nat → Int)) : Prop where
  below : Below w.heap.size w w'
  res : w'.heap[w.heap.size]? = some (.cells (sgC 0 (.slice none 0 0) (.slice none 0 0)) 232 (0, 0))
  sig : w'.heap[w.heap.size + 1]? = some (.cells (sgC leaf vo vp) 232 (0, 0))
  rd : w'.heap[q]? = some (.cells (rdC v (numE s.2)) 129 (0, 0))
  vin : BytesIn w' v s.1
  vown : s.1 ≠ [] → ∀ k, v.ownBlock = some k → k < B
  oin : BytesIn w' vo once
  oown : once ≠ [] → ∀ k, vo.ownBlock = some k → k < B
  path : w'.ownsRow B 53 32 vp ps.length (flatC ps)
  hq : w.heap.size + 1 < q
  hB : q < B
  size : B ≤ w'.heap.size
section
variable {w w' w2 : World} {q B leaf : Nat} {v v2 vo vp : Value} {once : List Int} {s s2 : RSt} {ps : List (Nat → Int)}
theorem PaM.call (m : PaM w w' q B leaf v vo vp once s ps) (h : Below w'.heap.size w' w2) : PaM w w2 q B leaf v vo vp once s ps :=
  ⟨m.below.trans (h.mono m.below.size), (h.block _ (heap_lt' m.res)).trans m.res, (h.block _ (heap_lt' m.sig)).trans m.sig, (h.block _ (heap_lt' m.rd)).trans m.rd, m.vin.below h, m.vown, m.oin.below h, m.oown, m.path.kept (grown_of_below h) (own_ne m.path), m.hq, m.hB, Nat.le_trans m.size h.size⟩
/-- the Reader is written -/
theorem PaM.read {a : Option Addr} {n c : Nat} (m : PaM w w' q B leaf v vo vp once s ps) (hv : v = .slice a n c) (h2 : BytesIn w' v2 s2.1) (h3 : s2.1 ≠ [] → ∀ k, v2.ownBlock = some k → k < B) : PaM w (w'.setRow q (rdC v2 (numE s2.2))) q B leaf v2 vo vp once s2 ps := by
  subst hv
  have hO := Only.setRow w' q (rdC v2 (numE s2.2))
  have hq := m.hq
  exact ⟨m.below.trans (hO.below (by omega) m.below.size), (hO.block _ (heap_lt' m.res) (by omega)).trans m.res, (hO.block _ (heap_lt' m.sig) (by omega)).trans m.sig, setRow_heap _ _ _ _ _ _ m.rd, bytes_rowG h2 m.rd (rdC_no _ _ _ _) _, h3, bytes_rowG m.oin m.rd (rdC_no _ _ _ _) _, m.oown, m.path.kept hO.grown (.inr fun e => by have := (m.path.lt _ e).1; have := m.hB; omega), m.hq, m.hB, Nat.le_trans m.size hO.size⟩
/-- one hash more -/
theorem PaM.more {w3 : World} {vp' : Value} {f : Nat → Int} {b : Option Addr} {k d : Nat} (m : PaM w w' q B leaf v vo (.slice b k d) once s ps) (hg : w'.grownBy w3 (Value.slice b k d).ownBlock) (ho : w3.ownsRow B 53 32 vp' (ps.length + [f].length) (flatC ps ++ flatC [f])) :
    w3.heap[w.heap.size + 1]? = some (.cells (sgC leaf vo (.slice b k d)) 232 (0, 0)) ∧ PaM w (w3.setCell ⟨w.heap.size + 1, 2, none⟩ vp') q B leaf v vo vp' once s (ps ++ [f]) := by
  have hq := m.hq
  have hB := m.hB
  have hsz := m.size
  have hne : ∀ j, j < B → (Value.slice b k d).ownBlock ≠ some j := fun j hj e => by have := (m.path.lt j e).1; omega
  have hO := Only.setCell w3 ⟨w.heap.size + 1, 2, none⟩ vp'
  have hb3 : ∀ j, j < B → w3.heap[j]? = w'.heap[j]? := fun j hj => hg.block j (by omega) (fun e => hne j hj e.symm)
  have hsig := (hb3 (w.heap.size + 1) (by omega)).trans m.sig
  have hb : ∀ j, j < B → j ≠ w.heap.size + 1 → (w3.setCell ⟨w.heap.size + 1, 2, none⟩ vp').heap[j]? = w'.heap[j]? := fun j hj hn => (hO.block j (by have := hg.size; omega) (show j ≠ w.heap.size + 1 from hn)).trans (hb3 j hj)
  have c2 := (sig6_cells hsig).2.2.1
  have keep : ∀ {u : Value} {xs : List Int}, BytesIn w' u xs → (xs ≠ [] → ∀ j, u.ownBlock = some j → j < B) → BytesIn (w3.setCell ⟨w.heap.size + 1, 2, none⟩ vp') u xs := fun {u xs} hu hl => by
    have h3 : BytesIn w3 u xs := by
      by_cases he : xs = []
      · subst he
        obtain ⟨a, c, rfl, h1, h2, _⟩ := hu
        exact ⟨a, c, rfl, h1, h2, .inl rfl⟩
      · exact hu.grown hg fun j hj e => hne j (hl he j hj) e.symm
    exact bytes_setCellR h3 c2 (by simp)
  refine ⟨hsig, ⟨⟨hO.os.trans (hg.os.trans m.below.os), hO.tape.trans (hg.tape.trans m.below.tape), hO.output.trans (hg.output.trans m.below.output), Nat.le_trans m.below.size (Nat.le_trans hg.size hO.size), fun j hj => (hb j (by omega) (by omega)).trans (m.below.block j hj)⟩,
    (hb _ (by omega) (by omega)).trans m.res, ?_, (hb _ hB (by omega)).trans m.rd, keep m.vin m.vown, m.vown, keep m.oin m.oown, m.oown, ?_, m.hq, m.hB, Nat.le_trans hsz (Nat.le_trans hg.size hO.size)⟩⟩
  · rw [heap_setCell_same w3 _ 2 _ _ _ hsig]; rfl
  · have := ho.kept hO.grown (.inr fun e => by have h : B ≤ w.heap.size + 1 := (ho.lt _ e).1; omega)
    rw [List.length_append]
    rw [flatC_app1] at this
    exact this
end
end Go.Proofs.YtejglhlodfhgkaaGreatDoor
