/- Part 23 of the proof. -/
import Derived.Test.YtanekacpalpcbaaGreatDoorRd4
import Derived.Test.YtanekacpalpcbaaGreatDoorRd8
import Derived.Test.YtanekacpalpcbaaGreatDoorRd22
namespace Go.Proofs.YtanekacpalpcbaaGreatDoor
set_option linter.unusedVariables false
set_option linter.unusedSimpArgs false
open Go.RowKit
set_option maxRecDepth 100000
set_option linter.unusedSimpArgs false
set_option linter.unusedVariables false
theorem R2M.put {w w' : World} {v v' : Value} {e e' : Int} (m : R2M w w' v e) : R2M w (w'.setRow w.heap.size (rdC v' e')) v' e' :=
  ⟨below_setRow m.below (Nat.le_refl _) _, setRow_heap _ _ _ _ _ _ m.arg, (setRow_other _ _ _ _ (by omega)).trans m.res⟩
def RiPost (r : Int × RSt) (w : World) (e : Ending) (w' : World) : Prop :=
  ∃ v', e = .returned (.tuple #[.agg (rdC v' (numE r.2.2)), .int .i64 r.1]) ∧ BytesIn w' v' r.2.1 ∧ Below w.heap.size w w'
def RbPost (r : Bool × RSt) (w : World) (e : Ending) (w' : World) : Prop :=
  ∃ v', e = .returned (.tuple #[.agg (rdC v' (numE r.2.2)), .bool r.1]) ∧ BytesIn w' v' r.2.1 ∧ Below w.heap.size w w'
set_option maxHeartbeats 1000000 in
theorem rrint_any (v : Value) (ys : List Int) (e : Option Nat) (he : e ≠ some 0) (w : World) (hy : BytesIn w v ys) (hb : bytesOk ys) (hl : ys.length ≤ 140737488351232) : Calls Tryz.prog 158 #[.agg (rdC v (numE e))] w (RiPost (intS (ys, e)) w) := by
  obtain ⟨a, c, rfl, -⟩ := id hy
  have M := Lib.hid (r2M_start w (.slice a ys.length c) (numE e))
  have HY := Lib.hid hy
  have HU0 := Lib.hid (show ∀ w, BytesIn w (.slice a ys.length c) ys → Calls Tryz.prog 223 #[.agg (rdC (.slice a ys.length c) (numE e)), .int .u64 18446744073709551615] w (RuPost (uintS (ys, e) 18446744073709551615) w) from fun w h => ruint2_any _ ys e he 18446744073709551615 (by decide) w h hb (by omega))
  have hl := uintS_lt (ys, e) 18446744073709551615
  unfold intS
  obtain ⟨n, zs, ue, hU⟩ : ∃ n zs ue, uintS (ys, e) 18446744073709551615 = (n, zs, ue) := ⟨_, _, _, rfl⟩
  rw [hU] at hl HU0 ⊢
  have HU := Lib.hid (show ∀ w, BytesIn w (.slice a ys.length c) ys → Calls Tryz.prog 223 #[.agg (rdC (.slice a ys.length c) (numE e)), .int .u64 18446744073709551615] w fun r w' => ∃ v', r = .returned (.tuple #[.agg (rdC v' (numE ue)), .int .u64 (n : Int)]) ∧ BytesIn w' v' zs ∧ Below w.heap.size w w' from HU0.out)
  simp only at hl ⊢
  clear HU0 hU hy hb he
  have hm : (n : Int).tmod 2 = ((n % 2 : Nat) : Int) := by rw [Int.tmod_eq_emod_of_nonneg (by omega)]; omega
  have hq : (n : Int).tdiv 2 = ((n / 2 : Nat) : Int) := by rw [Int.tdiv_eq_ediv_of_nonneg (by omega)]; omega
  unfold unzig
  obtain ⟨en, hen⟩ : ∃ en, en = numE e := ⟨_, rfl⟩
  obtain ⟨un, hun⟩ : ∃ un, un = numE ue := ⟨_, rfl⟩
  rw [← hen, ← hun] at HU
  rw [← hen] at M ⊢
  have HUN := Lib.hid hun
  clear hen hun
  obtain ⟨k, hk⟩ : ∃ k, k = n / 2 := ⟨_, rfl⟩
  rw [← hk] at hq ⊢
  have hkb : k < 9223372036854775808 := by omega
  have hw1 : IntKind.i64.wrap (k : Int) = (k : Int) := by rw [IntKind.wrap_i64]; omega
  clear hk
  by_cases h1 : n % 2 = 1
  · rw [if_pos h1]
    rw [h1] at hm
    have hw2 : IntKind.i64.wrap (-(k : Int)) = -(k : Int) := by rw [IntKind.wrap_i64]; omega
    have hw3 : IntKind.i64.wrap (-(k : Int) - 1) = -(k : Int) - 1 := by rw [IntKind.wrap_i64]; omega
    clear h1
    go_enter Tryz.func158, Tryz.ntmps158
    go_upto_region 1 with (fail)
    rw [← r2_zero]
    generalize (w.alloc (.cells (rdC (.slice a ys.length c) en) 152)).alloc (.cells (rdC (.slice none 0 0) 0) 152) = w1 at *
    go_upto_region 2 with (first
      | (refine wpList_load_row rfl 152 (.tmp 1) rfl w.heap.size rfl 152 _ (0, 0) _ M.out.arg Tryz.underlying152 rfl (by kernel_rfl) ?_)
      | (go_at_call 223; (with_reducible refine (HU.out _ (HY.out.below M.out.below)).mono ?_); rintro e w2 ⟨v2, rfl, hx, hb⟩; obtain ⟨a2, c2, rfl, hc2, -⟩ := id hx; replace M := Lib.hid (M.out.call hb); have HZ := Lib.hid hx; clear hx hb hc2)
      | (refine wpList_store_row rfl 152 (.tmp 1) (.tmp 8) rfl w.heap.size _ rfl rfl 152 _ M.out.arg (by kernel_rfl) (by rfl) (rd_one _ _ _ _) ?_))
    replace HZ := Lib.hid (bytes_row HZ.out M.out.arg (rdC (.slice a2 zs.length c2) un))
    replace M := Lib.hid (M.out.put (v' := .slice a2 zs.length c2) (e' := un))
    generalize w2.setRow w.heap.size (rdC (.slice a2 zs.length c2) un) = w3 at *
    go_wp2_with (first
      | (refine wpList_load_row rfl 152 (.tmp 1) rfl w.heap.size rfl 152 _ (0, 0) _ M.out.arg Tryz.underlying152 rfl (by kernel_rfl) ?_)
      | (refine wpList_store_row rfl 152 (.tmp 2) (.tmp 13) rfl (w.heap.size + 1) _ rfl rfl 152 _ M.out.res (by kernel_rfl) (by rfl) (rd_one _ _ _ _) ?_))
    refine bodyPost_ret (results_cell_tmp_row rfl _ _ (w.heap.size + 1) 152 (rdC _ un) (0, 0) _ rfl (setRow_heap _ _ _ _ _ _ M.out.res) Tryz.underlying152 rfl (by kernel_rfl)) rfl ?_
    refine ⟨_, by rw [HUN.out]; rfl, bytes_row HZ.out M.out.res _, below_setRow M.out.below (Nat.le_succ _) _⟩
  · rw [if_neg h1]
    have h2 : n % 2 = 0 := by omega
    rw [h2] at hm
    clear h1 h2
    go_enter Tryz.func158, Tryz.ntmps158
    go_upto_region 1 with (fail)
    rw [← r2_zero]
    generalize (w.alloc (.cells (rdC (.slice a ys.length c) en) 152)).alloc (.cells (rdC (.slice none 0 0) 0) 152) = w1 at *
    go_upto_region 2 with (first
      | (refine wpList_load_row rfl 152 (.tmp 1) rfl w.heap.size rfl 152 _ (0, 0) _ M.out.arg Tryz.underlying152 rfl (by kernel_rfl) ?_)
      | (go_at_call 223; (with_reducible refine (HU.out _ (HY.out.below M.out.below)).mono ?_); rintro e w2 ⟨v2, rfl, hx, hb⟩; obtain ⟨a2, c2, rfl, hc2, -⟩ := id hx; replace M := Lib.hid (M.out.call hb); have HZ := Lib.hid hx; clear hx hb hc2)
      | (refine wpList_store_row rfl 152 (.tmp 1) (.tmp 8) rfl w.heap.size _ rfl rfl 152 _ M.out.arg (by kernel_rfl) (by rfl) (rd_one _ _ _ _) ?_))
    replace HZ := Lib.hid (bytes_row HZ.out M.out.arg (rdC (.slice a2 zs.length c2) un))
    replace M := Lib.hid (M.out.put (v' := .slice a2 zs.length c2) (e' := un))
    generalize w2.setRow w.heap.size (rdC (.slice a2 zs.length c2) un) = w3 at *
    go_wp2_with (first
      | (refine wpList_load_row rfl 152 (.tmp 1) rfl w.heap.size rfl 152 _ (0, 0) _ M.out.arg Tryz.underlying152 rfl (by kernel_rfl) ?_)
      | (refine wpList_store_row rfl 152 (.tmp 2) (.tmp 19) rfl (w.heap.size + 1) _ rfl rfl 152 _ M.out.res (by kernel_rfl) (by rfl) (rd_one _ _ _ _) ?_))
    refine bodyPost_ret (results_cell_tmp_row rfl _ _ (w.heap.size + 1) 152 (rdC _ un) (0, 0) _ rfl (setRow_heap _ _ _ _ _ _ M.out.res) Tryz.underlying152 rfl (by kernel_rfl)) rfl ?_
    refine ⟨_, by rw [HUN.out]; rfl, bytes_row HZ.out M.out.res _, below_setRow M.out.below (Nat.le_succ _) _⟩
theorem uintS_some {s : RSt} {most x : Nat} (h : (uintS s most).2.2 = some x) : uintS s most = (0, s.1, some x) := by
  obtain ⟨ys, e⟩ := s
  cases e with
  | some y =>
    rw [uintS_err] at h ⊢
    simp only at h
    rw [h]
  | none =>
    cases hr : (rdF ys most).2.2 with
    | none => rw [uintS_good hr] at h; cases h
    | some y => rw [uintS_bad hr] at h ⊢; simp only at h; rw [h]
def RcPost (r : Nat × RSt) (w : World) (e : Ending) (w' : World) : Prop :=
  ∃ v', e = .returned (.tuple #[.agg (rdC v' (numE r.2.2)), .int .i64 (r.1 : Int)]) ∧ BytesIn w' v' r.2.1 ∧ Below w.heap.size w w'
set_option maxHeartbeats 2000000 in
theorem rrcount_any (v : Value) (ys : List Int) (e : Option Nat) (he : e ≠ some 0) (most : Nat) (hm : most ≤ 9223372036854775807) (w : World) (hy : BytesIn w v ys) (hb : bytesOk ys) (hl : ys.length ≤ 140737488351232) : Calls Tryz.prog 155 #[.agg (rdC v (numE e)), .int .i64 (most : Int)] w (RcPost (countS (ys, e) most) w) := by
  obtain ⟨a, c, rfl, -⟩ := id hy
  have M := Lib.hid (r2M_start w (.slice a ys.length c) (numE e))
  have HY := Lib.hid hy
  have HU0 := Lib.hid (show ∀ w, BytesIn w (.slice a ys.length c) ys → Calls Tryz.prog 223 #[.agg (rdC (.slice a ys.length c) (numE e)), .int .u64 (most : Int)] w (RuPost (uintS (ys, e) most) w) from fun w h => ruint2_any _ ys e he most (by omega) w h hb (by omega))
  have h0 := uintS_no0 (ys, e) most he
  have hzl := (uintS_ok (ys, e) most hb).2
  have hsm := fun x => uintS_some (s := (ys, e)) (most := most) (x := x)
  have hcb := fun x => countS_bad (s := (ys, e)) (most := most) (x := x)
  have hcl := countS_long (s := (ys, e)) (most := most)
  have hcg := countS_good (s := (ys, e)) (most := most)
  have hen : ∀ x, e = some x → uintS (ys, e) most = (0, ys, some x) := fun x h => by subst h; rfl
  obtain ⟨n, zs, ue, hU⟩ : ∃ n zs ue, uintS (ys, e) most = (n, zs, ue) := ⟨_, _, _, rfl⟩
  rw [hU] at h0 hzl hsm hcb hcl hcg HU0 hen
  simp only at h0 hzl hsm hcb hcl hcg
  have HU := Lib.hid (show ∀ w, BytesIn w (.slice a ys.length c) ys → Calls Tryz.prog 223 #[.agg (rdC (.slice a ys.length c) (numE e)), .int .u64 (most : Int)] w fun r w' => ∃ v', r = .returned (.tuple #[.agg (rdC v' (numE ue)), .int .u64 (n : Int)]) ∧ BytesIn w' v' zs ∧ Below w.heap.size w w' from HU0.out)
  have hmx : max (most : Int) 0 = (most : Int) := by omega
  have hmw : IntKind.u64.wrap (most : Int) = (most : Int) := IntWalk.u64_in _ (by omega)
  have hzI : (zs.length : Int) ≤ 140737488351232 := by omega
  clear HU0 hU hy hb
  cases ue with
  | some x =>
    have hx0 : ((x : Int) == 0) = false := by simp; intro h; exact h0 (by rw [h])
    have hs := hsm x rfl
    injection hs with hs1 hs2
    injection hs2 with hs2 _
    subst hs1
    subst hs2
    have HC := Lib.hid (hcb x rfl)
    clear hsm hcb hcl hcg h0 hen he
    rw [show numE (some x) = (x : Int) from rfl] at HU
    obtain ⟨en, hen⟩ : ∃ en, en = numE e := ⟨_, rfl⟩
    rw [← hen] at HU M ⊢
    clear hen
    go_enter Tryz.func155, Tryz.ntmps155
    go_upto_region 1 with (fail)
    rw [← r2_zero]
    generalize (w.alloc (.cells (rdC (.slice a zs.length c) en) 152)).alloc (.cells (rdC (.slice none 0 0) 0) 152) = w1 at *
    go_wp2_with (first
      | (refine wpList_load_row rfl 152 (.tmp 2) rfl w.heap.size rfl 152 _ (0, 0) _ M.out.arg Tryz.underlying152 rfl (by kernel_rfl) ?_)
      | (go_at_call 223; (with_reducible refine (HU.out _ (HY.out.below M.out.below)).mono ?_); rintro e w2 ⟨v2, rfl, hx, hb⟩; obtain ⟨a2, c2, rfl, hc2, -⟩ := id hx; replace M := Lib.hid (M.out.call hb); have HZ := Lib.hid hx; clear hx hb hc2)
      | (refine wpList_store_row rfl 152 (.tmp 6) (.tmp 14) rfl w2.heap.size (rdC (.slice a2 zs.length c2) (x : Int)) rfl rfl 152 _ (heap_alloc_new _ _) (by kernel_rfl) (by rfl) (rd_one _ _ _ _) ?_; rw [World.setRow_alloc_new]; have HA := Lib.hid (below_alloc w2 (.cells (rdC (.slice a2 zs.length c2) (x : Int)) 152)); have T6 := Lib.hid (heap_alloc_new w2 (.cells (rdC (.slice a2 zs.length c2) (x : Int)) 152)); have HG := Lib.hid (show w.heap.size + 2 ≤ w2.heap.size by have := (Array.getElem?_eq_some_iff.1 M.out.res).1; omega); replace M := Lib.hid (M.out.call HA.out); replace HZ := Lib.hid (HZ.out.below HA.out); clear HA; generalize w2.heap.size = q at *; generalize w2.alloc (.cells (rdC (.slice a2 zs.length c2) (x : Int)) 152) = w3 at *; obtain ⟨t0, t1, tf⟩ := rd_cells T6.out)
      | (refine wpList_load_row rfl 152 (.tmp 6) rfl q rfl 152 _ (0, 0) _ T6.out Tryz.underlying152 rfl (by kernel_rfl) ?_)
      | (refine wpList_store_row rfl 152 (.tmp 4) (.tmp 29) rfl (w.heap.size + 1) _ rfl rfl 152 _ M.out.res (by kernel_rfl) (by rfl) (rd_one _ _ _ _) ?_))
    refine bodyPost_ret (results_cell_tmp_row rfl _ _ (w.heap.size + 1) 152 (rdC _ (x : Int)) (0, 0) _ rfl (setRow_heap _ _ _ _ _ _ M.out.res) Tryz.underlying152 rfl (by kernel_rfl)) rfl ?_
    rw [HC.out]
    exact ⟨_, rfl, bytes_row HZ.out M.out.res _, below_setRow M.out.below (Nat.le_succ _) _⟩
  | none =>
    have he2 : e = none := by
      rcases numE_ne he with h | ⟨y, h, -, -⟩
      · exact h
      · have h2 := hen y h
        injection h2 with _ h2; injection h2 with _ h2; cases h2
    subst he2
    rw [show numE none = 0 from rfl] at *
    clear hsm hcb h0 hen he
    by_cases h1 : zs.length < n
    · have HC := Lib.hid (hcl rfl h1)
      have q1 : decide ((zs.length : Int) < (n : Int)) = true := by simp; omega
      have HF := Lib.hid (show ∀ w, Calls Tryz.prog 224 #[.agg (rdC (.slice a ys.length c) 0), .int .i64 2] w fun r w' => r = .returned (.agg (rdC (.slice a ys.length c) 2)) ∧ Below w.heap.size w w' from fun w => by
        have h := rfail_any a ys.length c 0 2 w
        rw [if_pos rfl] at h
        exact h)
      clear hcl hcg
      go_enter Tryz.func155, Tryz.ntmps155
      go_upto_region 1 with (fail)
      rw [← r2_zero]
      generalize (w.alloc (.cells (rdC (.slice a ys.length c) 0) 152)).alloc (.cells (rdC (.slice none 0 0) 0) 152) = w1 at *
      go_wp2_with (first
        | (refine wpList_load_row rfl 152 (.tmp 2) rfl w.heap.size rfl 152 _ (0, 0) _ M.out.arg Tryz.underlying152 rfl (by kernel_rfl) ?_)
        | (go_at_call 223; (with_reducible refine (HU.out _ (HY.out.below M.out.below)).mono ?_); rintro e w2 ⟨v2, rfl, hx, hb⟩; obtain ⟨a2, c2, rfl, hc2, -⟩ := id hx; replace M := Lib.hid (M.out.call hb); have HZ := Lib.hid hx; clear hx hb hc2)
        | (refine wpList_store_row rfl 152 (.tmp 6) (.tmp 14) rfl w2.heap.size (rdC (.slice a2 zs.length c2) 0) rfl rfl 152 _ (heap_alloc_new _ _) (by kernel_rfl) (by rfl) (rd_one _ _ _ _) ?_; rw [World.setRow_alloc_new]; have HA := Lib.hid (below_alloc w2 (.cells (rdC (.slice a2 zs.length c2) 0) 152)); have T6 := Lib.hid (heap_alloc_new w2 (.cells (rdC (.slice a2 zs.length c2) 0) 152)); have HG := Lib.hid (show w.heap.size + 2 ≤ w2.heap.size by have := (Array.getElem?_eq_some_iff.1 M.out.res).1; omega); replace M := Lib.hid (M.out.call HA.out); replace HZ := Lib.hid (HZ.out.below HA.out); clear HA; generalize w2.heap.size = q at *; generalize w2.alloc (.cells (rdC (.slice a2 zs.length c2) 0) 152) = w3 at *; obtain ⟨t0, t1, tf⟩ := rd_cells T6.out)
        | (go_at_call 224; (with_reducible refine (HF.out _).mono ?_); rintro e w4 ⟨rfl, hb⟩; replace M := Lib.hid (M.out.call hb); clear hb)
        | (refine wpList_store_row rfl 152 (.tmp 4) (.tmp 28) rfl (w.heap.size + 1) _ rfl rfl 152 _ M.out.res (by kernel_rfl) (by rfl) (rd_one _ _ _ _) ?_))
      refine bodyPost_ret (results_cell_tmp_row rfl _ _ (w.heap.size + 1) 152 (rdC _ 2) (0, 0) _ rfl (setRow_heap _ _ _ _ _ _ M.out.res) Tryz.underlying152 rfl (by kernel_rfl)) rfl ?_
      rw [HC.out]
      exact ⟨_, rfl, bytes_row (HY.out.below M.out.below) M.out.res _, below_setRow M.out.below (Nat.le_succ _) _⟩
    · have HC := Lib.hid (hcg rfl h1)
      have q1 : decide ((zs.length : Int) < (n : Int)) = false := by simp; omega
      have hwn : IntKind.i64.wrap (n : Int) = n := by rw [IntKind.wrap_i64]; omega
      clear hcl hcg
      go_enter Tryz.func155, Tryz.ntmps155
      go_upto_region 1 with (fail)
      rw [← r2_zero]
      generalize (w.alloc (.cells (rdC (.slice a ys.length c) 0) 152)).alloc (.cells (rdC (.slice none 0 0) 0) 152) = w1 at *
      go_wp2_with (first
        | (refine wpList_load_row rfl 152 (.tmp 2) rfl w.heap.size rfl 152 _ (0, 0) _ M.out.arg Tryz.underlying152 rfl (by kernel_rfl) ?_)
        | (go_at_call 223; (with_reducible refine (HU.out _ (HY.out.below M.out.below)).mono ?_); rintro e w2 ⟨v2, rfl, hx, hb⟩; obtain ⟨a2, c2, rfl, hc2, -⟩ := id hx; replace M := Lib.hid (M.out.call hb); have HZ := Lib.hid hx; clear hx hb hc2)
        | (refine wpList_store_row rfl 152 (.tmp 6) (.tmp 14) rfl w2.heap.size (rdC (.slice a2 zs.length c2) 0) rfl rfl 152 _ (heap_alloc_new _ _) (by kernel_rfl) (by rfl) (rd_one _ _ _ _) ?_; rw [World.setRow_alloc_new]; have HA := Lib.hid (below_alloc w2 (.cells (rdC (.slice a2 zs.length c2) 0) 152)); have T6 := Lib.hid (heap_alloc_new w2 (.cells (rdC (.slice a2 zs.length c2) 0) 152)); have HG := Lib.hid (show w.heap.size + 2 ≤ w2.heap.size by have := (Array.getElem?_eq_some_iff.1 M.out.res).1; omega); replace M := Lib.hid (M.out.call HA.out); replace HZ := Lib.hid (HZ.out.below HA.out); clear HA; generalize w2.heap.size = q at *; generalize w2.alloc (.cells (rdC (.slice a2 zs.length c2) 0) 152) = w3 at *; obtain ⟨t0, t1, tf⟩ := rd_cells T6.out)
        | (refine wpList_load_row rfl 152 (.tmp 6) rfl q rfl 152 _ (0, 0) _ T6.out Tryz.underlying152 rfl (by kernel_rfl) ?_)
        | (refine wpList_store_row rfl 152 (.tmp 4) (.tmp 29) rfl (w.heap.size + 1) _ rfl rfl 152 _ M.out.res (by kernel_rfl) (by rfl) (rd_one _ _ _ _) ?_))
      refine bodyPost_ret (results_cell_tmp_row rfl _ _ (w.heap.size + 1) 152 (rdC _ 0) (0, 0) _ rfl (setRow_heap _ _ _ _ _ _ M.out.res) Tryz.underlying152 rfl (by kernel_rfl)) rfl ?_
      rw [HC.out]
      exact ⟨_, rfl, bytes_row HZ.out M.out.res _, below_setRow M.out.below (Nat.le_succ _) _⟩
end Go.Proofs.YtanekacpalpcbaaGreatDoor
namespace Go.Proofs.YtanekacpalpcbaaGreatDoor
set_option linter.unusedVariables false
set_option linter.unusedSimpArgs false
open Go.RowKit
set_option maxRecDepth 100000
theorem RowAt.range {w : World} {g n : Nat} {k : IntKind} {t : TypeId} {f : Nat → Int} (h : RowAt w g k n t f) : w.rangeAt g 0 (rowOf k n f).toList := fun j v hv => by
  rw [Nat.zero_add, cell_of_row w g j _ t _ h]
  simpa using hv
theorem row_yields {ops : Array Oper} {S : World → Prop} {op : Oper} {a : Act} (hw : Region.wanted op (yielded ops a.tmps) = true) (ty : TypeId) (x : Operand) (ho : op.op = .load ty x)
    (b : Nat) (hx : a.eval x = .pointer (some ⟨b, 0, none⟩)) (k : IntKind) (n : Nat) (f : Nat → Int) (d : TypeDesc) (hS : ∀ w, S w → RowAt w b k n ty f)
    (hu : Tryz.prog.underlying ty = some d) (hd : d.isRow = true) (hi : (Tryz.prog.info? ty).map (·.size) = some n) : YieldsIf Tryz.prog ops S op (.agg (rowOf k n f)) a := by
  have h := yieldsIf_load_mid (P := Tryz.prog) (S := S) hw ty x ho b 0 hx (rowOf k n f).toList d (fun w h => (hS w h).range) hu hd (by rw [hi]; simp [rowOf])
  simpa using h
theorem row_yields_mid {ops : Array Oper} {S : World → Prop} {op : Oper} {a : Act} (hw : Region.wanted op (yielded ops a.tmps) = true) (ty : TypeId) (x : Operand) (ho : op.op = .load ty x)
    (b o : Nat) (hx : a.eval x = .pointer (some ⟨b, o, none⟩)) (k : IntKind) (n : Nat) (f : Nat → Int) (d : TypeDesc) (hS : ∀ w, S w → w.rangeAt b o (rowOf k n f).toList)
    (hu : Tryz.prog.underlying ty = some d) (hd : d.isRow = true) (hi : (Tryz.prog.info? ty).map (·.size) = some n) : YieldsIf Tryz.prog ops S op (.agg (rowOf k n f)) a := by
  have h := yieldsIf_load_mid (P := Tryz.prog) (S := S) hw ty x ho b o hx (rowOf k n f).toList d hS hu hd (by rw [hi]; simp [rowOf])
  simpa using h
end Go.Proofs.YtanekacpalpcbaaGreatDoor
