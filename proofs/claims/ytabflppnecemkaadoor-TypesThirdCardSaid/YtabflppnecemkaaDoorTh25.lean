/- Part 25 of the proof. -/
import Derived.Great.BuildSlice
import Derived.Test.YtabflppnecemkaaDoorTh3
import Derived.Test.YtabflppnecemkaaDoorTh5
import Derived.Test.YtabflppnecemkaaDoorTh24
namespace Go.Proofs.YtabflppnecemkaaDoor
set_option linter.unusedVariables false
set_option linter.unusedSimpArgs false
open Go.RowKit
set_option maxRecDepth 100000
set_option linter.unusedSimpArgs false
set_option linter.unusedVariables false
/-- the power of the places of P, from place i on -/
def sumI : List Va → (Nat → Bool) → Nat → Int
  | [], _, _ => 0
  | x :: l, P, i => (if P i then x.pow else 0) + sumI l P (i + 1)
def Pos (l : List Va) : Prop := ∀ x ∈ l, 0 ≤ x.pow
theorem sumI_none : ∀ (l : List Va) (i : Nat), sumI l (fun _ => false) i = 0
  | [], _ => rfl
  | x :: l, i => by simp [sumI, sumI_none l]
theorem sumI_all : ∀ (l : List Va) (i : Nat), sumI l (fun _ => true) i = sumV l
  | [], _ => rfl
  | x :: l, i => by simp [sumI, sumV, sumI_all l]
theorem sumI_congr : ∀ (l : List Va) (P Q : Nat → Bool) (i : Nat), (∀ j, P j = Q j) → sumI l P i = sumI l Q i
  | [], _, _, _, _ => rfl
  | x :: l, P, Q, i, h => by simp only [sumI]; rw [h i, sumI_congr l P Q (i + 1) h]
theorem sumI_nonneg : ∀ (l : List Va) (P : Nat → Bool) (i : Nat), Pos l → 0 ≤ sumI l P i
  | [], _, _, _ => Int.le_refl _
  | x :: l, P, i, h => by
    have h1 := sumI_nonneg l P (i + 1) fun y hy => h y (by simp [hy])
    have h2 := h x (by simp)
    simp only [sumI]
    split <;> omega
theorem sumI_le : ∀ (l : List Va) (P : Nat → Bool) (i : Nat), Pos l → sumI l P i ≤ sumV l
  | [], _, _, _ => Int.le_refl _
  | x :: l, P, i, h => by
    have h1 := sumI_le l P (i + 1) fun y hy => h y (by simp [hy])
    have h2 := h x (by simp)
    simp only [sumI, sumV]
    split <;> omega
theorem sumI_out : ∀ (l : List Va) (P : Nat → Bool) (m i : Nat), m < i → sumI l (fun j => P j || decide (j = m)) i = sumI l P i
  | [], _, _, _, _ => rfl
  | x :: l, P, m, i, h => by
    have e : ¬ i = m := by omega
    simp only [sumI]
    rw [sumI_out l P m (i + 1) (by omega)]
    simp [e]
theorem sumI_add : ∀ (l : List Va) (P : Nat → Bool) (m i : Nat) (y : Va), l[m]? = some y → P (i + m) = false → sumI l (fun j => P j || decide (j = i + m)) i = sumI l P i + y.pow
  | [], _, _, _, _, h, _ => by simp at h
  | x :: l, P, 0, i, y, h, hp => by
    simp only [List.getElem?_cons_zero, Option.some.injEq] at h
    subst h
    simp only [Nat.add_zero] at hp ⊢
    simp only [sumI]
    rw [sumI_out l P i (i + 1) (by omega)]
    simp [hp]
    omega
  | x :: l, P, m + 1, i, y, h, hp => by
    simp only [List.getElem?_cons_succ] at h
    have e : i + (m + 1) = (i + 1) + m := by omega
    rw [e] at hp ⊢
    simp only [sumI]
    rw [sumI_add l P m (i + 1) y h hp]
    have e2 : ¬ i = i + 1 + m := by omega
    simp [e2]
    omega
theorem sumI_both : ∀ (l : List Va) (P Q : Nat → Bool) (i : Nat), Pos l → sumI l P i + sumI l Q i - sumV l ≤ sumI l (fun j => P j && Q j) i
  | [], _, _, _, _ => by simp [sumI, sumV]
  | x :: l, P, Q, i, h => by
    have h1 := sumI_both l P Q (i + 1) fun y hy => h y (by simp [hy])
    have h2 := h x (by simp)
    simp only [sumI, sumV]
    rcases Bool.eq_false_or_eq_true (P i) with hp | hp <;> rcases Bool.eq_false_or_eq_true (Q i) with hq | hq <;> simp [hp, hq] <;> omega
/-- votes of a set, each greater than the one ahead -/
structure GoodV (l : List Va) (vs : List Vo) : Prop where
  idx : ∀ (k : Nat) (v : Vo), vs[k]? = some v → 0 ≤ v.val ∧ v.val < l.length
  inc : ∀ (j k : Nat) (u v : Vo), j < k → vs[j]? = some u → vs[k]? = some v → u.val < v.val
def hasV (vs : List Vo) (j : Nat) : Bool := vs.any fun v => decide (v.val = (j : Int))
theorem hasV_snoc {vs : List Vo} {k m : Nat} {v : Vo} (h : vs[k]? = some v) (hm : v.val = (m : Int)) (j : Nat) : hasV (vs.take (k + 1)) j = (hasV (vs.take k) j || decide (j = m)) := by
  unfold hasV
  rw [List.take_add_one, h, List.any_append]
  simp only [Option.toList_some, List.any_cons, List.any_nil, Bool.or_false]
  congr 1
  rw [hm]
  by_cases e : j = m
  · subst e; simp
  · rw [decide_eq_false e, decide_eq_false (by omega)]
theorem hasV_new {l : List Va} {vs : List Vo} (g : GoodV l vs) {k m : Nat} {v : Vo} (h : vs[k]? = some v) (hm : v.val = (m : Int)) : hasV (vs.take k) m = false := by
  unfold hasV
  rw [List.any_eq_false]
  intro u hu
  obtain ⟨j, hj, e⟩ := List.getElem_of_mem hu
  have hjk : j < k := by rw [List.length_take] at hj; omega
  have hju : vs[j]? = some u := by
    rw [← e, List.getElem_take, List.getElem?_eq_getElem]
  have := g.inc j k u v hjk hju h
  simp; omega
theorem good_of {chain : ByteArray} {l : List Va} {D E : Int} {c : Cm} {vs : List Vo} (h : ∀ k, k < vs.length → vcAt chain l D E c vs k = none) : GoodV l vs := by
  have h1 : ∀ (k : Nat) (v : Vo), vs[k]? = some v → prevB vs k v = true ∧ vvE chain l D E v = none := fun k v hv => by
    have := h k (List.getElem?_eq_some_iff.1 hv).1
    unfold vcAt at this
    rw [hv] at this
    simp only at this
    split at this
    · rename_i hp
      exact ⟨(Bool.and_eq_true _ _ |>.mp hp).2, this⟩
    · cases this
  have step : ∀ (k : Nat) (u v : Vo), vs[k]? = some u → vs[k + 1]? = some v → u.val < v.val := fun k u v hu hv =>
    prev_spec (h1 (k + 1) v hv).1 (by omega) (by simpa using hu)
  refine ⟨fun k v hv => vv_idx (h1 k v hv).2, fun j k => ?_⟩
  induction k with
  | zero => intro u v hj; omega
  | succ k ih =>
    intro u v hj hu hv
    obtain ⟨t, ht⟩ : ∃ t, vs[k]? = some t := ⟨vs[k]'(by have := (List.getElem?_eq_some_iff.1 hv).1; omega), List.getElem?_eq_getElem _⟩
    have h2 := step k t v ht hv
    rcases (by omega : j = k ∨ j < k) with rfl | h3
    · rw [hu] at ht; injection ht with ht; rw [ht]; exact h2
    · have := ih u t h3 hu ht; omega
theorem ck_sum {l : List Va} (h : ckE l = none) : Pos l ∧ 0 ≤ sumV l ∧ sumV l ≤ 1099511627776 := by
  obtain ⟨h1, h2, h3⟩ := ck_spec h
  have hp : ∀ (i : Nat) (x : Va), l[i]? = some x → 1 ≤ x.pow ∧ x.pow ≤ 1099511627776 - sumV (l.take i) := fun i x hx => by
    have := h3 i x (List.getElem?_eq_some_iff.1 hx).1 hx
    unfold okAt at this
    simp only [Bool.and_eq_true] at this
    exact of_decide_eq_true this.2.2
  have hs : ∀ k, k ≤ l.length → 0 ≤ sumV (l.take k) ∧ sumV (l.take k) ≤ 1099511627776 := fun k => by
    induction k with
    | zero => intro _; simp [sumV]
    | succ k ih =>
      intro hk
      obtain ⟨i1, i2⟩ := ih (by omega)
      obtain ⟨x, hx⟩ : ∃ x, l[k]? = some x := ⟨l[k]'(by omega), List.getElem?_eq_getElem _⟩
      have := hp k x hx
      rw [sumV_snoc hx]
      omega
  have := hs l.length (Nat.le_refl _)
  rw [List.take_length] at this
  refine ⟨fun x hx => ?_, this.1, this.2⟩
  obtain ⟨i, hi, e⟩ := List.getElem_of_mem hx
  have := (hp i x (by rw [← e]; exact List.getElem?_eq_getElem _)).1
  omega
theorem tot_sum {l : List Va} (h : ckE l = none) : totV l = sumV l := by
  obtain ⟨h1, h2, h3⟩ := ck_sum h
  have key : ∀ k, k ≤ l.length → totV (l.take k) = sumV (l.take k) := fun k => by
    induction k with
    | zero => intro _; rfl
    | succ k ih =>
      intro hk
      obtain ⟨x, hx⟩ : ∃ x, l[k]? = some x := ⟨l[k]'(by omega), List.getElem?_eq_getElem _⟩
      have e1 : sumV (l.take (k + 1)) ≤ sumV l := by
        conv => rhs; rw [← List.take_append_drop (k + 1) l]
        rw [sumV_append]
        have : 0 ≤ sumV (l.drop (k + 1)) := by rw [← sumI_all _ 0]; exact sumI_nonneg _ _ _ fun y hy => h1 y (List.mem_of_mem_drop hy)
        omega
      have e2 : 0 ≤ sumV (l.take (k + 1)) := by rw [← sumI_all _ 0]; exact sumI_nonneg _ _ _ fun y hy => h1 y (List.mem_of_mem_take hy)
      rw [totV_snoc hx, ih (by omega), ← sumV_snoc hx]
      exact IntWalk.wrap64_in _ (by omega)
  have := key l.length (Nat.le_refl _)
  rwa [List.take_length] at this
/-- a commit's power is that of its places -/
theorem pow_sum {l : List Va} {vs : List Vo} (hc : ckE l = none) (g : GoodV l vs) : ∀ k, k ≤ vs.length → powV l vs k = sumI l (hasV (vs.take k)) 0 := fun k => by
  obtain ⟨h1, h2, h3⟩ := ck_sum hc
  induction k with
  | zero => intro _; simp [powV, hasV]; exact (sumI_none l 0).symm
  | succ k ih =>
    intro hk
    obtain ⟨v, hv⟩ : ∃ v, vs[k]? = some v := ⟨vs[k]'(by omega), List.getElem?_eq_getElem _⟩
    obtain ⟨i1, i2⟩ := g.idx k v hv
    obtain ⟨m, hm⟩ : ∃ m : Nat, v.val = (m : Int) := ⟨v.val.toNat, by omega⟩
    obtain ⟨y, hy⟩ : ∃ y, l[m]? = some y := ⟨l[m]'(by omega), List.getElem?_eq_getElem _⟩
    have e := sumI_add l (hasV (vs.take k)) m 0 y hy (by rw [Nat.zero_add]; exact hasV_new g hv hm)
    have e2 : sumI l (hasV (vs.take (k + 1))) 0 = sumI l (hasV (vs.take k)) 0 + y.pow := by
      rw [← e]
      exact sumI_congr _ _ _ _ fun j => by rw [hasV_snoc hv hm, Nat.zero_add]
    have b1 := sumI_nonneg l (hasV (vs.take (k + 1))) 0 h1
    have b2 := sumI_le l (hasV (vs.take (k + 1))) 0 h1
    rw [powV_next hv hm hy, ih (by omega), ← e2]
    exact IntWalk.wrap64_in _ (by omega)
theorem two_lt {p t : Int} (h : twoB p t = true) (hp : 0 ≤ p ∧ p ≤ 1099511627776) (ht : 0 ≤ t ∧ t ≤ 1099511627776) : 2 * t < 3 * p := by
  unfold twoB at h
  have := of_decide_eq_true h
  rwa [IntWalk.wrap64_in _ (by omega), IntWalk.wrap64_in _ (by omega)] at this
/-- those that have signed both -/
def bothV (l : List Va) (xs ys : List Vo) : Int := sumI l (fun j => hasV xs j && hasV ys j) 0
theorem third_of {chain : ByteArray} {l : List Va} {D E : Int} {c d : Cm} {xs ys : List Vo} (hx : vcE chain l D E c xs = none) (hy : vcE chain l D E d ys = none) :
    GoodV l xs ∧ GoodV l ys ∧ ckE l = none ∧ totV l = sumV l ∧ sumV l < 3 * bothV l xs ys := by
  obtain ⟨hc, x1, x2⟩ := vc_spec hx
  obtain ⟨-, y1, y2⟩ := vc_spec hy
  have gx := good_of x1
  have gy := good_of y1
  obtain ⟨h1, h2, h3⟩ := ck_sum hc
  have px := pow_sum hc gx xs.length (Nat.le_refl _)
  have py := pow_sum hc gy ys.length (Nat.le_refl _)
  rw [List.take_length] at px py
  rw [px, tot_sum hc] at x2
  rw [py, tot_sum hc] at y2
  have bx := sumI_nonneg l (hasV xs) 0 h1
  have bx2 := sumI_le l (hasV xs) 0 h1
  have by1 := sumI_nonneg l (hasV ys) 0 h1
  have by2 := sumI_le l (hasV ys) 0 h1
  have tx := two_lt x2 (by omega) (by omega)
  have ty := two_lt y2 (by omega) (by omega)
  have hb := sumI_both l (hasV xs) (hasV ys) 0 h1
  refine ⟨gx, gy, hc, tot_sum hc, ?_⟩
  unfold bothV
  omega
end Go.Proofs.YtabflppnecemkaaDoor
namespace Go.Proofs.YtabflppnecemkaaDoor
set_option linter.unusedVariables false
set_option linter.unusedSimpArgs false
open Go.RowKit
open Go.Maps (Keyed setOf)
set_option maxRecDepth 100000
set_option linter.unusedSimpArgs false
set_option linter.unusedVariables false
set_option maxHeartbeats 4000000 in
theorem vtrust_any (old l : List Va) (vs : List Vo) (c : Cm) (ov lv vv : Value) (w : World) (ho : VaIn w ov old) (hl : VaIn w lv l) (hv : VoIn w vv vs) (hwo : ∀ x ∈ old, VaWf x) (hwf : ∀ x ∈ l, VaWf x) (hn : l.length ≤ 1048576) (hsv : ∀ t ∈ vs, ∃ a n c, t.sv = .slice a n c) :
    Calls Tryd.prog 20 #[ov, lv, .agg (cmC c vv)] w fun e w' => e = .returned (errV (vtE old l vs)) ∧ Below w.heap.size w w' := by
  obtain ⟨oa, oc, rfl, -, hom⟩ := ho.len
  obtain ⟨la, lc, rfl, -, -⟩ := hl.len
  obtain ⟨qa, qc, rfl, -, -⟩ := hv.len
  have HB := Lib.hid (below_alloc w (.cells (cmC c (.slice qa vs.length qc)) 31))
  have c34 := (cm_cells (heap_alloc_new w (.cells (cmC c (.slice qa vs.length qc)) 31))).2.2.2
  have HO := Lib.hid ho
  have HVS := Lib.hid (voters_any l vs (.slice la l.length lc) (.slice qa vs.length qc) _ (hl.below HB.out) (hv.below HB.out) hwf hn hsv)
  have HWO := Lib.hid hwo
  have HTO := Lib.hid (fun w h => total_any old (.slice oa old.length oc) w h)
  have HTH := Lib.hid (fun p t w => third_any p t w)
  obtain ⟨no, hno⟩ : ∃ n, n = old.length := ⟨_, rfl⟩
  have HNO := Lib.hid hno
  have hn1 : no ≤ 9223372036854775807 := by unfold maxLen at hom; omega
  rw [← hno] at HO HTO ⊢
  obtain ⟨E, hE⟩ : ∃ E, E = vtE old l vs := ⟨_, rfl⟩
  have HEE := Lib.hid hE
  rw [← hE]
  clear ho hl hv hwo hwf hn hsv hom hno hE
  go_enter Tryd.func20, Tryd.ntmps20
  go_upto_region 1 with (fail)
  generalize w.alloc (.cells (cmC c (.slice qa vs.length qc)) 31) = w1 at *
  go_upto_region 4 with (go_at_call 41; (with_reducible refine HVS.out.mono ?_); rintro e w2 ⟨g, bm, n, acc, rfl, hvt, hac, hb⟩; have HVT := Lib.hid hvt; have HAC := Lib.hid hac; replace HB := Lib.hid (HB.out.trans (hb.mono HB.out.size)); clear hvt hac hb)
  clear HVS c34
  have HR0 := Lib.hid (show (0 : Int) = trP l (votedF vs) (old.take 0) 0 ∧ Below w.heap.size w w2 ∧ VtM w2 g bm n acc from ⟨rfl, HB.out, HVT.out⟩)
  clear HVT HB
  go_wp2_with (fail)
  go_loopw [8, 17] (fun y x wr => ∃ (k : Nat) (s : Int), k ≤ no ∧ y = .int .i64 s ∧ x = .int .i64 (k : Int) ∧ Hid (s = trP l (votedF vs) (old.take k) 0 ∧ Below w.heap.size w wr ∧ VtM wr g bm n acc)) (fun _ x _ => no - (intOf x).toNat)
  case atStart => exact ⟨0, _, Nat.zero_le _, rfl, rfl, HR0⟩
  case round =>
    clear HR0
    obtain ⟨k, s, hkn, rfl, rfl, HR⟩ := hrel
    by_cases hlt : k < no
    · have hltI : (k : Int) < (no : Int) := by omega
      obtain ⟨x, hx⟩ : ∃ x, old[k]? = some x := ⟨old[k]'(by have := HNO.out; omega), List.getElem?_eq_getElem _⟩
      have hv := HO.out.below HR.out.2.1
      rw [HNO.out] at hv
      obtain ⟨ab, ao, rfl, hab, hra⟩ := hv.at hx
      have HRA := Lib.hid hra
      have HTS := Lib.hid (trP_take (l := l) (f := votedF vs) hx)
      have HXW := Lib.hid (HWO.out x (List.mem_of_getElem? hx))
      clear hv hab hra hx
      go_upto_region 6 with (first
        | (refine wpList_load_rowT (by rfl) 41 (.tmp 19) rfl ab (ao + k * 34) rfl (vaC x) _ HRA.out Tryd.underlying41 rfl (by rw [vaC_size]; kernel_rfl) ?_)
        | (refine wpList_store_row rfl 41 (.tmp 10) (.tmp 20) rfl wr.heap.size (vaC x) rfl rfl 41 _ (heap_alloc_new _ _) (by rw [vaC_size]; kernel_rfl) (by rw [vaC_size]; rfl) (vaC_one _) ?_; rw [World.setRow_alloc_new]))
      have hba := below_alloc wr (.cells (vaC x) 41)
      have HQ := Lib.hid (heap_alloc_new wr (.cells (vaC x) 41))
      have HB2 := Lib.hid (HR.out.2.1.trans (hba.mono HR.out.2.1.size))
      have HV2 := Lib.hid (HR.out.2.2.below hba)
      obtain ⟨q, hq⟩ : ∃ q, q = wr.heap.size := ⟨_, rfl⟩
      rw [← hq] at HQ ⊢
      clear hba hq
      generalize wr.alloc (.cells (vaC x) 41) = w3 at *
      have HCC := Lib.hid (votersC_any x l (votedF vs) l.length g bm n acc w3 HV2.out HAC.out HXW.out)
      cases hf : foundB l (votedF vs) l.length x with
      | true =>
        rw [hf] at HCC HTS
        simp only [if_true] at HTS
        clear hf
        go_upto_region 7 with (first
          | (refine wpList_load_rowT (by rfl) 41 (.tmp 10) rfl q 0 rfl (vaC x) _ (rowT_range HQ.out) Tryd.underlying41 rfl (by rw [vaC_size]; kernel_rfl) ?_)
          | (go_at_call 74; (with_reducible refine HCC.out.mono ?_); rintro e w4 ⟨rfl, hb⟩; replace HB2 := Lib.hid (HB2.out.trans (hb.mono HB2.out.size)); replace HV2 := Lib.hid (HV2.out.below hb); replace HQ := Lib.hid ((hb.block _ (bkT_lt HQ.out)).trans HQ.out); clear hb))
        have c33 := (va_cells HQ.out).2.1
        go_wp2_with (fail)
        go_roundw
        case rel => exact ⟨k + 1, wrap64 (s + x.pow), by omega, rfl, by go_num, Lib.hid ⟨by rw [HTS.out, HR.out.1], HB2.out, HV2.out⟩⟩
        case measure => simp [intOf]; omega
      | false =>
        rw [hf] at HCC HTS
        simp only [Bool.false_eq_true, if_false] at HTS
        clear hf
        go_wp2_with (first
          | (refine wpList_load_rowT (by rfl) 41 (.tmp 10) rfl q 0 rfl (vaC x) _ (rowT_range HQ.out) Tryd.underlying41 rfl (by rw [vaC_size]; kernel_rfl) ?_)
          | (go_at_call 74; (with_reducible refine HCC.out.mono ?_); rintro e w4 ⟨rfl, hb⟩; replace HB2 := Lib.hid (HB2.out.trans (hb.mono HB2.out.size)); replace HV2 := Lib.hid (HV2.out.below hb); clear hb))
        go_roundw
        case rel => exact ⟨k + 1, s, by omega, rfl, by go_num, Lib.hid ⟨by rw [HTS.out]; exact HR.out.1, HB2.out, HV2.out⟩⟩
        case measure => simp [intOf]; omega
    · obtain rfl : k = no := by omega
      have HTO2 := Lib.hid (HTO.out wr (HO.out.below HR.out.2.1))
      have HEQ := Lib.hid (show E = if thirdB s (totV old) then none else some 32 from by rw [HEE.out, HR.out.1, HNO.out, List.take_length]; rfl)
      have HB := Lib.hid HR.out.2.1
      clear HR HTO HEE
      cases ht : thirdB s (totV old) with
      | true =>
        rw [ht] at HEQ
        have HTT := Lib.hid (fun w => by have := HTH.out s (totV old) w; rw [ht] at this; exact this)
        clear ht
        go_wp2_with (first
          | (go_at_call 8; (with_reducible refine HTO2.out.mono ?_); rintro e w3 ⟨rfl, hb⟩; replace HB := Lib.hid (HB.out.trans (hb.mono HB.out.size)); clear hb)
          | (go_at_call 42; (with_reducible refine (HTT.out _).mono ?_); rintro e w4 ⟨rfl, rfl⟩))
        go_ret
        exact ⟨by rw [HEQ.out]; rfl, HB.out⟩
      | false =>
        rw [ht] at HEQ
        have HTT := Lib.hid (fun w => by have := HTH.out s (totV old) w; rw [ht] at this; exact this)
        clear ht
        go_wp2_with (first
          | (go_at_call 8; (with_reducible refine HTO2.out.mono ?_); rintro e w3 ⟨rfl, hb⟩; replace HB := Lib.hid (HB.out.trans (hb.mono HB.out.size)); clear hb)
          | (go_at_call 42; (with_reducible refine (HTT.out _).mono ?_); rintro e w4 ⟨rfl, rfl⟩))
        go_ret
        exact ⟨by rw [HEQ.out]; rfl, HB.out⟩
end Go.Proofs.YtabflppnecemkaaDoor
namespace Go.Proofs.YtabflppnecemkaaDoor
set_option linter.unusedVariables false
set_option linter.unusedSimpArgs false
open Go.RowKit
set_option maxRecDepth 100000
set_option linter.unusedSimpArgs false
set_option linter.unusedVariables false
def vA : Va := ⟨{ data := #[97] }, fun _ => 0, 3⟩
def vB : Va := ⟨{ data := #[98] }, fun _ => 0, 1⟩
def vo1 (i : Int) : Vo := ⟨0, 0, 0, fun _ => 0, i, .slice none 0 0, []⟩
def cm0 : Cm := ⟨0, 0, fun _ => 0⟩
theorem sure_ck : ckE [vA, vB] = none := by kernel_rfl
theorem sure_tot : totV [vA, vB] = 4 := by kernel_rfl
theorem sure_vt1 : vtE [vA, vB] [vA, vB] [vo1 1] = some 32 := by kernel_rfl
theorem sure_vt0 : vtE [vA, vB] [vA, vB] [vo1 0] = none := by kernel_rfl
theorem sure_wf : ∀ x ∈ [vA, vB], VaWf x := by
  intro x hx
  simp only [List.mem_cons, List.not_mem_nil, or_false] at hx
  rcases hx with rfl | rfl
  · exact ⟨by show (1 : Nat) ≤ _; omega, fun i _ => by show (0 : Int) ≤ 0 ∧ (0 : Int) < 256; omega⟩
  · exact ⟨by show (1 : Nat) ≤ _; omega, fun i _ => by show (0 : Int) ≤ 0 ∧ (0 : Int) < 256; omega⟩
theorem vA_built : Tryd.prog.built 41 [(0, .string { data := #[97] }), (2, .int .i64 3)] = some (vaC vA) := by kernel_rfl
theorem vB_built : Tryd.prog.built 41 [(0, .string { data := #[98] }), (2, .int .i64 1)] = some (vaC vB) := by kernel_rfl
theorem vo_built (i : Int) : Tryd.prog.built 39 [(4, .int .i64 i)] = some (voC (vo1 i)) := by kernel_rfl
theorem cm_built (a : Option Addr) (n c : Nat) : Tryd.prog.built 31 [(3, .slice a n c)] = some (cmC cm0 (.slice a n c)) := by kernel_rfl
theorem infoVa : (Tryd.prog.info? 41).map (fun i => (i.zero, i.size, i.bytes)) = some (some (.agg (vaC ⟨{ data := #[] }, fun _ => 0, 0⟩)), 34, 56) := by kernel_rfl
theorem infoVo : (Tryd.prog.info? 39).map (fun i => (i.zero, i.size, i.bytes)) = some (some (.agg (voC (vo1 0))), 37, 88) := by kernel_rfl
theorem va_fill : Instr.fill (fun i => some (i * 34, 34)) ((Array.range (2 * 34)).map ((Value.agg (vaC ⟨{ data := #[] }, fun _ => 0, 0⟩)).cells[· % (Value.agg (vaC ⟨{ data := #[] }, fun _ => 0, 0⟩)).cells.size]!)) [(0, .agg (vaC vA)), (1, .agg (vaC vB))] = some (vaC vA ++ vaC vB) := by kernel_rfl
theorem vo_fill (i : Int) : Instr.fill (fun i => some (i * 37, 37)) ((Array.range (1 * 37)).map ((Value.agg (voC (vo1 0))).cells[· % (Value.agg (voC (vo1 0))).cells.size]!)) [(0, .agg (voC (vo1 i)))] = some (voC (vo1 i)) := by kernel_rfl
theorem wpList_vas {w : World} {ops : Array Oper} {rest : List Oper} {o : Oper} {a : Act} {Q : Exit → Act → World → Prop} (hgd : o.guard = none) (x y : Operand) (ho : o.op = .buildSlice 22 2 #[(0, x), (1, y)]) (hx : a.eval x = .agg (vaC vA)) (hy : a.eval y = .agg (vaC vB))
    (h : wpList Tryd.prog ops Q rest (a.put o.dst (.slice (some ⟨w.heap.size, 0, none⟩) 2 2)) (w.alloc (.cells (vaC vA ++ vaC vB) 41))) : wpList Tryd.prog ops Q (o :: rest) a w := by
  refine wpList_plain hgd fun K hK => ?_
  obtain ⟨i0, hi, hz0, hz1, hz2⟩ := info_parts infoVa
  refine wp_buildSlice 22 41 2 #[(0, x), (1, y)] ho (vaC vA ++ vaC vB) i0 _ Tryd.underlying22 hi hz0 (by rw [hz1]; decide) (by rw [hz1]; decide) ?_ (hK _ _ h)
  rw [hz1]
  simpa [hx, hy] using va_fill
theorem wpList_vo1 {w : World} {ops : Array Oper} {rest : List Oper} {o : Oper} {a : Act} {Q : Exit → Act → World → Prop} (hgd : Region.wanted o (yielded ops a.tmps) = true) (x : Operand) (ho : o.op = .buildSlice 29 1 #[(0, x)]) (i : Int) (hx : a.eval x = .agg (voC (vo1 i)))
    (h : wpList Tryd.prog ops Q rest (a.put o.dst (.slice (some ⟨w.heap.size, 0, none⟩) 1 1)) (w.alloc (.cells (voC (vo1 i)) 39))) : wpList Tryd.prog ops Q (o :: rest) a w := by
  refine BigFrame.wpList_want hgd fun K hK => ?_
  obtain ⟨i0, hi, hz0, hz1, hz2⟩ := info_parts infoVo
  refine wp_buildSlice 29 39 1 #[(0, x)] ho (voC (vo1 i)) i0 _ Tryd.underlying29 hi hz0 (by rw [hz1]; decide) (by rw [hz1]; decide) ?_ (hK _ _ h)
  rw [hz1]
  simpa [hx] using vo_fill i
theorem vas_in (w : World) : VaIn (w.alloc (.cells (vaC vA ++ vaC vB) 41)) (.slice (some ⟨w.heap.size, 0, none⟩) 2 2) [vA, vB] := by
  refine ⟨_, 2, rfl, Nat.le_refl _, by simp [maxLen], .inr ⟨_, 0, rfl, by simp, fun i s hi j v hv => ?_⟩⟩
  have hj : j < 34 := by have := (List.getElem?_eq_some_iff.1 hv).1; simpa [vaC_size] using this
  rw [cell_of_row _ _ _ _ _ _ (heap_alloc_new w _)]
  match i, hi with
  | 0, hi =>
    simp only [List.getElem?_cons_zero, Option.some.injEq] at hi
    subst hi
    rw [Array.getElem?_append_left (by rw [vaC_size]; omega)]
    simpa using hv
  | 1, hi =>
    simp only [List.getElem?_cons_succ, List.getElem?_cons_zero, Option.some.injEq] at hi
    subst hi
    rw [Array.getElem?_append_right (by rw [vaC_size]; omega), vaC_size]
    simpa using hv
theorem vo1_in (w : World) (i : Int) : VoIn (w.alloc (.cells (voC (vo1 i)) 39)) (.slice (some ⟨w.heap.size, 0, none⟩) 1 1) [vo1 i] := by
  refine ⟨_, 1, rfl, Nat.le_refl _, by simp [maxLen], .inr ⟨_, 0, rfl, by simp, fun k s hi => ?_⟩⟩
  match k, hi with
  | 0, hi =>
    simp only [List.getElem?_cons_zero, Option.some.injEq] at hi
    subst hi
    exact rowT_range (heap_alloc_new w _)
theorem vo1_sv (i : Int) : ∀ t ∈ [vo1 i], ∃ a n c, t.sv = .slice a n c := by
  intro t ht
  rw [List.mem_singleton.1 ht]
  exact ⟨_, _, _, rfl⟩
theorem wpList_builtW {P : Program} {ops : Array Oper} {rest : List Oper} {o : Oper} {a : Act} {w : World} {Q : Exit → Act → World → Prop} (hg : Region.wanted o (yielded ops a.tmps) = true) (t : TypeId) (parts : Array (Nat × Operand)) (ho : o.op = .build t parts) (cells : Array Value)
    (hf : P.built t (parts.map fun (i, x) => (i, a.eval x)).toList = some cells)
    (h : wpList P ops Q rest (a.put o.dst (.agg cells)) w) : wpList P ops Q (o :: rest) a w := by
  exact BigFrame.wpList_want hg fun K hK => wp_build t parts ho (by rw [hf]; rfl) (by rw [hf]; exact hK _ _ h)
set_option maxHeartbeats 4000000 in
theorem tysure_any (w : World) (hg : ErrType w) : Calls Tryd.prog 6 #[] w fun e w' => e = .returned (.bool true) ∧ Below w.heap.size w w' := by
  have HG := Lib.hid hg
  have HZ := Lib.hid (show ∀ x ∈ [vA, vB], x.name.size ≤ 140737488351232 from fun x hx => (sure_wf x hx).1)
  clear hg
  go_enter Tryd.func6, Tryd.ntmps6
  go_upto_region 2 with (first
    | (refine wpList_builtT rfl 41 #[(0, .const (.string { data := #[97] })), (2, .const (.int .i64 3))] rfl (vaC vA) (by refine Eq.trans (congrArg (Tryd.prog.built 41) ?_) vA_built; kernel_rfl) ?_)
    | (refine wpList_builtT rfl 41 #[(0, .const (.string { data := #[98] })), (2, .const (.int .i64 1))] rfl (vaC vB) (by refine Eq.trans (congrArg (Tryd.prog.built 41) ?_) vB_built; kernel_rfl) ?_)
    | (refine wpList_vas rfl (.tmp 2) (.tmp 3) rfl rfl rfl ?_))
  have HV := Lib.hid (vas_in w)
  have HB := Lib.hid (below_alloc w (.cells (vaC vA ++ vaC vB) 41))
  generalize w.alloc (.cells (vaC vA ++ vaC vB) 41) = w1 at *
  obtain ⟨g, hgq⟩ : ∃ g, g = w.heap.size := ⟨_, rfl⟩
  rw [← hgq] at HV ⊢
  clear hgq
  have HCK := Lib.hid (fun w h => checkset_any [vA, vB] (.slice (some ⟨g, 0, none⟩) 2 2) w h HZ.out)
  rw [sure_ck] at HCK
  have HTO := Lib.hid (fun w h => total_any [vA, vB] (.slice (some ⟨g, 0, none⟩) 2 2) w h)
  rw [sure_tot] at HTO
  have HT1 := Lib.hid (fun vv w h1 h2 => vtrust_any [vA, vB] [vA, vB] [vo1 1] cm0 (.slice (some ⟨g, 0, none⟩) 2 2) (.slice (some ⟨g, 0, none⟩) 2 2) vv w h1 h1 h2 sure_wf sure_wf (by simp) (vo1_sv 1))
  rw [sure_vt1] at HT1
  have HT0 := Lib.hid (fun vv w h1 h2 => vtrust_any [vA, vB] [vA, vB] [vo1 0] cm0 (.slice (some ⟨g, 0, none⟩) 2 2) (.slice (some ⟨g, 0, none⟩) 2 2) vv w h1 h1 h2 sure_wf sure_wf (by simp) (vo1_sv 0))
  rw [sure_vt0] at HT0
  have HNU := Lib.hid (show ∀ w, ErrType w → Calls Tryd.prog 19 #[.iface 65 (.int .i64 32)] w fun r w' => r = .returned (.int .i64 32) ∧ Below w.heap.size w w' from fun w h => num_any (some 32) w h)
  simp only [errV] at HCK HT1 HT0
  clear HZ
  go_wp2_with (first
    | (go_at_call 18; (with_reducible refine (HCK.out _ HV.out).mono ?_); rintro e w2 ⟨rfl, hb⟩; replace HV := Lib.hid (HV.out.below hb); replace HB := Lib.hid (HB.out.trans (hb.mono HB.out.size)); clear hb)
    | (go_at_call 8; (with_reducible refine (HTO.out _ HV.out).mono ?_); rintro e w3 ⟨rfl, hb⟩; replace HV := Lib.hid (HV.out.below hb); replace HB := Lib.hid (HB.out.trans (hb.mono HB.out.size)); clear hb)
    | (refine wpList_builtW (by rfl) 39 #[(4, .const (.int .i64 1))] rfl (voC (vo1 1)) (by refine Eq.trans (congrArg (Tryd.prog.built 39) ?_) (vo_built 1); kernel_rfl) ?_)
    | (refine wpList_builtW (by rfl) 39 #[(4, .const (.int .i64 0))] rfl (voC (vo1 0)) (by refine Eq.trans (congrArg (Tryd.prog.built 39) ?_) (vo_built 0); kernel_rfl) ?_)
    | (refine wpList_vo1 (by rfl) (.tmp 16) rfl 1 rfl ?_; have HO := Lib.hid (vo1_in w3 1); replace HV := Lib.hid (HV.out.below (below_alloc w3 (.cells (voC (vo1 1)) 39))); replace HB := Lib.hid (HB.out.alloc HB.out.size (.cells (voC (vo1 1)) 39)); obtain ⟨g1, hg1⟩ : ∃ g, g = w3.heap.size := ⟨_, rfl⟩; rw [← hg1] at HO ⊢; clear hg1; generalize w3.alloc (.cells (voC (vo1 1)) 39) = w4 at *)
    | (refine wpList_builtW (by rfl) 31 #[(3, .tmp 17)] rfl (cmC cm0 (.slice (some ⟨g1, 0, none⟩) 1 1)) (by refine Eq.trans (congrArg (Tryd.prog.built 31) ?_) (cm_built _ _ _); kernel_rfl) ?_)
    | (go_at_call 20; (with_reducible refine (HT1.out _ _ HV.out HO.out).mono ?_); rintro e w5 ⟨rfl, hb⟩; replace HV := Lib.hid (HV.out.below hb); replace HB := Lib.hid (HB.out.trans (hb.mono HB.out.size)); clear hb HO)
    | (go_at_call 19; (with_reducible refine (HNU.out _ (HG.out.below HB.out)).mono ?_); rintro e w6 ⟨rfl, hb⟩; replace HV := Lib.hid (HV.out.below hb); replace HB := Lib.hid (HB.out.trans (hb.mono HB.out.size)); clear hb)
    | (refine wpList_vo1 (by rfl) (.tmp 26) rfl 0 rfl ?_; have HO2 := Lib.hid (vo1_in w6 0); replace HV := Lib.hid (HV.out.below (below_alloc w6 (.cells (voC (vo1 0)) 39))); replace HB := Lib.hid (HB.out.alloc HB.out.size (.cells (voC (vo1 0)) 39)); obtain ⟨g2, hg2⟩ : ∃ g, g = w6.heap.size := ⟨_, rfl⟩; rw [← hg2] at HO2 ⊢; clear hg2; generalize w6.alloc (.cells (voC (vo1 0)) 39) = w7 at *)
    | (refine wpList_builtW (by rfl) 31 #[(3, .tmp 27)] rfl (cmC cm0 (.slice (some ⟨g2, 0, none⟩) 1 1)) (by refine Eq.trans (congrArg (Tryd.prog.built 31) ?_) (cm_built _ _ _); kernel_rfl) ?_)
    | (go_at_call 20; (with_reducible refine (HT0.out _ _ HV.out HO2.out).mono ?_); rintro e w8 ⟨rfl, hb⟩; replace HV := Lib.hid (HV.out.below hb); replace HB := Lib.hid (HB.out.trans (hb.mono HB.out.size)); clear hb HO2))
  go_ret
  exact ⟨rfl, HB.out⟩
end Go.Proofs.YtabflppnecemkaaDoor
