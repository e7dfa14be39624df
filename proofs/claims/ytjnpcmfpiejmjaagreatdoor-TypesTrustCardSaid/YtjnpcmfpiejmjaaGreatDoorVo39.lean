/- Part 39 of the proof. -/
import Derived.Test.YtjnpcmfpiejmjaaGreatDoorVo38
namespace Go.Proofs.YtjnpcmfpiejmjaaGreatDoor
set_option linter.unusedVariables false
set_option linter.unusedSimpArgs false
open Go.RowKit
set_option maxRecDepth 100000
set_option linter.unusedSimpArgs false
set_option linter.unusedVariables false
/-- the power of the places of P, from place i on -/
def sumI : List Va → (Nat → Bool) → Nat → Int
  | [], _, _ => 0
  | x :: l, P, i => (if P i then x.pow else 0) + sumI l P (i + 1)
def Pos (l : List Va) : Prop := ∀ x ∈ l, 0 ≤ x.pow
theorem sumI_none : ∀ (l : List Va) (i : Nat), sumI l (fun _ => false) i = 0
  | [], _ => rfl
  | x :: l, i => by simp [sumI, sumI_none l]
theorem sumI_all : ∀ (l : List Va) (i : Nat), sumI l (fun _ => true) i = sumV l
  | [], _ => rfl
  | x :: l, i => by simp [sumI, sumV, sumI_all l]
theorem sumI_congr : ∀ (l : List Va) (P Q : Nat → Bool) (i : Nat), (∀ j, P j = Q j) → sumI l P i = sumI l Q i
  | [], _, _, _, _ => rfl
  | x :: l, P, Q, i, h => by simp only [sumI]; rw [h i, sumI_congr l P Q (i + 1) h]
theorem sumI_nonneg : ∀ (l : List Va) (P : Nat → Bool) (i : Nat), Pos l → 0 ≤ sumI l P i
  | [], _, _, _ => Int.le_refl _
  | x :: l, P, i, h => by
    have h1 := sumI_nonneg l P (i + 1) fun y hy => h y (by simp [hy])
    have h2 := h x (by simp)
    simp only [sumI]
    split <;> omega
theorem sumI_le : ∀ (l : List Va) (P : Nat → Bool) (i : Nat), Pos l → sumI l P i ≤ sumV l
  | [], _, _, _ => Int.le_refl _
  | x :: l, P, i, h => by
    have h1 := sumI_le l P (i + 1) fun y hy => h y (by simp [hy])
    have h2 := h x (by simp)
    simp only [sumI, sumV]
    split <;> omega
theorem sumI_out : ∀ (l : List Va) (P : Nat → Bool) (m i : Nat), m < i → sumI l (fun j => P j || decide (j = m)) i = sumI l P i
  | [], _, _, _, _ => rfl
  | x :: l, P, m, i, h => by
    have e : ¬ i = m := by omega
    simp only [sumI]
    rw [sumI_out l P m (i + 1) (by omega)]
    simp [e]
theorem sumI_add : ∀ (l : List Va) (P : Nat → Bool) (m i : Nat) (y : Va), l[m]? = some y → P (i + m) = false → sumI l (fun j => P j || decide (j = i + m)) i = sumI l P i + y.pow
  | [], _, _, _, _, h, _ => by simp at h
  | x :: l, P, 0, i, y, h, hp => by
    simp only [List.getElem?_cons_zero, Option.some.injEq] at h
    subst h
    simp only [Nat.add_zero] at hp ⊢
    simp only [sumI]
    rw [sumI_out l P i (i + 1) (by omega)]
    simp [hp]
    omega
  | x :: l, P, m + 1, i, y, h, hp => by
    simp only [List.getElem?_cons_succ] at h
    have e : i + (m + 1) = (i + 1) + m := by omega
    rw [e] at hp ⊢
    simp only [sumI]
    rw [sumI_add l P m (i + 1) y h hp]
    have e2 : ¬ i = i + 1 + m := by omega
    simp [e2]
    omega
theorem sumI_both : ∀ (l : List Va) (P Q : Nat → Bool) (i : Nat), Pos l → sumI l P i + sumI l Q i - sumV l ≤ sumI l (fun j => P j && Q j) i
  | [], _, _, _, _ => by simp [sumI, sumV]
  | x :: l, P, Q, i, h => by
    have h1 := sumI_both l P Q (i + 1) fun y hy => h y (by simp [hy])
    have h2 := h x (by simp)
    simp only [sumI, sumV]
    rcases Bool.eq_false_or_eq_true (P i) with hp | hp <;> rcases Bool.eq_false_or_eq_true (Q i) with hq | hq <;> simp [hp, hq] <;> omega
/-- votes of a set, each greater than the one ahead -/
structure GoodV (l : List Va) (vs : List Vo) : Prop where
  idx : ∀ (k : Nat) (v : Vo), vs[k]? = some v → 0 ≤ v.val ∧ v.val < l.length
  inc : ∀ (j k : Nat) (u v : Vo), j < k → vs[j]? = some u → vs[k]? = some v → u.val < v.val
def hasV (vs : List Vo) (j : Nat) : Bool := vs.any fun v => decide (v.val = (j : Int))
theorem hasV_snoc {vs : List Vo} {k m : Nat} {v : Vo} (h : vs[k]? = some v) (hm : v.val = (m : Int)) (j : Nat) : hasV (vs.take (k + 1)) j = (hasV (vs.take k) j || decide (j = m)) := by
  unfold hasV
  rw [List.take_add_one, h, List.any_append]
  simp only [Option.toList_some, List.any_cons, List.any_nil, Bool.or_false]
  congr 1
  rw [hm]
  by_cases e : j = m
  · subst e; simp
  · rw [decide_eq_false e, decide_eq_false (by omega)]
theorem hasV_new {l : List Va} {vs : List Vo} (g : GoodV l vs) {k m : Nat} {v : Vo} (h : vs[k]? = some v) (hm : v.val = (m : Int)) : hasV (vs.take k) m = false := by
  unfold hasV
  rw [List.any_eq_false]
  intro u hu
  obtain ⟨j, hj, e⟩ := List.getElem_of_mem hu
  have hjk : j < k := by rw [List.length_take] at hj; omega
  have hju : vs[j]? = some u := by
    rw [← e, List.getElem_take, List.getElem?_eq_getElem]
  have := g.inc j k u v hjk hju h
  simp; omega
theorem good_of {chain : ByteArray} {l : List Va} {D E : Int} {c : Cm} {vs : List Vo} (h : ∀ k, k < vs.length → vcAt chain l D E c vs k = none) : GoodV l vs := by
  have h1 : ∀ (k : Nat) (v : Vo), vs[k]? = some v → prevB vs k v = true ∧ vvE chain l D E v = none := fun k v hv => by
    have := h k (List.getElem?_eq_some_iff.1 hv).1
    unfold vcAt at this
    rw [hv] at this
    simp only at this
    split at this
    · rename_i hp
      exact ⟨(Bool.and_eq_true _ _ |>.mp hp).2, this⟩
    · cases this
  have step : ∀ (k : Nat) (u v : Vo), vs[k]? = some u → vs[k + 1]? = some v → u.val < v.val := fun k u v hu hv =>
    prev_spec (h1 (k + 1) v hv).1 (by omega) (by simpa using hu)
  refine ⟨fun k v hv => vv_idx (h1 k v hv).2, fun j k => ?_⟩
  induction k with
  | zero => intro u v hj; omega
  | succ k ih =>
    intro u v hj hu hv
    obtain ⟨t, ht⟩ : ∃ t, vs[k]? = some t := ⟨vs[k]'(by have := (List.getElem?_eq_some_iff.1 hv).1; omega), List.getElem?_eq_getElem _⟩
    have h2 := step k t v ht hv
    rcases (by omega : j = k ∨ j < k) with rfl | h3
    · rw [hu] at ht; injection ht with ht; rw [ht]; exact h2
    · have := ih u t h3 hu ht; omega
theorem ck_sum {l : List Va} (h : ckE l = none) : Pos l ∧ 0 ≤ sumV l ∧ sumV l ≤ 1099511627776 := by
  obtain ⟨h1, h2, h3⟩ := ck_spec h
  have hp : ∀ (i : Nat) (x : Va), l[i]? = some x → 1 ≤ x.pow ∧ x.pow ≤ 1099511627776 - sumV (l.take i) := fun i x hx => by
    have := h3 i x (List.getElem?_eq_some_iff.1 hx).1 hx
    unfold okAt at this
    simp only [Bool.and_eq_true] at this
    exact of_decide_eq_true this.2.2
  have hs : ∀ k, k ≤ l.length → 0 ≤ sumV (l.take k) ∧ sumV (l.take k) ≤ 1099511627776 := fun k => by
    induction k with
    | zero => intro _; simp [sumV]
    | succ k ih =>
      intro hk
      obtain ⟨i1, i2⟩ := ih (by omega)
      obtain ⟨x, hx⟩ : ∃ x, l[k]? = some x := ⟨l[k]'(by omega), List.getElem?_eq_getElem _⟩
      have := hp k x hx
      rw [sumV_snoc hx]
      omega
  have := hs l.length (Nat.le_refl _)
  rw [List.take_length] at this
  refine ⟨fun x hx => ?_, this.1, this.2⟩
  obtain ⟨i, hi, e⟩ := List.getElem_of_mem hx
  have := (hp i x (by rw [← e]; exact List.getElem?_eq_getElem _)).1
  omega
theorem tot_sum {l : List Va} (h : ckE l = none) : totV l = sumV l := by
  obtain ⟨h1, h2, h3⟩ := ck_sum h
  have key : ∀ k, k ≤ l.length → totV (l.take k) = sumV (l.take k) := fun k => by
    induction k with
    | zero => intro _; rfl
    | succ k ih =>
      intro hk
      obtain ⟨x, hx⟩ : ∃ x, l[k]? = some x := ⟨l[k]'(by omega), List.getElem?_eq_getElem _⟩
      have e1 : sumV (l.take (k + 1)) ≤ sumV l := by
        conv => rhs; rw [← List.take_append_drop (k + 1) l]
        rw [sumV_append]
        have : 0 ≤ sumV (l.drop (k + 1)) := by rw [← sumI_all _ 0]; exact sumI_nonneg _ _ _ fun y hy => h1 y (List.mem_of_mem_drop hy)
        omega
      have e2 : 0 ≤ sumV (l.take (k + 1)) := by rw [← sumI_all _ 0]; exact sumI_nonneg _ _ _ fun y hy => h1 y (List.mem_of_mem_take hy)
      rw [totV_snoc hx, ih (by omega), ← sumV_snoc hx]
      exact IntWalk.wrap64_in _ (by omega)
  have := key l.length (Nat.le_refl _)
  rwa [List.take_length] at this
/-- a commit's power is that of its places -/
theorem pow_sum {l : List Va} {vs : List Vo} (hc : ckE l = none) (g : GoodV l vs) : ∀ k, k ≤ vs.length → powV l vs k = sumI l (hasV (vs.take k)) 0 := fun k => by
  obtain ⟨h1, h2, h3⟩ := ck_sum hc
  induction k with
  | zero => intro _; simp [powV, hasV]; exact (sumI_none l 0).symm
  | succ k ih =>
    intro hk
    obtain ⟨v, hv⟩ : ∃ v, vs[k]? = some v := ⟨vs[k]'(by omega), List.getElem?_eq_getElem _⟩
    obtain ⟨i1, i2⟩ := g.idx k v hv
    obtain ⟨m, hm⟩ : ∃ m : Nat, v.val = (m : Int) := ⟨v.val.toNat, by omega⟩
    obtain ⟨y, hy⟩ : ∃ y, l[m]? = some y := ⟨l[m]'(by omega), List.getElem?_eq_getElem _⟩
    have e := sumI_add l (hasV (vs.take k)) m 0 y hy (by rw [Nat.zero_add]; exact hasV_new g hv hm)
    have e2 : sumI l (hasV (vs.take (k + 1))) 0 = sumI l (hasV (vs.take k)) 0 + y.pow := by
      rw [← e]
      exact sumI_congr _ _ _ _ fun j => by rw [hasV_snoc hv hm, Nat.zero_add]
    have b1 := sumI_nonneg l (hasV (vs.take (k + 1))) 0 h1
    have b2 := sumI_le l (hasV (vs.take (k + 1))) 0 h1
    rw [powV_next hv hm hy, ih (by omega), ← e2]
    exact IntWalk.wrap64_in _ (by omega)
theorem two_lt {p t : Int} (h : twoB p t = true) (hp : 0 ≤ p ∧ p ≤ 1099511627776) (ht : 0 ≤ t ∧ t ≤ 1099511627776) : 2 * t < 3 * p := by
  unfold twoB at h
  have := of_decide_eq_true h
  rwa [IntWalk.wrap64_in _ (by omega), IntWalk.wrap64_in _ (by omega)] at this
/-- those that have signed both -/
def bothV (l : List Va) (xs ys : List Vo) : Int := sumI l (fun j => hasV xs j && hasV ys j) 0
theorem third_of {chain : ByteArray} {l : List Va} {D E : Int} {c d : Cm} {xs ys : List Vo} (hx : vcE chain l D E c xs = none) (hy : vcE chain l D E d ys = none) :
    GoodV l xs ∧ GoodV l ys ∧ ckE l = none ∧ totV l = sumV l ∧ sumV l < 3 * bothV l xs ys := by
  obtain ⟨hc, x1, x2⟩ := vc_spec hx
  obtain ⟨-, y1, y2⟩ := vc_spec hy
  have gx := good_of x1
  have gy := good_of y1
  obtain ⟨h1, h2, h3⟩ := ck_sum hc
  have px := pow_sum hc gx xs.length (Nat.le_refl _)
  have py := pow_sum hc gy ys.length (Nat.le_refl _)
  rw [List.take_length] at px py
  rw [px, tot_sum hc] at x2
  rw [py, tot_sum hc] at y2
  have bx := sumI_nonneg l (hasV xs) 0 h1
  have bx2 := sumI_le l (hasV xs) 0 h1
  have by1 := sumI_nonneg l (hasV ys) 0 h1
  have by2 := sumI_le l (hasV ys) 0 h1
  have tx := two_lt x2 (by omega) (by omega)
  have ty := two_lt y2 (by omega) (by omega)
  have hb := sumI_both l (hasV xs) (hasV ys) 0 h1
  refine ⟨gx, gy, hc, tot_sum hc, ?_⟩
  unfold bothV
  omega
end Go.Proofs.YtjnpcmfpiejmjaaGreatDoor
