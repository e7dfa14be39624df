/- Part 45 of the proof. -/
import Derived.Lib.SmallJoins
import Derived.Deep.Fields
import Derived.ChangeSame
import Derived.Test.YtanekacpalpcbaaGreatDoorRd12
import Derived.Test.YtanekacpalpcbaaGreatDoorRd13
import Derived.Test.YtanekacpalpcbaaGreatDoorRd33
import Derived.Test.YtanekacpalpcbaaGreatDoorRd44
namespace Go.Proofs.YtanekacpalpcbaaGreatDoor
set_option linter.unusedVariables false
set_option linter.unusedSimpArgs false
open Go.RowKit
set_option maxRecDepth 100000
set_option linter.unusedSimpArgs false
set_option linter.unusedVariables false
/-- the power of the places of P, from place i on -/
def sumI : List Va → (Nat → Bool) → Nat → Int
  | [], _, _ => 0
  | x :: l, P, i => (if P i then x.pow else 0) + sumI l P (i + 1)
def Pos (l : List Va) : Prop := ∀ x ∈ l, 0 ≤ x.pow
theorem sumI_none : ∀ (l : List Va) (i : Nat), sumI l (fun _ => false) i = 0
  | [], _ => rfl
  | x :: l, i => by simp [sumI, sumI_none l]
theorem sumI_all : ∀ (l : List Va) (i : Nat), sumI l (fun _ => true) i = sumV l
  | [], _ => rfl
  | x :: l, i => by simp [sumI, sumV, sumI_all l]
theorem sumI_congr : ∀ (l : List Va) (P Q : Nat → Bool) (i : Nat), (∀ j, P j = Q j) → sumI l P i = sumI l Q i
  | [], _, _, _, _ => rfl
  | x :: l, P, Q, i, h => by simp only [sumI]; rw [h i, sumI_congr l P Q (i + 1) h]
theorem sumI_nonneg : ∀ (l : List Va) (P : Nat → Bool) (i : Nat), Pos l → 0 ≤ sumI l P i
  | [], _, _, _ => Int.le_refl _
  | x :: l, P, i, h => by
    have h1 := sumI_nonneg l P (i + 1) fun y hy => h y (by simp [hy])
    have h2 := h x (by simp)
    simp only [sumI]
    split <;> omega
theorem sumI_le : ∀ (l : List Va) (P : Nat → Bool) (i : Nat), Pos l → sumI l P i ≤ sumV l
  | [], _, _, _ => Int.le_refl _
  | x :: l, P, i, h => by
    have h1 := sumI_le l P (i + 1) fun y hy => h y (by simp [hy])
    have h2 := h x (by simp)
    simp only [sumI, sumV]
    split <;> omega
theorem sumI_out : ∀ (l : List Va) (P : Nat → Bool) (m i : Nat), m < i → sumI l (fun j => P j || decide (j = m)) i = sumI l P i
  | [], _, _, _, _ => rfl
  | x :: l, P, m, i, h => by
    have e : ¬ i = m := by omega
    simp only [sumI]
    rw [sumI_out l P m (i + 1) (by omega)]
    simp [e]
theorem sumI_add : ∀ (l : List Va) (P : Nat → Bool) (m i : Nat) (y : Va), l[m]? = some y → P (i + m) = false → sumI l (fun j => P j || decide (j = i + m)) i = sumI l P i + y.pow
  | [], _, _, _, _, h, _ => by simp at h
  | x :: l, P, 0, i, y, h, hp => by
    simp only [List.getElem?_cons_zero, Option.some.injEq] at h
    subst h
    simp only [Nat.add_zero] at hp ⊢
    simp only [sumI]
    rw [sumI_out l P i (i + 1) (by omega)]
    simp [hp]
    omega
  | x :: l, P, m + 1, i, y, h, hp => by
    simp only [List.getElem?_cons_succ] at h
    have e : i + (m + 1) = (i + 1) + m := by omega
    rw [e] at hp ⊢
    simp only [sumI]
    rw [sumI_add l P m (i + 1) y h hp]
    have e2 : ¬ i = i + 1 + m := by omega
    simp [e2]
    omega
theorem sumI_both : ∀ (l : List Va) (P Q : Nat → Bool) (i : Nat), Pos l → sumI l P i + sumI l Q i - sumV l ≤ sumI l (fun j => P j && Q j) i
  | [], _, _, _, _ => by simp [sumI, sumV]
  | x :: l, P, Q, i, h => by
    have h1 := sumI_both l P Q (i + 1) fun y hy => h y (by simp [hy])
    have h2 := h x (by simp)
    simp only [sumI, sumV]
    rcases Bool.eq_false_or_eq_true (P i) with hp | hp <;> rcases Bool.eq_false_or_eq_true (Q i) with hq | hq <;> simp [hp, hq] <;> omega
/-- votes of a set, each greater than the one ahead -/
structure GoodV (l : List Va) (vs : List Vo) : Prop where
  idx : ∀ (k : Nat) (v : Vo), vs[k]? = some v → 0 ≤ v.val ∧ v.val < l.length
  inc : ∀ (j k : Nat) (u v : Vo), j < k → vs[j]? = some u → vs[k]? = some v → u.val < v.val
def hasV (vs : List Vo) (j : Nat) : Bool := vs.any fun v => decide (v.val = (j : Int))
theorem hasV_snoc {vs : List Vo} {k m : Nat} {v : Vo} (h : vs[k]? = some v) (hm : v.val = (m : Int)) (j : Nat) : hasV (vs.take (k + 1)) j = (hasV (vs.take k) j || decide (j = m)) := by
  unfold hasV
  rw [List.take_add_one, h, List.any_append]
  simp only [Option.toList_some, List.any_cons, List.any_nil, Bool.or_false]
  congr 1
  rw [hm]
  by_cases e : j = m
  · subst e; simp
  · rw [decide_eq_false e, decide_eq_false (by omega)]
theorem hasV_new {l : List Va} {vs : List Vo} (g : GoodV l vs) {k m : Nat} {v : Vo} (h : vs[k]? = some v) (hm : v.val = (m : Int)) : hasV (vs.take k) m = false := by
  unfold hasV
  rw [List.any_eq_false]
  intro u hu
  obtain ⟨j, hj, e⟩ := List.getElem_of_mem hu
  have hjk : j < k := by rw [List.length_take] at hj; omega
  have hju : vs[j]? = some u := by
    rw [← e, List.getElem_take, List.getElem?_eq_getElem]
  have := g.inc j k u v hjk hju h
  simp; omega
theorem good_of {chain : ByteArray} {l : List Va} {D E : Int} {c : Cm} {vs : List Vo} (h : ∀ k, k < vs.length → vcAt chain l D E c vs k = none) : GoodV l vs := by
  have h1 : ∀ (k : Nat) (v : Vo), vs[k]? = some v → prevB vs k v = true ∧ vvE chain l D E v = none := fun k v hv => by
    have := h k (List.getElem?_eq_some_iff.1 hv).1
    unfold vcAt at this
    rw [hv] at this
    simp only at this
    split at this
    · rename_i hp
      exact ⟨(Bool.and_eq_true _ _ |>.mp hp).2, this⟩
    · cases this
  have step : ∀ (k : Nat) (u v : Vo), vs[k]? = some u → vs[k + 1]? = some v → u.val < v.val := fun k u v hu hv =>
    prev_spec (h1 (k + 1) v hv).1 (by omega) (by simpa using hu)
  refine ⟨fun k v hv => vv_idx (h1 k v hv).2, fun j k => ?_⟩
  induction k with
  | zero => intro u v hj; omega
  | succ k ih =>
    intro u v hj hu hv
    obtain ⟨t, ht⟩ : ∃ t, vs[k]? = some t := ⟨vs[k]'(by have := (List.getElem?_eq_some_iff.1 hv).1; omega), List.getElem?_eq_getElem _⟩
    have h2 := step k t v ht hv
    rcases (by omega : j = k ∨ j < k) with rfl | h3
    · rw [hu] at ht; injection ht with ht; rw [ht]; exact h2
    · have := ih u t h3 hu ht; omega
theorem ck_sum {l : List Va} (h : ckE l = none) : Pos l ∧ 0 ≤ sumV l ∧ sumV l ≤ 1099511627776 := by
  obtain ⟨h1, h2, h3⟩ := ck_spec h
  have hp : ∀ (i : Nat) (x : Va), l[i]? = some x → 1 ≤ x.pow ∧ x.pow ≤ 1099511627776 - sumV (l.take i) := fun i x hx => by
    have := h3 i x (List.getElem?_eq_some_iff.1 hx).1 hx
    unfold okAt at this
    simp only [Bool.and_eq_true] at this
    exact of_decide_eq_true this.2.2
  have hs : ∀ k, k ≤ l.length → 0 ≤ sumV (l.take k) ∧ sumV (l.take k) ≤ 1099511627776 := fun k => by
    induction k with
    | zero => intro _; simp [sumV]
    | succ k ih =>
      intro hk
      obtain ⟨i1, i2⟩ := ih (by omega)
      obtain ⟨x, hx⟩ : ∃ x, l[k]? = some x := ⟨l[k]'(by omega), List.getElem?_eq_getElem _⟩
      have := hp k x hx
      rw [sumV_snoc hx]
      omega
  have := hs l.length (Nat.le_refl _)
  rw [List.take_length] at this
  refine ⟨fun x hx => ?_, this.1, this.2⟩
  obtain ⟨i, hi, e⟩ := List.getElem_of_mem hx
  have := (hp i x (by rw [← e]; exact List.getElem?_eq_getElem _)).1
  omega
theorem tot_sum {l : List Va} (h : ckE l = none) : totV l = sumV l := by
  obtain ⟨h1, h2, h3⟩ := ck_sum h
  have key : ∀ k, k ≤ l.length → totV (l.take k) = sumV (l.take k) := fun k => by
    induction k with
    | zero => intro _; rfl
    | succ k ih =>
      intro hk
      obtain ⟨x, hx⟩ : ∃ x, l[k]? = some x := ⟨l[k]'(by omega), List.getElem?_eq_getElem _⟩
      have e1 : sumV (l.take (k + 1)) ≤ sumV l := by
        conv => rhs; rw [← List.take_append_drop (k + 1) l]
        rw [sumV_append]
        have : 0 ≤ sumV (l.drop (k + 1)) := by rw [← sumI_all _ 0]; exact sumI_nonneg _ _ _ fun y hy => h1 y (List.mem_of_mem_drop hy)
        omega
      have e2 : 0 ≤ sumV (l.take (k + 1)) := by rw [← sumI_all _ 0]; exact sumI_nonneg _ _ _ fun y hy => h1 y (List.mem_of_mem_take hy)
      rw [totV_snoc hx, ih (by omega), ← sumV_snoc hx]
      exact IntWalk.wrap64_in _ (by omega)
  have := key l.length (Nat.le_refl _)
  rwa [List.take_length] at this
/-- a commit's power is that of its places -/
theorem pow_sum {l : List Va} {vs : List Vo} (hc : ckE l = none) (g : GoodV l vs) : ∀ k, k ≤ vs.length → powV l vs k = sumI l (hasV (vs.take k)) 0 := fun k => by
  obtain ⟨h1, h2, h3⟩ := ck_sum hc
  induction k with
  | zero => intro _; simp [powV, hasV]; exact (sumI_none l 0).symm
  | succ k ih =>
    intro hk
    obtain ⟨v, hv⟩ : ∃ v, vs[k]? = some v := ⟨vs[k]'(by omega), List.getElem?_eq_getElem _⟩
    obtain ⟨i1, i2⟩ := g.idx k v hv
    obtain ⟨m, hm⟩ : ∃ m : Nat, v.val = (m : Int) := ⟨v.val.toNat, by omega⟩
    obtain ⟨y, hy⟩ : ∃ y, l[m]? = some y := ⟨l[m]'(by omega), List.getElem?_eq_getElem _⟩
    have e := sumI_add l (hasV (vs.take k)) m 0 y hy (by rw [Nat.zero_add]; exact hasV_new g hv hm)
    have e2 : sumI l (hasV (vs.take (k + 1))) 0 = sumI l (hasV (vs.take k)) 0 + y.pow := by
      rw [← e]
      exact sumI_congr _ _ _ _ fun j => by rw [hasV_snoc hv hm, Nat.zero_add]
    have b1 := sumI_nonneg l (hasV (vs.take (k + 1))) 0 h1
    have b2 := sumI_le l (hasV (vs.take (k + 1))) 0 h1
    rw [powV_next hv hm hy, ih (by omega), ← e2]
    exact IntWalk.wrap64_in _ (by omega)
theorem two_lt {p t : Int} (h : twoB p t = true) (hp : 0 ≤ p ∧ p ≤ 1099511627776) (ht : 0 ≤ t ∧ t ≤ 1099511627776) : 2 * t < 3 * p := by
  unfold twoB at h
  have := of_decide_eq_true h
  rwa [IntWalk.wrap64_in _ (by omega), IntWalk.wrap64_in _ (by omega)] at this
/-- those that have signed both -/
def bothV (l : List Va) (xs ys : List Vo) : Int := sumI l (fun j => hasV xs j && hasV ys j) 0
theorem third_of {chain : ByteArray} {l : List Va} {D E : Int} {c d : Cm} {xs ys : List Vo} (hx : vcE chain l D E c xs = none) (hy : vcE chain l D E d ys = none) :
    GoodV l xs ∧ GoodV l ys ∧ ckE l = none ∧ totV l = sumV l ∧ sumV l < 3 * bothV l xs ys := by
  obtain ⟨hc, x1, x2⟩ := vc_spec hx
  obtain ⟨-, y1, y2⟩ := vc_spec hy
  have gx := good_of x1
  have gy := good_of y1
  obtain ⟨h1, h2, h3⟩ := ck_sum hc
  have px := pow_sum hc gx xs.length (Nat.le_refl _)
  have py := pow_sum hc gy ys.length (Nat.le_refl _)
  rw [List.take_length] at px py
  rw [px, tot_sum hc] at x2
  rw [py, tot_sum hc] at y2
  have bx := sumI_nonneg l (hasV xs) 0 h1
  have bx2 := sumI_le l (hasV xs) 0 h1
  have by1 := sumI_nonneg l (hasV ys) 0 h1
  have by2 := sumI_le l (hasV ys) 0 h1
  have tx := two_lt x2 (by omega) (by omega)
  have ty := two_lt y2 (by omega) (by omega)
  have hb := sumI_both l (hasV xs) (hasV ys) 0 h1
  refine ⟨gx, gy, hc, tot_sum hc, ?_⟩
  unfold bothV
  omega
end Go.Proofs.YtanekacpalpcbaaGreatDoor
namespace Go.Proofs.YtanekacpalpcbaaGreatDoor
set_option linter.unusedVariables false
set_option linter.unusedSimpArgs false
open Go.RowKit
set_option maxRecDepth 100000
set_option linter.unusedSimpArgs false
set_option linter.unusedVariables false
theorem sumI_snoc : ∀ (r : List Va) (x : Va) (P : Nat → Bool) (i : Nat), sumI (r ++ [x]) P i = sumI r P i + if P (i + r.length) then x.pow else 0
  | [], x, P, i => by simp [sumI]
  | y :: r, x, P, i => by
    simp only [List.cons_append, sumI, List.length_cons]
    rw [sumI_snoc r x P (i + 1), show i + 1 + r.length = i + (r.length + 1) by omega]
    omega
theorem sumI_mono : ∀ (l : List Va) (P Q : Nat → Bool) (i : Nat), Pos l → (∀ j x, l[j]? = some x → P (i + j) = true → Q (i + j) = true) → sumI l P i ≤ sumI l Q i
  | [], _, _, _, _, _ => Int.le_refl _
  | x :: l, P, Q, i, hp, h => by
    have h1 := sumI_mono l P Q (i + 1) (fun y hy => hp y (by simp [hy])) fun j y hj hP => by
      rw [show i + 1 + j = i + (j + 1) by omega] at hP ⊢
      exact h (j + 1) y (by simpa using hj) hP
    have h2 := hp x (by simp)
    have h3 := h 0 x rfl
    rw [Nat.add_zero] at h3
    simp only [sumI]
    cases hP : P i with
    | true => rw [h3 hP]; simp; omega
    | false => cases hQ : Q i <;> simp <;> omega
theorem sameW_refl (x : Va) : sameW x x = true := by simp [sameW]
theorem found_self {l : List Va} {f : Nat → Bool} {j : Nat} {x : Va} (h : l[j]? = some x) (hf : f j = true) : foundB l f l.length x = true := by
  unfold foundB
  rw [List.any_eq_true]
  exact ⟨j, List.mem_range.2 (List.getElem?_eq_some_iff.1 h).1, by rw [hf, h]; simp [sameW_refl]⟩
/-- who of the set is known again -/
def fnd (l : List Va) (f : Nat → Bool) (j : Nat) : Bool := (l[j]?.map (foundB l f l.length)).getD false
theorem trP_sum {l : List Va} (hc : ckE l = none) (f : Nat → Bool) : ∀ k, k ≤ l.length → trP l f (l.take k) 0 = sumI (l.take k) (fnd l f) 0 := fun k => by
  obtain ⟨h1, h2, h3⟩ := ck_sum hc
  induction k with
  | zero => intro _; rfl
  | succ k ih =>
    intro hk
    obtain ⟨x, hx⟩ : ∃ x, l[k]? = some x := ⟨l[k]'(by omega), List.getElem?_eq_getElem _⟩
    have hl : (l.take k).length = k := by rw [List.length_take]; omega
    have e1 : sumI (l.take (k + 1)) (fnd l f) 0 = sumI (l.take k) (fnd l f) 0 + if foundB l f l.length x then x.pow else 0 := by
      rw [List.take_add_one, hx]
      have := sumI_snoc (l.take k) x (fnd l f) 0
      rw [hl, Nat.zero_add] at this
      rw [show (some x).toList = [x] from rfl, this]
      unfold fnd; rw [hx]; rfl
    have p1 : Pos (l.take (k + 1)) := fun y hy => h1 y (List.mem_of_mem_take hy)
    have b1 := sumI_nonneg _ (fnd l f) 0 p1
    have b2 := sumI_le _ (fnd l f) 0 p1
    have b3 : sumV (l.take (k + 1)) ≤ sumV l := by
      conv => rhs; rw [← List.take_append_drop (k + 1) l]
      rw [sumV_append]
      have : 0 ≤ sumV (l.drop (k + 1)) := by rw [← sumI_all _ 0]; exact sumI_nonneg _ _ _ fun y hy => h1 y (List.mem_of_mem_drop hy)
      omega
    rw [trP_take hx, ih (by omega)]
    cases hf : foundB l f l.length x with
    | false => rw [hf] at e1; rw [e1]; simp
    | true =>
      rw [hf] at e1
      rw [if_pos rfl] at e1 ⊢
      rw [e1] at b1 b2 ⊢
      exact IntWalk.wrap64_in _ (by omega)
theorem trust_of {chain : ByteArray} {l : List Va} {D E : Int} {c : Cm} {vs : List Vo} (h : vcE chain l D E c vs = none) : vtE l l vs = none := by
  obtain ⟨hc, x1, x2⟩ := vc_spec h
  have gx := good_of x1
  obtain ⟨h1, h2, h3⟩ := ck_sum hc
  have px := pow_sum hc gx vs.length (Nat.le_refl _)
  rw [List.take_length] at px
  rw [px, tot_sum hc] at x2
  have bx := sumI_nonneg l (hasV vs) 0 h1
  have bx2 := sumI_le l (hasV vs) 0 h1
  have tx := two_lt x2 (by omega) (by omega)
  have ts := trP_sum hc (votedF vs) l.length (Nat.le_refl _)
  rw [List.take_length] at ts
  have b1 := sumI_nonneg l (fnd l (votedF vs)) 0 h1
  have b2 := sumI_le l (fnd l (votedF vs)) 0 h1
  have b3 := sumI_mono l (hasV vs) (fnd l (votedF vs)) 0 h1 fun j x hj hp => by
    rw [Nat.zero_add] at hp ⊢
    unfold fnd; rw [hj]
    exact found_self hj hp
  unfold vtE thirdB
  rw [ts, tot_sum hc, IntWalk.wrap64_in _ (by omega), if_pos]
  exact decide_eq_true (by omega)
theorem vc_set {chain : ByteArray} {l : List Va} {D E : Int} {c : Cm} {vs : List Vo} (h : vcE chain l D E c vs = none) : l.length ≤ 1048576 := by
  obtain ⟨hc, -, -⟩ := vc_spec h
  have := (ck_spec hc).2.1
  omega
theorem zint_inj {a b : Int} (ha : -9223372036854775808 ≤ a ∧ a ≤ 9223372036854775807) (hb : -9223372036854775808 ≤ b ∧ b ≤ 9223372036854775807) (h : varint (zig a) = varint (zig b)) : a = b := by
  have e1 := intS_varint a [] ha.1 ha.2
  rw [h, intS_varint b [] hb.1 hb.2] at e1
  exact (Prod.mk.inj e1).1.symm
theorem hd_time {CH : ByteArray} {HT TM TN : Int} {LA AP TX VA NX : Nat → Int} {PR : Int} (ha : -9223372036854775808 ≤ TM ∧ TM ≤ 9223372036854775807) (hb : -9223372036854775808 ≤ TN ∧ TN ≤ 9223372036854775807) (h : hdL CH HT TM LA AP TX VA NX PR = hdL CH HT TN LA AP TX VA NX PR) : TM = TN := by
  unfold hdL at h
  exact zint_inj ha hb (List.append_cancel_left (List.append_cancel_right (List.append_cancel_right (List.append_cancel_right (List.append_cancel_right (List.append_cancel_right (List.append_cancel_right h)))))))
theorem rowL_zero {f g : Nat → Int} (h : rowL 32 f = rowL 32 g) : f 0 = g 0 := by
  have := congrArg (fun l : List Int => l[0]?) h
  simpa [rowL] using this
theorem hd_app {CH : ByteArray} {HT TM : Int} {LA AP AQ TX VA NX : Nat → Int} {PR : Int} (h : hdL CH HT TM LA AP TX VA NX PR = hdL CH HT TM LA AQ TX VA NX PR) : AP 0 = AQ 0 := by
  unfold hdL at h
  exact rowL_zero (List.append_cancel_left (List.append_cancel_right (List.append_cancel_right (List.append_cancel_right (List.append_cancel_right h)))))
end Go.Proofs.YtanekacpalpcbaaGreatDoor
namespace Go.Proofs.YtanekacpalpcbaaGreatDoor
set_option linter.unusedVariables false
set_option linter.unusedSimpArgs false
open Go.ChangeShapes Go.WideShapes Go.ChangeAt Go.RowKit
set_option maxRecDepth 100000
end Go.Proofs.YtanekacpalpcbaaGreatDoor
namespace Go.Proofs.YtanekacpalpcbaaGreatDoor
set_option linter.unusedVariables false
set_option linter.unusedSimpArgs false
open Go.ChangeShapes Go.WideShapes Go.ChangeAt Go.RowKit Go.Proofs
set_option maxRecDepth 100000
set_option linter.unusedSimpArgs false
set_option linter.unusedVariables false
/-- a slice of rows that came in: each row's cells are C t -/
theorem rows_raw {H α : Type} {enc : TypeId × Value → H} {W : World} {T E : TypeId} {n : Nat} (hT : Tryz.prog.underlying T = some (.slice E)) (hn : Tryz.prog.cellsOf E = n) (hn0 : 0 < n) (C : α → List Value) (hC : ∀ t, (C t).length = n) (Ok : α → Nat → Prop)
    (hel : ∀ (f : Nat) (cs : List Value) (x : DataW H × List MemPlace), DataW.trod enc Tryz.prog W 0 (fun _ => true) true f E cs = some x → ∃ t, cs = C t ∧ Ok t (Rows.uptoBulk x.1))
    {fuel : Nat} {cs : List Value} {x : DataW H × List MemPlace} (h : DataW.trod enc Tryz.prog W 0 (fun _ => true) true fuel T cs = some x) :
    ∃ (ts : List α) (a : Option Addr) (cap : Nat), cs = [.slice a ts.length cap] ∧ ts.length ≤ cap ∧ ts.length ≤ maxLen ∧ ts.length ≤ Rows.uptoBulk x.1 ∧
      (ts = [] ∨ ∃ b off, a = some ⟨b, off, none⟩ ∧ b < W.heap.size ∧ ∀ i t, ts[i]? = some t → W.rangeAt b (off + i * n) (C t)) ∧ ∀ t ∈ ts, ∃ k, Ok t k ∧ k ≤ Rows.uptoBulk x.1 := by
  rcases Deep.open_slice hT h with ⟨hcs, hx⟩ | ⟨ad, l, c, m, f, D, Pl, hcs, _, hl, hm, hmm, hx, hel2⟩
  · exact ⟨[], none, 0, hcs, by simp, by simp [maxLen], by simp, .inl rfl, by simp⟩
  · simp only [if_true] at hmm
    subst hx
    rw [hn] at hel2
    have key : ∀ i, i < l → ∃ t : α, (∀ j v, (C t)[j]? = some v → W.cell? (ad.add (i * n + j)) = some v) ∧ Ok t (Rows.uptoBulk (D i)) := by
      intro i hi
      obtain ⟨cs', h1, h2⟩ := hel2 i (by omega)
      obtain ⟨_, hlen, hcell⟩ := World.cells?_some h1
      obtain ⟨t, rfl, hok⟩ := hel f _ _ h2
      refine ⟨t, fun j v hv => ?_, hok⟩
      have hj : j < n := by have := (List.getElem?_eq_some_iff.1 hv).1; rw [hC] at this; exact this
      rw [← hv, ← hcell j hj]
      by_cases hj0 : j = 0 <;> by_cases hi0 : i * n = 0 <;> simp [hj0, hi0, Addr.add, Nat.add_assoc]
    have hnone : ∀ (i : Nat), l ≤ i → True := fun _ _ => trivial
    by_cases hl0 : l = 0
    · subst hl0
      exact ⟨[], some ad, c, hcs, by simp, by simp [maxLen], by simp, .inl rfl, by simp⟩
    · obtain ⟨t0, _⟩ := key 0 (by omega)
      have hinh : Nonempty α := ⟨t0⟩
      have key2 : ∀ i, ∃ t : α, i < l → (∀ j v, (C t)[j]? = some v → W.cell? (ad.add (i * n + j)) = some v) ∧ Ok t (Rows.uptoBulk (D i)) := fun i => by
        by_cases hi : i < l
        · obtain ⟨t, ht⟩ := key i hi; exact ⟨t, fun _ => ht⟩
        · exact ⟨t0, fun h => absurd h hi⟩
      obtain ⟨F, hF⟩ : ∃ F : Nat → α, ∀ i, i < l → (∀ j v, (C (F i))[j]? = some v → W.cell? (ad.add (i * n + j)) = some v) ∧ Ok (F i) (Rows.uptoBulk (D i)) := ⟨fun i => (key2 i).choose, fun i => (key2 i).choose_spec⟩
      have hget : ∀ i t, ((List.range l).map F)[i]? = some t → i < l ∧ F i = t := fun i t hi => by
        have hil : i < l := by have := (List.getElem?_eq_some_iff.1 hi).1; simpa using this
        rw [List.getElem?_map, List.getElem?_range hil] at hi
        cases hi; exact ⟨hil, rfl⟩
      have hblk := bulk_len ((List.range l).map D)
      simp only [List.length_map, List.length_range] at hblk
      refine ⟨(List.range l).map F, some ad, c, by simpa using hcs, by simpa using hl, by simp; omega, ?_, .inr ?_, fun t ht => ?_⟩
      · simp only [Rows.uptoBulk, List.length_map, List.length_range]; omega
      · obtain ⟨b, off, spot⟩ := ad
        have h1 : (C (F 0))[0]? = some (C (F 0))[0]! := by rw [List.getElem?_eq_getElem (by rw [hC]; exact hn0)]; simp [hC, hn0]
        have h0 := (hF 0 (by omega)).1 0 _ h1
        have hspot : spot = none := by simpa [Addr.add] using World.cell?_spot h0
        subst hspot
        refine ⟨b, off, rfl, by simpa [Addr.add] using World.block_lt_of_cell? _ _ h0, fun i t hi => ?_⟩
        obtain ⟨hil, rfl⟩ := hget i t hi
        intro j v hv
        have := (hF i hil).1 j v hv
        rw [Addr.add_mid] at this
        rw [Nat.add_assoc]; exact this
      · obtain ⟨i, hi, rfl⟩ := List.mem_map.1 ht
        have h2 := bulk_mem (d := D i) (l := (List.range l).map D) (List.mem_map.2 ⟨i, hi, rfl⟩)
        exact ⟨_, (hF i (List.mem_range.1 hi)).2, by simp only [Rows.uptoBulk]; omega⟩
theorem pvone {α : Type} {l : List α} {k : Nat} {v : α} (h : (l.drop k).take 1 = [v]) : l[k]? = some v := by
  have h1 : ((l.drop k).take 1)[0]? = some v := by rw [h]; rfl
  rw [List.getElem?_take, if_pos (by omega), List.getElem?_drop, Nat.add_zero] at h1
  exact h1
theorem bulkAt {H : Type} {d : DataW H} {l : List (DataW H)} {i : Nat} (h : l[i]? = some d) : Rows.uptoBulk d ≤ Rows.uptoBulkAll l := bulk_mem (List.mem_of_getElem? h)
end Go.Proofs.YtanekacpalpcbaaGreatDoor
namespace Go.Proofs.YtanekacpalpcbaaGreatDoor
set_option linter.unusedVariables false
set_option linter.unusedSimpArgs false
open Go.RowKit
set_option maxRecDepth 100000
/-- a Case -/
def csC (chain : ByteArray) (lv : Value) (D E : Int) : Array Value := #[.string chain, lv, .int .i64 D, .int .i64 E]
theorem cs_cells {w : World} {g : Nat} {chain : ByteArray} {lv : Value} {D E : Int} {T : TypeId} (h : w.heap[g]? = some (.cells (csC chain lv D E) T (0, 0))) :
    w.cell? ⟨g, 0, none⟩ = some (.string chain) ∧ w.cell? ⟨g, 1, none⟩ = some lv ∧ w.rangeAt g 2 (parC D E).toList := by
  refine ⟨by rw [cell_of_row w g 0 _ _ _ h]; rfl, by rw [cell_of_row w g 1 _ _ _ h]; rfl, fun j u hu => ?_⟩
  rw [cell_of_row w g (2 + j) _ _ _ h]
  match j, hu with
  | 0, hu => exact hu
  | 1, hu => exact hu
end Go.Proofs.YtanekacpalpcbaaGreatDoor
