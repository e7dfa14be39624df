/- Part 19 of the proof. -/
import Derived.Lib.ItoaNum
import Derived.Shelf.Small.Bits
import Derived.Shelf.Small.Strs
import Derived.Shelf.Strconv.Itoa0
import Derived.Shelf.Strings.Search1
import Derived.Test.YteokgklfljhcaaaGreatDoorProg
import Derived.Test.YteokgklfljhcaaaGreatDoorSe8
import Derived.Test.YteokgklfljhcaaaGreatDoorSe14
import Derived.Test.YteokgklfljhcaaaGreatDoorSe16
import Derived.Test.YteokgklfljhcaaaGreatDoorSe17
import Derived.Test.YteokgklfljhcaaaGreatDoorSe18
namespace Go.Proofs.YteokgklfljhcaaaGreatDoor
set_option linter.unusedVariables false
set_option linter.unusedSimpArgs false
open Go.RowKit
set_option maxRecDepth 100000
set_option linter.unusedSimpArgs false
set_option linter.unusedVariables false
set_option maxHeartbeats 8000000 in
theorem rds_any (vb : Value) (xs : List Int) (w : World) (hy : BytesIn w vb xs) (hok : bytesOk xs) (hl : xs.length ≤ 140737488351232) : Calls Tryz.prog 21 #[vb] w fun e w' => ∃ vv, e = .returned (.tuple #[vv, .int .i64 (numE (dsE xs))]) ∧ VaIn w' vv (dsL xs) ∧ Below w.heap.size w w' := by
  obtain ⟨va, vc, rfl, -⟩ := id hy
  have HOK := Lib.hid (show okR11 (xs, none) from ⟨hok, hl, by simp⟩)
  obtain ⟨s9, hs9⟩ : ∃ s, s = dsS xs := ⟨_, rfl⟩
  obtain ⟨LL, hLL⟩ : ∃ l, l = vas (countS (xs, none) 32).1 (countS (xs, none) 32).2 := ⟨_, rfl⟩
  have HLL := Lib.hid hLL
  have HOK9 := Lib.hid (show okR11 s9 from by rw [hs9]; exact vaN_k11 (countS_k11 HOK.out) _)
  have HC := Lib.hid (show ∀ X, BytesIn X (.slice va xs.length vc) xs → Calls Tryz.prog 70 #[.agg #[.slice va xs.length vc, .int .i64 0]] X fun e w' => ∃ v' vv, e = .returned (.tuple #[.agg (rdC v' (numE s9.2)), vv]) ∧ BytesIn w' v' s9.1 ∧ v'.ownBlock = (Value.slice va xs.length vc).ownBlock ∧ VaIn w' vv LL ∧ Below X.heap.size X w' from fun X h => by
    rw [hs9, hLL]
    exact rdset_any (.slice va xs.length vc) (xs, none) X h HOK.out)
  have HD := Lib.hid (fun v X h => rdone2_any v s9.1 s9.2 HOK9.out.2.2 X h (Nat.le_trans HOK9.out.2.1 (by omega)))
  have HNE := Lib.hid (show numE (doneE (s9.1, s9.2)) = 0 ↔ doneE s9 = none from by
    have h := HOK9.out.2.2
    show numE (doneE s9) = 0 ↔ _
    unfold doneE
    cases he : s9.2 with
    | none => simp only; split <;> simp [numE]
    | some x => simp only [numE]; rw [he] at h; constructor
                · intro h2; exact absurd (by rw [show x = 0 by omega]) h
                · intro h2; cases h2)
  have HS9 := Lib.hid hs9
  have HY := Lib.hid hy
  clear hy hok hl hs9 hLL
  obtain ⟨xn, hxn⟩ : ∃ n, n = xs.length := ⟨_, rfl⟩
  rw [← hxn] at HC HY ⊢
  clear hxn
  go_enter Tryz.func21, Tryz.ntmps21
  go_upto_region 2 with (first
    | (go_at_call 70; (with_reducible refine (HC.out _ HY.out).mono ?_); rintro e w2 ⟨vx, vv, rfl, hx, ho, hvv, hb⟩; obtain ⟨ax, cx, rfl, -⟩ := id hx; have HX := Lib.hid hx; have HV := Lib.hid hvv; have HB := Lib.hid hb; clear hx ho hvv hb)
    | (refine wpList_store_row rfl 104 (.tmp 4) (.tmp 10) rfl w2.heap.size (rdC (.slice ax s9.1.length cx) (numE s9.2)) rfl rfl 104 _ (heap_alloc_new _ _) (by kernel_rfl) (by rfl) (rd_one _ _ _ _) ?_; rw [World.setRow_alloc_new]))
  have hb3 := below_alloc w2 (.cells (rdC (.slice ax s9.1.length cx) (numE s9.2)) 104)
  have H4 := Lib.hid (heap_alloc_new w2 (.cells (rdC (.slice ax s9.1.length cx) (numE s9.2)) 104))
  replace HX := Lib.hid (HX.out.below hb3)
  replace HV := Lib.hid (HV.out.below hb3)
  replace HB := Lib.hid (HB.out.trans (hb3.mono HB.out.size))
  clear hb3
  obtain ⟨q, hq⟩ : ∃ q, q = w2.heap.size := ⟨_, rfl⟩
  rw [← hq] at H4 ⊢
  clear hq
  generalize w2.alloc (.cells (rdC (.slice ax s9.1.length cx) (numE s9.2)) 104) = w3 at *
  obtain ⟨dn, hdn⟩ : ∃ d, d = numE (doneE (s9.1, s9.2)) := ⟨_, rfl⟩
  rw [← hdn] at HD HNE
  clear hdn
  by_cases hd : doneE s9 = none
  · have hz : dn = 0 := HNE.out.2 hd
    subst hz
    have HDD := Lib.hid hd
    clear hd
    go_wp2_with (first
      | (refine wpList_load_row rfl 104 (.tmp 4) rfl q rfl 104 _ (0, 0) _ H4.out Tryz.underlying104 rfl (by kernel_rfl) ?_)
      | (go_at_call 71; (with_reducible refine (HD.out _ _ HX.out).mono ?_); rintro e w4 ⟨rfl, hb⟩; replace HV := Lib.hid (HV.out.below hb); replace HB := Lib.hid (HB.out.trans (hb.mono HB.out.size)); clear hb))
    first | go_ret | go_ret2
    have hd := HDD.out
    rw [HS9.out] at hd
    exact ⟨vv, by unfold dsE; rw [if_pos hd]; rfl, by unfold dsL; rw [if_pos hd, ← HLL.out]; exact HV.out, HB.out⟩
  · have hz : (dn != 0) = true := by
      have : ¬ dn = 0 := fun h => hd (HNE.out.1 h)
      simpa using this
    have HDD := Lib.hid hd
    clear hd
    go_wp2_with (first
      | (refine wpList_load_row rfl 104 (.tmp 4) rfl q rfl 104 _ (0, 0) _ H4.out Tryz.underlying104 rfl (by kernel_rfl) ?_)
      | (go_at_call 71; (with_reducible refine (HD.out _ _ HX.out).mono ?_); rintro e w4 ⟨rfl, hb⟩; replace HB := Lib.hid (HB.out.trans (hb.mono HB.out.size)); clear hb))
    first | go_ret | go_ret2
    have hd := HDD.out
    rw [HS9.out] at hd
    exact ⟨.slice none 0 0, by unfold dsE; rw [if_neg hd]; rfl, by unfold dsL; rw [if_neg hd]; exact ⟨none, 0, rfl, Nat.le_refl _, Nat.zero_le _, .inl rfl⟩, HB.out⟩
end Go.Proofs.YteokgklfljhcaaaGreatDoor
namespace Go.Proofs.YteokgklfljhcaaaGreatDoor
set_option linter.unusedVariables false
set_option linter.unusedSimpArgs false
open Go.RowKit
set_option maxRecDepth 100000
set_option linter.unusedSimpArgs false
set_option linter.unusedVariables false
theorem eqItems32h (f g : Nat → Int) (d : Nat) (w : World) : ∀ is : List Nat, (∀ i ∈ is, i < 32) → (Op.eqItems (d + 1) 5 1 (rowOf .u8 32 f) (rowOf .u8 32 g) is).run Tryz.prog w = .ok (is.all fun i => f i == g i) w
  | [], _ => by simp [Op.eqItems]
  | i :: is, h => by
    have hi : i < 32 := h i (by simp)
    have ha : (isAgg 5).run Tryz.prog w = .ok false w := by kernel_rfl
    have hp : ∀ f : Nat → Int, (part 5 (rowOf .u8 32 f) (i * 1)).run Tryz.prog w = .ok (.int .u8 (f i)) w := fun f => by
      simp [part, Sem.run_bind, ha, rowOf_get .u8 32 f i hi]
    have ih := eqItems32h f g d w is (fun j hj => h j (by simp [hj]))
    have pe : (Op.equalIn (d + 1) 5 (.int .u8 (f i)) (.int .u8 (g i))).run Tryz.prog w = .ok (f i == g i) w := run_equalIn_int w d 5 .u8 .u8 _ _ Tryz.underlying5
    simp only [Op.eqItems, Sem.run_bind, hp, pe, Result.andThen_ok, List.all_cons]
    cases hb : (f i == g i)
    · simp
    · simpa using ih
theorem eqIn32h (f : Nat → Int) (w : World) : (Op.equalIn 9999 23 (.agg (rowOf .u8 32 f)) (.agg (rowOf .u8 32 f))).run Tryz.prog w = .ok true w := by
  rw [run_equalIn_array w 9998 (i := (Tryz.prog.info? 5).getD default) _ _ Tryz.underlying23 (by kernel_rfl), show Tryz.prog.cellsOf 5 = 1 by kernel_rfl, eqItems32h f f 9997 w _ (fun i hi => by simpa using hi)]
  simp
theorem eqFields_self (D : Nat) (A : Array Value) (w : World) : ∀ l : List Field, (∀ f ∈ l, f.name ≠ "_" ∧ ∃ u, (part f.type A f.offset).run Tryz.prog w = .ok u w ∧ (Op.equalIn D f.type u u).run Tryz.prog w = .ok true w) → (Op.eqFields D A A l).run Tryz.prog w = .ok true w
  | [], _ => by simp [Op.eqFields]
  | f :: l, h => by
    obtain ⟨n, u, hp, he⟩ := h f List.mem_cons_self
    have ih := eqFields_self D A w l fun g hg => h g (List.mem_cons_of_mem _ hg)
    rw [Op.eqFields, if_pos n]
    simp only [Sem.run_bind, hp, he, Result.andThen_ok, Bool.not_true, Bool.false_eq_true, if_false, ih]
end Go.Proofs.YteokgklfljhcaaaGreatDoor
namespace Go.Proofs.YteokgklfljhcaaaGreatDoor
set_option linter.unusedVariables false
set_option linter.unusedSimpArgs false
open Go.RowKit
set_option maxRecDepth 100000
set_option linter.unusedSimpArgs false
set_option linter.unusedVariables false
theorem valFields : (Tryz.prog.fieldsOf 54).toList.map (fun f => (f.type, f.offset, f.name != "_")) = [(9, 0, true), (23, 1, true), (3, 33, true)] := by kernel_rfl
theorem eqInVal_self (CH : ByteArray) (KE : Nat → Int) (PR : Int) (w : World) : (Op.equalIn 10000 54 (.agg (vaC ⟨CH, KE, PR⟩)) (.agg (vaC ⟨CH, KE, PR⟩))).run Tryz.prog w = .ok true w := by
  rw [run_equalIn_struct w 9999 54 _ _ (by kernel_rfl) (by kernel_rfl)]
  have eS : (Op.equalIn 9999 9 (.string CH) (.string CH)).run Tryz.prog w = .ok true w := by
    have h := run_equalIn_string (P := Tryz.prog) w 9998 9 CH CH Tryz.underlying9
    rw [beq_self_eq_true] at h; exact h
  have eI : ∀ n : Int, (Op.equalIn 9999 3 (.int .i64 n) (.int .i64 n)).run Tryz.prog w = .ok true w := fun n => by
    have h := run_equalIn_int (P := Tryz.prog) w 9998 3 .i64 .i64 n n Tryz.underlying3
    rw [beq_self_eq_true] at h; exact h
  have eH := fun f => eqIn32h f w
  have hf := valFields
  refine eqFields_self _ _ w _ fun f hm => ?_
  have hk : (f.type, f.offset, f.name != "_") ∈ (Tryz.prog.fieldsOf 54).toList.map (fun f => (f.type, f.offset, f.name != "_")) := List.mem_map.2 ⟨f, hm, rfl⟩
  rw [hf] at hk
  have hn : ∀ {t : TypeId} {o : Nat}, (f.type, f.offset, f.name != "_") = (t, o, true) → f.name ≠ "_" ∧ f.type = t ∧ f.offset = o := fun h => by
    simp only [Prod.mk.injEq, bne_iff_ne] at h
    exact ⟨h.2.2, h.1, h.2.1⟩
  simp only [List.mem_cons, List.not_mem_nil, or_false] at hk
  rcases hk with h | h | h <;> obtain ⟨h1, h2, h3⟩ := hn h <;> refine ⟨h1, ?_⟩ <;> rw [h2, h3]
  · exact ⟨.string CH, by kernel_rfl, eS⟩
  · exact ⟨.agg (rowOf .u8 32 KE), by kernel_rfl, eH _⟩
  · exact ⟨.int .i64 PR, by kernel_rfl, eI _⟩
theorem neqVal_self (x : Va) (w : World) : (binOp .neq 54 (.agg (vaC x)) (.agg (vaC x))).run Tryz.prog w = .ok (.bool false) w := by
  have h : (Op.equal 54 (.agg (vaC x)) (.agg (vaC x))).run Tryz.prog w = .ok true w := by
    obtain ⟨a, b, c⟩ := x
    exact eqInVal_self a b c w
  unfold binOp
  simp only [Sem.run_bind, h, Result.andThen_ok]
  rfl
theorem guardVal (x y : Operand) (u v : Array Value) (w : World) : (eqGuard .neq 54 x y (.agg u) (.agg v)).run Tryz.prog w = .ok () w := by
  have h1 : Tryz.prog.eqGuardType Tryz.prog.depth 54 = false := by kernel_rfl
  unfold eqGuard
  go_simp
theorem run_neqA (a : Act) (o : Oper) (x y : Operand) (ho : o.op = .binOp .neq 54 x y 54) (HC : Array Value) (hx : a.eval x = .agg HC) (hy : a.eval y = .agg HC) (heq : ∀ w : World, (binOp .neq 54 (.agg HC) (.agg HC)).run Tryz.prog w = .ok (.bool false) w) (w : World) :
    (execOp a.eval o).run Tryz.prog w = .ok (.value (.bool false)) w := by
  have hg := guardVal x y HC HC w
  unfold execOp
  simp only [ho, hx, hy, Sem.run_bind, hg, heq w, Result.andThen_ok, Sem.run_pure]
/-- append of a slice of validators to one's own -/
theorem va_cell {w : World} {a : Addr} {n c : Nat} {l : List Va} (h : VaIn w (.slice (some a) n c) l) (j : Nat) (u : Value) (hu : (l.flatMap vaTL)[j]? = some u) : w.cell? (a.add j) = some u := by
  have hlen : ∀ L : List Va, (L.flatMap vaTL).length = L.length * 34 := fun L => by
    induction L with
    | nil => rfl
    | cons x L ih => rw [List.flatMap_cons, List.length_append, ih, vaTL_len, List.length_cons]; omega
  have hj := (List.getElem?_eq_some_iff.1 hu).1
  rw [hlen] at hj
  obtain ⟨x, hx⟩ : ∃ x, l[j / 34]? = some x := ⟨l[j / 34]'(by omega), List.getElem?_eq_getElem _⟩
  obtain ⟨ab, ao, he, -, hr⟩ := h.at hx
  injection he with he
  subst he
  have hat : ∀ (L : List Va) (k i : Nat) (x : Va), L[k]? = some x → i < 34 → (L.flatMap vaTL)[k * 34 + i]? = (vaTL x)[i]? := fun L => by
    induction L with
    | nil => intro k i x h; cases h
    | cons y L ih =>
      intro k i x h hi
      rw [List.flatMap_cons]
      cases k with
      | zero =>
        simp only [List.getElem?_cons_zero, Option.some.injEq] at h
        subst h
        rw [List.getElem?_append_left (by rw [vaTL_len]; omega)]
        congr 1; omega
      | succ k =>
        rw [List.getElem?_append_right (by rw [vaTL_len]; omega), vaTL_len, show (k + 1) * 34 + i - 34 = k * 34 + i from by omega]
        exact ih k i x (by simpa using h) hi
  have e : j = j / 34 * 34 + j % 34 := by omega
  rw [e, hat l _ _ x hx (Nat.mod_lt _ (by omega))] at hu
  have := hr (j % 34) u hu
  rw [Addr.add_mid, show ao + j = ao + j / 34 * 34 + j % 34 from by omega]
  exact this
theorem vas_len34 : ∀ L : List Va, (L.flatMap vaTL).length = L.length * 34
  | [] => rfl
  | x :: L => by rw [List.flatMap_cons, List.length_append, vas_len34 L, vaTL_len, List.length_cons]; omega
theorem vas_one34 (L : List Va) : ∀ u ∈ L.flatMap vaTL, u.oneCell' = true := fun u hu => by
  obtain ⟨t, -, hu⟩ := List.mem_flatMap.1 hu
  exact vaTL_one t u hu
theorem wpList_append_vas {w : World} {ops : Array Oper} {rest : List Oper} {o : Oper} {a : Act} {Q : Exit → Act → World → Prop} (hgd : o.guard = none) (s x : Operand)
    (ho : o.op = .call { callee := .builtin .append, args := #[s, x], argTypes := #[48, 48] }) (hty : o.type = 48)
    (y : Value) (B : List Va) (hs : a.eval s = .slice none 0 0) (hx : a.eval x = y) (hy : VaIn w y B) (hl : B.length ≤ 1048576)
    (h : ∀ v' w', VaIn w' v' B → Below w.heap.size w w' → wpList Tryz.prog ops Q rest (a.put o.dst v') w') : wpList Tryz.prog ops Q (o :: rest) a w := by
  refine wpList_plain hgd fun K hK => ?_
  obtain ⟨i0, hi, hz0, hz1, hz2⟩ := info_parts infoA11
  obtain ⟨ad, c, rfl, hc, -⟩ := id hy.len
  have fin : ∃ v' w', (Builtin.append_ #[48, 48] 48 #[.slice none 0 0, .slice ad B.length c]).run Tryz.prog w = .ok v' w' ∧ VaIn w' v' B ∧ Below w.heap.size w w' := by
    rcases ad with _ | ad
    · have hn : B = [] := by
        cases B with
        | nil => rfl
        | cons t B => obtain ⟨ab, ao, he, -⟩ := hy.at (i := 0) (s := t) rfl; cases he
      subst hn
      refine ⟨.slice none 0 0, w, ?_, ⟨none, 0, rfl, Nat.le_refl _, Nat.zero_le _, .inl rfl⟩, Below.refl _ _⟩
      simp [Builtin.append_, run_underlying Tryz.underlying48, sizeOf, typeInfo, hi, Builtin.lenOf, Builtin.firstCells]
    · obtain ⟨v', w', hr, h1, h2, _, _⟩ := run_append_own_at w w.heap.size 48 48 54 i0 vaZ11 34 56 Tryz.underlying48 hi hz0 hz1 hz2 (by kernel_rfl) (by omega) (.slice none 0 0) 0 [] (World.ownsRow_nil _ _ _ _) ad B.length c (B.flatMap vaTL) (vas_len34 B) (va_cell hy) (vas_one34 B) (by unfold maxLen; omega) (by omega) (Nat.le_refl _)
      rw [Nat.zero_add, List.nil_append] at h1
      exact ⟨v', w', hr, rows_of_own vaTL_len h1 (by unfold maxLen; omega), (Below.refl w.heap.size w).grown h2 (Nat.le_refl _) (fun k hk => by cases hk)⟩
  obtain ⟨v', w', hr, h1, h2⟩ := fin
  unfold Oper.wp execOp
  simp only [ho, hty, resolve, invoke, builtin, Sem.run_bind, Sem.run_pure, Result.andThen_ok, List.map_toArray, List.map_cons, List.map_nil, hs, hx, hr]
  exact hK _ _ (h v' w' h1 h2)
end Go.Proofs.YteokgklfljhcaaaGreatDoor
namespace Go.Proofs.YteokgklfljhcaaaGreatDoor
set_option linter.unusedVariables false
set_option linter.unusedSimpArgs false
open Go.RowKit
def bytesOf (h : Nat → Int) : List Int := (List.range 32).map h
/-- the hash of a node -/
def nodeF (a b : Nat → Int) : Nat → Int := sumF (1 :: (bytesOf a ++ bytesOf b))
/-- how many leaves stand in the first part -/
def splitF (n : Nat) : Nat := 2 ^ (Lib.bitLen (n - 1) - 1)
theorem splitF_spec (n : Nat) (h : 2 ≤ n) (hn : n < 18446744073709551616) : 1 ≤ splitF n ∧ splitF n < n ∧ n ≤ 2 * splitF n ∧ 1 ≤ Lib.bitLen (n - 1) ∧ Lib.bitLen (n - 1) ≤ 64 := by
  have hb := Lib.bitLenAux_bounds 64 (n - 1) (by omega) (by omega)
  have h64 : Lib.bitLenAux 64 (n - 1) ≤ 64 := Lib.bitLenAux_le 64 (n - 1) 64 (by omega)
  unfold splitF Lib.bitLen
  obtain ⟨e, he⟩ : ∃ e, Lib.bitLenAux 64 (n - 1) = e + 1 := ⟨Lib.bitLenAux 64 (n - 1) - 1, by omega⟩
  rw [he] at hb h64 ⊢
  simp only [Nat.add_sub_cancel] at hb ⊢
  have hp : 1 ≤ 2 ^ e := Nat.one_le_two_pow
  have hs : 2 ^ (e + 1) = 2 * 2 ^ e := by rw [Nat.pow_succ, Nat.mul_comm]
  omega
def rootF (l : List (Nat → Int)) : Nat → Int :=
  if l.length = 1 then l.getD 0 (fun _ => 0)
  else if _h : 1 ≤ splitF l.length ∧ splitF l.length < l.length then nodeF (rootF (l.take (splitF l.length))) (rootF (l.drop (splitF l.length)))
  else sumF []
termination_by l.length
decreasing_by
  · rw [List.length_take]; omega
  · rw [List.length_drop]; omega
def turnsF (i n : Nat) : List Bool :=
  if _h : 1 ≤ splitF n ∧ splitF n < n then
    if i < splitF n then false :: turnsF i (splitF n) else true :: turnsF (i - splitF n) (n - splitF n)
  else []
termination_by n
decreasing_by
  · omega
  · omega
theorem rootF_nil : rootF [] = sumF [] := by
  rw [rootF, if_neg (by simp), dif_neg (by simp)]
theorem rootF_one (l : List (Nat → Int)) (h : l.length = 1) : rootF l = l.getD 0 (fun _ => 0) := by rw [rootF, if_pos h]
theorem rootF_step (l : List (Nat → Int)) (h : 2 ≤ l.length) (hs : 1 ≤ splitF l.length ∧ splitF l.length < l.length) :
    rootF l = nodeF (rootF (l.take (splitF l.length))) (rootF (l.drop (splitF l.length))) := by rw [rootF, if_neg (by omega), dif_pos hs]
def foldStep (s : Nat → Int) (x : Bool × (Nat → Int)) : Nat → Int := if x.1 then nodeF x.2 s else nodeF s x.2
def foldT (s : Nat → Int) (l : List (Bool × (Nat → Int))) : Nat → Int := l.foldl foldStep s
end Go.Proofs.YteokgklfljhcaaaGreatDoor
namespace Go.Proofs
set_option linter.unusedVariables false
set_option linter.unusedSimpArgs false
open Go.Shelf
def Tryz.lays125_ren : Go.Shelf.Ren := ⟨fun | 125 => 146 | 128 => 177 | 129 => 178 | n => n, fun | 3 => 3 | 4 => 4 | 5 => 5 | 9 => 9 | 46 => 152 | 51 => 147 | 53 => 88 | n => n, fun | n => n⟩
theorem Tryz.lays125 : Go.Proofs.Lays.n125 Tryz.prog Tryz.lays125_ren := {
  mixed := by kernel_rfl
  f125 := Tryz.func146.trans (congrArg some (by kernel_rfl))
  f128 := Tryz.func177.trans (congrArg some (by kernel_rfl))
  f129 := Tryz.func178.trans (congrArg some (by kernel_rfl))
  t3 := Tryz.underlying3
  a3 := Tryz.isAgg3
  z3 := Tryz.sizeOf3
  v3 := Tryz.zeroValue3
  t4 := Tryz.underlying4
  a4 := Tryz.isAgg4
  z4 := Tryz.sizeOf4
  v4 := Tryz.zeroValue4
  t5 := Tryz.underlying5
  a5 := Tryz.isAgg5
  z5 := Tryz.sizeOf5
  v5 := Tryz.zeroValue5
  t9 := Tryz.underlying9
  a9 := Tryz.isAgg9
  z9 := Tryz.sizeOf9
  v9 := Tryz.zeroValue9
  t46 := Tryz.underlying152
  a46 := Tryz.isAgg152
  z46 := Tryz.sizeOf152
  v46 := Tryz.zeroValue152
  t51 := Tryz.underlying147
  a51 := Tryz.isAgg147
  z51 := Tryz.sizeOf147
  v51 := Tryz.zeroValue147
  t53 := Tryz.underlying88
  a53 := Tryz.isAgg88
  z53 := Tryz.sizeOf88
  v53 := Tryz.zeroValue88 }
theorem Tryz.bits_Len (x : Int) (w : World) (h0 : 0 ≤ x) (h1 : x ≤ 18446744073709551615) :
    Calls Tryz.prog 146 #[.int .u64 x] w fun e w' => e = .returned (.int .i64 (Lib.bitLen x.toNat)) ∧ w' = w := Any.bits_Len Tryz.lays125 x w h0 h1
end Go.Proofs
namespace Go.Proofs.YteokgklfljhcaaaGreatDoor
set_option linter.unusedVariables false
set_option linter.unusedSimpArgs false
open Go.RowKit
theorem slice25all (b : Nat) (w : World) : (Instr.sliceAt 23 (.pointer (some ⟨b, 0, none⟩)) none none none).run Tryz.prog w = .ok (.slice (some ⟨b, 0, none⟩) 32 32) w := by
  have ha : Tryz.prog.arrayLen 23 = 32 := by kernel_rfl
  have he : Tryz.prog.elem 23 = 5 := by kernel_rfl
  have hs : (sizeOf 5).run Tryz.prog w = .ok 1 w := by kernel_rfl
  rw [run_sliceAt_array_all w 23 ⟨b, 0, none⟩ (by rw [ha, he]; exact Tryz.underlying23), ha, he, hs]
  simp only [Result.andThen_ok, slicedAt]
  rw [if_neg (by omega), Addr.add_mid]
theorem bytesOf_length (a : Nat → Int) : (bytesOf a).length = 32 := by simp [bytesOf]
theorem RowAt.bytes {w : World} {b g : Nat} {a : Nat → Int} (h : RowAt w b .u8 32 23 a) (hne : b ≠ g) : BytesAt w g (.slice (some ⟨b, 0, none⟩) 32 32) (bytesOf a) := by
  refine ⟨_, _, by rw [bytesOf_length], by rw [bytesOf_length]; omega, by rw [bytesOf_length]; unfold maxLen; omega, .inr ⟨b, 0, rfl, hne, fun i x hi => ?_⟩⟩
  have hil : i < 32 := by have := (List.getElem?_eq_some_iff.1 hi).1; rw [bytesOf_length] at this; exact this
  rw [Nat.zero_add, h.cell i hil]
  simp [bytesOf, hil] at hi
  rw [hi]
theorem shSumM_h (g : Nat) (h : HS) (w : World) (hh : HashAt w g h.s h.b h.n) (h0 : 0 ≤ h.n ∧ h.n < 18446744073709551616) (hk : Consts w) :
    Calls Tryz.prog 100 #[.pointer (some ⟨g, 0, none⟩)] w fun e w' => e = .returned (.agg (rowOf .u8 32 (hsum h))) ∧ Below w.heap.size w w' :=
  sumM_any g h.s h.b h.n w hh h0.1 h0.2 hk
theorem shWrite_h (g : Nat) (h : HS) (xs : List Int) (v : Value) (w : World) (hh : HashAt w g h.s h.b h.n) (h0 : 0 ≤ h.n ∧ h.n < 18446744073709551616) (hx : BytesAt w g v xs) (he : Env w) (hg : 2 < g) :
    Calls Tryz.prog 99 #[.pointer (some ⟨g, 0, none⟩), v] w fun e w' => e = .returned (.tuple #[]) ∧ HashAt w' g (putF h xs).s (putF h xs).b (putF h xs).n ∧ Only g w w' :=
  shWrite_any g h.s h.b h.n xs v w hh h0.1 h0.2 hx he hg
/-- what Node knows of memory -/
structure NodeM (w w' : World) (g : Nat) (a b : Nat → Int) (h : HS) : Prop where
  ra : RowAt w' w.heap.size .u8 32 23 a
  rb : RowAt w' (w.heap.size + 1) .u8 32 23 b
  re : RowAt w' (w.heap.size + 1 + 1) .u8 32 23 (fun _ => 0)
  hash : HashAt w' g h.s h.b h.n
  gg : w.heap.size + 1 + 1 < g
  bounds : 0 ≤ h.n ∧ h.n < 18446744073709551616
  below : Below w.heap.size w w'
  env : Env w'
theorem NodeM.wrote {w w' w2 : World} {g : Nat} {a b : Nat → Int} {h : HS} (HC : 2 < w.heap.size) (m : NodeM w w' g a b h) {xs : List Int} (hh : HashAt w2 g (putF h xs).s (putF h xs).b (putF h xs).n) (ho : Only g w' w2) : NodeM w w2 g a b (putF h xs) :=
  ⟨(ho.block _ m.ra.lt (by have := m.gg; omega)).trans m.ra, (ho.block _ m.rb.lt (by have := m.gg; omega)).trans m.rb, (ho.block _ m.re.lt (by have := m.gg; omega)).trans m.re, hh, m.gg, putF_bounds h m.bounds.1 m.bounds.2 xs,
   m.below.trans (ho.below (by have := m.gg; omega) m.below.size), ho.env m.env (by have := m.gg; have := HC; omega)⟩
theorem NodeM.calls {w w' w2 : World} {g : Nat} {a b : Nat → Int} {h : HS} (m : NodeM w w' g a b h) (hb : Below w'.heap.size w' w2) : NodeM w w2 g a b h :=
  ⟨m.ra.below hb m.ra.lt, m.rb.below hb m.rb.lt, m.re.below hb m.re.lt, m.hash.below hb m.hash.lt, m.gg, m.bounds, m.below.trans (hb.mono m.below.size), m.env.below hb m.env.lt⟩
theorem node_start (w : World) (a b : Nat → Int) (he : Env w) :
    NodeM w ((((w.alloc (.cells (rowOf .u8 32 a) 23)).alloc (.cells (rowOf .u8 32 b) 23)).alloc (.cells (rowOf .u8 32 (fun _ => 0)) 23)).alloc (.cells (hashCells BT (fun _ => 0) 0) 210)) (w.heap.size + 1 + 1 + 1) a b h0 := by
  have hb : Below w.heap.size w ((((w.alloc (.cells (rowOf .u8 32 a) 23)).alloc (.cells (rowOf .u8 32 b) 23)).alloc (.cells (rowOf .u8 32 (fun _ => 0)) 23)).alloc (.cells (hashCells BT (fun _ => 0) 0) 210)) :=
    (((below_alloc w _).trans ((below_alloc _ _).mono (by simp))).trans ((below_alloc _ _).mono (by simp; omega))).trans ((below_alloc _ _).mono (by simp; omega))
  refine ⟨((RowAt.new w _ _ _ _).alloc _).alloc _ |>.alloc _, ?_, ?_, ?_, by omega, by decide, hb, he.below hb he.lt⟩
  · have := ((RowAt.new (w.alloc (.cells (rowOf .u8 32 a) 23)) .u8 32 23 b).alloc (.cells (rowOf .u8 32 (fun _ => 0)) 23)).alloc (.cells (hashCells BT (fun _ => 0) 0) 210)
    rw [shSize_alloc] at this; exact this
  · have := (RowAt.new ((w.alloc (.cells (rowOf .u8 32 a) 23)).alloc (.cells (rowOf .u8 32 b) 23)) .u8 32 23 (fun _ => 0)).alloc (.cells (hashCells BT (fun _ => 0) 0) 210)
    rw [shSize_alloc, shSize_alloc] at this; exact this
  · have := heap_alloc_new (((w.alloc (.cells (rowOf .u8 32 a) 23)).alloc (.cells (rowOf .u8 32 b) 23)).alloc (.cells (rowOf .u8 32 (fun _ => 0)) 23)) (.cells (hashCells BT (fun _ => 0) 0) 210)
    rw [shSize_alloc, shSize_alloc, shSize_alloc] at this; exact this
theorem one_inN (w : World) (g : Nat) (hg : g < w.heap.size) (x : Int) : BytesAt (w.alloc (.cells #[.int .u8 x] 5)) g (.slice (some ⟨w.heap.size, 0, none⟩) 1 1) [x] := by
  refine ⟨_, _, rfl, by simp, by simp [maxLen], .inr ⟨_, _, rfl, by omega, fun i y hi => ?_⟩⟩
  rw [Nat.zero_add, cell_of_row _ _ _ _ _ _ (heap_alloc_new w _)]
  match i, hi with
  | 0, hi => cases hi; rfl
set_option maxRecDepth 100000 in
set_option maxHeartbeats 400000 in
theorem node_any (a b : Nat → Int) (w : World) (he : Env w) :
    Calls Tryz.prog 102 #[.agg (rowOf .u8 32 a), .agg (rowOf .u8 32 b)] w fun e w' => e = .returned (.agg (rowOf .u8 32 (nodeF a b))) ∧ Below w.heap.size w w' := by
  have M := Lib.hid (node_start w a b he)
  have HE := Lib.hid (he.below (((below_alloc w (.cells (rowOf .u8 32 a) 23)).trans ((below_alloc _ (.cells (rowOf .u8 32 b) 23)).mono (by simp))).trans ((below_alloc _ (.cells (rowOf .u8 32 (fun _ => 0)) 23)).mono (by simp; omega))) he.lt)
  have HC := Lib.hid he.lt
  clear he
  go_enter Tryz.func102, Tryz.ntmps102
  go_upto_region 1 with (fail)
  rw [zeros32]
  go_upto_region 2 with (go_at_call 98; (with_reducible refine (shNew_any _ HE.out).mono ?_); rintro e w' ⟨rfl, rfl⟩)
  generalize (((w.alloc (.cells (rowOf .u8 32 a) 23)).alloc (.cells (rowOf .u8 32 b) 23)).alloc (.cells (rowOf .u8 32 (fun _ => 0)) 23)).alloc (.cells (hashCells BT (fun _ => 0) 0) 210) = w1 at *
  obtain ⟨g, hg⟩ : ∃ g, g = w.heap.size + 1 + 1 + 1 := ⟨_, rfl⟩
  rw [← hg] at M ⊢
  clear hg HE
  have M1 := Lib.hid (M.out.calls (below_alloc w1 (.cells #[.int .u8 1] 5)))
  have HX := Lib.hid (one_inN w1 g M.out.hash.lt 1)
  have HG := Lib.hid (show 2 < g from by have := M.out.gg; have := HC.out; omega)
  go_upto_region 3 with (go_at_call 99; (with_reducible refine (shWrite_h g h0 [1] _ _ M1.out.hash M1.out.bounds HX.out M1.out.env HG.out).mono ?_); rintro e w2 ⟨rfl, HH, HO⟩; replace HH := Lib.hid HH; replace HO := Lib.hid HO)
  have M2 := Lib.hid (M1.out.wrote HC.out HH.out HO.out)
  clear M M1 HX HH HO
  have hsl := slice25all w.heap.size
  have HX := Lib.hid (M2.out.ra.bytes (g := g) (by have := M2.out.gg; omega))
  go_upto_region 4 with (go_at_call 99; (with_reducible refine (shWrite_h g _ _ _ _ M2.out.hash M2.out.bounds HX.out M2.out.env HG.out).mono ?_); rintro e w3 ⟨rfl, HH, HO⟩; replace HH := Lib.hid HH; replace HO := Lib.hid HO)
  have M3 := Lib.hid (M2.out.wrote HC.out HH.out HO.out)
  clear M2 HX HH HO hsl
  have hsl := slice25all (w.heap.size + 1)
  have HX := Lib.hid (M3.out.rb.bytes (g := g) (by have := M3.out.gg; omega))
  go_upto_region 5 with (go_at_call 99; (with_reducible refine (shWrite_h g _ _ _ _ M3.out.hash M3.out.bounds HX.out M3.out.env HG.out).mono ?_); rintro e w4 ⟨rfl, HH, HO⟩; replace HH := Lib.hid HH; replace HO := Lib.hid HO)
  have M4 := Lib.hid (M3.out.wrote HC.out HH.out HO.out)
  clear M3 HX HH HO hsl
  go_wp2_with (first
    | (go_at_call 100; (with_reducible refine (shSumM_h g _ _ M4.out.hash M4.out.bounds M4.out.env.consts).mono ?_); rintro e w5 ⟨rfl, HB5⟩; replace M4 := Lib.hid (M4.out.calls HB5); clear HB5)
    | (refine wpList_store_row rfl 23 (.tmp 4) (.tmp 17) rfl (w.heap.size + 1 + 1) _ rfl rfl 23 _ M4.out.re (by rw [rowOf_size]; kernel_rfl) (by rw [rowOf_size, rowOf_size]) (rowOf_one _ _ _) ?_))
  refine bodyPost_ret (results_cell_row rfl _ _ (w.heap.size + 1 + 1) 23 _ (0, 0) _ rfl (setRow_heap _ _ _ _ _ _ M4.out.re) Tryz.underlying23 rfl (by rw [rowOf_size]; kernel_rfl)) rfl ?_
  refine ⟨?_, below_setRow M4.out.below (by omega) _⟩
  rw [← putF_append, ← putF_append]
  rfl
set_option maxRecDepth 100000 in
theorem split_any (n : Nat) (w : World) (h : 2 ≤ n) (hn : n < 9223372036854775808) : Calls Tryz.prog 101 #[.int .i64 (n : Int)] w fun e w' => e = .returned (.int .i64 (splitF n : Int)) ∧ w = w' := by
  have hs := splitF_spec n h (by omega)
  obtain ⟨L, hL⟩ : ∃ L, Lib.bitLen (n - 1) = L := ⟨_, rfl⟩
  have HS := Lib.hid (show splitF n = 2 ^ (L - 1) by unfold splitF; rw [hL])
  rw [hL] at hs
  have n0 : ((n : Int) - 1).toNat = n - 1 := by omega
  have HP := Lib.hid hs
  obtain ⟨_, _, _, hl1, hl2⟩ := hs
  have n1 : ((L : Int) - 1).toNat = L - 1 := by omega
  have n2 : 0 ≤ ((L : Int) - 1) := by omega
  replace hn := Lib.hid hn
  have HB := Lib.hid (show (0 : Int) ≤ (n : Int) - 1 ∧ (n : Int) - 1 ≤ 18446744073709551615 from ⟨by omega, by have := hn.out; omega⟩)
  replace hL := Lib.hid hL
  have hnI : n ≤ 9223372036854775807 := by have := hn.out; omega
  go_enter Tryz.func101, Tryz.ntmps101
  go_wp2_with (go_at_call 146; (with_reducible refine (Tryz.bits_Len _ _ HB.out.1 HB.out.2).mono ?_); rintro e w' ⟨rfl, rfl⟩; rw [n0, hL.out])
  go_ret
  have e : (2 : Int) ^ (L - 1) = ((splitF n : Nat) : Int) := by rw [HS.out]; simp
  refine ⟨?_, rfl⟩
  have e2 : wrap64 ((2 : Int) ^ (L - 1)) = ((splitF n : Nat) : Int) := by rw [e]; exact IntWalk.wrap64_in _ ⟨by omega, by have := HP.out.2.1; omega⟩
  exact congrArg (fun x => Ending.returned (Value.int IntKind.i64 x)) e2
end Go.Proofs.YteokgklfljhcaaaGreatDoor
