/- Part 4 of the proof. -/
import Derived.OrdersHeld
import Derived.Test.YteokgklfljhcaaaGreatDoorSe1
import Derived.Test.YteokgklfljhcaaaGreatDoorSe2
import Derived.Test.YteokgklfljhcaaaGreatDoorSe3
namespace Go.Proofs.YteokgklfljhcaaaGreatDoor
set_option linter.unusedVariables false
set_option linter.unusedSimpArgs false
open Go.RowKit
set_option maxRecDepth 100000
/-- a length and that many bytes -/
def partS (s : RSt) (most : Int) : List Int × RSt :=
  match s.2 with
  | some _ => ([], s)
  | none =>
    if most < 0 then ([], s.1, some 1)
    else match (rdF s.1 18446744073709551615).2.2 with
      | some x => ([], s.1, some x)
      | none =>
        if most < ((rdF s.1 18446744073709551615).1 : Int) then ([], s.1, some 2)
        else if s.1.length - (rdF s.1 18446744073709551615).2.1 < (rdF s.1 18446744073709551615).1 then ([], s.1, some 12)
        else ((s.1.drop (rdF s.1 18446744073709551615).2.1).take (rdF s.1 18446744073709551615).1, (s.1.drop (rdF s.1 18446744073709551615).2.1).drop (rdF s.1 18446744073709551615).1, none)
/-- Hash -/
def hashS (s : RSt) : (Nat → Int) × RSt :=
  match s.2 with
  | some _ => (fun _ => 0, s)
  | none => if s.1.length < 32 then (fun _ => 0, s.1, some 12) else (fun i => s.1.getD i 0, s.1.drop 32, none)
theorem hashS_err (ys : List Int) (x : Nat) : hashS (ys, some x) = (fun _ => 0, ys, some x) := rfl
theorem hashS_short {ys : List Int} (h : ys.length < 32) : hashS (ys, none) = (fun _ => 0, ys, some 12) := by unfold hashS; simp only [if_pos h]
theorem hashS_long {ys : List Int} (h : ¬ ys.length < 32) : hashS (ys, none) = (fun i => ys.getD i 0, ys.drop 32, none) := by unfold hashS; simp only [if_neg h]
theorem Only.behind {p g : Nat} {w w' : World} (h : Only p w w') (hg : w.heap.size ≤ g) (cs : Array Value) : Only p w (w'.setRow g cs) :=
  ⟨h.os, h.tape, h.output, by simp [World.setRow]; exact h.size, fun k hk hp => (setRow_other w' g k cs (by omega)).trans (h.block k hk hp)⟩
theorem wp_copy_at {P : Program} (w : World) {o : Oper} {a : Act} {K : Act → World → Prop} {Q : Exit → Act → World → Prop} (d s : Operand) (t t' : TypeId) {ty : TypeId}
    (ho : o.op = .call { callee := .builtin .copy, args := #[d, s], argTypes := #[t, t'] }) (hty : o.type = ty) (v u : Value) (hd : a.eval d = v) (hs : a.eval s = u) {v' : Value} {w' : World}
    (hr : (Builtin.copy_ #[t, t'] ty #[v, u]).run P w = .ok v' w') (h : K (a.put o.dst v') w') : o.wp P a w K Q := by
  unfold Oper.wp execOp
  simp only [ho, hty, resolve, invoke, builtin, Sem.run_bind, Sem.run_pure, Result.andThen_ok, List.map_toArray, List.map_cons, List.map_nil, hd, hs, hr]
  exact h
theorem copied32 (f : Nat → Int) (ys : List Int) (h : ¬ ys.length < 32) :
    ((rowOf .u8 32 f).toList.take 0 ++ byteVals (ys.take 32) ++ (rowOf .u8 32 f).toList.drop (0 + (byteVals (ys.take 32)).length)).toArray = rowOf .u8 32 (fun i => ys.getD i 0) := by
  have hl : (ys.take 32).length = 32 := by rw [List.length_take]; omega
  have hd : (rowOf .u8 32 f).toList.drop (0 + (byteVals (ys.take 32)).length) = [] := by
    apply List.drop_eq_nil_of_le
    rw [byteVals_length, hl, Array.length_toList, rowOf_size]; omega
  rw [hd, List.take_zero, List.nil_append, List.append_nil]
  unfold rowOf byteVals
  congr 1
  apply List.ext_getElem
  · simp only [List.length_map, List.length_range, hl]
  · intro i h1 h2
    simp only [List.length_map, hl] at h1
    have h3 : i < ys.length := by omega
    simp [List.getD, List.getElem?_eq_getElem h3]
theorem zerosPk : (#[Value.int IntKind.u8 0, Value.int IntKind.u8 0, Value.int IntKind.u8 0, Value.int IntKind.u8 0, Value.int IntKind.u8 0, Value.int IntKind.u8 0, Value.int IntKind.u8 0, Value.int IntKind.u8 0, Value.int IntKind.u8 0, Value.int IntKind.u8 0, Value.int IntKind.u8 0, Value.int IntKind.u8 0, Value.int IntKind.u8 0, Value.int IntKind.u8 0, Value.int IntKind.u8 0, Value.int IntKind.u8 0, Value.int IntKind.u8 0, Value.int IntKind.u8 0, Value.int IntKind.u8 0, Value.int IntKind.u8 0, Value.int IntKind.u8 0, Value.int IntKind.u8 0, Value.int IntKind.u8 0, Value.int IntKind.u8 0, Value.int IntKind.u8 0, Value.int IntKind.u8 0, Value.int IntKind.u8 0, Value.int IntKind.u8 0, Value.int IntKind.u8 0, Value.int IntKind.u8 0, Value.int IntKind.u8 0, Value.int IntKind.u8 0] : Array Value) = rowOf .u8 32 (fun _ => 0) := by rfl
set_option maxRecDepth 100000 in
set_option maxHeartbeats 1000000 in
theorem rhash_any (p : Nat) (s : RSt) (w : World) (h : RS w p s) :
    Calls Tryz.prog 157 #[.pointer (some ⟨p, 0, none⟩)] w fun r w' => r = .returned (.agg (rowOf .u8 32 (hashS s).1)) ∧ RS w' p (hashS s).2 ∧ Only p w w' := by
  obtain ⟨ys, e⟩ := s
  obtain ⟨y, h⟩ := h
  change RAt w p y ys e at h
  have HB := Lib.hid ((below_alloc w (.cells (rowOf .u8 32 (fun _ => 0)) 23)).trans ((below_alloc (w.alloc (.cells (rowOf .u8 32 (fun _ => 0)) 23)) (.cells (rowOf .u8 32 (fun _ => 0)) 23)).mono (by simp)))
  have HR := h.below HB.out
  have HQ1 := (RowAt.new w .u8 32 23 (fun _ => 0)).alloc (.cells (rowOf .u8 32 (fun _ => 0)) 23)
  have HQ2 := RowAt.new (w.alloc (.cells (rowOf .u8 32 (fun _ => 0)) 23)) .u8 32 23 (fun _ => 0)
  rw [size_alloc] at HQ2
  have HP : p < w.heap.size := h.lt
  have H0 := Lib.hid h
  replace HR := Lib.hid HR
  replace HQ1 := Lib.hid HQ1
  replace HQ2 := Lib.hid HQ2
  clear h
  go_enter Tryz.func157, Tryz.ntmps157
  go_upto_region 2 with (fail)
  rw [zerosPk]
  generalize (w.alloc (.cells (rowOf .u8 32 (fun _ => 0)) 23)).alloc (.cells (rowOf .u8 32 (fun _ => 0)) 23) = w1 at *
  have HE := Lib.hid (err_any p y ys e w1 HR.out)
  have hc0 := HR.out.cell0
  have hc1 := HR.out.cell1
  have hf := HR.out.free 1
  obtain ⟨a, c, rfl, hle⟩ := HR.out.wide
  have HLE := Lib.hid hle
  clear hle
  cases e with
  | some x =>
    simp only [errV] at HE hc1
    go_wp2_with (first
      | (go_at_call 153; (with_reducible refine HE.out.mono ?_); rintro e w2 ⟨rfl, rfl⟩)
      | (refine wpList_load_row rfl 23 (.tmp 3) rfl (w.heap.size + 1) rfl 23 _ (0, 0) _ HQ2.out Tryz.underlying23 rfl (by rw [rowOf_size]; kernel_rfl) ?_)
      | (refine wpList_store_row rfl 23 (.tmp 2) (.tmp 7) rfl w.heap.size _ rfl rfl 23 _ HQ1.out (by rw [rowOf_size]; kernel_rfl) (by simp only [rowOf_size]) (rowOf_one _ _ _) ?_))
    refine bodyPost_ret (results_cell_row rfl _ _ w.heap.size 23 (rowOf .u8 32 (fun _ => 0)) (0, 0) _ rfl (setRow_heap _ _ _ _ _ _ HQ1.out) Tryz.underlying23 rfl (by rw [rowOf_size]; kernel_rfl)) rfl ?_
    rw [hashS_err]
    exact ⟨rfl, ⟨_, H0.out.below (below_setRow HB.out (Nat.le_refl _) _)⟩, Only.of_below (below_setRow HB.out (Nat.le_refl _) _)⟩
  | none =>
    simp only [errV] at HE hc1
    by_cases hs : ys.length < 32
    · have HS := Lib.hid (hashS_short hs)
      have hs1 : (ys.length : Int) < 32 := by omega
      have HW := Lib.hid (HR.out.err (some 12))
      have HQ2' := Lib.hid (HQ2.out.other ⟨p, 1, none⟩ (errV (some 12)) (show w.heap.size + 1 ≠ p by omega))
      have HQ1' := Lib.hid (HQ1.out.other ⟨p, 1, none⟩ (errV (some 12)) (show w.heap.size ≠ p by omega))
      have HO := Lib.hid ((Only.of_below HB.out).trans (Only.setCell w1 ⟨p, 1, none⟩ (errV (some 12))))
      simp only [errV] at HW HQ1' HQ2' HO
      clear HQ1 HQ2
      go_wp2_with (first
        | (go_at_call 153; (with_reducible refine HE.out.mono ?_); rintro e w2 ⟨rfl, rfl⟩)
        | (refine wpList_load_row rfl 23 (.tmp 3) rfl (w.heap.size + 1) rfl 23 _ (0, 0) _ HQ2'.out Tryz.underlying23 rfl (by rw [rowOf_size]; kernel_rfl) ?_)
        | (refine wpList_store_row rfl 23 (.tmp 2) (.tmp 18) rfl w.heap.size _ rfl rfl 23 _ HQ1'.out (by rw [rowOf_size]; kernel_rfl) (by simp only [rowOf_size]) (rowOf_one _ _ _) ?_))
      refine bodyPost_ret (results_cell_row rfl _ _ w.heap.size 23 (rowOf .u8 32 (fun _ => 0)) (0, 0) _ rfl (setRow_heap _ _ _ _ _ _ HQ1'.out) Tryz.underlying23 rfl (by rw [rowOf_size]; kernel_rfl)) rfl ?_
      rw [HS.out]
      refine ⟨rfl, ⟨_, HW.out.keep (setRow_other _ _ _ _ (by omega)) fun hn k hk => setRow_other _ _ _ _ ?_⟩, HO.out.behind (Nat.le_refl _) _⟩
      have := H0.out.own_lt hn k hk; omega
    · have hs1 : ¬ (ys.length : Int) < 32 := by omega
      have HS := Lib.hid (hashS_long hs)
      go_upto_region 7 with (go_at_call 153; (with_reducible refine HE.out.mono ?_); rintro e w2 ⟨rfl, rfl⟩)
      obtain ⟨w3, hw3⟩ : ∃ w3, w3 = w2.drew := ⟨_, rfl⟩
      have HR3 := Lib.hid (show RAt w3 p (.slice a ys.length c) ys none by rw [hw3]; exact HR.out.keep rfl fun _ _ _ => rfl)
      have HQ13 := Lib.hid (show RowAt w3 w.heap.size .u8 32 23 (fun _ => 0) by rw [hw3]; exact HQ1.out)
      have HQ23 := Lib.hid (show RowAt w3 (w.heap.size + 1) .u8 32 23 (fun _ => 0) by rw [hw3]; exact HQ2.out)
      have HO3 := Lib.hid (show Only p w w3 by rw [hw3]; exact (Only.of_below HB.out).trans (Only.drew _ _))
      refine wp_region_any (by kernel_rfl) ?_
      change wpAny _ _ _ _ _ _ _ w2.drew
      rw [← hw3]
      clear hw3
      refine wpAny_take (i := 0) (v := .slice (some ⟨w.heap.size + 1, 0, none⟩) 32 32) rfl (by kernel_rfl) (by kernel_rfl) (by kernel_rfl) (fun _ _ _ h => h) (Or.inl ⟨by rfl, by intro w; go_simp⟩) ?_
      try simp only [List.getElem_toArray, List.getElem_cons_zero, Act.put, List.setIfInBounds_toArray, List.set_cons_zero, List.set_cons_succ]
      refine wpAny_take (i := 1) (v := .pointer (some ⟨p, 0, none⟩)) rfl (by kernel_rfl) (by kernel_rfl) (by kernel_rfl) (fun _ _ _ h => h) (Or.inl ⟨by rfl, by intro w; go_simp⟩) ?_
      try simp only [List.getElem_toArray, List.getElem_cons_succ, List.getElem_cons_zero, Act.put, List.setIfInBounds_toArray, List.set_cons_zero, List.set_cons_succ]
      refine wpAny_ready (rs := [2]) (by kernel_rfl) (by simp) ?_; refine AllReady.cons rfl (fun K hK => ?_) AllReady.nil; rw [if_pos (by rfl)]
      try simp only [List.getElem_toArray, List.getElem_cons_succ, List.getElem_cons_zero]
      go_simp
      have ht := take_any p _ ys none 32 w3 HR3.out (by omega)
      rw [show ((32 : Nat) : Int) = 32 from rfl] at ht
      refine ht.mono ?_
      rintro e w4 ⟨a1, c1, y1, rfl, hi1, hn1, hr1, ho1, hy1⟩
      have hl32 : (ys.take 32).length = 32 := by rw [List.length_take]; omega
      obtain ⟨a1', c1', e1, _, _, hx1⟩ := hi1
      rw [hl32] at e1
      injection e1 with e1 _ e3
      subst e1 e3
      obtain ⟨ab, ao, rfl, hx2⟩ := hx1.resolve_left (by intro h0; rw [h0] at hl32; simp at hl32)
      clear hx1 hn1
      refine hK _ _ ?_
      clear hK K
      try simp only [List.getElem_toArray, List.getElem_cons_succ, List.getElem_cons_zero, Act.put, List.setIfInBounds_toArray, List.set_cons_zero, List.set_cons_succ]
      refine wpAny_ready (rs := [3]) (by kernel_rfl) (by simp) ?_; refine AllReady.cons rfl (fun K hK => ?_) AllReady.nil; rw [if_pos (by rfl)]
      try simp only [List.getElem_toArray, List.getElem_cons_succ, List.getElem_cons_zero]
      have hq4 : RowAt w4 (w.heap.size + 1) .u8 32 23 (fun _ => 0) := (ho1.block _ HQ23.out.lt (by omega)).trans HQ23.out
      have hq5 : RowAt w4 w.heap.size .u8 32 23 (fun _ => 0) := (ho1.block _ HQ13.out.lt (by omega)).trans HQ13.out
      have hcp := run_copy_row (P := Tryz.prog) w4 39 39 3 5 (w.heap.size + 1) 0 32 32 ⟨ab, ao, none⟩ 32 c1 _ 23 (byteVals (ys.take 32)) Tryz.underlying39 (by kernel_rfl) hq4 (by rw [byteVals_length, hl32]; rfl) (fun j v hv => by
          rw [Addr.add_mid]
          simp only [byteVals, List.getElem?_map] at hv
          cases hj : (ys.take 32)[j]? with
          | none => rw [hj] at hv; cases hv
          | some x => rw [hj] at hv; cases hv; exact hx2 j x hj) (by rw [byteVals_length, hl32, rowOf_size]; omega) (byteVals_one _)
      rw [copied32 _ ys hs] at hcp
      have HQ2 : Hid (RowAt (w4.setRow (w.heap.size + 1) (rowOf .u8 32 (fun i => ys.getD i 0))) (w.heap.size + 1) .u8 32 23 (fun i => ys.getD i 0)) := Lib.hid (setRow_heap _ _ _ _ _ _ hq4)
      have HQ1 : Hid (RowAt (w4.setRow (w.heap.size + 1) (rowOf .u8 32 (fun i => ys.getD i 0))) w.heap.size .u8 32 23 (fun _ => 0)) := Lib.hid ((setRow_other _ _ _ _ (by omega)).trans hq5)
      have hne : ∀ g, w.heap.size ≤ g → ys.drop 32 ≠ [] → ∀ k, y1.ownBlock = some k → k ≠ g := fun g hg hn k hk => by
        rw [hy1] at hk
        have := H0.out.own_lt (by rintro rfl; simp at hn) k hk
        omega
      have HW := Lib.hid (show RAt (w4.setRow (w.heap.size + 1) (rowOf .u8 32 (fun i => ys.getD i 0))) p y1 (ys.drop 32) none from
        hr1.keep (setRow_other _ _ _ _ (by omega)) fun hn k hk => setRow_other _ _ _ _ (hne _ (Nat.le_succ _) hn k hk))
      have HO := Lib.hid ((HO3.out.trans ho1).behind (g := w.heap.size + 1) (Nat.le_succ _) (rowOf .u8 32 (fun i => ys.getD i 0)))
      refine wp_copy_at w4 (.tmp 19) (.tmp 21) 39 39 rfl rfl _ _ rfl rfl hcp ?_
      clear hcp hq4 hq5 hr1 ho1 hx2 HQ13 HQ23 HR3 HO3 ht
      generalize w4.setRow (w.heap.size + 1) (rowOf .u8 32 (fun i => ys.getD i 0)) = w5 at *
      refine hK _ _ ?_
      clear hK K
      try simp only [Act.put, List.setIfInBounds_toArray, List.set_cons_zero, List.set_cons_succ]
      refine wpAny_done (by kernel_rfl) ?_ _
      go_wp2_with (first
        | (refine wpList_load_row rfl 23 (.tmp 3) rfl (w.heap.size + 1) rfl 23 _ (0, 0) _ HQ2.out Tryz.underlying23 rfl (by rw [rowOf_size]; kernel_rfl) ?_)
        | (refine wpList_store_row rfl 23 (.tmp 2) (.tmp 23) rfl w.heap.size _ rfl rfl 23 _ HQ1.out (by rw [rowOf_size]; kernel_rfl) (by simp only [rowOf_size]) (rowOf_one _ _ _) ?_))
      refine bodyPost_ret (results_cell_row rfl _ _ w.heap.size 23 (rowOf .u8 32 (fun i => ys.getD i 0)) (0, 0) _ rfl (setRow_heap _ _ _ _ _ _ HQ1.out) Tryz.underlying23 rfl (by rw [rowOf_size]; kernel_rfl)) rfl ?_
      rw [HS.out]
      exact ⟨rfl, ⟨_, HW.out.keep (setRow_other _ _ _ _ (by omega)) fun hn k hk => setRow_other _ _ _ _ (hne _ (Nat.le_refl _) hn k hk)⟩, HO.out.behind (Nat.le_refl _) _⟩
#print axioms rhash_any
end Go.Proofs.YteokgklfljhcaaaGreatDoor
namespace Go.Proofs.YteokgklfljhcaaaGreatDoor
set_option linter.unusedVariables false
set_option linter.unusedSimpArgs false
section
variable {P : Program} {ops : Array Oper} {Q : Exit → Act → World → Prop} {md : Region.Mode} {S : World → Prop} {ds : List Nat}
def anyT (P : Program) (md : Region.Mode) (ops : Array Oper) (Q : Exit → Act → World → Prop) (S : World → Prop) (ds : List Nat) : Nat → Array Bool → Act → World → Prop
  | 0, l, a, w => Region.ready md ops l = [] ∧ Q .normal a w
  | f + 1, l, a, w => (Region.ready md ops l = [] → Q .normal a w) ∧ ∀ i ∈ Region.ready md ops l, wpOp P ops Q i (fun a' w' => (ds.contains i = true → S w') ∧ anyT P md ops Q S ds f (l.setIfInBounds i true) a' w') a w
theorem any_of_T : ∀ (f : Nat) (l : Array Bool) (a : Act) (w : World), anyT P md ops Q S ds f l a w → wpAny P md ops Q f l a w
  | 0, _, _, _, h => h
  | f + 1, _, _, _, h => ⟨h.1, fun i hi => wpOp_mono (fun a' w' h' => any_of_T f _ a' w' h'.2) (h.2 i hi)⟩
theorem unlisted {l : Array Bool} {i : Nat} (h0 : l.getD i true = false) : l.getD i false = false := by
  rcases Nat.lt_or_ge i l.size with h' | h'
  · simp [h'] at h0 ⊢; exact h0
  · simp [Array.getElem?_eq_none h']
/-- ks: operations that come behind i; each operation that is not listed, not of ds and not i is one of them -/
def waitsB (md : Region.Mode) (ops : Array Oper) (ds ks : List Nat) (l : Array Bool) (i : Nat) : Bool :=
  (ks.all fun k => !l.getD k false && (((ops[k]?).map fun o => o.after.any fun e => Region.binds md e && (e.on == i || ks.contains e.on)).getD false)) && (List.range l.size).all fun j => l.getD j true || j == i || ds.contains j || ks.contains j
theorem waitsB_spec {ks : List Nat} {l : Array Bool} {i : Nat} (h : waitsB md ops ds ks l i = true) :
    (∀ j oj, ops[j]? = some oj → ks.contains j = true → ∃ e ∈ oj.after, Region.binds md e = true ∧ (e.on = i ∨ ks.contains e.on = true)) ∧ (∀ k, ks.contains k = true → l.getD k false = false) ∧
    (∀ j, j ≠ i → l.getD j true = false → ¬ ks.contains j = true → ds.contains j = true) := by
  obtain ⟨h1, h2⟩ := Bool.and_eq_true _ _ |>.mp h
  refine ⟨fun j oj hj hk => ?_, fun k hk => ?_, fun j hj hun hK => ?_⟩
  · have h3 := List.all_eq_true.1 h1 j (by simpa using hk)
    rw [hj] at h3
    simp only [Option.map_some, Option.getD_some, Bool.and_eq_true] at h3
    obtain ⟨e, he, hb⟩ := Array.any_eq_true'.1 h3.2
    simp only [Bool.and_eq_true, Bool.or_eq_true, beq_iff_eq] at hb
    exact ⟨e, he, hb.1, hb.2⟩
  · have h3 := List.all_eq_true.1 h1 k (by simpa using hk)
    simp only [Bool.and_eq_true, Bool.not_eq_true'] at h3
    exact h3.1
  · have hlt : j < l.size := by
      rcases Nat.lt_or_ge j l.size with h' | h'
      · exact h'
      · simp [Array.getElem?_eq_none h'] at hun
    have h3 := List.all_eq_true.1 h2 j (List.mem_range.2 hlt)
    rw [hun, beq_false_of_ne hj] at h3
    cases hc : ks.contains j
    · rw [hc] at h3; simpa using h3
    · exact absurd hc hK
theorem anyT_first {i : Nat} {oi : Oper} {v : Value} {B : Nat → Prop} (hi : ops[i]? = some oi) (hsel : ∀ (j : Nat) (o : Oper) cs b, ops[j]? = some o → o.op ≠ .select cs b)
    (hQ : ∀ c a w, Q (.panic c) (a.put oi.dst v) w → Q (.panic c) a w) (hT : ∀ j oj, ops[j]? = some oj → B j → ∃ e ∈ oj.after, Region.binds md e = true ∧ (e.on = i ∨ B e.on)) :
    ∀ (f : Nat) (l : Array Bool) (a : Act) (w : World),
      (∀ j oj, ops[j]? = some oj → j ≠ i → l.getD j true = false → (∀ e ∈ oj.after, Region.binds md e = true → e.on ≠ i) → oi.apart ops oj = true) →
      (∀ k, B k → l.getD k false = false) → (∀ j, j ≠ i → l.getD j true = false → ¬ B j → ds.contains j = true) → i ∈ Region.ready md ops l → YieldsIf P ops S oi v a → S w →
      anyT P md ops Q S ds f (l.setIfInBounds i true) (a.put oi.dst v) w → anyT P md ops Q S ds (f + 1) l a w := by
  intro f
  induction f with
  | zero =>
    intro l a w _ _ _ hr hy hS H
    refine ⟨fun h => (by rw [h] at hr; cases hr), fun j hj => ?_⟩
    by_cases hji : j = i
    · subst hji; exact hy.wpOp hi hS ⟨fun _ => hS, H⟩
    · have := ready_mono hj hji
      rw [H.1] at this
      cases this
  | succ f ih =>
    intro l a w hfree hU hD hr hy hS H
    refine ⟨fun h => (by rw [h] at hr; cases hr), fun j hj => ?_⟩
    by_cases hji : j = i
    · subst hji; exact hy.wpOp hi hS ⟨fun _ => hS, H⟩
    · have h1 := H.2 j (ready_mono hj hji)
      obtain ⟨hjun, oj, hoj, hall⟩ := mem_ready.1 hj
      have hin : l.getD i false = false := unlisted (mem_ready.1 hr).1
      have hnot : ∀ e ∈ oj.after, Region.binds md e = true → e.on ≠ i := fun e he hb heq => by
        have h1 := hall e he hb
        rw [heq, hin] at h1; cases h1
      have hjB : ¬ B j := fun hB => by
        obtain ⟨e, he, hb, h2⟩ := hT j oj hoj hB
        have h3 := hall e he hb
        rcases h2 with h2 | h2
        · rw [h2, hin] at h3; cases h3
        · rw [hU e.on h2] at h3; cases h3
      have h2 := wpOp_putIf hoj (hfree j oj hoj hji hjun hnot) (fun cs b => hsel i oi cs b hi) (fun cs b => hsel j oj cs b hoj) hQ hy h1
      have back : ∀ {k : Nat}, (l.setIfInBounds j true).getD k true = false → l.getD k true = false := fun {k} hun => by
        by_cases hjk : j = k
        · subst hjk; exact hjun
        · rw [getD_set_ne true hjk] at hun; exact hun
      have hU' : ∀ k, B k → (l.setIfInBounds j true).getD k false = false := fun k hk => by
        rw [getD_set_ne false (fun e => hjB (by rw [e]; exact hk) : j ≠ k)]; exact hU k hk
      refine wpOp_mono (fun a' w' h3 => ⟨h3.2.1, ih (l.setIfInBounds j true) a' w' (fun k ok hk hki hun hno => hfree k ok hk hki (back hun) hno) hU' (fun k hk hun hB => hD k hk (back hun) hB) (ready_mono hr (Ne.symm hji)) h3.1 (h3.2.1 (hD j hji hjun hjB)) ?_⟩) h2
      rw [Array.setIfInBounds_comm _ _ hji]
      exact h3.2.2
theorem anyT_take (ks : List Nat) {i : Nat} {oi : Oper} {v : Value} {f : Nat} {l : Array Bool} {a : Act} {w : World} (hi : ops[i]? = some oi)
    (hs : Region.noSelect ops = true) (hf : Region.free md ops l i = true) (hr : (Region.ready md ops l).contains i = true)
    (hQ : ∀ c a w, Q (.panic c) (a.put oi.dst v) w → Q (.panic c) a w) (hT : waitsB md ops ds ks l i = true) (hy : YieldsIf P ops S oi v a) (hS : S w)
    (h : anyT P md ops Q S ds f (l.setIfInBounds i true) (a.put oi.dst v) w) : anyT P md ops Q S ds (f + 1) l a w :=
  anyT_first (B := fun j => ks.contains j = true) hi (Region.noSelect_spec hs) hQ (waitsB_spec hT).1 f l a w (Region.free_spec hi hf)
    (waitsB_spec hT).2.1 (waitsB_spec hT).2.2 (by simpa using hr) hy hS h
theorem anyT_firstY {i : Nat} {oi : Oper} {v : Value} (hi : ops[i]? = some oi) (hsel : ∀ (j : Nat) (o : Oper) cs b, ops[j]? = some o → o.op ≠ .select cs b)
    (hQ : ∀ c a w, Q (.panic c) (a.put oi.dst v) w → Q (.panic c) a w) (hd : ds.contains i = false) :
    ∀ (f : Nat) (l : Array Bool) (a : Act) (w : World),
      (∀ j oj, ops[j]? = some oj → j ≠ i → l.getD j true = false → (∀ e ∈ oj.after, Region.binds md e = true → e.on ≠ i) → oi.apart ops oj = true) →
      i ∈ Region.ready md ops l → YieldsIf P ops (fun _ => True) oi v a →
      anyT P md ops Q S ds f (l.setIfInBounds i true) (a.put oi.dst v) w → anyT P md ops Q S ds (f + 1) l a w := by
  intro f
  induction f with
  | zero =>
    intro l a w _ hr hy H
    refine ⟨fun h => (by rw [h] at hr; cases hr), fun j hj => ?_⟩
    by_cases hji : j = i
    · subst hji; exact hy.wpOp hi trivial ⟨fun h => (by rw [hd] at h; cases h), H⟩
    · have := ready_mono hj hji
      rw [H.1] at this
      cases this
  | succ f ih =>
    intro l a w hfree hr hy H
    refine ⟨fun h => (by rw [h] at hr; cases hr), fun j hj => ?_⟩
    by_cases hji : j = i
    · subst hji; exact hy.wpOp hi trivial ⟨fun h => (by rw [hd] at h; cases h), H⟩
    · have h1 := H.2 j (ready_mono hj hji)
      obtain ⟨hjun, oj, hoj, hall⟩ := mem_ready.1 hj
      have hin : l.getD i false = false := unlisted (mem_ready.1 hr).1
      have hnot : ∀ e ∈ oj.after, Region.binds md e = true → e.on ≠ i := fun e he hb heq => by
        have h1 := hall e he hb
        rw [heq, hin] at h1; cases h1
      have h2 := wpOp_putIf hoj (hfree j oj hoj hji hjun hnot) (fun cs b => hsel i oi cs b hi) (fun cs b => hsel j oj cs b hoj) hQ hy h1
      refine wpOp_mono (fun a' w' h3 => ⟨h3.2.1, ih (l.setIfInBounds j true) a' w' (fun k ok hk hki hun hno => hfree k ok hk hki ?_ hno) (ready_mono hr (Ne.symm hji)) h3.1 ?_⟩) h2
      · by_cases hjk : j = k
        · subst hjk; exact hjun
        · rw [getD_set_ne true hjk] at hun; exact hun
      · rw [Array.setIfInBounds_comm _ _ hji]
        exact h3.2.2
theorem anyT_takeY {i : Nat} {oi : Oper} {v : Value} {f : Nat} {l : Array Bool} {a : Act} {w : World} (hi : ops[i]? = some oi)
    (hs : Region.noSelect ops = true) (hf : Region.free md ops l i = true) (hr : (Region.ready md ops l).contains i = true)
    (hQ : ∀ c a w, Q (.panic c) (a.put oi.dst v) w → Q (.panic c) a w) (hd : ds.contains i = false) (hy : Yields P ops oi v a)
    (h : anyT P md ops Q S ds f (l.setIfInBounds i true) (a.put oi.dst v) w) : anyT P md ops Q S ds (f + 1) l a w :=
  anyT_firstY hi (Region.noSelect_spec hs) hQ hd f l a w (Region.free_spec hi hf) (by simpa using hr) hy.yieldsIf h
theorem anyT_one {i : Nat} {o : Oper} {f : Nat} {l : Array Bool} {a : Act} {w : World} (hr : Region.ready md ops l = [i]) (ho : ops[i]? = some o)
    (h : ∀ K' : Act → World → Prop, (∀ a w, (ds.contains i = true → S w) → anyT P md ops Q S ds f (l.setIfInBounds i true) a w → K' a w) → if Region.wanted o (yielded ops a.tmps) = true then Oper.wp P o a w K' Q else K' (a.put o.dst undef) w) : anyT P md ops Q S ds (f + 1) l a w :=
  ⟨fun h0 => by rw [hr] at h0; (cases h0), fun j hj => by
    rw [hr] at hj
    obtain rfl := List.mem_singleton.1 hj
    exact wpOp_step ho fun K' hK => h K' fun a w hS hW => hK a w ⟨hS, hW⟩⟩
theorem anyT_done {l : Array Bool} {a : Act} {w : World} (hr : Region.ready md ops l = []) (h : Q .normal a w) : ∀ f, anyT P md ops Q S ds f l a w
  | 0 => ⟨hr, h⟩
  | _ + 1 => ⟨fun _ => h, by rw [hr]; simp⟩
theorem wp_region_T (S : World → Prop) (ds : List Nat) {id : Nat} {a : Act} {w : World} (hm : P.follows .mixedOrders = true)
    (h : anyT P .any ops Q S ds ops.size (Array.replicate ops.size false) a w.drew) : (Code.region id ops true).wp P Q a w :=
  wp_region_any hm (any_of_T _ _ _ _ h)
end
theorem not_mem {p : Prop} {ds : List Nat} {i : Nat} (h : ds.contains i = false) : ds.contains i = true → p := fun h' => by rw [h] at h'; cases h'
end Go.Proofs.YteokgklfljhcaaaGreatDoor
namespace Go.Proofs.YteokgklfljhcaaaGreatDoor
set_option linter.unusedVariables false
set_option linter.unusedSimpArgs false
open Go.RowKit
set_option maxRecDepth 100000
theorem bytes_setCell2 {w : World} {v : Value} {xs : List Int} (h : BytesIn w v xs) {g i : Nat} {x y : Value} (hc : w.cell? ⟨g, i, none⟩ = some x) (hx : ∀ n, x ≠ .int .u8 n) : BytesIn (w.setCell ⟨g, i, none⟩ y) v xs := by
  obtain ⟨a, c, rfl, h1, h2, h3⟩ := h
  refine ⟨a, c, rfl, h1, h2, ?_⟩
  rcases h3 with h3 | ⟨ab, ao, rfl, h3⟩
  · exact .inl h3
  · right
    refine ⟨ab, ao, rfl, fun j z hz => ?_⟩
    have h4 := h3 j z hz
    rw [World.cell?_setCell_other _ _ _ _ (fun e => by rw [← e, hc] at h4; injection h4 with h4; exact hx z h4)]
    exact h4
theorem uintS_le2 (s : RSt) (most : Nat) : (uintS s most).1 ≤ most := by
  obtain ⟨ys, e⟩ := s
  cases e with
  | some x => rw [uintS_err]; exact Nat.zero_le _
  | none =>
    cases h : (rdF ys most).2.2 with
    | some x => rw [uintS_bad h]; exact Nat.zero_le _
    | none => rw [uintS_good h]; exact (rdF_ok h).2.2
theorem rdFrom_no0 (xs : List Int) (most : Nat) : ∀ k i, (rdFrom xs most k i).2.2 ≠ some 0
  | 0, i => by unfold rdFrom; split <;> simp
  | k + 1, i => by
    unfold rdFrom
    split
    · unfold chk
      split
      · simp
      · split <;> simp
    · exact rdFrom_no0 xs most k (i + 1)
theorem rdF_no0 (xs : List Int) (most : Nat) : (rdF xs most).2.2 ≠ some 0 := rdFrom_no0 _ _ _ _
theorem R2M.only {w w' w2 : World} {v : Value} {e : Int} {q : Nat} (m : R2M w w' v e) (h : Only q w' w2) (hq : w.heap.size + 2 ≤ q) : R2M w w2 v e :=
  ⟨m.below.trans (h.below (by omega) m.below.size), (h.block _ (Array.getElem?_eq_some_iff.1 m.arg).1 (by omega)).trans m.arg, (h.block _ (Array.getElem?_eq_some_iff.1 m.res).1 (by omega)).trans m.res⟩
theorem numE_ne {e : Option Nat} (h : e ≠ some 0) : e = none ∨ ∃ x, e = some x ∧ numE e = (x : Int) ∧ 0 < x := by
  cases e with
  | none => exact .inl rfl
  | some x => exact .inr ⟨x, rfl, rfl, by rcases Nat.eq_zero_or_pos x with h0 | h0; exact absurd (by rw [h0]) h; exact h0⟩
theorem sliceUlo (a : Option Addr) (n cap p : Nat) (hp : p ≤ n) (w : World) : (Instr.slice 39 (.slice a n cap) (some (.int .u64 (p : Int))) none none).run Tryz.prog w = .ok (.slice (cutA a cap p) (n - p) (cap - p)) w := by
  have he : Tryz.prog.elem 39 = 5 := by kernel_rfl
  have hs : (sizeOf 5).run Tryz.prog w = .ok 1 w := by kernel_rfl
  rw [run_slice_l w 39 a n cap (by rw [he]; exact Tryz.underlying39) .u64 (p : Int) (by omega) (by omega), he, hs]
  simp [Result.andThen_ok, sliced, cutA]
theorem bytes_hi {w : World} {a : Option Addr} {n c : Nat} {xs : List Int} (h : BytesIn w (.slice a n c) xs) (q : Nat) (hq : q ≤ n) : BytesIn w (.slice a q c) (xs.take q) := by
  obtain ⟨a', c', e, h1, h2, h3⟩ := h
  injection e with e1 e2 e3
  subst e1 e2 e3
  have hl : (xs.take q).length = q := by rw [List.length_take]; omega
  refine ⟨a, c, by rw [hl], by omega, by omega, ?_⟩
  rcases h3 with h3 | ⟨ab, ao, rfl, h3⟩
  · left; rw [h3]; simp
  · right
    refine ⟨ab, ao, rfl, fun i x hi => h3 i x ?_⟩
    have hiq : i < q := by have := (List.getElem?_eq_some_iff.1 hi).1; omega
    rw [List.getElem?_take, if_pos hiq] at hi
    exact hi
theorem uintS_no0 (s : RSt) (most : Nat) (h : s.2 ≠ some 0) : (uintS s most).2.2 ≠ some 0 := by
  obtain ⟨ys, e⟩ := s
  cases e with
  | some x => exact h
  | none =>
    cases hr : (rdF ys most).2.2 with
    | none => rw [uintS_good hr]; simp
    | some x =>
      rw [uintS_bad hr]
      intro hx
      have hx0 : x = 0 := by simpa using hx
      subst hx0
      exact rdF_no0 ys most hr
theorem uintS_ok (s : RSt) (most : Nat) (h : bytesOk s.1) : bytesOk (uintS s most).2.1 ∧ (uintS s most).2.1.length ≤ s.1.length := by
  obtain ⟨ys, e⟩ := s
  cases e with
  | some x => exact ⟨h, Nat.le_refl _⟩
  | none =>
    cases hr : (rdF ys most).2.2 with
    | none => rw [uintS_good hr]; exact ⟨bytesOk_drop h _, by simp⟩
    | some x => rw [uintS_bad hr]; exact ⟨h, Nat.le_refl _⟩
theorem bytes_row {w : World} {v : Value} {xs : List Int} (h : BytesIn w v xs) {g : Nat} {x : Value} {e : Int} (hg : w.heap[g]? = some (.cells (rdC x e) 104 (0, 0))) (cs : Array Value) (hx : ∀ n, x ≠ .int .u8 n := by simp) : BytesIn (w.setRow g cs) v xs := by
  obtain ⟨a, c, rfl, h1, h2, h3⟩ := h
  refine ⟨a, c, rfl, h1, h2, ?_⟩
  rcases h3 with h3 | ⟨ab, ao, rfl, h3⟩
  · exact .inl h3
  · right
    refine ⟨ab, ao, rfl, fun i y hi => ?_⟩
    have h4 := h3 i y hi
    have hne : ab ≠ g := fun e => by
      subst e
      rw [cell_of_row _ _ _ _ _ _ hg] at h4
      unfold rdC at h4
      match hq : ao + i, h4 with
      | 0, h4 => simp at h4; exact hx _ h4
      | 1, h4 => simp at h4
      | n + 2, h4 => simp at h4
    unfold World.cell? at h4 ⊢
    rw [setRow_other w g ab cs hne]
    exact h4
end Go.Proofs.YteokgklfljhcaaaGreatDoor
namespace Go.Proofs.YteokgklfljhcaaaGreatDoor
set_option linter.unusedVariables false
set_option linter.unusedSimpArgs false
open Go.RowKit
set_option maxRecDepth 100000
def countS (s : RSt) (most : Nat) : Nat × RSt :=
  match (uintS s most).2.2 with
  | some x => (0, s.1, some x)
  | none => if (uintS s most).2.1.length < (uintS s most).1 then (0, s.1, some 2) else uintS s most
theorem countS_bad {s : RSt} {most : Nat} {x : Nat} (h : (uintS s most).2.2 = some x) : countS s most = (0, s.1, some x) := by unfold countS; rw [h]
theorem countS_long {s : RSt} {most : Nat} (h : (uintS s most).2.2 = none) (hl : (uintS s most).2.1.length < (uintS s most).1) : countS s most = (0, s.1, some 2) := by unfold countS; rw [h]; simp only [if_pos hl]
theorem countS_good {s : RSt} {most : Nat} (h : (uintS s most).2.2 = none) (hl : ¬ (uintS s most).2.1.length < (uintS s most).1) : countS s most = uintS s most := by unfold countS; rw [h]; simp only [if_neg hl]
end Go.Proofs.YteokgklfljhcaaaGreatDoor
namespace Go.Proofs.YteokgklfljhcaaaGreatDoor
set_option linter.unusedVariables false
set_option linter.unusedSimpArgs false
open Go.RowKit
set_option maxRecDepth 100000
set_option linter.unusedSimpArgs false
set_option linter.unusedVariables false
theorem R2M.put {w w' : World} {v v' : Value} {e e' : Int} (m : R2M w w' v e) : R2M w (w'.setRow w.heap.size (rdC v' e')) v' e' :=
  ⟨below_setRow m.below (Nat.le_refl _) _, setRow_heap _ _ _ _ _ _ m.arg, (setRow_other _ _ _ _ (by omega)).trans m.res⟩
theorem uintS_some {s : RSt} {most x : Nat} (h : (uintS s most).2.2 = some x) : uintS s most = (0, s.1, some x) := by
  obtain ⟨ys, e⟩ := s
  cases e with
  | some y =>
    rw [uintS_err] at h ⊢
    simp only at h
    rw [h]
  | none =>
    cases hr : (rdF ys most).2.2 with
    | none => rw [uintS_good hr] at h; cases h
    | some y => rw [uintS_bad hr] at h ⊢; simp only at h; rw [h]
end Go.Proofs.YteokgklfljhcaaaGreatDoor
