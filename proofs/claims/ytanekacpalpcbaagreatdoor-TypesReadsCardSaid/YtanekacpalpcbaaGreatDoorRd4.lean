/- Part 4 of the proof. -/
import Derived.Test.YtanekacpalpcbaaGreatDoorRd3
namespace Go.Proofs.YtanekacpalpcbaaGreatDoor
set_option linter.unusedVariables false
set_option linter.unusedSimpArgs false
open Go.RowKit
set_option maxRecDepth 100000
/-- a length and that many bytes -/
def partS (s : RSt) (most : Int) : List Int × RSt :=
  match s.2 with
  | some _ => ([], s)
  | none =>
    if most < 0 then ([], s.1, some 1)
    else match (rdF s.1 18446744073709551615).2.2 with
      | some x => ([], s.1, some x)
      | none =>
        if most < ((rdF s.1 18446744073709551615).1 : Int) then ([], s.1, some 2)
        else if s.1.length - (rdF s.1 18446744073709551615).2.1 < (rdF s.1 18446744073709551615).1 then ([], s.1, some 12)
        else ((s.1.drop (rdF s.1 18446744073709551615).2.1).take (rdF s.1 18446744073709551615).1, (s.1.drop (rdF s.1 18446744073709551615).2.1).drop (rdF s.1 18446744073709551615).1, none)
/-- what part answers -/
def PartPost (p : Nat) (l : List Int) (s : RSt) (w : World) (r : Ending) (w' : World) : Prop :=
  ∃ v, r = .returned v ∧ BytesIn w' v l ∧ bytesOk l ∧ l.length ≤ 140737488355328 ∧ (∀ j, v.ownBlock = some j → j ≠ p) ∧ RS w' p s ∧ Only p w w'
theorem partPost_nil {p : Nat} {s : RSt} {w w' : World} (h : RS w' p s) (ho : Only p w w') : PartPost p [] s w (.returned (.slice none 0 0)) w' :=
  ⟨_, rfl, nil_in w', (by intro x hx; cases hx), by simp, (fun _ h => by cases h), h, ho⟩
set_option maxRecDepth 100000 in
set_option maxHeartbeats 1000000 in
theorem part_any (p : Nat) (s : RSt) (most : Int) (w : World) (h : RS w p s) (hm0 : -9223372036854775808 ≤ most) (hm1 : most ≤ 9223372036854775807) :
    Calls Tryz.prog 235 #[.pointer (some ⟨p, 0, none⟩), .int .i64 most] w (PartPost p (partS s most).1 (partS s most).2 w) := by
  obtain ⟨ys, e⟩ := s
  obtain ⟨y, h⟩ := h
  change RAt w p y ys e at h
  have HE := Lib.hid (err_any p y ys e w h)
  have HR := Lib.hid h
  have hc0 := h.cell0
  have hc1 := h.cell1
  have hf := h.free 1
  obtain ⟨a, c, rfl, hle⟩ := h.wide
  have HLE := Lib.hid hle
  clear hle
  cases e with
  | some x =>
    simp only [partS, errV] at HE hc1 ⊢
    clear h
    go_enter Tryz.func235, Tryz.ntmps235
    go_wp2_with (go_at_call 198; (with_reducible refine HE.out.mono ?_); rintro e w2 ⟨rfl, rfl⟩)
    go_ret
    exact partPost_nil ⟨_, HR.out⟩ (Only.refl _ _)
  | none =>
    simp only [partS, errV] at HE hc1 ⊢
    by_cases hneg : most < 0
    · rw [if_pos hneg]
      have HW := Lib.hid (h.err (some 1))
      clear h
      go_enter Tryz.func235, Tryz.ntmps235
      go_wp2_with (go_at_call 198; (with_reducible refine HE.out.mono ?_); rintro e w2 ⟨rfl, rfl⟩)
      go_ret
      exact partPost_nil ⟨_, HW.out⟩ (Only.setCell _ ⟨p, 1, none⟩ _)
    · rw [if_neg hneg]
      have HV := varint_any (.slice a ys.length c) ys 18446744073709551615 w h.in_ h.ok
      rw [show ((18446744073709551615 : Nat) : Int) = 18446744073709551615 from rfl] at HV
      cases hx : (rdF ys 18446744073709551615).2.2 with
      | some x =>
        simp only
        rw [tripV_of _ _ hx] at HV
        replace HV := Lib.hid HV
        have HW := Lib.hid (h.err (some x))
        simp only [errV] at HV HW
        clear h
        go_enter Tryz.func235, Tryz.ntmps235
        go_wp2_with (first
          | (go_at_call 198; (with_reducible refine HE.out.mono ?_); rintro e w2 ⟨rfl, rfl⟩)
          | (go_at_call 237; (with_reducible refine HV.out.mono ?_); rintro e w2 ⟨rfl, rfl⟩))
        go_ret
        exact partPost_nil ⟨_, HW.out⟩ (Only.setCell _ ⟨p, 1, none⟩ _)
      | none =>
        simp only
        obtain ⟨hsz, hn64, _⟩ := rdF_ok hx
        rw [tripV_of _ _ hx] at HV
        replace HV := Lib.hid HV
        simp only [errV] at HV
        generalize hsize : (rdF ys 18446744073709551615).2.1 = size at *
        generalize hnum : (rdF ys 18446744073709551615).1 = n at *
        clear hsize hnum hx
        have hlen := h.le
        by_cases hlong : most < (n : Int)
        · rw [if_pos hlong]
          have HW := Lib.hid (h.err (some 2))
          clear h
          have hwm : IntKind.u64.wrap most = most := by rw [IntKind.wrap_u64]; omega
          go_enter Tryz.func235, Tryz.ntmps235
          go_wp2_with (first
            | (go_at_call 198; (with_reducible refine HE.out.mono ?_); rintro e w2 ⟨rfl, rfl⟩)
            | (go_at_call 237; (with_reducible refine HV.out.mono ?_); rintro e w2 ⟨rfl, rfl⟩))
          go_ret
          exact partPost_nil ⟨_, HW.out⟩ (Only.setCell _ ⟨p, 1, none⟩ _)
        · rw [if_neg hlong]
          have hwm : IntKind.u64.wrap most = most := by rw [IntKind.wrap_u64]; omega
          by_cases hend : ys.length - size < n
          · rw [if_pos hend]
            have HW := Lib.hid (h.err (some 12))
            clear h
            go_enter Tryz.func235, Tryz.ntmps235
            go_wp2_with (first
              | (go_at_call 198; (with_reducible refine HE.out.mono ?_); rintro e w2 ⟨rfl, rfl⟩)
              | (go_at_call 237; (with_reducible refine HV.out.mono ?_); rintro e w2 ⟨rfl, rfl⟩))
            go_ret
            exact partPost_nil ⟨_, HW.out⟩ (Only.setCell _ ⟨p, 1, none⟩ _)
          · rw [if_neg hend]
            have ht := take_any p _ ys none size w h hsz
            have hok := bytesOk_drop h.ok size
            have hD : n ≤ (ys.drop size).length := by rw [List.length_drop]; omega
            have hD2 : (ys.drop size).length ≤ 140737488355328 := by rw [List.length_drop]; omega
            generalize ys.drop size = D at *
            replace ht := Lib.hid ht
            replace hok := Lib.hid hok
            replace hD := Lib.hid hD
            replace hD2 := Lib.hid hD2
            have hwn : IntKind.i64.wrap (n : Int) = n := by rw [IntKind.wrap_i64]; omega
            clear h
            go_enter Tryz.func235, Tryz.ntmps235
            go_wp2_with (first
              | (go_at_call 198; (with_reducible refine HE.out.mono ?_); rintro e w2 ⟨rfl, rfl⟩)
              | (go_at_call 237; (with_reducible refine HV.out.mono ?_); rintro e w2 ⟨rfl, rfl⟩)
              | (go_at_call 234; (with_reducible refine ht.out.mono ?_); rintro e w3 ⟨a1, c1, y1, rfl, _, _, hr1, ho1, _⟩; replace hr1 := Lib.hid hr1; replace ho1 := Lib.hid ho1)
              | (go_at_call 234; (with_reducible refine (take_any p _ D none n _ hr1.out hD.out).mono ?_); rintro e w4 ⟨a2, c2, y2, rfl, hi2, hn2, hr2, ho2, _⟩; replace hr2 := Lib.hid hr2; replace ho2 := Lib.hid ho2; replace hi2 := Lib.hid hi2; replace hn2 := Lib.hid hn2))
            go_ret
            exact ⟨_, rfl, hi2.out, bytesOk_take hok.out n, by rw [List.length_take]; have := hD2.out; omega, hn2.out, ⟨_, hr2.out⟩, ho1.out.trans ho2.out⟩
theorem rtext_any (p : Nat) (s : RSt) (most : Int) (w : World) (h : RS w p s) (hm0 : -9223372036854775808 ≤ most) (hm1 : most ≤ 9223372036854775807) :
    Calls Tryz.prog 189 #[.pointer (some ⟨p, 0, none⟩), .int .i64 most] w fun r w' => r = .returned (.string (strOfNums (partS s most).1)) ∧ RS w' p (partS s most).2 ∧ Only p w w' := by
  have HP := Lib.hid (part_any p s most w h hm0 hm1)
  clear h
  go_enter Tryz.func189, Tryz.ntmps189
  go_wp2_with (go_at_call 235; (with_reducible refine HP.out.mono ?_); rintro e w2 ⟨v, rfl, hv, _, _, _, hr, ho⟩; have hcv := conv_bytes w2 v _ hv; replace hr := Lib.hid hr; replace ho := Lib.hid ho; clear hv)
  go_ret
  exact ⟨rfl, hr.out, ho.out⟩
theorem rbytes_any (p : Nat) (s : RSt) (most : Int) (w : World) (h : RS w p s) (hm0 : -9223372036854775808 ≤ most) (hm1 : most ≤ 9223372036854775807) :
    Calls Tryz.prog 187 #[.pointer (some ⟨p, 0, none⟩), .int .i64 most] w fun r w' => ∃ v, r = .returned v ∧ BytesIn w' v (partS s most).1 ∧ (∀ j, v.ownBlock = some j → w.heap.size ≤ j) ∧ RS w' p (partS s most).2 ∧ Only p w w' := by
  have HP := Lib.hid (part_any p s most w h hm0 hm1)
  clear h
  go_enter Tryz.func187, Tryz.ntmps187
  go_wp2_with (first
    | (go_at_call 235; (with_reducible refine HP.out.mono ?_); rintro e w2 ⟨v, rfl, hv, _, hl, _, hr, ho⟩; replace hr := Lib.hid hr; replace ho := Lib.hid ho; replace hl := Lib.hid hl; have hcl := Lib.hid (clone_any v _ w2 hv hl.out); clear hv)
    | (go_at_call 134; (with_reducible refine hcl.out.mono ?_); rintro e w3 ⟨v3, rfl, h3, hb⟩; replace h3 := Lib.hid h3; replace hb := Lib.hid hb))
  go_ret
  obtain ⟨y, hy⟩ := hr.out
  exact ⟨_, rfl, owns_in h3.out (by have := hl.out; unfold maxLen; omega), fun j hj => Nat.le_trans ho.out.size (h3.out.lt j hj).1, ⟨y, hy.below hb.out⟩, ho.out.trans (Only.of_below hb.out)⟩
/-- Hash -/
def hashS (s : RSt) : (Nat → Int) × RSt :=
  match s.2 with
  | some _ => (fun _ => 0, s)
  | none => if s.1.length < 32 then (fun _ => 0, s.1, some 12) else (fun i => s.1.getD i 0, s.1.drop 32, none)
theorem hashS_err (ys : List Int) (x : Nat) : hashS (ys, some x) = (fun _ => 0, ys, some x) := rfl
theorem hashS_short {ys : List Int} (h : ys.length < 32) : hashS (ys, none) = (fun _ => 0, ys, some 12) := by unfold hashS; simp only [if_pos h]
theorem hashS_long {ys : List Int} (h : ¬ ys.length < 32) : hashS (ys, none) = (fun i => ys.getD i 0, ys.drop 32, none) := by unfold hashS; simp only [if_neg h]
theorem Only.behind {p g : Nat} {w w' : World} (h : Only p w w') (hg : w.heap.size ≤ g) (cs : Array Value) : Only p w (w'.setRow g cs) :=
  ⟨h.os, h.tape, h.output, by simp [World.setRow]; exact h.size, fun k hk hp => (setRow_other w' g k cs (by omega)).trans (h.block k hk hp)⟩
theorem wp_copy_at {P : Program} (w : World) {o : Oper} {a : Act} {K : Act → World → Prop} {Q : Exit → Act → World → Prop} (d s : Operand) (t t' : TypeId) {ty : TypeId}
    (ho : o.op = .call { callee := .builtin .copy, args := #[d, s], argTypes := #[t, t'] }) (hty : o.type = ty) (v u : Value) (hd : a.eval d = v) (hs : a.eval s = u) {v' : Value} {w' : World}
    (hr : (Builtin.copy_ #[t, t'] ty #[v, u]).run P w = .ok v' w') (h : K (a.put o.dst v') w') : o.wp P a w K Q := by
  unfold Oper.wp execOp
  simp only [ho, hty, resolve, invoke, builtin, Sem.run_bind, Sem.run_pure, Result.andThen_ok, List.map_toArray, List.map_cons, List.map_nil, hd, hs, hr]
  exact h
theorem copied32 (f : Nat → Int) (ys : List Int) (h : ¬ ys.length < 32) :
    ((rowOf .u8 32 f).toList.take 0 ++ byteVals (ys.take 32) ++ (rowOf .u8 32 f).toList.drop (0 + (byteVals (ys.take 32)).length)).toArray = rowOf .u8 32 (fun i => ys.getD i 0) := by
  have hl : (ys.take 32).length = 32 := by rw [List.length_take]; omega
  have hd : (rowOf .u8 32 f).toList.drop (0 + (byteVals (ys.take 32)).length) = [] := by
    apply List.drop_eq_nil_of_le
    rw [byteVals_length, hl, Array.length_toList, rowOf_size]; omega
  rw [hd, List.take_zero, List.nil_append, List.append_nil]
  unfold rowOf byteVals
  congr 1
  apply List.ext_getElem
  · simp only [List.length_map, List.length_range, hl]
  · intro i h1 h2
    simp only [List.length_map, hl] at h1
    have h3 : i < ys.length := by omega
    simp [List.getD, List.getElem?_eq_getElem h3]
theorem zerosPk : (#[Value.int IntKind.u8 0, Value.int IntKind.u8 0, Value.int IntKind.u8 0, Value.int IntKind.u8 0, Value.int IntKind.u8 0, Value.int IntKind.u8 0, Value.int IntKind.u8 0, Value.int IntKind.u8 0, Value.int IntKind.u8 0, Value.int IntKind.u8 0, Value.int IntKind.u8 0, Value.int IntKind.u8 0, Value.int IntKind.u8 0, Value.int IntKind.u8 0, Value.int IntKind.u8 0, Value.int IntKind.u8 0, Value.int IntKind.u8 0, Value.int IntKind.u8 0, Value.int IntKind.u8 0, Value.int IntKind.u8 0, Value.int IntKind.u8 0, Value.int IntKind.u8 0, Value.int IntKind.u8 0, Value.int IntKind.u8 0, Value.int IntKind.u8 0, Value.int IntKind.u8 0, Value.int IntKind.u8 0, Value.int IntKind.u8 0, Value.int IntKind.u8 0, Value.int IntKind.u8 0, Value.int IntKind.u8 0, Value.int IntKind.u8 0] : Array Value) = rowOf .u8 32 (fun _ => 0) := by rfl
set_option maxRecDepth 100000 in
set_option maxHeartbeats 1000000 in
theorem rhash_any (p : Nat) (s : RSt) (w : World) (h : RS w p s) :
    Calls Tryz.prog 186 #[.pointer (some ⟨p, 0, none⟩)] w fun r w' => r = .returned (.agg (rowOf .u8 32 (hashS s).1)) ∧ RS w' p (hashS s).2 ∧ Only p w w' := by
  obtain ⟨ys, e⟩ := s
  obtain ⟨y, h⟩ := h
  change RAt w p y ys e at h
  have HB := Lib.hid ((below_alloc w (.cells (rowOf .u8 32 (fun _ => 0)) 65)).trans ((below_alloc (w.alloc (.cells (rowOf .u8 32 (fun _ => 0)) 65)) (.cells (rowOf .u8 32 (fun _ => 0)) 65)).mono (by simp)))
  have HR := h.below HB.out
  have HQ1 := (RowAt.new w .u8 32 65 (fun _ => 0)).alloc (.cells (rowOf .u8 32 (fun _ => 0)) 65)
  have HQ2 := RowAt.new (w.alloc (.cells (rowOf .u8 32 (fun _ => 0)) 65)) .u8 32 65 (fun _ => 0)
  rw [size_alloc] at HQ2
  have HP : p < w.heap.size := h.lt
  have H0 := Lib.hid h
  replace HR := Lib.hid HR
  replace HQ1 := Lib.hid HQ1
  replace HQ2 := Lib.hid HQ2
  clear h
  go_enter Tryz.func186, Tryz.ntmps186
  go_upto_region 2 with (fail)
  rw [zerosPk]
  generalize (w.alloc (.cells (rowOf .u8 32 (fun _ => 0)) 65)).alloc (.cells (rowOf .u8 32 (fun _ => 0)) 65) = w1 at *
  have HE := Lib.hid (err_any p y ys e w1 HR.out)
  have hc0 := HR.out.cell0
  have hc1 := HR.out.cell1
  have hf := HR.out.free 1
  obtain ⟨a, c, rfl, hle⟩ := HR.out.wide
  have HLE := Lib.hid hle
  clear hle
  cases e with
  | some x =>
    simp only [errV] at HE hc1
    go_wp2_with (first
      | (go_at_call 198; (with_reducible refine HE.out.mono ?_); rintro e w2 ⟨rfl, rfl⟩)
      | (refine wpList_load_row rfl 65 (.tmp 3) rfl (w.heap.size + 1) rfl 65 _ (0, 0) _ HQ2.out Tryz.underlying65 rfl (by rw [rowOf_size]; kernel_rfl) ?_)
      | (refine wpList_store_row rfl 65 (.tmp 2) (.tmp 7) rfl w.heap.size _ rfl rfl 65 _ HQ1.out (by rw [rowOf_size]; kernel_rfl) (by simp only [rowOf_size]) (rowOf_one _ _ _) ?_))
    refine bodyPost_ret (results_cell_row rfl _ _ w.heap.size 65 (rowOf .u8 32 (fun _ => 0)) (0, 0) _ rfl (setRow_heap _ _ _ _ _ _ HQ1.out) Tryz.underlying65 rfl (by rw [rowOf_size]; kernel_rfl)) rfl ?_
    rw [hashS_err]
    exact ⟨rfl, ⟨_, H0.out.below (below_setRow HB.out (Nat.le_refl _) _)⟩, Only.of_below (below_setRow HB.out (Nat.le_refl _) _)⟩
  | none =>
    simp only [errV] at HE hc1
    by_cases hs : ys.length < 32
    · have HS := Lib.hid (hashS_short hs)
      have hs1 : (ys.length : Int) < 32 := by omega
      have HW := Lib.hid (HR.out.err (some 12))
      have HQ2' := Lib.hid (HQ2.out.other ⟨p, 1, none⟩ (errV (some 12)) (show w.heap.size + 1 ≠ p by omega))
      have HQ1' := Lib.hid (HQ1.out.other ⟨p, 1, none⟩ (errV (some 12)) (show w.heap.size ≠ p by omega))
      have HO := Lib.hid ((Only.of_below HB.out).trans (Only.setCell w1 ⟨p, 1, none⟩ (errV (some 12))))
      simp only [errV] at HW HQ1' HQ2' HO
      clear HQ1 HQ2
      go_wp2_with (first
        | (go_at_call 198; (with_reducible refine HE.out.mono ?_); rintro e w2 ⟨rfl, rfl⟩)
        | (refine wpList_load_row rfl 65 (.tmp 3) rfl (w.heap.size + 1) rfl 65 _ (0, 0) _ HQ2'.out Tryz.underlying65 rfl (by rw [rowOf_size]; kernel_rfl) ?_)
        | (refine wpList_store_row rfl 65 (.tmp 2) (.tmp 18) rfl w.heap.size _ rfl rfl 65 _ HQ1'.out (by rw [rowOf_size]; kernel_rfl) (by simp only [rowOf_size]) (rowOf_one _ _ _) ?_))
      refine bodyPost_ret (results_cell_row rfl _ _ w.heap.size 65 (rowOf .u8 32 (fun _ => 0)) (0, 0) _ rfl (setRow_heap _ _ _ _ _ _ HQ1'.out) Tryz.underlying65 rfl (by rw [rowOf_size]; kernel_rfl)) rfl ?_
      rw [HS.out]
      refine ⟨rfl, ⟨_, HW.out.keep (setRow_other _ _ _ _ (by omega)) fun hn k hk => setRow_other _ _ _ _ ?_⟩, HO.out.behind (Nat.le_refl _) _⟩
      have := H0.out.own_lt hn k hk; omega
    · have hs1 : ¬ (ys.length : Int) < 32 := by omega
      have HS := Lib.hid (hashS_long hs)
      go_upto_region 7 with (go_at_call 198; (with_reducible refine HE.out.mono ?_); rintro e w2 ⟨rfl, rfl⟩)
      obtain ⟨w3, hw3⟩ : ∃ w3, w3 = w2.drew := ⟨_, rfl⟩
      have HR3 := Lib.hid (show RAt w3 p (.slice a ys.length c) ys none by rw [hw3]; exact HR.out.keep rfl fun _ _ _ => rfl)
      have HQ13 := Lib.hid (show RowAt w3 w.heap.size .u8 32 65 (fun _ => 0) by rw [hw3]; exact HQ1.out)
      have HQ23 := Lib.hid (show RowAt w3 (w.heap.size + 1) .u8 32 65 (fun _ => 0) by rw [hw3]; exact HQ2.out)
      have HO3 := Lib.hid (show Only p w w3 by rw [hw3]; exact (Only.of_below HB.out).trans (Only.drew _ _))
      refine wp_region_any (by kernel_rfl) ?_
      change wpAny _ _ _ _ _ _ _ w2.drew
      rw [← hw3]
      clear hw3
      refine wpAny_take (i := 0) (v := .slice (some ⟨w.heap.size + 1, 0, none⟩) 32 32) rfl (by kernel_rfl) (by kernel_rfl) (by kernel_rfl) (fun _ _ _ h => h) (Or.inl ⟨by rfl, by intro w; go_simp⟩) ?_
      try simp only [List.getElem_toArray, List.getElem_cons_zero, Act.put, List.setIfInBounds_toArray, List.set_cons_zero, List.set_cons_succ]
      refine wpAny_take (i := 1) (v := .pointer (some ⟨p, 0, none⟩)) rfl (by kernel_rfl) (by kernel_rfl) (by kernel_rfl) (fun _ _ _ h => h) (Or.inl ⟨by rfl, by intro w; go_simp⟩) ?_
      try simp only [List.getElem_toArray, List.getElem_cons_succ, List.getElem_cons_zero, Act.put, List.setIfInBounds_toArray, List.set_cons_zero, List.set_cons_succ]
      refine wpAny_ready (rs := [2]) (by kernel_rfl) (by simp) ?_; refine AllReady.cons rfl (fun K hK => ?_) AllReady.nil; rw [if_pos (by rfl)]
      try simp only [List.getElem_toArray, List.getElem_cons_succ, List.getElem_cons_zero]
      go_simp
      have ht := take_any p _ ys none 32 w3 HR3.out (by omega)
      rw [show ((32 : Nat) : Int) = 32 from rfl] at ht
      refine ht.mono ?_
      rintro e w4 ⟨a1, c1, y1, rfl, hi1, hn1, hr1, ho1, hy1⟩
      have hl32 : (ys.take 32).length = 32 := by rw [List.length_take]; omega
      obtain ⟨a1', c1', e1, _, _, hx1⟩ := hi1
      rw [hl32] at e1
      injection e1 with e1 _ e3
      subst e1 e3
      obtain ⟨ab, ao, rfl, hx2⟩ := hx1.resolve_left (by intro h0; rw [h0] at hl32; simp at hl32)
      clear hx1 hn1
      refine hK _ _ ?_
      clear hK K
      try simp only [List.getElem_toArray, List.getElem_cons_succ, List.getElem_cons_zero, Act.put, List.setIfInBounds_toArray, List.set_cons_zero, List.set_cons_succ]
      refine wpAny_ready (rs := [3]) (by kernel_rfl) (by simp) ?_; refine AllReady.cons rfl (fun K hK => ?_) AllReady.nil; rw [if_pos (by rfl)]
      try simp only [List.getElem_toArray, List.getElem_cons_succ, List.getElem_cons_zero]
      have hq4 : RowAt w4 (w.heap.size + 1) .u8 32 65 (fun _ => 0) := (ho1.block _ HQ23.out.lt (by omega)).trans HQ23.out
      have hq5 : RowAt w4 w.heap.size .u8 32 65 (fun _ => 0) := (ho1.block _ HQ13.out.lt (by omega)).trans HQ13.out
      have hcp := run_copy_row (P := Tryz.prog) w4 34 34 3 5 (w.heap.size + 1) 0 32 32 ⟨ab, ao, none⟩ 32 c1 _ 65 (byteVals (ys.take 32)) Tryz.underlying34 (by kernel_rfl) hq4 (by rw [byteVals_length, hl32]; rfl) (fun j v hv => by
          rw [Addr.add_mid]
          simp only [byteVals, List.getElem?_map] at hv
          cases hj : (ys.take 32)[j]? with
          | none => rw [hj] at hv; cases hv
          | some x => rw [hj] at hv; cases hv; exact hx2 j x hj) (by rw [byteVals_length, hl32, rowOf_size]; omega) (byteVals_one _)
      rw [copied32 _ ys hs] at hcp
      have HQ2 : Hid (RowAt (w4.setRow (w.heap.size + 1) (rowOf .u8 32 (fun i => ys.getD i 0))) (w.heap.size + 1) .u8 32 65 (fun i => ys.getD i 0)) := Lib.hid (setRow_heap _ _ _ _ _ _ hq4)
      have HQ1 : Hid (RowAt (w4.setRow (w.heap.size + 1) (rowOf .u8 32 (fun i => ys.getD i 0))) w.heap.size .u8 32 65 (fun _ => 0)) := Lib.hid ((setRow_other _ _ _ _ (by omega)).trans hq5)
      have hne : ∀ g, w.heap.size ≤ g → ys.drop 32 ≠ [] → ∀ k, y1.ownBlock = some k → k ≠ g := fun g hg hn k hk => by
        rw [hy1] at hk
        have := H0.out.own_lt (by rintro rfl; simp at hn) k hk
        omega
      have HW := Lib.hid (show RAt (w4.setRow (w.heap.size + 1) (rowOf .u8 32 (fun i => ys.getD i 0))) p y1 (ys.drop 32) none from
        hr1.keep (setRow_other _ _ _ _ (by omega)) fun hn k hk => setRow_other _ _ _ _ (hne _ (Nat.le_succ _) hn k hk))
      have HO := Lib.hid ((HO3.out.trans ho1).behind (g := w.heap.size + 1) (Nat.le_succ _) (rowOf .u8 32 (fun i => ys.getD i 0)))
      refine wp_copy_at w4 (.tmp 19) (.tmp 21) 34 34 rfl rfl _ _ rfl rfl hcp ?_
      clear hcp hq4 hq5 hr1 ho1 hx2 HQ13 HQ23 HR3 HO3 ht
      generalize w4.setRow (w.heap.size + 1) (rowOf .u8 32 (fun i => ys.getD i 0)) = w5 at *
      refine hK _ _ ?_
      clear hK K
      try simp only [Act.put, List.setIfInBounds_toArray, List.set_cons_zero, List.set_cons_succ]
      refine wpAny_done (by kernel_rfl) ?_ _
      go_wp2_with (first
        | (refine wpList_load_row rfl 65 (.tmp 3) rfl (w.heap.size + 1) rfl 65 _ (0, 0) _ HQ2.out Tryz.underlying65 rfl (by rw [rowOf_size]; kernel_rfl) ?_)
        | (refine wpList_store_row rfl 65 (.tmp 2) (.tmp 23) rfl w.heap.size _ rfl rfl 65 _ HQ1.out (by rw [rowOf_size]; kernel_rfl) (by simp only [rowOf_size]) (rowOf_one _ _ _) ?_))
      refine bodyPost_ret (results_cell_row rfl _ _ w.heap.size 65 (rowOf .u8 32 (fun i => ys.getD i 0)) (0, 0) _ rfl (setRow_heap _ _ _ _ _ _ HQ1.out) Tryz.underlying65 rfl (by rw [rowOf_size]; kernel_rfl)) rfl ?_
      rw [HS.out]
      exact ⟨rfl, ⟨_, HW.out.keep (setRow_other _ _ _ _ (by omega)) fun hn k hk => setRow_other _ _ _ _ (hne _ (Nat.le_refl _) hn k hk)⟩, HO.out.behind (Nat.le_refl _) _⟩
#print axioms rhash_any
end Go.Proofs.YtanekacpalpcbaaGreatDoor
namespace Go.Proofs.YtanekacpalpcbaaGreatDoor
set_option linter.unusedVariables false
set_option linter.unusedSimpArgs false
open Go.RowKit
set_option maxRecDepth 100000
def countS (s : RSt) (most : Nat) : Nat × RSt :=
  match (uintS s most).2.2 with
  | some x => (0, s.1, some x)
  | none => if (uintS s most).2.1.length < (uintS s most).1 then (0, s.1, some 2) else uintS s most
theorem countS_bad {s : RSt} {most : Nat} {x : Nat} (h : (uintS s most).2.2 = some x) : countS s most = (0, s.1, some x) := by unfold countS; rw [h]
theorem countS_long {s : RSt} {most : Nat} (h : (uintS s most).2.2 = none) (hl : (uintS s most).2.1.length < (uintS s most).1) : countS s most = (0, s.1, some 2) := by unfold countS; rw [h]; simp only [if_pos hl]
theorem countS_good {s : RSt} {most : Nat} (h : (uintS s most).2.2 = none) (hl : ¬ (uintS s most).2.1.length < (uintS s most).1) : countS s most = uintS s most := by unfold countS; rw [h]; simp only [if_neg hl]
set_option maxHeartbeats 1000000 in
theorem rcount_any (p : Nat) (s : RSt) (most : Nat) (hmm : most ≤ 9223372036854775807) (w : World) (h : RS w p s) :
    Calls Tryz.prog 197 #[.pointer (some ⟨p, 0, none⟩), .int .i64 (most : Int)] w fun r w' => r = .returned (.int .i64 ((countS s most).1 : Int)) ∧ RS w' p (countS s most).2 ∧ Only p w w' := by
  obtain ⟨ys, e⟩ := s
  obtain ⟨y, h⟩ := h
  have HE := Lib.hid (err_any p y ys e w h)
  have HR := Lib.hid h
  have hc0 := h.cell0
  have hc1 := h.cell1
  have hf := h.free 1
  have hll : ys.length ≤ 140737488355328 := h.le
  have hmx : ((max most 0 : Nat) : Int) = max (most : Int) 0 := by omega
  have hmx2 : max (most : Int) 0 = (most : Int) := by omega
  obtain ⟨a, c, rfl, hle⟩ := h.wide
  clear hle
  cases e with
  | some x =>
    rw [countS_bad (s := (ys, some x)) (most := most) (x := x) rfl]
    simp only [errV] at HE hc1
    go_enter Tryz.func197, Tryz.ntmps197
    go_wp2_with (go_at_call 198; (with_reducible refine HE.out.mono ?_); rintro e w2 ⟨rfl, rfl⟩)
    go_ret
    exact ⟨rfl, ⟨_, HR.out⟩, Only.refl _ _⟩
  | none =>
    simp only [errV] at HE hc1
    have HV := varint_any (.slice a ys.length c) ys most w h.in_ h.ok
    cases hx : (rdF ys most).2.2 with
    | some x =>
      have hu := uintS_bad hx
      rw [countS_bad (x := x) (by rw [hu])]
      rw [tripV_of _ _ hx] at HV
      replace HV := Lib.hid HV
      have HW := Lib.hid (h.err (some x))
      simp only [errV] at HV HW
      clear h hu
      go_enter Tryz.func197, Tryz.ntmps197
      go_wp2_with (first
        | (go_at_call 198; (with_reducible refine HE.out.mono ?_); rintro e w2 ⟨rfl, rfl⟩)
        | (go_at_call 237; (with_reducible refine HV.out.mono ?_); rintro e w2 ⟨rfl, rfl⟩))
      go_ret
      exact ⟨rfl, ⟨_, HW.out⟩, Only.setCell _ ⟨p, 1, none⟩ _⟩
    | none =>
      have hu := uintS_good hx
      have ht := take_any p _ ys none (rdF ys most).2.1 w h (rdF_ok hx).1
      have hsz := (rdF_ok hx).1
      have hn64 := (rdF_ok hx).2.1
      rw [tripV_of _ _ hx] at HV
      replace HV := Lib.hid HV
      replace ht := Lib.hid ht
      simp only [errV] at HV
      have hul : (uintS (ys, none) most).2.1.length = ys.length - (rdF ys most).2.1 := by rw [hu]; simp
      have hun : (uintS (ys, none) most).1 = (rdF ys most).1 := by rw [hu]
      have hue : (uintS (ys, none) most).2.2 = none := by rw [hu]
      by_cases hlong : (uintS (ys, none) most).2.1.length < (uintS (ys, none) most).1
      · rw [countS_long hue hlong]
        rw [hul, hun] at hlong
        have HW := Lib.hid (h.err (some 2))
        simp only [errV] at HW
        clear h hu hul hun hue ht hx
        generalize (rdF ys most).2.1 = size at *
        generalize (rdF ys most).1 = n at *
        have hgt : (((ys.length : Int) - size) < n) := by omega
        have hsz2 : (size : Int) ≤ ys.length := by omega
        go_enter Tryz.func197, Tryz.ntmps197
        go_wp2_with (first
          | (go_at_call 198; (with_reducible refine HE.out.mono ?_); rintro e w2 ⟨rfl, rfl⟩)
          | (go_at_call 237; (with_reducible refine HV.out.mono ?_); rintro e w2 ⟨rfl, rfl⟩))
        go_ret
        exact ⟨rfl, ⟨_, HW.out⟩, Only.setCell _ ⟨p, 1, none⟩ _⟩
      · rw [countS_good hue hlong]
        rw [hul, hun] at hlong
        rw [hu]
        clear h hu hul hun hue hx
        generalize (rdF ys most).2.1 = size at *
        generalize (rdF ys most).1 = n at *
        have hgt : ¬ (((ys.length : Int) - size) < n) := by omega
        have hsz2 : (size : Int) ≤ ys.length := by omega
        have hwn : IntKind.i64.wrap (n : Int) = n := by rw [IntKind.wrap_i64]; omega
        go_enter Tryz.func197, Tryz.ntmps197
        go_wp2_with (first
          | (go_at_call 198; (with_reducible refine HE.out.mono ?_); rintro e w2 ⟨rfl, rfl⟩)
          | (go_at_call 237; (with_reducible refine HV.out.mono ?_); rintro e w2 ⟨rfl, rfl⟩)
          | (go_at_call 234; (with_reducible refine ht.out.mono ?_); rintro e w3 ⟨a1, c1, y1, rfl, _, _, hr1, ho1, _⟩; replace hr1 := Lib.hid hr1; replace ho1 := Lib.hid ho1))
        go_ret
        exact ⟨rfl, ⟨_, hr1.out⟩, ho1.out⟩
end Go.Proofs.YtanekacpalpcbaaGreatDoor
