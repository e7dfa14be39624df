/- Part 16 of the proof. -/
import Derived.Test.YtjnpcmfpiejmjaaGreatDoorVo10
import Derived.Test.YtjnpcmfpiejmjaaGreatDoorVo12
import Derived.Test.YtjnpcmfpiejmjaaGreatDoorVo15
namespace Go.Proofs.YtjnpcmfpiejmjaaGreatDoor
set_option linter.unusedVariables false
set_option linter.unusedSimpArgs false
open Go.RowKit
set_option maxRecDepth 100000
/-- a length and that many bytes -/
def partS (s : RSt) (most : Int) : List Int × RSt :=
  match s.2 with
  | some _ => ([], s)
  | none =>
    if most < 0 then ([], s.1, some 1)
    else match (rdF s.1 18446744073709551615).2.2 with
      | some x => ([], s.1, some x)
      | none =>
        if most < ((rdF s.1 18446744073709551615).1 : Int) then ([], s.1, some 2)
        else if s.1.length - (rdF s.1 18446744073709551615).2.1 < (rdF s.1 18446744073709551615).1 then ([], s.1, some 12)
        else ((s.1.drop (rdF s.1 18446744073709551615).2.1).take (rdF s.1 18446744073709551615).1, (s.1.drop (rdF s.1 18446744073709551615).2.1).drop (rdF s.1 18446744073709551615).1, none)
/-- what part answers -/
def PartPost (p : Nat) (l : List Int) (s : RSt) (w : World) (r : Ending) (w' : World) : Prop :=
  ∃ v, r = .returned v ∧ BytesIn w' v l ∧ bytesOk l ∧ l.length ≤ 140737488355328 ∧ (∀ j, v.ownBlock = some j → j ≠ p) ∧ RS w' p s ∧ Only p w w'
theorem partPost_nil {p : Nat} {s : RSt} {w w' : World} (h : RS w' p s) (ho : Only p w w') : PartPost p [] s w (.returned (.slice none 0 0)) w' :=
  ⟨_, rfl, nil_in w', (by intro x hx; cases hx), by simp, (fun _ h => by cases h), h, ho⟩
set_option maxRecDepth 100000 in
set_option maxHeartbeats 1000000 in
theorem part_any (p : Nat) (s : RSt) (most : Int) (w : World) (h : RS w p s) (hm0 : -9223372036854775808 ≤ most) (hm1 : most ≤ 9223372036854775807) :
    Calls Tryz.prog 184 #[.pointer (some ⟨p, 0, none⟩), .int .i64 most] w (PartPost p (partS s most).1 (partS s most).2 w) := by
  obtain ⟨ys, e⟩ := s
  obtain ⟨y, h⟩ := h
  change RAt w p y ys e at h
  have HE := Lib.hid (err_any p y ys e w h)
  have HR := Lib.hid h
  have hc0 := h.cell0
  have hc1 := h.cell1
  have hf := h.free 1
  obtain ⟨a, c, rfl, hle⟩ := h.wide
  have HLE := Lib.hid hle
  clear hle
  cases e with
  | some x =>
    simp only [partS, errV] at HE hc1 ⊢
    clear h
    go_enter Tryz.func184, Tryz.ntmps184
    go_wp2_with (go_at_call 162; (with_reducible refine HE.out.mono ?_); rintro e w2 ⟨rfl, rfl⟩)
    go_ret
    exact partPost_nil ⟨_, HR.out⟩ (Only.refl _ _)
  | none =>
    simp only [partS, errV] at HE hc1 ⊢
    by_cases hneg : most < 0
    · rw [if_pos hneg]
      have HW := Lib.hid (h.err (some 1))
      clear h
      go_enter Tryz.func184, Tryz.ntmps184
      go_wp2_with (go_at_call 162; (with_reducible refine HE.out.mono ?_); rintro e w2 ⟨rfl, rfl⟩)
      go_ret
      exact partPost_nil ⟨_, HW.out⟩ (Only.setCell _ ⟨p, 1, none⟩ _)
    · rw [if_neg hneg]
      have HV := varint_any (.slice a ys.length c) ys 18446744073709551615 w h.in_ h.ok
      rw [show ((18446744073709551615 : Nat) : Int) = 18446744073709551615 from rfl] at HV
      cases hx : (rdF ys 18446744073709551615).2.2 with
      | some x =>
        simp only
        rw [tripV_of _ _ hx] at HV
        replace HV := Lib.hid HV
        have HW := Lib.hid (h.err (some x))
        simp only [errV] at HV HW
        clear h
        go_enter Tryz.func184, Tryz.ntmps184
        go_wp2_with (first
          | (go_at_call 162; (with_reducible refine HE.out.mono ?_); rintro e w2 ⟨rfl, rfl⟩)
          | (go_at_call 185; (with_reducible refine HV.out.mono ?_); rintro e w2 ⟨rfl, rfl⟩))
        go_ret
        exact partPost_nil ⟨_, HW.out⟩ (Only.setCell _ ⟨p, 1, none⟩ _)
      | none =>
        simp only
        obtain ⟨hsz, hn64, _⟩ := rdF_ok hx
        rw [tripV_of _ _ hx] at HV
        replace HV := Lib.hid HV
        simp only [errV] at HV
        generalize hsize : (rdF ys 18446744073709551615).2.1 = size at *
        generalize hnum : (rdF ys 18446744073709551615).1 = n at *
        clear hsize hnum hx
        have hlen := h.le
        by_cases hlong : most < (n : Int)
        · rw [if_pos hlong]
          have HW := Lib.hid (h.err (some 2))
          clear h
          have hwm : IntKind.u64.wrap most = most := by rw [IntKind.wrap_u64]; omega
          go_enter Tryz.func184, Tryz.ntmps184
          go_wp2_with (first
            | (go_at_call 162; (with_reducible refine HE.out.mono ?_); rintro e w2 ⟨rfl, rfl⟩)
            | (go_at_call 185; (with_reducible refine HV.out.mono ?_); rintro e w2 ⟨rfl, rfl⟩))
          go_ret
          exact partPost_nil ⟨_, HW.out⟩ (Only.setCell _ ⟨p, 1, none⟩ _)
        · rw [if_neg hlong]
          have hwm : IntKind.u64.wrap most = most := by rw [IntKind.wrap_u64]; omega
          by_cases hend : ys.length - size < n
          · rw [if_pos hend]
            have HW := Lib.hid (h.err (some 12))
            clear h
            go_enter Tryz.func184, Tryz.ntmps184
            go_wp2_with (first
              | (go_at_call 162; (with_reducible refine HE.out.mono ?_); rintro e w2 ⟨rfl, rfl⟩)
              | (go_at_call 185; (with_reducible refine HV.out.mono ?_); rintro e w2 ⟨rfl, rfl⟩))
            go_ret
            exact partPost_nil ⟨_, HW.out⟩ (Only.setCell _ ⟨p, 1, none⟩ _)
          · rw [if_neg hend]
            have ht := take_any p _ ys none size w h hsz
            have hok := bytesOk_drop h.ok size
            have hD : n ≤ (ys.drop size).length := by rw [List.length_drop]; omega
            have hD2 : (ys.drop size).length ≤ 140737488355328 := by rw [List.length_drop]; omega
            generalize ys.drop size = D at *
            replace ht := Lib.hid ht
            replace hok := Lib.hid hok
            replace hD := Lib.hid hD
            replace hD2 := Lib.hid hD2
            have hwn : IntKind.i64.wrap (n : Int) = n := by rw [IntKind.wrap_i64]; omega
            clear h
            go_enter Tryz.func184, Tryz.ntmps184
            go_wp2_with (first
              | (go_at_call 162; (with_reducible refine HE.out.mono ?_); rintro e w2 ⟨rfl, rfl⟩)
              | (go_at_call 185; (with_reducible refine HV.out.mono ?_); rintro e w2 ⟨rfl, rfl⟩)
              | (go_at_call 183; (with_reducible refine ht.out.mono ?_); rintro e w3 ⟨a1, c1, y1, rfl, _, _, hr1, ho1, _⟩; replace hr1 := Lib.hid hr1; replace ho1 := Lib.hid ho1)
              | (go_at_call 183; (with_reducible refine (take_any p _ D none n _ hr1.out hD.out).mono ?_); rintro e w4 ⟨a2, c2, y2, rfl, hi2, hn2, hr2, ho2, _⟩; replace hr2 := Lib.hid hr2; replace ho2 := Lib.hid ho2; replace hi2 := Lib.hid hi2; replace hn2 := Lib.hid hn2))
            go_ret
            exact ⟨_, rfl, hi2.out, bytesOk_take hok.out n, by rw [List.length_take]; have := hD2.out; omega, hn2.out, ⟨_, hr2.out⟩, ho1.out.trans ho2.out⟩
theorem rtext_any (p : Nat) (s : RSt) (most : Int) (w : World) (h : RS w p s) (hm0 : -9223372036854775808 ≤ most) (hm1 : most ≤ 9223372036854775807) :
    Calls Tryz.prog 157 #[.pointer (some ⟨p, 0, none⟩), .int .i64 most] w fun r w' => r = .returned (.string (strOfNums (partS s most).1)) ∧ RS w' p (partS s most).2 ∧ Only p w w' := by
  have HP := Lib.hid (part_any p s most w h hm0 hm1)
  clear h
  go_enter Tryz.func157, Tryz.ntmps157
  go_wp2_with (go_at_call 184; (with_reducible refine HP.out.mono ?_); rintro e w2 ⟨v, rfl, hv, _, _, _, hr, ho⟩; have hcv := conv_bytes w2 v _ hv; replace hr := Lib.hid hr; replace ho := Lib.hid ho; clear hv)
  go_ret
  exact ⟨rfl, hr.out, ho.out⟩
theorem rbytes_any (p : Nat) (s : RSt) (most : Int) (w : World) (h : RS w p s) (hm0 : -9223372036854775808 ≤ most) (hm1 : most ≤ 9223372036854775807) :
    Calls Tryz.prog 155 #[.pointer (some ⟨p, 0, none⟩), .int .i64 most] w fun r w' => ∃ v, r = .returned v ∧ BytesIn w' v (partS s most).1 ∧ (∀ j, v.ownBlock = some j → w.heap.size ≤ j) ∧ RS w' p (partS s most).2 ∧ Only p w w' := by
  have HP := Lib.hid (part_any p s most w h hm0 hm1)
  clear h
  go_enter Tryz.func155, Tryz.ntmps155
  go_wp2_with (first
    | (go_at_call 184; (with_reducible refine HP.out.mono ?_); rintro e w2 ⟨v, rfl, hv, _, hl, _, hr, ho⟩; replace hr := Lib.hid hr; replace ho := Lib.hid ho; replace hl := Lib.hid hl; have hcl := Lib.hid (clone_any v _ w2 hv hl.out); clear hv)
    | (go_at_call 146; (with_reducible refine hcl.out.mono ?_); rintro e w3 ⟨v3, rfl, h3, hb⟩; replace h3 := Lib.hid h3; replace hb := Lib.hid hb))
  go_ret
  obtain ⟨y, hy⟩ := hr.out
  exact ⟨_, rfl, owns_in h3.out (by have := hl.out; unfold maxLen; omega), fun j hj => Nat.le_trans ho.out.size (h3.out.lt j hj).1, ⟨y, hy.below hb.out⟩, ho.out.trans (Only.of_below hb.out)⟩
/-- Hash -/
def hashS (s : RSt) : (Nat → Int) × RSt :=
  match s.2 with
  | some _ => (fun _ => 0, s)
  | none => if s.1.length < 32 then (fun _ => 0, s.1, some 12) else (fun i => s.1.getD i 0, s.1.drop 32, none)
theorem hashS_err (ys : List Int) (x : Nat) : hashS (ys, some x) = (fun _ => 0, ys, some x) := rfl
theorem hashS_short {ys : List Int} (h : ys.length < 32) : hashS (ys, none) = (fun _ => 0, ys, some 12) := by unfold hashS; simp only [if_pos h]
theorem hashS_long {ys : List Int} (h : ¬ ys.length < 32) : hashS (ys, none) = (fun i => ys.getD i 0, ys.drop 32, none) := by unfold hashS; simp only [if_neg h]
theorem Only.behind {p g : Nat} {w w' : World} (h : Only p w w') (hg : w.heap.size ≤ g) (cs : Array Value) : Only p w (w'.setRow g cs) :=
  ⟨h.os, h.tape, h.output, by simp [World.setRow]; exact h.size, fun k hk hp => (setRow_other w' g k cs (by omega)).trans (h.block k hk hp)⟩
theorem wp_copy_at {P : Program} (w : World) {o : Oper} {a : Act} {K : Act → World → Prop} {Q : Exit → Act → World → Prop} (d s : Operand) (t t' : TypeId) {ty : TypeId}
    (ho : o.op = .call { callee := .builtin .copy, args := #[d, s], argTypes := #[t, t'] }) (hty : o.type = ty) (v u : Value) (hd : a.eval d = v) (hs : a.eval s = u) {v' : Value} {w' : World}
    (hr : (Builtin.copy_ #[t, t'] ty #[v, u]).run P w = .ok v' w') (h : K (a.put o.dst v') w') : o.wp P a w K Q := by
  unfold Oper.wp execOp
  simp only [ho, hty, resolve, invoke, builtin, Sem.run_bind, Sem.run_pure, Result.andThen_ok, List.map_toArray, List.map_cons, List.map_nil, hd, hs, hr]
  exact h
theorem copied32 (f : Nat → Int) (ys : List Int) (h : ¬ ys.length < 32) :
    ((rowOf .u8 32 f).toList.take 0 ++ byteVals (ys.take 32) ++ (rowOf .u8 32 f).toList.drop (0 + (byteVals (ys.take 32)).length)).toArray = rowOf .u8 32 (fun i => ys.getD i 0) := by
  have hl : (ys.take 32).length = 32 := by rw [List.length_take]; omega
  have hd : (rowOf .u8 32 f).toList.drop (0 + (byteVals (ys.take 32)).length) = [] := by
    apply List.drop_eq_nil_of_le
    rw [byteVals_length, hl, Array.length_toList, rowOf_size]; omega
  rw [hd, List.take_zero, List.nil_append, List.append_nil]
  unfold rowOf byteVals
  congr 1
  apply List.ext_getElem
  · simp only [List.length_map, List.length_range, hl]
  · intro i h1 h2
    simp only [List.length_map, hl] at h1
    have h3 : i < ys.length := by omega
    simp [List.getD, List.getElem?_eq_getElem h3]
theorem zerosPk : (#[Value.int IntKind.u8 0, Value.int IntKind.u8 0, Value.int IntKind.u8 0, Value.int IntKind.u8 0, Value.int IntKind.u8 0, Value.int IntKind.u8 0, Value.int IntKind.u8 0, Value.int IntKind.u8 0, Value.int IntKind.u8 0, Value.int IntKind.u8 0, Value.int IntKind.u8 0, Value.int IntKind.u8 0, Value.int IntKind.u8 0, Value.int IntKind.u8 0, Value.int IntKind.u8 0, Value.int IntKind.u8 0, Value.int IntKind.u8 0, Value.int IntKind.u8 0, Value.int IntKind.u8 0, Value.int IntKind.u8 0, Value.int IntKind.u8 0, Value.int IntKind.u8 0, Value.int IntKind.u8 0, Value.int IntKind.u8 0, Value.int IntKind.u8 0, Value.int IntKind.u8 0, Value.int IntKind.u8 0, Value.int IntKind.u8 0, Value.int IntKind.u8 0, Value.int IntKind.u8 0, Value.int IntKind.u8 0, Value.int IntKind.u8 0] : Array Value) = rowOf .u8 32 (fun _ => 0) := by rfl
set_option maxRecDepth 100000 in
set_option maxHeartbeats 1000000 in
theorem rhash_any (p : Nat) (s : RSt) (w : World) (h : RS w p s) :
    Calls Tryz.prog 154 #[.pointer (some ⟨p, 0, none⟩)] w fun r w' => r = .returned (.agg (rowOf .u8 32 (hashS s).1)) ∧ RS w' p (hashS s).2 ∧ Only p w w' := by
  obtain ⟨ys, e⟩ := s
  obtain ⟨y, h⟩ := h
  change RAt w p y ys e at h
  have HB := Lib.hid ((below_alloc w (.cells (rowOf .u8 32 (fun _ => 0)) 32)).trans ((below_alloc (w.alloc (.cells (rowOf .u8 32 (fun _ => 0)) 32)) (.cells (rowOf .u8 32 (fun _ => 0)) 32)).mono (by simp)))
  have HR := h.below HB.out
  have HQ1 := (RowAt.new w .u8 32 32 (fun _ => 0)).alloc (.cells (rowOf .u8 32 (fun _ => 0)) 32)
  have HQ2 := RowAt.new (w.alloc (.cells (rowOf .u8 32 (fun _ => 0)) 32)) .u8 32 32 (fun _ => 0)
  rw [size_alloc] at HQ2
  have HP : p < w.heap.size := h.lt
  have H0 := Lib.hid h
  replace HR := Lib.hid HR
  replace HQ1 := Lib.hid HQ1
  replace HQ2 := Lib.hid HQ2
  clear h
  go_enter Tryz.func154, Tryz.ntmps154
  go_upto_region 2 with (fail)
  rw [zerosPk]
  generalize (w.alloc (.cells (rowOf .u8 32 (fun _ => 0)) 32)).alloc (.cells (rowOf .u8 32 (fun _ => 0)) 32) = w1 at *
  have HE := Lib.hid (err_any p y ys e w1 HR.out)
  have hc0 := HR.out.cell0
  have hc1 := HR.out.cell1
  have hf := HR.out.free 1
  obtain ⟨a, c, rfl, hle⟩ := HR.out.wide
  have HLE := Lib.hid hle
  clear hle
  cases e with
  | some x =>
    simp only [errV] at HE hc1
    go_wp2_with (first
      | (go_at_call 162; (with_reducible refine HE.out.mono ?_); rintro e w2 ⟨rfl, rfl⟩)
      | (refine wpList_load_row rfl 32 (.tmp 3) rfl (w.heap.size + 1) rfl 32 _ (0, 0) _ HQ2.out Tryz.underlying32 rfl (by rw [rowOf_size]; kernel_rfl) ?_)
      | (refine wpList_store_row rfl 32 (.tmp 2) (.tmp 7) rfl w.heap.size _ rfl rfl 32 _ HQ1.out (by rw [rowOf_size]; kernel_rfl) (by simp only [rowOf_size]) (rowOf_one _ _ _) ?_))
    refine bodyPost_ret (results_cell_row rfl _ _ w.heap.size 32 (rowOf .u8 32 (fun _ => 0)) (0, 0) _ rfl (setRow_heap _ _ _ _ _ _ HQ1.out) Tryz.underlying32 rfl (by rw [rowOf_size]; kernel_rfl)) rfl ?_
    rw [hashS_err]
    exact ⟨rfl, ⟨_, H0.out.below (below_setRow HB.out (Nat.le_refl _) _)⟩, Only.of_below (below_setRow HB.out (Nat.le_refl _) _)⟩
  | none =>
    simp only [errV] at HE hc1
    by_cases hs : ys.length < 32
    · have HS := Lib.hid (hashS_short hs)
      have hs1 : (ys.length : Int) < 32 := by omega
      have HW := Lib.hid (HR.out.err (some 12))
      have HQ2' := Lib.hid (HQ2.out.other ⟨p, 1, none⟩ (errV (some 12)) (show w.heap.size + 1 ≠ p by omega))
      have HQ1' := Lib.hid (HQ1.out.other ⟨p, 1, none⟩ (errV (some 12)) (show w.heap.size ≠ p by omega))
      have HO := Lib.hid ((Only.of_below HB.out).trans (Only.setCell w1 ⟨p, 1, none⟩ (errV (some 12))))
      simp only [errV] at HW HQ1' HQ2' HO
      clear HQ1 HQ2
      go_wp2_with (first
        | (go_at_call 162; (with_reducible refine HE.out.mono ?_); rintro e w2 ⟨rfl, rfl⟩)
        | (refine wpList_load_row rfl 32 (.tmp 3) rfl (w.heap.size + 1) rfl 32 _ (0, 0) _ HQ2'.out Tryz.underlying32 rfl (by rw [rowOf_size]; kernel_rfl) ?_)
        | (refine wpList_store_row rfl 32 (.tmp 2) (.tmp 18) rfl w.heap.size _ rfl rfl 32 _ HQ1'.out (by rw [rowOf_size]; kernel_rfl) (by simp only [rowOf_size]) (rowOf_one _ _ _) ?_))
      refine bodyPost_ret (results_cell_row rfl _ _ w.heap.size 32 (rowOf .u8 32 (fun _ => 0)) (0, 0) _ rfl (setRow_heap _ _ _ _ _ _ HQ1'.out) Tryz.underlying32 rfl (by rw [rowOf_size]; kernel_rfl)) rfl ?_
      rw [HS.out]
      refine ⟨rfl, ⟨_, HW.out.keep (setRow_other _ _ _ _ (by omega)) fun hn k hk => setRow_other _ _ _ _ ?_⟩, HO.out.behind (Nat.le_refl _) _⟩
      have := H0.out.own_lt hn k hk; omega
    · have hs1 : ¬ (ys.length : Int) < 32 := by omega
      have HS := Lib.hid (hashS_long hs)
      go_upto_region 7 with (go_at_call 162; (with_reducible refine HE.out.mono ?_); rintro e w2 ⟨rfl, rfl⟩)
      obtain ⟨w3, hw3⟩ : ∃ w3, w3 = w2.drew := ⟨_, rfl⟩
      have HR3 := Lib.hid (show RAt w3 p (.slice a ys.length c) ys none by rw [hw3]; exact HR.out.keep rfl fun _ _ _ => rfl)
      have HQ13 := Lib.hid (show RowAt w3 w.heap.size .u8 32 32 (fun _ => 0) by rw [hw3]; exact HQ1.out)
      have HQ23 := Lib.hid (show RowAt w3 (w.heap.size + 1) .u8 32 32 (fun _ => 0) by rw [hw3]; exact HQ2.out)
      have HO3 := Lib.hid (show Only p w w3 by rw [hw3]; exact (Only.of_below HB.out).trans (Only.drew _ _))
      refine wp_region_any (by kernel_rfl) ?_
      change wpAny _ _ _ _ _ _ _ w2.drew
      rw [← hw3]
      clear hw3
      refine wpAny_take (i := 0) (v := .slice (some ⟨w.heap.size + 1, 0, none⟩) 32 32) rfl (by kernel_rfl) (by kernel_rfl) (by kernel_rfl) (fun _ _ _ h => h) (Or.inl ⟨by rfl, by intro w; go_simp⟩) ?_
      try simp only [List.getElem_toArray, List.getElem_cons_zero, Act.put, List.setIfInBounds_toArray, List.set_cons_zero, List.set_cons_succ]
      refine wpAny_take (i := 1) (v := .pointer (some ⟨p, 0, none⟩)) rfl (by kernel_rfl) (by kernel_rfl) (by kernel_rfl) (fun _ _ _ h => h) (Or.inl ⟨by rfl, by intro w; go_simp⟩) ?_
      try simp only [List.getElem_toArray, List.getElem_cons_succ, List.getElem_cons_zero, Act.put, List.setIfInBounds_toArray, List.set_cons_zero, List.set_cons_succ]
      refine wpAny_ready (rs := [2]) (by kernel_rfl) (by simp) ?_; refine AllReady.cons rfl (fun K hK => ?_) AllReady.nil; rw [if_pos (by rfl)]
      try simp only [List.getElem_toArray, List.getElem_cons_succ, List.getElem_cons_zero]
      go_simp
      have ht := take_any p _ ys none 32 w3 HR3.out (by omega)
      rw [show ((32 : Nat) : Int) = 32 from rfl] at ht
      refine ht.mono ?_
      rintro e w4 ⟨a1, c1, y1, rfl, hi1, hn1, hr1, ho1, hy1⟩
      have hl32 : (ys.take 32).length = 32 := by rw [List.length_take]; omega
      obtain ⟨a1', c1', e1, _, _, hx1⟩ := hi1
      rw [hl32] at e1
      injection e1 with e1 _ e3
      subst e1 e3
      obtain ⟨ab, ao, rfl, hx2⟩ := hx1.resolve_left (by intro h0; rw [h0] at hl32; simp at hl32)
      clear hx1 hn1
      refine hK _ _ ?_
      clear hK K
      try simp only [List.getElem_toArray, List.getElem_cons_succ, List.getElem_cons_zero, Act.put, List.setIfInBounds_toArray, List.set_cons_zero, List.set_cons_succ]
      refine wpAny_ready (rs := [3]) (by kernel_rfl) (by simp) ?_; refine AllReady.cons rfl (fun K hK => ?_) AllReady.nil; rw [if_pos (by rfl)]
      try simp only [List.getElem_toArray, List.getElem_cons_succ, List.getElem_cons_zero]
      have hq4 : RowAt w4 (w.heap.size + 1) .u8 32 32 (fun _ => 0) := (ho1.block _ HQ23.out.lt (by omega)).trans HQ23.out
      have hq5 : RowAt w4 w.heap.size .u8 32 32 (fun _ => 0) := (ho1.block _ HQ13.out.lt (by omega)).trans HQ13.out
      have hcp := run_copy_row (P := Tryz.prog) w4 23 23 3 5 (w.heap.size + 1) 0 32 32 ⟨ab, ao, none⟩ 32 c1 _ 32 (byteVals (ys.take 32)) Tryz.underlying23 (by kernel_rfl) hq4 (by rw [byteVals_length, hl32]; rfl) (fun j v hv => by
          rw [Addr.add_mid]
          simp only [byteVals, List.getElem?_map] at hv
          cases hj : (ys.take 32)[j]? with
          | none => rw [hj] at hv; cases hv
          | some x => rw [hj] at hv; cases hv; exact hx2 j x hj) (by rw [byteVals_length, hl32, rowOf_size]; omega) (byteVals_one _)
      rw [copied32 _ ys hs] at hcp
      have HQ2 : Hid (RowAt (w4.setRow (w.heap.size + 1) (rowOf .u8 32 (fun i => ys.getD i 0))) (w.heap.size + 1) .u8 32 32 (fun i => ys.getD i 0)) := Lib.hid (setRow_heap _ _ _ _ _ _ hq4)
      have HQ1 : Hid (RowAt (w4.setRow (w.heap.size + 1) (rowOf .u8 32 (fun i => ys.getD i 0))) w.heap.size .u8 32 32 (fun _ => 0)) := Lib.hid ((setRow_other _ _ _ _ (by omega)).trans hq5)
      have hne : ∀ g, w.heap.size ≤ g → ys.drop 32 ≠ [] → ∀ k, y1.ownBlock = some k → k ≠ g := fun g hg hn k hk => by
        rw [hy1] at hk
        have := H0.out.own_lt (by rintro rfl; simp at hn) k hk
        omega
      have HW := Lib.hid (show RAt (w4.setRow (w.heap.size + 1) (rowOf .u8 32 (fun i => ys.getD i 0))) p y1 (ys.drop 32) none from
        hr1.keep (setRow_other _ _ _ _ (by omega)) fun hn k hk => setRow_other _ _ _ _ (hne _ (Nat.le_succ _) hn k hk))
      have HO := Lib.hid ((HO3.out.trans ho1).behind (g := w.heap.size + 1) (Nat.le_succ _) (rowOf .u8 32 (fun i => ys.getD i 0)))
      refine wp_copy_at w4 (.tmp 19) (.tmp 21) 23 23 rfl rfl _ _ rfl rfl hcp ?_
      clear hcp hq4 hq5 hr1 ho1 hx2 HQ13 HQ23 HR3 HO3 ht
      generalize w4.setRow (w.heap.size + 1) (rowOf .u8 32 (fun i => ys.getD i 0)) = w5 at *
      refine hK _ _ ?_
      clear hK K
      try simp only [Act.put, List.setIfInBounds_toArray, List.set_cons_zero, List.set_cons_succ]
      refine wpAny_done (by kernel_rfl) ?_ _
      go_wp2_with (first
        | (refine wpList_load_row rfl 32 (.tmp 3) rfl (w.heap.size + 1) rfl 32 _ (0, 0) _ HQ2.out Tryz.underlying32 rfl (by rw [rowOf_size]; kernel_rfl) ?_)
        | (refine wpList_store_row rfl 32 (.tmp 2) (.tmp 23) rfl w.heap.size _ rfl rfl 32 _ HQ1.out (by rw [rowOf_size]; kernel_rfl) (by simp only [rowOf_size]) (rowOf_one _ _ _) ?_))
      refine bodyPost_ret (results_cell_row rfl _ _ w.heap.size 32 (rowOf .u8 32 (fun i => ys.getD i 0)) (0, 0) _ rfl (setRow_heap _ _ _ _ _ _ HQ1.out) Tryz.underlying32 rfl (by rw [rowOf_size]; kernel_rfl)) rfl ?_
      rw [HS.out]
      exact ⟨rfl, ⟨_, HW.out.keep (setRow_other _ _ _ _ (by omega)) fun hn k hk => setRow_other _ _ _ _ (hne _ (Nat.le_refl _) hn k hk)⟩, HO.out.behind (Nat.le_refl _) _⟩
#print axioms rhash_any
end Go.Proofs.YtjnpcmfpiejmjaaGreatDoor
namespace Go.Proofs.YtjnpcmfpiejmjaaGreatDoor
set_option linter.unusedVariables false
set_option linter.unusedSimpArgs false
theorem getD_varint (n i : Nat) (r : List Int) (h : i < glen n) : (varint n ++ r).getD i 0 = ((gby n i : Nat) : Int) := by
  simp [List.getD, List.getElem?_append_left (by rw [varint_length]; exact h : i < (varint n).length), varint_get h]
theorem rdFrom_varint (n most : Nat) (r : List Int) (hn : n < 18446744073709551616) : ∀ (d i k : Nat), i + d + 1 = glen n → d < k →
    rdFrom (varint n ++ r) most k i = if most < n then (0, 0, some 4) else (n, glen n, none) := by
  intro d
  induction d with
  | zero =>
    intro i k h hk
    obtain ⟨k, rfl⟩ : ∃ j, k = j + 1 := ⟨k - 1, by omega⟩
    have hl := gby_last (by omega : i + 1 = glen n)
    rw [rdFrom, getD_varint n i r (by omega), if_pos (by omega), Int.toNat_natCast, show i + 1 = glen n by omega, accF_varint n r hn (glen n) (Nat.le_refl _), mod_glen]
    unfold chk
    rw [if_neg]
    rintro (⟨h1, h2⟩ | ⟨h1, h2⟩)
    · rw [hl.1] at h2
      have h3 := glen_lo n (i - 1) (by omega)
      obtain ⟨j, rfl⟩ : ∃ j, i = j + 1 := ⟨i - 1, by omega⟩
      rw [Nat.add_sub_cancel] at h3
      rw [div_pow_step] at h2
      omega
    · rw [hl.1, show i = 9 by omega] at h2
      have e : (128 : Nat) ^ 9 = 9223372036854775808 := by decide
      rw [e] at h2
      omega
  | succ d ih =>
    intro i k h hk
    obtain ⟨k, rfl⟩ : ∃ j, k = j + 1 := ⟨k - 1, by omega⟩
    have hm := gby_more (by omega : i + 1 < glen n)
    rw [rdFrom, getD_varint n i r (by omega), if_neg (by omega)]
    exact ih (i + 1) k (by omega) (by omega)
theorem rdF_varint (n most : Nat) (r : List Int) (hn : n < 18446744073709551616) : rdF (varint n ++ r) most = if most < n then (0, 0, some 4) else (n, glen n, none) := by
  have h1 := glen_pos n
  have h2 := glen_le hn
  unfold rdF
  exact rdFrom_varint n most r hn (glen n - 1) 0 _ (by omega) (by rw [List.length_append, varint_length]; omega)
theorem drop_varint (n : Nat) (r : List Int) : (varint n ++ r).drop (glen n) = r := by rw [← varint_length n]; exact List.drop_left
theorem uintS_varint (n most : Nat) (r : List Int) (hn : n < 18446744073709551616) (hm : n ≤ most) : uintS (varint n ++ r, none) most = (n, r, none) := by
  have h := rdF_varint n most r hn
  rw [if_neg (by omega)] at h
  rw [uintS_good (by rw [h]), h]
  show (n, (varint n ++ r).drop (glen n), none) = _
  rw [drop_varint]
theorem uintS_great (n most : Nat) (r : List Int) (hn : n < 18446744073709551616) (hm : most < n) : uintS (varint n ++ r, none) most = (0, varint n ++ r, some 4) := by
  have h := rdF_varint n most r hn
  rw [if_pos hm] at h
  exact uintS_bad (by rw [h])
theorem intS_varint (i : Int) (r : List Int) (h0 : -9223372036854775808 ≤ i) (h1 : i ≤ 9223372036854775807) : intS (varint (zig i) ++ r, none) = (i, r, none) := by
  have hz := zig_lt h0 h1
  unfold intS
  rw [uintS_varint (zig i) 18446744073709551615 r hz (by omega)]
  simp only [unzig_zig]
theorem boolS_truth (b : Bool) (r : List Int) : boolS (truthB b ++ r, none) = (b, r, none) := by
  cases b <;> rfl
theorem partS_bytes (l r : List Int) (most : Int) (hl : l.length < 18446744073709551616) (h0 : 0 ≤ most) (hm : (l.length : Int) ≤ most) : partS (varint l.length ++ (l ++ r), none) most = (l, r, none) := by
  have h := rdF_varint l.length 18446744073709551615 (l ++ r) hl
  rw [if_neg (by omega)] at h
  unfold partS
  simp only [h]
  rw [if_neg (by omega), if_neg (by omega), if_neg (by rw [List.length_append, List.length_append, varint_length]; omega), drop_varint, List.take_left, List.drop_left]
theorem hashS_row (f : Nat → Int) (r : List Int) : (hashS (rowL 32 f ++ r, none)).2 = (r, none) ∧ rowOf .u8 32 (hashS (rowL 32 f ++ r, none)).1 = rowOf .u8 32 f := by
  rw [hashS_long (by rw [List.length_append, rowL_length]; omega)]
  refine ⟨?_, rowOf_congr _ _ _ _ fun i hi => ?_⟩
  · show ((rowL 32 f ++ r).drop 32, none) = _
    have h32 : (rowL 32 f ++ r).drop (rowL 32 f).length = r := List.drop_left
    rw [rowL_length] at h32
    rw [h32]
  · show (rowL 32 f ++ r).getD i 0 = f i
    rw [List.getD, List.getElem?_append_left (by rw [rowL_length]; exact hi), rowL, List.getElem?_map, List.getElem?_range hi]
    rfl
end Go.Proofs.YtjnpcmfpiejmjaaGreatDoor
namespace Go.Proofs.YtjnpcmfpiejmjaaGreatDoor
set_option linter.unusedVariables false
set_option linter.unusedSimpArgs false
open Go.RowKit
set_option maxRecDepth 100000
/-- equal in the first 32 places -/
def E32 (p q : Nat → Int) : Prop := ∀ j, j < 32 → p j = q j
theorem E32.bytes {p q : Nat → Int} (h : E32 p q) : bytesOf p = bytesOf q := by
  unfold bytesOf
  exact List.map_congr_left fun j hj => h j (List.mem_range.1 hj)
theorem E32.rowL {p q : Nat → Int} (h : E32 p q) : rowL 32 p = rowL 32 q := rowL_congr h
theorem E32.node1 {p q s : Nat → Int} (h : E32 p q) : nodeF p s = nodeF q s := by unfold nodeF; rw [h.bytes]
theorem E32.node2 {p q s : Nat → Int} (h : E32 p q) : nodeF s p = nodeF s q := by unfold nodeF; rw [h.bytes]
theorem E32.step {p q s : Nat → Int} {b : Bool} (h : E32 p q) : foldStep s (b, p) = foldStep s (b, q) := by
  unfold foldStep
  cases b
  · exact h.node2
  · exact h.node1
inductive All32 : List (Nat → Int) → List (Nat → Int) → Prop
  | nil : All32 [] []
  | cons {p q : Nat → Int} {ps qs : List (Nat → Int)} : E32 p q → All32 ps qs → All32 (p :: ps) (q :: qs)
theorem All32.length {ps qs : List (Nat → Int)} (h : All32 ps qs) : ps.length = qs.length := by
  induction h with
  | nil => rfl
  | cons _ _ ih => simp [ih]
theorem All32.snoc {ps qs : List (Nat → Int)} {p q : Nat → Int} (h : All32 ps qs) (e : E32 p q) : All32 (ps ++ [p]) (qs ++ [q]) := by
  induction h with
  | nil => exact .cons e .nil
  | cons e' _ ih => exact .cons e' ih
theorem All32.refl : ∀ ps : List (Nat → Int), All32 ps ps
  | [] => .nil
  | _ :: r => .cons (fun _ _ => rfl) (All32.refl r)
theorem All32.fold {ps qs : List (Nat → Int)} (h : All32 ps qs) : ∀ (ts : List Bool) (s : Nat → Int), foldT s (ts.zip ps) = foldT s (ts.zip qs) := by
  induction h with
  | nil => intro ts s; rfl
  | cons e _ ih =>
    intro ts s
    cases ts with
    | nil => rfl
    | cons b ts =>
      show foldT (foldStep s (b, _)) (ts.zip _) = foldT (foldStep s (b, _)) (ts.zip _)
      rw [e.step, ih]
def pathL : List (Nat → Int) → List Int
  | [] => []
  | p :: r => rowL 32 p ++ pathL r
theorem pathL_snoc (ps : List (Nat → Int)) (p : Nat → Int) : pathL (ps ++ [p]) = pathL ps ++ rowL 32 p := by
  induction ps with
  | nil => simp [pathL]
  | cons q r ih => simp only [List.cons_append, pathL, ih, List.append_assoc]
theorem pathL_length : ∀ ps, (pathL ps).length = 32 * ps.length
  | [] => rfl
  | p :: r => by simp only [pathL, List.length_append, rowL_length, pathL_length r, List.length_cons]; omega
/-- the bytes of a signature -/
def encF (leaf : Nat) (once : List Int) (ps : List (Nat → Int)) : List Int := varint leaf ++ (varint once.length ++ once) ++ varint ps.length ++ pathL ps
def hashesS (s : RSt) : Nat → List (Nat → Int) × RSt
  | 0 => ([], s)
  | k + 1 => ((hashesS s k).1 ++ [(hashS (hashesS s k).2).1], (hashS (hashesS s k).2).2)
theorem hashesS_length (s : RSt) : ∀ k, (hashesS s k).1.length = k
  | 0 => rfl
  | k + 1 => by simp [hashesS, hashesS_length s k]
structure Sg where
  leaf : Nat
  once : List Int
  path : List (Nat → Int)
def zSg : Sg := ⟨0, [], []⟩
def sA (xs : List Int) := uintS (xs, none) 1023
def sB (xs : List Int) := partS (sA xs).2 4096
def sC (xs : List Int) := uintS (sB xs).2 10
def sD (xs : List Int) := hashesS (sC xs).2 (sC xs).1
/-- the parts of bytes, or the error -/
def decS (xs : List Int) : Sg × Option Nat := if doneE (sD xs).2 = none then (⟨(sA xs).1, (sB xs).1, (sD xs).1⟩, none) else (zSg, some 3)
theorem hashS_rowE (p : Nat → Int) (r : List Int) : E32 (hashS (rowL 32 p ++ r, none)).1 p ∧ (hashS (rowL 32 p ++ r, none)).2 = (r, none) := by
  have hl : ¬ (rowL 32 p ++ r).length < 32 := by rw [List.length_append, rowL_length]; omega
  rw [hashS_long hl]
  refine ⟨fun j hj => ?_, ?_⟩
  · show (rowL 32 p ++ r).getD j 0 = p j
    rw [List.getD_eq_getElem?_getD, List.getElem?_append_left (by rw [rowL_length]; exact hj)]
    simp [rowL, hj]
  · show ((rowL 32 p ++ r).drop 32, (none : Option Nat)) = (r, none)
    rw [List.drop_left' (rowL_length 32 p)]
theorem hashesS_path (ps : List (Nat → Int)) : ∀ k, k ≤ ps.length → All32 (hashesS (pathL ps, none) k).1 (ps.take k) ∧ (hashesS (pathL ps, none) k).2 = (pathL (ps.drop k), none)
  | 0, _ => ⟨.nil, rfl⟩
  | k + 1, h => by
    obtain ⟨h1, h2⟩ := hashesS_path ps k (by omega)
    have hk : k < ps.length := by omega
    have e : ps.drop k = ps[k] :: ps.drop (k + 1) := List.drop_eq_getElem_cons hk
    have e2 : ps.take (k + 1) = ps.take k ++ [ps[k]] := by rw [List.take_succ_eq_append_getElem hk]
    obtain ⟨h3, h4⟩ := hashS_rowE ps[k] (pathL (ps.drop (k + 1)))
    have e3 : (hashesS (pathL ps, none) k).2 = (rowL 32 ps[k] ++ pathL (ps.drop (k + 1)), none) := by rw [h2, e]; rfl
    refine ⟨?_, ?_⟩
    · show All32 ((hashesS (pathL ps, none) k).1 ++ [(hashS (hashesS (pathL ps, none) k).2).1]) _
      rw [e2, e3]; exact h1.snoc h3
    · show (hashS (hashesS (pathL ps, none) k).2).2 = _
      rw [e3]; exact h4
theorem decS_encF (leaf : Nat) (once : List Int) (ps : List (Nat → Int)) (h1 : leaf ≤ 1023) (h2 : once.length ≤ 4096) (h3 : ps.length ≤ 10) :
    ∃ ps', decS (encF leaf once ps) = (⟨leaf, once, ps'⟩, none) ∧ All32 ps' ps := by
  have hA : sA (encF leaf once ps) = (leaf, (varint once.length ++ (once ++ (varint ps.length ++ pathL ps))), none) := by
    unfold sA encF
    rw [List.append_assoc, List.append_assoc, uintS_varint leaf 1023 _ (by omega) h1, List.append_assoc]
  have hB : sB (encF leaf once ps) = (once, varint ps.length ++ pathL ps, none) := by
    unfold sB
    rw [hA]
    exact partS_bytes once _ 4096 (by omega) (by omega) (by omega)
  have hC : sC (encF leaf once ps) = (ps.length, pathL ps, none) := by
    unfold sC
    rw [hB]
    exact uintS_varint ps.length 10 _ (by omega) h3
  obtain ⟨h4, h5⟩ := hashesS_path ps ps.length (Nat.le_refl _)
  rw [List.take_length] at h4
  rw [List.drop_length] at h5
  have hD : sD (encF leaf once ps) = hashesS (pathL ps, none) ps.length := by unfold sD; rw [hC]
  refine ⟨(hashesS (pathL ps, none) ps.length).1, ?_, h4⟩
  unfold decS
  rw [hA, hB, hD, h5]
  rfl
end Go.Proofs.YtjnpcmfpiejmjaaGreatDoor
