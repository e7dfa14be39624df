/- part, Text, Bytes and Hash of a Reader. -/
import Derived.Test.YtikpcfcadddplaaDoorRdr
namespace Go.Proofs.YtikpcfcadddplaaDoor
open Go.RowKit
set_option maxRecDepth 100000
/-- a length and that many bytes -/
def partS (s : RSt) (most : Int) : List Int × RSt :=
  match s.2 with
  | some _ => ([], s)
  | none =>
    if most < 0 then ([], s.1, some 1)
    else match (rdF s.1 18446744073709551615).2.2 with
      | some x => ([], s.1, some x)
      | none =>
        if most < ((rdF s.1 18446744073709551615).1 : Int) then ([], s.1, some 2)
        else if s.1.length - (rdF s.1 18446744073709551615).2.1 < (rdF s.1 18446744073709551615).1 then ([], s.1, some 12)
        else ((s.1.drop (rdF s.1 18446744073709551615).2.1).take (rdF s.1 18446744073709551615).1, (s.1.drop (rdF s.1 18446744073709551615).2.1).drop (rdF s.1 18446744073709551615).1, none)
/-- what part answers -/
def PartPost (p : Nat) (l : List Int) (s : RSt) (w : World) (r : Ending) (w' : World) : Prop :=
  ∃ v, r = .returned v ∧ BytesIn w' v l ∧ bytesOk l ∧ l.length ≤ 140737488355328 ∧ (∀ j, v.ownBlock = some j → j ≠ p) ∧ RS w' p s ∧ Only p w w'
theorem nil_in (w : World) : BytesIn w (.slice none 0 0) [] := ⟨_, _, rfl, by simp, by simp [maxLen], .inl rfl⟩
theorem partPost_nil {p : Nat} {s : RSt} {w w' : World} (h : RS w' p s) (ho : Only p w w') : PartPost p [] s w (.returned (.slice none 0 0)) w' :=
  ⟨_, rfl, nil_in w', (by intro x hx; cases hx), by simp, (fun _ h => by cases h), h, ho⟩
set_option maxRecDepth 100000 in
set_option maxHeartbeats 1000000 in
theorem part_any (p : Nat) (s : RSt) (most : Int) (w : World) (h : RS w p s) (hm0 : -9223372036854775808 ≤ most) (hm1 : most ≤ 9223372036854775807) :
    Calls Tryd.prog 23 #[.pointer (some ⟨p, 0, none⟩), .int .i64 most] w (PartPost p (partS s most).1 (partS s most).2 w) := by
  obtain ⟨ys, e⟩ := s
  obtain ⟨y, h⟩ := h
  change RAt w p y ys e at h
  have HE := Lib.hid (err_any p y ys e w h)
  have HR := Lib.hid h
  have hc0 := h.cell0
  have hc1 := h.cell1
  have hf := h.free 1
  obtain ⟨a, c, rfl, hle⟩ := h.wide
  have HLE := Lib.hid hle
  clear hle
  cases e with
  | some x =>
    simp only [partS, errV] at HE hc1 ⊢
    clear h
    go_enter Tryd.func23, Tryd.ntmps23
    go_wp2_with (go_at_call 11; (with_reducible refine HE.out.mono ?_); rintro e w2 ⟨rfl, rfl⟩)
    go_ret
    exact partPost_nil ⟨_, HR.out⟩ (Only.refl _ _)
  | none =>
    simp only [partS, errV] at HE hc1 ⊢
    by_cases hneg : most < 0
    · rw [if_pos hneg]
      have HW := Lib.hid (h.err (some 1))
      clear h
      go_enter Tryd.func23, Tryd.ntmps23
      go_wp2_with (go_at_call 11; (with_reducible refine HE.out.mono ?_); rintro e w2 ⟨rfl, rfl⟩)
      go_ret
      exact partPost_nil ⟨_, HW.out⟩ (Only.setCell _ ⟨p, 1, none⟩ _)
    · rw [if_neg hneg]
      have HV := varint_any (.slice a ys.length c) ys 18446744073709551615 w h.in_ h.ok
      rw [show ((18446744073709551615 : Nat) : Int) = 18446744073709551615 from rfl] at HV
      cases hx : (rdF ys 18446744073709551615).2.2 with
      | some x =>
        simp only
        rw [tripV_of _ _ hx] at HV
        replace HV := Lib.hid HV
        have HW := Lib.hid (h.err (some x))
        simp only [errV] at HV HW
        clear h
        go_enter Tryd.func23, Tryd.ntmps23
        go_wp2_with (first
          | (go_at_call 11; (with_reducible refine HE.out.mono ?_); rintro e w2 ⟨rfl, rfl⟩)
          | (go_at_call 21; (with_reducible refine HV.out.mono ?_); rintro e w2 ⟨rfl, rfl⟩))
        go_ret
        exact partPost_nil ⟨_, HW.out⟩ (Only.setCell _ ⟨p, 1, none⟩ _)
      | none =>
        simp only
        obtain ⟨hsz, hn64, _⟩ := rdF_ok hx
        rw [tripV_of _ _ hx] at HV
        replace HV := Lib.hid HV
        simp only [errV] at HV
        generalize hsize : (rdF ys 18446744073709551615).2.1 = size at *
        generalize hnum : (rdF ys 18446744073709551615).1 = n at *
        clear hsize hnum hx
        have hlen := h.le
        by_cases hlong : most < (n : Int)
        · rw [if_pos hlong]
          have HW := Lib.hid (h.err (some 2))
          clear h
          have hwm : IntKind.u64.wrap most = most := by rw [IntKind.wrap_u64]; omega
          go_enter Tryd.func23, Tryd.ntmps23
          go_wp2_with (first
            | (go_at_call 11; (with_reducible refine HE.out.mono ?_); rintro e w2 ⟨rfl, rfl⟩)
            | (go_at_call 21; (with_reducible refine HV.out.mono ?_); rintro e w2 ⟨rfl, rfl⟩))
          go_ret
          exact partPost_nil ⟨_, HW.out⟩ (Only.setCell _ ⟨p, 1, none⟩ _)
        · rw [if_neg hlong]
          have hwm : IntKind.u64.wrap most = most := by rw [IntKind.wrap_u64]; omega
          by_cases hend : ys.length - size < n
          · rw [if_pos hend]
            have HW := Lib.hid (h.err (some 12))
            clear h
            go_enter Tryd.func23, Tryd.ntmps23
            go_wp2_with (first
              | (go_at_call 11; (with_reducible refine HE.out.mono ?_); rintro e w2 ⟨rfl, rfl⟩)
              | (go_at_call 21; (with_reducible refine HV.out.mono ?_); rintro e w2 ⟨rfl, rfl⟩))
            go_ret
            exact partPost_nil ⟨_, HW.out⟩ (Only.setCell _ ⟨p, 1, none⟩ _)
          · rw [if_neg hend]
            have ht := take_any p _ ys none size w h hsz
            have hok := bytesOk_drop h.ok size
            have hD : n ≤ (ys.drop size).length := by rw [List.length_drop]; omega
            have hD2 : (ys.drop size).length ≤ 140737488355328 := by rw [List.length_drop]; omega
            generalize ys.drop size = D at *
            replace ht := Lib.hid ht
            replace hok := Lib.hid hok
            replace hD := Lib.hid hD
            replace hD2 := Lib.hid hD2
            have hwn : IntKind.i64.wrap (n : Int) = n := by rw [IntKind.wrap_i64]; omega
            clear h
            go_enter Tryd.func23, Tryd.ntmps23
            go_wp2_with (first
              | (go_at_call 11; (with_reducible refine HE.out.mono ?_); rintro e w2 ⟨rfl, rfl⟩)
              | (go_at_call 21; (with_reducible refine HV.out.mono ?_); rintro e w2 ⟨rfl, rfl⟩)
              | (go_at_call 22; (with_reducible refine ht.out.mono ?_); rintro e w3 ⟨a1, c1, y1, rfl, _, _, hr1, ho1, _⟩; replace hr1 := Lib.hid hr1; replace ho1 := Lib.hid ho1)
              | (go_at_call 22; (with_reducible refine (take_any p _ D none n _ hr1.out hD.out).mono ?_); rintro e w4 ⟨a2, c2, y2, rfl, hi2, hn2, hr2, ho2, _⟩; replace hr2 := Lib.hid hr2; replace ho2 := Lib.hid ho2; replace hi2 := Lib.hid hi2; replace hn2 := Lib.hid hn2))
            go_ret
            exact ⟨_, rfl, hi2.out, bytesOk_take hok.out n, by rw [List.length_take]; have := hD2.out; omega, hn2.out, ⟨_, hr2.out⟩, ho1.out.trans ho2.out⟩
theorem conv_bytes (w : World) (v : Value) (l : List Int) (h : BytesIn w v l) : (convert 22 9 v).run Tryd.prog w = .ok (.string (strOfNums l)) w := by
  obtain ⟨a, c, rfl, hc, hm, hx⟩ := h
  cases a with
  | none =>
    have hn : l = [] := by
      rcases hx with hx | ⟨_, _, h, _⟩
      · exact hx
      · cases h
    subst hn
    exact run_convert_bytes_nil w 22 5 Tryd.underlying22 Tryd.underlying5 _ _ 9 Tryd.underlying9
  | some ad =>
    rcases hx with rfl | ⟨ab, ao, e, hx1⟩
    · rw [List.length_nil, run_convert_bytes_string w 22 9 5 _ 0 c Tryd.underlying22 Tryd.underlying5 Tryd.underlying9, run_bytesToString w ad 0 c [] (run_loadCells_list (P := Tryd.prog) w ad [] (fun j v hj => by simp at hj))]
      rfl
    · injection e with e; subst e
      refine run_convert_bytes_arg w 22 5 Tryd.underlying22 Tryd.underlying5 ab ao l.length c l rfl (fun i hi => ?_) 9 Tryd.underlying9
      rw [List.getD, List.getElem?_eq_getElem hi]
      exact hx1 i _ (List.getElem?_eq_getElem hi)
theorem rtext_any (p : Nat) (s : RSt) (most : Int) (w : World) (h : RS w p s) (hm0 : -9223372036854775808 ≤ most) (hm1 : most ≤ 9223372036854775807) :
    Calls Tryd.prog 9 #[.pointer (some ⟨p, 0, none⟩), .int .i64 most] w fun r w' => r = .returned (.string (strOfNums (partS s most).1)) ∧ RS w' p (partS s most).2 ∧ Only p w w' := by
  have HP := Lib.hid (part_any p s most w h hm0 hm1)
  clear h
  go_enter Tryd.func9, Tryd.ntmps9
  go_wp2_with (go_at_call 23; (with_reducible refine HP.out.mono ?_); rintro e w2 ⟨v, rfl, hv, _, _, _, hr, ho⟩; have hcv := conv_bytes w2 v _ hv; replace hr := Lib.hid hr; replace ho := Lib.hid ho; clear hv)
  go_ret
  exact ⟨rfl, hr.out, ho.out⟩
theorem size_alloc (w : World) (o : Obj) : (w.alloc o).heap.size = w.heap.size + 1 := by simp
/-- Hash -/
def hashS (s : RSt) : (Nat → Int) × RSt :=
  match s.2 with
  | some _ => (fun _ => 0, s)
  | none => if s.1.length < 32 then (fun _ => 0, s.1, some 12) else (fun i => s.1.getD i 0, s.1.drop 32, none)
theorem hashS_err (ys : List Int) (x : Nat) : hashS (ys, some x) = (fun _ => 0, ys, some x) := rfl
theorem hashS_short {ys : List Int} (h : ys.length < 32) : hashS (ys, none) = (fun _ => 0, ys, some 12) := by unfold hashS; simp only [if_pos h]
theorem hashS_long {ys : List Int} (h : ¬ ys.length < 32) : hashS (ys, none) = (fun i => ys.getD i 0, ys.drop 32, none) := by unfold hashS; simp only [if_neg h]
theorem Only.behind {p g : Nat} {w w' : World} (h : Only p w w') (hg : w.heap.size ≤ g) (cs : Array Value) : Only p w (w'.setRow g cs) :=
  ⟨h.os, h.tape, h.output, by simp [World.setRow]; exact h.size, fun k hk hp => (setRow_other w' g k cs (by omega)).trans (h.block k hk hp)⟩
theorem wp_copy_at {P : Program} (w : World) {o : Oper} {a : Act} {K : Act → World → Prop} {Q : Exit → Act → World → Prop} (d s : Operand) (t t' : TypeId) {ty : TypeId}
    (ho : o.op = .call { callee := .builtin .copy, args := #[d, s], argTypes := #[t, t'] }) (hty : o.type = ty) (v u : Value) (hd : a.eval d = v) (hs : a.eval s = u) {v' : Value} {w' : World}
    (hr : (Builtin.copy_ #[t, t'] ty #[v, u]).run P w = .ok v' w') (h : K (a.put o.dst v') w') : o.wp P a w K Q := by
  unfold Oper.wp execOp
  simp only [ho, hty, resolve, invoke, builtin, Sem.run_bind, Sem.run_pure, Result.andThen_ok, List.map_toArray, List.map_cons, List.map_nil, hd, hs, hr]
  exact h
theorem copied32 (f : Nat → Int) (ys : List Int) (h : ¬ ys.length < 32) :
    ((rowOf .u8 32 f).toList.take 0 ++ byteVals (ys.take 32) ++ (rowOf .u8 32 f).toList.drop (0 + (byteVals (ys.take 32)).length)).toArray = rowOf .u8 32 (fun i => ys.getD i 0) := by
  have hl : (ys.take 32).length = 32 := by rw [List.length_take]; omega
  have hd : (rowOf .u8 32 f).toList.drop (0 + (byteVals (ys.take 32)).length) = [] := by
    apply List.drop_eq_nil_of_le
    rw [byteVals_length, hl, Array.length_toList, rowOf_size]; omega
  rw [hd, List.take_zero, List.nil_append, List.append_nil]
  unfold rowOf byteVals
  congr 1
  apply List.ext_getElem
  · simp only [List.length_map, List.length_range, hl]
  · intro i h1 h2
    simp only [List.length_map, hl] at h1
    have h3 : i < ys.length := by omega
    simp [List.getD, List.getElem?_eq_getElem h3]
theorem zeros32 : (#[Value.int IntKind.u8 0, Value.int IntKind.u8 0, Value.int IntKind.u8 0, Value.int IntKind.u8 0, Value.int IntKind.u8 0, Value.int IntKind.u8 0, Value.int IntKind.u8 0, Value.int IntKind.u8 0, Value.int IntKind.u8 0, Value.int IntKind.u8 0, Value.int IntKind.u8 0, Value.int IntKind.u8 0, Value.int IntKind.u8 0, Value.int IntKind.u8 0, Value.int IntKind.u8 0, Value.int IntKind.u8 0, Value.int IntKind.u8 0, Value.int IntKind.u8 0, Value.int IntKind.u8 0, Value.int IntKind.u8 0, Value.int IntKind.u8 0, Value.int IntKind.u8 0, Value.int IntKind.u8 0, Value.int IntKind.u8 0, Value.int IntKind.u8 0, Value.int IntKind.u8 0, Value.int IntKind.u8 0, Value.int IntKind.u8 0, Value.int IntKind.u8 0, Value.int IntKind.u8 0, Value.int IntKind.u8 0, Value.int IntKind.u8 0] : Array Value) = rowOf .u8 32 (fun _ => 0) := by rfl
end Go.Proofs.YtikpcfcadddplaaDoor
