/- Part 12 of the proof. -/
import Derived.Test.YteokgklfljhcaaaGreatDoorSe1
import Derived.Test.YteokgklfljhcaaaGreatDoorSe2
import Derived.Test.YteokgklfljhcaaaGreatDoorSe3
import Derived.Test.YteokgklfljhcaaaGreatDoorSe4
import Derived.Test.YteokgklfljhcaaaGreatDoorSe11
namespace Go.Proofs.YteokgklfljhcaaaGreatDoor
set_option linter.unusedVariables false
set_option linter.unusedSimpArgs false
open Go.RowKit
set_option maxRecDepth 100000
def PartPostO (p : Nat) (ob : Option Nat) (l : List Int) (s : RSt) (w : World) (r : Ending) (w' : World) : Prop :=
  ∃ v, r = .returned v ∧ BytesIn w' v l ∧ bytesOk l ∧ l.length ≤ 140737488355328 ∧ (∀ j, v.ownBlock = some j → j ≠ p) ∧ RO w' p ob s ∧ Only p w w'
theorem partPostO_nil {p : Nat} {ob : Option Nat} {s : RSt} {w w' : World} (h : RO w' p ob s) (ho : Only p w w') : PartPostO p ob [] s w (.returned (.slice none 0 0)) w' :=
  ⟨_, rfl, nil_in w', (by intro x hx; cases hx), by simp, (fun _ h => by cases h), h, ho⟩
set_option maxHeartbeats 1000000 in
theorem partO_any (p : Nat) (ob : Option Nat) (s : RSt) (most : Int) (w : World) (h : RO w p ob s) (hm0 : -9223372036854775808 ≤ most) (hm1 : most ≤ 9223372036854775807) :
    Calls Tryz.prog 181 #[.pointer (some ⟨p, 0, none⟩), .int .i64 most] w (PartPostO p ob (partS s most).1 (partS s most).2 w) := by
  obtain ⟨ys, e⟩ := s
  obtain ⟨y, h, hob⟩ := h
  subst hob
  change RAt w p y ys e at h
  have HE := Lib.hid (err_any p y ys e w h)
  have HR := Lib.hid h
  have hc0 := h.cell0
  have hc1 := h.cell1
  have hf := h.free 1
  obtain ⟨a, c, rfl, hle⟩ := h.wide
  have HLE := Lib.hid hle
  clear hle
  cases e with
  | some x =>
    simp only [partS, errV] at HE hc1 ⊢
    clear h
    go_enter Tryz.func181, Tryz.ntmps181
    go_wp2_with (go_at_call 153; (with_reducible refine HE.out.mono ?_); rintro e w2 ⟨rfl, rfl⟩)
    go_ret
    exact partPostO_nil ⟨_, HR.out, rfl⟩ (Only.refl _ _)
  | none =>
    simp only [partS, errV] at HE hc1 ⊢
    by_cases hneg : most < 0
    · rw [if_pos hneg]
      have HW := Lib.hid (h.err (some 1))
      clear h
      go_enter Tryz.func181, Tryz.ntmps181
      go_wp2_with (go_at_call 153; (with_reducible refine HE.out.mono ?_); rintro e w2 ⟨rfl, rfl⟩)
      go_ret
      exact partPostO_nil ⟨_, HW.out, rfl⟩ (Only.setCell _ ⟨p, 1, none⟩ _)
    · rw [if_neg hneg]
      have HV := varint_any (.slice a ys.length c) ys 18446744073709551615 w h.in_ h.ok
      rw [show ((18446744073709551615 : Nat) : Int) = 18446744073709551615 from rfl] at HV
      cases hx : (rdF ys 18446744073709551615).2.2 with
      | some x =>
        simp only
        rw [tripV_of _ _ hx] at HV
        replace HV := Lib.hid HV
        have HW := Lib.hid (h.err (some x))
        simp only [errV] at HV HW
        clear h
        go_enter Tryz.func181, Tryz.ntmps181
        go_wp2_with (first
          | (go_at_call 153; (with_reducible refine HE.out.mono ?_); rintro e w2 ⟨rfl, rfl⟩)
          | (go_at_call 179; (with_reducible refine HV.out.mono ?_); rintro e w2 ⟨rfl, rfl⟩))
        go_ret
        exact partPostO_nil ⟨_, HW.out, rfl⟩ (Only.setCell _ ⟨p, 1, none⟩ _)
      | none =>
        simp only
        obtain ⟨hsz, hn64, _⟩ := rdF_ok hx
        rw [tripV_of _ _ hx] at HV
        replace HV := Lib.hid HV
        simp only [errV] at HV
        generalize hsize : (rdF ys 18446744073709551615).2.1 = size at *
        generalize hnum : (rdF ys 18446744073709551615).1 = n at *
        clear hsize hnum hx
        have hlen := h.le
        by_cases hlong : most < (n : Int)
        · rw [if_pos hlong]
          have HW := Lib.hid (h.err (some 2))
          clear h
          have hwm : IntKind.u64.wrap most = most := by rw [IntKind.wrap_u64]; omega
          go_enter Tryz.func181, Tryz.ntmps181
          go_wp2_with (first
            | (go_at_call 153; (with_reducible refine HE.out.mono ?_); rintro e w2 ⟨rfl, rfl⟩)
            | (go_at_call 179; (with_reducible refine HV.out.mono ?_); rintro e w2 ⟨rfl, rfl⟩))
          go_ret
          exact partPostO_nil ⟨_, HW.out, rfl⟩ (Only.setCell _ ⟨p, 1, none⟩ _)
        · rw [if_neg hlong]
          have hwm : IntKind.u64.wrap most = most := by rw [IntKind.wrap_u64]; omega
          by_cases hend : ys.length - size < n
          · rw [if_pos hend]
            have HW := Lib.hid (h.err (some 12))
            clear h
            go_enter Tryz.func181, Tryz.ntmps181
            go_wp2_with (first
              | (go_at_call 153; (with_reducible refine HE.out.mono ?_); rintro e w2 ⟨rfl, rfl⟩)
              | (go_at_call 179; (with_reducible refine HV.out.mono ?_); rintro e w2 ⟨rfl, rfl⟩))
            go_ret
            exact partPostO_nil ⟨_, HW.out, rfl⟩ (Only.setCell _ ⟨p, 1, none⟩ _)
          · rw [if_neg hend]
            have ht := take_any p _ ys none size w h hsz
            have hok := bytesOk_drop h.ok size
            have hD : n ≤ (ys.drop size).length := by rw [List.length_drop]; omega
            have hD2 : (ys.drop size).length ≤ 140737488355328 := by rw [List.length_drop]; omega
            generalize ys.drop size = D at *
            replace ht := Lib.hid ht
            replace hok := Lib.hid hok
            replace hD := Lib.hid hD
            replace hD2 := Lib.hid hD2
            have hwn : IntKind.i64.wrap (n : Int) = n := by rw [IntKind.wrap_i64]; omega
            clear h
            go_enter Tryz.func181, Tryz.ntmps181
            go_wp2_with (first
              | (go_at_call 153; (with_reducible refine HE.out.mono ?_); rintro e w2 ⟨rfl, rfl⟩)
              | (go_at_call 179; (with_reducible refine HV.out.mono ?_); rintro e w2 ⟨rfl, rfl⟩)
              | (go_at_call 180; (with_reducible refine ht.out.mono ?_); rintro e w3 ⟨a1, c1, y1, rfl, _, _, hr1, ho1, hob1⟩; replace hob1 := Lib.hid hob1; replace hr1 := Lib.hid hr1; replace ho1 := Lib.hid ho1)
              | (go_at_call 180; (with_reducible refine (take_any p _ D none n _ hr1.out hD.out).mono ?_); rintro e w4 ⟨a2, c2, y2, rfl, hi2, hn2, hr2, ho2, hob2⟩; replace hob2 := Lib.hid hob2; replace hr2 := Lib.hid hr2; replace ho2 := Lib.hid ho2; replace hi2 := Lib.hid hi2; replace hn2 := Lib.hid hn2))
            go_ret
            exact ⟨_, rfl, hi2.out, bytesOk_take hok.out n, by rw [List.length_take]; have := hD2.out; omega, hn2.out, ⟨_, hr2.out, hob2.out.trans hob1.out⟩, ho1.out.trans ho2.out⟩
theorem rtextO_any (p : Nat) (ob : Option Nat) (s : RSt) (most : Int) (w : World) (h : RO w p ob s) (hm0 : -9223372036854775808 ≤ most) (hm1 : most ≤ 9223372036854775807) :
    Calls Tryz.prog 156 #[.pointer (some ⟨p, 0, none⟩), .int .i64 most] w fun r w' => r = .returned (.string (strOfNums (partS s most).1)) ∧ RO w' p ob (partS s most).2 ∧ Only p w w' := by
  have HP := Lib.hid (partO_any p ob s most w h hm0 hm1)
  clear h
  go_enter Tryz.func156, Tryz.ntmps156
  go_wp2_with (go_at_call 181; (with_reducible refine HP.out.mono ?_); rintro e w2 ⟨v, rfl, hv, _, _, _, hr, ho⟩; have hcv := conv_bytes w2 v _ hv; replace hr := Lib.hid hr; replace ho := Lib.hid ho; clear hv)
  go_ret
  exact ⟨rfl, hr.out, ho.out⟩
set_option maxHeartbeats 1000000 in
theorem rcountO_any (p : Nat) (ob : Option Nat) (s : RSt) (most : Nat) (hmm : most ≤ 9223372036854775807) (w : World) (h : RO w p ob s) :
    Calls Tryz.prog 155 #[.pointer (some ⟨p, 0, none⟩), .int .i64 (most : Int)] w fun r w' => r = .returned (.int .i64 ((countS s most).1 : Int)) ∧ RO w' p ob (countS s most).2 ∧ Only p w w' := by
  obtain ⟨ys, e⟩ := s
  obtain ⟨y, h, hob⟩ := h
  subst hob
  have HE := Lib.hid (err_any p y ys e w h)
  have HR := Lib.hid h
  have hc0 := h.cell0
  have hc1 := h.cell1
  have hf := h.free 1
  have hll : ys.length ≤ 140737488355328 := h.le
  have hmx : ((max most 0 : Nat) : Int) = max (most : Int) 0 := by omega
  have hmx2 : max (most : Int) 0 = (most : Int) := by omega
  obtain ⟨a, c, rfl, hle⟩ := h.wide
  clear hle
  cases e with
  | some x =>
    rw [countS_bad (s := (ys, some x)) (most := most) (x := x) rfl]
    simp only [errV] at HE hc1
    go_enter Tryz.func155, Tryz.ntmps155
    go_wp2_with (go_at_call 153; (with_reducible refine HE.out.mono ?_); rintro e w2 ⟨rfl, rfl⟩)
    go_ret
    exact ⟨rfl, ⟨_, HR.out, rfl⟩, Only.refl _ _⟩
  | none =>
    simp only [errV] at HE hc1
    have HV := varint_any (.slice a ys.length c) ys most w h.in_ h.ok
    cases hx : (rdF ys most).2.2 with
    | some x =>
      have hu := uintS_bad hx
      rw [countS_bad (x := x) (by rw [hu])]
      rw [tripV_of _ _ hx] at HV
      replace HV := Lib.hid HV
      have HW := Lib.hid (h.err (some x))
      simp only [errV] at HV HW
      clear h hu
      go_enter Tryz.func155, Tryz.ntmps155
      go_wp2_with (first
        | (go_at_call 153; (with_reducible refine HE.out.mono ?_); rintro e w2 ⟨rfl, rfl⟩)
        | (go_at_call 179; (with_reducible refine HV.out.mono ?_); rintro e w2 ⟨rfl, rfl⟩))
      go_ret
      exact ⟨rfl, ⟨_, HW.out, rfl⟩, Only.setCell _ ⟨p, 1, none⟩ _⟩
    | none =>
      have hu := uintS_good hx
      have ht := take_any p _ ys none (rdF ys most).2.1 w h (rdF_ok hx).1
      have hsz := (rdF_ok hx).1
      have hn64 := (rdF_ok hx).2.1
      rw [tripV_of _ _ hx] at HV
      replace HV := Lib.hid HV
      replace ht := Lib.hid ht
      simp only [errV] at HV
      have hul : (uintS (ys, none) most).2.1.length = ys.length - (rdF ys most).2.1 := by rw [hu]; simp
      have hun : (uintS (ys, none) most).1 = (rdF ys most).1 := by rw [hu]
      have hue : (uintS (ys, none) most).2.2 = none := by rw [hu]
      by_cases hlong : (uintS (ys, none) most).2.1.length < (uintS (ys, none) most).1
      · rw [countS_long hue hlong]
        rw [hul, hun] at hlong
        have HW := Lib.hid (h.err (some 2))
        simp only [errV] at HW
        clear h hu hul hun hue ht hx
        generalize (rdF ys most).2.1 = size at *
        generalize (rdF ys most).1 = n at *
        have hgt : (((ys.length : Int) - size) < n) := by omega
        have hsz2 : (size : Int) ≤ ys.length := by omega
        go_enter Tryz.func155, Tryz.ntmps155
        go_wp2_with (first
          | (go_at_call 153; (with_reducible refine HE.out.mono ?_); rintro e w2 ⟨rfl, rfl⟩)
          | (go_at_call 179; (with_reducible refine HV.out.mono ?_); rintro e w2 ⟨rfl, rfl⟩))
        go_ret
        exact ⟨rfl, ⟨_, HW.out, rfl⟩, Only.setCell _ ⟨p, 1, none⟩ _⟩
      · rw [countS_good hue hlong]
        rw [hul, hun] at hlong
        rw [hu]
        clear h hu hul hun hue hx
        generalize (rdF ys most).2.1 = size at *
        generalize (rdF ys most).1 = n at *
        have hgt : ¬ (((ys.length : Int) - size) < n) := by omega
        have hsz2 : (size : Int) ≤ ys.length := by omega
        have hwn : IntKind.i64.wrap (n : Int) = n := by rw [IntKind.wrap_i64]; omega
        go_enter Tryz.func155, Tryz.ntmps155
        go_wp2_with (first
          | (go_at_call 153; (with_reducible refine HE.out.mono ?_); rintro e w2 ⟨rfl, rfl⟩)
          | (go_at_call 179; (with_reducible refine HV.out.mono ?_); rintro e w2 ⟨rfl, rfl⟩)
          | (go_at_call 180; (with_reducible refine ht.out.mono ?_); rintro e w3 ⟨a1, c1, y1, rfl, _, _, hr1, ho1, hob1⟩; replace hob1 := Lib.hid hob1; replace hr1 := Lib.hid hr1; replace ho1 := Lib.hid ho1))
        go_ret
        exact ⟨rfl, ⟨_, hr1.out, hob1.out⟩, ho1.out⟩
end Go.Proofs.YteokgklfljhcaaaGreatDoor
namespace Go.Proofs.YteokgklfljhcaaaGreatDoor
set_option linter.unusedVariables false
set_option linter.unusedSimpArgs false
open Go.RowKit
set_option maxRecDepth 100000
set_option linter.unusedSimpArgs false
set_option linter.unusedVariables false
theorem beqT (a b : ByteArray) : (a.toList == b.toList) = decide (a = b) := by
  rw [Bool.eq_iff_iff, beq_iff_eq, decide_eq_true_iff, ByteArray.toList_eq, ByteArray.toList_eq]
  constructor
  · intro e; cases a; cases b; simp at e; rw [e]
  · intro e; rw [e]
structure Va where
  name : ByteArray
  key : Nat → Int
  pow : Int
def vaC (v : Va) : Array Value := #[.string v.name] ++ rowOf .u8 32 v.key ++ #[.int .i64 v.pow]
theorem vaC_size (v : Va) : (vaC v).size = 34 := by simp [vaC, rowOf_size]
theorem vaC_one (v : Va) : (vaC v).all (·.oneCell') = true := by
  unfold vaC
  rw [Array.all_append, Array.all_append, rowOf_one]
  simp [Value.oneCell']
theorem va_cells {w : World} {g : Nat} {v : Va} {T : TypeId} (h : w.heap[g]? = some (.cells (vaC v) T (0, 0))) :
    w.cell? ⟨g, 0, none⟩ = some (.string v.name) ∧ w.cell? ⟨g, 33, none⟩ = some (.int .i64 v.pow) ∧ w.rangeAt g 1 (rowOf .u8 32 v.key).toList := by
  have hs : (rowOf .u8 32 v.key).size = 32 := rowOf_size _ _ _
  refine ⟨?_, ?_, fun j u hu => ?_⟩
  · rw [cell_of_row w g 0 _ _ _ h]; unfold vaC
    rw [Array.getElem?_append_left (by simp; omega), Array.getElem?_append_left (by simp)]; rfl
  · rw [cell_of_row w g 33 _ _ _ h]; unfold vaC
    rw [Array.getElem?_append_right (by simp [hs])]; simp [hs]
  · have hj : j < 32 := by have := (List.getElem?_eq_some_iff.1 hu).1; simpa [hs] using this
    rw [cell_of_row w g (1 + j) _ _ _ h]; unfold vaC
    rw [Array.getElem?_append_left (by simp [hs]; omega), Array.getElem?_append_right (by simp)]
    simpa using hu
theorem wpList_load_rowT {w : World} {ops : Array Oper} {rest : List Oper} {o : Oper} {a : Act} {Q : Exit → Act → World → Prop} (hgd : Region.wanted o (yielded ops a.tmps) = true) (ty : TypeId) (x : Operand) (ho : o.op = .load ty x)
    (b off : Nat) (hx : a.eval x = .pointer (some ⟨b, off, none⟩)) (cs : Array Value) (d : TypeDesc) (hc : w.rangeAt b off cs.toList) (hu : Tryz.prog.underlying ty = some d) (hd : d.isRow = true) (hi : (Tryz.prog.info? ty).map (·.size) = some cs.size)
    (h : wpList Tryz.prog ops Q rest (a.put o.dst (.agg cs)) w) : wpList Tryz.prog ops Q (o :: rest) a w :=
  BigFrame.wpList_want hgd fun _ hK => wp_load_mid ty x ho b off hx cs.toList d hc hu hd (by rw [hi, Array.length_toList]) (hK _ _ (by simpa using h))
theorem bkT_lt {w : World} {g : Nat} {o : Obj} (h : w.heap[g]? = some o) : g < w.heap.size := (Array.getElem?_eq_some_iff.1 h).1
theorem rowT_range {w : World} {g : Nat} {cs : Array Value} {T : TypeId} (h : w.heap[g]? = some (.cells cs T (0, 0))) : w.rangeAt g 0 cs.toList := fun j v hv => by
  rw [Nat.zero_add, cell_of_row w g j _ _ _ h]; simpa using hv
/-- a slice of rows -/
def RowsIn {α : Type} (n : Nat) (C : α → List Value) (w : World) (v : Value) (l : List α) : Prop :=
  ∃ a cap, v = .slice a l.length cap ∧ l.length ≤ cap ∧ l.length ≤ maxLen ∧ (l = [] ∨ ∃ ab ao, a = some ⟨ab, ao, none⟩ ∧ ab < w.heap.size ∧ ∀ i s, l[i]? = some s → w.rangeAt ab (ao + i * n) (C s))
theorem rangeT_below {w w' : World} {ab o : Nat} {l : List Value} (h : w.rangeAt ab o l) (hb : Below w.heap.size w w') (hl : ab < w.heap.size) : w'.rangeAt ab o l :=
  fun j v hv => (hb.cell (p := ⟨ab, o + j, none⟩) hl).trans (h j v hv)
theorem RowsIn.below {α : Type} {n : Nat} {C : α → List Value} {w w' : World} {v : Value} {l : List α} (h : RowsIn n C w v l) (hb : Below w.heap.size w w') : RowsIn n C w' v l := by
  obtain ⟨a, cap, rfl, hc, hm, hx⟩ := h
  refine ⟨a, cap, rfl, hc, hm, hx.imp id ?_⟩
  rintro ⟨ab, ao, rfl, hlt, hx⟩
  exact ⟨ab, ao, rfl, Nat.lt_of_lt_of_le hlt hb.size, fun i p hi => rangeT_below (hx i p hi) hb hlt⟩
theorem RowsIn.len {α : Type} {n : Nat} {C : α → List Value} {w : World} {v : Value} {l : List α} (h : RowsIn n C w v l) : ∃ a cap, v = .slice a l.length cap ∧ l.length ≤ cap ∧ l.length ≤ maxLen := by
  obtain ⟨a, cap, e, h1, h2, _⟩ := h
  exact ⟨a, cap, e, h1, h2⟩
theorem RowsIn.at {α : Type} {n : Nat} {C : α → List Value} {w : World} {a : Option Addr} {m cap : Nat} {l : List α} (h : RowsIn n C w (.slice a m cap) l) {i : Nat} {s : α} (hi : l[i]? = some s) : ∃ ab ao, a = some ⟨ab, ao, none⟩ ∧ ab < w.heap.size ∧ w.rangeAt ab (ao + i * n) (C s) := by
  obtain ⟨a', cap', e, hc, hm, hx⟩ := h
  injection e with e1 e2 e3
  subst e1
  rcases hx with rfl | ⟨ab, ao, rfl, hlt, hx⟩
  · simp at hi
  · exact ⟨ab, ao, rfl, hlt, hx i s hi⟩
theorem RowsIn.cut {α : Type} {n : Nat} {C : α → List Value} {w : World} {a : Option Addr} {m cap : Nat} {l : List α} (h : RowsIn n C w (.slice a m cap) l) (q : Nat) (hq : q ≤ l.length) : RowsIn n C w (.slice (cutA a cap 0) q cap) (l.take q) := by
  obtain ⟨a', cap', e, hc, hm, hx⟩ := h
  injection e with e1 e2 e3
  subst e1 e2 e3
  have hl : (l.take q).length = q := by rw [List.length_take]; omega
  refine ⟨cutA a cap 0, cap, by rw [hl], by rw [hl]; omega, by rw [hl]; omega, ?_⟩
  rcases hx with rfl | ⟨ab, ao, rfl, hlt, hx⟩
  · exact .inl (by simp)
  · by_cases hc0 : cap = 0
    · left
      have : q = 0 := by omega
      rw [this]; rfl
    · refine .inr ⟨ab, ao, ?_, hlt, fun i s hi => hx i s ?_⟩
      · unfold cutA
        rw [if_neg hc0]
        show some (Addr.add ⟨ab, ao, none⟩ 0) = _
        rw [Addr.add_mid]; rfl
      · rw [List.getElem?_take] at hi
        split at hi
        · exact hi
        · cases hi
abbrev VaIn (w : World) (v : Value) (l : List Va) : Prop := RowsIn 34 (fun t => (vaC t).toList) w v l
theorem sliceVhi (a : Option Addr) (n cap q : Nat) (hq : q ≤ cap) (w : World) : (Instr.slice 48 (.slice a n cap) none (some (.int .i64 (q : Int))) none).run Tryz.prog w = .ok (.slice (cutA a cap 0) q cap) w := by
  have he : Tryz.prog.elem 48 = 54 := by kernel_rfl
  have hs : (sizeOf 54).run Tryz.prog w = .ok 34 w := by kernel_rfl
  rw [run_slice_h w 48 a n cap (by rw [he]; exact Tryz.underlying48) .i64 (q : Int) (by omega) (by omega), he, hs]
  simp [Result.andThen_ok, sliced, cutA]
/-- a name -/
def nmB (s : ByteArray) : Bool := decide (1 ≤ s.size ∧ s.size ≤ 64) && (numsOf s).all fun c => decide (33 ≤ c ∧ c ≤ 126)
theorem nm_short {s : ByteArray} (h : s.size < 1) : nmB s = false := by unfold nmB; rw [decide_eq_false (by omega)]; rfl
theorem nm_long {s : ByteArray} (h : 64 < s.size) : nmB s = false := by unfold nmB; rw [decide_eq_false (by omega)]; rfl
theorem nm_bad {s : ByteArray} {k : Nat} {c : Int} (h : (numsOf s)[k]? = some c) (hc : c < 33 ∨ 126 < c) : nmB s = false := by
  unfold nmB
  have : (numsOf s).all (fun c => decide (33 ≤ c ∧ c ≤ 126)) = false := by
    rw [List.all_eq_false]
    exact ⟨c, List.mem_of_getElem? h, by simp; omega⟩
  rw [this, Bool.and_false]
theorem nm_good {s : ByteArray} (h1 : 1 ≤ s.size) (h2 : s.size ≤ 64) (h : ∀ j c, j < s.size → (numsOf s)[j]? = some c → 33 ≤ c ∧ c ≤ 126) : nmB s = true := by
  unfold nmB
  rw [decide_eq_true ⟨h1, h2⟩, Bool.true_and, List.all_eq_true]
  intro c hc
  obtain ⟨j, hj, e⟩ := List.getElem_of_mem hc
  rw [numsOf_length] at hj
  exact decide_eq_true (h j c hj (by rw [← e]; exact List.getElem?_eq_getElem _))
def NmRel (s : ByteArray) (k : Nat) : Prop := ∀ j c, j < k → (numsOf s)[j]? = some c → 33 ≤ c ∧ c ≤ 126
set_option maxHeartbeats 2000000 in
theorem isname_any (s : ByteArray) (w : World) (hs : s.size ≤ 140737488351232) : Calls Tryz.prog 73 #[.string s] w fun e w' => e = .returned (.bool (nmB s)) ∧ Below w.heap.size w w' := by
  by_cases h1 : s.size < 1
  · have h1I : (s.size : Int) < 1 := by omega
    rw [nm_short h1]
    clear h1
    go_enter Tryz.func73, Tryz.ntmps73
    go_wp2_with (fail)
    go_ret
    exact ⟨rfl, Below.refl _ _⟩
  by_cases h2 : 64 < s.size
  · have h1I : ¬ (s.size : Int) < 1 := by omega
    have h2I : (64 : Int) < (s.size : Int) := by omega
    rw [nm_long h2]
    clear h1 h2
    go_enter Tryz.func73, Tryz.ntmps73
    go_wp2_with (fail)
    go_ret
    exact ⟨rfl, Below.refl _ _⟩
  have h1I : ¬ (s.size : Int) < 1 := by omega
  have h2I : ¬ (64 : Int) < (s.size : Int) := by omega
  have HB := Lib.hid (bytesW_below w s)
  have HY := Lib.hid (bytesW_in w s (by unfold maxLen; omega))
  have hcv : ∀ w : World, (convert 9 39 (.string s)).run Tryz.prog w = .ok (.slice (some ⟨w.heap.size, 0, none⟩) s.size (grownCap w s.size 0 5)) (bytesW w s) :=
    fun w => run_bytes_of_string w 9 39 5 s Tryz.underlying9 Tryz.underlying39 Tryz.underlying5
  obtain ⟨b, hb⟩ : ∃ b, b = nmB s := ⟨_, rfl⟩
  have HBB := Lib.hid hb
  rw [← hb]
  have HG := Lib.hid (fun h => nm_good (s := s) (by omega) (by omega) h)
  obtain ⟨n, hn⟩ : ∃ n, n = s.size := ⟨_, rfl⟩
  have HN := Lib.hid hn
  have hn64 : n ≤ 64 := by omega
  clear hb h1 h2
  go_enter Tryz.func73, Tryz.ntmps73
  go_upto_region 4 with (fail)
  rw [← hn] at HY ⊢
  clear hcv hn
  generalize grownCap w n 0 5 = cp at *
  generalize bytesW w s = w1 at *
  have HR0 := Lib.hid (show NmRel s 0 from fun j c h => by omega)
  go_wp2_with (fail)
  go_loopw [16] (fun x wr => ∃ k : Nat, k ≤ n ∧ x = .int .i64 (k : Int) ∧ wr = w1 ∧ Hid (NmRel s k)) (fun x _ => n - (intOf x).toNat)
  case atStart => exact ⟨0, Nat.zero_le _, rfl, rfl, HR0⟩
  case round =>
    clear HR0
    obtain ⟨k, hkn, rfl, rfl, HR⟩ := hrel
    by_cases hlt : k < n
    · have hltI : (k : Int) < (n : Int) := by omega
      obtain ⟨c, hc⟩ : ∃ c, (numsOf s)[k]? = some c := ⟨(numsOf s)[k]'(by rw [numsOf_length]; have := HN.out; omega), List.getElem?_eq_getElem _⟩
      have HC := Lib.hid hc
      have hcell : wr.cell? ⟨w.heap.size, k, none⟩ = some (.int .u8 c) := by
        obtain ⟨a', c', e, _, _, h3⟩ := HY.out
        rcases h3 with h3 | ⟨ab, ao, e2, h3⟩
        · rw [h3] at hc; simp at hc
        · injection e with e1 _ _
          rw [← e1] at e2
          injection e2 with e2
          injection e2 with e2 e3
          subst e2 e3
          have := h3 k c hc
          rwa [Nat.zero_add] at this
      clear hc
      by_cases hc1 : c < 33
      · have HF := Lib.hid (nm_bad HC.out (.inl hc1))
        go_wp2_with (fail)
        go_ret
        exact ⟨by rw [HBB.out, HF.out]; rfl, HB.out⟩
      by_cases hc2 : 126 < c
      · have HF := Lib.hid (nm_bad HC.out (.inr hc2))
        go_wp2_with (fail)
        go_ret
        exact ⟨by rw [HBB.out, HF.out]; rfl, HB.out⟩
      have HC12 := Lib.hid (show 33 ≤ c ∧ c ≤ 126 by omega)
      go_wp2_with (fail)
      go_roundw
      case rel =>
        refine ⟨k + 1, by omega, by go_num, trivial, Lib.hid fun j x hj hx => ?_⟩
        rcases (by omega : j < k ∨ j = k) with h | rfl
        · exact HR.out j x h hx
        · rw [HC.out] at hx; injection hx with hx; rw [← hx]; exact HC12.out
      case measure => simp [intOf]; omega
    · obtain rfl : k = n := by omega
      have HF := Lib.hid (HG.out (fun j c hj => HR.out j c (by rw [HN.out]; exact hj)))
      go_wp2_with (fail)
      go_ret
      exact ⟨by rw [HBB.out, HF.out]; rfl, HB.out⟩
/-- an index -/
theorem isindex_any (i : Int) (a : Option Addr) (n cap : Nat) (w : World) : Calls Tryz.prog 151 #[.int .i64 i, .slice a n cap] w fun e w' => e = .returned (.bool (decide (0 ≤ i ∧ i < n))) ∧ w' = w := by
  by_cases h1 : 0 ≤ i
  · by_cases h2 : i < n
    · have e : decide (0 ≤ i ∧ i < n) = true := decide_eq_true ⟨h1, h2⟩
      rw [e]
      go_enter Tryz.func151, Tryz.ntmps151
      go_wp2_with (fail)
      go_ret
      exact ⟨rfl, rfl⟩
    · have e : decide (0 ≤ i ∧ i < n) = false := decide_eq_false (by omega)
      rw [e]
      go_enter Tryz.func151, Tryz.ntmps151
      go_wp2_with (fail)
      go_ret
      exact ⟨rfl, rfl⟩
  · have e : decide (0 ≤ i ∧ i < n) = false := decide_eq_false (by omega)
    rw [e]
    go_enter Tryz.func151, Tryz.ntmps151
    go_wp2_with (fail)
    go_ret
    exact ⟨rfl, rfl⟩
def thirdB (p t : Int) : Bool := decide (t < wrap64 (3 * p))
theorem third_any (p t : Int) (w : World) : Calls Tryz.prog 117 #[.int .i64 p, .int .i64 t] w fun e w' => e = .returned (.bool (thirdB p t)) ∧ w' = w := by
  go_enter Tryz.func117, Tryz.ntmps117
  go_wp2_with (fail)
  go_ret
  exact ⟨rfl, rfl⟩
end Go.Proofs.YteokgklfljhcaaaGreatDoor
