/- Part 44 of the proof. -/
import Derived.BigFrame
import Derived.ProofKit
import Derived.OpenShut
import Derived.Deep.Slices
import Derived.SizedLaws
import Derived.Deep.DeepCutAuto
import Derived.Test.YtanekacpalpcbaaGreatDoorRd1
import Derived.Test.YtanekacpalpcbaaGreatDoorRd2
import Derived.Test.YtanekacpalpcbaaGreatDoorRd7
import Derived.Test.YtanekacpalpcbaaGreatDoorRd8
import Derived.Test.YtanekacpalpcbaaGreatDoorRd12
import Derived.Test.YtanekacpalpcbaaGreatDoorRd23
import Derived.Test.YtanekacpalpcbaaGreatDoorRd39
import Derived.Test.YtanekacpalpcbaaGreatDoorRd43
namespace Go.Proofs.YtanekacpalpcbaaGreatDoor
set_option linter.unusedVariables false
set_option linter.unusedSimpArgs false
open Go.RowKit
set_option maxRecDepth 100000
theorem wp_copy_at' {P : Program} (w : World) {o : Oper} {a : Act} {K : Act → World → Prop} {Q : Exit → Act → World → Prop} (d s : Operand) (t t' : TypeId) {ty : TypeId}
    (ho : o.op = .call { callee := .builtin .copy, args := #[d, s], argTypes := #[t, t'] }) (hty : o.type = ty) (v u : Value) (hd : a.eval d = v) (hs : a.eval s = u) {v' : Value} {w' : World}
    (hr : (Builtin.copy_ #[t, t'] ty #[v, u]).run P w = .ok v' w') (h : K (a.put o.dst v') w') : o.wp P a w K Q := by
  unfold Oper.wp execOp
  simp only [ho, hty, resolve, invoke, builtin, Sem.run_bind, Sem.run_pure, Result.andThen_ok, List.map_toArray, List.map_cons, List.map_nil, hd, hs, hr]
  exact h
theorem owns_wideI {w : World} {base n : Nat} {v : Value} {vs : List Value} (h : w.ownsRow base 3 1 v n vs) : ∃ a c, v = .slice a n c := by
  rcases h.2 with ⟨rfl, h0⟩ | ⟨g, c, _, rfl, _⟩
  · exact ⟨none, 0, by rw [h0]⟩
  · exact ⟨_, c, rfl⟩
theorem copied32' (f : Nat → Int) (ys : List Int) (h : ¬ ys.length < 32) :
    ((rowOf .u8 32 f).toList.take 0 ++ byteVals (ys.take 32) ++ (rowOf .u8 32 f).toList.drop (0 + (byteVals (ys.take 32)).length)).toArray = rowOf .u8 32 (fun i => ys.getD i 0) := by
  have hl : (ys.take 32).length = 32 := by rw [List.length_take]; omega
  have hd : (rowOf .u8 32 f).toList.drop (0 + (byteVals (ys.take 32)).length) = [] := by
    apply List.drop_eq_nil_of_le
    rw [byteVals_length, hl, Array.length_toList, rowOf_size]; omega
  rw [hd, List.take_zero, List.nil_append, List.append_nil]
  unfold rowOf byteVals
  congr 1
  apply List.ext_getElem
  · simp only [List.length_map, List.length_range, hl]
  · intro i h1 h2
    have hi : i < 32 := by simpa using h2
    simp [List.getD, List.getElem?_eq_getElem (show i < ys.length by omega)]
theorem sliceS2 (sb so ns cs k : Nat) (h1 : 32 * (k + 1) ≤ ns) (h2 : ns ≤ cs) (w : World) : (Instr.slice 34 (.slice (some ⟨sb, so, none⟩) ns cs) (some (.int .i64 (32 * (k : Int)))) none none).run Tryz.prog w = .ok (.slice (some ⟨sb, so + 32 * k, none⟩) (ns - 32 * k) (cs - 32 * k)) w := by
  have h := sliceBlo (some ⟨sb, so, none⟩) ns cs (32 * k) (by omega) w
  unfold cutA at h
  rw [if_neg (by omega)] at h
  simp only [Option.map_some] at h
  rw [Addr.add_mid, show ((32 * k : Nat) : Int) = 32 * (k : Int) by omega] at h
  exact h
theorem sliceH (b : Nat) (w : World) : (Instr.sliceAt 65 (.pointer (some ⟨b, 0, none⟩)) none none none).run Tryz.prog w = .ok (.slice (some ⟨b, 0, none⟩) 32 32) w := by
  have ha : Tryz.prog.arrayLen 65 = 32 := by kernel_rfl
  have he : Tryz.prog.elem 65 = 5 := by kernel_rfl
  have hs : (sizeOf 5).run Tryz.prog w = .ok 1 w := by kernel_rfl
  rw [run_sliceAt_array_all w 65 ⟨b, 0, none⟩ (by rw [ha, he]; exact Tryz.underlying65), ha, he, hs]
  simp only [Result.andThen_ok, slicedAt]
  rw [if_neg (by omega), Addr.add_mid]
structure FrM (w2 w' : World) (b : Nat) (gb go : Nat) (L : List Nat) (s : Value) (l : List Int) (gv : Nat) (F : Nat → Int) : Prop where
  m : SgM w2 w' b zF gb go L s l
  v : RowAt w' gv .u8 32 65 F
theorem FrM.calls {w2 w' w3 : World} {b gb go gv : Nat} {L : List Nat} {s : Value} {l : List Int} {F : Nat → Int} (m : FrM w2 w' b gb go L s l gv F) (h : Below w'.heap.size w' w3) : FrM w2 w3 b gb go L s l gv F := ⟨m.m.calls h, m.v.below h m.v.lt⟩
end Go.Proofs.YtanekacpalpcbaaGreatDoor
namespace Go.Proofs.YtanekacpalpcbaaGreatDoor
set_option linter.unusedVariables false
set_option linter.unusedSimpArgs false
open Go.RowKit
set_option maxRecDepth 100000
def digestF (text : List Int) (n : Nat) : List Int := rowL n (sumF (4 :: text))
theorem rowL_take (f : Nat → Int) (n : Nat) : (rowL n f).length = n := by simp [rowL]
theorem sliceAn (b n : Nat) (hn : n ≤ 32) (w : World) : (Instr.sliceAt 65 (.pointer (some ⟨b, 0, none⟩)) none (some (.int .i64 (n : Int))) none).run Tryz.prog w = .ok (.slice (some ⟨b, 0, none⟩) n 32) w := by
  have ha : Tryz.prog.arrayLen 65 = 32 := by kernel_rfl
  have he : Tryz.prog.elem 65 = 5 := by kernel_rfl
  have hs : (sizeOf 5).run Tryz.prog w = .ok 1 w := by kernel_rfl
  rw [run_sliceAt_array_h w 65 ⟨b, 0, none⟩ (by rw [ha, he]; exact Tryz.underlying65) .i64 (n : Int) (by omega) (by rw [ha]; omega), ha, he, hs]
  simp only [Result.andThen_ok, slicedAt, Int.toNat_natCast]
  rfl
end Go.Proofs.YtanekacpalpcbaaGreatDoor
namespace Go.Proofs.YtanekacpalpcbaaGreatDoor
set_option linter.unusedVariables false
set_option linter.unusedSimpArgs false
open Go.RowKit
set_option maxRecDepth 100000
theorem wpList_load_row_want {ops : Array Oper} {rest : List Oper} {op : Oper} {a : Act} {w : World} {Q : Exit → Act → World → Prop} (hw : Region.wanted op (yielded ops a.tmps) = true) (ty : TypeId) (x : Operand) (ho : op.op = .load ty x)
    (b : Nat) (hx : a.eval x = .pointer (some ⟨b, 0, none⟩)) (k : IntKind) (n : Nat) (f : Nat → Int) (d : TypeDesc) (R : RowAt w b k n ty f)
    (hu : Tryz.prog.underlying ty = some d) (hd : d.isRow = true) (hi : (Tryz.prog.info? ty).map (·.size) = some n)
    (h : wpList Tryz.prog ops Q rest (a.put op.dst (.agg (rowOf k n f))) w) : wpList Tryz.prog ops Q (op :: rest) a w :=
  BigFrame.wpList_want hw fun _ hK => wp_load_mid ty x ho b 0 hx (rowOf k n f).toList d R.range hu hd (by rw [hi]; simp [rowOf]) (hK _ _ (by simpa using h))
theorem below_drew {w w' : World} {n : Nat} (h : w' = w.drewN n) : Below w.heap.size w w' := by subst h; exact ⟨rfl, rfl, rfl, Nat.le_refl _, fun _ _ => rfl⟩
theorem digF18 : natInts (digF [18]) = [1, 2, 0, 1, 11] := by decide
end Go.Proofs.YtanekacpalpcbaaGreatDoor
namespace Go.Proofs.YtanekacpalpcbaaGreatDoor
set_option linter.unusedVariables false
set_option linter.unusedSimpArgs false
open Go.ChangeShapes Go.WideShapes Go.ChangeAt Go.RowKit
theorem cellsU8 : Tryz.prog.cellsOf 5 = 1 := by kernel_rfl
theorem bytesOfU8 : Tryz.prog.bytesOf 5 = 1 := by kernel_rfl
/-- each value counts one at least -/
theorem bulk_one {H : Type} (d : DataW H) : 1 ≤ Rows.uptoBulk d := by
  cases d with
  | lit l => cases l <;> simp [Rows.uptoBulk]
  | _ => simp [Rows.uptoBulk]
theorem bulk_len {H : Type} : ∀ l : List (DataW H), l.length ≤ Rows.uptoBulkAll l
  | [] => by simp
  | d :: r => by
    have h1 := bulk_one d
    have h2 := bulk_len r
    simp only [Rows.uptoBulkAll, List.length_cons]
    omega
theorem bulk_mem {H : Type} {d : DataW H} : ∀ {l : List (DataW H)}, d ∈ l → Rows.uptoBulk d ≤ Rows.uptoBulkAll l
  | e :: r, h => by
    simp only [Rows.uptoBulkAll]
    rcases List.mem_cons.1 h with rfl | h
    · omega
    · have := bulk_mem h; omega
/-- a slice of bytes that came in -/
theorem bytes_raw {H : Type} {enc : TypeId × Value → H} {W : World} {fuel : Nat} {cs : List Value} {x : DataW H × List MemPlace} (h : DataW.trod enc Tryz.prog W 0 (fun _ => true) true fuel 34 cs = some x) :
    ∃ v xs, cs = [v] ∧ BytesIn W v xs ∧ bytesOk xs ∧ (∃ a c, v = .slice a xs.length c) ∧ xs.length ≤ Rows.uptoBulk x.1 ∧ (x.1 = .nil ∧ xs = [] ∨ ∃ elems spare, x.1 = .slice elems spare ∧ elems.length = xs.length) := by
  rcases open_ints Tryz.underlying34 Tryz.underlying5 (by kernel_rfl) h with ⟨hcs, hx⟩ | ⟨a, l, c, zs, hcs, _, hl, hm, hz, hx, hcell, hwz⟩
  · exact ⟨_, [], hcs, ⟨_, _, rfl, by simp, by simp [maxLen], .inl rfl⟩, (by intro x hx; cases hx), ⟨_, _, rfl⟩, by simp, .inl ⟨by rw [hx], rfl⟩⟩
  · simp only [if_true] at hz
    have hlen : (zs.take l).length = l := by rw [List.length_take]; omega
    refine ⟨_, zs.take l, hcs, ⟨some a, c, by rw [hlen], by rw [hlen]; exact hl, by rw [hlen]; omega, ?_⟩, fun y hy => ?_, ⟨some a, c, by rw [hlen]⟩, ?_, ?_⟩
    · by_cases hl0 : l = 0
      · left; subst hl0; simp
      · right
        obtain ⟨b, off, spot⟩ := a
        have hspot : spot = none := by simpa [Addr.add] using World.cell?_spot (hcell 0 (by omega))
        subst hspot
        refine ⟨b, off, rfl, fun i y hi => ?_⟩
        have hil : i < l := by have := (List.getElem?_eq_some_iff.1 hi).1; omega
        rw [List.getElem?_take, if_pos hil] at hi
        have := hcell i (by omega)
        rw [Addr.add_mid] at this
        rw [this]
        simp [List.getD, hi]
    · have h2 := bounds_u8 (hwz y (List.mem_of_mem_take hy))
      omega
    · rw [hx]
      have h1 := bulk_len (lits (H := H) IntKind.u8 (zs.take l))
      simp only [lits, List.length_map] at h1
      simp only [Rows.uptoBulk, lits]
      omega
    · rw [hx]
      exact .inr ⟨_, _, rfl, by simp [lits]⟩
/-- a slice of bytes that came in -/
theorem bytes_arg {H : Type} {enc : TypeId × Value → H} {W : World} {a : Option Addr} {len cap : Nat} {d : DataW H} {p : List MemPlace} (h : DataW.Trod enc Tryz.prog W 0 (fun _ => true) true 34 (.slice a len cap) d p) :
    ∃ xs : List Int, xs.length = len ∧ BytesIn W (.slice a len cap) xs ∧ bytesOk xs ∧ (∀ ts ds : List _, ∀ j : Nat, ts[j]? = some 34 → ds[j]? = some d → (DataW.weightsEach Tryz.prog ts ds).all (· ≤ reachBytes) = true → len ≤ 140737488351232) := by
  obtain ⟨fuel, hf⟩ := h
  obtain ⟨v, xs, hcs, hin, hok, ⟨a', c', hv⟩, _, hd⟩ := bytes_raw hf
  simp only [Value.cells] at hcs
  obtain rfl : Value.slice a len cap = v := by simpa using hcs
  injection hv with e1 e2 e3
  refine ⟨xs, e2.symm, hin, hok, fun ts ds j ht hdj hw => ?_⟩
  rcases hd with ⟨_, rfl⟩ | ⟨elems, spare, he, hel⟩
  · simp at e2; omega
  · simp only at he
    rw [he] at hdj
    have := sized_slice hw (j := j) (t := 34) (e := 5) ht hdj Tryz.underlying34
    rw [bytesOfU8] at this
    simp only [reachBytes] at this
    omega
theorem bytes_argB {H : Type} {enc : TypeId × Value → H} {W : World} {a : Option Addr} {len cap : Nat} {d : DataW H} {p : List MemPlace} (h : DataW.Trod enc Tryz.prog W 0 (fun _ => true) true 34 (.slice a len cap) d p) :
    ∃ xs : List Int, xs.length = len ∧ BytesIn W (.slice a len cap) xs ∧ bytesOk xs ∧ len ≤ Rows.uptoBulk d := by
  obtain ⟨fuel, hf⟩ := h
  obtain ⟨v, xs, hcs, hin, hok, ⟨a', c', hv⟩, hbulk, hd⟩ := bytes_raw hf
  simp only [Value.cells] at hcs
  obtain rfl : Value.slice a len cap = v := by simpa using hcs
  injection hv with e1 e2 e3
  exact ⟨xs, e2.symm, hin, hok, by rw [e2]; exact hbulk⟩
/-- a slice of slices of bytes -/
def BssIn (w : World) (v : Value) (ps : List (List Int)) : Prop :=
  ∃ a c, v = .slice a ps.length c ∧ ps.length ≤ c ∧ ps.length ≤ maxLen ∧ (ps = [] ∨ ∃ ab ao, a = some ⟨ab, ao, none⟩ ∧ ∀ i p, ps[i]? = some p → ∃ u, w.cell? ⟨ab, ao + i, none⟩ = some u ∧ BytesIn w u p)
theorem BssIn.below {w w' : World} {v : Value} {ps : List (List Int)} (h : BssIn w v ps) (hb : Below w.heap.size w w') : BssIn w' v ps := by
  obtain ⟨a, c, rfl, hc, hm, hx⟩ := h
  refine ⟨a, c, rfl, hc, hm, ?_⟩
  rcases hx with hx | ⟨ab, ao, rfl, hx⟩
  · exact .inl hx
  · refine .inr ⟨ab, ao, rfl, fun i p hi => ?_⟩
    obtain ⟨u, hu, hp⟩ := hx i p hi
    exact ⟨u, (hb.cell (p := ⟨ab, ao + i, none⟩) (World.block_lt_of_cell? w _ hu)).trans hu, hp.below hb⟩
theorem cellsBs : Tryz.prog.cellsOf 34 = 1 := by kernel_rfl
theorem weights_all_mem {H : Type} {P : Program} {e : TypeId} : ∀ {l : List (DataW H)} {d : DataW H}, d ∈ l → ∀ n ∈ d.weights P e, n ∈ DataW.weightsAll P e l
  | x :: r, d, h, n, hn => by
    simp only [DataW.weightsAll]
    rcases List.mem_cons.1 h with rfl | h
    · exact List.mem_append_left _ hn
    · exact List.mem_append_right _ (weights_all_mem h n hn)
/-- a slice of slices of bytes that came in -/
theorem bytess_arg {H : Type} {enc : TypeId × Value → H} {W : World} {a : Option Addr} {len cap : Nat} {d : DataW H} {p : List MemPlace} (h : DataW.Trod enc Tryz.prog W 0 (fun _ => true) true 75 (.slice a len cap) d p) :
    ∃ ps : List (List Int), ps.length = len ∧ BssIn W (.slice a len cap) ps ∧ (∀ p ∈ ps, bytesOk p) ∧ (∀ p ∈ ps, p.length ≤ Rows.uptoBulk d) ∧
      (∀ ts ds : List _, ∀ j : Nat, ts[j]? = some 75 → ds[j]? = some d → (DataW.weightsEach Tryz.prog ts ds).all (· ≤ reachBytes) = true → ∀ p ∈ ps, p.length ≤ 140737488351232) := by
  obtain ⟨fuel, hf⟩ := h
  rcases Deep.open_slice Tryz.underlying75 hf with ⟨hcs, hx⟩ | ⟨x, l, c, m, n, D, Pl, hcs, _, hl, hm, hmm, hx, hel⟩
  · simp [Value.cells] at hcs
    obtain ⟨rfl, rfl, rfl⟩ := hcs
    exact ⟨[], rfl, ⟨_, _, rfl, by simp, by simp [maxLen], .inl rfl⟩, by simp, by simp, fun _ _ _ _ _ _ => by simp⟩
  · simp [Value.cells] at hcs
    obtain ⟨rfl, rfl, rfl⟩ := hcs
    simp only [if_true] at hmm
    simp only [Prod.mk.injEq] at hx
    obtain ⟨rfl, _⟩ := hx
    have key : ∀ i, i < len → ∃ t : Value × List Int, W.cell? (x.add i) = some t.1 ∧ BytesIn W t.1 t.2 ∧ bytesOk t.2 ∧ t.2.length ≤ Rows.uptoBulk (D i) ∧ (D i = .nil ∧ t.2 = [] ∨ ∃ elems spare, D i = .slice elems spare ∧ elems.length = t.2.length) := by
      intro i hi
      obtain ⟨cs', h1, h2⟩ := hel i (by omega)
      rw [cellsBs] at h1
      obtain ⟨_, hlen, hcell⟩ := World.cells?_some h1
      obtain ⟨v, xs, rfl, hin, hok, _, hbulk, hd⟩ := bytes_raw h2
      refine ⟨(v, xs), ?_, hin, hok, hbulk, hd⟩
      have := hcell 0 (by omega)
      rw [Nat.mul_one] at this
      simpa [Addr.add] using this
    obtain ⟨F, hF⟩ := Deep.choose_lt key
    have hget : ∀ (i : Nat) (t : List Int), ((List.range len).map fun i => (F i).2)[i]? = some t → i < len ∧ (F i).2 = t := fun i t hi => by
      have hil : i < len := by have := (List.getElem?_eq_some_iff.1 hi).1; simpa using this
      rw [List.getElem?_map, List.getElem?_range hil] at hi
      cases hi; exact ⟨hil, rfl⟩
    have hDm : ∀ i, i < len → D i ∈ (List.range len).map D := fun i hi => List.mem_map.2 ⟨i, List.mem_range.2 hi, rfl⟩
    refine ⟨(List.range len).map fun i => (F i).2, by simp, ⟨some x, cap, by simp, by simp; omega, by simp; omega, ?_⟩, fun t ht => ?_, fun t ht => ?_, fun ts ds j htj hdj hw t ht => ?_⟩
    · by_cases hl0 : len = 0
      · left; subst hl0; rfl
      · right
        obtain ⟨b, off, spot⟩ := x
        have h0 := (hF 0 (by omega)).1
        have hspot : spot = none := by simpa [Addr.add] using World.cell?_spot h0
        subst hspot
        refine ⟨b, off, rfl, fun i t hi => ?_⟩
        obtain ⟨hil, rfl⟩ := hget i t hi
        have := (hF i hil).1
        rw [Addr.add_mid] at this
        exact ⟨_, this, (hF i hil).2.1⟩
    · obtain ⟨i, hi, rfl⟩ := List.mem_map.1 ht
      exact (hF i (List.mem_range.1 hi)).2.2.1
    · obtain ⟨i, hi, rfl⟩ := List.mem_map.1 ht
      have h1 := (hF i (List.mem_range.1 hi)).2.2.2.1
      have h2 := bulk_mem (hDm i (List.mem_range.1 hi))
      simp only [Rows.uptoBulk]
      omega
    · obtain ⟨i, hi, rfl⟩ := List.mem_map.1 ht
      rcases (hF i (List.mem_range.1 hi)).2.2.2.2 with ⟨_, h2⟩ | ⟨elems, spare, h2, h3⟩
      · simp only [h2, List.length_nil]; omega
      · have h4 : (elems.length + spare.length) * Tryz.prog.bytesOf 5 ∈ (D i).weights Tryz.prog 34 := by
          rw [h2]; simp [DataW.weights, Tryz.underlying34]
        have h5 := weights_all_mem (hDm i (List.mem_range.1 hi)) _ h4
        have h6 : (elems.length + spare.length) * Tryz.prog.bytesOf 5 ∈ DataW.weightsEach Tryz.prog ts ds :=
          DataW.weights_mem_each htj hdj _ (by simp only [DataW.weights, Tryz.underlying75]; exact List.mem_cons_of_mem _ (List.mem_append_left _ h5))
        have h7 := of_decide_eq_true (List.all_eq_true.1 hw _ h6)
        rw [bytesOfU8, Nat.mul_one, show reachBytes = 140737488351232 from rfl] at h7
        omega
end Go.Proofs.YtanekacpalpcbaaGreatDoor
namespace Go.Proofs.YtanekacpalpcbaaGreatDoor
set_option linter.unusedVariables false
set_option linter.unusedSimpArgs false
open Go.ChangeShapes Go.WideShapes Go.ChangeAt Go.RowKit
theorem okWide_arr {P : Program} {w : World} {r : Reach} {base : Nat} {t e : TypeId} {n : Nat} {v : Value} (ht : P.underlying t = some (.array n e)) (h : Value.okWide P w r base t v) : ∃ cs, v = .agg cs ∧ cs.size = P.cellsOf t := by
  simp only [Value.okWide, ht] at h
  obtain ⟨cs, h1, h2, _⟩ := h
  exact ⟨cs, h1, h2⟩
theorem one_take {α : Type} {l : List α} {k : Nat} {v : α} (h : (l.drop k).take 1 = [v]) : l[k]? = some v := by
  have h1 : ((l.drop k).take 1)[0]? = some v := by rw [h]; rfl
  rw [List.getElem?_take, if_pos (by omega), List.getElem?_drop, Nat.add_zero] at h1
  exact h1
theorem arr_raw {H : Type} {enc : TypeId × Value → H} {W : World} {t e : TypeId} {k : IntKind} {n fuel : Nat} {cs : List Value} {x : DataW H × List MemPlace} (ht : Tryz.prog.underlying t = some (.array n e)) (he : Tryz.prog.underlying e = some (.int k)) (hc : Tryz.prog.cellsOf e = 1) (hct : Tryz.prog.cellsOf t = n)
    (h : DataW.trod enc Tryz.prog W 0 (fun _ => true) true fuel t cs = some x) : ∃ F : Nat → Int, cs = (rowOf k n F).toList ∧ ∀ i, i < n → (Lit.int k (F i)).wf = true := by
  obtain ⟨zs, m', _, _, hl, hzl, hzs⟩ := DataW.trod_array ht h
  have key : ∃ F : Nat → Int, ∀ j, j < n → cs[j]? = some (.int k (F j)) ∧ (Lit.int k (F j)).wf = true := by
    refine Deep.choose_lt (p := fun j v => cs[j]? = some (.int k v) ∧ (Lit.int k v).wf = true) fun j hj => ?_
    have h3 := hzs j hj
    rw [hc, Nat.mul_one, List.getElem?_eq_getElem (by omega)] at h3
    obtain ⟨v, hv, _, hw⟩ := DataW.trod_int he h3
    exact ⟨v, one_take hv, hw⟩
  obtain ⟨F, hF⟩ := key
  refine ⟨F, ?_, fun i hi => (hF i hi).2⟩
  apply List.ext_getElem?
  intro i
  rcases Nat.lt_or_ge i n with h1 | h1
  · rw [(hF i h1).1]; simp [rowOf, h1]
  · rw [List.getElem?_eq_none (by rw [hl, hct]; exact h1), List.getElem?_eq_none (by simpa [rowOf] using h1)]
theorem arr_arg {H : Type} {enc : TypeId × Value → H} {W : World} {t e : TypeId} {k : IntKind} {n : Nat} {cs : Array Value} {d : DataW H} {p : List MemPlace} (ht : Tryz.prog.underlying t = some (.array n e)) (he : Tryz.prog.underlying e = some (.int k)) (hc : Tryz.prog.cellsOf e = 1) (hct : Tryz.prog.cellsOf t = n)
    (h : DataW.Trod enc Tryz.prog W 0 (fun _ => true) true t (.agg cs) d p) : ∃ F : Nat → Int, cs = rowOf k n F ∧ ∀ i, i < n → (Lit.int k (F i)).wf = true := by
  obtain ⟨fuel, hf⟩ := h
  obtain ⟨F, h1, h2⟩ := arr_raw ht he hc hct hf
  refine ⟨F, ?_, h2⟩
  have h3 : cs.toList = (rowOf k n F).toList := by simpa [Value.cells] using h1
  exact Array.toList_inj.1 h3
end Go.Proofs.YtanekacpalpcbaaGreatDoor
namespace Go.Proofs.YtanekacpalpcbaaGreatDoor
set_option linter.unusedVariables false
set_option linter.unusedSimpArgs false
open Go.RowKit
set_option maxRecDepth 100000
end Go.Proofs.YtanekacpalpcbaaGreatDoor
namespace Go.Proofs.YtanekacpalpcbaaGreatDoor
set_option linter.unusedVariables false
set_option linter.unusedSimpArgs false
open Go.RowKit
set_option maxRecDepth 100000
variable {w w' : World} {F : Nat → Int} {leaf : Int} {v vo : Value} {xs ys : List Int}
theorem wpList_load_rowmid {ops : Array Oper} {rest : List Oper} {op : Oper} {a : Act} {w : World} {Q : Exit → Act → World → Prop} (hgd : op.guard = none) (ty : TypeId) (x : Operand) (ho : op.op = .load ty x)
    (b o : Nat) (hx : a.eval x = .pointer (some ⟨b, o, none⟩)) (k : IntKind) (n : Nat) (f : Nat → Int) (d : TypeDesc) (hc : w.rangeAt b o (rowOf k n f).toList)
    (hu : Tryz.prog.underlying ty = some d) (hd : d.isRow = true) (hi : (Tryz.prog.info? ty).map (·.size) = some n)
    (h : wpList Tryz.prog ops Q rest (a.put op.dst (.agg (rowOf k n f))) w) : wpList Tryz.prog ops Q (op :: rest) a w :=
  wpList_load_mid hgd ty x ho b o hx (rowOf k n f).toList d hc hu hd (by rw [hi]; simp [rowOf]) (by simpa using h)
end Go.Proofs.YtanekacpalpcbaaGreatDoor
namespace Go.Proofs.YtanekacpalpcbaaGreatDoor
set_option linter.unusedVariables false
set_option linter.unusedSimpArgs false
open Go.RowKit
set_option maxRecDepth 100000
def digR (text : List Int) (n : Int) : List Int × Option Nat := if 1 ≤ n ∧ n ≤ 32 then (digestF text n.toNat, none) else ([], some 1)
def pubR (seed : Nat → Int) (leaf : Int) (n : Nat) : (Nat → Int) × Option Nat := if 0 ≤ leaf ∧ leaf < 1024 ∧ 1 ≤ n ∧ n ≤ 32 then (pubF seed leaf n, none) else (zF, some 1)
def signR (seed : Nat → Int) (leaf : Int) (xs : List Int) : List Int × Option Nat := if 0 ≤ leaf ∧ leaf < 1024 ∧ 1 ≤ xs.length ∧ xs.length ≤ 32 then (signF seed leaf xs, none) else ([], some 1)
def dR (xs : List Int) : List Nat := if 1 ≤ xs.length ∧ xs.length ≤ 32 then digF xs else []
theorem dR_length (xs : List Int) : (dR xs).length ≤ 67 := by
  unfold dR
  split
  · rw [digF_length]; omega
  · simp
variable {w w' : World} {F : Nat → Int} {leaf : Int} {v vo : Value} {xs ys : List Int} {bs : List (Value × List Int)} {rs : List (Nat × (Nat → Int))}
end Go.Proofs.YtanekacpalpcbaaGreatDoor
namespace Go.Proofs.YtanekacpalpcbaaGreatDoor
set_option linter.unusedVariables false
set_option linter.unusedSimpArgs false
open Go.RowKit
set_option maxRecDepth 100000
def fromR (ss : List Int) (leaf : Int) (xs : List Int) : (Nat → Int) × Option Nat :=
  if 0 ≤ leaf ∧ leaf < 1024 ∧ 1 ≤ xs.length ∧ xs.length ≤ 32 then (if ss.length = 32 * (2 * xs.length + 3) then (fromF ss leaf xs, none) else (zF, some 2)) else (zF, some 1)
variable {w w' : World} {F : Nat → Int} {leaf s0 s1 s2 : Int} {v vo : Value} {xs ys : List Int}
end Go.Proofs.YtanekacpalpcbaaGreatDoor
namespace Go.Proofs.YtanekacpalpcbaaGreatDoor
set_option linter.unusedVariables false
set_option linter.unusedSimpArgs false
open Go.RowKit
set_option maxRecDepth 100000
def RowPost (f : Nat → Int) (w : World) (e : Ending) (w' : World) : Prop := e = .returned (.agg (rowOf .u8 32 f)) ∧ Below w.heap.size w w'
/-- a leaf and a result's zeros -/
theorem two_rows (w : World) (s0 : Nat → Int) : Below w.heap.size w ((w.alloc (.cells (rowOf .u8 32 s0) 65)).alloc (.cells (rowOf .u8 32 (fun _ => 0)) 65)) ∧ RowAt ((w.alloc (.cells (rowOf .u8 32 s0) 65)).alloc (.cells (rowOf .u8 32 (fun _ => 0)) 65)) w.heap.size .u8 32 65 s0 ∧ RowAt ((w.alloc (.cells (rowOf .u8 32 s0) 65)).alloc (.cells (rowOf .u8 32 (fun _ => 0)) 65)) (w.heap.size + 1) .u8 32 65 (fun _ => 0) := by
  refine ⟨(below_alloc w _).trans ((below_alloc _ _).mono (by simp)), (RowAt.new w _ _ _ _).alloc _, ?_⟩
  have := RowAt.new (w.alloc (.cells (rowOf .u8 32 s0) 65)) .u8 32 65 (fun _ => 0)
  rw [shSize_alloc] at this; exact this
theorem snoc_of {α : Type} {l : List α} {n : Nat} (h : l.length = n + 1) : ∃ a b, l = a ++ [b] ∧ a.length = n := by
  have hne : l ≠ [] := by intro e; rw [e] at h; cases h
  exact ⟨l.dropLast, l.getLast hne, (List.dropLast_concat_getLast hne).symm, by rw [List.length_dropLast, h]; rfl⟩
/-- Fold in all cases -/
def foldR (s0 : Nat → Int) (i : Int) (n : Nat) (ps : List (Nat → Int)) : (Nat → Int) × Option Nat :=
  if 0 ≤ i ∧ i < n then (if ps.length = (turnsF i.toNat n).length then (foldT s0 ((turnsF i.toNat n).reverse.zip ps), none) else (fun _ => 0, some 2)) else (fun _ => 0, some 1)
def ErrPost (r : (Nat → Int) × Option Nat) (f : Option Nat → Value) (w : World) (e : Ending) (w' : World) : Prop := e = .returned (.tuple #[.agg (rowOf .u8 32 r.1), f r.2]) ∧ Below w.heap.size w w'
theorem owns_wideB {w : World} {base n : Nat} {v : Value} {vs : List Value} (h : w.ownsRow base 4 1 v n vs) : ∃ a c, v = .slice a n c := by
  rcases h.2 with ⟨rfl, h0⟩ | ⟨g, c, _, rfl, _⟩
  · exact ⟨none, 0, by rw [h0]⟩
  · exact ⟨_, c, rfl⟩
end Go.Proofs.YtanekacpalpcbaaGreatDoor
namespace Go.Proofs.YtanekacpalpcbaaGreatDoor
set_option linter.unusedVariables false
set_option linter.unusedSimpArgs false
open Go.RowKit
set_option maxRecDepth 100000
theorem All32.foldR {ps qs : List (Nat → Int)} (h : All32 ps qs) (s : Nat → Int) (i : Int) (n : Nat) : foldR s i n ps = foldR s i n qs := by
  unfold Go.Proofs.YtanekacpalpcbaaGreatDoor.foldR
  rw [h.length, h.fold]
/-- the root of whom signed text so, or the error -/
def signerR (s : Sg) (D E : Int) (text : List Int) : (Nat → Int) × Option Nat :=
  match (digR text D).2 with
  | some x => (zF, some x)
  | none => match (fromR s.once (s.leaf : Int) (digR text D).1).2 with
    | some x => (zF, some x)
    | none => foldR (fromR s.once (s.leaf : Int) (digR text D).1).1 (s.leaf : Int) (2 ^ E.toNat) s.path
end Go.Proofs.YtanekacpalpcbaaGreatDoor
namespace Go.Proofs.YtanekacpalpcbaaGreatDoor
set_option linter.unusedVariables false
set_option linter.unusedSimpArgs false
open Go.RowKit
set_option maxRecDepth 100000
theorem kagg_yields {P : Program} {ops : Array Oper} {S : World → Prop} {op : Oper} {a : Act} (hw : Region.wanted op (yielded ops a.tmps) = true) (ty : TypeId) (x : Operand) (ho : op.op = .load ty x)
    (b : Nat) (hx : a.eval x = .pointer (some ⟨b, 0, none⟩)) (cs : Array Value) (d : TypeDesc) (hS : ∀ w, S w → w.heap[b]? = some (.cells cs ty (0, 0)))
    (hu : P.underlying ty = some d) (hd : d.isRow = true) (hi : (P.info? ty).map (·.size) = some cs.size) : YieldsIf P ops S op (.agg cs) a := by
  have h := yieldsIf_load_mid (P := P) (S := S) hw ty x ho b 0 hx cs.toList d (fun w h j v hv => by rw [Nat.zero_add, cell_of_row w b j _ ty _ (hS w h)]; simpa using hv) hu hd (by rw [hi]; simp)
  simpa using h
theorem heap_lt' {w : World} {g : Nat} {o : Obj} (h : w.heap[g]? = some o) : g < w.heap.size := (Array.getElem?_eq_some_iff.1 h).1
theorem digR_ok {xs : List Int} {D : Int} (h : 1 ≤ D ∧ D ≤ 32) : (digR xs D).2 = none ∧ bytesOk (digR xs D).1 ∧ (digR xs D).1.length = D.toNat := by
  unfold digR
  rw [if_pos h]
  refine ⟨rfl, fun x hx => ?_, ?_⟩
  · simp only [digestF, rowL, List.mem_map, List.mem_range] at hx
    obtain ⟨i, _, rfl⟩ := hx
    unfold sumF; unfold hsum; unfold outF; omega
  · simp [digestF, rowL]
end Go.Proofs.YtanekacpalpcbaaGreatDoor
namespace Go.Proofs.YtanekacpalpcbaaGreatDoor
set_option linter.unusedVariables false
set_option linter.unusedSimpArgs false
open Go.RowKit
set_option maxRecDepth 100000
/-- is it a signature? -/
def verR (root : Nat → Int) (D E : Int) (text sign : List Int) : Option Nat :=
  if kOk D E then
    (match (decS sign).2 with
    | some x => some x
    | none => if (signerR (decS sign).1 D E text).2 = none ∧ eqB (signerR (decS sign).1 D E text).1 root = true then none else some 21)
  else some 20
theorem neq32 (f g : Nat → Int) (w : World) : (binOp .neq 65 (.agg (rowOf .u8 32 f)) (.agg (rowOf .u8 32 g))).run Tryz.prog w = .ok (.bool (!eqB f g)) w := by
  rw [run_neq_struct, eqIn32]
  rfl
end Go.Proofs.YtanekacpalpcbaaGreatDoor
namespace Go.Proofs.YtanekacpalpcbaaGreatDoor
set_option linter.unusedVariables false
set_option linter.unusedSimpArgs false
open Go.RowKit
set_option maxRecDepth 100000
set_option linter.unusedSimpArgs false
set_option linter.unusedVariables false
def zV : Va := ⟨{ data := #[] }, fun _ => 0, 0⟩
/-- VerifyVote -/
def vvE (chain : ByteArray) (l : List Va) (D E : Int) (v : Vo) : Option Nat :=
  if canB v = true ∧ 0 ≤ v.val ∧ v.val < l.length then
    if kOk D E then (match verR ((l[v.val.toNat]?.getD zV).key) D E (vbL chain v) v.sign with | none => none | some _ => some 21) else some 20
  else some 31
theorem vv_idx {chain : ByteArray} {l : List Va} {D E : Int} {v : Vo} (h : vvE chain l D E v = none) : 0 ≤ v.val ∧ v.val < l.length := by
  unfold vvE at h
  by_cases hc : canB v = true ∧ 0 ≤ v.val ∧ v.val < l.length
  · exact hc.2
  · rw [if_neg hc] at h; cases h
theorem va_key {w : World} {ab o : Nat} {x : Va} (h : w.rangeAt ab o (vaC x).toList) : w.rangeAt ab (o + 1) (rowOf .u8 32 x.key).toList := fun j u hu => by
  have hj : j < 32 := by have := (List.getElem?_eq_some_iff.1 hu).1; simpa [rowOf_size] using this
  have := h (1 + j) u (by
    rw [Array.getElem?_toList]; unfold vaC
    rw [Array.getElem?_append_left (by simp [rowOf_size]; omega), Array.getElem?_append_right (by simp)]
    simpa using hu)
  rw [Nat.add_assoc]; exact this
theorem va_pow {w : World} {ab o : Nat} {x : Va} (h : w.rangeAt ab o (vaC x).toList) : w.cell? ⟨ab, o + 33, none⟩ = some (.int .i64 x.pow) :=
  h 33 _ (by
    rw [Array.getElem?_toList]; unfold vaC
    rw [Array.getElem?_append_right (by simp [rowOf_size])]; simp [rowOf_size])
end Go.Proofs.YtanekacpalpcbaaGreatDoor
namespace Go.Proofs.YtanekacpalpcbaaGreatDoor
set_option linter.unusedVariables false
set_option linter.unusedSimpArgs false
open Go.RowKit
set_option maxRecDepth 100000
set_option linter.unusedSimpArgs false
set_option linter.unusedVariables false
/-- the first error of so many -/
def fstE (f : Nat → Option Nat) : Nat → Option Nat
  | 0 => none
  | k + 1 => match fstE f k with
    | some x => some x
    | none => f k
theorem fstE_next {f : Nat → Option Nat} {k : Nat} (h : fstE f k = none) : fstE f (k + 1) = f k := by
  show (match fstE f k with | some x => some x | none => f k) = _
  rw [h]
theorem fstE_hit {f : Nat → Option Nat} {k x : Nat} (h : fstE f k = none) (hx : f k = some x) : ∀ n, k < n → fstE f n = some x
  | 0, hn => by omega
  | n + 1, hn => by
    rcases (by omega : k = n ∨ k < n) with rfl | h1
    · rw [fstE_next h, hx]
    · show (match fstE f n with | some x => some x | none => f n) = _
      rw [fstE_hit h hx n h1]
theorem fstE_none {f : Nat → Option Nat} : ∀ (n : Nat), fstE f n = none → ∀ k, k < n → f k = none
  | 0, _, k, hk => by omega
  | n + 1, h, k, hk => by
    have h1 : fstE f n = none := by
      cases e : fstE f n with
      | none => rfl
      | some x =>
        have : fstE f (n + 1) = some x := by show (match fstE f n with | some x => some x | none => f n) = _; rw [e]
        rw [this] at h; cases h
    rw [fstE_next h1] at h
    rcases (by omega : k = n ∨ k < n) with rfl | h2
    · exact h
    · exact fstE_none n h1 k h2
/-- greater than the one ahead of it -/
def prevB (vs : List Vo) (k : Nat) (v : Vo) : Bool := decide (k = 0) || (match vs[k - 1]? with | some u => decide (u.val < v.val) | none => true)
theorem prev_yes {vs : List Vo} {k : Nat} {v : Vo} (h : ∀ u, 0 < k → vs[k - 1]? = some u → u.val < v.val) : prevB vs k v = true := by
  unfold prevB
  by_cases h0 : k = 0
  · rw [decide_eq_true h0]; rfl
  · cases hu : vs[k - 1]? with
    | none => simp
    | some u => simp only; rw [decide_eq_true (h u (by omega) hu), Bool.or_true]
theorem prev_spec {vs : List Vo} {k : Nat} {v u : Vo} (h : prevB vs k v = true) (h0 : 0 < k) (hu : vs[k - 1]? = some u) : u.val < v.val := by
  unfold prevB at h
  rw [decide_eq_false (by omega), hu, Bool.false_or] at h
  exact of_decide_eq_true h
/-- a commit's vote in its place -/
def vcAt (chain : ByteArray) (l : List Va) (D E : Int) (c : Cm) (vs : List Vo) (k : Nat) : Option Nat :=
  match vs[k]? with
  | none => none
  | some v => if (partB v c && prevB vs k v) = true then vvE chain l D E v else some 31
def powV (l : List Va) (vs : List Vo) : Nat → Int
  | 0 => 0
  | k + 1 => match vs[k]? with
    | none => powV l vs k
    | some v => wrap64 (powV l vs k + (l[v.val.toNat]?.getD zV).pow)
theorem powV_next {l : List Va} {vs : List Vo} {k m : Nat} {v : Vo} {x : Va} (h : vs[k]? = some v) (hm : v.val = (m : Int)) (hx : l[m]? = some x) : powV l vs (k + 1) = wrap64 (powV l vs k + x.pow) := by
  show (match vs[k]? with | none => powV l vs k | some v => wrap64 (powV l vs k + (l[v.val.toNat]?.getD zV).pow)) = _
  rw [h]
  simp only
  rw [hm, Int.toNat_natCast, hx]
  rfl
/-- VerifyCommit -/
def vcE (chain : ByteArray) (l : List Va) (D E : Int) (c : Cm) (vs : List Vo) : Option Nat :=
  match ckE l with
  | some x => some x
  | none => if eqB c.blk (fun _ => 0) = true then some 31 else
    match fstE (vcAt chain l D E c vs) vs.length with
    | some x => some x
    | none => if twoB (powV l vs vs.length) (totV l) = true then none else some 32
theorem vc_spec {chain : ByteArray} {l : List Va} {D E : Int} {c : Cm} {vs : List Vo} (h : vcE chain l D E c vs = none) : ckE l = none ∧ (∀ k, k < vs.length → vcAt chain l D E c vs k = none) ∧ twoB (powV l vs vs.length) (totV l) = true := by
  unfold vcE at h
  cases h1 : ckE l with
  | some x => rw [h1] at h; cases h
  | none =>
    rw [h1] at h
    simp only at h
    split at h
    · cases h
    · cases h2 : fstE (vcAt chain l D E c vs) vs.length with
      | some x => rw [h2] at h; cases h
      | none =>
        rw [h2] at h
        simp only at h
        split at h
        · rename_i h3; exact ⟨rfl, fstE_none _ h2, h3⟩
        · cases h
theorem vo_val {w : World} {ab o : Nat} {v : Vo} (h : w.rangeAt ab o (voC v).toList) : w.cell? ⟨ab, o + 35, none⟩ = some (.int .i64 v.val) :=
  h 35 _ (by
    rw [Array.getElem?_toList]; unfold voC
    rw [Array.getElem?_append_right (by simp [rowOf_size])]; simp [rowOf_size])
theorem cmC_one (c : Cm) (a : Option Addr) (n k : Nat) : (cmC c (.slice a n k)).all (·.oneCell') = true := by
  unfold cmC
  rw [Array.all_append, Array.all_append, rowOf_one]
  simp [Value.oneCell']
theorem hash_zero : Tryz.prog.built 65 [] = some (rowOf .u8 32 (fun _ => 0)) := by kernel_rfl
/-- a vote that may be signed for -/
structure VoIs (v : Vo) : Prop where
  ok : VoOk v
  b : bytesOk v.sign
  z : v.sign.length ≤ 140737488355328
end Go.Proofs.YtanekacpalpcbaaGreatDoor
