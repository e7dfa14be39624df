/- Part 12 of the proof. -/
import Derived.Shelf.SlicesQ.Reverse
import Derived.Great.BuildSlice
import Derived.Test.YtabflppnecemkaaGreatDoorProg
import Derived.Test.YtabflppnecemkaaGreatDoorPb9
import Derived.Test.YtabflppnecemkaaGreatDoorPb11
namespace Go.Proofs
set_option linter.unusedVariables false
set_option linter.unusedSimpArgs false
open Go.Shelf
def Tryz.avrev_ren : Go.Shelf.Ren := ⟨fun | 35 => 96 | n => n, fun | 0 => 0 | 3 => 3 | 4 => 4 | 22 => 29 | 23 => 65 | n => n, fun | n => n⟩
theorem Tryz.avrev : SlLaysE0.n35 Tryz.prog Tryz.avrev_ren := {
  mixed := by kernel_rfl
  f35 := ⟨(Tryz.f96).name, by kernel_rfl, Tryz.func96.trans (congrArg some (by kernel_rfl))⟩
  t0 := Tryz.underlying0
  a0 := Tryz.isAgg0
  z0 := Tryz.sizeOf0
  v0 := Tryz.zeroValue0
  t3 := Tryz.underlying3
  a3 := Tryz.isAgg3
  z3 := Tryz.sizeOf3
  v3 := Tryz.zeroValue3
  t4 := Tryz.underlying4
  a4 := Tryz.isAgg4
  z4 := Tryz.sizeOf4
  v4 := Tryz.zeroValue4
  t22 := Tryz.underlying29
  a22 := Tryz.isAgg29
  z22 := Tryz.sizeOf29
  v22 := Tryz.zeroValue29 }
end Go.Proofs
namespace Go.Proofs.YtabflppnecemkaaGreatDoor
open Go.RowKit Go.Sort
set_option maxRecDepth 100000
set_option linter.unusedSimpArgs false
set_option linter.unusedVariables false
/-- a Step -/
structure AvS where
  sec : Bool
  many : Int
  oth : Nat → Int
instance : Inhabited AvS := ⟨⟨false, 0, fun _ => 0⟩⟩
def stC (s : AvS) : Array Value := #[.bool s.sec, .int .i64 s.many] ++ rowOf .u8 32 s.oth
def AvS.cells (s : AvS) : List Value := (stC s).toList
theorem stC_size (s : AvS) : (stC s).size = 34 := by simp [stC, rowOf_size]
theorem AvS.cells_length (s : AvS) : s.cells.length = 34 := by simp [AvS.cells, stC_size]
theorem stC_one (s : AvS) : (stC s).all (·.oneCell') = true := by
  unfold stC
  rw [Array.all_append, rowOf_one]
  simp [Value.oneCell']
theorem AvS.cells_one (s : AvS) : ∀ v ∈ s.cells, v.oneCell' = true := fun v hv => (Array.all_eq_true_iff_forall_mem.1 (stC_one s)) v (by simpa [AvS.cells] using hv)
def flatSt (l : List AvS) : List Value := l.flatMap AvS.cells
theorem flatSt_cons (p : AvS) (l : List AvS) : flatSt (p :: l) = p.cells ++ flatSt l := List.flatMap_cons
theorem flatSt_length (l : List AvS) : (flatSt l).length = l.length * 34 := by
  induction l with
  | nil => rfl
  | cons p l ih =>
    rw [flatSt_cons, List.length_append, AvS.cells_length, ih, List.length_cons]; omega
theorem flatSt_append (a b : List AvS) : flatSt (a ++ b) = flatSt a ++ flatSt b := List.flatMap_append
theorem flatSt_get (l : List AvS) : ∀ (i : Nat) (s : AvS), l[i]? = some s → ∀ j, j < 34 → (flatSt l)[i * 34 + j]? = s.cells[j]? := by
  induction l with
  | nil => intro i s h; simp at h
  | cons q l ih =>
    intro i s h j hj
    have hq := q.cells_length
    rw [flatSt_cons]
    cases i with
    | zero =>
      simp only [List.getElem?_cons_zero, Option.some.injEq] at h
      subst h
      rw [Nat.zero_mul, Nat.zero_add, List.getElem?_append_left (by omega)]
    | succ i =>
      rw [List.getElem?_append_right (by omega), hq, show (i + 1) * 34 + j - 34 = i * 34 + j by omega]
      exact ih i s (by simpa using h) j hj
theorem flatSt_one (l : List AvS) : ∀ u ∈ flatSt l, u.oneCell' = true := by
  intro u hu
  simp only [flatSt, List.mem_flatMap] at hu
  obtain ⟨p, _, hp⟩ := hu
  exact p.cells_one u hp
theorem infoSt : (Tryz.prog.info? 65).map (fun i => (i.zero, i.size, i.bytes)) = some (some (.agg (stC ⟨false, 0, fun _ => 0⟩)), 34, 48) := by kernel_rfl
def StIn (w : World) (v : Value) (l : List AvS) : Prop :=
  ∃ a cap, v = .slice a l.length cap ∧ l.length ≤ cap ∧ l.length ≤ maxLen ∧ (l = [] ∨ ∃ ab ao, a = some ⟨ab, ao, none⟩ ∧ ab < w.heap.size ∧ ∀ i s, l[i]? = some s → w.rangeAt ab (ao + i * 34) s.cells)
theorem StIn.below {w w' : World} {v : Value} {l : List AvS} (h : StIn w v l) (hb : Below w.heap.size w w') : StIn w' v l := by
  obtain ⟨a, cap, rfl, hc, hm, hx⟩ := h
  refine ⟨a, cap, rfl, hc, hm, hx.imp id ?_⟩
  rintro ⟨ab, ao, rfl, hlt, hx⟩
  exact ⟨ab, ao, rfl, Nat.lt_of_lt_of_le hlt hb.size, fun i p hi => range_below (hx i p hi) hb hlt⟩
theorem StIn.of_own {w : World} {B : Nat} {v : Value} {l : List AvS} (h : w.ownsRow B 65 34 v l.length (flatSt l)) : StIn w v l := by
  rcases h.2 with ⟨rfl, h0⟩ | ⟨tb, cap, cur, rfl, _, hh, hc, hm, _⟩
  · exact ⟨none, 0, by rw [h0], by omega, by simp [maxLen]; omega, .inl (List.eq_nil_of_length_eq_zero h0)⟩
  · refine ⟨_, cap, rfl, hc, Nat.le_trans hc hm, .inr ⟨tb, 0, rfl, (Array.getElem?_eq_some_iff.1 hh).1, fun i s hi j u hu => ?_⟩⟩
    have hj : j < 34 := by have := (List.getElem?_eq_some_iff.1 hu).1; rw [AvS.cells_length] at this; exact this
    have e1 := h.cells (g := tb) rfl (i * 34 + j) u (by rw [flatSt_get l i s hi j hj]; exact hu)
    rw [Addr.add_mid] at e1
    rw [show 0 + i * 34 + j = 0 + (i * 34 + j) by omega]; exact e1
theorem StIn.len {w : World} {v : Value} {l : List AvS} (h : StIn w v l) : ∃ a cap, v = .slice a l.length cap := by
  obtain ⟨a, cap, e, _⟩ := h
  exact ⟨a, cap, e⟩
theorem StIn.at {w : World} {a : Option Addr} {n cap : Nat} {l : List AvS} (h : StIn w (.slice a n cap) l) (i : Nat) (s : AvS) (hi : l[i]? = some s) : ∃ ab ao, a = some ⟨ab, ao, none⟩ ∧ ab < w.heap.size ∧ w.rangeAt ab (ao + i * 34) s.cells := by
  obtain ⟨a', cap', e, hc, hm, hx⟩ := h
  injection e with e1 e2 e3
  subst e1
  rcases hx with rfl | ⟨ab, ao, rfl, hlt, hx⟩
  · simp at hi
  · exact ⟨ab, ao, rfl, hlt, hx i s hi⟩
/-- append of one Step, in a block of its own, to a slice of one's own -/
theorem wp_append_step {w : World} {o : Oper} {a : Act} {K : Act → World → Prop} {Q : Exit → Act → World → Prop} (s x : Operand)
    (ho : o.op = .call { callee := .builtin .append, args := #[s, x], argTypes := #[29, 29] }) (hty : o.type = 29)
    (base : Nat) (v : Value) (l : List AvS) (hs : a.eval s = v) (hown : w.ownsRow base 65 34 v l.length (flatSt l)) (b : Nat) (st : AvS) (hx : a.eval x = .slice (some ⟨b, 0, none⟩) 1 1) (hy : w.heap[b]? = some (.cells (stC st) 65 (0, 0))) (hl : (l.length + 1) * 48 ≤ 140737488355328) (hb : base ≤ w.heap.size)
    (h : ∀ v' w', w'.ownsRow base 65 34 v' (l ++ [st]).length (flatSt (l ++ [st])) → w.grownBy w' v.ownBlock → K (a.put o.dst v') w') : o.wp Tryz.prog a w K Q := by
  obtain ⟨i0, hi, hz0, hz1, hz2⟩ := info_parts infoSt
  obtain ⟨v', w', hr, h1, h2, _, _⟩ := run_append_own_at w base 29 29 65 i0 _ 34 48 Tryz.underlying29 hi hz0 hz1 hz2 (by simp [Value.cells, stC_size]) (by decide) v l.length (flatSt l) hown ⟨b, 0, none⟩ 1 1 st.cells (by rw [AvS.cells_length])
    (fun j u hj => by rw [Addr.add_mid, Nat.zero_add, cell_of_row w b j _ _ _ hy]; simpa [AvS.cells] using hj) st.cells_one (by unfold maxLen; omega) hl hb
  unfold Oper.wp execOp
  simp only [ho, hty, resolve, invoke, builtin, Sem.run_bind, Sem.run_pure, Result.andThen_ok, List.map_toArray, List.map_cons, List.map_nil, hs, hx, hr]
  exact h v' w' (by rw [List.length_append, flatSt_append, show flatSt [st] = st.cells from by simp [flatSt]]; exact h1) h2
theorem st_fill (s : AvS) : Instr.fill (fun i => some (i * 34, 34)) ((Array.range (1 * 34)).map ((Value.agg (stC ⟨false, 0, fun _ => 0⟩)).cells[· % (Value.agg (stC ⟨false, 0, fun _ => 0⟩)).cells.size]!)) [(0, .agg (stC s))] = some (stC s) := by kernel_rfl
/-- a slice of one Step -/
theorem wp_step1 {o : Oper} {a : Act} {w : World} {K : Act → World → Prop} {Q : Exit → Act → World → Prop} (x : Operand) (ho : o.op = .buildSlice 29 1 #[(0, x)]) (s : AvS) (hx : a.eval x = .agg (stC s))
    (h : K (a.put o.dst (.slice (some ⟨w.heap.size, 0, none⟩) 1 1)) (w.alloc (.cells (stC s) 65))) : o.wp Tryz.prog a w K Q := by
  obtain ⟨i0, hi, hz0, hz1, hz2⟩ := info_parts infoSt
  refine wp_buildSlice 29 65 1 #[(0, x)] ho (stC s) i0 _ Tryz.underlying29 hi hz0 (by rw [hz1]; decide) (by rw [hz1]; decide) ?_ h
  rw [hz1]
  simpa [hx] using st_fill s
theorem st_built (b : Bool) (m : Int) (F : Nat → Int) : Tryz.prog.built 65 [(0, .bool b), (1, .int .i64 m), (2, .agg (rowOf .u8 32 F))] = some (stC ⟨b, m, F⟩) := by kernel_rfl
theorem below_putRowK {α : Type} [Inhabited α] {B : Nat} {w0 w : World} (enc : α → List Value) (k n g : Nat) (d : Array α) (h : Below B w0 w) (hg : B ≤ g) : Below B w0 (putRowK enc k (Sort.ahead w n) g 0 d) := by
  refine h.trans ⟨rfl, rfl, rfl, by simp [putRowK, Sort.ahead], fun i hi => ?_⟩
  have : g ≠ i := by omega
  simp [putRowK, putRow, mapBlock, Sort.ahead, Array.getElem?_modify, this]
theorem flatK_st (l : List AvS) (j : Nat) (h : j < l.length * 34) : (flatSt l)[j]? = some (flatK AvS.cells 34 l.toArray)[j]! := by
  have hi : j / 34 < l.length := by omega
  rw [get_flatK _ _ _ _ (by simpa using h)]
  have e := flatSt_get l (j / 34) l[j / 34] (List.getElem?_eq_getElem hi) (j % 34) (by omega)
  rw [show j / 34 * 34 + j % 34 = j by omega] at e
  rw [e]
  have hz : (l[j / 34]).cells.length = 34 := AvS.cells_length _
  rw [List.getElem?_eq_getElem (by omega)]
  simp [hi, List.getElem?_eq_getElem (show j % 34 < (l[j / 34]).cells.length by omega)]
/-- slices.Reverse of one's own Steps -/
theorem revSteps_any (B : Nat) (v : Value) (l : List AvS) (w0 w : World) (h : w.ownsRow B 65 34 v l.length (flatSt l)) (hb : Below B w0 w) (hm : l.length ≤ 1099511627776) :
    Calls Tryz.prog 96 #[v] w fun e w' => e = .returned (.tuple #[]) ∧ StIn w' v l.reverse ∧ Below B w0 w' := by
  rcases h.2 with ⟨rfl, h0⟩ | ⟨g, cap, cur, rfl, hB, hh, hc, hcm, hs, ht⟩
  · have hl := List.eq_nil_of_length_eq_zero h0
    subst hl
    refine (AnyQ.slices_Reverse_empty Tryz.avrev none 0 w).mono ?_
    rintro e w' ⟨rfl, rfl⟩
    exact ⟨rfl, ⟨none, 0, rfl, by simp, by simp [maxLen], .inl rfl⟩, hb⟩
  · have hH : HoldsK AvS.cells 34 w g 0 l.toArray := fun j hj => by
      rw [size_flatK] at hj
      have hj' : j < l.length * 34 := by simpa using hj
      have e1 := h.cells (g := g) rfl j _ (flatK_st l j hj')
      rw [Addr.add_mid] at e1
      exact ⟨e1, frozen_of_row w g _ _ _ hh⟩
    have hR := AnyQ.slices_Reverse Tryz.avrev 34 Tryz.isAgg65 Tryz.sizeOf65 AvS.cells AvS.cells_length AvS.cells_one g 0 cap l.toArray w hH (by simp; omega)
    rw [show l.toArray.size = l.length by simp] at hR
    refine hR.mono ?_
    rintro e w' ⟨rfl, n, rfl⟩
    refine ⟨rfl, ?_, below_putRowK _ _ _ _ _ hb hB⟩
    have hH2 := holdsK_putRowK (enc := AvS.cells) (k := 34) (Sort.ahead w n) g 0 l.toArray l.toArray.reverse (holdsK_ahead _ _ w n g 0 l.toArray hH) (by simp)
    have hgl : g < w.heap.size := (Array.getElem?_eq_some_iff.1 hh).1
    refine ⟨_, cap, by rw [List.length_reverse], by rw [List.length_reverse]; exact hc, by rw [List.length_reverse]; omega, .inr ⟨g, 0, rfl, by simpa [putRowK, Sort.ahead] using hgl, fun i s hi j u hu => ?_⟩⟩
    have hj : j < 34 := by have := (List.getElem?_eq_some_iff.1 hu).1; rw [AvS.cells_length] at this; exact this
    have hil : i < l.length := by have := (List.getElem?_eq_some_iff.1 hi).1; simpa using this
    have e2 := (hH2 (i * 34 + j) (by rw [size_flatK]; simp; omega)).1
    rw [show l.toArray.reverse = l.reverse.toArray by simp] at e2 ⊢
    have e3 := flatK_st l.reverse (i * 34 + j) (by rw [List.length_reverse]; omega)
    rw [flatSt_get _ i s hi j hj, hu] at e3
    rw [show 0 + i * 34 + j = 0 + (i * 34 + j) by omega, e2]
    simpa using e3.symm
end Go.Proofs.YtabflppnecemkaaGreatDoor
