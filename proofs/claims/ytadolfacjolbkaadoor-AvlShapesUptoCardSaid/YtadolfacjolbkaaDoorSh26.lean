/- Part 26 of the proof. -/
import Derived.Lib.SmallJoins
import Derived.Deep.Fields
import Derived.ChangeSame
import Derived.Test.YtadolfacjolbkaaDoorSh3
import Derived.Test.YtadolfacjolbkaaDoorSh25
namespace Go.Proofs.YtadolfacjolbkaaDoor
set_option linter.unusedVariables false
set_option linter.unusedSimpArgs false
open Go.ChangeShapes Go.WideShapes Go.ChangeAt Go.RowKit Go.Proofs
set_option maxRecDepth 100000
set_option linter.unusedSimpArgs false
set_option linter.unusedVariables false
/-- a slice of rows that came in: each row's cells are C t -/
theorem rows_raw {H α : Type} {enc : TypeId × Value → H} {W : World} {T E : TypeId} {n : Nat} (hT : Tryd.prog.underlying T = some (.slice E)) (hn : Tryd.prog.cellsOf E = n) (hn0 : 0 < n) (C : α → List Value) (hC : ∀ t, (C t).length = n) (Ok : α → Nat → Prop)
    (hel : ∀ (f : Nat) (cs : List Value) (x : DataW H × List MemPlace), DataW.trod enc Tryd.prog W 0 (fun _ => true) true f E cs = some x → ∃ t, cs = C t ∧ Ok t (Rows.uptoBulk x.1))
    {fuel : Nat} {cs : List Value} {x : DataW H × List MemPlace} (h : DataW.trod enc Tryd.prog W 0 (fun _ => true) true fuel T cs = some x) :
    ∃ (ts : List α) (a : Option Addr) (cap : Nat), cs = [.slice a ts.length cap] ∧ ts.length ≤ cap ∧ ts.length ≤ maxLen ∧ ts.length ≤ Rows.uptoBulk x.1 ∧
      (ts = [] ∨ ∃ b off, a = some ⟨b, off, none⟩ ∧ b < W.heap.size ∧ ∀ i t, ts[i]? = some t → W.rangeAt b (off + i * n) (C t)) ∧ ∀ t ∈ ts, ∃ k, Ok t k ∧ k ≤ Rows.uptoBulk x.1 := by
  rcases Deep.open_slice hT h with ⟨hcs, hx⟩ | ⟨ad, l, c, m, f, D, Pl, hcs, _, hl, hm, hmm, hx, hel2⟩
  · exact ⟨[], none, 0, hcs, by simp, by simp [maxLen], by simp, .inl rfl, by simp⟩
  · simp only [if_true] at hmm
    subst hx
    rw [hn] at hel2
    have key : ∀ i, i < l → ∃ t : α, (∀ j v, (C t)[j]? = some v → W.cell? (ad.add (i * n + j)) = some v) ∧ Ok t (Rows.uptoBulk (D i)) := by
      intro i hi
      obtain ⟨cs', h1, h2⟩ := hel2 i (by omega)
      obtain ⟨_, hlen, hcell⟩ := World.cells?_some h1
      obtain ⟨t, rfl, hok⟩ := hel f _ _ h2
      refine ⟨t, fun j v hv => ?_, hok⟩
      have hj : j < n := by have := (List.getElem?_eq_some_iff.1 hv).1; rw [hC] at this; exact this
      rw [← hv, ← hcell j hj]
      by_cases hj0 : j = 0 <;> by_cases hi0 : i * n = 0 <;> simp [hj0, hi0, Addr.add, Nat.add_assoc]
    have hnone : ∀ (i : Nat), l ≤ i → True := fun _ _ => trivial
    by_cases hl0 : l = 0
    · subst hl0
      exact ⟨[], some ad, c, hcs, by simp, by simp [maxLen], by simp, .inl rfl, by simp⟩
    · obtain ⟨t0, _⟩ := key 0 (by omega)
      have hinh : Nonempty α := ⟨t0⟩
      have key2 : ∀ i, ∃ t : α, i < l → (∀ j v, (C t)[j]? = some v → W.cell? (ad.add (i * n + j)) = some v) ∧ Ok t (Rows.uptoBulk (D i)) := fun i => by
        by_cases hi : i < l
        · obtain ⟨t, ht⟩ := key i hi; exact ⟨t, fun _ => ht⟩
        · exact ⟨t0, fun h => absurd h hi⟩
      obtain ⟨F, hF⟩ : ∃ F : Nat → α, ∀ i, i < l → (∀ j v, (C (F i))[j]? = some v → W.cell? (ad.add (i * n + j)) = some v) ∧ Ok (F i) (Rows.uptoBulk (D i)) := ⟨fun i => (key2 i).choose, fun i => (key2 i).choose_spec⟩
      have hget : ∀ i t, ((List.range l).map F)[i]? = some t → i < l ∧ F i = t := fun i t hi => by
        have hil : i < l := by have := (List.getElem?_eq_some_iff.1 hi).1; simpa using this
        rw [List.getElem?_map, List.getElem?_range hil] at hi
        cases hi; exact ⟨hil, rfl⟩
      have hblk := bulk_len ((List.range l).map D)
      simp only [List.length_map, List.length_range] at hblk
      refine ⟨(List.range l).map F, some ad, c, by simpa using hcs, by simpa using hl, by simp; omega, ?_, .inr ?_, fun t ht => ?_⟩
      · simp only [Rows.uptoBulk, List.length_map, List.length_range]; omega
      · obtain ⟨b, off, spot⟩ := ad
        have h1 : (C (F 0))[0]? = some (C (F 0))[0]! := by rw [List.getElem?_eq_getElem (by rw [hC]; exact hn0)]; simp [hC, hn0]
        have h0 := (hF 0 (by omega)).1 0 _ h1
        have hspot : spot = none := by simpa [Addr.add] using World.cell?_spot h0
        subst hspot
        refine ⟨b, off, rfl, by simpa [Addr.add] using World.block_lt_of_cell? _ _ h0, fun i t hi => ?_⟩
        obtain ⟨hil, rfl⟩ := hget i t hi
        intro j v hv
        have := (hF i hil).1 j v hv
        rw [Addr.add_mid] at this
        rw [Nat.add_assoc]; exact this
      · obtain ⟨i, hi, rfl⟩ := List.mem_map.1 ht
        have h2 := bulk_mem (d := D i) (l := (List.range l).map D) (List.mem_map.2 ⟨i, hi, rfl⟩)
        exact ⟨_, (hF i (List.mem_range.1 hi)).2, by simp only [Rows.uptoBulk]; omega⟩
theorem pvone {α : Type} {l : List α} {k : Nat} {v : α} (h : (l.drop k).take 1 = [v]) : l[k]? = some v := by
  have h1 : ((l.drop k).take 1)[0]? = some v := by rw [h]; rfl
  rw [List.getElem?_take, if_pos (by omega), List.getElem?_drop, Nat.add_zero] at h1
  exact h1
theorem bulkAt {H : Type} {d : DataW H} {l : List (DataW H)} {i : Nat} (h : l[i]? = some d) : Rows.uptoBulk d ≤ Rows.uptoBulkAll l := bulk_mem (List.mem_of_getElem? h)
end Go.Proofs.YtadolfacjolbkaaDoor
namespace Go.Proofs.YtadolfacjolbkaaDoor
set_option linter.unusedVariables false
set_option linter.unusedSimpArgs false
open Go.ChangeShapes Go.WideShapes Go.ChangeAt Go.RowKit Go.Proofs
set_option maxRecDepth 100000
set_option linter.unusedSimpArgs false
set_option linter.unusedVariables false
/-- v is a slice of the truths l -/
def BlIn (w : World) (v : Value) (l : List Bool) : Prop :=
  ∃ a cap, v = .slice a l.length cap ∧ l.length ≤ cap ∧ l.length ≤ maxLen ∧ (l = [] ∨ ∃ b off, a = some ⟨b, off, none⟩ ∧ b < w.heap.size ∧ ∀ i x, l[i]? = some x → w.cell? ⟨b, off + i, none⟩ = some (.bool x))
theorem BlIn.below {w w' : World} {v : Value} {l : List Bool} (h : BlIn w v l) (hb : Below w.heap.size w w') : BlIn w' v l := by
  obtain ⟨a, cap, rfl, hc, hm, h⟩ := h
  exact ⟨a, cap, rfl, hc, hm, h.imp id fun ⟨b, off, e, hl, hh⟩ => ⟨b, off, e, Nat.lt_of_lt_of_le hl hb.size, fun i x hi => (hb.cell (p := ⟨b, off + i, none⟩) hl).trans (hh i x hi)⟩⟩
theorem BlIn.len {w : World} {v : Value} {l : List Bool} (h : BlIn w v l) : ∃ a cap, v = .slice a l.length cap := by
  obtain ⟨a, cap, e, _⟩ := h
  exact ⟨a, cap, e⟩
theorem BlIn.at {w : World} {a : Option Addr} {n cap : Nat} {l : List Bool} (h : BlIn w (.slice a n cap) l) (i : Nat) (x : Bool) (hi : l[i]? = some x) : ∃ b off, a = some ⟨b, off, none⟩ ∧ b < w.heap.size ∧ w.cell? ⟨b, off + i, none⟩ = some (.bool x) := by
  obtain ⟨a', cap', e, hc, hm, hx⟩ := h
  injection e with e1 e2 e3
  subst e1
  rcases hx with rfl | ⟨b, off, rfl, hl, hx⟩
  · simp at hi
  · exact ⟨b, off, rfl, hl, hx i x hi⟩
theorem bool_raw {H : Type} {enc : TypeId × Value → H} {W : World} (f : Nat) (cs : List Value) (x : DataW H × List MemPlace) (h : DataW.trod enc Tryd.prog W 0 (fun _ => true) true f 4 cs = some x) : ∃ b : Bool, cs = [.bool b] ∧ True := by
  obtain ⟨b, hb, _⟩ := DataW.trod_bool Tryd.underlying4 h
  exact ⟨b, hb, trivial⟩
theorem bools_arg {H : Type} {enc : TypeId × Value → H} {W : World} {a : Option Addr} {len cap : Nat} {d : DataW H} {p : List MemPlace} (h : DataW.Trod enc Tryd.prog W 0 (fun _ => true) true 23 (.slice a len cap) d p) :
    ∃ l : List Bool, l.length = len ∧ BlIn W (.slice a len cap) l := by
  obtain ⟨fuel, hf⟩ := h
  obtain ⟨l, a', c', hcs, h2, h3, h4, h5, h6⟩ := rows_raw (n := 1) Tryd.underlying23 (by kernel_rfl) (by omega) (fun b : Bool => [Value.bool b]) (fun _ => rfl) (fun _ _ => True) bool_raw hf
  simp only [Value.cells] at hcs
  have hv : Value.slice a len cap = .slice a' l.length c' := by simpa using hcs
  injection hv with e1 e2 e3
  subst e1 e2 e3
  refine ⟨l, rfl, _, _, rfl, h2, h3, h5.imp id fun ⟨b, off, e, hl, hh⟩ => ⟨b, off, e, hl, fun i x hi => ?_⟩⟩
  have := hh i x hi 0 _ rfl
  rwa [Nat.mul_one, Nat.add_zero] at this
end Go.Proofs.YtadolfacjolbkaaDoor
namespace Go.Proofs.YtadolfacjolbkaaDoor
set_option linter.unusedVariables false
set_option linter.unusedSimpArgs false
open Go.RowKit
set_option maxRecDepth 100000
set_option linter.unusedSimpArgs false
set_option linter.unusedVariables false
def blVals (l : List Bool) : List Value := l.map Value.bool
theorem blVals_length (l : List Bool) : (blVals l).length = l.length := by simp [blVals]
theorem blVals_append (a b : List Bool) : blVals (a ++ b) = blVals a ++ blVals b := by simp [blVals]
theorem blVals_one (l : List Bool) : ∀ v ∈ blVals l, v.oneCell' = true := by
  intro v hv
  simp only [blVals, List.mem_map] at hv
  obtain ⟨i, _, rfl⟩ := hv
  rfl
theorem infoBl : (Tryd.prog.info? 4).map (fun i => (i.zero, i.size, i.bytes)) = some (some (.bool false), 1, 1) := by kernel_rfl
theorem owns_bools {w : World} {base : Nat} {v : Value} {l : List Bool} (h : w.ownsRow base 4 1 v l.length (blVals l)) (hl : l.length ≤ maxLen) : BlIn w v l := by
  rcases h.2 with ⟨rfl, h0⟩ | ⟨g, c, cur, rfl, hb, hg, hc, hm, hs, ht⟩
  · obtain rfl := List.eq_nil_of_length_eq_zero h0
    exact ⟨none, 0, rfl, Nat.le_refl _, hl, .inl rfl⟩
  · refine ⟨_, c, rfl, hc, hl, .inr ⟨g, 0, rfl, (Array.getElem?_eq_some_iff.1 hg).1, fun i x hi => ?_⟩⟩
    have := h.cells (g := g) rfl i (.bool x) (by simp [blVals, hi])
    rw [Addr.add_mid] at this
    exact this
theorem bools_nil (w : World) : BlIn w (.slice none 0 0) [] := ⟨_, _, rfl, by simp, by simp [maxLen], .inl rfl⟩
theorem bool1_in (w : World) (x : Bool) : BlIn (w.alloc (.cells #[.bool x] 4)) (.slice (some ⟨w.heap.size, 0, none⟩) 1 1) [x] := by
  refine ⟨_, _, rfl, Nat.le_refl _, by simp [maxLen], .inr ⟨_, _, rfl, by simp, fun i y hi => ?_⟩⟩
  rw [Nat.zero_add, cell_of_row _ _ _ _ _ _ (heap_alloc_new w _)]
  cases i with
  | zero => cases hi; rfl
  | succ i => cases hi
theorem bool1_own (w : World) (x : Bool) {B : Nat} (hB : B ≤ w.heap.size) : (w.alloc (.cells #[.bool x] 4)).ownsRow B 4 1 (.slice (some ⟨w.heap.size, 0, none⟩) 1 1) [x].length (blVals [x]) :=
  World.ownsRow_lit w #[.bool x] 1 hB (by simp [maxLen]) rfl
/-- what append of truths does: v, which one has, and y, which is not nil or is -/
theorem run_append_bools {w : World} (base : Nat) (v : Value) (l : List Bool) (hown : w.ownsRow base 4 1 v l.length (blVals l)) (y : Value) (m : List Bool) (hy : BlIn w y m) (hl : l.length + m.length ≤ 17592186044416) (hb : base ≤ w.heap.size) :
    ∃ v' w', (Builtin.append_ #[23, 23] 23 #[v, y]).run Tryd.prog w = .ok v' w' ∧ w'.ownsRow base 4 1 v' (l ++ m).length (blVals (l ++ m)) ∧ w.grownBy w' v.ownBlock := by
  obtain ⟨i0, hi, hz0, hz1, hz2⟩ := info_parts infoBl
  obtain ⟨ad, c, rfl, hc, hm, hxx⟩ := hy
  rcases hxx with rfl | ⟨ab, ao, rfl, hlt, hxx⟩
  · refine ⟨v, w, ?_, by rw [List.append_nil]; exact hown, ⟨rfl, rfl, rfl, Nat.le_refl _, fun _ _ _ => rfl⟩⟩
    rcases hown.2 with ⟨rfl, h0⟩ | ⟨g, cap, cur, rfl, _, _, hnc, _⟩
    · cases ad <;> simp [Builtin.append_, run_underlying Tryd.underlying23, sizeOf, typeInfo, hi, Builtin.lenOf, Builtin.firstCells, loadCells, loadCellsFrom, storeCells]
    · cases ad <;> simp [Builtin.append_, run_underlying Tryd.underlying23, sizeOf, typeInfo, hi, Builtin.lenOf, Builtin.firstCells, hnc, storeCells, loadCells, loadCellsFrom]
  · have hcells : ∀ j u, (blVals m)[j]? = some u → w.cell? ((⟨ab, ao, none⟩ : Addr).add j) = some u := fun j u hu => by
      rw [Addr.add_mid]
      simp only [blVals, List.getElem?_map] at hu
      cases hj : m[j]? with
      | none => rw [hj] at hu; cases hu
      | some x => rw [hj] at hu; cases hu; exact hxx j x hj
    obtain ⟨v', w', hr, h1, h2, _, _⟩ := run_append_own_at w base 23 23 4 i0 (.bool false) 1 1 Tryd.underlying23 hi hz0 hz1 hz2 rfl (by decide) v l.length (blVals l) hown ⟨ab, ao, none⟩ m.length c (blVals m) (by rw [blVals_length, Nat.mul_one]) hcells (blVals_one m) (by unfold maxLen; omega) (by omega) hb
    exact ⟨v', w', hr, by rw [List.length_append, blVals_append]; exact h1, h2⟩
theorem wp_append_bools {w : World} {o : Oper} {a : Act} {K : Act → World → Prop} {Q : Exit → Act → World → Prop} (s x : Operand)
    (ho : o.op = .call { callee := .builtin .append, args := #[s, x], argTypes := #[23, 23] }) (hty : o.type = 23)
    (base : Nat) (v : Value) (l : List Bool) (hs : a.eval s = v) (hown : w.ownsRow base 4 1 v l.length (blVals l)) (y : Value) (m : List Bool) (hx : a.eval x = y) (hy : BlIn w y m) (hl : l.length + m.length ≤ 17592186044416) (hb : base ≤ w.heap.size)
    (h : ∀ v' w', w'.ownsRow base 4 1 v' (l ++ m).length (blVals (l ++ m)) → w.grownBy w' v.ownBlock → K (a.put o.dst v') w') : o.wp Tryd.prog a w K Q := by
  obtain ⟨v', w', hr, h1, h2⟩ := run_append_bools base v l hown y m hy hl hb
  unfold Oper.wp execOp
  simp only [ho, hty, resolve, invoke, builtin, Sem.run_bind, Sem.run_pure, Result.andThen_ok, List.map_toArray, List.map_cons, List.map_nil, hs, hx, hr]
  exact h v' w' h1 h2
theorem wpList_append_bools {w : World} {ops : Array Oper} {rest : List Oper} {o : Oper} {a : Act} {Q : Exit → Act → World → Prop} (hgd : o.guard = none) (s x : Operand)
    (ho : o.op = .call { callee := .builtin .append, args := #[s, x], argTypes := #[23, 23] }) (hty : o.type = 23)
    (base : Nat) (v : Value) (l : List Bool) (hs : a.eval s = v) (hown : w.ownsRow base 4 1 v l.length (blVals l)) (y : Value) (m : List Bool) (hx : a.eval x = y) (hy : BlIn w y m) (hl : l.length + m.length ≤ 17592186044416) (hb : base ≤ w.heap.size)
    (h : ∀ v' w', w'.ownsRow base 4 1 v' (l ++ m).length (blVals (l ++ m)) → w.grownBy w' v.ownBlock → wpList Tryd.prog ops Q rest (a.put o.dst v') w') : wpList Tryd.prog ops Q (o :: rest) a w :=
  wpList_plain hgd fun K hK => wp_append_bools s x ho hty base v l hs hown y m hx hy hl hb fun v' w' h1 h2 => hK _ _ (h v' w' h1 h2)
theorem owns_wide_bl {w : World} {base : Nat} {v : Value} {n : Nat} {xs : List Value} (h : w.ownsRow base 4 1 v n xs) : ∃ a c, v = .slice a n c := by
  rcases h.2 with ⟨rfl, rfl⟩ | ⟨g, c, cur, rfl, _⟩
  · exact ⟨_, _, rfl⟩
  · exact ⟨_, _, rfl⟩
end Go.Proofs.YtadolfacjolbkaaDoor
