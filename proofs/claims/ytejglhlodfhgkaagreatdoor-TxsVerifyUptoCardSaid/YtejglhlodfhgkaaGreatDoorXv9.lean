/- Part 9 of the proof. -/
import Derived.Lib.LaidTab
import Derived.Lib.SmallJoins
import Derived.Deep.Fields
import Derived.Test.YtejglhlodfhgkaaGreatDoorXv8
namespace Go.Proofs.YtejglhlodfhgkaaGreatDoor
set_option linter.unusedVariables false
set_option linter.unusedSimpArgs false
open Go.RowKit Go.ChangeShapes
set_option maxRecDepth 100000
set_option linter.unusedSimpArgs false
set_option linter.unusedVariables false
def shpR (r : Nat × Nat × Nat) : List Int := [(r.1 : Int), (r.2.1 : Int), (r.2.2 : Int)]
/-- the table lies there -/
def ShTab (w : World) : Prop := ∀ (i : Nat) (r : Nat × Nat × Nat), shpL[i]? = some r → w.cell? ⟨0, i * 3, none⟩ = some (.int .i64 (r.1 : Int)) ∧ w.cell? ⟨0, i * 3 + 1, none⟩ = some (.int .i64 (r.2.1 : Int)) ∧ w.cell? ⟨0, i * 3 + 2, none⟩ = some (.int .i64 (r.2.2 : Int))
theorem ShTab.lt {w : World} (h : ShTab w) : 0 < w.heap.size := World.block_lt_of_cell? w _ (h 0 (0, 0, 0) rfl).1
theorem ShTab.below {w w' : World} {B : Nat} (h : ShTab w) (hb : Below B w w') (hB : 0 < B) : ShTab w' := fun i r hi => by
  obtain ⟨h1, h2, h3⟩ := h i r hi
  exact ⟨(hb.cell (p := ⟨0, i * 3, none⟩) hB).trans h1, (hb.cell (p := ⟨0, i * 3 + 1, none⟩) hB).trans h2, (hb.cell (p := ⟨0, i * 3 + 2, none⟩) hB).trans h3⟩
theorem shape_raw {H : Type} {enc : TypeId × Value → H} {W : World} {base : Nat} {sp : Nat → Bool} {held : Bool} {fuel : Nat} {cs : List Value} {a b c : Int} {p : List MemPlace} (h : DataW.trod enc Tryz.prog W base sp held fuel 137 cs = some (.agg [.lit (.int .i64 a), .lit (.int .i64 b), .lit (.int .i64 c)], p)) : cs = [.int .i64 a, .int .i64 b, .int .i64 c] := by
  obtain ⟨xs, m, _, hxe, hlen, hxl, hf⟩ := DataW.trod_struct Tryz.underlying137 h
  rw [show Tryz.prog.cellsOf 137 = 3 by kernel_rfl] at hlen
  simp only [List.size_toArray, List.length_cons, List.length_nil] at hxl
  have g : ∀ i, i < 3 → ∃ y, xs[i]? = some y := fun i hi => ⟨xs[i], List.getElem?_eq_getElem (by omega)⟩
  obtain ⟨y0, e0⟩ := g 0 (by omega)
  obtain ⟨y1, e1⟩ := g 1 (by omega)
  obtain ⟨y2, e2⟩ := g 2 (by omega)
  have f0 : DataW.trod enc Tryz.prog W base sp held m 3 ((cs.drop 0).take (Tryz.prog.cellsOf 3)) = xs[0]? := hf 0 _ rfl
  have f1 : DataW.trod enc Tryz.prog W base sp held m 3 ((cs.drop 1).take (Tryz.prog.cellsOf 3)) = xs[1]? := hf 1 _ rfl
  have f2 : DataW.trod enc Tryz.prog W base sp held m 3 ((cs.drop 2).take (Tryz.prog.cellsOf 3)) = xs[2]? := hf 2 _ rfl
  rw [e0, show Tryz.prog.cellsOf 3 = 1 by kernel_rfl] at f0
  rw [e1, show Tryz.prog.cellsOf 3 = 1 by kernel_rfl] at f1
  rw [e2, show Tryz.prog.cellsOf 3 = 1 by kernel_rfl] at f2
  obtain ⟨k0, h0, x0, _⟩ := DataW.trod_int Tryz.underlying3 f0
  obtain ⟨k1, h1, x1, _⟩ := DataW.trod_int Tryz.underlying3 f1
  obtain ⟨k2, h2, x2, _⟩ := DataW.trod_int Tryz.underlying3 f2
  have hx := (Prod.mk.inj hxe).1
  injection hx with hx
  have l : ∀ (i : Nat) (y : DataW H × List MemPlace), xs[i]? = some y → (xs.map (·.1))[i]? = some y.1 := fun i y e => by rw [List.getElem?_map, e]; rfl
  have l0 := l 0 _ e0
  have l1 := l 1 _ e1
  have l2 := l 2 _ e2
  rw [← hx] at l0 l1 l2
  rw [x0] at l0
  rw [x1] at l1
  rw [x2] at l2
  simp only [List.getElem?_cons_zero, List.getElem?_cons_succ, Option.some.injEq, DataW.lit.injEq, Lit.int.injEq, true_and] at l0 l1 l2
  subst l0 l1 l2
  have e := congrArg List.length h0
  match cs, hlen with
  | [u, v, z], _ =>
    simp at h0 h1 h2
    rw [h0, h1, h2]
theorem shapes_raw {H : Type} {enc : TypeId × Value → H} {W : World} {base : Nat} {sp : Nat → Bool} {held : Bool} {fuel : Nat} {cs : List Value} {rs : List (Nat × Nat × Nat)} {p : List MemPlace}
    (h : DataW.trod enc Tryz.prog W base sp held fuel 138 cs = some (.agg (rs.map fun r => .agg ((shpR r).map fun z => .lit (.int .i64 z))), p)) : ∀ (i : Nat) (r : Nat × Nat × Nat), rs[i]? = some r → cs[i * 3]? = some (.int .i64 (r.1 : Int)) ∧ cs[i * 3 + 1]? = some (.int .i64 (r.2.1 : Int)) ∧ cs[i * 3 + 2]? = some (.int .i64 (r.2.2 : Int)) := by
  cases fuel with
  | zero => simp [DataW.trod] at h
  | succ fuel =>
    simp only [DataW.trod, Tryz.underlying138, show Tryz.prog.cellsOf 137 = 3 by kernel_rfl] at h
    split at h
    · rename_i hl
      obtain ⟨xs, hm, hx⟩ := Option.map_eq_some_iff.1 h
      have hxs : xs.map (·.1) = rs.map fun r => (.agg ((shpR r).map fun z => .lit (.int .i64 z)) : DataW H) := by
        have := congrArg Prod.fst hx
        simpa using this
      have hxl : xs.length = 19 := by simpa using Lib.mapM_length hm
      have hrl : rs.length = 19 := by
        have := congrArg List.length hxs
        simp at this
        omega
      intro i r hi
      have hi19 : i < 19 := by have := (List.getElem?_eq_some_iff.1 hi).1; omega
      obtain ⟨b, hb, hf⟩ := Lib.mapM_at hm i i (by simp [hi19])
      have h2 : (xs.map (·.1))[i]? = some b.1 := by rw [List.getElem?_map, hb]; rfl
      rw [hxs, List.getElem?_map, hi] at h2
      simp only [Option.map_some, Option.some.injEq] at h2
      have hf' : DataW.trod enc Tryz.prog W base sp held fuel 137 ((cs.drop (i * 3)).take 3) = some (.agg [.lit (.int .i64 (r.1 : Int)), .lit (.int .i64 (r.2.1 : Int)), .lit (.int .i64 (r.2.2 : Int))], b.2) := by
        rw [hf]
        show some (b.1, b.2) = _
        rw [← h2]; rfl
      have hc := shape_raw hf'
      have k : ∀ j, j < 3 → cs[i * 3 + j]? = ((cs.drop (i * 3)).take 3)[j]? := fun j hj => by rw [List.getElem?_take, if_pos hj, List.getElem?_drop]
      have k0 := k 0 (by omega)
      have k1 := k 1 (by omega)
      have k2 := k 2 (by omega)
      rw [hc] at k0 k1 k2
      exact ⟨k0, k1, k2⟩
    · cases h
theorem shTab_of_head {W : World} {rest : List (String × DataW Unit)} (hg : Tryz.prog.globalNamed "isthmus/txs.shapes" = some 0) (hty : (Tryz.prog.globals[0]?).map (·.type) = some 138)
    (h : laidMet Tryz.prog (("isthmus/txs.shapes", .agg (shpL.map fun r => .agg ((shpR r).map fun z => .lit (.int .i64 z)))) :: rest) W) : ShTab W := by
  obtain ⟨ps, ⟨g', t', cs, fuel, p, q, hg', ht', hvar, hd, _, _⟩, _⟩ := h
  obtain rfl := Option.some.inj (hg.symm.trans hg')
  obtain rfl := Option.some.inj (hty.symm.trans ht')
  intro i r hi
  obtain ⟨h0, h1, h2⟩ := shapes_raw hd i r hi
  exact ⟨(World.var?_cell hg hvar (i * 3)).trans (by simpa using h0), (World.var?_cell hg hvar (i * 3 + 1)).trans (by simpa using h1), (World.var?_cell hg hvar (i * 3 + 2)).trans (by simpa using h2)⟩
end Go.Proofs.YtejglhlodfhgkaaGreatDoor
