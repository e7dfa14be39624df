/- coin: a trace that came in as an argument, with bounds out of the bulk. -/
import Derived.Test.YteokgklfljhcaaaDoorRowsArg
import Derived.Test.YteokgklfljhcaaaDoorCnI
namespace Go.Proofs.YteokgklfljhcaaaDoor
open Go.ChangeShapes Go.WideShapes Go.ChangeAt Go.RowKit Go.Proofs
set_option maxRecDepth 100000
set_option linter.unusedSimpArgs false
set_option linter.unusedVariables false
theorem str14_raw {H : Type} {enc : TypeId × Value → H} {W : World} (f : Nat) (cs : List Value) (x : DataW H × List MemPlace) (h : DataW.trod enc Tryd.prog W 0 (fun _ => true) true f 9 cs = some x) :
    ∃ s : ByteArray, cs = [.string s] ∧ s.size ≤ Rows.uptoBulk x.1 := by
  obtain ⟨s, h0, x0, _⟩ := DataW.trod_string Tryd.underlying9 h
  refine ⟨s, h0, ?_⟩
  rw [x0]
  simp only [Rows.uptoBulk, Array.length_toList]
  show s.data.size ≤ _
  omega
theorem strs14_raw {H : Type} {enc : TypeId × Value → H} {W : World} {fuel : Nat} {cs : List Value} {x : DataW H × List MemPlace} (h : DataW.trod enc Tryd.prog W 0 (fun _ => true) true fuel 32 cs = some x) :
    ∃ (ts : List ByteArray) (v : Value), cs = [v] ∧ SsIn W v ts ∧ ts.length ≤ Rows.uptoBulk x.1 ∧ ∀ t ∈ ts, t.size ≤ Rows.uptoBulk x.1 := by
  obtain ⟨ts, a, cap, h1, h2, h3, h4, h5, h6⟩ := rows_raw (n := 1) Tryd.underlying32 (by kernel_rfl) (by omega) (fun s : ByteArray => [Value.string s]) (fun _ => rfl) (fun s k => s.size ≤ k) str14_raw h
  refine ⟨ts, _, h1, ⟨a, cap, rfl, h2, h3, h5.imp id ?_⟩, h4, fun t m => (h6 t m).elim fun k q => Nat.le_trans q.1 q.2⟩
  rintro ⟨ab, ao, rfl, hlt, hx⟩
  exact ⟨ab, ao, rfl, hlt, fun i s hi => by have := hx i s hi 0 (.string s) rfl; simpa using this⟩
theorem trace_argB {H : Type} {enc : TypeId × Value → H} {W : World} {cs : Array Value} {d : DataW H} {p : List MemPlace} (h : DataW.Trod enc Tryd.prog W 0 (fun _ => true) true 34 (.agg cs) d p) :
    ∃ (pv : Value) (b : ByteArray) (t : List ByteArray), cs = trC pv b ∧ SsIn W pv t ∧ t.length ≤ Rows.uptoBulk d ∧ (∀ s ∈ t, s.size ≤ Rows.uptoBulk d) ∧ b.size ≤ Rows.uptoBulk d := by
  obtain ⟨fuel, hf⟩ := h
  have hf' : DataW.trod enc Tryd.prog W 0 (fun _ => true) true fuel 34 cs.toList = some (d, p) := by simpa [Value.cells] using hf
  obtain ⟨xs, m, _, hxe, hlen, hxl, hf2⟩ := DataW.trod_struct Tryd.underlying34 hf'
  rw [show Tryd.prog.cellsOf 34 = 2 by kernel_rfl] at hlen
  simp only [List.size_toArray, List.length_cons, List.length_nil] at hxl
  have g : ∀ i, i < 2 → ∃ y, xs[i]? = some y := fun i hi => ⟨xs[i], List.getElem?_eq_getElem (by omega)⟩
  obtain ⟨y0, e0⟩ := g 0 (by omega)
  obtain ⟨y1, e1⟩ := g 1 (by omega)
  have f0 : DataW.trod enc Tryd.prog W 0 (fun _ => true) true m 32 ((cs.toList.drop 0).take (Tryd.prog.cellsOf 32)) = xs[0]? := hf2 0 _ rfl
  have f1 : DataW.trod enc Tryd.prog W 0 (fun _ => true) true m 9 ((cs.toList.drop 1).take (Tryd.prog.cellsOf 9)) = xs[1]? := hf2 1 _ rfl
  rw [e0, show Tryd.prog.cellsOf 32 = 1 by kernel_rfl] at f0
  rw [e1, show Tryd.prog.cellsOf 9 = 1 by kernel_rfl] at f1
  obtain ⟨t, v, h0, hin, hl, hz⟩ := strs14_raw f0
  obtain ⟨b, h1, hb⟩ := str14_raw _ _ _ f1
  have b0 := bulkAt (l := xs.map (·.1)) (i := 0) (d := y0.1) (by rw [List.getElem?_map, e0]; rfl)
  have b1 := bulkAt (l := xs.map (·.1)) (i := 1) (d := y1.1) (by rw [List.getElem?_map, e1]; rfl)
  have hd : Rows.uptoBulk d = Rows.uptoBulkAll (xs.map (·.1)) + 1 := by
    have : d = .agg (xs.map (·.1)) := (Prod.mk.inj hxe).1
    rw [this]
    simp only [Rows.uptoBulk]
  refine ⟨v, b, t, ?_, hin, by omega, fun s m => by have := hz s m; omega, by omega⟩
  apply Array.toList_inj.1
  have a0 := pvone h0
  have a1 := pvone h1
  show cs.toList = [v, .string b]
  have hl2 : cs.toList.length = 2 := hlen
  match hcs : cs.toList, hl2 with
  | [x, y], _ =>
    rw [hcs] at a0 a1
    simp only [List.getElem?_cons_zero, List.getElem?_cons_succ, Option.some.injEq] at a0 a1
    rw [a0, a1]
end Go.Proofs.YteokgklfljhcaaaDoor
