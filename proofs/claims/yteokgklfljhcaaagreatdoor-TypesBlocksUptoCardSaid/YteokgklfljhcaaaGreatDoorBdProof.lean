/- For every block of bulk at most 1048576 (values and letters), TypesBlocks returns true and leaves its argument as it was. Conditions: that bulk; errors.errorType and the two tables of package sha read as the program's text lays them, which the card ties to that text. -/
import Derived.ProofKit
import Derived.LaidMore
import Derived.OpenShut
import Derived.Stop.Joined
import Derived.Stop.LaidErr
import Derived.Lib.LaidTab
import Derived.LaidHandle
import Derived.SizedLaws
import Derived.Carry
import Derived.Deep.DeepHandedRow
import Derived.Deep.DeepWitnessRowRef
import Derived.Test.YteokgklfljhcaaaGreatDoorTie
import Derived.Test.YteokgklfljhcaaaGreatDoorCards
import Derived.SevenTiedAt
import Derived.Test.YteokgklfljhcaaaGreatDoorBd2
import Derived.Test.YteokgklfljhcaaaGreatDoorBd7
import Derived.Test.YteokgklfljhcaaaGreatDoorBd24
import Derived.Test.YteokgklfljhcaaaGreatDoorBd25
import Derived.Test.YteokgklfljhcaaaGreatDoorBd26
namespace Go.Proofs.YteokgklfljhcaaaGreatDoor
set_option linter.unusedVariables false
set_option linter.unusedSimpArgs false
open Go.ChangeShapes Go.WideShapes Go.ChangeAt Go.RowKit Go.Proofs
set_option maxRecDepth 100000
set_option linter.unusedSimpArgs false
set_option linter.unusedVariables false
theorem by8_11 {F : Nat → Int} (w : ∀ i, i < 32 → (Lit.int .u8 (F i)).wf = true) : byOk F := fun i hi => by have := bounds_u8 (w i hi); exact ⟨by omega, by omega⟩
end Go.Proofs.YteokgklfljhcaaaGreatDoor
namespace Go.Proofs.YteokgklfljhcaaaGreatDoor
set_option linter.unusedVariables false
set_option linter.unusedSimpArgs false
open Go.ChangeShapes Go.WideShapes Go.ChangeAt Go.RowKit Go.Proofs
set_option maxRecDepth 100000
set_option linter.unusedSimpArgs false
set_option linter.unusedVariables false
theorem rows_rawB {H α : Type} {enc : TypeId × Value → H} {W : World} {T E : TypeId} {n : Nat} (hT : Tryz.prog.underlying T = some (.slice E)) (hn : Tryz.prog.cellsOf E = n) (hn0 : 0 < n) (C : α → List Value) (hC : ∀ t, (C t).length = n) (Ok : α → Nat → Prop)
    (hel : ∀ (f : Nat) (cs : List Value) (x : DataW H × List MemPlace), DataW.trod enc Tryz.prog W 0 (fun _ => true) true f E cs = some x → ∃ t, cs = C t ∧ Ok t (Rows.uptoBulk x.1))
    {fuel : Nat} {cs : List Value} {x : DataW H × List MemPlace} (h : DataW.trod enc Tryz.prog W 0 (fun _ => true) true fuel T cs = some x) :
    ∃ (ts : List α) (v : Value), cs = [v] ∧ RowsIn n C W v ts ∧ ts.length ≤ Rows.uptoBulk x.1 ∧ ∀ t ∈ ts, ∃ k, Ok t k ∧ k ≤ Rows.uptoBulk x.1 := by
  obtain ⟨ts, a, cap, h1, h2, h3, h4, h5, h6⟩ := rows_raw hT hn hn0 C hC Ok hel h
  exact ⟨ts, _, h1, ⟨a, cap, rfl, h2, h3, h5⟩, h4, h6⟩
theorem tbB_raw {H : Type} {enc : TypeId × Value → H} {W : World} (f : Nat) (cs : List Value) (x : DataW H × List MemPlace) (h : DataW.trod enc Tryz.prog W 0 (fun _ => true) true f 39 cs = some x) :
    ∃ t : Tb, cs = [t.bv] ∧ (bytesOk t.bs ∧ BytesIn W t.bv t.bs ∧ t.bs.length ≤ Rows.uptoBulk x.1) := by
  obtain ⟨bv, bs, h5, hbin, hbok, _, hbl, _⟩ := bytes_raw h
  exact ⟨⟨bv, bs⟩, h5, hbok, hbin, hbl⟩
theorem voBB_raw {H : Type} {enc : TypeId × Value → H} {W : World} (f : Nat) (cs : List Value) (x : DataW H × List MemPlace) (h : DataW.trod enc Tryz.prog W 0 (fun _ => true) true f 99 cs = some x) :
    ∃ t : Vo, cs = (voC t).toList ∧ (VoBy t ∧ BytesIn W t.sv t.sign ∧ t.sign.length ≤ Rows.uptoBulk x.1) := by
  obtain ⟨xs, m, _, hxe, hlen, hxl, hf⟩ := DataW.trod_struct Tryz.underlying99 h
  rw [show Tryz.prog.cellsOf 99 = 37 by kernel_rfl] at hlen
  simp only [List.size_toArray, List.length_cons, List.length_nil] at hxl
  have g : ∀ i, i < 6 → ∃ y, xs[i]? = some y := fun i hi => ⟨xs[i], List.getElem?_eq_getElem (by omega)⟩
  obtain ⟨y0, e0⟩ := g 0 (by omega)
  obtain ⟨y1, e1⟩ := g 1 (by omega)
  obtain ⟨y2, e2⟩ := g 2 (by omega)
  obtain ⟨y3, e3⟩ := g 3 (by omega)
  obtain ⟨y4, e4⟩ := g 4 (by omega)
  obtain ⟨y5, e5⟩ := g 5 (by omega)
  have f0 : DataW.trod enc Tryz.prog W 0 (fun _ => true) true m 3 ((cs.drop 0).take (Tryz.prog.cellsOf 3)) = xs[0]? := hf 0 _ rfl
  have f1 : DataW.trod enc Tryz.prog W 0 (fun _ => true) true m 3 ((cs.drop 1).take (Tryz.prog.cellsOf 3)) = xs[1]? := hf 1 _ rfl
  have f2 : DataW.trod enc Tryz.prog W 0 (fun _ => true) true m 3 ((cs.drop 2).take (Tryz.prog.cellsOf 3)) = xs[2]? := hf 2 _ rfl
  have f3 : DataW.trod enc Tryz.prog W 0 (fun _ => true) true m 23 ((cs.drop 3).take (Tryz.prog.cellsOf 23)) = xs[3]? := hf 3 _ rfl
  have f4 : DataW.trod enc Tryz.prog W 0 (fun _ => true) true m 3 ((cs.drop 35).take (Tryz.prog.cellsOf 3)) = xs[4]? := hf 4 _ rfl
  have f5 : DataW.trod enc Tryz.prog W 0 (fun _ => true) true m 39 ((cs.drop 36).take (Tryz.prog.cellsOf 39)) = xs[5]? := hf 5 _ rfl
  rw [e0, show Tryz.prog.cellsOf 3 = 1 by kernel_rfl] at f0
  rw [e1, show Tryz.prog.cellsOf 3 = 1 by kernel_rfl] at f1
  rw [e2, show Tryz.prog.cellsOf 3 = 1 by kernel_rfl] at f2
  rw [e3, show Tryz.prog.cellsOf 23 = 32 by kernel_rfl] at f3
  rw [e4, show Tryz.prog.cellsOf 3 = 1 by kernel_rfl] at f4
  rw [e5, show Tryz.prog.cellsOf 39 = 1 by kernel_rfl] at f5
  obtain ⟨kd, h0, _, w0⟩ := DataW.trod_int Tryz.underlying3 f0
  obtain ⟨ht, h1, _, w1⟩ := DataW.trod_int Tryz.underlying3 f1
  obtain ⟨rd, h2, _, w2⟩ := DataW.trod_int Tryz.underlying3 f2
  obtain ⟨F, h3, w3⟩ := arr_raw Tryz.underlying23 Tryz.underlying5 (by kernel_rfl) (by kernel_rfl) f3
  obtain ⟨vl, h4, _, w4⟩ := DataW.trod_int Tryz.underlying3 f4
  obtain ⟨bv, bs, h5, hbin, hbok, _, hbl, _⟩ := bytes_raw f5
  have b5 := bulkAt (l := xs.map (·.1)) (i := 5) (d := y5.1) (by rw [List.getElem?_map, e5]; rfl)
  refine ⟨⟨kd, ht, rd, F, vl, bv, bs⟩, ?_, ⟨⟨bounds_i64 w0, bounds_i64 w1, bounds_i64 w2, bounds_i64 w4⟩, by8_11 w3, hbok⟩, hbin, by rw [hxe]; simp only [Rows.uptoBulk]; show bs.length ≤ _; omega⟩
  show cs.drop 0 = _
  rw [dcut cs 0 1 1 rfl, dcut cs 1 1 2 rfl, dcut cs 2 1 3 rfl, dcut cs 3 32 35 rfl, dcut cs 35 1 36 rfl, dcut cs 36 1 37 rfl, dend cs 37 hlen, h0, h1, h2, h3, h4, h5]
  simp [voC]
theorem cmBB_raw {H : Type} {enc : TypeId × Value → H} {W : World} (f : Nat) (cs : List Value) (x : DataW H × List MemPlace) (h : DataW.trod enc Tryz.prog W 0 (fun _ => true) true f 29 cs = some x) :
    ∃ (c : Cm) (v : Value) (ts : List Vo), cs = (cmC c v).toList ∧ VoIn W v ts ∧ CmBy c ∧ (∀ t ∈ ts, VoBy t ∧ BytesIn W t.sv t.sign ∧ t.sign.length ≤ Rows.uptoBulk x.1) ∧ ts.length ≤ Rows.uptoBulk x.1 := by
  obtain ⟨xs, m, _, hxe, hlen, hxl, hf⟩ := DataW.trod_struct Tryz.underlying29 h
  rw [show Tryz.prog.cellsOf 29 = 35 by kernel_rfl] at hlen
  simp only [List.size_toArray, List.length_cons, List.length_nil] at hxl
  have g : ∀ i, i < 4 → ∃ y, xs[i]? = some y := fun i hi => ⟨xs[i], List.getElem?_eq_getElem (by omega)⟩
  obtain ⟨y0, e0⟩ := g 0 (by omega)
  obtain ⟨y1, e1⟩ := g 1 (by omega)
  obtain ⟨y2, e2⟩ := g 2 (by omega)
  obtain ⟨y3, e3⟩ := g 3 (by omega)
  have f0 : DataW.trod enc Tryz.prog W 0 (fun _ => true) true m 3 ((cs.drop 0).take (Tryz.prog.cellsOf 3)) = xs[0]? := hf 0 _ rfl
  have f1 : DataW.trod enc Tryz.prog W 0 (fun _ => true) true m 3 ((cs.drop 1).take (Tryz.prog.cellsOf 3)) = xs[1]? := hf 1 _ rfl
  have f2 : DataW.trod enc Tryz.prog W 0 (fun _ => true) true m 23 ((cs.drop 2).take (Tryz.prog.cellsOf 23)) = xs[2]? := hf 2 _ rfl
  have f3 : DataW.trod enc Tryz.prog W 0 (fun _ => true) true m 27 ((cs.drop 34).take (Tryz.prog.cellsOf 27)) = xs[3]? := hf 3 _ rfl
  rw [e0, show Tryz.prog.cellsOf 3 = 1 by kernel_rfl] at f0
  rw [e1, show Tryz.prog.cellsOf 3 = 1 by kernel_rfl] at f1
  rw [e2, show Tryz.prog.cellsOf 23 = 32 by kernel_rfl] at f2
  rw [e3, show Tryz.prog.cellsOf 27 = 1 by kernel_rfl] at f3
  obtain ⟨ht, h0, _, w0⟩ := DataW.trod_int Tryz.underlying3 f0
  obtain ⟨rd, h1, _, w1⟩ := DataW.trod_int Tryz.underlying3 f1
  obtain ⟨F, h2, w2⟩ := arr_raw Tryz.underlying23 Tryz.underlying5 (by kernel_rfl) (by kernel_rfl) f2
  obtain ⟨ts, v, h3, hin, hbl, hts⟩ := rows_rawB (n := 37) Tryz.underlying27 (by kernel_rfl) (by omega) (fun t => (voC t).toList) (fun t => by rw [Array.length_toList, voC_size]) (fun t k => VoBy t ∧ BytesIn W t.sv t.sign ∧ t.sign.length ≤ k) voBB_raw f3
  have b3 := bulkAt (l := xs.map (·.1)) (i := 3) (d := y3.1) (by rw [List.getElem?_map, e3]; rfl)
  have bx : Rows.uptoBulk y3.1 ≤ Rows.uptoBulk x.1 := by rw [hxe]; simp only [Rows.uptoBulk]; omega
  refine ⟨⟨ht, rd, F⟩, v, ts, ?_, hin, ⟨⟨bounds_i64 w0, bounds_i64 w1⟩, by8_11 w2⟩, fun t h => (hts t h).elim fun _ k => ⟨k.1.1, k.1.2.1, by have := k.1.2.2; have := k.2; omega⟩, by omega⟩
  show cs.drop 0 = _
  rw [dcut cs 0 1 1 rfl, dcut cs 1 1 2 rfl, dcut cs 2 32 34 rfl, dcut cs 34 1 35 rfl, dend cs 35 hlen, h0, h1, h2, h3]
  simp [cmC]
theorem hdBB_raw {H : Type} {enc : TypeId × Value → H} {W : World} (f : Nat) (cs : List Value) (x : DataW H × List MemPlace) (h : DataW.trod enc Tryz.prog W 0 (fun _ => true) true f 25 cs = some x) :
    ∃ h : Hd, cs = (hdD h.CH h.HT h.TM h.LA h.AP h.TX h.VA h.NX h.PR).toList ∧ (Rows.uptoBulk x.1 ≤ 1048576 → HdBy h ∧ h.CH.size ≤ Rows.uptoBulk x.1) := by
  obtain ⟨xs, m, _, hxe, hlen, hxl, hff⟩ := DataW.trod_struct Tryz.underlying25 h
  rw [show Tryz.prog.cellsOf 25 = 164 by kernel_rfl] at hlen
  simp only [List.size_toArray, List.length_cons, List.length_nil] at hxl
  have g : ∀ i, i < 9 → ∃ y, xs[i]? = some y := fun i hi => ⟨xs[i], List.getElem?_eq_getElem (by omega)⟩
  obtain ⟨y0, e0⟩ := g 0 (by omega)
  obtain ⟨y1, e1⟩ := g 1 (by omega)
  obtain ⟨y2, e2⟩ := g 2 (by omega)
  obtain ⟨y3, e3⟩ := g 3 (by omega)
  obtain ⟨y4, e4⟩ := g 4 (by omega)
  obtain ⟨y5, e5⟩ := g 5 (by omega)
  obtain ⟨y6, e6⟩ := g 6 (by omega)
  obtain ⟨y7, e7⟩ := g 7 (by omega)
  obtain ⟨y8, e8⟩ := g 8 (by omega)
  have f0 : DataW.trod enc Tryz.prog W 0 (fun _ => true) true m 9 ((cs.drop 0).take (Tryz.prog.cellsOf 9)) = xs[0]? := hff 0 _ rfl
  have f1 : DataW.trod enc Tryz.prog W 0 (fun _ => true) true m 3 ((cs.drop 1).take (Tryz.prog.cellsOf 3)) = xs[1]? := hff 1 _ rfl
  have f2 : DataW.trod enc Tryz.prog W 0 (fun _ => true) true m 3 ((cs.drop 2).take (Tryz.prog.cellsOf 3)) = xs[2]? := hff 2 _ rfl
  have f3 : DataW.trod enc Tryz.prog W 0 (fun _ => true) true m 23 ((cs.drop 3).take (Tryz.prog.cellsOf 23)) = xs[3]? := hff 3 _ rfl
  have f4 : DataW.trod enc Tryz.prog W 0 (fun _ => true) true m 23 ((cs.drop 35).take (Tryz.prog.cellsOf 23)) = xs[4]? := hff 4 _ rfl
  have f5 : DataW.trod enc Tryz.prog W 0 (fun _ => true) true m 23 ((cs.drop 67).take (Tryz.prog.cellsOf 23)) = xs[5]? := hff 5 _ rfl
  have f6 : DataW.trod enc Tryz.prog W 0 (fun _ => true) true m 23 ((cs.drop 99).take (Tryz.prog.cellsOf 23)) = xs[6]? := hff 6 _ rfl
  have f7 : DataW.trod enc Tryz.prog W 0 (fun _ => true) true m 23 ((cs.drop 131).take (Tryz.prog.cellsOf 23)) = xs[7]? := hff 7 _ rfl
  have f8 : DataW.trod enc Tryz.prog W 0 (fun _ => true) true m 3 ((cs.drop 163).take (Tryz.prog.cellsOf 3)) = xs[8]? := hff 8 _ rfl
  rw [e0, show Tryz.prog.cellsOf 9 = 1 by kernel_rfl] at f0
  rw [e1, show Tryz.prog.cellsOf 3 = 1 by kernel_rfl] at f1
  rw [e2, show Tryz.prog.cellsOf 3 = 1 by kernel_rfl] at f2
  rw [e3, show Tryz.prog.cellsOf 23 = 32 by kernel_rfl] at f3
  rw [e4, show Tryz.prog.cellsOf 23 = 32 by kernel_rfl] at f4
  rw [e5, show Tryz.prog.cellsOf 23 = 32 by kernel_rfl] at f5
  rw [e6, show Tryz.prog.cellsOf 23 = 32 by kernel_rfl] at f6
  rw [e7, show Tryz.prog.cellsOf 23 = 32 by kernel_rfl] at f7
  rw [e8, show Tryz.prog.cellsOf 3 = 1 by kernel_rfl] at f8
  obtain ⟨CH, h0, x0, _⟩ := DataW.trod_string Tryz.underlying9 f0
  have b0 := bulkAt (l := xs.map (·.1)) (i := 0) (d := y0.1) (by rw [List.getElem?_map, e0]; rfl)
  have bx : CH.size ≤ Rows.uptoBulk x.1 := by
    rw [hxe]
    rw [x0] at b0
    simp only [Rows.uptoBulk, Array.length_toList] at b0 ⊢
    show CH.data.size ≤ _
    omega
  obtain ⟨HT, h1, _, w1⟩ := DataW.trod_int Tryz.underlying3 f1
  obtain ⟨TM, h2, _, w2⟩ := DataW.trod_int Tryz.underlying3 f2
  obtain ⟨LA, h3, w3⟩ := arr_raw Tryz.underlying23 Tryz.underlying5 (by kernel_rfl) (by kernel_rfl) f3
  obtain ⟨AP, h4, w4⟩ := arr_raw Tryz.underlying23 Tryz.underlying5 (by kernel_rfl) (by kernel_rfl) f4
  obtain ⟨TX, h5, w5⟩ := arr_raw Tryz.underlying23 Tryz.underlying5 (by kernel_rfl) (by kernel_rfl) f5
  obtain ⟨VA, h6, w6⟩ := arr_raw Tryz.underlying23 Tryz.underlying5 (by kernel_rfl) (by kernel_rfl) f6
  obtain ⟨NX, h7, w7⟩ := arr_raw Tryz.underlying23 Tryz.underlying5 (by kernel_rfl) (by kernel_rfl) f7
  obtain ⟨PR, h8, _, w8⟩ := DataW.trod_int Tryz.underlying3 f8
  refine ⟨⟨CH, HT, TM, LA, AP, TX, VA, NX, PR⟩, ?_, fun hw => ⟨⟨⟨bounds_i64 w1, bounds_i64 w2, bounds_i64 w8, by show CH.size ≤ _; omega⟩, by8_11 w3, by8_11 w4, by8_11 w5, by8_11 w6, by8_11 w7⟩, bx⟩⟩
  show cs.drop 0 = _
  rw [dcut cs 0 1 1 rfl, dcut cs 1 1 2 rfl, dcut cs 2 1 3 rfl, dcut cs 3 32 35 rfl, dcut cs 35 32 67 rfl, dcut cs 67 32 99 rfl, dcut cs 99 32 131 rfl, dcut cs 131 32 163 rfl, dcut cs 163 1 164 rfl, dend cs 164 hlen, h0, h1, h2, h3, h4, h5, h6, h7, h8]
  simp [hdD]
theorem blockB_arg {H : Type} {enc : TypeId × Value → H} {W : World} {cs : Array Value} {d : DataW H} {p : List MemPlace} (h : DataW.Trod enc Tryz.prog W 0 (fun _ => true) true 31 (.agg cs) d p) :
    (Rows.uptoBulk d ≤ 1048576 → ∃ (h : Hd) (ts : List Tb) (tv : Value) (c : Cm) (l : List Vo) (vv : Value), cs = bkD (hdD h.CH h.HT h.TM h.LA h.AP h.TX h.VA h.NX h.PR) tv (cmC c vv) ∧ (TbIn W tv ts ∧ (∀ t ∈ ts, BytesIn W t.bv t.bs) ∧ (∀ t ∈ ts, bytesOk t.bs) ∧ (∀ t ∈ ts, t.bs.length ≤ 1048576) ∧ ts.length ≤ 1048576) ∧ (VoIn W vv l ∧ (∀ t ∈ l, BytesIn W t.sv t.sign) ∧ (∀ t ∈ l, VoBy t) ∧ (∀ t ∈ l, t.sign.length ≤ 1048576) ∧ l.length ≤ 1048576) ∧ CmBy c ∧ HdBy h ∧ h.CH.size ≤ 1048576) := by
  obtain ⟨fuel, hf⟩ := h
  have hf' : DataW.trod enc Tryz.prog W 0 (fun _ => true) true fuel 31 cs.toList = some (d, p) := by simpa [Value.cells] using hf
  obtain ⟨xs, m, _, hx, hlen, hxl, hff⟩ := DataW.trod_struct Tryz.underlying31 hf'
  rw [show Tryz.prog.cellsOf 31 = 200 by kernel_rfl] at hlen
  simp only [List.size_toArray, List.length_cons, List.length_nil] at hxl
  have g : ∀ i, i < 3 → ∃ y, xs[i]? = some y := fun i hi => ⟨xs[i], List.getElem?_eq_getElem (by omega)⟩
  obtain ⟨y0, e0⟩ := g 0 (by omega)
  obtain ⟨y1, e1⟩ := g 1 (by omega)
  obtain ⟨y2, e2⟩ := g 2 (by omega)
  have f0 : DataW.trod enc Tryz.prog W 0 (fun _ => true) true m 25 ((cs.toList.drop 0).take (Tryz.prog.cellsOf 25)) = xs[0]? := hff 0 _ rfl
  have f1 : DataW.trod enc Tryz.prog W 0 (fun _ => true) true m 26 ((cs.toList.drop 164).take (Tryz.prog.cellsOf 26)) = xs[1]? := hff 1 _ rfl
  have f2 : DataW.trod enc Tryz.prog W 0 (fun _ => true) true m 29 ((cs.toList.drop 165).take (Tryz.prog.cellsOf 29)) = xs[2]? := hff 2 _ rfl
  rw [e0, show Tryz.prog.cellsOf 25 = 164 by kernel_rfl] at f0
  rw [e1, show Tryz.prog.cellsOf 26 = 1 by kernel_rfl] at f1
  rw [e2, show Tryz.prog.cellsOf 29 = 35 by kernel_rfl] at f2
  obtain ⟨h, h0, hw0⟩ := hdBB_raw _ _ _ f0
  obtain ⟨ts, tv, h1, hin, hbl, hts⟩ := rows_rawB (n := 1) Tryz.underlying26 (by kernel_rfl) (by omega) (fun t : Tb => [t.bv]) (fun t => rfl) (fun t k => bytesOk t.bs ∧ BytesIn W t.bv t.bs ∧ t.bs.length ≤ k) tbB_raw f1
  obtain ⟨c, vv, l, h2, hv, hc, hl, hll⟩ := cmBB_raw _ _ _ f2
  have b0 := bulkAt (l := xs.map (·.1)) (i := 0) (d := y0.1) (by rw [List.getElem?_map, e0]; rfl)
  have b1 := bulkAt (l := xs.map (·.1)) (i := 1) (d := y1.1) (by rw [List.getElem?_map, e1]; rfl)
  have b2 := bulkAt (l := xs.map (·.1)) (i := 2) (d := y2.1) (by rw [List.getElem?_map, e2]; rfl)
  simp only [Prod.mk.injEq] at hx
  intro hd
  have hd2 : Rows.uptoBulkAll (xs.map (·.1)) ≤ Rows.uptoBulk d := by rw [hx.1]; simp only [Rows.uptoBulk]; omega
  have hw := hw0 (by omega)
  refine ⟨h, ts, tv, c, l, vv, ?_, ⟨hin, fun t m => (hts t m).elim fun _ k => k.1.2.1, fun t m => (hts t m).elim fun _ k => k.1.1, fun t m => (hts t m).elim fun _ k => by have := k.1.2.2; have := k.2; omega, by omega⟩, ⟨hv, fun t m => (hl t m).2.1, fun t m => (hl t m).1, fun t m => by have := (hl t m).2.2; omega, by omega⟩, hc, hw.1, by have := hw.2; omega⟩
  apply Array.toList_inj.1
  show cs.toList.drop 0 = _
  rw [dcut cs.toList 0 164 164 rfl, dcut cs.toList 164 1 165 rfl, dcut cs.toList 165 35 200 rfl, dend cs.toList 200 hlen, h0, h1, h2]
  simp [bkD]
end Go.Proofs.YteokgklfljhcaaaGreatDoor
namespace Go.Proofs.YteokgklfljhcaaaGreatDoor
set_option linter.unusedVariables false
set_option linter.unusedSimpArgs false
open Go.ChangeShapes Go.WideShapes Go.ChangeAt Go.RowKit
set_option maxRecDepth 100000
theorem doorOwn : ownKnob Tryz.prog.godebug = none := by kernel_rfl
theorem doorLaidOut : laidOutB Tryz.prog = true := by kernel_rfl
theorem nBegin : Tryz.prog.globalNamed "isthmus/sha.begin" = some 1 := by kernel_rfl
theorem nConst : Tryz.prog.globalNamed "isthmus/sha.constants" = some 2 := by kernel_rfl
theorem tyBegin : (Tryz.prog.globals[1]?).map (·.type) = some 149 := by kernel_rfl
theorem tyConst : (Tryz.prog.globals[2]?).map (·.type) = some 148 := by kernel_rfl
def laidSha : List (String × DataW Unit) := [("isthmus/sha.begin", Rows.laid_isthmus_sha_begin), ("isthmus/sha.constants", Rows.laid_isthmus_sha_constants)]
theorem toList_getD (f : Nat → Int) (n i : Nat) (h : i < n) : ((List.range n).map f).getD i 0 = f i := by simp [List.getD, h]
theorem dBegin {H : Type} : (Rows.laid_isthmus_sha_begin : DataW H) = Lib.tabData .u32 ((List.range 8).map BT) := by rfl
theorem dConst {H : Type} : (Rows.laid_isthmus_sha_constants : DataW H) = Lib.tabData .u32 ((List.range 64).map KT) := by rfl
theorem env_of_tabs {W : World} (hb : Lib.TabIs Tryz.prog W "isthmus/sha.begin" .u32 ((List.range 8).map BT)) (hc : Lib.TabIs Tryz.prog W "isthmus/sha.constants" .u32 ((List.range 64).map KT)) : Env W :=
  ⟨fun i hi => by
    have := hb.cell nBegin i (by simpa using hi)
    rw [toList_getD _ _ _ hi] at this; exact this,
   fun i hi => by
    have := hc.cell nConst i (by simpa using hi)
    rw [toList_getD _ _ _ hi] at this; exact this⟩
theorem env_of_met {W : World} (h : laidMet Tryz.prog laidSha W) : Env W := by
  unfold laidSha at h
  rw [dBegin, dConst] at h
  exact env_of_tabs (Lib.tabIs_of_head nBegin tyBegin Tryz.underlying149 Tryz.underlying147 (by kernel_rfl) (by kernel_rfl) h)
    (Lib.tabIs_of_head nConst tyConst Tryz.underlying148 Tryz.underlying147 (by kernel_rfl) (by kernel_rfl) h.tail)
def laidShaErr : List (String × DataW Unit) := [("errors.errorType", Rows.laid_errors_errorType), ("isthmus/sha.begin", Rows.laid_isthmus_sha_begin), ("isthmus/sha.constants", Rows.laid_isthmus_sha_constants)]
def laidErrS : List (String × DataW Unit) := [("errors.errorType", Rows.laid_errors_errorType)]
theorem doorEt : Tryz.prog.globalNamed "errors.errorType" = some 0 := by kernel_rfl
theorem doorRt : (Tryz.prog.cutTypes.find? (·.1 == "internal/reflectlite.rtype")).map (·.2) = some 197 := by kernel_rfl
theorem doorOneRow : ((List.range Tryz.prog.types.size).filter fun t => Tryz.prog.rowNamed t [101, 114, 114, 111, 114]) = [34] := by kernel_rfl
theorem err_of_met {W : World} {l : List (String × DataW Unit)} (hm : ("errors.errorType", Rows.laid_errors_errorType) ∈ l) (h : handlesMet Tryz.prog l W) : ErrType W := by
  obtain ⟨name, u, ty, e1, e2, e3, e4, e5⟩ := h _ hm
  have en : name = [101, 114, 114, 111, 114] := (Option.some.inj e1).symm
  subst en
  obtain rfl := Option.some.inj (doorRt.symm.trans e2)
  have hm : ty ∈ (List.range Tryz.prog.types.size).filter fun t => Tryz.prog.rowNamed t [101, 114, 114, 111, 114] := List.mem_filter.2 ⟨List.mem_range.2 e3, e4⟩
  rw [doorOneRow] at hm
  obtain rfl := List.mem_singleton.1 hm
  have hh : typeHandle Tryz.prog 34 = .pointer (some ⟨6, 34, none⟩) := by kernel_rfl
  rw [hh] at e5
  unfold ErrType
  simpa using World.var?_cell doorEt e5 0
theorem shaErr_of_laid {W : World} (h : laidMetH Tryz.prog laidShaErr W) : Env W ∧ ErrType W := by
  have h' : laidMet Tryz.prog laidSha W ∧ handlesMet Tryz.prog laidErrS W := h
  exact ⟨env_of_met h'.1, err_of_met (by simp [laidErrS]) h'.2⟩
theorem met_shaErr (os : Os) (args : Array Value) : laidMetH Tryz.prog laidShaErr ((World.doorLaid Tryz.prog 400 os).forCall (fun _ _ => 0) ⟨#[], args, []⟩).memory :=
  laidMetH_of_parts3 (fuel := 8) (laidMet_of_run' 8 (by kernel_rfl) (by kernel_rfl)) (by kernel_rfl) (by kernel_rfl)
end Go.Proofs.YteokgklfljhcaaaGreatDoor
namespace Go.Proofs.YteokgklfljhcaaaGreatDoor
set_option linter.unusedVariables false
set_option linter.unusedSimpArgs false
open Go.ChangeShapes Go.WideShapes Go.ChangeAt Go.RowKit
set_option maxRecDepth 100000
set_option maxHeartbeats 8000000 in
theorem tyblocks_lifted (os : Os) (started : os.Started) (H : Type) (enc : TypeId × Value → H) (F : Stop.Interp) :
    ReturnsInHanded {} Tryz.checked os 3 .any ((Rows.OpenSpec.upto Rows.typesBlocksSpec).preRow enc Tryz.prog Tryz.f3 Rows.typesBlocksUptoRow.domain false laidShaErr) (((Rows.OpenSpec.upto Rows.typesBlocksSpec).at F).post enc Tryz.prog Tryz.f3 false true false false) := by
  refine returnsInHanded_of_row (C := Tryz.checked) (s := Rows.OpenSpec.upto Rows.typesBlocksSpec) doorOwn started (by kernel_rfl) Tryz.func3
    (witness_row_atRef (enc := enc) (C := Tryz.checked) false (World.doorLaid Tryz.prog 400 os) #[.agg (#[.string { data := #[] }, .int .i64 0, .int .i64 0] ++ Array.replicate 160 (.int .u8 0) ++ #[.int .i64 0] ++ #[.slice none 0 0] ++ (#[.int .i64 0, .int .i64 0] ++ Array.replicate 32 (.int .u8 0) ++ #[.slice none 0 0]))] rfl (by kernel_rfl) (by kernel_rfl) (by kernel_rfl)
      (OpenSpec.preRow_of_cond (x := ([.agg [.agg [.lit (.string []), .lit (.int .i64 0), .lit (.int .i64 0), .agg (List.replicate 32 (.lit (.int .u8 0))), .agg (List.replicate 32 (.lit (.int .u8 0))), .agg (List.replicate 32 (.lit (.int .u8 0))), .agg (List.replicate 32 (.lit (.int .u8 0))), .agg (List.replicate 32 (.lit (.int .u8 0))), .lit (.int .i64 0)], .nil, .agg [.lit (.int .i64 0), .lit (.int .i64 0), .agg (List.replicate 32 (.lit (.int .u8 0))), .nil]]], [], [])) 8 (by kernel_rfl) (by kernel_rfl) (fun k hk => by cases hk; kernel_rfl) (by kernel_rfl) (met_shaErr os _))) ?_
  intro W base args ds gs before hval0 hW _ hcond _ hL _ _
  have hb : Rows.uptoBulkAll (ds ++ gs) ≤ 1048576 := of_decide_eq_true (hcond _ rfl)
  have hval : ∀ (j : Nat) t v, Tryz.f3.params[j]? = some t → args[j]? = some v → Value.okWide Tryz.prog W .any base t v := hval0
  have hW' := hW
  obtain ⟨p, q, hA0, hV, rfl, hfz, hnd⟩ := hW
  have hA : DataW.TrodAll enc Tryz.prog W 0 (fun _ => true) true Tryz.f3.params.toList args.toList ds p := hA0
  rw [Tryz.params3] at hA hval
  obtain ⟨v0, vs0, d0, ds0, p0, q0, hargs, rfl, rfl, h0, r0⟩ := trodAll_cons hA
  obtain ⟨rfl, rfl, rfl⟩ := trodAll_nil r0
  obtain rfl : args = #[v0] := by cases args; simp_all
  obtain ⟨rfl, rfl⟩ := trodVars_none hV
  obtain ⟨cs0, rfl, -⟩ := okWide_struct Tryz.underlying31 (hval 0 31 v0 rfl rfl)
  have k0 := h0
  have lt0 : ∀ x ∈ p0, x.block < W.heap.size := by obtain ⟨m, hm⟩ := k0; exact DataW.trod_lt m _ _ _ hm
  obtain ⟨hd0, ts0, tv0, cm0, l0, vv0, hcs0, ht0, hv0, hc0, hh0, hch0⟩ := blockB_arg h0 (by have hb' := hb; simp only [List.append_nil, Rows.uptoBulkAll] at hb'; omega)
  simp only [List.append_nil, Rows.uptoBulkAll] at hb
  clear hA0 hval0
  have HWK := lblocks_any hd0 ts0 tv0 cm0 l0 vv0 W (shaErr_of_laid hL).1 (shaErr_of_laid hL).2 hh0.f hch0 ht0.1 ht0.2.1 ht0.2.2.2.1 ht0.2.2.2.2 hv0.1 hv0.2.1 (fun t m => (hv0.2.2.1 t m).f) hv0.2.2.2.1 hv0.2.2.2.2 hc0.f
  rw [← hcs0] at HWK
  refine HWK.mono fun e W' ⟨he, bel⟩ => ?_
  subst he
  exact ⟨_, rfl, _, _, _, [], _, [], hW', trodAll_mk1 (shut_bool Tryz.underlying4 _), (trodAll_cons_mk (Below.trod doorLaidOut (by kernel_rfl) (of_decide_eq_true (by kernel_rfl)) k0 bel lt0) trodAll_mk0), rfl, bel.frame _, fun h => by cases h⟩
theorem tyblocks_holds : Rows.TypesBlocksUptoSaid :=
  OpenClaim.holds_of_cond 3 Tryz.f3 rfl rfl rfl rfl rfl rfl rfl ⟨rfl, rfl, rfl, rfl, rfl⟩ rfl rfl rfl rfl rfl (by kernel_rfl) Tryz.func3 (by kernel_rfl)
    (of_decide_eq_true (by kernel_rfl)) (by unfold Func.isWrapper; first | (rw [if_pos (by decide +kernel)]; kernel_rfl) | (rw [if_neg (by decide +kernel)]; exact ⟨rfl, rfl⟩))
    (fun os started H enc _ F => by rw [OpenClaim.pre_eq_preRow]; exact tyblocks_lifted os started H enc F)
theorem tyblocks_card : Rows.TypesBlocksUptoCardSaid :=
  Claim7.holds_tied_plain_at .later [] [.handle, .data, .data] true _ true
    tyblocks_holds (fun _ h => by cases h) (by kernel_rfl) (fun _ h => by cases h) typesBlocksUpto_row_tie rfl ⟨rfl, rfl⟩ (by kernel_rfl) rfl
    (fun f fn hf hfn => by
      obtain rfl : f = 3 := Option.some.inj ((show Tryz.prog.funcNamed "isthmus/isthmuslaw11.TypesBlocks" = some 3 by kernel_rfl).symm.trans hf) |>.symm
      obtain rfl : fn = Tryz.f3 := (Option.some.inj (Tryz.func3.symm.trans hfn)).symm
      exact ⟨by kernel_rfl, fun j t ht => by
        rw [Tryz.params3] at ht
        have hm : t ∈ [31] := by simpa using Array.mem_of_getElem? ht
        have hall : ([31].all fun u => !Tryz.prog.wantsStandIn u) = true := by kernel_rfl
        exact (show Tryz.prog.wantsStandIn t = false by simpa using List.all_eq_true.1 hall t hm)⟩)
    (by kernel_rfl)
#print axioms tyblocks_card
end Go.Proofs.YteokgklfljhcaaaGreatDoor
