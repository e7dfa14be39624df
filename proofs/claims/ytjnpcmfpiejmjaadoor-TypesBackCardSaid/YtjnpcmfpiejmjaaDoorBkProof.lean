/- For every block, TypesBack returns true and leaves its argument as it was. Conditions: errors.errorType reads as the program's text lays it, which the card ties to that text; no piece of what came in is larger than the reach. -/
import Derived.ProofKit
import Derived.LaidMore
import Derived.OpenShut
import Derived.Stop.Joined
import Derived.Stop.LaidErr
import Derived.Lib.LaidTab
import Derived.LaidHandle
import Derived.SizedLaws
import Derived.Test.YtjnpcmfpiejmjaaDoorTie
import Derived.Test.YtjnpcmfpiejmjaaDoorCards
import Derived.SevenTiedAt
import Derived.Test.YtjnpcmfpiejmjaaDoorBk8
import Derived.Test.YtjnpcmfpiejmjaaDoorBk25
import Derived.Test.YtjnpcmfpiejmjaaDoorBk27
namespace Go.Proofs.YtjnpcmfpiejmjaaDoor
set_option linter.unusedVariables false
set_option linter.unusedSimpArgs false
open Go.ChangeShapes Go.WideShapes Go.ChangeAt Go.RowKit Go.Proofs
set_option maxRecDepth 100000
set_option linter.unusedSimpArgs false
set_option linter.unusedVariables false
theorem by8_11 {F : Nat → Int} (w : ∀ i, i < 32 → (Lit.int .u8 (F i)).wf = true) : byOk F := fun i hi => by have := bounds_u8 (w i hi); exact ⟨by omega, by omega⟩
theorem tb_raw {H : Type} {enc : TypeId × Value → H} {W : World} (f : Nat) (cs : List Value) (x : DataW H × List MemPlace) (h : DataW.trod enc Tryd.prog W 0 (fun _ => true) true f 33 cs = some x) :
    ∃ t : Tb, cs = [t.bv] ∧ bytesOk t.bs ∧ BytesIn W t.bv t.bs := by
  obtain ⟨bv, bs, h5, hbin, hbok, _⟩ := bytes_raw h
  exact ⟨⟨bv, bs⟩, h5, hbok, hbin⟩
theorem voB_raw {H : Type} {enc : TypeId × Value → H} {W : World} (f : Nat) (cs : List Value) (x : DataW H × List MemPlace) (h : DataW.trod enc Tryd.prog W 0 (fun _ => true) true f 35 cs = some x) :
    ∃ t : Vo, cs = (voC t).toList ∧ (VoBy t ∧ BytesIn W t.sv t.sign) := by
  obtain ⟨xs, m, _, rfl, hlen, hxl, hf⟩ := DataW.trod_struct Tryd.underlying35 h
  rw [show Tryd.prog.cellsOf 35 = 37 by kernel_rfl] at hlen
  simp only [List.size_toArray, List.length_cons, List.length_nil] at hxl
  have g : ∀ i, i < 6 → ∃ y, xs[i]? = some y := fun i hi => ⟨xs[i], List.getElem?_eq_getElem (by omega)⟩
  obtain ⟨y0, e0⟩ := g 0 (by omega)
  obtain ⟨y1, e1⟩ := g 1 (by omega)
  obtain ⟨y2, e2⟩ := g 2 (by omega)
  obtain ⟨y3, e3⟩ := g 3 (by omega)
  obtain ⟨y4, e4⟩ := g 4 (by omega)
  obtain ⟨y5, e5⟩ := g 5 (by omega)
  have f0 : DataW.trod enc Tryd.prog W 0 (fun _ => true) true m 3 ((cs.drop 0).take (Tryd.prog.cellsOf 3)) = xs[0]? := hf 0 _ rfl
  have f1 : DataW.trod enc Tryd.prog W 0 (fun _ => true) true m 3 ((cs.drop 1).take (Tryd.prog.cellsOf 3)) = xs[1]? := hf 1 _ rfl
  have f2 : DataW.trod enc Tryd.prog W 0 (fun _ => true) true m 3 ((cs.drop 2).take (Tryd.prog.cellsOf 3)) = xs[2]? := hf 2 _ rfl
  have f3 : DataW.trod enc Tryd.prog W 0 (fun _ => true) true m 23 ((cs.drop 3).take (Tryd.prog.cellsOf 23)) = xs[3]? := hf 3 _ rfl
  have f4 : DataW.trod enc Tryd.prog W 0 (fun _ => true) true m 3 ((cs.drop 35).take (Tryd.prog.cellsOf 3)) = xs[4]? := hf 4 _ rfl
  have f5 : DataW.trod enc Tryd.prog W 0 (fun _ => true) true m 33 ((cs.drop 36).take (Tryd.prog.cellsOf 33)) = xs[5]? := hf 5 _ rfl
  rw [e0, show Tryd.prog.cellsOf 3 = 1 by kernel_rfl] at f0
  rw [e1, show Tryd.prog.cellsOf 3 = 1 by kernel_rfl] at f1
  rw [e2, show Tryd.prog.cellsOf 3 = 1 by kernel_rfl] at f2
  rw [e3, show Tryd.prog.cellsOf 23 = 32 by kernel_rfl] at f3
  rw [e4, show Tryd.prog.cellsOf 3 = 1 by kernel_rfl] at f4
  rw [e5, show Tryd.prog.cellsOf 33 = 1 by kernel_rfl] at f5
  obtain ⟨kd, h0, _, w0⟩ := DataW.trod_int Tryd.underlying3 f0
  obtain ⟨ht, h1, _, w1⟩ := DataW.trod_int Tryd.underlying3 f1
  obtain ⟨rd, h2, _, w2⟩ := DataW.trod_int Tryd.underlying3 f2
  obtain ⟨F, h3, w3⟩ := arr_raw Tryd.underlying23 Tryd.underlying5 (by kernel_rfl) (by kernel_rfl) f3
  obtain ⟨vl, h4, _, w4⟩ := DataW.trod_int Tryd.underlying3 f4
  obtain ⟨bv, bs, h5, hbin, hbok, _⟩ := bytes_raw f5
  refine ⟨⟨kd, ht, rd, F, vl, bv, bs⟩, ?_, ⟨⟨bounds_i64 w0, bounds_i64 w1, bounds_i64 w2, bounds_i64 w4⟩, by8_11 w3, hbok⟩, hbin⟩
  show cs.drop 0 = _
  rw [dcut cs 0 1 1 rfl, dcut cs 1 1 2 rfl, dcut cs 2 1 3 rfl, dcut cs 3 32 35 rfl, dcut cs 35 1 36 rfl, dcut cs 36 1 37 rfl, dend cs 37 hlen, h0, h1, h2, h3, h4, h5]
  simp [voC]
theorem cmB_raw {H : Type} {enc : TypeId × Value → H} {W : World} (f : Nat) (cs : List Value) (x : DataW H × List MemPlace) (h : DataW.trod enc Tryd.prog W 0 (fun _ => true) true f 29 cs = some x) :
    ∃ (c : Cm) (v : Value) (ts : List Vo), cs = (cmC c v).toList ∧ VoIn W v ts ∧ CmBy c ∧ (∀ t ∈ ts, VoBy t ∧ BytesIn W t.sv t.sign) := by
  obtain ⟨xs, m, _, rfl, hlen, hxl, hf⟩ := DataW.trod_struct Tryd.underlying29 h
  rw [show Tryd.prog.cellsOf 29 = 35 by kernel_rfl] at hlen
  simp only [List.size_toArray, List.length_cons, List.length_nil] at hxl
  have g : ∀ i, i < 4 → ∃ y, xs[i]? = some y := fun i hi => ⟨xs[i], List.getElem?_eq_getElem (by omega)⟩
  obtain ⟨y0, e0⟩ := g 0 (by omega)
  obtain ⟨y1, e1⟩ := g 1 (by omega)
  obtain ⟨y2, e2⟩ := g 2 (by omega)
  obtain ⟨y3, e3⟩ := g 3 (by omega)
  have f0 : DataW.trod enc Tryd.prog W 0 (fun _ => true) true m 3 ((cs.drop 0).take (Tryd.prog.cellsOf 3)) = xs[0]? := hf 0 _ rfl
  have f1 : DataW.trod enc Tryd.prog W 0 (fun _ => true) true m 3 ((cs.drop 1).take (Tryd.prog.cellsOf 3)) = xs[1]? := hf 1 _ rfl
  have f2 : DataW.trod enc Tryd.prog W 0 (fun _ => true) true m 23 ((cs.drop 2).take (Tryd.prog.cellsOf 23)) = xs[2]? := hf 2 _ rfl
  have f3 : DataW.trod enc Tryd.prog W 0 (fun _ => true) true m 27 ((cs.drop 34).take (Tryd.prog.cellsOf 27)) = xs[3]? := hf 3 _ rfl
  rw [e0, show Tryd.prog.cellsOf 3 = 1 by kernel_rfl] at f0
  rw [e1, show Tryd.prog.cellsOf 3 = 1 by kernel_rfl] at f1
  rw [e2, show Tryd.prog.cellsOf 23 = 32 by kernel_rfl] at f2
  rw [e3, show Tryd.prog.cellsOf 27 = 1 by kernel_rfl] at f3
  obtain ⟨ht, h0, _, w0⟩ := DataW.trod_int Tryd.underlying3 f0
  obtain ⟨rd, h1, _, w1⟩ := DataW.trod_int Tryd.underlying3 f1
  obtain ⟨F, h2, w2⟩ := arr_raw Tryd.underlying23 Tryd.underlying5 (by kernel_rfl) (by kernel_rfl) f2
  obtain ⟨ts, v, h3, hin, hts⟩ := rows_rawW (n := 37) Tryd.underlying27 (by kernel_rfl) (by omega) (fun t => (voC t).toList) (fun t => by rw [Array.length_toList, voC_size]) (fun t _ => VoBy t ∧ BytesIn W t.sv t.sign) voB_raw f3
  refine ⟨⟨ht, rd, F⟩, v, ts, ?_, hin, ⟨⟨bounds_i64 w0, bounds_i64 w1⟩, by8_11 w2⟩, fun t h => (hts t h).elim fun _ k => k.1⟩
  show cs.drop 0 = _
  rw [dcut cs 0 1 1 rfl, dcut cs 1 1 2 rfl, dcut cs 2 32 34 rfl, dcut cs 34 1 35 rfl, dend cs 35 hlen, h0, h1, h2, h3]
  simp [cmC]
theorem hdB_raw {H : Type} {enc : TypeId × Value → H} {W : World} (f : Nat) (cs : List Value) (x : DataW H × List MemPlace) (h : DataW.trod enc Tryd.prog W 0 (fun _ => true) true f 25 cs = some x) :
    ∃ h : Hd, cs = (hdD h.CH h.HT h.TM h.LA h.AP h.TX h.VA h.NX h.PR).toList ∧ ((∀ n ∈ x.1.weights Tryd.prog 25, n ≤ 140737488351232) → HdBy h) := by
  obtain ⟨xs, m, _, rfl, hlen, hxl, hff⟩ := DataW.trod_struct Tryd.underlying25 h
  rw [show Tryd.prog.cellsOf 25 = 164 by kernel_rfl] at hlen
  simp only [List.size_toArray, List.length_cons, List.length_nil] at hxl
  have g : ∀ i, i < 9 → ∃ y, xs[i]? = some y := fun i hi => ⟨xs[i], List.getElem?_eq_getElem (by omega)⟩
  obtain ⟨y0, e0⟩ := g 0 (by omega)
  obtain ⟨y1, e1⟩ := g 1 (by omega)
  obtain ⟨y2, e2⟩ := g 2 (by omega)
  obtain ⟨y3, e3⟩ := g 3 (by omega)
  obtain ⟨y4, e4⟩ := g 4 (by omega)
  obtain ⟨y5, e5⟩ := g 5 (by omega)
  obtain ⟨y6, e6⟩ := g 6 (by omega)
  obtain ⟨y7, e7⟩ := g 7 (by omega)
  obtain ⟨y8, e8⟩ := g 8 (by omega)
  have f0 : DataW.trod enc Tryd.prog W 0 (fun _ => true) true m 9 ((cs.drop 0).take (Tryd.prog.cellsOf 9)) = xs[0]? := hff 0 _ rfl
  have f1 : DataW.trod enc Tryd.prog W 0 (fun _ => true) true m 3 ((cs.drop 1).take (Tryd.prog.cellsOf 3)) = xs[1]? := hff 1 _ rfl
  have f2 : DataW.trod enc Tryd.prog W 0 (fun _ => true) true m 3 ((cs.drop 2).take (Tryd.prog.cellsOf 3)) = xs[2]? := hff 2 _ rfl
  have f3 : DataW.trod enc Tryd.prog W 0 (fun _ => true) true m 23 ((cs.drop 3).take (Tryd.prog.cellsOf 23)) = xs[3]? := hff 3 _ rfl
  have f4 : DataW.trod enc Tryd.prog W 0 (fun _ => true) true m 23 ((cs.drop 35).take (Tryd.prog.cellsOf 23)) = xs[4]? := hff 4 _ rfl
  have f5 : DataW.trod enc Tryd.prog W 0 (fun _ => true) true m 23 ((cs.drop 67).take (Tryd.prog.cellsOf 23)) = xs[5]? := hff 5 _ rfl
  have f6 : DataW.trod enc Tryd.prog W 0 (fun _ => true) true m 23 ((cs.drop 99).take (Tryd.prog.cellsOf 23)) = xs[6]? := hff 6 _ rfl
  have f7 : DataW.trod enc Tryd.prog W 0 (fun _ => true) true m 23 ((cs.drop 131).take (Tryd.prog.cellsOf 23)) = xs[7]? := hff 7 _ rfl
  have f8 : DataW.trod enc Tryd.prog W 0 (fun _ => true) true m 3 ((cs.drop 163).take (Tryd.prog.cellsOf 3)) = xs[8]? := hff 8 _ rfl
  rw [e0, show Tryd.prog.cellsOf 9 = 1 by kernel_rfl] at f0
  rw [e1, show Tryd.prog.cellsOf 3 = 1 by kernel_rfl] at f1
  rw [e2, show Tryd.prog.cellsOf 3 = 1 by kernel_rfl] at f2
  rw [e3, show Tryd.prog.cellsOf 23 = 32 by kernel_rfl] at f3
  rw [e4, show Tryd.prog.cellsOf 23 = 32 by kernel_rfl] at f4
  rw [e5, show Tryd.prog.cellsOf 23 = 32 by kernel_rfl] at f5
  rw [e6, show Tryd.prog.cellsOf 23 = 32 by kernel_rfl] at f6
  rw [e7, show Tryd.prog.cellsOf 23 = 32 by kernel_rfl] at f7
  rw [e8, show Tryd.prog.cellsOf 3 = 1 by kernel_rfl] at f8
  obtain ⟨CH, h0, x0, _⟩ := DataW.trod_string Tryd.underlying9 f0
  obtain ⟨HT, h1, _, w1⟩ := DataW.trod_int Tryd.underlying3 f1
  obtain ⟨TM, h2, _, w2⟩ := DataW.trod_int Tryd.underlying3 f2
  obtain ⟨LA, h3, w3⟩ := arr_raw Tryd.underlying23 Tryd.underlying5 (by kernel_rfl) (by kernel_rfl) f3
  obtain ⟨AP, h4, w4⟩ := arr_raw Tryd.underlying23 Tryd.underlying5 (by kernel_rfl) (by kernel_rfl) f4
  obtain ⟨TX, h5, w5⟩ := arr_raw Tryd.underlying23 Tryd.underlying5 (by kernel_rfl) (by kernel_rfl) f5
  obtain ⟨VA, h6, w6⟩ := arr_raw Tryd.underlying23 Tryd.underlying5 (by kernel_rfl) (by kernel_rfl) f6
  obtain ⟨NX, h7, w7⟩ := arr_raw Tryd.underlying23 Tryd.underlying5 (by kernel_rfl) (by kernel_rfl) f7
  obtain ⟨PR, h8, _, w8⟩ := DataW.trod_int Tryd.underlying3 f8
  refine ⟨⟨CH, HT, TM, LA, AP, TX, VA, NX, PR⟩, ?_, fun hw => ⟨⟨bounds_i64 w1, bounds_i64 w2, bounds_i64 w8, ?_⟩, by8_11 w3, by8_11 w4, by8_11 w5, by8_11 w6, by8_11 w7⟩⟩
  · show cs.drop 0 = _
    rw [dcut cs 0 1 1 rfl, dcut cs 1 1 2 rfl, dcut cs 2 1 3 rfl, dcut cs 3 32 35 rfl, dcut cs 35 32 67 rfl, dcut cs 67 32 99 rfl, dcut cs 99 32 131 rfl, dcut cs 131 32 163 rfl, dcut cs 163 1 164 rfl, dend cs 164 hlen, h0, h1, h2, h3, h4, h5, h6, h7, h8]
    simp [hdD]
  · have k4 : CH.data.toList.length ∈ y0.1.weights Tryd.prog 9 := by rw [x0]; simp [DataW.weights]
    have k6 := hw _ (by simp only [DataW.weights, Tryd.underlying25]; exact DataW.weights_mem_each (j := 0) (t := 9) rfl (by rw [List.getElem?_map, e0]; rfl) _ k4)
    rw [Array.length_toList] at k6
    exact k6
theorem block_arg {H : Type} {enc : TypeId × Value → H} {W : World} {cs : Array Value} {d : DataW H} {p : List MemPlace} (h : DataW.Trod enc Tryd.prog W 0 (fun _ => true) true 31 (.agg cs) d p) :
    ∃ (h : Hd) (ts : List Tb) (tv : Value) (c : Cm) (l : List Vo) (vv : Value), cs = bkD (hdD h.CH h.HT h.TM h.LA h.AP h.TX h.VA h.NX h.PR) tv (cmC c vv) ∧ (TbIn W tv ts ∧ (∀ t ∈ ts, BytesIn W t.bv t.bs) ∧ (∀ t ∈ ts, bytesOk t.bs)) ∧ (VoIn W vv l ∧ (∀ t ∈ l, BytesIn W t.sv t.sign) ∧ (∀ t ∈ l, VoBy t)) ∧ CmBy c ∧
      (∀ us ds : List _, ∀ j : Nat, us[j]? = some 31 → ds[j]? = some d → (DataW.weightsEach Tryd.prog us ds).all (· ≤ reachBytes) = true → HdBy h) := by
  obtain ⟨fuel, hf⟩ := h
  have hf' : DataW.trod enc Tryd.prog W 0 (fun _ => true) true fuel 31 cs.toList = some (d, p) := by simpa [Value.cells] using hf
  obtain ⟨xs, m, _, hx, hlen, hxl, hff⟩ := DataW.trod_struct Tryd.underlying31 hf'
  rw [show Tryd.prog.cellsOf 31 = 200 by kernel_rfl] at hlen
  simp only [List.size_toArray, List.length_cons, List.length_nil] at hxl
  have g : ∀ i, i < 3 → ∃ y, xs[i]? = some y := fun i hi => ⟨xs[i], List.getElem?_eq_getElem (by omega)⟩
  obtain ⟨y0, e0⟩ := g 0 (by omega)
  obtain ⟨y1, e1⟩ := g 1 (by omega)
  obtain ⟨y2, e2⟩ := g 2 (by omega)
  have f0 : DataW.trod enc Tryd.prog W 0 (fun _ => true) true m 25 ((cs.toList.drop 0).take (Tryd.prog.cellsOf 25)) = xs[0]? := hff 0 _ rfl
  have f1 : DataW.trod enc Tryd.prog W 0 (fun _ => true) true m 26 ((cs.toList.drop 164).take (Tryd.prog.cellsOf 26)) = xs[1]? := hff 1 _ rfl
  have f2 : DataW.trod enc Tryd.prog W 0 (fun _ => true) true m 29 ((cs.toList.drop 165).take (Tryd.prog.cellsOf 29)) = xs[2]? := hff 2 _ rfl
  rw [e0, show Tryd.prog.cellsOf 25 = 164 by kernel_rfl] at f0
  rw [e1, show Tryd.prog.cellsOf 26 = 1 by kernel_rfl] at f1
  rw [e2, show Tryd.prog.cellsOf 29 = 35 by kernel_rfl] at f2
  obtain ⟨h, h0, hw0⟩ := hdB_raw _ _ _ f0
  obtain ⟨ts, tv, h1, hin, hts⟩ := rows_rawW (n := 1) Tryd.underlying26 (by kernel_rfl) (by omega) (fun t : Tb => [t.bv]) (fun t => rfl) (fun t _ => bytesOk t.bs ∧ BytesIn W t.bv t.bs) tb_raw f1
  obtain ⟨c, vv, l, h2, hv, hc, hl⟩ := cmB_raw _ _ _ f2
  simp only [Prod.mk.injEq] at hx
  refine ⟨h, ts, tv, c, l, vv, ?_, ⟨hin, fun t m => (hts t m).elim fun _ k => k.1.2, fun t m => (hts t m).elim fun _ k => k.1.1⟩, ⟨hv, fun t m => (hl t m).2, fun t m => (hl t m).1⟩, hc, fun us ds j htj hdj hw => hw0 fun n hn => ?_⟩
  · apply Array.toList_inj.1
    show cs.toList.drop 0 = _
    rw [dcut cs.toList 0 164 164 rfl, dcut cs.toList 164 1 165 rfl, dcut cs.toList 165 35 200 rfl, dend cs.toList 200 hlen, h0, h1, h2]
    simp [bkD]
  · have all : ∀ n ∈ d.weights Tryd.prog 31, n ≤ 140737488351232 := fun n hn => of_decide_eq_true (List.all_eq_true.1 hw _ (DataW.weights_mem_each htj hdj _ hn))
    rw [hx.1] at all
    simp only [DataW.weights, Tryd.underlying31] at all
    exact all _ (DataW.weights_mem_each (j := 0) (t := 25) rfl (by rw [List.getElem?_map, e0]; rfl) _ hn)
end Go.Proofs.YtjnpcmfpiejmjaaDoor
namespace Go.Proofs.YtjnpcmfpiejmjaaDoor
set_option linter.unusedVariables false
set_option linter.unusedSimpArgs false
open Go.ChangeShapes Go.WideShapes Go.ChangeAt Go.RowKit
set_option maxRecDepth 100000
theorem doorOwn : ownKnob Tryd.prog.godebug = none := by kernel_rfl
theorem doorLaidOut : laidOutB Tryd.prog = true := by kernel_rfl
def laidErr : List (String × DataW Unit) := [("errors.errorType", Rows.laid_errors_errorType)]
theorem doorEt : Tryd.prog.globalNamed "errors.errorType" = some 0 := by kernel_rfl
theorem doorRt : (Tryd.prog.cutTypes.find? (·.1 == "internal/reflectlite.rtype")).map (·.2) = some 135 := by kernel_rfl
theorem doorOneRow : ((List.range Tryd.prog.types.size).filter fun t => Tryd.prog.rowNamed t [101, 114, 114, 111, 114]) = [37] := by kernel_rfl
theorem err_of_laid {W : World} (h : laidMetH Tryd.prog laidErr W) : ErrType W := by
  have h' : laidMet Tryd.prog [] W ∧ handlesMet Tryd.prog laidErr W := h
  obtain ⟨name, u, ty, e1, e2, e3, e4, e5⟩ := h'.2 _ (List.mem_singleton.2 rfl)
  have en : name = [101, 114, 114, 111, 114] := (Option.some.inj e1).symm
  subst en
  obtain rfl := Option.some.inj (doorRt.symm.trans e2)
  have hm : ty ∈ (List.range Tryd.prog.types.size).filter fun t => Tryd.prog.rowNamed t [101, 114, 114, 111, 114] := List.mem_filter.2 ⟨List.mem_range.2 e3, e4⟩
  rw [doorOneRow] at hm
  obtain rfl := List.mem_singleton.1 hm
  have hh : typeHandle Tryd.prog 37 = .pointer (some ⟨1, 37, none⟩) := by kernel_rfl
  rw [hh] at e5
  unfold ErrType
  simpa using World.var?_cell doorEt e5 0
theorem door_met (os : Os) (args : Array Value) : laidMetH Tryd.prog laidErr ((World.doorLaid Tryd.prog 400 os).forCall (fun _ _ => 0) ⟨#[], args, []⟩).memory :=
  laidMetH_of_parts (laidMet_nil _ _) (by kernel_rfl)
end Go.Proofs.YtjnpcmfpiejmjaaDoor
namespace Go.Proofs.YtjnpcmfpiejmjaaDoor
set_option linter.unusedVariables false
set_option linter.unusedSimpArgs false
open Go.ChangeShapes Go.WideShapes Go.ChangeAt Go.RowKit
set_option maxRecDepth 100000
set_option maxHeartbeats 8000000 in
theorem tyback_lifted (os : Os) (started : os.Started) (H : Type) (enc : TypeId × Value → H) :
    ReturnsInHanded {} Tryd.checked os 3 .any (fun w args => (Rows.typesBackSpec.pre enc Tryd.prog Tryd.f3 [] false w args ∧ laidMetH Tryd.prog laidErr w) ∧ sizedMet enc Tryd.prog Tryd.f3 (OpenSpec.ofChange Rows.typesBackSpec) false w args)
      (Rows.typesBackSpec.post enc Tryd.prog Tryd.f3 false true false false) := by
  refine returnsInHanded_of_change_and (C := Tryd.checked) (X := fun w _ => laidMetH Tryd.prog laidErr w) (fun _ _ _ hh h => h.of_heap hh) doorOwn started (by kernel_rfl) Tryd.func3
    (ChangeSpec.witness_shaped (enc := enc) (C := Tryd.checked) (os := os) (X := fun w _ => laidMetH Tryd.prog laidErr w) false (World.doorLaid Tryd.prog 400 os) #[.agg (#[.string { data := #[] }, .int .i64 0, .int .i64 0] ++ Array.replicate 160 (.int .u8 0) ++ #[.int .i64 0] ++ #[.slice none 0 0] ++ (#[.int .i64 0, .int .i64 0] ++ Array.replicate 32 (.int .u8 0) ++ #[.slice none 0 0]))] 8 rfl (World.shaped_of_RefB (by kernel_rfl) (by kernel_rfl)) (by kernel_rfl) (by kernel_rfl) (by kernel_rfl) (door_met os _)) ?_
  intro W base args ds gs before hval0 hW _ hsz0 hL _
  have hsz : (DataW.weightsEach Tryd.prog (Tryd.f3.params.toList ++ Rows.typesBackSpec.plain.varTypes Tryd.prog) (ds ++ gs)).all (· ≤ reachBytes) = true := hsz0
  clear hsz0
  have hval : ∀ (j : Nat) t v, Tryd.f3.params[j]? = some t → args[j]? = some v → Value.okWide Tryd.prog W .any base t v := hval0
  have hW' := hW
  obtain ⟨p, q, hA0, hV, rfl, hfz, hnd⟩ := hW
  have hA : DataW.TrodAll enc Tryd.prog W 0 (fun _ => true) true Tryd.f3.params.toList args.toList ds p := hA0
  rw [Tryd.params3] at hA hval hsz
  obtain ⟨v0, vs0, d0, ds0, p0, q0, hargs, rfl, rfl, h0, r0⟩ := trodAll_cons hA
  obtain ⟨rfl, rfl, rfl⟩ := trodAll_nil r0
  obtain rfl : args = #[v0] := by cases args; simp_all
  obtain ⟨rfl, rfl⟩ := trodVars_none hV
  obtain ⟨cs0, rfl, -⟩ := okWide_struct Tryd.underlying31 (hval 0 31 v0 rfl rfl)
  have k0 := h0
  have lt0 : ∀ x ∈ p0, x.block < W.heap.size := by obtain ⟨m, hm⟩ := k0; exact DataW.trod_lt m _ _ _ hm
  obtain ⟨hd0, ts0, tv0, cm0, l0, vv0, hcs0, ht0, hv0, hc0, hxs0⟩ := block_arg h0
  have hlen0 := hxs0 _ _ 0 (by rfl) (by rfl) hsz
  clear hA0 hval0
  have HWK := lback_any hd0 ts0 tv0 cm0 l0 vv0 W (err_of_laid hL) hlen0 ht0.1 ht0.2.1 ht0.2.2 hv0.1 hv0.2.1 hv0.2.2 hc0
  rw [← hcs0] at HWK
  refine HWK.mono fun e W' ⟨he, bel⟩ => ?_
  subst he
  exact ⟨_, rfl, _, _, _, [], _, [], hW', trodAll_mk1 (shut_bool Tryd.underlying4 _), (trodAll_cons_mk (Below.trod doorLaidOut (by kernel_rfl) (of_decide_eq_true (by kernel_rfl)) k0 bel lt0) trodAll_mk0), rfl, bel.frame _, fun h => by cases h⟩
theorem tyback_holds : Rows.TypesBackSaid :=
  OpenClaim.holds_of_wide 3 Tryd.f3 rfl rfl rfl rfl rfl rfl rfl ⟨rfl, rfl, rfl, rfl, rfl⟩ rfl rfl rfl rfl rfl (by kernel_rfl) Tryd.func3 (by kernel_rfl)
    (of_decide_eq_true (by kernel_rfl)) (by unfold Func.isWrapper; first | (rw [if_pos (by decide +kernel)]; kernel_rfl) | (rw [if_neg (by decide +kernel)]; exact ⟨rfl, rfl⟩))
    (fun os started H enc _ => tyback_lifted os started H enc)
theorem tyback_card : Rows.TypesBackCardSaid :=
  Claim7.holds_tied_plain_at .later [] [.handle] true _ true
    tyback_holds (fun _ h => by cases h) (by kernel_rfl) (fun _ h => by cases h) typesBack_row_tie rfl ⟨rfl, rfl⟩ (by kernel_rfl) rfl
    (fun f fn hf hfn => by
      obtain rfl : f = 3 := Option.some.inj ((show Tryd.prog.funcNamed "isthmus/isthmuslaw11.TypesBack" = some 3 by kernel_rfl).symm.trans hf) |>.symm
      obtain rfl : fn = Tryd.f3 := (Option.some.inj (Tryd.func3.symm.trans hfn)).symm
      exact ⟨by kernel_rfl, fun j t ht => by
        rw [Tryd.params3] at ht
        have hm : t ∈ [31] := by simpa using Array.mem_of_getElem? ht
        have hall : ([31].all fun u => !Tryd.prog.wantsStandIn u) = true := by kernel_rfl
        exact (show Tryd.prog.wantsStandIn t = false by simpa using List.all_eq_true.1 hall t hm)⟩)
    (by kernel_rfl)
#print axioms tyback_card
end Go.Proofs.YtjnpcmfpiejmjaaDoor
