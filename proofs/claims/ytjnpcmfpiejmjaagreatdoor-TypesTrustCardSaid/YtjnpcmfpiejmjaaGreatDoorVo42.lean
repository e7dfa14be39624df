/- Part 42 of the proof. -/
import Derived.Lib.Zigzag
import Derived.Great.BuildSlice
import Derived.Test.YtjnpcmfpiejmjaaGreatDoorVo1
import Derived.Test.YtjnpcmfpiejmjaaGreatDoorVo3
import Derived.Test.YtjnpcmfpiejmjaaGreatDoorVo5
import Derived.Test.YtjnpcmfpiejmjaaGreatDoorVo40
import Derived.Test.YtjnpcmfpiejmjaaGreatDoorVo41
namespace Go.Proofs.YtjnpcmfpiejmjaaGreatDoor
set_option linter.unusedVariables false
set_option linter.unusedSimpArgs false
open Go.ChangeShapes Go.WideShapes Go.ChangeAt Go.RowKit Go.Proofs
set_option maxRecDepth 100000
set_option linter.unusedSimpArgs false
set_option linter.unusedVariables false
theorem valK_raw {H : Type} {enc : TypeId × Value → H} {W : World} (f : Nat) (cs : List Value) (x : DataW H × List MemPlace) (h : DataW.trod enc Tryz.prog W 0 (fun _ => true) true f 34 cs = some x) :
    ∃ t : Va, cs = (vaC t).toList ∧ (∀ i, i < 32 → 0 ≤ t.key i ∧ t.key i < 256) ∧ ∀ b, (∀ n ∈ x.1.weights Tryz.prog 34, n ≤ b) → t.name.size ≤ b := by
  obtain ⟨xs, m, _, rfl, hlen, hxl, hf⟩ := DataW.trod_struct Tryz.underlying34 h
  rw [show Tryz.prog.cellsOf 34 = 34 by kernel_rfl] at hlen
  simp only [List.size_toArray, List.length_cons, List.length_nil] at hxl
  have g : ∀ i, i < 3 → ∃ y, xs[i]? = some y := fun i hi => ⟨xs[i], List.getElem?_eq_getElem (by omega)⟩
  obtain ⟨y0, e0⟩ := g 0 (by omega)
  obtain ⟨y1, e1⟩ := g 1 (by omega)
  obtain ⟨y2, e2⟩ := g 2 (by omega)
  have f0 : DataW.trod enc Tryz.prog W 0 (fun _ => true) true m 9 ((cs.drop 0).take (Tryz.prog.cellsOf 9)) = xs[0]? := hf 0 _ rfl
  have f1 : DataW.trod enc Tryz.prog W 0 (fun _ => true) true m 32 ((cs.drop 1).take (Tryz.prog.cellsOf 32)) = xs[1]? := hf 1 _ rfl
  have f2 : DataW.trod enc Tryz.prog W 0 (fun _ => true) true m 3 ((cs.drop 33).take (Tryz.prog.cellsOf 3)) = xs[2]? := hf 2 _ rfl
  rw [e0, show Tryz.prog.cellsOf 9 = 1 by kernel_rfl] at f0
  rw [e1, show Tryz.prog.cellsOf 32 = 32 by kernel_rfl] at f1
  rw [e2, show Tryz.prog.cellsOf 3 = 1 by kernel_rfl] at f2
  obtain ⟨s, h0, x0, _⟩ := DataW.trod_string Tryz.underlying9 f0
  obtain ⟨F, h1, wF⟩ := arr_raw Tryz.underlying32 Tryz.underlying5 (by kernel_rfl) (by kernel_rfl) f1
  obtain ⟨p, h2, _, _⟩ := DataW.trod_int Tryz.underlying3 f2
  refine ⟨⟨s, F, p⟩, ?_, fun i hi => by have := bounds_u8 (wF i hi); show 0 ≤ F i ∧ F i < 256; omega, fun b hw => ?_⟩
  · show cs.drop 0 = _
    rw [dcut cs 0 1 1 rfl, dcut cs 1 32 33 rfl, dcut cs 33 1 34 rfl, dend cs 34 hlen, h0, h1, h2]
    simp [vaC]
  · have h4 : s.data.toList.length ∈ y0.1.weights Tryz.prog 9 := by rw [x0]; simp [DataW.weights]
    have h6 := hw _ (by simp only [DataW.weights, Tryz.underlying34]; exact DataW.weights_mem_each (j := 0) (t := 9) rfl (by rw [List.getElem?_map, e0]; rfl) _ h4)
    rw [Array.length_toList] at h6
    exact h6
theorem casetK_arg {H : Type} {enc : TypeId × Value → H} {W : World} {cs : Array Value} {d : DataW H} {p : List MemPlace} (h : DataW.Trod enc Tryz.prog W 0 (fun _ => true) true 44 (.agg cs) d p) :
    ∃ (s : ByteArray) (v : Value) (l : List Va) (D E : Int), cs = csC s v D E ∧ VaIn W v l ∧ (∀ t ∈ l, ∀ i, i < 32 → 0 ≤ t.key i ∧ t.key i < 256) ∧ (∀ us ds : List _, ∀ j : Nat, us[j]? = some 44 → ds[j]? = some d → (DataW.weightsEach Tryz.prog us ds).all (· ≤ reachBytes) = true → s.size ≤ 140737488351232 ∧ ∀ t ∈ l, t.name.size ≤ 140737488351232) := by
  obtain ⟨fuel, hf⟩ := h
  have hf' : DataW.trod enc Tryz.prog W 0 (fun _ => true) true fuel 44 cs.toList = some (d, p) := by simpa [Value.cells] using hf
  obtain ⟨xs, m, _, hx, hlen, hxl, hff⟩ := DataW.trod_struct Tryz.underlying44 hf'
  rw [show Tryz.prog.cellsOf 44 = 4 by kernel_rfl] at hlen
  simp only [List.size_toArray, List.length_cons, List.length_nil] at hxl
  have g : ∀ i, i < 3 → ∃ y, xs[i]? = some y := fun i hi => ⟨xs[i], List.getElem?_eq_getElem (by omega)⟩
  obtain ⟨y0, e0⟩ := g 0 (by omega)
  obtain ⟨y1, e1⟩ := g 1 (by omega)
  obtain ⟨y2, e2⟩ := g 2 (by omega)
  have f0 : DataW.trod enc Tryz.prog W 0 (fun _ => true) true m 9 ((cs.toList.drop 0).take (Tryz.prog.cellsOf 9)) = xs[0]? := hff 0 _ rfl
  have f1 : DataW.trod enc Tryz.prog W 0 (fun _ => true) true m 22 ((cs.toList.drop 1).take (Tryz.prog.cellsOf 22)) = xs[1]? := hff 1 _ rfl
  have f2 : DataW.trod enc Tryz.prog W 0 (fun _ => true) true m 42 ((cs.toList.drop 2).take (Tryz.prog.cellsOf 42)) = xs[2]? := hff 2 _ rfl
  rw [e0, show Tryz.prog.cellsOf 9 = 1 by kernel_rfl] at f0
  rw [e1, show Tryz.prog.cellsOf 22 = 1 by kernel_rfl] at f1
  rw [e2, show Tryz.prog.cellsOf 42 = 2 by kernel_rfl] at f2
  obtain ⟨s, h0, x0, _⟩ := DataW.trod_string Tryz.underlying9 f0
  obtain ⟨l, v, h1, hin, hl⟩ := rows_rawW (n := 34) Tryz.underlying22 (by kernel_rfl) (by omega) (fun t => (vaC t).toList) (fun t => by rw [Array.length_toList, vaC_size]) (fun t d => (∀ i, i < 32 → 0 ≤ t.key i ∧ t.key i < 256) ∧ ∀ b, (∀ n ∈ d.weights Tryz.prog 34, n ≤ b) → t.name.size ≤ b) valK_raw f1
  obtain ⟨D, E, h2⟩ := par_arg (cs := ((cs.toList.drop 2).take 2).toArray) ⟨m, by simpa [Value.cells] using f2⟩
  have h2 := congrArg Array.toList h2
  rw [List.toList_toArray] at h2
  simp only [Prod.mk.injEq] at hx
  refine ⟨s, v, l, D, E, ?_, hin, fun t ht => (hl t ht).elim fun e h => h.1.1, fun us ds j htj hdj hw => ?_⟩
  · apply Array.toList_inj.1
    show cs.toList.drop 0 = _
    rw [dcut cs.toList 0 1 1 rfl, dcut cs.toList 1 1 2 rfl, dcut cs.toList 2 2 4 rfl, dend cs.toList 4 hlen, h0, h1, h2]
    simp [csC, parC]
  · have all : ∀ n ∈ d.weights Tryz.prog 44, n ≤ 140737488351232 := fun n hn => of_decide_eq_true (List.all_eq_true.1 hw _ (DataW.weights_mem_each htj hdj _ hn))
    rw [hx.1] at all
    simp only [DataW.weights, Tryz.underlying44] at all
    refine ⟨?_, fun t ht => ?_⟩
    · have h4 : s.data.toList.length ∈ y0.1.weights Tryz.prog 9 := by rw [x0]; simp [DataW.weights]
      have h6 := all _ (DataW.weights_mem_each (j := 0) (t := 9) rfl (by rw [List.getElem?_map, e0]; rfl) _ h4)
      rw [Array.length_toList] at h6
      exact h6
    · obtain ⟨e, ⟨_, h6⟩, h7⟩ := hl t ht
      exact h6 _ fun n hn => all _ (DataW.weights_mem_each (j := 1) (t := 22) rfl (by rw [List.getElem?_map, e1]; rfl) _ (h7 n hn))
def byOk (f : Nat → Int) : Prop := ∀ i, i < 32 → 0 ≤ f i ∧ f i < 256
theorem header_arg {H : Type} {enc : TypeId × Value → H} {W : World} {cs : Array Value} {d : DataW H} {p : List MemPlace} (h : DataW.Trod enc Tryz.prog W 0 (fun _ => true) true 55 (.agg cs) d p) :
    ∃ (CH : ByteArray) (HT TM : Int) (LA AP TX VA NX : Nat → Int) (PR : Int), cs = hdD CH HT TM LA AP TX VA NX PR ∧ ((-9223372036854775808 ≤ HT ∧ HT ≤ 9223372036854775807) ∧ (-9223372036854775808 ≤ TM ∧ TM ≤ 9223372036854775807) ∧ (-9223372036854775808 ≤ PR ∧ PR ≤ 9223372036854775807)) ∧ (byOk LA ∧ byOk AP ∧ byOk TX ∧ byOk VA ∧ byOk NX) ∧ (∀ us ds : List _, ∀ j : Nat, us[j]? = some 55 → ds[j]? = some d → (DataW.weightsEach Tryz.prog us ds).all (· ≤ reachBytes) = true → CH.size ≤ 140737488351232) := by
  obtain ⟨fuel, hf⟩ := h
  have hf' : DataW.trod enc Tryz.prog W 0 (fun _ => true) true fuel 55 cs.toList = some (d, p) := by simpa [Value.cells] using hf
  obtain ⟨xs, m, _, hx, hlen, hxl, hff⟩ := DataW.trod_struct Tryz.underlying55 hf'
  rw [show Tryz.prog.cellsOf 55 = 164 by kernel_rfl] at hlen
  simp only [List.size_toArray, List.length_cons, List.length_nil] at hxl
  have g : ∀ i, i < 9 → ∃ y, xs[i]? = some y := fun i hi => ⟨xs[i], List.getElem?_eq_getElem (by omega)⟩
  obtain ⟨y0, e0⟩ := g 0 (by omega)
  obtain ⟨y1, e1⟩ := g 1 (by omega)
  obtain ⟨y2, e2⟩ := g 2 (by omega)
  obtain ⟨y3, e3⟩ := g 3 (by omega)
  obtain ⟨y4, e4⟩ := g 4 (by omega)
  obtain ⟨y5, e5⟩ := g 5 (by omega)
  obtain ⟨y6, e6⟩ := g 6 (by omega)
  obtain ⟨y7, e7⟩ := g 7 (by omega)
  obtain ⟨y8, e8⟩ := g 8 (by omega)
  have f0 : DataW.trod enc Tryz.prog W 0 (fun _ => true) true m 9 ((cs.toList.drop 0).take (Tryz.prog.cellsOf 9)) = xs[0]? := hff 0 _ rfl
  have f1 : DataW.trod enc Tryz.prog W 0 (fun _ => true) true m 3 ((cs.toList.drop 1).take (Tryz.prog.cellsOf 3)) = xs[1]? := hff 1 _ rfl
  have f2 : DataW.trod enc Tryz.prog W 0 (fun _ => true) true m 3 ((cs.toList.drop 2).take (Tryz.prog.cellsOf 3)) = xs[2]? := hff 2 _ rfl
  have f3 : DataW.trod enc Tryz.prog W 0 (fun _ => true) true m 32 ((cs.toList.drop 3).take (Tryz.prog.cellsOf 32)) = xs[3]? := hff 3 _ rfl
  have f4 : DataW.trod enc Tryz.prog W 0 (fun _ => true) true m 32 ((cs.toList.drop 35).take (Tryz.prog.cellsOf 32)) = xs[4]? := hff 4 _ rfl
  have f5 : DataW.trod enc Tryz.prog W 0 (fun _ => true) true m 32 ((cs.toList.drop 67).take (Tryz.prog.cellsOf 32)) = xs[5]? := hff 5 _ rfl
  have f6 : DataW.trod enc Tryz.prog W 0 (fun _ => true) true m 32 ((cs.toList.drop 99).take (Tryz.prog.cellsOf 32)) = xs[6]? := hff 6 _ rfl
  have f7 : DataW.trod enc Tryz.prog W 0 (fun _ => true) true m 32 ((cs.toList.drop 131).take (Tryz.prog.cellsOf 32)) = xs[7]? := hff 7 _ rfl
  have f8 : DataW.trod enc Tryz.prog W 0 (fun _ => true) true m 3 ((cs.toList.drop 163).take (Tryz.prog.cellsOf 3)) = xs[8]? := hff 8 _ rfl
  rw [e0, show Tryz.prog.cellsOf 9 = 1 by kernel_rfl] at f0
  rw [e1, show Tryz.prog.cellsOf 3 = 1 by kernel_rfl] at f1
  rw [e2, show Tryz.prog.cellsOf 3 = 1 by kernel_rfl] at f2
  rw [e3, show Tryz.prog.cellsOf 32 = 32 by kernel_rfl] at f3
  rw [e4, show Tryz.prog.cellsOf 32 = 32 by kernel_rfl] at f4
  rw [e5, show Tryz.prog.cellsOf 32 = 32 by kernel_rfl] at f5
  rw [e6, show Tryz.prog.cellsOf 32 = 32 by kernel_rfl] at f6
  rw [e7, show Tryz.prog.cellsOf 32 = 32 by kernel_rfl] at f7
  rw [e8, show Tryz.prog.cellsOf 3 = 1 by kernel_rfl] at f8
  obtain ⟨CH, h0, x0, _⟩ := DataW.trod_string Tryz.underlying9 f0
  obtain ⟨HT, h1, _, w1⟩ := DataW.trod_int Tryz.underlying3 f1
  obtain ⟨TM, h2, _, w2⟩ := DataW.trod_int Tryz.underlying3 f2
  obtain ⟨LA, h3, w3⟩ := arr_raw Tryz.underlying32 Tryz.underlying5 (by kernel_rfl) (by kernel_rfl) f3
  obtain ⟨AP, h4, w4⟩ := arr_raw Tryz.underlying32 Tryz.underlying5 (by kernel_rfl) (by kernel_rfl) f4
  obtain ⟨TX, h5, w5⟩ := arr_raw Tryz.underlying32 Tryz.underlying5 (by kernel_rfl) (by kernel_rfl) f5
  obtain ⟨VA, h6, w6⟩ := arr_raw Tryz.underlying32 Tryz.underlying5 (by kernel_rfl) (by kernel_rfl) f6
  obtain ⟨NX, h7, w7⟩ := arr_raw Tryz.underlying32 Tryz.underlying5 (by kernel_rfl) (by kernel_rfl) f7
  obtain ⟨PR, h8, _, w8⟩ := DataW.trod_int Tryz.underlying3 f8
  have by8 : ∀ {F : Nat → Int}, (∀ i, i < 32 → (Lit.int .u8 (F i)).wf = true) → byOk F := fun w i hi => by have := bounds_u8 (w i hi); exact ⟨by omega, by omega⟩
  simp only [Prod.mk.injEq] at hx
  refine ⟨CH, HT, TM, LA, AP, TX, VA, NX, PR, ?_, ⟨bounds_i64 w1, bounds_i64 w2, bounds_i64 w8⟩, ⟨by8 w3, by8 w4, by8 w5, by8 w6, by8 w7⟩, fun us ds j htj hdj hw => ?_⟩
  · apply Array.toList_inj.1
    show cs.toList.drop 0 = _
    rw [dcut cs.toList 0 1 1 rfl, dcut cs.toList 1 1 2 rfl, dcut cs.toList 2 1 3 rfl, dcut cs.toList 3 32 35 rfl, dcut cs.toList 35 32 67 rfl, dcut cs.toList 67 32 99 rfl, dcut cs.toList 99 32 131 rfl, dcut cs.toList 131 32 163 rfl, dcut cs.toList 163 1 164 rfl, dend cs.toList 164 hlen, h0, h1, h2, h3, h4, h5, h6, h7, h8]
    simp [hdD]
  · have all : ∀ n ∈ d.weights Tryz.prog 55, n ≤ 140737488351232 := fun n hn => of_decide_eq_true (List.all_eq_true.1 hw _ (DataW.weights_mem_each htj hdj _ hn))
    rw [hx.1] at all
    simp only [DataW.weights, Tryz.underlying55] at all
    have h4 : CH.data.toList.length ∈ y0.1.weights Tryz.prog 9 := by rw [x0]; simp [DataW.weights]
    have h6 := all _ (DataW.weights_mem_each (j := 0) (t := 9) rfl (by rw [List.getElem?_map, e0]; rfl) _ h4)
    rw [Array.length_toList] at h6
    exact h6
end Go.Proofs.YtjnpcmfpiejmjaaGreatDoor
namespace Go.Proofs.YtjnpcmfpiejmjaaGreatDoor
set_option linter.unusedVariables false
set_option linter.unusedSimpArgs false
open Go.RowKit
set_option maxRecDepth 100000
theorem bok_app {xs ys : List Int} (h1 : bytesOk xs) (h2 : bytesOk ys) : bytesOk (xs ++ ys) := fun x hx => by
  rcases List.mem_append.1 hx with h | h
  · exact h1 x h
  · exact h2 x h
theorem bok_nums (s : ByteArray) : bytesOk (numsOf s) := fun x hx => by
  unfold numsOf at hx
  obtain ⟨b, _, rfl⟩ := List.mem_map.1 hx
  have := b.toBitVec.isLt
  constructor
  · omega
  · have : b.toNat < 256 := this
    omega
theorem bok_varint (n : Nat) : bytesOk (varint n) := fun x hx => by
  unfold varint at hx
  obtain ⟨i, hi, rfl⟩ := List.mem_map.1 hx
  have := gby_lt (List.mem_range.1 hi)
  omega
theorem bok_row {f : Nat → Int} (h : byOk f) : bytesOk (rowL 32 f) := fun x hx => by
  unfold rowL at hx
  obtain ⟨i, hi, rfl⟩ := List.mem_map.1 hx
  exact h i (List.mem_range.1 hi)
theorem hd_bok {CH : ByteArray} {HT TM : Int} {LA AP TX VA NX : Nat → Int} {PR : Int} (h1 : byOk LA) (h2 : byOk AP) (h3 : byOk TX) (h4 : byOk VA) (h5 : byOk NX) : bytesOk (hdL CH HT TM LA AP TX VA NX PR) := by
  unfold hdL
  exact bok_app (bok_app (bok_app (bok_app (bok_app (bok_app (bok_app (bok_app (bok_app (bok_varint _) (bok_nums _)) (bok_varint _)) (bok_varint _)) (bok_row h1)) (bok_row h2)) (bok_row h3)) (bok_row h4)) (bok_row h5)) (bok_varint _)
theorem hd_sTime {CH : ByteArray} {HT TM TN : Int} {LA AP TX VA NX : Nat → Int} {PR : Int} (h1 : byOk LA) (h2 : byOk AP) (h3 : byOk TX) (h4 : byOk VA) (h5 : byOk NX) (ha : -9223372036854775808 ≤ TM ∧ TM ≤ 9223372036854775807) (hb : -9223372036854775808 ≤ TN ∧ TN ≤ 9223372036854775807) (hn : TN ≠ TM) :
    strOfNums (hdL CH HT TN LA AP TX VA NX PR) ≠ strOfNums (hdL CH HT TM LA AP TX VA NX PR) := fun e => by
  have e2 := congrArg numsOf e
  rw [numsOf_str _ (hd_bok h1 h2 h3 h4 h5), numsOf_str _ (hd_bok h1 h2 h3 h4 h5)] at e2
  exact hn (hd_time hb ha e2)
theorem hd_sApp {CH : ByteArray} {HT TM : Int} {LA AP AQ TX VA NX : Nat → Int} {PR : Int} (h1 : byOk LA) (h2 : byOk AP) (hq : byOk AQ) (h3 : byOk TX) (h4 : byOk VA) (h5 : byOk NX) (hn : AQ 0 ≠ AP 0) :
    strOfNums (hdL CH HT TM LA AQ TX VA NX PR) ≠ strOfNums (hdL CH HT TM LA AP TX VA NX PR) := fun e => by
  have e2 := congrArg numsOf e
  rw [numsOf_str _ (hd_bok h1 hq h3 h4 h5), numsOf_str _ (hd_bok h1 h2 h3 h4 h5)] at e2
  exact hn (hd_app e2)
theorem xor1_i64 {x : Int} (h : -9223372036854775808 ≤ x ∧ x ≤ 9223372036854775807) : (-9223372036854775808 ≤ bits .xor .i64 x 1 ∧ bits .xor .i64 x 1 ≤ 9223372036854775807) ∧ bits .xor .i64 x 1 ≠ x := by
  obtain ⟨y, hy⟩ : ∃ y, y = BitVec.ofInt 64 x ^^^ BitVec.ofInt 64 1 := ⟨_, rfl⟩
  have e : bits .xor .i64 x 1 = IntKind.i64.wrap (y.toNat : Int) := by rw [hy]; rfl
  have hlt : y.toNat < 2 ^ 64 := y.isLt
  rw [e, IntKind.wrap_i64]
  refine ⟨by omega, fun e2 => ?_⟩
  have e3 : y = BitVec.ofInt 64 x := by
    apply BitVec.eq_of_toNat_eq
    rw [BitVec.toNat_ofInt]
    omega
  rw [hy] at e3
  have e4 : BitVec.ofInt 64 x ^^^ (BitVec.ofInt 64 x ^^^ BitVec.ofInt 64 1) = BitVec.ofInt 64 x ^^^ BitVec.ofInt 64 x := by rw [e3]
  rw [← BitVec.xor_assoc, BitVec.xor_self, BitVec.zero_xor] at e4
  exact absurd e4 (by decide)
theorem xor1_u8 {x : Int} (h : 0 ≤ x ∧ x < 256) : (0 ≤ bits .xor .u8 x 1 ∧ bits .xor .u8 x 1 < 256) ∧ bits .xor .u8 x 1 ≠ x := by
  obtain ⟨y, hy⟩ : ∃ y, y = BitVec.ofInt 8 x ^^^ BitVec.ofInt 8 1 := ⟨_, rfl⟩
  have e : bits .xor .u8 x 1 = IntKind.u8.wrap (y.toNat : Int) := by rw [hy]; rfl
  have hlt : y.toNat < 2 ^ 8 := y.isLt
  rw [e, IntKind.wrap_u8]
  refine ⟨by omega, fun e2 => ?_⟩
  have e3 : y = BitVec.ofInt 8 x := by
    apply BitVec.eq_of_toNat_eq
    rw [BitVec.toNat_ofInt]
    omega
  rw [hy] at e3
  have e4 : BitVec.ofInt 8 x ^^^ (BitVec.ofInt 8 x ^^^ BitVec.ofInt 8 1) = BitVec.ofInt 8 x ^^^ BitVec.ofInt 8 x := by rw [e3]
  rw [← BitVec.xor_assoc, BitVec.xor_self, BitVec.zero_xor] at e4
  exact absurd e4 (by decide)
end Go.Proofs.YtjnpcmfpiejmjaaGreatDoor
namespace Go.Proofs.YtjnpcmfpiejmjaaGreatDoor
set_option linter.unusedVariables false
set_option linter.unusedSimpArgs false
open Go.RowKit
open Go.Maps (Keyed setOf)
set_option maxRecDepth 100000
set_option linter.unusedSimpArgs false
set_option linter.unusedVariables false
set_option maxHeartbeats 4000000 in
theorem vtrust_any (old l : List Va) (vs : List Vo) (c : Cm) (ov lv vv : Value) (w : World) (ho : VaIn w ov old) (hl : VaIn w lv l) (hv : VoIn w vv vs) (hwo : ∀ x ∈ old, VaWf x) (hwf : ∀ x ∈ l, VaWf x) (hn : l.length ≤ 1048576) (hsv : ∀ t ∈ vs, ∃ a n c, t.sv = .slice a n c) :
    Calls Tryz.prog 51 #[ov, lv, .agg (cmC c vv)] w fun e w' => e = .returned (errV (vtE old l vs)) ∧ Below w.heap.size w w' := by
  obtain ⟨oa, oc, rfl, -, hom⟩ := ho.len
  obtain ⟨la, lc, rfl, -, -⟩ := hl.len
  obtain ⟨qa, qc, rfl, -, -⟩ := hv.len
  have HB := Lib.hid (below_alloc w (.cells (cmC c (.slice qa vs.length qc)) 59))
  have c34 := (cm_cells (heap_alloc_new w (.cells (cmC c (.slice qa vs.length qc)) 59))).2.2.2
  have HO := Lib.hid ho
  have HVS := Lib.hid (voters_any l vs (.slice la l.length lc) (.slice qa vs.length qc) _ (hl.below HB.out) (hv.below HB.out) hwf hn hsv)
  have HWO := Lib.hid hwo
  have HTO := Lib.hid (fun w h => total_any old (.slice oa old.length oc) w h)
  have HTH := Lib.hid (fun p t w => third_any p t w)
  obtain ⟨no, hno⟩ : ∃ n, n = old.length := ⟨_, rfl⟩
  have HNO := Lib.hid hno
  have hn1 : no ≤ 9223372036854775807 := by unfold maxLen at hom; omega
  rw [← hno] at HO HTO ⊢
  obtain ⟨E, hE⟩ : ∃ E, E = vtE old l vs := ⟨_, rfl⟩
  have HEE := Lib.hid hE
  rw [← hE]
  clear ho hl hv hwo hwf hn hsv hom hno hE
  go_enter Tryz.func51, Tryz.ntmps51
  go_upto_region 1 with (fail)
  generalize w.alloc (.cells (cmC c (.slice qa vs.length qc)) 59) = w1 at *
  go_upto_region 4 with (go_at_call 114; (with_reducible refine HVS.out.mono ?_); rintro e w2 ⟨g, bm, n, acc, rfl, hvt, hac, hb⟩; have HVT := Lib.hid hvt; have HAC := Lib.hid hac; replace HB := Lib.hid (HB.out.trans (hb.mono HB.out.size)); clear hvt hac hb)
  clear HVS c34
  have HR0 := Lib.hid (show (0 : Int) = trP l (votedF vs) (old.take 0) 0 ∧ Below w.heap.size w w2 ∧ VtM w2 g bm n acc from ⟨rfl, HB.out, HVT.out⟩)
  clear HVT HB
  go_wp2_with (fail)
  go_loopw [8, 17] (fun y x wr => ∃ (k : Nat) (s : Int), k ≤ no ∧ y = .int .i64 s ∧ x = .int .i64 (k : Int) ∧ Hid (s = trP l (votedF vs) (old.take k) 0 ∧ Below w.heap.size w wr ∧ VtM wr g bm n acc)) (fun _ x _ => no - (intOf x).toNat)
  case atStart => exact ⟨0, _, Nat.zero_le _, rfl, rfl, HR0⟩
  case round =>
    clear HR0
    obtain ⟨k, s, hkn, rfl, rfl, HR⟩ := hrel
    by_cases hlt : k < no
    · have hltI : (k : Int) < (no : Int) := by omega
      obtain ⟨x, hx⟩ : ∃ x, old[k]? = some x := ⟨old[k]'(by have := HNO.out; omega), List.getElem?_eq_getElem _⟩
      have hv := HO.out.below HR.out.2.1
      rw [HNO.out] at hv
      obtain ⟨ab, ao, rfl, hab, hra⟩ := hv.at hx
      have HRA := Lib.hid hra
      have HTS := Lib.hid (trP_take (l := l) (f := votedF vs) hx)
      have HXW := Lib.hid (HWO.out x (List.mem_of_getElem? hx))
      clear hv hab hra hx
      go_upto_region 6 with (first
        | (refine wpList_load_rowT (by rfl) 34 (.tmp 19) rfl ab (ao + k * 34) rfl (vaC x) _ HRA.out Tryz.underlying34 rfl (by rw [vaC_size]; kernel_rfl) ?_)
        | (refine wpList_store_row rfl 34 (.tmp 10) (.tmp 20) rfl wr.heap.size (vaC x) rfl rfl 34 _ (heap_alloc_new _ _) (by rw [vaC_size]; kernel_rfl) (by rw [vaC_size]; rfl) (vaC_one _) ?_; rw [World.setRow_alloc_new]))
      have hba := below_alloc wr (.cells (vaC x) 34)
      have HQ := Lib.hid (heap_alloc_new wr (.cells (vaC x) 34))
      have HB2 := Lib.hid (HR.out.2.1.trans (hba.mono HR.out.2.1.size))
      have HV2 := Lib.hid (HR.out.2.2.below hba)
      obtain ⟨q, hq⟩ : ∃ q, q = wr.heap.size := ⟨_, rfl⟩
      rw [← hq] at HQ ⊢
      clear hba hq
      generalize wr.alloc (.cells (vaC x) 34) = w3 at *
      have HCC := Lib.hid (votersC_any x l (votedF vs) l.length g bm n acc w3 HV2.out HAC.out HXW.out)
      cases hf : foundB l (votedF vs) l.length x with
      | true =>
        rw [hf] at HCC HTS
        simp only [if_true] at HTS
        clear hf
        go_upto_region 7 with (first
          | (refine wpList_load_rowT (by rfl) 34 (.tmp 10) rfl q 0 rfl (vaC x) _ (rowT_range HQ.out) Tryz.underlying34 rfl (by rw [vaC_size]; kernel_rfl) ?_)
          | (go_at_call 161; (with_reducible refine HCC.out.mono ?_); rintro e w4 ⟨rfl, hb⟩; replace HB2 := Lib.hid (HB2.out.trans (hb.mono HB2.out.size)); replace HV2 := Lib.hid (HV2.out.below hb); replace HQ := Lib.hid ((hb.block _ (bkT_lt HQ.out)).trans HQ.out); clear hb))
        have c33 := (va_cells HQ.out).2.1
        go_wp2_with (fail)
        go_roundw
        case rel => exact ⟨k + 1, wrap64 (s + x.pow), by omega, rfl, by go_num, Lib.hid ⟨by rw [HTS.out, HR.out.1], HB2.out, HV2.out⟩⟩
        case measure => simp [intOf]; omega
      | false =>
        rw [hf] at HCC HTS
        simp only [Bool.false_eq_true, if_false] at HTS
        clear hf
        go_wp2_with (first
          | (refine wpList_load_rowT (by rfl) 34 (.tmp 10) rfl q 0 rfl (vaC x) _ (rowT_range HQ.out) Tryz.underlying34 rfl (by rw [vaC_size]; kernel_rfl) ?_)
          | (go_at_call 161; (with_reducible refine HCC.out.mono ?_); rintro e w4 ⟨rfl, hb⟩; replace HB2 := Lib.hid (HB2.out.trans (hb.mono HB2.out.size)); replace HV2 := Lib.hid (HV2.out.below hb); clear hb))
        go_roundw
        case rel => exact ⟨k + 1, s, by omega, rfl, by go_num, Lib.hid ⟨by rw [HTS.out]; exact HR.out.1, HB2.out, HV2.out⟩⟩
        case measure => simp [intOf]; omega
    · obtain rfl : k = no := by omega
      have HTO2 := Lib.hid (HTO.out wr (HO.out.below HR.out.2.1))
      have HEQ := Lib.hid (show E = if thirdB s (totV old) then none else some 32 from by rw [HEE.out, HR.out.1, HNO.out, List.take_length]; rfl)
      have HB := Lib.hid HR.out.2.1
      clear HR HTO HEE
      cases ht : thirdB s (totV old) with
      | true =>
        rw [ht] at HEQ
        have HTT := Lib.hid (fun w => by have := HTH.out s (totV old) w; rw [ht] at this; exact this)
        clear ht
        go_wp2_with (first
          | (go_at_call 13; (with_reducible refine HTO2.out.mono ?_); rintro e w3 ⟨rfl, hb⟩; replace HB := Lib.hid (HB.out.trans (hb.mono HB.out.size)); clear hb)
          | (go_at_call 115; (with_reducible refine (HTT.out _).mono ?_); rintro e w4 ⟨rfl, rfl⟩))
        go_ret
        exact ⟨by rw [HEQ.out]; rfl, HB.out⟩
      | false =>
        rw [ht] at HEQ
        have HTT := Lib.hid (fun w => by have := HTH.out s (totV old) w; rw [ht] at this; exact this)
        clear ht
        go_wp2_with (first
          | (go_at_call 13; (with_reducible refine HTO2.out.mono ?_); rintro e w3 ⟨rfl, hb⟩; replace HB := Lib.hid (HB.out.trans (hb.mono HB.out.size)); clear hb)
          | (go_at_call 115; (with_reducible refine (HTT.out _).mono ?_); rintro e w4 ⟨rfl, rfl⟩))
        go_ret
        exact ⟨by rw [HEQ.out]; rfl, HB.out⟩
end Go.Proofs.YtjnpcmfpiejmjaaGreatDoor
namespace Go.Proofs.YtjnpcmfpiejmjaaGreatDoor
set_option linter.unusedVariables false
set_option linter.unusedSimpArgs false
open Go.RowKit
set_option maxRecDepth 100000
set_option linter.unusedSimpArgs false
set_option linter.unusedVariables false
def vA : Va := ⟨{ data := #[97] }, fun _ => 0, 3⟩
def vB : Va := ⟨{ data := #[98] }, fun _ => 0, 1⟩
def vo1 (i : Int) : Vo := ⟨0, 0, 0, fun _ => 0, i, .slice none 0 0, []⟩
def cm0 : Cm := ⟨0, 0, fun _ => 0⟩
theorem sure_ck : ckE [vA, vB] = none := by kernel_rfl
theorem sure_tot : totV [vA, vB] = 4 := by kernel_rfl
theorem sure_vt1 : vtE [vA, vB] [vA, vB] [vo1 1] = some 32 := by kernel_rfl
theorem sure_vt0 : vtE [vA, vB] [vA, vB] [vo1 0] = none := by kernel_rfl
theorem sure_wf : ∀ x ∈ [vA, vB], VaWf x := by
  intro x hx
  simp only [List.mem_cons, List.not_mem_nil, or_false] at hx
  rcases hx with rfl | rfl
  · exact ⟨by show (1 : Nat) ≤ _; omega, fun i _ => by show (0 : Int) ≤ 0 ∧ (0 : Int) < 256; omega⟩
  · exact ⟨by show (1 : Nat) ≤ _; omega, fun i _ => by show (0 : Int) ≤ 0 ∧ (0 : Int) < 256; omega⟩
theorem vA_built : Tryz.prog.built 34 [(0, .string { data := #[97] }), (2, .int .i64 3)] = some (vaC vA) := by kernel_rfl
theorem vB_built : Tryz.prog.built 34 [(0, .string { data := #[98] }), (2, .int .i64 1)] = some (vaC vB) := by kernel_rfl
theorem vo_built (i : Int) : Tryz.prog.built 46 [(4, .int .i64 i)] = some (voC (vo1 i)) := by kernel_rfl
theorem cm_built (a : Option Addr) (n c : Nat) : Tryz.prog.built 59 [(3, .slice a n c)] = some (cmC cm0 (.slice a n c)) := by kernel_rfl
theorem infoVa : (Tryz.prog.info? 34).map (fun i => (i.zero, i.size, i.bytes)) = some (some (.agg (vaC ⟨{ data := #[] }, fun _ => 0, 0⟩)), 34, 56) := by kernel_rfl
theorem infoVo : (Tryz.prog.info? 46).map (fun i => (i.zero, i.size, i.bytes)) = some (some (.agg (voC (vo1 0))), 37, 88) := by kernel_rfl
theorem va_fill : Instr.fill (fun i => some (i * 34, 34)) ((Array.range (2 * 34)).map ((Value.agg (vaC ⟨{ data := #[] }, fun _ => 0, 0⟩)).cells[· % (Value.agg (vaC ⟨{ data := #[] }, fun _ => 0, 0⟩)).cells.size]!)) [(0, .agg (vaC vA)), (1, .agg (vaC vB))] = some (vaC vA ++ vaC vB) := by kernel_rfl
theorem vo_fill (i : Int) : Instr.fill (fun i => some (i * 37, 37)) ((Array.range (1 * 37)).map ((Value.agg (voC (vo1 0))).cells[· % (Value.agg (voC (vo1 0))).cells.size]!)) [(0, .agg (voC (vo1 i)))] = some (voC (vo1 i)) := by kernel_rfl
theorem wpList_vas {w : World} {ops : Array Oper} {rest : List Oper} {o : Oper} {a : Act} {Q : Exit → Act → World → Prop} (hgd : o.guard = none) (x y : Operand) (ho : o.op = .buildSlice 22 2 #[(0, x), (1, y)]) (hx : a.eval x = .agg (vaC vA)) (hy : a.eval y = .agg (vaC vB))
    (h : wpList Tryz.prog ops Q rest (a.put o.dst (.slice (some ⟨w.heap.size, 0, none⟩) 2 2)) (w.alloc (.cells (vaC vA ++ vaC vB) 34))) : wpList Tryz.prog ops Q (o :: rest) a w := by
  refine wpList_plain hgd fun K hK => ?_
  obtain ⟨i0, hi, hz0, hz1, hz2⟩ := info_parts infoVa
  refine wp_buildSlice 22 34 2 #[(0, x), (1, y)] ho (vaC vA ++ vaC vB) i0 _ Tryz.underlying22 hi hz0 (by rw [hz1]; decide) (by rw [hz1]; decide) ?_ (hK _ _ h)
  rw [hz1]
  simpa [hx, hy] using va_fill
theorem wpList_vo1 {w : World} {ops : Array Oper} {rest : List Oper} {o : Oper} {a : Act} {Q : Exit → Act → World → Prop} (hgd : Region.wanted o (yielded ops a.tmps) = true) (x : Operand) (ho : o.op = .buildSlice 57 1 #[(0, x)]) (i : Int) (hx : a.eval x = .agg (voC (vo1 i)))
    (h : wpList Tryz.prog ops Q rest (a.put o.dst (.slice (some ⟨w.heap.size, 0, none⟩) 1 1)) (w.alloc (.cells (voC (vo1 i)) 46))) : wpList Tryz.prog ops Q (o :: rest) a w := by
  refine BigFrame.wpList_want hgd fun K hK => ?_
  obtain ⟨i0, hi, hz0, hz1, hz2⟩ := info_parts infoVo
  refine wp_buildSlice 57 46 1 #[(0, x)] ho (voC (vo1 i)) i0 _ Tryz.underlying57 hi hz0 (by rw [hz1]; decide) (by rw [hz1]; decide) ?_ (hK _ _ h)
  rw [hz1]
  simpa [hx] using vo_fill i
theorem vas_in (w : World) : VaIn (w.alloc (.cells (vaC vA ++ vaC vB) 34)) (.slice (some ⟨w.heap.size, 0, none⟩) 2 2) [vA, vB] := by
  refine ⟨_, 2, rfl, Nat.le_refl _, by simp [maxLen], .inr ⟨_, 0, rfl, by simp, fun i s hi j v hv => ?_⟩⟩
  have hj : j < 34 := by have := (List.getElem?_eq_some_iff.1 hv).1; simpa [vaC_size] using this
  rw [cell_of_row _ _ _ _ _ _ (heap_alloc_new w _)]
  match i, hi with
  | 0, hi =>
    simp only [List.getElem?_cons_zero, Option.some.injEq] at hi
    subst hi
    rw [Array.getElem?_append_left (by rw [vaC_size]; omega)]
    simpa using hv
  | 1, hi =>
    simp only [List.getElem?_cons_succ, List.getElem?_cons_zero, Option.some.injEq] at hi
    subst hi
    rw [Array.getElem?_append_right (by rw [vaC_size]; omega), vaC_size]
    simpa using hv
theorem vo1_in (w : World) (i : Int) : VoIn (w.alloc (.cells (voC (vo1 i)) 46)) (.slice (some ⟨w.heap.size, 0, none⟩) 1 1) [vo1 i] := by
  refine ⟨_, 1, rfl, Nat.le_refl _, by simp [maxLen], .inr ⟨_, 0, rfl, by simp, fun k s hi => ?_⟩⟩
  match k, hi with
  | 0, hi =>
    simp only [List.getElem?_cons_zero, Option.some.injEq] at hi
    subst hi
    exact rowT_range (heap_alloc_new w _)
theorem vo1_sv (i : Int) : ∀ t ∈ [vo1 i], ∃ a n c, t.sv = .slice a n c := by
  intro t ht
  rw [List.mem_singleton.1 ht]
  exact ⟨_, _, _, rfl⟩
theorem wpList_builtW {P : Program} {ops : Array Oper} {rest : List Oper} {o : Oper} {a : Act} {w : World} {Q : Exit → Act → World → Prop} (hg : Region.wanted o (yielded ops a.tmps) = true) (t : TypeId) (parts : Array (Nat × Operand)) (ho : o.op = .build t parts) (cells : Array Value)
    (hf : P.built t (parts.map fun (i, x) => (i, a.eval x)).toList = some cells)
    (h : wpList P ops Q rest (a.put o.dst (.agg cells)) w) : wpList P ops Q (o :: rest) a w := by
  exact BigFrame.wpList_want hg fun K hK => wp_build t parts ho (by rw [hf]; rfl) (by rw [hf]; exact hK _ _ h)
set_option maxHeartbeats 4000000 in
theorem tysure_any (w : World) (hg : ErrType w) : Calls Tryz.prog 19 #[] w fun e w' => e = .returned (.bool true) ∧ Below w.heap.size w w' := by
  have HG := Lib.hid hg
  have HZ := Lib.hid (show ∀ x ∈ [vA, vB], x.name.size ≤ 140737488351232 from fun x hx => (sure_wf x hx).1)
  clear hg
  go_enter Tryz.func19, Tryz.ntmps19
  go_upto_region 2 with (first
    | (refine wpList_builtT rfl 34 #[(0, .const (.string { data := #[97] })), (2, .const (.int .i64 3))] rfl (vaC vA) (by refine Eq.trans (congrArg (Tryz.prog.built 34) ?_) vA_built; kernel_rfl) ?_)
    | (refine wpList_builtT rfl 34 #[(0, .const (.string { data := #[98] })), (2, .const (.int .i64 1))] rfl (vaC vB) (by refine Eq.trans (congrArg (Tryz.prog.built 34) ?_) vB_built; kernel_rfl) ?_)
    | (refine wpList_vas rfl (.tmp 2) (.tmp 3) rfl rfl rfl ?_))
  have HV := Lib.hid (vas_in w)
  have HB := Lib.hid (below_alloc w (.cells (vaC vA ++ vaC vB) 34))
  generalize w.alloc (.cells (vaC vA ++ vaC vB) 34) = w1 at *
  obtain ⟨g, hgq⟩ : ∃ g, g = w.heap.size := ⟨_, rfl⟩
  rw [← hgq] at HV ⊢
  clear hgq
  have HCK := Lib.hid (fun w h => checkset_any [vA, vB] (.slice (some ⟨g, 0, none⟩) 2 2) w h HZ.out)
  rw [sure_ck] at HCK
  have HTO := Lib.hid (fun w h => total_any [vA, vB] (.slice (some ⟨g, 0, none⟩) 2 2) w h)
  rw [sure_tot] at HTO
  have HT1 := Lib.hid (fun vv w h1 h2 => vtrust_any [vA, vB] [vA, vB] [vo1 1] cm0 (.slice (some ⟨g, 0, none⟩) 2 2) (.slice (some ⟨g, 0, none⟩) 2 2) vv w h1 h1 h2 sure_wf sure_wf (by simp) (vo1_sv 1))
  rw [sure_vt1] at HT1
  have HT0 := Lib.hid (fun vv w h1 h2 => vtrust_any [vA, vB] [vA, vB] [vo1 0] cm0 (.slice (some ⟨g, 0, none⟩) 2 2) (.slice (some ⟨g, 0, none⟩) 2 2) vv w h1 h1 h2 sure_wf sure_wf (by simp) (vo1_sv 0))
  rw [sure_vt0] at HT0
  have HNU := Lib.hid (show ∀ w, ErrType w → Calls Tryz.prog 10 #[.iface 103 (.int .i64 32)] w fun r w' => r = .returned (.int .i64 32) ∧ Below w.heap.size w w' from fun w h => num_any (some 32) w h)
  simp only [errV] at HCK HT1 HT0
  clear HZ
  go_wp2_with (first
    | (go_at_call 11; (with_reducible refine (HCK.out _ HV.out).mono ?_); rintro e w2 ⟨rfl, hb⟩; replace HV := Lib.hid (HV.out.below hb); replace HB := Lib.hid (HB.out.trans (hb.mono HB.out.size)); clear hb)
    | (go_at_call 13; (with_reducible refine (HTO.out _ HV.out).mono ?_); rintro e w3 ⟨rfl, hb⟩; replace HV := Lib.hid (HV.out.below hb); replace HB := Lib.hid (HB.out.trans (hb.mono HB.out.size)); clear hb)
    | (refine wpList_builtW (by rfl) 46 #[(4, .const (.int .i64 1))] rfl (voC (vo1 1)) (by refine Eq.trans (congrArg (Tryz.prog.built 46) ?_) (vo_built 1); kernel_rfl) ?_)
    | (refine wpList_builtW (by rfl) 46 #[(4, .const (.int .i64 0))] rfl (voC (vo1 0)) (by refine Eq.trans (congrArg (Tryz.prog.built 46) ?_) (vo_built 0); kernel_rfl) ?_)
    | (refine wpList_vo1 (by rfl) (.tmp 16) rfl 1 rfl ?_; have HO := Lib.hid (vo1_in w3 1); replace HV := Lib.hid (HV.out.below (below_alloc w3 (.cells (voC (vo1 1)) 46))); replace HB := Lib.hid (HB.out.alloc HB.out.size (.cells (voC (vo1 1)) 46)); obtain ⟨g1, hg1⟩ : ∃ g, g = w3.heap.size := ⟨_, rfl⟩; rw [← hg1] at HO ⊢; clear hg1; generalize w3.alloc (.cells (voC (vo1 1)) 46) = w4 at *)
    | (refine wpList_builtW (by rfl) 59 #[(3, .tmp 17)] rfl (cmC cm0 (.slice (some ⟨g1, 0, none⟩) 1 1)) (by refine Eq.trans (congrArg (Tryz.prog.built 59) ?_) (cm_built _ _ _); kernel_rfl) ?_)
    | (go_at_call 51; (with_reducible refine (HT1.out _ _ HV.out HO.out).mono ?_); rintro e w5 ⟨rfl, hb⟩; replace HV := Lib.hid (HV.out.below hb); replace HB := Lib.hid (HB.out.trans (hb.mono HB.out.size)); clear hb HO)
    | (go_at_call 10; (with_reducible refine (HNU.out _ (HG.out.below HB.out)).mono ?_); rintro e w6 ⟨rfl, hb⟩; replace HV := Lib.hid (HV.out.below hb); replace HB := Lib.hid (HB.out.trans (hb.mono HB.out.size)); clear hb)
    | (refine wpList_vo1 (by rfl) (.tmp 26) rfl 0 rfl ?_; have HO2 := Lib.hid (vo1_in w6 0); replace HV := Lib.hid (HV.out.below (below_alloc w6 (.cells (voC (vo1 0)) 46))); replace HB := Lib.hid (HB.out.alloc HB.out.size (.cells (voC (vo1 0)) 46)); obtain ⟨g2, hg2⟩ : ∃ g, g = w6.heap.size := ⟨_, rfl⟩; rw [← hg2] at HO2 ⊢; clear hg2; generalize w6.alloc (.cells (voC (vo1 0)) 46) = w7 at *)
    | (refine wpList_builtW (by rfl) 59 #[(3, .tmp 27)] rfl (cmC cm0 (.slice (some ⟨g2, 0, none⟩) 1 1)) (by refine Eq.trans (congrArg (Tryz.prog.built 59) ?_) (cm_built _ _ _); kernel_rfl) ?_)
    | (go_at_call 51; (with_reducible refine (HT0.out _ _ HV.out HO2.out).mono ?_); rintro e w8 ⟨rfl, hb⟩; replace HV := Lib.hid (HV.out.below hb); replace HB := Lib.hid (HB.out.trans (hb.mono HB.out.size)); clear hb HO2))
  go_ret
  exact ⟨rfl, HB.out⟩
end Go.Proofs.YtjnpcmfpiejmjaaGreatDoor
namespace Go.Proofs.YtjnpcmfpiejmjaaGreatDoor
set_option linter.unusedVariables false
set_option linter.unusedSimpArgs false
open Go.RowKit
set_option linter.unusedVariables false
def Kept (X : World → Prop) : Prop := ∀ a b : World, X a → Below a.heap.size a b → X b
structure Kp (w0 w : World) (X : World → Prop) : Prop where
  below : Below w0.heap.size w0 w
  x : X w
  kept : Kept X
theorem Kp.start (w : World) : Kp w w (fun _ => True) := ⟨Below.refl _ _, trivial, fun _ _ h _ => h⟩
theorem Kp.call {w0 w w' : World} {X : World → Prop} (m : Kp w0 w X) (h : Below w.heap.size w w') : Kp w0 w' X := ⟨m.below.trans (h.mono m.below.size), m.kept _ _ m.x h, m.kept⟩
theorem Kp.add {w0 w : World} {X Y : World → Prop} (m : Kp w0 w X) (hy : Y w) (hk : Kept Y) : Kp w0 w (fun w => X w ∧ Y w) := ⟨m.below, ⟨m.x, hy⟩, fun a b h hb => ⟨m.kept a b h.1 hb, hk a b h.2 hb⟩⟩
theorem Kp.new {w0 w : World} {X : World → Prop} (m : Kp w0 w X) (o : Obj) : Kp w0 (w.alloc o) X := m.call (below_alloc w o)
theorem kept_blk (g : Nat) (o : Obj) : Kept (fun w => w.heap[g]? = some o) := fun a b h hb => (hb.block g (Array.getElem?_eq_some_iff.1 h).1).trans h
theorem Kept.and {X Y : World → Prop} (h : Kept X) (k : Kept Y) : Kept (fun w => X w ∧ Y w) := fun a b x hb => ⟨h a b x.1 hb, k a b x.2 hb⟩
end Go.Proofs.YtjnpcmfpiejmjaaGreatDoor
