/- For every list of validators and every bytes, together of bulk at most 1048576 (values and letters), TypesSets returns true and leaves its arguments as they were. Conditions: that bulk; errors.errorType and the two tables of package sha read as the program's text lays them, which the card ties to that text. -/
import Derived.BigFrame
import Derived.Deep.DeepCutAuto
import Derived.Lib.Zigzag
import Derived.ProofKit
import Derived.LaidMore
import Derived.OpenShut
import Derived.Stop.Joined
import Derived.Stop.LaidErr
import Derived.Lib.LaidTab
import Derived.LaidHandle
import Derived.SizedLaws
import Derived.Carry
import Derived.Deep.DeepHandedRow
import Derived.Deep.DeepWitnessRowRef
import Derived.Test.YteokgklfljhcaaaGreatDoorTie
import Derived.Test.YteokgklfljhcaaaGreatDoorCards
import Derived.SevenTiedAt
import Derived.Test.YteokgklfljhcaaaGreatDoorSe1
import Derived.Test.YteokgklfljhcaaaGreatDoorSe2
import Derived.Test.YteokgklfljhcaaaGreatDoorSe3
import Derived.Test.YteokgklfljhcaaaGreatDoorSe8
import Derived.Test.YteokgklfljhcaaaGreatDoorSe14
import Derived.Test.YteokgklfljhcaaaGreatDoorSe18
import Derived.Test.YteokgklfljhcaaaGreatDoorSe19
import Derived.Test.YteokgklfljhcaaaGreatDoorSe22
import Derived.Test.YteokgklfljhcaaaGreatDoorSe23
import Derived.Test.YteokgklfljhcaaaGreatDoorSe27
import Derived.Test.YteokgklfljhcaaaGreatDoorSe28
namespace Go.Proofs.YteokgklfljhcaaaGreatDoor
set_option linter.unusedVariables false
set_option linter.unusedSimpArgs false
open Go.RowKit
set_option maxRecDepth 100000
end Go.Proofs.YteokgklfljhcaaaGreatDoor
namespace Go.Proofs.YteokgklfljhcaaaGreatDoor
set_option linter.unusedVariables false
set_option linter.unusedSimpArgs false
open Go.RowKit
set_option maxRecDepth 100000
structure FrM (w2 w' : World) (b : Nat) (gb go : Nat) (L : List Nat) (s : Value) (l : List Int) (gv : Nat) (F : Nat → Int) : Prop where
  m : SgM w2 w' b zF gb go L s l
  v : RowAt w' gv .u8 32 23 F
theorem FrM.calls {w2 w' w3 : World} {b gb go gv : Nat} {L : List Nat} {s : Value} {l : List Int} {F : Nat → Int} (m : FrM w2 w' b gb go L s l gv F) (h : Below w'.heap.size w' w3) : FrM w2 w3 b gb go L s l gv F := ⟨m.m.calls h, m.v.below h m.v.lt⟩
end Go.Proofs.YteokgklfljhcaaaGreatDoor
namespace Go.Proofs.YteokgklfljhcaaaGreatDoor
set_option linter.unusedVariables false
set_option linter.unusedSimpArgs false
open Go.RowKit
set_option maxRecDepth 100000
end Go.Proofs.YteokgklfljhcaaaGreatDoor
namespace Go.Proofs.YteokgklfljhcaaaGreatDoor
set_option linter.unusedVariables false
set_option linter.unusedSimpArgs false
open Go.RowKit
set_option maxRecDepth 100000
end Go.Proofs.YteokgklfljhcaaaGreatDoor
namespace Go.Proofs.YteokgklfljhcaaaGreatDoor
set_option linter.unusedVariables false
set_option linter.unusedSimpArgs false
open Go.RowKit
set_option maxRecDepth 100000
end Go.Proofs.YteokgklfljhcaaaGreatDoor
namespace Go.Proofs.YteokgklfljhcaaaGreatDoor
set_option linter.unusedVariables false
set_option linter.unusedSimpArgs false
open Go.RowKit
set_option maxRecDepth 100000
variable {w w' : World} {F : Nat → Int} {leaf : Int} {v vo : Value} {xs ys : List Int}
end Go.Proofs.YteokgklfljhcaaaGreatDoor
namespace Go.Proofs.YteokgklfljhcaaaGreatDoor
set_option linter.unusedVariables false
set_option linter.unusedSimpArgs false
open Go.RowKit
set_option maxRecDepth 100000
variable {w w' : World} {F : Nat → Int} {leaf : Int} {v vo : Value} {xs ys : List Int} {bs : List (Value × List Int)} {rs : List (Nat × (Nat → Int))}
end Go.Proofs.YteokgklfljhcaaaGreatDoor
namespace Go.Proofs.YteokgklfljhcaaaGreatDoor
set_option linter.unusedVariables false
set_option linter.unusedSimpArgs false
open Go.RowKit
set_option maxRecDepth 100000
variable {w w' : World} {F : Nat → Int} {leaf s0 s1 s2 : Int} {v vo : Value} {xs ys : List Int}
end Go.Proofs.YteokgklfljhcaaaGreatDoor
namespace Go.Proofs.YteokgklfljhcaaaGreatDoor
set_option linter.unusedVariables false
set_option linter.unusedSimpArgs false
open Go.RowKit
set_option maxRecDepth 100000
/-- Fold in all cases -/
def foldR (s0 : Nat → Int) (i : Int) (n : Nat) (ps : List (Nat → Int)) : (Nat → Int) × Option Nat :=
  if 0 ≤ i ∧ i < n then (if ps.length = (turnsF i.toNat n).length then (foldT s0 ((turnsF i.toNat n).reverse.zip ps), none) else (fun _ => 0, some 2)) else (fun _ => 0, some 1)
end Go.Proofs.YteokgklfljhcaaaGreatDoor
namespace Go.Proofs.YteokgklfljhcaaaGreatDoor
set_option linter.unusedVariables false
set_option linter.unusedSimpArgs false
open Go.RowKit
set_option maxRecDepth 100000
theorem All32.foldR {ps qs : List (Nat → Int)} (h : All32 ps qs) (s : Nat → Int) (i : Int) (n : Nat) : foldR s i n ps = foldR s i n qs := by
  unfold Go.Proofs.YteokgklfljhcaaaGreatDoor.foldR
  rw [h.length, h.fold]
end Go.Proofs.YteokgklfljhcaaaGreatDoor
namespace Go.Proofs.YteokgklfljhcaaaGreatDoor
set_option linter.unusedVariables false
set_option linter.unusedSimpArgs false
open Go.RowKit
set_option maxRecDepth 100000
end Go.Proofs.YteokgklfljhcaaaGreatDoor
namespace Go.Proofs.YteokgklfljhcaaaGreatDoor
set_option linter.unusedVariables false
set_option linter.unusedSimpArgs false
open Go.RowKit
set_option maxRecDepth 100000
end Go.Proofs.YteokgklfljhcaaaGreatDoor
namespace Go.Proofs.YteokgklfljhcaaaGreatDoor
set_option linter.unusedVariables false
set_option linter.unusedSimpArgs false
open Go.RowKit
set_option maxRecDepth 100000
set_option linter.unusedSimpArgs false
set_option linter.unusedVariables false
end Go.Proofs.YteokgklfljhcaaaGreatDoor
namespace Go.Proofs.YteokgklfljhcaaaGreatDoor
set_option linter.unusedVariables false
set_option linter.unusedSimpArgs false
open Go.RowKit
set_option maxRecDepth 100000
set_option linter.unusedSimpArgs false
set_option linter.unusedVariables false
/-- a vote that may be signed for -/
structure VoIs (v : Vo) : Prop where
  ok : VoOk v
  b : bytesOk v.sign
  z : v.sign.length ≤ 140737488355328
end Go.Proofs.YteokgklfljhcaaaGreatDoor
namespace Go.Proofs.YteokgklfljhcaaaGreatDoor
set_option linter.unusedVariables false
set_option linter.unusedSimpArgs false
open Go.RowKit
set_option maxRecDepth 100000
end Go.Proofs.YteokgklfljhcaaaGreatDoor
namespace Go.Proofs.YteokgklfljhcaaaGreatDoor
set_option linter.unusedVariables false
set_option linter.unusedSimpArgs false
open Go.ChangeShapes Go.WideShapes Go.ChangeAt Go.RowKit Go.Proofs
set_option maxRecDepth 100000
set_option linter.unusedSimpArgs false
set_option linter.unusedVariables false
theorem dcut {α : Type} (cs : List α) (o k m : Nat) (h : m = o + k) : cs.drop o = (cs.drop o).take k ++ cs.drop m := by rw [h, ← List.drop_drop, List.take_append_drop]
theorem dend {α : Type} (cs : List α) (m : Nat) (h : cs.length = m) : cs.drop m = [] := List.drop_of_length_le (by omega)
end Go.Proofs.YteokgklfljhcaaaGreatDoor
namespace Go.Proofs.YteokgklfljhcaaaGreatDoor
set_option linter.unusedVariables false
set_option linter.unusedSimpArgs false
open Go.ChangeShapes Go.WideShapes Go.ChangeAt Go.RowKit Go.Proofs
set_option maxRecDepth 100000
set_option linter.unusedSimpArgs false
set_option linter.unusedVariables false
def byOk (f : Nat → Int) : Prop := ∀ i, i < 32 → 0 ≤ f i ∧ f i < 256
end Go.Proofs.YteokgklfljhcaaaGreatDoor
namespace Go.Proofs.YteokgklfljhcaaaGreatDoor
set_option linter.unusedVariables false
set_option linter.unusedSimpArgs false
open Go.RowKit
set_option maxRecDepth 100000
set_option linter.unusedSimpArgs false
set_option linter.unusedVariables false
structure VoSm (v : Vo) : Prop where
  f : VoFl v
  z : v.sign.length ≤ 65536
end Go.Proofs.YteokgklfljhcaaaGreatDoor
namespace Go.Proofs.YteokgklfljhcaaaGreatDoor
set_option linter.unusedVariables false
set_option linter.unusedSimpArgs false
open Go.RowKit
set_option maxRecDepth 100000
set_option linter.unusedSimpArgs false
set_option linter.unusedVariables false
/-- votes of a set, each greater than the one ahead -/
structure GoodV (l : List Va) (vs : List Vo) : Prop where
  idx : ∀ (k : Nat) (v : Vo), vs[k]? = some v → 0 ≤ v.val ∧ v.val < l.length
  inc : ∀ (j k : Nat) (u v : Vo), j < k → vs[j]? = some u → vs[k]? = some v → u.val < v.val
end Go.Proofs.YteokgklfljhcaaaGreatDoor
namespace Go.Proofs.YteokgklfljhcaaaGreatDoor
set_option linter.unusedVariables false
set_option linter.unusedSimpArgs false
open Go.RowKit
set_option maxRecDepth 100000
set_option linter.unusedSimpArgs false
set_option linter.unusedVariables false
end Go.Proofs.YteokgklfljhcaaaGreatDoor
namespace Go.Proofs.YteokgklfljhcaaaGreatDoor
set_option linter.unusedVariables false
set_option linter.unusedSimpArgs false
open Go.RowKit
set_option maxRecDepth 100000
end Go.Proofs.YteokgklfljhcaaaGreatDoor
namespace Go.Proofs.YteokgklfljhcaaaGreatDoor
set_option linter.unusedVariables false
set_option linter.unusedSimpArgs false
open Go.RowKit
set_option maxRecDepth 100000
set_option linter.unusedSimpArgs false
set_option linter.unusedVariables false
structure VoBy (t : Vo) : Prop where
  f : VoFl t
  b : byOk t.blk
  s : bytesOk t.sign
structure HdBy (h : Hd) : Prop where
  f : HdFl h
  b : byOk h.LA ∧ byOk h.AP ∧ byOk h.TX ∧ byOk h.VA ∧ byOk h.NX
structure CmBy (c : Cm) : Prop where
  f : CmFl c
  b : byOk c.blk
end Go.Proofs.YteokgklfljhcaaaGreatDoor
namespace Go.Proofs.YteokgklfljhcaaaGreatDoor
set_option linter.unusedVariables false
set_option linter.unusedSimpArgs false
open Go.ChangeShapes Go.WideShapes Go.ChangeAt Go.RowKit Go.Proofs
set_option maxRecDepth 100000
set_option linter.unusedSimpArgs false
set_option linter.unusedVariables false
theorem by8_11 {F : Nat → Int} (w : ∀ i, i < 32 → (Lit.int .u8 (F i)).wf = true) : byOk F := fun i hi => by have := bounds_u8 (w i hi); exact ⟨by omega, by omega⟩
end Go.Proofs.YteokgklfljhcaaaGreatDoor
namespace Go.Proofs.YteokgklfljhcaaaGreatDoor
set_option linter.unusedVariables false
set_option linter.unusedSimpArgs false
open Go.ChangeShapes Go.WideShapes Go.ChangeAt Go.RowKit Go.Proofs
set_option maxRecDepth 100000
set_option linter.unusedSimpArgs false
set_option linter.unusedVariables false
theorem rows_rawB {H α : Type} {enc : TypeId × Value → H} {W : World} {T E : TypeId} {n : Nat} (hT : Tryz.prog.underlying T = some (.slice E)) (hn : Tryz.prog.cellsOf E = n) (hn0 : 0 < n) (C : α → List Value) (hC : ∀ t, (C t).length = n) (Ok : α → Nat → Prop)
    (hel : ∀ (f : Nat) (cs : List Value) (x : DataW H × List MemPlace), DataW.trod enc Tryz.prog W 0 (fun _ => true) true f E cs = some x → ∃ t, cs = C t ∧ Ok t (Rows.uptoBulk x.1))
    {fuel : Nat} {cs : List Value} {x : DataW H × List MemPlace} (h : DataW.trod enc Tryz.prog W 0 (fun _ => true) true fuel T cs = some x) :
    ∃ (ts : List α) (v : Value), cs = [v] ∧ RowsIn n C W v ts ∧ ts.length ≤ Rows.uptoBulk x.1 ∧ ∀ t ∈ ts, ∃ k, Ok t k ∧ k ≤ Rows.uptoBulk x.1 := by
  obtain ⟨ts, a, cap, h1, h2, h3, h4, h5, h6⟩ := rows_raw hT hn hn0 C hC Ok hel h
  exact ⟨ts, _, h1, ⟨a, cap, rfl, h2, h3, h5⟩, h4, h6⟩
theorem vaBB_raw {H : Type} {enc : TypeId × Value → H} {W : World} (f : Nat) (cs : List Value) (x : DataW H × List MemPlace) (h : DataW.trod enc Tryz.prog W 0 (fun _ => true) true f 54 cs = some x) :
    ∃ t : Va, cs = (vaC t).toList ∧ ((-9223372036854775808 ≤ t.pow ∧ t.pow ≤ 9223372036854775807) ∧ byOk t.key ∧ t.name.size ≤ Rows.uptoBulk x.1) := by
  obtain ⟨xs, m, _, hxe, hlen, hxl, hf⟩ := DataW.trod_struct Tryz.underlying54 h
  rw [show Tryz.prog.cellsOf 54 = 34 by kernel_rfl] at hlen
  simp only [List.size_toArray, List.length_cons, List.length_nil] at hxl
  have g : ∀ i, i < 3 → ∃ y, xs[i]? = some y := fun i hi => ⟨xs[i], List.getElem?_eq_getElem (by omega)⟩
  obtain ⟨y0, e0⟩ := g 0 (by omega)
  obtain ⟨y1, e1⟩ := g 1 (by omega)
  obtain ⟨y2, e2⟩ := g 2 (by omega)
  have f0 : DataW.trod enc Tryz.prog W 0 (fun _ => true) true m 9 ((cs.drop 0).take (Tryz.prog.cellsOf 9)) = xs[0]? := hf 0 _ rfl
  have f1 : DataW.trod enc Tryz.prog W 0 (fun _ => true) true m 23 ((cs.drop 1).take (Tryz.prog.cellsOf 23)) = xs[1]? := hf 1 _ rfl
  have f2 : DataW.trod enc Tryz.prog W 0 (fun _ => true) true m 3 ((cs.drop 33).take (Tryz.prog.cellsOf 3)) = xs[2]? := hf 2 _ rfl
  rw [e0, show Tryz.prog.cellsOf 9 = 1 by kernel_rfl] at f0
  rw [e1, show Tryz.prog.cellsOf 23 = 32 by kernel_rfl] at f1
  rw [e2, show Tryz.prog.cellsOf 3 = 1 by kernel_rfl] at f2
  obtain ⟨NM, h0, x0, _⟩ := DataW.trod_string Tryz.underlying9 f0
  obtain ⟨F, h1, w1⟩ := arr_raw Tryz.underlying23 Tryz.underlying5 (by kernel_rfl) (by kernel_rfl) f1
  obtain ⟨pw, h2, _, w2⟩ := DataW.trod_int Tryz.underlying3 f2
  have b0 := bulkAt (l := xs.map (·.1)) (i := 0) (d := y0.1) (by rw [List.getElem?_map, e0]; rfl)
  have bx : NM.size ≤ Rows.uptoBulk x.1 := by
    rw [hxe]
    rw [x0] at b0
    simp only [Rows.uptoBulk, Array.length_toList] at b0 ⊢
    show NM.data.size ≤ _
    omega
  refine ⟨⟨NM, F, pw⟩, ?_, bounds_i64 w2, by8_11 w1, bx⟩
  show cs.drop 0 = _
  rw [dcut cs 0 1 1 rfl, dcut cs 1 32 33 rfl, dcut cs 33 1 34 rfl, dend cs 34 hlen, h0, h1, h2]
  simp [vaC]
theorem vasB_arg {H : Type} {enc : TypeId × Value → H} {W : World} {a : Option Addr} {n cap : Nat} {d : DataW H} {p : List MemPlace} (h : DataW.Trod enc Tryz.prog W 0 (fun _ => true) true 48 (.slice a n cap) d p) :
    ∃ l : List Va, n = l.length ∧ VaIn W (.slice a n cap) l ∧ l.length ≤ Rows.uptoBulk d ∧ ∀ t ∈ l, (-9223372036854775808 ≤ t.pow ∧ t.pow ≤ 9223372036854775807) ∧ byOk t.key ∧ t.name.size ≤ Rows.uptoBulk d := by
  obtain ⟨fuel, hf⟩ := h
  have hf' : DataW.trod enc Tryz.prog W 0 (fun _ => true) true fuel 48 [.slice a n cap] = some (d, p) := by simpa [Value.cells] using hf
  obtain ⟨l, v, h1, hin, hbl, hl⟩ := rows_rawB (n := 34) Tryz.underlying48 (by kernel_rfl) (by omega) (fun t => (vaC t).toList) (fun t => by rw [Array.length_toList, vaC_size]) (fun t k => (-9223372036854775808 ≤ t.pow ∧ t.pow ≤ 9223372036854775807) ∧ byOk t.key ∧ t.name.size ≤ k) vaBB_raw hf'
  simp only [List.cons.injEq, and_true] at h1
  subst h1
  obtain ⟨a', cap', e, _⟩ := id hin
  injection e with _ e _
  exact ⟨l, e, hin, hbl, fun t m => (hl t m).elim fun k q => ⟨q.1.1, q.1.2.1, Nat.le_trans q.1.2.2 q.2⟩⟩
end Go.Proofs.YteokgklfljhcaaaGreatDoor
namespace Go.Proofs.YteokgklfljhcaaaGreatDoor
set_option linter.unusedVariables false
set_option linter.unusedSimpArgs false
open Go.ChangeShapes Go.WideShapes Go.ChangeAt Go.RowKit
set_option maxRecDepth 100000
theorem doorOwn : ownKnob Tryz.prog.godebug = none := by kernel_rfl
theorem doorLaidOut : laidOutB Tryz.prog = true := by kernel_rfl
theorem nBegin : Tryz.prog.globalNamed "isthmus/sha.begin" = some 1 := by kernel_rfl
theorem nConst : Tryz.prog.globalNamed "isthmus/sha.constants" = some 2 := by kernel_rfl
theorem tyBegin : (Tryz.prog.globals[1]?).map (·.type) = some 149 := by kernel_rfl
theorem tyConst : (Tryz.prog.globals[2]?).map (·.type) = some 148 := by kernel_rfl
def laidSha : List (String × DataW Unit) := [("isthmus/sha.begin", Rows.laid_isthmus_sha_begin), ("isthmus/sha.constants", Rows.laid_isthmus_sha_constants)]
theorem toList_getD (f : Nat → Int) (n i : Nat) (h : i < n) : ((List.range n).map f).getD i 0 = f i := by simp [List.getD, h]
theorem dBegin {H : Type} : (Rows.laid_isthmus_sha_begin : DataW H) = Lib.tabData .u32 ((List.range 8).map BT) := by rfl
theorem dConst {H : Type} : (Rows.laid_isthmus_sha_constants : DataW H) = Lib.tabData .u32 ((List.range 64).map KT) := by rfl
theorem env_of_tabs {W : World} (hb : Lib.TabIs Tryz.prog W "isthmus/sha.begin" .u32 ((List.range 8).map BT)) (hc : Lib.TabIs Tryz.prog W "isthmus/sha.constants" .u32 ((List.range 64).map KT)) : Env W :=
  ⟨fun i hi => by
    have := hb.cell nBegin i (by simpa using hi)
    rw [toList_getD _ _ _ hi] at this; exact this,
   fun i hi => by
    have := hc.cell nConst i (by simpa using hi)
    rw [toList_getD _ _ _ hi] at this; exact this⟩
theorem env_of_met {W : World} (h : laidMet Tryz.prog laidSha W) : Env W := by
  unfold laidSha at h
  rw [dBegin, dConst] at h
  exact env_of_tabs (Lib.tabIs_of_head nBegin tyBegin Tryz.underlying149 Tryz.underlying147 (by kernel_rfl) (by kernel_rfl) h)
    (Lib.tabIs_of_head nConst tyConst Tryz.underlying148 Tryz.underlying147 (by kernel_rfl) (by kernel_rfl) h.tail)
def laidShaErr : List (String × DataW Unit) := [("errors.errorType", Rows.laid_errors_errorType), ("isthmus/sha.begin", Rows.laid_isthmus_sha_begin), ("isthmus/sha.constants", Rows.laid_isthmus_sha_constants)]
def laidErrS : List (String × DataW Unit) := [("errors.errorType", Rows.laid_errors_errorType)]
theorem doorEt : Tryz.prog.globalNamed "errors.errorType" = some 0 := by kernel_rfl
theorem doorRt : (Tryz.prog.cutTypes.find? (·.1 == "internal/reflectlite.rtype")).map (·.2) = some 197 := by kernel_rfl
theorem doorOneRow : ((List.range Tryz.prog.types.size).filter fun t => Tryz.prog.rowNamed t [101, 114, 114, 111, 114]) = [34] := by kernel_rfl
theorem err_of_met {W : World} {l : List (String × DataW Unit)} (hm : ("errors.errorType", Rows.laid_errors_errorType) ∈ l) (h : handlesMet Tryz.prog l W) : ErrType W := by
  obtain ⟨name, u, ty, e1, e2, e3, e4, e5⟩ := h _ hm
  have en : name = [101, 114, 114, 111, 114] := (Option.some.inj e1).symm
  subst en
  obtain rfl := Option.some.inj (doorRt.symm.trans e2)
  have hm : ty ∈ (List.range Tryz.prog.types.size).filter fun t => Tryz.prog.rowNamed t [101, 114, 114, 111, 114] := List.mem_filter.2 ⟨List.mem_range.2 e3, e4⟩
  rw [doorOneRow] at hm
  obtain rfl := List.mem_singleton.1 hm
  have hh : typeHandle Tryz.prog 34 = .pointer (some ⟨6, 34, none⟩) := by kernel_rfl
  rw [hh] at e5
  unfold ErrType
  simpa using World.var?_cell doorEt e5 0
theorem shaErr_of_laid {W : World} (h : laidMetH Tryz.prog laidShaErr W) : Env W ∧ ErrType W := by
  have h' : laidMet Tryz.prog laidSha W ∧ handlesMet Tryz.prog laidErrS W := h
  exact ⟨env_of_met h'.1, err_of_met (by simp [laidErrS]) h'.2⟩
theorem met_shaErr (os : Os) (args : Array Value) : laidMetH Tryz.prog laidShaErr ((World.doorLaid Tryz.prog 400 os).forCall (fun _ _ => 0) ⟨#[], args, []⟩).memory :=
  laidMetH_of_parts3 (fuel := 8) (laidMet_of_run' 8 (by kernel_rfl) (by kernel_rfl)) (by kernel_rfl) (by kernel_rfl)
end Go.Proofs.YteokgklfljhcaaaGreatDoor
namespace Go.Proofs.YteokgklfljhcaaaGreatDoor
set_option linter.unusedVariables false
set_option linter.unusedSimpArgs false
open Go.ChangeShapes Go.WideShapes Go.ChangeAt Go.RowKit
set_option maxRecDepth 100000
theorem tysets_lifted (os : Os) (started : os.Started) (H : Type) (enc : TypeId × Value → H) (F : Stop.Interp) :
    ReturnsInHanded {} Tryz.checked os 4 .any ((Rows.OpenSpec.upto Rows.typesSetsSpec).preRow enc Tryz.prog Tryz.f4 Rows.typesSetsUptoRow.domain false laidShaErr) (((Rows.OpenSpec.upto Rows.typesSetsSpec).at F).post enc Tryz.prog Tryz.f4 false true false false) := by
  refine returnsInHanded_of_row (C := Tryz.checked) (s := Rows.OpenSpec.upto Rows.typesSetsSpec) doorOwn started (by kernel_rfl) Tryz.func4
    (witness_row_atRef (enc := enc) (C := Tryz.checked) false (World.doorLaid Tryz.prog 400 os) #[.slice none 0 0, .slice none 0 0] rfl (by kernel_rfl) (by kernel_rfl) (by kernel_rfl)
      (OpenSpec.preRow_of_cond (x := ([.nil, .nil], [], [])) 8 (by kernel_rfl) (by kernel_rfl) (fun k hk => by cases hk; kernel_rfl) (by kernel_rfl) (met_shaErr os _))) ?_
  intro W base args ds gs before hval0 hW _ hcond hsz0 hL _ _
  have hb : Rows.uptoBulkAll (ds ++ gs) ≤ 1048576 := of_decide_eq_true (hcond _ rfl)
  have hsz : (DataW.weightsEach Tryz.prog (Tryz.f4.params.toList ++ Rows.typesSetsSpec.plain.varTypes Tryz.prog) (ds ++ gs)).all (· ≤ reachBytes) = true := hsz0
  clear hsz0
  have hval : ∀ (j : Nat) t v, Tryz.f4.params[j]? = some t → args[j]? = some v → Value.okWide Tryz.prog W .any base t v := hval0
  have hW' := hW
  obtain ⟨p, q, hA0, hV, rfl, hfz, hnd⟩ := hW
  have hA : DataW.TrodAll enc Tryz.prog W 0 (fun _ => true) true Tryz.f4.params.toList args.toList ds p := hA0
  rw [Tryz.params4] at hA hval hsz
  obtain ⟨v0, vs0, d0, ds0, p0, q0, hargs, rfl, rfl, h0, r0⟩ := trodAll_cons hA
  obtain ⟨v1, vs1, d1, ds1, p1, q1, rfl, rfl, rfl, h1, r1⟩ := trodAll_cons r0
  obtain ⟨rfl, rfl, rfl⟩ := trodAll_nil r1
  obtain rfl : args = #[v0, v1] := by cases args; simp_all
  obtain ⟨rfl, rfl⟩ := trodVars_none hV
  obtain ⟨a0, len0, cap0, rfl⟩ := okWide_slice Tryz.underlying48 (hval 0 48 v0 rfl rfl)
  have k0 := h0
  have lt0 : ∀ x ∈ p0, x.block < W.heap.size := by obtain ⟨m, hm⟩ := k0; exact DataW.trod_lt m _ _ _ hm
  obtain ⟨l0, hxl0, hl0, hbk0, ho0⟩ := vasB_arg h0
  obtain ⟨a1, len1, cap1, rfl⟩ := okWide_slice Tryz.underlying39 (hval 1 39 v1 rfl rfl)
  have k1 := h1
  have lt1 : ∀ x ∈ p1, x.block < W.heap.size := by obtain ⟨m, hm⟩ := k1; exact DataW.trod_lt m _ _ _ hm
  obtain ⟨xs1, hxl1, hx1, hxo1, hxb1⟩ := bytes_argB h1
  simp only [List.append_nil, Rows.uptoBulkAll] at hb
  clear hA0 hval0
  refine (lsets_any l0 (.slice a0 len0 cap0) (.slice a1 len1 cap1) xs1 W (shaErr_of_laid hL).1 (shaErr_of_laid hL).2 hl0 (fun t m => (ho0 t m).1) (fun t m => by have := (ho0 t m).2.2; omega) (by omega) hx1 hxo1 (by rw [hxl1]; omega)).mono fun e W' ⟨he, bel⟩ => ?_
  subst he
  exact ⟨_, rfl, _, _, _, [], _, [], hW', trodAll_mk1 (shut_bool Tryz.underlying4 _), (trodAll_cons_mk (Below.trod doorLaidOut (by kernel_rfl) (of_decide_eq_true (by kernel_rfl)) k0 bel lt0) (trodAll_cons_mk (Below.trod doorLaidOut (by kernel_rfl) (of_decide_eq_true (by kernel_rfl)) k1 bel lt1) trodAll_mk0)), rfl, bel.frame _, fun h => by cases h⟩
theorem tysets_holds : Rows.TypesSetsUptoSaid :=
  OpenClaim.holds_of_cond 4 Tryz.f4 rfl rfl rfl rfl rfl rfl rfl ⟨rfl, rfl, rfl, rfl, rfl⟩ rfl rfl rfl rfl rfl (by kernel_rfl) Tryz.func4 (by kernel_rfl)
    (of_decide_eq_true (by kernel_rfl)) (by unfold Func.isWrapper; first | (rw [if_pos (by decide +kernel)]; kernel_rfl) | (rw [if_neg (by decide +kernel)]; exact ⟨rfl, rfl⟩))
    (fun os started H enc _ F => by rw [OpenClaim.pre_eq_preRow]; exact tysets_lifted os started H enc F)
theorem tysets_card : Rows.TypesSetsUptoCardSaid :=
  Claim7.holds_tied_plain_at .later [] [.handle, .data, .data] true _ true
    tysets_holds (fun _ h => by cases h) (by kernel_rfl) (fun _ h => by cases h) typesSetsUpto_row_tie rfl ⟨rfl, rfl⟩ (by kernel_rfl) rfl
    (fun f fn hf hfn => by
      obtain rfl : f = 4 := Option.some.inj ((show Tryz.prog.funcNamed "isthmus/isthmuslaw11.TypesSets" = some 4 by kernel_rfl).symm.trans hf) |>.symm
      obtain rfl : fn = Tryz.f4 := (Option.some.inj (Tryz.func4.symm.trans hfn)).symm
      exact ⟨by kernel_rfl, fun j t ht => by
        rw [Tryz.params4] at ht
        have hm : t ∈ [48, 39] := by simpa using Array.mem_of_getElem? ht
        have hall : ([48, 39].all fun u => !Tryz.prog.wantsStandIn u) = true := by kernel_rfl
        exact (show Tryz.prog.wantsStandIn t = false by simpa using List.all_eq_true.1 hall t hm)⟩)
    (by kernel_rfl)
#print axioms tysets_card
end Go.Proofs.YteokgklfljhcaaaGreatDoor
