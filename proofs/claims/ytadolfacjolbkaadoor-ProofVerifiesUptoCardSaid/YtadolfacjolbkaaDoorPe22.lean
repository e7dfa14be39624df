/- Part 22 of the proof. -/
import Derived.LaidEql
import Derived.Stop.Asserts
import Derived.RowKitTokens
import Derived.Test.YtadolfacjolbkaaDoorPe6
import Derived.Test.YtadolfacjolbkaaDoorPe17
import Derived.Test.YtadolfacjolbkaaDoorPe21
namespace Go.Proofs.YtadolfacjolbkaaDoor
set_option linter.unusedVariables false
set_option linter.unusedSimpArgs false
open Go.RowKit Go.Extern.Stop Go.Stop Go.Extern
set_option maxRecDepth 100000
/-- the package-level variable errors.errorType, as it is laid -/
def ErrType (w : World) : Prop := w.cell? ⟨0, 0, none⟩ = some (.iface 169 (.agg #[.pointer (some ⟨3, 34, none⟩)]))
theorem ErrType.below {w w' : World} (h : ErrType w) (hb : Below w.heap.size w w') : ErrType w' := (hb.cell (World.block_lt_of_cell? w _ h)).trans h
theorem ErrType.only {p : Nat} {w w' : World} (h : ErrType w) (ho : Only p w w') (hp : 0 < p) : ErrType w' := ho.cell h (show 0 ≠ p by omega)
theorem nPtrOf (t : Addr) (w : World) : (ReflectliteValue.unpack (.iface 97 (.pointer (some t)))).run Tryd.prog w
    = .ok (.agg #[.pointer (some ⟨3, 97, none⟩), .pointer (some ⟨w.heap.size, 0, none⟩), .int .u64 150]) (w.alloc (.cells #[.pointer (some t)] 97)) := by kernel_rfl
theorem nNumOf (n : Int) (w : World) : (ReflectliteValue.unpack (.iface 81 (.int .i64 n))).run Tryd.prog w
    = .ok (.agg #[.pointer (some ⟨3, 81, none⟩), .pointer (some ⟨w.heap.size, 0, none⟩), .int .u64 130]) (w.alloc (.cells #[.int .i64 n] 81)) := by kernel_rfl
theorem nType (a : Addr) (w : World) : (ReflectliteValue.methodAny (ReflectliteValue.valueError "reflectlite.Value.Type" 0) (fun t _ _ _ => ReflectliteType.toType t) #[.agg #[.pointer (some ⟨3, 97, none⟩), .pointer (some a), .int .u64 150]]).run Tryd.prog w
    = .ok (.iface 169 (.agg #[.pointer (some ⟨3, 97, none⟩)])) w := by kernel_rfl
theorem nKindP (w : World) : ((ReflectliteType.abiMethod fun t => (fun a : Nat => Value.int IntKind.u8 (a : Int)) <$> Rtype.kind t) #[.pointer (some ⟨3, 97, none⟩)]).run Tryd.prog w = .ok (.int .u8 22) w := by kernel_rfl
theorem nKindE (w : World) : ((ReflectliteType.abiMethod fun t => (fun a : Nat => Value.int IntKind.u8 (a : Int)) <$> Rtype.kind t) #[.pointer (some ⟨3, 81, none⟩)]).run Tryd.prog w = .ok (.int .u8 2) w := by kernel_rfl
theorem nMethod (z : Sem Value) (f : TypeId → Addr → Nat → Nat → Sem Value) (v : Value) :
    ReflectliteValue.method z f #[v] = (do match ← ReflectliteValue.parts v with | none => z | some (t, a, fl) => f t a fl (fl % 32)) := rfl
theorem nPartsP (a : Addr) (w : World) : (ReflectliteValue.parts (.agg #[.pointer (some ⟨3, 97, none⟩), .pointer (some a), .int .u64 150])).run Tryd.prog w = .ok (some (97, a, 150)) w := by kernel_rfl
theorem nIsNil (a p : Addr) (W : World) (ha : W.cell? a = some (.pointer (some p))) :
    (ReflectliteValue.method (ReflectliteValue.valueError "reflectlite.Value.IsNil" 0) ReflectliteValue.isNil #[.agg #[.pointer (some ⟨3, 97, none⟩), .pointer (some a), .int .u64 150]]).run Tryd.prog W = .ok (.bool false) W := by
  rw [nMethod]
  simp only [Sem.run_bind, nPartsP, Result.andThen]
  simp [ReflectliteValue.isNil, loadVar, isAgg, underlying, Tryd.underlying97, ha, Result.andThen]
theorem nMKind (m : Nat) (h : Value) (w : World) : (Go.method (m + 1) 169 (.agg #[h]) "Kind").run Tryd.prog w = .ok (114, h) w := by kernel_rfl
theorem nMElem (m : Nat) (h : Value) (w : World) : (Go.method (m + 1) 169 (.agg #[h]) "Elem").run Tryd.prog w = .ok (125, .agg #[h]) w := by kernel_rfl
theorem nMImpl (m : Nat) (h : Value) (w : World) : (Go.method (m + 1) 169 (.agg #[h]) "Implements").run Tryd.prog w = .ok (126, .agg #[h]) w := by kernel_rfl
theorem nMAssign (m : Nat) (h : Value) (w : World) : (Go.method (m + 1) 169 (.agg #[h]) "AssignableTo").run Tryd.prog w = .ok (123, .agg #[h]) w := by kernel_rfl
theorem nElem (w : World) : (ReflectliteType.method ReflectliteType.elem #[.agg #[.pointer (some ⟨3, 97, none⟩)]]).run Tryd.prog w = .ok (.iface 169 (.agg #[.pointer (some ⟨3, 81, none⟩)])) w := by kernel_rfl
theorem nImpl (w : World) : (ReflectliteType.relation "Implements" ReflectliteType.implements_ #[.agg #[.pointer (some ⟨3, 81, none⟩)], .iface 169 (.agg #[.pointer (some ⟨3, 34, none⟩)])]).run Tryd.prog w = .ok (.bool true) w := by kernel_rfl
theorem nTypeOf (v : Value) (w : World) : (ReflectliteType.typeOf #[.iface 81 v]).run Tryd.prog w = .ok (.iface 169 (.agg #[.pointer (some ⟨3, 81, none⟩)])) w := by kernel_rfl
theorem nAssign (w : World) : (ReflectliteType.relation "AssignableTo" ReflectliteType.assignableTo #[.agg #[.pointer (some ⟨3, 81, none⟩)], .iface 169 (.agg #[.pointer (some ⟨3, 81, none⟩)])]).run Tryd.prog w = .ok (.bool true) w := by kernel_rfl
theorem nElemOf (w : World) : (Rtype.elem? 97).run Tryd.prog w = .ok (some 81) w := by kernel_rfl
theorem nMk (p : Addr) (w : World) : (ReflectliteValue.mk 81 p ReflectliteValue.flagAddr).run Tryd.prog w = .ok (.agg #[.pointer (some ⟨3, 81, none⟩), .pointer (some p), .int .u64 386]) w := by kernel_rfl
theorem nElemV (a p : Addr) (W : World) (ha : W.cell? a = some (.pointer (some p))) :
    (ReflectliteValue.method (ReflectliteValue.valueError "reflectlite.Value.Elem" 0) ReflectliteValue.elem #[.agg #[.pointer (some ⟨3, 97, none⟩), .pointer (some a), .int .u64 150]]).run Tryd.prog W
      = .ok (.agg #[.pointer (some ⟨3, 81, none⟩), .pointer (some p), .int .u64 386]) W := by
  rw [nMethod]
  simp only [Sem.run_bind, nPartsP, Result.andThen]
  simp [ReflectliteValue.elem, loadVar, isAgg, underlying, Tryd.underlying97, ha, Result.andThen, nElemOf, nMk]
theorem nPartsA (a : Addr) (w : World) : (ReflectliteValue.parts (.agg #[.pointer (some ⟨3, 81, none⟩), .pointer (some a), .int .u64 386])).run Tryd.prog w = .ok (some (81, a, 386)) w := by kernel_rfl
theorem nPartsE (a : Addr) (w : World) : (ReflectliteValue.parts (.agg #[.pointer (some ⟨3, 81, none⟩), .pointer (some a), .int .u64 130])).run Tryd.prog w = .ok (some (81, a, 130)) w := by kernel_rfl
theorem nDirect (w : World) : (Rtype.directlyAssignable 81 81).run Tryd.prog w = .ok true w := by kernel_rfl
theorem nIsAgg (w : World) : (isAgg 81).run Tryd.prog w = .ok false w := by kernel_rfl
theorem nLit1 (x y : Value) (h1 : (#[x, y] : Array Value).size = 2) (h2 : 1 < 2) : (#[x, y] : Array Value).getLit 1 h1 h2 = y := rfl
theorem nSize (w : World) : (sizeOf 81).run Tryd.prog w = .ok 1 w := by kernel_rfl
theorem nSet (ta b : Addr) (n : Int) (old : Value) (W : World) (hb : W.cell? b = some (.int .i64 n)) (ht : W.cell? ta = some old) (hf : W.frozen? ta = false) :
    (ReflectliteValue.set #[.agg #[.pointer (some ⟨3, 81, none⟩), .pointer (some ta), .int .u64 386], .agg #[.pointer (some ⟨3, 81, none⟩), .pointer (some b), .int .u64 130]]).run Tryd.prog W
      = .ok (.tuple #[]) (W.setCell ta (.int .i64 n)) := by
  change Sem.run _ (ReflectliteValue.parts (.agg #[.pointer (some ⟨3, 81, none⟩), .pointer (some ta), .int .u64 386]) >>= _) _ = _
  simp only [Sem.run_bind, nLit1, nPartsA, nPartsE, Result.andThen]
  simp [ReflectliteValue.flagAddr, loadVar, hb, Result.andThen, nDirect, storeVar, Value.cells, storeCells, Addr.add]
  rw [run_store Tryd.prog W ta _ _ (by rfl)]
  simp [ht, hf]
/-- the three blocks that errors.As makes, and the fourth -/
def asW (w : World) (t : Addr) (n : Int) : World :=
  (((w.alloc (.cells #[.pointer (some t)] 97)).alloc (.cells #[.pointer (some ⟨3, 97, none⟩), .pointer (some ⟨w.heap.size, 0, none⟩), .int .u64 150] 133)).alloc (.cells #[.pointer (some ⟨3, 97, none⟩), .pointer (some ⟨w.heap.size, 0, none⟩), .int .u64 150] 133)).alloc (.cells #[.int .i64 n] 81)
set_option maxHeartbeats 4000000 in
theorem as_hit (n : Int) (t : Addr) (old : Value) (w : World) (hg : ErrType w) (ht0 : w.cell? t = some old) (hf0 : w.frozen? t = false) :
    Calls Tryd.prog 40 #[.iface 81 (.int .i64 n), .iface 97 (.pointer (some t))] w fun ev w' => ev = .returned (.bool true) ∧ w' = (asW w t n).setCell t (.int .i64 n) := by
  unfold ErrType at hg
  unfold asW
  have h6 := @run_callFunc_extern Tryd.prog 67 _ (fun args => ReflectliteValue.unpack (args.getD 0 (.tuple #[]))) Tryd.func67 (by kernel_rfl) (by kernel_rfl) (by kernel_rfl) (by kernel_rfl)
  have h7 := @run_callFunc_extern Tryd.prog 68 _ (ReflectliteValue.methodAny (ReflectliteValue.valueError "reflectlite.Value.Type" 0) (fun t _ _ _ => ReflectliteType.toType t)) Tryd.func68 (by kernel_rfl) (by kernel_rfl) (by kernel_rfl) (by kernel_rfl)
  have h8 := @run_callFunc_extern Tryd.prog 69 _ (ReflectliteValue.method (ReflectliteValue.valueError "reflectlite.Value.IsNil" 0) ReflectliteValue.isNil) Tryd.func69 (by kernel_rfl) (by kernel_rfl) (by kernel_rfl) (by kernel_rfl)
  have h27 := @run_callFunc_extern Tryd.prog 114 _ (ReflectliteType.abiMethod fun t => do pure (.int .u8 (← Rtype.kind t))) Tryd.func114 (by kernel_rfl) (by kernel_rfl) (by kernel_rfl) (by kernel_rfl)
  have h37 := @run_callFunc_extern Tryd.prog 125 _ (ReflectliteType.method ReflectliteType.elem) Tryd.func125 (by kernel_rfl) (by kernel_rfl) (by kernel_rfl) (by kernel_rfl)
  have h38 := @run_callFunc_extern Tryd.prog 126 _ (ReflectliteType.relation "Implements" ReflectliteType.implements_) Tryd.func126 (by kernel_rfl) (by kernel_rfl) (by kernel_rfl) (by kernel_rfl)
  have h10 := @run_callFunc_extern Tryd.prog 89 _ ReflectliteType.typeOf Tryd.func89 (by kernel_rfl) (by kernel_rfl) (by kernel_rfl) (by kernel_rfl)
  have h35 := @run_callFunc_extern Tryd.prog 123 _ (ReflectliteType.relation "AssignableTo" ReflectliteType.assignableTo) Tryd.func123 (by kernel_rfl) (by kernel_rfl) (by kernel_rfl) (by kernel_rfl)
  have h11 := @run_callFunc_extern Tryd.prog 90 _ (ReflectliteValue.method (ReflectliteValue.valueError "reflectlite.Value.Elem" 0) ReflectliteValue.elem) Tryd.func90 (by kernel_rfl) (by kernel_rfl) (by kernel_rfl) (by kernel_rfl)
  have h12 := @run_callFunc_extern Tryd.prog 91 _ ReflectliteValue.set Tryd.func91 (by kernel_rfl) (by kernel_rfl) (by kernel_rfl) (by kernel_rfl)
  have tO := nTypeOf
  have mA := nMAssign 
  have aE := nAssign
  have vE := nNumOf
  have f6 := nPtrOf
  have f7 := nType
  have mK := nMKind 
  have mE := nMElem 
  have mI := nMImpl 
  have kP := nKindP
  have kE := nKindE
  have eP := nElem
  have iE := nImpl
  have n8 := nIsNil ⟨w.heap.size, 0, none⟩ t ((w.alloc (.cells #[.pointer (some t)] 97)).alloc (.cells #[.pointer (some ⟨3, 97, none⟩), .pointer (some ⟨w.heap.size, 0, none⟩), .int .u64 150] 133)) (by simp)
  have hlt : 0 < w.heap.size := World.block_lt_of_cell? w _ hg
  have hg2 : ((w.alloc (.cells #[.pointer (some t)] 97)).alloc (.cells #[.pointer (some ⟨3, 97, none⟩), .pointer (some ⟨w.heap.size, 0, none⟩), .int .u64 150] 133)).cell? ⟨0, 0, none⟩ = some (.iface 169 (.agg #[.pointer (some ⟨3, 34, none⟩)])) := by
    rw [World.cell?_alloc_lt _ _ ⟨0, 0, none⟩ (Nat.lt_of_lt_of_le hlt (by simp)), World.cell?_alloc_lt _ _ ⟨0, 0, none⟩ hlt]; exact hg
  have htl : t.block < w.heap.size := by
    rcases Nat.lt_or_ge t.block w.heap.size with h | h
    · exact h
    · simp [World.cell?, Array.getElem?_eq_none h] at ht0
  have el := nElemV ⟨w.heap.size, 0, none⟩ t (((w.alloc (.cells #[.pointer (some t)] 97)).alloc (.cells #[.pointer (some ⟨3, 97, none⟩), .pointer (some ⟨w.heap.size, 0, none⟩), .int .u64 150] 133)).alloc (.cells #[.pointer (some ⟨3, 97, none⟩), .pointer (some ⟨w.heap.size, 0, none⟩), .int .u64 150] 133)) (by rw [World.cell?_alloc_lt _ _ ⟨w.heap.size, 0, none⟩ (by simp; omega)]; simp)
  have st := nSet t ⟨w.heap.size + 1 + 1 + 1, 0, none⟩ n old ((((w.alloc (.cells #[.pointer (some t)] 97)).alloc (.cells #[.pointer (some ⟨3, 97, none⟩), .pointer (some ⟨w.heap.size, 0, none⟩), .int .u64 150] 133)).alloc (.cells #[.pointer (some ⟨3, 97, none⟩), .pointer (some ⟨w.heap.size, 0, none⟩), .int .u64 150] 133)).alloc (.cells #[.int .i64 n] 81))
    (by rw [World.cell?_alloc_at _ _ _ _ (by simp)]; rfl)
    (by rw [World.cell?_alloc_lt _ _ t (by simp; omega), World.cell?_alloc_lt _ _ t (by simp; omega), World.cell?_alloc_lt _ _ t (by simp; omega), World.cell?_alloc_lt _ _ t htl]; exact ht0)
    (by rw [World.frozen?_alloc_old _ _ t (by simp; omega), World.frozen?_alloc_old _ _ t (by simp; omega), World.frozen?_alloc_old _ _ t (by simp; omega), World.frozen?_alloc_old _ _ t (Nat.ne_of_lt htl)]; exact hf0)
  go_enter Tryd.func40, Tryd.ntmps40
  go_wp2
  refine wp_loop_rounds 1 ?_
  rw [rounds_succ]
  go_wp2
  go_ret
  exact ⟨rfl, rfl⟩
theorem asW_below (w : World) (t : Addr) (n : Int) : Below w.heap.size w (asW w t n) :=
  ((((Below.refl _ w).alloc (Nat.le_refl _) _).alloc (by simp) _).alloc (by simp; omega) _).alloc (by simp; omega) _
/-- an error's number -/
def numE : Option Nat → Int
  | none => 0
  | some n => n
theorem num_any (e : Option Nat) (w : World) (hg : ErrType w) :
    Calls Tryd.prog 15 #[errV e] w fun r w' => r = .returned (.int .i64 (numE e)) ∧ Below w.heap.size w w' := by
  cases e with
  | none =>
    show Calls Tryd.prog 15 #[.nilIface] w _
    go_enter Tryd.func15, Tryd.ntmps15
    go_wp2
    go_ret
    exact ⟨rfl, below_alloc w _⟩
  | some n =>
    show Calls Tryd.prog 15 #[.iface 81 (.int .i64 n)] w _
    have HB := Lib.hid (below_alloc w (.cells #[.int .i64 0] 81))
    have HE := Lib.hid (hg.below HB.out)
    have HA := Lib.hid (as_hit n ⟨w.heap.size, 0, none⟩ (.int .i64 0) (w.alloc (.cells #[.int .i64 0] 81)) HE.out (by rw [cell_of_row _ _ _ _ _ _ (heap_alloc_new w _)]; rfl) (frozen_of_row _ _ _ _ _ (heap_alloc_new w _)))
    have hb2 := asW_below (w.alloc (.cells #[.int .i64 0] 81)) ⟨w.heap.size, 0, none⟩ n
    have hh : (asW (w.alloc (.cells #[.int .i64 0] 81)) ⟨w.heap.size, 0, none⟩ n).heap[w.heap.size]? = some (.cells #[.int .i64 0] 81 (0, 0)) := (hb2.block _ (by simp)).trans (heap_alloc_new w _)
    have hc : ((asW (w.alloc (.cells #[.int .i64 0] 81)) ⟨w.heap.size, 0, none⟩ n).setCell ⟨w.heap.size, 0, none⟩ (.int .i64 n)).cell? ⟨w.heap.size, 0, none⟩ = some (.int .i64 n) := by
      have := heap_setCell_same _ w.heap.size 0 _ _ (.int .i64 n) hh
      rw [cell_of_row _ _ _ _ _ _ this]; rfl
    have HF := Lib.hid ((HB.out.trans (hb2.mono (by simp))).setCell (p := ⟨w.heap.size, 0, none⟩) (Nat.le_refl _) (.int .i64 (n : Int)))
    clear hb2 hh
    generalize (asW (w.alloc (.cells #[.int .i64 0] 81)) ⟨w.heap.size, 0, none⟩ n).setCell ⟨w.heap.size, 0, none⟩ (.int .i64 n) = w2 at *
    go_enter Tryd.func15, Tryd.ntmps15
    go_wp2_with (go_at_call 40; (with_reducible refine HA.out.mono ?_); rintro ev w3 ⟨rfl, rfl⟩)
    go_ret
    exact ⟨rfl, HF.out⟩
#print axioms num_any
end Go.Proofs.YtadolfacjolbkaaDoor
namespace Go.Proofs.YtadolfacjolbkaaDoor
set_option linter.unusedVariables false
set_option linter.unusedSimpArgs false
open Go.RowKit
set_option maxRecDepth 100000
set_option linter.unusedSimpArgs false
set_option linter.unusedVariables false
def ShNo (w : World) (e : Ending) (w' : World) : Prop := ∃ F i n, e = .returned (.tuple #[.agg (rowOf .u8 32 F), .int .i64 i, .int .i64 n, .bool false]) ∧ Below w.heap.size w w'
theorem rshow_no {P : PvP} (h : showF P = none) (hz : P.key.size + P.val.size ≤ 1048576) (sv : Value) (w : World) (he : Env w) (hst : StIn w sv P.steps) : Calls Tryd.prog 48 #[.agg (prC P sv)] w (ShNo w) := by
  refine (rshow_any P sv w he hst hz).mono ?_
  rw [h]
  rintro e w' ⟨F, i, n, rfl, -, hb⟩
  exact ⟨F, i, n, rfl, hb⟩
def ShYes (F : Nat → Int) (i n : Int) (w : World) (e : Ending) (w' : World) : Prop := e = .returned (.tuple #[.agg (rowOf .u8 32 F), .int .i64 i, .int .i64 n, .bool true]) ∧ Below w.heap.size w w'
theorem rshow_yes {P : PvP} {F : Nat → Int} {i n : Int} (h : showF P = some (F, i, n)) (hz : P.key.size + P.val.size ≤ 1048576) (sv : Value) (w : World) (he : Env w) (hst : StIn w sv P.steps) : Calls Tryd.prog 48 #[.agg (prC P sv)] w (ShYes F i n w) := by
  refine (rshow_any P sv w he hst hz).mono ?_
  rw [h]
  rintro e w' ⟨F', i', n', rfl, his, hb⟩
  have := his.is _ rfl
  injection this with h1 h2
  injection h2 with h2 h3
  subst h1 h2 h3
  exact ⟨rfl, hb⟩
theorem follow_no {R : Nat → Int} {P : PvP} (h : showF P = none) : followF R P = none := by unfold followF; rw [h]
theorem follow_neq {R F : Nat → Int} {P : PvP} {i n : Int} (h : showF P = some (F, i, n)) (hq : eqB F R = false) : followF R P = none := by unfold followF; rw [h]; simp [hq]
theorem follow_yes {R F : Nat → Int} {P : PvP} {i n : Int} (h : showF P = some (F, i, n)) (hq : eqB F R = true) : followF R P = some (F, i, n) := by unfold followF; rw [h]; simp [hq]
structure RvM (w0 w : World) (R : Nat → Int) (P : PvP) (sv : Value) : Prop where
  below : Below w0.heap.size w0 w
  h4 : w.heap[w0.heap.size]? = some (.cells (rowOf .u8 32 R) 43 (0, 0))
  h7 : w.heap[w0.heap.size + 1]? = some (.cells (prC P sv) 51 (0, 0))
  st : StIn w sv P.steps
theorem RvM.call {w0 w w' : World} {R : Nat → Int} {P : PvP} {sv : Value} (m : RvM w0 w R P sv) (h : Below w.heap.size w w') : RvM w0 w' R P sv :=
  ⟨m.below.trans (h.mono m.below.size), (h.block _ (bk_lt m.h4)).trans m.h4, (h.block _ (bk_lt m.h7)).trans m.h7, m.st.below h⟩
theorem rvM_start {w : World} {R : Nat → Int} {P : PvP} {sv : Value} (h : StIn w sv P.steps) : RvM w ((w.alloc (.cells (rowOf .u8 32 R) 43)).alloc (.cells (prC P sv) 51)) R P sv := by
  obtain ⟨a, b, c⟩ := two_start (w := w) (xs := rowOf .u8 32 R) (ys := prC P sv) (X := 43) (Y := 51)
  exact ⟨c, a, b, h.below c⟩
theorem RvM.cells {w0 w : World} {R : Nat → Int} {P : PvP} {sv : Value} (m : RvM w0 w R P sv) : w.cell? ⟨w0.heap.size + 1, 0, none⟩ = some (.string P.key) ∧ w.cell? ⟨w0.heap.size + 1, 1, none⟩ = some (.string P.val) :=
  ⟨cell_of_row _ _ 0 _ _ _ m.h7, cell_of_row _ _ 1 _ _ _ m.h7⟩
def RvPost (o : Option Nat) (w : World) (e : Ending) (w' : World) : Prop := e = .returned (.int .i64 (numE o)) ∧ Below w.heap.size w w'
set_option maxHeartbeats 8000000 in
theorem rverify_any (R : Nat → Int) (key val : ByteArray) (P : PvP) (sv : Value) (w : World) (he : Env w) (hst : StIn w sv P.steps) (hz : P.key.size + P.val.size ≤ 1048576) :
    Calls Tryd.prog 21 #[.agg (rowOf .u8 32 R), .string key, .string val, .agg (prC P sv)] w (RvPost (verF R key val P) w) := by
  obtain ⟨va, vc, rfl⟩ := hst.len
  have M := Lib.hid (rvM_start (R := R) hst)
  have HE := Lib.hid he
  cases hs : showF P with
  | none =>
    have hv : verF R key val P = some 23 := by
      unfold verF; rw [follow_no hs]; split <;> rfl
    rw [hv]
    have HSH := Lib.hid (fun sv w he hst => rshow_no hs hz sv w he hst)
    unfold ShNo at HSH
    unfold RvPost
    simp only [numE]
    clear he hst hz hs hv
    go_enter Tryd.func21, Tryd.ntmps21
    go_upto_region 1 with (fail)
    generalize (w.alloc (.cells (rowOf .u8 32 R) 43)).alloc (.cells (prC P (.slice va P.steps.length vc)) 51) = w1 at *
    go_wp2_with (first
      | (refine wpList_load_row rfl 51 (.tmp 7) rfl (w.heap.size + 1) rfl 51 _ (0, 0) _ M.out.h7 Tryd.underlying51 rfl (by kernel_rfl) ?_)
      | (go_at_call 48; (with_reducible refine (HSH.out _ _ (HE.out.below M.out.below HE.out.lt) M.out.st).mono ?_); rintro e w2 ⟨F, i, n, rfl, hb⟩; replace M := Lib.hid (M.out.call hb); clear hb)
      | (refine wpList_store_row rfl 43 (.tmp 9) (.tmp 16) rfl w2.heap.size (rowOf .u8 32 F) rfl rfl 43 _ (heap_alloc_new _ _) (by rw [rowOf_size]; kernel_rfl) (by rw [rowOf_size]; rfl) (rowOf_one _ _ _) ?_; rw [World.setRow_alloc_new]))
    go_ret
    exact ⟨rfl, M.out.below.trans ((below_alloc w2 _).mono M.out.below.size)⟩
  | some x =>
    obtain ⟨F, i, n⟩ := x
    have HSH := Lib.hid (fun sv w he hst => rshow_yes hs hz sv w he hst)
    unfold ShYes at HSH
    cases hq : eqB F R with
    | false =>
      have hv : verF R key val P = some 23 := by
        unfold verF; rw [follow_neq hs hq]; split <;> rfl
      rw [hv]
      unfold RvPost
      simp only [numE]
      clear he hst hz hs hv
      go_enter Tryd.func21, Tryd.ntmps21
      go_upto_region 1 with (fail)
      generalize (w.alloc (.cells (rowOf .u8 32 R) 43)).alloc (.cells (prC P (.slice va P.steps.length vc)) 51) = w1 at *
      go_upto_region 2 with (first
        | (refine wpList_load_row rfl 51 (.tmp 7) rfl (w.heap.size + 1) rfl 51 _ (0, 0) _ M.out.h7 Tryd.underlying51 rfl (by kernel_rfl) ?_)
        | (go_at_call 48; (with_reducible refine (HSH.out _ _ (HE.out.below M.out.below HE.out.lt) M.out.st).mono ?_); rintro e w2 ⟨rfl, hb⟩; replace M := Lib.hid (M.out.call hb); clear hb)
        | (refine wpList_store_row rfl 43 (.tmp 9) (.tmp 16) rfl w2.heap.size (rowOf .u8 32 F) rfl rfl 43 _ (heap_alloc_new _ _) (by rw [rowOf_size]; kernel_rfl) (by rw [rowOf_size]; rfl) (rowOf_one _ _ _) ?_; rw [World.setRow_alloc_new]))
      have H9 := Lib.hid (heap_alloc_new w2 (.cells (rowOf .u8 32 F) 43))
      replace M := Lib.hid (M.out.call (below_alloc w2 (.cells (rowOf .u8 32 F) 43)))
      obtain ⟨g9, hg9⟩ : ∃ g, g = w2.heap.size := ⟨_, rfl⟩
      rw [← hg9] at H9 ⊢
      clear hg9
      generalize w2.alloc (.cells (rowOf .u8 32 F) 43) = w3 at *
      obtain ⟨c0, c1⟩ := M.out.cells
      go_wp2_with (first
        | (refine wpList_load_rowsz (by rfl) 43 (.tmp 9) rfl g9 0 rfl (rowOf .u8 32 F) _ (row_range H9.out) Tryd.underlying43 rfl (by rw [rowOf_size]; kernel_rfl) ?_)
        | (refine wpList_load_rowsz (by rfl) 43 (.tmp 4) rfl w.heap.size 0 rfl (rowOf .u8 32 R) _ (row_range M.out.h4) Tryd.underlying43 rfl (by rw [rowOf_size]; kernel_rfl) ?_)
        | (refine wpList_neq32 (by rfl) (.tmp 23) (.tmp 24) rfl F R false rfl rfl hq ?_))
      go_ret
      exact ⟨rfl, M.out.below⟩
    | true =>
      have hv : verF R key val P = if P.key = key ∧ P.val = val then none else some 23 := by
        unfold verF; rw [follow_yes hs hq]; rfl
      rw [hv]
      unfold RvPost
      by_cases hk : P.key = key
      · have hk1 : (P.key.toList == key.toList) = true := by rw [hk]; exact sbeq_self _
        by_cases hw : P.val = val
        · have hw1 : (P.val.toList == val.toList) = true := by rw [hw]; exact sbeq_self _
          rw [if_pos ⟨hk, hw⟩]
          simp only [numE]
          clear he hst hz hs hv hk hw
          go_enter Tryd.func21, Tryd.ntmps21
          go_upto_region 1 with (fail)
          generalize (w.alloc (.cells (rowOf .u8 32 R) 43)).alloc (.cells (prC P (.slice va P.steps.length vc)) 51) = w1 at *
          go_upto_region 2 with (first
            | (refine wpList_load_row rfl 51 (.tmp 7) rfl (w.heap.size + 1) rfl 51 _ (0, 0) _ M.out.h7 Tryd.underlying51 rfl (by kernel_rfl) ?_)
            | (go_at_call 48; (with_reducible refine (HSH.out _ _ (HE.out.below M.out.below HE.out.lt) M.out.st).mono ?_); rintro e w2 ⟨rfl, hb⟩; replace M := Lib.hid (M.out.call hb); clear hb)
            | (refine wpList_store_row rfl 43 (.tmp 9) (.tmp 16) rfl w2.heap.size (rowOf .u8 32 F) rfl rfl 43 _ (heap_alloc_new _ _) (by rw [rowOf_size]; kernel_rfl) (by rw [rowOf_size]; rfl) (rowOf_one _ _ _) ?_; rw [World.setRow_alloc_new]))
          have H9 := Lib.hid (heap_alloc_new w2 (.cells (rowOf .u8 32 F) 43))
          replace M := Lib.hid (M.out.call (below_alloc w2 (.cells (rowOf .u8 32 F) 43)))
          obtain ⟨g9, hg9⟩ : ∃ g, g = w2.heap.size := ⟨_, rfl⟩
          rw [← hg9] at H9 ⊢
          clear hg9
          generalize w2.alloc (.cells (rowOf .u8 32 F) 43) = w3 at *
          obtain ⟨c0, c1⟩ := M.out.cells
          go_wp2_with (first
            | (refine wpList_load_rowsz (by rfl) 43 (.tmp 9) rfl g9 0 rfl (rowOf .u8 32 F) _ (row_range H9.out) Tryd.underlying43 rfl (by rw [rowOf_size]; kernel_rfl) ?_)
            | (refine wpList_load_rowsz (by rfl) 43 (.tmp 4) rfl w.heap.size 0 rfl (rowOf .u8 32 R) _ (row_range M.out.h4) Tryd.underlying43 rfl (by rw [rowOf_size]; kernel_rfl) ?_)
            | (refine wpList_neq32 (by rfl) (.tmp 23) (.tmp 24) rfl F R true rfl rfl hq ?_))
          go_ret
          exact ⟨rfl, M.out.below⟩
        · have hw1 : (P.val.toList == val.toList) = false := sbeq_ne hw
          rw [if_neg (fun h => hw h.2)]
          simp only [numE]
          clear he hst hz hs hv hk hw
          go_enter Tryd.func21, Tryd.ntmps21
          go_upto_region 1 with (fail)
          generalize (w.alloc (.cells (rowOf .u8 32 R) 43)).alloc (.cells (prC P (.slice va P.steps.length vc)) 51) = w1 at *
          go_upto_region 2 with (first
            | (refine wpList_load_row rfl 51 (.tmp 7) rfl (w.heap.size + 1) rfl 51 _ (0, 0) _ M.out.h7 Tryd.underlying51 rfl (by kernel_rfl) ?_)
            | (go_at_call 48; (with_reducible refine (HSH.out _ _ (HE.out.below M.out.below HE.out.lt) M.out.st).mono ?_); rintro e w2 ⟨rfl, hb⟩; replace M := Lib.hid (M.out.call hb); clear hb)
            | (refine wpList_store_row rfl 43 (.tmp 9) (.tmp 16) rfl w2.heap.size (rowOf .u8 32 F) rfl rfl 43 _ (heap_alloc_new _ _) (by rw [rowOf_size]; kernel_rfl) (by rw [rowOf_size]; rfl) (rowOf_one _ _ _) ?_; rw [World.setRow_alloc_new]))
          have H9 := Lib.hid (heap_alloc_new w2 (.cells (rowOf .u8 32 F) 43))
          replace M := Lib.hid (M.out.call (below_alloc w2 (.cells (rowOf .u8 32 F) 43)))
          obtain ⟨g9, hg9⟩ : ∃ g, g = w2.heap.size := ⟨_, rfl⟩
          rw [← hg9] at H9 ⊢
          clear hg9
          generalize w2.alloc (.cells (rowOf .u8 32 F) 43) = w3 at *
          obtain ⟨c0, c1⟩ := M.out.cells
          go_wp2_with (first
            | (refine wpList_load_rowsz (by rfl) 43 (.tmp 9) rfl g9 0 rfl (rowOf .u8 32 F) _ (row_range H9.out) Tryd.underlying43 rfl (by rw [rowOf_size]; kernel_rfl) ?_)
            | (refine wpList_load_rowsz (by rfl) 43 (.tmp 4) rfl w.heap.size 0 rfl (rowOf .u8 32 R) _ (row_range M.out.h4) Tryd.underlying43 rfl (by rw [rowOf_size]; kernel_rfl) ?_)
            | (refine wpList_neq32 (by rfl) (.tmp 23) (.tmp 24) rfl F R true rfl rfl hq ?_))
          go_ret
          exact ⟨rfl, M.out.below⟩
      · have hk1 : (P.key.toList == key.toList) = false := sbeq_ne hk
        rw [if_neg (fun h => hk h.1)]
        simp only [numE]
        clear he hst hz hs hv hk
        go_enter Tryd.func21, Tryd.ntmps21
        go_upto_region 1 with (fail)
        generalize (w.alloc (.cells (rowOf .u8 32 R) 43)).alloc (.cells (prC P (.slice va P.steps.length vc)) 51) = w1 at *
        go_upto_region 2 with (first
          | (refine wpList_load_row rfl 51 (.tmp 7) rfl (w.heap.size + 1) rfl 51 _ (0, 0) _ M.out.h7 Tryd.underlying51 rfl (by kernel_rfl) ?_)
          | (go_at_call 48; (with_reducible refine (HSH.out _ _ (HE.out.below M.out.below HE.out.lt) M.out.st).mono ?_); rintro e w2 ⟨rfl, hb⟩; replace M := Lib.hid (M.out.call hb); clear hb)
          | (refine wpList_store_row rfl 43 (.tmp 9) (.tmp 16) rfl w2.heap.size (rowOf .u8 32 F) rfl rfl 43 _ (heap_alloc_new _ _) (by rw [rowOf_size]; kernel_rfl) (by rw [rowOf_size]; rfl) (rowOf_one _ _ _) ?_; rw [World.setRow_alloc_new]))
        have H9 := Lib.hid (heap_alloc_new w2 (.cells (rowOf .u8 32 F) 43))
        replace M := Lib.hid (M.out.call (below_alloc w2 (.cells (rowOf .u8 32 F) 43)))
        obtain ⟨g9, hg9⟩ : ∃ g, g = w2.heap.size := ⟨_, rfl⟩
        rw [← hg9] at H9 ⊢
        clear hg9
        generalize w2.alloc (.cells (rowOf .u8 32 F) 43) = w3 at *
        obtain ⟨c0, c1⟩ := M.out.cells
        go_wp2_with (first
          | (refine wpList_load_rowsz (by rfl) 43 (.tmp 9) rfl g9 0 rfl (rowOf .u8 32 F) _ (row_range H9.out) Tryd.underlying43 rfl (by rw [rowOf_size]; kernel_rfl) ?_)
          | (refine wpList_load_rowsz (by rfl) 43 (.tmp 4) rfl w.heap.size 0 rfl (rowOf .u8 32 R) _ (row_range M.out.h4) Tryd.underlying43 rfl (by rw [rowOf_size]; kernel_rfl) ?_)
          | (refine wpList_neq32 (by rfl) (.tmp 23) (.tmp 24) rfl F R true rfl rfl hq ?_))
        go_ret
        exact ⟨rfl, M.out.below⟩
end Go.Proofs.YtadolfacjolbkaaDoor
