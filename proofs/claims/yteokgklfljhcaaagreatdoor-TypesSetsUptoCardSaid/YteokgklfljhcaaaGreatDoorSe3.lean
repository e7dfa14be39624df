/- Part 3 of the proof. -/
import Derived.LaidEql
import Derived.Stop.Asserts
import Derived.RowKitTokens
import Derived.Laws.BitsAllLaws
import Derived.Laws.ResultCell
import Derived.Test.YteokgklfljhcaaaGreatDoorSe1
import Derived.Test.YteokgklfljhcaaaGreatDoorSe2
namespace Go.Proofs.YteokgklfljhcaaaGreatDoor
set_option linter.unusedVariables false
set_option linter.unusedSimpArgs false
open Go.RowKit Go.Extern.Stop Go.Stop Go.Extern
set_option maxRecDepth 100000
/-- the package-level variable errors.errorType, as it is laid -/
def ErrType (w : World) : Prop := w.cell? ⟨0, 0, none⟩ = some (.iface 197 (.agg #[.pointer (some ⟨6, 34, none⟩)]))
theorem ErrType.below {w w' : World} (h : ErrType w) (hb : Below w.heap.size w w') : ErrType w' := (hb.cell (World.block_lt_of_cell? w _ h)).trans h
theorem ErrType.only {p : Nat} {w w' : World} (h : ErrType w) (ho : Only p w w') (hp : 0 < p) : ErrType w' := ho.cell h (show 0 ≠ p by omega)
theorem nPtrOf (t : Addr) (w : World) : (ReflectliteValue.unpack (.iface 80 (.pointer (some t)))).run Tryz.prog w
    = .ok (.agg #[.pointer (some ⟨6, 80, none⟩), .pointer (some ⟨w.heap.size, 0, none⟩), .int .u64 150]) (w.alloc (.cells #[.pointer (some t)] 80)) := by kernel_rfl
theorem nNumOf (n : Int) (w : World) : (ReflectliteValue.unpack (.iface 78 (.int .i64 n))).run Tryz.prog w
    = .ok (.agg #[.pointer (some ⟨6, 78, none⟩), .pointer (some ⟨w.heap.size, 0, none⟩), .int .u64 130]) (w.alloc (.cells #[.int .i64 n] 78)) := by kernel_rfl
theorem nType (a : Addr) (w : World) : (ReflectliteValue.methodAny (ReflectliteValue.valueError "reflectlite.Value.Type" 0) (fun t _ _ _ => ReflectliteType.toType t) #[.agg #[.pointer (some ⟨6, 80, none⟩), .pointer (some a), .int .u64 150]]).run Tryz.prog w
    = .ok (.iface 197 (.agg #[.pointer (some ⟨6, 80, none⟩)])) w := by kernel_rfl
theorem nKindP (w : World) : ((ReflectliteType.abiMethod fun t => (fun a : Nat => Value.int IntKind.u8 (a : Int)) <$> Rtype.kind t) #[.pointer (some ⟨6, 80, none⟩)]).run Tryz.prog w = .ok (.int .u8 22) w := by kernel_rfl
theorem nKindE (w : World) : ((ReflectliteType.abiMethod fun t => (fun a : Nat => Value.int IntKind.u8 (a : Int)) <$> Rtype.kind t) #[.pointer (some ⟨6, 78, none⟩)]).run Tryz.prog w = .ok (.int .u8 2) w := by kernel_rfl
theorem nMethod (z : Sem Value) (f : TypeId → Addr → Nat → Nat → Sem Value) (v : Value) :
    ReflectliteValue.method z f #[v] = (do match ← ReflectliteValue.parts v with | none => z | some (t, a, fl) => f t a fl (fl % 32)) := rfl
theorem nPartsP (a : Addr) (w : World) : (ReflectliteValue.parts (.agg #[.pointer (some ⟨6, 80, none⟩), .pointer (some a), .int .u64 150])).run Tryz.prog w = .ok (some (80, a, 150)) w := by kernel_rfl
theorem nIsNil (a p : Addr) (W : World) (ha : W.cell? a = some (.pointer (some p))) :
    (ReflectliteValue.method (ReflectliteValue.valueError "reflectlite.Value.IsNil" 0) ReflectliteValue.isNil #[.agg #[.pointer (some ⟨6, 80, none⟩), .pointer (some a), .int .u64 150]]).run Tryz.prog W = .ok (.bool false) W := by
  rw [nMethod]
  simp only [Sem.run_bind, nPartsP, Result.andThen]
  simp [ReflectliteValue.isNil, loadVar, isAgg, underlying, Tryz.underlying80, ha, Result.andThen]
theorem nMKind (m : Nat) (h : Value) (w : World) : (Go.method (m + 1) 197 (.agg #[h]) "Kind").run Tryz.prog w = .ok (217, h) w := by kernel_rfl
theorem nMElem (m : Nat) (h : Value) (w : World) : (Go.method (m + 1) 197 (.agg #[h]) "Elem").run Tryz.prog w = .ok (230, .agg #[h]) w := by kernel_rfl
theorem nMImpl (m : Nat) (h : Value) (w : World) : (Go.method (m + 1) 197 (.agg #[h]) "Implements").run Tryz.prog w = .ok (231, .agg #[h]) w := by kernel_rfl
theorem nMAssign (m : Nat) (h : Value) (w : World) : (Go.method (m + 1) 197 (.agg #[h]) "AssignableTo").run Tryz.prog w = .ok (228, .agg #[h]) w := by kernel_rfl
theorem nElem (w : World) : (ReflectliteType.method ReflectliteType.elem #[.agg #[.pointer (some ⟨6, 80, none⟩)]]).run Tryz.prog w = .ok (.iface 197 (.agg #[.pointer (some ⟨6, 78, none⟩)])) w := by kernel_rfl
theorem nImpl (w : World) : (ReflectliteType.relation "Implements" ReflectliteType.implements_ #[.agg #[.pointer (some ⟨6, 78, none⟩)], .iface 197 (.agg #[.pointer (some ⟨6, 34, none⟩)])]).run Tryz.prog w = .ok (.bool true) w := by kernel_rfl
theorem nTypeOf (v : Value) (w : World) : (ReflectliteType.typeOf #[.iface 78 v]).run Tryz.prog w = .ok (.iface 197 (.agg #[.pointer (some ⟨6, 78, none⟩)])) w := by kernel_rfl
theorem nAssign (w : World) : (ReflectliteType.relation "AssignableTo" ReflectliteType.assignableTo #[.agg #[.pointer (some ⟨6, 78, none⟩)], .iface 197 (.agg #[.pointer (some ⟨6, 78, none⟩)])]).run Tryz.prog w = .ok (.bool true) w := by kernel_rfl
theorem nElemOf (w : World) : (Rtype.elem? 80).run Tryz.prog w = .ok (some 78) w := by kernel_rfl
theorem nMk (p : Addr) (w : World) : (ReflectliteValue.mk 78 p ReflectliteValue.flagAddr).run Tryz.prog w = .ok (.agg #[.pointer (some ⟨6, 78, none⟩), .pointer (some p), .int .u64 386]) w := by kernel_rfl
theorem nElemV (a p : Addr) (W : World) (ha : W.cell? a = some (.pointer (some p))) :
    (ReflectliteValue.method (ReflectliteValue.valueError "reflectlite.Value.Elem" 0) ReflectliteValue.elem #[.agg #[.pointer (some ⟨6, 80, none⟩), .pointer (some a), .int .u64 150]]).run Tryz.prog W
      = .ok (.agg #[.pointer (some ⟨6, 78, none⟩), .pointer (some p), .int .u64 386]) W := by
  rw [nMethod]
  simp only [Sem.run_bind, nPartsP, Result.andThen]
  simp [ReflectliteValue.elem, loadVar, isAgg, underlying, Tryz.underlying80, ha, Result.andThen, nElemOf, nMk]
theorem nPartsA (a : Addr) (w : World) : (ReflectliteValue.parts (.agg #[.pointer (some ⟨6, 78, none⟩), .pointer (some a), .int .u64 386])).run Tryz.prog w = .ok (some (78, a, 386)) w := by kernel_rfl
theorem nPartsE (a : Addr) (w : World) : (ReflectliteValue.parts (.agg #[.pointer (some ⟨6, 78, none⟩), .pointer (some a), .int .u64 130])).run Tryz.prog w = .ok (some (78, a, 130)) w := by kernel_rfl
theorem nDirect (w : World) : (Rtype.directlyAssignable 78 78).run Tryz.prog w = .ok true w := by kernel_rfl
theorem nLit1 (x y : Value) (h1 : (#[x, y] : Array Value).size = 2) (h2 : 1 < 2) : (#[x, y] : Array Value).getLit 1 h1 h2 = y := rfl
theorem nSet (ta b : Addr) (n : Int) (old : Value) (W : World) (hb : W.cell? b = some (.int .i64 n)) (ht : W.cell? ta = some old) (hf : W.frozen? ta = false) :
    (ReflectliteValue.set #[.agg #[.pointer (some ⟨6, 78, none⟩), .pointer (some ta), .int .u64 386], .agg #[.pointer (some ⟨6, 78, none⟩), .pointer (some b), .int .u64 130]]).run Tryz.prog W
      = .ok (.tuple #[]) (W.setCell ta (.int .i64 n)) := by
  change Sem.run _ (ReflectliteValue.parts (.agg #[.pointer (some ⟨6, 78, none⟩), .pointer (some ta), .int .u64 386]) >>= _) _ = _
  simp only [Sem.run_bind, nLit1, nPartsA, nPartsE, Result.andThen]
  simp [ReflectliteValue.flagAddr, loadVar, hb, Result.andThen, nDirect, storeVar, Value.cells, storeCells, Addr.add]
  rw [run_store Tryz.prog W ta _ _ (by rfl)]
  simp [ht, hf]
/-- the three blocks that errors.As makes, and the fourth -/
def asW (w : World) (t : Addr) (n : Int) : World :=
  (((w.alloc (.cells #[.pointer (some t)] 80)).alloc (.cells #[.pointer (some ⟨6, 80, none⟩), .pointer (some ⟨w.heap.size, 0, none⟩), .int .u64 150] 132)).alloc (.cells #[.pointer (some ⟨6, 80, none⟩), .pointer (some ⟨w.heap.size, 0, none⟩), .int .u64 150] 132)).alloc (.cells #[.int .i64 n] 78)
set_option maxHeartbeats 4000000 in
theorem as_hit (n : Int) (t : Addr) (old : Value) (w : World) (hg : ErrType w) (ht0 : w.cell? t = some old) (hf0 : w.frozen? t = false) :
    Calls Tryz.prog 44 #[.iface 78 (.int .i64 n), .iface 80 (.pointer (some t))] w fun ev w' => ev = .returned (.bool true) ∧ w' = (asW w t n).setCell t (.int .i64 n) := by
  unfold ErrType at hg
  unfold asW
  have h6 := @run_callFunc_extern Tryz.prog 94 _ (fun args => ReflectliteValue.unpack (args.getD 0 (.tuple #[]))) Tryz.func94 (by kernel_rfl) (by kernel_rfl) (by kernel_rfl) (by kernel_rfl)
  have h7 := @run_callFunc_extern Tryz.prog 95 _ (ReflectliteValue.methodAny (ReflectliteValue.valueError "reflectlite.Value.Type" 0) (fun t _ _ _ => ReflectliteType.toType t)) Tryz.func95 (by kernel_rfl) (by kernel_rfl) (by kernel_rfl) (by kernel_rfl)
  have h8 := @run_callFunc_extern Tryz.prog 96 _ (ReflectliteValue.method (ReflectliteValue.valueError "reflectlite.Value.IsNil" 0) ReflectliteValue.isNil) Tryz.func96 (by kernel_rfl) (by kernel_rfl) (by kernel_rfl) (by kernel_rfl)
  have h27 := @run_callFunc_extern Tryz.prog 217 _ (ReflectliteType.abiMethod fun t => do pure (.int .u8 (← Rtype.kind t))) Tryz.func217 (by kernel_rfl) (by kernel_rfl) (by kernel_rfl) (by kernel_rfl)
  have h37 := @run_callFunc_extern Tryz.prog 230 _ (ReflectliteType.method ReflectliteType.elem) Tryz.func230 (by kernel_rfl) (by kernel_rfl) (by kernel_rfl) (by kernel_rfl)
  have h38 := @run_callFunc_extern Tryz.prog 231 _ (ReflectliteType.relation "Implements" ReflectliteType.implements_) Tryz.func231 (by kernel_rfl) (by kernel_rfl) (by kernel_rfl) (by kernel_rfl)
  have h10 := @run_callFunc_extern Tryz.prog 141 _ ReflectliteType.typeOf Tryz.func141 (by kernel_rfl) (by kernel_rfl) (by kernel_rfl) (by kernel_rfl)
  have h35 := @run_callFunc_extern Tryz.prog 228 _ (ReflectliteType.relation "AssignableTo" ReflectliteType.assignableTo) Tryz.func228 (by kernel_rfl) (by kernel_rfl) (by kernel_rfl) (by kernel_rfl)
  have h11 := @run_callFunc_extern Tryz.prog 142 _ (ReflectliteValue.method (ReflectliteValue.valueError "reflectlite.Value.Elem" 0) ReflectliteValue.elem) Tryz.func142 (by kernel_rfl) (by kernel_rfl) (by kernel_rfl) (by kernel_rfl)
  have h12 := @run_callFunc_extern Tryz.prog 143 _ ReflectliteValue.set Tryz.func143 (by kernel_rfl) (by kernel_rfl) (by kernel_rfl) (by kernel_rfl)
  have tO := nTypeOf
  have mA := nMAssign 
  have aE := nAssign
  have vE := nNumOf
  have f6 := nPtrOf
  have f7 := nType
  have mK := nMKind 
  have mE := nMElem 
  have mI := nMImpl 
  have kP := nKindP
  have kE := nKindE
  have eP := nElem
  have iE := nImpl
  have n8 := nIsNil ⟨w.heap.size, 0, none⟩ t ((w.alloc (.cells #[.pointer (some t)] 80)).alloc (.cells #[.pointer (some ⟨6, 80, none⟩), .pointer (some ⟨w.heap.size, 0, none⟩), .int .u64 150] 132)) (by simp)
  have hlt : 0 < w.heap.size := World.block_lt_of_cell? w _ hg
  have hg2 : ((w.alloc (.cells #[.pointer (some t)] 80)).alloc (.cells #[.pointer (some ⟨6, 80, none⟩), .pointer (some ⟨w.heap.size, 0, none⟩), .int .u64 150] 132)).cell? ⟨0, 0, none⟩ = some (.iface 197 (.agg #[.pointer (some ⟨6, 34, none⟩)])) := by
    rw [World.cell?_alloc_lt _ _ ⟨0, 0, none⟩ (Nat.lt_of_lt_of_le hlt (by simp)), World.cell?_alloc_lt _ _ ⟨0, 0, none⟩ hlt]; exact hg
  have htl : t.block < w.heap.size := by
    rcases Nat.lt_or_ge t.block w.heap.size with h | h
    · exact h
    · simp [World.cell?, Array.getElem?_eq_none h] at ht0
  have el := nElemV ⟨w.heap.size, 0, none⟩ t (((w.alloc (.cells #[.pointer (some t)] 80)).alloc (.cells #[.pointer (some ⟨6, 80, none⟩), .pointer (some ⟨w.heap.size, 0, none⟩), .int .u64 150] 132)).alloc (.cells #[.pointer (some ⟨6, 80, none⟩), .pointer (some ⟨w.heap.size, 0, none⟩), .int .u64 150] 132)) (by rw [World.cell?_alloc_lt _ _ ⟨w.heap.size, 0, none⟩ (by simp; omega)]; simp)
  have st := nSet t ⟨w.heap.size + 1 + 1 + 1, 0, none⟩ n old ((((w.alloc (.cells #[.pointer (some t)] 80)).alloc (.cells #[.pointer (some ⟨6, 80, none⟩), .pointer (some ⟨w.heap.size, 0, none⟩), .int .u64 150] 132)).alloc (.cells #[.pointer (some ⟨6, 80, none⟩), .pointer (some ⟨w.heap.size, 0, none⟩), .int .u64 150] 132)).alloc (.cells #[.int .i64 n] 78))
    (by rw [World.cell?_alloc_at _ _ _ _ (by simp)]; rfl)
    (by rw [World.cell?_alloc_lt _ _ t (by simp; omega), World.cell?_alloc_lt _ _ t (by simp; omega), World.cell?_alloc_lt _ _ t (by simp; omega), World.cell?_alloc_lt _ _ t htl]; exact ht0)
    (by rw [World.frozen?_alloc_old _ _ t (by simp; omega), World.frozen?_alloc_old _ _ t (by simp; omega), World.frozen?_alloc_old _ _ t (by simp; omega), World.frozen?_alloc_old _ _ t (Nat.ne_of_lt htl)]; exact hf0)
  go_enter Tryz.func44, Tryz.ntmps44
  go_wp2
  refine wp_loop_rounds 1 ?_
  rw [rounds_succ]
  go_wp2
  go_ret
  exact ⟨rfl, rfl⟩
theorem asW_below (w : World) (t : Addr) (n : Int) : Below w.heap.size w (asW w t n) :=
  ((((Below.refl _ w).alloc (Nat.le_refl _) _).alloc (by simp) _).alloc (by simp; omega) _).alloc (by simp; omega) _
/-- an error's number -/
def numE : Option Nat → Int
  | none => 0
  | some n => n
theorem num_any (e : Option Nat) (w : World) (hg : ErrType w) :
    Calls Tryz.prog 6 #[errV e] w fun r w' => r = .returned (.int .i64 (numE e)) ∧ Below w.heap.size w w' := by
  cases e with
  | none =>
    show Calls Tryz.prog 6 #[.nilIface] w _
    go_enter Tryz.func6, Tryz.ntmps6
    go_wp2
    go_ret
    exact ⟨rfl, below_alloc w _⟩
  | some n =>
    show Calls Tryz.prog 6 #[.iface 78 (.int .i64 n)] w _
    have HB := Lib.hid (below_alloc w (.cells #[.int .i64 0] 78))
    have HE := Lib.hid (hg.below HB.out)
    have HA := Lib.hid (as_hit n ⟨w.heap.size, 0, none⟩ (.int .i64 0) (w.alloc (.cells #[.int .i64 0] 78)) HE.out (by rw [cell_of_row _ _ _ _ _ _ (heap_alloc_new w _)]; rfl) (frozen_of_row _ _ _ _ _ (heap_alloc_new w _)))
    have hb2 := asW_below (w.alloc (.cells #[.int .i64 0] 78)) ⟨w.heap.size, 0, none⟩ n
    have hh : (asW (w.alloc (.cells #[.int .i64 0] 78)) ⟨w.heap.size, 0, none⟩ n).heap[w.heap.size]? = some (.cells #[.int .i64 0] 78 (0, 0)) := (hb2.block _ (by simp)).trans (heap_alloc_new w _)
    have hc : ((asW (w.alloc (.cells #[.int .i64 0] 78)) ⟨w.heap.size, 0, none⟩ n).setCell ⟨w.heap.size, 0, none⟩ (.int .i64 n)).cell? ⟨w.heap.size, 0, none⟩ = some (.int .i64 n) := by
      have := heap_setCell_same _ w.heap.size 0 _ _ (.int .i64 n) hh
      rw [cell_of_row _ _ _ _ _ _ this]; rfl
    have HF := Lib.hid ((HB.out.trans (hb2.mono (by simp))).setCell (p := ⟨w.heap.size, 0, none⟩) (Nat.le_refl _) (.int .i64 (n : Int)))
    clear hb2 hh
    generalize (asW (w.alloc (.cells #[.int .i64 0] 78)) ⟨w.heap.size, 0, none⟩ n).setCell ⟨w.heap.size, 0, none⟩ (.int .i64 n) = w2 at *
    go_enter Tryz.func6, Tryz.ntmps6
    go_wp2_with (go_at_call 44; (with_reducible refine HA.out.mono ?_); rintro ev w3 ⟨rfl, rfl⟩)
    go_ret
    exact ⟨rfl, HF.out⟩
#print axioms num_any
end Go.Proofs.YteokgklfljhcaaaGreatDoor
namespace Go.Proofs.YteokgklfljhcaaaGreatDoor
set_option linter.unusedVariables false
set_option linter.unusedSimpArgs false
def tabL : List Nat := [0, 498536548, 997073096, 651767980, 1994146192, 1802195444, 1303535960, 1342533948, 3988292384, 4027552580, 3604390888, 3412177804, 2607071920, 2262029012, 2685067896, 3183342108]
def tabN (i : Nat) : Nat := tabL.getD i 0
/-- four bits -/
def nib (r : Nat) : Nat := r / 16 ^^^ tabN (r % 16)
/-- a byte -/
def byteS (r x : Nat) : Nat := nib (nib (r ^^^ x))
theorem bytesOk.cons {x : Int} {xs : List Int} (h : bytesOk (x :: xs)) : (0 ≤ x ∧ x < 256) ∧ bytesOk xs := ⟨h x (by simp), fun y hy => h y (by simp [hy])⟩
theorem bytesOk.append {xs ys : List Int} (h1 : bytesOk xs) (h2 : bytesOk ys) : bytesOk (xs ++ ys) := fun x hx => by
  rcases List.mem_append.1 hx with h | h
  · exact h1 x h
  · exact h2 x h
theorem bytesOk.take {xs : List Int} (h : bytesOk xs) (n : Nat) : bytesOk (xs.take n) := fun x hx => h x (List.mem_of_mem_take hx)
theorem bytesOk.drop {xs : List Int} (h : bytesOk xs) (n : Nat) : bytesOk (xs.drop n) := fun x hx => h x (List.mem_of_mem_drop hx)
theorem bytesOk.set {xs : List Int} (h : bytesOk xs) (i : Nat) (y : Int) (hy : 0 ≤ y ∧ y < 256) : bytesOk (xs.set i y) := fun x hx => by
  rcases List.mem_or_eq_of_mem_set hx with h1 | h1
  · exact h x h1
  · rw [h1]; exact hy
/-- the register behind xs -/
def regF (r : Nat) : List Int → Nat
  | [] => r
  | x :: xs => regF (byteS r x.toNat) xs
/-- the checksum -/
def crcF (xs : List Int) : Nat := 4294967295 ^^^ regF 4294967295 xs
/-- four bytes as a number -/
def rdW (xs : List Int) : Nat := (xs.getD 0 0).toNat * 16777216 + (xs.getD 1 0).toNat * 65536 + (xs.getD 2 0).toNat * 256 + (xs.getD 3 0).toNat
/-- what bytes begin with: an error, or a payload -/
def oneF (b : List Int) : Option Nat × List Int :=
  if b.length = 0 then (some 8, [])
  else if b.length < 8 then (some 12, [])
  else if rdW (b.drop 4) ≠ crcF (b.take 4) ∨ rdW b = 0 ∨ 1048576 < rdW b then (some 11, [])
  else if b.length < rdW b + 12 then (some 12, [])
  else if rdW (b.drop (rdW b + 8)) ≠ crcF ((b.take (rdW b + 8)).drop 8) then (some 11, [])
  else (none, (b.take (rdW b + 8)).drop 8)
end Go.Proofs.YteokgklfljhcaaaGreatDoor
namespace Go.Proofs.YteokgklfljhcaaaGreatDoor
set_option linter.unusedVariables false
set_option linter.unusedSimpArgs false
open Go.RowKit
set_option maxRecDepth 100000
theorem BytesIn.cell {w : World} {a : Option Addr} {n cap : Nat} {xs : List Int} (h : BytesIn w (.slice a n cap) xs) : n = xs.length ∧ (xs = [] ∨ ∃ ab ao, a = some ⟨ab, ao, none⟩ ∧ ∀ i x, xs[i]? = some x → w.cell? ⟨ab, ao + i, none⟩ = some (.int .u8 x)) := by
  obtain ⟨a', c', e, _, _, hx⟩ := h
  injection e with e1 e2 e3
  subst e1 e2
  exact ⟨rfl, hx⟩
end Go.Proofs.YteokgklfljhcaaaGreatDoor
namespace Go.Proofs.YteokgklfljhcaaaGreatDoor
set_option linter.unusedVariables false
set_option linter.unusedSimpArgs false
open Go.RowKit
set_option maxRecDepth 100000
theorem OwnOf.alloc {v v' : Value} {w : World} {o : Obj} (h : OwnOf v v' (w.alloc o)) : OwnOf v v' w := by
  rcases h with h | ⟨k, h1, h2⟩
  · exact .inl h
  · exact .inr ⟨k, h1, by simp at h2; omega⟩
end Go.Proofs.YteokgklfljhcaaaGreatDoor
namespace Go.Proofs.YteokgklfljhcaaaGreatDoor
set_option linter.unusedVariables false
set_option linter.unusedSimpArgs false
open Go.RowKit
set_option maxRecDepth 100000
end Go.Proofs.YteokgklfljhcaaaGreatDoor
namespace Go.Proofs.YteokgklfljhcaaaGreatDoor
set_option linter.unusedVariables false
set_option linter.unusedSimpArgs false
open Go.RowKit
set_option maxRecDepth 100000
theorem BytesIn.drewN {w : World} {y : Value} {ys : List Int} (h : BytesIn w y ys) (n : Nat) : BytesIn (w.drewN n) y ys := h
theorem BytesIn.from {w : World} {a : Option Addr} {n cap : Nat} {xs : List Int} (h : BytesIn w (.slice a n cap) xs) (p : Nat) (hp : p ≤ n) : BytesIn w (.slice (cutA a cap p) (n - p) (cap - p)) (xs.drop p) := by
  have h1 := h.cut p n hp (Nat.le_refl _)
  rw [List.take_of_length_le (by have := h.cell.1; omega)] at h1
  exact h1
theorem BytesIn.upto {w : World} {a : Option Addr} {n cap : Nat} {xs : List Int} (h : BytesIn w (.slice a n cap) xs) (q : Nat) (hq : q ≤ n) : BytesIn w (.slice (cutA a cap 0) q cap) (xs.take q) := h.cut 0 q (Nat.zero_le _) hq
end Go.Proofs.YteokgklfljhcaaaGreatDoor
namespace Go.Proofs.YteokgklfljhcaaaGreatDoor
set_option linter.unusedVariables false
set_option linter.unusedSimpArgs false
open Go.RowKit
set_option maxRecDepth 100000
def rdC (v : Value) (e : Int) : Array Value := #[v, .int .i64 e]
theorem rd_cells {w : World} {q : Nat} {v : Value} {e : Int} (h : w.heap[q]? = some (.cells (rdC v e) 104 (0, 0))) : w.cell? ⟨q, 0, none⟩ = some v ∧ w.cell? ⟨q, 1, none⟩ = some (.int .i64 e) ∧ ∀ i, w.frozen? ⟨q, i, none⟩ = false :=
  ⟨by rw [cell_of_row _ _ _ _ _ _ h]; rfl, by rw [cell_of_row _ _ _ _ _ _ h]; rfl, fun i => frozen_of_row _ _ _ _ _ h⟩
theorem rd_one (a : Option Addr) (n c : Nat) (e : Int) : (rdC (.slice a n c) e).all (·.oneCell') = true := by simp [rdC, Value.oneCell']
/-- two Readers: the argument's and the result's -/
structure R2M (w w' : World) (v : Value) (e : Int) : Prop where
  below : Below w.heap.size w w'
  arg : w'.heap[w.heap.size]? = some (.cells (rdC v e) 104 (0, 0))
  res : w'.heap[w.heap.size + 1]? = some (.cells (rdC (.slice none 0 0) 0) 104 (0, 0))
theorem r2M_start (w : World) (v : Value) (e : Int) : R2M w ((w.alloc (.cells (rdC v e) 104)).alloc (.cells (rdC (.slice none 0 0) 0) 104)) v e := by
  have h1 := heap_alloc_new w (.cells (rdC v e) 104)
  have hb := below_alloc (w.alloc (.cells (rdC v e) 104)) (.cells (rdC (.slice none 0 0) 0) 104)
  refine ⟨(below_alloc w _).trans (hb.mono (by simp)), (hb.block _ (by simp)).trans h1, ?_⟩
  have h2 := heap_alloc_new (w.alloc (.cells (rdC v e) 104)) (.cells (rdC (.slice none 0 0) 0) 104)
  rw [show (w.alloc (.cells (rdC v e) 104)).heap.size = w.heap.size + 1 by simp] at h2
  exact h2
theorem R2M.call {w w' w2 : World} {v : Value} {e : Int} (m : R2M w w' v e) (h : Below w'.heap.size w' w2) : R2M w w2 v e :=
  ⟨m.below.trans (h.mono m.below.size), (h.block _ (Array.getElem?_eq_some_iff.1 m.arg).1).trans m.arg, (h.block _ (Array.getElem?_eq_some_iff.1 m.res).1).trans m.res⟩
/-- the argument's error or its slice is written -/
theorem R2M.set {w w' : World} {v v' : Value} {e e' : Int} (m : R2M w w' v e) (i : Nat) (x : Value) (hx : (rdC v e).setIfInBounds i x = rdC v' e') : R2M w (w'.setCell ⟨w.heap.size, i, none⟩ x) v' e' := by
  have hO := Only.setCell w' ⟨w.heap.size, i, none⟩ x
  exact ⟨m.below.trans (hO.below (Nat.le_refl _) m.below.size), by rw [heap_setCell_same w' _ i _ _ _ m.arg, hx], (hO.block _ (Array.getElem?_eq_some_iff.1 m.res).1 (by show _ ≠ w.heap.size; omega)).trans m.res⟩
theorem rfail_any (a : Option Addr) (n c : Nat) (e x : Int) (w : World) : Calls Tryz.prog 160 #[.agg (rdC (.slice a n c) e), .int .i64 x] w fun r w' => r = .returned (.agg (rdC (.slice a n c) (if e = 0 then x else e))) ∧ Below w.heap.size w w' := by
  have M := Lib.hid (r2M_start w (.slice a n c) e)
  by_cases h0 : e = 0
  · rw [if_pos h0]
    have he : (e == 0) = true := by simpa using h0
    clear h0
    go_enter Tryz.func160, Tryz.ntmps160
    go_upto_region 1 with (fail)
    have e0 : (w.alloc (.cells (rdC (.slice a n c) e) 104)).alloc (.cells (rdC (.slice none 0 0) 0) 104) = (w.alloc (.cells (rdC (.slice a n c) e) 104)).alloc (.cells #[.slice none 0 0, .int .i64 0] 104) := rfl
    rw [← e0]; clear e0
    generalize (w.alloc (.cells (rdC (.slice a n c) e) 104)).alloc (.cells (rdC (.slice none 0 0) 0) 104) = w1 at *
    obtain ⟨c0, c1, cf⟩ := rd_cells M.out.arg
    have f1 := cf 1
    go_upto_region 3 with (fail)
    replace M := Lib.hid (M.out.set 1 (.int .i64 x) (v' := .slice a n c) (e' := x) rfl)
    clear c0 c1 cf f1
    generalize w1.setCell ⟨w.heap.size, 1, none⟩ (.int .i64 x) = w2 at *
    go_wp2_with (first
      | (refine wpList_load_row rfl 104 (.tmp 2) rfl w.heap.size rfl 104 _ (0, 0) _ M.out.arg Tryz.underlying104 rfl (by kernel_rfl) ?_)
      | (refine wpList_store_row rfl 104 (.tmp 4) (.tmp 10) rfl (w.heap.size + 1) _ rfl rfl 104 _ M.out.res (by kernel_rfl) (by rfl) (rd_one _ _ _ _) ?_))
    refine bodyPost_ret (results_cell_row rfl _ _ (w.heap.size + 1) 104 (rdC (.slice a n c) x) (0, 0) _ rfl (setRow_heap _ _ _ _ _ _ M.out.res) Tryz.underlying104 rfl (by kernel_rfl)) rfl ?_
    exact ⟨rfl, below_setRow M.out.below (by omega) _⟩
  · rw [if_neg h0]
    have he : (e == 0) = false := by simpa using h0
    clear h0
    go_enter Tryz.func160, Tryz.ntmps160
    go_upto_region 1 with (fail)
    have e0 : (w.alloc (.cells (rdC (.slice a n c) e) 104)).alloc (.cells (rdC (.slice none 0 0) 0) 104) = (w.alloc (.cells (rdC (.slice a n c) e) 104)).alloc (.cells #[.slice none 0 0, .int .i64 0] 104) := rfl
    rw [← e0]; clear e0
    generalize (w.alloc (.cells (rdC (.slice a n c) e) 104)).alloc (.cells (rdC (.slice none 0 0) 0) 104) = w1 at *
    obtain ⟨c0, c1, cf⟩ := rd_cells M.out.arg
    go_wp2_with (first
      | (refine wpList_load_row rfl 104 (.tmp 2) rfl w.heap.size rfl 104 _ (0, 0) _ M.out.arg Tryz.underlying104 rfl (by kernel_rfl) ?_)
      | (refine wpList_store_row rfl 104 (.tmp 4) (.tmp 10) rfl (w.heap.size + 1) _ rfl rfl 104 _ M.out.res (by kernel_rfl) (by rfl) (rd_one _ _ _ _) ?_))
    refine bodyPost_ret (results_cell_row rfl _ _ (w.heap.size + 1) 104 (rdC (.slice a n c) e) (0, 0) _ rfl (setRow_heap _ _ _ _ _ _ M.out.res) Tryz.underlying104 rfl (by kernel_rfl)) rfl ?_
    exact ⟨rfl, below_setRow M.out.below (by omega) _⟩
end Go.Proofs.YteokgklfljhcaaaGreatDoor
namespace Go.Proofs.YteokgklfljhcaaaGreatDoor
set_option linter.unusedVariables false
set_option linter.unusedSimpArgs false
open Go.RowKit
theorem results_cell_tmp_row {P : Program} {fn : Func} {p u : Tmp} {ty : TypeId} (h : fn.results = #[.cell p ty, .tmp u]) (tmps : Array Value) (w : World) (g : Nat) (t : TypeId) (cs : Array Value) (fr : Nat × Nat) (d : TypeDesc)
    (hp : tmps.getD p undef = .pointer (some ⟨g, 0, none⟩)) (hg : w.heap[g]? = some (.cells cs t fr))
    (hu : P.underlying ty = some d) (hd : (match d with | .struct _ | .array _ _ => true | _ => false) = true) (hi : (P.info? ty).map (·.size) = some cs.size) :
    (results fn tmps).run P w = .ok (.tuple #[.agg cs, tmps.getD u undef]) w := by
  have hp' : tmps[p]?.getD undef = .pointer (some ⟨g, 0, none⟩) := by simpa using hp
  simp [results, h, hp', asAddr, run_loadVar_row w g t ty cs fr d hg hu hd hi]
end Go.Proofs.YteokgklfljhcaaaGreatDoor
namespace Go.Proofs.YteokgklfljhcaaaGreatDoor
set_option linter.unusedVariables false
set_option linter.unusedSimpArgs false
open Go.RowKit
set_option maxRecDepth 100000
def iV : Nat → Int
  | 0 => -1
  | s + 1 => (s : Int)
theorem r2_zero : (rdC (.slice none 0 0) 0) = #[.slice none 0 0, .int .i64 0] := rfl
end Go.Proofs.YteokgklfljhcaaaGreatDoor
