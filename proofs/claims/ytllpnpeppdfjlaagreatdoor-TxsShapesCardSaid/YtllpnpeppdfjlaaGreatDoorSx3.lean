/- Part 3 of the proof. -/
import Derived.OrdersHeld
import Derived.LaidEql
import Derived.Stop.Asserts
import Derived.RowKitTokens
import Derived.StillTailTactics
import Derived.Deep.QuietTactic
import Derived.BigQuiet
import Derived.Deep.MidRow
import Derived.Laws.CopyOwn
import Derived.Deep.WholeRow
import Derived.Lib.SliceRun
import Derived.Deep.CutRange
import Derived.Deep.RegionWith
import Derived.Laws.CopyRow
import Derived.Deep.RegionHeld3
import Derived.Great.BuildSlice
import Derived.Test.YtllpnpeppdfjlaaGreatDoorSx1
import Derived.Test.YtllpnpeppdfjlaaGreatDoorSx2
namespace Go.Proofs.YtllpnpeppdfjlaaGreatDoor
set_option linter.unusedVariables false
set_option linter.unusedSimpArgs false
section
variable {P : Program} {ops : Array Oper} {Q : Exit → Act → World → Prop} {md : Region.Mode} {S : World → Prop} {ds : List Nat}
def anyT (P : Program) (md : Region.Mode) (ops : Array Oper) (Q : Exit → Act → World → Prop) (S : World → Prop) (ds : List Nat) : Nat → Array Bool → Act → World → Prop
  | 0, l, a, w => Region.ready md ops l = [] ∧ Q .normal a w
  | f + 1, l, a, w => (Region.ready md ops l = [] → Q .normal a w) ∧ ∀ i ∈ Region.ready md ops l, wpOp P ops Q i (fun a' w' => (ds.contains i = true → S w') ∧ anyT P md ops Q S ds f (l.setIfInBounds i true) a' w') a w
theorem any_of_T : ∀ (f : Nat) (l : Array Bool) (a : Act) (w : World), anyT P md ops Q S ds f l a w → wpAny P md ops Q f l a w
  | 0, _, _, _, h => h
  | f + 1, _, _, _, h => ⟨h.1, fun i hi => wpOp_mono (fun a' w' h' => any_of_T f _ a' w' h'.2) (h.2 i hi)⟩
theorem unlisted {l : Array Bool} {i : Nat} (h0 : l.getD i true = false) : l.getD i false = false := by
  rcases Nat.lt_or_ge i l.size with h' | h'
  · simp [h'] at h0 ⊢; exact h0
  · simp [Array.getElem?_eq_none h']
/-- ks: operations that come behind i; each operation that is not listed, not of ds and not i is one of them -/
def waitsB (md : Region.Mode) (ops : Array Oper) (ds ks : List Nat) (l : Array Bool) (i : Nat) : Bool :=
  (ks.all fun k => !l.getD k false && (((ops[k]?).map fun o => o.after.any fun e => Region.binds md e && (e.on == i || ks.contains e.on)).getD false)) && (List.range l.size).all fun j => l.getD j true || j == i || ds.contains j || ks.contains j
theorem waitsB_spec {ks : List Nat} {l : Array Bool} {i : Nat} (h : waitsB md ops ds ks l i = true) :
    (∀ j oj, ops[j]? = some oj → ks.contains j = true → ∃ e ∈ oj.after, Region.binds md e = true ∧ (e.on = i ∨ ks.contains e.on = true)) ∧ (∀ k, ks.contains k = true → l.getD k false = false) ∧
    (∀ j, j ≠ i → l.getD j true = false → ¬ ks.contains j = true → ds.contains j = true) := by
  obtain ⟨h1, h2⟩ := Bool.and_eq_true _ _ |>.mp h
  refine ⟨fun j oj hj hk => ?_, fun k hk => ?_, fun j hj hun hK => ?_⟩
  · have h3 := List.all_eq_true.1 h1 j (by simpa using hk)
    rw [hj] at h3
    simp only [Option.map_some, Option.getD_some, Bool.and_eq_true] at h3
    obtain ⟨e, he, hb⟩ := Array.any_eq_true'.1 h3.2
    simp only [Bool.and_eq_true, Bool.or_eq_true, beq_iff_eq] at hb
    exact ⟨e, he, hb.1, hb.2⟩
  · have h3 := List.all_eq_true.1 h1 k (by simpa using hk)
    simp only [Bool.and_eq_true, Bool.not_eq_true'] at h3
    exact h3.1
  · have hlt : j < l.size := by
      rcases Nat.lt_or_ge j l.size with h' | h'
      · exact h'
      · simp [Array.getElem?_eq_none h'] at hun
    have h3 := List.all_eq_true.1 h2 j (List.mem_range.2 hlt)
    rw [hun, beq_false_of_ne hj] at h3
    cases hc : ks.contains j
    · rw [hc] at h3; simpa using h3
    · exact absurd hc hK
theorem anyT_first {i : Nat} {oi : Oper} {v : Value} {B : Nat → Prop} (hi : ops[i]? = some oi) (hsel : ∀ (j : Nat) (o : Oper) cs b, ops[j]? = some o → o.op ≠ .select cs b)
    (hQ : ∀ c a w, Q (.panic c) (a.put oi.dst v) w → Q (.panic c) a w) (hT : ∀ j oj, ops[j]? = some oj → B j → ∃ e ∈ oj.after, Region.binds md e = true ∧ (e.on = i ∨ B e.on)) :
    ∀ (f : Nat) (l : Array Bool) (a : Act) (w : World),
      (∀ j oj, ops[j]? = some oj → j ≠ i → l.getD j true = false → (∀ e ∈ oj.after, Region.binds md e = true → e.on ≠ i) → oi.apart ops oj = true) →
      (∀ k, B k → l.getD k false = false) → (∀ j, j ≠ i → l.getD j true = false → ¬ B j → ds.contains j = true) → i ∈ Region.ready md ops l → YieldsIf P ops S oi v a → S w →
      anyT P md ops Q S ds f (l.setIfInBounds i true) (a.put oi.dst v) w → anyT P md ops Q S ds (f + 1) l a w := by
  intro f
  induction f with
  | zero =>
    intro l a w _ _ _ hr hy hS H
    refine ⟨fun h => (by rw [h] at hr; cases hr), fun j hj => ?_⟩
    by_cases hji : j = i
    · subst hji; exact hy.wpOp hi hS ⟨fun _ => hS, H⟩
    · have := ready_mono hj hji
      rw [H.1] at this
      cases this
  | succ f ih =>
    intro l a w hfree hU hD hr hy hS H
    refine ⟨fun h => (by rw [h] at hr; cases hr), fun j hj => ?_⟩
    by_cases hji : j = i
    · subst hji; exact hy.wpOp hi hS ⟨fun _ => hS, H⟩
    · have h1 := H.2 j (ready_mono hj hji)
      obtain ⟨hjun, oj, hoj, hall⟩ := mem_ready.1 hj
      have hin : l.getD i false = false := unlisted (mem_ready.1 hr).1
      have hnot : ∀ e ∈ oj.after, Region.binds md e = true → e.on ≠ i := fun e he hb heq => by
        have h1 := hall e he hb
        rw [heq, hin] at h1; cases h1
      have hjB : ¬ B j := fun hB => by
        obtain ⟨e, he, hb, h2⟩ := hT j oj hoj hB
        have h3 := hall e he hb
        rcases h2 with h2 | h2
        · rw [h2, hin] at h3; cases h3
        · rw [hU e.on h2] at h3; cases h3
      have h2 := wpOp_putIf hoj (hfree j oj hoj hji hjun hnot) (fun cs b => hsel i oi cs b hi) (fun cs b => hsel j oj cs b hoj) hQ hy h1
      have back : ∀ {k : Nat}, (l.setIfInBounds j true).getD k true = false → l.getD k true = false := fun {k} hun => by
        by_cases hjk : j = k
        · subst hjk; exact hjun
        · rw [getD_set_ne true hjk] at hun; exact hun
      have hU' : ∀ k, B k → (l.setIfInBounds j true).getD k false = false := fun k hk => by
        rw [getD_set_ne false (fun e => hjB (by rw [e]; exact hk) : j ≠ k)]; exact hU k hk
      refine wpOp_mono (fun a' w' h3 => ⟨h3.2.1, ih (l.setIfInBounds j true) a' w' (fun k ok hk hki hun hno => hfree k ok hk hki (back hun) hno) hU' (fun k hk hun hB => hD k hk (back hun) hB) (ready_mono hr (Ne.symm hji)) h3.1 (h3.2.1 (hD j hji hjun hjB)) ?_⟩) h2
      rw [Array.setIfInBounds_comm _ _ hji]
      exact h3.2.2
theorem anyT_take (ks : List Nat) {i : Nat} {oi : Oper} {v : Value} {f : Nat} {l : Array Bool} {a : Act} {w : World} (hi : ops[i]? = some oi)
    (hs : Region.noSelect ops = true) (hf : Region.free md ops l i = true) (hr : (Region.ready md ops l).contains i = true)
    (hQ : ∀ c a w, Q (.panic c) (a.put oi.dst v) w → Q (.panic c) a w) (hT : waitsB md ops ds ks l i = true) (hy : YieldsIf P ops S oi v a) (hS : S w)
    (h : anyT P md ops Q S ds f (l.setIfInBounds i true) (a.put oi.dst v) w) : anyT P md ops Q S ds (f + 1) l a w :=
  anyT_first (B := fun j => ks.contains j = true) hi (Region.noSelect_spec hs) hQ (waitsB_spec hT).1 f l a w (Region.free_spec hi hf)
    (waitsB_spec hT).2.1 (waitsB_spec hT).2.2 (by simpa using hr) hy hS h
theorem anyT_one {i : Nat} {o : Oper} {f : Nat} {l : Array Bool} {a : Act} {w : World} (hr : Region.ready md ops l = [i]) (ho : ops[i]? = some o)
    (h : ∀ K' : Act → World → Prop, (∀ a w, (ds.contains i = true → S w) → anyT P md ops Q S ds f (l.setIfInBounds i true) a w → K' a w) → if Region.wanted o (yielded ops a.tmps) = true then Oper.wp P o a w K' Q else K' (a.put o.dst undef) w) : anyT P md ops Q S ds (f + 1) l a w :=
  ⟨fun h0 => by rw [hr] at h0; (cases h0), fun j hj => by
    rw [hr] at hj
    obtain rfl := List.mem_singleton.1 hj
    exact wpOp_step ho fun K' hK => h K' fun a w hS hW => hK a w ⟨hS, hW⟩⟩
theorem anyT_done {l : Array Bool} {a : Act} {w : World} (hr : Region.ready md ops l = []) (h : Q .normal a w) : ∀ f, anyT P md ops Q S ds f l a w
  | 0 => ⟨hr, h⟩
  | _ + 1 => ⟨fun _ => h, by rw [hr]; simp⟩
theorem wp_region_T (S : World → Prop) (ds : List Nat) {id : Nat} {a : Act} {w : World} (hm : P.follows .mixedOrders = true)
    (h : anyT P .any ops Q S ds ops.size (Array.replicate ops.size false) a w.drew) : (Code.region id ops true).wp P Q a w :=
  wp_region_any hm (any_of_T _ _ _ _ h)
end
end Go.Proofs.YtllpnpeppdfjlaaGreatDoor
namespace Go.Proofs.YtllpnpeppdfjlaaGreatDoor
set_option linter.unusedVariables false
set_option linter.unusedSimpArgs false
open Go.RowKit Go.Extern.Stop Go.Stop Go.Extern
set_option maxRecDepth 100000
/-- the package-level variable errors.errorType, as it is laid -/
def ErrType (w : World) : Prop := w.cell? ⟨1, 0, none⟩ = some (.iface 276 (.agg #[.pointer (some ⟨8, 29, none⟩)]))
theorem ErrType.below {w w' : World} (h : ErrType w) (hb : Below w.heap.size w w') : ErrType w' := (hb.cell (World.block_lt_of_cell? w _ h)).trans h
theorem ErrType.only {p : Nat} {w w' : World} (h : ErrType w) (ho : Only p w w') (hp : 1 < p) : ErrType w' := ho.cell h (show 1 ≠ p by omega)
theorem nPtrOf (t : Addr) (w : World) : (ReflectliteValue.unpack (.iface 145 (.pointer (some t)))).run Tryz.prog w
    = .ok (.agg #[.pointer (some ⟨8, 145, none⟩), .pointer (some ⟨w.heap.size, 0, none⟩), .int .u64 150]) (w.alloc (.cells #[.pointer (some t)] 145)) := by kernel_rfl
theorem nNumOf (n : Int) (w : World) : (ReflectliteValue.unpack (.iface 114 (.int .i64 n))).run Tryz.prog w
    = .ok (.agg #[.pointer (some ⟨8, 114, none⟩), .pointer (some ⟨w.heap.size, 0, none⟩), .int .u64 130]) (w.alloc (.cells #[.int .i64 n] 114)) := by kernel_rfl
theorem nType (a : Addr) (w : World) : (ReflectliteValue.methodAny (ReflectliteValue.valueError "reflectlite.Value.Type" 0) (fun t _ _ _ => ReflectliteType.toType t) #[.agg #[.pointer (some ⟨8, 145, none⟩), .pointer (some a), .int .u64 150]]).run Tryz.prog w
    = .ok (.iface 276 (.agg #[.pointer (some ⟨8, 145, none⟩)])) w := by kernel_rfl
theorem nKindP (w : World) : ((ReflectliteType.abiMethod fun t => (fun a : Nat => Value.int IntKind.u8 (a : Int)) <$> Rtype.kind t) #[.pointer (some ⟨8, 145, none⟩)]).run Tryz.prog w = .ok (.int .u8 22) w := by kernel_rfl
theorem nKindE (w : World) : ((ReflectliteType.abiMethod fun t => (fun a : Nat => Value.int IntKind.u8 (a : Int)) <$> Rtype.kind t) #[.pointer (some ⟨8, 114, none⟩)]).run Tryz.prog w = .ok (.int .u8 2) w := by kernel_rfl
theorem nMethod (z : Sem Value) (f : TypeId → Addr → Nat → Nat → Sem Value) (v : Value) :
    ReflectliteValue.method z f #[v] = (do match ← ReflectliteValue.parts v with | none => z | some (t, a, fl) => f t a fl (fl % 32)) := rfl
theorem nPartsP (a : Addr) (w : World) : (ReflectliteValue.parts (.agg #[.pointer (some ⟨8, 145, none⟩), .pointer (some a), .int .u64 150])).run Tryz.prog w = .ok (some (145, a, 150)) w := by kernel_rfl
theorem nIsNil (a p : Addr) (W : World) (ha : W.cell? a = some (.pointer (some p))) :
    (ReflectliteValue.method (ReflectliteValue.valueError "reflectlite.Value.IsNil" 0) ReflectliteValue.isNil #[.agg #[.pointer (some ⟨8, 145, none⟩), .pointer (some a), .int .u64 150]]).run Tryz.prog W = .ok (.bool false) W := by
  rw [nMethod]
  simp only [Sem.run_bind, nPartsP, Result.andThen]
  simp [ReflectliteValue.isNil, loadVar, isAgg, underlying, Tryz.underlying145, ha, Result.andThen]
theorem nMKind (m : Nat) (h : Value) (w : World) : (Go.method (m + 1) 276 (.agg #[h]) "Kind").run Tryz.prog w = .ok (295, h) w := by kernel_rfl
theorem nMElem (m : Nat) (h : Value) (w : World) : (Go.method (m + 1) 276 (.agg #[h]) "Elem").run Tryz.prog w = .ok (307, .agg #[h]) w := by kernel_rfl
theorem nMImpl (m : Nat) (h : Value) (w : World) : (Go.method (m + 1) 276 (.agg #[h]) "Implements").run Tryz.prog w = .ok (308, .agg #[h]) w := by kernel_rfl
theorem nMAssign (m : Nat) (h : Value) (w : World) : (Go.method (m + 1) 276 (.agg #[h]) "AssignableTo").run Tryz.prog w = .ok (305, .agg #[h]) w := by kernel_rfl
theorem nElem (w : World) : (ReflectliteType.method ReflectliteType.elem #[.agg #[.pointer (some ⟨8, 145, none⟩)]]).run Tryz.prog w = .ok (.iface 276 (.agg #[.pointer (some ⟨8, 114, none⟩)])) w := by kernel_rfl
theorem nImpl (w : World) : (ReflectliteType.relation "Implements" ReflectliteType.implements_ #[.agg #[.pointer (some ⟨8, 114, none⟩)], .iface 276 (.agg #[.pointer (some ⟨8, 29, none⟩)])]).run Tryz.prog w = .ok (.bool true) w := by kernel_rfl
theorem nTypeOf (v : Value) (w : World) : (ReflectliteType.typeOf #[.iface 114 v]).run Tryz.prog w = .ok (.iface 276 (.agg #[.pointer (some ⟨8, 114, none⟩)])) w := by kernel_rfl
theorem nAssign (w : World) : (ReflectliteType.relation "AssignableTo" ReflectliteType.assignableTo #[.agg #[.pointer (some ⟨8, 114, none⟩)], .iface 276 (.agg #[.pointer (some ⟨8, 114, none⟩)])]).run Tryz.prog w = .ok (.bool true) w := by kernel_rfl
theorem nElemOf (w : World) : (Rtype.elem? 145).run Tryz.prog w = .ok (some 114) w := by kernel_rfl
theorem nMk (p : Addr) (w : World) : (ReflectliteValue.mk 114 p ReflectliteValue.flagAddr).run Tryz.prog w = .ok (.agg #[.pointer (some ⟨8, 114, none⟩), .pointer (some p), .int .u64 386]) w := by kernel_rfl
theorem nElemV (a p : Addr) (W : World) (ha : W.cell? a = some (.pointer (some p))) :
    (ReflectliteValue.method (ReflectliteValue.valueError "reflectlite.Value.Elem" 0) ReflectliteValue.elem #[.agg #[.pointer (some ⟨8, 145, none⟩), .pointer (some a), .int .u64 150]]).run Tryz.prog W
      = .ok (.agg #[.pointer (some ⟨8, 114, none⟩), .pointer (some p), .int .u64 386]) W := by
  rw [nMethod]
  simp only [Sem.run_bind, nPartsP, Result.andThen]
  simp [ReflectliteValue.elem, loadVar, isAgg, underlying, Tryz.underlying145, ha, Result.andThen, nElemOf, nMk]
theorem nPartsA (a : Addr) (w : World) : (ReflectliteValue.parts (.agg #[.pointer (some ⟨8, 114, none⟩), .pointer (some a), .int .u64 386])).run Tryz.prog w = .ok (some (114, a, 386)) w := by kernel_rfl
theorem nPartsE (a : Addr) (w : World) : (ReflectliteValue.parts (.agg #[.pointer (some ⟨8, 114, none⟩), .pointer (some a), .int .u64 130])).run Tryz.prog w = .ok (some (114, a, 130)) w := by kernel_rfl
theorem nDirect (w : World) : (Rtype.directlyAssignable 114 114).run Tryz.prog w = .ok true w := by kernel_rfl
theorem nLit1 (x y : Value) (h1 : (#[x, y] : Array Value).size = 2) (h2 : 1 < 2) : (#[x, y] : Array Value).getLit 1 h1 h2 = y := rfl
theorem nSet (ta b : Addr) (n : Int) (old : Value) (W : World) (hb : W.cell? b = some (.int .i64 n)) (ht : W.cell? ta = some old) (hf : W.frozen? ta = false) :
    (ReflectliteValue.set #[.agg #[.pointer (some ⟨8, 114, none⟩), .pointer (some ta), .int .u64 386], .agg #[.pointer (some ⟨8, 114, none⟩), .pointer (some b), .int .u64 130]]).run Tryz.prog W
      = .ok (.tuple #[]) (W.setCell ta (.int .i64 n)) := by
  change Sem.run _ (ReflectliteValue.parts (.agg #[.pointer (some ⟨8, 114, none⟩), .pointer (some ta), .int .u64 386]) >>= _) _ = _
  simp only [Sem.run_bind, nLit1, nPartsA, nPartsE, Result.andThen]
  simp [ReflectliteValue.flagAddr, loadVar, hb, Result.andThen, nDirect, storeVar, Value.cells, storeCells, Addr.add]
  rw [run_store Tryz.prog W ta _ _ (by rfl)]
  simp [ht, hf]
/-- the three blocks that errors.As makes, and the fourth -/
def asW (w : World) (t : Addr) (n : Int) : World :=
  (((w.alloc (.cells #[.pointer (some t)] 145)).alloc (.cells #[.pointer (some ⟨8, 145, none⟩), .pointer (some ⟨w.heap.size, 0, none⟩), .int .u64 150] 200)).alloc (.cells #[.pointer (some ⟨8, 145, none⟩), .pointer (some ⟨w.heap.size, 0, none⟩), .int .u64 150] 200)).alloc (.cells #[.int .i64 n] 114)
set_option maxHeartbeats 4000000 in
theorem as_hit (n : Int) (t : Addr) (old : Value) (w : World) (hg : ErrType w) (ht0 : w.cell? t = some old) (hf0 : w.frozen? t = false) :
    Calls Tryz.prog 74 #[.iface 114 (.int .i64 n), .iface 145 (.pointer (some t))] w fun ev w' => ev = .returned (.bool true) ∧ w' = (asW w t n).setCell t (.int .i64 n) := by
  unfold ErrType at hg
  unfold asW
  have h6 := @run_callFunc_extern Tryz.prog 125 _ (fun args => ReflectliteValue.unpack (args.getD 0 (.tuple #[]))) Tryz.func125 (by kernel_rfl) (by kernel_rfl) (by kernel_rfl) (by kernel_rfl)
  have h7 := @run_callFunc_extern Tryz.prog 126 _ (ReflectliteValue.methodAny (ReflectliteValue.valueError "reflectlite.Value.Type" 0) (fun t _ _ _ => ReflectliteType.toType t)) Tryz.func126 (by kernel_rfl) (by kernel_rfl) (by kernel_rfl) (by kernel_rfl)
  have h8 := @run_callFunc_extern Tryz.prog 127 _ (ReflectliteValue.method (ReflectliteValue.valueError "reflectlite.Value.IsNil" 0) ReflectliteValue.isNil) Tryz.func127 (by kernel_rfl) (by kernel_rfl) (by kernel_rfl) (by kernel_rfl)
  have h27 := @run_callFunc_extern Tryz.prog 295 _ (ReflectliteType.abiMethod fun t => do pure (.int .u8 (← Rtype.kind t))) Tryz.func295 (by kernel_rfl) (by kernel_rfl) (by kernel_rfl) (by kernel_rfl)
  have h37 := @run_callFunc_extern Tryz.prog 307 _ (ReflectliteType.method ReflectliteType.elem) Tryz.func307 (by kernel_rfl) (by kernel_rfl) (by kernel_rfl) (by kernel_rfl)
  have h38 := @run_callFunc_extern Tryz.prog 308 _ (ReflectliteType.relation "Implements" ReflectliteType.implements_) Tryz.func308 (by kernel_rfl) (by kernel_rfl) (by kernel_rfl) (by kernel_rfl)
  have h10 := @run_callFunc_extern Tryz.prog 158 _ ReflectliteType.typeOf Tryz.func158 (by kernel_rfl) (by kernel_rfl) (by kernel_rfl) (by kernel_rfl)
  have h35 := @run_callFunc_extern Tryz.prog 305 _ (ReflectliteType.relation "AssignableTo" ReflectliteType.assignableTo) Tryz.func305 (by kernel_rfl) (by kernel_rfl) (by kernel_rfl) (by kernel_rfl)
  have h11 := @run_callFunc_extern Tryz.prog 191 _ (ReflectliteValue.method (ReflectliteValue.valueError "reflectlite.Value.Elem" 0) ReflectliteValue.elem) Tryz.func191 (by kernel_rfl) (by kernel_rfl) (by kernel_rfl) (by kernel_rfl)
  have h12 := @run_callFunc_extern Tryz.prog 192 _ ReflectliteValue.set Tryz.func192 (by kernel_rfl) (by kernel_rfl) (by kernel_rfl) (by kernel_rfl)
  have tO := nTypeOf
  have mA := nMAssign 
  have aE := nAssign
  have vE := nNumOf
  have f6 := nPtrOf
  have f7 := nType
  have mK := nMKind 
  have mE := nMElem 
  have mI := nMImpl 
  have kP := nKindP
  have kE := nKindE
  have eP := nElem
  have iE := nImpl
  have n8 := nIsNil ⟨w.heap.size, 0, none⟩ t ((w.alloc (.cells #[.pointer (some t)] 145)).alloc (.cells #[.pointer (some ⟨8, 145, none⟩), .pointer (some ⟨w.heap.size, 0, none⟩), .int .u64 150] 200)) (by simp)
  have hlt : 1 < w.heap.size := World.block_lt_of_cell? w _ hg
  have hg2 : ((w.alloc (.cells #[.pointer (some t)] 145)).alloc (.cells #[.pointer (some ⟨8, 145, none⟩), .pointer (some ⟨w.heap.size, 0, none⟩), .int .u64 150] 200)).cell? ⟨1, 0, none⟩ = some (.iface 276 (.agg #[.pointer (some ⟨8, 29, none⟩)])) := by
    rw [World.cell?_alloc_lt _ _ ⟨1, 0, none⟩ (Nat.lt_of_lt_of_le hlt (by simp)), World.cell?_alloc_lt _ _ ⟨1, 0, none⟩ hlt]; exact hg
  have htl : t.block < w.heap.size := by
    rcases Nat.lt_or_ge t.block w.heap.size with h | h
    · exact h
    · simp [World.cell?, Array.getElem?_eq_none h] at ht0
  have el := nElemV ⟨w.heap.size, 0, none⟩ t (((w.alloc (.cells #[.pointer (some t)] 145)).alloc (.cells #[.pointer (some ⟨8, 145, none⟩), .pointer (some ⟨w.heap.size, 0, none⟩), .int .u64 150] 200)).alloc (.cells #[.pointer (some ⟨8, 145, none⟩), .pointer (some ⟨w.heap.size, 0, none⟩), .int .u64 150] 200)) (by rw [World.cell?_alloc_lt _ _ ⟨w.heap.size, 0, none⟩ (by simp; omega)]; simp)
  have st := nSet t ⟨w.heap.size + 1 + 1 + 1, 0, none⟩ n old ((((w.alloc (.cells #[.pointer (some t)] 145)).alloc (.cells #[.pointer (some ⟨8, 145, none⟩), .pointer (some ⟨w.heap.size, 0, none⟩), .int .u64 150] 200)).alloc (.cells #[.pointer (some ⟨8, 145, none⟩), .pointer (some ⟨w.heap.size, 0, none⟩), .int .u64 150] 200)).alloc (.cells #[.int .i64 n] 114))
    (by rw [World.cell?_alloc_at _ _ _ _ (by simp)]; rfl)
    (by rw [World.cell?_alloc_lt _ _ t (by simp; omega), World.cell?_alloc_lt _ _ t (by simp; omega), World.cell?_alloc_lt _ _ t (by simp; omega), World.cell?_alloc_lt _ _ t htl]; exact ht0)
    (by rw [World.frozen?_alloc_old _ _ t (by simp; omega), World.frozen?_alloc_old _ _ t (by simp; omega), World.frozen?_alloc_old _ _ t (by simp; omega), World.frozen?_alloc_old _ _ t (Nat.ne_of_lt htl)]; exact hf0)
  go_enter Tryz.func74, Tryz.ntmps74
  go_wp2
  refine wp_loop_rounds 1 ?_
  rw [rounds_succ]
  go_wp2
  go_ret
  exact ⟨rfl, rfl⟩
theorem asW_below (w : World) (t : Addr) (n : Int) : Below w.heap.size w (asW w t n) :=
  ((((Below.refl _ w).alloc (Nat.le_refl _) _).alloc (by simp) _).alloc (by simp; omega) _).alloc (by simp; omega) _
/-- an error's number -/
def numE : Option Nat → Int
  | none => 0
  | some n => n
theorem num_any (e : Option Nat) (w : World) (hg : ErrType w) :
    Calls Tryz.prog 31 #[errV e] w fun r w' => r = .returned (.int .i64 (numE e)) ∧ Below w.heap.size w w' := by
  cases e with
  | none =>
    show Calls Tryz.prog 31 #[.nilIface] w _
    go_enter Tryz.func31, Tryz.ntmps31
    go_wp2
    go_ret
    exact ⟨rfl, below_alloc w _⟩
  | some n =>
    show Calls Tryz.prog 31 #[.iface 114 (.int .i64 n)] w _
    have HB := Lib.hid (below_alloc w (.cells #[.int .i64 0] 114))
    have HE := Lib.hid (hg.below HB.out)
    have HA := Lib.hid (as_hit n ⟨w.heap.size, 0, none⟩ (.int .i64 0) (w.alloc (.cells #[.int .i64 0] 114)) HE.out (by rw [cell_of_row _ _ _ _ _ _ (heap_alloc_new w _)]; rfl) (frozen_of_row _ _ _ _ _ (heap_alloc_new w _)))
    have hb2 := asW_below (w.alloc (.cells #[.int .i64 0] 114)) ⟨w.heap.size, 0, none⟩ n
    have hh : (asW (w.alloc (.cells #[.int .i64 0] 114)) ⟨w.heap.size, 0, none⟩ n).heap[w.heap.size]? = some (.cells #[.int .i64 0] 114 (0, 0)) := (hb2.block _ (by simp)).trans (heap_alloc_new w _)
    have hc : ((asW (w.alloc (.cells #[.int .i64 0] 114)) ⟨w.heap.size, 0, none⟩ n).setCell ⟨w.heap.size, 0, none⟩ (.int .i64 n)).cell? ⟨w.heap.size, 0, none⟩ = some (.int .i64 n) := by
      have := heap_setCell_same _ w.heap.size 0 _ _ (.int .i64 n) hh
      rw [cell_of_row _ _ _ _ _ _ this]; rfl
    have HF := Lib.hid ((HB.out.trans (hb2.mono (by simp))).setCell (p := ⟨w.heap.size, 0, none⟩) (Nat.le_refl _) (.int .i64 (n : Int)))
    clear hb2 hh
    generalize (asW (w.alloc (.cells #[.int .i64 0] 114)) ⟨w.heap.size, 0, none⟩ n).setCell ⟨w.heap.size, 0, none⟩ (.int .i64 n) = w2 at *
    go_enter Tryz.func31, Tryz.ntmps31
    go_wp2_with (go_at_call 74; (with_reducible refine HA.out.mono ?_); rintro ev w3 ⟨rfl, rfl⟩)
    go_ret
    exact ⟨rfl, HF.out⟩
#print axioms num_any
end Go.Proofs.YtllpnpeppdfjlaaGreatDoor
namespace Go.Proofs.YtllpnpeppdfjlaaGreatDoor
set_option linter.unusedVariables false
set_option linter.unusedSimpArgs false
open Go.RowKit
end Go.Proofs.YtllpnpeppdfjlaaGreatDoor
namespace Go.Proofs.YtllpnpeppdfjlaaGreatDoor
set_option linter.unusedVariables false
set_option linter.unusedSimpArgs false
open Go.RowKit
def KT (i : Nat) : Int := (([1116352408, 1899447441, 3049323471, 3921009573, 961987163, 1508970993, 2453635748, 2870763221, 3624381080, 310598401, 607225278, 1426881987, 1925078388, 2162078206, 2614888103, 3248222580, 3835390401, 4022224774, 264347078, 604807628, 770255983, 1249150122, 1555081692, 1996064986, 2554220882, 2821834349, 2952996808, 3210313671, 3336571891, 3584528711, 113926993, 338241895, 666307205, 773529912, 1294757372, 1396182291, 1695183700, 1986661051, 2177026350, 2456956037, 2730485921, 2820302411, 3259730800, 3345764771, 3516065817, 3600352804, 4094571909, 275423344, 430227734, 506948616, 659060556, 883997877, 958139571, 1322822218, 1537002063, 1747873779, 1955562222, 2024104815, 2227730452, 2361852424, 2428436474, 2756734187, 3204031479, 3329325298] : List Nat).getD i 0 : Nat)
/-- the table of constants lies in block 1 -/
def Consts (w : World) : Prop := ∀ i, i < 64 → w.cell? ⟨5, i, none⟩ = some (.int .u32 (KT i))
theorem Consts.below {w w' : World} {B : Nat} (h : Consts w) (hb : Below B w w') (h1 : 5 < B) : Consts w' := fun i hi => (hb.cell (p := ⟨5, i, none⟩) h1).trans (h i hi)
theorem Consts.lt {w : World} (h : Consts w) : 5 < w.heap.size := block_lt_of_cell (h 0 (by decide))
theorem shSize_alloc (w : World) (o : Obj) : (w.alloc o).heap.size = w.heap.size + 1 := by simp
end Go.Proofs.YtllpnpeppdfjlaaGreatDoor
namespace Go.Proofs.YtllpnpeppdfjlaaGreatDoor
set_option linter.unusedVariables false
set_option linter.unusedSimpArgs false
open Go.RowKit
def clr (f : Nat → Int) (o m : Nat) : Nat → Int := fun i => if o ≤ i ∧ i < o + m then 0 else f i
theorem RowAt.clear {g n : Nat} {k : IntKind} {t : TypeId} : ∀ (m o : Nat) (f : Nat → Int) (w : World), RowAt w g k n t f → RowAt (w.setCells g o (List.replicate m (.int k 0))) g k n t (clr f o m)
  | 0, o, f, w, h => by
    have : clr f o 0 = f := by funext i; unfold clr; rw [if_neg (by omega)]
    rw [this]; exact h
  | m + 1, o, f, w, h => by
    have := RowAt.clear m (o + 1) _ _ (h.set o 0)
    have e : clr (upd f o 0) (o + 1) m = clr f o (m + 1) := by
      funext i
      unfold clr upd
      by_cases h1 : o + 1 ≤ i ∧ i < o + 1 + m
      · rw [if_pos h1, if_pos (by omega)]
      · rw [if_neg h1]
        by_cases h2 : i = o
        · rw [if_pos h2, if_pos (by omega)]
        · rw [if_neg h2, if_neg (by omega)]
    rw [e] at this
    exact this
/-- what finish knows of memory: the state's row, the block's, the result's -/
structure FM (w w' : World) (s f r : Nat → Int) : Prop where
  st : RowAt w' w.heap.size .u32 8 226 s
  bl : RowAt w' (w.heap.size + 1) .u8 64 297 f
  re : RowAt w' (w.heap.size + 1 + 1) .u32 8 226 r
  below : Below w.heap.size w w'
  consts : Consts w'
theorem FM.start (w : World) (s f : Nat → Int) (hk : Consts w) : FM w (((w.alloc (.cells (rowOf .u32 8 s) 226)).alloc (.cells (rowOf .u8 64 f) 297)).alloc (.cells (rowOf .u32 8 (fun _ => 0)) 226)) s f (fun _ => 0) := by
  have hb : Below w.heap.size w (((w.alloc (.cells (rowOf .u32 8 s) 226)).alloc (.cells (rowOf .u8 64 f) 297)).alloc (.cells (rowOf .u32 8 (fun _ => 0)) 226)) :=
    ((below_alloc w _).trans ((below_alloc _ _).mono (by simp))).trans ((below_alloc _ _).mono (by simp; omega))
  refine ⟨((RowAt.new w _ _ _ _).alloc _).alloc _, ?_, ?_, hb, hk.below hb hk.lt⟩
  · have := (RowAt.new (w.alloc (.cells (rowOf .u32 8 s) 226)) .u8 64 297 f).alloc (.cells (rowOf .u32 8 (fun _ => 0)) 226)
    rw [shSize_alloc] at this; exact this
  · have := RowAt.new ((w.alloc (.cells (rowOf .u32 8 s) 226)).alloc (.cells (rowOf .u8 64 f) 297)) .u32 8 226 (fun _ => 0)
    rw [shSize_alloc, shSize_alloc] at this; exact this
theorem FM.calls {w w' w2 : World} {s f r : Nat → Int} (h : FM w w' s f r) (hb : Below w'.heap.size w' w2) : FM w w2 s f r :=
  ⟨h.st.below hb h.st.lt, h.bl.below hb h.bl.lt, h.re.below hb h.re.lt, h.below.trans (hb.mono h.below.size), h.consts.below hb h.consts.lt⟩
theorem FM.setS {w w' : World} {s f r : Nat → Int} (h : FM w w' s f r) (s' : Nat → Int) (hk : 5 < w.heap.size) : FM w (w'.setRow w.heap.size (rowOf .u32 8 s')) s' f r :=
  have hb : Below w.heap.size w' (w'.setRow w.heap.size (rowOf .u32 8 s')) := below_setRow (Below.refl _ _) (Nat.le_refl _) _
  ⟨setRow_heap _ _ _ _ _ _ h.st, (setRow_other _ _ _ _ (by omega)).trans h.bl, (setRow_other _ _ _ _ (by omega)).trans h.re, h.below.trans hb, h.consts.below hb hk⟩
end Go.Proofs.YtllpnpeppdfjlaaGreatDoor
namespace Go.Proofs.YtllpnpeppdfjlaaGreatDoor
set_option linter.unusedVariables false
set_option linter.unusedSimpArgs false
open Go.RowKit
def BT (i : Nat) : Int := (([1779033703, 3144134277, 1013904242, 2773480762, 1359893119, 2600822924, 528734635, 1541459225] : List Nat).getD i 0 : Nat)
/-- the two tables lie where start-up laid them -/
structure Env (w : World) : Prop where
  begin : ∀ i, i < 8 → w.cell? ⟨3, i, none⟩ = some (.int .u32 (BT i))
  consts : Consts w
theorem Env.below {w w' : World} {B : Nat} (h : Env w) (hb : Below B w w') (h1 : 5 < B) : Env w' :=
  ⟨fun i hi => (hb.cell (p := ⟨3, i, none⟩) (by show 3 < B; omega)).trans (h.begin i hi), h.consts.below hb h1⟩
theorem Env.lt {w : World} (h : Env w) : 5 < w.heap.size := h.consts.lt
def hashCells (s b : Nat → Int) (n : Int) : Array Value := rowOf .u32 8 s ++ (rowOf .u8 64 b ++ #[.int .u64 n])
/-- block g is a Hash -/
def HashAt (w : World) (g : Nat) (s b : Nat → Int) (n : Int) : Prop := w.heap[g]? = some (.cells (hashCells s b n) 299 (0, 0))
theorem hashCells_size (s b : Nat → Int) (n : Int) : (hashCells s b n).size = 73 := by simp [hashCells, rowOf_size]
theorem hashCells_state (s b : Nat → Int) (n : Int) (i : Nat) (h : i < 8) : (hashCells s b n)[i]? = some (.int .u32 (s i)) := by
  unfold hashCells
  rw [Array.getElem?_append_left (by rw [rowOf_size]; exact h), rowOf_get _ _ _ _ h]
theorem hashCells_block (s b : Nat → Int) (n : Int) (i : Nat) (h : i < 64) : (hashCells s b n)[8 + i]? = some (.int .u8 (b i)) := by
  unfold hashCells
  rw [Array.getElem?_append_right (by rw [rowOf_size]; omega), rowOf_size, show 8 + i - 8 = i by omega, Array.getElem?_append_left (by rw [rowOf_size]; exact h), rowOf_get _ _ _ _ h]
theorem hashCells_count (s b : Nat → Int) (n : Int) : (hashCells s b n)[72]? = some (.int .u64 n) := by
  unfold hashCells
  rw [Array.getElem?_append_right (by rw [rowOf_size]; omega), rowOf_size, Array.getElem?_append_right (by rw [rowOf_size]; omega), rowOf_size]
  rfl
theorem HashAt.lt {w : World} {g : Nat} {s b : Nat → Int} {n : Int} (h : HashAt w g s b n) : g < w.heap.size := (Array.getElem?_eq_some_iff.1 h).1
theorem HashAt.below {w w' : World} {g B : Nat} {s b : Nat → Int} {n : Int} (h : HashAt w g s b n) (hb : Below B w w') (hg : g < B) : HashAt w' g s b n := (hb.block g hg).trans h
theorem HashAt.free {w : World} {g : Nat} {s b : Nat → Int} {n : Int} (h : HashAt w g s b n) (i : Nat) : w.frozen? ⟨g, i, none⟩ = false := frozen_of_row w g i _ _ h
theorem hashCells_setS (s b : Nat → Int) (n : Int) (i : Nat) (v : Int) (h : i < 8) : (hashCells s b n).setIfInBounds i (.int .u32 v) = hashCells (upd s i v) b n := by
  unfold hashCells
  rw [← rowOf_set, Array.setIfInBounds_append_left (by rw [rowOf_size]; exact h)]
theorem HashAt.setS {w : World} {g : Nat} {s b : Nat → Int} {n : Int} (h : HashAt w g s b n) (i : Nat) (v : Int) (hi : i < 8) : HashAt (w.setCell ⟨g, i, none⟩ (.int .u32 v)) g (upd s i v) b n := by
  unfold HashAt
  rw [heap_setCell_same w g i _ _ _ h, hashCells_setS _ _ _ _ _ hi]
theorem HashAt.congr {w : World} {g : Nat} {s s' b b' : Nat → Int} {n : Int} (h : HashAt w g s b n) (h1 : ∀ i, i < 8 → s i = s' i) (h2 : ∀ i, i < 64 → b i = b' i) : HashAt w g s' b' n := by
  unfold HashAt hashCells at *
  rw [← rowOf_congr _ _ _ _ h1, ← rowOf_congr _ _ _ _ h2]; exact h
end Go.Proofs.YtllpnpeppdfjlaaGreatDoor
namespace Go.Proofs.YtllpnpeppdfjlaaGreatDoor
set_option linter.unusedVariables false
set_option linter.unusedSimpArgs false
open Go.RowKit
structure HS where
  s : Nat → Int
  b : Nat → Int
  n : Int
/-- a list laid over a block from place u on -/
def lay (b : Nat → Int) : Nat → List Int → Nat → Int
  | _, [] => b
  | u, y :: ys => lay (upd b u y) (u + 1) ys
theorem lay_get : ∀ (ys : List Int) (b : Nat → Int) (u i : Nat), lay b u ys i = if u ≤ i ∧ i < u + ys.length then ys.getD (i - u) 0 else b i
  | [], b, u, i => by rw [if_neg (by simp)]; rfl
  | y :: ys, b, u, i => by
    rw [lay, lay_get ys]
    unfold upd
    by_cases h : i = u
    · subst h
      rw [if_neg (by omega), if_pos rfl, if_pos (by simp)]
      simp
    · by_cases h2 : u + 1 ≤ i ∧ i < u + 1 + ys.length
      · rw [if_pos h2, if_pos (by simp; omega), show i - u = (i - (u + 1)) + 1 by omega]
        simp
      · rw [if_neg h2, if_neg h, if_neg (by simp; omega)]
/-- a copy into the block of a Hash -/
theorem hashCells_copy (s b : Nat → Int) (n : Int) (u : Nat) (ys : List Int) (h : u + ys.length ≤ 64) :
    ((hashCells s b n).toList.take (8 + u) ++ (byteVals ys ++ (hashCells s b n).toList.drop (8 + u + (byteVals ys).length))).toArray = hashCells s (lay b u ys) n := by
  apply Array.ext_getElem?
  intro i
  have hsz := hashCells_size s b n
  rw [byteVals_length, List.getElem?_toArray, List.getElem?_append, List.getElem?_take, List.getElem?_append, List.getElem?_drop]
  simp only [List.length_take, Array.length_toList, hsz, byteVals_length, Array.getElem?_toList]
  by_cases h1 : i < 8
  · rw [if_pos (by omega), if_pos (by omega), hashCells_state _ _ _ _ h1, hashCells_state _ _ _ _ h1]
  · by_cases h2 : i < 72
    · obtain ⟨j, rfl⟩ : ∃ j, i = 8 + j := ⟨i - 8, by omega⟩
      have hj : j < 64 := by omega
      rw [hashCells_block s (lay b u ys) n j hj, lay_get]
      by_cases h3 : j < u
      · rw [if_pos (by omega), if_pos (by omega), hashCells_block _ _ _ _ hj, if_neg (by omega)]
      · rw [if_neg (by omega)]
        by_cases h4 : j < u + ys.length
        · rw [if_pos (by omega), if_pos (by omega), show 8 + j - min (8 + u) 73 = j - u by omega]
          simp [byteVals, List.getD, (by omega : j - u < ys.length)]
        · rw [if_neg (by omega), if_neg (by omega), show 8 + u + ys.length + (8 + j - min (8 + u) 73 - ys.length) = 8 + j by omega, hashCells_block _ _ _ _ hj]
    · have e : ∀ f : Nat → Int, (hashCells s f n)[i]? = if i = 72 then some (.int .u64 n) else none := fun f => by
        by_cases h3 : i = 72
        · subst h3; rw [if_pos rfl, hashCells_count]
        · rw [if_neg h3, Array.getElem?_eq_none]; rw [hashCells_size]; omega
      rw [if_neg (by omega), if_neg (by omega), show 8 + u + ys.length + (i - min (8 + u) 73 - ys.length) = i by omega, e, e]
theorem HashAt.copy {w : World} {g : Nat} {s b : Nat → Int} {n : Int} (h : HashAt w g s b n) (u : Nat) (ys : List Int) (hl : u + ys.length ≤ 64) :
    HashAt (w.setRow g ((hashCells s b n).toList.take (8 + u) ++ (byteVals ys ++ (hashCells s b n).toList.drop (8 + u + (byteVals ys).length))).toArray) g s (lay b u ys) n := by
  rw [hashCells_copy _ _ _ _ _ hl]
  exact setRow_heap w g _ _ _ _ h
end Go.Proofs.YtllpnpeppdfjlaaGreatDoor
namespace Go.Proofs.YtllpnpeppdfjlaaGreatDoor
set_option linter.unusedVariables false
set_option linter.unusedSimpArgs false
open Go.RowKit
/-- v is a slice of the bytes xs, apart from block g -/
def BytesAt (w : World) (g : Nat) (v : Value) (xs : List Int) : Prop :=
  ∃ a cap, v = .slice a xs.length cap ∧ xs.length ≤ cap ∧ xs.length ≤ maxLen ∧ (xs = [] ∨ ∃ ab ao, a = some ⟨ab, ao, none⟩ ∧ ab ≠ g ∧ ∀ i x, xs[i]? = some x → w.cell? ⟨ab, ao + i, none⟩ = some (.int .u8 x))
theorem BytesAt.only {g : Nat} {w w' : World} {v : Value} {xs : List Int} (h : BytesAt w g v xs) (ho : Only g w w') : BytesAt w' g v xs := by
  obtain ⟨a, cap, rfl, hc, hm, hx⟩ := h
  refine ⟨a, cap, rfl, hc, hm, ?_⟩
  rcases hx with hx | ⟨ab, ao, rfl, hne, hx⟩
  · exact .inl hx
  · exact .inr ⟨ab, ao, rfl, hne, fun i x hi => ho.cell (hx i x hi) hne⟩
/-- a cut at m -/
theorem BytesAt.drop {g : Nat} {w : World} {ab ao cap m : Nat} {xs : List Int} (hc : xs.length ≤ cap) (hm : xs.length ≤ maxLen) (hne : ab ≠ g) (hx : ∀ i x, xs[i]? = some x → w.cell? ⟨ab, ao + i, none⟩ = some (.int .u8 x)) (hmx : m ≤ xs.length)
    (a' : Option Addr) (ha : a' = if cap = m then some ⟨ab, ao, none⟩ else some ⟨ab, ao + m, none⟩) : BytesAt w g (.slice a' (xs.length - m) (cap - m)) (xs.drop m) := by
  refine ⟨a', cap - m, by rw [List.length_drop], by rw [List.length_drop]; omega, by rw [List.length_drop]; omega, ?_⟩
  by_cases h : cap = m
  · left
    apply List.drop_eq_nil_of_le
    omega
  · right
    refine ⟨ab, ao + m, by rw [ha, if_neg h], hne, fun i x hi => ?_⟩
    rw [List.getElem?_drop] at hi
    rw [Nat.add_assoc]
    exact hx _ _ hi
theorem Only.setCells (g : Nat) : ∀ (vs : List Value) (o : Nat) (w : World), Only g w (w.setCells g o vs)
  | [], _, w => Only.refl g w
  | v :: r, o, w => (Only.setCell w ⟨g, o, none⟩ v).trans (Only.setCells g r (o + 1) _)
end Go.Proofs.YtllpnpeppdfjlaaGreatDoor
namespace Go.Proofs.YtllpnpeppdfjlaaGreatDoor
set_option linter.unusedVariables false
set_option linter.unusedSimpArgs false
open Go.RowKit
/-- the bytes of eight words -/
def outF (f : Nat → Int) : Nat → Int := fun i => f (i / 4) / 2 ^ (24 - 8 * (i % 4)) % 256
/-- the first k bytes are there -/
def outK (f : Nat → Int) (k : Nat) : Nat → Int := fun i => if i < k then outF f i else 0
theorem outK_succ (f : Nat → Int) (i j : Nat) (hj : j < 4) : upd (outK f (4 * i + j)) (4 * i + j) (f i / 2 ^ (24 - 8 * j) % 256) = outK f (4 * i + j + 1) := by
  funext x
  unfold upd outK
  by_cases h : x = 4 * i + j
  · subst h
    rw [if_pos rfl, if_pos (by omega)]
    unfold outF
    rw [show (4 * i + j) / 4 = i by omega, show (4 * i + j) % 4 = j by omega]
  · rw [if_neg h]
    by_cases h2 : x < 4 * i + j
    · rw [if_pos h2, if_pos (by omega)]
    · rw [if_neg h2, if_neg (by omega)]
theorem zeros32 : (#[Value.int IntKind.u8 0, Value.int IntKind.u8 0, Value.int IntKind.u8 0, Value.int IntKind.u8 0, Value.int IntKind.u8 0, Value.int IntKind.u8 0, Value.int IntKind.u8 0, Value.int IntKind.u8 0, Value.int IntKind.u8 0, Value.int IntKind.u8 0, Value.int IntKind.u8 0, Value.int IntKind.u8 0, Value.int IntKind.u8 0, Value.int IntKind.u8 0, Value.int IntKind.u8 0, Value.int IntKind.u8 0, Value.int IntKind.u8 0, Value.int IntKind.u8 0, Value.int IntKind.u8 0, Value.int IntKind.u8 0, Value.int IntKind.u8 0, Value.int IntKind.u8 0, Value.int IntKind.u8 0, Value.int IntKind.u8 0, Value.int IntKind.u8 0, Value.int IntKind.u8 0, Value.int IntKind.u8 0, Value.int IntKind.u8 0, Value.int IntKind.u8 0, Value.int IntKind.u8 0, Value.int IntKind.u8 0, Value.int IntKind.u8 0] : Array Value) = rowOf .u8 32 (fun _ => 0) := by rfl
/-- what Sum of a Hash knows of memory -/
structure SumM (w w' : World) (g : Nat) (s b : Nat → Int) (n : Int) (r u : Nat → Int) : Prop where
  hash : HashAt w' g s b n
  re : RowAt w' w.heap.size .u8 32 85 r
  su : RowAt w' (w.heap.size + 1) .u8 32 85 u
  below : Below w.heap.size w w'
  consts : Consts w'
theorem SumM.calls {w w' w2 : World} {g : Nat} {s b : Nat → Int} {n : Int} {r u : Nat → Int} (h : SumM w w' g s b n r u) (hb : Below w'.heap.size w' w2) : SumM w w2 g s b n r u :=
  ⟨h.hash.below hb h.hash.lt, h.re.below hb h.re.lt, h.su.below hb h.su.lt, h.below.trans (hb.mono h.below.size), h.consts.below hb h.consts.lt⟩
theorem SumM.put {w w' : World} {g : Nat} {s b : Nat → Int} {n : Int} {r F : Nat → Int} {k q : Nat} (h : SumM w w' g s b n r (outK F (4 * k + q))) (hq : q < 4) (hg : g < w.heap.size) (hk : 5 < w.heap.size) :
    SumM w (w'.setCell ⟨w.heap.size + 1, 4 * k + q, none⟩ (.int .u8 (F k / 2 ^ (24 - 8 * q) % 256))) g s b n r (outK F (4 * k + (q + 1))) := by
  have hb : Below w.heap.size w' (w'.setCell ⟨w.heap.size + 1, 4 * k + q, none⟩ (.int .u8 (F k / 2 ^ (24 - 8 * q) % 256))) := (Below.refl _ _).setCell (by show w.heap.size ≤ w.heap.size + 1; omega) _
  refine ⟨h.hash.below hb hg, h.re.other _ _ (by show w.heap.size ≠ w.heap.size + 1; omega), ?_, h.below.trans hb, h.consts.below hb hk⟩
  have := h.su.set (4 * k + q) (F k / 2 ^ (24 - 8 * q) % 256)
  rw [outK_succ F k q hq] at this
  exact this
theorem BytesIn.at {w w' : World} {v : Value} {xs : List Int} (h : BytesIn w v xs) {B g : Nat} (hb : Below B w w') (hB : w.heap.size ≤ B) (hg : w.heap.size ≤ g) : BytesAt w' g v xs := by
  obtain ⟨a, cap, rfl, hc, hm, hx⟩ := h
  refine ⟨a, cap, rfl, hc, hm, ?_⟩
  rcases hx with hx | ⟨ab, ao, rfl, hx⟩
  · exact .inl hx
  · by_cases he : xs = []
    · exact .inl he
    · obtain ⟨x, xs', rfl⟩ := List.exists_cons_of_ne_nil he
      have h0 := World.block_lt_of_cell? w _ (hx 0 x rfl)
      have h0' : ab < w.heap.size := h0
      exact .inr ⟨ab, ao, rfl, by omega, fun i y hi => (hb.cell (p := ⟨ab, ao + i, none⟩) (by show ab < B; omega)).trans (hx i y hi)⟩
/-- the empty Hash -/
def h0 : HS := ⟨BT, fun _ => 0, 0⟩
end Go.Proofs.YtllpnpeppdfjlaaGreatDoor
namespace Go.Proofs.YtllpnpeppdfjlaaGreatDoor
set_option linter.unusedVariables false
set_option linter.unusedSimpArgs false
open Go.RowKit
set_option maxRecDepth 100000
/-- are the params valid? -/
def kOk (D E : Int) : Prop := 1 ≤ D ∧ D ≤ 32 ∧ 0 ≤ E ∧ E ≤ 10
instance (D E : Int) : Decidable (kOk D E) := by unfold kOk; infer_instance
end Go.Proofs.YtllpnpeppdfjlaaGreatDoor
namespace Go.Proofs.YtllpnpeppdfjlaaGreatDoor
set_option linter.unusedVariables false
set_option linter.unusedSimpArgs false
open Go.RowKit
set_option maxRecDepth 100000
set_option linter.unusedSimpArgs false
set_option linter.unusedVariables false
structure VoOk (v : Vo) : Prop where
  k : -9223372036854775808 ≤ v.kind ∧ v.kind ≤ 9223372036854775807
  h : -9223372036854775808 ≤ v.height ∧ v.height ≤ 9223372036854775807
  r : -9223372036854775808 ≤ v.round ∧ v.round ≤ 9223372036854775807
theorem glenT {n : Nat} (h : n < 18446744073709551616) : (varint n).length ≤ 10 := by
  have := glen_le h
  rw [varint_length]; omega
end Go.Proofs.YtllpnpeppdfjlaaGreatDoor
namespace Go.Proofs.YtllpnpeppdfjlaaGreatDoor
set_option linter.unusedVariables false
set_option linter.unusedSimpArgs false
open Go.RowKit
set_option maxRecDepth 100000
set_option linter.unusedSimpArgs false
set_option linter.unusedVariables false
/-- behind writing: the Writer holds xs -/
def WsR (g : Nat) (v : Value) (w : World) (xs : List Int) (wr : World) : Prop := ∃ v', WAt wr g v' xs ∧ WStep g v v' w wr
theorem wpS_next {g : Nat} {v : Value} {xs ys : List Int} {w w' : World} {e : Ending} (h : WPost g v xs ys w e w') : e = .returned (.pointer (some ⟨g, 0, none⟩)) ∧ ∃ v', WAt w' g v' (xs ++ ys) ∧ WStep g v v' w w' := h
end Go.Proofs.YtllpnpeppdfjlaaGreatDoor
namespace Go.Proofs.YtllpnpeppdfjlaaGreatDoor
set_option linter.unusedVariables false
set_option linter.unusedSimpArgs false
open Go.RowKit
set_option maxRecDepth 100000
set_option linter.unusedSimpArgs false
set_option linter.unusedVariables false
theorem bytes_own11 {w : World} {y : Value} {ys : List Int} (h : BytesIn w y ys) (hn : ys ≠ []) : ∀ k, y.ownBlock = some k → k < w.heap.size := by
  obtain ⟨a, c, rfl, _, _, hx⟩ := h
  intro k hk
  rcases hx with rfl | ⟨ab, ao, rfl, hx⟩
  · exact absurd rfl hn
  · obtain ⟨x, r, rfl⟩ : ∃ x r, ys = x :: r := by
      cases ys with
      | nil => exact absurd rfl hn
      | cons x r => exact ⟨x, r, rfl⟩
    have := World.block_lt_of_cell? _ _ (hx 0 x rfl)
    cases hk
    exact this
theorem apart_of {w0 X : World} {g : Nat} {v' sv : Value} {xs SG : List Int} (h : BytesIn w0 sv SG) (hn : SG ≠ []) (hg : w0.heap.size ≤ g) (hw : WAt X g v' xs) : Apart g v' sv := fun k hk => by
  have h1 := bytes_own11 h hn k hk
  refine ⟨by omega, fun e => ?_⟩
  have h2 := (hw.ne k e.symm).1
  omega
def catL {α : Type} (f : α → List Int) : List α → List Int
  | [] => []
  | x :: r => f x ++ catL f r
theorem catL_snoc {α : Type} (f : α → List Int) (x : α) : ∀ l : List α, catL f (l ++ [x]) = catL f l ++ f x
  | [] => by simp [catL]
  | y :: r => by rw [List.cons_append, catL, catL, catL_snoc f x r, List.append_assoc]
theorem catL_take {α : Type} (f : α → List Int) (l : List α) (k : Nat) (x : α) (h : l[k]? = some x) : catL f (l.take (k + 1)) = catL f (l.take k) ++ f x := by
  rw [List.take_add_one, h]; exact catL_snoc f x _
theorem catL_app {α : Type} (f : α → List Int) : ∀ a b : List α, catL f (a ++ b) = catL f a ++ catL f b
  | [], b => rfl
  | y :: r, b => by rw [List.cons_append, catL, catL, catL_app f r b, List.append_assoc]
theorem catL_room {α : Type} (f : α → List Int) (l : List α) (k : Nat) : (catL f (l.take k)).length ≤ (catL f l).length := by
  have := congrArg List.length (catL_app f (l.take k) (l.drop k))
  rw [List.take_append_drop, List.length_append] at this
  omega
def listL {α : Type} (f : α → List Int) (l : List α) : List Int := varint l.length ++ catL f l
/-- a slice of bytes among others -/
structure Tb where
  bv : Value
  bs : List Int
abbrev TbIn (w : World) (v : Value) (l : List Tb) : Prop := RowsIn 1 (fun t : Tb => [t.bv]) w v l
structure VoFl (v : Vo) : Prop where
  k : -9223372036854775808 ≤ v.kind ∧ v.kind ≤ 9223372036854775807
  h : -9223372036854775808 ≤ v.height ∧ v.height ≤ 9223372036854775807
  r : -9223372036854775808 ≤ v.round ∧ v.round ≤ 9223372036854775807
  vl : -9223372036854775808 ≤ v.val ∧ v.val ≤ 9223372036854775807
def tb1 (t : Tb) : List Int := varint t.bs.length ++ t.bs
def WlR {α : Type} (f : α → List Int) (g : Nat) (v : Value) (w : World) (Z : List Int) (l : List α) (k : Nat) (wr : World) : Prop := ∃ v', WAt wr g v' (Z ++ catL f (l.take k)) ∧ WStep g v v' w wr
end Go.Proofs.YtllpnpeppdfjlaaGreatDoor
namespace Go.Proofs.YtllpnpeppdfjlaaGreatDoor
set_option linter.unusedVariables false
set_option linter.unusedSimpArgs false
open Go.RowKit
set_option maxRecDepth 100000
end Go.Proofs.YtllpnpeppdfjlaaGreatDoor
namespace Go.Proofs.YtllpnpeppdfjlaaGreatDoor
set_option linter.unusedVariables false
set_option linter.unusedSimpArgs false
open Go.RowKit
set_option maxRecDepth 100000
set_option linter.unusedSimpArgs false
set_option linter.unusedVariables false
theorem intE11 {s : RSt} (h : s.1 = []) : (intS s).2.1 = [] := by
  obtain ⟨ys, e⟩ := s
  simp only at h
  subst h
  unfold intS
  cases e with
  | some x => rfl
  | none =>
    cases hr : (rdF [] 18446744073709551615).2.2 with
    | some x => rw [uintS_bad hr]
    | none => rw [uintS_good hr]; simp
theorem partE11 {s : RSt} {most : Int} (h : s.1 = []) : (partS s most).2.1 = [] := by
  obtain ⟨ys, e⟩ := s
  simp only at h
  subst h
  unfold partS
  cases e with
  | some x => rfl
  | none =>
    simp only
    split
    · rfl
    · split
      · rfl
      · split
        · rfl
        · split
          · rfl
          · simp
theorem cntE11 {s : RSt} {most : Nat} (h : s.1 = []) : (countS s most).2.1 = [] := by
  obtain ⟨ys, e⟩ := s
  simp only at h
  subst h
  cases e with
  | some x => rw [countS_bad (x := x) rfl]
  | none =>
    cases hr : (rdF [] most).2.2 with
    | some x => rw [countS_bad (x := x) (by rw [uintS_bad hr])]
    | none =>
      have hu := uintS_good hr
      by_cases hl : (uintS ([], none) most).2.1.length < (uintS ([], none) most).1
      · rw [countS_long (by rw [hu]) hl]
      · rw [countS_good (by rw [hu]) hl, hu]; simp
/-- k slices of bytes on -/
def txN : Nat → RSt → RSt
  | 0, s => s
  | k + 1, s => (partS (txN k s) 65536).2
def txsF : Nat → RSt → List Value → List Tb
  | _, _, [] => []
  | k, s, v :: r => ⟨v, (partS (txN k s) 65536).1⟩ :: txsF (k + 1) s r
def txs (s : RSt) (l : List Value) : List Tb := txsF 0 s l
theorem flat_get {α : Type} {n : Nat} {C : α → List Value} (hC : ∀ t, (C t).length = n) : ∀ (l : List α) (i : Nat) (t : α), l[i]? = some t → ∀ j, j < n → (l.flatMap C)[i * n + j]? = (C t)[j]?
  | [], i, t, h, j, hj => by simp at h
  | x :: l, 0, t, h, j, hj => by
    injection h with h; subst h
    rw [List.flatMap_cons, Nat.zero_mul, Nat.zero_add, List.getElem?_append_left (by rw [hC]; exact hj)]
  | x :: l, i + 1, t, h, j, hj => by
    rw [List.flatMap_cons, List.getElem?_append_right (by rw [hC, Nat.add_mul]; omega), hC, show (i + 1) * n + j - n = i * n + j from by rw [Nat.add_mul]; omega]
    exact flat_get hC l i t (by simpa using h) j hj
theorem rows_of_own {α : Type} {n : Nat} {C : α → List Value} (hC : ∀ t, (C t).length = n) {w : World} {B : Nat} {E : TypeId} {v : Value} {l : List α} (h : w.ownsRow B E n v l.length (l.flatMap C)) (hm : l.length ≤ maxLen) : RowsIn n C w v l := by
  rcases h.2 with ⟨rfl, h0⟩ | ⟨tb, cap, cur, rfl, _, hh, hc, hm2, _⟩
  · obtain rfl := List.eq_nil_of_length_eq_zero h0
    exact ⟨none, 0, rfl, by simp, hm, .inl rfl⟩
  · refine ⟨_, cap, rfl, hc, hm, .inr ⟨tb, 0, rfl, (Array.getElem?_eq_some_iff.1 hh).1, fun i p hi j u hu => ?_⟩⟩
    have hj : j < n := by have := (List.getElem?_eq_some_iff.1 hu).1; rw [hC] at this; exact this
    have e := h.cells (g := tb) rfl (i * n + j) u ((flat_get hC l i p hi j hj).trans hu)
    rw [Addr.add_mid] at e
    rw [Nat.add_assoc]; exact e
theorem own_slice11 {w : World} {base n m : Nat} {ty : TypeId} {v : Value} {vs : List Value} (h : w.ownsRow base ty n v m vs) : ∃ a c, v = .slice a m c := by
  rcases h.2 with ⟨rfl, h0⟩ | ⟨g, c, _, rfl, _⟩
  · exact ⟨none, 0, by rw [h0]⟩
  · exact ⟨_, c, rfl⟩
theorem own_stay11 {w w' : World} {base n m : Nat} {ty : TypeId} {v : Value} {vs : List Value} (h : w.ownsRow base ty n v m vs) (hw : ∀ k, v.ownBlock = some k → w'.heap[k]? = w.heap[k]?) : w'.ownsRow base ty n v m vs := by
  refine ⟨h.1, h.2.imp id ?_⟩
  rintro ⟨g, cap, cur, rfl, hg, hh, h2⟩
  exact ⟨g, cap, cur, rfl, hg, (hw g rfl).trans hh, h2⟩
theorem wpList_append_row11 {α : Type} {n bytes : Nat} {C : α → List Value} (hC : ∀ t, (C t).length = n) (T E : TypeId) (z : Value) (hT : Tryz.prog.underlying T = some (.slice E)) (hI : (Tryz.prog.info? E).map (fun i => (i.zero, i.size, i.bytes)) = some (some z, n, bytes)) (hz : z.cells.size = n) (hn : 0 < n)
    {w : World} {ops : Array Oper} {rest : List Oper} {o : Oper} {a : Act} {Q : Exit → Act → World → Prop} (hgd : o.guard = none) (s y : Operand)
    (ho : o.op = .call { callee := .builtin .append, args := #[s, y], argTypes := #[T, T] }) (hty : o.type = T)
    (base : Nat) (v : Value) (l : List α) (hs : a.eval s = v) (hown : w.ownsRow base E n v l.length (l.flatMap C)) (b : Nat) (x : α) (h1 : ∀ u ∈ C x, u.oneCell' = true) (hy : a.eval y = .slice (some ⟨b, 0, none⟩) 1 1) (hyb : w.heap[b]? = some (.cells (C x).toArray E (0, 0))) (hl : (l.length + 1) * bytes ≤ 140737488355328) (hl2 : l.length < 1048576) (hb : base ≤ w.heap.size)
    (h : ∀ v' w', w'.ownsRow base E n v' (l ++ [x]).length ((l ++ [x]).flatMap C) → w.grownBy w' v.ownBlock → (v'.ownBlock = v.ownBlock ∨ v'.ownBlock = some w.heap.size) → wpList Tryz.prog ops Q rest (a.put o.dst v') w') : wpList Tryz.prog ops Q (o :: rest) a w := by
  refine wpList_plain hgd fun K hK => ?_
  obtain ⟨i0, hi, hz0, hz1, hz2⟩ := info_parts hI
  obtain ⟨v', w', hr, h2, h3, _, h4⟩ := run_append_own_at w base T T E i0 z n bytes hT hi hz0 hz1 hz2 hz hn v l.length (l.flatMap C) hown ⟨b, 0, none⟩ 1 1 (C x) (by rw [hC]; omega)
    (fun j u hj => by rw [Addr.add_mid, Nat.zero_add, cell_of_row w b j _ _ _ hyb]; simpa using hj) h1 (by unfold maxLen; omega) hl hb
  unfold Oper.wp execOp
  simp only [ho, hty, resolve, invoke, builtin, Sem.run_bind, Sem.run_pure, Result.andThen_ok, List.map_toArray, List.map_cons, List.map_nil, hs, hy, hr]
  refine hK _ _ (h v' w' ?_ h3 h4)
  rw [List.length_append, List.flatMap_append, show [x].flatMap C = C x from by simp]
  exact h2
theorem only_setRow11 (w : World) (q : Nat) (cs : Array Value) : Only q w (w.setRow q cs) := ⟨rfl, rfl, rfl, by simp [World.setRow], fun k hk hg => setRow_other _ _ _ _ hg⟩
theorem RowsIn.only {α : Type} {n : Nat} {C : α → List Value} {w w' : World} {v : Value} {l : List α} {p : Nat} (h : RowsIn n C w v l) (ho : Only p w w') (hn : ∀ k, v.ownBlock = some k → k ≠ p) : RowsIn n C w' v l := by
  obtain ⟨a, cap, rfl, hc, hm, hx⟩ := h
  refine ⟨a, cap, rfl, hc, hm, hx.imp id ?_⟩
  rintro ⟨ab, ao, rfl, hlt, hx⟩
  exact ⟨ab, ao, rfl, Nat.lt_of_lt_of_le hlt ho.size, fun i p hi j u hu => (World.cell?_of_block (ho.block ab hlt (hn ab rfl))).trans (hx i p hi j u hu)⟩
/-- a list of votes, all new from block N on -/
structure VL (w : World) (N : Nat) (vv : Value) (l : List Vo) : Prop where
  rows : VoIn w vv l
  own : ∀ j, vv.ownBlock = some j → N ≤ j
  el : ∀ t ∈ l, BytesIn w t.sv t.sign ∧ ∀ j, t.sv.ownBlock = some j → N ≤ j
theorem VL.only {w w' : World} {N p : Nat} {vv : Value} {l : List Vo} (h : VL w N vv l) (ho : Only p w w') (hp : p < N) : VL w' N vv l :=
  ⟨h.rows.only ho fun k hk => by have := h.own k hk; omega, h.own, fun t ht => ⟨(h.el t ht).1.only ho fun k hk => by have := (h.el t ht).2 k hk; omega, (h.el t ht).2⟩⟩
theorem VL.mono {w : World} {N M : Nat} {vv : Value} {l : List Vo} (h : VL w N vv l) (hm : M ≤ N) : VL w M vv l :=
  ⟨h.rows, fun j hj => Nat.le_trans hm (h.own j hj), fun t ht => ⟨(h.el t ht).1, fun j hj => Nat.le_trans hm ((h.el t ht).2 j hj)⟩⟩
structure TL (w : World) (N : Nat) (vv : Value) (l : List Tb) : Prop where
  rows : TbIn w vv l
  own : ∀ j, vv.ownBlock = some j → N ≤ j
  el : ∀ t ∈ l, BytesIn w t.bv t.bs ∧ ∀ j, t.bv.ownBlock = some j → N ≤ j
theorem TL.only {w w' : World} {N p : Nat} {vv : Value} {l : List Tb} (h : TL w N vv l) (ho : Only p w w') (hp : p < N) : TL w' N vv l :=
  ⟨h.rows.only ho fun k hk => by have := h.own k hk; omega, h.own, fun t ht => ⟨(h.el t ht).1.only ho fun k hk => by have := (h.el t ht).2 k hk; omega, (h.el t ht).2⟩⟩
theorem TL.mono {w : World} {N M : Nat} {vv : Value} {l : List Tb} (h : TL w N vv l) (hm : M ≤ N) : TL w M vv l :=
  ⟨h.rows, fun j hj => Nat.le_trans hm (h.own j hj), fun t ht => ⟨(h.el t ht).1, fun j hj => Nat.le_trans hm ((h.el t ht).2 j hj)⟩⟩
theorem VL.below {w w' : World} {N : Nat} {vv : Value} {l : List Vo} (h : VL w N vv l) (hb : Below w.heap.size w w') : VL w' N vv l :=
  ⟨h.rows.below hb, h.own, fun t ht => ⟨(h.el t ht).1.below hb, (h.el t ht).2⟩⟩
theorem TL.below {w w' : World} {N : Nat} {vv : Value} {l : List Tb} (h : TL w N vv l) (hb : Below w.heap.size w w') : TL w' N vv l :=
  ⟨h.rows.below hb, h.own, fun t ht => ⟨(h.el t ht).1.below hb, (h.el t ht).2⟩⟩
theorem RO.below11 {w w' : World} {p : Nat} {ob : Option Nat} {s : RSt} (h : RO w p ob s) (hb : Below w.heap.size w w') : RO w' p ob s := by
  obtain ⟨y, hy, ho⟩ := h
  exact ⟨y, hy.below hb, ho⟩
theorem RS.below11 {w w' : World} {p : Nat} {s : RSt} (h : RS w p s) (hb : Below w.heap.size w w') : RS w' p s := by
  obtain ⟨y, hy⟩ := h
  exact ⟨y, hy.below hb⟩
theorem RO.own11 {w : World} {p : Nat} {ob : Option Nat} {s : RSt} (h : RO w p ob s) (hn : s.1 ≠ []) : ∀ k, ob = some k → k < w.heap.size := by
  obtain ⟨y, hy, rfl⟩ := h
  exact hy.own_lt hn
theorem RO.lt11 {w : World} {p : Nat} {ob : Option Nat} {s : RSt} (h : RO w p ob s) : p < w.heap.size := by obtain ⟨y, hy, _⟩ := h; exact hy.lt
theorem RS.lt11 {w : World} {p : Nat} {s : RSt} (h : RS w p s) : p < w.heap.size := by obtain ⟨y, hy⟩ := h; exact hy.lt
theorem RO.stay11 {w w' : World} {p q : Nat} {ob : Option Nat} {s : RSt} (h : RO w p ob s) (ho : Only q w w') (hpq : p ≠ q) (hob : s.1 ≠ [] → ∀ k, ob = some k → k ≠ q) : RO w' p ob s := by
  obtain ⟨y, hy, rfl⟩ := h
  exact ⟨y, hy.keep (ho.block p hy.lt hpq) fun hn k hk => ho.block k (hy.own_lt hn k hk) (hob hn k hk), rfl⟩
end Go.Proofs.YtllpnpeppdfjlaaGreatDoor
