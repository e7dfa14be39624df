/- Part 44 of the proof. -/
import Derived.BigQuiet
import Derived.Test.YtjocbpabbbdkcaaDoorRu29
import Derived.Test.YtjocbpabbbdkcaaDoorRu30
import Derived.Test.YtjocbpabbbdkcaaDoorRu33
import Derived.Test.YtjocbpabbbdkcaaDoorRu39
import Derived.Test.YtjocbpabbbdkcaaDoorRu42
import Derived.Test.YtjocbpabbbdkcaaDoorRu43
namespace Go.Proofs.YtjocbpabbbdkcaaDoor
set_option linter.unusedVariables false
set_option linter.unusedSimpArgs false
open Go.RowKit
set_option maxRecDepth 100000
set_option linter.unusedSimpArgs false
set_option linter.unusedVariables false
theorem StIn.of_own7 {w : World} {B : Nat} {v : Value} {l : List AvS} (h : w.ownsRow B 53 34 v l.length (flatSt l)) : StIn w v l := by
  rcases h.2 with ⟨rfl, h0⟩ | ⟨tb, cap, cur, rfl, _, hh, hc, hm, _⟩
  · exact ⟨none, 0, by rw [h0], by omega, by simp [maxLen]; omega, .inl (List.eq_nil_of_length_eq_zero h0)⟩
  · refine ⟨_, cap, rfl, hc, Nat.le_trans hc hm, .inr ⟨tb, 0, rfl, (Array.getElem?_eq_some_iff.1 hh).1, fun i s hi j u hu => ?_⟩⟩
    have hj : j < 34 := by have := (List.getElem?_eq_some_iff.1 hu).1; rw [AvS.cells_length] at this; exact this
    have e1 := h.cells (g := tb) rfl (i * 34 + j) u (by rw [flatSt_get l i s hi j hj]; exact hu)
    rw [Addr.add_mid] at e1
    rw [show 0 + i * 34 + j = 0 + (i * 34 + j) by omega]; exact e1
theorem ownsRow_set {w : World} {B g : Nat} {t : TypeId} {n m : Nat} {v : Value} {xs : List Value} {cs : Array Value} (h : w.ownsRow B t n v m xs) (hg : g < B) : (w.setRow g cs).ownsRow B t n v m xs :=
  ⟨h.1, h.2.imp id fun ⟨b, cap, cur, e, h0, hb, r⟩ => ⟨b, cap, cur, e, h0, (setRow_other _ _ _ _ (by omega)).trans hb, r⟩⟩
theorem wpList_eql32 {w : World} {ops : Array Oper} {rest : List Oper} {o : Oper} {a : Act} {Q : Exit → Act → World → Prop} (hw : Region.wanted o (yielded ops a.tmps) = true) (x y : Operand) (ho : o.op = .binOp .eql 50 x y 50) (f : Nat → Int)
    (hx : a.eval x = .agg (rowOf .u8 32 f)) (hy : a.eval y = .agg (rowOf .u8 32 f)) (h : wpList Tryd.prog ops Q rest (a.put o.dst (.bool true)) w) : wpList Tryd.prog ops Q (o :: rest) a w :=
  BigFrame.wpList_want hw fun K hK => by
    have hk := hK _ _ h
    have h1 := eqIn32_self f w
    unfold Oper.wp execOp
    simp only [ho, hx, hy]
    go_simp
    exact hk
theorem st_yields {ops : Array Oper} {S : World → Prop} {op : Oper} {a : Act} (hw : Region.wanted op (yielded ops a.tmps) = true) (ty : TypeId) (x : Operand) (ho : op.op = .load ty x)
    (b o : Nat) (hx : a.eval x = .pointer (some ⟨b, o, none⟩)) (s : AvS) (d : TypeDesc) (hS : ∀ w, S w → w.rangeAt b o s.cells)
    (hu : Tryd.prog.underlying ty = some d) (hd : d.isRow = true) (hi : (Tryd.prog.info? ty).map (·.size) = some 34) : YieldsIf Tryd.prog ops S op (.agg (stC s)) a := by
  have h := yieldsIf_load_mid (P := Tryd.prog) (S := S) hw ty x ho b o hx s.cells d hS hu hd (by rw [hi, AvS.cells_length])
  unfold AvS.cells at h
  simpa using h
theorem execStep {w : World} {o : Oper} {ρ : Operand → Value} (x y : Operand) (ho : o.op = .binOp .neq 52 x y 52) (s : AvS) (hx : ρ x = .agg (stC s)) (hy : ρ y = .agg (stC s)) : (execOp ρ o).run Tryd.prog w = .ok (.value (.bool false)) w := by
  have hb := neqStep_self s w
  have hg : (eqGuard .neq 52 x y (.agg (stC s)) (.agg (stC s))).run Tryd.prog w = .ok () w := by
    have h1 : Tryd.prog.eqGuardType Tryd.prog.depth 52 = false := by kernel_rfl
    unfold eqGuard
    go_simp
  unfold execOp
  simp only [ho, hx, hy, Sem.run_bind, hg, hb, Result.andThen_ok, Sem.run_pure]
theorem zeroH_built : Tryd.prog.built 50 [] = some (rowOf .u8 32 fun _ => 0) := by kernel_rfl
/-- what lies in memory while AvlRuns goes on: what is asked, both trees, and whatever else calls leave -/
structure RuM (w w' : World) (ga g6 : Nat) (K T : ByteArray) (P : Int) (p : Option Addr) (t : Option AvT) (cs : Array Value) (X : World → Prop) : Prop where
  below : Below w.heap.size w w'
  ask : w'.heap[ga]? = some (.cells #[.string K, .string T, .int .i64 P] 24 (0, 0))
  tree : TreeO w' (.pointer p) t
  h6 : w'.heap[g6]? = some (.cells cs 28 (0, 0))
  ro : RO w' cs t
  x : X w'
  hx : ∀ a b, X a → Below a.heap.size a b → X b
theorem RuM.call {w w' w2 : World} {ga g6 : Nat} {K T : ByteArray} {P : Int} {p : Option Addr} {t : Option AvT} {cs : Array Value} {X : World → Prop} (m : RuM w w' ga g6 K T P p t cs X) (h : Below w'.heap.size w' w2) : RuM w w2 ga g6 K T P p t cs X :=
  ⟨m.below.trans (h.mono m.below.size), (h.block _ (blk_lt m.ask)).trans m.ask, m.tree.below h, (h.block _ (blk_lt m.h6)).trans m.h6, m.ro.below h, m.hx _ _ m.x h, m.hx⟩
theorem RuM.add {w w' : World} {ga g6 : Nat} {K T : ByteArray} {P : Int} {p : Option Addr} {t : Option AvT} {cs : Array Value} {X Y : World → Prop} (m : RuM w w' ga g6 K T P p t cs X) (hy : Y w') (hY : ∀ a b, Y a → Below a.heap.size a b → Y b) : RuM w w' ga g6 K T P p t cs (fun w => X w ∧ Y w) :=
  ⟨m.below, m.ask, m.tree, m.h6, m.ro, ⟨m.x, hy⟩, fun a b h hb => ⟨m.hx a b h.1 hb, hY a b h.2 hb⟩⟩
theorem RuM.cells {w w' : World} {ga g6 : Nat} {K T : ByteArray} {P : Int} {p : Option Addr} {t : Option AvT} {cs : Array Value} {X : World → Prop} (m : RuM w w' ga g6 K T P p t cs X) : w'.cell? ⟨ga, 0, none⟩ = some (.string K) ∧ w'.cell? ⟨ga, 1, none⟩ = some (.string T) ∧ w'.cell? ⟨ga, 2, none⟩ = some (.int .i64 P) :=
  ⟨cell_of_row w' ga 0 _ _ _ m.ask, cell_of_row w' ga 1 _ _ _ m.ask, cell_of_row w' ga 2 _ _ _ m.ask⟩
/-- what the loads of the last region want -/
def ruS (w : World) (ga g6 : Nat) (K T : ByteArray) (cs : Array Value) : Prop :=
  w.cell? ⟨ga, 0, none⟩ = some (.string K) ∧ w.cell? ⟨ga, 1, none⟩ = some (.string T) ∧ w.heap[g6]? = some (.cells cs 28 (0, 0))
theorem ruS_of {w w' : World} {ga g6 : Nat} {K T : ByteArray} {P : Int} {p : Option Addr} {t : Option AvT} {cs : Array Value} {X : World → Prop} (m : RuM w w' ga g6 K T P p t cs X) : ruS w' ga g6 K T cs :=
  ⟨m.cells.1, m.cells.2.1, m.h6⟩
theorem r7_yields {ops : Array Oper} {S : World → Prop} {op : Oper} {a : Act} (hw : Region.wanted op (yielded ops a.tmps) = true) (x : Operand) (ho : op.op = .load 28 x)
    (b : Nat) (hx : a.eval x = .pointer (some ⟨b, 0, none⟩)) (cs : Array Value) (hS : ∀ w, S w → w.heap[b]? = some (.cells cs 28 (0, 0))) (hz : cs.size = 4) : YieldsIf Tryd.prog ops S op (.agg cs) a := by
  have h := yieldsIf_load_mid (P := Tryd.prog) (S := S) hw 28 x ho b 0 hx cs.toList _ (fun w h j v hv => by rw [Nat.zero_add, cell_of_row w b j _ _ _ (hS w h)]; simpa using hv) Tryd.underlying28 rfl (by rw [Array.length_toList, hz]; kernel_rfl)
  simpa using h
end Go.Proofs.YtjocbpabbbdkcaaDoor
