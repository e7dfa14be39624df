/- Part 20 of the proof. -/
import Derived.Shelf.Strings.Split
import Derived.OrdersIn
import Derived.RangeFuncCalls
import Derived.TacticsIn
import Derived.RangeFuncNested
import Derived.RangeFuncBound
import Derived.RangeFuncLeaves
import Derived.RangeFuncFrom
import Derived.RangeFuncBox
import Derived.Shelf.Abstract
import Derived.Shelf.RegionOpen
import Derived.WalkKit
import Derived.OwnWalkIn
import Derived.TacticsInMore
import Derived.LoopNIn
import Derived.LoopIn
import Derived.Sort.CutIn
import Derived.Great.BuildSlice
import Derived.Test.YtejglhlodfhgkaaGreatDoorXv1
import Derived.Test.YtejglhlodfhgkaaGreatDoorXv2
import Derived.Test.YtejglhlodfhgkaaGreatDoorXv4
namespace Go.Proofs.YtejglhlodfhgkaaGreatDoor
set_option linter.unusedVariables false
set_option linter.unusedSimpArgs false
open Go.RowKit Go.Shelf
set_option maxRecDepth 100000
set_option linter.unusedSimpArgs false
set_option linter.unusedVariables false
def slash : ByteArray := { data := #[47] }
end Go.Proofs.YtejglhlodfhgkaaGreatDoor
namespace Go.Proofs.YtejglhlodfhgkaaGreatDoor
set_option linter.unusedVariables false
set_option linter.unusedSimpArgs false
section
variable {P : Program} {n : Nat}
end
end Go.Proofs.YtejglhlodfhgkaaGreatDoor
namespace Go.Proofs.YtejglhlodfhgkaaGreatDoor
set_option linter.unusedVariables false
set_option linter.unusedSimpArgs false
open Go.RowKit
theorem wpList_min2 {P : Program} {w : World} {ops : Array Oper} {rest : List Oper} {o : Oper} {a : Act} {Q : Exit → Act → World → Prop} (hgd : o.guard = none) (x y : Operand) (t : TypeId)
    (ho : o.op = .call { callee := .builtin .min, args := #[x, y], argTypes := #[t, t] }) (p q : Int) (hx : a.eval x = .int .i64 p) (hy : a.eval y = .int .i64 q) (r : Int) (hr : min p q = r)
    (h : wpList P ops Q rest (a.put o.dst (.int .i64 r)) w) : wpList P ops Q (o :: rest) a w := by
  refine wpList_plain hgd fun K hK => ?_
  have hrun := run_min_int2 (P := P) (w := w) #[t, t] o.type .i64 .i64 p q
  rw [show (if q < p then q else p) = r by rw [← hr]; split <;> omega] at hrun
  unfold Oper.wp
  simp only [execOp, ho, resolve, invoke, builtin, Sem.run_bind, Sem.run_pure, Result.andThen_ok, List.map_toArray, List.map_cons, List.map_nil, hx, hy, hrun]
  exact hK _ _ h
theorem wpList_max2 {P : Program} {w : World} {ops : Array Oper} {rest : List Oper} {o : Oper} {a : Act} {Q : Exit → Act → World → Prop} (hgd : o.guard = none) (x y : Operand) (t : TypeId)
    (ho : o.op = .call { callee := .builtin .max, args := #[x, y], argTypes := #[t, t] }) (p q : Int) (hx : a.eval x = .int .i64 p) (hy : a.eval y = .int .i64 q) (r : Int) (hr : max p q = r)
    (h : wpList P ops Q rest (a.put o.dst (.int .i64 r)) w) : wpList P ops Q (o :: rest) a w := by
  refine wpList_plain hgd fun K hK => ?_
  have hrun := run_max_int2 (P := P) (w := w) #[t, t] o.type .i64 .i64 p q
  rw [show (if p < q then q else p) = r by rw [← hr]; split <;> omega] at hrun
  unfold Oper.wp
  simp only [execOp, ho, resolve, invoke, builtin, Sem.run_bind, Sem.run_pure, Result.andThen_ok, List.map_toArray, List.map_cons, List.map_nil, hx, hy, hrun]
  exact hK _ _ h
end Go.Proofs.YtejglhlodfhgkaaGreatDoor
namespace Go.Proofs.YtejglhlodfhgkaaGreatDoor
set_option linter.unusedVariables false
set_option linter.unusedSimpArgs false
open Go.RowKit Go.Shelf
set_option maxRecDepth 100000
set_option linter.unusedSimpArgs false
set_option linter.unusedVariables false
attribute [local go_sem] Oper.semAt_some
/-- what a round keeps: all below n₀, and these blocks -/
structure KpS (n₀ : Nat) (bs : List Nat) (W W' : World) : Prop where
  below : Below n₀ W W'
  box : ∀ B ∈ bs, ∀ o, W.heap[B]? = some o → W'.heap[B]? = some o
theorem KpS.refl (n₀ : Nat) (bs : List Nat) (W : World) : KpS n₀ bs W W := ⟨Below.refl _ _, fun _ _ _ h => h⟩
theorem KpS.trans {n₀ : Nat} {bs : List Nat} {A B C : World} (h : KpS n₀ bs A B) (k : KpS n₀ bs B C) : KpS n₀ bs A C := ⟨h.below.trans k.below, fun b hb o ho => k.box b hb o (h.box b hb o ho)⟩
end Go.Proofs.YtejglhlodfhgkaaGreatDoor
namespace Go.Proofs.YtejglhlodfhgkaaGreatDoor
set_option linter.unusedVariables false
set_option linter.unusedSimpArgs false
open Go.RowKit Go.Shelf
set_option maxRecDepth 100000
set_option linter.unusedSimpArgs false
set_option linter.unusedVariables false
attribute [local go_sem] Oper.semAt_some
section
variable {s : ByteArray} {w W W' : World} {L cap : Nat} {base : ByteArray} {pv : Value} {path : List ByteArray}
end
end Go.Proofs.YtejglhlodfhgkaaGreatDoor
namespace Go.Proofs.YtejglhlodfhgkaaGreatDoor
set_option linter.unusedVariables false
set_option linter.unusedSimpArgs false
open Go.RowKit
set_option maxRecDepth 100000
set_option linter.unusedSimpArgs false
set_option linter.unusedVariables false
theorem bytes_ext14 {a b : ByteArray} (h : a.data.toList = b.data.toList) : a = b := by
  cases a; cases b; congr; exact Array.toList_inj.1 h
theorem ext_data14 (s : ByteArray) (i j : Nat) : (s.extract i j).data.toList = (s.data.toList.take j).drop i := by
  rw [ByteArray.data_extract, Array.toList_extract, List.extract_eq_take_drop, List.drop_take]
end Go.Proofs.YtejglhlodfhgkaaGreatDoor
namespace Go.Proofs.YtejglhlodfhgkaaGreatDoor
set_option linter.unusedVariables false
set_option linter.unusedSimpArgs false
open Go.RowKit
set_option maxRecDepth 100000
set_option linter.unusedSimpArgs false
set_option linter.unusedVariables false
end Go.Proofs.YtejglhlodfhgkaaGreatDoor
namespace Go.Proofs.YtejglhlodfhgkaaGreatDoor
set_option linter.unusedVariables false
set_option linter.unusedSimpArgs false
open Go.RowKit
set_option maxRecDepth 100000
set_option linter.unusedSimpArgs false
set_option linter.unusedVariables false
end Go.Proofs.YtejglhlodfhgkaaGreatDoor
namespace Go.Proofs.YtejglhlodfhgkaaGreatDoor
set_option linter.unusedVariables false
set_option linter.unusedSimpArgs false
open Go.RowKit
set_option maxRecDepth 100000
set_option linter.unusedSimpArgs false
set_option linter.unusedVariables false
theorem SsIn.lt {w : World} {v : Value} {l : List ByteArray} (h : SsIn w v l) (hn : l ≠ []) : ∀ k, v.ownBlock = some k → k < w.heap.size := fun k hk => by
  obtain ⟨a, c, rfl, -, -, h3⟩ := h
  rcases h3 with h3 | ⟨ab, ao, rfl, hlt, -⟩
  · exact absurd h3 hn
  · have : ab = k := Option.some.inj hk
    omega
end Go.Proofs.YtejglhlodfhgkaaGreatDoor
namespace Go.Proofs.YtejglhlodfhgkaaGreatDoor
set_option linter.unusedVariables false
set_option linter.unusedSimpArgs false
open Go.RowKit Go.Shelf
set_option maxRecDepth 100000
set_option linter.unusedSimpArgs false
set_option linter.unusedVariables false
attribute [local go_sem] Oper.semAt_some
section
variable {w W W' : World} {b : ByteArray} {pv : Value} {path : List ByteArray}
end
end Go.Proofs.YtejglhlodfhgkaaGreatDoor
namespace Go.Proofs.YtejglhlodfhgkaaGreatDoor
set_option linter.unusedVariables false
set_option linter.unusedSimpArgs false
open Go.RowKit
set_option maxRecDepth 100000
set_option linter.unusedSimpArgs false
set_option linter.unusedVariables false
def amt (x : Int) : Prop := 0 ≤ x ∧ x ≤ 1152921504606846976
instance (x : Int) : Decidable (amt x) := by unfold amt; infer_instance
end Go.Proofs.YtejglhlodfhgkaaGreatDoor
namespace Go.Proofs.YtejglhlodfhgkaaGreatDoor
set_option linter.unusedVariables false
set_option linter.unusedSimpArgs false
open Go.RowKit
set_option maxRecDepth 100000
set_option linter.unusedSimpArgs false
set_option linter.unusedVariables false
end Go.Proofs.YtejglhlodfhgkaaGreatDoor
namespace Go.Proofs.YtejglhlodfhgkaaGreatDoor
set_option linter.unusedVariables false
set_option linter.unusedSimpArgs false
open Go.RowKit
set_option linter.unusedVariables false
def Kept (X : World → Prop) : Prop := ∀ a b : World, X a → Below a.heap.size a b → X b
structure Kp (w0 w : World) (X : World → Prop) : Prop where
  below : Below w0.heap.size w0 w
  x : X w
  kept : Kept X
theorem Kp.start (w : World) : Kp w w (fun _ => True) := ⟨Below.refl _ _, trivial, fun _ _ h _ => h⟩
theorem Kp.call {w0 w w' : World} {X : World → Prop} (m : Kp w0 w X) (h : Below w.heap.size w w') : Kp w0 w' X := ⟨m.below.trans (h.mono m.below.size), m.kept _ _ m.x h, m.kept⟩
theorem Kp.add {w0 w : World} {X Y : World → Prop} (m : Kp w0 w X) (hy : Y w) (hk : Kept Y) : Kp w0 w (fun w => X w ∧ Y w) := ⟨m.below, ⟨m.x, hy⟩, fun a b h hb => ⟨m.kept a b h.1 hb, hk a b h.2 hb⟩⟩
theorem Kp.new {w0 w : World} {X : World → Prop} (m : Kp w0 w X) (o : Obj) : Kp w0 (w.alloc o) X := m.call (below_alloc w o)
theorem Kept.and {X Y : World → Prop} (h : Kept X) (k : Kept Y) : Kept (fun w => X w ∧ Y w) := fun a b x hb => ⟨h a b x.1 hb, k a b x.2 hb⟩
end Go.Proofs.YtejglhlodfhgkaaGreatDoor
namespace Go.Proofs.YtejglhlodfhgkaaGreatDoor
set_option linter.unusedVariables false
set_option linter.unusedSimpArgs false
open Go.RowKit
set_option maxRecDepth 100000
set_option linter.unusedSimpArgs false
set_option linter.unusedVariables false
/-- a trace in a block -/
structure TrV (T : TypeId) (g : Nat) (v : Value) (b : ByteArray) (l : List ByteArray) (w : World) : Prop where
  r : w.heap[g]? = some (.cells (trC v b) T (0, 0))
  s : SsIn w v l
end Go.Proofs.YtejglhlodfhgkaaGreatDoor
