/- what lies in memory, kept: a list of facts that no call spoils. -/
import Derived.Test.YteokgklfljhcaaaGreatDoorBase
namespace Go.Proofs.YteokgklfljhcaaaGreatDoor
open Go.RowKit
set_option linter.unusedVariables false
def Kept (X : World → Prop) : Prop := ∀ a b : World, X a → Below a.heap.size a b → X b
structure Kp (w0 w : World) (X : World → Prop) : Prop where
  below : Below w0.heap.size w0 w
  x : X w
  kept : Kept X
theorem Kp.start (w : World) : Kp w w (fun _ => True) := ⟨Below.refl _ _, trivial, fun _ _ h _ => h⟩
theorem Kp.call {w0 w w' : World} {X : World → Prop} (m : Kp w0 w X) (h : Below w.heap.size w w') : Kp w0 w' X := ⟨m.below.trans (h.mono m.below.size), m.kept _ _ m.x h, m.kept⟩
theorem Kp.add {w0 w : World} {X Y : World → Prop} (m : Kp w0 w X) (hy : Y w) (hk : Kept Y) : Kp w0 w (fun w => X w ∧ Y w) := ⟨m.below, ⟨m.x, hy⟩, fun a b h hb => ⟨m.kept a b h.1 hb, hk a b h.2 hb⟩⟩
theorem Kp.new {w0 w : World} {X : World → Prop} (m : Kp w0 w X) (o : Obj) : Kp w0 (w.alloc o) X := m.call (below_alloc w o)
theorem kept_blk (g : Nat) (o : Obj) : Kept (fun w => w.heap[g]? = some o) := fun a b h hb => (hb.block g (Array.getElem?_eq_some_iff.1 h).1).trans h
theorem Kept.and {X Y : World → Prop} (h : Kept X) (k : Kept Y) : Kept (fun w => X w ∧ Y w) := fun a b x hb => ⟨h a b x.1 hb, k a b x.2 hb⟩
end Go.Proofs.YteokgklfljhcaaaGreatDoor
