/- coin, the reference: Into, From (written by gencni.py). -/
import Derived.Test.YteokgklfljhcaaaGreatDoorCnX
namespace Go.Proofs.YteokgklfljhcaaaGreatDoor
open Go.RowKit
set_option maxRecDepth 100000
set_option linter.unusedSimpArgs false
set_option linter.unusedVariables false
theorem RiM_start {T : TypeId} {w w1 : World} {pv : Value} {b : ByteArray} {w0 : World} {q : Nat} (m : IoM T w0 q pv b w) (cs : Array Value) (h : w.alloc (.cells cs T) = w1) : IoM T w0 q pv b w1 ∧ w1.heap[w.heap.size]? = some (.cells cs T (0, 0)) ∧ q + 1 < w.heap.size := by
  subst h
  exact ⟨m.call (below_alloc _ _), heap_alloc_new _ _, hlt14 m.res⟩
theorem SsIn.lt {w : World} {v : Value} {l : List ByteArray} (h : SsIn w v l) (hn : l ≠ []) : ∀ k, v.ownBlock = some k → k < w.heap.size := fun k hk => by
  obtain ⟨a, c, rfl, -, -, h3⟩ := h
  rcases h3 with h3 | ⟨ab, ao, rfl, hlt, -⟩
  · exact absurd h3 hn
  · have : ab = k := Option.some.inj hk
    omega
theorem SsIn.onlyE {w w' : World} {v : Value} {l : List ByteArray} {g : Nat} (h : SsIn w v l) (ho : Only g w w') (hn : l ≠ [] → ∀ k, v.ownBlock = some k → k ≠ g) : SsIn w' v l := by
  by_cases e : l = []
  · obtain ⟨a, c, rfl, h1, h2, -⟩ := h
    exact ⟨a, c, rfl, h1, h2, .inl e⟩
  · exact h.only ho (hn e)
end Go.Proofs.YteokgklfljhcaaaGreatDoor
