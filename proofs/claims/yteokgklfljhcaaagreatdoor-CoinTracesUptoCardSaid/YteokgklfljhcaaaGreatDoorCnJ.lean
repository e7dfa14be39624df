/- CoinWays: the walk. -/
import Derived.Test.YteokgklfljhcaaaGreatDoorCnI
import Derived.Test.YteokgklfljhcaaaGreatDoorCnU
import Derived.Test.YteokgklfljhcaaaGreatDoorKeep
namespace Go.Proofs.YteokgklfljhcaaaGreatDoor
open Go.RowKit
set_option maxRecDepth 100000
set_option linter.unusedSimpArgs false
set_option linter.unusedVariables false
theorem wpList_load_rowG {P : Program} {ops : Array Oper} {rest : List Oper} {o : Oper} {a : Act} {w : World} {Q : Exit → Act → World → Prop} (hgd : Region.wanted o (yielded ops a.tmps) = true) (ty : TypeId) (x : Operand) (ho : o.op = .load ty x)
    (g : Nat) (hx : a.eval x = .pointer (some ⟨g, 0, none⟩)) (t : TypeId) (cs : Array Value) (fr : Nat × Nat) (d : TypeDesc) (hg : w.heap[g]? = some (.cells cs t fr))
    (hu : P.underlying ty = some d) (hd : (match d with | .struct _ | .array _ _ => true | _ => false) = true) (hi : (P.info? ty).map (·.size) = some cs.size)
    (h : wpList P ops Q rest (a.put o.dst (.agg cs)) w) : wpList P ops Q (o :: rest) a w :=
  BigFrame.wpList_want hgd fun _ hK => wp_load_row ty x ho g hx t cs fr d hg hu hd hi (hK _ _ h)
/-- a trace in a block -/
structure TrV (T : TypeId) (g : Nat) (v : Value) (b : ByteArray) (l : List ByteArray) (w : World) : Prop where
  r : w.heap[g]? = some (.cells (trC v b) T (0, 0))
  s : SsIn w v l
theorem kept_trv (T : TypeId) (g : Nat) (v : Value) (b : ByteArray) (l : List ByteArray) : Kept (TrV T g v b l) := fun _ _ m h => ⟨(h.block _ (hlt14 m.r)).trans m.r, m.s.below h⟩
def SsV (v : Value) (l : List ByteArray) (w : World) : Prop := SsIn w v l
theorem kept_ssv (v : Value) (l : List ByteArray) : Kept (SsV v l) := fun _ _ m h => SsIn.below m h
theorem SsIn.sl {w : World} {v : Value} {l : List ByteArray} (h : SsIn w v l) : ∃ a n c, v = .slice a n c := by
  obtain ⟨a, c, e, -⟩ := h
  exact ⟨_, _, _, e⟩
end Go.Proofs.YteokgklfljhcaaaGreatDoor
