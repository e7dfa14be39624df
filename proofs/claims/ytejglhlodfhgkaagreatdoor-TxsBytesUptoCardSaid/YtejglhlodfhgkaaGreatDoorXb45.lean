/- Part 45 of the proof. -/
import Derived.Test.YtejglhlodfhgkaaGreatDoorXb38
import Derived.Test.YtejglhlodfhgkaaGreatDoorXb40
import Derived.Test.YtejglhlodfhgkaaGreatDoorXb43
import Derived.Test.YtejglhlodfhgkaaGreatDoorXb44
namespace Go.Proofs.YtejglhlodfhgkaaGreatDoor
set_option linter.unusedVariables false
set_option linter.unusedSimpArgs false
open Go.RowKit
set_option maxRecDepth 100000
set_option linter.unusedSimpArgs false
set_option linter.unusedVariables false
theorem TrBk.sm {w : World} {B : Nat} {x : Tr} (h : TrBk w B x) (hB : B ≤ 1048576) : TrSm x :=
  ⟨Nat.le_trans h.nm hB, Nat.le_trans h.ns hB, fun m hm => ⟨Nat.le_trans (h.ok m hm).nt hB, Nat.le_trans (h.ok m hm).ni hB, Nat.le_trans (h.ok m hm).nd hB, fun t ht => Nat.le_trans (Nat.le_trans (mem_sum_le (List.mem_map.2 ⟨t, ht, rfl⟩)) (h.ok m hm).sd) hB⟩⟩
/-- a transaction whose Sign, number and amount are others -/
theorem TrE.with15 {w : World} {y : Tr} (h : TrE w y) {v : Value} {g : List Int} (hv : BytesIn w v g) (s a : Int) : TrE w { y with sv := v, sg := g, seq := s, amt := a } := ⟨h.m, h.e, hv⟩
theorem TrFl.with15 {y : Tr} (h : TrFl y) {s a : Int} (hs : i64b s) (ha : i64b a) (v : Value) (g : List Int) : TrFl { y with sv := v, sg := g, seq := s, amt := a } := ⟨hs, ha, h.m⟩
/-- what stands still while the law goes on: the argument's copy, the table, the argument -/
structure BkM (w : World) (p5 : Nat) (CX : Array Value) (x : Tr) (wr : World) : Prop where
  b : Below w.heap.size w wr
  r : wr.heap[p5]? = some (.cells CX 27 (0, 0))
  x : TrE wr x
  t : ShTab wr
theorem BkM.call {w : World} {p5 : Nat} {CX : Array Value} {x : Tr} {wr w' : World} (m : BkM w p5 CX x wr) (h : Below wr.heap.size wr w') : BkM w p5 CX x w' :=
  ⟨m.b.trans (h.mono m.b.size), (h.block p5 (bkT_lt m.r)).trans m.r, m.x.below h, m.t.below h m.t.lt⟩
end Go.Proofs.YtejglhlodfhgkaaGreatDoor
