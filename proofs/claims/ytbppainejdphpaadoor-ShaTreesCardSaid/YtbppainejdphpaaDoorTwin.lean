/- twin: bytes of one's own. -/
import Derived.Test.YtbppainejdphpaaDoorApp
namespace Go.Proofs.YtbppainejdphpaaDoor
open Go.RowKit
set_option maxRecDepth 100000
theorem twin_any (y : Value) (ys : List Int) (w : World) (hy : BytesIn w y ys) (hl : ys.length ≤ 140737488355328) :
    Calls Tryd.prog 8 #[y] w fun e w' => ∃ v', e = .returned v' ∧ w'.ownsRow w.heap.size 5 1 v' ys.length (byteVals ys) ∧ Below w.heap.size w w' := by
  have HY := Lib.hid hy
  have HL := Lib.hid hl
  have HO := Lib.hid (World.ownsRow_nil w w.heap.size 5 1)
  have HB := Lib.hid (Below.refl w.heap.size w)
  clear hy hl
  go_enter Tryd.func8, Tryd.ntmps8
  go_wp2_with (at_builtin; refine wpList_append_bytes rfl (.tmp 4) (.tmp 5) rfl rfl w.heap.size _ 0 [] rfl HO.out _ ys rfl HY.out (by have := HL.out; omega) (Nat.le_refl _) ?_; intro v' w1 ho hg _; have H := Lib.hid ho; have HB1 := Lib.hid (HB.out.grown hg (Nat.le_refl _) (fun k hk => by cases hk)); clear ho hg)
  go_ret
  refine ⟨_, rfl, ?_, HB1.out⟩
  have := H.out
  rw [Nat.zero_add, List.nil_append] at this
  exact this
end Go.Proofs.YtbppainejdphpaaDoor
