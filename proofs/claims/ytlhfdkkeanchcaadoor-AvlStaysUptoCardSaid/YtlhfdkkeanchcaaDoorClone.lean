/- bytes.Clone; Done of a Writer. -/
import Derived.Test.YtlhfdkkeanchcaaDoorAdd
namespace Go.Proofs.YtlhfdkkeanchcaaDoor
open Go.RowKit
set_option maxRecDepth 100000
theorem done_any (p : Nat) (v : Value) (xs : List Int) (w : World) (hw : WAt w p v xs) (hl : xs.length ≤ 140737488355328) :
    Calls Tryd.prog 49 #[.pointer (some ⟨p, 0, none⟩)] w fun e w' => ∃ v', e = .returned v' ∧ w'.ownsRow w.heap.size 5 1 v' xs.length (byteVals xs) ∧ Below w.heap.size w w' := by
  have HV := Lib.hid (owns_in hw.2 (by unfold maxLen; omega))
  have HL := Lib.hid hl
  have hc := hw.cell
  clear hw hl
  go_enter Tryd.func49, Tryd.ntmps49
  go_wp2_with (go_at_call 79; (with_reducible refine (clone_any v xs _ HV.out HL.out).mono ?_); rintro e w1 ⟨v', rfl, ho, hb⟩; have H := Lib.hid ho; have HB := Lib.hid hb; clear ho hb)
  go_ret
  exact ⟨_, rfl, H.out, HB.out⟩
end Go.Proofs.YtlhfdkkeanchcaaDoor
