/- sure: the hash of 'abc' has the text that the document gives. -/
import Derived.Test.YtbppainejdphpaaDoorShEval
import Derived.Lib.SlBytesConst
namespace Go.Proofs.YtbppainejdphpaaDoor
open Go.RowKit
theorem outF_bounds (f : Nat → Int) (i : Nat) : 0 ≤ outF f i ∧ outF f i < 256 := by unfold outF; omega
theorem text_abc (w : World) : Calls Tryd.prog 14 #[.agg (rowOf .u8 32 (sumF [97, 98, 99]))] w fun e w' => e = .returned (.string { data := #[98, 97, 55, 56, 49, 54, 98, 102, 56, 102, 48, 49, 99, 102, 101, 97, 52, 49, 52, 49, 52, 48, 100, 101, 53, 100, 97, 101, 50, 50, 50, 51, 98, 48, 48, 51, 54, 49, 97, 51, 57, 54, 49, 55, 55, 97, 57, 99, 98, 52, 49, 48, 102, 102, 54, 49, 102, 50, 48, 48, 49, 53, 97, 100] }) ∧ Below w.heap.size w w' := by
  have := text_any (sumF [97, 98, 99]) (fun i _ => outF_bounds _ _) w
  rw [abc_text] at this
  exact this
theorem abc_in (w : World) : BytesIn (w.alloc (.cells #[.int .u8 97, .int .u8 98, .int .u8 99] 5 (3, 4))) (.slice (some ⟨w.heap.size, 0, none⟩) 3 3) [97, 98, 99] := by
  refine ⟨_, _, rfl, by decide, by decide, .inr ⟨_, _, rfl, fun i x hi => ?_⟩⟩
  rw [Nat.zero_add, cell_of_row _ _ _ _ _ _ (heap_alloc_new w _)]
  match i, hi with
  | 0, hi => cases hi; rfl
  | 1, hi => cases hi; rfl
  | 2, hi => cases hi; rfl
set_option maxRecDepth 100000 in
set_option maxHeartbeats 400000 in
theorem shsure_any (w : World) (he : Env w) : Calls Tryd.prog 17 #[] w fun e w' => e = .returned (.bool true) ∧ Below w.heap.size w w' := by
  have HE := Lib.hid he
  clear he
  have kc := fun (w : World) (C : Array Value) (n c : Nat) => Lib.run_convert_bytes_const (P := Tryd.prog) w 22 5 C n c Tryd.underlying22 Tryd.underlying5
  go_enter Tryd.func17, Tryd.ntmps17
  have HB1 := Lib.hid (below_alloc w (.cells #[.int .u8 97, .int .u8 98, .int .u8 99] 5 (3, 4)))
  have HX := Lib.hid (abc_in w)
  have HE1 := Lib.hid (HE.out.below HB1.out HE.out.lt)
  go_wp2_with (first
    | (go_at_call 13; (with_reducible refine (shSum_any _ [97, 98, 99] _ HX.out HE1.out).mono ?_); rintro e w2 ⟨rfl, HB2⟩; replace HB2 := Lib.hid HB2)
    | (go_at_call 14; (with_reducible refine (text_abc _).mono ?_); rintro e w3 ⟨rfl, HB3⟩; replace HB3 := Lib.hid HB3))
  go_ret
  exact ⟨by rfl, HB1.out.trans ((HB2.out.mono HB1.out.size).trans (HB3.out.mono (Nat.le_trans HB1.out.size HB2.out.size)))⟩
end Go.Proofs.YtbppainejdphpaaDoor
