/- sure: the document's example. -/
import Derived.Test.YtikpcfcadddplaaPart
namespace Go.Proofs.Ytikpcfcadddplaa
open Go.RowKit
set_option maxRecDepth 100000
theorem varint_300 : varint 300 = [172, 2] := by
  have h : glen 300 = 2 := by rw [glen_big (by decide), glen_small (by decide)]
  unfold varint
  rw [h]
  simp [List.range_succ, gby, h]
theorem three_in (w : World) : BytesIn (w.alloc (.cells #[.int .u8 172, .int .u8 2, .int .u8 1] 5)) (.slice (some ⟨w.heap.size, 0, none⟩) 3 3) [172, 2, 1] := by
  refine ⟨_, _, rfl, by decide, by decide, .inr ⟨_, _, rfl, fun i x hi => ?_⟩⟩
  rw [Nat.zero_add, cell_of_row _ _ _ _ _ _ (heap_alloc_new w _)]
  match i, hi with
  | 0, hi => cases hi; rfl
  | 1, hi => cases hi; rfl
  | 2, hi => cases hi; rfl
theorem three_ok : bytesOk [172, 2, 1] := by intro x hx; simp at hx; omega
theorem sure_conv (w : World) (v : Value) (h : BytesIn w v [172, 2, 1]) : (convert 25 9 v).run Try.prog w = .ok (.string { data := #[172, 2, 1] }) w := conv_bytes w v _ h
theorem sure_uint : uintS ([172, 2, 1], none) 1000 = (300, [1], none) := by rfl
theorem sure_bool : boolS ([1], none) = (true, [], none) := by rfl
theorem nil_err (w : World) : (binOp .eql 49 .nilIface .nilIface).run Try.prog w = .ok (.bool true) w := by kernel_rfl
theorem new_p (w : World) : Calls Try.prog 6 #[] w fun e w' => ∃ p, e = .returned (.pointer (some ⟨p, 0, none⟩)) ∧ w.heap.size ≤ p ∧ WAt w' p (.slice none 0 0) [] ∧ Below w.heap.size w w' :=
  (new_any w).mono fun _ _ h => ⟨_, h.1, Nat.le_refl _, h.2.1, h.2.2⟩
theorem wuint_300 (p : Nat) (v : Value) (w : World) (hw : WAt w p v []) : Calls Try.prog 9 #[.pointer (some ⟨p, 0, none⟩), .int .u64 300] w (WPost p v [] [172, 2] w) := by
  have := wuint_any p v [] 300 w hw (by omega) (by decide)
  rw [varint_300] at this
  exact this
theorem ruint_1000 (p : Nat) (w : World) (h : RS w p ([172, 2, 1], none)) :
    Calls Try.prog 17 #[.pointer (some ⟨p, 0, none⟩), .int .u64 1000] w fun r w' => r = .returned (.int .u64 300) ∧ RS w' p ([1], none) ∧ Only p w w' := by
  have := uint_any p _ 1000 w h
  rw [sure_uint] at this
  exact this
theorem rbool_1 (p : Nat) (w : World) (h : RS w p ([1], none)) :
    Calls Try.prog 19 #[.pointer (some ⟨p, 0, none⟩)] w fun r w' => r = .returned (.bool true) ∧ RS w' p ([], none) ∧ Only p w w' := by
  have := bool_any p _ w h
  rw [sure_bool] at this
  exact this
theorem rdone_nil (p : Nat) (w : World) (h : RS w p ([], none)) : Calls Try.prog 23 #[.pointer (some ⟨p, 0, none⟩)] w fun r w' => r = .returned .nilIface ∧ w' = w :=
  rdone_any p _ w h
set_option maxRecDepth 100000 in
set_option maxHeartbeats 1000000 in
theorem sure_any (w : World) : Calls Try.prog 14 #[] w fun e w' => e = .returned (.bool true) ∧ Below w.heap.size w w' := by
  go_enter Try.func14, Try.ntmps14
  go_wp2_with (first
    | (go_at_call 6; (with_reducible refine (new_p _).mono ?_); rintro e w1 ⟨p, rfl, hp, HW, HB⟩; replace hp := Lib.hid hp; replace HW := Lib.hid HW; replace HB := Lib.hid HB)
    | (go_at_call 9; (with_reducible refine (wuint_300 p _ _ HW.out).mono ?_); rintro e w2 ⟨rfl, v2, HW2, HS2⟩; replace HW2 := Lib.hid HW2; have HB2 := Lib.hid (HB.out.trans (HS2.below HW.out hp.out)); clear HS2)
    | (go_at_call 13; (with_reducible refine (wbool_any p _ _ true _ HW2.out (by decide)).mono ?_); rintro e w3 ⟨rfl, v3, HW3, HS3⟩; replace HW3 := Lib.hid HW3; have HB3 := Lib.hid (HB2.out.trans (HS3.below HW2.out hp.out)); clear HS3)
    | (go_at_call 16; have HT := three_in w3; have HBA := below_alloc w3 (.cells #[.int .u8 172, .int .u8 2, .int .u8 1] 5); have HW4 := Lib.hid (HW3.out.below HBA); (with_reducible refine (read_any _ [172, 2, 1] _ HT three_ok (by decide)).mono ?_); rintro e w5 ⟨q, y, rfl, hq, HR, HB5⟩; replace hq := Lib.hid hq; have HW5 := Lib.hid (HW4.out.below HB5); have HB6 := Lib.hid (HB3.out.trans ((HBA.mono HB3.out.size).trans (HB5.mono (Nat.le_trans HB3.out.size HBA.size)))); replace HR := Lib.hid (show RS w5 q ([172, 2, 1], none) from ⟨y, HR⟩); clear HT HBA HB5)
    | (go_at_call 8; (with_reducible refine (done_any p _ _ _ HW5.out (by decide)).mono ?_); rintro e w6 ⟨v6, rfl, HO6, HB7⟩; have hcv := sure_conv w6 v6 (owns_in HO6 (by decide)); obtain ⟨y, hy⟩ := HR.out; replace HR := Lib.hid (show RS w6 q ([172, 2, 1], none) from ⟨y, hy.below HB7⟩); have HB8 := Lib.hid (HB6.out.trans (HB7.mono HB6.out.size)); clear hy HO6 HB7)
    | (go_at_call 17; (with_reducible refine (ruint_1000 q _ HR.out).mono ?_); rintro e w7 ⟨rfl, HR7, HO7⟩; replace HR7 := Lib.hid HR7; replace HO7 := Lib.hid HO7)
    | (go_at_call 19; (with_reducible refine (rbool_1 q _ HR7.out).mono ?_); rintro e w8 ⟨rfl, HR8, HO8⟩; replace HR8 := Lib.hid HR8; replace HO8 := Lib.hid HO8)
    | (go_at_call 23; (with_reducible refine (rdone_nil q _ HR8.out).mono ?_); rintro e w9 ⟨rfl, rfl⟩))
  go_ret
  have h1 := hq.out
  rw [size_alloc] at h1
  have h2 := HB3.out.size
  have h3 := HB8.out.size
  exact ⟨rfl, (HB8.out.trans (HO7.out.below (by omega) h3)).trans (HO8.out.below (by omega) (Nat.le_trans h3 HO7.out.size))⟩
#print axioms sure_any
end Go.Proofs.Ytikpcfcadddplaa
