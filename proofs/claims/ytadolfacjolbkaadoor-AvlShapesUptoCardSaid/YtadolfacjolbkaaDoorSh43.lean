/- Part 43 of the proof. -/
import Derived.Test.YtadolfacjolbkaaDoorSh23
namespace Go.Proofs.YtadolfacjolbkaaDoor
set_option linter.unusedVariables false
set_option linter.unusedSimpArgs false
open Go.RowKit
set_option maxRecDepth 100000
set_option linter.unusedSimpArgs false
set_option linter.unusedVariables false
abbrev sB (n : UInt8) : ByteArray := { data := #[n] }
theorem blB (a b : UInt8) : bl (sB a) (sB b) = (a < b || (a == b && false)) := by
  unfold bl
  rw [ByteArray.toList_eq, ByteArray.toList_eq]
  rfl
def sT1 : AvT := .leaf (sB 98) (sB 49)
def sT2 : AvT := .node (.leaf (sB 97) (sB 50)) (.leaf (sB 98) (sB 49))
def sT3 : AvT := .node (.leaf (sB 97) (sB 50)) (.node (.leaf (sB 98) (sB 49)) (.leaf (sB 99) (sB 51)))
theorem neB {a b : UInt8} (h : a ≠ b) : sB a ≠ sB b := fun e => h (by injection e with e; simpa using e)
theorem sT2_eq : setO (some sT1) (sB 97) (sB 50) = sT2 := by
  show AvT.set _ _ (.leaf _ _) = _
  rw [AvT.set, if_neg (neB (by decide)), if_pos (by rw [blB]; decide)]
  rfl
theorem sT3_eq : setO (some sT2) (sB 99) (sB 51) = sT3 := by
  show AvT.set _ _ (.node _ _) = _
  rw [AvT.set, if_neg (show ¬ bl (sB 99) (AvT.leaf (sB 98) (sB 49)).least = true by rw [show (AvT.leaf (sB 98) (sB 49)).least = sB 98 from rfl, blB]; decide), AvT.set, if_neg (neB (by decide)), if_neg (by rw [blB]; decide)]
  rfl
theorem sT3_get : getO (some sT3) (sB 97) = some (sB 50) := by
  show AvT.get _ (.node _ _) = _
  rw [AvT.get, if_pos (show bl (sB 97) (AvT.node (.leaf (sB 98) (sB 49)) (.leaf (sB 99) (sB 51))).least = true by rw [show (AvT.node (.leaf (sB 98) (sB 49)) (.leaf (sB 99) (sB 51))).least = sB 98 from rfl, blB]; decide), AvT.get, if_pos rfl]
set_option maxHeartbeats 2000000 in
theorem avsure_any (w : World) (he : Env w) : Calls Tryd.prog 5 #[] w fun e w' => e = .returned (.bool true) ∧ Below w.heap.size w w' := by
  have H1 := Lib.hid (set_nil (sB 98) (sB 49) w he (by decide))
  have H2 := Lib.hid (fun w g (he : Env w) (h : TreeAt w g sT1) => set_any (.pointer (some ⟨g, 0, none⟩)) (some sT1) (sB 97) (sB 50) w he h.toO (by decide) (by decide))
  have H3 := Lib.hid (fun w g (he : Env w) (h : TreeAt w g sT2) => set_any (.pointer (some ⟨g, 0, none⟩)) (some sT2) (sB 99) (sB 51) w he h.toO (by decide) (by decide))
  have H4 := Lib.hid (fun w g (h : TreeAt w g sT3) => get_any (.pointer (some ⟨g, 0, none⟩)) (sB 97) (some sT3) w h.toO)
  have H5 := Lib.hid (fun w g (h : TreeAt w g sT3) => len_some w h)
  have H6 := Lib.hid (fun w g (h : TreeAt w g sT3) => height_some w h)
  rw [show AvT.leaf (sB 98) (sB 49) = sT1 from rfl] at H1
  rw [sT2_eq] at H2
  rw [sT3_eq] at H3
  rw [sT3_get] at H4
  rw [show (sT3.many : Int) = 3 from rfl] at H5
  rw [show (sT3.height : Int) = 3 from rfl] at H6
  have HE := Lib.hid he
  have hk : ((sB 50).toList == (sB 50).toList) = true := by simp
  clear he
  go_enter Tryd.func5, Tryd.ntmps5
  go_wp2_with (first
    | (go_at_call 25; (with_reducible refine H1.out.mono ?_); rintro e w1 ⟨g1, rfl, ht, hb⟩; have HT := Lib.hid ht; have HB := Lib.hid hb; clear ht hb)
    | (go_at_call 25; (with_reducible refine (H2.out _ g1 (HE.out.below HB.out HE.out.lt) HT.out).mono ?_); rintro e w2 ⟨g2, rfl, ht, hb⟩; replace HT := Lib.hid ht; replace HB := Lib.hid (HB.out.trans (hb.mono HB.out.size)); clear ht hb)
    | (go_at_call 25; (with_reducible refine (H3.out _ g2 (HE.out.below HB.out HE.out.lt) HT.out).mono ?_); rintro e w3 ⟨g3, rfl, ht, hb⟩; replace HT := Lib.hid ht; replace HB := Lib.hid (HB.out.trans (hb.mono HB.out.size)); clear ht hb)
    | (go_at_call 26; (with_reducible refine (H4.out _ g3 HT.out).mono ?_); rintro e w4 ⟨rfl, rfl⟩; rw [show strO (some (sB 50)) = sB 50 from rfl, show (some (sB 50)).isSome = true from rfl])
    | (go_at_call 14; (with_reducible refine (H5.out _ g3 HT.out).mono ?_); rintro e w5 ⟨rfl, rfl⟩)
    | (go_at_call 27; (with_reducible refine (H6.out _ g3 HT.out).mono ?_); rintro e w6 ⟨rfl, rfl⟩))
  go_ret
  exact ⟨rfl, HB.out⟩
end Go.Proofs.YtadolfacjolbkaaDoor
