/- coin: a text split at its slashes. -/
import Derived.Test.YteokgklfljhcaaaGreatDoorCnD
import Derived.Shelf.Strings.Split
namespace Go.Proofs.YteokgklfljhcaaaGreatDoor
open Go.RowKit Go.Shelf
set_option maxRecDepth 100000
set_option linter.unusedSimpArgs false
set_option linter.unusedVariables false
def slash : ByteArray := { data := #[47] }
def partsS (s : ByteArray) : List ByteArray := Lib.splitB slash 0 (min 17 (s.size + 1) - 1) s
theorem parts_le (s : ByteArray) : (partsS s).length ≤ 17 := by
  have := Lib.splitB_length_le slash 0 (min 17 (s.size + 1) - 1) s
  unfold partsS
  omega
theorem parts_pos (s : ByteArray) : 1 ≤ (partsS s).length := by
  unfold partsS
  cases min 17 (s.size + 1) - 1 with
  | zero => exact Nat.le_refl _
  | succ k =>
    unfold Lib.splitB
    split
    · exact Nat.le_refl _
    · rw [List.length_cons]; omega
def capS (s : ByteArray) : Nat := min 17 (s.size + 1)
def cellsS (s : ByteArray) : Array Value := Lib.cellsOf (partsS s) (capS s)
theorem parts_cap (s : ByteArray) : (partsS s).length ≤ capS s := by
  have := Lib.splitB_length_le slash 0 (min 17 (s.size + 1) - 1) s
  unfold partsS capS
  omega
theorem parts_in (s : ByteArray) {W : World} {g : Nat} {fr : Nat × Nat} (h : W.heap[g]? = some (.cells (cellsS s) 9 fr)) (L : Nat) (hL : L ≤ (partsS s).length) : SsIn W (.slice (some ⟨g, 0, none⟩) L (capS s)) ((partsS s).take L) := by
  have hlen : ((partsS s).take L).length = L := by rw [List.length_take]; omega
  refine ⟨some ⟨g, 0, none⟩, capS s, by rw [hlen], by rw [hlen]; exact Nat.le_trans hL (parts_cap s), by rw [hlen]; have := parts_le s; unfold maxLen; omega, .inr ⟨g, 0, rfl, (Array.getElem?_eq_some_iff.1 h).1, fun i x hi => ?_⟩⟩
  rw [List.getElem?_take] at hi
  split at hi
  · rw [Nat.zero_add, cell_of_row _ _ _ _ _ _ h]
    unfold cellsS Lib.cellsOf
    rw [← Array.getElem?_toList]
    show (_ ++ _)[i]? = _
    rw [List.getElem?_append_left (by rw [List.length_map]; exact (List.getElem?_eq_some_iff.1 hi).1), List.getElem?_map, hi]
    rfl
  · cases hi
theorem csplit2_any (s : ByteArray) (w : World) (hs : s.size ≤ 4194304) :
    Calls Tryz.prog 86 #[.string s, .string { data := #[47] }, .int .i64 17] w fun e w' => e = .returned (.slice (some ⟨w.heap.size, 0, none⟩) (partsS s).length (capS s)) ∧ w' = w.alloc (.cells (cellsS s) 9) := by
  have hN : ((min 17 (s.size + 1) : Nat) : Int) = min (if (17 : Int) < 0 then (Lib.countB s slash : Int) + 1 else 17) ((s.size : Int) + 1) := by
    rw [if_neg (by omega)]; omega
  have HC := Lib.hid (show Calls Tryz.prog 135 #[.string s, .string { data := #[47] }, .int .i64 0, .int .i64 17] w fun e w' => e = .returned (.slice (some ⟨w.heap.size, 0, none⟩) (partsS s).length (capS s)) ∧ w' = w.alloc (.cells (cellsS s) 9) from
    Any.strings_genSplit_core Tryz.lays221 (by kernel_rfl) s slash 0 17 (min 17 (s.size + 1)) w (by omega) (by decide) (by decide)
      (fun x c _ => (Any.strings_Index_one { Tryz.lays221 with } x 47 _).mono fun e w' ⟨he, hw⟩ => ⟨by rw [he]; exact congrArg (fun z => Ending.returned (Value.int .i64 z)) (Lib.index_one x.data.toList 47).symm, hw⟩)
      ((Any.strings_Count_one { Tryz.lays221 with } s 47 w).mono fun e w' ⟨he, hw⟩ => ⟨by rw [he]; exact congrArg (fun z : Nat => Ending.returned (Value.int .i64 (z : Int))) (Lib.count_one 47 s.data.toList).symm, hw⟩)
      (by decide) (by decide) hN)
  generalize (w.alloc (.cells (cellsS s) 9)) = w1 at *
  obtain ⟨V, hV⟩ : ∃ v, v = Value.slice (some ⟨w.heap.size, 0, none⟩) (partsS s).length (capS s) := ⟨_, rfl⟩
  rw [← hV] at HC ⊢
  clear hV hN
  go_enter Tryz.func86, Tryz.ntmps86
  go_wp2_with (go_at_call 135; (with_reducible refine HC.out.mono ?_); rintro e w2 ⟨rfl, hw⟩; obtain rfl := hw.symm)
  go_ret
  exact ⟨rfl, rfl⟩
end Go.Proofs.YteokgklfljhcaaaGreatDoor
