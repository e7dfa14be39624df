/- Part 21 of the proof. -/
import Derived.Test.YtejglhlodfhgkaaGreatDoorXv3
namespace Go.Proofs.YtejglhlodfhgkaaGreatDoor
set_option linter.unusedVariables false
set_option linter.unusedSimpArgs false
open Go.RowKit
set_option maxRecDepth 100000
theorem str_app' (a b : List Int) : strOfNums a ++ strOfNums b = strOfNums (a ++ b) := by
  apply ByteArray.ext
  apply Array.ext'
  rw [strOfNums_data, ByteArray.data_append, Array.toList_append, strOfNums_data, strOfNums_data, List.map_append]
theorem str_len (a : List Int) : (strOfNums a).size = a.length := by
  show (strOfNums a).data.size = _
  rw [← Array.length_toList, strOfNums_data, List.length_map]
theorem cutDigits (n : Int) (h0 : 0 ≤ n) (h1 : n < 16) (w : World) : (Instr.slice 9 (.string { data := #[48, 49, 50, 51, 52, 53, 54, 55, 56, 57, 97, 98, 99, 100, 101, 102] }) (some (.int .u8 n)) (some (.int .u8 (n + 1))) none).run Tryz.prog w = .ok (.string (strOfNums [hexd n])) w := by
  rcases (by omega : n = 0 ∨ n = 1 ∨ n = 2 ∨ n = 3 ∨ n = 4 ∨ n = 5 ∨ n = 6 ∨ n = 7 ∨ n = 8 ∨ n = 9 ∨ n = 10 ∨ n = 11 ∨ n = 12 ∨ n = 13 ∨ n = 14 ∨ n = 15) with rfl | rfl | rfl | rfl | rfl | rfl | rfl | rfl | rfl | rfl | rfl | rfl | rfl | rfl | rfl | rfl <;> kernel_rfl
def textP (h : Nat → Int) (k : Nat) : List Int := (List.range (2 * k)).map (textF h)
theorem textP_length (h : Nat → Int) (k : Nat) : (textP h k).length = 2 * k := by simp [textP]
theorem textP_succ (h : Nat → Int) (k : Nat) : textP h k ++ [hexd (h k / 16)] ++ [hexd (h k % 16)] = textP h (k + 1) := by
  unfold textP
  rw [show 2 * (k + 1) = 2 * k + 1 + 1 by omega, List.range_succ, List.range_succ]
  simp only [List.map_append, List.map_cons, List.map_nil, List.append_assoc]
  unfold textF
  rw [if_pos (by omega), if_neg (by omega), show 2 * k / 2 = k by omega, show (2 * k + 1) / 2 = k by omega]
set_option maxHeartbeats 1000000 in
theorem r1text_any (h : Nat → Int) (hb : ∀ i, i < 32 → 0 ≤ h i ∧ h i < 256) (w : World) :
    Calls Tryz.prog 191 #[.agg (rowOf .u8 32 h)] w fun e w' => e = .returned (.string (strOfNums (textL h))) ∧ Below w.heap.size w w' := by
  have HB := Lib.hid hb
  clear hb
  have HB1 := Lib.hid (below_alloc w (.cells (rowOf .u8 32 h) 53))
  have HR := Lib.hid (RowAt.new w .u8 32 53 h)
  go_enter Tryz.func191, Tryz.ntmps191
  go_upto_region 2 with (fail)
  generalize w.alloc (.cells (rowOf .u8 32 h) 53) = w1 at *
  go_wp2_with (fail)
  go_loopw [3, 4] (fun s i wr => ∃ k : Nat, k ≤ 32 ∧ i = .int .i64 k ∧ s = .string (strOfNums (textP h k)) ∧ Hid (RowAt wr w.heap.size .u8 32 53 h ∧ Below w.heap.size w wr)) (fun _ i _ => 32 - (intOf i).toNat)
  case atStart => exact ⟨0, by omega, rfl, rfl, Lib.hid ⟨HR.out, HB1.out⟩⟩
  case round =>
    clear HR HB1
    obtain ⟨k, hk, rfl, rfl, H⟩ := hrel
    by_cases hlt : k < 32
    · obtain ⟨hk0, hk1⟩ := HB.out k hlt
      have hd1 := cutDigits (h k / 16) (by omega) (by omega)
      have hd2 := cutDigits (h k % 16) (by omega) (by omega)
      have c0 := H.out.1.cell k hlt
      have e1 : ¬ (9223372036854775807 : Int) < (strOfNums (textP h k)).size + (strOfNums [hexd (h k / 16)]).size := by rw [str_len, str_len, textP_length]; simp; omega
      have e2 : ¬ (9223372036854775807 : Int) < (strOfNums (textP h k ++ [hexd (h k / 16)])).size + (strOfNums [hexd (h k % 16)]).size := by rw [str_len, str_len, List.length_append, textP_length]; simp; omega
      have ea := str_app' (textP h k) [hexd (h k / 16)]
      have eb := str_app' (textP h k ++ [hexd (h k / 16)]) [hexd (h k % 16)]
      rw [textP_succ] at eb
      go_wp2_with (fail)
      go_quiet (fail)
      go_wp2_with (fail)
      go_roundw
      case rel => exact ⟨k + 1, by omega, by go_num, rfl, Lib.hid ⟨H.out.1, H.out.2.trans ⟨rfl, rfl, rfl, Nat.le_refl _, fun _ _ => rfl⟩⟩⟩
      case measure => simp [intOf]; omega
    · obtain rfl : k = 32 := by omega
      go_wp2_with (fail)
      go_ret
      exact ⟨rfl, H.out.2⟩
end Go.Proofs.YtejglhlodfhgkaaGreatDoor
