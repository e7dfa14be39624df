/- Text of a hash. -/
import Derived.Test.YteokgklfljhcaaaGreatDoorShSumM
import Derived.Laws.BytesArg
namespace Go.Proofs.YteokgklfljhcaaaGreatDoor
open Go.RowKit
/-- a hexadecimal digit -/
def hexd (n : Int) : Int := if n < 10 then 48 + n else 87 + n
/-- the text of a hash, place by place -/
def textF (h : Nat → Int) : Nat → Int := fun i => if i % 2 = 0 then hexd (h (i / 2) / 16) else hexd (h (i / 2) % 16)
def textK (h : Nat → Int) (k : Nat) : Nat → Int := fun i => if i < 2 * k then textF h i else 0
def textL (h : Nat → Int) : List Int := (List.range 64).map (textF h)
theorem textK_succ (h : Nat → Int) (k : Nat) : upd (upd (textK h k) (2 * k) (hexd (h k / 16))) (2 * k + 1) (hexd (h k % 16)) = textK h (k + 1) := by
  funext x
  unfold upd textK
  by_cases h1 : x = 2 * k + 1
  · subst h1
    rw [if_pos rfl, if_pos (by omega)]
    unfold textF
    rw [if_neg (by omega), show (2 * k + 1) / 2 = k by omega]
  · rw [if_neg h1]
    by_cases h2 : x = 2 * k
    · subst h2
      rw [if_pos rfl, if_pos (by omega)]
      unfold textF
      rw [if_pos (by omega), show 2 * k / 2 = k by omega]
    · rw [if_neg h2]
      by_cases h3 : x < 2 * k
      · rw [if_pos h3, if_pos (by omega)]
      · rw [if_neg h3, if_neg (by omega)]
theorem index25 (f : Nat → Int) (i : Nat) (h : i < 32) (w : World) : (Instr.index 23 (.agg (rowOf .u8 32 f)) (.int .i64 (i : Int))).run Tryz.prog w = .ok (.int .u8 (f i)) w := by
  have hs : (sizeOf 5).run Tryz.prog w = .ok 1 w := by kernel_rfl
  have hp : (part 5 (rowOf .u8 32 f) i).run Tryz.prog w = .ok (.int .u8 (f i)) w := by
    have ha : (isAgg 5).run Tryz.prog w = .ok false w := by kernel_rfl
    simp [part, Sem.run_bind, ha, rowOf_get .u8 32 f i h]
  have hi : (0 ≤ (i : Int) ∧ (i : Int) < (32 : Nat)) := by omega
  simp only [Instr.index, asIntOf, Sem.run_bind, Sem.run_pure, Result.andThen_ok, run_underlying Tryz.underlying23, if_pos hi, Int.toNat_natCast, hs, Nat.mul_one, hp]
theorem indexDigits (n : Int) (h0 : 0 ≤ n) (h1 : n < 16) (w : World) : (Instr.index 9 (.string { data := #[48, 49, 50, 51, 52, 53, 54, 55, 56, 57, 97, 98, 99, 100, 101, 102] }) (.int .u8 n)).run Tryz.prog w = .ok (.int .u8 (hexd n)) w := by
  rcases (by omega : n = 0 ∨ n = 1 ∨ n = 2 ∨ n = 3 ∨ n = 4 ∨ n = 5 ∨ n = 6 ∨ n = 7 ∨ n = 8 ∨ n = 9 ∨ n = 10 ∨ n = 11 ∨ n = 12 ∨ n = 13 ∨ n = 14 ∨ n = 15) with rfl | rfl | rfl | rfl | rfl | rfl | rfl | rfl | rfl | rfl | rfl | rfl | rfl | rfl | rfl | rfl <;> kernel_rfl
theorem zeros64b : (#[Value.int IntKind.u8 0, Value.int IntKind.u8 0, Value.int IntKind.u8 0, Value.int IntKind.u8 0, Value.int IntKind.u8 0, Value.int IntKind.u8 0, Value.int IntKind.u8 0, Value.int IntKind.u8 0, Value.int IntKind.u8 0, Value.int IntKind.u8 0, Value.int IntKind.u8 0, Value.int IntKind.u8 0, Value.int IntKind.u8 0, Value.int IntKind.u8 0, Value.int IntKind.u8 0, Value.int IntKind.u8 0, Value.int IntKind.u8 0, Value.int IntKind.u8 0, Value.int IntKind.u8 0, Value.int IntKind.u8 0, Value.int IntKind.u8 0, Value.int IntKind.u8 0, Value.int IntKind.u8 0, Value.int IntKind.u8 0, Value.int IntKind.u8 0, Value.int IntKind.u8 0, Value.int IntKind.u8 0, Value.int IntKind.u8 0, Value.int IntKind.u8 0, Value.int IntKind.u8 0, Value.int IntKind.u8 0, Value.int IntKind.u8 0, Value.int IntKind.u8 0, Value.int IntKind.u8 0, Value.int IntKind.u8 0, Value.int IntKind.u8 0, Value.int IntKind.u8 0, Value.int IntKind.u8 0, Value.int IntKind.u8 0, Value.int IntKind.u8 0, Value.int IntKind.u8 0, Value.int IntKind.u8 0, Value.int IntKind.u8 0, Value.int IntKind.u8 0, Value.int IntKind.u8 0, Value.int IntKind.u8 0, Value.int IntKind.u8 0, Value.int IntKind.u8 0, Value.int IntKind.u8 0, Value.int IntKind.u8 0, Value.int IntKind.u8 0, Value.int IntKind.u8 0, Value.int IntKind.u8 0, Value.int IntKind.u8 0, Value.int IntKind.u8 0, Value.int IntKind.u8 0, Value.int IntKind.u8 0, Value.int IntKind.u8 0, Value.int IntKind.u8 0, Value.int IntKind.u8 0, Value.int IntKind.u8 0, Value.int IntKind.u8 0, Value.int IntKind.u8 0, Value.int IntKind.u8 0] : Array Value) = rowOf .u8 64 (fun _ => 0) := by rfl
theorem shGetD (f : Nat → Int) (n i : Nat) (h : i < n) : ((List.range n).map f).getD i 0 = f i := by simp [List.getD, h]
theorem convText (h : Nat → Int) (b : Nat) (w : World) (hr : RowAt w b .u8 64 187 (textK h 32)) : (convert 39 9 (.slice (some ⟨b, 0, none⟩) 64 64)).run Tryz.prog w = .ok (.string (strOfNums (textL h))) w :=
  run_convert_bytes_arg w 39 5 Tryz.underlying39 Tryz.underlying5 b 0 64 64 (textL h) (by simp [textL]) (fun i hi => by
    rw [Nat.zero_add, hr.cell i hi, textL, shGetD _ _ _ hi]
    unfold textK
    rw [if_pos (by omega)]) 9 Tryz.underlying9
set_option maxRecDepth 100000 in
set_option maxHeartbeats 400000 in
theorem text_any (h : Nat → Int) (hb : ∀ i, i < 32 → 0 ≤ h i ∧ h i < 256) (w : World) :
    Calls Tryz.prog 84 #[.agg (rowOf .u8 32 h)] w fun e w' => e = .returned (.string (strOfNums (textL h))) ∧ Below w.heap.size w w' := by
  have HB := Lib.hid hb
  clear hb
  go_enter Tryz.func84, Tryz.ntmps84
  go_upto_region 2 with (fail)
  rw [zeros64b]
  have HB1 : Below w.heap.size w ((w.alloc (.cells (rowOf .u8 32 h) 23)).alloc (.cells (rowOf .u8 64 (fun _ => 0)) 187)) := (below_alloc w _).trans ((below_alloc _ _).mono (by simp))
  have HR0 := (RowAt.new w .u8 32 23 h).alloc (.cells (rowOf .u8 64 (fun _ => 0)) 187)
  have HR : RowAt ((w.alloc (.cells (rowOf .u8 32 h) 23)).alloc (.cells (rowOf .u8 64 (fun _ => 0)) 187)) (w.heap.size + 1) .u8 64 187 (textK h 0) := by
    have := RowAt.new (w.alloc (.cells (rowOf .u8 32 h) 23)) .u8 64 187 (fun _ => 0)
    rw [shSize_alloc] at this
    have e : (fun _ => 0 : Nat → Int) = textK h 0 := by funext i; unfold textK; rw [if_neg (by omega)]
    rw [← e]; exact this
  generalize (w.alloc (.cells (rowOf .u8 32 h) 23)).alloc (.cells (rowOf .u8 64 (fun _ => 0)) 187) = w1 at *
  replace HB1 := Lib.hid HB1
  replace HR := Lib.hid HR
  replace HR0 := Lib.hid HR0
  go_wp2_with (refine wpList_load_row rfl 23 (.tmp 1) rfl w.heap.size rfl 23 _ (0, 0) _ HR0.out Tryz.underlying23 rfl (by rw [rowOf_size]; kernel_rfl) ?_)
  clear HR0
  go_loopw [7] (fun i wr => ∃ k : Nat, k ≤ 32 ∧ i = .int .i64 k ∧ Hid (RowAt wr (w.heap.size + 1) .u8 64 187 (textK h k) ∧ Below w.heap.size w wr)) (fun i _ => 32 - (intOf i).toNat)
  case atStart => exact ⟨0, by omega, rfl, HR.out, HB1.out⟩
  case round =>
    clear HR HB1
    obtain ⟨k, hk, rfl, H⟩ := hrel
    by_cases hlt : k < 32
    · have hix := index25 h k hlt
      obtain ⟨hk0, hk1⟩ := HB.out k hlt
      have hd1 := indexDigits (h k / 16) (by omega) (by omega)
      have hd2 := indexDigits (h k % 16) (by omega) (by omega)
      have n0 : (2 * (k : Int)).toNat = 2 * k := by omega
      have n1 : (2 * (k : Int) + 1).toNat = 2 * k + 1 := by omega
      have c0 := H.out.1.cell (2 * k) (by omega)
      have f0 := H.out.1.free (2 * k)
      have c1 := (H.out.1.set (2 * k) (hexd (h k / 16))).cell (2 * k + 1) (by omega)
      have f1 := (H.out.1.set (2 * k) (hexd (h k / 16))).free (2 * k + 1)
      go_wp2_with (fail)
      go_roundw
      case rel =>
        have R := (H.out.1.set (2 * k) (hexd (h k / 16))).set (2 * k + 1) (hexd (h k % 16))
        rw [textK_succ] at R
        exact ⟨k + 1, by omega, by go_num, R, (H.out.2.setCell (by show w.heap.size ≤ w.heap.size + 1; omega) _).setCell (by show w.heap.size ≤ w.heap.size + 1; omega) _⟩
      case measure => simp [intOf]; omega
    · have hsl := slice64all (w.heap.size + 1)
      have hcv := convText h (w.heap.size + 1) wr (by rw [show (32 : Nat) = k by omega]; exact H.out.1)
      go_wp2_with (fail)
      go_ret
      exact ⟨rfl, H.out.2⟩
end Go.Proofs.YteokgklfljhcaaaGreatDoor
