/- Part 13 of the proof. -/
import Derived.Test.YtadolfacjolbkaaDoorSh12
namespace Go.Proofs.YtadolfacjolbkaaDoor
set_option linter.unusedVariables false
set_option linter.unusedSimpArgs false
open Go.RowKit
set_option maxRecDepth 100000
/-- a call of a Writer that appends ys -/
def WPost (p : Nat) (v : Value) (xs ys : List Int) (w : World) (e : Ending) (w' : World) : Prop :=
  e = .returned (.pointer (some ⟨p, 0, none⟩)) ∧ ∃ v', WAt w' p v' (xs ++ ys) ∧ WStep p v v' w w'
theorem one_in (w : World) (x : Int) : BytesIn (w.alloc (.cells #[.int .u8 x] 5)) (.slice (some ⟨w.heap.size, 0, none⟩) 1 1) [x] := by
  refine ⟨_, _, rfl, by simp, by simp [maxLen], .inr ⟨_, _, rfl, fun i y hi => ?_⟩⟩
  rw [Nat.zero_add, cell_of_row _ _ _ _ _ _ (heap_alloc_new w _)]
  match i, hi with
  | 0, hi => cases hi; rfl
def truthB (b : Bool) : List Int := [if b then 1 else 0]
def rowL (n : Nat) (f : Nat → Int) : List Int := (List.range n).map f
theorem row_in {w : World} {g n c : Nat} {t : TypeId} {f : Nat → Int} {k : Nat} (h : RowAt w g .u8 n t f) (hk : k ≤ n) (hc : k ≤ c) (hm : k ≤ maxLen) : BytesIn w (.slice (some ⟨g, 0, none⟩) k c) (rowL k f) := by
  have hl : (rowL k f).length = k := by simp [rowL]
  refine ⟨_, c, by rw [hl], by rw [hl]; exact hc, by rw [hl]; exact hm, .inr ⟨g, 0, rfl, fun i x hi => ?_⟩⟩
  simp only [rowL, List.getElem?_map] at hi
  rcases Nat.lt_or_ge i k with h1 | h1
  · rw [List.getElem?_range h1] at hi
    cases hi
    rw [Nat.zero_add]; exact h.cell i (by omega)
  · rw [List.getElem?_eq_none (by simpa using h1)] at hi; cases hi
set_option maxRecDepth 100000 in
set_option maxHeartbeats 400000 in
theorem whash_any (p : Nat) (v : Value) (xs : List Int) (f : Nat → Int) (w : World) (hw : WAt w p v xs) (hl : xs.length + 32 ≤ 140737488355328) :
    Calls Tryd.prog 85 #[.pointer (some ⟨p, 0, none⟩), .agg (rowOf .u8 32 f)] w (WPost p v xs (rowL 32 f) w) := by
  have HW := Lib.hid (hw.below (below_alloc w (.cells (rowOf .u8 32 f) 43)))
  have HB := Lib.hid (below_alloc w (.cells (rowOf .u8 32 f) 43))
  have HY := Lib.hid (row_in (k := 32) (c := 32) (RowAt.new w .u8 32 43 f) (Nat.le_refl _) (Nat.le_refl _) (by simp [maxLen]))
  have HL := Lib.hid hl
  clear hw hl
  unfold WPost
  go_enter Tryd.func85, Tryd.ntmps85
  go_wp2_with (go_at_call 94; (with_reducible refine (add_any p v _ xs (rowL 32 f) _ HW.out HY.out (by have := HL.out; simpa [rowL] using this)).mono ?_); rintro e w1 ⟨rfl, v', ho, hb⟩; have H := Lib.hid ho; have HS := Lib.hid hb; clear ho hb)
  go_ret
  exact ⟨rfl, v', H.out, (WStep.of_below HB.out).trans HS.out⟩
theorem zeros10 : (#[Value.int IntKind.u8 0, Value.int IntKind.u8 0, Value.int IntKind.u8 0, Value.int IntKind.u8 0, Value.int IntKind.u8 0, Value.int IntKind.u8 0, Value.int IntKind.u8 0, Value.int IntKind.u8 0, Value.int IntKind.u8 0, Value.int IntKind.u8 0] : Array Value) = rowOf .u8 10 (fun _ => 0) := by rfl
theorem or128 (b : Nat) (h : b < 256) : bits .or .u8 (b : Int) 128 = ((b % 128 + 128 : Nat) : Int) := by
  have : ∀ b : Fin 256, bits .or .u8 (b.val : Int) 128 = ((b.val % 128 + 128 : Nat) : Int) := by decide +kernel
  exact this ⟨b, h⟩
theorem gbyK_succ (n k : Nat) : upd (gbyK n k) k ((gby n k : Nat) : Int) = gbyK n (k + 1) := by
  funext i
  unfold upd gbyK
  by_cases h1 : i = k
  · subst h1; rw [if_pos rfl, if_pos (by omega)]
  · rw [if_neg h1]
    by_cases h2 : i < k
    · rw [if_pos h2, if_pos (by omega)]
    · rw [if_neg h2, if_neg (by omega)]
theorem rowL_varint (n : Nat) : rowL (glen n) (gbyK n (glen n)) = varint n := by
  unfold rowL varint
  apply List.map_congr_left
  intro i hi
  unfold gbyK
  rw [if_pos (by simpa using hi)]
theorem sliceA10 (b u : Nat) (hu : u ≤ 10) (w : World) : (Instr.sliceAt 188 (.pointer (some ⟨b, 0, none⟩)) none (some (.int .i64 (u : Int))) none).run Tryd.prog w
    = .ok (.slice (some ⟨b, 0, none⟩) u 10) w := by
  have ha : Tryd.prog.arrayLen 188 = 10 := by kernel_rfl
  have he : Tryd.prog.elem 188 = 5 := by kernel_rfl
  have hs : (sizeOf 5).run Tryd.prog w = .ok 1 w := by kernel_rfl
  rw [run_sliceAt_array_h w 188 ⟨b, 0, none⟩ (by rw [ha, he]; exact Tryd.underlying188) .i64 (u : Int) (by omega) (by rw [ha]; omega), ha, he, hs]
  simp only [Result.andThen_ok, slicedAt, Int.toNat_natCast]
  rfl
set_option maxRecDepth 100000 in
set_option maxHeartbeats 400000 in
theorem wuint_any (p : Nat) (v : Value) (xs : List Int) (n : Nat) (w : World) (hw : WAt w p v xs) (hn : n < 18446744073709551616) (hl : xs.length + 10 ≤ 140737488355328) :
    Calls Tryd.prog 82 #[.pointer (some ⟨p, 0, none⟩), .int .u64 (n : Int)] w (WPost p v xs (varint n) w) := by
  have HW := Lib.hid hw
  have HL := Lib.hid hl
  have HN := Lib.hid hn
  have HG := Lib.hid (glen_le hn)
  clear hw hl hn
  unfold WPost
  go_enter Tryd.func82, Tryd.ntmps82
  go_upto_region 2 with (fail)
  rw [zeros10]
  have HB := Lib.hid (below_alloc w (.cells (rowOf .u8 10 (fun _ => 0)) 188))
  have HR : Hid (RowAt (w.alloc (.cells (rowOf .u8 10 (fun _ => 0)) 188)) w.heap.size .u8 10 188 (gbyK n 0)) := Lib.hid (RowAt.new w .u8 10 188 (fun _ => 0))
  generalize w.alloc (.cells (rowOf .u8 10 (fun _ => 0)) 188) = w1 at *
  go_wp2_with (fail)
  go_loopw [1, 6] (fun x i wr => ∃ k : Nat, k < glen n ∧ x = .int .u64 ((n / 128 ^ k : Nat) : Int) ∧ i = .int .i64 k ∧ Hid (RowAt wr w.heap.size .u8 10 188 (gbyK n k) ∧ Below w.heap.size w wr)) (fun _ i _ => 10 - (intOf i).toNat)
  case atStart => exact ⟨0, glen_pos n, by simp, rfl, HR.out, HB.out⟩
  case round =>
    clear HR HB
    obtain ⟨k, hk, rfl, rfl, H⟩ := hrel
    have hk10 := HG.out
    obtain ⟨m, hm⟩ : ∃ m, m = n / 128 ^ k := ⟨_, rfl⟩
    have hmn : m < 18446744073709551616 := by have := HN.out; have := Nat.div_le_self n (128 ^ k); omega
    have hiff := glen_iff hk
    rw [← hm] at hiff ⊢
    by_cases h : 128 ≤ m
    · have hk1 := hiff.1 h
      have hor := or128 (m % 256) (by omega)
      have hg1 : m % 256 % 128 + 128 = gby n k := by unfold gby; rw [if_pos hk1, ← hm]; omega
      rw [hg1] at hor
      have c0 := H.out.1.cell k (by omega)
      have f0 := H.out.1.free k
      have HM := Lib.hid hm
      replace hiff := Lib.hid hiff
      clear hg1 hm
      go_wp2_with (fail)
      go_roundw
      case rel =>
        refine ⟨k + 1, hk1, ?_, rfl, ?_, (H.out.2.setCell (Nat.le_refl _) _)⟩
        · rw [div_pow_step, ← HM.out]; rfl
        · have e : (m : Int) % 256 = ((m % 256 : Nat) : Int) := by omega
          rw [e, hor, ← gbyK_succ]
          exact H.out.1.set k _
      case measure => simp [intOf]; omega
    · have hk1 : k + 1 = glen n := by omega
      have hg1 : m = gby n k := by rw [(gby_last hk1).1]; exact hm
      have c0 := H.out.1.cell k (by omega)
      have f0 := H.out.1.free k
      have HM := Lib.hid hm
      replace hiff := Lib.hid hiff
      have hsl := sliceA10 w.heap.size (k + 1) (by omega)
      rw [show ((k + 1 : Nat) : Int) = (k : Int) + 1 by omega] at hsl
      have HS := Lib.hid (show RowAt (wr.setCell ⟨w.heap.size, k, none⟩ (.int .u8 (m : Int))) w.heap.size .u8 10 188 (gbyK n (k + 1)) by rw [← gbyK_succ, ← hg1]; exact H.out.1.set k _)
      have HB := Lib.hid (H.out.2.setCell (p := ⟨w.heap.size, k, none⟩) (Nat.le_refl _) (.int .u8 (m : Int)))
      have HY := Lib.hid (row_in (k := k + 1) (c := 10) HS.out (by omega) (by omega) (by unfold maxLen; omega))
      rw [hk1, rowL_varint, ← hk1] at HY
      replace hk1 := Lib.hid hk1
      clear hm hg1
      go_wp2_with (go_at_call 94; (with_reducible refine (add_any p v _ xs (varint n) _ (HW.out.below HB.out) HY.out (by have := HL.out; have := HG.out; rw [varint_length]; omega)).mono ?_); rintro e w1 ⟨rfl, v', ho, hb⟩; have H := Lib.hid ho; have HS := Lib.hid hb; clear ho hb)
      go_ret
      exact ⟨rfl, v', H.out, (WStep.of_below HB.out).trans HS.out⟩
end Go.Proofs.YtadolfacjolbkaaDoor
