/- Frame: the record of a payload, or the error. -/
import Derived.Test.YtfdjmfomccckaaaDoorWord
namespace Go.Proofs.YtfdjmfomccckaaaDoor
open Go.RowKit
set_option maxRecDepth 100000
theorem byteVals_len (xs : List Int) : (byteVals xs).length = xs.length := by simp [byteVals]
/-- appendWord to a slice of one's own -/
theorem appw_own (v : Value) (base m : Nat) (xs : List Int) (w w0 : World) (hown : w.ownsRow base 5 1 v xs.length (byteVals xs)) (hm : m < 4294967296) (hl : xs.length + 4 ≤ 140737488355328) (hb : base ≤ w.heap.size) (hB : Below base w0 w) :
    Calls Tryd.prog 20 #[v, .int .u32 (m : Int)] w fun e w' => ∃ v', e = .returned v' ∧ w'.ownsRow base 5 1 v' (xs ++ wordL m).length (byteVals (xs ++ wordL m)) ∧ Below base w0 w' ∧ base ≤ w'.heap.size := by
  refine (appw_any v base xs.length m (byteVals xs) w hown hm hl hb).mono fun e w' h => ?_
  obtain ⟨v', he, h1, h2, _⟩ := h
  refine ⟨v', he, ?_, hB.grown h2 hb (fun k hk => (hown.lt k hk).1), Nat.le_trans hb h2.size⟩
  rw [List.length_append, byteVals_append]
  exact h1
def FrameOk (ys : List Int) (w : World) (e : Ending) (w' : World) : Prop :=
  ∃ v', e = .returned (.tuple #[v', .nilIface]) ∧ w'.ownsRow w.heap.size 5 1 v' (recF ys).length (byteVals (recF ys)) ∧ Below w.heap.size w w'
set_option maxHeartbeats 1000000 in
theorem frame_ok (y : Value) (ys : List Int) (w : World) (hT : NibAt w) (hy : BytesIn w y ys) (ho : bytesOk ys) (h1 : ys.length ≠ 0) (h2 : ys.length ≤ 1048576) :
    Calls Tryd.prog 8 #[y] w (FrameOk ys w) := by
  have HY := Lib.hid hy
  have HT := Lib.hid hT
  have HO := Lib.hid ho
  obtain ⟨i0, hi, hz0, hz1, hz2⟩ := info_parts infoU8
  have HI := Lib.hid (And.intro hi (And.intro hz0 (And.intro hz1 hz2)))
  obtain ⟨a, c, rfl, hc, hm, hx⟩ := hy
  have n1 : ¬ ys.length = 0 := h1
  have n2 : ¬ (1048576 : Int) < ys.length := by omega
  have HL := Lib.hid h2
  have HB0 := Lib.hid (Below.refl w.heap.size w)
  clear hT ho hx hm hc hi hz0 hz1 hz2 h1
  go_enter Tryd.func8, Tryd.ntmps8
  go_wp2_with (first
    | (refine wpList_make_own _ rfl (.const (.int .i64 0)) (.tmp 15) 22 rfl w.heap.size 5 i0 (.int .u8 0) 1 Tryd.underlying22 HI.out.1 HI.out.2.1 HI.out.2.2.1 .i64 .i64 _ (ys.length + 12) rfl rfl rfl (by rw [HI.out.2.2.2]; have := HL.out; omega) (by have := HL.out; unfold maxLen; omega) (Nat.le_refl _) ?_; intro w1 ho1 hg1; have H1 := Lib.hid (show w1.ownsRow w.heap.size 5 1 _ ([] : List Int).length (byteVals []) from ho1); have HB1 := Lib.hid (HB0.out.grown hg1 (Nat.le_refl _) (fun k hk => by cases hk)); have HZ1 := Lib.hid hg1.size; clear ho1 hg1)
    | (go_at_call 20; (with_reducible refine (appw_own _ w.heap.size ys.length [] w1 w H1.out (by have := HL.out; omega) (by decide) HZ1.out HB1.out).mono ?_); rintro e w2 ⟨v2, rfl, h2, hb2, hz2⟩; rw [List.nil_append] at h2; have H2 := Lib.hid h2; have HB2 := Lib.hid hb2; have HZ2 := Lib.hid hz2; clear h2 hb2 hz2)
    | (go_at_call 17; (with_reducible refine (sumc_any v2 (wordL ys.length) w2 (HT.out.below HB2.out HT.out.lt) (owns_in H2.out (by unfold maxLen; rw [wordL_length]; omega)) (wordL_ok _) (by rw [wordL_length]; omega)).mono ?_); rintro e w2' ⟨rfl, rfl⟩)
    | (go_at_call 20; (with_reducible refine (appw_own v2 w.heap.size (crcF (wordL ys.length)) (wordL ys.length) w2 w H2.out (crcF_lt (wordL_ok _)) (by rw [wordL_length]; omega) HZ2.out HB2.out).mono ?_); rintro e w3 ⟨v3, rfl, h3, hb3, hz3⟩; have H3 := Lib.hid h3; have HB3 := Lib.hid hb3; have HZ3 := Lib.hid hz3; clear h3 hb3 hz3)
    | (at_builtin; refine wpList_append_bytes rfl (.tmp 26) (.tmp 27) rfl rfl w.heap.size v3 _ _ rfl H3.out _ ys rfl (HY.out.below HB3.out) (by rw [List.length_append, wordL_length, wordL_length]; have := HL.out; omega) HZ3.out ?_; intro v4 w4 ho4 hg4 _; have H4 := Lib.hid (show w4.ownsRow w.heap.size 5 1 v4 (wordL ys.length ++ wordL (crcF (wordL ys.length)) ++ ys).length (byteVals (wordL ys.length ++ wordL (crcF (wordL ys.length)) ++ ys)) by rw [List.length_append, byteVals_append]; exact ho4); have HB4 := Lib.hid (HB3.out.grown hg4 HZ3.out (fun k hk => (H3.out.lt k hk).1)); have HZ4 := Lib.hid (Nat.le_trans HZ3.out hg4.size); clear ho4 hg4)
    | (go_at_call 17; (with_reducible refine (sumc_any _ ys w4 (HT.out.below HB4.out HT.out.lt) (HY.out.below HB4.out) HO.out (by have := HL.out; omega)).mono ?_); rintro e w4' ⟨rfl, rfl⟩)
    | (go_at_call 20; (with_reducible refine (appw_own v4 w.heap.size (crcF ys) _ w4 w H4.out (crcF_lt HO.out) (by rw [List.length_append, List.length_append, wordL_length, wordL_length]; have := HL.out; omega) HZ4.out HB4.out).mono ?_); rintro e w5 ⟨v5, rfl, h5, hb5, hz5⟩; have H5 := Lib.hid h5; have HB5 := Lib.hid hb5; clear h5 hb5 hz5))
  go_ret2
  exact ⟨_, rfl, H5.out, HB5.out⟩
set_option maxHeartbeats 1000000 in
theorem frame_nil (y : Value) (ys : List Int) (w : World) (hy : BytesIn w y ys) (h1 : ys.length = 0) :
    Calls Tryd.prog 8 #[y] w fun e w' => e = .returned (.tuple #[.slice none 0 0, .iface 51 (.int .i64 1)]) ∧ w = w' := by
  obtain ⟨a, c, rfl, _, _, _⟩ := hy
  obtain rfl : ys = [] := List.eq_nil_of_length_eq_zero h1
  clear h1
  go_enter Tryd.func8, Tryd.ntmps8
  go_wp2
  go_ret2
  exact ⟨rfl, rfl⟩
set_option maxHeartbeats 1000000 in
theorem frame_long (y : Value) (ys : List Int) (w : World) (hy : BytesIn w y ys) (h1 : 1048576 < ys.length) :
    Calls Tryd.prog 8 #[y] w fun e w' => e = .returned (.tuple #[.slice none 0 0, .iface 51 (.int .i64 2)]) ∧ w = w' := by
  obtain ⟨a, c, rfl, _, _, _⟩ := hy
  have n1 : ¬ ys.length = 0 := by omega
  have n2 : (1048576 : Int) < ys.length := by omega
  go_enter Tryd.func8, Tryd.ntmps8
  go_wp2
  go_ret2
  exact ⟨rfl, rfl⟩
end Go.Proofs.YtfdjmfomccckaaaDoor
