/- The document's answer: Frame. -/
import Derived.Test.YtfdjmfomccckaaaDoorRef3
import Derived.Test.YtfdjmfomccckaaaDoorScan
namespace Go.Proofs.YtfdjmfomccckaaaDoor
open Go.RowKit
set_option maxRecDepth 100000
theorem four_b (n : Nat) (w0 w : World) (hn : n < 4294967296) (hb : Below w0.heap.size w0 w) : Calls Tryd.prog 21 #[.int .u32 (n : Int)] w fun e w' => ∃ v', e = .returned v' ∧ w'.ownsRow w0.heap.size 5 1 v' (wordL n).length (byteVals (wordL n)) ∧ Below w0.heap.size w0 w' ∧ Below w.heap.size w w' :=
  (four_any n w hn).mono fun _ _ ⟨v, h1, h2, h3⟩ => ⟨v, h1, owns_base h2 hb.size, hb.trans (h3.mono hb.size), h3⟩
def RFrameOk (ys : List Int) (w : World) (e : Ending) (w' : World) : Prop :=
  ∃ v', e = .returned (.tuple #[v', .int .i64 0]) ∧ w'.ownsRow w.heap.size 5 1 v' (recF ys).length (byteVals (recF ys)) ∧ Below w.heap.size w w'
set_option maxHeartbeats 2000000 in
theorem rframe_ok (y : Value) (ys : List Int) (w : World) (hy : BytesIn w y ys) (ho : bytesOk ys) (h1 : ys.length ≠ 0) (h2 : ys.length ≤ 1048576) :
    Calls Tryd.prog 9 #[y] w (RFrameOk ys w) := by
  have HY := Lib.hid hy
  have HO := Lib.hid ho
  obtain ⟨a, c, rfl, hc, hm, hx⟩ := hy
  have n1 : ¬ ys.length = 0 := h1
  have n2 : ¬ (1048576 : Int) < ys.length := by omega
  have HL := Lib.hid h2
  have HB0 := Lib.hid (Below.refl w.heap.size w)
  clear ho hx hm hc h1
  go_enter Tryd.func9, Tryd.ntmps9
  go_wp2_with (first
    | (go_at_call 21; (with_reducible refine (four_b ys.length w w (by have := HL.out; omega) HB0.out).mono ?_); rintro e w1 ⟨v1, rfl, ho1, hb1, -⟩; have H1 := Lib.hid ho1; have HB1 := Lib.hid hb1; clear ho1 hb1)
    | (go_at_call 18; (with_reducible refine (sumr_any v1 (wordL ys.length) w1 (owns_in H1.out (by unfold maxLen; rw [wordL_length]; omega)) (wordL_ok _) (by rw [wordL_length]; omega)).mono ?_); rintro e w1' ⟨rfl, rfl⟩)
    | (go_at_call 21; (with_reducible refine (four_b (crcF (wordL ys.length)) w w1 (crcF_lt (wordL_ok _)) HB1.out).mono ?_); rintro e w2 ⟨v2, rfl, ho2, hb2, hbw⟩; have H2 := Lib.hid (owns_in ho2 (by unfold maxLen; rw [wordL_length]; omega)); have HB2 := Lib.hid hb2; replace H1 := Lib.hid (kept_below H1.out hbw); clear ho2 hb2 hbw)
    | (at_builtin; refine wpList_append_bytes rfl (.tmp 16) (.tmp 19) rfl rfl w.heap.size v1 _ _ rfl H1.out _ (wordL (crcF (wordL ys.length))) rfl H2.out (by rw [wordL_length, wordL_length]; omega) HB2.out.size ?_; intro v3 w3 ho3 hg3 _; have H3 := Lib.hid (show w3.ownsRow w.heap.size 5 1 v3 (wordL ys.length ++ wordL (crcF (wordL ys.length))).length (byteVals (wordL ys.length ++ wordL (crcF (wordL ys.length)))) by rw [List.length_append, byteVals_append]; exact ho3); have HB3 := Lib.hid (HB2.out.grown hg3 HB2.out.size (fun k hk => (H1.out.lt k hk).1)); clear ho3 hg3)
    | (at_builtin; refine wpList_append_bytes rfl (.tmp 21) (.tmp 22) rfl rfl w.heap.size v3 _ _ rfl H3.out _ ys rfl (HY.out.below HB3.out) (by rw [List.length_append, wordL_length, wordL_length]; have := HL.out; omega) HB3.out.size ?_; intro v4 w4 ho4 hg4 _; have H4 := Lib.hid (show w4.ownsRow w.heap.size 5 1 v4 (wordL ys.length ++ wordL (crcF (wordL ys.length)) ++ ys).length (byteVals (wordL ys.length ++ wordL (crcF (wordL ys.length)) ++ ys)) by rw [List.length_append, byteVals_append]; exact ho4); have HB4 := Lib.hid (HB3.out.grown hg4 HB3.out.size (fun k hk => (H3.out.lt k hk).1)); clear ho4 hg4)
    | (go_at_call 18; (with_reducible refine (sumr_any _ ys w4 (HY.out.below HB4.out) HO.out (by have := HL.out; omega)).mono ?_); rintro e w4' ⟨rfl, rfl⟩)
    | (go_at_call 21; (with_reducible refine (four_b (crcF ys) w w4 (crcF_lt HO.out) HB4.out).mono ?_); rintro e w5 ⟨v5, rfl, ho5, hb5, hbw⟩; have H5 := Lib.hid (owns_in ho5 (by unfold maxLen; rw [wordL_length]; omega)); have HB5 := Lib.hid hb5; replace H4 := Lib.hid (kept_below H4.out hbw); clear ho5 hb5 hbw)
    | (at_builtin; refine wpList_append_bytes rfl (.tmp 23) (.tmp 26) rfl rfl w.heap.size v4 _ _ rfl H4.out _ (wordL (crcF ys)) rfl H5.out (by rw [List.length_append, List.length_append, wordL_length, wordL_length, wordL_length]; have := HL.out; omega) HB5.out.size ?_; intro v6 w6 ho6 hg6 _; have H6 := Lib.hid (show w6.ownsRow w.heap.size 5 1 v6 (recF ys).length (byteVals (recF ys)) by unfold recF; rw [List.length_append, byteVals_append]; exact ho6); have HB6 := Lib.hid (HB5.out.grown hg6 HB5.out.size (fun k hk => (H4.out.lt k hk).1)); clear ho6 hg6))
  go_ret2
  exact ⟨_, rfl, H6.out, HB6.out⟩
theorem rframe_nil (y : Value) (ys : List Int) (w : World) (hy : BytesIn w y ys) (h1 : ys.length = 0) :
    Calls Tryd.prog 9 #[y] w fun e w' => e = .returned (.tuple #[.slice none 0 0, .int .i64 1]) ∧ w = w' := by
  obtain ⟨a, c, rfl, _, _, _⟩ := hy
  obtain rfl : ys = [] := List.eq_nil_of_length_eq_zero h1
  clear h1
  go_enter Tryd.func9, Tryd.ntmps9
  go_wp2
  go_ret2
  exact ⟨rfl, rfl⟩
theorem rframe_long (y : Value) (ys : List Int) (w : World) (hy : BytesIn w y ys) (h1 : 1048576 < ys.length) :
    Calls Tryd.prog 9 #[y] w fun e w' => e = .returned (.tuple #[.slice none 0 0, .int .i64 2]) ∧ w = w' := by
  obtain ⟨a, c, rfl, _, _, _⟩ := hy
  have n1 : ¬ ys.length = 0 := by omega
  have n2 : (1048576 : Int) < ys.length := by omega
  go_enter Tryd.func9, Tryd.ntmps9
  go_wp2
  go_ret2
  exact ⟨rfl, rfl⟩
end Go.Proofs.YtfdjmfomccckaaaDoor
