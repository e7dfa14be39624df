/- FrameLengths: the walk. -/
import Derived.Test.YtfdjmfomccckaaaDoorSureC
import Derived.Laws.OwnMore
namespace Go.Proofs.YtfdjmfomccckaaaDoor
open Go.RowKit
set_option maxRecDepth 100000
def zerosL (k : Nat) : List Int := List.replicate k 0
theorem zerosL_length (k : Nat) : (zerosL k).length = k := by simp [zerosL]
theorem zerosL_ok (k : Nat) : bytesOk (zerosL k) := fun x hx => by
  have := List.eq_of_mem_replicate hx
  omega
theorem made_zeros (k : Nat) : (madeCells (Value.int .u8 0).cells (k * 1)).toList = byteVals (zerosL k) := by
  rw [Nat.mul_one, show (Value.int IntKind.u8 0).cells = #[Value.int .u8 0] from rfl, toList_madeCells_one]
  simp [byteVals, zerosL]
theorem sure_b (w0 w : World) (B : Nat) (hT : NibAt w) (hb : Below B w0 w) (hB : B ≤ w.heap.size) : Calls Tryd.prog 19 #[] w fun e w' => e = .returned (.bool true) ∧ Below B w0 w' :=
  (sure_any w hT).mono fun _ _ h => ⟨h.1, hb.trans (h.2.mono hB)⟩
def LensF (k : Nat) (w0 : World) (e : Ending) (w' : World) : Prop := ∃ v' a c, v' = .slice a (k + 12) c ∧ e = .returned (.tuple #[v', .nilIface]) ∧ BytesIn w' v' (recF (zerosL k)) ∧ Below w0.heap.size w0 w' ∧ w0.heap.size ≤ w'.heap.size
theorem lens_frame (k : Nat) (y : Value) (w w0 : World) (hT : NibAt w) (hy : BytesIn w y (zerosL k)) (h0 : ¬ k = 0) (h1 : k ≤ 1048576) (hb : Below w0.heap.size w0 w) (hz : w0.heap.size ≤ w.heap.size) : Calls Tryd.prog 8 #[y] w (LensF k w0) := by
  refine (frame_ok y (zerosL k) w hT hy (zerosL_ok k) (by rw [zerosL_length]; exact h0) (by rw [zerosL_length]; exact h1)).mono fun e w' h => ?_
  obtain ⟨v', he, ho, hb2⟩ := h
  have hl : (recF (zerosL k)).length = k + 12 := by rw [recF_length, zerosL_length]
  obtain ⟨a, c, rfl⟩ := owns_wide ho
  exact ⟨_, a, c, by rw [hl], he, owns_in ho (by rw [hl]; unfold maxLen; omega), hb.trans (hb2.mono hz), Nat.le_trans hz hb2.size⟩
def LensO (k : Nat) (w0 : World) (e : Ending) (w' : World) : Prop := ∃ a c, e = .returned (.tuple #[.slice a k c, .int .i64 ((k : Int) + 12), .nilIface]) ∧ Below w0.heap.size w0 w' ∧ w0.heap.size ≤ w'.heap.size
theorem lens_one (k : Nat) (y : Value) (w w0 : World) (hT : NibAt w) (hy : BytesIn w y (recF (zerosL k))) (h0 : ¬ k = 0) (h1 : k ≤ 1048576) (hb : Below w0.heap.size w0 w) (hz : w0.heap.size ≤ w.heap.size) : Calls Tryd.prog 10 #[y] w (LensO k w0) := by
  have h := one_any y (recF (zerosL k)) w hT hy (recF_ok (zerosL_ok k)) (by rw [recF_length, zerosL_length]; omega)
  have hr := oneF_rec (zerosL k) [] (zerosL_ok k) (by rw [zerosL_length]; exact h0) (by rw [zerosL_length]; exact h1)
  rw [List.append_nil] at hr
  rw [hr] at h
  refine h.mono fun e w' h => ?_
  obtain ⟨hb2, v', he, ho⟩ := h
  obtain ⟨a, c, rfl⟩ := owns_wide ho
  rw [zerosL_length] at he
  exact ⟨a, c, he, hb.trans (hb2.mono hz), Nat.le_trans hz hb2.size⟩
set_option maxHeartbeats 2000000 in
theorem lens_any (n : Int) (w : World) (hT : NibAt w) :
    Calls Tryd.prog 6 #[.int .i64 n] w fun e w' => e = .returned (.bool true) ∧ Below w.heap.size w w' := by
  have HT := Lib.hid hT
  obtain ⟨i0, hi, hz0, hz1, hz2⟩ := info_parts infoU8
  have HI := Lib.hid (And.intro hi (And.intro hz0 (And.intro hz1 hz2)))
  clear hT hi hz0 hz1 hz2
  obtain ⟨m, e1⟩ : ∃ m : Nat, IntKind.u64.wrap n = (m : Int) := ⟨(n % 18446744073709551616).toNat, by rw [IntKind.wrap_u64]; omega⟩
  obtain ⟨k, hk, e2, e3⟩ : ∃ k : Nat, k < 1048579 ∧ (m : Int).tmod 1048579 = (k : Int) ∧ (m : Int) % 1048579 = (k : Int) := ⟨m % 1048579, by omega, by rw [Int.tmod_eq_emod_of_nonneg (by omega)]; omega, by omega⟩
  have HK := Lib.hid hk
  have HB0 := Lib.hid (Below.refl w.heap.size w)
  by_cases hk0 : k = 0
  · subst hk0
    go_enter Tryd.func6, Tryd.ntmps6
    go_wp2_with (first
      | (refine wpList_make_full _ rfl (.tmp 14) (.tmp 14) 22 rfl w.heap.size 5 i0 (.int .u8 0) 1 Tryd.underlying22 HI.out.1 HI.out.2.1 HI.out.2.2.1 .i64 .i64 _ _ 0 rfl rfl rfl rfl (by rw [HI.out.2.2.2]; omega) (by unfold maxLen; omega) (Nat.le_refl _) ?_; intro w1 ho1 hg1; rw [made_zeros] at ho1; have H1 := Lib.hid (owns_in (xs := zerosL 0) (by rw [zerosL_length]; exact ho1) (by rw [zerosL_length]; unfold maxLen; omega)); have HB1 := Lib.hid (HB0.out.grown hg1 (Nat.le_refl _) (fun k hk => by cases hk)); have HZ1 := Lib.hid hg1.size; clear ho1 hg1)
      | (go_at_call 8; (with_reducible refine (frame_nil _ (zerosL 0) w1 H1.out (zerosL_length 0)).mono ?_); rintro e w2 ⟨rfl, rfl⟩)
      | (go_at_call 19; (with_reducible refine (sure_b w w1 w.heap.size (HT.out.below HB1.out HT.out.lt) HB1.out HZ1.out).mono ?_); rintro e w3 ⟨rfl, hb3⟩; have HB3 := Lib.hid hb3; clear hb3))
    go_ret
    exact ⟨rfl, HB3.out⟩
  · have hz : ((k : Int) == 0) = false := by simp; omega
    have hz' : ¬ k = 0 := hk0
    clear hk0
    by_cases hbig : 1048576 < k
    · have hg : (1048576 : Int) < (k : Int) := by omega
      go_enter Tryd.func6, Tryd.ntmps6
      go_wp2_with (first
        | (refine wpList_make_full _ rfl (.tmp 14) (.tmp 14) 22 rfl w.heap.size 5 i0 (.int .u8 0) 1 Tryd.underlying22 HI.out.1 HI.out.2.1 HI.out.2.2.1 .i64 .i64 _ _ k rfl rfl rfl rfl (by rw [HI.out.2.2.2]; have := HK.out; omega) (by have := HK.out; unfold maxLen; omega) (Nat.le_refl _) ?_; intro w1 ho1 hg1; rw [made_zeros] at ho1; have H1 := Lib.hid (owns_in (xs := zerosL k) (by rw [zerosL_length]; exact ho1) (by rw [zerosL_length]; have := HK.out; unfold maxLen; omega)); have HB1 := Lib.hid (HB0.out.grown hg1 (Nat.le_refl _) (fun k hk => by cases hk)); have HZ1 := Lib.hid hg1.size; clear ho1 hg1)
        | (go_at_call 8; (with_reducible refine (frame_long _ (zerosL k) w1 H1.out (by rw [zerosL_length]; omega)).mono ?_); rintro e w2 ⟨rfl, rfl⟩)
        | (go_at_call 19; (with_reducible refine (sure_b w w1 w.heap.size (HT.out.below HB1.out HT.out.lt) HB1.out HZ1.out).mono ?_); rintro e w3 ⟨rfl, hb3⟩; have HB3 := Lib.hid hb3; clear hb3))
      go_ret
      exact ⟨rfl, HB3.out⟩
    · have hg : ¬ (1048576 : Int) < (k : Int) := by omega
      have HK2 := Lib.hid hbig
      have HN := Lib.hid hz'
      go_enter Tryd.func6, Tryd.ntmps6
      go_wp2_with (first
        | (refine wpList_make_full _ rfl (.tmp 14) (.tmp 14) 22 rfl w.heap.size 5 i0 (.int .u8 0) 1 Tryd.underlying22 HI.out.1 HI.out.2.1 HI.out.2.2.1 .i64 .i64 _ _ k rfl rfl rfl rfl (by rw [HI.out.2.2.2]; have := HK.out; omega) (by have := HK.out; unfold maxLen; omega) (Nat.le_refl _) ?_; intro w1 ho1 hg1; rw [made_zeros] at ho1; have H1 := Lib.hid (owns_in (xs := zerosL k) (by rw [zerosL_length]; exact ho1) (by rw [zerosL_length]; have := HK.out; unfold maxLen; omega)); have HB1 := Lib.hid (HB0.out.grown hg1 (Nat.le_refl _) (fun k hk => by cases hk)); have HZ1 := Lib.hid hg1.size; clear ho1 hg1)
        | (go_at_call 8; (with_reducible refine (lens_frame k _ w1 w (HT.out.below HB1.out HT.out.lt) H1.out HN.out (by have := HK2.out; omega) HB1.out HZ1.out).mono ?_); rintro e w2 ⟨v2, a2, c2, rfl, rfl, h2, hb2, hz2⟩; have H2 := Lib.hid h2; have HB2 := Lib.hid hb2; have HZ2 := Lib.hid hz2; clear h2 hb2 hz2)
        | (go_at_call 10; (with_reducible refine (lens_one k _ w2 w (HT.out.below HB2.out HT.out.lt) H2.out HN.out (by have := HK2.out; omega) HB2.out HZ2.out).mono ?_); rintro e w3 ⟨a3, c3, rfl, hb3, hz3⟩; have HB3 := Lib.hid hb3; have HZ3 := Lib.hid hz3; clear hb3 hz3)
        | (go_at_call 19; (with_reducible refine (sure_b w w3 w.heap.size (HT.out.below HB3.out HT.out.lt) HB3.out HZ3.out).mono ?_); rintro e w4 ⟨rfl, hb4⟩; have HB4 := Lib.hid hb4; clear hb4))
      go_ret
      exact ⟨rfl, HB4.out⟩
end Go.Proofs.YtfdjmfomccckaaaDoor
