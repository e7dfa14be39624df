/- Digest, the program's and the reference's. -/
import Derived.Test.YtlgjeledcnhmnaaDoorRWo5
namespace Go.Proofs.YtlgjeledcnhmnaaDoor
open Go.RowKit
set_option maxRecDepth 100000
def digestF (text : List Int) (n : Nat) : List Int := rowL n (sumF (4 :: text))
theorem rowL_take (f : Nat → Int) (n : Nat) : (rowL n f).length = n := by simp [rowL]
theorem sliceAn (b n : Nat) (hn : n ≤ 32) (w : World) : (Instr.sliceAt 23 (.pointer (some ⟨b, 0, none⟩)) none (some (.int .i64 (n : Int))) none).run Tryd.prog w = .ok (.slice (some ⟨b, 0, none⟩) n 32) w := by
  have ha : Tryd.prog.arrayLen 23 = 32 := by kernel_rfl
  have he : Tryd.prog.elem 23 = 5 := by kernel_rfl
  have hs : (sizeOf 5).run Tryd.prog w = .ok 1 w := by kernel_rfl
  rw [run_sliceAt_array_h w 23 ⟨b, 0, none⟩ (by rw [ha, he]; exact Tryd.underlying23) .i64 (n : Int) (by omega) (by rw [ha]; omega), ha, he, hs]
  simp only [Result.andThen_ok, slicedAt, Int.toNat_natCast]
  rfl
theorem wdigest_no (v : Value) (n : Int) (w : World) (h : n < 1 ∨ 32 < n) :
    Calls Tryd.prog 8 #[v, .int .i64 n] w fun e w' => e = .returned (.tuple #[.slice none 0 0, errV (some 1)]) ∧ w = w' := by
  replace h := Lib.hid h
  go_enter Tryd.func8, Tryd.ntmps8
  go_wp2_with (go_at_call 19; (with_reducible refine (wlen_no n _ h.out).mono ?_); rintro e w' ⟨rfl, rfl⟩)
  go_ret2
  exact ⟨rfl, rfl⟩
theorem rdigest_no (v : Value) (n : Int) (w : World) (h : n < 1 ∨ 32 < n) :
    Calls Tryd.prog 10 #[v, .int .i64 n] w fun e w' => e = .returned (.tuple #[.slice none 0 0, .int .i64 1]) ∧ w = w' := by
  by_cases h1 : n < 1
  · have e1 : decide (n < 1) = true := by simpa using h1
    clear h
    go_enter Tryd.func10, Tryd.ntmps10
    go_wp2
    go_ret2
    exact ⟨rfl, rfl⟩
  · have e1 : decide (n < 1) = false := by simpa using h1
    have h2 : 32 < n := by omega
    clear h
    go_enter Tryd.func10, Tryd.ntmps10
    go_wp2
    go_ret2
    exact ⟨rfl, rfl⟩
set_option maxHeartbeats 1000000 in
theorem wdigest_ok (v : Value) (xs : List Int) (n : Nat) (w : World) (hx : BytesIn w v xs) (he : Env w) (hn : 1 ≤ n ∧ n ≤ 32) :
    Calls Tryd.prog 8 #[v, .int .i64 (n : Int)] w fun e w' => ∃ v', e = .returned (.tuple #[v', errV none]) ∧ BytesIn w' v' (digestF xs n) ∧ Below w.heap.size w w' := by
  have HN := Lib.hid hn
  have hnb := hn.2
  have hn0 : ¬ (2 * (n : Int) + 3 = 0) := by omega
  have HB1 := below_alloc w (.cells (hashCells BT (fun _ => 0) 0) 81)
  have HC := Lib.hid he.lt
  have HX := Lib.hid (hx.at (g := w.heap.size) HB1 (Nat.le_refl _) (Nat.le_refl _))
  have HE := Lib.hid he
  have HE1 := Lib.hid (he.below HB1 he.lt)
  have HH := Lib.hid (show HashAt (w.alloc (.cells (hashCells BT (fun _ => 0) 0) 81)) w.heap.size h0.s h0.b h0.n from heap_alloc_new w _)
  replace HB1 := Lib.hid HB1
  clear he hx hn
  go_enter Tryd.func8, Tryd.ntmps8
  go_upto_region 4 with (first
    | (go_at_call 19; (with_reducible refine (wlen_ok n _ HN.out.1 HN.out.2).mono ?_); rintro e w' ⟨rfl, rfl⟩)
    | (go_at_call 25; (with_reducible refine (shNew_any _ HE.out).mono ?_); rintro e w' ⟨rfl, rfl⟩))
  generalize w.alloc (.cells (hashCells BT (fun _ => 0) 0) 81) = w1 at *
  obtain ⟨g, hg⟩ : ∃ g, g = w.heap.size := ⟨_, rfl⟩
  rw [← hg] at HX HH ⊢
  replace hg := Lib.hid hg
  have ha := below_alloc w1 (.cells #[.int .u8 4] 5)
  have HHa := Lib.hid (HH.out.below ha HH.out.lt)
  have HEa := Lib.hid (HE1.out.below ha HE1.out.lt)
  have HO1 := Lib.hid (oneAt w1 g HH.out.lt 4)
  have HX1 := Lib.hid (HX.out.below' ha)
  have HB2 := Lib.hid (HB1.out.trans (ha.mono HB1.out.size))
  have HG := Lib.hid (show 2 < g from by rw [hg.out]; exact HC.out)
  clear ha HE1 HX HH HB1
  go_upto_region 5 with (go_at_call 26; (with_reducible refine (shWrite_any g _ _ _ [4] _ _ HHa.out (by decide) (by decide) HO1.out HEa.out HG.out).mono ?_); rintro e w2 ⟨rfl, HH2, HO⟩; have HH2 := Lib.hid HH2; have HX2 := Lib.hid (HX1.out.only HO); have HE2 := Lib.hid (HO.env HEa.out HG.out); have HB3 := Lib.hid (HB2.out.trans (HO.below (by rw [hg.out]; exact Nat.le_refl _) HB2.out.size)); clear HO)
  have hb1 := putF_bounds h0 (by decide) (by decide) [4]
  have HBD1 := Lib.hid hb1
  clear hb1 HHa HX1 HEa HO1 HB2
  go_upto_region 6 with (go_at_call 26; (with_reducible refine (shWrite_any g _ _ _ xs v _ HH2.out HBD1.out.1 HBD1.out.2 HX2.out HE2.out HG.out).mono ?_); rintro e w3 ⟨rfl, HH3, HO⟩; have HH3 := Lib.hid HH3; have HE3 := Lib.hid (HO.env HE2.out HG.out); have HB4 := Lib.hid (HB3.out.trans (HO.below (by rw [hg.out]; exact Nat.le_refl _) HB3.out.size)); clear HO)
  have hb2 := putF_bounds (putF h0 [4]) HBD1.out.1 HBD1.out.2 xs
  have HBD2 := Lib.hid hb2
  clear hb2 HH2 HX2 HE2 HB3
  go_upto_region 7 with (first
    | (go_at_call 27; (with_reducible refine (sumM_any g _ _ _ _ HH3.out HBD2.out.1 HBD2.out.2 HE3.out.consts).mono ?_); rintro e w4 ⟨rfl, hb⟩; have HB5 := Lib.hid (HB4.out.trans (hb.mono HB4.out.size)); clear hb; rw [show outF (finF (putF (putF h0 [4]) xs).s (putF (putF h0 [4]) xs).b (putF (putF h0 [4]) xs).n ((putF (putF h0 [4]) xs).n % 64).toNat) = sumF (4 :: xs) from rfl])
    | (refine wpList_store_row rfl 23 (.tmp 7) (.tmp 20) rfl w4.heap.size (rowOf .u8 32 (sumF (4 :: xs))) rfl rfl 23 _ (heap_alloc_new _ _) (by rw [rowOf_size]; kernel_rfl) rfl (rowOf_one _ _ _) ?_; rw [World.setRow_alloc_new]; have HR := Lib.hid (RowAt.new w4 .u8 32 23 (sumF (4 :: xs))); have HB6 := Lib.hid (HB5.out.trans ((below_alloc w4 (.cells (rowOf .u8 32 (sumF (4 :: xs))) 23)).mono HB5.out.size)); generalize w4.heap.size = gr at *; generalize w4.alloc (.cells (rowOf .u8 32 (sumF (4 :: xs))) 23) = w5 at *))
  have hsl := sliceAn gr n hnb
  have HY := Lib.hid (row_in (k := n) (c := 32) HR.out hnb hnb (by unfold maxLen; omega))
  have HO0 := Lib.hid (World.ownsRow_nil w5 w5.heap.size 5 1)
  go_wp2_with (at_builtin; refine wpList_append_bytes rfl (.const (.slice none 0 0)) (.tmp 22) rfl rfl w5.heap.size _ 0 [] rfl HO0.out _ (rowL n (sumF (4 :: xs))) rfl HY.out (by rw [rowL_length]; omega) (Nat.le_refl _) ?_; intro v' w6 ho hg2 _; have HI := Lib.hid (owns_in (xs := rowL n (sumF (4 :: xs))) (by rw [Nat.zero_add, List.nil_append] at ho; exact ho) (by rw [rowL_length]; unfold maxLen; omega)); have HB7 := Lib.hid (HB6.out.trans (((Below.refl _ _).grown hg2 (Nat.le_refl _) (fun k hk => by cases hk)).mono HB6.out.size)); clear ho hg2)
  go_ret2
  exact ⟨_, rfl, HI.out, HB7.out⟩
set_option maxHeartbeats 1000000 in
theorem rdigest_ok (v : Value) (xs : List Int) (n : Nat) (w : World) (hx : BytesIn w v xs) (hl : xs.length + 81 ≤ 140737488355328) (hn : 1 ≤ n ∧ n ≤ 32) :
    Calls Tryd.prog 10 #[v, .int .i64 (n : Int)] w fun e w' => ∃ v', e = .returned (.tuple #[v', .int .i64 0]) ∧ BytesIn w' v' (digestF xs n) ∧ Below w.heap.size w w' := by
  have HL := Lib.hid hl
  have hnb := hn.2
  have hn1 := hn.1
  have e1 : decide ((n : Int) < 1) = false := by simp; omega
  have HB0 := Lib.hid (below_alloc w (.cells #[.int .u8 4] 5))
  have HX := Lib.hid (hx.below HB0.out)
  have HO := Lib.hid (show (w.alloc (.cells #[.int .u8 4] 5)).ownsRow w.heap.size 5 1 (.slice (some ⟨w.heap.size, 0, none⟩) 1 1) 1 [.int .u8 4] from World.ownsRow_lit (w := w) (base := w.heap.size) (e := 5) (size := 1) #[.int .u8 4] 1 (Nat.le_refl _) (by simp [maxLen]) rfl)
  clear hx hl hn
  go_enter Tryd.func10, Tryd.ntmps10
  go_upto_region 4 with (first
    | (at_builtin; refine wpList_append_bytes rfl (.tmp 13) (.tmp 14) rfl rfl w.heap.size _ 1 [.int .u8 4] rfl HO.out v xs rfl HX.out (by have := HL.out; omega) (by simp) ?_; intro v' w1 ho hg _; have HX1 := Lib.hid (owns_in (xs := 4 :: xs) (by have h := ho; rw [Nat.add_comm 1 xs.length] at h; exact h) (by have := HL.out; unfold maxLen; simp; omega)); have HB1 := Lib.hid (HB0.out.grown hg HB0.out.size (fun k hk => (HO.out.lt k hk).1)); clear ho hg)
    | (go_at_call 28; (with_reducible refine (rsum_any _ _ _ HX1.out (by have := HL.out; simp; omega)).mono ?_); rintro e w4 ⟨rfl, hb⟩; have HB5 := Lib.hid (HB1.out.trans (hb.mono HB1.out.size)); clear hb)
    | (refine wpList_store_row rfl 23 (.tmp 6) (.tmp 16) rfl w4.heap.size (rowOf .u8 32 (sumF (4 :: xs))) rfl rfl 23 _ (heap_alloc_new _ _) (by rw [rowOf_size]; kernel_rfl) rfl (rowOf_one _ _ _) ?_; rw [World.setRow_alloc_new]; have HR := Lib.hid (RowAt.new w4 .u8 32 23 (sumF (4 :: xs))); have HB6 := Lib.hid (HB5.out.trans ((below_alloc w4 (.cells (rowOf .u8 32 (sumF (4 :: xs))) 23)).mono HB5.out.size)); generalize w4.heap.size = gr at *; generalize w4.alloc (.cells (rowOf .u8 32 (sumF (4 :: xs))) 23) = w5 at *))
  have hsl := sliceAn gr n hnb
  go_wp2_with (fail)
  go_ret2
  exact ⟨_, rfl, row_in (k := n) (c := 32) HR.out hnb hnb (by unfold maxLen; omega), HB6.out⟩
end Go.Proofs.YtlgjeledcnhmnaaDoor
