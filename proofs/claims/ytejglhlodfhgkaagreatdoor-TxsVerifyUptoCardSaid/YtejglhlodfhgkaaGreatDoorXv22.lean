/- Part 22 of the proof. -/
import Derived.Test.YtejglhlodfhgkaaGreatDoorXv1
import Derived.Test.YtejglhlodfhgkaaGreatDoorXv3
import Derived.Test.YtejglhlodfhgkaaGreatDoorXv4
import Derived.Test.YtejglhlodfhgkaaGreatDoorXv21
namespace Go.Proofs.YtejglhlodfhgkaaGreatDoor
set_option linter.unusedVariables false
set_option linter.unusedSimpArgs false
open Go.RowKit
set_option maxRecDepth 100000
def parQ (xs : List Int) (k : Nat) : Nat → Int := fun j => if 2 * j + 1 < k then parF xs j else if 2 * j < k then hexv (xs.getD (2 * j) 0) else 0
theorem parQ_zero (xs : List Int) : parQ xs 0 = fun _ => 0 := by funext i; unfold parQ; rw [if_neg (by omega), if_neg (by omega)]
theorem parF_bounds (xs : List Int) (j : Nat) : 0 ≤ parF xs j ∧ parF xs j < 256 := by
  unfold parF
  have := hexv_bounds (xs.getD (2 * j) 0); have := hexv_bounds (xs.getD (2 * j + 1) 0); omega
theorem parQ_bounds (xs : List Int) (k j : Nat) : 0 ≤ parQ xs k j ∧ parQ xs k j < 256 := by
  unfold parQ
  split
  · exact parF_bounds xs j
  · split
    · have := hexv_bounds (xs.getD (2 * j) 0); omega
    · omega
theorem parQ_half (xs : List Int) (k : Nat) : 0 ≤ parQ xs k (k / 2) ∧ parQ xs k (k / 2) < 16 := by
  unfold parQ
  rw [if_neg (by omega)]
  split
  · exact hexv_bounds _
  · omega
theorem parQ_succ (xs : List Int) (k : Nat) (c v : Int) (hc : xs[k]? = some c) (hv : v = parQ xs k (k / 2) * 16 + hexv c) : upd (parQ xs k) (k / 2) v = parQ xs (k + 1) := by
  have hg : xs.getD k 0 = c := by rw [List.getD, hc]; rfl
  subst hv
  funext j
  unfold upd
  by_cases h : j = k / 2
  · rw [if_pos h]
    subst h
    unfold parQ parF
    rw [if_neg (by omega)]
    by_cases ho : k % 2 = 0
    · rw [if_neg (by omega), if_neg (by omega), if_pos (by omega), show 2 * (k / 2) = k by omega, hg]; omega
    · rw [if_pos (by omega), if_pos (by omega), show 2 * (k / 2) + 1 = k by omega, hg]; omega
  · rw [if_neg h]
    unfold parQ
    by_cases h1 : 2 * j + 1 < k
    · rw [if_pos h1, if_pos (by omega)]
    · rw [if_neg h1]
      by_cases h2 : 2 * j < k
      · omega
      · rw [if_neg h2, if_neg (show ¬ 2 * j + 1 < k + 1 by omega), if_neg (show ¬ 2 * j < k + 1 by omega)]
theorem hexd_hexc (n : Int) (h0 : 0 ≤ n) (h1 : n < 16) : hexc (hexd n) = true := by
  unfold hexc hexd
  split <;> simp <;> omega
theorem hexd_hexv (c : Int) (h : hexc c = true) : hexd (hexv c) = c := by
  unfold hexc at h
  simp only [Bool.or_eq_true, decide_eq_true_eq] at h
  unfold hexd hexv
  rcases h with h | h
  · rw [if_pos h, if_pos (by omega)]; omega
  · rw [if_neg (by omega), if_pos h, if_neg (by omega)]; omega
theorem textL_length (h : Nat → Int) : (textL h).length = 64 := by simp [textL]
theorem textL_hex (h : Nat → Int) (hb : ∀ i, 0 ≤ h i ∧ h i < 256) : (textL h).all hexc = true := by
  rw [List.all_eq_true]
  intro c hc
  simp only [textL, List.mem_map, List.mem_range] at hc
  obtain ⟨i, _, rfl⟩ := hc
  unfold textF
  have := hb (i / 2)
  split <;> exact hexd_hexc _ (by omega) (by omega)
theorem textL_bytes (h : Nat → Int) (hb : ∀ i, 0 ≤ h i ∧ h i < 256) : ∀ x ∈ textL h, 0 ≤ x ∧ x < 256 := by
  intro c hc
  have h2 := List.all_eq_true.1 (textL_hex h hb) c hc
  unfold hexc at h2
  simp only [Bool.or_eq_true, decide_eq_true_eq] at h2
  omega
theorem text_par (xs : List Int) (hl : xs.length = 64) (h : xs.all hexc = true) : textL (parF xs) = xs := by
  apply List.ext_getElem (by rw [textL_length, hl])
  intro i h1 h2
  have hc : hexc xs[i] = true := List.all_eq_true.1 h _ (List.getElem_mem h2)
  simp only [textL, List.getElem_map, List.getElem_range]
  unfold textF parF
  have b0 := hexv_bounds (xs.getD (2 * (i / 2)) 0)
  have b1 := hexv_bounds (xs.getD (2 * (i / 2) + 1) 0)
  by_cases he : i % 2 = 0
  · rw [if_pos he, show (16 * hexv (xs.getD (2 * (i / 2)) 0) + hexv (xs.getD (2 * (i / 2) + 1) 0)) / 16 = hexv (xs.getD (2 * (i / 2)) 0) by omega, show 2 * (i / 2) = i by omega]
    rw [List.getD, List.getElem?_eq_getElem h2]; exact hexd_hexv _ hc
  · rw [if_neg he, show (16 * hexv (xs.getD (2 * (i / 2)) 0) + hexv (xs.getD (2 * (i / 2) + 1) 0)) % 16 = hexv (xs.getD (2 * (i / 2) + 1) 0) by omega, show 2 * (i / 2) + 1 = i by omega]
    rw [List.getD, List.getElem?_eq_getElem h2]; exact hexd_hexv _ hc
theorem textL_congr (f g : Nat → Int) (h : ∀ i, i < 32 → f i = g i) : textL f = textL g := by
  unfold textL
  apply List.map_congr_left
  intro i hi
  have hi : i < 64 := by simpa using hi
  unfold textF
  rw [h (i / 2) (by omega)]
theorem parQ_end (xs : List Int) (i : Nat) (hi : i < 32) : parQ xs 64 i = parF xs i := by unfold parQ; rw [if_pos (by omega)]
set_option maxHeartbeats 1000000 in
theorem rparse_any (s : ByteArray) (w : World) (hs : s.size ≤ maxLen) :
    Calls Tryz.prog 132 #[.string s] w fun e w' => e = .returned (.tuple #[.agg (rowOf .u8 32 (parR (numsOf s)).1), .int .i64 (numE (parR (numsOf s)).2)]) ∧ Below w.heap.size w w' := by
  unfold maxLen at hs
  have HR0 := Lib.hid (show RowAt ((w.alloc (.cells (rowOf .u8 32 (fun _ => 0)) 53)).alloc (.cells (rowOf .u8 32 (fun _ => 0)) 53)) w.heap.size .u8 32 53 (fun _ => 0) from (RowAt.new w .u8 32 53 (fun _ => 0)).alloc _)
  have HR1 := Lib.hid (show RowAt ((w.alloc (.cells (rowOf .u8 32 (fun _ => 0)) 53)).alloc (.cells (rowOf .u8 32 (fun _ => 0)) 53)) (w.heap.size + 1) .u8 32 53 (parQ (numsOf s) 0) from by
    rw [parQ_zero]
    have := RowAt.new (w.alloc (.cells (rowOf .u8 32 (fun _ => 0)) 53)) .u8 32 53 (fun _ => 0)
    rw [size_alloc] at this; exact this)
  have HB := Lib.hid ((below_alloc w (.cells (rowOf .u8 32 (fun _ => 0)) 53)).trans ((below_alloc _ (.cells (rowOf .u8 32 (fun _ => 0)) 53)).mono (by simp)))
  by_cases h64 : s.size = 64
  · have HLEN := Lib.hid (show (numsOf s).length = 64 by rw [numsOf_length]; exact h64)
    have h64' : (s.size : Int) = 64 := by omega
    have HS := Lib.hid h64
    go_enter Tryz.func132, Tryz.ntmps132
    go_upto_region 2 with (fail)
    rw [zeros32]
    generalize (w.alloc (.cells (rowOf .u8 32 (fun _ => 0)) 53)).alloc (.cells (rowOf .u8 32 (fun _ => 0)) 53) = w1 at *
    go_wp2_with (fail)
    go_loopw [5] (fun i wr => ∃ k : Nat, k ≤ 64 ∧ i = .int .i64 k ∧ Hid (RowAt wr w.heap.size .u8 32 53 (fun _ => 0) ∧ RowAt wr (w.heap.size + 1) .u8 32 53 (parQ (numsOf s) k) ∧ Below w.heap.size w wr)) (fun i _ => 64 - (intOf i).toNat)
    case atStart => exact ⟨0, by omega, rfl, Lib.hid ⟨HR0.out, HR1.out, HB.out⟩⟩
    case round =>
      clear HR0 HR1 HB
      obtain ⟨k, hk, rfl, H⟩ := hrel
      by_cases hlt : k < 64
      · have l0 : k < s.size := by omega
        have i0 := index_str s k l0
        obtain ⟨c, hc⟩ : ∃ c : Int, c = s[k].toNat := ⟨_, rfl⟩
        have hcb : 0 ≤ c ∧ c < 256 := by have := s[k].toNat_lt; omega
        rw [← hc] at i0
        replace hc := Lib.hid hc
        have n0 : ((k : Int) / 2).toNat = k / 2 := by omega
        have c0 := H.out.2.1.cell (k / 2) (by omega)
        have f0 := H.out.2.1.free (k / 2)
        have HI := Lib.hid i0
        obtain ⟨hp0, hp1⟩ := parQ_half (numsOf s) k
        obtain ⟨p, hp⟩ : ∃ p, p = parQ (numsOf s) k (k / 2) := ⟨_, rfl⟩
        rw [← hp] at hp0 hp1 c0
        replace hp := Lib.hid hp
        clear i0
        have HK := Lib.hid (show ∀ v, v = p * 16 + hexv c → RowAt (wr.setCell ⟨w.heap.size + 1, k / 2, none⟩ (.int .u8 v)) (w.heap.size + 1) .u8 32 53 (parQ (numsOf s) (k + 1)) from fun v hv => by
          have R := H.out.2.1.set (k / 2) v
          rw [parQ_succ _ _ c v HI.out (by rw [hv, hp.out])] at R
          exact R)
        rcases (by omega : (48 ≤ c ∧ c ≤ 57) ∨ (97 ≤ c ∧ c ≤ 102) ∨ c < 48 ∨ (57 < c ∧ c < 97) ∨ 102 < c) with ⟨h1a, h1b⟩ | ⟨h1a, h1b⟩ | h1 | ⟨h1a, h1b⟩ | h1
        · have hv := Lib.hid (show hexv c = c - 48 by unfold hexv; rw [if_pos ⟨h1a, h1b⟩])
          have h2a : c < 97 := by omega
          go_upto_region 6 with (fail)
          rw [← hc.out]
          go_wp2_with (fail)
          go_roundw
          case rel => exact ⟨k + 1, by omega, by go_num, Lib.hid ⟨H.out.1.other _ _ (by simp), HK.out _ (by have := hv.out; omega), H.out.2.2.setCell (by show w.heap.size ≤ w.heap.size + 1; omega) _⟩⟩
          case measure => simp [intOf]; omega
        · have hv := Lib.hid (show hexv c = c - 87 by unfold hexv; rw [if_neg (by omega), if_pos ⟨h1a, h1b⟩])
          have h2a : 57 < c := by omega
          go_upto_region 6 with (fail)
          rw [← hc.out]
          go_wp2_with (fail)
          go_roundw
          case rel => exact ⟨k + 1, by omega, by go_num, Lib.hid ⟨H.out.1.other _ _ (by simp), HK.out _ (by have := hv.out; omega), H.out.2.2.setCell (by show w.heap.size ≤ w.heap.size + 1; omega) _⟩⟩
          case measure => simp [intOf]; omega
        · have hv := Lib.hid (show hexv c = 0 by unfold hexv; rw [if_neg (by omega), if_neg (by omega)])
          have h2a : c < 97 := by omega
          go_upto_region 6 with (fail)
          rw [← hc.out]
          go_wp2_with (fail)
          go_roundw
          case rel => exact ⟨k + 1, by omega, by go_num, Lib.hid ⟨H.out.1.other _ _ (by simp), HK.out _ (by have := hv.out; omega), H.out.2.2.setCell (by show w.heap.size ≤ w.heap.size + 1; omega) _⟩⟩
          case measure => simp [intOf]; omega
        · have hv := Lib.hid (show hexv c = 0 by unfold hexv; rw [if_neg (by omega), if_neg (by omega)])
          go_upto_region 6 with (fail)
          rw [← hc.out]
          go_wp2_with (fail)
          go_roundw
          case rel => exact ⟨k + 1, by omega, by go_num, Lib.hid ⟨H.out.1.other _ _ (by simp), HK.out _ (by have := hv.out; omega), H.out.2.2.setCell (by show w.heap.size ≤ w.heap.size + 1; omega) _⟩⟩
          case measure => simp [intOf]; omega
        · have hv := Lib.hid (show hexv c = 0 by unfold hexv; rw [if_neg (by omega), if_neg (by omega)])
          have h2a : 57 < c := by omega
          go_upto_region 6 with (fail)
          rw [← hc.out]
          go_wp2_with (fail)
          go_roundw
          case rel => exact ⟨k + 1, by omega, by go_num, Lib.hid ⟨H.out.1.other _ _ (by simp), HK.out _ (by have := hv.out; omega), H.out.2.2.setCell (by show w.heap.size ≤ w.heap.size + 1; omega) _⟩⟩
          case measure => simp [intOf]; omega
      · obtain rfl : k = 64 := by omega
        by_cases hgood : (numsOf s).all hexc = true
        · have HT : Hid (strOfNums (textL (parQ (numsOf s) 64)) = s) := Lib.hid (by rw [textL_congr _ _ (parQ_end (numsOf s)), text_par _ HLEN.out hgood, str_numsOf])
          have HP := Lib.hid (show parR (numsOf s) = (parF (numsOf s), none) by unfold parR; rw [if_pos ⟨HLEN.out, hgood⟩])
          clear hgood
          go_wp2_with (first
            | (refine wpList_load_row rfl 53 (.tmp 4) rfl (w.heap.size + 1) rfl 53 _ (0, 0) _ H.out.2.1 Tryz.underlying53 rfl (by rw [rowOf_size]; kernel_rfl) ?_)
            | (go_at_call 191; (with_reducible refine (r1text_any _ (fun i _ => parQ_bounds _ _ _) _).mono ?_); rintro e w3 ⟨rfl, HB3⟩; rw [HT.out]; replace H := Lib.hid (show RowAt w3 w.heap.size .u8 32 53 (fun _ => 0) ∧ RowAt w3 (w.heap.size + 1) .u8 32 53 (parQ (numsOf s) 64) ∧ Below w.heap.size w w3 from ⟨H.out.1.below HB3 H.out.1.lt, H.out.2.1.below HB3 H.out.2.1.lt, H.out.2.2.trans (HB3.mono H.out.2.2.size)⟩); clear HB3)
            | (refine wpList_store_row rfl 53 (.tmp 2) (.tmp 54) rfl w.heap.size _ rfl rfl 53 _ H.out.1 (by rw [rowOf_size]; kernel_rfl) (by rw [rowOf_size, rowOf_size]) (rowOf_one _ _ _) ?_))
          refine bodyPost_ret (results_cell_tmp_row rfl _ _ w.heap.size 53 (rowOf .u8 32 (parQ (numsOf s) 64)) (0, 0) _ rfl (setRow_heap _ _ _ _ _ _ H.out.1) Tryz.underlying53 rfl (by rw [rowOf_size]; kernel_rfl)) rfl ?_
          refine ⟨?_, below_setRow H.out.2.2 (Nat.le_refl _) _⟩
          rw [HP.out, rowOf_congr _ _ _ _ (parQ_end (numsOf s))]
          rfl
        · have HT : Hid (strOfNums (textL (parQ (numsOf s) 64)) ≠ s) := Lib.hid (fun e => hgood (by
            have h := textL_hex (parQ (numsOf s) 64) (parQ_bounds _ _)
            have e2 := congrArg numsOf e
            rw [numsOf_str _ (textL_bytes _ (parQ_bounds _ _))] at e2
            rw [← e2]; exact h))
          have HP := Lib.hid (show parR (numsOf s) = (fun _ => 0, some 3) by unfold parR; rw [if_neg (fun h => hgood h.2)])
          clear hgood
          obtain ⟨T, hT⟩ : ∃ T, T = strOfNums (textL (parQ (numsOf s) 64)) := ⟨_, rfl⟩
          rw [← hT] at HT
          replace hT := Lib.hid hT
          have hne : (T.toList == s.toList) = false := by
            rw [beq_eq_false_iff_ne]; exact fun e => HT.out (WideShapes.bytes_inj (by rw [← ByteArray.toList_eq, ← ByteArray.toList_eq]; exact e))
          go_wp2_with (first
            | (refine wpList_load_row rfl 53 (.tmp 4) rfl (w.heap.size + 1) rfl 53 _ (0, 0) _ H.out.2.1 Tryz.underlying53 rfl (by rw [rowOf_size]; kernel_rfl) ?_)
            | (go_at_call 191; (with_reducible refine (r1text_any _ (fun i _ => parQ_bounds _ _ _) _).mono ?_); rintro e w3 ⟨rfl, HB3⟩; rw [← hT.out]; replace H := Lib.hid (show RowAt w3 w.heap.size .u8 32 53 (fun _ => 0) ∧ RowAt w3 (w.heap.size + 1) .u8 32 53 (parQ (numsOf s) 64) ∧ Below w.heap.size w w3 from ⟨H.out.1.below HB3 H.out.1.lt, H.out.2.1.below HB3 H.out.2.1.lt, H.out.2.2.trans (HB3.mono H.out.2.2.size)⟩); clear HB3)
            | (refine wpList_store_row rfl 53 (.tmp 2) (.tmp 53) rfl w.heap.size (rowOf .u8 32 (fun _ => 0)) rfl rfl 53 _ H.out.1 (by rw [rowOf_size]; kernel_rfl) rfl (rowOf_one _ _ _) ?_))
          refine bodyPost_ret (results_cell_tmp_row rfl _ _ w.heap.size 53 (rowOf .u8 32 (fun _ => 0)) (0, 0) _ rfl (setRow_heap _ _ _ _ _ _ H.out.1) Tryz.underlying53 rfl (by rw [rowOf_size]; kernel_rfl)) rfl ?_
          exact ⟨by rw [HP.out]; rfl, below_setRow H.out.2.2 (Nat.le_refl _) _⟩
  · have HP := Lib.hid (parR_long (numsOf s) (by rw [numsOf_length]; exact h64))
    have HLN := Lib.hid h64
    have hd : ((s.size : Int) == 64) = false := by rw [beq_eq_false_iff_ne]; omega
    obtain ⟨T, hT⟩ : ∃ T, T = strOfNums (textL (parQ (numsOf s) 0)) := ⟨_, rfl⟩
    have hne : (T.toList == s.toList) = false := by
      rw [beq_eq_false_iff_ne]
      intro e
      have e2 : T = s := WideShapes.bytes_inj (by rw [← ByteArray.toList_eq, ← ByteArray.toList_eq]; exact e)
      apply h64
      rw [← e2, hT, str_len, textL_length]
    replace hT := Lib.hid hT
    by_cases h0 : s.size = 0
    · have h0' : (s.size : Int) = 0 := by omega
      go_enter Tryz.func132, Tryz.ntmps132
      go_upto_region 2 with (fail)
      rw [zeros32]
      generalize (w.alloc (.cells (rowOf .u8 32 (fun _ => 0)) 53)).alloc (.cells (rowOf .u8 32 (fun _ => 0)) 53) = w1 at *
      go_wp2_with (fail)
      go_loopw [5] (fun i wr => i = .int .i64 0 ∧ wr = w1) (fun i _ => 0)
      case atStart => exact ⟨rfl, rfl⟩
      case round =>
      obtain ⟨rfl, rfl⟩ := hrel
      go_wp2_with (first
        | (refine wpList_load_row rfl 53 (.tmp 4) rfl (w.heap.size + 1) rfl 53 _ (0, 0) _ HR1.out Tryz.underlying53 rfl (by rw [rowOf_size]; kernel_rfl) ?_)
        | (go_at_call 191; (with_reducible refine (r1text_any _ (fun i _ => parQ_bounds _ _ _) _).mono ?_); rintro e w3 ⟨rfl, HB3⟩; rw [← hT.out]; have HR3 := Lib.hid (HR0.out.below HB3 HR0.out.lt); replace HB := Lib.hid (HB.out.trans (HB3.mono HB.out.size)); clear HB3)
        | (refine wpList_store_row rfl 53 (.tmp 2) (.tmp 53) rfl w.heap.size (rowOf .u8 32 (fun _ => 0)) rfl rfl 53 _ HR3.out (by rw [rowOf_size]; kernel_rfl) rfl (rowOf_one _ _ _) ?_))
      refine bodyPost_ret (results_cell_tmp_row rfl _ _ w.heap.size 53 (rowOf .u8 32 (fun _ => 0)) (0, 0) _ rfl (setRow_heap _ _ _ _ _ _ HR3.out) Tryz.underlying53 rfl (by rw [rowOf_size]; kernel_rfl)) rfl ?_
      exact ⟨by rw [HP.out]; rfl, below_setRow HB.out (Nat.le_refl _) _⟩
    · have h0' : (0 : Int) < s.size := by omega
      go_enter Tryz.func132, Tryz.ntmps132
      go_upto_region 2 with (fail)
      rw [zeros32]
      generalize (w.alloc (.cells (rowOf .u8 32 (fun _ => 0)) 53)).alloc (.cells (rowOf .u8 32 (fun _ => 0)) 53) = w1 at *
      go_wp2_with (fail)
      go_loopw [5] (fun i wr => i = .int .i64 0 ∧ wr = w1) (fun i _ => 0)
      case atStart => exact ⟨rfl, rfl⟩
      case round =>
      obtain ⟨rfl, rfl⟩ := hrel
      go_wp2_with (first
        | (refine wpList_load_row rfl 53 (.tmp 4) rfl (w.heap.size + 1) rfl 53 _ (0, 0) _ HR1.out Tryz.underlying53 rfl (by rw [rowOf_size]; kernel_rfl) ?_)
        | (go_at_call 191; (with_reducible refine (r1text_any _ (fun i _ => parQ_bounds _ _ _) _).mono ?_); rintro e w3 ⟨rfl, HB3⟩; rw [← hT.out]; have HR3 := Lib.hid (HR0.out.below HB3 HR0.out.lt); replace HB := Lib.hid (HB.out.trans (HB3.mono HB.out.size)); clear HB3)
        | (refine wpList_store_row rfl 53 (.tmp 2) (.tmp 53) rfl w.heap.size (rowOf .u8 32 (fun _ => 0)) rfl rfl 53 _ HR3.out (by rw [rowOf_size]; kernel_rfl) rfl (rowOf_one _ _ _) ?_))
      refine bodyPost_ret (results_cell_tmp_row rfl _ _ w.heap.size 53 (rowOf .u8 32 (fun _ => 0)) (0, 0) _ rfl (setRow_heap _ _ _ _ _ _ HR3.out) Tryz.underlying53 rfl (by rw [rowOf_size]; kernel_rfl)) rfl ?_
      exact ⟨by rw [HP.out]; rfl, below_setRow HB.out (Nat.le_refl _) _⟩
end Go.Proofs.YtejglhlodfhgkaaGreatDoor
namespace Go.Proofs.YtejglhlodfhgkaaGreatDoor
set_option linter.unusedVariables false
set_option linter.unusedSimpArgs false
open Go.RowKit
theorem bits_or_comm (x y : Int) : bits .or .u32 x y = bits .or .u32 y x := by
  unfold bits; simp only [BitVec.or_comm]
theorem ofInt_wrap32 (a : BitVec IntKind.u32.bits) : BitVec.ofInt IntKind.u32.bits (IntKind.u32.wrap (a.toNat : Int)) = a := by
  have hlt : a.toNat < 4294967296 := a.isLt
  have h : IntKind.u32.wrap (a.toNat : Int) = (a.toNat : Int) := by
    show ((a.toNat : Int) % 4294967296) = _
    omega
  rw [h]
  apply BitVec.eq_of_toNat_eq
  rw [BitVec.toNat_ofInt]
  show ((a.toNat : Int) % ((4294967296 : Nat) : Int)).toNat = _
  omega
theorem choose_vec (E F G : BitVec 32) : (E &&& F ||| (BitVec.allOnes 32 ^^^ E) &&& G) = (E &&& F ^^^ (BitVec.allOnes 32 ^^^ E) &&& G) := by
  ext i hi
  simp only [BitVec.getElem_or, BitVec.getElem_and, BitVec.getElem_xor, BitVec.getElem_allOnes]
  cases E[i] <;> cases F[i] <;> cases G[i] <;> rfl
theorem major_vec (A B C : BitVec 32) : (A &&& B ||| A &&& C ||| B &&& C) = (A &&& B ^^^ A &&& C ^^^ B &&& C) := by
  ext i hi
  simp only [BitVec.getElem_or, BitVec.getElem_and, BitVec.getElem_xor]
  cases A[i] <;> cases B[i] <;> cases C[i] <;> rfl
theorem or32 (x y : BitVec IntKind.u32.bits) (X Y : Int) (hx : BitVec.ofInt IntKind.u32.bits X = x) (hy : BitVec.ofInt IntKind.u32.bits Y = y) : bits .or .u32 X Y = IntKind.u32.wrap ((x ||| y).toNat : Int) := by subst hx; subst hy; rfl
theorem xor32 (x y : BitVec IntKind.u32.bits) (X Y : Int) (hx : BitVec.ofInt IntKind.u32.bits X = x) (hy : BitVec.ofInt IntKind.u32.bits Y = y) : bits .xor .u32 X Y = IntKind.u32.wrap ((x ^^^ y).toNat : Int) := by subst hx; subst hy; rfl
theorem and32 (x y : BitVec IntKind.u32.bits) (X Y : Int) (hx : BitVec.ofInt IntKind.u32.bits X = x) (hy : BitVec.ofInt IntKind.u32.bits Y = y) : bits .and .u32 X Y = IntKind.u32.wrap ((x &&& y).toNat : Int) := by subst hx; subst hy; rfl
theorem choose_bits (e f g : Int) : bits .or .u32 (bits .and .u32 e f) (bits .and .u32 (bits .xor .u32 4294967295 e) g) = bits .xor .u32 (bits .and .u32 e f) (bits .and .u32 (bits .xor .u32 IntKind.u32.max e) g) := by
  have hm : IntKind.u32.max = 4294967295 := by kernel_rfl
  rw [hm]
  obtain ⟨E, hE⟩ : ∃ E, BitVec.ofInt IntKind.u32.bits e = E := ⟨_, rfl⟩
  obtain ⟨F, hF⟩ : ∃ F, BitVec.ofInt IntKind.u32.bits f = F := ⟨_, rfl⟩
  obtain ⟨G, hG⟩ : ∃ G, BitVec.ofInt IntKind.u32.bits g = G := ⟨_, rfl⟩
  have hM : BitVec.ofInt IntKind.u32.bits 4294967295 = BitVec.allOnes 32 := by apply BitVec.eq_of_toNat_eq; kernel_rfl
  rw [and32 E F e f hE hF, xor32 _ E _ e hM hE, and32 _ G _ g (ofInt_wrap32 _) hG, or32 _ _ _ _ (ofInt_wrap32 _) (ofInt_wrap32 _), xor32 _ _ _ _ (ofInt_wrap32 _) (ofInt_wrap32 _)]
  exact congrArg (fun v : BitVec 32 => IntKind.u32.wrap (v.toNat : Int)) (choose_vec E F G)
theorem major_bits (a b c : Int) : bits .or .u32 (bits .or .u32 (bits .and .u32 a b) (bits .and .u32 a c)) (bits .and .u32 b c) = bits .xor .u32 (bits .xor .u32 (bits .and .u32 a b) (bits .and .u32 a c)) (bits .and .u32 b c) := by
  obtain ⟨A, hA⟩ : ∃ A, BitVec.ofInt IntKind.u32.bits a = A := ⟨_, rfl⟩
  obtain ⟨B, hB⟩ : ∃ B, BitVec.ofInt IntKind.u32.bits b = B := ⟨_, rfl⟩
  obtain ⟨C, hC⟩ : ∃ C, BitVec.ofInt IntKind.u32.bits c = C := ⟨_, rfl⟩
  rw [and32 A B a b hA hB, and32 A C a c hA hC, and32 B C b c hB hC, or32 _ _ _ _ (ofInt_wrap32 _) (ofInt_wrap32 _), or32 _ _ _ _ (ofInt_wrap32 _) (ofInt_wrap32 _), xor32 _ _ _ _ (ofInt_wrap32 _) (ofInt_wrap32 _), xor32 _ _ _ _ (ofInt_wrap32 _) (ofInt_wrap32 _)]
  exact congrArg (fun v : BitVec 32 => IntKind.u32.wrap (v.toNat : Int)) (major_vec A B C)
/- only the block's 64 bytes matter -/
theorem expA_congr (b b' : Nat → Int) (h : ∀ i, i < 64 → b i = b' i) : ∀ k, k ≤ 16 → expA b k = expA b' k
  | 0, _ => rfl
  | k + 1, hk => by
    have e : wordB b k = wordB b' k := by
      unfold wordB
      rw [h (4 * k) (by omega), h (4 * k + 1) (by omega), h (4 * k + 2) (by omega), h (4 * k + 3) (by omega)]
    show upd (expA b k) k (wordB b k) = upd (expA b' k) k (wordB b' k)
    rw [expA_congr b b' h k (by omega), e]
theorem expB_congr (b b' : Nat → Int) (h : ∀ i, i < 64 → b i = b' i) : ∀ k, expB b k = expB b' k
  | 0 => expA_congr b b' h 16 (by omega)
  | k + 1 => by
    show upd (expB b k) (k + 16) (nextW (expB b k) k) = upd (expB b' k) (k + 16) (nextW (expB b' k) k)
    rw [expB_congr b b' h k]
theorem mixF_congr (s b b' : Nat → Int) (h : ∀ i, i < 64 → b i = b' i) : mixF s b = mixF s b' := by
  unfold mixF; rw [expB_congr b b' h 48]
theorem lenF_get (f : Nat → Int) (n : Int) (i : Nat) (hi : i < 64) : ∀ k, k ≤ 8 → lenF f n k i = if 64 - k ≤ i then IntKind.u64.wrap (n * 8) / 2 ^ (8 * (63 - i)) % 256 else f i
  | 0, _ => by rw [if_neg (by omega)]; rfl
  | k + 1, hk => by
    show upd (lenF f n k) (63 - k) (IntKind.u64.wrap (n * 8) / 2 ^ (8 * k) % 256) i = _
    unfold upd
    by_cases h : i = 63 - k
    · rw [if_pos h, if_pos (by omega), show 63 - i = k by omega]
    · rw [if_neg h, lenF_get f n i hi k (by omega)]
      by_cases h2 : 64 - k ≤ i
      · rw [if_pos h2, if_pos (by omega)]
      · rw [if_neg h2, if_neg (by omega)]
/-- the first k of the last eight bytes -/
def lenB (n : Int) (k : Nat) : List Int := (List.range k).map fun j => IntKind.u64.wrap (n * 8) / 2 ^ (8 * (7 - j)) % 256
theorem lenB_length (n : Int) (k : Nat) : (lenB n k).length = k := by simp [lenB]
theorem lenB_succ (n : Int) (k : Nat) : lenB n (k + 1) = lenB n k ++ [IntKind.u64.wrap (n * 8) / 2 ^ (8 * (7 - k)) % 256] := by simp [lenB, List.range_succ]
theorem lenB_get (n : Int) (k j : Nat) (h : j < k) : (lenB n k).getD j 0 = IntKind.u64.wrap (n * 8) / 2 ^ (8 * (7 - j)) % 256 := by
  simp [lenB, List.getD_eq_getElem?_getD, h]
/-- noughts behind the bit 1 -/
def zN (n : Nat) : Nat := (119 - n % 64) % 64
def padL (n : Nat) : List Int := 128 :: (List.replicate (zN n) 0 ++ lenB n 8)
theorem padL_length (n : Nat) : (padL n).length = zN n + 9 := by simp [padL, lenB_length]
theorem padL_get (n i : Nat) : (padL n).getD i 0 = if i = 0 then 128 else if i < zN n + 1 then 0 else (lenB n 8).getD (i - (zN n + 1)) 0 := by
  unfold padL
  cases i with
  | zero => rfl
  | succ i =>
    rw [if_neg (by omega), List.getD_cons_succ, List.getD_eq_getElem?_getD, List.getElem?_append]
    simp only [List.length_replicate]
    by_cases h : i < zN n
    · rw [if_pos h, if_pos (by omega), List.getElem?_replicate, if_pos h]; rfl
    · rw [if_neg h, if_neg (by omega), ← List.getD_eq_getElem?_getD, show i + 1 - (zN n + 1) = i - zN n by omega]
/-- the padding put byte by byte is finish -/
theorem fin_put (s b : Nat → Int) (n : Nat) (hn : n < 18446744073709551616) : (putF ⟨s, b, n⟩ (padL n)).s = finF s b n ((n : Int) % 64).toNat := by
  obtain ⟨u, hu⟩ : ∃ u, n % 64 = u := ⟨_, rfl⟩
  have hu1 : ((n : Int) % 64).toNat = u := by omega
  have hz : zN n = (119 - u) % 64 := by unfold zN; rw [hu]
  rw [hu1]
  unfold finF
  by_cases h56 : u < 56
  · have hz' : zN n = 55 - u := by omega
    rw [if_pos h56, put_full s (padL n) b n u (by omega) (by omega) (by omega) (by rw [padL_length]; omega) (by omega)]
    refine mixF_congr _ _ _ fun i hi => ?_
    rw [lay_get, lenF_get _ _ _ hi 8 (by omega), padL_length, padL_get, hz']
    by_cases h1 : i < u
    · rw [if_neg (by omega), if_neg (by omega)]
      unfold padB clr upd
      rw [if_neg (by omega), if_neg (by omega)]
    · rw [if_pos (by omega)]
      by_cases h2 : i = u
      · rw [if_pos (by omega), if_neg (by omega)]
        unfold padB clr upd
        rw [if_neg (by omega), if_pos h2]
      · rw [if_neg (by omega)]
        by_cases h3 : i < 56
        · rw [if_pos (by omega), if_neg (by omega)]
          unfold padB clr
          rw [if_pos (by omega)]
        · rw [if_neg (by omega), if_pos (by omega), lenB_get _ _ _ (by omega), show 7 - (i - u - (55 - u + 1)) = 63 - i by omega]
  · have hz' : zN n = 119 - u := by omega
    rw [if_neg h56]
    have hsplit : padL n = (padL n).take (64 - u) ++ (padL n).drop (64 - u) := (List.take_append_drop _ _).symm
    have hl1 : ((padL n).take (64 - u)).length = 64 - u := by rw [List.length_take, padL_length]; omega
    have hl2 : ((padL n).drop (64 - u)).length = 64 := by rw [List.length_drop, padL_length]; omega
    rw [hsplit, putF_append, put_full s _ b n u (by omega) (by omega) (by omega) (by rw [hl1]; omega) (by omega)]
    rw [put_full _ _ _ _ 0 (by omega) (by omega) (by rw [hl1]; omega) (by rw [hl2]) (by omega)]
    have e1 : mixF s (lay b u ((padL n).take (64 - u))) = mixF s (padB b u) := by
      refine mixF_congr _ _ _ fun i hi => ?_
      rw [lay_get, hl1]
      by_cases h1 : i < u
      · rw [if_neg (by omega)]
        unfold padB clr upd
        rw [if_neg (by omega), if_neg (by omega)]
      · rw [if_pos (by omega), List.getD_eq_getElem?_getD, List.getElem?_take, if_pos (by omega), ← List.getD_eq_getElem?_getD, padL_get]
        by_cases h2 : i = u
        · rw [if_pos (by omega)]
          unfold padB clr upd
          rw [if_neg (by omega), if_pos h2]
        · rw [if_neg (by omega), if_pos (by omega)]
          unfold padB clr
          rw [if_pos (by omega)]
    show mixF (mixF s _) _ = _
    rw [e1]
    refine mixF_congr _ _ _ fun i hi => ?_
    rw [lay_get, hl2, if_pos (by omega), lenF_get _ _ _ hi 8 (by omega), List.getD_eq_getElem?_getD, List.getElem?_drop, ← List.getD_eq_getElem?_getD, padL_get, if_neg (by omega)]
    by_cases h3 : i < 56
    · rw [if_pos (by omega), if_neg (by omega)]
      unfold clr
      rw [if_pos (by omega)]
    · rw [if_neg (by omega), if_pos (by omega), lenB_get _ _ _ (by omega), show 7 - (64 - u + (i - 0) - (zN n + 1)) = 63 - i by omega]
theorem put_n (h : HS) : ∀ xs : List Int, 0 ≤ h.n → h.n < 18446744073709551616 → (putF h xs).n = (h.n + xs.length) % 18446744073709551616 := by
  intro xs
  induction xs generalizing h with
  | nil => intro h0 h1; show h.n = (h.n + ((0 : Nat) : Int)) % _; omega
  | cons x xs ih =>
    intro h0 h1
    have e : (put1 h x).n = (h.n + 1) % 18446744073709551616 := by unfold put1; split <;> rfl
    have := ih (put1 h x) (by rw [e]; omega) (by rw [e]; omega)
    show (putF (put1 h x) xs).n = _
    rw [this, e, List.length_cons]
    omega
/-- the whole padded message -/
def msgL (xs : List Int) : List Int := xs ++ padL xs.length
theorem msgL_length (xs : List Int) : (msgL xs).length % 64 = 0 := by
  unfold msgL
  rw [List.length_append, padL_length]
  unfold zN
  omega
theorem sum_msg (xs : List Int) (hl : xs.length < 18446744073709551616) : sumF xs = outF (putF h0 (msgL xs)).s := by
  have hn : (putF h0 xs).n = (xs.length : Nat) := by
    rw [put_n h0 xs (by decide) (by decide)]
    show ((0 : Int) + xs.length) % _ = _
    omega
  unfold sumF hsum msgL
  rw [putF_append]
  congr 1
  have := fin_put (putF h0 xs).s (putF h0 xs).b xs.length hl
  rw [← hn] at this
  exact this.symm
/-- one block of the message -/
def blkF (ms : List Int) (at_ : Nat) : Nat → Int := fun i => ms.getD (at_ + i) 0
def stF (ms : List Int) (at_ : Nat) : Nat → Int := (putF h0 (ms.take at_)).s
theorem stF_all (ms : List Int) : stF ms ms.length = (putF h0 ms).s := by unfold stF; rw [List.take_length]
theorem stF_next (ms : List Int) (p : Nat) (hp : p % 64 = 0) (hl : p + 64 ≤ ms.length) (hm : ms.length < 18446744073709551616) : stF ms (p + 64) = mixF (stF ms p) (blkF ms p) := by
  have hn : (putF h0 (ms.take p)).n = (p : Nat) := by
    rw [put_n h0 _ (by decide) (by decide), List.length_take]
    show ((0 : Int) + (min p ms.length : Nat)) % _ = _
    omega
  unfold stF
  have hs : ms.take (p + 64) = ms.take p ++ (ms.drop p).take 64 := by rw [List.take_add]
  have hl2 : ((ms.drop p).take 64).length = 64 := by rw [List.length_take, List.length_drop]; omega
  rw [hs, putF_append]
  have := put_full (putF h0 (ms.take p)).s ((ms.drop p).take 64) (putF h0 (ms.take p)).b (putF h0 (ms.take p)).n 0 (by rw [hn]; omega) (by rw [hn]; omega) (by rw [hn]; omega) (by rw [hl2]) (by omega)
  rw [show putF (putF h0 (ms.take p)) ((ms.drop p).take 64) = _ from this]
  show mixF _ _ = _
  refine mixF_congr _ _ _ fun i hi => ?_
  rw [lay_get, hl2, if_pos (by omega), List.getD_eq_getElem?_getD, List.getElem?_take, if_pos (by omega), List.getElem?_drop]
  unfold blkF
  rw [List.getD_eq_getElem?_getD, Nat.sub_zero]
end Go.Proofs.YtejglhlodfhgkaaGreatDoor
namespace Go.Proofs.YtejglhlodfhgkaaGreatDoor
set_option linter.unusedVariables false
set_option linter.unusedSimpArgs false
open Go.RowKit
set_option maxRecDepth 100000
theorem rturn2 (x : Int) (w : World) : Calls Tryz.prog 145 #[.int .u32 x, .int .u64 2] w fun e w' => e = .returned (.int .u32 (rotI x 30)) ∧ w = w' := by
  go_enter Tryz.func145, Tryz.ntmps145
  go_wp2
  go_ret
  refine ⟨?_, rfl⟩
  unfold rotI
  rw [bits_or_comm]
  rfl
theorem rturn6 (x : Int) (w : World) : Calls Tryz.prog 145 #[.int .u32 x, .int .u64 6] w fun e w' => e = .returned (.int .u32 (rotI x 26)) ∧ w = w' := by
  go_enter Tryz.func145, Tryz.ntmps145
  go_wp2
  go_ret
  refine ⟨?_, rfl⟩
  unfold rotI
  rw [bits_or_comm]
  rfl
theorem rturn7 (x : Int) (w : World) : Calls Tryz.prog 145 #[.int .u32 x, .int .u64 7] w fun e w' => e = .returned (.int .u32 (rotI x 25)) ∧ w = w' := by
  go_enter Tryz.func145, Tryz.ntmps145
  go_wp2
  go_ret
  refine ⟨?_, rfl⟩
  unfold rotI
  rw [bits_or_comm]
  rfl
theorem rturn11 (x : Int) (w : World) : Calls Tryz.prog 145 #[.int .u32 x, .int .u64 11] w fun e w' => e = .returned (.int .u32 (rotI x 21)) ∧ w = w' := by
  go_enter Tryz.func145, Tryz.ntmps145
  go_wp2
  go_ret
  refine ⟨?_, rfl⟩
  unfold rotI
  rw [bits_or_comm]
  rfl
theorem rturn13 (x : Int) (w : World) : Calls Tryz.prog 145 #[.int .u32 x, .int .u64 13] w fun e w' => e = .returned (.int .u32 (rotI x 19)) ∧ w = w' := by
  go_enter Tryz.func145, Tryz.ntmps145
  go_wp2
  go_ret
  refine ⟨?_, rfl⟩
  unfold rotI
  rw [bits_or_comm]
  rfl
theorem rturn17 (x : Int) (w : World) : Calls Tryz.prog 145 #[.int .u32 x, .int .u64 17] w fun e w' => e = .returned (.int .u32 (rotI x 15)) ∧ w = w' := by
  go_enter Tryz.func145, Tryz.ntmps145
  go_wp2
  go_ret
  refine ⟨?_, rfl⟩
  unfold rotI
  rw [bits_or_comm]
  rfl
theorem rturn18 (x : Int) (w : World) : Calls Tryz.prog 145 #[.int .u32 x, .int .u64 18] w fun e w' => e = .returned (.int .u32 (rotI x 14)) ∧ w = w' := by
  go_enter Tryz.func145, Tryz.ntmps145
  go_wp2
  go_ret
  refine ⟨?_, rfl⟩
  unfold rotI
  rw [bits_or_comm]
  rfl
theorem rturn19 (x : Int) (w : World) : Calls Tryz.prog 145 #[.int .u32 x, .int .u64 19] w fun e w' => e = .returned (.int .u32 (rotI x 13)) ∧ w = w' := by
  go_enter Tryz.func145, Tryz.ntmps145
  go_wp2
  go_ret
  refine ⟨?_, rfl⟩
  unfold rotI
  rw [bits_or_comm]
  rfl
theorem rturn22 (x : Int) (w : World) : Calls Tryz.prog 145 #[.int .u32 x, .int .u64 22] w fun e w' => e = .returned (.int .u32 (rotI x 10)) ∧ w = w' := by
  go_enter Tryz.func145, Tryz.ntmps145
  go_wp2
  go_ret
  refine ⟨?_, rfl⟩
  unfold rotI
  rw [bits_or_comm]
  rfl
theorem rturn25 (x : Int) (w : World) : Calls Tryz.prog 145 #[.int .u32 x, .int .u64 25] w fun e w' => e = .returned (.int .u32 (rotI x 7)) ∧ w = w' := by
  go_enter Tryz.func145, Tryz.ntmps145
  go_wp2
  go_ret
  refine ⟨?_, rfl⟩
  unfold rotI
  rw [bits_or_comm]
  rfl
theorem results_cell2 {P : Program} {fn : Func} {p q : Tmp} {ty uy : TypeId} (h : fn.results = #[.cell p ty, .cell q uy]) (tmps : Array Value) (w : World) (g g2 : Nat) (t t2 : TypeId) (cs cs2 : Array Value) (fr fr2 : Nat × Nat) (d d2 : TypeDesc)
    (hp : tmps.getD p undef = .pointer (some ⟨g, 0, none⟩)) (hg : w.heap[g]? = some (.cells cs t fr))
    (hu : P.underlying ty = some d) (hd : (match d with | .struct _ | .array _ _ => true | _ => false) = true) (hi : (P.info? ty).map (·.size) = some cs.size)
    (hp2 : tmps.getD q undef = .pointer (some ⟨g2, 0, none⟩)) (hg2 : w.heap[g2]? = some (.cells cs2 t2 fr2))
    (hu2 : P.underlying uy = some d2) (hd2 : (match d2 with | .struct _ | .array _ _ => true | _ => false) = true) (hi2 : (P.info? uy).map (·.size) = some cs2.size) :
    (results fn tmps).run P w = .ok (.tuple #[.agg cs, .agg cs2]) w := by
  have hp' : tmps[p]?.getD undef = .pointer (some ⟨g, 0, none⟩) := by simpa using hp
  have hp2' : tmps[q]?.getD undef = .pointer (some ⟨g2, 0, none⟩) := by simpa using hp2
  simp [results, h, hp', hp2', asAddr, run_loadVar_row w g t ty cs fr d hg hu hd hi, run_loadVar_row w g2 t2 uy cs2 fr2 d2 hg2 hu2 hd2 hi2]
set_option maxHeartbeats 1000000 in
theorem rconsts_any (w : World) : Calls Tryz.prog 144 #[] w fun e w' => e = .returned (.tuple #[.agg (rowOf .u32 64 KT), .agg (rowOf .u32 8 BT)]) ∧ Below w.heap.size w w' := by
  go_enter Tryz.func144, Tryz.ntmps144
  go_upto_region 1 with (fail)
  rw [zeros64, zeros8]
  have h1 := (RowAt.new w .u32 64 216 (fun _ => 0)).alloc (.cells (rowOf .u32 8 (fun _ => 0)) 217)
  have h2 := RowAt.new (w.alloc (.cells (rowOf .u32 64 (fun _ => 0)) 216)) .u32 8 217 (fun _ => 0)
  have hB := (below_alloc w (.cells (rowOf .u32 64 (fun _ => 0)) 216)).trans ((below_alloc _ (.cells (rowOf .u32 8 (fun _ => 0)) 217)).mono (by simp))
  rw [shSize_alloc] at h2
  generalize (w.alloc (.cells (rowOf .u32 64 (fun _ => 0)) 216)).alloc (.cells (rowOf .u32 8 (fun _ => 0)) 217) = w1 at *
  have H1 := Lib.hid h1
  have H2 := Lib.hid h2
  have HB := Lib.hid hB
  clear h1 h2 hB
  go_wp2_with (first
    | (refine wpList_store_row rfl 216 (.tmp 0) (.tmp 2) rfl w.heap.size (rowOf .u32 64 KT) rfl rfl 216 _ H1.out (by rw [rowOf_size]; kernel_rfl) (by rw [rowOf_size, rowOf_size]) (rowOf_one _ _ _) ?_)
    | (refine wpList_store_row rfl 217 (.tmp 1) (.tmp 3) rfl (w.heap.size + 1) (rowOf .u32 8 BT) rfl rfl 217 _ ((setRow_other _ _ _ _ (by omega)).trans H2.out) (by rw [rowOf_size]; kernel_rfl) (by rw [rowOf_size, rowOf_size]) (rowOf_one _ _ _) ?_))
  refine bodyPost_ret (results_cell2 rfl _ _ w.heap.size (w.heap.size + 1) 216 217 (rowOf .u32 64 KT) (rowOf .u32 8 BT) (0, 0) (0, 0) _ _ rfl ((setRow_other _ _ _ _ (by omega)).trans (setRow_heap _ _ _ _ _ _ H1.out)) Tryz.underlying216 rfl (by rw [rowOf_size]; kernel_rfl)
    rfl (setRow_heap _ _ _ _ _ _ ((setRow_other _ _ _ _ (by omega)).trans H2.out)) Tryz.underlying217 rfl (by rw [rowOf_size]; kernel_rfl)) rfl ?_
  exact ⟨rfl, below_setRow (below_setRow HB.out (Nat.le_refl _) _) (by omega) _⟩
end Go.Proofs.YtejglhlodfhgkaaGreatDoor
