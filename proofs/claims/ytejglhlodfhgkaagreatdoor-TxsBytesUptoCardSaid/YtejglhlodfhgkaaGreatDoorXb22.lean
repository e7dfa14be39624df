/- Part 22 of the proof. -/
import Derived.Deep.RegionHeld3
import Derived.Test.YtejglhlodfhgkaaGreatDoorXb1
import Derived.Test.YtejglhlodfhgkaaGreatDoorXb3
import Derived.Test.YtejglhlodfhgkaaGreatDoorXb4
import Derived.Test.YtejglhlodfhgkaaGreatDoorXb20
import Derived.Test.YtejglhlodfhgkaaGreatDoorXb21
namespace Go.Proofs.YtejglhlodfhgkaaGreatDoor
set_option linter.unusedVariables false
set_option linter.unusedSimpArgs false
open Go.RowKit
set_option maxRecDepth 100000
def parQ (xs : List Int) (k : Nat) : Nat → Int := fun j => if 2 * j + 1 < k then parF xs j else if 2 * j < k then hexv (xs.getD (2 * j) 0) else 0
theorem parQ_zero (xs : List Int) : parQ xs 0 = fun _ => 0 := by funext i; unfold parQ; rw [if_neg (by omega), if_neg (by omega)]
theorem parF_bounds (xs : List Int) (j : Nat) : 0 ≤ parF xs j ∧ parF xs j < 256 := by
  unfold parF
  have := hexv_bounds (xs.getD (2 * j) 0); have := hexv_bounds (xs.getD (2 * j + 1) 0); omega
theorem parQ_bounds (xs : List Int) (k j : Nat) : 0 ≤ parQ xs k j ∧ parQ xs k j < 256 := by
  unfold parQ
  split
  · exact parF_bounds xs j
  · split
    · have := hexv_bounds (xs.getD (2 * j) 0); omega
    · omega
theorem parQ_half (xs : List Int) (k : Nat) : 0 ≤ parQ xs k (k / 2) ∧ parQ xs k (k / 2) < 16 := by
  unfold parQ
  rw [if_neg (by omega)]
  split
  · exact hexv_bounds _
  · omega
theorem parQ_succ (xs : List Int) (k : Nat) (c v : Int) (hc : xs[k]? = some c) (hv : v = parQ xs k (k / 2) * 16 + hexv c) : upd (parQ xs k) (k / 2) v = parQ xs (k + 1) := by
  have hg : xs.getD k 0 = c := by rw [List.getD, hc]; rfl
  subst hv
  funext j
  unfold upd
  by_cases h : j = k / 2
  · rw [if_pos h]
    subst h
    unfold parQ parF
    rw [if_neg (by omega)]
    by_cases ho : k % 2 = 0
    · rw [if_neg (by omega), if_neg (by omega), if_pos (by omega), show 2 * (k / 2) = k by omega, hg]; omega
    · rw [if_pos (by omega), if_pos (by omega), show 2 * (k / 2) + 1 = k by omega, hg]; omega
  · rw [if_neg h]
    unfold parQ
    by_cases h1 : 2 * j + 1 < k
    · rw [if_pos h1, if_pos (by omega)]
    · rw [if_neg h1]
      by_cases h2 : 2 * j < k
      · omega
      · rw [if_neg h2, if_neg (show ¬ 2 * j + 1 < k + 1 by omega), if_neg (show ¬ 2 * j < k + 1 by omega)]
theorem hexd_hexc (n : Int) (h0 : 0 ≤ n) (h1 : n < 16) : hexc (hexd n) = true := by
  unfold hexc hexd
  split <;> simp <;> omega
theorem hexd_hexv (c : Int) (h : hexc c = true) : hexd (hexv c) = c := by
  unfold hexc at h
  simp only [Bool.or_eq_true, decide_eq_true_eq] at h
  unfold hexd hexv
  rcases h with h | h
  · rw [if_pos h, if_pos (by omega)]; omega
  · rw [if_neg (by omega), if_pos h, if_neg (by omega)]; omega
theorem textL_length (h : Nat → Int) : (textL h).length = 64 := by simp [textL]
theorem textL_hex (h : Nat → Int) (hb : ∀ i, 0 ≤ h i ∧ h i < 256) : (textL h).all hexc = true := by
  rw [List.all_eq_true]
  intro c hc
  simp only [textL, List.mem_map, List.mem_range] at hc
  obtain ⟨i, _, rfl⟩ := hc
  unfold textF
  have := hb (i / 2)
  split <;> exact hexd_hexc _ (by omega) (by omega)
theorem textL_bytes (h : Nat → Int) (hb : ∀ i, 0 ≤ h i ∧ h i < 256) : ∀ x ∈ textL h, 0 ≤ x ∧ x < 256 := by
  intro c hc
  have h2 := List.all_eq_true.1 (textL_hex h hb) c hc
  unfold hexc at h2
  simp only [Bool.or_eq_true, decide_eq_true_eq] at h2
  omega
theorem text_par (xs : List Int) (hl : xs.length = 64) (h : xs.all hexc = true) : textL (parF xs) = xs := by
  apply List.ext_getElem (by rw [textL_length, hl])
  intro i h1 h2
  have hc : hexc xs[i] = true := List.all_eq_true.1 h _ (List.getElem_mem h2)
  simp only [textL, List.getElem_map, List.getElem_range]
  unfold textF parF
  have b0 := hexv_bounds (xs.getD (2 * (i / 2)) 0)
  have b1 := hexv_bounds (xs.getD (2 * (i / 2) + 1) 0)
  by_cases he : i % 2 = 0
  · rw [if_pos he, show (16 * hexv (xs.getD (2 * (i / 2)) 0) + hexv (xs.getD (2 * (i / 2) + 1) 0)) / 16 = hexv (xs.getD (2 * (i / 2)) 0) by omega, show 2 * (i / 2) = i by omega]
    rw [List.getD, List.getElem?_eq_getElem h2]; exact hexd_hexv _ hc
  · rw [if_neg he, show (16 * hexv (xs.getD (2 * (i / 2)) 0) + hexv (xs.getD (2 * (i / 2) + 1) 0)) % 16 = hexv (xs.getD (2 * (i / 2) + 1) 0) by omega, show 2 * (i / 2) + 1 = i by omega]
    rw [List.getD, List.getElem?_eq_getElem h2]; exact hexd_hexv _ hc
theorem textL_congr (f g : Nat → Int) (h : ∀ i, i < 32 → f i = g i) : textL f = textL g := by
  unfold textL
  apply List.map_congr_left
  intro i hi
  have hi : i < 64 := by simpa using hi
  unfold textF
  rw [h (i / 2) (by omega)]
theorem parQ_end (xs : List Int) (i : Nat) (hi : i < 32) : parQ xs 64 i = parF xs i := by unfold parQ; rw [if_pos (by omega)]
set_option maxHeartbeats 1000000 in
theorem rparse_any (s : ByteArray) (w : World) (hs : s.size ≤ maxLen) :
    Calls Tryz.prog 132 #[.string s] w fun e w' => e = .returned (.tuple #[.agg (rowOf .u8 32 (parR (numsOf s)).1), .int .i64 (numE (parR (numsOf s)).2)]) ∧ Below w.heap.size w w' := by
  unfold maxLen at hs
  have HR0 := Lib.hid (show RowAt ((w.alloc (.cells (rowOf .u8 32 (fun _ => 0)) 53)).alloc (.cells (rowOf .u8 32 (fun _ => 0)) 53)) w.heap.size .u8 32 53 (fun _ => 0) from (RowAt.new w .u8 32 53 (fun _ => 0)).alloc _)
  have HR1 := Lib.hid (show RowAt ((w.alloc (.cells (rowOf .u8 32 (fun _ => 0)) 53)).alloc (.cells (rowOf .u8 32 (fun _ => 0)) 53)) (w.heap.size + 1) .u8 32 53 (parQ (numsOf s) 0) from by
    rw [parQ_zero]
    have := RowAt.new (w.alloc (.cells (rowOf .u8 32 (fun _ => 0)) 53)) .u8 32 53 (fun _ => 0)
    rw [size_alloc] at this; exact this)
  have HB := Lib.hid ((below_alloc w (.cells (rowOf .u8 32 (fun _ => 0)) 53)).trans ((below_alloc _ (.cells (rowOf .u8 32 (fun _ => 0)) 53)).mono (by simp)))
  by_cases h64 : s.size = 64
  · have HLEN := Lib.hid (show (numsOf s).length = 64 by rw [numsOf_length]; exact h64)
    have h64' : (s.size : Int) = 64 := by omega
    have HS := Lib.hid h64
    go_enter Tryz.func132, Tryz.ntmps132
    go_upto_region 2 with (fail)
    rw [zeros32]
    generalize (w.alloc (.cells (rowOf .u8 32 (fun _ => 0)) 53)).alloc (.cells (rowOf .u8 32 (fun _ => 0)) 53) = w1 at *
    go_wp2_with (fail)
    go_loopw [5] (fun i wr => ∃ k : Nat, k ≤ 64 ∧ i = .int .i64 k ∧ Hid (RowAt wr w.heap.size .u8 32 53 (fun _ => 0) ∧ RowAt wr (w.heap.size + 1) .u8 32 53 (parQ (numsOf s) k) ∧ Below w.heap.size w wr)) (fun i _ => 64 - (intOf i).toNat)
    case atStart => exact ⟨0, by omega, rfl, Lib.hid ⟨HR0.out, HR1.out, HB.out⟩⟩
    case round =>
      clear HR0 HR1 HB
      obtain ⟨k, hk, rfl, H⟩ := hrel
      by_cases hlt : k < 64
      · have l0 : k < s.size := by omega
        have i0 := index_str s k l0
        obtain ⟨c, hc⟩ : ∃ c : Int, c = s[k].toNat := ⟨_, rfl⟩
        have hcb : 0 ≤ c ∧ c < 256 := by have := s[k].toNat_lt; omega
        rw [← hc] at i0
        replace hc := Lib.hid hc
        have n0 : ((k : Int) / 2).toNat = k / 2 := by omega
        have c0 := H.out.2.1.cell (k / 2) (by omega)
        have f0 := H.out.2.1.free (k / 2)
        have HI := Lib.hid i0
        obtain ⟨hp0, hp1⟩ := parQ_half (numsOf s) k
        obtain ⟨p, hp⟩ : ∃ p, p = parQ (numsOf s) k (k / 2) := ⟨_, rfl⟩
        rw [← hp] at hp0 hp1 c0
        replace hp := Lib.hid hp
        clear i0
        have HK := Lib.hid (show ∀ v, v = p * 16 + hexv c → RowAt (wr.setCell ⟨w.heap.size + 1, k / 2, none⟩ (.int .u8 v)) (w.heap.size + 1) .u8 32 53 (parQ (numsOf s) (k + 1)) from fun v hv => by
          have R := H.out.2.1.set (k / 2) v
          rw [parQ_succ _ _ c v HI.out (by rw [hv, hp.out])] at R
          exact R)
        rcases (by omega : (48 ≤ c ∧ c ≤ 57) ∨ (97 ≤ c ∧ c ≤ 102) ∨ c < 48 ∨ (57 < c ∧ c < 97) ∨ 102 < c) with ⟨h1a, h1b⟩ | ⟨h1a, h1b⟩ | h1 | ⟨h1a, h1b⟩ | h1
        · have hv := Lib.hid (show hexv c = c - 48 by unfold hexv; rw [if_pos ⟨h1a, h1b⟩])
          have h2a : c < 97 := by omega
          go_upto_region 6 with (fail)
          rw [← hc.out]
          go_wp2_with (fail)
          go_roundw
          case rel => exact ⟨k + 1, by omega, by go_num, Lib.hid ⟨H.out.1.other _ _ (by simp), HK.out _ (by have := hv.out; omega), H.out.2.2.setCell (by show w.heap.size ≤ w.heap.size + 1; omega) _⟩⟩
          case measure => simp [intOf]; omega
        · have hv := Lib.hid (show hexv c = c - 87 by unfold hexv; rw [if_neg (by omega), if_pos ⟨h1a, h1b⟩])
          have h2a : 57 < c := by omega
          go_upto_region 6 with (fail)
          rw [← hc.out]
          go_wp2_with (fail)
          go_roundw
          case rel => exact ⟨k + 1, by omega, by go_num, Lib.hid ⟨H.out.1.other _ _ (by simp), HK.out _ (by have := hv.out; omega), H.out.2.2.setCell (by show w.heap.size ≤ w.heap.size + 1; omega) _⟩⟩
          case measure => simp [intOf]; omega
        · have hv := Lib.hid (show hexv c = 0 by unfold hexv; rw [if_neg (by omega), if_neg (by omega)])
          have h2a : c < 97 := by omega
          go_upto_region 6 with (fail)
          rw [← hc.out]
          go_wp2_with (fail)
          go_roundw
          case rel => exact ⟨k + 1, by omega, by go_num, Lib.hid ⟨H.out.1.other _ _ (by simp), HK.out _ (by have := hv.out; omega), H.out.2.2.setCell (by show w.heap.size ≤ w.heap.size + 1; omega) _⟩⟩
          case measure => simp [intOf]; omega
        · have hv := Lib.hid (show hexv c = 0 by unfold hexv; rw [if_neg (by omega), if_neg (by omega)])
          go_upto_region 6 with (fail)
          rw [← hc.out]
          go_wp2_with (fail)
          go_roundw
          case rel => exact ⟨k + 1, by omega, by go_num, Lib.hid ⟨H.out.1.other _ _ (by simp), HK.out _ (by have := hv.out; omega), H.out.2.2.setCell (by show w.heap.size ≤ w.heap.size + 1; omega) _⟩⟩
          case measure => simp [intOf]; omega
        · have hv := Lib.hid (show hexv c = 0 by unfold hexv; rw [if_neg (by omega), if_neg (by omega)])
          have h2a : 57 < c := by omega
          go_upto_region 6 with (fail)
          rw [← hc.out]
          go_wp2_with (fail)
          go_roundw
          case rel => exact ⟨k + 1, by omega, by go_num, Lib.hid ⟨H.out.1.other _ _ (by simp), HK.out _ (by have := hv.out; omega), H.out.2.2.setCell (by show w.heap.size ≤ w.heap.size + 1; omega) _⟩⟩
          case measure => simp [intOf]; omega
      · obtain rfl : k = 64 := by omega
        by_cases hgood : (numsOf s).all hexc = true
        · have HT : Hid (strOfNums (textL (parQ (numsOf s) 64)) = s) := Lib.hid (by rw [textL_congr _ _ (parQ_end (numsOf s)), text_par _ HLEN.out hgood, str_numsOf])
          have HP := Lib.hid (show parR (numsOf s) = (parF (numsOf s), none) by unfold parR; rw [if_pos ⟨HLEN.out, hgood⟩])
          clear hgood
          go_wp2_with (first
            | (refine wpList_load_row rfl 53 (.tmp 4) rfl (w.heap.size + 1) rfl 53 _ (0, 0) _ H.out.2.1 Tryz.underlying53 rfl (by rw [rowOf_size]; kernel_rfl) ?_)
            | (go_at_call 191; (with_reducible refine (r1text_any _ (fun i _ => parQ_bounds _ _ _) _).mono ?_); rintro e w3 ⟨rfl, HB3⟩; rw [HT.out]; replace H := Lib.hid (show RowAt w3 w.heap.size .u8 32 53 (fun _ => 0) ∧ RowAt w3 (w.heap.size + 1) .u8 32 53 (parQ (numsOf s) 64) ∧ Below w.heap.size w w3 from ⟨H.out.1.below HB3 H.out.1.lt, H.out.2.1.below HB3 H.out.2.1.lt, H.out.2.2.trans (HB3.mono H.out.2.2.size)⟩); clear HB3)
            | (refine wpList_store_row rfl 53 (.tmp 2) (.tmp 54) rfl w.heap.size _ rfl rfl 53 _ H.out.1 (by rw [rowOf_size]; kernel_rfl) (by rw [rowOf_size, rowOf_size]) (rowOf_one _ _ _) ?_))
          refine bodyPost_ret (results_cell_tmp_row rfl _ _ w.heap.size 53 (rowOf .u8 32 (parQ (numsOf s) 64)) (0, 0) _ rfl (setRow_heap _ _ _ _ _ _ H.out.1) Tryz.underlying53 rfl (by rw [rowOf_size]; kernel_rfl)) rfl ?_
          refine ⟨?_, below_setRow H.out.2.2 (Nat.le_refl _) _⟩
          rw [HP.out, rowOf_congr _ _ _ _ (parQ_end (numsOf s))]
          rfl
        · have HT : Hid (strOfNums (textL (parQ (numsOf s) 64)) ≠ s) := Lib.hid (fun e => hgood (by
            have h := textL_hex (parQ (numsOf s) 64) (parQ_bounds _ _)
            have e2 := congrArg numsOf e
            rw [numsOf_str _ (textL_bytes _ (parQ_bounds _ _))] at e2
            rw [← e2]; exact h))
          have HP := Lib.hid (show parR (numsOf s) = (fun _ => 0, some 3) by unfold parR; rw [if_neg (fun h => hgood h.2)])
          clear hgood
          obtain ⟨T, hT⟩ : ∃ T, T = strOfNums (textL (parQ (numsOf s) 64)) := ⟨_, rfl⟩
          rw [← hT] at HT
          replace hT := Lib.hid hT
          have hne : (T.toList == s.toList) = false := by
            rw [beq_eq_false_iff_ne]; exact fun e => HT.out (WideShapes.bytes_inj (by rw [← ByteArray.toList_eq, ← ByteArray.toList_eq]; exact e))
          go_wp2_with (first
            | (refine wpList_load_row rfl 53 (.tmp 4) rfl (w.heap.size + 1) rfl 53 _ (0, 0) _ H.out.2.1 Tryz.underlying53 rfl (by rw [rowOf_size]; kernel_rfl) ?_)
            | (go_at_call 191; (with_reducible refine (r1text_any _ (fun i _ => parQ_bounds _ _ _) _).mono ?_); rintro e w3 ⟨rfl, HB3⟩; rw [← hT.out]; replace H := Lib.hid (show RowAt w3 w.heap.size .u8 32 53 (fun _ => 0) ∧ RowAt w3 (w.heap.size + 1) .u8 32 53 (parQ (numsOf s) 64) ∧ Below w.heap.size w w3 from ⟨H.out.1.below HB3 H.out.1.lt, H.out.2.1.below HB3 H.out.2.1.lt, H.out.2.2.trans (HB3.mono H.out.2.2.size)⟩); clear HB3)
            | (refine wpList_store_row rfl 53 (.tmp 2) (.tmp 53) rfl w.heap.size (rowOf .u8 32 (fun _ => 0)) rfl rfl 53 _ H.out.1 (by rw [rowOf_size]; kernel_rfl) rfl (rowOf_one _ _ _) ?_))
          refine bodyPost_ret (results_cell_tmp_row rfl _ _ w.heap.size 53 (rowOf .u8 32 (fun _ => 0)) (0, 0) _ rfl (setRow_heap _ _ _ _ _ _ H.out.1) Tryz.underlying53 rfl (by rw [rowOf_size]; kernel_rfl)) rfl ?_
          exact ⟨by rw [HP.out]; rfl, below_setRow H.out.2.2 (Nat.le_refl _) _⟩
  · have HP := Lib.hid (parR_long (numsOf s) (by rw [numsOf_length]; exact h64))
    have HLN := Lib.hid h64
    have hd : ((s.size : Int) == 64) = false := by rw [beq_eq_false_iff_ne]; omega
    obtain ⟨T, hT⟩ : ∃ T, T = strOfNums (textL (parQ (numsOf s) 0)) := ⟨_, rfl⟩
    have hne : (T.toList == s.toList) = false := by
      rw [beq_eq_false_iff_ne]
      intro e
      have e2 : T = s := WideShapes.bytes_inj (by rw [← ByteArray.toList_eq, ← ByteArray.toList_eq]; exact e)
      apply h64
      rw [← e2, hT, str_len, textL_length]
    replace hT := Lib.hid hT
    by_cases h0 : s.size = 0
    · have h0' : (s.size : Int) = 0 := by omega
      go_enter Tryz.func132, Tryz.ntmps132
      go_upto_region 2 with (fail)
      rw [zeros32]
      generalize (w.alloc (.cells (rowOf .u8 32 (fun _ => 0)) 53)).alloc (.cells (rowOf .u8 32 (fun _ => 0)) 53) = w1 at *
      go_wp2_with (fail)
      go_loopw [5] (fun i wr => i = .int .i64 0 ∧ wr = w1) (fun i _ => 0)
      case atStart => exact ⟨rfl, rfl⟩
      case round =>
      obtain ⟨rfl, rfl⟩ := hrel
      go_wp2_with (first
        | (refine wpList_load_row rfl 53 (.tmp 4) rfl (w.heap.size + 1) rfl 53 _ (0, 0) _ HR1.out Tryz.underlying53 rfl (by rw [rowOf_size]; kernel_rfl) ?_)
        | (go_at_call 191; (with_reducible refine (r1text_any _ (fun i _ => parQ_bounds _ _ _) _).mono ?_); rintro e w3 ⟨rfl, HB3⟩; rw [← hT.out]; have HR3 := Lib.hid (HR0.out.below HB3 HR0.out.lt); replace HB := Lib.hid (HB.out.trans (HB3.mono HB.out.size)); clear HB3)
        | (refine wpList_store_row rfl 53 (.tmp 2) (.tmp 53) rfl w.heap.size (rowOf .u8 32 (fun _ => 0)) rfl rfl 53 _ HR3.out (by rw [rowOf_size]; kernel_rfl) rfl (rowOf_one _ _ _) ?_))
      refine bodyPost_ret (results_cell_tmp_row rfl _ _ w.heap.size 53 (rowOf .u8 32 (fun _ => 0)) (0, 0) _ rfl (setRow_heap _ _ _ _ _ _ HR3.out) Tryz.underlying53 rfl (by rw [rowOf_size]; kernel_rfl)) rfl ?_
      exact ⟨by rw [HP.out]; rfl, below_setRow HB.out (Nat.le_refl _) _⟩
    · have h0' : (0 : Int) < s.size := by omega
      go_enter Tryz.func132, Tryz.ntmps132
      go_upto_region 2 with (fail)
      rw [zeros32]
      generalize (w.alloc (.cells (rowOf .u8 32 (fun _ => 0)) 53)).alloc (.cells (rowOf .u8 32 (fun _ => 0)) 53) = w1 at *
      go_wp2_with (fail)
      go_loopw [5] (fun i wr => i = .int .i64 0 ∧ wr = w1) (fun i _ => 0)
      case atStart => exact ⟨rfl, rfl⟩
      case round =>
      obtain ⟨rfl, rfl⟩ := hrel
      go_wp2_with (first
        | (refine wpList_load_row rfl 53 (.tmp 4) rfl (w.heap.size + 1) rfl 53 _ (0, 0) _ HR1.out Tryz.underlying53 rfl (by rw [rowOf_size]; kernel_rfl) ?_)
        | (go_at_call 191; (with_reducible refine (r1text_any _ (fun i _ => parQ_bounds _ _ _) _).mono ?_); rintro e w3 ⟨rfl, HB3⟩; rw [← hT.out]; have HR3 := Lib.hid (HR0.out.below HB3 HR0.out.lt); replace HB := Lib.hid (HB.out.trans (HB3.mono HB.out.size)); clear HB3)
        | (refine wpList_store_row rfl 53 (.tmp 2) (.tmp 53) rfl w.heap.size (rowOf .u8 32 (fun _ => 0)) rfl rfl 53 _ HR3.out (by rw [rowOf_size]; kernel_rfl) rfl (rowOf_one _ _ _) ?_))
      refine bodyPost_ret (results_cell_tmp_row rfl _ _ w.heap.size 53 (rowOf .u8 32 (fun _ => 0)) (0, 0) _ rfl (setRow_heap _ _ _ _ _ _ HR3.out) Tryz.underlying53 rfl (by rw [rowOf_size]; kernel_rfl)) rfl ?_
      exact ⟨by rw [HP.out]; rfl, below_setRow HB.out (Nat.le_refl _) _⟩
end Go.Proofs.YtejglhlodfhgkaaGreatDoor
namespace Go.Proofs.YtejglhlodfhgkaaGreatDoor
set_option linter.unusedVariables false
set_option linter.unusedSimpArgs false
open Go.RowKit
/- only the block's 64 bytes matter -/
end Go.Proofs.YtejglhlodfhgkaaGreatDoor
namespace Go.Proofs.YtejglhlodfhgkaaGreatDoor
set_option linter.unusedVariables false
set_option linter.unusedSimpArgs false
open Go.RowKit
set_option maxRecDepth 100000
end Go.Proofs.YtejglhlodfhgkaaGreatDoor
namespace Go.Proofs.YtejglhlodfhgkaaGreatDoor
set_option linter.unusedVariables false
set_option linter.unusedSimpArgs false
open Go.RowKit
set_option maxRecDepth 100000
/-- what the sum's own memory holds: the result's row, the constants, the state -/
structure RM (w wr : World) (gk gh : Nat) (h : Nat → Int) : Prop where
  out : RowAt wr w.heap.size .u8 32 53 (fun _ => 0)
  k : RowAt wr gk .u32 64 216 KT
  st : RowAt wr gh .u32 8 217 h
  lt1 : w.heap.size < gk
  lt2 : gk < gh
  below : Below w.heap.size w wr
theorem RM.grows {w wr w2 : World} {gk gh : Nat} {h : Nat → Int} (m : RM w wr gk gh h) (hb : Below (gh + 1) wr w2) : RM w w2 gk gh h :=
  ⟨m.out.below hb (by have := m.lt1; have := m.lt2; omega), m.k.below hb (by have := m.lt2; omega), m.st.below hb (by omega), m.lt1, m.lt2, m.below.trans (hb.mono (by have := m.lt1; have := m.lt2; omega))⟩
theorem RM.start (w w1 w2 : World) (h1 : w1 = w.alloc (.cells (rowOf .u8 32 (fun _ => 0)) 53)) (hb : Below w1.heap.size w1 w2) :
    RM w ((((w2.alloc (.cells (rowOf .u32 64 (fun _ => 0)) 216)).alloc (.cells (rowOf .u32 8 (fun _ => 0)) 217)).setRow w2.heap.size (rowOf .u32 64 KT)).setRow (w2.heap.size + 1) (rowOf .u32 8 BT)) w2.heap.size (w2.heap.size + 1) BT := by
  subst h1
  have hs := hb.size
  rw [shSize_alloc] at hs hb
  have hB2 : Below w2.heap.size w2 ((((w2.alloc (.cells (rowOf .u32 64 (fun _ => 0)) 216)).alloc (.cells (rowOf .u32 8 (fun _ => 0)) 217)).setRow w2.heap.size (rowOf .u32 64 KT)).setRow (w2.heap.size + 1) (rowOf .u32 8 BT)) :=
    below_setRow (below_setRow ((below_alloc w2 _).trans ((below_alloc _ _).mono (by simp))) (Nat.le_refl _) _) (by omega) _
  refine ⟨((RowAt.new w .u8 32 53 (fun _ => 0)).below hb (by omega)).below hB2 (by omega), ?_, ?_, by omega, by omega, ((below_alloc w _).trans (hb.mono (by omega))).trans (hB2.mono (by omega))⟩
  · exact (setRow_other _ _ _ _ (by omega)).trans (setRow_heap _ _ _ _ _ _ ((RowAt.new w2 .u32 64 216 (fun _ => 0)).alloc _))
  · exact setRow_heap _ _ _ _ _ _ ((setRow_other _ _ _ _ (by omega)).trans (heap_alloc2_new w2 _ _))
theorem RM.setH {w wr : World} {gk gh : Nat} {h : Nat → Int} (m : RM w wr gk gh h) (i : Nat) (v : Int) : RM w (wr.setCell ⟨gh, i, none⟩ (.int .u32 v)) gk gh (upd h i v) :=
  ⟨m.out.other _ _ (by have := m.lt1; have := m.lt2; show w.heap.size ≠ gh; omega), m.k.other _ _ (by have := m.lt2; show gk ≠ gh; omega), m.st.set i v, m.lt1, m.lt2, m.below.setCell (by have := m.lt1; have := m.lt2; show w.heap.size ≤ gh; omega) _⟩
theorem RM.congr {w wr : World} {gk gh : Nat} {h h' : Nat → Int} (m : RM w wr gk gh h) (e : ∀ i, i < 8 → h i = h' i) : RM w wr gk gh h' :=
  ⟨m.out, m.k, by have := m.st; unfold RowAt at *; rw [← rowOf_congr _ _ _ _ e]; exact this, m.lt1, m.lt2, m.below⟩
/-- .. and the message, in block g0 -/
structure BM (w wr : World) (gk gh g0 : Nat) (h : Nat → Int) (M : List Int) : Prop where
  m : RM w wr gk gh h
  lt : gh < g0
  sz : g0 < wr.heap.size
  msg : ∀ i, i < M.length → wr.cell? ⟨g0, i, none⟩ = some (.int .u8 (M.getD i 0))
theorem BM.grows {w wr w2 : World} {gk gh g0 : Nat} {h : Nat → Int} {M : List Int} (b : BM w wr gk gh g0 h M) (hb : Below (g0 + 1) wr w2) : BM w w2 gk gh g0 h M :=
  ⟨b.m.grows (hb.mono (by have := b.lt; omega)), b.lt, Nat.lt_of_lt_of_le b.sz hb.size, fun i hi => (hb.cell (p := ⟨g0, i, none⟩) (by show g0 < g0 + 1; omega)).trans (b.msg i hi)⟩
theorem BM.setH {w wr : World} {gk gh g0 : Nat} {h : Nat → Int} {M : List Int} (b : BM w wr gk gh g0 h M) (i : Nat) (v : Int) : BM w (wr.setCell ⟨gh, i, none⟩ (.int .u32 v)) gk gh g0 (upd h i v) M :=
  ⟨b.m.setH i v, b.lt, by have := b.sz; simpa [World.setCell] using this, fun j hj => by
    rw [← b.msg j hj]
    exact World.cell?_of_block (Below.heap_setCell wr ⟨gh, i, none⟩ _ g0 (by show g0 ≠ gh; have := b.lt; omega))⟩
theorem BM.drew {w wr : World} {gk gh g0 : Nat} {h : Nat → Int} {M : List Int} (b : BM w wr gk gh g0 h M) : BM w wr.drew gk gh g0 h M := b.grows (Below.refl _ _).drew
theorem BM.drewN {w wr : World} {gk gh g0 n : Nat} {h : Nat → Int} {M : List Int} (b : BM w wr gk gh g0 h M) : BM w (wr.drewN n) gk gh g0 h M := b.grows ⟨rfl, rfl, rfl, Nat.le_refl _, fun _ _ => rfl⟩
end Go.Proofs.YtejglhlodfhgkaaGreatDoor
namespace Go.Proofs.YtejglhlodfhgkaaGreatDoor
set_option linter.unusedVariables false
set_option linter.unusedSimpArgs false
open Go.RowKit
set_option maxRecDepth 100000
set_option linter.unusedSimpArgs false
set_option linter.unusedVariables false
theorem pre_iff (s : ByteArray) (h : 4 ≤ s.size) : hasPre s = decide (s.extract 0 4 = { data := #[105, 98, 99, 47] }) := by
  rw [Bool.eq_iff_iff, decide_eq_true_eq]
  unfold hasPre Lib.hasPrefix
  rw [List.isPrefixOf_iff_prefix, List.prefix_iff_eq_take]
  constructor
  · intro e
    exact bytes_ext14 (by rw [ext_data14, List.drop_zero]; exact e.symm)
  · intro e
    have := congrArg (fun b : ByteArray => b.data.toList) e
    simp only [ext_data14, List.drop_zero] at this
    exact this.symm
theorem rest_eq (s : ByteArray) (h : hasPre s = true) : restS s = s.extract 4 s.size := bytes_ext14 (by
  unfold restS Lib.trimPrefix
  rw [if_pos (show Lib.hasPrefix s.data.toList [105, 98, 99, 47] = true from h), ext_data14, ← size14, List.take_length]
  rfl)
theorem vou_size {s : ByteArray} (h : vouB s = true) : s.size = 68 ∧ hasPre s = true := by
  unfold vouB at h
  rw [Bool.and_eq_true] at h
  refine ⟨?_, h.1⟩
  have h2 := h.2
  unfold parR at h2
  split at h2
  · rename_i h3
    rw [numsOf_length, rest_eq s h.1, ByteArray.size_extract] at h3
    omega
  · simp at h2
set_option maxHeartbeats 4000000 in
theorem rcheck14_any (s : ByteArray) (w : World) (hs : s.size ≤ 140737488355328) : Calls Tryz.prog 62 #[.string s] w fun e w' => e = .returned (.int .i64 (numE (chkD s))) ∧ Below w.heap.size w w' := by
  have HBS := Lib.hid (fun w => rbase_any s w (by omega))
  unfold chkD
  cases hb : baseB s with
  | true =>
    rw [hb] at HBS
    rw [Bool.true_or, if_pos rfl]
    simp only [numE]
    clear hb
    go_enter Tryz.func62, Tryz.ntmps62
    go_wp2_with (go_at_call 131; (with_reducible refine (HBS.out _).mono ?_); rintro e w2 ⟨rfl, rfl⟩)
    go_ret
    exact ⟨rfl, Below.refl _ _⟩
  | false =>
    rw [hb] at HBS
    rw [Bool.false_or]
    clear hb
    by_cases h68 : s.size = 68
    · have h68I : (s.size : Int) = 68 := by omega
      have c1 : (4 : Int) ≤ (s.size : Int) := by omega
      have c2 : (s.size : Int) ≤ (s.size : Int) := by omega
      have hp := pre_iff s (by omega)
      by_cases hpre : s.extract 0 4 = { data := #[105, 98, 99, 47] }
      · rw [decide_eq_true hpre] at hp
        have hrs : restS s = s.extract 4 68 := by rw [rest_eq s hp, h68]
        have hv : vouB s = (parR (numsOf (s.extract 4 68))).2.isNone := by unfold vouB; rw [hp, Bool.true_and, hrs]
        have HPR := Lib.hid (fun w => rparse_any (s.extract 4 68) w (by rw [ByteArray.size_extract]; unfold maxLen; omega))
        have k1 : ((s.extract 0 4).toList == [105, 98, 99, 47]) = true := by rw [hpre]; decide +kernel
        rw [hv]
        obtain ⟨G, hG⟩ : ∃ g, g = (parR (numsOf (s.extract 4 68))).2 := ⟨_, rfl⟩
        obtain ⟨H, hH⟩ : ∃ g, g = (parR (numsOf (s.extract 4 68))).1 := ⟨_, rfl⟩
        rw [← hG]
        rw [← hG, ← hH] at HPR
        have HG := Lib.hid (show G = none ∨ G = some 3 from by rw [hG]; unfold parR; split; exact .inl rfl; exact .inr rfl)
        clear hp hrs hv hG hH hpre
        have hgr := HG.out
        clear HG
        rcases hgr with rfl | rfl
        all_goals
          simp only [numE] at HPR
          go_enter Tryz.func62, Tryz.ntmps62
          go_wp2_with (first
            | (go_at_call 131; (with_reducible refine (HBS.out _).mono ?_); rintro e w2 ⟨rfl, rfl⟩)
            | (go_at_call 132; (with_reducible refine (HPR.out _).mono ?_); rintro e w3 ⟨rfl, hb⟩; have HB := Lib.hid hb; clear hb)
            | (refine wpList_store_row rfl 53 (.tmp 3) (.tmp 19) rfl w3.heap.size (rowOf .u8 32 H) rfl rfl 53 _ (heap_alloc_new _ _) (by rw [rowOf_size]; kernel_rfl) (by rw [rowOf_size]; kernel_rfl) (rowOf_one _ _ _) ?_; rw [World.setRow_alloc_new]))
          go_ret
          first | exact ⟨rfl, HB.out.alloc HB.out.size _⟩ | exact ⟨rfl, HB.out⟩
      · rw [decide_eq_false hpre] at hp
        have hv : vouB s = false := by unfold vouB; rw [hp, Bool.false_and]
        have k1 : ((s.extract 0 4).toList == [105, 98, 99, 47]) = false := by
          have h2 := beq14 (s.extract 0 4) { data := #[105, 98, 99, 47] }
          rw [decide_eq_false hpre, show ({ data := #[105, 98, 99, 47] } : ByteArray).toList = [105, 98, 99, 47] from by decide +kernel] at h2
          exact h2
        rw [hv]
        clear hp hv hpre
        go_enter Tryz.func62, Tryz.ntmps62
        go_wp2_with (go_at_call 131; (with_reducible refine (HBS.out _).mono ?_); rintro e w2 ⟨rfl, rfl⟩)
        go_ret
        exact ⟨rfl, Below.refl _ _⟩
    · have h68I : ¬ (s.size : Int) = 68 := by omega
      have hv : vouB s = false := by
        cases h : vouB s with
        | false => rfl
        | true => exact absurd (vou_size h).1 h68
      rw [hv]
      clear hv
      go_enter Tryz.func62, Tryz.ntmps62
      go_wp2_with (go_at_call 131; (with_reducible refine (HBS.out _).mono ?_); rintro e w2 ⟨rfl, rfl⟩)
      go_ret
      exact ⟨rfl, Below.refl _ _⟩
end Go.Proofs.YtejglhlodfhgkaaGreatDoor
