/- The reference's Public, Sign. -/
import Derived.Test.YtlgjeledcnhmnaaDoorRWo
import Derived.Test.YtlgjeledcnhmnaaDoorRWo2
import Derived.Test.YtlgjeledcnhmnaaDoorTill
namespace Go.Proofs.YtlgjeledcnhmnaaDoor
open Go.RowKit
set_option maxRecDepth 100000
theorem has2_startz (w : World) (v : Nat → Int) : Has2 w ((w.alloc (.cells (rowOf .u8 32 v) 23)).alloc (.cells (rowOf .u8 32 zF) 23)) w.heap.size (w.heap.size + 1) (w.heap.size + 1 + 1) v := has2_start w v
set_option maxHeartbeats 1000000 in
theorem rpublic_no (seed : Nat → Int) (leaf n : Int) (w : World) (h : ¬ (0 ≤ leaf ∧ leaf < 1024 ∧ 1 ≤ n ∧ n ≤ 32)) :
    Calls Tryd.prog 12 #[.agg (rowOf .u8 32 seed), .int .i64 leaf, .int .i64 n] w fun e w' => e = .returned (.tuple #[.agg (rowOf .u8 32 zF), .int .i64 1]) ∧ Below w.heap.size w w' := by
  have M := Lib.hid (has2_startz w seed)
  have HC := Lib.hid h
  clear h
  go_enter Tryd.func12, Tryd.ntmps12
  go_upto_region 1 with (fail)
  rw [zeros32']
  generalize (w.alloc (.cells (rowOf .u8 32 seed) 23)).alloc (.cells (rowOf .u8 32 zF) 23) = w1 at *
  go_wp2_with (first
    | (go_at_call 32; (with_reducible refine (rcheck_no leaf n _ HC.out).mono ?_); rintro e w' ⟨rfl, rfl⟩)
    | (refine wpList_store_row rfl 23 (.tmp 6) (.tmp 14) rfl (w.heap.size + 1) (rowOf .u8 32 zF) rfl rfl 23 _ M.out.res (by rw [rowOf_size]; kernel_rfl) rfl (rowOf_one _ _ _) ?_))
  refine bodyPost_ret (results_cell_tmp_row rfl _ _ (w.heap.size + 1) 23 (rowOf .u8 32 zF) (0, 0) _ rfl (setRow_heap _ _ _ _ _ _ M.out.res) Tryd.underlying23 rfl (by rw [rowOf_size]; kernel_rfl)) rfl ?_
  exact ⟨rfl, below_setRow M.out.below (by omega) _⟩
set_option maxHeartbeats 2000000 in
theorem rpublic_ok (seed : Nat → Int) (leaf : Int) (n : Nat) (w : World) (h : 0 ≤ leaf ∧ leaf < 1024) (hn : 1 ≤ n ∧ n ≤ 32) :
    Calls Tryd.prog 12 #[.agg (rowOf .u8 32 seed), .int .i64 leaf, .int .i64 (n : Int)] w fun e w' => e = .returned (.tuple #[.agg (rowOf .u8 32 (pubF seed leaf n)), .int .i64 0]) ∧ Below w.heap.size w w' := by
  have M := Lib.hid (has2_startz w seed)
  have HC := Lib.hid (show 0 ≤ leaf ∧ leaf < 1024 ∧ 1 ≤ (n : Int) ∧ (n : Int) ≤ 32 by omega)
  have HN := Lib.hid hn
  have hnb := hn.2
  have hn1 := hn.1
  clear h hn
  go_enter Tryd.func12, Tryd.ntmps12
  go_upto_region 1 with (fail)
  rw [zeros32']
  generalize (w.alloc (.cells (rowOf .u8 32 seed) 23)).alloc (.cells (rowOf .u8 32 zF) 23) = w1 at *
  have R := Lib.hid (nil_in w1)
  go_wp2_with (go_at_call 32; (with_reducible refine (rcheck_ok leaf _ _ HC.out).mono ?_); rintro e w' ⟨rfl, rfl⟩)
  obtain ⟨L, hL⟩ : ∃ L, L = List.replicate (2 * n + 3) 15 := ⟨_, rfl⟩
  have HL := Lib.hid hL
  go_loopw [8, 9] (fun s i wr => ∃ k : Nat, k ≤ 2 * n + 3 ∧ i = .int .i64 (k : Int) ∧ Hid (Has2 w wr w.heap.size (w.heap.size + 1) (w.heap.size + 1 + 1) seed) ∧ Hid (BytesIn wr s (chainsF seed leaf 0 (L.take k)))) (fun _ i _ => 2 * n + 3 - (intOf i).toNat)
  case atStart => exact ⟨0, Nat.zero_le _, rfl, M, by rw [List.take_zero]; exact R⟩
  case round =>
    clear M R w1 hL
    obtain ⟨k, hk, rfl, M, R⟩ := hrel
    by_cases hlt : k < 2 * n + 3
    · have HC3 := Lib.hid (chainsF_snoc seed leaf L k 15 (by rw [HL.out]; exact rep_get _ _ hlt))
      have HLE := Lib.hid (show (chainsF seed leaf 0 (L.take k)).length ≤ 32 * 67 by rw [chainsF_length, List.length_take]; omega)
      have hk' : (k : Int) < 2 * (n : Int) + 3 := by omega
      obtain ⟨l, hl2⟩ : ∃ l, l = chainsF seed leaf 0 (L.take k) := ⟨_, rfl⟩
      rw [← hl2] at HC3 HLE R
      replace hl2 := Lib.hid hl2
      go_wp2_with (first
        | (refine wpList_load_row rfl 23 (.tmp 23) rfl w.heap.size rfl 23 _ (0, 0) _ M.out.val Tryd.underlying23 rfl (by rw [rowOf_size]; kernel_rfl) ?_)
        | (refine wpList_load_row rfl 23 (.tmp 3) rfl w.heap.size rfl 23 _ (0, 0) _ M.out.val Tryd.underlying23 rfl (by rw [rowOf_size]; kernel_rfl) ?_)
        | (go_at_call 34; (with_reducible refine (rat_any seed leaf (k : Int) 15 _).mono ?_); rintro e w2 ⟨rfl, hb⟩; replace R := Lib.hid (R.out.below hb); replace M := Lib.hid (M.out.call hb); clear hb)
        | (go_at_call 33; (with_reducible refine (dHash_in _ l _ _ R.out (by have := HLE.out; omega)).mono ?_); rintro e w3 ⟨v3, rfl, hi, hb⟩; replace R := Lib.hid hi; replace M := Lib.hid (M.out.call hb); clear hi hb))
      go_roundw
      case rel =>
        refine ⟨k + 1, by omega, by go_num, M, ?_⟩
        rw [HC3.out]
        exact R
      case measure => simp [intOf]; omega
    · have HE := Lib.hid (show L.take k = L by rw [show k = L.length by rw [HL.out, List.length_replicate]; omega, List.take_length])
      rw [HE.out, HL.out] at R
      clear HE
      have hk' : ¬ (k : Int) < 2 * (n : Int) + 3 := by omega
      go_wp2_with (first
        | (go_at_call 35; (with_reducible refine (rleaf_any _ _ _ R.out (by rw [chainsF_length, List.length_replicate]; omega)).mono ?_); rintro e w2 ⟨rfl, hb⟩; replace M := Lib.hid (M.out.call hb); clear hb)
        | (refine wpList_store_row rfl 23 (.tmp 6) (.tmp 29) rfl (w.heap.size + 1) _ rfl rfl 23 _ M.out.res (by rw [rowOf_size]; kernel_rfl) (by rw [rowOf_size, rowOf_size]) (rowOf_one _ _ _) ?_))
      refine bodyPost_ret (results_cell_tmp_row rfl _ _ (w.heap.size + 1) 23 (rowOf .u8 32 (pubF seed leaf n)) (0, 0) _ rfl (setRow_heap _ _ _ _ _ _ M.out.res) Tryd.underlying23 rfl (by rw [rowOf_size]; kernel_rfl)) rfl ?_
      exact ⟨rfl, below_setRow M.out.below (by omega) _⟩
end Go.Proofs.YtlgjeledcnhmnaaDoor
