/- Part 43 of the proof. -/
import Derived.Maps.AppendAt
import Derived.Deep.RegionHeld3
import Derived.Test.YtanekacpalpcbaaGreatDoorRd1
import Derived.Test.YtanekacpalpcbaaGreatDoorRd5
import Derived.Test.YtanekacpalpcbaaGreatDoorRd8
import Derived.Test.YtanekacpalpcbaaGreatDoorRd34
import Derived.Test.YtanekacpalpcbaaGreatDoorRd37
import Derived.Test.YtanekacpalpcbaaGreatDoorRd38
import Derived.Test.YtanekacpalpcbaaGreatDoorRd40
import Derived.Test.YtanekacpalpcbaaGreatDoorRd42
namespace Go.Proofs.YtanekacpalpcbaaGreatDoor
set_option linter.unusedVariables false
set_option linter.unusedSimpArgs false
open Go.RowKit
set_option maxRecDepth 100000
theorem pow_sep (a b n : Nat) (h1 : 2 ^ a < n) (h2 : n ≤ 2 * 2 ^ a) (h3 : 2 ^ b < n) (h4 : n ≤ 2 * 2 ^ b) : a = b := by
  have e1 : 2 ^ a < 2 ^ (b + 1) := by rw [Nat.pow_succ]; omega
  have e2 : 2 ^ b < 2 ^ (a + 1) := by rw [Nat.pow_succ]; omega
  have := (Nat.pow_lt_pow_iff_right (a := 2) (by omega)).1 e1
  have := (Nat.pow_lt_pow_iff_right (a := 2) (by omega)).1 e2
  omega
theorem split_unique (n j : Nat) (h2 : 2 ≤ n) (hn : n < 18446744073709551616) (h1 : 2 ^ j < n) (h3 : n ≤ 2 * 2 ^ j) : 2 ^ j = splitF n := by
  have sp := splitF_spec n h2 hn
  unfold splitF at sp ⊢
  rw [pow_sep j (Lib.bitLen (n - 1) - 1) n h1 h3 sp.2.1 sp.2.2.1]
theorem rsplit_any (n : Nat) (w : World) (h2 : 2 ≤ n) (hn : n ≤ 9223372036854775807) : Calls Tryz.prog 174 #[.int .i64 (n : Int)] w fun e w' => e = .returned (.int .i64 (splitF n : Int)) ∧ w = w' := by
  have H2 := Lib.hid h2
  go_enter Tryz.func174, Tryz.ntmps174
  go_wp2_with (fail)
  go_loop [3] (fun v => ∃ j k : Nat, Hid (k = 2 ^ j) ∧ k < n ∧ 1 ≤ k ∧ v = .int .i64 (k : Int)) (fun v => n - (intOf v).toNat)
  case atStart => exact ⟨0, 1, Lib.hid rfl, by omega, by omega, rfl⟩
  case round =>
    obtain ⟨j, k, hk, hkn, hk1, rfl⟩ := hrel
    by_cases hlt : (k : Int) < (n : Int) - k
    · go_wp2_with (fail)
      go_round
      case rel => exact ⟨j + 1, 2 * k, Lib.hid (by rw [hk.out, Nat.pow_succ, Nat.mul_comm]), by omega, by omega, by go_num⟩
      case measure => simp [intOf]; omega
    · have hs := Lib.hid (show k = splitF n by
        have := hk.out
        rw [← split_unique n j H2.out (by omega) (by omega) (by omega)]; exact this)
      go_wp2_with (fail)
      go_ret
      exact ⟨by rw [← hs.out]; rfl, rfl⟩
theorem RowAt.bytesIn {w : World} {b : Nat} {a : Nat → Int} (h : RowAt w b .u8 32 65 a) : BytesIn w (.slice (some ⟨b, 0, none⟩) 32 32) (bytesOf a) := by
  refine ⟨_, _, by rw [bytesOf_length], by rw [bytesOf_length]; omega, by rw [bytesOf_length]; unfold maxLen; omega, .inr ⟨b, 0, rfl, fun i x hi => ?_⟩⟩
  have hil : i < 32 := by have := (List.getElem?_eq_some_iff.1 hi).1; rw [bytesOf_length] at this; exact this
  rw [Nat.zero_add, h.cell i hil]
  simp [bytesOf, hil] at hi
  rw [hi]
theorem own_cat {w : World} {g : Nat} {v : Value} {a b : Nat → Int} (h : w.ownsRow g 5 1 v (33 + (bytesOf b).length) (byteVals (1 :: bytesOf a) ++ byteVals (bytesOf b))) : w.ownsRow g 5 1 v (1 :: (bytesOf a ++ bytesOf b)).length (byteVals (1 :: (bytesOf a ++ bytesOf b))) := by
  rw [← byteVals_append] at h
  have e : 33 + (bytesOf b).length = (1 :: (bytesOf a ++ bytesOf b)).length := by simp [bytesOf_length]
  rw [e] at h; exact h
set_option maxHeartbeats 1000000 in
theorem rnode_any (a b : Nat → Int) (w : World) :
    Calls Tryz.prog 175 #[.agg (rowOf .u8 32 a), .agg (rowOf .u8 32 b)] w fun e w' => e = .returned (.agg (rowOf .u8 32 (nodeF a b))) ∧ Below w.heap.size w w' := by
  obtain ⟨w1, hw1⟩ : ∃ w1, w1 = ((w.alloc (.cells (rowOf .u8 32 a) 65)).alloc (.cells (rowOf .u8 32 b) 65)).alloc (.cells (rowOf .u8 32 (fun _ => 0)) 65) := ⟨_, rfl⟩
  have HB := Lib.hid (show Below w.heap.size w w1 by rw [hw1]; exact ((below_alloc w _).trans ((below_alloc _ _).mono (by simp))).trans ((below_alloc _ _).mono (by simp; omega)))
  have HA := Lib.hid (show RowAt w1 w.heap.size .u8 32 65 a by rw [hw1]; exact ((RowAt.new w _ _ _ _).alloc _).alloc _)
  have HBB := Lib.hid (show RowAt w1 (w.heap.size + 1) .u8 32 65 b by
    rw [hw1]
    have := (RowAt.new (w.alloc (.cells (rowOf .u8 32 a) 65)) .u8 32 65 b).alloc (.cells (rowOf .u8 32 (fun _ => 0)) 65)
    rw [shSize_alloc] at this; exact this)
  have HR := Lib.hid (show RowAt w1 (w.heap.size + 1 + 1) .u8 32 65 (fun _ => 0) by
    rw [hw1]
    have := RowAt.new ((w.alloc (.cells (rowOf .u8 32 a) 65)).alloc (.cells (rowOf .u8 32 b) 65)) .u8 32 65 (fun _ => 0)
    rw [shSize_alloc, shSize_alloc] at this; exact this)
  have hsl := slice25all w.heap.size
  have hsl2 := slice25all (w.heap.size + 1)
  replace hw1 := Lib.hid hw1.symm
  go_enter Tryz.func175, Tryz.ntmps175
  go_upto_region 1 with (fail)
  rw [zeros32, hw1.out]
  go_upto_region 2 with (fail)
  have HO := Lib.hid (show (w1.alloc (.cells #[.int .u8 1] 5)).ownsRow w1.heap.size 5 1 (.slice (some ⟨w1.heap.size, 0, none⟩) 1 1) 1 [.int .u8 1] from World.ownsRow_lit (w := w1) (base := w1.heap.size) (e := 5) (size := 1) #[.int .u8 1] 1 (by simp) (by simp [maxLen]) rfl)
  replace HA := Lib.hid (HA.out.alloc (.cells #[.int .u8 1] 5))
  replace HBB := Lib.hid (HBB.out.alloc (.cells #[.int .u8 1] 5))
  replace HR := Lib.hid (HR.out.alloc (.cells #[.int .u8 1] 5))
  have HS1 := Lib.hid HB.out.size
  have HL1 := Lib.hid HR.out.lt
  have HZ := Lib.hid (show w.heap.size + 1 + 1 < w1.heap.size by rw [← hw1.out]; simp)
  replace HB := Lib.hid (HB.out.trans ((below_alloc w1 (.cells #[.int .u8 1] 5)).mono HB.out.size))
  have HSZ := Lib.hid (show w1.heap.size ≤ (w1.alloc (.cells #[.int .u8 1] 5)).heap.size by simp)
  clear hw1
  generalize w1.alloc (.cells #[.int .u8 1] 5) = w2 at *
  obtain ⟨g, hg⟩ : ∃ g, g = w1.heap.size := ⟨_, rfl⟩
  rw [← hg] at HO HZ HSZ ⊢
  clear hg
  go_upto_region 3 with (at_builtin; refine wpList_append_bytes rfl (.tmp 7) (.tmp 8) rfl rfl g _ 1 [.int .u8 1] rfl HO.out _ (bytesOf a) rfl HA.out.bytesIn (by rw [bytesOf_length]; omega) HSZ.out ?_; intro v' w3 ho hg3 _; replace HBB := Lib.hid (show RowAt w3 (w.heap.size + 1) .u8 32 65 b from (hg3.block _ HBB.out.lt (fun e => by have := (HO.out.lt _ e.symm).1; have := HZ.out; omega)).trans HBB.out); replace HR := Lib.hid (show RowAt w3 (w.heap.size + 1 + 1) .u8 32 65 (fun _ => 0) from (hg3.block _ HR.out.lt (fun e => by have := (HO.out.lt _ e.symm).1; have := HZ.out; omega)).trans HR.out); replace HB := Lib.hid (HB.out.grown hg3 HB.out.size (fun k hk => by have := (HO.out.lt k hk).1; have := HZ.out; omega)); have HO3 := Lib.hid (show w3.ownsRow g 5 1 v' 33 (byteVals (1 :: bytesOf a)) by have h := ho; rw [bytesOf_length] at h; exact h); have HSZ3 := Lib.hid (Nat.le_trans HSZ.out hg3.size); clear ho hg3)
  clear HA HO
  go_wp2_with (first
    | (at_builtin; refine wpList_append_bytes rfl (.tmp 10) (.tmp 11) rfl rfl g _ 33 (byteVals (1 :: bytesOf a)) rfl HO3.out _ (bytesOf b) rfl HBB.out.bytesIn (by rw [bytesOf_length]; omega) HSZ3.out ?_; intro v' w4 ho hg4 _; have HO4 := Lib.hid (owns_in (xs := 1 :: (bytesOf a ++ bytesOf b)) (own_cat ho) (by simp [bytesOf_length, maxLen])); replace HR := Lib.hid (show RowAt w4 (w.heap.size + 1 + 1) .u8 32 65 (fun _ => 0) from (hg4.block _ HR.out.lt (fun e => by have := (HO3.out.lt _ e.symm).1; have := HZ.out; omega)).trans HR.out); replace HB := Lib.hid (HB.out.grown hg4 HB.out.size (fun k hk => by have := (HO3.out.lt k hk).1; have := HZ.out; omega)); clear ho hg4)
    | (go_at_call 104; (with_reducible refine (rsum_any _ _ _ HO4.out (by simp [bytesOf_length])).mono ?_); rintro e w5 ⟨rfl, hb⟩; replace HR := Lib.hid (HR.out.below hb HR.out.lt); replace HB := Lib.hid (HB.out.trans (hb.mono HB.out.size)); clear hb)
    | (refine wpList_store_row rfl 65 (.tmp 4) (.tmp 13) rfl (w.heap.size + 1 + 1) _ rfl rfl 65 _ HR.out (by rw [rowOf_size]; kernel_rfl) (by rw [rowOf_size, rowOf_size]) (rowOf_one _ _ _) ?_))
  refine bodyPost_ret (results_cell_row rfl _ _ (w.heap.size + 1 + 1) 65 _ (0, 0) _ rfl (setRow_heap _ _ _ _ _ _ HR.out) Tryz.underlying65 rfl (by rw [rowOf_size]; kernel_rfl)) rfl ?_
  exact ⟨rfl, below_setRow HB.out (by omega) _⟩
set_option maxRecDepth 100000 in
set_option maxHeartbeats 400000 in
theorem rroot_nil (a : Option Addr) (cap : Nat) (w : World) :
    Calls Tryz.prog 96 #[.slice a 0 cap] w fun e w' => e = .returned (.agg (rowOf .u8 32 (rootF []))) ∧ Below w.heap.size w w' := by
  have HB := Lib.hid (below_alloc w (.cells (rowOf .u8 32 (fun _ => 0)) 65))
  have HR := Lib.hid (RowAt.new w .u8 32 65 (fun _ => 0))
  have HN := Lib.hid (nil_in (w.alloc (.cells (rowOf .u8 32 (fun _ => 0)) 65)))
  go_enter Tryz.func96, Tryz.ntmps96
  go_upto_region 1 with (fail)
  rw [zeros32]
  generalize w.alloc (.cells (rowOf .u8 32 (fun _ => 0)) 65) = w1 at *
  go_wp2_with (first
    | (go_at_call 104; (with_reducible refine (rsum_any _ [] _ HN.out (by simp)).mono ?_); rintro e w5 ⟨rfl, HB5⟩; replace HR := Lib.hid (HR.out.below HB5 HR.out.lt); replace HB := Lib.hid (HB.out.trans (HB5.mono HB.out.size)); clear HB5)
    | (refine wpList_store_row rfl 65 (.tmp 2) (.tmp 7) rfl w.heap.size _ rfl rfl 65 _ HR.out (by rw [rowOf_size]; kernel_rfl) (by rw [rowOf_size, rowOf_size]) (rowOf_one _ _ _) ?_))
  refine bodyPost_ret (results_cell_row rfl _ _ w.heap.size 65 _ (0, 0) _ rfl (setRow_heap _ _ _ _ _ _ HR.out) Tryz.underlying65 rfl (by rw [rowOf_size]; kernel_rfl)) rfl ?_
  exact ⟨by rw [rootF_nil, sumF], below_setRow HB.out (Nat.le_refl _) _⟩
set_option maxRecDepth 100000 in
set_option maxHeartbeats 400000 in
theorem rroot_one (a : Option Addr) (cap : Nat) (h : Nat → Int) (w : World) (hx : HashesIn w (.slice a 1 cap) [h]) :
    Calls Tryz.prog 96 #[.slice a 1 cap] w fun e w' => e = .returned (.agg (rowOf .u8 32 h)) ∧ Below w.heap.size w w' := by
  obtain ⟨a', cap', e, hc, hm, hx⟩ := hx
  injection e with e1 e2 e3
  subst e1 e3
  obtain ⟨ab, ao, rfl, hlt, hx⟩ := hx.resolve_left (by simp)
  have HC := Lib.hid (hx 0 (by simp))
  have HB := Lib.hid (below_alloc w (.cells (rowOf .u8 32 (fun _ => 0)) 65))
  have HR := Lib.hid (RowAt.new w .u8 32 65 (fun _ => 0))
  have HC1 := Lib.hid (World.rangeAt_alloc HC.out (.cells (rowOf .u8 32 (fun _ => 0)) 65))
  clear hx e2 HC
  go_enter Tryz.func96, Tryz.ntmps96
  go_upto_region 1 with (fail)
  rw [zeros32]
  generalize w.alloc (.cells (rowOf .u8 32 (fun _ => 0)) 65) = w1 at *
  go_wp2_with (first
    | (refine wpList_load_mid rfl 65 (.tmp 12) rfl ab ao rfl _ _ (show w1.rangeAt ab ao (rowOf .u8 32 h).toList from by simpa using HC1.out) Tryz.underlying65 rfl (by rw [(rowOf_list _ _ _).2]; kernel_rfl) ?_; rw [Array.toArray_toList])
    | (refine wpList_store_row rfl 65 (.tmp 2) (.tmp 13) rfl w.heap.size _ rfl rfl 65 _ HR.out (by rw [rowOf_size]; kernel_rfl) (by rw [rowOf_size, rowOf_size]) (rowOf_one _ _ _) ?_))
  refine bodyPost_ret (results_cell_row rfl _ _ w.heap.size 65 _ (0, 0) _ rfl (setRow_heap _ _ _ _ _ _ HR.out) Tryz.underlying65 rfl (by rw [rowOf_size]; kernel_rfl)) rfl ?_
  exact ⟨rfl, below_setRow HB.out (Nat.le_refl _) _⟩
set_option maxRecDepth 100000 in
set_option maxHeartbeats 400000 in
theorem rroot_step (a : Option Addr) (n cap k : Nat) (hs : List (Nat → Int)) (r1 r2 : Nat → Int) (w : World) (hx : HashesIn w (.slice a n cap) hs) (hn : 2 ≤ n) (hn2 : n ≤ 9223372036854775807) (hnc : n ≤ cap) (hk : k = splitF n) (hkn : k ≤ n)
    (ih1 : ∀ (v : Value) (w : World), HashesIn w v (hs.take k) → Calls Tryz.prog 96 #[v] w fun e w' => e = .returned (.agg (rowOf .u8 32 r1)) ∧ Below w.heap.size w w')
    (ih2 : ∀ (v : Value) (w : World), HashesIn w v (hs.drop k) → Calls Tryz.prog 96 #[v] w fun e w' => e = .returned (.agg (rowOf .u8 32 r2)) ∧ Below w.heap.size w w') :
    Calls Tryz.prog 96 #[.slice a n cap] w fun e w' => e = .returned (.agg (rowOf .u8 32 (nodeF r1 r2))) ∧ Below w.heap.size w w' := by
  have HB := Lib.hid (below_alloc w (.cells (rowOf .u8 32 (fun _ => 0)) 65))
  have HR := Lib.hid (RowAt.new w .u8 32 65 (fun _ => 0))
  have HX := Lib.hid hx
  have HK := Lib.hid (show k ≤ n ∧ k ≤ cap from ⟨hkn, by omega⟩)
  have hsl1 := slice43hi a n cap k HK.out.2
  have hsl2 := slice43lo a n cap k HK.out.1
  have HS := Lib.hid (show ∀ w : World, Calls Tryz.prog 174 #[.int .i64 (n : Int)] w fun e w' => e = .returned (.int .i64 (k : Int)) ∧ w = w' from fun w => by rw [hk]; exact rsplit_any n w hn hn2)
  have hn0 : ((n : Int) == 0) = false := by rw [beq_eq_false_iff_ne]; omega
  have hn1 : ((n : Int) == 1) = false := by rw [beq_eq_false_iff_ne]; omega
  clear hx hk
  go_enter Tryz.func96, Tryz.ntmps96
  go_upto_region 1 with (fail)
  rw [zeros32]
  generalize w.alloc (.cells (rowOf .u8 32 (fun _ => 0)) 65) = w1 at *
  go_upto_region 6 with (go_at_call 174; (with_reducible refine (HS.out _).mono ?_); rintro e w' ⟨rfl, rfl⟩)
  refine wp_region_any (by kernel_rfl) ?_
  change wpAny _ _ _ _ _ _ _ w1.drew
  refine wpAny_take (i := 0) (v := .slice a n cap) rfl (by kernel_rfl) (by kernel_rfl) (by kernel_rfl) (fun _ _ _ h => h) (Or.inl ⟨by rfl, by intro w; go_simp⟩) ?_
  try simp only [List.getElem_toArray, List.getElem_cons_zero, Act.put, List.setIfInBounds_toArray, List.set_cons_zero, List.set_cons_succ]
  refine wpAny_take (i := 1) (v := .int .i64 (k : Int)) rfl (by kernel_rfl) (by kernel_rfl) (by kernel_rfl) (fun _ _ _ h => h) (Or.inl ⟨by rfl, by intro w; go_simp⟩) ?_
  try simp only [List.getElem_toArray, List.getElem_cons_succ, List.getElem_cons_zero, Act.put, List.setIfInBounds_toArray, List.set_cons_zero, List.set_cons_succ]
  refine wpAny_take (i := 2) (v := .slice (cutH a cap 0) k cap) rfl (by kernel_rfl) (by kernel_rfl) (by kernel_rfl) (fun _ _ _ h => h) (Or.inl ⟨by rfl, by intro w; go_simp⟩) ?_
  try simp only [List.getElem_toArray, List.getElem_cons_succ, List.getElem_cons_zero, Act.put, List.setIfInBounds_toArray, List.set_cons_zero, List.set_cons_succ]
  refine wpAny_take (i := 4) (v := .slice a n cap) rfl (by kernel_rfl) (by kernel_rfl) (by kernel_rfl) (fun _ _ _ h => h) (Or.inl ⟨by rfl, by intro w; go_simp⟩) ?_
  try simp only [List.getElem_toArray, List.getElem_cons_succ, List.getElem_cons_zero, Act.put, List.setIfInBounds_toArray, List.set_cons_zero, List.set_cons_succ]
  refine wpAny_take (i := 5) (v := .int .i64 (k : Int)) rfl (by kernel_rfl) (by kernel_rfl) (by kernel_rfl) (fun _ _ _ h => h) (Or.inl ⟨by rfl, by intro w; go_simp⟩) ?_
  try simp only [List.getElem_toArray, List.getElem_cons_succ, List.getElem_cons_zero, Act.put, List.setIfInBounds_toArray, List.set_cons_zero, List.set_cons_succ]
  refine wpAny_take (i := 6) (v := .slice (cutH a cap k) (n - k) (cap - k)) rfl (by kernel_rfl) (by kernel_rfl) (by kernel_rfl) (fun _ _ _ h => h) (Or.inl ⟨by rfl, by intro w; go_simp⟩) ?_
  try simp only [List.getElem_toArray, List.getElem_cons_succ, List.getElem_cons_zero, Act.put, List.setIfInBounds_toArray, List.set_cons_zero, List.set_cons_succ]
  replace HR : Hid (RowAt w1.drew w.heap.size .u8 32 65 (fun _ => 0)) := HR
  replace HB : Hid (Below w.heap.size w w1.drew) := Lib.hid HB.out.drew
  generalize w1.drew = w2 at *
  refine wpAny_ready (rs := [3]) (by kernel_rfl) (by simp) ?_; refine AllReady.cons rfl (fun K hK => ?_) AllReady.nil; rw [if_pos (by rfl)]
  try simp only [List.getElem_toArray, List.getElem_cons_succ, List.getElem_cons_zero]
  go_simp
  refine (ih1 (.slice (cutH a cap 0) k cap) _ ((HX.out.take k HK.out.1).below HB.out)).mono ?_
  rintro e w3 ⟨rfl, HB3⟩
  replace HR := Lib.hid (HR.out.below HB3 HR.out.lt)
  replace HB := Lib.hid (HB.out.trans (HB3.mono HB.out.size))
  clear HB3
  refine hK _ _ ?_
  clear hK K
  try simp only [List.getElem_toArray, List.getElem_cons_succ, List.getElem_cons_zero, Act.put, List.setIfInBounds_toArray, List.set_cons_zero, List.set_cons_succ]
  refine wpAny_ready (rs := [7]) (by kernel_rfl) (by simp) ?_; refine AllReady.cons rfl (fun K hK => ?_) AllReady.nil; rw [if_pos (by rfl)]
  try simp only [List.getElem_toArray, List.getElem_cons_succ, List.getElem_cons_zero]
  go_simp
  refine (ih2 (.slice (cutH a cap k) (n - k) (cap - k)) _ ((HX.out.drop k HK.out.1).below HB.out)).mono ?_
  rintro e w4 ⟨rfl, HB3⟩
  replace HR := Lib.hid (HR.out.below HB3 HR.out.lt)
  replace HB := Lib.hid (HB.out.trans (HB3.mono HB.out.size))
  clear HB3
  refine hK _ _ ?_
  clear hK K
  try simp only [List.getElem_toArray, List.getElem_cons_succ, List.getElem_cons_zero, Act.put, List.setIfInBounds_toArray, List.set_cons_zero, List.set_cons_succ]
  refine wpAny_ready (rs := [8]) (by kernel_rfl) (by simp) ?_; refine AllReady.cons rfl (fun K hK => ?_) AllReady.nil; rw [if_pos (by rfl)]
  try simp only [List.getElem_toArray, List.getElem_cons_succ, List.getElem_cons_zero]
  go_simp
  refine (rnode_any _ _ _).mono ?_
  rintro e w5 ⟨rfl, HB3⟩
  replace HR := Lib.hid (HR.out.below HB3 HR.out.lt)
  replace HB := Lib.hid (HB.out.trans (HB3.mono HB.out.size))
  clear HB3
  refine hK _ _ ?_
  clear hK K
  try simp only [List.getElem_toArray, List.getElem_cons_succ, List.getElem_cons_zero, Act.put, List.setIfInBounds_toArray, List.set_cons_zero, List.set_cons_succ]
  refine wpAny_ready (rs := [9]) (by kernel_rfl) (by simp) ?_; refine AllReady.cons rfl (fun K hK => ?_) AllReady.nil; rw [if_pos (by rfl)]
  refine wp_store_row 65 (.tmp 2) (.tmp 25) rfl w.heap.size _ rfl rfl 65 _ HR.out (by rw [rowOf_size]; kernel_rfl) (by rw [rowOf_size, rowOf_size]) (rowOf_one _ _ _) ?_
  refine hK _ _ ?_
  clear hK K
  try simp only [List.getElem_toArray, List.getElem_cons_succ, List.getElem_cons_zero, Act.put]
  refine wpAny_done (by kernel_rfl) ?_ _
  go_wp2_with (fail)
  refine bodyPost_ret (results_cell_row rfl _ _ w.heap.size 65 _ (0, 0) _ rfl (setRow_heap _ _ _ _ _ _ HR.out) Tryz.underlying65 rfl (by rw [rowOf_size]; kernel_rfl)) rfl ?_
  exact ⟨rfl, below_setRow HB.out (Nat.le_refl _) _⟩
theorem rroot_any : ∀ (n : Nat) (hs : List (Nat → Int)), hs.length = n → ∀ (v : Value) (w : World), HashesIn w v hs →
    Calls Tryz.prog 96 #[v] w fun e w' => e = .returned (.agg (rowOf .u8 32 (rootF hs))) ∧ Below w.heap.size w w' := by
  intro n
  induction n using Nat.strongRecOn with
  | _ n ih =>
    intro hs hl v w hx
    have hx0 := hx
    obtain ⟨a, cap, rfl, hc, hm, _⟩ := hx
    unfold maxLen at hm
    by_cases h0 : n = 0
    · have : hs = [] := List.eq_nil_of_length_eq_zero (by omega)
      subst this
      exact rroot_nil a cap w
    · by_cases h1 : n = 1
      · obtain ⟨h, rfl⟩ : ∃ h, hs = [h] := by
          match hs, hl with
          | [h], _ => exact ⟨h, rfl⟩
          | [], hl => exact absurd hl (by simp; omega)
          | _ :: _ :: _, hl => exact absurd hl (by simp; omega)
        have := rroot_one a cap h w hx0
        rw [rootF_one [h] rfl]
        exact this
      · have sp := splitF_spec hs.length (by omega) (by omega)
        rw [rootF_step hs (by omega) ⟨sp.1, sp.2.1⟩]
        exact rroot_step a hs.length cap (splitF hs.length) hs _ _ w hx0 (by omega) (by omega) hc rfl (by omega)
          (fun v w => ih (splitF hs.length) (by omega) (hs.take (splitF hs.length)) (by rw [List.length_take]; omega) v w)
          (fun v w => ih (hs.length - splitF hs.length) (by omega) (hs.drop (splitF hs.length)) (by rw [List.length_drop]) v w)
end Go.Proofs.YtanekacpalpcbaaGreatDoor
namespace Go.Proofs.YtanekacpalpcbaaGreatDoor
set_option linter.unusedVariables false
set_option linter.unusedSimpArgs false
open Go.RowKit
set_option maxRecDepth 100000
theorem build32s (f : Nat → Int) : Array.foldl (fun (cs : Array Value) (x : Value × Nat) => cs.setIfInBounds x.snd x.fst) #[Value.int IntKind.u8 0, Value.int IntKind.u8 0, Value.int IntKind.u8 0, Value.int IntKind.u8 0, Value.int IntKind.u8 0, Value.int IntKind.u8 0, Value.int IntKind.u8 0, Value.int IntKind.u8 0, Value.int IntKind.u8 0, Value.int IntKind.u8 0, Value.int IntKind.u8 0, Value.int IntKind.u8 0, Value.int IntKind.u8 0, Value.int IntKind.u8 0, Value.int IntKind.u8 0, Value.int IntKind.u8 0, Value.int IntKind.u8 0, Value.int IntKind.u8 0, Value.int IntKind.u8 0, Value.int IntKind.u8 0, Value.int IntKind.u8 0, Value.int IntKind.u8 0, Value.int IntKind.u8 0, Value.int IntKind.u8 0, Value.int IntKind.u8 0, Value.int IntKind.u8 0, Value.int IntKind.u8 0, Value.int IntKind.u8 0, Value.int IntKind.u8 0, Value.int IntKind.u8 0, Value.int IntKind.u8 0, Value.int IntKind.u8 0] ((rowOf IntKind.u8 32 f).zipIdx 0) 0 32 = rowOf .u8 32 f := by kernel_rfl
def RPathPost (ps : List (Nat → Int)) (w : World) (e : Ending) (w' : World) : Prop := ∃ r, e = .returned (.tuple #[r, .int .i64 0]) ∧ w'.ownsRow w.heap.size 65 32 r ps.length (flatC ps) ∧ Below w.heap.size w w'
/-- Path in all cases -/
def pathR (hs : List (Nat → Int)) (i : Int) : List (Nat → Int) × Option Nat := if 0 ≤ i ∧ i < hs.length then (pathF hs i.toNat, none) else ([], some 1)
theorem pathR_len (hs : List (Nat → Int)) (i : Int) (h : hs.length ≤ 9223372036854775807) : (pathR hs i).1.length ≤ 63 := by
  unfold pathR
  split
  · exact path_depth 63 _ _ (by omega) (by omega) (by omega)
  · simp
end Go.Proofs.YtanekacpalpcbaaGreatDoor
namespace Go.Proofs.YtanekacpalpcbaaGreatDoor
set_option linter.unusedVariables false
set_option linter.unusedSimpArgs false
open Go.RowKit
set_option maxRecDepth 100000
theorem hashS_ne (s : RSt) (h : (hashS s).2.1 ≠ []) : s.1 ≠ [] := by
  rintro e
  obtain ⟨ys, x⟩ := s
  subst e
  cases x with
  | some x => exact h rfl
  | none => exact h rfl
theorem sgz_one (leaf : Nat) : (sgC leaf (.slice none 0 0) (.slice none 0 0)).all (·.oneCell') = true := by simp [sgC, Value.oneCell']
theorem sg_one (leaf : Nat) (a b : Option Addr) (n c m d : Nat) : (sgC leaf (.slice a n c) (.slice b m d)).all (·.oneCell') = true := by simp [sgC, Value.oneCell']
theorem flat_wide {w : World} {B n : Nat} {v : Value} {vs : List Value} (h : w.ownsRow B 65 32 v n vs) : ∃ a c, v = .slice a n c := by
  rcases h.2 with ⟨rfl, h0⟩ | ⟨g, c, _, rfl, _⟩
  · exact ⟨none, 0, by rw [h0]⟩
  · exact ⟨_, c, rfl⟩
theorem sg_all {w w2 : World} {vo vp : Value} {on : List Int} {ps : List (Nat → Int)} (lf : Nat) (ho : BytesIn w vo on) (hp : HashesIn w2 vp ps) : (sgC lf vo vp).all (·.oneCell') = true := by
  obtain ⟨a, c, rfl, -⟩ := ho
  obtain ⟨b, d, rfl, -⟩ := hp
  exact sg_one _ _ _ _ _ _ _
end Go.Proofs.YtanekacpalpcbaaGreatDoor
namespace Go.Proofs.YtanekacpalpcbaaGreatDoor
set_option linter.unusedVariables false
set_option linter.unusedSimpArgs false
open Go.RowKit
set_option maxRecDepth 100000
set_option maxHeartbeats 1000000 in
theorem rleaf_any (v : Value) (xs : List Int) (w : World) (hx : BytesIn w v xs) (hl : xs.length + 81 ≤ 140737488355328) :
    Calls Tryz.prog 94 #[v] w fun e w' => e = .returned (.agg (rowOf .u8 32 (sumF (0 :: xs)))) ∧ Below w.heap.size w w' := by
  have HL := Lib.hid hl
  have HB0 := Lib.hid ((below_alloc w (.cells (rowOf .u8 32 (fun _ => 0)) 65)).trans ((below_alloc _ (.cells #[.int .u8 0] 5)).mono (by simp)))
  have HX := Lib.hid (hx.below HB0.out)
  have HR := Lib.hid ((RowAt.new w .u8 32 65 (fun _ => 0)).alloc (.cells #[.int .u8 0] 5))
  have HO := Lib.hid (show ((w.alloc (.cells (rowOf .u8 32 (fun _ => 0)) 65)).alloc (.cells #[.int .u8 0] 5)).ownsRow (w.heap.size + 1) 5 1 (.slice (some ⟨w.heap.size + 1, 0, none⟩) 1 1) 1 [.int .u8 0] by
    have h := World.ownsRow_lit (w := w.alloc (.cells (rowOf .u8 32 (fun _ => 0)) 65)) (base := w.heap.size + 1) (e := 5) (size := 1) #[.int .u8 0] 1 (by simp) (by simp [maxLen]) rfl
    rw [shSize_alloc] at h
    exact h)
  clear hx hl
  go_enter Tryz.func94, Tryz.ntmps94
  go_upto_region 1 with (fail)
  rw [zeros32]
  go_wp2_with (first
    | (at_builtin; refine wpList_append_bytes rfl (.tmp 3) (.tmp 4) rfl rfl (w.heap.size + 1) _ 1 [.int .u8 0] rfl HO.out v xs rfl HX.out (by have := HL.out; omega) (by simp) ?_; intro v' w1 ho hg _; have HX1 := Lib.hid (owns_in (xs := 0 :: xs) (by have h := ho; rw [Nat.add_comm 1 xs.length] at h; exact h) (by have := HL.out; unfold maxLen; simp; omega)); have HB1 := Lib.hid (HB0.out.grown hg HB0.out.size (fun k hk => by have := (HO.out.lt k hk).1; omega)); have HR1 := Lib.hid (show RowAt w1 w.heap.size .u8 32 65 (fun _ => 0) from (hg.block _ HR.out.lt (fun e => by have := (HO.out.lt _ e.symm).1; omega)).trans HR.out); clear ho hg)
    | (go_at_call 104; (with_reducible refine (rsum_any _ _ _ HX1.out (by have := HL.out; simp; omega)).mono ?_); rintro e w2 ⟨rfl, hb⟩; replace HR1 := Lib.hid (HR1.out.below hb HR1.out.lt); replace HB1 := Lib.hid (HB1.out.trans (hb.mono HB1.out.size)); clear hb)
    | (refine wpList_store_row rfl 65 (.tmp 2) (.tmp 6) rfl w.heap.size _ rfl rfl 65 _ HR1.out (by rw [rowOf_size]; kernel_rfl) (by rw [rowOf_size, rowOf_size]) (rowOf_one _ _ _) ?_))
  refine bodyPost_ret (results_cell_row rfl _ _ w.heap.size 65 (rowOf .u8 32 (sumF (0 :: xs))) (0, 0) _ rfl (setRow_heap _ _ _ _ _ _ HR1.out) Tryz.underlying65 rfl (by rw [rowOf_size]; kernel_rfl)) rfl ?_
  exact ⟨rfl, below_setRow HB1.out (Nat.le_refl _) _⟩
end Go.Proofs.YtanekacpalpcbaaGreatDoor
namespace Go.Proofs.YtanekacpalpcbaaGreatDoor
set_option linter.unusedVariables false
set_option linter.unusedSimpArgs false
open Go.RowKit
set_option maxRecDepth 100000
theorem varint_one {n : Nat} (h : n < 128) : varint n = [(n : Int)] := by simp [varint, glen_small h, gby]
theorem step_sum (leaf chain : Int) (v : Nat → Int) (a k q : Nat) (hq : q = a + k) : sumF ([3] ++ varint (uN leaf) ++ varint (uN chain) ++ varint q ++ rowL 32 (stepN leaf chain v a k)) = stepN leaf chain v a (k + 1) := by
  subst hq
  show _ = step1 leaf chain (stepN leaf chain v a k) (a + k)
  unfold step1
  rw [varint_one (n := 3) (by decide)]
  rfl
theorem start_sum (seed : Nat → Int) (leaf chain : Int) : sumF ([2] ++ rowL 32 seed ++ varint (uN leaf) ++ varint (uN chain)) = startF seed leaf chain := by
  unfold startF
  rw [varint_one (n := 2) (by decide)]
  rfl
theorem dUint_in (b : Value) (bs : List Int) (m : Int) (n : Nat) (hm : m = (n : Int)) (w : World) (hb : BytesIn w b bs) (hn : n < 18446744073709551616) (hl : bs.length + 10 ≤ 140737488355328) :
    Calls Tryz.prog 73 #[b, .int .u64 m] w fun e w' => ∃ v', e = .returned v' ∧ BytesIn w' v' (bs ++ varint n) ∧ Below w.heap.size w w' := by
  subst hm
  refine (dUint_any b bs n w hb hn hl).mono ?_
  rintro e w' ⟨v', he, ho, hbl⟩
  exact ⟨v', he, owns_in ho (by rw [List.length_append, varint_length]; have := glen_le hn; unfold maxLen; omega), hbl⟩
theorem dHash_in (b : Value) (bs : List Int) (f : Nat → Int) (w : World) (hb : BytesIn w b bs) (hl : bs.length + 32 ≤ 140737488355328) :
    Calls Tryz.prog 111 #[b, .agg (rowOf .u8 32 f)] w fun e w' => ∃ v', e = .returned v' ∧ BytesIn w' v' (bs ++ rowL 32 f) ∧ Below w.heap.size w w' := by
  refine (dHash_any b bs f w hb hl).mono ?_
  rintro e w' ⟨v', he, ho, hbl⟩
  exact ⟨v', he, owns_in ho (by rw [List.length_append, rowL32]; unfold maxLen; omega), hbl⟩
/-- rows of 32 bytes below a mark -/
structure Has2 (w w' : World) (b r B : Nat) (v : Nat → Int) : Prop where
  below : Below w.heap.size w w'
  val : RowAt w' b .u8 32 65 v
  res : RowAt w' r .u8 32 65 (fun _ => 0)
  size : B ≤ w'.heap.size
  hb : b < B
  hr : r < B
  wB : w.heap.size ≤ B
theorem Has2.calls {w w' w2 : World} {b r B : Nat} {v : Nat → Int} (m : Has2 w w' b r B v) (h : Below B w' w2) : Has2 w w2 b r B v :=
  ⟨m.below.trans (h.mono m.wB), m.val.below h m.hb, m.res.below h m.hr, Nat.le_trans m.size h.size, m.hb, m.hr, m.wB⟩
theorem Has2.call {w w' w2 : World} {b r B : Nat} {v : Nat → Int} (m : Has2 w w' b r B v) (h : Below w'.heap.size w' w2) : Has2 w w2 b r B v := m.calls (h.mono m.size)
theorem Has2.put {w w' : World} {b r B : Nat} {v : Nat → Int} (m : Has2 w w' b r B v) (h : w.heap.size ≤ b) (hbr : b ≠ r) (v' : Nat → Int) : Has2 w (w'.setRow b (rowOf .u8 32 v')) b r B v' :=
  ⟨below_setRow m.below h _, setRow_heap _ _ _ _ _ _ m.val, (setRow_other _ _ _ _ (Ne.symm hbr)).trans m.res, by simpa [World.setRow] using m.size, m.hb, m.hr, m.wB⟩
theorem has2_start (w : World) (v : Nat → Int) : Has2 w ((w.alloc (.cells (rowOf .u8 32 v) 65)).alloc (.cells (rowOf .u8 32 (fun _ => 0)) 65)) w.heap.size (w.heap.size + 1) (w.heap.size + 1 + 1) v :=
  ⟨(below_alloc w _).trans ((below_alloc _ _).mono (by simp)), (RowAt.new w .u8 32 65 v).alloc _, by
    have := RowAt.new (w.alloc (.cells (rowOf .u8 32 v) 65)) .u8 32 65 (fun _ => 0)
    rw [shSize_alloc] at this; exact this, by simp, by omega, by omega, by omega⟩
end Go.Proofs.YtanekacpalpcbaaGreatDoor
namespace Go.Proofs.YtanekacpalpcbaaGreatDoor
set_option linter.unusedVariables false
set_option linter.unusedSimpArgs false
open Go.RowKit
set_option maxRecDepth 100000
theorem ownsRow_lower {w : World} {B B' n : Nat} {e : TypeId} {s : Nat} {v : Value} {vs : List Value} (h : w.ownsRow B e s v n vs) (hB : B' ≤ B) : w.ownsRow B' e s v n vs := by
  refine ⟨h.1, ?_⟩
  rcases h.2 with hn | ⟨g, cap, cur, h1, hb, rest⟩
  · exact .inl hn
  · exact .inr ⟨g, cap, cur, h1, Nat.le_trans hB hb, rest⟩
def noB : Value := .tuple #[.slice none 0 0, errV (some 1)]
theorem HasR.mark {w w' : World} {B : Nat} {rows : List (Nat × (Nat → Int))} (m : HasR w w' B rows) : HasR w' w' w'.heap.size rows :=
  ⟨Below.refl _ _, fun p hp => ⟨(m.row p hp).1, (m.row p hp).1.lt⟩, m.env, Nat.le_refl _, m.env.lt, Nat.le_refl _⟩
theorem nat_get (L : List Nat) (k d : Nat) (h : L[k]? = some d) : (natInts L)[k]? = some (d : Int) := by simp [natInts, h]
end Go.Proofs.YtanekacpalpcbaaGreatDoor
namespace Go.Proofs.YtanekacpalpcbaaGreatDoor
set_option linter.unusedVariables false
set_option linter.unusedSimpArgs false
open Go.RowKit
set_option maxRecDepth 100000
theorem lack2 (s a b : Nat) (ha : a ≤ 15) (hb : b ≤ 15) : (s : Int) + 30 - a - b = ((s + (15 - a) + (15 - b) : Nat) : Int) := by omega
theorem lacks_two (l : List Nat) (a b : Nat) : lacks (l ++ [a, b]) = lacks l + (15 - a) + (15 - b) := by rw [lacks_append]; simp [lacks]; omega
end Go.Proofs.YtanekacpalpcbaaGreatDoor
namespace Go.Proofs.YtanekacpalpcbaaGreatDoor
set_option linter.unusedVariables false
set_option linter.unusedSimpArgs false
open Go.RowKit
set_option maxRecDepth 100000
theorem has2_startz (w : World) (v : Nat → Int) : Has2 w ((w.alloc (.cells (rowOf .u8 32 v) 65)).alloc (.cells (rowOf .u8 32 zF) 65)) w.heap.size (w.heap.size + 1) (w.heap.size + 1 + 1) v := has2_start w v
end Go.Proofs.YtanekacpalpcbaaGreatDoor
namespace Go.Proofs.YtanekacpalpcbaaGreatDoor
set_option linter.unusedVariables false
set_option linter.unusedSimpArgs false
open Go.RowKit
set_option maxRecDepth 100000
structure SgM (w2 w' : World) (b : Nat) (f : Nat → Int) (gb go : Nat) (L : List Nat) (s : Value) (l : List Int) : Prop where
  below : Below w2.heap.size w2 w'
  val : RowAt w' b .u8 32 65 f
  hb : b < w2.heap.size
  hg : gb < w2.heap.size
  cells : ∀ i x, (natInts L)[i]? = some x → w'.cell? ⟨gb, go + i, none⟩ = some (.int .i64 x)
  bytes : BytesIn w' s l
theorem SgM.calls {w2 w' w3 : World} {b : Nat} {f : Nat → Int} {gb go : Nat} {L : List Nat} {s : Value} {l : List Int} (m : SgM w2 w' b f gb go L s l) (h : Below w'.heap.size w' w3) : SgM w2 w3 b f gb go L s l :=
  ⟨m.below.trans (h.mono m.below.size), m.val.below h m.val.lt, m.hb, m.hg, fun i x hi => (h.cell (p := ⟨gb, go + i, none⟩) (World.block_lt_of_cell? w' _ (m.cells i x hi))).trans (m.cells i x hi), m.bytes.below h⟩
theorem SgM.with {w2 w' : World} {b : Nat} {f : Nat → Int} {gb go : Nat} {L : List Nat} {s s' : Value} {l l' : List Int} (m : SgM w2 w' b f gb go L s l) (h : BytesIn w' s' l') : SgM w2 w' b f gb go L s' l' := ⟨m.below, m.val, m.hb, m.hg, m.cells, h⟩
end Go.Proofs.YtanekacpalpcbaaGreatDoor
namespace Go.Proofs.YtanekacpalpcbaaGreatDoor
set_option linter.unusedVariables false
set_option linter.unusedSimpArgs false
open Go.RowKit
set_option maxRecDepth 100000
def longV : Value := .tuple #[.agg (rowOf .u8 32 zF), errV (some 2)]
theorem arrayAt32 (a : Addr) (cap : Nat) (w : World) : (Instr.arrayAt 65 (.slice (some a) 32 cap)).run Tryz.prog w = .ok (.pointer (some a)) w := by
  simp [Instr.arrayAt, run_underlying Tryz.underlying65]
theorem sliceS (sb so ns cs k : Nat) (h1 : 32 * (k + 1) ≤ ns) (h2 : ns ≤ cs) (w : World) : (Instr.slice 34 (.slice (some ⟨sb, so, none⟩) ns cs) (some (.int .i64 (32 * (k : Int)))) (some (.int .i64 (32 * ((k : Int) + 1)))) none).run Tryz.prog w = .ok (.slice (some ⟨sb, so + 32 * k, none⟩) 32 (cs - 32 * k)) w := by
  have h := sliceBlh (some ⟨sb, so, none⟩) ns cs (32 * k) (32 * (k + 1)) (by omega) (by omega) w
  unfold cutA at h
  rw [if_neg (by omega)] at h
  simp only [Option.map_some] at h
  rw [Addr.add_mid, show 32 * (k + 1) - 32 * k = 32 by omega, show ((32 * k : Nat) : Int) = 32 * (k : Int) by omega, show ((32 * (k + 1) : Nat) : Int) = 32 * ((k : Int) + 1) by omega] at h
  exact h
theorem seg_range {w : World} {sb so k : Nat} {ss : List Int} (h : ∀ i x, ss[i]? = some x → w.cell? ⟨sb, so + i, none⟩ = some (.int .u8 x)) (hl : 32 * (k + 1) ≤ ss.length) :
    w.rangeAt sb (so + 32 * k) ((List.range 32).map fun i => Value.int .u8 (((ss.drop (32 * k)).take 32).getD i 0)) := fun j v hj => by
  simp only [List.getElem?_map] at hj
  rcases Nat.lt_or_ge j 32 with h1 | h1
  · rw [List.getElem?_range h1] at hj
    cases hj
    have e : ss[32 * k + j]? = some (((ss.drop (32 * k)).take 32).getD j 0) := by
      have h2 : 32 * k + j < ss.length := by omega
      rw [List.getElem?_eq_getElem h2]
      simp [List.getD, List.getElem?_take, h1, List.getElem?_drop, List.getElem?_eq_getElem h2]
    have := h _ _ e
    rw [Nat.add_assoc]; exact this
  · rw [List.getElem?_eq_none (by simpa using h1)] at hj; cases hj
end Go.Proofs.YtanekacpalpcbaaGreatDoor
