/- Part 22 of the proof. -/
import Derived.Maps.AppendAt
import Derived.Laws.ResultCell
import Derived.Test.YteokgklfljhcaaaGreatDoorSe1
import Derived.Test.YteokgklfljhcaaaGreatDoorSe3
import Derived.Test.YteokgklfljhcaaaGreatDoorSe8
import Derived.Test.YteokgklfljhcaaaGreatDoorSe14
import Derived.Test.YteokgklfljhcaaaGreatDoorSe20
import Derived.Test.YteokgklfljhcaaaGreatDoorSe21
namespace Go.Proofs.YteokgklfljhcaaaGreatDoor
set_option linter.unusedVariables false
set_option linter.unusedSimpArgs false
open Go.RowKit
set_option maxRecDepth 100000
theorem pow_sep (a b n : Nat) (h1 : 2 ^ a < n) (h2 : n ≤ 2 * 2 ^ a) (h3 : 2 ^ b < n) (h4 : n ≤ 2 * 2 ^ b) : a = b := by
  have e1 : 2 ^ a < 2 ^ (b + 1) := by rw [Nat.pow_succ]; omega
  have e2 : 2 ^ b < 2 ^ (a + 1) := by rw [Nat.pow_succ]; omega
  have := (Nat.pow_lt_pow_iff_right (a := 2) (by omega)).1 e1
  have := (Nat.pow_lt_pow_iff_right (a := 2) (by omega)).1 e2
  omega
theorem split_unique (n j : Nat) (h2 : 2 ≤ n) (hn : n < 18446744073709551616) (h1 : 2 ^ j < n) (h3 : n ≤ 2 * 2 ^ j) : 2 ^ j = splitF n := by
  have sp := splitF_spec n h2 hn
  unfold splitF at sp ⊢
  rw [pow_sep j (Lib.bitLen (n - 1) - 1) n h1 h3 sp.2.1 sp.2.2.1]
theorem rsplit_any (n : Nat) (w : World) (h2 : 2 ≤ n) (hn : n ≤ 9223372036854775807) : Calls Tryz.prog 103 #[.int .i64 (n : Int)] w fun e w' => e = .returned (.int .i64 (splitF n : Int)) ∧ w = w' := by
  have H2 := Lib.hid h2
  go_enter Tryz.func103, Tryz.ntmps103
  go_wp2_with (fail)
  go_loop [3] (fun v => ∃ j k : Nat, Hid (k = 2 ^ j) ∧ k < n ∧ 1 ≤ k ∧ v = .int .i64 (k : Int)) (fun v => n - (intOf v).toNat)
  case atStart => exact ⟨0, 1, Lib.hid rfl, by omega, by omega, rfl⟩
  case round =>
    obtain ⟨j, k, hk, hkn, hk1, rfl⟩ := hrel
    by_cases hlt : (k : Int) < (n : Int) - k
    · go_wp2_with (fail)
      go_round
      case rel => exact ⟨j + 1, 2 * k, Lib.hid (by rw [hk.out, Nat.pow_succ, Nat.mul_comm]), by omega, by omega, by go_num⟩
      case measure => simp [intOf]; omega
    · have hs := Lib.hid (show k = splitF n by
        have := hk.out
        rw [← split_unique n j H2.out (by omega) (by omega) (by omega)]; exact this)
      go_wp2_with (fail)
      go_ret
      exact ⟨by rw [← hs.out]; rfl, rfl⟩
theorem RowAt.bytesIn {w : World} {b : Nat} {a : Nat → Int} (h : RowAt w b .u8 32 23 a) : BytesIn w (.slice (some ⟨b, 0, none⟩) 32 32) (bytesOf a) := by
  refine ⟨_, _, by rw [bytesOf_length], by rw [bytesOf_length]; omega, by rw [bytesOf_length]; unfold maxLen; omega, .inr ⟨b, 0, rfl, fun i x hi => ?_⟩⟩
  have hil : i < 32 := by have := (List.getElem?_eq_some_iff.1 hi).1; rw [bytesOf_length] at this; exact this
  rw [Nat.zero_add, h.cell i hil]
  simp [bytesOf, hil] at hi
  rw [hi]
theorem own_cat {w : World} {g : Nat} {v : Value} {a b : Nat → Int} (h : w.ownsRow g 5 1 v (33 + (bytesOf b).length) (byteVals (1 :: bytesOf a) ++ byteVals (bytesOf b))) : w.ownsRow g 5 1 v (1 :: (bytesOf a ++ bytesOf b)).length (byteVals (1 :: (bytesOf a ++ bytesOf b))) := by
  rw [← byteVals_append] at h
  have e : 33 + (bytesOf b).length = (1 :: (bytesOf a ++ bytesOf b)).length := by simp [bytesOf_length]
  rw [e] at h; exact h
set_option maxHeartbeats 1000000 in
theorem rnode_any (a b : Nat → Int) (w : World) :
    Calls Tryz.prog 104 #[.agg (rowOf .u8 32 a), .agg (rowOf .u8 32 b)] w fun e w' => e = .returned (.agg (rowOf .u8 32 (nodeF a b))) ∧ Below w.heap.size w w' := by
  obtain ⟨w1, hw1⟩ : ∃ w1, w1 = ((w.alloc (.cells (rowOf .u8 32 a) 23)).alloc (.cells (rowOf .u8 32 b) 23)).alloc (.cells (rowOf .u8 32 (fun _ => 0)) 23) := ⟨_, rfl⟩
  have HB := Lib.hid (show Below w.heap.size w w1 by rw [hw1]; exact ((below_alloc w _).trans ((below_alloc _ _).mono (by simp))).trans ((below_alloc _ _).mono (by simp; omega)))
  have HA := Lib.hid (show RowAt w1 w.heap.size .u8 32 23 a by rw [hw1]; exact ((RowAt.new w _ _ _ _).alloc _).alloc _)
  have HBB := Lib.hid (show RowAt w1 (w.heap.size + 1) .u8 32 23 b by
    rw [hw1]
    have := (RowAt.new (w.alloc (.cells (rowOf .u8 32 a) 23)) .u8 32 23 b).alloc (.cells (rowOf .u8 32 (fun _ => 0)) 23)
    rw [shSize_alloc] at this; exact this)
  have HR := Lib.hid (show RowAt w1 (w.heap.size + 1 + 1) .u8 32 23 (fun _ => 0) by
    rw [hw1]
    have := RowAt.new ((w.alloc (.cells (rowOf .u8 32 a) 23)).alloc (.cells (rowOf .u8 32 b) 23)) .u8 32 23 (fun _ => 0)
    rw [shSize_alloc, shSize_alloc] at this; exact this)
  have hsl := slice25all w.heap.size
  have hsl2 := slice25all (w.heap.size + 1)
  replace hw1 := Lib.hid hw1.symm
  go_enter Tryz.func104, Tryz.ntmps104
  go_upto_region 1 with (fail)
  rw [zeros32, hw1.out]
  go_upto_region 2 with (fail)
  have HO := Lib.hid (show (w1.alloc (.cells #[.int .u8 1] 5)).ownsRow w1.heap.size 5 1 (.slice (some ⟨w1.heap.size, 0, none⟩) 1 1) 1 [.int .u8 1] from World.ownsRow_lit (w := w1) (base := w1.heap.size) (e := 5) (size := 1) #[.int .u8 1] 1 (by simp) (by simp [maxLen]) rfl)
  replace HA := Lib.hid (HA.out.alloc (.cells #[.int .u8 1] 5))
  replace HBB := Lib.hid (HBB.out.alloc (.cells #[.int .u8 1] 5))
  replace HR := Lib.hid (HR.out.alloc (.cells #[.int .u8 1] 5))
  have HS1 := Lib.hid HB.out.size
  have HL1 := Lib.hid HR.out.lt
  have HZ := Lib.hid (show w.heap.size + 1 + 1 < w1.heap.size by rw [← hw1.out]; simp)
  replace HB := Lib.hid (HB.out.trans ((below_alloc w1 (.cells #[.int .u8 1] 5)).mono HB.out.size))
  have HSZ := Lib.hid (show w1.heap.size ≤ (w1.alloc (.cells #[.int .u8 1] 5)).heap.size by simp)
  clear hw1
  generalize w1.alloc (.cells #[.int .u8 1] 5) = w2 at *
  obtain ⟨g, hg⟩ : ∃ g, g = w1.heap.size := ⟨_, rfl⟩
  rw [← hg] at HO HZ HSZ ⊢
  clear hg
  go_upto_region 3 with (at_builtin; refine wpList_append_bytes rfl (.tmp 7) (.tmp 8) rfl rfl g _ 1 [.int .u8 1] rfl HO.out _ (bytesOf a) rfl HA.out.bytesIn (by rw [bytesOf_length]; omega) HSZ.out ?_; intro v' w3 ho hg3 _; replace HBB := Lib.hid (show RowAt w3 (w.heap.size + 1) .u8 32 23 b from (hg3.block _ HBB.out.lt (fun e => by have := (HO.out.lt _ e.symm).1; have := HZ.out; omega)).trans HBB.out); replace HR := Lib.hid (show RowAt w3 (w.heap.size + 1 + 1) .u8 32 23 (fun _ => 0) from (hg3.block _ HR.out.lt (fun e => by have := (HO.out.lt _ e.symm).1; have := HZ.out; omega)).trans HR.out); replace HB := Lib.hid (HB.out.grown hg3 HB.out.size (fun k hk => by have := (HO.out.lt k hk).1; have := HZ.out; omega)); have HO3 := Lib.hid (show w3.ownsRow g 5 1 v' 33 (byteVals (1 :: bytesOf a)) by have h := ho; rw [bytesOf_length] at h; exact h); have HSZ3 := Lib.hid (Nat.le_trans HSZ.out hg3.size); clear ho hg3)
  clear HA HO
  go_wp2_with (first
    | (at_builtin; refine wpList_append_bytes rfl (.tmp 10) (.tmp 11) rfl rfl g _ 33 (byteVals (1 :: bytesOf a)) rfl HO3.out _ (bytesOf b) rfl HBB.out.bytesIn (by rw [bytesOf_length]; omega) HSZ3.out ?_; intro v' w4 ho hg4 _; have HO4 := Lib.hid (owns_in (xs := 1 :: (bytesOf a ++ bytesOf b)) (own_cat ho) (by simp [bytesOf_length, maxLen])); replace HR := Lib.hid (show RowAt w4 (w.heap.size + 1 + 1) .u8 32 23 (fun _ => 0) from (hg4.block _ HR.out.lt (fun e => by have := (HO3.out.lt _ e.symm).1; have := HZ.out; omega)).trans HR.out); replace HB := Lib.hid (HB.out.grown hg4 HB.out.size (fun k hk => by have := (HO3.out.lt k hk).1; have := HZ.out; omega)); clear ho hg4)
    | (go_at_call 54; (with_reducible refine (rsum_any _ _ _ HO4.out (by simp [bytesOf_length])).mono ?_); rintro e w5 ⟨rfl, hb⟩; replace HR := Lib.hid (HR.out.below hb HR.out.lt); replace HB := Lib.hid (HB.out.trans (hb.mono HB.out.size)); clear hb)
    | (refine wpList_store_row rfl 23 (.tmp 4) (.tmp 13) rfl (w.heap.size + 1 + 1) _ rfl rfl 23 _ HR.out (by rw [rowOf_size]; kernel_rfl) (by rw [rowOf_size, rowOf_size]) (rowOf_one _ _ _) ?_))
  refine bodyPost_ret (results_cell_row rfl _ _ (w.heap.size + 1 + 1) 23 _ (0, 0) _ rfl (setRow_heap _ _ _ _ _ _ HR.out) Tryz.underlying23 rfl (by rw [rowOf_size]; kernel_rfl)) rfl ?_
  exact ⟨rfl, below_setRow HB.out (by omega) _⟩
set_option maxRecDepth 100000 in
set_option maxHeartbeats 400000 in
theorem rroot_nil (a : Option Addr) (cap : Nat) (w : World) :
    Calls Tryz.prog 52 #[.slice a 0 cap] w fun e w' => e = .returned (.agg (rowOf .u8 32 (rootF []))) ∧ Below w.heap.size w w' := by
  have HB := Lib.hid (below_alloc w (.cells (rowOf .u8 32 (fun _ => 0)) 23))
  have HR := Lib.hid (RowAt.new w .u8 32 23 (fun _ => 0))
  have HN := Lib.hid (nil_in (w.alloc (.cells (rowOf .u8 32 (fun _ => 0)) 23)))
  go_enter Tryz.func52, Tryz.ntmps52
  go_upto_region 1 with (fail)
  rw [zeros32]
  generalize w.alloc (.cells (rowOf .u8 32 (fun _ => 0)) 23) = w1 at *
  go_wp2_with (first
    | (go_at_call 54; (with_reducible refine (rsum_any _ [] _ HN.out (by simp)).mono ?_); rintro e w5 ⟨rfl, HB5⟩; replace HR := Lib.hid (HR.out.below HB5 HR.out.lt); replace HB := Lib.hid (HB.out.trans (HB5.mono HB.out.size)); clear HB5)
    | (refine wpList_store_row rfl 23 (.tmp 2) (.tmp 7) rfl w.heap.size _ rfl rfl 23 _ HR.out (by rw [rowOf_size]; kernel_rfl) (by rw [rowOf_size, rowOf_size]) (rowOf_one _ _ _) ?_))
  refine bodyPost_ret (results_cell_row rfl _ _ w.heap.size 23 _ (0, 0) _ rfl (setRow_heap _ _ _ _ _ _ HR.out) Tryz.underlying23 rfl (by rw [rowOf_size]; kernel_rfl)) rfl ?_
  exact ⟨by rw [rootF_nil, sumF], below_setRow HB.out (Nat.le_refl _) _⟩
set_option maxRecDepth 100000 in
set_option maxHeartbeats 400000 in
theorem rroot_one (a : Option Addr) (cap : Nat) (h : Nat → Int) (w : World) (hx : HashesIn w (.slice a 1 cap) [h]) :
    Calls Tryz.prog 52 #[.slice a 1 cap] w fun e w' => e = .returned (.agg (rowOf .u8 32 h)) ∧ Below w.heap.size w w' := by
  obtain ⟨a', cap', e, hc, hm, hx⟩ := hx
  injection e with e1 e2 e3
  subst e1 e3
  obtain ⟨ab, ao, rfl, hlt, hx⟩ := hx.resolve_left (by simp)
  have HC := Lib.hid (hx 0 (by simp))
  have HB := Lib.hid (below_alloc w (.cells (rowOf .u8 32 (fun _ => 0)) 23))
  have HR := Lib.hid (RowAt.new w .u8 32 23 (fun _ => 0))
  have HC1 := Lib.hid (World.rangeAt_alloc HC.out (.cells (rowOf .u8 32 (fun _ => 0)) 23))
  clear hx e2 HC
  go_enter Tryz.func52, Tryz.ntmps52
  go_upto_region 1 with (fail)
  rw [zeros32]
  generalize w.alloc (.cells (rowOf .u8 32 (fun _ => 0)) 23) = w1 at *
  go_wp2_with (first
    | (refine wpList_load_mid rfl 23 (.tmp 12) rfl ab ao rfl _ _ (show w1.rangeAt ab ao (rowOf .u8 32 h).toList from by simpa using HC1.out) Tryz.underlying23 rfl (by rw [(rowOf_list _ _ _).2]; kernel_rfl) ?_; rw [Array.toArray_toList])
    | (refine wpList_store_row rfl 23 (.tmp 2) (.tmp 13) rfl w.heap.size _ rfl rfl 23 _ HR.out (by rw [rowOf_size]; kernel_rfl) (by rw [rowOf_size, rowOf_size]) (rowOf_one _ _ _) ?_))
  refine bodyPost_ret (results_cell_row rfl _ _ w.heap.size 23 _ (0, 0) _ rfl (setRow_heap _ _ _ _ _ _ HR.out) Tryz.underlying23 rfl (by rw [rowOf_size]; kernel_rfl)) rfl ?_
  exact ⟨rfl, below_setRow HB.out (Nat.le_refl _) _⟩
set_option maxRecDepth 100000 in
set_option maxHeartbeats 400000 in
theorem rroot_step (a : Option Addr) (n cap k : Nat) (hs : List (Nat → Int)) (r1 r2 : Nat → Int) (w : World) (hx : HashesIn w (.slice a n cap) hs) (hn : 2 ≤ n) (hn2 : n ≤ 9223372036854775807) (hnc : n ≤ cap) (hk : k = splitF n) (hkn : k ≤ n)
    (ih1 : ∀ (v : Value) (w : World), HashesIn w v (hs.take k) → Calls Tryz.prog 52 #[v] w fun e w' => e = .returned (.agg (rowOf .u8 32 r1)) ∧ Below w.heap.size w w')
    (ih2 : ∀ (v : Value) (w : World), HashesIn w v (hs.drop k) → Calls Tryz.prog 52 #[v] w fun e w' => e = .returned (.agg (rowOf .u8 32 r2)) ∧ Below w.heap.size w w') :
    Calls Tryz.prog 52 #[.slice a n cap] w fun e w' => e = .returned (.agg (rowOf .u8 32 (nodeF r1 r2))) ∧ Below w.heap.size w w' := by
  have HB := Lib.hid (below_alloc w (.cells (rowOf .u8 32 (fun _ => 0)) 23))
  have HR := Lib.hid (RowAt.new w .u8 32 23 (fun _ => 0))
  have HX := Lib.hid hx
  have HK := Lib.hid (show k ≤ n ∧ k ≤ cap from ⟨hkn, by omega⟩)
  have hsl1 := slice43hi a n cap k HK.out.2
  have hsl2 := slice43lo a n cap k HK.out.1
  have HS := Lib.hid (show ∀ w : World, Calls Tryz.prog 103 #[.int .i64 (n : Int)] w fun e w' => e = .returned (.int .i64 (k : Int)) ∧ w = w' from fun w => by rw [hk]; exact rsplit_any n w hn hn2)
  have hn0 : ((n : Int) == 0) = false := by rw [beq_eq_false_iff_ne]; omega
  have hn1 : ((n : Int) == 1) = false := by rw [beq_eq_false_iff_ne]; omega
  clear hx hk
  go_enter Tryz.func52, Tryz.ntmps52
  go_upto_region 1 with (fail)
  rw [zeros32]
  generalize w.alloc (.cells (rowOf .u8 32 (fun _ => 0)) 23) = w1 at *
  go_upto_region 6 with (go_at_call 103; (with_reducible refine (HS.out _).mono ?_); rintro e w' ⟨rfl, rfl⟩)
  refine wp_region_any (by kernel_rfl) ?_
  change wpAny _ _ _ _ _ _ _ w1.drew
  refine wpAny_take (i := 0) (v := .slice a n cap) rfl (by kernel_rfl) (by kernel_rfl) (by kernel_rfl) (fun _ _ _ h => h) (Or.inl ⟨by rfl, by intro w; go_simp⟩) ?_
  try simp only [List.getElem_toArray, List.getElem_cons_zero, Act.put, List.setIfInBounds_toArray, List.set_cons_zero, List.set_cons_succ]
  refine wpAny_take (i := 1) (v := .int .i64 (k : Int)) rfl (by kernel_rfl) (by kernel_rfl) (by kernel_rfl) (fun _ _ _ h => h) (Or.inl ⟨by rfl, by intro w; go_simp⟩) ?_
  try simp only [List.getElem_toArray, List.getElem_cons_succ, List.getElem_cons_zero, Act.put, List.setIfInBounds_toArray, List.set_cons_zero, List.set_cons_succ]
  refine wpAny_take (i := 2) (v := .slice (cutH a cap 0) k cap) rfl (by kernel_rfl) (by kernel_rfl) (by kernel_rfl) (fun _ _ _ h => h) (Or.inl ⟨by rfl, by intro w; go_simp⟩) ?_
  try simp only [List.getElem_toArray, List.getElem_cons_succ, List.getElem_cons_zero, Act.put, List.setIfInBounds_toArray, List.set_cons_zero, List.set_cons_succ]
  refine wpAny_take (i := 4) (v := .slice a n cap) rfl (by kernel_rfl) (by kernel_rfl) (by kernel_rfl) (fun _ _ _ h => h) (Or.inl ⟨by rfl, by intro w; go_simp⟩) ?_
  try simp only [List.getElem_toArray, List.getElem_cons_succ, List.getElem_cons_zero, Act.put, List.setIfInBounds_toArray, List.set_cons_zero, List.set_cons_succ]
  refine wpAny_take (i := 5) (v := .int .i64 (k : Int)) rfl (by kernel_rfl) (by kernel_rfl) (by kernel_rfl) (fun _ _ _ h => h) (Or.inl ⟨by rfl, by intro w; go_simp⟩) ?_
  try simp only [List.getElem_toArray, List.getElem_cons_succ, List.getElem_cons_zero, Act.put, List.setIfInBounds_toArray, List.set_cons_zero, List.set_cons_succ]
  refine wpAny_take (i := 6) (v := .slice (cutH a cap k) (n - k) (cap - k)) rfl (by kernel_rfl) (by kernel_rfl) (by kernel_rfl) (fun _ _ _ h => h) (Or.inl ⟨by rfl, by intro w; go_simp⟩) ?_
  try simp only [List.getElem_toArray, List.getElem_cons_succ, List.getElem_cons_zero, Act.put, List.setIfInBounds_toArray, List.set_cons_zero, List.set_cons_succ]
  replace HR : Hid (RowAt w1.drew w.heap.size .u8 32 23 (fun _ => 0)) := HR
  replace HB : Hid (Below w.heap.size w w1.drew) := Lib.hid HB.out.drew
  generalize w1.drew = w2 at *
  refine wpAny_ready (rs := [3]) (by kernel_rfl) (by simp) ?_; refine AllReady.cons rfl (fun K hK => ?_) AllReady.nil; rw [if_pos (by rfl)]
  try simp only [List.getElem_toArray, List.getElem_cons_succ, List.getElem_cons_zero]
  go_simp
  refine (ih1 (.slice (cutH a cap 0) k cap) _ ((HX.out.take k HK.out.1).below HB.out)).mono ?_
  rintro e w3 ⟨rfl, HB3⟩
  replace HR := Lib.hid (HR.out.below HB3 HR.out.lt)
  replace HB := Lib.hid (HB.out.trans (HB3.mono HB.out.size))
  clear HB3
  refine hK _ _ ?_
  clear hK K
  try simp only [List.getElem_toArray, List.getElem_cons_succ, List.getElem_cons_zero, Act.put, List.setIfInBounds_toArray, List.set_cons_zero, List.set_cons_succ]
  refine wpAny_ready (rs := [7]) (by kernel_rfl) (by simp) ?_; refine AllReady.cons rfl (fun K hK => ?_) AllReady.nil; rw [if_pos (by rfl)]
  try simp only [List.getElem_toArray, List.getElem_cons_succ, List.getElem_cons_zero]
  go_simp
  refine (ih2 (.slice (cutH a cap k) (n - k) (cap - k)) _ ((HX.out.drop k HK.out.1).below HB.out)).mono ?_
  rintro e w4 ⟨rfl, HB3⟩
  replace HR := Lib.hid (HR.out.below HB3 HR.out.lt)
  replace HB := Lib.hid (HB.out.trans (HB3.mono HB.out.size))
  clear HB3
  refine hK _ _ ?_
  clear hK K
  try simp only [List.getElem_toArray, List.getElem_cons_succ, List.getElem_cons_zero, Act.put, List.setIfInBounds_toArray, List.set_cons_zero, List.set_cons_succ]
  refine wpAny_ready (rs := [8]) (by kernel_rfl) (by simp) ?_; refine AllReady.cons rfl (fun K hK => ?_) AllReady.nil; rw [if_pos (by rfl)]
  try simp only [List.getElem_toArray, List.getElem_cons_succ, List.getElem_cons_zero]
  go_simp
  refine (rnode_any _ _ _).mono ?_
  rintro e w5 ⟨rfl, HB3⟩
  replace HR := Lib.hid (HR.out.below HB3 HR.out.lt)
  replace HB := Lib.hid (HB.out.trans (HB3.mono HB.out.size))
  clear HB3
  refine hK _ _ ?_
  clear hK K
  try simp only [List.getElem_toArray, List.getElem_cons_succ, List.getElem_cons_zero, Act.put, List.setIfInBounds_toArray, List.set_cons_zero, List.set_cons_succ]
  refine wpAny_ready (rs := [9]) (by kernel_rfl) (by simp) ?_; refine AllReady.cons rfl (fun K hK => ?_) AllReady.nil; rw [if_pos (by rfl)]
  refine wp_store_row 23 (.tmp 2) (.tmp 25) rfl w.heap.size _ rfl rfl 23 _ HR.out (by rw [rowOf_size]; kernel_rfl) (by rw [rowOf_size, rowOf_size]) (rowOf_one _ _ _) ?_
  refine hK _ _ ?_
  clear hK K
  try simp only [List.getElem_toArray, List.getElem_cons_succ, List.getElem_cons_zero, Act.put]
  refine wpAny_done (by kernel_rfl) ?_ _
  go_wp2_with (fail)
  refine bodyPost_ret (results_cell_row rfl _ _ w.heap.size 23 _ (0, 0) _ rfl (setRow_heap _ _ _ _ _ _ HR.out) Tryz.underlying23 rfl (by rw [rowOf_size]; kernel_rfl)) rfl ?_
  exact ⟨rfl, below_setRow HB.out (Nat.le_refl _) _⟩
theorem rroot_any : ∀ (n : Nat) (hs : List (Nat → Int)), hs.length = n → ∀ (v : Value) (w : World), HashesIn w v hs →
    Calls Tryz.prog 52 #[v] w fun e w' => e = .returned (.agg (rowOf .u8 32 (rootF hs))) ∧ Below w.heap.size w w' := by
  intro n
  induction n using Nat.strongRecOn with
  | _ n ih =>
    intro hs hl v w hx
    have hx0 := hx
    obtain ⟨a, cap, rfl, hc, hm, _⟩ := hx
    unfold maxLen at hm
    by_cases h0 : n = 0
    · have : hs = [] := List.eq_nil_of_length_eq_zero (by omega)
      subst this
      exact rroot_nil a cap w
    · by_cases h1 : n = 1
      · obtain ⟨h, rfl⟩ : ∃ h, hs = [h] := by
          match hs, hl with
          | [h], _ => exact ⟨h, rfl⟩
          | [], hl => exact absurd hl (by simp; omega)
          | _ :: _ :: _, hl => exact absurd hl (by simp; omega)
        have := rroot_one a cap h w hx0
        rw [rootF_one [h] rfl]
        exact this
      · have sp := splitF_spec hs.length (by omega) (by omega)
        rw [rootF_step hs (by omega) ⟨sp.1, sp.2.1⟩]
        exact rroot_step a hs.length cap (splitF hs.length) hs _ _ w hx0 (by omega) (by omega) hc rfl (by omega)
          (fun v w => ih (splitF hs.length) (by omega) (hs.take (splitF hs.length)) (by rw [List.length_take]; omega) v w)
          (fun v w => ih (hs.length - splitF hs.length) (by omega) (hs.drop (splitF hs.length)) (by rw [List.length_drop]) v w)
end Go.Proofs.YteokgklfljhcaaaGreatDoor
namespace Go.Proofs.YteokgklfljhcaaaGreatDoor
set_option linter.unusedVariables false
set_option linter.unusedSimpArgs false
open Go.RowKit
set_option maxRecDepth 100000
set_option maxHeartbeats 1000000 in
theorem rleaf_any (v : Value) (xs : List Int) (w : World) (hx : BytesIn w v xs) (hl : xs.length + 81 ≤ 140737488355328) :
    Calls Tryz.prog 51 #[v] w fun e w' => e = .returned (.agg (rowOf .u8 32 (sumF (0 :: xs)))) ∧ Below w.heap.size w w' := by
  have HL := Lib.hid hl
  have HB0 := Lib.hid ((below_alloc w (.cells (rowOf .u8 32 (fun _ => 0)) 23)).trans ((below_alloc _ (.cells #[.int .u8 0] 5)).mono (by simp)))
  have HX := Lib.hid (hx.below HB0.out)
  have HR := Lib.hid ((RowAt.new w .u8 32 23 (fun _ => 0)).alloc (.cells #[.int .u8 0] 5))
  have HO := Lib.hid (show ((w.alloc (.cells (rowOf .u8 32 (fun _ => 0)) 23)).alloc (.cells #[.int .u8 0] 5)).ownsRow (w.heap.size + 1) 5 1 (.slice (some ⟨w.heap.size + 1, 0, none⟩) 1 1) 1 [.int .u8 0] by
    have h := World.ownsRow_lit (w := w.alloc (.cells (rowOf .u8 32 (fun _ => 0)) 23)) (base := w.heap.size + 1) (e := 5) (size := 1) #[.int .u8 0] 1 (by simp) (by simp [maxLen]) rfl
    rw [shSize_alloc] at h
    exact h)
  clear hx hl
  go_enter Tryz.func51, Tryz.ntmps51
  go_upto_region 1 with (fail)
  rw [zeros32]
  go_wp2_with (first
    | (at_builtin; refine wpList_append_bytes rfl (.tmp 3) (.tmp 4) rfl rfl (w.heap.size + 1) _ 1 [.int .u8 0] rfl HO.out v xs rfl HX.out (by have := HL.out; omega) (by simp) ?_; intro v' w1 ho hg _; have HX1 := Lib.hid (owns_in (xs := 0 :: xs) (by have h := ho; rw [Nat.add_comm 1 xs.length] at h; exact h) (by have := HL.out; unfold maxLen; simp; omega)); have HB1 := Lib.hid (HB0.out.grown hg HB0.out.size (fun k hk => by have := (HO.out.lt k hk).1; omega)); have HR1 := Lib.hid (show RowAt w1 w.heap.size .u8 32 23 (fun _ => 0) from (hg.block _ HR.out.lt (fun e => by have := (HO.out.lt _ e.symm).1; omega)).trans HR.out); clear ho hg)
    | (go_at_call 54; (with_reducible refine (rsum_any _ _ _ HX1.out (by have := HL.out; simp; omega)).mono ?_); rintro e w2 ⟨rfl, hb⟩; replace HR1 := Lib.hid (HR1.out.below hb HR1.out.lt); replace HB1 := Lib.hid (HB1.out.trans (hb.mono HB1.out.size)); clear hb)
    | (refine wpList_store_row rfl 23 (.tmp 2) (.tmp 6) rfl w.heap.size _ rfl rfl 23 _ HR1.out (by rw [rowOf_size]; kernel_rfl) (by rw [rowOf_size, rowOf_size]) (rowOf_one _ _ _) ?_))
  refine bodyPost_ret (results_cell_row rfl _ _ w.heap.size 23 (rowOf .u8 32 (sumF (0 :: xs))) (0, 0) _ rfl (setRow_heap _ _ _ _ _ _ HR1.out) Tryz.underlying23 rfl (by rw [rowOf_size]; kernel_rfl)) rfl ?_
  exact ⟨rfl, below_setRow HB1.out (Nat.le_refl _) _⟩
end Go.Proofs.YteokgklfljhcaaaGreatDoor
namespace Go.Proofs.YteokgklfljhcaaaGreatDoor
set_option linter.unusedVariables false
set_option linter.unusedSimpArgs false
open Go.RowKit
def flatC (ps : List (Nat → Int)) : List Value := ps.flatMap fun h => (rowOf .u8 32 h).toList
theorem Tryz.info25 : (Tryz.prog.info? 23).map (fun i => (i.zero, i.size, i.bytes)) = some (some (.agg (rowOf .u8 32 (fun _ => 0))), 32, 32) := by kernel_rfl
end Go.Proofs.YteokgklfljhcaaaGreatDoor
namespace Go.Proofs.YteokgklfljhcaaaGreatDoor
set_option linter.unusedVariables false
set_option linter.unusedSimpArgs false
open Go.RowKit
set_option maxRecDepth 100000
theorem flatC_get : ∀ (ps : List (Nat → Int)) (i j : Nat), i < ps.length → j < 32 → (flatC ps)[i * 32 + j]? = (rowOf .u8 32 (ps.getD i zeroH)).toList[j]?
  | [], i, j, h, _ => by simp at h
  | p :: ps, 0, j, _, hj => by
    show ((rowOf .u8 32 p).toList ++ flatC ps)[0 * 32 + j]? = _
    rw [Nat.zero_mul, Nat.zero_add, List.getElem?_append_left (by rw [(rowOf_list _ _ _).2]; exact hj)]; rfl
  | p :: ps, i + 1, j, h, hj => by
    show ((rowOf .u8 32 p).toList ++ flatC ps)[(i + 1) * 32 + j]? = _
    rw [List.getElem?_append_right (by rw [(rowOf_list _ _ _).2]; omega), (rowOf_list _ _ _).2, show (i + 1) * 32 + j - 32 = i * 32 + j by omega, flatC_get ps i j (by simpa using h) hj]; rfl
theorem HashesIn.of_own {w : World} {B : Nat} {r : Value} {ps : List (Nat → Int)} (h : w.ownsRow B 23 32 r ps.length (flatC ps)) : HashesIn w r ps := by
  rcases h.2 with ⟨rfl, h0⟩ | ⟨tb, cap, cur, rfl, _, hh, hc, hm, _⟩
  · exact ⟨none, 0, by rw [h0], by omega, by simp [maxLen], .inl (List.eq_nil_of_length_eq_zero h0)⟩
  · refine ⟨_, cap, rfl, hc, hm, .inr ⟨tb, 0, rfl, (Array.getElem?_eq_some_iff.1 hh).1, fun i hi j u hj => ?_⟩⟩
    have hj32 : j < 32 := by have := (List.getElem?_eq_some_iff.1 hj).1; rw [(rowOf_list _ _ _).2] at this; exact this
    have := h.cells (g := tb) rfl (i * 32 + j) u (by rw [flatC_get ps i j hi hj32]; exact hj)
    rw [Addr.add_mid] at this
    rw [show 0 + i * 32 + j = 0 + (i * 32 + j) by omega]; exact this
theorem HashesIn.len {w : World} {r : Value} {ps : List (Nat → Int)} (h : HashesIn w r ps) : ∃ a cap, r = .slice a ps.length cap := by
  obtain ⟨a, cap, e, _⟩ := h
  exact ⟨a, cap, e⟩
theorem flatC_length (ps : List (Nat → Int)) : (flatC ps).length = ps.length * 32 := by
  induction ps with
  | nil => rfl
  | cons p ps ih =>
    show ((rowOf .u8 32 p).toList ++ flatC ps).length = _
    rw [List.length_append, (rowOf_list _ _ _).2, ih, List.length_cons]; omega
theorem flatC_one (ps : List (Nat → Int)) : ∀ u ∈ flatC ps, u.oneCell' = true := by
  intro u hu
  simp only [flatC, List.mem_flatMap] at hu
  obtain ⟨p, _, hp⟩ := hu
  exact (Array.all_eq_true_iff_forall_mem.1 (rowOf_one _ _ _)) u (by simpa using hp)
/-- append of hashes to a slice of one's own -/
theorem run_append_hashes (w : World) (base : Nat) (v : Value) (n : Nat) (vs : List Value) (hown : w.ownsRow base 23 32 v n vs) (y : Value) (ps : List (Nat → Int)) (hy : HashesIn w y ps) (hl : (n + ps.length) * 32 ≤ 140737488355328) (hb : base ≤ w.heap.size) :
    ∃ v' w', (Builtin.append_ #[82, 82] 82 #[v, y]).run Tryz.prog w = .ok v' w' ∧ w'.ownsRow base 23 32 v' (n + ps.length) (vs ++ flatC ps) ∧ w.grownBy w' v.ownBlock := by
  obtain ⟨i0, hi, hz0, hz1, hz2⟩ := info_parts Tryz.info25
  obtain ⟨a, c, rfl, hc, hm, hx⟩ := hy
  rcases a with _ | ad
  · have hn : ps = [] := by
      rcases hx with hx | ⟨_, _, h, _⟩
      · exact hx
      · cases h
    subst hn
    refine ⟨v, w, ?_, by simpa [flatC] using hown, ⟨rfl, rfl, rfl, Nat.le_refl _, fun _ _ _ => rfl⟩⟩
    rcases hown.2 with ⟨rfl, rfl⟩ | ⟨g, cap, cur, rfl, _, _, hnc, _⟩
    · simp [Builtin.append_, run_underlying Tryz.underlying82, sizeOf, typeInfo, hi, Builtin.lenOf, Builtin.firstCells]
    · simp [Builtin.append_, run_underlying Tryz.underlying82, sizeOf, typeInfo, hi, Builtin.lenOf, Builtin.firstCells, hnc, storeCells]
  · have hcells : ∀ j u, (flatC ps)[j]? = some u → w.cell? (ad.add j) = some u := fun j u hu => by
      rcases hx with rfl | ⟨ab, ao, h, _, hx⟩
      · simp [flatC] at hu
      · injection h with h; subst h
        have hj : j < ps.length * 32 := by have := (List.getElem?_eq_some_iff.1 hu).1; rw [flatC_length] at this; exact this
        have e : j = j / 32 * 32 + j % 32 := by omega
        rw [e, flatC_get ps (j / 32) (j % 32) (by omega) (by omega)] at hu
        have := hx (j / 32) (by omega) (j % 32) u hu
        rw [Addr.add_mid, e, ← Nat.add_assoc]; exact this
    obtain ⟨v', w', hr, h1, h2, _, h4⟩ := run_append_own_at w base 82 82 23 i0 (.agg (rowOf .u8 32 (fun _ => 0))) 32 32 Tryz.underlying82 hi hz0 hz1 hz2 (by simp [Value.cells, rowOf_size]) (by decide) v n vs hown ad ps.length c (flatC ps) (flatC_length ps) hcells (flatC_one ps) (by unfold maxLen; omega) hl hb
    exact ⟨v', w', hr, h1, h2⟩
theorem wpList_append_hashes {w : World} {ops : Array Oper} {rest : List Oper} {o : Oper} {a : Act} {Q : Exit → Act → World → Prop} (hgd : o.guard = none) (s x : Operand)
    (ho : o.op = .call { callee := .builtin .append, args := #[s, x], argTypes := #[82, 82] }) (hty : o.type = 82)
    (base : Nat) (v : Value) (n : Nat) (vs : List Value) (hs : a.eval s = v) (hown : w.ownsRow base 23 32 v n vs) (y : Value) (ps : List (Nat → Int)) (hx : a.eval x = y) (hy : HashesIn w y ps) (hl : (n + ps.length) * 32 ≤ 140737488355328) (hb : base ≤ w.heap.size)
    (h : ∀ v' w', w'.ownsRow base 23 32 v' (n + ps.length) (vs ++ flatC ps) → w.grownBy w' v.ownBlock → wpList Tryz.prog ops Q rest (a.put o.dst v') w') : wpList Tryz.prog ops Q (o :: rest) a w := by
  refine wpList_plain hgd fun K hK => ?_
  obtain ⟨v', w', hr, h1, h2⟩ := run_append_hashes w base v n vs hown y ps hy hl hb
  unfold Oper.wp execOp
  simp only [ho, hty, resolve, invoke, builtin, Sem.run_bind, Sem.run_pure, Result.andThen_ok, List.map_toArray, List.map_cons, List.map_nil, hs, hx, hr]
  exact hK _ _ (h v' w' h1 h2)
theorem HashesIn.at {w : World} {a : Option Addr} {n cap : Nat} {ps : List (Nat → Int)} (h : HashesIn w (.slice a n cap) ps) (k : Nat) (hk : k < ps.length) : ∃ ab ao, a = some ⟨ab, ao, none⟩ ∧ ab < w.heap.size ∧ w.rangeAt ab (ao + k * 32) (rowOf .u8 32 (ps.getD k zeroH)).toList := by
  obtain ⟨a', cap', e, hc, hm, hx⟩ := h
  injection e with e1 e2 e3
  subst e1
  rcases hx with rfl | ⟨ab, ao, rfl, hlt, hx⟩
  · simp at hk
  · exact ⟨ab, ao, rfl, hlt, hx k hk⟩
end Go.Proofs.YteokgklfljhcaaaGreatDoor
namespace Go.Proofs.YteokgklfljhcaaaGreatDoor
set_option linter.unusedVariables false
set_option linter.unusedSimpArgs false
open Go.RowKit
end Go.Proofs.YteokgklfljhcaaaGreatDoor
namespace Go.Proofs.YteokgklfljhcaaaGreatDoor
set_option linter.unusedVariables false
set_option linter.unusedSimpArgs false
open Go.RowKit
/-- r is a slice of the turns ts, apart from block g -/
def TurnsAt (w : World) (g : Nat) (r : Value) (ts : List Bool) : Prop :=
  ∃ a cap, r = .slice a ts.length cap ∧ (ts = [] ∨ ∃ tb, a = some ⟨tb, 0, none⟩ ∧ tb ≠ g ∧ ∀ x b, ts[x]? = some b → w.cell? ⟨tb, x, none⟩ = some (.bool b))
theorem TurnsAt.of_own {w : World} {B : Nat} {r : Value} {ts : List Bool} (h : w.ownsRow B 4 1 r ts.length (ts.map Value.bool)) (g : Nat) (hg : w.heap.size ≤ g) : TurnsAt w g r ts := by
  rcases h.2 with ⟨rfl, h0⟩ | ⟨tb, cap, cur, rfl, _, hh, _⟩
  · exact ⟨none, 0, by rw [h0], .inl (List.eq_nil_of_length_eq_zero h0)⟩
  · refine ⟨_, cap, rfl, .inr ⟨tb, rfl, ?_, fun x b hx => ?_⟩⟩
    · have := (Array.getElem?_eq_some_iff.1 hh).1; omega
    · have := h.cells (g := tb) rfl x (.bool b) (by rw [List.getElem?_map, hx]; rfl)
      rw [Addr.add_mid, Nat.zero_add] at this; exact this
theorem TurnsAt.only {w w' : World} {g : Nat} {r : Value} {ts : List Bool} (h : TurnsAt w g r ts) (ho : Only g w w') : TurnsAt w' g r ts := by
  obtain ⟨a, cap, rfl, hx⟩ := h
  refine ⟨a, cap, rfl, ?_⟩
  rcases hx with hx | ⟨tb, rfl, hne, hx⟩
  · exact .inl hx
  · exact .inr ⟨tb, rfl, hne, fun x b hb => ho.cell (hx x b hb) hne⟩
/-- what Fold knows of memory -/
structure FoldM (w wr : World) (g : Nat) (r : Value) (ts : List Bool) (s : Nat → Int) : Prop where
  res : RowAt wr (w.heap.size + 1) .u8 32 23 (fun _ => 0)
  sum : RowAt wr g .u8 32 23 s
  gg : w.heap.size + 1 < g
  turns : TurnsAt wr g r ts
  below : Below w.heap.size w wr
  env : Env wr
  lo : 2 < w.heap.size
theorem FoldM.only {w wr w2 : World} {g : Nat} {r : Value} {ts : List Bool} {s s' : Nat → Int} (m : FoldM w wr g r ts s) (ho : Only g wr w2) (hs : RowAt w2 g .u8 32 23 s') : FoldM w w2 g r ts s' :=
  ⟨(ho.block _ m.res.lt (by have := m.gg; omega)).trans m.res, hs, m.gg, m.turns.only ho, m.below.trans (ho.below (by have := m.gg; omega) m.below.size), ho.env m.env (by have := m.gg; have := m.lo; omega), m.lo⟩
theorem FoldM.calls {w wr w2 : World} {g : Nat} {r : Value} {ts : List Bool} {s : Nat → Int} (m : FoldM w wr g r ts s) (hb : Below wr.heap.size wr w2) : FoldM w w2 g r ts s :=
  m.only (Only.of_below hb) (m.sum.below hb m.sum.lt)
end Go.Proofs.YteokgklfljhcaaaGreatDoor
namespace Go.Proofs.YteokgklfljhcaaaGreatDoor
set_option linter.unusedVariables false
set_option linter.unusedSimpArgs false
open Go.RowKit
set_option maxRecDepth 100000
theorem build32s (f : Nat → Int) : Array.foldl (fun (cs : Array Value) (x : Value × Nat) => cs.setIfInBounds x.snd x.fst) #[Value.int IntKind.u8 0, Value.int IntKind.u8 0, Value.int IntKind.u8 0, Value.int IntKind.u8 0, Value.int IntKind.u8 0, Value.int IntKind.u8 0, Value.int IntKind.u8 0, Value.int IntKind.u8 0, Value.int IntKind.u8 0, Value.int IntKind.u8 0, Value.int IntKind.u8 0, Value.int IntKind.u8 0, Value.int IntKind.u8 0, Value.int IntKind.u8 0, Value.int IntKind.u8 0, Value.int IntKind.u8 0, Value.int IntKind.u8 0, Value.int IntKind.u8 0, Value.int IntKind.u8 0, Value.int IntKind.u8 0, Value.int IntKind.u8 0, Value.int IntKind.u8 0, Value.int IntKind.u8 0, Value.int IntKind.u8 0, Value.int IntKind.u8 0, Value.int IntKind.u8 0, Value.int IntKind.u8 0, Value.int IntKind.u8 0, Value.int IntKind.u8 0, Value.int IntKind.u8 0, Value.int IntKind.u8 0, Value.int IntKind.u8 0] ((rowOf IntKind.u8 32 f).zipIdx 0) 0 32 = rowOf .u8 32 f := by kernel_rfl
end Go.Proofs.YteokgklfljhcaaaGreatDoor
