/- Part 24 of the proof. -/
import Derived.Test.YtjnpcmfpiejmjaaGreatDoorVo23
namespace Go.Proofs.YtjnpcmfpiejmjaaGreatDoor
set_option linter.unusedVariables false
set_option linter.unusedSimpArgs false
open Go.RowKit
set_option maxRecDepth 100000
set_option maxHeartbeats 1000000 in
theorem wfrom_no (vs : Value) (leaf : Int) (a : Option Addr) (n cap : Nat) (w : World) (h : ¬ (0 ≤ leaf ∧ leaf < 1024 ∧ 1 ≤ n ∧ n ≤ 32)) :
    Calls Tryz.prog 175 #[vs, .int .i64 leaf, .slice a n cap] w fun e w' => e = .returned noV ∧ Below w.heap.size w w' := by
  unfold noV
  have HB := Lib.hid (below_alloc w (.cells (rowOf .u8 32 zF) 32))
  have HR0 := Lib.hid (RowAt.new w .u8 32 32 zF)
  by_cases hl : 0 ≤ leaf ∧ leaf < 1024
  · have hn : (n : Int) < 1 ∨ 32 < (n : Int) := by omega
    replace hl := Lib.hid hl
    replace hn := Lib.hid hn
    clear h
    go_enter Tryz.func175, Tryz.ntmps175
    go_upto_region 1 with (fail)
    rw [zeros32']
    generalize w.alloc (.cells (rowOf .u8 32 zF) 32) = w1 at *
    go_wp2_with (first
      | (go_at_call 191; (with_reducible refine (wleaf_ok leaf _ hl.out.1 hl.out.2).mono ?_); rintro e w' ⟨rfl, rfl⟩)
      | (go_at_call 190; (with_reducible refine (wlen_no n _ hn.out).mono ?_); rintro e w' ⟨rfl, rfl⟩)
      | (refine wpList_store_row rfl 32 (.tmp 6) (.tmp 22) rfl w.heap.size (rowOf .u8 32 zF) rfl rfl 32 _ HR0.out (by rw [rowOf_size]; kernel_rfl) rfl (rowOf_one _ _ _) ?_))
    refine bodyPost_ret (results_cell_tmp_row rfl _ _ w.heap.size 32 (rowOf .u8 32 zF) (0, 0) _ rfl (setRow_heap _ _ _ _ _ _ HR0.out) Tryz.underlying32 rfl (by rw [rowOf_size]; kernel_rfl)) rfl ?_
    exact ⟨rfl, below_setRow HB.out (Nat.le_refl _) _⟩
  · have hl' : leaf < 0 ∨ 1024 ≤ leaf := by omega
    replace hl := Lib.hid hl'
    clear h hl'
    go_enter Tryz.func175, Tryz.ntmps175
    go_upto_region 1 with (fail)
    rw [zeros32']
    generalize w.alloc (.cells (rowOf .u8 32 zF) 32) = w1 at *
    go_wp2_with (first
      | (go_at_call 191; (with_reducible refine (wleaf_no leaf _ hl.out).mono ?_); rintro e w' ⟨rfl, rfl⟩)
      | (refine wpList_store_row rfl 32 (.tmp 6) (.tmp 22) rfl w.heap.size (rowOf .u8 32 zF) rfl rfl 32 _ HR0.out (by rw [rowOf_size]; kernel_rfl) rfl (rowOf_one _ _ _) ?_))
    refine bodyPost_ret (results_cell_tmp_row rfl _ _ w.heap.size 32 (rowOf .u8 32 zF) (0, 0) _ rfl (setRow_heap _ _ _ _ _ _ HR0.out) Tryz.underlying32 rfl (by rw [rowOf_size]; kernel_rfl)) rfl ?_
    exact ⟨rfl, below_setRow HB.out (Nat.le_refl _) _⟩
def longV : Value := .tuple #[.agg (rowOf .u8 32 zF), errV (some 2)]
set_option maxHeartbeats 1000000 in
theorem wfrom_long (sa : Option Addr) (ns cs : Nat) (leaf : Int) (a : Option Addr) (n cap : Nat) (w : World) (h : 0 ≤ leaf ∧ leaf < 1024) (hn : 1 ≤ n ∧ n ≤ 32) (hne : ns ≠ 32 * (2 * n + 3)) :
    Calls Tryz.prog 175 #[.slice sa ns cs, .int .i64 leaf, .slice a n cap] w fun e w' => e = .returned longV ∧ Below w.heap.size w w' := by
  unfold longV
  have HB := Lib.hid (below_alloc w (.cells (rowOf .u8 32 zF) 32))
  have HR0 := Lib.hid (RowAt.new w .u8 32 32 zF)
  have hl := Lib.hid h
  have HN := Lib.hid hn
  have hn0 : ¬ (2 * (n : Int) + 3 = 0) := by omega
  have hnb := hn.2
  have hne1 : ((ns : Int) != 32 * (2 * (n : Int) + 3)) = true := by simp; omega
  clear h hn hne
  go_enter Tryz.func175, Tryz.ntmps175
  go_upto_region 1 with (fail)
  rw [zeros32']
  generalize w.alloc (.cells (rowOf .u8 32 zF) 32) = w1 at *
  go_wp2_with (first
    | (go_at_call 191; (with_reducible refine (wleaf_ok leaf _ hl.out.1 hl.out.2).mono ?_); rintro e w' ⟨rfl, rfl⟩)
    | (go_at_call 190; (with_reducible refine (wlen_ok n _ HN.out.1 HN.out.2).mono ?_); rintro e w' ⟨rfl, rfl⟩)
    | (refine wpList_store_row rfl 32 (.tmp 6) (.tmp 31) rfl w.heap.size (rowOf .u8 32 zF) rfl rfl 32 _ HR0.out (by rw [rowOf_size]; kernel_rfl) rfl (rowOf_one _ _ _) ?_))
  refine bodyPost_ret (results_cell_tmp_row rfl _ _ w.heap.size 32 (rowOf .u8 32 zF) (0, 0) _ rfl (setRow_heap _ _ _ _ _ _ HR0.out) Tryz.underlying32 rfl (by rw [rowOf_size]; kernel_rfl)) rfl ?_
  exact ⟨rfl, below_setRow HB.out (Nat.le_refl _) _⟩
theorem arrayAt32 (a : Addr) (cap : Nat) (w : World) : (Instr.arrayAt 32 (.slice (some a) 32 cap)).run Tryz.prog w = .ok (.pointer (some a)) w := by
  simp [Instr.arrayAt, run_underlying Tryz.underlying32]
theorem sliceS (sb so ns cs k : Nat) (h1 : 32 * (k + 1) ≤ ns) (h2 : ns ≤ cs) (w : World) : (Instr.slice 23 (.slice (some ⟨sb, so, none⟩) ns cs) (some (.int .i64 (32 * (k : Int)))) (some (.int .i64 (32 * ((k : Int) + 1)))) none).run Tryz.prog w = .ok (.slice (some ⟨sb, so + 32 * k, none⟩) 32 (cs - 32 * k)) w := by
  have h := sliceBlh (some ⟨sb, so, none⟩) ns cs (32 * k) (32 * (k + 1)) (by omega) (by omega) w
  unfold cutA at h
  rw [if_neg (by omega)] at h
  simp only [Option.map_some] at h
  rw [Addr.add_mid, show 32 * (k + 1) - 32 * k = 32 by omega, show ((32 * k : Nat) : Int) = 32 * (k : Int) by omega, show ((32 * (k + 1) : Nat) : Int) = 32 * ((k : Int) + 1) by omega] at h
  exact h
theorem seg_range {w : World} {sb so k : Nat} {ss : List Int} (h : ∀ i x, ss[i]? = some x → w.cell? ⟨sb, so + i, none⟩ = some (.int .u8 x)) (hl : 32 * (k + 1) ≤ ss.length) :
    w.rangeAt sb (so + 32 * k) ((List.range 32).map fun i => Value.int .u8 (((ss.drop (32 * k)).take 32).getD i 0)) := fun j v hj => by
  simp only [List.getElem?_map] at hj
  rcases Nat.lt_or_ge j 32 with h1 | h1
  · rw [List.getElem?_range h1] at hj
    cases hj
    have e : ss[32 * k + j]? = some (((ss.drop (32 * k)).take 32).getD j 0) := by
      have h2 : 32 * k + j < ss.length := by omega
      rw [List.getElem?_eq_getElem h2]
      simp [List.getD, List.getElem?_take, h1, List.getElem?_drop, List.getElem?_eq_getElem h2]
    have := h _ _ e
    rw [Nat.add_assoc]; exact this
  · rw [List.getElem?_eq_none (by simpa using h1)] at hj; cases hj
set_option maxHeartbeats 4000000 in
theorem wfrom_ok (vs : Value) (ss : List Int) (leaf : Int) (v : Value) (xs : List Int) (w : World) (he : Env w) (h : 0 ≤ leaf ∧ leaf < 1024) (hs : BytesIn w vs ss) (hx : BytesIn w v xs) (hb : bytesOk xs) (hn : 1 ≤ xs.length ∧ xs.length ≤ 32) (hsl : ss.length = 32 * (2 * xs.length + 3)) :
    Calls Tryz.prog 175 #[vs, .int .i64 leaf, v] w fun e w' => e = .returned (okV (fromF ss leaf xs)) ∧ Below w.heap.size w w' := by
  unfold okV
  have M := Lib.hid (hasR1 w zF he)
  have HX := Lib.hid (hx.below (below_alloc w (.cells (rowOf .u8 32 zF) 32)))
  have HSI := Lib.hid (hs.below (below_alloc w (.cells (rowOf .u8 32 zF) 32)))
  have hl := Lib.hid h
  have HN := Lib.hid hn
  have HBO := Lib.hid hb
  obtain ⟨a, cap, rfl, -, -, -⟩ := hx
  obtain ⟨sa, scap, rfl, -, -, -⟩ := hs
  obtain ⟨n, hnn⟩ : ∃ n, n = xs.length := ⟨_, rfl⟩
  obtain ⟨ns, hns⟩ : ∃ ns, ns = ss.length := ⟨_, rfl⟩
  rw [← hnn] at HN HX hn hsl ⊢
  rw [← hns] at HSI hsl ⊢
  replace hnn := Lib.hid hnn
  replace hns := Lib.hid hns
  have hn0 : ¬ (2 * (n : Int) + 3 = 0) := by omega
  have hnb := hn.2
  have hne1 : ((ns : Int) != 32 * (2 * (n : Int) + 3)) = false := by simp; omega
  have HSL := Lib.hid hsl
  clear he h hn hb hsl
  go_enter Tryz.func175, Tryz.ntmps175
  go_upto_region 1 with (fail)
  rw [zeros32']
  generalize w.alloc (.cells (rowOf .u8 32 zF) 32) = w1 at *
  go_upto_region 6 with (first
    | (go_at_call 191; (with_reducible refine (wleaf_ok leaf _ hl.out.1 hl.out.2).mono ?_); rintro e w' ⟨rfl, rfl⟩)
    | (go_at_call 190; (with_reducible refine (wlen_ok n _ HN.out.1 HN.out.2).mono ?_); rintro e w' ⟨rfl, rfl⟩))
  clear hne1 hn0
  go_wp2_with (go_at_call 192; (with_reducible refine (wdigits_ok _ xs _ HX.out HBO.out (by rw [← hnn.out]; exact HN.out.1) (by rw [← hnn.out]; exact HN.out.2)).mono ?_); rintro e w2 ⟨vd, rfl, ho, hb2⟩; obtain ⟨ad, cd, rfl, -, -, hcell⟩ := owns_ints ho (by rw [natInts_length, digF_length, ← hnn.out]; unfold maxLen; have := HN.out; omega); have HC := Lib.hid hcell; replace HSI := Lib.hid (HSI.out.below hb2); replace M := Lib.hid (M.out.call hb2); have H0 := Lib.hid M.out.below; have HW2 := Lib.hid M.out.at0.lt; replace M := Lib.hid M.out.mark; have R := Lib.hid (World.ownsRow_nil w2 w2.heap.size 5 1); clear hcell ho hb2)
  obtain ⟨L, hL⟩ : ∃ L, L = digF xs := ⟨_, rfl⟩
  have HL := Lib.hid hL
  have HLE := Lib.hid (show ∀ d ∈ L, d ≤ 15 by rw [hL]; exact digF_le HBO.out (by rw [← hnn.out]; exact HN.out.2))
  rw [← hL] at HC ⊢
  obtain ⟨N, hN⟩ : ∃ N, N = (natInts L).length := ⟨_, rfl⟩
  have HNL := Lib.hid (show L.length = N by rw [hN, natInts_length])
  have HN3 := Lib.hid (show N = 2 * n + 3 by rw [← HNL.out, HL.out, digF_length, ← hnn.out])
  rw [← hN]
  clear hL hN
  have hN67 : N ≤ 67 := by have := HN3.out; have := HN.out; omega
  replace HC := HC.out
  rcases HC with h0 | ⟨gb, go, rfl, hcell⟩
  · exfalso
    have h1 := natInts_length L
    rw [h0] at h1
    have h2 := HNL.out
    have h3 := HN3.out
    simp at h1
    omega
  have HC := Lib.hid hcell
  clear hcell
  have hsi := HSI.out
  obtain ⟨sa', scap', e, hsc, hsm, hcell⟩ := hsi
  injection e with e1 e2 e3
  subst e1 e3
  clear e2
  rcases hcell with h0 | ⟨sb, so, rfl, hcell⟩
  · exfalso
    have h1 := HSL.out
    have h2 := hns.out
    rw [h0] at h2
    simp at h2
    omega
  have HSC := Lib.hid hcell
  have HSM := Lib.hid (show ns ≤ scap by rw [hns.out]; exact hsc)
  clear hcell hsc hsm
  go_loopw [8, 36] (fun s i wr => ∃ k : Nat, k ≤ N ∧ i = .int .i64 (k : Int) ∧ Hid (HasR w2 wr w2.heap.size [(w.heap.size, zF)]) ∧ Hid (wr.ownsRow w2.heap.size 5 1 s (endsF leaf 0 (L.take k) ss).length (byteVals (endsF leaf 0 (L.take k) ss)))) (fun _ i _ => N - (intOf i).toNat)
  case atStart => exact ⟨0, Nat.zero_le _, rfl, M, by rw [List.take_zero]; exact R⟩
  case round =>
    clear M R
    obtain ⟨k, hk, rfl, M, R⟩ := hrel
    by_cases hlt : k < N
    · obtain ⟨d, hd⟩ : ∃ d, L[k]? = some d := ⟨_, List.getElem?_eq_getElem (by rw [HNL.out]; exact hlt)⟩
      have hd15 := HLE.out d (List.mem_of_getElem? hd)
      have HCS := Lib.hid (endsF_snoc leaf L k d ss hd)
      have HLN := Lib.hid (show (endsF leaf 0 (L.take k) ss).length ≤ 32 * 67 by rw [endsF_length, List.length_take]; omega)
      have h0 := HC.out k (d : Int) (nat_get L k d hd)
      have c0 := M.out.below.cell (p := ⟨gb, go + k, none⟩) (World.block_lt_of_cell? w2 _ h0)
      rw [h0] at c0
      clear h0
      replace hd := Lib.hid hd
      have hk32 : 32 * (k + 1) ≤ ns := by have := HSL.out; have := HN3.out; omega
      have hslc := sliceS sb so ns scap k hk32 HSM.out
      have haa := arrayAt32 ⟨sb, so + 32 * k, none⟩ (scap - 32 * k)
      have HSR := Lib.hid (seg_range (k := k) (fun i x hi => (M.out.below.cell (p := ⟨sb, so + i, none⟩) (World.block_lt_of_cell? w2 _ (HSC.out i x hi))).trans (HSC.out i x hi)) (by rw [← hns.out]; exact hk32))
      obtain ⟨f, hf⟩ : ∃ f : Nat → Int, f = fun i => ((ss.drop (32 * k)).take 32).getD i 0 := ⟨_, rfl⟩
      replace HSR : Hid (wr.rangeAt sb (so + 32 * k) ((List.range 32).map fun i => Value.int .u8 (f i))) := by rw [hf]; exact HSR
      replace HCS : Hid (endsF leaf 0 (L.take (k + 1)) ss = endsF leaf 0 (L.take k) ss ++ rowL 32 (stepF f leaf (k : Int) (d : Int) 15)) := by rw [hf]; exact HCS
      clear hf
      obtain ⟨l, hl2⟩ : ∃ l, l = endsF leaf 0 (L.take k) ss := ⟨_, rfl⟩
      rw [← hl2] at HCS HLN R
      replace hl2 := Lib.hid hl2
      go_wp2_with (first
        | (refine wpList_load_mid rfl 32 (.tmp 48) rfl sb (so + 32 * k) rfl ((List.range 32).map fun i => Value.int .u8 (f i)) _ HSR.out Tryz.underlying32 rfl (by rw [List.length_map, List.length_range]; kernel_rfl) ?_)
        | (refine wpList_store_row rfl 32 (.tmp 11) (.tmp 49) rfl wr.heap.size (rowOf .u8 32 f) rfl rfl 32 _ (heap_alloc_new _ _) (by rw [rowOf_size]; kernel_rfl) rfl (rowOf_one _ _ _) ?_; rw [World.setRow_alloc_new]; have HR1 := Lib.hid (RowAt.new wr .u8 32 32 f); have HA := Lib.hid (below_alloc wr (.cells (rowOf .u8 32 f) 32)); replace R := Lib.hid (wkept_below R.out HA.out); replace M := Lib.hid (M.out.call HA.out); clear HA; generalize wr.alloc (.cells (rowOf .u8 32 f) 32) = w3 at *)
        | (refine wpList_load_row rfl 32 (.tmp 11) rfl wr.heap.size rfl 32 _ (0, 0) _ HR1.out Tryz.underlying32 rfl (by rw [rowOf_size]; kernel_rfl) ?_)
        | (go_at_call 193; (with_reducible refine (wstep_any f leaf (k : Int) (d : Int) 15 _ M.out.env).mono ?_); rintro e w4 ⟨rfl, HB3⟩; replace R := Lib.hid (wkept_below R.out HB3); replace M := Lib.hid (M.out.call HB3); clear HB3)
        | (refine wpList_store_row rfl 32 (.tmp 12) (.tmp 54) rfl w4.heap.size (rowOf .u8 32 (stepF f leaf (k : Int) (d : Int) 15)) rfl rfl 32 _ (heap_alloc_new _ _) (by rw [rowOf_size]; kernel_rfl) rfl (rowOf_one _ _ _) ?_; rw [World.setRow_alloc_new]; have HR := Lib.hid (RowAt.new w4 .u8 32 32 (stepF f leaf (k : Int) (d : Int) 15)); have HA := Lib.hid (below_alloc w4 (.cells (rowOf .u8 32 (stepF f leaf (k : Int) (d : Int) 15)) 32)); replace R := Lib.hid (wkept_below R.out HA.out); replace M := Lib.hid (M.out.call HA.out); clear HA; generalize w4.alloc (.cells (rowOf .u8 32 (stepF f leaf (k : Int) (d : Int) 15)) 32) = w5 at *)
        | (at_builtin; refine wpList_append_bytes rfl (.tmp 55) (.tmp 56) rfl rfl w2.heap.size _ l.length (byteVals l) rfl R.out _ (rowL 32 (stepF f leaf (k : Int) (d : Int) 15)) rfl (row_in HR.out (Nat.le_refl _) (Nat.le_refl _) (by simp [maxLen])) (by have := HLN.out; rw [rowL32]; omega) M.out.size ?_; intro v6 w6 ho hg _; replace M := Lib.hid (M.out.grown hg R.out); replace R := Lib.hid ho; clear ho hg))
      go_roundw
      case rel =>
        refine ⟨k + 1, by omega, by go_num, M, ?_⟩
        rw [HCS.out, List.length_append, byteVals_append]
        exact R
      case measure => simp [intOf]; omega
    · have HE := Lib.hid (show L.take k = L by rw [show k = L.length by rw [HNL.out]; omega, List.take_length])
      rw [HE.out, HL.out] at R
      clear HE
      have HXX := Lib.hid (owns_in R.out (by rw [endsF_length, digF_length, ← hnn.out]; unfold maxLen; omega))
      go_wp2_with (first
        | (go_at_call 61; (with_reducible refine (leaf_any _ _ _ HXX.out M.out.env).mono ?_); rintro e w3 ⟨rfl, HB2⟩; replace M := Lib.hid (M.out.call HB2); clear HB2)
        | (refine wpList_store_row rfl 32 (.tmp 6) (.tmp 60) rfl w.heap.size _ rfl rfl 32 _ M.out.at0 (by rw [rowOf_size]; kernel_rfl) (by rw [rowOf_size, rowOf_size]) (rowOf_one _ _ _) ?_))
      refine bodyPost_ret (results_cell_tmp_row rfl _ _ w.heap.size 32 (rowOf .u8 32 (fromF ss leaf xs)) (0, 0) _ rfl (setRow_heap _ _ _ _ _ _ M.out.at0) Tryz.underlying32 rfl (by rw [rowOf_size]; kernel_rfl)) rfl ?_
      exact ⟨rfl, below_setRow (H0.out.trans (M.out.below.mono H0.out.size)) (Nat.le_refl _) _⟩
end Go.Proofs.YtjnpcmfpiejmjaaGreatDoor
