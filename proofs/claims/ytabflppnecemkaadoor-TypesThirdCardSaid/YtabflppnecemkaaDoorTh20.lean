/- Part 20 of the proof. -/
import Derived.BigFrame
import Derived.Test.YtabflppnecemkaaDoorTh3
import Derived.Test.YtabflppnecemkaaDoorTh5
import Derived.Test.YtabflppnecemkaaDoorTh19
namespace Go.Proofs.YtabflppnecemkaaDoor
set_option linter.unusedVariables false
set_option linter.unusedSimpArgs false
open Go.RowKit
set_option maxRecDepth 100000
theorem lack2 (s a b : Nat) (ha : a ≤ 15) (hb : b ≤ 15) : (s : Int) + 30 - a - b = ((s + (15 - a) + (15 - b) : Nat) : Int) := by omega
theorem lacks_two (l : List Nat) (a b : Nat) : lacks (l ++ [a, b]) = lacks l + (15 - a) + (15 - b) := by rw [lacks_append]; simp [lacks]; omega
end Go.Proofs.YtabflppnecemkaaDoor
namespace Go.Proofs.YtabflppnecemkaaDoor
set_option linter.unusedVariables false
set_option linter.unusedSimpArgs false
open Go.RowKit
set_option maxRecDepth 100000
theorem has2_startz (w : World) (v : Nat → Int) : Has2 w ((w.alloc (.cells (rowOf .u8 32 v) 28)).alloc (.cells (rowOf .u8 32 zF) 28)) w.heap.size (w.heap.size + 1) (w.heap.size + 1 + 1) v := has2_start w v
end Go.Proofs.YtabflppnecemkaaDoor
namespace Go.Proofs.YtabflppnecemkaaDoor
set_option linter.unusedVariables false
set_option linter.unusedSimpArgs false
open Go.RowKit
set_option maxRecDepth 100000
structure SgM (w2 w' : World) (b : Nat) (f : Nat → Int) (gb go : Nat) (L : List Nat) (s : Value) (l : List Int) : Prop where
  below : Below w2.heap.size w2 w'
  val : RowAt w' b .u8 32 28 f
  hb : b < w2.heap.size
  hg : gb < w2.heap.size
  cells : ∀ i x, (natInts L)[i]? = some x → w'.cell? ⟨gb, go + i, none⟩ = some (.int .i64 x)
  bytes : BytesIn w' s l
theorem SgM.calls {w2 w' w3 : World} {b : Nat} {f : Nat → Int} {gb go : Nat} {L : List Nat} {s : Value} {l : List Int} (m : SgM w2 w' b f gb go L s l) (h : Below w'.heap.size w' w3) : SgM w2 w3 b f gb go L s l :=
  ⟨m.below.trans (h.mono m.below.size), m.val.below h m.val.lt, m.hb, m.hg, fun i x hi => (h.cell (p := ⟨gb, go + i, none⟩) (World.block_lt_of_cell? w' _ (m.cells i x hi))).trans (m.cells i x hi), m.bytes.below h⟩
theorem SgM.with {w2 w' : World} {b : Nat} {f : Nat → Int} {gb go : Nat} {L : List Nat} {s s' : Value} {l l' : List Int} (m : SgM w2 w' b f gb go L s l) (h : BytesIn w' s' l') : SgM w2 w' b f gb go L s' l' := ⟨m.below, m.val, m.hb, m.hg, m.cells, h⟩
end Go.Proofs.YtabflppnecemkaaDoor
namespace Go.Proofs.YtabflppnecemkaaDoor
set_option linter.unusedVariables false
set_option linter.unusedSimpArgs false
open Go.RowKit
set_option maxRecDepth 100000
set_option maxHeartbeats 1000000 in
theorem wfrom_no (vs : Value) (leaf : Int) (a : Option Addr) (n cap : Nat) (w : World) (h : ¬ (0 ≤ leaf ∧ leaf < 1024 ∧ 1 ≤ n ∧ n ≤ 32)) :
    Calls Tryd.prog 93 #[vs, .int .i64 leaf, .slice a n cap] w fun e w' => e = .returned noV ∧ Below w.heap.size w w' := by
  unfold noV
  have HB := Lib.hid (below_alloc w (.cells (rowOf .u8 32 zF) 28))
  have HR0 := Lib.hid (RowAt.new w .u8 32 28 zF)
  by_cases hl : 0 ≤ leaf ∧ leaf < 1024
  · have hn : (n : Int) < 1 ∨ 32 < (n : Int) := by omega
    replace hl := Lib.hid hl
    replace hn := Lib.hid hn
    clear h
    go_enter Tryd.func93, Tryd.ntmps93
    go_upto_region 1 with (fail)
    rw [zeros32']
    generalize w.alloc (.cells (rowOf .u8 32 zF) 28) = w1 at *
    go_wp2_with (first
      | (go_at_call 101; (with_reducible refine (wleaf_ok leaf _ hl.out.1 hl.out.2).mono ?_); rintro e w' ⟨rfl, rfl⟩)
      | (go_at_call 97; (with_reducible refine (wlen_no n _ hn.out).mono ?_); rintro e w' ⟨rfl, rfl⟩)
      | (refine wpList_store_row rfl 28 (.tmp 6) (.tmp 22) rfl w.heap.size (rowOf .u8 32 zF) rfl rfl 28 _ HR0.out (by rw [rowOf_size]; kernel_rfl) rfl (rowOf_one _ _ _) ?_))
    refine bodyPost_ret (results_cell_tmp_row rfl _ _ w.heap.size 28 (rowOf .u8 32 zF) (0, 0) _ rfl (setRow_heap _ _ _ _ _ _ HR0.out) Tryd.underlying28 rfl (by rw [rowOf_size]; kernel_rfl)) rfl ?_
    exact ⟨rfl, below_setRow HB.out (Nat.le_refl _) _⟩
  · have hl' : leaf < 0 ∨ 1024 ≤ leaf := by omega
    replace hl := Lib.hid hl'
    clear h hl'
    go_enter Tryd.func93, Tryd.ntmps93
    go_upto_region 1 with (fail)
    rw [zeros32']
    generalize w.alloc (.cells (rowOf .u8 32 zF) 28) = w1 at *
    go_wp2_with (first
      | (go_at_call 101; (with_reducible refine (wleaf_no leaf _ hl.out).mono ?_); rintro e w' ⟨rfl, rfl⟩)
      | (refine wpList_store_row rfl 28 (.tmp 6) (.tmp 22) rfl w.heap.size (rowOf .u8 32 zF) rfl rfl 28 _ HR0.out (by rw [rowOf_size]; kernel_rfl) rfl (rowOf_one _ _ _) ?_))
    refine bodyPost_ret (results_cell_tmp_row rfl _ _ w.heap.size 28 (rowOf .u8 32 zF) (0, 0) _ rfl (setRow_heap _ _ _ _ _ _ HR0.out) Tryd.underlying28 rfl (by rw [rowOf_size]; kernel_rfl)) rfl ?_
    exact ⟨rfl, below_setRow HB.out (Nat.le_refl _) _⟩
def longV : Value := .tuple #[.agg (rowOf .u8 32 zF), errV (some 2)]
set_option maxHeartbeats 1000000 in
theorem wfrom_long (sa : Option Addr) (ns cs : Nat) (leaf : Int) (a : Option Addr) (n cap : Nat) (w : World) (h : 0 ≤ leaf ∧ leaf < 1024) (hn : 1 ≤ n ∧ n ≤ 32) (hne : ns ≠ 32 * (2 * n + 3)) :
    Calls Tryd.prog 93 #[.slice sa ns cs, .int .i64 leaf, .slice a n cap] w fun e w' => e = .returned longV ∧ Below w.heap.size w w' := by
  unfold longV
  have HB := Lib.hid (below_alloc w (.cells (rowOf .u8 32 zF) 28))
  have HR0 := Lib.hid (RowAt.new w .u8 32 28 zF)
  have hl := Lib.hid h
  have HN := Lib.hid hn
  have hn0 : ¬ (2 * (n : Int) + 3 = 0) := by omega
  have hnb := hn.2
  have hne1 : ((ns : Int) != 32 * (2 * (n : Int) + 3)) = true := by simp; omega
  clear h hn hne
  go_enter Tryd.func93, Tryd.ntmps93
  go_upto_region 1 with (fail)
  rw [zeros32']
  generalize w.alloc (.cells (rowOf .u8 32 zF) 28) = w1 at *
  go_wp2_with (first
    | (go_at_call 101; (with_reducible refine (wleaf_ok leaf _ hl.out.1 hl.out.2).mono ?_); rintro e w' ⟨rfl, rfl⟩)
    | (go_at_call 97; (with_reducible refine (wlen_ok n _ HN.out.1 HN.out.2).mono ?_); rintro e w' ⟨rfl, rfl⟩)
    | (refine wpList_store_row rfl 28 (.tmp 6) (.tmp 31) rfl w.heap.size (rowOf .u8 32 zF) rfl rfl 28 _ HR0.out (by rw [rowOf_size]; kernel_rfl) rfl (rowOf_one _ _ _) ?_))
  refine bodyPost_ret (results_cell_tmp_row rfl _ _ w.heap.size 28 (rowOf .u8 32 zF) (0, 0) _ rfl (setRow_heap _ _ _ _ _ _ HR0.out) Tryd.underlying28 rfl (by rw [rowOf_size]; kernel_rfl)) rfl ?_
  exact ⟨rfl, below_setRow HB.out (Nat.le_refl _) _⟩
theorem arrayAt32 (a : Addr) (cap : Nat) (w : World) : (Instr.arrayAt 28 (.slice (some a) 32 cap)).run Tryd.prog w = .ok (.pointer (some a)) w := by
  simp [Instr.arrayAt, run_underlying Tryd.underlying28]
theorem sliceS (sb so ns cs k : Nat) (h1 : 32 * (k + 1) ≤ ns) (h2 : ns ≤ cs) (w : World) : (Instr.slice 37 (.slice (some ⟨sb, so, none⟩) ns cs) (some (.int .i64 (32 * (k : Int)))) (some (.int .i64 (32 * ((k : Int) + 1)))) none).run Tryd.prog w = .ok (.slice (some ⟨sb, so + 32 * k, none⟩) 32 (cs - 32 * k)) w := by
  have h := sliceBlh (some ⟨sb, so, none⟩) ns cs (32 * k) (32 * (k + 1)) (by omega) (by omega) w
  unfold cutA at h
  rw [if_neg (by omega)] at h
  simp only [Option.map_some] at h
  rw [Addr.add_mid, show 32 * (k + 1) - 32 * k = 32 by omega, show ((32 * k : Nat) : Int) = 32 * (k : Int) by omega, show ((32 * (k + 1) : Nat) : Int) = 32 * ((k : Int) + 1) by omega] at h
  exact h
theorem seg_range {w : World} {sb so k : Nat} {ss : List Int} (h : ∀ i x, ss[i]? = some x → w.cell? ⟨sb, so + i, none⟩ = some (.int .u8 x)) (hl : 32 * (k + 1) ≤ ss.length) :
    w.rangeAt sb (so + 32 * k) ((List.range 32).map fun i => Value.int .u8 (((ss.drop (32 * k)).take 32).getD i 0)) := fun j v hj => by
  simp only [List.getElem?_map] at hj
  rcases Nat.lt_or_ge j 32 with h1 | h1
  · rw [List.getElem?_range h1] at hj
    cases hj
    have e : ss[32 * k + j]? = some (((ss.drop (32 * k)).take 32).getD j 0) := by
      have h2 : 32 * k + j < ss.length := by omega
      rw [List.getElem?_eq_getElem h2]
      simp [List.getD, List.getElem?_take, h1, List.getElem?_drop, List.getElem?_eq_getElem h2]
    have := h _ _ e
    rw [Nat.add_assoc]; exact this
  · rw [List.getElem?_eq_none (by simpa using h1)] at hj; cases hj
set_option maxHeartbeats 4000000 in
theorem wfrom_ok (vs : Value) (ss : List Int) (leaf : Int) (v : Value) (xs : List Int) (w : World) (he : Env w) (h : 0 ≤ leaf ∧ leaf < 1024) (hs : BytesIn w vs ss) (hx : BytesIn w v xs) (hb : bytesOk xs) (hn : 1 ≤ xs.length ∧ xs.length ≤ 32) (hsl : ss.length = 32 * (2 * xs.length + 3)) :
    Calls Tryd.prog 93 #[vs, .int .i64 leaf, v] w fun e w' => e = .returned (okV (fromF ss leaf xs)) ∧ Below w.heap.size w w' := by
  unfold okV
  have M := Lib.hid (hasR1 w zF he)
  have HX := Lib.hid (hx.below (below_alloc w (.cells (rowOf .u8 32 zF) 28)))
  have HSI := Lib.hid (hs.below (below_alloc w (.cells (rowOf .u8 32 zF) 28)))
  have hl := Lib.hid h
  have HN := Lib.hid hn
  have HBO := Lib.hid hb
  obtain ⟨a, cap, rfl, -, -, -⟩ := hx
  obtain ⟨sa, scap, rfl, -, -, -⟩ := hs
  obtain ⟨n, hnn⟩ : ∃ n, n = xs.length := ⟨_, rfl⟩
  obtain ⟨ns, hns⟩ : ∃ ns, ns = ss.length := ⟨_, rfl⟩
  rw [← hnn] at HN HX hn hsl ⊢
  rw [← hns] at HSI hsl ⊢
  replace hnn := Lib.hid hnn
  replace hns := Lib.hid hns
  have hn0 : ¬ (2 * (n : Int) + 3 = 0) := by omega
  have hnb := hn.2
  have hne1 : ((ns : Int) != 32 * (2 * (n : Int) + 3)) = false := by simp; omega
  have HSL := Lib.hid hsl
  clear he h hn hb hsl
  go_enter Tryd.func93, Tryd.ntmps93
  go_upto_region 1 with (fail)
  rw [zeros32']
  generalize w.alloc (.cells (rowOf .u8 32 zF) 28) = w1 at *
  go_upto_region 6 with (first
    | (go_at_call 101; (with_reducible refine (wleaf_ok leaf _ hl.out.1 hl.out.2).mono ?_); rintro e w' ⟨rfl, rfl⟩)
    | (go_at_call 97; (with_reducible refine (wlen_ok n _ HN.out.1 HN.out.2).mono ?_); rintro e w' ⟨rfl, rfl⟩))
  clear hne1 hn0
  go_wp2_with (go_at_call 102; (with_reducible refine (wdigits_ok _ xs _ HX.out HBO.out (by rw [← hnn.out]; exact HN.out.1) (by rw [← hnn.out]; exact HN.out.2)).mono ?_); rintro e w2 ⟨vd, rfl, ho, hb2⟩; obtain ⟨ad, cd, rfl, -, -, hcell⟩ := owns_ints ho (by rw [natInts_length, digF_length, ← hnn.out]; unfold maxLen; have := HN.out; omega); have HC := Lib.hid hcell; replace HSI := Lib.hid (HSI.out.below hb2); replace M := Lib.hid (M.out.call hb2); have H0 := Lib.hid M.out.below; have HW2 := Lib.hid M.out.at0.lt; replace M := Lib.hid M.out.mark; have R := Lib.hid (World.ownsRow_nil w2 w2.heap.size 5 1); clear hcell ho hb2)
  obtain ⟨L, hL⟩ : ∃ L, L = digF xs := ⟨_, rfl⟩
  have HL := Lib.hid hL
  have HLE := Lib.hid (show ∀ d ∈ L, d ≤ 15 by rw [hL]; exact digF_le HBO.out (by rw [← hnn.out]; exact HN.out.2))
  rw [← hL] at HC ⊢
  obtain ⟨N, hN⟩ : ∃ N, N = (natInts L).length := ⟨_, rfl⟩
  have HNL := Lib.hid (show L.length = N by rw [hN, natInts_length])
  have HN3 := Lib.hid (show N = 2 * n + 3 by rw [← HNL.out, HL.out, digF_length, ← hnn.out])
  rw [← hN]
  clear hL hN
  have hN67 : N ≤ 67 := by have := HN3.out; have := HN.out; omega
  replace HC := HC.out
  rcases HC with h0 | ⟨gb, go, rfl, hcell⟩
  · exfalso
    have h1 := natInts_length L
    rw [h0] at h1
    have h2 := HNL.out
    have h3 := HN3.out
    simp at h1
    omega
  have HC := Lib.hid hcell
  clear hcell
  have hsi := HSI.out
  obtain ⟨sa', scap', e, hsc, hsm, hcell⟩ := hsi
  injection e with e1 e2 e3
  subst e1 e3
  clear e2
  rcases hcell with h0 | ⟨sb, so, rfl, hcell⟩
  · exfalso
    have h1 := HSL.out
    have h2 := hns.out
    rw [h0] at h2
    simp at h2
    omega
  have HSC := Lib.hid hcell
  have HSM := Lib.hid (show ns ≤ scap by rw [hns.out]; exact hsc)
  clear hcell hsc hsm
  go_loopw [8, 36] (fun s i wr => ∃ k : Nat, k ≤ N ∧ i = .int .i64 (k : Int) ∧ Hid (HasR w2 wr w2.heap.size [(w.heap.size, zF)]) ∧ Hid (wr.ownsRow w2.heap.size 5 1 s (endsF leaf 0 (L.take k) ss).length (byteVals (endsF leaf 0 (L.take k) ss)))) (fun _ i _ => N - (intOf i).toNat)
  case atStart => exact ⟨0, Nat.zero_le _, rfl, M, by rw [List.take_zero]; exact R⟩
  case round =>
    clear M R
    obtain ⟨k, hk, rfl, M, R⟩ := hrel
    by_cases hlt : k < N
    · obtain ⟨d, hd⟩ : ∃ d, L[k]? = some d := ⟨_, List.getElem?_eq_getElem (by rw [HNL.out]; exact hlt)⟩
      have hd15 := HLE.out d (List.mem_of_getElem? hd)
      have HCS := Lib.hid (endsF_snoc leaf L k d ss hd)
      have HLN := Lib.hid (show (endsF leaf 0 (L.take k) ss).length ≤ 32 * 67 by rw [endsF_length, List.length_take]; omega)
      have h0 := HC.out k (d : Int) (nat_get L k d hd)
      have c0 := M.out.below.cell (p := ⟨gb, go + k, none⟩) (World.block_lt_of_cell? w2 _ h0)
      rw [h0] at c0
      clear h0
      replace hd := Lib.hid hd
      have hk32 : 32 * (k + 1) ≤ ns := by have := HSL.out; have := HN3.out; omega
      have hslc := sliceS sb so ns scap k hk32 HSM.out
      have haa := arrayAt32 ⟨sb, so + 32 * k, none⟩ (scap - 32 * k)
      have HSR := Lib.hid (seg_range (k := k) (fun i x hi => (M.out.below.cell (p := ⟨sb, so + i, none⟩) (World.block_lt_of_cell? w2 _ (HSC.out i x hi))).trans (HSC.out i x hi)) (by rw [← hns.out]; exact hk32))
      obtain ⟨f, hf⟩ : ∃ f : Nat → Int, f = fun i => ((ss.drop (32 * k)).take 32).getD i 0 := ⟨_, rfl⟩
      replace HSR : Hid (wr.rangeAt sb (so + 32 * k) ((List.range 32).map fun i => Value.int .u8 (f i))) := by rw [hf]; exact HSR
      replace HCS : Hid (endsF leaf 0 (L.take (k + 1)) ss = endsF leaf 0 (L.take k) ss ++ rowL 32 (stepF f leaf (k : Int) (d : Int) 15)) := by rw [hf]; exact HCS
      clear hf
      obtain ⟨l, hl2⟩ : ∃ l, l = endsF leaf 0 (L.take k) ss := ⟨_, rfl⟩
      rw [← hl2] at HCS HLN R
      replace hl2 := Lib.hid hl2
      go_wp2_with (first
        | (refine wpList_load_mid rfl 28 (.tmp 48) rfl sb (so + 32 * k) rfl ((List.range 32).map fun i => Value.int .u8 (f i)) _ HSR.out Tryd.underlying28 rfl (by rw [List.length_map, List.length_range]; kernel_rfl) ?_)
        | (refine wpList_store_row rfl 28 (.tmp 11) (.tmp 49) rfl wr.heap.size (rowOf .u8 32 f) rfl rfl 28 _ (heap_alloc_new _ _) (by rw [rowOf_size]; kernel_rfl) rfl (rowOf_one _ _ _) ?_; rw [World.setRow_alloc_new]; have HR1 := Lib.hid (RowAt.new wr .u8 32 28 f); have HA := Lib.hid (below_alloc wr (.cells (rowOf .u8 32 f) 28)); replace R := Lib.hid (wkept_below R.out HA.out); replace M := Lib.hid (M.out.call HA.out); clear HA; generalize wr.alloc (.cells (rowOf .u8 32 f) 28) = w3 at *)
        | (refine wpList_load_row rfl 28 (.tmp 11) rfl wr.heap.size rfl 28 _ (0, 0) _ HR1.out Tryd.underlying28 rfl (by rw [rowOf_size]; kernel_rfl) ?_)
        | (go_at_call 103; (with_reducible refine (wstep_any f leaf (k : Int) (d : Int) 15 _ M.out.env).mono ?_); rintro e w4 ⟨rfl, HB3⟩; replace R := Lib.hid (wkept_below R.out HB3); replace M := Lib.hid (M.out.call HB3); clear HB3)
        | (refine wpList_store_row rfl 28 (.tmp 12) (.tmp 54) rfl w4.heap.size (rowOf .u8 32 (stepF f leaf (k : Int) (d : Int) 15)) rfl rfl 28 _ (heap_alloc_new _ _) (by rw [rowOf_size]; kernel_rfl) rfl (rowOf_one _ _ _) ?_; rw [World.setRow_alloc_new]; have HR := Lib.hid (RowAt.new w4 .u8 32 28 (stepF f leaf (k : Int) (d : Int) 15)); have HA := Lib.hid (below_alloc w4 (.cells (rowOf .u8 32 (stepF f leaf (k : Int) (d : Int) 15)) 28)); replace R := Lib.hid (wkept_below R.out HA.out); replace M := Lib.hid (M.out.call HA.out); clear HA; generalize w4.alloc (.cells (rowOf .u8 32 (stepF f leaf (k : Int) (d : Int) 15)) 28) = w5 at *)
        | (at_builtin; refine wpList_append_bytes rfl (.tmp 55) (.tmp 56) rfl rfl w2.heap.size _ l.length (byteVals l) rfl R.out _ (rowL 32 (stepF f leaf (k : Int) (d : Int) 15)) rfl (row_in HR.out (Nat.le_refl _) (Nat.le_refl _) (by simp [maxLen])) (by have := HLN.out; rw [rowL32]; omega) M.out.size ?_; intro v6 w6 ho hg _; replace M := Lib.hid (M.out.grown hg R.out); replace R := Lib.hid ho; clear ho hg))
      go_roundw
      case rel =>
        refine ⟨k + 1, by omega, by go_num, M, ?_⟩
        rw [HCS.out, List.length_append, byteVals_append]
        exact R
      case measure => simp [intOf]; omega
    · have HE := Lib.hid (show L.take k = L by rw [show k = L.length by rw [HNL.out]; omega, List.take_length])
      rw [HE.out, HL.out] at R
      clear HE
      have HXX := Lib.hid (owns_in R.out (by rw [endsF_length, digF_length, ← hnn.out]; unfold maxLen; omega))
      go_wp2_with (first
        | (go_at_call 104; (with_reducible refine (leaf_any _ _ _ HXX.out M.out.env).mono ?_); rintro e w3 ⟨rfl, HB2⟩; replace M := Lib.hid (M.out.call HB2); clear HB2)
        | (refine wpList_store_row rfl 28 (.tmp 6) (.tmp 60) rfl w.heap.size _ rfl rfl 28 _ M.out.at0 (by rw [rowOf_size]; kernel_rfl) (by rw [rowOf_size, rowOf_size]) (rowOf_one _ _ _) ?_))
      refine bodyPost_ret (results_cell_tmp_row rfl _ _ w.heap.size 28 (rowOf .u8 32 (fromF ss leaf xs)) (0, 0) _ rfl (setRow_heap _ _ _ _ _ _ M.out.at0) Tryd.underlying28 rfl (by rw [rowOf_size]; kernel_rfl)) rfl ?_
      exact ⟨rfl, below_setRow (H0.out.trans (M.out.below.mono H0.out.size)) (Nat.le_refl _) _⟩
end Go.Proofs.YtabflppnecemkaaDoor
namespace Go.Proofs.YtabflppnecemkaaDoor
set_option linter.unusedVariables false
set_option linter.unusedSimpArgs false
open Go.RowKit
set_option maxRecDepth 100000
theorem wp_copy_at' {P : Program} (w : World) {o : Oper} {a : Act} {K : Act → World → Prop} {Q : Exit → Act → World → Prop} (d s : Operand) (t t' : TypeId) {ty : TypeId}
    (ho : o.op = .call { callee := .builtin .copy, args := #[d, s], argTypes := #[t, t'] }) (hty : o.type = ty) (v u : Value) (hd : a.eval d = v) (hs : a.eval s = u) {v' : Value} {w' : World}
    (hr : (Builtin.copy_ #[t, t'] ty #[v, u]).run P w = .ok v' w') (h : K (a.put o.dst v') w') : o.wp P a w K Q := by
  unfold Oper.wp execOp
  simp only [ho, hty, resolve, invoke, builtin, Sem.run_bind, Sem.run_pure, Result.andThen_ok, List.map_toArray, List.map_cons, List.map_nil, hd, hs, hr]
  exact h
theorem owns_wideI {w : World} {base n : Nat} {v : Value} {vs : List Value} (h : w.ownsRow base 3 1 v n vs) : ∃ a c, v = .slice a n c := by
  rcases h.2 with ⟨rfl, h0⟩ | ⟨g, c, _, rfl, _⟩
  · exact ⟨none, 0, by rw [h0]⟩
  · exact ⟨_, c, rfl⟩
theorem copied32' (f : Nat → Int) (ys : List Int) (h : ¬ ys.length < 32) :
    ((rowOf .u8 32 f).toList.take 0 ++ byteVals (ys.take 32) ++ (rowOf .u8 32 f).toList.drop (0 + (byteVals (ys.take 32)).length)).toArray = rowOf .u8 32 (fun i => ys.getD i 0) := by
  have hl : (ys.take 32).length = 32 := by rw [List.length_take]; omega
  have hd : (rowOf .u8 32 f).toList.drop (0 + (byteVals (ys.take 32)).length) = [] := by
    apply List.drop_eq_nil_of_le
    rw [byteVals_length, hl, Array.length_toList, rowOf_size]; omega
  rw [hd, List.take_zero, List.nil_append, List.append_nil]
  unfold rowOf byteVals
  congr 1
  apply List.ext_getElem
  · simp only [List.length_map, List.length_range, hl]
  · intro i h1 h2
    have hi : i < 32 := by simpa using h2
    simp [List.getD, List.getElem?_eq_getElem (show i < ys.length by omega)]
theorem sliceS2 (sb so ns cs k : Nat) (h1 : 32 * (k + 1) ≤ ns) (h2 : ns ≤ cs) (w : World) : (Instr.slice 37 (.slice (some ⟨sb, so, none⟩) ns cs) (some (.int .i64 (32 * (k : Int)))) none none).run Tryd.prog w = .ok (.slice (some ⟨sb, so + 32 * k, none⟩) (ns - 32 * k) (cs - 32 * k)) w := by
  have h := sliceBlo (some ⟨sb, so, none⟩) ns cs (32 * k) (by omega) w
  unfold cutA at h
  rw [if_neg (by omega)] at h
  simp only [Option.map_some] at h
  rw [Addr.add_mid, show ((32 * k : Nat) : Int) = 32 * (k : Int) by omega] at h
  exact h
theorem sliceH (b : Nat) (w : World) : (Instr.sliceAt 28 (.pointer (some ⟨b, 0, none⟩)) none none none).run Tryd.prog w = .ok (.slice (some ⟨b, 0, none⟩) 32 32) w := by
  have ha : Tryd.prog.arrayLen 28 = 32 := by kernel_rfl
  have he : Tryd.prog.elem 28 = 5 := by kernel_rfl
  have hs : (sizeOf 5).run Tryd.prog w = .ok 1 w := by kernel_rfl
  rw [run_sliceAt_array_all w 28 ⟨b, 0, none⟩ (by rw [ha, he]; exact Tryd.underlying28), ha, he, hs]
  simp only [Result.andThen_ok, slicedAt]
  rw [if_neg (by omega), Addr.add_mid]
structure FrM (w2 w' : World) (b : Nat) (gb go : Nat) (L : List Nat) (s : Value) (l : List Int) (gv : Nat) (F : Nat → Int) : Prop where
  m : SgM w2 w' b zF gb go L s l
  v : RowAt w' gv .u8 32 28 F
theorem FrM.calls {w2 w' w3 : World} {b gb go gv : Nat} {L : List Nat} {s : Value} {l : List Int} {F : Nat → Int} (m : FrM w2 w' b gb go L s l gv F) (h : Below w'.heap.size w' w3) : FrM w2 w3 b gb go L s l gv F := ⟨m.m.calls h, m.v.below h m.v.lt⟩
end Go.Proofs.YtabflppnecemkaaDoor
namespace Go.Proofs.YtabflppnecemkaaDoor
set_option linter.unusedVariables false
set_option linter.unusedSimpArgs false
open Go.RowKit
set_option maxRecDepth 100000
def digestF (text : List Int) (n : Nat) : List Int := rowL n (sumF (4 :: text))
theorem rowL_take (f : Nat → Int) (n : Nat) : (rowL n f).length = n := by simp [rowL]
theorem sliceAn (b n : Nat) (hn : n ≤ 32) (w : World) : (Instr.sliceAt 28 (.pointer (some ⟨b, 0, none⟩)) none (some (.int .i64 (n : Int))) none).run Tryd.prog w = .ok (.slice (some ⟨b, 0, none⟩) n 32) w := by
  have ha : Tryd.prog.arrayLen 28 = 32 := by kernel_rfl
  have he : Tryd.prog.elem 28 = 5 := by kernel_rfl
  have hs : (sizeOf 5).run Tryd.prog w = .ok 1 w := by kernel_rfl
  rw [run_sliceAt_array_h w 28 ⟨b, 0, none⟩ (by rw [ha, he]; exact Tryd.underlying28) .i64 (n : Int) (by omega) (by rw [ha]; omega), ha, he, hs]
  simp only [Result.andThen_ok, slicedAt, Int.toNat_natCast]
  rfl
theorem wdigest_no (v : Value) (n : Int) (w : World) (h : n < 1 ∨ 32 < n) :
    Calls Tryd.prog 92 #[v, .int .i64 n] w fun e w' => e = .returned (.tuple #[.slice none 0 0, errV (some 1)]) ∧ w = w' := by
  replace h := Lib.hid h
  go_enter Tryd.func92, Tryd.ntmps92
  go_wp2_with (go_at_call 97; (with_reducible refine (wlen_no n _ h.out).mono ?_); rintro e w' ⟨rfl, rfl⟩)
  go_ret2
  exact ⟨rfl, rfl⟩
set_option maxHeartbeats 1000000 in
theorem wdigest_ok (v : Value) (xs : List Int) (n : Nat) (w : World) (hx : BytesIn w v xs) (he : Env w) (hn : 1 ≤ n ∧ n ≤ 32) :
    Calls Tryd.prog 92 #[v, .int .i64 (n : Int)] w fun e w' => ∃ v', e = .returned (.tuple #[v', errV none]) ∧ BytesIn w' v' (digestF xs n) ∧ Below w.heap.size w w' := by
  have HN := Lib.hid hn
  have hnb := hn.2
  have hn0 : ¬ (2 * (n : Int) + 3 = 0) := by omega
  have HB1 := below_alloc w (.cells (hashCells BT (fun _ => 0) 0) 191)
  have HC := Lib.hid he.lt
  have HX := Lib.hid (hx.at (g := w.heap.size) HB1 (Nat.le_refl _) (Nat.le_refl _))
  have HE := Lib.hid he
  have HE1 := Lib.hid (he.below HB1 he.lt)
  have HH := Lib.hid (show HashAt (w.alloc (.cells (hashCells BT (fun _ => 0) 0) 191)) w.heap.size h0.s h0.b h0.n from heap_alloc_new w _)
  replace HB1 := Lib.hid HB1
  clear he hx hn
  go_enter Tryd.func92, Tryd.ntmps92
  go_upto_region 4 with (first
    | (go_at_call 97; (with_reducible refine (wlen_ok n _ HN.out.1 HN.out.2).mono ?_); rintro e w' ⟨rfl, rfl⟩)
    | (go_at_call 98; (with_reducible refine (shNew_any _ HE.out).mono ?_); rintro e w' ⟨rfl, rfl⟩))
  generalize w.alloc (.cells (hashCells BT (fun _ => 0) 0) 191) = w1 at *
  obtain ⟨g, hg⟩ : ∃ g, g = w.heap.size := ⟨_, rfl⟩
  rw [← hg] at HX HH ⊢
  replace hg := Lib.hid hg
  have ha := below_alloc w1 (.cells #[.int .u8 4] 5)
  have HHa := Lib.hid (HH.out.below ha HH.out.lt)
  have HEa := Lib.hid (HE1.out.below ha HE1.out.lt)
  have HO1 := Lib.hid (oneAt w1 g HH.out.lt 4)
  have HX1 := Lib.hid (HX.out.below' ha)
  have HB2 := Lib.hid (HB1.out.trans (ha.mono HB1.out.size))
  have HG := Lib.hid (show 2 < g from by rw [hg.out]; exact HC.out)
  clear ha HE1 HX HH HB1
  go_upto_region 5 with (go_at_call 99; (with_reducible refine (shWrite_any g _ _ _ [4] _ _ HHa.out (by decide) (by decide) HO1.out HEa.out HG.out).mono ?_); rintro e w2 ⟨rfl, HH2, HO⟩; have HH2 := Lib.hid HH2; have HX2 := Lib.hid (HX1.out.only HO); have HE2 := Lib.hid (HO.env HEa.out HG.out); have HB3 := Lib.hid (HB2.out.trans (HO.below (by rw [hg.out]; exact Nat.le_refl _) HB2.out.size)); clear HO)
  have hb1 := putF_bounds h0 (by decide) (by decide) [4]
  have HBD1 := Lib.hid hb1
  clear hb1 HHa HX1 HEa HO1 HB2
  go_upto_region 6 with (go_at_call 99; (with_reducible refine (shWrite_any g _ _ _ xs v _ HH2.out HBD1.out.1 HBD1.out.2 HX2.out HE2.out HG.out).mono ?_); rintro e w3 ⟨rfl, HH3, HO⟩; have HH3 := Lib.hid HH3; have HE3 := Lib.hid (HO.env HE2.out HG.out); have HB4 := Lib.hid (HB3.out.trans (HO.below (by rw [hg.out]; exact Nat.le_refl _) HB3.out.size)); clear HO)
  have hb2 := putF_bounds (putF h0 [4]) HBD1.out.1 HBD1.out.2 xs
  have HBD2 := Lib.hid hb2
  clear hb2 HH2 HX2 HE2 HB3
  go_upto_region 7 with (first
    | (go_at_call 100; (with_reducible refine (sumM_any g _ _ _ _ HH3.out HBD2.out.1 HBD2.out.2 HE3.out.consts).mono ?_); rintro e w4 ⟨rfl, hb⟩; have HB5 := Lib.hid (HB4.out.trans (hb.mono HB4.out.size)); clear hb; rw [show outF (finF (putF (putF h0 [4]) xs).s (putF (putF h0 [4]) xs).b (putF (putF h0 [4]) xs).n ((putF (putF h0 [4]) xs).n % 64).toNat) = sumF (4 :: xs) from rfl])
    | (refine wpList_store_row rfl 28 (.tmp 7) (.tmp 20) rfl w4.heap.size (rowOf .u8 32 (sumF (4 :: xs))) rfl rfl 28 _ (heap_alloc_new _ _) (by rw [rowOf_size]; kernel_rfl) rfl (rowOf_one _ _ _) ?_; rw [World.setRow_alloc_new]; have HR := Lib.hid (RowAt.new w4 .u8 32 28 (sumF (4 :: xs))); have HB6 := Lib.hid (HB5.out.trans ((below_alloc w4 (.cells (rowOf .u8 32 (sumF (4 :: xs))) 28)).mono HB5.out.size)); generalize w4.heap.size = gr at *; generalize w4.alloc (.cells (rowOf .u8 32 (sumF (4 :: xs))) 28) = w5 at *))
  have hsl := sliceAn gr n hnb
  have HY := Lib.hid (row_in (k := n) (c := 32) HR.out hnb hnb (by unfold maxLen; omega))
  have HO0 := Lib.hid (World.ownsRow_nil w5 w5.heap.size 5 1)
  go_wp2_with (at_builtin; refine wpList_append_bytes rfl (.const (.slice none 0 0)) (.tmp 22) rfl rfl w5.heap.size _ 0 [] rfl HO0.out _ (rowL n (sumF (4 :: xs))) rfl HY.out (by rw [rowL_length]; omega) (Nat.le_refl _) ?_; intro v' w6 ho hg2 _; have HI := Lib.hid (owns_in (xs := rowL n (sumF (4 :: xs))) (by rw [Nat.zero_add, List.nil_append] at ho; exact ho) (by rw [rowL_length]; unfold maxLen; omega)); have HB7 := Lib.hid (HB6.out.trans (((Below.refl _ _).grown hg2 (Nat.le_refl _) (fun k hk => by cases hk)).mono HB6.out.size)); clear ho hg2)
  go_ret2
  exact ⟨_, rfl, HI.out, HB7.out⟩
end Go.Proofs.YtabflppnecemkaaDoor
namespace Go.Proofs.YtabflppnecemkaaDoor
set_option linter.unusedVariables false
set_option linter.unusedSimpArgs false
open Go.RowKit
set_option maxRecDepth 100000
theorem wpList_load_row_want {ops : Array Oper} {rest : List Oper} {op : Oper} {a : Act} {w : World} {Q : Exit → Act → World → Prop} (hw : Region.wanted op (yielded ops a.tmps) = true) (ty : TypeId) (x : Operand) (ho : op.op = .load ty x)
    (b : Nat) (hx : a.eval x = .pointer (some ⟨b, 0, none⟩)) (k : IntKind) (n : Nat) (f : Nat → Int) (d : TypeDesc) (R : RowAt w b k n ty f)
    (hu : Tryd.prog.underlying ty = some d) (hd : d.isRow = true) (hi : (Tryd.prog.info? ty).map (·.size) = some n)
    (h : wpList Tryd.prog ops Q rest (a.put op.dst (.agg (rowOf k n f))) w) : wpList Tryd.prog ops Q (op :: rest) a w :=
  BigFrame.wpList_want hw fun _ hK => wp_load_mid ty x ho b 0 hx (rowOf k n f).toList d R.range hu hd (by rw [hi]; simp [rowOf]) (hK _ _ (by simpa using h))
theorem below_drew {w w' : World} {n : Nat} (h : w' = w.drewN n) : Below w.heap.size w w' := by subst h; exact ⟨rfl, rfl, rfl, Nat.le_refl _, fun _ _ => rfl⟩
theorem digF18 : natInts (digF [18]) = [1, 2, 0, 1, 11] := by decide
end Go.Proofs.YtabflppnecemkaaDoor
