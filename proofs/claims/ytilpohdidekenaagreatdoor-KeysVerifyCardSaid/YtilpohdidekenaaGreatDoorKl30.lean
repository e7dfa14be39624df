/- Part 30 of the proof. -/
import Derived.Test.YtilpohdidekenaaGreatDoorKl29
namespace Go.Proofs.YtilpohdidekenaaGreatDoor
set_option linter.unusedVariables false
set_option linter.unusedSimpArgs false
open Go.RowKit
set_option maxRecDepth 100000
set_option maxHeartbeats 1000000 in
theorem wfrom_no (vs : Value) (leaf : Int) (a : Option Addr) (n cap : Nat) (w : World) (h : ¬ (0 ≤ leaf ∧ leaf < 1024 ∧ 1 ≤ n ∧ n ≤ 32)) :
    Calls Tryz.prog 67 #[vs, .int .i64 leaf, .slice a n cap] w fun e w' => e = .returned noV ∧ Below w.heap.size w w' := by
  unfold noV
  have HB := Lib.hid (below_alloc w (.cells (rowOf .u8 32 zF) 23))
  have HR0 := Lib.hid (RowAt.new w .u8 32 23 zF)
  by_cases hl : 0 ≤ leaf ∧ leaf < 1024
  · have hn : (n : Int) < 1 ∨ 32 < (n : Int) := by omega
    replace hl := Lib.hid hl
    replace hn := Lib.hid hn
    clear h
    go_enter Tryz.func67, Tryz.ntmps67
    go_upto_region 1 with (fail)
    rw [zeros32']
    generalize w.alloc (.cells (rowOf .u8 32 zF) 23) = w1 at *
    go_wp2_with (first
      | (go_at_call 97; (with_reducible refine (wleaf_ok leaf _ hl.out.1 hl.out.2).mono ?_); rintro e w' ⟨rfl, rfl⟩)
      | (go_at_call 98; (with_reducible refine (wlen_no n _ hn.out).mono ?_); rintro e w' ⟨rfl, rfl⟩)
      | (refine wpList_store_row rfl 23 (.tmp 6) (.tmp 22) rfl w.heap.size (rowOf .u8 32 zF) rfl rfl 23 _ HR0.out (by rw [rowOf_size]; kernel_rfl) rfl (rowOf_one _ _ _) ?_))
    refine bodyPost_ret (results_cell_tmp_row rfl _ _ w.heap.size 23 (rowOf .u8 32 zF) (0, 0) _ rfl (setRow_heap _ _ _ _ _ _ HR0.out) Tryz.underlying23 rfl (by rw [rowOf_size]; kernel_rfl)) rfl ?_
    exact ⟨rfl, below_setRow HB.out (Nat.le_refl _) _⟩
  · have hl' : leaf < 0 ∨ 1024 ≤ leaf := by omega
    replace hl := Lib.hid hl'
    clear h hl'
    go_enter Tryz.func67, Tryz.ntmps67
    go_upto_region 1 with (fail)
    rw [zeros32']
    generalize w.alloc (.cells (rowOf .u8 32 zF) 23) = w1 at *
    go_wp2_with (first
      | (go_at_call 97; (with_reducible refine (wleaf_no leaf _ hl.out).mono ?_); rintro e w' ⟨rfl, rfl⟩)
      | (refine wpList_store_row rfl 23 (.tmp 6) (.tmp 22) rfl w.heap.size (rowOf .u8 32 zF) rfl rfl 23 _ HR0.out (by rw [rowOf_size]; kernel_rfl) rfl (rowOf_one _ _ _) ?_))
    refine bodyPost_ret (results_cell_tmp_row rfl _ _ w.heap.size 23 (rowOf .u8 32 zF) (0, 0) _ rfl (setRow_heap _ _ _ _ _ _ HR0.out) Tryz.underlying23 rfl (by rw [rowOf_size]; kernel_rfl)) rfl ?_
    exact ⟨rfl, below_setRow HB.out (Nat.le_refl _) _⟩
def longV : Value := .tuple #[.agg (rowOf .u8 32 zF), errV (some 2)]
set_option maxHeartbeats 1000000 in
theorem wfrom_long (sa : Option Addr) (ns cs : Nat) (leaf : Int) (a : Option Addr) (n cap : Nat) (w : World) (h : 0 ≤ leaf ∧ leaf < 1024) (hn : 1 ≤ n ∧ n ≤ 32) (hne : ns ≠ 32 * (2 * n + 3)) :
    Calls Tryz.prog 67 #[.slice sa ns cs, .int .i64 leaf, .slice a n cap] w fun e w' => e = .returned longV ∧ Below w.heap.size w w' := by
  unfold longV
  have HB := Lib.hid (below_alloc w (.cells (rowOf .u8 32 zF) 23))
  have HR0 := Lib.hid (RowAt.new w .u8 32 23 zF)
  have hl := Lib.hid h
  have HN := Lib.hid hn
  have hn0 : ¬ (2 * (n : Int) + 3 = 0) := by omega
  have hnb := hn.2
  have hne1 : ((ns : Int) != 32 * (2 * (n : Int) + 3)) = true := by simp; omega
  clear h hn hne
  go_enter Tryz.func67, Tryz.ntmps67
  go_upto_region 1 with (fail)
  rw [zeros32']
  generalize w.alloc (.cells (rowOf .u8 32 zF) 23) = w1 at *
  go_wp2_with (first
    | (go_at_call 97; (with_reducible refine (wleaf_ok leaf _ hl.out.1 hl.out.2).mono ?_); rintro e w' ⟨rfl, rfl⟩)
    | (go_at_call 98; (with_reducible refine (wlen_ok n _ HN.out.1 HN.out.2).mono ?_); rintro e w' ⟨rfl, rfl⟩)
    | (refine wpList_store_row rfl 23 (.tmp 6) (.tmp 31) rfl w.heap.size (rowOf .u8 32 zF) rfl rfl 23 _ HR0.out (by rw [rowOf_size]; kernel_rfl) rfl (rowOf_one _ _ _) ?_))
  refine bodyPost_ret (results_cell_tmp_row rfl _ _ w.heap.size 23 (rowOf .u8 32 zF) (0, 0) _ rfl (setRow_heap _ _ _ _ _ _ HR0.out) Tryz.underlying23 rfl (by rw [rowOf_size]; kernel_rfl)) rfl ?_
  exact ⟨rfl, below_setRow HB.out (Nat.le_refl _) _⟩
theorem arrayAt32 (a : Addr) (cap : Nat) (w : World) : (Instr.arrayAt 23 (.slice (some a) 32 cap)).run Tryz.prog w = .ok (.pointer (some a)) w := by
  simp [Instr.arrayAt, run_underlying Tryz.underlying23]
theorem sliceS (sb so ns cs k : Nat) (h1 : 32 * (k + 1) ≤ ns) (h2 : ns ≤ cs) (w : World) : (Instr.slice 26 (.slice (some ⟨sb, so, none⟩) ns cs) (some (.int .i64 (32 * (k : Int)))) (some (.int .i64 (32 * ((k : Int) + 1)))) none).run Tryz.prog w = .ok (.slice (some ⟨sb, so + 32 * k, none⟩) 32 (cs - 32 * k)) w := by
  have h := sliceBlh (some ⟨sb, so, none⟩) ns cs (32 * k) (32 * (k + 1)) (by omega) (by omega) w
  unfold cutA at h
  rw [if_neg (by omega)] at h
  simp only [Option.map_some] at h
  rw [Addr.add_mid, show 32 * (k + 1) - 32 * k = 32 by omega, show ((32 * k : Nat) : Int) = 32 * (k : Int) by omega, show ((32 * (k + 1) : Nat) : Int) = 32 * ((k : Int) + 1) by omega] at h
  exact h
theorem seg_range {w : World} {sb so k : Nat} {ss : List Int} (h : ∀ i x, ss[i]? = some x → w.cell? ⟨sb, so + i, none⟩ = some (.int .u8 x)) (hl : 32 * (k + 1) ≤ ss.length) :
    w.rangeAt sb (so + 32 * k) ((List.range 32).map fun i => Value.int .u8 (((ss.drop (32 * k)).take 32).getD i 0)) := fun j v hj => by
  simp only [List.getElem?_map] at hj
  rcases Nat.lt_or_ge j 32 with h1 | h1
  · rw [List.getElem?_range h1] at hj
    cases hj
    have e : ss[32 * k + j]? = some (((ss.drop (32 * k)).take 32).getD j 0) := by
      have h2 : 32 * k + j < ss.length := by omega
      rw [List.getElem?_eq_getElem h2]
      simp [List.getD, List.getElem?_take, h1, List.getElem?_drop, List.getElem?_eq_getElem h2]
    have := h _ _ e
    rw [Nat.add_assoc]; exact this
  · rw [List.getElem?_eq_none (by simpa using h1)] at hj; cases hj
set_option maxHeartbeats 4000000 in
theorem wfrom_ok (vs : Value) (ss : List Int) (leaf : Int) (v : Value) (xs : List Int) (w : World) (he : Env w) (h : 0 ≤ leaf ∧ leaf < 1024) (hs : BytesIn w vs ss) (hx : BytesIn w v xs) (hb : bytesOk xs) (hn : 1 ≤ xs.length ∧ xs.length ≤ 32) (hsl : ss.length = 32 * (2 * xs.length + 3)) :
    Calls Tryz.prog 67 #[vs, .int .i64 leaf, v] w fun e w' => e = .returned (okV (fromF ss leaf xs)) ∧ Below w.heap.size w w' := by
  unfold okV
  have M := Lib.hid (hasR1 w zF he)
  have HX := Lib.hid (hx.below (below_alloc w (.cells (rowOf .u8 32 zF) 23)))
  have HSI := Lib.hid (hs.below (below_alloc w (.cells (rowOf .u8 32 zF) 23)))
  have hl := Lib.hid h
  have HN := Lib.hid hn
  have HBO := Lib.hid hb
  obtain ⟨a, cap, rfl, -, -, -⟩ := hx
  obtain ⟨sa, scap, rfl, -, -, -⟩ := hs
  obtain ⟨n, hnn⟩ : ∃ n, n = xs.length := ⟨_, rfl⟩
  obtain ⟨ns, hns⟩ : ∃ ns, ns = ss.length := ⟨_, rfl⟩
  rw [← hnn] at HN HX hn hsl ⊢
  rw [← hns] at HSI hsl ⊢
  replace hnn := Lib.hid hnn
  replace hns := Lib.hid hns
  have hn0 : ¬ (2 * (n : Int) + 3 = 0) := by omega
  have hnb := hn.2
  have hne1 : ((ns : Int) != 32 * (2 * (n : Int) + 3)) = false := by simp; omega
  have HSL := Lib.hid hsl
  clear he h hn hb hsl
  go_enter Tryz.func67, Tryz.ntmps67
  go_upto_region 1 with (fail)
  rw [zeros32']
  generalize w.alloc (.cells (rowOf .u8 32 zF) 23) = w1 at *
  go_upto_region 6 with (first
    | (go_at_call 97; (with_reducible refine (wleaf_ok leaf _ hl.out.1 hl.out.2).mono ?_); rintro e w' ⟨rfl, rfl⟩)
    | (go_at_call 98; (with_reducible refine (wlen_ok n _ HN.out.1 HN.out.2).mono ?_); rintro e w' ⟨rfl, rfl⟩))
  clear hne1 hn0
  go_wp2_with (go_at_call 115; (with_reducible refine (wdigits_ok _ xs _ HX.out HBO.out (by rw [← hnn.out]; exact HN.out.1) (by rw [← hnn.out]; exact HN.out.2)).mono ?_); rintro e w2 ⟨vd, rfl, ho, hb2⟩; obtain ⟨ad, cd, rfl, -, -, hcell⟩ := owns_ints ho (by rw [natInts_length, digF_length, ← hnn.out]; unfold maxLen; have := HN.out; omega); have HC := Lib.hid hcell; replace HSI := Lib.hid (HSI.out.below hb2); replace M := Lib.hid (M.out.call hb2); have H0 := Lib.hid M.out.below; have HW2 := Lib.hid M.out.at0.lt; replace M := Lib.hid M.out.mark; have R := Lib.hid (World.ownsRow_nil w2 w2.heap.size 5 1); clear hcell ho hb2)
  obtain ⟨L, hL⟩ : ∃ L, L = digF xs := ⟨_, rfl⟩
  have HL := Lib.hid hL
  have HLE := Lib.hid (show ∀ d ∈ L, d ≤ 15 by rw [hL]; exact digF_le HBO.out (by rw [← hnn.out]; exact HN.out.2))
  rw [← hL] at HC ⊢
  obtain ⟨N, hN⟩ : ∃ N, N = (natInts L).length := ⟨_, rfl⟩
  have HNL := Lib.hid (show L.length = N by rw [hN, natInts_length])
  have HN3 := Lib.hid (show N = 2 * n + 3 by rw [← HNL.out, HL.out, digF_length, ← hnn.out])
  rw [← hN]
  clear hL hN
  have hN67 : N ≤ 67 := by have := HN3.out; have := HN.out; omega
  replace HC := HC.out
  rcases HC with h0 | ⟨gb, go, rfl, hcell⟩
  · exfalso
    have h1 := natInts_length L
    rw [h0] at h1
    have h2 := HNL.out
    have h3 := HN3.out
    simp at h1
    omega
  have HC := Lib.hid hcell
  clear hcell
  have hsi := HSI.out
  obtain ⟨sa', scap', e, hsc, hsm, hcell⟩ := hsi
  injection e with e1 e2 e3
  subst e1 e3
  clear e2
  rcases hcell with h0 | ⟨sb, so, rfl, hcell⟩
  · exfalso
    have h1 := HSL.out
    have h2 := hns.out
    rw [h0] at h2
    simp at h2
    omega
  have HSC := Lib.hid hcell
  have HSM := Lib.hid (show ns ≤ scap by rw [hns.out]; exact hsc)
  clear hcell hsc hsm
  go_loopw [8, 36] (fun s i wr => ∃ k : Nat, k ≤ N ∧ i = .int .i64 (k : Int) ∧ Hid (HasR w2 wr w2.heap.size [(w.heap.size, zF)]) ∧ Hid (wr.ownsRow w2.heap.size 5 1 s (endsF leaf 0 (L.take k) ss).length (byteVals (endsF leaf 0 (L.take k) ss)))) (fun _ i _ => N - (intOf i).toNat)
  case atStart => exact ⟨0, Nat.zero_le _, rfl, M, by rw [List.take_zero]; exact R⟩
  case round =>
    clear M R
    obtain ⟨k, hk, rfl, M, R⟩ := hrel
    by_cases hlt : k < N
    · obtain ⟨d, hd⟩ : ∃ d, L[k]? = some d := ⟨_, List.getElem?_eq_getElem (by rw [HNL.out]; exact hlt)⟩
      have hd15 := HLE.out d (List.mem_of_getElem? hd)
      have HCS := Lib.hid (endsF_snoc leaf L k d ss hd)
      have HLN := Lib.hid (show (endsF leaf 0 (L.take k) ss).length ≤ 32 * 67 by rw [endsF_length, List.length_take]; omega)
      have h0 := HC.out k (d : Int) (nat_get L k d hd)
      have c0 := M.out.below.cell (p := ⟨gb, go + k, none⟩) (World.block_lt_of_cell? w2 _ h0)
      rw [h0] at c0
      clear h0
      replace hd := Lib.hid hd
      have hk32 : 32 * (k + 1) ≤ ns := by have := HSL.out; have := HN3.out; omega
      have hslc := sliceS sb so ns scap k hk32 HSM.out
      have haa := arrayAt32 ⟨sb, so + 32 * k, none⟩ (scap - 32 * k)
      have HSR := Lib.hid (seg_range (k := k) (fun i x hi => (M.out.below.cell (p := ⟨sb, so + i, none⟩) (World.block_lt_of_cell? w2 _ (HSC.out i x hi))).trans (HSC.out i x hi)) (by rw [← hns.out]; exact hk32))
      obtain ⟨f, hf⟩ : ∃ f : Nat → Int, f = fun i => ((ss.drop (32 * k)).take 32).getD i 0 := ⟨_, rfl⟩
      replace HSR : Hid (wr.rangeAt sb (so + 32 * k) ((List.range 32).map fun i => Value.int .u8 (f i))) := by rw [hf]; exact HSR
      replace HCS : Hid (endsF leaf 0 (L.take (k + 1)) ss = endsF leaf 0 (L.take k) ss ++ rowL 32 (stepF f leaf (k : Int) (d : Int) 15)) := by rw [hf]; exact HCS
      clear hf
      obtain ⟨l, hl2⟩ : ∃ l, l = endsF leaf 0 (L.take k) ss := ⟨_, rfl⟩
      rw [← hl2] at HCS HLN R
      replace hl2 := Lib.hid hl2
      go_wp2_with (first
        | (refine wpList_load_mid rfl 23 (.tmp 48) rfl sb (so + 32 * k) rfl ((List.range 32).map fun i => Value.int .u8 (f i)) _ HSR.out Tryz.underlying23 rfl (by rw [List.length_map, List.length_range]; kernel_rfl) ?_)
        | (refine wpList_store_row rfl 23 (.tmp 11) (.tmp 49) rfl wr.heap.size (rowOf .u8 32 f) rfl rfl 23 _ (heap_alloc_new _ _) (by rw [rowOf_size]; kernel_rfl) rfl (rowOf_one _ _ _) ?_; rw [World.setRow_alloc_new]; have HR1 := Lib.hid (RowAt.new wr .u8 32 23 f); have HA := Lib.hid (below_alloc wr (.cells (rowOf .u8 32 f) 23)); replace R := Lib.hid (wkept_below R.out HA.out); replace M := Lib.hid (M.out.call HA.out); clear HA; generalize wr.alloc (.cells (rowOf .u8 32 f) 23) = w3 at *)
        | (refine wpList_load_row rfl 23 (.tmp 11) rfl wr.heap.size rfl 23 _ (0, 0) _ HR1.out Tryz.underlying23 rfl (by rw [rowOf_size]; kernel_rfl) ?_)
        | (go_at_call 99; (with_reducible refine (wstep_any f leaf (k : Int) (d : Int) 15 _ M.out.env).mono ?_); rintro e w4 ⟨rfl, HB3⟩; replace R := Lib.hid (wkept_below R.out HB3); replace M := Lib.hid (M.out.call HB3); clear HB3)
        | (refine wpList_store_row rfl 23 (.tmp 12) (.tmp 54) rfl w4.heap.size (rowOf .u8 32 (stepF f leaf (k : Int) (d : Int) 15)) rfl rfl 23 _ (heap_alloc_new _ _) (by rw [rowOf_size]; kernel_rfl) rfl (rowOf_one _ _ _) ?_; rw [World.setRow_alloc_new]; have HR := Lib.hid (RowAt.new w4 .u8 32 23 (stepF f leaf (k : Int) (d : Int) 15)); have HA := Lib.hid (below_alloc w4 (.cells (rowOf .u8 32 (stepF f leaf (k : Int) (d : Int) 15)) 23)); replace R := Lib.hid (wkept_below R.out HA.out); replace M := Lib.hid (M.out.call HA.out); clear HA; generalize w4.alloc (.cells (rowOf .u8 32 (stepF f leaf (k : Int) (d : Int) 15)) 23) = w5 at *)
        | (at_builtin; refine wpList_append_bytes rfl (.tmp 55) (.tmp 56) rfl rfl w2.heap.size _ l.length (byteVals l) rfl R.out _ (rowL 32 (stepF f leaf (k : Int) (d : Int) 15)) rfl (row_in HR.out (Nat.le_refl _) (Nat.le_refl _) (by simp [maxLen])) (by have := HLN.out; rw [rowL32]; omega) M.out.size ?_; intro v6 w6 ho hg _; replace M := Lib.hid (M.out.grown hg R.out); replace R := Lib.hid ho; clear ho hg))
      go_roundw
      case rel =>
        refine ⟨k + 1, by omega, by go_num, M, ?_⟩
        rw [HCS.out, List.length_append, byteVals_append]
        exact R
      case measure => simp [intOf]; omega
    · have HE := Lib.hid (show L.take k = L by rw [show k = L.length by rw [HNL.out]; omega, List.take_length])
      rw [HE.out, HL.out] at R
      clear HE
      have HXX := Lib.hid (owns_in R.out (by rw [endsF_length, digF_length, ← hnn.out]; unfold maxLen; omega))
      go_wp2_with (first
        | (go_at_call 101; (with_reducible refine (leaf_any _ _ _ HXX.out M.out.env).mono ?_); rintro e w3 ⟨rfl, HB2⟩; replace M := Lib.hid (M.out.call HB2); clear HB2)
        | (refine wpList_store_row rfl 23 (.tmp 6) (.tmp 60) rfl w.heap.size _ rfl rfl 23 _ M.out.at0 (by rw [rowOf_size]; kernel_rfl) (by rw [rowOf_size, rowOf_size]) (rowOf_one _ _ _) ?_))
      refine bodyPost_ret (results_cell_tmp_row rfl _ _ w.heap.size 23 (rowOf .u8 32 (fromF ss leaf xs)) (0, 0) _ rfl (setRow_heap _ _ _ _ _ _ M.out.at0) Tryz.underlying23 rfl (by rw [rowOf_size]; kernel_rfl)) rfl ?_
      exact ⟨rfl, below_setRow (H0.out.trans (M.out.below.mono H0.out.size)) (Nat.le_refl _) _⟩
end Go.Proofs.YtilpohdidekenaaGreatDoor
namespace Go.Proofs.YtilpohdidekenaaGreatDoor
set_option linter.unusedVariables false
set_option linter.unusedSimpArgs false
open Go.RowKit
set_option maxRecDepth 100000
theorem wp_copy_at' {P : Program} (w : World) {o : Oper} {a : Act} {K : Act → World → Prop} {Q : Exit → Act → World → Prop} (d s : Operand) (t t' : TypeId) {ty : TypeId}
    (ho : o.op = .call { callee := .builtin .copy, args := #[d, s], argTypes := #[t, t'] }) (hty : o.type = ty) (v u : Value) (hd : a.eval d = v) (hs : a.eval s = u) {v' : Value} {w' : World}
    (hr : (Builtin.copy_ #[t, t'] ty #[v, u]).run P w = .ok v' w') (h : K (a.put o.dst v') w') : o.wp P a w K Q := by
  unfold Oper.wp execOp
  simp only [ho, hty, resolve, invoke, builtin, Sem.run_bind, Sem.run_pure, Result.andThen_ok, List.map_toArray, List.map_cons, List.map_nil, hd, hs, hr]
  exact h
theorem owns_wideI {w : World} {base n : Nat} {v : Value} {vs : List Value} (h : w.ownsRow base 3 1 v n vs) : ∃ a c, v = .slice a n c := by
  rcases h.2 with ⟨rfl, h0⟩ | ⟨g, c, _, rfl, _⟩
  · exact ⟨none, 0, by rw [h0]⟩
  · exact ⟨_, c, rfl⟩
theorem copied32' (f : Nat → Int) (ys : List Int) (h : ¬ ys.length < 32) :
    ((rowOf .u8 32 f).toList.take 0 ++ byteVals (ys.take 32) ++ (rowOf .u8 32 f).toList.drop (0 + (byteVals (ys.take 32)).length)).toArray = rowOf .u8 32 (fun i => ys.getD i 0) := by
  have hl : (ys.take 32).length = 32 := by rw [List.length_take]; omega
  have hd : (rowOf .u8 32 f).toList.drop (0 + (byteVals (ys.take 32)).length) = [] := by
    apply List.drop_eq_nil_of_le
    rw [byteVals_length, hl, Array.length_toList, rowOf_size]; omega
  rw [hd, List.take_zero, List.nil_append, List.append_nil]
  unfold rowOf byteVals
  congr 1
  apply List.ext_getElem
  · simp only [List.length_map, List.length_range, hl]
  · intro i h1 h2
    have hi : i < 32 := by simpa using h2
    simp [List.getD, List.getElem?_eq_getElem (show i < ys.length by omega)]
set_option maxHeartbeats 1000000 in
theorem rfrom_no (vs : Value) (leaf : Int) (a : Option Addr) (n cap : Nat) (w : World) (h : ¬ (0 ≤ leaf ∧ leaf < 1024 ∧ 1 ≤ n ∧ n ≤ 32)) :
    Calls Tryz.prog 38 #[vs, .int .i64 leaf, .slice a n cap] w fun e w' => e = .returned (.tuple #[.agg (rowOf .u8 32 zF), .int .i64 1]) ∧ Below w.heap.size w w' := by
  have HB := Lib.hid (below_alloc w (.cells (rowOf .u8 32 zF) 23))
  have HR0 := Lib.hid (RowAt.new w .u8 32 23 zF)
  have HC := Lib.hid (show ¬ (0 ≤ leaf ∧ leaf < 1024 ∧ 1 ≤ (n : Int) ∧ (n : Int) ≤ 32) by omega)
  clear h
  go_enter Tryz.func38, Tryz.ntmps38
  go_upto_region 1 with (fail)
  rw [zeros32']
  generalize w.alloc (.cells (rowOf .u8 32 zF) 23) = w1 at *
  go_wp2_with (first
    | (go_at_call 69; (with_reducible refine (rcheck_no leaf _ _ HC.out).mono ?_); rintro e w' ⟨rfl, rfl⟩)
    | (refine wpList_store_row rfl 23 (.tmp 6) (.tmp 17) rfl w.heap.size (rowOf .u8 32 zF) rfl rfl 23 _ HR0.out (by rw [rowOf_size]; kernel_rfl) rfl (rowOf_one _ _ _) ?_))
  refine bodyPost_ret (results_cell_tmp_row rfl _ _ w.heap.size 23 (rowOf .u8 32 zF) (0, 0) _ rfl (setRow_heap _ _ _ _ _ _ HR0.out) Tryz.underlying23 rfl (by rw [rowOf_size]; kernel_rfl)) rfl ?_
  exact ⟨rfl, below_setRow HB.out (Nat.le_refl _) _⟩
set_option maxHeartbeats 1000000 in
theorem rfrom_long (sa : Option Addr) (ns cs : Nat) (leaf : Int) (v : Value) (xs : List Int) (w : World) (h : 0 ≤ leaf ∧ leaf < 1024) (hx : BytesIn w v xs) (hb : bytesOk xs) (hn : 1 ≤ xs.length ∧ xs.length ≤ 32) (hne : ns ≠ 32 * (2 * xs.length + 3)) :
    Calls Tryz.prog 38 #[.slice sa ns cs, .int .i64 leaf, v] w fun e w' => e = .returned (.tuple #[.agg (rowOf .u8 32 zF), .int .i64 2]) ∧ Below w.heap.size w w' := by
  have HB := Lib.hid (below_alloc w (.cells (rowOf .u8 32 zF) 23))
  have HR0 := Lib.hid (RowAt.new w .u8 32 23 zF)
  have HX := Lib.hid (hx.below HB.out)
  have HBO := Lib.hid hb
  have HXN := Lib.hid hn
  obtain ⟨a, cap, rfl, -, -, -⟩ := hx
  obtain ⟨n, hnn⟩ : ∃ n, n = xs.length := ⟨_, rfl⟩
  rw [← hnn] at HX hn hne ⊢
  have HC := Lib.hid (show 0 ≤ leaf ∧ leaf < 1024 ∧ 1 ≤ (n : Int) ∧ (n : Int) ≤ 32 by omega)
  have hnb := hn.2
  have HLN := Lib.hid (show (natInts (digF xs)).length = 2 * n + 3 by rw [natInts_length, digF_length, hnn])
  have hne1 : ((ns : Int) != 32 * ((2 * n + 3 : Nat) : Int)) = true := by rw [bne_iff_ne]; omega
  have hN67 : 2 * n + 3 ≤ 67 := by omega
  clear h hn hb hne hnn
  go_enter Tryz.func38, Tryz.ntmps38
  go_upto_region 1 with (fail)
  rw [zeros32']
  generalize w.alloc (.cells (rowOf .u8 32 zF) 23) = w1 at *
  go_wp2_with (first
    | (go_at_call 69; (with_reducible refine (rcheck_ok leaf _ _ HC.out).mono ?_); rintro e w' ⟨rfl, rfl⟩)
    | (go_at_call 70; (with_reducible refine (rdigits_ok _ xs _ HX.out HBO.out HXN.out.1 HXN.out.2).mono ?_); rintro e w2 ⟨vd, rfl, ho, hb2⟩; rw [HLN.out] at ho; obtain ⟨ad, cd, rfl⟩ := owns_wideI ho; replace HR0 := Lib.hid (HR0.out.below hb2 HR0.out.lt); replace HB := Lib.hid (HB.out.trans (hb2.mono HB.out.size)); clear ho hb2; generalize 2 * n + 3 = N at *)
    | (refine wpList_store_row rfl 23 (.tmp 6) (.tmp 26) rfl w.heap.size (rowOf .u8 32 zF) rfl rfl 23 _ HR0.out (by rw [rowOf_size]; kernel_rfl) rfl (rowOf_one _ _ _) ?_))
  refine bodyPost_ret (results_cell_tmp_row rfl _ _ w.heap.size 23 (rowOf .u8 32 zF) (0, 0) _ rfl (setRow_heap _ _ _ _ _ _ HR0.out) Tryz.underlying23 rfl (by rw [rowOf_size]; kernel_rfl)) rfl ?_
  exact ⟨rfl, below_setRow HB.out (Nat.le_refl _) _⟩
theorem sliceS2 (sb so ns cs k : Nat) (h1 : 32 * (k + 1) ≤ ns) (h2 : ns ≤ cs) (w : World) : (Instr.slice 26 (.slice (some ⟨sb, so, none⟩) ns cs) (some (.int .i64 (32 * (k : Int)))) none none).run Tryz.prog w = .ok (.slice (some ⟨sb, so + 32 * k, none⟩) (ns - 32 * k) (cs - 32 * k)) w := by
  have h := sliceBlo (some ⟨sb, so, none⟩) ns cs (32 * k) (by omega) w
  unfold cutA at h
  rw [if_neg (by omega)] at h
  simp only [Option.map_some] at h
  rw [Addr.add_mid, show ((32 * k : Nat) : Int) = 32 * (k : Int) by omega] at h
  exact h
theorem sliceH (b : Nat) (w : World) : (Instr.sliceAt 23 (.pointer (some ⟨b, 0, none⟩)) none none none).run Tryz.prog w = .ok (.slice (some ⟨b, 0, none⟩) 32 32) w := by
  have ha : Tryz.prog.arrayLen 23 = 32 := by kernel_rfl
  have he : Tryz.prog.elem 23 = 5 := by kernel_rfl
  have hs : (sizeOf 5).run Tryz.prog w = .ok 1 w := by kernel_rfl
  rw [run_sliceAt_array_all w 23 ⟨b, 0, none⟩ (by rw [ha, he]; exact Tryz.underlying23), ha, he, hs]
  simp only [Result.andThen_ok, slicedAt]
  rw [if_neg (by omega), Addr.add_mid]
structure FrM (w2 w' : World) (b : Nat) (gb go : Nat) (L : List Nat) (s : Value) (l : List Int) (gv : Nat) (F : Nat → Int) : Prop where
  m : SgM w2 w' b zF gb go L s l
  v : RowAt w' gv .u8 32 23 F
theorem FrM.calls {w2 w' w3 : World} {b gb go gv : Nat} {L : List Nat} {s : Value} {l : List Int} {F : Nat → Int} (m : FrM w2 w' b gb go L s l gv F) (h : Below w'.heap.size w' w3) : FrM w2 w3 b gb go L s l gv F := ⟨m.m.calls h, m.v.below h m.v.lt⟩
set_option maxHeartbeats 4000000 in
theorem rfrom_ok (vs : Value) (ss : List Int) (leaf : Int) (v : Value) (xs : List Int) (w : World) (h : 0 ≤ leaf ∧ leaf < 1024) (hs : BytesIn w vs ss) (hx : BytesIn w v xs) (hb : bytesOk xs) (hn : 1 ≤ xs.length ∧ xs.length ≤ 32) (hsl : ss.length = 32 * (2 * xs.length + 3)) :
    Calls Tryz.prog 38 #[vs, .int .i64 leaf, v] w fun e w' => e = .returned (.tuple #[.agg (rowOf .u8 32 (fromF ss leaf xs)), .int .i64 0]) ∧ Below w.heap.size w w' := by
  have HA := Lib.hid (below_alloc w (.cells (rowOf .u8 32 zF) 23))
  have HV := Lib.hid (RowAt.new w .u8 32 23 zF)
  have HX := Lib.hid (hx.below HA.out)
  have HSI := Lib.hid (hs.below HA.out)
  have HBO := Lib.hid hb
  have HXN := Lib.hid hn
  obtain ⟨a, cap, rfl, -, -, -⟩ := hx
  obtain ⟨sa, scap, rfl, -, -, -⟩ := hs
  obtain ⟨n, hnn⟩ : ∃ n, n = xs.length := ⟨_, rfl⟩
  obtain ⟨ns, hns⟩ : ∃ ns, ns = ss.length := ⟨_, rfl⟩
  rw [← hnn] at HX hn hsl ⊢
  rw [← hns] at HSI hsl ⊢
  have HC := Lib.hid (show 0 ≤ leaf ∧ leaf < 1024 ∧ 1 ≤ (n : Int) ∧ (n : Int) ≤ 32 by omega)
  have HSL := Lib.hid hsl
  replace hnn := Lib.hid hnn
  replace hns := Lib.hid hns
  clear h hn hb hsl
  go_enter Tryz.func38, Tryz.ntmps38
  go_upto_region 1 with (fail)
  rw [zeros32']
  generalize w.alloc (.cells (rowOf .u8 32 zF) 23) = w1 at *
  go_upto_region 4 with (first
    | (go_at_call 69; (with_reducible refine (rcheck_ok leaf _ _ HC.out).mono ?_); rintro e w' ⟨rfl, rfl⟩)
    | (go_at_call 70; (with_reducible refine (rdigits_ok _ xs _ HX.out HBO.out HXN.out.1 HXN.out.2).mono ?_); rintro e w2 ⟨vd, rfl, ho, hb2⟩; obtain ⟨ad, cd, rfl, -, -, hcell⟩ := owns_ints ho (by rw [natInts_length, digF_length]; unfold maxLen; have := HXN.out; omega); have HCC := Lib.hid hcell; have H0 := Lib.hid (HA.out.trans (hb2.mono HA.out.size)); replace HV := Lib.hid (HV.out.below hb2 HV.out.lt); replace HSI := Lib.hid (HSI.out.below hb2); clear hcell ho hb2))
  obtain ⟨L, hL⟩ : ∃ L, L = digF xs := ⟨_, rfl⟩
  have HL := Lib.hid hL
  rw [← hL] at HCC ⊢
  obtain ⟨N, hN⟩ : ∃ N, N = (natInts L).length := ⟨_, rfl⟩
  have HNL := Lib.hid (show L.length = N by rw [hN, natInts_length])
  have HN3 := Lib.hid (show N = 2 * n + 3 by rw [← HNL.out, HL.out, digF_length, ← hnn.out])
  rw [← hN]
  clear hL hN
  have hN67 : N ≤ 67 := by have := HN3.out; have := hnn.out; have := HXN.out; omega
  have hnsN : ns = 32 * N := by rw [HN3.out]; exact HSL.out
  have HNS := Lib.hid hnsN
  have hne1 : ((ns : Int) != 32 * (N : Int)) = false := by rw [hnsN]; simp
  replace HCC := HCC.out
  rcases HCC with h0 | ⟨gb, go, rfl, hcell⟩
  · exfalso
    have h1 := natInts_length L
    rw [h0] at h1
    have h2 := HNL.out
    have h3 := HN3.out
    simp at h1
    omega
  have hgb : gb < w2.heap.size := by
    obtain ⟨d, hd⟩ : ∃ d, L[0]? = some d := ⟨_, List.getElem?_eq_getElem (by rw [HNL.out]; have := HN3.out; omega)⟩
    exact World.block_lt_of_cell? w2 _ (hcell 0 (d : Int) (nat_get L 0 d hd))
  have M := Lib.hid (show SgM w2 w2 w.heap.size zF gb go L (.slice none 0 0) [] from ⟨Below.refl _ _, HV.out, HV.out.lt, hgb, hcell, nil_in w2⟩)
  clear hcell HV hgb
  have hsi := HSI.out
  obtain ⟨sa', scap', e, hsc, hsm, hcell⟩ := hsi
  injection e with e1 e2 e3
  subst e1 e3
  clear e2
  rcases hcell with h0 | ⟨sb, so, rfl, hcell⟩
  · exfalso
    have h1 := HNS.out
    have h2 := hns.out
    have h3 := HN3.out
    rw [h0] at h2
    simp at h2
    omega
  have HSC := Lib.hid hcell
  have HSM := Lib.hid (show ns ≤ scap by rw [hns.out]; exact hsc)
  clear hcell hsc hsm HSI hnsN
  go_wp2_with (fail)
  clear hne1
  go_loopw [9, 10] (fun s i wr => ∃ k : Nat, k ≤ N ∧ i = .int .i64 (k : Int) ∧ Hid (SgM w2 wr w.heap.size zF gb go L s (endsF leaf 0 (L.take k) ss))) (fun _ i _ => N - (intOf i).toNat)
  case atStart => exact ⟨0, Nat.zero_le _, rfl, by rw [List.take_zero]; exact M⟩
  case round =>
    clear M
    obtain ⟨k, hk, rfl, M⟩ := hrel
    by_cases hlt : k < N
    · obtain ⟨d, hd⟩ : ∃ d, L[k]? = some d := ⟨_, List.getElem?_eq_getElem (by rw [HNL.out]; exact hlt)⟩
      have HCS := Lib.hid (endsF_snoc leaf L k d ss hd)
      have HLN := Lib.hid (show (endsF leaf 0 (L.take k) ss).length ≤ 32 * 67 by rw [endsF_length, List.length_take]; omega)
      have HD := Lib.hid (nat_get L k d hd)
      clear hd
      have hk32 : 32 * (k + 1) ≤ ns := by have := HNS.out; omega
      have HSG := Lib.hid (show ¬ (ss.drop (32 * k)).length < 32 by rw [List.length_drop, ← hns.out]; omega)
      obtain ⟨F, hF⟩ : ∃ F : Nat → Int, F = fun i => (ss.drop (32 * k)).getD i 0 := ⟨_, rfl⟩
      have HCS2 : Hid (endsF leaf 0 (L.take (k + 1)) ss = endsF leaf 0 (L.take k) ss ++ rowL 32 (stepF F leaf (k : Int) (d : Int) 15)) := Lib.hid (by
        rw [HCS.out, hF]
        congr 1
        exact stepF_congr (fun i hi => by simp [List.getD, List.getElem?_take, hi]))
      have HFR := Lib.hid (show ((rowOf .u8 32 zF).toList.take 0 ++ byteVals ((ss.drop (32 * k)).take 32) ++ (rowOf .u8 32 zF).toList.drop (0 + (byteVals ((ss.drop (32 * k)).take 32)).length)).toArray = rowOf .u8 32 F by rw [hF]; exact copied32' zF _ HSG.out)
      clear hF HCS
      obtain ⟨l, hl2⟩ : ∃ l, l = endsF leaf 0 (L.take k) ss := ⟨_, rfl⟩
      rw [← hl2] at HCS2 HLN M
      clear hl2
      go_upto_region 11 with (fail)
      rw [zeros32']
      obtain ⟨gv, hgv⟩ : ∃ gv, gv = wr.heap.size := ⟨_, rfl⟩
      have HBV := Lib.hid ((below_alloc wr (.cells (rowOf .u8 32 zF) 23)).drew)
      have HRV := Lib.hid (show RowAt (wr.alloc (.cells (rowOf .u8 32 zF) 23)).drew wr.heap.size .u8 32 23 zF from RowAt.new wr .u8 32 23 zF)
      rw [← hgv] at HRV ⊢
      have HGV := Lib.hid (show wr.heap.size ≤ gv by omega)
      clear hgv
      have hslc := sliceS2 sb so ns scap k hk32 HSM.out
      have hsh := sliceH gv
      have mk : IntKind.i64.wrap (32 * (k : Int)) = 32 * (k : Int) := IntWalk.i64_in _ (by omega)
      refine wp_region_T (fun _ => True) [] (by kernel_rfl) ?_
      have HMV := Lib.hid (M.out.calls HBV.out)
      generalize (wr.alloc (.cells (rowOf .u8 32 zF) 23)).drew = w3 at *
      have HLS := Lib.hid (show ((ss.drop (32 * k)).take 32).length = 32 by rw [List.length_take]; have := HSG.out; omega)
      have hcp := run_copy_row (P := Tryz.prog) w3 26 26 3 5 gv 0 32 32 ⟨sb, so + 32 * k, none⟩ (ns - 32 * k) (scap - 32 * k) _ 23 (byteVals ((ss.drop (32 * k)).take 32)) Tryz.underlying26 (by kernel_rfl) HRV.out (by rw [byteVals_length, HLS.out]; show 32 = min (ns - 32 * k) 32; omega) (fun j v hv => by
          rw [Addr.add_mid]
          simp only [byteVals, List.getElem?_map] at hv
          cases hj : ((ss.drop (32 * k)).take 32)[j]? with
          | none => rw [hj] at hv; cases hv
          | some x =>
            rw [hj] at hv
            cases hv
            rw [List.getElem?_take] at hj
            split at hj
            · rw [List.getElem?_drop] at hj
              have h9 := HSC.out _ _ hj
              rw [Nat.add_assoc]
              exact (HMV.out.below.cell (p := ⟨sb, so + (32 * k + j), none⟩) (World.block_lt_of_cell? w2 _ h9)).trans h9
            · cases hj) (by rw [byteVals_length, HLS.out, rowOf_size]; omega) (byteVals_one _)
      rw [HFR.out] at hcp
      have HCP := Lib.hid hcp
      clear hcp
      refine anyT_takeY (i := 0) (v := .slice (some ⟨gv, 0, none⟩) 32 32) rfl (by kernel_rfl) (by kernel_rfl) (by kernel_rfl) (fun _ _ _ h => h) (by kernel_rfl) (Or.inl ⟨by rfl, fun w' => by have h1 := hsh w'; go_simp⟩) ?_
      try simp only [List.getElem_toArray, List.getElem_cons_succ, List.getElem_cons_zero, Act.put, List.setIfInBounds_toArray, List.set_cons_zero, List.set_cons_succ]
      refine anyT_takeY (i := 1) (v := .slice (some ⟨sb, so, none⟩) ns scap) rfl (by kernel_rfl) (by kernel_rfl) (by kernel_rfl) (fun _ _ _ h => h) (by kernel_rfl) (Or.inl ⟨by rfl, by intro w; go_simp⟩) ?_
      try simp only [List.getElem_toArray, List.getElem_cons_succ, List.getElem_cons_zero, Act.put, List.setIfInBounds_toArray, List.set_cons_zero, List.set_cons_succ]
      refine anyT_takeY (i := 2) (v := .int .i64 (k : Int)) rfl (by kernel_rfl) (by kernel_rfl) (by kernel_rfl) (fun _ _ _ h => h) (by kernel_rfl) (Or.inl ⟨by rfl, by intro w; go_simp⟩) ?_
      try simp only [List.getElem_toArray, List.getElem_cons_succ, List.getElem_cons_zero, Act.put, List.setIfInBounds_toArray, List.set_cons_zero, List.set_cons_succ]
      refine anyT_takeY (i := 3) (v := .int .i64 (32 * (k : Int))) rfl (by kernel_rfl) (by kernel_rfl) (by kernel_rfl) (fun _ _ _ h => h) (by kernel_rfl) (Or.inl ⟨by rfl, fun w' => by have h1 := mk; go_simp⟩) ?_
      try simp only [List.getElem_toArray, List.getElem_cons_succ, List.getElem_cons_zero, Act.put, List.setIfInBounds_toArray, List.set_cons_zero, List.set_cons_succ]
      refine anyT_takeY (i := 4) (v := .slice (some ⟨sb, so + 32 * k, none⟩) (ns - 32 * k) (scap - 32 * k)) rfl (by kernel_rfl) (by kernel_rfl) (by kernel_rfl) (fun _ _ _ h => h) (by kernel_rfl) (Or.inl ⟨by rfl, fun w' => by have h1 := hslc w'; go_simp⟩) ?_
      try simp only [List.getElem_toArray, List.getElem_cons_succ, List.getElem_cons_zero, Act.put, List.setIfInBounds_toArray, List.set_cons_zero, List.set_cons_succ]
      refine anyT_one (i := 5) (by kernel_rfl) rfl (fun K hK => ?_)
      rw [if_pos (by rfl)]
      try simp only [List.getElem_toArray, List.getElem_cons_succ, List.getElem_cons_zero]
      (refine wp_copy_at' w3 (.tmp 33) (.tmp 37) 26 26 rfl rfl _ _ rfl rfl HCP.out ?_)
      refine hK _ _ (not_mem rfl) ?_
      clear hK K
      try simp only [List.getElem_toArray, List.getElem_cons_succ, List.getElem_cons_zero, Act.put, List.setIfInBounds_toArray, List.set_cons_zero, List.set_cons_succ]
      refine anyT_done (by kernel_rfl) ?_ _
      clear HCP hslc hsh mk
      have HM4 := Lib.hid (show FrM w2 (w3.setRow gv (rowOf .u8 32 F)) w.heap.size gb go L u9 l gv F from ⟨M.out.calls (below_setRow HBV.out HGV.out _), setRow_heap _ _ _ _ _ _ HRV.out⟩)
      clear HMV HRV HBV M
      generalize w3.setRow gv (rowOf .u8 32 F) = w4 at *
      go_upto_region 12 with (fail)
      refine wp_region_T (fun w' => FrM w2 w' w.heap.size gb go L u9 l gv F) [1, 7, 8, 9] (by kernel_rfl) ?_
      replace HM4 := Lib.hid (show FrM w2 w4.drew w.heap.size gb go L u9 l gv F from HM4.out.calls (Below.refl _ _).drew)
      generalize w4.drew = w5 at *
      refine anyT_takeY (i := 0) (v := u9) rfl (by kernel_rfl) (by kernel_rfl) (by kernel_rfl) (fun _ _ _ h => h) (by kernel_rfl) (Or.inl ⟨by rfl, by intro w; go_simp⟩) ?_
      try simp only [List.getElem_toArray, List.getElem_cons_succ, List.getElem_cons_zero, Act.put, List.setIfInBounds_toArray, List.set_cons_zero, List.set_cons_succ]
      refine anyT_takeY (i := 2) (v := .int .i64 leaf) rfl (by kernel_rfl) (by kernel_rfl) (by kernel_rfl) (fun _ _ _ h => h) (by kernel_rfl) (Or.inl ⟨by rfl, by intro w; go_simp⟩) ?_
      try simp only [List.getElem_toArray, List.getElem_cons_succ, List.getElem_cons_zero, Act.put, List.setIfInBounds_toArray, List.set_cons_zero, List.set_cons_succ]
      refine anyT_takeY (i := 3) (v := .int .i64 (k : Int)) rfl (by kernel_rfl) (by kernel_rfl) (by kernel_rfl) (fun _ _ _ h => h) (by kernel_rfl) (Or.inl ⟨by rfl, by intro w; go_simp⟩) ?_
      try simp only [List.getElem_toArray, List.getElem_cons_succ, List.getElem_cons_zero, Act.put, List.setIfInBounds_toArray, List.set_cons_zero, List.set_cons_succ]
      refine anyT_takeY (i := 4) (v := .slice (some ⟨gb, go, none⟩) N cd) rfl (by kernel_rfl) (by kernel_rfl) (by kernel_rfl) (fun _ _ _ h => h) (by kernel_rfl) (Or.inl ⟨by rfl, by intro w; go_simp⟩) ?_
      try simp only [List.getElem_toArray, List.getElem_cons_succ, List.getElem_cons_zero, Act.put, List.setIfInBounds_toArray, List.set_cons_zero, List.set_cons_succ]
      refine anyT_takeY (i := 5) (v := .int .i64 (k : Int)) rfl (by kernel_rfl) (by kernel_rfl) (by kernel_rfl) (fun _ _ _ h => h) (by kernel_rfl) (Or.inl ⟨by rfl, by intro w; go_simp⟩) ?_
      try simp only [List.getElem_toArray, List.getElem_cons_succ, List.getElem_cons_zero, Act.put, List.setIfInBounds_toArray, List.set_cons_zero, List.set_cons_succ]
      refine anyT_takeY (i := 6) (v := .pointer (some ⟨gb, go + k, none⟩)) rfl (by kernel_rfl) (by kernel_rfl) (by kernel_rfl) (fun _ _ _ h => h) (by kernel_rfl) (Or.inl ⟨by rfl, by intro w; go_simp⟩) ?_
      try simp only [List.getElem_toArray, List.getElem_cons_succ, List.getElem_cons_zero, Act.put, List.setIfInBounds_toArray, List.set_cons_zero, List.set_cons_succ]
      refine anyT_take [8, 9, 10] (i := 1) (v := .agg (rowOf .u8 32 F)) rfl (by kernel_rfl) (by kernel_rfl) (by kernel_rfl) (fun _ _ _ h => h) (by kernel_rfl) (row_yields (by rfl) 23 (.tmp 11) rfl gv rfl .u8 32 F _ (fun _ h => h.v) Tryz.underlying23 rfl (by kernel_rfl)) HM4.out ?_
      try simp only [List.getElem_toArray, List.getElem_cons_succ, List.getElem_cons_zero, Act.put, List.setIfInBounds_toArray, List.set_cons_zero, List.set_cons_succ]
      refine anyT_take [8, 9, 10] (i := 7) (v := .int .i64 (d : Int)) rfl (by kernel_rfl) (by kernel_rfl) (by kernel_rfl) (fun _ _ _ h => h) (by kernel_rfl) (Or.inl ⟨by rfl, fun w' hS => by have c1 := hS.m.cells k (d : Int) HD.out; go_simp⟩) HM4.out ?_
      try simp only [List.getElem_toArray, List.getElem_cons_succ, List.getElem_cons_zero, Act.put, List.setIfInBounds_toArray, List.set_cons_zero, List.set_cons_succ]
      refine anyT_one (i := 8) (by kernel_rfl) rfl (fun K hK => ?_)
      rw [if_pos (by rfl)]
      try simp only [List.getElem_toArray, List.getElem_cons_succ, List.getElem_cons_zero]
      (go_simp; refine (rstep_any F leaf (k : Int) (d : Int) 15 _).mono ?_; rintro e w6 ⟨rfl, hb⟩; replace HM4 := Lib.hid (HM4.out.calls hb); clear hb)
      refine hK _ _ (fun _ => HM4.out) ?_
      clear hK K
      try simp only [List.getElem_toArray, List.getElem_cons_succ, List.getElem_cons_zero, Act.put, List.setIfInBounds_toArray, List.set_cons_zero, List.set_cons_succ]
      refine anyT_one (i := 9) (by kernel_rfl) rfl (fun K hK => ?_)
      rw [if_pos (by rfl)]
      try simp only [List.getElem_toArray, List.getElem_cons_succ, List.getElem_cons_zero]
      (go_simp; refine (dHash_in _ l _ _ HM4.out.m.bytes (by have := HLN.out; omega)).mono ?_; rintro e w7 ⟨v7, rfl, hi, hb⟩; replace HM4 := Lib.hid (HM4.out.calls hb); have M2 := Lib.hid (HM4.out.m.with hi); clear hi hb)
      refine hK _ _ (fun _ => HM4.out) ?_
      clear hK K
      try simp only [List.getElem_toArray, List.getElem_cons_succ, List.getElem_cons_zero, Act.put, List.setIfInBounds_toArray, List.set_cons_zero, List.set_cons_succ]
      refine anyT_takeY (i := 10) (v := v7) rfl (by kernel_rfl) (by kernel_rfl) (by kernel_rfl) (fun _ _ _ h => h) (by kernel_rfl) (Or.inl ⟨by rfl, by intro w; go_simp⟩) ?_
      try simp only [List.getElem_toArray, List.getElem_cons_succ, List.getElem_cons_zero, Act.put, List.setIfInBounds_toArray, List.set_cons_zero, List.set_cons_succ]
      refine anyT_done (by kernel_rfl) ?_ _
      go_wp2_with (fail)
      go_roundw
      case rel =>
        refine ⟨k + 1, by omega, by go_num, ?_⟩
        rw [HCS2.out]
        exact M2
      case measure => simp [intOf]; omega
    · have HE := Lib.hid (show L.take k = L by rw [show k = L.length by rw [HNL.out]; omega, List.take_length])
      rw [HE.out, HL.out] at M
      clear HE
      go_wp2_with (first
        | (go_at_call 73; (with_reducible refine (rleaf_any _ _ _ M.out.bytes (by rw [endsF_length, digF_length]; have := HXN.out; omega)).mono ?_); rintro e w3 ⟨rfl, hb⟩; replace M := Lib.hid (M.out.calls hb); clear hb)
        | (refine wpList_store_row rfl 23 (.tmp 6) (.tmp 50) rfl w.heap.size _ rfl rfl 23 _ M.out.val (by rw [rowOf_size]; kernel_rfl) (by rw [rowOf_size, rowOf_size]) (rowOf_one _ _ _) ?_))
      refine bodyPost_ret (results_cell_tmp_row rfl _ _ w.heap.size 23 (rowOf .u8 32 (fromF ss leaf xs)) (0, 0) _ rfl (setRow_heap _ _ _ _ _ _ M.out.val) Tryz.underlying23 rfl (by rw [rowOf_size]; kernel_rfl)) rfl ?_
      exact ⟨rfl, below_setRow (H0.out.trans (M.out.below.mono H0.out.size)) (Nat.le_refl _) _⟩
end Go.Proofs.YtilpohdidekenaaGreatDoor
