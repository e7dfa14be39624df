/- Part 34 of the proof. -/
import Derived.BigFrame
import Derived.ProofKit
import Derived.OpenShut
import Derived.Deep.Slices
import Derived.SizedLaws
import Derived.Deep.DeepCutAuto
import Derived.Test.YtejglhlodfhgkaaGreatDoorXv1
import Derived.Test.YtejglhlodfhgkaaGreatDoorXv3
import Derived.Test.YtejglhlodfhgkaaGreatDoorXv6
import Derived.Test.YtejglhlodfhgkaaGreatDoorXv33
namespace Go.Proofs.YtejglhlodfhgkaaGreatDoor
set_option linter.unusedVariables false
set_option linter.unusedSimpArgs false
open Go.RowKit
set_option maxRecDepth 100000
theorem wp_copy_at' {P : Program} (w : World) {o : Oper} {a : Act} {K : Act → World → Prop} {Q : Exit → Act → World → Prop} (d s : Operand) (t t' : TypeId) {ty : TypeId}
    (ho : o.op = .call { callee := .builtin .copy, args := #[d, s], argTypes := #[t, t'] }) (hty : o.type = ty) (v u : Value) (hd : a.eval d = v) (hs : a.eval s = u) {v' : Value} {w' : World}
    (hr : (Builtin.copy_ #[t, t'] ty #[v, u]).run P w = .ok v' w') (h : K (a.put o.dst v') w') : o.wp P a w K Q := by
  unfold Oper.wp execOp
  simp only [ho, hty, resolve, invoke, builtin, Sem.run_bind, Sem.run_pure, Result.andThen_ok, List.map_toArray, List.map_cons, List.map_nil, hd, hs, hr]
  exact h
theorem owns_wideI {w : World} {base n : Nat} {v : Value} {vs : List Value} (h : w.ownsRow base 3 1 v n vs) : ∃ a c, v = .slice a n c := by
  rcases h.2 with ⟨rfl, h0⟩ | ⟨g, c, _, rfl, _⟩
  · exact ⟨none, 0, by rw [h0]⟩
  · exact ⟨_, c, rfl⟩
theorem copied32' (f : Nat → Int) (ys : List Int) (h : ¬ ys.length < 32) :
    ((rowOf .u8 32 f).toList.take 0 ++ byteVals (ys.take 32) ++ (rowOf .u8 32 f).toList.drop (0 + (byteVals (ys.take 32)).length)).toArray = rowOf .u8 32 (fun i => ys.getD i 0) := by
  have hl : (ys.take 32).length = 32 := by rw [List.length_take]; omega
  have hd : (rowOf .u8 32 f).toList.drop (0 + (byteVals (ys.take 32)).length) = [] := by
    apply List.drop_eq_nil_of_le
    rw [byteVals_length, hl, Array.length_toList, rowOf_size]; omega
  rw [hd, List.take_zero, List.nil_append, List.append_nil]
  unfold rowOf byteVals
  congr 1
  apply List.ext_getElem
  · simp only [List.length_map, List.length_range, hl]
  · intro i h1 h2
    have hi : i < 32 := by simpa using h2
    simp [List.getD, List.getElem?_eq_getElem (show i < ys.length by omega)]
set_option maxHeartbeats 1000000 in
theorem rfrom_no (vs : Value) (leaf : Int) (a : Option Addr) (n cap : Nat) (w : World) (h : ¬ (0 ≤ leaf ∧ leaf < 1024 ∧ 1 ≤ n ∧ n ≤ 32)) :
    Calls Tryz.prog 154 #[vs, .int .i64 leaf, .slice a n cap] w fun e w' => e = .returned (.tuple #[.agg (rowOf .u8 32 zF), .int .i64 1]) ∧ Below w.heap.size w w' := by
  have HB := Lib.hid (below_alloc w (.cells (rowOf .u8 32 zF) 53))
  have HR0 := Lib.hid (RowAt.new w .u8 32 53 zF)
  have HC := Lib.hid (show ¬ (0 ≤ leaf ∧ leaf < 1024 ∧ 1 ≤ (n : Int) ∧ (n : Int) ≤ 32) by omega)
  clear h
  go_enter Tryz.func154, Tryz.ntmps154
  go_upto_region 1 with (fail)
  rw [zeros32']
  generalize w.alloc (.cells (rowOf .u8 32 zF) 53) = w1 at *
  go_wp2_with (first
    | (go_at_call 202; (with_reducible refine (rcheck_no leaf _ _ HC.out).mono ?_); rintro e w' ⟨rfl, rfl⟩)
    | (refine wpList_store_row rfl 53 (.tmp 6) (.tmp 17) rfl w.heap.size (rowOf .u8 32 zF) rfl rfl 53 _ HR0.out (by rw [rowOf_size]; kernel_rfl) rfl (rowOf_one _ _ _) ?_))
  refine bodyPost_ret (results_cell_tmp_row rfl _ _ w.heap.size 53 (rowOf .u8 32 zF) (0, 0) _ rfl (setRow_heap _ _ _ _ _ _ HR0.out) Tryz.underlying53 rfl (by rw [rowOf_size]; kernel_rfl)) rfl ?_
  exact ⟨rfl, below_setRow HB.out (Nat.le_refl _) _⟩
set_option maxHeartbeats 1000000 in
theorem rfrom_long (sa : Option Addr) (ns cs : Nat) (leaf : Int) (v : Value) (xs : List Int) (w : World) (h : 0 ≤ leaf ∧ leaf < 1024) (hx : BytesIn w v xs) (hb : bytesOk xs) (hn : 1 ≤ xs.length ∧ xs.length ≤ 32) (hne : ns ≠ 32 * (2 * xs.length + 3)) :
    Calls Tryz.prog 154 #[.slice sa ns cs, .int .i64 leaf, v] w fun e w' => e = .returned (.tuple #[.agg (rowOf .u8 32 zF), .int .i64 2]) ∧ Below w.heap.size w w' := by
  have HB := Lib.hid (below_alloc w (.cells (rowOf .u8 32 zF) 53))
  have HR0 := Lib.hid (RowAt.new w .u8 32 53 zF)
  have HX := Lib.hid (hx.below HB.out)
  have HBO := Lib.hid hb
  have HXN := Lib.hid hn
  obtain ⟨a, cap, rfl, -, -, -⟩ := hx
  obtain ⟨n, hnn⟩ : ∃ n, n = xs.length := ⟨_, rfl⟩
  rw [← hnn] at HX hn hne ⊢
  have HC := Lib.hid (show 0 ≤ leaf ∧ leaf < 1024 ∧ 1 ≤ (n : Int) ∧ (n : Int) ≤ 32 by omega)
  have hnb := hn.2
  have HLN := Lib.hid (show (natInts (digF xs)).length = 2 * n + 3 by rw [natInts_length, digF_length, hnn])
  have hne1 : ((ns : Int) != 32 * ((2 * n + 3 : Nat) : Int)) = true := by rw [bne_iff_ne]; omega
  have hN67 : 2 * n + 3 ≤ 67 := by omega
  clear h hn hb hne hnn
  go_enter Tryz.func154, Tryz.ntmps154
  go_upto_region 1 with (fail)
  rw [zeros32']
  generalize w.alloc (.cells (rowOf .u8 32 zF) 53) = w1 at *
  go_wp2_with (first
    | (go_at_call 202; (with_reducible refine (rcheck_ok leaf _ _ HC.out).mono ?_); rintro e w' ⟨rfl, rfl⟩)
    | (go_at_call 209; (with_reducible refine (rdigits_ok _ xs _ HX.out HBO.out HXN.out.1 HXN.out.2).mono ?_); rintro e w2 ⟨vd, rfl, ho, hb2⟩; rw [HLN.out] at ho; obtain ⟨ad, cd, rfl⟩ := owns_wideI ho; replace HR0 := Lib.hid (HR0.out.below hb2 HR0.out.lt); replace HB := Lib.hid (HB.out.trans (hb2.mono HB.out.size)); clear ho hb2; generalize 2 * n + 3 = N at *)
    | (refine wpList_store_row rfl 53 (.tmp 6) (.tmp 26) rfl w.heap.size (rowOf .u8 32 zF) rfl rfl 53 _ HR0.out (by rw [rowOf_size]; kernel_rfl) rfl (rowOf_one _ _ _) ?_))
  refine bodyPost_ret (results_cell_tmp_row rfl _ _ w.heap.size 53 (rowOf .u8 32 zF) (0, 0) _ rfl (setRow_heap _ _ _ _ _ _ HR0.out) Tryz.underlying53 rfl (by rw [rowOf_size]; kernel_rfl)) rfl ?_
  exact ⟨rfl, below_setRow HB.out (Nat.le_refl _) _⟩
theorem sliceS2 (sb so ns cs k : Nat) (h1 : 32 * (k + 1) ≤ ns) (h2 : ns ≤ cs) (w : World) : (Instr.slice 25 (.slice (some ⟨sb, so, none⟩) ns cs) (some (.int .i64 (32 * (k : Int)))) none none).run Tryz.prog w = .ok (.slice (some ⟨sb, so + 32 * k, none⟩) (ns - 32 * k) (cs - 32 * k)) w := by
  have h := sliceBlo (some ⟨sb, so, none⟩) ns cs (32 * k) (by omega) w
  unfold cutA at h
  rw [if_neg (by omega)] at h
  simp only [Option.map_some] at h
  rw [Addr.add_mid, show ((32 * k : Nat) : Int) = 32 * (k : Int) by omega] at h
  exact h
theorem sliceH (b : Nat) (w : World) : (Instr.sliceAt 53 (.pointer (some ⟨b, 0, none⟩)) none none none).run Tryz.prog w = .ok (.slice (some ⟨b, 0, none⟩) 32 32) w := by
  have ha : Tryz.prog.arrayLen 53 = 32 := by kernel_rfl
  have he : Tryz.prog.elem 53 = 5 := by kernel_rfl
  have hs : (sizeOf 5).run Tryz.prog w = .ok 1 w := by kernel_rfl
  rw [run_sliceAt_array_all w 53 ⟨b, 0, none⟩ (by rw [ha, he]; exact Tryz.underlying53), ha, he, hs]
  simp only [Result.andThen_ok, slicedAt]
  rw [if_neg (by omega), Addr.add_mid]
structure FrM (w2 w' : World) (b : Nat) (gb go : Nat) (L : List Nat) (s : Value) (l : List Int) (gv : Nat) (F : Nat → Int) : Prop where
  m : SgM w2 w' b zF gb go L s l
  v : RowAt w' gv .u8 32 53 F
theorem FrM.calls {w2 w' w3 : World} {b gb go gv : Nat} {L : List Nat} {s : Value} {l : List Int} {F : Nat → Int} (m : FrM w2 w' b gb go L s l gv F) (h : Below w'.heap.size w' w3) : FrM w2 w3 b gb go L s l gv F := ⟨m.m.calls h, m.v.below h m.v.lt⟩
set_option maxHeartbeats 4000000 in
theorem rfrom_ok (vs : Value) (ss : List Int) (leaf : Int) (v : Value) (xs : List Int) (w : World) (h : 0 ≤ leaf ∧ leaf < 1024) (hs : BytesIn w vs ss) (hx : BytesIn w v xs) (hb : bytesOk xs) (hn : 1 ≤ xs.length ∧ xs.length ≤ 32) (hsl : ss.length = 32 * (2 * xs.length + 3)) :
    Calls Tryz.prog 154 #[vs, .int .i64 leaf, v] w fun e w' => e = .returned (.tuple #[.agg (rowOf .u8 32 (fromF ss leaf xs)), .int .i64 0]) ∧ Below w.heap.size w w' := by
  have HA := Lib.hid (below_alloc w (.cells (rowOf .u8 32 zF) 53))
  have HV := Lib.hid (RowAt.new w .u8 32 53 zF)
  have HX := Lib.hid (hx.below HA.out)
  have HSI := Lib.hid (hs.below HA.out)
  have HBO := Lib.hid hb
  have HXN := Lib.hid hn
  obtain ⟨a, cap, rfl, -, -, -⟩ := hx
  obtain ⟨sa, scap, rfl, -, -, -⟩ := hs
  obtain ⟨n, hnn⟩ : ∃ n, n = xs.length := ⟨_, rfl⟩
  obtain ⟨ns, hns⟩ : ∃ ns, ns = ss.length := ⟨_, rfl⟩
  rw [← hnn] at HX hn hsl ⊢
  rw [← hns] at HSI hsl ⊢
  have HC := Lib.hid (show 0 ≤ leaf ∧ leaf < 1024 ∧ 1 ≤ (n : Int) ∧ (n : Int) ≤ 32 by omega)
  have HSL := Lib.hid hsl
  replace hnn := Lib.hid hnn
  replace hns := Lib.hid hns
  clear h hn hb hsl
  go_enter Tryz.func154, Tryz.ntmps154
  go_upto_region 1 with (fail)
  rw [zeros32']
  generalize w.alloc (.cells (rowOf .u8 32 zF) 53) = w1 at *
  go_upto_region 4 with (first
    | (go_at_call 202; (with_reducible refine (rcheck_ok leaf _ _ HC.out).mono ?_); rintro e w' ⟨rfl, rfl⟩)
    | (go_at_call 209; (with_reducible refine (rdigits_ok _ xs _ HX.out HBO.out HXN.out.1 HXN.out.2).mono ?_); rintro e w2 ⟨vd, rfl, ho, hb2⟩; obtain ⟨ad, cd, rfl, -, -, hcell⟩ := owns_ints ho (by rw [natInts_length, digF_length]; unfold maxLen; have := HXN.out; omega); have HCC := Lib.hid hcell; have H0 := Lib.hid (HA.out.trans (hb2.mono HA.out.size)); replace HV := Lib.hid (HV.out.below hb2 HV.out.lt); replace HSI := Lib.hid (HSI.out.below hb2); clear hcell ho hb2))
  obtain ⟨L, hL⟩ : ∃ L, L = digF xs := ⟨_, rfl⟩
  have HL := Lib.hid hL
  rw [← hL] at HCC ⊢
  obtain ⟨N, hN⟩ : ∃ N, N = (natInts L).length := ⟨_, rfl⟩
  have HNL := Lib.hid (show L.length = N by rw [hN, natInts_length])
  have HN3 := Lib.hid (show N = 2 * n + 3 by rw [← HNL.out, HL.out, digF_length, ← hnn.out])
  rw [← hN]
  clear hL hN
  have hN67 : N ≤ 67 := by have := HN3.out; have := hnn.out; have := HXN.out; omega
  have hnsN : ns = 32 * N := by rw [HN3.out]; exact HSL.out
  have HNS := Lib.hid hnsN
  have hne1 : ((ns : Int) != 32 * (N : Int)) = false := by rw [hnsN]; simp
  replace HCC := HCC.out
  rcases HCC with h0 | ⟨gb, go, rfl, hcell⟩
  · exfalso
    have h1 := natInts_length L
    rw [h0] at h1
    have h2 := HNL.out
    have h3 := HN3.out
    simp at h1
    omega
  have hgb : gb < w2.heap.size := by
    obtain ⟨d, hd⟩ : ∃ d, L[0]? = some d := ⟨_, List.getElem?_eq_getElem (by rw [HNL.out]; have := HN3.out; omega)⟩
    exact World.block_lt_of_cell? w2 _ (hcell 0 (d : Int) (nat_get L 0 d hd))
  have M := Lib.hid (show SgM w2 w2 w.heap.size zF gb go L (.slice none 0 0) [] from ⟨Below.refl _ _, HV.out, HV.out.lt, hgb, hcell, nil_in w2⟩)
  clear hcell HV hgb
  have hsi := HSI.out
  obtain ⟨sa', scap', e, hsc, hsm, hcell⟩ := hsi
  injection e with e1 e2 e3
  subst e1 e3
  clear e2
  rcases hcell with h0 | ⟨sb, so, rfl, hcell⟩
  · exfalso
    have h1 := HNS.out
    have h2 := hns.out
    have h3 := HN3.out
    rw [h0] at h2
    simp at h2
    omega
  have HSC := Lib.hid hcell
  have HSM := Lib.hid (show ns ≤ scap by rw [hns.out]; exact hsc)
  clear hcell hsc hsm HSI hnsN
  go_wp2_with (fail)
  clear hne1
  go_loopw [9, 10] (fun s i wr => ∃ k : Nat, k ≤ N ∧ i = .int .i64 (k : Int) ∧ Hid (SgM w2 wr w.heap.size zF gb go L s (endsF leaf 0 (L.take k) ss))) (fun _ i _ => N - (intOf i).toNat)
  case atStart => exact ⟨0, Nat.zero_le _, rfl, by rw [List.take_zero]; exact M⟩
  case round =>
    clear M
    obtain ⟨k, hk, rfl, M⟩ := hrel
    by_cases hlt : k < N
    · obtain ⟨d, hd⟩ : ∃ d, L[k]? = some d := ⟨_, List.getElem?_eq_getElem (by rw [HNL.out]; exact hlt)⟩
      have HCS := Lib.hid (endsF_snoc leaf L k d ss hd)
      have HLN := Lib.hid (show (endsF leaf 0 (L.take k) ss).length ≤ 32 * 67 by rw [endsF_length, List.length_take]; omega)
      have HD := Lib.hid (nat_get L k d hd)
      clear hd
      have hk32 : 32 * (k + 1) ≤ ns := by have := HNS.out; omega
      have HSG := Lib.hid (show ¬ (ss.drop (32 * k)).length < 32 by rw [List.length_drop, ← hns.out]; omega)
      obtain ⟨F, hF⟩ : ∃ F : Nat → Int, F = fun i => (ss.drop (32 * k)).getD i 0 := ⟨_, rfl⟩
      have HCS2 : Hid (endsF leaf 0 (L.take (k + 1)) ss = endsF leaf 0 (L.take k) ss ++ rowL 32 (stepF F leaf (k : Int) (d : Int) 15)) := Lib.hid (by
        rw [HCS.out, hF]
        congr 1
        exact stepF_congr (fun i hi => by simp [List.getD, List.getElem?_take, hi]))
      have HFR := Lib.hid (show ((rowOf .u8 32 zF).toList.take 0 ++ byteVals ((ss.drop (32 * k)).take 32) ++ (rowOf .u8 32 zF).toList.drop (0 + (byteVals ((ss.drop (32 * k)).take 32)).length)).toArray = rowOf .u8 32 F by rw [hF]; exact copied32' zF _ HSG.out)
      clear hF HCS
      obtain ⟨l, hl2⟩ : ∃ l, l = endsF leaf 0 (L.take k) ss := ⟨_, rfl⟩
      rw [← hl2] at HCS2 HLN M
      clear hl2
      go_upto_region 11 with (fail)
      rw [zeros32']
      obtain ⟨gv, hgv⟩ : ∃ gv, gv = wr.heap.size := ⟨_, rfl⟩
      have HBV := Lib.hid ((below_alloc wr (.cells (rowOf .u8 32 zF) 53)).drew)
      have HRV := Lib.hid (show RowAt (wr.alloc (.cells (rowOf .u8 32 zF) 53)).drew wr.heap.size .u8 32 53 zF from RowAt.new wr .u8 32 53 zF)
      rw [← hgv] at HRV ⊢
      have HGV := Lib.hid (show wr.heap.size ≤ gv by omega)
      clear hgv
      have hslc := sliceS2 sb so ns scap k hk32 HSM.out
      have hsh := sliceH gv
      have mk : IntKind.i64.wrap (32 * (k : Int)) = 32 * (k : Int) := IntWalk.i64_in _ (by omega)
      refine wp_region_T (fun _ => True) [] (by kernel_rfl) ?_
      have HMV := Lib.hid (M.out.calls HBV.out)
      generalize (wr.alloc (.cells (rowOf .u8 32 zF) 53)).drew = w3 at *
      have HLS := Lib.hid (show ((ss.drop (32 * k)).take 32).length = 32 by rw [List.length_take]; have := HSG.out; omega)
      have hcp := run_copy_row (P := Tryz.prog) w3 25 25 3 5 gv 0 32 32 ⟨sb, so + 32 * k, none⟩ (ns - 32 * k) (scap - 32 * k) _ 53 (byteVals ((ss.drop (32 * k)).take 32)) Tryz.underlying25 (by kernel_rfl) HRV.out (by rw [byteVals_length, HLS.out]; show 32 = min (ns - 32 * k) 32; omega) (fun j v hv => by
          rw [Addr.add_mid]
          simp only [byteVals, List.getElem?_map] at hv
          cases hj : ((ss.drop (32 * k)).take 32)[j]? with
          | none => rw [hj] at hv; cases hv
          | some x =>
            rw [hj] at hv
            cases hv
            rw [List.getElem?_take] at hj
            split at hj
            · rw [List.getElem?_drop] at hj
              have h9 := HSC.out _ _ hj
              rw [Nat.add_assoc]
              exact (HMV.out.below.cell (p := ⟨sb, so + (32 * k + j), none⟩) (World.block_lt_of_cell? w2 _ h9)).trans h9
            · cases hj) (by rw [byteVals_length, HLS.out, rowOf_size]; omega) (byteVals_one _)
      rw [HFR.out] at hcp
      have HCP := Lib.hid hcp
      clear hcp
      refine anyT_takeY (i := 0) (v := .slice (some ⟨gv, 0, none⟩) 32 32) rfl (by kernel_rfl) (by kernel_rfl) (by kernel_rfl) (fun _ _ _ h => h) (by kernel_rfl) (Or.inl ⟨by rfl, fun w' => by have h1 := hsh w'; go_simp⟩) ?_
      try simp only [List.getElem_toArray, List.getElem_cons_succ, List.getElem_cons_zero, Act.put, List.setIfInBounds_toArray, List.set_cons_zero, List.set_cons_succ]
      refine anyT_takeY (i := 1) (v := .slice (some ⟨sb, so, none⟩) ns scap) rfl (by kernel_rfl) (by kernel_rfl) (by kernel_rfl) (fun _ _ _ h => h) (by kernel_rfl) (Or.inl ⟨by rfl, by intro w; go_simp⟩) ?_
      try simp only [List.getElem_toArray, List.getElem_cons_succ, List.getElem_cons_zero, Act.put, List.setIfInBounds_toArray, List.set_cons_zero, List.set_cons_succ]
      refine anyT_takeY (i := 2) (v := .int .i64 (k : Int)) rfl (by kernel_rfl) (by kernel_rfl) (by kernel_rfl) (fun _ _ _ h => h) (by kernel_rfl) (Or.inl ⟨by rfl, by intro w; go_simp⟩) ?_
      try simp only [List.getElem_toArray, List.getElem_cons_succ, List.getElem_cons_zero, Act.put, List.setIfInBounds_toArray, List.set_cons_zero, List.set_cons_succ]
      refine anyT_takeY (i := 3) (v := .int .i64 (32 * (k : Int))) rfl (by kernel_rfl) (by kernel_rfl) (by kernel_rfl) (fun _ _ _ h => h) (by kernel_rfl) (Or.inl ⟨by rfl, fun w' => by have h1 := mk; go_simp⟩) ?_
      try simp only [List.getElem_toArray, List.getElem_cons_succ, List.getElem_cons_zero, Act.put, List.setIfInBounds_toArray, List.set_cons_zero, List.set_cons_succ]
      refine anyT_takeY (i := 4) (v := .slice (some ⟨sb, so + 32 * k, none⟩) (ns - 32 * k) (scap - 32 * k)) rfl (by kernel_rfl) (by kernel_rfl) (by kernel_rfl) (fun _ _ _ h => h) (by kernel_rfl) (Or.inl ⟨by rfl, fun w' => by have h1 := hslc w'; go_simp⟩) ?_
      try simp only [List.getElem_toArray, List.getElem_cons_succ, List.getElem_cons_zero, Act.put, List.setIfInBounds_toArray, List.set_cons_zero, List.set_cons_succ]
      refine anyT_one (i := 5) (by kernel_rfl) rfl (fun K hK => ?_)
      rw [if_pos (by rfl)]
      try simp only [List.getElem_toArray, List.getElem_cons_succ, List.getElem_cons_zero]
      (refine wp_copy_at' w3 (.tmp 33) (.tmp 37) 25 25 rfl rfl _ _ rfl rfl HCP.out ?_)
      refine hK _ _ (not_mem rfl) ?_
      clear hK K
      try simp only [List.getElem_toArray, List.getElem_cons_succ, List.getElem_cons_zero, Act.put, List.setIfInBounds_toArray, List.set_cons_zero, List.set_cons_succ]
      refine anyT_done (by kernel_rfl) ?_ _
      clear HCP hslc hsh mk
      have HM4 := Lib.hid (show FrM w2 (w3.setRow gv (rowOf .u8 32 F)) w.heap.size gb go L u9 l gv F from ⟨M.out.calls (below_setRow HBV.out HGV.out _), setRow_heap _ _ _ _ _ _ HRV.out⟩)
      clear HMV HRV HBV M
      generalize w3.setRow gv (rowOf .u8 32 F) = w4 at *
      go_upto_region 12 with (fail)
      refine wp_region_T (fun w' => FrM w2 w' w.heap.size gb go L u9 l gv F) [1, 7, 8, 9] (by kernel_rfl) ?_
      replace HM4 := Lib.hid (show FrM w2 w4.drew w.heap.size gb go L u9 l gv F from HM4.out.calls (Below.refl _ _).drew)
      generalize w4.drew = w5 at *
      refine anyT_takeY (i := 0) (v := u9) rfl (by kernel_rfl) (by kernel_rfl) (by kernel_rfl) (fun _ _ _ h => h) (by kernel_rfl) (Or.inl ⟨by rfl, by intro w; go_simp⟩) ?_
      try simp only [List.getElem_toArray, List.getElem_cons_succ, List.getElem_cons_zero, Act.put, List.setIfInBounds_toArray, List.set_cons_zero, List.set_cons_succ]
      refine anyT_takeY (i := 2) (v := .int .i64 leaf) rfl (by kernel_rfl) (by kernel_rfl) (by kernel_rfl) (fun _ _ _ h => h) (by kernel_rfl) (Or.inl ⟨by rfl, by intro w; go_simp⟩) ?_
      try simp only [List.getElem_toArray, List.getElem_cons_succ, List.getElem_cons_zero, Act.put, List.setIfInBounds_toArray, List.set_cons_zero, List.set_cons_succ]
      refine anyT_takeY (i := 3) (v := .int .i64 (k : Int)) rfl (by kernel_rfl) (by kernel_rfl) (by kernel_rfl) (fun _ _ _ h => h) (by kernel_rfl) (Or.inl ⟨by rfl, by intro w; go_simp⟩) ?_
      try simp only [List.getElem_toArray, List.getElem_cons_succ, List.getElem_cons_zero, Act.put, List.setIfInBounds_toArray, List.set_cons_zero, List.set_cons_succ]
      refine anyT_takeY (i := 4) (v := .slice (some ⟨gb, go, none⟩) N cd) rfl (by kernel_rfl) (by kernel_rfl) (by kernel_rfl) (fun _ _ _ h => h) (by kernel_rfl) (Or.inl ⟨by rfl, by intro w; go_simp⟩) ?_
      try simp only [List.getElem_toArray, List.getElem_cons_succ, List.getElem_cons_zero, Act.put, List.setIfInBounds_toArray, List.set_cons_zero, List.set_cons_succ]
      refine anyT_takeY (i := 5) (v := .int .i64 (k : Int)) rfl (by kernel_rfl) (by kernel_rfl) (by kernel_rfl) (fun _ _ _ h => h) (by kernel_rfl) (Or.inl ⟨by rfl, by intro w; go_simp⟩) ?_
      try simp only [List.getElem_toArray, List.getElem_cons_succ, List.getElem_cons_zero, Act.put, List.setIfInBounds_toArray, List.set_cons_zero, List.set_cons_succ]
      refine anyT_takeY (i := 6) (v := .pointer (some ⟨gb, go + k, none⟩)) rfl (by kernel_rfl) (by kernel_rfl) (by kernel_rfl) (fun _ _ _ h => h) (by kernel_rfl) (Or.inl ⟨by rfl, by intro w; go_simp⟩) ?_
      try simp only [List.getElem_toArray, List.getElem_cons_succ, List.getElem_cons_zero, Act.put, List.setIfInBounds_toArray, List.set_cons_zero, List.set_cons_succ]
      refine anyT_take [8, 9, 10] (i := 1) (v := .agg (rowOf .u8 32 F)) rfl (by kernel_rfl) (by kernel_rfl) (by kernel_rfl) (fun _ _ _ h => h) (by kernel_rfl) (row_yields (by rfl) 53 (.tmp 11) rfl gv rfl .u8 32 F _ (fun _ h => h.v) Tryz.underlying53 rfl (by kernel_rfl)) HM4.out ?_
      try simp only [List.getElem_toArray, List.getElem_cons_succ, List.getElem_cons_zero, Act.put, List.setIfInBounds_toArray, List.set_cons_zero, List.set_cons_succ]
      refine anyT_take [8, 9, 10] (i := 7) (v := .int .i64 (d : Int)) rfl (by kernel_rfl) (by kernel_rfl) (by kernel_rfl) (fun _ _ _ h => h) (by kernel_rfl) (Or.inl ⟨by rfl, fun w' hS => by have c1 := hS.m.cells k (d : Int) HD.out; go_simp⟩) HM4.out ?_
      try simp only [List.getElem_toArray, List.getElem_cons_succ, List.getElem_cons_zero, Act.put, List.setIfInBounds_toArray, List.set_cons_zero, List.set_cons_succ]
      refine anyT_one (i := 8) (by kernel_rfl) rfl (fun K hK => ?_)
      rw [if_pos (by rfl)]
      try simp only [List.getElem_toArray, List.getElem_cons_succ, List.getElem_cons_zero]
      (go_simp; refine (rstep_any F leaf (k : Int) (d : Int) 15 _).mono ?_; rintro e w6 ⟨rfl, hb⟩; replace HM4 := Lib.hid (HM4.out.calls hb); clear hb)
      refine hK _ _ (fun _ => HM4.out) ?_
      clear hK K
      try simp only [List.getElem_toArray, List.getElem_cons_succ, List.getElem_cons_zero, Act.put, List.setIfInBounds_toArray, List.set_cons_zero, List.set_cons_succ]
      refine anyT_one (i := 9) (by kernel_rfl) rfl (fun K hK => ?_)
      rw [if_pos (by rfl)]
      try simp only [List.getElem_toArray, List.getElem_cons_succ, List.getElem_cons_zero]
      (go_simp; refine (dHash_in _ l _ _ HM4.out.m.bytes (by have := HLN.out; omega)).mono ?_; rintro e w7 ⟨v7, rfl, hi, hb⟩; replace HM4 := Lib.hid (HM4.out.calls hb); have M2 := Lib.hid (HM4.out.m.with hi); clear hi hb)
      refine hK _ _ (fun _ => HM4.out) ?_
      clear hK K
      try simp only [List.getElem_toArray, List.getElem_cons_succ, List.getElem_cons_zero, Act.put, List.setIfInBounds_toArray, List.set_cons_zero, List.set_cons_succ]
      refine anyT_takeY (i := 10) (v := v7) rfl (by kernel_rfl) (by kernel_rfl) (by kernel_rfl) (fun _ _ _ h => h) (by kernel_rfl) (Or.inl ⟨by rfl, by intro w; go_simp⟩) ?_
      try simp only [List.getElem_toArray, List.getElem_cons_succ, List.getElem_cons_zero, Act.put, List.setIfInBounds_toArray, List.set_cons_zero, List.set_cons_succ]
      refine anyT_done (by kernel_rfl) ?_ _
      go_wp2_with (fail)
      go_roundw
      case rel =>
        refine ⟨k + 1, by omega, by go_num, ?_⟩
        rw [HCS2.out]
        exact M2
      case measure => simp [intOf]; omega
    · have HE := Lib.hid (show L.take k = L by rw [show k = L.length by rw [HNL.out]; omega, List.take_length])
      rw [HE.out, HL.out] at M
      clear HE
      go_wp2_with (first
        | (go_at_call 204; (with_reducible refine (rleaf_any _ _ _ M.out.bytes (by rw [endsF_length, digF_length]; have := HXN.out; omega)).mono ?_); rintro e w3 ⟨rfl, hb⟩; replace M := Lib.hid (M.out.calls hb); clear hb)
        | (refine wpList_store_row rfl 53 (.tmp 6) (.tmp 50) rfl w.heap.size _ rfl rfl 53 _ M.out.val (by rw [rowOf_size]; kernel_rfl) (by rw [rowOf_size, rowOf_size]) (rowOf_one _ _ _) ?_))
      refine bodyPost_ret (results_cell_tmp_row rfl _ _ w.heap.size 53 (rowOf .u8 32 (fromF ss leaf xs)) (0, 0) _ rfl (setRow_heap _ _ _ _ _ _ M.out.val) Tryz.underlying53 rfl (by rw [rowOf_size]; kernel_rfl)) rfl ?_
      exact ⟨rfl, below_setRow (H0.out.trans (M.out.below.mono H0.out.size)) (Nat.le_refl _) _⟩
end Go.Proofs.YtejglhlodfhgkaaGreatDoor
namespace Go.Proofs.YtejglhlodfhgkaaGreatDoor
set_option linter.unusedVariables false
set_option linter.unusedSimpArgs false
open Go.RowKit
set_option maxRecDepth 100000
def digestF (text : List Int) (n : Nat) : List Int := rowL n (sumF (4 :: text))
theorem sliceAn (b n : Nat) (hn : n ≤ 32) (w : World) : (Instr.sliceAt 53 (.pointer (some ⟨b, 0, none⟩)) none (some (.int .i64 (n : Int))) none).run Tryz.prog w = .ok (.slice (some ⟨b, 0, none⟩) n 32) w := by
  have ha : Tryz.prog.arrayLen 53 = 32 := by kernel_rfl
  have he : Tryz.prog.elem 53 = 5 := by kernel_rfl
  have hs : (sizeOf 5).run Tryz.prog w = .ok 1 w := by kernel_rfl
  rw [run_sliceAt_array_h w 53 ⟨b, 0, none⟩ (by rw [ha, he]; exact Tryz.underlying53) .i64 (n : Int) (by omega) (by rw [ha]; omega), ha, he, hs]
  simp only [Result.andThen_ok, slicedAt, Int.toNat_natCast]
  rfl
theorem wdigest_no (v : Value) (n : Int) (w : World) (h : n < 1 ∨ 32 < n) :
    Calls Tryz.prog 205 #[v, .int .i64 n] w fun e w' => e = .returned (.tuple #[.slice none 0 0, errV (some 1)]) ∧ w = w' := by
  replace h := Lib.hid h
  go_enter Tryz.func205, Tryz.ntmps205
  go_wp2_with (go_at_call 235; (with_reducible refine (wlen_no n _ h.out).mono ?_); rintro e w' ⟨rfl, rfl⟩)
  go_ret2
  exact ⟨rfl, rfl⟩
theorem rdigest_no (v : Value) (n : Int) (w : World) (h : n < 1 ∨ 32 < n) :
    Calls Tryz.prog 153 #[v, .int .i64 n] w fun e w' => e = .returned (.tuple #[.slice none 0 0, .int .i64 1]) ∧ w = w' := by
  by_cases h1 : n < 1
  · have e1 : decide (n < 1) = true := by simpa using h1
    clear h
    go_enter Tryz.func153, Tryz.ntmps153
    go_wp2
    go_ret2
    exact ⟨rfl, rfl⟩
  · have e1 : decide (n < 1) = false := by simpa using h1
    have h2 : 32 < n := by omega
    clear h
    go_enter Tryz.func153, Tryz.ntmps153
    go_wp2
    go_ret2
    exact ⟨rfl, rfl⟩
set_option maxHeartbeats 1000000 in
theorem wdigest_ok (v : Value) (xs : List Int) (n : Nat) (w : World) (hx : BytesIn w v xs) (he : Env w) (hn : 1 ≤ n ∧ n ≤ 32) :
    Calls Tryz.prog 205 #[v, .int .i64 (n : Int)] w fun e w' => ∃ v', e = .returned (.tuple #[v', errV none]) ∧ BytesIn w' v' (digestF xs n) ∧ Below w.heap.size w w' := by
  have HN := Lib.hid hn
  have hnb := hn.2
  have hn0 : ¬ (2 * (n : Int) + 3 = 0) := by omega
  have HB1 := below_alloc w (.cells (hashCells BT (fun _ => 0) 0) 282)
  have HC := Lib.hid he.lt
  have HX := Lib.hid (hx.at (g := w.heap.size) HB1 (Nat.le_refl _) (Nat.le_refl _))
  have HE := Lib.hid he
  have HE1 := Lib.hid (he.below HB1 he.lt)
  have HH := Lib.hid (show HashAt (w.alloc (.cells (hashCells BT (fun _ => 0) 0) 282)) w.heap.size h0.s h0.b h0.n from heap_alloc_new w _)
  replace HB1 := Lib.hid HB1
  clear he hx hn
  go_enter Tryz.func205, Tryz.ntmps205
  go_upto_region 4 with (first
    | (go_at_call 235; (with_reducible refine (wlen_ok n _ HN.out.1 HN.out.2).mono ?_); rintro e w' ⟨rfl, rfl⟩)
    | (go_at_call 141; (with_reducible refine (shNew_any _ HE.out).mono ?_); rintro e w' ⟨rfl, rfl⟩))
  generalize w.alloc (.cells (hashCells BT (fun _ => 0) 0) 282) = w1 at *
  obtain ⟨g, hg⟩ : ∃ g, g = w.heap.size := ⟨_, rfl⟩
  rw [← hg] at HX HH ⊢
  replace hg := Lib.hid hg
  have ha := below_alloc w1 (.cells #[.int .u8 4] 5)
  have HHa := Lib.hid (HH.out.below ha HH.out.lt)
  have HEa := Lib.hid (HE1.out.below ha HE1.out.lt)
  have HO1 := Lib.hid (oneAt w1 g HH.out.lt 4)
  have HX1 := Lib.hid (HX.out.below' ha)
  have HB2 := Lib.hid (HB1.out.trans (ha.mono HB1.out.size))
  have HG := Lib.hid (show 3 < g from by rw [hg.out]; exact HC.out)
  clear ha HE1 HX HH HB1
  go_upto_region 5 with (go_at_call 142; (with_reducible refine (shWrite_any g _ _ _ [4] _ _ HHa.out (by decide) (by decide) HO1.out HEa.out HG.out).mono ?_); rintro e w2 ⟨rfl, HH2, HO⟩; have HH2 := Lib.hid HH2; have HX2 := Lib.hid (HX1.out.only HO); have HE2 := Lib.hid (HO.env HEa.out HG.out); have HB3 := Lib.hid (HB2.out.trans (HO.below (by rw [hg.out]; exact Nat.le_refl _) HB2.out.size)); clear HO)
  have hb1 := putF_bounds h0 (by decide) (by decide) [4]
  have HBD1 := Lib.hid hb1
  clear hb1 HHa HX1 HEa HO1 HB2
  go_upto_region 6 with (go_at_call 142; (with_reducible refine (shWrite_any g _ _ _ xs v _ HH2.out HBD1.out.1 HBD1.out.2 HX2.out HE2.out HG.out).mono ?_); rintro e w3 ⟨rfl, HH3, HO⟩; have HH3 := Lib.hid HH3; have HE3 := Lib.hid (HO.env HE2.out HG.out); have HB4 := Lib.hid (HB3.out.trans (HO.below (by rw [hg.out]; exact Nat.le_refl _) HB3.out.size)); clear HO)
  have hb2 := putF_bounds (putF h0 [4]) HBD1.out.1 HBD1.out.2 xs
  have HBD2 := Lib.hid hb2
  clear hb2 HH2 HX2 HE2 HB3
  go_upto_region 7 with (first
    | (go_at_call 143; (with_reducible refine (sumM_any g _ _ _ _ HH3.out HBD2.out.1 HBD2.out.2 HE3.out.consts).mono ?_); rintro e w4 ⟨rfl, hb⟩; have HB5 := Lib.hid (HB4.out.trans (hb.mono HB4.out.size)); clear hb; rw [show outF (finF (putF (putF h0 [4]) xs).s (putF (putF h0 [4]) xs).b (putF (putF h0 [4]) xs).n ((putF (putF h0 [4]) xs).n % 64).toNat) = sumF (4 :: xs) from rfl])
    | (refine wpList_store_row rfl 53 (.tmp 7) (.tmp 20) rfl w4.heap.size (rowOf .u8 32 (sumF (4 :: xs))) rfl rfl 53 _ (heap_alloc_new _ _) (by rw [rowOf_size]; kernel_rfl) rfl (rowOf_one _ _ _) ?_; rw [World.setRow_alloc_new]; have HR := Lib.hid (RowAt.new w4 .u8 32 53 (sumF (4 :: xs))); have HB6 := Lib.hid (HB5.out.trans ((below_alloc w4 (.cells (rowOf .u8 32 (sumF (4 :: xs))) 53)).mono HB5.out.size)); generalize w4.heap.size = gr at *; generalize w4.alloc (.cells (rowOf .u8 32 (sumF (4 :: xs))) 53) = w5 at *))
  have hsl := sliceAn gr n hnb
  have HY := Lib.hid (row_in (k := n) (c := 32) HR.out hnb hnb (by unfold maxLen; omega))
  have HO0 := Lib.hid (World.ownsRow_nil w5 w5.heap.size 5 1)
  go_wp2_with (at_builtin; refine wpList_append_bytes rfl (.const (.slice none 0 0)) (.tmp 22) rfl rfl w5.heap.size _ 0 [] rfl HO0.out _ (rowL n (sumF (4 :: xs))) rfl HY.out (by rw [rowL_length]; omega) (Nat.le_refl _) ?_; intro v' w6 ho hg2 _; have HI := Lib.hid (owns_in (xs := rowL n (sumF (4 :: xs))) (by rw [Nat.zero_add, List.nil_append] at ho; exact ho) (by rw [rowL_length]; unfold maxLen; omega)); have HB7 := Lib.hid (HB6.out.trans (((Below.refl _ _).grown hg2 (Nat.le_refl _) (fun k hk => by cases hk)).mono HB6.out.size)); clear ho hg2)
  go_ret2
  exact ⟨_, rfl, HI.out, HB7.out⟩
set_option maxHeartbeats 1000000 in
theorem rdigest_ok (v : Value) (xs : List Int) (n : Nat) (w : World) (hx : BytesIn w v xs) (hl : xs.length + 81 ≤ 140737488355328) (hn : 1 ≤ n ∧ n ≤ 32) :
    Calls Tryz.prog 153 #[v, .int .i64 (n : Int)] w fun e w' => ∃ v', e = .returned (.tuple #[v', .int .i64 0]) ∧ BytesIn w' v' (digestF xs n) ∧ Below w.heap.size w w' := by
  have HL := Lib.hid hl
  have hnb := hn.2
  have hn1 := hn.1
  have e1 : decide ((n : Int) < 1) = false := by simp; omega
  have HB0 := Lib.hid (below_alloc w (.cells #[.int .u8 4] 5))
  have HX := Lib.hid (hx.below HB0.out)
  have HO := Lib.hid (show (w.alloc (.cells #[.int .u8 4] 5)).ownsRow w.heap.size 5 1 (.slice (some ⟨w.heap.size, 0, none⟩) 1 1) 1 [.int .u8 4] from World.ownsRow_lit (w := w) (base := w.heap.size) (e := 5) (size := 1) #[.int .u8 4] 1 (Nat.le_refl _) (by simp [maxLen]) rfl)
  clear hx hl hn
  go_enter Tryz.func153, Tryz.ntmps153
  go_upto_region 4 with (first
    | (at_builtin; refine wpList_append_bytes rfl (.tmp 13) (.tmp 14) rfl rfl w.heap.size _ 1 [.int .u8 4] rfl HO.out v xs rfl HX.out (by have := HL.out; omega) (by simp) ?_; intro v' w1 ho hg _; have HX1 := Lib.hid (owns_in (xs := 4 :: xs) (by have h := ho; rw [Nat.add_comm 1 xs.length] at h; exact h) (by have := HL.out; unfold maxLen; simp; omega)); have HB1 := Lib.hid (HB0.out.grown hg HB0.out.size (fun k hk => (HO.out.lt k hk).1)); clear ho hg)
    | (go_at_call 75; (with_reducible refine (rsum_any _ _ _ HX1.out (by have := HL.out; simp; omega)).mono ?_); rintro e w4 ⟨rfl, hb⟩; have HB5 := Lib.hid (HB1.out.trans (hb.mono HB1.out.size)); clear hb)
    | (refine wpList_store_row rfl 53 (.tmp 6) (.tmp 16) rfl w4.heap.size (rowOf .u8 32 (sumF (4 :: xs))) rfl rfl 53 _ (heap_alloc_new _ _) (by rw [rowOf_size]; kernel_rfl) rfl (rowOf_one _ _ _) ?_; rw [World.setRow_alloc_new]; have HR := Lib.hid (RowAt.new w4 .u8 32 53 (sumF (4 :: xs))); have HB6 := Lib.hid (HB5.out.trans ((below_alloc w4 (.cells (rowOf .u8 32 (sumF (4 :: xs))) 53)).mono HB5.out.size)); generalize w4.heap.size = gr at *; generalize w4.alloc (.cells (rowOf .u8 32 (sumF (4 :: xs))) 53) = w5 at *))
  have hsl := sliceAn gr n hnb
  go_wp2_with (fail)
  go_ret2
  exact ⟨_, rfl, row_in (k := n) (c := 32) HR.out hnb hnb (by unfold maxLen; omega), HB6.out⟩
end Go.Proofs.YtejglhlodfhgkaaGreatDoor
namespace Go.Proofs.YtejglhlodfhgkaaGreatDoor
set_option linter.unusedVariables false
set_option linter.unusedSimpArgs false
open Go.RowKit
set_option maxRecDepth 100000
theorem wpList_load_row_want {ops : Array Oper} {rest : List Oper} {op : Oper} {a : Act} {w : World} {Q : Exit → Act → World → Prop} (hw : Region.wanted op (yielded ops a.tmps) = true) (ty : TypeId) (x : Operand) (ho : op.op = .load ty x)
    (b : Nat) (hx : a.eval x = .pointer (some ⟨b, 0, none⟩)) (k : IntKind) (n : Nat) (f : Nat → Int) (d : TypeDesc) (R : RowAt w b k n ty f)
    (hu : Tryz.prog.underlying ty = some d) (hd : d.isRow = true) (hi : (Tryz.prog.info? ty).map (·.size) = some n)
    (h : wpList Tryz.prog ops Q rest (a.put op.dst (.agg (rowOf k n f))) w) : wpList Tryz.prog ops Q (op :: rest) a w :=
  BigFrame.wpList_want hw fun _ hK => wp_load_mid ty x ho b 0 hx (rowOf k n f).toList d R.range hu hd (by rw [hi]; simp [rowOf]) (hK _ _ (by simpa using h))
end Go.Proofs.YtejglhlodfhgkaaGreatDoor
namespace Go.Proofs.YtejglhlodfhgkaaGreatDoor
set_option linter.unusedVariables false
set_option linter.unusedSimpArgs false
open Go.ChangeShapes Go.WideShapes Go.ChangeAt Go.RowKit
/-- each value counts one at least -/
theorem bulk_one {H : Type} (d : DataW H) : 1 ≤ Rows.uptoBulk d := by
  cases d with
  | lit l => cases l <;> simp [Rows.uptoBulk]
  | _ => simp [Rows.uptoBulk]
theorem bulk_len {H : Type} : ∀ l : List (DataW H), l.length ≤ Rows.uptoBulkAll l
  | [] => by simp
  | d :: r => by
    have h1 := bulk_one d
    have h2 := bulk_len r
    simp only [Rows.uptoBulkAll, List.length_cons]
    omega
theorem bulk_mem {H : Type} {d : DataW H} : ∀ {l : List (DataW H)}, d ∈ l → Rows.uptoBulk d ≤ Rows.uptoBulkAll l
  | e :: r, h => by
    simp only [Rows.uptoBulkAll]
    rcases List.mem_cons.1 h with rfl | h
    · omega
    · have := bulk_mem h; omega
/-- a slice of bytes that came in -/
theorem bytes_raw {H : Type} {enc : TypeId × Value → H} {W : World} {fuel : Nat} {cs : List Value} {x : DataW H × List MemPlace} (h : DataW.trod enc Tryz.prog W 0 (fun _ => true) true fuel 25 cs = some x) :
    ∃ v xs, cs = [v] ∧ BytesIn W v xs ∧ bytesOk xs ∧ (∃ a c, v = .slice a xs.length c) ∧ xs.length ≤ Rows.uptoBulk x.1 ∧ (x.1 = .nil ∧ xs = [] ∨ ∃ elems spare, x.1 = .slice elems spare ∧ elems.length = xs.length) := by
  rcases open_ints Tryz.underlying25 Tryz.underlying5 (by kernel_rfl) h with ⟨hcs, hx⟩ | ⟨a, l, c, zs, hcs, _, hl, hm, hz, hx, hcell, hwz⟩
  · exact ⟨_, [], hcs, ⟨_, _, rfl, by simp, by simp [maxLen], .inl rfl⟩, (by intro x hx; cases hx), ⟨_, _, rfl⟩, by simp, .inl ⟨by rw [hx], rfl⟩⟩
  · simp only [if_true] at hz
    have hlen : (zs.take l).length = l := by rw [List.length_take]; omega
    refine ⟨_, zs.take l, hcs, ⟨some a, c, by rw [hlen], by rw [hlen]; exact hl, by rw [hlen]; omega, ?_⟩, fun y hy => ?_, ⟨some a, c, by rw [hlen]⟩, ?_, ?_⟩
    · by_cases hl0 : l = 0
      · left; subst hl0; simp
      · right
        obtain ⟨b, off, spot⟩ := a
        have hspot : spot = none := by simpa [Addr.add] using World.cell?_spot (hcell 0 (by omega))
        subst hspot
        refine ⟨b, off, rfl, fun i y hi => ?_⟩
        have hil : i < l := by have := (List.getElem?_eq_some_iff.1 hi).1; omega
        rw [List.getElem?_take, if_pos hil] at hi
        have := hcell i (by omega)
        rw [Addr.add_mid] at this
        rw [this]
        simp [List.getD, hi]
    · have h2 := bounds_u8 (hwz y (List.mem_of_mem_take hy))
      omega
    · rw [hx]
      have h1 := bulk_len (lits (H := H) IntKind.u8 (zs.take l))
      simp only [lits, List.length_map] at h1
      simp only [Rows.uptoBulk, lits]
      omega
    · rw [hx]
      exact .inr ⟨_, _, rfl, by simp [lits]⟩
/-- a slice of slices of bytes -/
def BssIn (w : World) (v : Value) (ps : List (List Int)) : Prop :=
  ∃ a c, v = .slice a ps.length c ∧ ps.length ≤ c ∧ ps.length ≤ maxLen ∧ (ps = [] ∨ ∃ ab ao, a = some ⟨ab, ao, none⟩ ∧ ∀ i p, ps[i]? = some p → ∃ u, w.cell? ⟨ab, ao + i, none⟩ = some u ∧ BytesIn w u p)
theorem BssIn.below {w w' : World} {v : Value} {ps : List (List Int)} (h : BssIn w v ps) (hb : Below w.heap.size w w') : BssIn w' v ps := by
  obtain ⟨a, c, rfl, hc, hm, hx⟩ := h
  refine ⟨a, c, rfl, hc, hm, ?_⟩
  rcases hx with hx | ⟨ab, ao, rfl, hx⟩
  · exact .inl hx
  · refine .inr ⟨ab, ao, rfl, fun i p hi => ?_⟩
    obtain ⟨u, hu, hp⟩ := hx i p hi
    exact ⟨u, (hb.cell (p := ⟨ab, ao + i, none⟩) (World.block_lt_of_cell? w _ hu)).trans hu, hp.below hb⟩
end Go.Proofs.YtejglhlodfhgkaaGreatDoor
namespace Go.Proofs.YtejglhlodfhgkaaGreatDoor
set_option linter.unusedVariables false
set_option linter.unusedSimpArgs false
open Go.ChangeShapes Go.WideShapes Go.ChangeAt Go.RowKit
theorem one_take {α : Type} {l : List α} {k : Nat} {v : α} (h : (l.drop k).take 1 = [v]) : l[k]? = some v := by
  have h1 : ((l.drop k).take 1)[0]? = some v := by rw [h]; rfl
  rw [List.getElem?_take, if_pos (by omega), List.getElem?_drop, Nat.add_zero] at h1
  exact h1
end Go.Proofs.YtejglhlodfhgkaaGreatDoor
namespace Go.Proofs.YtejglhlodfhgkaaGreatDoor
set_option linter.unusedVariables false
set_option linter.unusedSimpArgs false
open Go.RowKit
set_option maxRecDepth 100000
end Go.Proofs.YtejglhlodfhgkaaGreatDoor
namespace Go.Proofs.YtejglhlodfhgkaaGreatDoor
set_option linter.unusedVariables false
set_option linter.unusedSimpArgs false
open Go.RowKit
set_option maxRecDepth 100000
variable {w w' : World} {F : Nat → Int} {leaf : Int} {v vo : Value} {xs ys : List Int}
end Go.Proofs.YtejglhlodfhgkaaGreatDoor
namespace Go.Proofs.YtejglhlodfhgkaaGreatDoor
set_option linter.unusedVariables false
set_option linter.unusedSimpArgs false
open Go.RowKit
set_option maxRecDepth 100000
def digR (text : List Int) (n : Int) : List Int × Option Nat := if 1 ≤ n ∧ n ≤ 32 then (digestF text n.toNat, none) else ([], some 1)
theorem wdigest_any (v : Value) (xs : List Int) (n : Int) (w : World) (hx : BytesIn w v xs) (he : Env w) :
    Calls Tryz.prog 205 #[v, .int .i64 n] w fun e w' => ∃ v', e = .returned (.tuple #[v', errV (digR xs n).2]) ∧ BytesIn w' v' (digR xs n).1 ∧ Below w.heap.size w w' := by
  unfold digR
  by_cases h : 1 ≤ n ∧ n ≤ 32
  · rw [if_pos h]
    obtain ⟨k, rfl⟩ : ∃ k : Nat, n = (k : Int) := ⟨n.toNat, by omega⟩
    exact wdigest_ok v xs k w hx he (by omega)
  · rw [if_neg h]
    exact (wdigest_no v n w (by omega)).mono fun _ _ ⟨h1, h2⟩ => ⟨_, h1, nil_in _, by subst h2; exact Below.refl _ _⟩
theorem rdigest_any (v : Value) (xs : List Int) (n : Int) (w : World) (hx : BytesIn w v xs) (hl : xs.length + 81 ≤ 140737488355328) :
    Calls Tryz.prog 153 #[v, .int .i64 n] w fun e w' => ∃ v', e = .returned (.tuple #[v', .int .i64 (numE (digR xs n).2)]) ∧ BytesIn w' v' (digR xs n).1 ∧ Below w.heap.size w w' := by
  unfold digR
  by_cases h : 1 ≤ n ∧ n ≤ 32
  · rw [if_pos h]
    obtain ⟨k, rfl⟩ : ∃ k : Nat, n = (k : Int) := ⟨n.toNat, by omega⟩
    exact rdigest_ok v xs k w hx hl (by omega)
  · rw [if_neg h]
    exact (rdigest_no v n w (by omega)).mono fun _ _ ⟨h1, h2⟩ => ⟨_, h1, nil_in _, by subst h2; exact Below.refl _ _⟩
variable {w w' : World} {F : Nat → Int} {leaf : Int} {v vo : Value} {xs ys : List Int} {bs : List (Value × List Int)} {rs : List (Nat × (Nat → Int))}
end Go.Proofs.YtejglhlodfhgkaaGreatDoor
namespace Go.Proofs.YtejglhlodfhgkaaGreatDoor
set_option linter.unusedVariables false
set_option linter.unusedSimpArgs false
open Go.RowKit
set_option maxRecDepth 100000
def fromR (ss : List Int) (leaf : Int) (xs : List Int) : (Nat → Int) × Option Nat :=
  if 0 ≤ leaf ∧ leaf < 1024 ∧ 1 ≤ xs.length ∧ xs.length ≤ 32 then (if ss.length = 32 * (2 * xs.length + 3) then (fromF ss leaf xs, none) else (zF, some 2)) else (zF, some 1)
theorem wfrom_any (vs : Value) (ss : List Int) (leaf : Int) (v : Value) (xs : List Int) (w : World) (he : Env w) (hs : BytesIn w vs ss) (hx : BytesIn w v xs) (hb : bytesOk xs) :
    Calls Tryz.prog 206 #[vs, .int .i64 leaf, v] w fun e w' => e = .returned (.tuple #[.agg (rowOf .u8 32 (fromR ss leaf xs).1), errV (fromR ss leaf xs).2]) ∧ Below w.heap.size w w' := by
  unfold fromR
  by_cases h : 0 ≤ leaf ∧ leaf < 1024 ∧ 1 ≤ xs.length ∧ xs.length ≤ 32
  · rw [if_pos h]
    by_cases h2 : ss.length = 32 * (2 * xs.length + 3)
    · rw [if_pos h2]
      exact wfrom_ok vs ss leaf v xs w he ⟨h.1, h.2.1⟩ hs hx hb h.2.2 h2
    · rw [if_neg h2]
      obtain ⟨a, c, rfl, -⟩ := hx
      obtain ⟨a', c', rfl, -⟩ := hs
      exact wfrom_long a' ss.length c' leaf a xs.length c w ⟨h.1, h.2.1⟩ h.2.2 h2
  · rw [if_neg h]
    obtain ⟨a, c, rfl, -⟩ := hx
    exact wfrom_no vs leaf a xs.length c w h
theorem rfrom_any (vs : Value) (ss : List Int) (leaf : Int) (v : Value) (xs : List Int) (w : World) (hs : BytesIn w vs ss) (hx : BytesIn w v xs) (hb : bytesOk xs) :
    Calls Tryz.prog 154 #[vs, .int .i64 leaf, v] w fun e w' => e = .returned (.tuple #[.agg (rowOf .u8 32 (fromR ss leaf xs).1), .int .i64 (numE (fromR ss leaf xs).2)]) ∧ Below w.heap.size w w' := by
  unfold fromR
  by_cases h : 0 ≤ leaf ∧ leaf < 1024 ∧ 1 ≤ xs.length ∧ xs.length ≤ 32
  · rw [if_pos h]
    by_cases h2 : ss.length = 32 * (2 * xs.length + 3)
    · rw [if_pos h2]
      exact rfrom_ok vs ss leaf v xs w ⟨h.1, h.2.1⟩ hs hx hb h.2.2 h2
    · rw [if_neg h2]
      obtain ⟨a', c', rfl, -⟩ := hs
      exact rfrom_long a' ss.length c' leaf v xs w ⟨h.1, h.2.1⟩ hx hb h.2.2 h2
  · rw [if_neg h]
    obtain ⟨a, c, rfl, -⟩ := hx
    exact rfrom_no vs leaf a xs.length c w h
variable {w w' : World} {F : Nat → Int} {leaf s0 s1 s2 : Int} {v vo : Value} {xs ys : List Int}
end Go.Proofs.YtejglhlodfhgkaaGreatDoor
