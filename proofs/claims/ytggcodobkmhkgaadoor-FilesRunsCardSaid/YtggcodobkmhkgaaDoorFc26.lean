/- Part 26 of the proof. -/
import Derived.Test.YtggcodobkmhkgaaDoorFc24
namespace Go.Proofs.YtggcodobkmhkgaaDoor
set_option linter.unusedVariables false
set_option linter.unusedSimpArgs false
open Go.RowKit Go.Maps Go.Proofs
set_option maxRecDepth 100000
def dropN (L : List RF) (n : List UInt8) : List RF := if isN n L = true then L.take (findN n L) ++ L.drop (findN n L + 1) else L
theorem dropN_length (L : List RF) (n : List UInt8) : (dropN L n).length ≤ L.length := by
  unfold dropN
  split
  · rename_i h
    have h1 := findN_le n L
    have h2 := cutN_le n L
    unfold cutN at h2
    rw [if_pos h] at h2
    simp only [List.length_append, List.length_take, List.length_drop]
    omega
  · exact Nat.le_refl _
theorem step_slice_lo {ops : Array Oper} {o : Oper} {a : Act} {w : World} {K : Act → World → Prop} {Q : Exit → Act → World → Prop} {E : Prop} (hw : Region.wanted o (yielded ops a.tmps) = true) (x lo : Operand) (ho : o.op = .slice 25 x (some lo) none none)
    (ya : Option Addr) (yn yc : Nat) (l v : Value) (hx : a.eval x = .slice ya yn yc) (hl : a.eval lo = l) (hr : (Instr.slice 25 (.slice ya yn yc) (some l) none none).run Tryd.prog w = .ok v w) (h : K (a.put o.dst v) w) :
    if Region.wanted o (yielded ops a.tmps) = true then Oper.wp Tryd.prog o a w K Q else E := by
  rw [if_pos hw]
  unfold Oper.wp execOp
  simp only [ho, hx, Option.map_some, Option.map_none, hl, Instr.sliceAt, run_underlying Tryd.underlying25, Sem.run_bind, Sem.run_pure, Result.andThen_ok, hr]
  exact h
set_option maxHeartbeats 4000000 in
theorem drop4_any (lv : Value) (r : RSt) (s : ByteArray) (w : World) (hL : FilesIn w lv r.L) (hs : s.size ≤ maxLen) :
    Calls Tryd.prog 79 #[rsV lv r, .string s] w fun e w' => ∃ lv', e = .returned (rsV lv' { r with L := dropN r.L s.data.toList }) ∧ FilesIn w' lv' (dropN r.L s.data.toList) ∧ Below w.heap.size w w' := by
  have HF := Lib.hid (fun w (h : FilesIn w lv r.L) => find4_any lv r s w h hs)
  obtain ⟨L, st, ar, lf, dn⟩ := r
  simp only at hL HF
  obtain ⟨a, cap, rfl, hc, hm, _⟩ := hL.lies
  have HL := Lib.hid hL
  have HLL := Lib.hid hL.2
  obtain ⟨k, hk⟩ : ∃ k, findN s.data.toList L = k := ⟨_, rfl⟩
  have hkl := findN_le s.data.toList L
  rw [hk] at HF hkl
  have HK := Lib.hid hk
  have HKL := Lib.hid hkl
  have HHI := Lib.hid (sliceFhi a L.length cap k (by omega))
  unfold rsV rsC at *
  cases hi : isN s.data.toList L with
  | false =>
    have HE : Hid (dropN L s.data.toList = L) := Lib.hid (by unfold dropN; rw [hi]; simp)
    rw [hi] at HF
    clear hL hc hs hk hm hkl
    go_enter Tryd.func79, Tryd.ntmps79
    go_wp2_with (first
      | (go_at_call 111; (with_reducible refine (HF.out _ (HL.out.below (Below.alloc0 (Below.alloc0 (Below.refl _ _) _) _))).mono ?_); rintro e w2 ⟨rfl, hb2⟩; obtain ⟨hp, hq, hsz, hb⟩ := far2 hb2; have HP := Lib.hid hp; have HQ := Lib.hid hq; have HB2 := Lib.hid hb; clear hb2 hb hp hq)
      | (refine wpList_load_row rfl 27 (.tmp 2) rfl w.heap.size rfl 27 #[.slice a L.length cap, .int .i64 st, .bool ar, .int .i64 lf, .bool dn] (0, 0) _ HP.out Tryd.underlying27 rfl (by kernel_rfl) ?_)
      | (refine wpList_store_row rfl 27 (.tmp 4) (.tmp 16) rfl (w.heap.size + 1) #[.slice a L.length cap, .int .i64 st, .bool ar, .int .i64 lf, .bool dn] rfl rfl 27 _ HQ.out (by kernel_rfl) rfl (rs_one a L.length cap ⟨L, st, ar, lf, dn⟩) ?_))
    refine bodyPost_ret (results_cell_row rfl _ _ (w.heap.size + 1) 27 #[.slice a L.length cap, .int .i64 st, .bool ar, .int .i64 lf, .bool dn] (0, 0) _ rfl (setRow_heap _ _ _ _ _ _ HQ.out) Tryd.underlying27 rfl (by kernel_rfl)) rfl ?_
    refine ⟨.slice a L.length cap, rfl, ?_, ?_⟩
    · rw [HE.out]
      exact HL.out.below (below_setRow HB2.out (by omega) _)
    · exact below_setRow HB2.out (by omega) _
  | true =>
    have HE : Hid (dropN L s.data.toList = [] ++ L.take k ++ L.drop (k + 1)) := Lib.hid (by unfold dropN; rw [hi, hk, List.nil_append]; simp)
    have hlen5 := dropN_length L s.data.toList
    rw [HE.out] at hlen5
    have HL5 := Lib.hid (Nat.le_trans hlen5 HLL.out)
    have HK1 : Hid (k + 1 ≤ L.length) := Lib.hid (by have h := cutN_le s.data.toList L; unfold cutN at h; rw [hi, HK.out] at h; simpa using h)
    have HLO := Lib.hid (sliceFlo a L.length cap (k + 1) HK1.out)
    have hki : (k : Int) ≤ 1000 := by have := HKL.out; have := HLL.out; omega
    have hhi := HHI.out
    rw [hi] at HF
    clear hL hc hs hk hm hkl hlen5
    go_enter Tryd.func79, Tryd.ntmps79
    go_upto_region 5 with (first | (go_at_call 111; (with_reducible refine (HF.out _ (HL.out.below (Below.alloc0 (Below.alloc0 (Below.refl _ _) _) _))).mono ?_); rintro e w2 ⟨rfl, hb2⟩; obtain ⟨hp, hq, hsz, hb⟩ := far2 hb2; have HP := Lib.hid hp; have HQ := Lib.hid hq; have HB2 := Lib.hid hb; clear hb2 hb hp hq))
    have HSX := Lib.hid (fun (w' : World) (hb : Below w2.heap.size w2 w') => ((hb.cell (p := ⟨w.heap.size, 0, none⟩) (by show w.heap.size < _; omega)).trans (rs_cells HP.out).1 : w'.cell? ⟨w.heap.size, 0, none⟩ = some (.slice a L.length cap)))
    have HFX := Lib.hid (fun (w' : World) (hb : Below w2.heap.size w2 w') => ((hb.frozen (p := ⟨w.heap.size, 0, none⟩) (by show w.heap.size < _; omega)).trans (rs_cells HP.out).2.2.2.2.2.1 : w'.frozen? ⟨w.heap.size, 0, none⟩ = false))
    have HT := Lib.hid (((HL.out.below HB2.out).take k HKL.out))
    have HTD := Lib.hid (((HL.out.below HB2.out).drop (k + 1) HK1.out))
    have HD := Lib.hid ((Below.refl w2.heap.size w2).drew)
    have hS0 := HSX.out _ HD.out
    have hlo : ∀ w, (Instr.slice 25 (.slice a L.length cap) (some (.int .i64 ((k : Int) + 1))) none none).run Tryd.prog w = .ok (.slice (cut3 a cap (k + 1)) (L.length - (k + 1)) (cap - (k + 1))) w := HLO.out
    have hwr : IntKind.i64.wrap ((k : Int) + 1) = k + 1 := IntWalk.i64_in _ (by omega)
    have hk1i : (k : Int) + 1 ≤ L.length := by have := HK1.out; omega
    have hk0i : (0 : Int) ≤ (k : Int) + 1 := by omega
    refine wp_region_any (by kernel_rfl) ?_
    change wpAny _ _ _ _ _ _ _ w2.drew
    have hcz := HSX.out _ HD.out
    generalize w2.drew = w9 at *
    refine wpAny_take (i := 0) (v := .slice none 0 0) rfl (by kernel_rfl) (by kernel_rfl) (by kernel_rfl) (fun _ _ _ h => h) (Or.inl ⟨by rfl, by intro w; go_simp⟩) ?_
    try simp only [List.getElem_toArray, List.getElem_cons_succ, List.getElem_cons_zero, Act.put, List.setIfInBounds_toArray, List.set_cons_zero, List.set_cons_succ]
    refine wpAny_take (i := 1) (v := .pointer (some ⟨w.heap.size, 0, none⟩)) rfl (by kernel_rfl) (by kernel_rfl) (by kernel_rfl) (fun _ _ _ h => h) (Or.inl ⟨by rfl, by intro w; go_simp⟩) ?_
    try simp only [List.getElem_toArray, List.getElem_cons_succ, List.getElem_cons_zero, Act.put, List.setIfInBounds_toArray, List.set_cons_zero, List.set_cons_succ]
    refine wpAny_take (i := 3) (v := .int .i64 (k : Int)) rfl (by kernel_rfl) (by kernel_rfl) (by kernel_rfl) (fun _ _ _ h => h) (Or.inl ⟨by rfl, by intro w; go_simp⟩) ?_
    try simp only [List.getElem_toArray, List.getElem_cons_succ, List.getElem_cons_zero, Act.put, List.setIfInBounds_toArray, List.set_cons_zero, List.set_cons_succ]
    refine wpAny_take (i := 6) (v := .pointer (some ⟨w.heap.size, 0, none⟩)) rfl (by kernel_rfl) (by kernel_rfl) (by kernel_rfl) (fun _ _ _ h => h) (Or.inl ⟨by rfl, by intro w; go_simp⟩) ?_
    try simp only [List.getElem_toArray, List.getElem_cons_succ, List.getElem_cons_zero, Act.put, List.setIfInBounds_toArray, List.set_cons_zero, List.set_cons_succ]
    refine wpAny_take (i := 8) (v := .int .i64 (k : Int)) rfl (by kernel_rfl) (by kernel_rfl) (by kernel_rfl) (fun _ _ _ h => h) (Or.inl ⟨by rfl, by intro w; go_simp⟩) ?_
    try simp only [List.getElem_toArray, List.getElem_cons_succ, List.getElem_cons_zero, Act.put, List.setIfInBounds_toArray, List.set_cons_zero, List.set_cons_succ]
    refine wpAny_take (i := 9) (v := .int .i64 ((k : Int) + 1)) rfl (by kernel_rfl) (by kernel_rfl) (by kernel_rfl) (fun _ _ _ h => h) (Or.inl ⟨by rfl, by intro w; go_simp⟩) ?_
    try simp only [List.getElem_toArray, List.getElem_cons_succ, List.getElem_cons_zero, Act.put, List.setIfInBounds_toArray, List.set_cons_zero, List.set_cons_succ]
    refine wpAny_ready (rs := [2, 7]) (by kernel_rfl) (by simp) ?_
    refine AllReady.cons rfl (fun K hK => ?_) (AllReady.cons rfl (fun K hK => ?_) AllReady.nil)
    · rw [if_pos (by rfl)]
      try simp only [List.getElem_toArray, List.getElem_cons_succ, List.getElem_cons_zero, Act.put, List.setIfInBounds_toArray, List.set_cons_zero, List.set_cons_succ]
      go_simp
      refine hK _ _ ?_
      clear hK K
      try simp only [List.getElem_toArray, List.getElem_cons_succ, List.getElem_cons_zero, Act.put, List.setIfInBounds_toArray, List.set_cons_zero, List.set_cons_succ]
      refine wpAny_take (i := 4) (v := .slice (cut3 a cap 0) k cap) rfl (by kernel_rfl) (by kernel_rfl) (by kernel_rfl) (fun _ _ _ h => h) (Or.inl ⟨by rfl, by intro w; go_simp⟩) ?_
      try simp only [List.getElem_toArray, List.getElem_cons_succ, List.getElem_cons_zero, Act.put, List.setIfInBounds_toArray, List.set_cons_zero, List.set_cons_succ]
      refine wpAny_ready (rs := [5, 7]) (by kernel_rfl) (by simp) ?_
      refine AllReady.cons rfl (fun K hK => ?_) (AllReady.cons rfl (fun K hK => ?_) AllReady.nil)
      · refine step_append_files (by rfl) (.tmp 17) (.tmp 21) rfl rfl w2.heap.size (.slice none 0 0) (.slice (cut3 a cap 0) k cap) [] (L.take k) rfl (World.ownsRow_nil _ _ _ _) rfl (HT.out.below HD.out) (by have := HLL.out; simp; omega) HD.out.size ?_
        intro v1 w3 ho1 hg1 _
        have HD3 := Lib.hid (HD.out.grown hg1 HD.out.size (fun k hk => by cases hk))
        have HO1 := Lib.hid ho1
        have hcz3 := HSX.out _ HD3.out
        clear ho1 hg1
        refine hK _ _ ?_
        clear hK K
        try simp only [List.getElem_toArray, List.getElem_cons_succ, List.getElem_cons_zero, Act.put, List.setIfInBounds_toArray, List.set_cons_zero, List.set_cons_succ]
        refine wpAny_ready (rs := [7]) (by kernel_rfl) (by simp) ?_; refine AllReady.cons rfl (fun K hK => ?_) AllReady.nil
        rw [if_pos (by rfl)]
        try simp only [List.getElem_toArray, List.getElem_cons_succ, List.getElem_cons_zero, Act.put, List.setIfInBounds_toArray, List.set_cons_zero, List.set_cons_succ]
        go_simp
        refine hK _ _ ?_
        clear hK K
        try simp only [List.getElem_toArray, List.getElem_cons_succ, List.getElem_cons_zero, Act.put, List.setIfInBounds_toArray, List.set_cons_zero, List.set_cons_succ]
        refine wpAny_take (i := 10) (v := .slice (cut3 a cap (k + 1)) (L.length - (k + 1)) (cap - (k + 1))) rfl (by kernel_rfl) (by kernel_rfl) (by kernel_rfl) (fun _ _ _ h => h) (Or.inl ⟨by rfl, by intro w; go_simp⟩) ?_
        try simp only [List.getElem_toArray, List.getElem_cons_succ, List.getElem_cons_zero, Act.put, List.setIfInBounds_toArray, List.set_cons_zero, List.set_cons_succ]
        refine wpAny_ready (rs := [11]) (by kernel_rfl) (by simp) ?_; refine AllReady.cons rfl (fun K hK => ?_) AllReady.nil
        refine step_append_files (by rfl) (.tmp 22) (.tmp 27) rfl rfl w2.heap.size v1 _ ([] ++ L.take k) (L.drop (k + 1)) rfl HO1.out rfl (HTD.out.below HD3.out) (by have := HLL.out; simp; omega) HD3.out.size ?_
        intro v2 w4 ho2 hg2 _
        obtain ⟨a3, n3, c3, hv3⟩ := ownsF_wide ho2
        subst hv3
        have HD4 := Lib.hid (HD3.out.grown hg2 HD3.out.size (fun k hk => (HO1.out.lt k hk).1))
        have HO2 := Lib.hid ho2
        have hfz := HFX.out _ HD4.out
        have hcz4 := HSX.out _ HD4.out
        clear ho2 hg2
        refine hK _ _ ?_
        clear hK K
        try simp only [List.getElem_toArray, List.getElem_cons_succ, List.getElem_cons_zero, Act.put, List.setIfInBounds_toArray, List.set_cons_zero, List.set_cons_succ]
        refine wpAny_take (i := 12) (v := .pointer (some ⟨w.heap.size, 0, none⟩)) rfl (by kernel_rfl) (by kernel_rfl) (by kernel_rfl) (fun _ _ _ h => h) (Or.inl ⟨by rfl, by intro w; go_simp⟩) ?_
        try simp only [List.getElem_toArray, List.getElem_cons_succ, List.getElem_cons_zero, Act.put, List.setIfInBounds_toArray, List.set_cons_zero, List.set_cons_succ]
        refine wpAny_ready (rs := [13]) (by kernel_rfl) (by simp) ?_; refine AllReady.cons rfl (fun K hK => ?_) AllReady.nil
        rw [if_pos (by rfl)]
        try simp only [List.getElem_toArray, List.getElem_cons_succ, List.getElem_cons_zero, Act.put, List.setIfInBounds_toArray, List.set_cons_zero, List.set_cons_succ]
        go_simp
        refine hK _ _ ?_
        clear hK K
        try simp only [List.getElem_toArray, List.getElem_cons_succ, List.getElem_cons_zero, Act.put, List.setIfInBounds_toArray, List.set_cons_zero, List.set_cons_succ]
        refine wpAny_done (by kernel_rfl) ?_ _
        have HP4 := Lib.hid ((HD4.out.block w.heap.size (by omega)).trans HP.out)
        have HQ4 := Lib.hid ((HD4.out.block (w.heap.size + 1) (by omega)).trans HQ.out)
        have HB4 := Lib.hid (HB2.out.trans (HD4.out.mono HB2.out.size))
        go_wp2_with (first
          | (refine wpList_load_row rfl 27 (.tmp 2) rfl w.heap.size rfl 27 #[.slice a3 n3 c3, .int .i64 st, .bool ar, .int .i64 lf, .bool dn] (0, 0) _ (by rw [heap_setCell_same _ _ _ _ _ _ HP4.out]; rfl) Tryd.underlying27 rfl (by kernel_rfl) ?_)
          | (refine wpList_store_row rfl 27 (.tmp 4) (.tmp 30) rfl (w.heap.size + 1) #[.slice a3 n3 c3, .int .i64 st, .bool ar, .int .i64 lf, .bool dn] rfl rfl 27 _ ((heap_setCell_other _ _ _ _ (by show w.heap.size + 1 ≠ w.heap.size; omega)).trans HQ4.out) (by kernel_rfl) rfl (rs_one a3 n3 c3 ⟨L, st, ar, lf, dn⟩) ?_))
        refine bodyPost_ret (results_cell_row rfl _ _ (w.heap.size + 1) 27 #[.slice a3 n3 c3, .int .i64 st, .bool ar, .int .i64 lf, .bool dn] (0, 0) _ rfl (setRow_heap _ _ _ _ _ _ ((heap_setCell_other _ _ _ _ (by show w.heap.size + 1 ≠ w.heap.size; omega)).trans HQ4.out)) Tryd.underlying27 rfl (by kernel_rfl)) rfl ?_
        refine ⟨.slice a3 n3 c3, rfl, ?_, below_setRow (Below.setCell HB4.out (Nat.le_refl _) _) (by omega) _⟩
        rw [HE.out]
        exact owns_files (owns_turn HO2.out fun j hj => (setRow_other _ _ _ _ (by omega)).trans (heap_setCell_other _ _ _ _ (by show j ≠ w.heap.size; omega))) HL5.out
      · rw [if_pos (by rfl)]
        try simp only [List.getElem_toArray, List.getElem_cons_succ, List.getElem_cons_zero, Act.put, List.setIfInBounds_toArray, List.set_cons_zero, List.set_cons_succ]
        go_simp
        refine hK _ _ ?_
        clear hK K
        try simp only [List.getElem_toArray, List.getElem_cons_succ, List.getElem_cons_zero, Act.put, List.setIfInBounds_toArray, List.set_cons_zero, List.set_cons_succ]
        refine wpAny_take (i := 10) (v := .slice (cut3 a cap (k + 1)) (L.length - (k + 1)) (cap - (k + 1))) rfl (by kernel_rfl) (by kernel_rfl) (by kernel_rfl) (fun _ _ _ h => h) (Or.inl ⟨by rfl, by intro w; go_simp⟩) ?_
        try simp only [List.getElem_toArray, List.getElem_cons_succ, List.getElem_cons_zero, Act.put, List.setIfInBounds_toArray, List.set_cons_zero, List.set_cons_succ]
        refine wpAny_ready (rs := [5]) (by kernel_rfl) (by simp) ?_; refine AllReady.cons rfl (fun K hK => ?_) AllReady.nil
        refine step_append_files (by rfl) (.tmp 17) (.tmp 21) rfl rfl w2.heap.size (.slice none 0 0) (.slice (cut3 a cap 0) k cap) [] (L.take k) rfl (World.ownsRow_nil _ _ _ _) rfl (HT.out.below HD.out) (by have := HLL.out; simp; omega) HD.out.size ?_
        intro v1 w3 ho1 hg1 _
        have HD3 := Lib.hid (HD.out.grown hg1 HD.out.size (fun k hk => by cases hk))
        have HO1 := Lib.hid ho1
        have hcz3 := HSX.out _ HD3.out
        clear ho1 hg1
        refine hK _ _ ?_
        clear hK K
        try simp only [List.getElem_toArray, List.getElem_cons_succ, List.getElem_cons_zero, Act.put, List.setIfInBounds_toArray, List.set_cons_zero, List.set_cons_succ]
        refine wpAny_ready (rs := [11]) (by kernel_rfl) (by simp) ?_; refine AllReady.cons rfl (fun K hK => ?_) AllReady.nil
        refine step_append_files (by rfl) (.tmp 22) (.tmp 27) rfl rfl w2.heap.size v1 _ ([] ++ L.take k) (L.drop (k + 1)) rfl HO1.out rfl (HTD.out.below HD3.out) (by have := HLL.out; simp; omega) HD3.out.size ?_
        intro v2 w4 ho2 hg2 _
        obtain ⟨a3, n3, c3, hv3⟩ := ownsF_wide ho2
        subst hv3
        have HD4 := Lib.hid (HD3.out.grown hg2 HD3.out.size (fun k hk => (HO1.out.lt k hk).1))
        have HO2 := Lib.hid ho2
        have hfz := HFX.out _ HD4.out
        have hcz4 := HSX.out _ HD4.out
        clear ho2 hg2
        refine hK _ _ ?_
        clear hK K
        try simp only [List.getElem_toArray, List.getElem_cons_succ, List.getElem_cons_zero, Act.put, List.setIfInBounds_toArray, List.set_cons_zero, List.set_cons_succ]
        refine wpAny_take (i := 12) (v := .pointer (some ⟨w.heap.size, 0, none⟩)) rfl (by kernel_rfl) (by kernel_rfl) (by kernel_rfl) (fun _ _ _ h => h) (Or.inl ⟨by rfl, by intro w; go_simp⟩) ?_
        try simp only [List.getElem_toArray, List.getElem_cons_succ, List.getElem_cons_zero, Act.put, List.setIfInBounds_toArray, List.set_cons_zero, List.set_cons_succ]
        refine wpAny_ready (rs := [13]) (by kernel_rfl) (by simp) ?_; refine AllReady.cons rfl (fun K hK => ?_) AllReady.nil
        rw [if_pos (by rfl)]
        try simp only [List.getElem_toArray, List.getElem_cons_succ, List.getElem_cons_zero, Act.put, List.setIfInBounds_toArray, List.set_cons_zero, List.set_cons_succ]
        go_simp
        refine hK _ _ ?_
        clear hK K
        try simp only [List.getElem_toArray, List.getElem_cons_succ, List.getElem_cons_zero, Act.put, List.setIfInBounds_toArray, List.set_cons_zero, List.set_cons_succ]
        refine wpAny_done (by kernel_rfl) ?_ _
        have HP4 := Lib.hid ((HD4.out.block w.heap.size (by omega)).trans HP.out)
        have HQ4 := Lib.hid ((HD4.out.block (w.heap.size + 1) (by omega)).trans HQ.out)
        have HB4 := Lib.hid (HB2.out.trans (HD4.out.mono HB2.out.size))
        go_wp2_with (first
          | (refine wpList_load_row rfl 27 (.tmp 2) rfl w.heap.size rfl 27 #[.slice a3 n3 c3, .int .i64 st, .bool ar, .int .i64 lf, .bool dn] (0, 0) _ (by rw [heap_setCell_same _ _ _ _ _ _ HP4.out]; rfl) Tryd.underlying27 rfl (by kernel_rfl) ?_)
          | (refine wpList_store_row rfl 27 (.tmp 4) (.tmp 30) rfl (w.heap.size + 1) #[.slice a3 n3 c3, .int .i64 st, .bool ar, .int .i64 lf, .bool dn] rfl rfl 27 _ ((heap_setCell_other _ _ _ _ (by show w.heap.size + 1 ≠ w.heap.size; omega)).trans HQ4.out) (by kernel_rfl) rfl (rs_one a3 n3 c3 ⟨L, st, ar, lf, dn⟩) ?_))
        refine bodyPost_ret (results_cell_row rfl _ _ (w.heap.size + 1) 27 #[.slice a3 n3 c3, .int .i64 st, .bool ar, .int .i64 lf, .bool dn] (0, 0) _ rfl (setRow_heap _ _ _ _ _ _ ((heap_setCell_other _ _ _ _ (by show w.heap.size + 1 ≠ w.heap.size; omega)).trans HQ4.out)) Tryd.underlying27 rfl (by kernel_rfl)) rfl ?_
        refine ⟨.slice a3 n3 c3, rfl, ?_, below_setRow (Below.setCell HB4.out (Nat.le_refl _) _) (by omega) _⟩
        rw [HE.out]
        exact owns_files (owns_turn HO2.out fun j hj => (setRow_other _ _ _ _ (by omega)).trans (heap_setCell_other _ _ _ _ (by show j ≠ w.heap.size; omega))) HL5.out
    · rw [if_pos (by rfl)]
      try simp only [List.getElem_toArray, List.getElem_cons_succ, List.getElem_cons_zero, Act.put, List.setIfInBounds_toArray, List.set_cons_zero, List.set_cons_succ]
      go_simp
      refine hK _ _ ?_
      clear hK K
      try simp only [List.getElem_toArray, List.getElem_cons_succ, List.getElem_cons_zero, Act.put, List.setIfInBounds_toArray, List.set_cons_zero, List.set_cons_succ]
      refine wpAny_take (i := 10) (v := .slice (cut3 a cap (k + 1)) (L.length - (k + 1)) (cap - (k + 1))) rfl (by kernel_rfl) (by kernel_rfl) (by kernel_rfl) (fun _ _ _ h => h) (Or.inl ⟨by rfl, by intro w; go_simp⟩) ?_
      try simp only [List.getElem_toArray, List.getElem_cons_succ, List.getElem_cons_zero, Act.put, List.setIfInBounds_toArray, List.set_cons_zero, List.set_cons_succ]
      refine wpAny_ready (rs := [2]) (by kernel_rfl) (by simp) ?_; refine AllReady.cons rfl (fun K hK => ?_) AllReady.nil
      rw [if_pos (by rfl)]
      try simp only [List.getElem_toArray, List.getElem_cons_succ, List.getElem_cons_zero, Act.put, List.setIfInBounds_toArray, List.set_cons_zero, List.set_cons_succ]
      go_simp
      refine hK _ _ ?_
      clear hK K
      try simp only [List.getElem_toArray, List.getElem_cons_succ, List.getElem_cons_zero, Act.put, List.setIfInBounds_toArray, List.set_cons_zero, List.set_cons_succ]
      refine wpAny_take (i := 4) (v := .slice (cut3 a cap 0) k cap) rfl (by kernel_rfl) (by kernel_rfl) (by kernel_rfl) (fun _ _ _ h => h) (Or.inl ⟨by rfl, by intro w; go_simp⟩) ?_
      try simp only [List.getElem_toArray, List.getElem_cons_succ, List.getElem_cons_zero, Act.put, List.setIfInBounds_toArray, List.set_cons_zero, List.set_cons_succ]
      refine wpAny_ready (rs := [5]) (by kernel_rfl) (by simp) ?_; refine AllReady.cons rfl (fun K hK => ?_) AllReady.nil
      refine step_append_files (by rfl) (.tmp 17) (.tmp 21) rfl rfl w2.heap.size (.slice none 0 0) (.slice (cut3 a cap 0) k cap) [] (L.take k) rfl (World.ownsRow_nil _ _ _ _) rfl (HT.out.below HD.out) (by have := HLL.out; simp; omega) HD.out.size ?_
      intro v1 w3 ho1 hg1 _
      have HD3 := Lib.hid (HD.out.grown hg1 HD.out.size (fun k hk => by cases hk))
      have HO1 := Lib.hid ho1
      have hcz3 := HSX.out _ HD3.out
      clear ho1 hg1
      refine hK _ _ ?_
      clear hK K
      try simp only [List.getElem_toArray, List.getElem_cons_succ, List.getElem_cons_zero, Act.put, List.setIfInBounds_toArray, List.set_cons_zero, List.set_cons_succ]
      refine wpAny_ready (rs := [11]) (by kernel_rfl) (by simp) ?_; refine AllReady.cons rfl (fun K hK => ?_) AllReady.nil
      refine step_append_files (by rfl) (.tmp 22) (.tmp 27) rfl rfl w2.heap.size v1 _ ([] ++ L.take k) (L.drop (k + 1)) rfl HO1.out rfl (HTD.out.below HD3.out) (by have := HLL.out; simp; omega) HD3.out.size ?_
      intro v2 w4 ho2 hg2 _
      obtain ⟨a3, n3, c3, hv3⟩ := ownsF_wide ho2
      subst hv3
      have HD4 := Lib.hid (HD3.out.grown hg2 HD3.out.size (fun k hk => (HO1.out.lt k hk).1))
      have HO2 := Lib.hid ho2
      have hfz := HFX.out _ HD4.out
      have hcz4 := HSX.out _ HD4.out
      clear ho2 hg2
      refine hK _ _ ?_
      clear hK K
      try simp only [List.getElem_toArray, List.getElem_cons_succ, List.getElem_cons_zero, Act.put, List.setIfInBounds_toArray, List.set_cons_zero, List.set_cons_succ]
      refine wpAny_take (i := 12) (v := .pointer (some ⟨w.heap.size, 0, none⟩)) rfl (by kernel_rfl) (by kernel_rfl) (by kernel_rfl) (fun _ _ _ h => h) (Or.inl ⟨by rfl, by intro w; go_simp⟩) ?_
      try simp only [List.getElem_toArray, List.getElem_cons_succ, List.getElem_cons_zero, Act.put, List.setIfInBounds_toArray, List.set_cons_zero, List.set_cons_succ]
      refine wpAny_ready (rs := [13]) (by kernel_rfl) (by simp) ?_; refine AllReady.cons rfl (fun K hK => ?_) AllReady.nil
      rw [if_pos (by rfl)]
      try simp only [List.getElem_toArray, List.getElem_cons_succ, List.getElem_cons_zero, Act.put, List.setIfInBounds_toArray, List.set_cons_zero, List.set_cons_succ]
      go_simp
      refine hK _ _ ?_
      clear hK K
      try simp only [List.getElem_toArray, List.getElem_cons_succ, List.getElem_cons_zero, Act.put, List.setIfInBounds_toArray, List.set_cons_zero, List.set_cons_succ]
      refine wpAny_done (by kernel_rfl) ?_ _
      have HP4 := Lib.hid ((HD4.out.block w.heap.size (by omega)).trans HP.out)
      have HQ4 := Lib.hid ((HD4.out.block (w.heap.size + 1) (by omega)).trans HQ.out)
      have HB4 := Lib.hid (HB2.out.trans (HD4.out.mono HB2.out.size))
      go_wp2_with (first
        | (refine wpList_load_row rfl 27 (.tmp 2) rfl w.heap.size rfl 27 #[.slice a3 n3 c3, .int .i64 st, .bool ar, .int .i64 lf, .bool dn] (0, 0) _ (by rw [heap_setCell_same _ _ _ _ _ _ HP4.out]; rfl) Tryd.underlying27 rfl (by kernel_rfl) ?_)
        | (refine wpList_store_row rfl 27 (.tmp 4) (.tmp 30) rfl (w.heap.size + 1) #[.slice a3 n3 c3, .int .i64 st, .bool ar, .int .i64 lf, .bool dn] rfl rfl 27 _ ((heap_setCell_other _ _ _ _ (by show w.heap.size + 1 ≠ w.heap.size; omega)).trans HQ4.out) (by kernel_rfl) rfl (rs_one a3 n3 c3 ⟨L, st, ar, lf, dn⟩) ?_))
      refine bodyPost_ret (results_cell_row rfl _ _ (w.heap.size + 1) 27 #[.slice a3 n3 c3, .int .i64 st, .bool ar, .int .i64 lf, .bool dn] (0, 0) _ rfl (setRow_heap _ _ _ _ _ _ ((heap_setCell_other _ _ _ _ (by show w.heap.size + 1 ≠ w.heap.size; omega)).trans HQ4.out)) Tryd.underlying27 rfl (by kernel_rfl)) rfl ?_
      refine ⟨.slice a3 n3 c3, rfl, ?_, below_setRow (Below.setCell HB4.out (Nat.le_refl _) _) (by omega) _⟩
      rw [HE.out]
      exact owns_files (owns_turn HO2.out fun j hj => (setRow_other _ _ _ _ (by omega)).trans (heap_setCell_other _ _ _ _ (by show j ≠ w.heap.size; omega))) HL5.out
end Go.Proofs.YtggcodobkmhkgaaDoor
