/- Part 36 of the proof. -/
import Derived.Test.YtjnpcmfpiejmjaaGreatDoorVo30
import Derived.Test.YtjnpcmfpiejmjaaGreatDoorVo35
namespace Go.Proofs.YtjnpcmfpiejmjaaGreatDoor
set_option linter.unusedVariables false
set_option linter.unusedSimpArgs false
open Go.RowKit
set_option maxRecDepth 100000
set_option linter.unusedSimpArgs false
set_option linter.unusedVariables false
theorem verR_pos {F : Nat → Int} {D E : Int} {t s : List Int} {y : Nat} (h : verR F D E t s = some y) : 0 < y := by
  unfold verR at h
  split at h
  · split at h
    · next x hx => have := decS_err hx; cases h; omega
    · split at h
      · cases h
      · cases h; omega
  · cases h; omega
theorem vbL_len {chain : ByteArray} {v : Vo} (hc : chain.size ≤ 140737488351232) (hv : VoOk v) : (vbL chain v).length + 81 ≤ 140737488355328 := by
  have h0 : (varint sVote.size ++ numsOf sVote).length = 5 := by kernel_rfl
  have h1 := glenT (n := chain.size) (by omega)
  have h2 := glenT (zig_lt hv.k.1 hv.k.2)
  have h3 := glenT (zig_lt hv.h.1 hv.h.2)
  have h4 := glenT (zig_lt hv.r.1 hv.r.2)
  have h5 : (rowL 32 v.blk).length = 32 := by simp [rowL]
  have h6 := numsOf_length chain
  unfold vbL
  simp only [List.length_append, List.length_nil] at h0 ⊢
  omega
set_option maxHeartbeats 16000000 in
theorem rvvote_any (chain : ByteArray) (l : List Va) (lv : Value) (D E : Int) (v : Vo) (w : World) (hl : VaIn w lv l) (hs : BytesIn w v.sv v.sign) (hc : chain.size ≤ 140737488351232) (hv : VoOk v) (hb : bytesOk v.sign) (hz : v.sign.length ≤ 140737488351232) :
    Calls Tryz.prog 22 #[.string chain, lv, .agg (parC D E), .agg (voC v)] w fun e w' => e = .returned (.int .i64 (numE (vvE chain l D E v))) ∧ Below w.heap.size w w' := by
  obtain ⟨la, lc, rfl, -, hlm⟩ := hl.len
  obtain ⟨sa, sc, hsv, -, -, -⟩ := id hs
  have HSV := Lib.hid hsv
  have hb1 := below_alloc w (.cells (parC D E) 42)
  have hb2 := below_alloc (w.alloc (.cells (parC D E) 42)) (.cells (voC v) 46)
  have h7 := heap_alloc_new (w.alloc (.cells (parC D E) 42)) (.cells (voC v) 46)
  rw [size_alloc] at h7
  have M := Lib.hid (show VvM w w.heap.size (w.heap.size + 1) D E v l (.slice la l.length lc) ((w.alloc (.cells (parC D E) 42)).alloc (.cells (voC v) 46)) from
    ⟨hb1.trans (hb2.mono (by simp)), (hb2.block _ (by simp)).trans (heap_alloc_new w _), h7, (hl.below hb1).below hb2, (hs.below hb1).below hb2⟩)
  have HVB := Lib.hid (fun w => rvbytes_any chain v w hc hv)
  have HKC := Lib.hid (fun w => rcheck_any D E w)
  have HKV := Lib.hid (show ∀ F vt w, BytesIn w vt (vbL chain v) → BytesIn w v.sv v.sign → Calls Tryz.prog 76 #[.agg (rowOf .u8 32 F), .agg (parC D E), vt, v.sv] w fun e w' => e = .returned (.int .i64 (numE (verR F D E (vbL chain v) v.sign))) ∧ Below w.heap.size w w' from fun F vt w h1 h2 => rkverify_any F D E vt v.sv (vbL chain v) v.sign w h1 (vbL_len hc hv) h2 hb hz)
  obtain ⟨ns, hns⟩ : ∃ n, n = v.sign.length := ⟨_, rfl⟩
  rw [← hns] at hsv HSV
  rw [hsv] at HKV
  obtain ⟨E1, hE1⟩ : ∃ E1, E1 = vvE chain l D E v := ⟨_, rfl⟩
  have HEE := Lib.hid hE1
  obtain ⟨nl, hnl⟩ : ∃ n, n = l.length := ⟨_, rfl⟩
  have HNL := Lib.hid hnl
  have hn : nl ≤ 9223372036854775807 := by unfold maxLen at hlm; omega
  obtain ⟨K, hK⟩ : ∃ K, K = v.kind := ⟨_, rfl⟩
  obtain ⟨H, hH⟩ : ∃ K, K = v.height := ⟨_, rfl⟩
  obtain ⟨R, hR⟩ : ∃ K, K = v.round := ⟨_, rfl⟩
  obtain ⟨V, hV⟩ : ∃ K, K = v.val := ⟨_, rfl⟩
  have HVV := Lib.hid hV
  have HF := Lib.hid (show (K < 1 ∨ 2 < K ∨ H < 1 ∨ 1099511627776 < H ∨ R < 0 ∨ 1073741824 < R ∨ V < 0 ∨ (nl : Int) ≤ V) → vvE chain l D E v = some 31 from fun h => by
    unfold vvE canB
    rw [if_neg (fun h2 => ?_)]
    rw [Bool.and_eq_true, decide_eq_true_iff, decide_eq_true_iff, ← hK, ← hH, ← hR, ← hV, ← hnl] at h2
    omega)
  have HCT := Lib.hid (show ¬ K < 1 → ¬ 2 < K → ¬ H < 1 → ¬ 1099511627776 < H → ¬ R < 0 → ¬ 1073741824 < R → canB v = true from fun a1 a2 a3 a4 a5 a6 => by
    unfold canB
    rw [Bool.and_eq_true, decide_eq_true_iff, decide_eq_true_iff, ← hK, ← hH, ← hR]
    omega)
  rw [← hnl] at M ⊢
  rw [← hE1]
  clear hb1 hb2 h7 hl hs hc hv hb hz hE1 hnl hsv hns hlm
  go_enter Tryz.func22, Tryz.ntmps22
  go_upto_region 1 with (fail)
  obtain ⟨g6, hg6⟩ : ∃ g, g = w.heap.size := ⟨_, rfl⟩
  obtain ⟨g7, hg7⟩ : ∃ g, g = w.heap.size + 1 := ⟨_, rfl⟩
  rw [← hg7, ← hg6] at M
  rw [← hg7, ← hg6]
  clear hg6 hg7
  generalize (w.alloc (.cells (parC D E) 42)).alloc (.cells (voC v) 46) = w1 at *
  obtain ⟨c0, c1, c2, -, c35, -⟩ := vo_cells M.out.h7
  rw [← hK] at c0; rw [← hH] at c1; rw [← hR] at c2; rw [← hV] at c35
  clear hK hH hR hV
  by_cases k1 : K < 1
  · have HF1 := Lib.hid (HF.out (by omega))
    go_wp2_with (fail)
    go_ret
    exact ⟨by rw [HEE.out, HF1.out]; rfl, M.out.below⟩
  by_cases k2 : 2 < K
  · have HF1 := Lib.hid (HF.out (by omega))
    go_wp2_with (fail)
    go_ret
    exact ⟨by rw [HEE.out, HF1.out]; rfl, M.out.below⟩
  by_cases k3 : H < 1
  · have HF1 := Lib.hid (HF.out (by omega))
    go_wp2_with (fail)
    go_ret
    exact ⟨by rw [HEE.out, HF1.out]; rfl, M.out.below⟩
  by_cases k4 : 1099511627776 < H
  · have HF1 := Lib.hid (HF.out (by omega))
    go_wp2_with (fail)
    go_ret
    exact ⟨by rw [HEE.out, HF1.out]; rfl, M.out.below⟩
  by_cases k5 : R < 0
  · have HF1 := Lib.hid (HF.out (by omega))
    go_wp2_with (fail)
    go_ret
    exact ⟨by rw [HEE.out, HF1.out]; rfl, M.out.below⟩
  by_cases k6 : 1073741824 < R
  · have HF1 := Lib.hid (HF.out (by omega))
    go_wp2_with (fail)
    go_ret
    exact ⟨by rw [HEE.out, HF1.out]; rfl, M.out.below⟩
  by_cases k7 : V < 0
  · have HF1 := Lib.hid (HF.out (by omega))
    go_wp2_with (fail)
    go_ret
    exact ⟨by rw [HEE.out, HF1.out]; rfl, M.out.below⟩
  by_cases k8 : (nl : Int) ≤ V
  · have HF1 := Lib.hid (HF.out (by omega))
    go_wp2_with (fail)
    go_ret
    exact ⟨by rw [HEE.out, HF1.out]; rfl, M.out.below⟩
  obtain ⟨m, rfl⟩ : ∃ m : Nat, V = (m : Int) := ⟨V.toNat, by omega⟩
  have hml : m < nl := by omega
  have hmI : (m : Int) < (nl : Int) := by omega
  have hCT := HCT.out k1 k2 k3 k4 k5 k6
  obtain ⟨x, hx⟩ : ∃ x, l[m]? = some x := ⟨l[m]'(by have := HNL.out; omega), List.getElem?_eq_getElem _⟩
  have hv := M.out.l
  rw [HNL.out] at hv
  obtain ⟨ab, ao, rfl, hab, hra⟩ := hv.at hx
  have HRA := Lib.hid (show ab < w1.heap.size ∧ w1.rangeAt ab (ao + m * 34) (vaC x).toList from ⟨hab, hra⟩)
  have HM := Lib.hid (show v.val = (m : Int) from HVV.out.symm)
  have HV1 := Lib.hid (show kOk D E → vvE chain l D E v = match verR x.key D E (vbL chain v) v.sign with | none => none | some _ => some 21 from fun hk => by
    unfold vvE
    rw [if_pos ⟨hCT, by rw [HM.out]; omega, by rw [HM.out, ← HNL.out]; exact hmI⟩, if_pos hk, HM.out, Int.toNat_natCast, hx]
    rfl)
  have HV2 := Lib.hid (show ¬ kOk D E → vvE chain l D E v = some 20 from fun hk => by
    unfold vvE
    rw [if_pos ⟨hCT, by rw [HM.out]; omega, by rw [HM.out, ← HNL.out]; exact hmI⟩, if_neg hk])
  have HTURN := Lib.hid (show ∀ a b : World, Below a.heap.size a b → (ab < a.heap.size ∧ a.rangeAt ab (ao + m * 34) (vaC x).toList) → (ab < b.heap.size ∧ b.rangeAt ab (ao + m * 34) (vaC x).toList) from fun a b hb h => ⟨Nat.lt_of_lt_of_le h.1 hb.size, rangeT_below h.2 hb h.1⟩)
  clear hv hab hra hx hCT HVV HCT HF
  by_cases hk : kOk D E
  · have HKK := Lib.hid (HV1.out hk)
    have hck : ckR D E = none := by unfold ckR; rw [if_pos hk]
    rw [hck] at HKC
    simp only [numE] at HKC
    clear hk hck HV1 HV2
    go_upto_region 5 with (first
      | (refine wpList_load_rowT (by rfl) 42 (.tmp 6) rfl g6 0 rfl (parC D E) _ (rowT_range M.out.h6) Tryz.underlying42 rfl (by kernel_rfl) ?_)
      | (go_at_call 75; (with_reducible refine (HKC.out _).mono ?_); rintro e w4 ⟨rfl, hb⟩; replace M := Lib.hid (M.out.call hb); replace HRA := Lib.hid (HTURN.out _ _ hb HRA.out); clear hb))
    clear HKC c0 c1 c2 c35 k1 k2 k3 k4 k5 k6
    have HKX := Lib.hid (fun vt w => HKV.out x.key vt w)
    obtain ⟨r, hr⟩ : ∃ r, r = verR x.key D E (vbL chain v) v.sign := ⟨_, rfl⟩
    have HRP := Lib.hid (show ∀ y, r = some y → 0 < y from fun y e => verR_pos (hr ▸ e))
    rw [← hr] at HKX HKK
    clear hr HKV
    cases r with
    | none =>
      simp only [numE] at HKX
      refine wp_region_T (fun w' => VvM w g6 g7 D E v l (.slice (some ⟨ab, ao, none⟩) nl lc) w' ∧ ab < w'.heap.size ∧ w'.rangeAt ab (ao + m * 34) (vaC x).toList) [0, 1, 2, 3, 4, 5, 6, 7, 8, 9, 10, 11, 12, 13, 14] (by kernel_rfl) ?_
      replace M := Lib.hid (M.out.call (Below.refl _ _).drew)
      replace HRA := Lib.hid (HTURN.out _ _ (Below.refl _ _).drew HRA.out)
      generalize w4.drew = w5 at *
      refine anyT_take [] (i := 0) (v := .slice (some ⟨ab, ao, none⟩) nl lc) rfl (by kernel_rfl) (by kernel_rfl) (by kernel_rfl) (fun _ _ _ h => h) (by kernel_rfl) (Or.inl ⟨by rfl, fun w' _ => by go_simp⟩) ⟨M.out, HRA.out⟩ ?_
      try simp only [List.getElem_toArray, List.getElem_cons_succ, List.getElem_cons_zero, Act.put, List.setIfInBounds_toArray, List.set_cons_zero, List.set_cons_succ]
      refine anyT_take [] (i := 1) (v := .pointer (some ⟨g7, 35, none⟩)) rfl (by kernel_rfl) (by kernel_rfl) (by kernel_rfl) (fun _ _ _ h => h) (by kernel_rfl) (Or.inl ⟨by rfl, fun w' _ => by go_simp⟩) ⟨M.out, HRA.out⟩ ?_
      try simp only [List.getElem_toArray, List.getElem_cons_succ, List.getElem_cons_zero, Act.put, List.setIfInBounds_toArray, List.set_cons_zero, List.set_cons_succ]
      refine anyT_take [] (i := 2) (v := .int .i64 (m : Int)) rfl (by kernel_rfl) (by kernel_rfl) (by kernel_rfl) (fun _ _ _ h => h) (by kernel_rfl) (Or.inl ⟨by rfl, fun w' hS => by have c := (vo_cells hS.1.h7).2.2.2.2.1; rw [HM.out] at c; go_simp⟩) ⟨M.out, HRA.out⟩ ?_
      try simp only [List.getElem_toArray, List.getElem_cons_succ, List.getElem_cons_zero, Act.put, List.setIfInBounds_toArray, List.set_cons_zero, List.set_cons_succ]
      refine anyT_take [] (i := 3) (v := .pointer (some ⟨ab, ao + m * 34, none⟩)) rfl (by kernel_rfl) (by kernel_rfl) (by kernel_rfl) (fun _ _ _ h => h) (by kernel_rfl) (Or.inl ⟨by rfl, fun w' _ => by go_simp⟩) ⟨M.out, HRA.out⟩ ?_
      try simp only [List.getElem_toArray, List.getElem_cons_succ, List.getElem_cons_zero, Act.put, List.setIfInBounds_toArray, List.set_cons_zero, List.set_cons_succ]
      refine anyT_take [] (i := 4) (v := .pointer (some ⟨ab, ao + m * 34 + 1, none⟩)) rfl (by kernel_rfl) (by kernel_rfl) (by kernel_rfl) (fun _ _ _ h => h) (by kernel_rfl) (Or.inl ⟨by rfl, fun w' _ => by go_simp⟩) ⟨M.out, HRA.out⟩ ?_
      try simp only [List.getElem_toArray, List.getElem_cons_succ, List.getElem_cons_zero, Act.put, List.setIfInBounds_toArray, List.set_cons_zero, List.set_cons_succ]
      refine anyT_take [] (i := 5) (v := .agg (rowOf .u8 32 x.key)) rfl (by kernel_rfl) (by kernel_rfl) (by kernel_rfl) (fun _ _ _ h => h) (by kernel_rfl) (rowT_yields (by rfl) 32 (.tmp 61) rfl ab (ao + m * 34 + 1) rfl _ _ (fun _ h => va_key h.2.2) Tryz.underlying32 rfl (by rw [rowOf_size]; kernel_rfl)) ⟨M.out, HRA.out⟩ ?_
      try simp only [List.getElem_toArray, List.getElem_cons_succ, List.getElem_cons_zero, Act.put, List.setIfInBounds_toArray, List.set_cons_zero, List.set_cons_succ]
      refine anyT_take [] (i := 6) (v := .agg (parC D E)) rfl (by kernel_rfl) (by kernel_rfl) (by kernel_rfl) (fun _ _ _ h => h) (by kernel_rfl) (rowT_yields (by rfl) 42 (.tmp 6) rfl g6 0 rfl _ _ (fun _ h => rowT_range h.1.h6) Tryz.underlying42 rfl (by kernel_rfl)) ⟨M.out, HRA.out⟩ ?_
      try simp only [List.getElem_toArray, List.getElem_cons_succ, List.getElem_cons_zero, Act.put, List.setIfInBounds_toArray, List.set_cons_zero, List.set_cons_succ]
      refine anyT_take [] (i := 7) (v := .string chain) rfl (by kernel_rfl) (by kernel_rfl) (by kernel_rfl) (fun _ _ _ h => h) (by kernel_rfl) (Or.inl ⟨by rfl, fun w' _ => by go_simp⟩) ⟨M.out, HRA.out⟩ ?_
      try simp only [List.getElem_toArray, List.getElem_cons_succ, List.getElem_cons_zero, Act.put, List.setIfInBounds_toArray, List.set_cons_zero, List.set_cons_succ]
      refine anyT_take [] (i := 8) (v := .agg (voC v)) rfl (by kernel_rfl) (by kernel_rfl) (by kernel_rfl) (fun _ _ _ h => h) (by kernel_rfl) (rowT_yields (by rfl) 46 (.tmp 7) rfl g7 0 rfl _ _ (fun _ h => rowT_range h.1.h7) Tryz.underlying46 rfl (by rw [voC_size]; kernel_rfl)) ⟨M.out, HRA.out⟩ ?_
      try simp only [List.getElem_toArray, List.getElem_cons_succ, List.getElem_cons_zero, Act.put, List.setIfInBounds_toArray, List.set_cons_zero, List.set_cons_succ]
      refine anyT_take [] (i := 10) (v := .pointer (some ⟨g7, 36, none⟩)) rfl (by kernel_rfl) (by kernel_rfl) (by kernel_rfl) (fun _ _ _ h => h) (by kernel_rfl) (Or.inl ⟨by rfl, fun w' _ => by go_simp⟩) ⟨M.out, HRA.out⟩ ?_
      try simp only [List.getElem_toArray, List.getElem_cons_succ, List.getElem_cons_zero, Act.put, List.setIfInBounds_toArray, List.set_cons_zero, List.set_cons_succ]
      refine anyT_take [] (i := 11) (v := .slice sa ns sc) rfl (by kernel_rfl) (by kernel_rfl) (by kernel_rfl) (fun _ _ _ h => h) (by kernel_rfl) (Or.inl ⟨by rfl, fun w' hS => by have c := (vo_cells hS.1.h7).2.2.2.2.2; rw [HSV.out] at c; go_simp⟩) ⟨M.out, HRA.out⟩ ?_
      try simp only [List.getElem_toArray, List.getElem_cons_succ, List.getElem_cons_zero, Act.put, List.setIfInBounds_toArray, List.set_cons_zero, List.set_cons_succ]
      refine anyT_one (i := 9) (by kernel_rfl) rfl (fun K hK => ?_)
      rw [if_pos (by rfl)]
      try simp only [List.getElem_toArray, List.getElem_cons_succ, List.getElem_cons_zero]
      (go_simp; (with_reducible refine (HVB.out _).mono ?_); rintro e w6 ⟨vb, rfl, hv, hb⟩; have HVT := Lib.hid hv; replace M := Lib.hid (M.out.call hb); replace HRA := Lib.hid (HTURN.out _ _ hb HRA.out); clear hv hb)
      refine hK _ _ (fun _ => ⟨M.out, HRA.out⟩) ?_
      clear hK K
      try simp only [List.getElem_toArray, List.getElem_cons_succ, List.getElem_cons_zero, Act.put, List.setIfInBounds_toArray, List.set_cons_zero, List.set_cons_succ]
      refine anyT_one (i := 12) (by kernel_rfl) rfl (fun K hK => ?_)
      rw [if_pos (by rfl)]
      try simp only [List.getElem_toArray, List.getElem_cons_succ, List.getElem_cons_zero]
      (go_simp; (with_reducible refine (HKX.out _ _ HVT.out (HSV.out ▸ M.out.s)).mono ?_); rintro e w7 ⟨rfl, hb⟩; replace M := Lib.hid (M.out.call hb); replace HRA := Lib.hid (HTURN.out _ _ hb HRA.out); clear hb)
      refine hK _ _ (fun _ => ⟨M.out, HRA.out⟩) ?_
      clear hK K
      try simp only [List.getElem_toArray, List.getElem_cons_succ, List.getElem_cons_zero, Act.put, List.setIfInBounds_toArray, List.set_cons_zero, List.set_cons_succ]
      refine anyT_take [] (i := 13) (v := .bool false) rfl (by kernel_rfl) (by kernel_rfl) (by kernel_rfl) (fun _ _ _ h => h) (by kernel_rfl) (Or.inl ⟨by rfl, fun w' _ => by go_simp⟩) ⟨M.out, HRA.out⟩ ?_
      try simp only [List.getElem_toArray, List.getElem_cons_succ, List.getElem_cons_zero, Act.put, List.setIfInBounds_toArray, List.set_cons_zero, List.set_cons_succ]
      refine anyT_take [] (i := 14) (v := .bool false) rfl (by kernel_rfl) (by kernel_rfl) (by kernel_rfl) (fun _ _ _ h => h) (by kernel_rfl) (Or.inl ⟨by rfl, fun w' _ => by go_simp⟩) ⟨M.out, HRA.out⟩ ?_
      try simp only [List.getElem_toArray, List.getElem_cons_succ, List.getElem_cons_zero, Act.put, List.setIfInBounds_toArray, List.set_cons_zero, List.set_cons_succ]
      refine anyT_done (by kernel_rfl) ?_ _
      go_wp2_with (fail)
      go_ret
      exact ⟨by rw [HEE.out, HKK.out]; rfl, M.out.below⟩
    | some y =>
      simp only [numE] at HKX
      have hy := HRP.out y rfl
      have hne : ((y : Int) != 0) = true := by simp; omega
      have hne2 : ¬ (y : Int) = 0 := by omega
      refine wp_region_T (fun w' => VvM w g6 g7 D E v l (.slice (some ⟨ab, ao, none⟩) nl lc) w' ∧ ab < w'.heap.size ∧ w'.rangeAt ab (ao + m * 34) (vaC x).toList) [0, 1, 2, 3, 4, 5, 6, 7, 8, 9, 10, 11, 12, 13, 14] (by kernel_rfl) ?_
      replace M := Lib.hid (M.out.call (Below.refl _ _).drew)
      replace HRA := Lib.hid (HTURN.out _ _ (Below.refl _ _).drew HRA.out)
      generalize w4.drew = w5 at *
      refine anyT_take [] (i := 0) (v := .slice (some ⟨ab, ao, none⟩) nl lc) rfl (by kernel_rfl) (by kernel_rfl) (by kernel_rfl) (fun _ _ _ h => h) (by kernel_rfl) (Or.inl ⟨by rfl, fun w' _ => by go_simp⟩) ⟨M.out, HRA.out⟩ ?_
      try simp only [List.getElem_toArray, List.getElem_cons_succ, List.getElem_cons_zero, Act.put, List.setIfInBounds_toArray, List.set_cons_zero, List.set_cons_succ]
      refine anyT_take [] (i := 1) (v := .pointer (some ⟨g7, 35, none⟩)) rfl (by kernel_rfl) (by kernel_rfl) (by kernel_rfl) (fun _ _ _ h => h) (by kernel_rfl) (Or.inl ⟨by rfl, fun w' _ => by go_simp⟩) ⟨M.out, HRA.out⟩ ?_
      try simp only [List.getElem_toArray, List.getElem_cons_succ, List.getElem_cons_zero, Act.put, List.setIfInBounds_toArray, List.set_cons_zero, List.set_cons_succ]
      refine anyT_take [] (i := 2) (v := .int .i64 (m : Int)) rfl (by kernel_rfl) (by kernel_rfl) (by kernel_rfl) (fun _ _ _ h => h) (by kernel_rfl) (Or.inl ⟨by rfl, fun w' hS => by have c := (vo_cells hS.1.h7).2.2.2.2.1; rw [HM.out] at c; go_simp⟩) ⟨M.out, HRA.out⟩ ?_
      try simp only [List.getElem_toArray, List.getElem_cons_succ, List.getElem_cons_zero, Act.put, List.setIfInBounds_toArray, List.set_cons_zero, List.set_cons_succ]
      refine anyT_take [] (i := 3) (v := .pointer (some ⟨ab, ao + m * 34, none⟩)) rfl (by kernel_rfl) (by kernel_rfl) (by kernel_rfl) (fun _ _ _ h => h) (by kernel_rfl) (Or.inl ⟨by rfl, fun w' _ => by go_simp⟩) ⟨M.out, HRA.out⟩ ?_
      try simp only [List.getElem_toArray, List.getElem_cons_succ, List.getElem_cons_zero, Act.put, List.setIfInBounds_toArray, List.set_cons_zero, List.set_cons_succ]
      refine anyT_take [] (i := 4) (v := .pointer (some ⟨ab, ao + m * 34 + 1, none⟩)) rfl (by kernel_rfl) (by kernel_rfl) (by kernel_rfl) (fun _ _ _ h => h) (by kernel_rfl) (Or.inl ⟨by rfl, fun w' _ => by go_simp⟩) ⟨M.out, HRA.out⟩ ?_
      try simp only [List.getElem_toArray, List.getElem_cons_succ, List.getElem_cons_zero, Act.put, List.setIfInBounds_toArray, List.set_cons_zero, List.set_cons_succ]
      refine anyT_take [] (i := 5) (v := .agg (rowOf .u8 32 x.key)) rfl (by kernel_rfl) (by kernel_rfl) (by kernel_rfl) (fun _ _ _ h => h) (by kernel_rfl) (rowT_yields (by rfl) 32 (.tmp 61) rfl ab (ao + m * 34 + 1) rfl _ _ (fun _ h => va_key h.2.2) Tryz.underlying32 rfl (by rw [rowOf_size]; kernel_rfl)) ⟨M.out, HRA.out⟩ ?_
      try simp only [List.getElem_toArray, List.getElem_cons_succ, List.getElem_cons_zero, Act.put, List.setIfInBounds_toArray, List.set_cons_zero, List.set_cons_succ]
      refine anyT_take [] (i := 6) (v := .agg (parC D E)) rfl (by kernel_rfl) (by kernel_rfl) (by kernel_rfl) (fun _ _ _ h => h) (by kernel_rfl) (rowT_yields (by rfl) 42 (.tmp 6) rfl g6 0 rfl _ _ (fun _ h => rowT_range h.1.h6) Tryz.underlying42 rfl (by kernel_rfl)) ⟨M.out, HRA.out⟩ ?_
      try simp only [List.getElem_toArray, List.getElem_cons_succ, List.getElem_cons_zero, Act.put, List.setIfInBounds_toArray, List.set_cons_zero, List.set_cons_succ]
      refine anyT_take [] (i := 7) (v := .string chain) rfl (by kernel_rfl) (by kernel_rfl) (by kernel_rfl) (fun _ _ _ h => h) (by kernel_rfl) (Or.inl ⟨by rfl, fun w' _ => by go_simp⟩) ⟨M.out, HRA.out⟩ ?_
      try simp only [List.getElem_toArray, List.getElem_cons_succ, List.getElem_cons_zero, Act.put, List.setIfInBounds_toArray, List.set_cons_zero, List.set_cons_succ]
      refine anyT_take [] (i := 8) (v := .agg (voC v)) rfl (by kernel_rfl) (by kernel_rfl) (by kernel_rfl) (fun _ _ _ h => h) (by kernel_rfl) (rowT_yields (by rfl) 46 (.tmp 7) rfl g7 0 rfl _ _ (fun _ h => rowT_range h.1.h7) Tryz.underlying46 rfl (by rw [voC_size]; kernel_rfl)) ⟨M.out, HRA.out⟩ ?_
      try simp only [List.getElem_toArray, List.getElem_cons_succ, List.getElem_cons_zero, Act.put, List.setIfInBounds_toArray, List.set_cons_zero, List.set_cons_succ]
      refine anyT_take [] (i := 10) (v := .pointer (some ⟨g7, 36, none⟩)) rfl (by kernel_rfl) (by kernel_rfl) (by kernel_rfl) (fun _ _ _ h => h) (by kernel_rfl) (Or.inl ⟨by rfl, fun w' _ => by go_simp⟩) ⟨M.out, HRA.out⟩ ?_
      try simp only [List.getElem_toArray, List.getElem_cons_succ, List.getElem_cons_zero, Act.put, List.setIfInBounds_toArray, List.set_cons_zero, List.set_cons_succ]
      refine anyT_take [] (i := 11) (v := .slice sa ns sc) rfl (by kernel_rfl) (by kernel_rfl) (by kernel_rfl) (fun _ _ _ h => h) (by kernel_rfl) (Or.inl ⟨by rfl, fun w' hS => by have c := (vo_cells hS.1.h7).2.2.2.2.2; rw [HSV.out] at c; go_simp⟩) ⟨M.out, HRA.out⟩ ?_
      try simp only [List.getElem_toArray, List.getElem_cons_succ, List.getElem_cons_zero, Act.put, List.setIfInBounds_toArray, List.set_cons_zero, List.set_cons_succ]
      refine anyT_one (i := 9) (by kernel_rfl) rfl (fun K hK => ?_)
      rw [if_pos (by rfl)]
      try simp only [List.getElem_toArray, List.getElem_cons_succ, List.getElem_cons_zero]
      (go_simp; (with_reducible refine (HVB.out _).mono ?_); rintro e w6 ⟨vb, rfl, hv, hb⟩; have HVT := Lib.hid hv; replace M := Lib.hid (M.out.call hb); replace HRA := Lib.hid (HTURN.out _ _ hb HRA.out); clear hv hb)
      refine hK _ _ (fun _ => ⟨M.out, HRA.out⟩) ?_
      clear hK K
      try simp only [List.getElem_toArray, List.getElem_cons_succ, List.getElem_cons_zero, Act.put, List.setIfInBounds_toArray, List.set_cons_zero, List.set_cons_succ]
      refine anyT_one (i := 12) (by kernel_rfl) rfl (fun K hK => ?_)
      rw [if_pos (by rfl)]
      try simp only [List.getElem_toArray, List.getElem_cons_succ, List.getElem_cons_zero]
      (go_simp; (with_reducible refine (HKX.out _ _ HVT.out (HSV.out ▸ M.out.s)).mono ?_); rintro e w7 ⟨rfl, hb⟩; replace M := Lib.hid (M.out.call hb); replace HRA := Lib.hid (HTURN.out _ _ hb HRA.out); clear hb)
      refine hK _ _ (fun _ => ⟨M.out, HRA.out⟩) ?_
      clear hK K
      try simp only [List.getElem_toArray, List.getElem_cons_succ, List.getElem_cons_zero, Act.put, List.setIfInBounds_toArray, List.set_cons_zero, List.set_cons_succ]
      refine anyT_take [] (i := 13) (v := .bool true) rfl (by kernel_rfl) (by kernel_rfl) (by kernel_rfl) (fun _ _ _ h => h) (by kernel_rfl) (Or.inl ⟨by rfl, fun w' _ => by go_simp⟩) ⟨M.out, HRA.out⟩ ?_
      try simp only [List.getElem_toArray, List.getElem_cons_succ, List.getElem_cons_zero, Act.put, List.setIfInBounds_toArray, List.set_cons_zero, List.set_cons_succ]
      refine anyT_take [] (i := 14) (v := .bool true) rfl (by kernel_rfl) (by kernel_rfl) (by kernel_rfl) (fun _ _ _ h => h) (by kernel_rfl) (Or.inl ⟨by rfl, fun w' _ => by go_simp⟩) ⟨M.out, HRA.out⟩ ?_
      try simp only [List.getElem_toArray, List.getElem_cons_succ, List.getElem_cons_zero, Act.put, List.setIfInBounds_toArray, List.set_cons_zero, List.set_cons_succ]
      refine anyT_done (by kernel_rfl) ?_ _
      go_wp2_with (fail)
      go_ret
      exact ⟨by rw [HEE.out, HKK.out]; rfl, M.out.below⟩
  · have HKK := Lib.hid (HV2.out hk)
    have hck : ckR D E = some 20 := by unfold ckR; rw [if_neg hk]
    rw [hck] at HKC
    simp only [numE] at HKC
    clear hk hck HV1 HV2
    go_wp2_with (first
      | (refine wpList_load_rowT (by rfl) 42 (.tmp 6) rfl g6 0 rfl (parC D E) _ (rowT_range M.out.h6) Tryz.underlying42 rfl (by kernel_rfl) ?_)
      | (go_at_call 75; (with_reducible refine (HKC.out _).mono ?_); rintro e w4 ⟨rfl, hb⟩; replace M := Lib.hid (M.out.call hb); clear hb))
    go_ret
    exact ⟨by rw [HEE.out, HKK.out]; rfl, M.out.below⟩
end Go.Proofs.YtjnpcmfpiejmjaaGreatDoor
