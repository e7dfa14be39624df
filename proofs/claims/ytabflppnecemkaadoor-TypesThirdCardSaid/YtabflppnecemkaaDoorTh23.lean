/- Part 23 of the proof. -/
import Derived.Test.YtabflppnecemkaaDoorTh10
import Derived.Test.YtabflppnecemkaaDoorTh22
namespace Go.Proofs.YtabflppnecemkaaDoor
set_option linter.unusedVariables false
set_option linter.unusedSimpArgs false
open Go.RowKit
set_option maxRecDepth 100000
set_option linter.unusedSimpArgs false
set_option linter.unusedVariables false
def zV : Va := ⟨{ data := #[] }, fun _ => 0, 0⟩
/-- VerifyVote -/
def vvE (chain : ByteArray) (l : List Va) (D E : Int) (v : Vo) : Option Nat :=
  if canB v = true ∧ 0 ≤ v.val ∧ v.val < l.length then
    if kOk D E then (match verR ((l[v.val.toNat]?.getD zV).key) D E (vbL chain v) v.sign with | none => none | some _ => some 21) else some 20
  else some 31
theorem vv_idx {chain : ByteArray} {l : List Va} {D E : Int} {v : Vo} (h : vvE chain l D E v = none) : 0 ≤ v.val ∧ v.val < l.length := by
  unfold vvE at h
  by_cases hc : canB v = true ∧ 0 ≤ v.val ∧ v.val < l.length
  · exact hc.2
  · rw [if_neg hc] at h; cases h
/-- what lies in memory while VerifyVote goes on -/
structure VvM (w0 : World) (g6 g7 : Nat) (D E : Int) (v : Vo) (l : List Va) (lv : Value) (w : World) : Prop where
  below : Below w0.heap.size w0 w
  h6 : w.heap[g6]? = some (.cells (parC D E) 24 (0, 0))
  h7 : w.heap[g7]? = some (.cells (voC v) 39 (0, 0))
  l : VaIn w lv l
  s : BytesIn w v.sv v.sign
theorem VvM.call {w0 w w' : World} {g6 g7 : Nat} {D E : Int} {v : Vo} {l : List Va} {lv : Value} (m : VvM w0 g6 g7 D E v l lv w) (hb : Below w.heap.size w w') : VvM w0 g6 g7 D E v l lv w' :=
  ⟨m.below.trans (hb.mono m.below.size), (hb.block _ (bkT_lt m.h6)).trans m.h6, (hb.block _ (bkT_lt m.h7)).trans m.h7, m.l.below hb, m.s.below hb⟩
theorem va_key {w : World} {ab o : Nat} {x : Va} (h : w.rangeAt ab o (vaC x).toList) : w.rangeAt ab (o + 1) (rowOf .u8 32 x.key).toList := fun j u hu => by
  have hj : j < 32 := by have := (List.getElem?_eq_some_iff.1 hu).1; simpa [rowOf_size] using this
  have := h (1 + j) u (by
    rw [Array.getElem?_toList]; unfold vaC
    rw [Array.getElem?_append_left (by simp [rowOf_size]; omega), Array.getElem?_append_right (by simp)]
    simpa using hu)
  rw [Nat.add_assoc]; exact this
theorem va_pow {w : World} {ab o : Nat} {x : Va} (h : w.rangeAt ab o (vaC x).toList) : w.cell? ⟨ab, o + 33, none⟩ = some (.int .i64 x.pow) :=
  h 33 _ (by
    rw [Array.getElem?_toList]; unfold vaC
    rw [Array.getElem?_append_right (by simp [rowOf_size])]; simp [rowOf_size])
set_option maxHeartbeats 16000000 in
theorem vvote_any (chain : ByteArray) (l : List Va) (lv : Value) (D E : Int) (v : Vo) (w : World) (he : Env w) (hl : VaIn w lv l) (hs : BytesIn w v.sv v.sign) (hc : chain.size ≤ 140737488351232) (hv : VoOk v) (hb : bytesOk v.sign) (hz : v.sign.length ≤ 140737488355328) (hn : l.length ≤ 1048576) :
    Calls Tryd.prog 22 #[.string chain, lv, .agg (parC D E), .agg (voC v)] w fun e w' => e = .returned (errV (vvE chain l D E v)) ∧ Below w.heap.size w w' := by
  obtain ⟨la, lc, rfl, -, -⟩ := hl.len
  obtain ⟨sa, sc, hsv, -, -, -⟩ := id hs
  have HSV := Lib.hid hsv
  have hb1 := below_alloc w (.cells (parC D E) 24)
  have hb2 := below_alloc (w.alloc (.cells (parC D E) 24)) (.cells (voC v) 39)
  have h7 := heap_alloc_new (w.alloc (.cells (parC D E) 24)) (.cells (voC v) 39)
  rw [size_alloc] at h7
  have M := Lib.hid (show VvM w w.heap.size (w.heap.size + 1) D E v l (.slice la l.length lc) ((w.alloc (.cells (parC D E) 24)).alloc (.cells (voC v) 39)) from
    ⟨hb1.trans (hb2.mono (by simp)), (hb2.block _ (by simp)).trans (heap_alloc_new w _), h7, (hl.below hb1).below hb2, (hs.below hb1).below hb2⟩)
  have HE := Lib.hid he
  have HCB := Lib.hid (fun w => canbe_any v w)
  have HVB := Lib.hid (fun w => votebytes_any chain v w hc hv)
  have HKC := Lib.hid (show ∀ w, Calls Tryd.prog 45 #[.agg (parC D E)] w fun e w' => e = .returned (errV (ckR D E)) ∧ Below w.heap.size w w' from fun w => kcheck_any D E w)
  have HKV := Lib.hid (show ∀ F vt w, Env w → BytesIn w vt (vbL chain v) → BytesIn w v.sv v.sign → Calls Tryd.prog 46 #[.agg (rowOf .u8 32 F), .agg (parC D E), vt, v.sv] w fun e w' => e = .returned (errV (verR F D E (vbL chain v) v.sign)) ∧ Below w.heap.size w w' from fun F vt w he h1 h2 => kverify_any F D E vt v.sv (vbL chain v) v.sign w he h1 h2 hb hz)
  obtain ⟨ns, hns⟩ : ∃ n, n = v.sign.length := ⟨_, rfl⟩
  rw [← hns] at hsv HSV
  rw [hsv] at HKV
  obtain ⟨E1, hE1⟩ : ∃ E1, E1 = vvE chain l D E v := ⟨_, rfl⟩
  have HEE := Lib.hid hE1
  obtain ⟨nl, hnl⟩ : ∃ n, n = l.length := ⟨_, rfl⟩
  have HNL := Lib.hid hnl
  rw [← hnl] at M hn ⊢
  rw [← hE1]
  clear hb1 hb2 h7 he hl hs hc hv hb hz hE1 hnl hsv hns
  go_enter Tryd.func22, Tryd.ntmps22
  go_upto_region 1 with (fail)
  obtain ⟨g6, hg6⟩ : ∃ g, g = w.heap.size := ⟨_, rfl⟩
  obtain ⟨g7, hg7⟩ : ∃ g, g = w.heap.size + 1 := ⟨_, rfl⟩
  rw [← hg7, ← hg6] at M
  rw [← hg7, ← hg6]
  clear hg6 hg7
  generalize (w.alloc (.cells (parC D E) 24)).alloc (.cells (voC v) 39) = w1 at *
  cases hcb : canB v with
  | false =>
    have HF := Lib.hid (show vvE chain l D E v = some 31 from by unfold vvE; rw [if_neg (fun h => by rw [hcb] at h; exact absurd h.1 (by simp))])
    rw [hcb] at HCB
    clear hcb
    go_wp2_with (first
      | (refine wpList_load_rowT (by rfl) 39 (.tmp 7) rfl g7 0 rfl (voC v) _ (rowT_range M.out.h7) Tryd.underlying39 rfl (by rw [voC_size]; kernel_rfl) ?_)
      | (go_at_call 43; (with_reducible refine (HCB.out _).mono ?_); rintro e w2 ⟨rfl, hb⟩; replace M := Lib.hid (M.out.call hb); clear hb))
    go_ret
    exact ⟨by rw [HEE.out, HF.out]; rfl, M.out.below⟩
  | true =>
    have HCT := Lib.hid hcb
    rw [hcb] at HCB
    clear hcb
    by_cases hi : 0 ≤ v.val ∧ v.val < nl
    · obtain ⟨m, hm⟩ : ∃ m : Nat, v.val = (m : Int) := ⟨v.val.toNat, by omega⟩
      have hml : m < nl := by omega
      have hmI : (m : Int) < (nl : Int) := by omega
      obtain ⟨x, hx⟩ : ∃ x, l[m]? = some x := ⟨l[m]'(by have := HNL.out; omega), List.getElem?_eq_getElem _⟩
      have hv := M.out.l
      rw [HNL.out] at hv
      obtain ⟨ab, ao, rfl, hab, hra⟩ := hv.at hx
      have HRA := Lib.hid (show ab < w1.heap.size ∧ w1.rangeAt ab (ao + m * 34) (vaC x).toList from ⟨hab, hra⟩)
      have HM := Lib.hid hm
      have HV1 := Lib.hid (show kOk D E → vvE chain l D E v = match verR x.key D E (vbL chain v) v.sign with | none => none | some _ => some 21 from fun hk => by
        unfold vvE
        rw [if_pos ⟨HCT.out, by rw [hm]; omega, by rw [hm, ← HNL.out]; exact hmI⟩, if_pos hk, hm, Int.toNat_natCast, hx]
        rfl)
      have HV2 := Lib.hid (show ¬ kOk D E → vvE chain l D E v = some 20 from fun hk => by
        unfold vvE
        rw [if_pos ⟨HCT.out, by rw [hm]; omega, by rw [hm, ← HNL.out]; exact hmI⟩, if_neg hk])
      have HIX := Lib.hid (fun w => isindex_any (m : Int) (some ⟨ab, ao, none⟩) nl lc w)
      rw [decide_eq_true (show 0 ≤ (m : Int) ∧ (m : Int) < (nl : Int) by omega)] at HIX
      clear hv hab hra hx hi hml
      have HTURN := Lib.hid (show ∀ a b : World, Below a.heap.size a b → (ab < a.heap.size ∧ a.rangeAt ab (ao + m * 34) (vaC x).toList) → (ab < b.heap.size ∧ b.rangeAt ab (ao + m * 34) (vaC x).toList) from fun a b hb h => ⟨Nat.lt_of_lt_of_le h.1 hb.size, rangeT_below h.2 hb h.1⟩)
      go_upto_region 3 with (first
        | (refine wpList_load_rowT (by rfl) 39 (.tmp 7) rfl g7 0 rfl (voC v) _ (rowT_range M.out.h7) Tryd.underlying39 rfl (by rw [voC_size]; kernel_rfl) ?_)
        | (go_at_call 43; (with_reducible refine (HCB.out _).mono ?_); rintro e w2 ⟨rfl, hb⟩; replace M := Lib.hid (M.out.call hb); replace HRA := Lib.hid (HTURN.out _ _ hb HRA.out); have c35 := (vo_cells M.out.h7).2.2.2.2.1; rw [HM.out] at c35; clear hb)
        | (go_at_call 44; (with_reducible refine (HIX.out _).mono ?_); rintro e w3 ⟨rfl, rfl⟩))
      clear c35 hm HIX HCB
      by_cases hk : kOk D E
      · have HKK := Lib.hid (HV1.out hk)
        have hck : ckR D E = none := by unfold ckR; rw [if_pos hk]
        rw [hck] at HKC
        simp only [errV] at HKC
        clear hk hck HV1 HV2
        go_upto_region 6 with (first
          | (refine wpList_load_rowT (by rfl) 24 (.tmp 6) rfl g6 0 rfl (parC D E) _ (rowT_range M.out.h6) Tryd.underlying24 rfl (by kernel_rfl) ?_)
          | (go_at_call 45; (with_reducible refine (HKC.out _).mono ?_); rintro e w4 ⟨rfl, hb⟩; replace M := Lib.hid (M.out.call hb); replace HRA := Lib.hid (HTURN.out _ _ hb HRA.out); clear hb))
        clear HKC
        have HKX := Lib.hid (fun vt w => HKV.out x.key vt w)
        obtain ⟨r, hr⟩ : ∃ r, r = verR x.key D E (vbL chain v) v.sign := ⟨_, rfl⟩
        rw [← hr] at HKX HKK
        clear hr HKV
        cases r with
        | none =>
          simp only [errV] at HKX
          refine wp_region_T (fun w' => VvM w g6 g7 D E v l (.slice (some ⟨ab, ao, none⟩) nl lc) w' ∧ ab < w'.heap.size ∧ w'.rangeAt ab (ao + m * 34) (vaC x).toList) [0, 1, 2, 3, 4, 5, 6, 7, 8, 9, 10, 11, 12, 13] (by kernel_rfl) ?_
          replace M := Lib.hid (M.out.call (Below.refl _ _).drew)
          replace HRA := Lib.hid (HTURN.out _ _ (Below.refl _ _).drew HRA.out)
          generalize w4.drew = w5 at *
          refine anyT_take [] (i := 0) (v := .slice (some ⟨ab, ao, none⟩) nl lc) rfl (by kernel_rfl) (by kernel_rfl) (by kernel_rfl) (fun _ _ _ h => h) (by kernel_rfl) (Or.inl ⟨by rfl, fun w' _ => by go_simp⟩) ⟨M.out, HRA.out⟩ ?_
          try simp only [List.getElem_toArray, List.getElem_cons_succ, List.getElem_cons_zero, Act.put, List.setIfInBounds_toArray, List.set_cons_zero, List.set_cons_succ]
          refine anyT_take [] (i := 1) (v := .pointer (some ⟨g7, 35, none⟩)) rfl (by kernel_rfl) (by kernel_rfl) (by kernel_rfl) (fun _ _ _ h => h) (by kernel_rfl) (Or.inl ⟨by rfl, fun w' _ => by go_simp⟩) ⟨M.out, HRA.out⟩ ?_
          try simp only [List.getElem_toArray, List.getElem_cons_succ, List.getElem_cons_zero, Act.put, List.setIfInBounds_toArray, List.set_cons_zero, List.set_cons_succ]
          refine anyT_take [] (i := 2) (v := .int .i64 (m : Int)) rfl (by kernel_rfl) (by kernel_rfl) (by kernel_rfl) (fun _ _ _ h => h) (by kernel_rfl) (Or.inl ⟨by rfl, fun w' hS => by have c := (vo_cells hS.1.h7).2.2.2.2.1; rw [HM.out] at c; go_simp⟩) ⟨M.out, HRA.out⟩ ?_
          try simp only [List.getElem_toArray, List.getElem_cons_succ, List.getElem_cons_zero, Act.put, List.setIfInBounds_toArray, List.set_cons_zero, List.set_cons_succ]
          refine anyT_take [] (i := 3) (v := .pointer (some ⟨ab, ao + m * 34, none⟩)) rfl (by kernel_rfl) (by kernel_rfl) (by kernel_rfl) (fun _ _ _ h => h) (by kernel_rfl) (Or.inl ⟨by rfl, fun w' _ => by go_simp⟩) ⟨M.out, HRA.out⟩ ?_
          try simp only [List.getElem_toArray, List.getElem_cons_succ, List.getElem_cons_zero, Act.put, List.setIfInBounds_toArray, List.set_cons_zero, List.set_cons_succ]
          refine anyT_take [] (i := 4) (v := .pointer (some ⟨ab, ao + m * 34 + 1, none⟩)) rfl (by kernel_rfl) (by kernel_rfl) (by kernel_rfl) (fun _ _ _ h => h) (by kernel_rfl) (Or.inl ⟨by rfl, fun w' _ => by go_simp⟩) ⟨M.out, HRA.out⟩ ?_
          try simp only [List.getElem_toArray, List.getElem_cons_succ, List.getElem_cons_zero, Act.put, List.setIfInBounds_toArray, List.set_cons_zero, List.set_cons_succ]
          refine anyT_take [] (i := 5) (v := .agg (rowOf .u8 32 x.key)) rfl (by kernel_rfl) (by kernel_rfl) (by kernel_rfl) (fun _ _ _ h => h) (by kernel_rfl) (rowT_yields (by rfl) 28 (.tmp 30) rfl ab (ao + m * 34 + 1) rfl _ _ (fun _ h => va_key h.2.2) Tryd.underlying28 rfl (by rw [rowOf_size]; kernel_rfl)) ⟨M.out, HRA.out⟩ ?_
          try simp only [List.getElem_toArray, List.getElem_cons_succ, List.getElem_cons_zero, Act.put, List.setIfInBounds_toArray, List.set_cons_zero, List.set_cons_succ]
          refine anyT_take [] (i := 6) (v := .agg (parC D E)) rfl (by kernel_rfl) (by kernel_rfl) (by kernel_rfl) (fun _ _ _ h => h) (by kernel_rfl) (rowT_yields (by rfl) 24 (.tmp 6) rfl g6 0 rfl _ _ (fun _ h => rowT_range h.1.h6) Tryd.underlying24 rfl (by kernel_rfl)) ⟨M.out, HRA.out⟩ ?_
          try simp only [List.getElem_toArray, List.getElem_cons_succ, List.getElem_cons_zero, Act.put, List.setIfInBounds_toArray, List.set_cons_zero, List.set_cons_succ]
          refine anyT_take [] (i := 7) (v := .string chain) rfl (by kernel_rfl) (by kernel_rfl) (by kernel_rfl) (fun _ _ _ h => h) (by kernel_rfl) (Or.inl ⟨by rfl, fun w' _ => by go_simp⟩) ⟨M.out, HRA.out⟩ ?_
          try simp only [List.getElem_toArray, List.getElem_cons_succ, List.getElem_cons_zero, Act.put, List.setIfInBounds_toArray, List.set_cons_zero, List.set_cons_succ]
          refine anyT_take [] (i := 8) (v := .agg (voC v)) rfl (by kernel_rfl) (by kernel_rfl) (by kernel_rfl) (fun _ _ _ h => h) (by kernel_rfl) (rowT_yields (by rfl) 39 (.tmp 7) rfl g7 0 rfl _ _ (fun _ h => rowT_range h.1.h7) Tryd.underlying39 rfl (by rw [voC_size]; kernel_rfl)) ⟨M.out, HRA.out⟩ ?_
          try simp only [List.getElem_toArray, List.getElem_cons_succ, List.getElem_cons_zero, Act.put, List.setIfInBounds_toArray, List.set_cons_zero, List.set_cons_succ]
          refine anyT_take [] (i := 10) (v := .pointer (some ⟨g7, 36, none⟩)) rfl (by kernel_rfl) (by kernel_rfl) (by kernel_rfl) (fun _ _ _ h => h) (by kernel_rfl) (Or.inl ⟨by rfl, fun w' _ => by go_simp⟩) ⟨M.out, HRA.out⟩ ?_
          try simp only [List.getElem_toArray, List.getElem_cons_succ, List.getElem_cons_zero, Act.put, List.setIfInBounds_toArray, List.set_cons_zero, List.set_cons_succ]
          refine anyT_take [] (i := 11) (v := .slice sa ns sc) rfl (by kernel_rfl) (by kernel_rfl) (by kernel_rfl) (fun _ _ _ h => h) (by kernel_rfl) (Or.inl ⟨by rfl, fun w' hS => by have c := (vo_cells hS.1.h7).2.2.2.2.2; rw [HSV.out] at c; go_simp⟩) ⟨M.out, HRA.out⟩ ?_
          try simp only [List.getElem_toArray, List.getElem_cons_succ, List.getElem_cons_zero, Act.put, List.setIfInBounds_toArray, List.set_cons_zero, List.set_cons_succ]
          refine anyT_one (i := 9) (by kernel_rfl) rfl (fun K hK => ?_)
          rw [if_pos (by rfl)]
          try simp only [List.getElem_toArray, List.getElem_cons_succ, List.getElem_cons_zero]
          (go_simp; (with_reducible refine (HVB.out _).mono ?_); rintro e w6 ⟨vb, rfl, hv, hb⟩; have HVT := Lib.hid hv; replace M := Lib.hid (M.out.call hb); replace HRA := Lib.hid (HTURN.out _ _ hb HRA.out); clear hv hb)
          refine hK _ _ (fun _ => ⟨M.out, HRA.out⟩) ?_
          clear hK K
          try simp only [List.getElem_toArray, List.getElem_cons_succ, List.getElem_cons_zero, Act.put, List.setIfInBounds_toArray, List.set_cons_zero, List.set_cons_succ]
          refine anyT_one (i := 12) (by kernel_rfl) rfl (fun K hK => ?_)
          rw [if_pos (by rfl)]
          try simp only [List.getElem_toArray, List.getElem_cons_succ, List.getElem_cons_zero]
          (go_simp; (with_reducible refine (HKX.out _ _ (HE.out.below M.out.below HE.out.lt) HVT.out (HSV.out ▸ M.out.s)).mono ?_); rintro e w7 ⟨rfl, hb⟩; replace M := Lib.hid (M.out.call hb); replace HRA := Lib.hid (HTURN.out _ _ hb HRA.out); clear hb)
          refine hK _ _ (fun _ => ⟨M.out, HRA.out⟩) ?_
          clear hK K
          try simp only [List.getElem_toArray, List.getElem_cons_succ, List.getElem_cons_zero, Act.put, List.setIfInBounds_toArray, List.set_cons_zero, List.set_cons_succ]
          refine anyT_take [] (i := 13) (v := .bool false) rfl (by kernel_rfl) (by kernel_rfl) (by kernel_rfl) (fun _ _ _ h => h) (by kernel_rfl) (Or.inl ⟨by rfl, fun w' _ => by go_simp⟩) ⟨M.out, HRA.out⟩ ?_
          try simp only [List.getElem_toArray, List.getElem_cons_succ, List.getElem_cons_zero, Act.put, List.setIfInBounds_toArray, List.set_cons_zero, List.set_cons_succ]
          refine anyT_done (by kernel_rfl) ?_ _
          go_wp2_with (fail)
          go_ret
          exact ⟨by rw [HEE.out, HKK.out]; rfl, M.out.below⟩
        | some y =>
          simp only [errV] at HKX
          refine wp_region_T (fun w' => VvM w g6 g7 D E v l (.slice (some ⟨ab, ao, none⟩) nl lc) w' ∧ ab < w'.heap.size ∧ w'.rangeAt ab (ao + m * 34) (vaC x).toList) [0, 1, 2, 3, 4, 5, 6, 7, 8, 9, 10, 11, 12, 13] (by kernel_rfl) ?_
          replace M := Lib.hid (M.out.call (Below.refl _ _).drew)
          replace HRA := Lib.hid (HTURN.out _ _ (Below.refl _ _).drew HRA.out)
          generalize w4.drew = w5 at *
          refine anyT_take [] (i := 0) (v := .slice (some ⟨ab, ao, none⟩) nl lc) rfl (by kernel_rfl) (by kernel_rfl) (by kernel_rfl) (fun _ _ _ h => h) (by kernel_rfl) (Or.inl ⟨by rfl, fun w' _ => by go_simp⟩) ⟨M.out, HRA.out⟩ ?_
          try simp only [List.getElem_toArray, List.getElem_cons_succ, List.getElem_cons_zero, Act.put, List.setIfInBounds_toArray, List.set_cons_zero, List.set_cons_succ]
          refine anyT_take [] (i := 1) (v := .pointer (some ⟨g7, 35, none⟩)) rfl (by kernel_rfl) (by kernel_rfl) (by kernel_rfl) (fun _ _ _ h => h) (by kernel_rfl) (Or.inl ⟨by rfl, fun w' _ => by go_simp⟩) ⟨M.out, HRA.out⟩ ?_
          try simp only [List.getElem_toArray, List.getElem_cons_succ, List.getElem_cons_zero, Act.put, List.setIfInBounds_toArray, List.set_cons_zero, List.set_cons_succ]
          refine anyT_take [] (i := 2) (v := .int .i64 (m : Int)) rfl (by kernel_rfl) (by kernel_rfl) (by kernel_rfl) (fun _ _ _ h => h) (by kernel_rfl) (Or.inl ⟨by rfl, fun w' hS => by have c := (vo_cells hS.1.h7).2.2.2.2.1; rw [HM.out] at c; go_simp⟩) ⟨M.out, HRA.out⟩ ?_
          try simp only [List.getElem_toArray, List.getElem_cons_succ, List.getElem_cons_zero, Act.put, List.setIfInBounds_toArray, List.set_cons_zero, List.set_cons_succ]
          refine anyT_take [] (i := 3) (v := .pointer (some ⟨ab, ao + m * 34, none⟩)) rfl (by kernel_rfl) (by kernel_rfl) (by kernel_rfl) (fun _ _ _ h => h) (by kernel_rfl) (Or.inl ⟨by rfl, fun w' _ => by go_simp⟩) ⟨M.out, HRA.out⟩ ?_
          try simp only [List.getElem_toArray, List.getElem_cons_succ, List.getElem_cons_zero, Act.put, List.setIfInBounds_toArray, List.set_cons_zero, List.set_cons_succ]
          refine anyT_take [] (i := 4) (v := .pointer (some ⟨ab, ao + m * 34 + 1, none⟩)) rfl (by kernel_rfl) (by kernel_rfl) (by kernel_rfl) (fun _ _ _ h => h) (by kernel_rfl) (Or.inl ⟨by rfl, fun w' _ => by go_simp⟩) ⟨M.out, HRA.out⟩ ?_
          try simp only [List.getElem_toArray, List.getElem_cons_succ, List.getElem_cons_zero, Act.put, List.setIfInBounds_toArray, List.set_cons_zero, List.set_cons_succ]
          refine anyT_take [] (i := 5) (v := .agg (rowOf .u8 32 x.key)) rfl (by kernel_rfl) (by kernel_rfl) (by kernel_rfl) (fun _ _ _ h => h) (by kernel_rfl) (rowT_yields (by rfl) 28 (.tmp 30) rfl ab (ao + m * 34 + 1) rfl _ _ (fun _ h => va_key h.2.2) Tryd.underlying28 rfl (by rw [rowOf_size]; kernel_rfl)) ⟨M.out, HRA.out⟩ ?_
          try simp only [List.getElem_toArray, List.getElem_cons_succ, List.getElem_cons_zero, Act.put, List.setIfInBounds_toArray, List.set_cons_zero, List.set_cons_succ]
          refine anyT_take [] (i := 6) (v := .agg (parC D E)) rfl (by kernel_rfl) (by kernel_rfl) (by kernel_rfl) (fun _ _ _ h => h) (by kernel_rfl) (rowT_yields (by rfl) 24 (.tmp 6) rfl g6 0 rfl _ _ (fun _ h => rowT_range h.1.h6) Tryd.underlying24 rfl (by kernel_rfl)) ⟨M.out, HRA.out⟩ ?_
          try simp only [List.getElem_toArray, List.getElem_cons_succ, List.getElem_cons_zero, Act.put, List.setIfInBounds_toArray, List.set_cons_zero, List.set_cons_succ]
          refine anyT_take [] (i := 7) (v := .string chain) rfl (by kernel_rfl) (by kernel_rfl) (by kernel_rfl) (fun _ _ _ h => h) (by kernel_rfl) (Or.inl ⟨by rfl, fun w' _ => by go_simp⟩) ⟨M.out, HRA.out⟩ ?_
          try simp only [List.getElem_toArray, List.getElem_cons_succ, List.getElem_cons_zero, Act.put, List.setIfInBounds_toArray, List.set_cons_zero, List.set_cons_succ]
          refine anyT_take [] (i := 8) (v := .agg (voC v)) rfl (by kernel_rfl) (by kernel_rfl) (by kernel_rfl) (fun _ _ _ h => h) (by kernel_rfl) (rowT_yields (by rfl) 39 (.tmp 7) rfl g7 0 rfl _ _ (fun _ h => rowT_range h.1.h7) Tryd.underlying39 rfl (by rw [voC_size]; kernel_rfl)) ⟨M.out, HRA.out⟩ ?_
          try simp only [List.getElem_toArray, List.getElem_cons_succ, List.getElem_cons_zero, Act.put, List.setIfInBounds_toArray, List.set_cons_zero, List.set_cons_succ]
          refine anyT_take [] (i := 10) (v := .pointer (some ⟨g7, 36, none⟩)) rfl (by kernel_rfl) (by kernel_rfl) (by kernel_rfl) (fun _ _ _ h => h) (by kernel_rfl) (Or.inl ⟨by rfl, fun w' _ => by go_simp⟩) ⟨M.out, HRA.out⟩ ?_
          try simp only [List.getElem_toArray, List.getElem_cons_succ, List.getElem_cons_zero, Act.put, List.setIfInBounds_toArray, List.set_cons_zero, List.set_cons_succ]
          refine anyT_take [] (i := 11) (v := .slice sa ns sc) rfl (by kernel_rfl) (by kernel_rfl) (by kernel_rfl) (fun _ _ _ h => h) (by kernel_rfl) (Or.inl ⟨by rfl, fun w' hS => by have c := (vo_cells hS.1.h7).2.2.2.2.2; rw [HSV.out] at c; go_simp⟩) ⟨M.out, HRA.out⟩ ?_
          try simp only [List.getElem_toArray, List.getElem_cons_succ, List.getElem_cons_zero, Act.put, List.setIfInBounds_toArray, List.set_cons_zero, List.set_cons_succ]
          refine anyT_one (i := 9) (by kernel_rfl) rfl (fun K hK => ?_)
          rw [if_pos (by rfl)]
          try simp only [List.getElem_toArray, List.getElem_cons_succ, List.getElem_cons_zero]
          (go_simp; (with_reducible refine (HVB.out _).mono ?_); rintro e w6 ⟨vb, rfl, hv, hb⟩; have HVT := Lib.hid hv; replace M := Lib.hid (M.out.call hb); replace HRA := Lib.hid (HTURN.out _ _ hb HRA.out); clear hv hb)
          refine hK _ _ (fun _ => ⟨M.out, HRA.out⟩) ?_
          clear hK K
          try simp only [List.getElem_toArray, List.getElem_cons_succ, List.getElem_cons_zero, Act.put, List.setIfInBounds_toArray, List.set_cons_zero, List.set_cons_succ]
          refine anyT_one (i := 12) (by kernel_rfl) rfl (fun K hK => ?_)
          rw [if_pos (by rfl)]
          try simp only [List.getElem_toArray, List.getElem_cons_succ, List.getElem_cons_zero]
          (go_simp; (with_reducible refine (HKX.out _ _ (HE.out.below M.out.below HE.out.lt) HVT.out (HSV.out ▸ M.out.s)).mono ?_); rintro e w7 ⟨rfl, hb⟩; replace M := Lib.hid (M.out.call hb); replace HRA := Lib.hid (HTURN.out _ _ hb HRA.out); clear hb)
          refine hK _ _ (fun _ => ⟨M.out, HRA.out⟩) ?_
          clear hK K
          try simp only [List.getElem_toArray, List.getElem_cons_succ, List.getElem_cons_zero, Act.put, List.setIfInBounds_toArray, List.set_cons_zero, List.set_cons_succ]
          refine anyT_take [] (i := 13) (v := .bool true) rfl (by kernel_rfl) (by kernel_rfl) (by kernel_rfl) (fun _ _ _ h => h) (by kernel_rfl) (Or.inl ⟨by rfl, fun w' _ => by go_simp⟩) ⟨M.out, HRA.out⟩ ?_
          try simp only [List.getElem_toArray, List.getElem_cons_succ, List.getElem_cons_zero, Act.put, List.setIfInBounds_toArray, List.set_cons_zero, List.set_cons_succ]
          refine anyT_done (by kernel_rfl) ?_ _
          go_wp2_with (fail)
          go_ret
          exact ⟨by rw [HEE.out, HKK.out]; rfl, M.out.below⟩
      · have HKK := Lib.hid (HV2.out hk)
        have hck : ckR D E = some 20 := by unfold ckR; rw [if_neg hk]
        rw [hck] at HKC
        simp only [errV] at HKC
        clear hk hck HV1 HV2
        go_wp2_with (first
          | (refine wpList_load_rowT (by rfl) 24 (.tmp 6) rfl g6 0 rfl (parC D E) _ (rowT_range M.out.h6) Tryd.underlying24 rfl (by kernel_rfl) ?_)
          | (go_at_call 45; (with_reducible refine (HKC.out _).mono ?_); rintro e w4 ⟨rfl, hb⟩; replace M := Lib.hid (M.out.call hb); clear hb))
        go_ret
        exact ⟨by rw [HEE.out, HKK.out]; rfl, M.out.below⟩
    · have HF := Lib.hid (show vvE chain l D E v = some 31 from by unfold vvE; rw [if_neg (fun h => hi (by rw [HNL.out]; exact h.2))])
      have HIX := Lib.hid (fun w => isindex_any v.val la nl lc w)
      rw [decide_eq_false hi] at HIX
      clear hi
      go_wp2_with (first
        | (refine wpList_load_rowT (by rfl) 39 (.tmp 7) rfl g7 0 rfl (voC v) _ (rowT_range M.out.h7) Tryd.underlying39 rfl (by rw [voC_size]; kernel_rfl) ?_)
        | (go_at_call 43; (with_reducible refine (HCB.out _).mono ?_); rintro e w2 ⟨rfl, hb⟩; replace M := Lib.hid (M.out.call hb); have c35 := (vo_cells M.out.h7).2.2.2.2.1; clear hb)
        | (go_at_call 44; (with_reducible refine (HIX.out _).mono ?_); rintro e w3 ⟨rfl, rfl⟩))
      go_ret
      exact ⟨by rw [HEE.out, HF.out]; rfl, M.out.below⟩
end Go.Proofs.YtabflppnecemkaaDoor
