/- Part 29 of the proof. -/
import Derived.Test.YtjnpcmfpiejmjaaGreatDoorVo4
import Derived.Test.YtjnpcmfpiejmjaaGreatDoorVo10
import Derived.Test.YtjnpcmfpiejmjaaGreatDoorVo22
import Derived.Test.YtjnpcmfpiejmjaaGreatDoorVo28
namespace Go.Proofs.YtjnpcmfpiejmjaaGreatDoor
set_option linter.unusedVariables false
set_option linter.unusedSimpArgs false
open Go.RowKit
set_option maxRecDepth 100000
set_option linter.unusedSimpArgs false
set_option linter.unusedVariables false
def zV : Va := ⟨{ data := #[] }, fun _ => 0, 0⟩
/-- VerifyVote -/
def vvE (chain : ByteArray) (l : List Va) (D E : Int) (v : Vo) : Option Nat :=
  if canB v = true ∧ 0 ≤ v.val ∧ v.val < l.length then
    if kOk D E then (match verR ((l[v.val.toNat]?.getD zV).key) D E (vbL chain v) v.sign with | none => none | some _ => some 21) else some 20
  else some 31
theorem vv_idx {chain : ByteArray} {l : List Va} {D E : Int} {v : Vo} (h : vvE chain l D E v = none) : 0 ≤ v.val ∧ v.val < l.length := by
  unfold vvE at h
  by_cases hc : canB v = true ∧ 0 ≤ v.val ∧ v.val < l.length
  · exact hc.2
  · rw [if_neg hc] at h; cases h
/-- what lies in memory while VerifyVote goes on -/
structure VvM (w0 : World) (g6 g7 : Nat) (D E : Int) (v : Vo) (l : List Va) (lv : Value) (w : World) : Prop where
  below : Below w0.heap.size w0 w
  h6 : w.heap[g6]? = some (.cells (parC D E) 42 (0, 0))
  h7 : w.heap[g7]? = some (.cells (voC v) 46 (0, 0))
  l : VaIn w lv l
  s : BytesIn w v.sv v.sign
theorem VvM.call {w0 w w' : World} {g6 g7 : Nat} {D E : Int} {v : Vo} {l : List Va} {lv : Value} (m : VvM w0 g6 g7 D E v l lv w) (hb : Below w.heap.size w w') : VvM w0 g6 g7 D E v l lv w' :=
  ⟨m.below.trans (hb.mono m.below.size), (hb.block _ (bkT_lt m.h6)).trans m.h6, (hb.block _ (bkT_lt m.h7)).trans m.h7, m.l.below hb, m.s.below hb⟩
theorem va_key {w : World} {ab o : Nat} {x : Va} (h : w.rangeAt ab o (vaC x).toList) : w.rangeAt ab (o + 1) (rowOf .u8 32 x.key).toList := fun j u hu => by
  have hj : j < 32 := by have := (List.getElem?_eq_some_iff.1 hu).1; simpa [rowOf_size] using this
  have := h (1 + j) u (by
    rw [Array.getElem?_toList]; unfold vaC
    rw [Array.getElem?_append_left (by simp [rowOf_size]; omega), Array.getElem?_append_right (by simp)]
    simpa using hu)
  rw [Nat.add_assoc]; exact this
theorem va_pow {w : World} {ab o : Nat} {x : Va} (h : w.rangeAt ab o (vaC x).toList) : w.cell? ⟨ab, o + 33, none⟩ = some (.int .i64 x.pow) :=
  h 33 _ (by
    rw [Array.getElem?_toList]; unfold vaC
    rw [Array.getElem?_append_right (by simp [rowOf_size])]; simp [rowOf_size])
set_option maxHeartbeats 16000000 in
theorem vvote_any (chain : ByteArray) (l : List Va) (lv : Value) (D E : Int) (v : Vo) (w : World) (he : Env w) (hl : VaIn w lv l) (hs : BytesIn w v.sv v.sign) (hc : chain.size ≤ 140737488351232) (hv : VoOk v) (hb : bytesOk v.sign) (hz : v.sign.length ≤ 140737488355328) (hn : l.length ≤ 9223372036854775807) :
    Calls Tryz.prog 21 #[.string chain, lv, .agg (parC D E), .agg (voC v)] w fun e w' => e = .returned (errV (vvE chain l D E v)) ∧ Below w.heap.size w w' := by
  obtain ⟨la, lc, rfl, -, -⟩ := hl.len
  obtain ⟨sa, sc, hsv, -, -, -⟩ := id hs
  have HSV := Lib.hid hsv
  have hb1 := below_alloc w (.cells (parC D E) 42)
  have hb2 := below_alloc (w.alloc (.cells (parC D E) 42)) (.cells (voC v) 46)
  have h7 := heap_alloc_new (w.alloc (.cells (parC D E) 42)) (.cells (voC v) 46)
  rw [size_alloc] at h7
  have M := Lib.hid (show VvM w w.heap.size (w.heap.size + 1) D E v l (.slice la l.length lc) ((w.alloc (.cells (parC D E) 42)).alloc (.cells (voC v) 46)) from
    ⟨hb1.trans (hb2.mono (by simp)), (hb2.block _ (by simp)).trans (heap_alloc_new w _), h7, (hl.below hb1).below hb2, (hs.below hb1).below hb2⟩)
  have HE := Lib.hid he
  have HCB := Lib.hid (fun w => canbe_any v w)
  have HVB := Lib.hid (fun w => votebytes_any chain v w hc hv)
  have HKC := Lib.hid (show ∀ w, Calls Tryz.prog 73 #[.agg (parC D E)] w fun e w' => e = .returned (errV (ckR D E)) ∧ Below w.heap.size w w' from fun w => kcheck_any D E w)
  have HKV := Lib.hid (show ∀ F vt w, Env w → BytesIn w vt (vbL chain v) → BytesIn w v.sv v.sign → Calls Tryz.prog 74 #[.agg (rowOf .u8 32 F), .agg (parC D E), vt, v.sv] w fun e w' => e = .returned (errV (verR F D E (vbL chain v) v.sign)) ∧ Below w.heap.size w w' from fun F vt w he h1 h2 => kverify_any F D E vt v.sv (vbL chain v) v.sign w he h1 h2 hb hz)
  obtain ⟨ns, hns⟩ : ∃ n, n = v.sign.length := ⟨_, rfl⟩
  rw [← hns] at hsv HSV
  rw [hsv] at HKV
  obtain ⟨E1, hE1⟩ : ∃ E1, E1 = vvE chain l D E v := ⟨_, rfl⟩
  have HEE := Lib.hid hE1
  obtain ⟨nl, hnl⟩ : ∃ n, n = l.length := ⟨_, rfl⟩
  have HNL := Lib.hid hnl
  rw [← hnl] at M hn ⊢
  rw [← hE1]
  clear hb1 hb2 h7 he hl hs hc hv hb hz hE1 hnl hsv hns
  go_enter Tryz.func21, Tryz.ntmps21
  go_upto_region 1 with (fail)
  obtain ⟨g6, hg6⟩ : ∃ g, g = w.heap.size := ⟨_, rfl⟩
  obtain ⟨g7, hg7⟩ : ∃ g, g = w.heap.size + 1 := ⟨_, rfl⟩
  rw [← hg7, ← hg6] at M
  rw [← hg7, ← hg6]
  clear hg6 hg7
  generalize (w.alloc (.cells (parC D E) 42)).alloc (.cells (voC v) 46) = w1 at *
  cases hcb : canB v with
  | false =>
    have HF := Lib.hid (show vvE chain l D E v = some 31 from by unfold vvE; rw [if_neg (fun h => by rw [hcb] at h; exact absurd h.1 (by simp))])
    rw [hcb] at HCB
    clear hcb
    go_wp2_with (first
      | (refine wpList_load_rowT (by rfl) 46 (.tmp 7) rfl g7 0 rfl (voC v) _ (rowT_range M.out.h7) Tryz.underlying46 rfl (by rw [voC_size]; kernel_rfl) ?_)
      | (go_at_call 71; (with_reducible refine (HCB.out _).mono ?_); rintro e w2 ⟨rfl, hb⟩; replace M := Lib.hid (M.out.call hb); clear hb))
    go_ret
    exact ⟨by rw [HEE.out, HF.out]; rfl, M.out.below⟩
  | true =>
    have HCT := Lib.hid hcb
    rw [hcb] at HCB
    clear hcb
    by_cases hi : 0 ≤ v.val ∧ v.val < nl
    · obtain ⟨m, hm⟩ : ∃ m : Nat, v.val = (m : Int) := ⟨v.val.toNat, by omega⟩
      have hml : m < nl := by omega
      have hmI : (m : Int) < (nl : Int) := by omega
      obtain ⟨x, hx⟩ : ∃ x, l[m]? = some x := ⟨l[m]'(by have := HNL.out; omega), List.getElem?_eq_getElem _⟩
      have hv := M.out.l
      rw [HNL.out] at hv
      obtain ⟨ab, ao, rfl, hab, hra⟩ := hv.at hx
      have HRA := Lib.hid (show ab < w1.heap.size ∧ w1.rangeAt ab (ao + m * 34) (vaC x).toList from ⟨hab, hra⟩)
      have HM := Lib.hid hm
      have HV1 := Lib.hid (show kOk D E → vvE chain l D E v = match verR x.key D E (vbL chain v) v.sign with | none => none | some _ => some 21 from fun hk => by
        unfold vvE
        rw [if_pos ⟨HCT.out, by rw [hm]; omega, by rw [hm, ← HNL.out]; exact hmI⟩, if_pos hk, hm, Int.toNat_natCast, hx]
        rfl)
      have HV2 := Lib.hid (show ¬ kOk D E → vvE chain l D E v = some 20 from fun hk => by
        unfold vvE
        rw [if_pos ⟨HCT.out, by rw [hm]; omega, by rw [hm, ← HNL.out]; exact hmI⟩, if_neg hk])
      have HIX := Lib.hid (fun w => isindex_any (m : Int) (some ⟨ab, ao, none⟩) nl lc w)
      rw [decide_eq_true (show 0 ≤ (m : Int) ∧ (m : Int) < (nl : Int) by omega)] at HIX
      clear hv hab hra hx hi hml
      have HTURN := Lib.hid (show ∀ a b : World, Below a.heap.size a b → (ab < a.heap.size ∧ a.rangeAt ab (ao + m * 34) (vaC x).toList) → (ab < b.heap.size ∧ b.rangeAt ab (ao + m * 34) (vaC x).toList) from fun a b hb h => ⟨Nat.lt_of_lt_of_le h.1 hb.size, rangeT_below h.2 hb h.1⟩)
      go_upto_region 3 with (first
        | (refine wpList_load_rowT (by rfl) 46 (.tmp 7) rfl g7 0 rfl (voC v) _ (rowT_range M.out.h7) Tryz.underlying46 rfl (by rw [voC_size]; kernel_rfl) ?_)
        | (go_at_call 71; (with_reducible refine (HCB.out _).mono ?_); rintro e w2 ⟨rfl, hb⟩; replace M := Lib.hid (M.out.call hb); replace HRA := Lib.hid (HTURN.out _ _ hb HRA.out); have c35 := (vo_cells M.out.h7).2.2.2.2.1; rw [HM.out] at c35; clear hb)
        | (go_at_call 72; (with_reducible refine (HIX.out _).mono ?_); rintro e w3 ⟨rfl, rfl⟩))
      clear c35 hm HIX HCB
      by_cases hk : kOk D E
      · have HKK := Lib.hid (HV1.out hk)
        have hck : ckR D E = none := by unfold ckR; rw [if_pos hk]
        rw [hck] at HKC
        simp only [errV] at HKC
        clear hk hck HV1 HV2
        go_upto_region 6 with (first
          | (refine wpList_load_rowT (by rfl) 42 (.tmp 6) rfl g6 0 rfl (parC D E) _ (rowT_range M.out.h6) Tryz.underlying42 rfl (by kernel_rfl) ?_)
          | (go_at_call 73; (with_reducible refine (HKC.out _).mono ?_); rintro e w4 ⟨rfl, hb⟩; replace M := Lib.hid (M.out.call hb); replace HRA := Lib.hid (HTURN.out _ _ hb HRA.out); clear hb))
        clear HKC
        have HKX := Lib.hid (fun vt w => HKV.out x.key vt w)
        obtain ⟨r, hr⟩ : ∃ r, r = verR x.key D E (vbL chain v) v.sign := ⟨_, rfl⟩
        rw [← hr] at HKX HKK
        clear hr HKV
        cases r with
        | none =>
          simp only [errV] at HKX
          refine wp_region_T (fun w' => VvM w g6 g7 D E v l (.slice (some ⟨ab, ao, none⟩) nl lc) w' ∧ ab < w'.heap.size ∧ w'.rangeAt ab (ao + m * 34) (vaC x).toList) [0, 1, 2, 3, 4, 5, 6, 7, 8, 9, 10, 11, 12, 13] (by kernel_rfl) ?_
          replace M := Lib.hid (M.out.call (Below.refl _ _).drew)
          replace HRA := Lib.hid (HTURN.out _ _ (Below.refl _ _).drew HRA.out)
          generalize w4.drew = w5 at *
          refine anyT_take [] (i := 0) (v := .slice (some ⟨ab, ao, none⟩) nl lc) rfl (by kernel_rfl) (by kernel_rfl) (by kernel_rfl) (fun _ _ _ h => h) (by kernel_rfl) (Or.inl ⟨by rfl, fun w' _ => by go_simp⟩) ⟨M.out, HRA.out⟩ ?_
          try simp only [List.getElem_toArray, List.getElem_cons_succ, List.getElem_cons_zero, Act.put, List.setIfInBounds_toArray, List.set_cons_zero, List.set_cons_succ]
          refine anyT_take [] (i := 1) (v := .pointer (some ⟨g7, 35, none⟩)) rfl (by kernel_rfl) (by kernel_rfl) (by kernel_rfl) (fun _ _ _ h => h) (by kernel_rfl) (Or.inl ⟨by rfl, fun w' _ => by go_simp⟩) ⟨M.out, HRA.out⟩ ?_
          try simp only [List.getElem_toArray, List.getElem_cons_succ, List.getElem_cons_zero, Act.put, List.setIfInBounds_toArray, List.set_cons_zero, List.set_cons_succ]
          refine anyT_take [] (i := 2) (v := .int .i64 (m : Int)) rfl (by kernel_rfl) (by kernel_rfl) (by kernel_rfl) (fun _ _ _ h => h) (by kernel_rfl) (Or.inl ⟨by rfl, fun w' hS => by have c := (vo_cells hS.1.h7).2.2.2.2.1; rw [HM.out] at c; go_simp⟩) ⟨M.out, HRA.out⟩ ?_
          try simp only [List.getElem_toArray, List.getElem_cons_succ, List.getElem_cons_zero, Act.put, List.setIfInBounds_toArray, List.set_cons_zero, List.set_cons_succ]
          refine anyT_take [] (i := 3) (v := .pointer (some ⟨ab, ao + m * 34, none⟩)) rfl (by kernel_rfl) (by kernel_rfl) (by kernel_rfl) (fun _ _ _ h => h) (by kernel_rfl) (Or.inl ⟨by rfl, fun w' _ => by go_simp⟩) ⟨M.out, HRA.out⟩ ?_
          try simp only [List.getElem_toArray, List.getElem_cons_succ, List.getElem_cons_zero, Act.put, List.setIfInBounds_toArray, List.set_cons_zero, List.set_cons_succ]
          refine anyT_take [] (i := 4) (v := .pointer (some ⟨ab, ao + m * 34 + 1, none⟩)) rfl (by kernel_rfl) (by kernel_rfl) (by kernel_rfl) (fun _ _ _ h => h) (by kernel_rfl) (Or.inl ⟨by rfl, fun w' _ => by go_simp⟩) ⟨M.out, HRA.out⟩ ?_
          try simp only [List.getElem_toArray, List.getElem_cons_succ, List.getElem_cons_zero, Act.put, List.setIfInBounds_toArray, List.set_cons_zero, List.set_cons_succ]
          refine anyT_take [] (i := 5) (v := .agg (rowOf .u8 32 x.key)) rfl (by kernel_rfl) (by kernel_rfl) (by kernel_rfl) (fun _ _ _ h => h) (by kernel_rfl) (rowT_yields (by rfl) 32 (.tmp 30) rfl ab (ao + m * 34 + 1) rfl _ _ (fun _ h => va_key h.2.2) Tryz.underlying32 rfl (by rw [rowOf_size]; kernel_rfl)) ⟨M.out, HRA.out⟩ ?_
          try simp only [List.getElem_toArray, List.getElem_cons_succ, List.getElem_cons_zero, Act.put, List.setIfInBounds_toArray, List.set_cons_zero, List.set_cons_succ]
          refine anyT_take [] (i := 6) (v := .agg (parC D E)) rfl (by kernel_rfl) (by kernel_rfl) (by kernel_rfl) (fun _ _ _ h => h) (by kernel_rfl) (rowT_yields (by rfl) 42 (.tmp 6) rfl g6 0 rfl _ _ (fun _ h => rowT_range h.1.h6) Tryz.underlying42 rfl (by kernel_rfl)) ⟨M.out, HRA.out⟩ ?_
          try simp only [List.getElem_toArray, List.getElem_cons_succ, List.getElem_cons_zero, Act.put, List.setIfInBounds_toArray, List.set_cons_zero, List.set_cons_succ]
          refine anyT_take [] (i := 7) (v := .string chain) rfl (by kernel_rfl) (by kernel_rfl) (by kernel_rfl) (fun _ _ _ h => h) (by kernel_rfl) (Or.inl ⟨by rfl, fun w' _ => by go_simp⟩) ⟨M.out, HRA.out⟩ ?_
          try simp only [List.getElem_toArray, List.getElem_cons_succ, List.getElem_cons_zero, Act.put, List.setIfInBounds_toArray, List.set_cons_zero, List.set_cons_succ]
          refine anyT_take [] (i := 8) (v := .agg (voC v)) rfl (by kernel_rfl) (by kernel_rfl) (by kernel_rfl) (fun _ _ _ h => h) (by kernel_rfl) (rowT_yields (by rfl) 46 (.tmp 7) rfl g7 0 rfl _ _ (fun _ h => rowT_range h.1.h7) Tryz.underlying46 rfl (by rw [voC_size]; kernel_rfl)) ⟨M.out, HRA.out⟩ ?_
          try simp only [List.getElem_toArray, List.getElem_cons_succ, List.getElem_cons_zero, Act.put, List.setIfInBounds_toArray, List.set_cons_zero, List.set_cons_succ]
          refine anyT_take [] (i := 10) (v := .pointer (some ⟨g7, 36, none⟩)) rfl (by kernel_rfl) (by kernel_rfl) (by kernel_rfl) (fun _ _ _ h => h) (by kernel_rfl) (Or.inl ⟨by rfl, fun w' _ => by go_simp⟩) ⟨M.out, HRA.out⟩ ?_
          try simp only [List.getElem_toArray, List.getElem_cons_succ, List.getElem_cons_zero, Act.put, List.setIfInBounds_toArray, List.set_cons_zero, List.set_cons_succ]
          refine anyT_take [] (i := 11) (v := .slice sa ns sc) rfl (by kernel_rfl) (by kernel_rfl) (by kernel_rfl) (fun _ _ _ h => h) (by kernel_rfl) (Or.inl ⟨by rfl, fun w' hS => by have c := (vo_cells hS.1.h7).2.2.2.2.2; rw [HSV.out] at c; go_simp⟩) ⟨M.out, HRA.out⟩ ?_
          try simp only [List.getElem_toArray, List.getElem_cons_succ, List.getElem_cons_zero, Act.put, List.setIfInBounds_toArray, List.set_cons_zero, List.set_cons_succ]
          refine anyT_one (i := 9) (by kernel_rfl) rfl (fun K hK => ?_)
          rw [if_pos (by rfl)]
          try simp only [List.getElem_toArray, List.getElem_cons_succ, List.getElem_cons_zero]
          (go_simp; (with_reducible refine (HVB.out _).mono ?_); rintro e w6 ⟨vb, rfl, hv, hb⟩; have HVT := Lib.hid hv; replace M := Lib.hid (M.out.call hb); replace HRA := Lib.hid (HTURN.out _ _ hb HRA.out); clear hv hb)
          refine hK _ _ (fun _ => ⟨M.out, HRA.out⟩) ?_
          clear hK K
          try simp only [List.getElem_toArray, List.getElem_cons_succ, List.getElem_cons_zero, Act.put, List.setIfInBounds_toArray, List.set_cons_zero, List.set_cons_succ]
          refine anyT_one (i := 12) (by kernel_rfl) rfl (fun K hK => ?_)
          rw [if_pos (by rfl)]
          try simp only [List.getElem_toArray, List.getElem_cons_succ, List.getElem_cons_zero]
          (go_simp; (with_reducible refine (HKX.out _ _ (HE.out.below M.out.below HE.out.lt) HVT.out (HSV.out ▸ M.out.s)).mono ?_); rintro e w7 ⟨rfl, hb⟩; replace M := Lib.hid (M.out.call hb); replace HRA := Lib.hid (HTURN.out _ _ hb HRA.out); clear hb)
          refine hK _ _ (fun _ => ⟨M.out, HRA.out⟩) ?_
          clear hK K
          try simp only [List.getElem_toArray, List.getElem_cons_succ, List.getElem_cons_zero, Act.put, List.setIfInBounds_toArray, List.set_cons_zero, List.set_cons_succ]
          refine anyT_take [] (i := 13) (v := .bool false) rfl (by kernel_rfl) (by kernel_rfl) (by kernel_rfl) (fun _ _ _ h => h) (by kernel_rfl) (Or.inl ⟨by rfl, fun w' _ => by go_simp⟩) ⟨M.out, HRA.out⟩ ?_
          try simp only [List.getElem_toArray, List.getElem_cons_succ, List.getElem_cons_zero, Act.put, List.setIfInBounds_toArray, List.set_cons_zero, List.set_cons_succ]
          refine anyT_done (by kernel_rfl) ?_ _
          go_wp2_with (fail)
          go_ret
          exact ⟨by rw [HEE.out, HKK.out]; rfl, M.out.below⟩
        | some y =>
          simp only [errV] at HKX
          refine wp_region_T (fun w' => VvM w g6 g7 D E v l (.slice (some ⟨ab, ao, none⟩) nl lc) w' ∧ ab < w'.heap.size ∧ w'.rangeAt ab (ao + m * 34) (vaC x).toList) [0, 1, 2, 3, 4, 5, 6, 7, 8, 9, 10, 11, 12, 13] (by kernel_rfl) ?_
          replace M := Lib.hid (M.out.call (Below.refl _ _).drew)
          replace HRA := Lib.hid (HTURN.out _ _ (Below.refl _ _).drew HRA.out)
          generalize w4.drew = w5 at *
          refine anyT_take [] (i := 0) (v := .slice (some ⟨ab, ao, none⟩) nl lc) rfl (by kernel_rfl) (by kernel_rfl) (by kernel_rfl) (fun _ _ _ h => h) (by kernel_rfl) (Or.inl ⟨by rfl, fun w' _ => by go_simp⟩) ⟨M.out, HRA.out⟩ ?_
          try simp only [List.getElem_toArray, List.getElem_cons_succ, List.getElem_cons_zero, Act.put, List.setIfInBounds_toArray, List.set_cons_zero, List.set_cons_succ]
          refine anyT_take [] (i := 1) (v := .pointer (some ⟨g7, 35, none⟩)) rfl (by kernel_rfl) (by kernel_rfl) (by kernel_rfl) (fun _ _ _ h => h) (by kernel_rfl) (Or.inl ⟨by rfl, fun w' _ => by go_simp⟩) ⟨M.out, HRA.out⟩ ?_
          try simp only [List.getElem_toArray, List.getElem_cons_succ, List.getElem_cons_zero, Act.put, List.setIfInBounds_toArray, List.set_cons_zero, List.set_cons_succ]
          refine anyT_take [] (i := 2) (v := .int .i64 (m : Int)) rfl (by kernel_rfl) (by kernel_rfl) (by kernel_rfl) (fun _ _ _ h => h) (by kernel_rfl) (Or.inl ⟨by rfl, fun w' hS => by have c := (vo_cells hS.1.h7).2.2.2.2.1; rw [HM.out] at c; go_simp⟩) ⟨M.out, HRA.out⟩ ?_
          try simp only [List.getElem_toArray, List.getElem_cons_succ, List.getElem_cons_zero, Act.put, List.setIfInBounds_toArray, List.set_cons_zero, List.set_cons_succ]
          refine anyT_take [] (i := 3) (v := .pointer (some ⟨ab, ao + m * 34, none⟩)) rfl (by kernel_rfl) (by kernel_rfl) (by kernel_rfl) (fun _ _ _ h => h) (by kernel_rfl) (Or.inl ⟨by rfl, fun w' _ => by go_simp⟩) ⟨M.out, HRA.out⟩ ?_
          try simp only [List.getElem_toArray, List.getElem_cons_succ, List.getElem_cons_zero, Act.put, List.setIfInBounds_toArray, List.set_cons_zero, List.set_cons_succ]
          refine anyT_take [] (i := 4) (v := .pointer (some ⟨ab, ao + m * 34 + 1, none⟩)) rfl (by kernel_rfl) (by kernel_rfl) (by kernel_rfl) (fun _ _ _ h => h) (by kernel_rfl) (Or.inl ⟨by rfl, fun w' _ => by go_simp⟩) ⟨M.out, HRA.out⟩ ?_
          try simp only [List.getElem_toArray, List.getElem_cons_succ, List.getElem_cons_zero, Act.put, List.setIfInBounds_toArray, List.set_cons_zero, List.set_cons_succ]
          refine anyT_take [] (i := 5) (v := .agg (rowOf .u8 32 x.key)) rfl (by kernel_rfl) (by kernel_rfl) (by kernel_rfl) (fun _ _ _ h => h) (by kernel_rfl) (rowT_yields (by rfl) 32 (.tmp 30) rfl ab (ao + m * 34 + 1) rfl _ _ (fun _ h => va_key h.2.2) Tryz.underlying32 rfl (by rw [rowOf_size]; kernel_rfl)) ⟨M.out, HRA.out⟩ ?_
          try simp only [List.getElem_toArray, List.getElem_cons_succ, List.getElem_cons_zero, Act.put, List.setIfInBounds_toArray, List.set_cons_zero, List.set_cons_succ]
          refine anyT_take [] (i := 6) (v := .agg (parC D E)) rfl (by kernel_rfl) (by kernel_rfl) (by kernel_rfl) (fun _ _ _ h => h) (by kernel_rfl) (rowT_yields (by rfl) 42 (.tmp 6) rfl g6 0 rfl _ _ (fun _ h => rowT_range h.1.h6) Tryz.underlying42 rfl (by kernel_rfl)) ⟨M.out, HRA.out⟩ ?_
          try simp only [List.getElem_toArray, List.getElem_cons_succ, List.getElem_cons_zero, Act.put, List.setIfInBounds_toArray, List.set_cons_zero, List.set_cons_succ]
          refine anyT_take [] (i := 7) (v := .string chain) rfl (by kernel_rfl) (by kernel_rfl) (by kernel_rfl) (fun _ _ _ h => h) (by kernel_rfl) (Or.inl ⟨by rfl, fun w' _ => by go_simp⟩) ⟨M.out, HRA.out⟩ ?_
          try simp only [List.getElem_toArray, List.getElem_cons_succ, List.getElem_cons_zero, Act.put, List.setIfInBounds_toArray, List.set_cons_zero, List.set_cons_succ]
          refine anyT_take [] (i := 8) (v := .agg (voC v)) rfl (by kernel_rfl) (by kernel_rfl) (by kernel_rfl) (fun _ _ _ h => h) (by kernel_rfl) (rowT_yields (by rfl) 46 (.tmp 7) rfl g7 0 rfl _ _ (fun _ h => rowT_range h.1.h7) Tryz.underlying46 rfl (by rw [voC_size]; kernel_rfl)) ⟨M.out, HRA.out⟩ ?_
          try simp only [List.getElem_toArray, List.getElem_cons_succ, List.getElem_cons_zero, Act.put, List.setIfInBounds_toArray, List.set_cons_zero, List.set_cons_succ]
          refine anyT_take [] (i := 10) (v := .pointer (some ⟨g7, 36, none⟩)) rfl (by kernel_rfl) (by kernel_rfl) (by kernel_rfl) (fun _ _ _ h => h) (by kernel_rfl) (Or.inl ⟨by rfl, fun w' _ => by go_simp⟩) ⟨M.out, HRA.out⟩ ?_
          try simp only [List.getElem_toArray, List.getElem_cons_succ, List.getElem_cons_zero, Act.put, List.setIfInBounds_toArray, List.set_cons_zero, List.set_cons_succ]
          refine anyT_take [] (i := 11) (v := .slice sa ns sc) rfl (by kernel_rfl) (by kernel_rfl) (by kernel_rfl) (fun _ _ _ h => h) (by kernel_rfl) (Or.inl ⟨by rfl, fun w' hS => by have c := (vo_cells hS.1.h7).2.2.2.2.2; rw [HSV.out] at c; go_simp⟩) ⟨M.out, HRA.out⟩ ?_
          try simp only [List.getElem_toArray, List.getElem_cons_succ, List.getElem_cons_zero, Act.put, List.setIfInBounds_toArray, List.set_cons_zero, List.set_cons_succ]
          refine anyT_one (i := 9) (by kernel_rfl) rfl (fun K hK => ?_)
          rw [if_pos (by rfl)]
          try simp only [List.getElem_toArray, List.getElem_cons_succ, List.getElem_cons_zero]
          (go_simp; (with_reducible refine (HVB.out _).mono ?_); rintro e w6 ⟨vb, rfl, hv, hb⟩; have HVT := Lib.hid hv; replace M := Lib.hid (M.out.call hb); replace HRA := Lib.hid (HTURN.out _ _ hb HRA.out); clear hv hb)
          refine hK _ _ (fun _ => ⟨M.out, HRA.out⟩) ?_
          clear hK K
          try simp only [List.getElem_toArray, List.getElem_cons_succ, List.getElem_cons_zero, Act.put, List.setIfInBounds_toArray, List.set_cons_zero, List.set_cons_succ]
          refine anyT_one (i := 12) (by kernel_rfl) rfl (fun K hK => ?_)
          rw [if_pos (by rfl)]
          try simp only [List.getElem_toArray, List.getElem_cons_succ, List.getElem_cons_zero]
          (go_simp; (with_reducible refine (HKX.out _ _ (HE.out.below M.out.below HE.out.lt) HVT.out (HSV.out ▸ M.out.s)).mono ?_); rintro e w7 ⟨rfl, hb⟩; replace M := Lib.hid (M.out.call hb); replace HRA := Lib.hid (HTURN.out _ _ hb HRA.out); clear hb)
          refine hK _ _ (fun _ => ⟨M.out, HRA.out⟩) ?_
          clear hK K
          try simp only [List.getElem_toArray, List.getElem_cons_succ, List.getElem_cons_zero, Act.put, List.setIfInBounds_toArray, List.set_cons_zero, List.set_cons_succ]
          refine anyT_take [] (i := 13) (v := .bool true) rfl (by kernel_rfl) (by kernel_rfl) (by kernel_rfl) (fun _ _ _ h => h) (by kernel_rfl) (Or.inl ⟨by rfl, fun w' _ => by go_simp⟩) ⟨M.out, HRA.out⟩ ?_
          try simp only [List.getElem_toArray, List.getElem_cons_succ, List.getElem_cons_zero, Act.put, List.setIfInBounds_toArray, List.set_cons_zero, List.set_cons_succ]
          refine anyT_done (by kernel_rfl) ?_ _
          go_wp2_with (fail)
          go_ret
          exact ⟨by rw [HEE.out, HKK.out]; rfl, M.out.below⟩
      · have HKK := Lib.hid (HV2.out hk)
        have hck : ckR D E = some 20 := by unfold ckR; rw [if_neg hk]
        rw [hck] at HKC
        simp only [errV] at HKC
        clear hk hck HV1 HV2
        go_wp2_with (first
          | (refine wpList_load_rowT (by rfl) 42 (.tmp 6) rfl g6 0 rfl (parC D E) _ (rowT_range M.out.h6) Tryz.underlying42 rfl (by kernel_rfl) ?_)
          | (go_at_call 73; (with_reducible refine (HKC.out _).mono ?_); rintro e w4 ⟨rfl, hb⟩; replace M := Lib.hid (M.out.call hb); clear hb))
        go_ret
        exact ⟨by rw [HEE.out, HKK.out]; rfl, M.out.below⟩
    · have HF := Lib.hid (show vvE chain l D E v = some 31 from by unfold vvE; rw [if_neg (fun h => hi (by rw [HNL.out]; exact h.2))])
      have HIX := Lib.hid (fun w => isindex_any v.val la nl lc w)
      rw [decide_eq_false hi] at HIX
      clear hi
      go_wp2_with (first
        | (refine wpList_load_rowT (by rfl) 46 (.tmp 7) rfl g7 0 rfl (voC v) _ (rowT_range M.out.h7) Tryz.underlying46 rfl (by rw [voC_size]; kernel_rfl) ?_)
        | (go_at_call 71; (with_reducible refine (HCB.out _).mono ?_); rintro e w2 ⟨rfl, hb⟩; replace M := Lib.hid (M.out.call hb); have c35 := (vo_cells M.out.h7).2.2.2.2.1; clear hb)
        | (go_at_call 72; (with_reducible refine (HIX.out _).mono ?_); rintro e w3 ⟨rfl, rfl⟩))
      go_ret
      exact ⟨by rw [HEE.out, HF.out]; rfl, M.out.below⟩
end Go.Proofs.YtjnpcmfpiejmjaaGreatDoor
namespace Go.Proofs.YtjnpcmfpiejmjaaGreatDoor
set_option linter.unusedVariables false
set_option linter.unusedSimpArgs false
open Go.RowKit
set_option maxRecDepth 100000
set_option linter.unusedSimpArgs false
set_option linter.unusedVariables false
def sameSl (a b : Vo) : Bool := decide (a.kind = b.kind) && (decide (a.height = b.height) && (decide (a.round = b.round) && decide (a.val = b.val)))
set_option maxHeartbeats 4000000 in
theorem sameslot_any (a b : Vo) (w : World) : Calls Tryz.prog 77 #[.agg (voC a), .agg (voC b)] w fun e w' => e = .returned (.bool (sameSl a b)) ∧ Below w.heap.size w w' := by
  have hb1 := below_alloc w (.cells (voC a) 46)
  have hb2 := below_alloc (w.alloc (.cells (voC a) 46)) (.cells (voC b) 46)
  have HQ := Lib.hid ((hb2.block _ (by simp)).trans (heap_alloc_new w (.cells (voC a) 46)))
  have HC := Lib.hid (heap_alloc_new (w.alloc (.cells (voC a) 46)) (.cells (voC b) 46))
  rw [size_alloc] at HC
  have HB := Lib.hid (hb1.trans (hb2.mono (by simp)))
  clear hb1 hb2
  obtain ⟨K, hK⟩ : ∃ K, K = a.kind := ⟨_, rfl⟩
  obtain ⟨H, hH⟩ : ∃ K, K = a.height := ⟨_, rfl⟩
  obtain ⟨R, hR⟩ : ∃ K, K = a.round := ⟨_, rfl⟩
  obtain ⟨V, hV⟩ : ∃ K, K = a.val := ⟨_, rfl⟩
  obtain ⟨K2, hK2⟩ : ∃ K, K = b.kind := ⟨_, rfl⟩
  obtain ⟨H2, hH2⟩ : ∃ K, K = b.height := ⟨_, rfl⟩
  obtain ⟨R2, hR2⟩ : ∃ K, K = b.round := ⟨_, rfl⟩
  obtain ⟨V2, hV2⟩ : ∃ K, K = b.val := ⟨_, rfl⟩
  obtain ⟨t, ht⟩ : ∃ t, t = sameSl a b := ⟨_, rfl⟩
  have hbe : t = (decide (K = K2) && (decide (H = H2) && (decide (R = R2) && decide (V = V2)))) := by rw [ht, hK, hH, hR, hV, hK2, hH2, hR2, hV2]; rfl
  rw [← ht]
  go_enter Tryz.func77, Tryz.ntmps77
  go_upto_region 1 with (fail)
  generalize (w.alloc (.cells (voC a) 46)).alloc (.cells (voC b) 46) = w1 at *
  obtain ⟨c0, c1, c2, -, c3, -⟩ := vo_cells HQ.out
  obtain ⟨d0, d1, d2, -, d3, -⟩ := vo_cells HC.out
  rw [← hK] at c0; rw [← hH] at c1; rw [← hR] at c2; rw [← hV] at c3
  rw [← hK2] at d0; rw [← hH2] at d1; rw [← hR2] at d2; rw [← hV2] at d3
  obtain ⟨q, hq⟩ : ∃ q, q = w.heap.size := ⟨_, rfl⟩
  obtain ⟨q2, hq2⟩ : ∃ q, q = w.heap.size + 1 := ⟨_, rfl⟩
  rw [← hq2] at d0 d1 d2 d3 ⊢
  rw [← hq] at c0 c1 c2 c3 ⊢
  clear hq hq2 ht hK hH hR hV hK2 hH2 hR2 hV2 HQ HC
  by_cases h1 : K = K2
  · by_cases h2 : H = H2
    · by_cases h3 : R = R2
      · by_cases h4 : V = V2
        · rw [decide_eq_true h1, decide_eq_true h2, decide_eq_true h3, decide_eq_true h4, Bool.true_and, Bool.true_and, Bool.true_and] at hbe
          subst h1 h2 h3 h4 hbe
          go_wp2_with (fail)
          go_ret
          exact ⟨rfl, HB.out⟩
        · rw [decide_eq_true h1, decide_eq_true h2, decide_eq_true h3, decide_eq_false h4, Bool.true_and, Bool.true_and, Bool.true_and] at hbe
          subst h1 h2 h3 hbe
          have hne : (V == V2) = false := by simpa using h4
          go_wp2_with (fail)
          go_ret
          exact ⟨rfl, HB.out⟩
      · rw [decide_eq_true h1, decide_eq_true h2, decide_eq_false h3, Bool.true_and, Bool.true_and, Bool.false_and] at hbe
        subst h1 h2 hbe
        go_wp2_with (fail)
        go_ret
        exact ⟨rfl, HB.out⟩
    · rw [decide_eq_true h1, decide_eq_false h2, Bool.true_and, Bool.false_and] at hbe
      subst h1 hbe
      go_wp2_with (fail)
      go_ret
      exact ⟨rfl, HB.out⟩
  · rw [decide_eq_false h1, Bool.false_and] at hbe
    subst hbe
    go_wp2_with (fail)
    go_ret
    exact ⟨rfl, HB.out⟩
/-- TwoWays -/
def slotE (a b : Vo) : Option Nat := if sameSl a b = true ∧ eqB a.blk b.blk = false then none else some 31
def twoM (r1 r2 s : Option Nat) : Option Nat :=
  match r1 with
  | some x => some x
  | none => match r2 with
    | some x => some x
    | none => s
def twoE (chain : ByteArray) (l : List Va) (D E : Int) (a b : Vo) : Option Nat := twoM (vvE chain l D E a) (vvE chain l D E b) (slotE a b)
theorem vo2_built (a b : Vo) : Tryz.prog.built 125 [(0, .agg (voC a)), (1, .agg (voC b))] = some (voC a ++ voC b) := by kernel_rfl
theorem vo2_first (a b : Vo) (w : World) : (Instr.index 125 (.agg (voC a ++ voC b)) (.int .i64 0)).run Tryz.prog w = .ok (.agg (voC a)) w := by kernel_rfl
theorem vo2_second (a b : Vo) (w : World) : (Instr.index 125 (.agg (voC a ++ voC b)) (.int .i64 1)).run Tryz.prog w = .ok (.agg (voC b)) w := by kernel_rfl
end Go.Proofs.YtjnpcmfpiejmjaaGreatDoor
namespace Go.Proofs.YtjnpcmfpiejmjaaGreatDoor
set_option linter.unusedVariables false
set_option linter.unusedSimpArgs false
open Go.RowKit
set_option maxRecDepth 100000
theorem dInt_any (b : Value) (bs : List Int) (i : Int) (w : World) (hb : BytesIn w b bs) (h0 : -9223372036854775808 ≤ i) (h1 : i ≤ 9223372036854775807) (hl : bs.length + 10 ≤ 140737488355328) :
    Calls Tryz.prog 85 #[b, .int .i64 i] w (RefPost bs (varint (zig i)) w) := by
  have H := Lib.hid (dUint_any b bs (zig i) w hb (zig_lt h0 h1) hl)
  clear hb hl
  unfold RefPost at *
  by_cases hn : i < 0
  · have e : ((zig i : Nat) : Int) = 2 * (-(i + 1)) + 1 := by unfold zig; rw [if_pos hn]; omega
    rw [e] at H
    go_enter Tryz.func85, Tryz.ntmps85
    go_wp2_with (go_at_call 70; (with_reducible refine H.out.mono ?_); rintro e w1 ⟨v', rfl, ho, hb⟩; replace ho := Lib.hid ho; replace hb := Lib.hid hb)
    go_ret
    exact ⟨_, rfl, ho.out, hb.out⟩
  · have e : ((zig i : Nat) : Int) = 2 * i := by unfold zig; rw [if_neg hn]; omega
    rw [e] at H
    go_enter Tryz.func85, Tryz.ntmps85
    go_wp2_with (go_at_call 70; (with_reducible refine H.out.mono ?_); rintro e w1 ⟨v', rfl, ho, hb⟩; replace ho := Lib.hid ho; replace hb := Lib.hid hb)
    go_ret
    exact ⟨_, rfl, ho.out, hb.out⟩
theorem varint_0 : varint 0 = [0] := by
  have h : glen 0 = 1 := glen_small (by decide)
  unfold varint
  rw [h]
  simp [List.range_succ, gby, h]
theorem varint_1 : varint 1 = [1] := by
  have h : glen 1 = 1 := glen_small (by decide)
  unfold varint
  rw [h]
  simp [List.range_succ, gby, h]
theorem dUint_0 (b : Value) (bs : List Int) (w : World) (hb : BytesIn w b bs) (hl : bs.length + 10 ≤ 140737488355328) : Calls Tryz.prog 70 #[b, .int .u64 0] w (RefPost bs [0] w) := by
  have := dUint_any b bs 0 w hb (by omega) hl
  rw [varint_0] at this; exact this
theorem dUint_1 (b : Value) (bs : List Int) (w : World) (hb : BytesIn w b bs) (hl : bs.length + 10 ≤ 140737488355328) : Calls Tryz.prog 70 #[b, .int .u64 1] w (RefPost bs [1] w) := by
  have := dUint_any b bs 1 w hb (by omega) hl
  rw [varint_1] at this; exact this
theorem dBytes_any (b y : Value) (bs ys : List Int) (w : World) (hb : BytesIn w b bs) (hy : BytesIn w y ys) (hl : bs.length + ys.length + 10 ≤ 140737488355328) :
    Calls Tryz.prog 93 #[b, y] w (RefPost bs (varint ys.length ++ ys) w) := by
  have hlt : ys.length < 18446744073709551616 := by omega
  have H := Lib.hid (dUint_any b bs ys.length w hb hlt (by omega))
  have HY := Lib.hid hy
  have HL := Lib.hid hl
  have HG := Lib.hid (glen_le hlt)
  obtain ⟨a, c, rfl, _⟩ := hy
  clear hb hl
  unfold RefPost at *
  go_enter Tryz.func93, Tryz.ntmps93
  go_wp2_with (first
    | (go_at_call 70; (with_reducible refine H.out.mono ?_); rintro e w1 ⟨v', rfl, ho, hb⟩; replace ho := Lib.hid ho; replace hb := Lib.hid hb)
    | (at_builtin; refine wpList_append_bytes rfl (.tmp 9) (.tmp 10) rfl rfl w.heap.size _ _ _ rfl ho.out _ ys rfl (HY.out.below hb.out) (by have := HL.out; have := HG.out; rw [List.length_append, varint_length]; omega) hb.out.size ?_; intro v2 w2 ho2 hg _; have HO2 := Lib.hid ho2; have HA2 := Lib.hid (hb.out.grown hg hb.out.size (fun k hk => (ho.out.lt k hk).1)); clear ho2 hg))
  go_ret
  refine ⟨_, rfl, ?_, HA2.out⟩
  have h1 := HO2.out
  rw [← byteVals_append, ← List.length_append] at h1
  rw [← List.append_assoc]
  exact h1
end Go.Proofs.YtjnpcmfpiejmjaaGreatDoor
