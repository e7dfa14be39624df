/- Part 32 of the proof. -/
import Derived.Test.YtfmfemmknccfmaaDoorPa31
namespace Go.Proofs.YtfmfemmknccfmaaDoor
set_option linter.unusedVariables false
set_option linter.unusedSimpArgs false
open Go.RowKit
set_option maxRecDepth 100000
set_option linter.unusedSimpArgs false
set_option linter.unusedVariables false
theorem folAll_len (R : Nat → Int) : ∀ (ps : List PvP) (l : List Pl), folAllF R ps = some l → l.length = ps.length
  | [], l, h => by injection h with h; subst h; rfl
  | p :: r, l, h => by
    unfold folAllF at h
    cases hp : followF R p with
    | none => rw [hp] at h; cases h
    | some x =>
      cases hr : folAllF R r with
      | none => rw [hp, hr] at h; cases h
      | some a =>
        rw [hp, hr] at h
        injection h with h
        subst h
        rw [List.length_cons, List.length_cons, folAll_len R r a hr]
theorem follow_bd {R : Nat → Int} {p : PvP} {x : Pl} (h : followF R p = some x) : plB x := by
  unfold followF showF at h
  by_cases hc : p.steps.length ≤ 64 ∧ p.steps.all okS = true
  · rw [if_pos hc] at h
    dsimp only at h
    split at h
    · injection h with h
      have hb := fold_bd p.steps (pl0 p) 1 hc.2 (by simp [pl0]) (by simp [pl0])
      rw [h] at hb
      unfold plB
      have := hc.1
      obtain ⟨⟨a1, a2⟩, b1, b2⟩ := hb
      have h3 : (p.steps.length : Int) ≤ 64 := by omega
      omega
    · cases h
  · rw [if_neg hc] at h; cases h
theorem folAll_bd (R : Nat → Int) : ∀ (ps : List PvP) (l : List Pl), folAllF R ps = some l → ∀ x ∈ l, plB x
  | [], l, h => by injection h with h; subst h; intro x hx; cases hx
  | p :: r, l, h => by
    unfold folAllF at h
    cases hp : followF R p with
    | none => rw [hp] at h; cases h
    | some x =>
      cases hr : folAllF R r with
      | none => rw [hp, hr] at h; cases h
      | some a =>
        rw [hp, hr] at h
        injection h with h
        subst h
        intro y hy
        rcases List.mem_cons.1 hy with rfl | hy
        · exact follow_bd hp
        · exact folAll_bd R r a hr y hy
theorem pl_idx (x : Pl) : (plCells x)[32]? = some (.int .i64 x.2.1) ∧ (plCells x)[33]? = some (.int .i64 x.2.2) := by
  unfold plCells plC
  constructor
  · rw [Array.getElem?_toList, Array.getElem?_append_right (by rw [rowOf_size]; omega), rowOf_size]; rfl
  · rw [Array.getElem?_toList, Array.getElem?_append_right (by rw [rowOf_size]; omega), rowOf_size]; rfl
theorem own_pls0 {w : World} {B : Nat} {v : Value} {vs : List Value} (h : w.ownsRow B 122 34 v 0 vs) : PlsIn w v [] := by
  rcases h.2 with ⟨e, h0⟩ | ⟨g, cap, cur, e, _⟩
  · exact .inl ⟨rfl, _, _, e⟩
  · exact .inl ⟨rfl, _, _, e⟩
theorem own_pls1 {w : World} {B : Nat} {v : Value} {x : Pl} (h : w.ownsRow B 122 34 v 1 (plCells x)) : PlsIn w v [x] := by
  have h' := h
  rcases h.2 with ⟨e, h0⟩ | ⟨g, cap, cur, e, _⟩
  · cases h0
  · subst e
    have c1 := h'.cells (g := g) rfl 32 _ (pl_idx x).1
    have c2 := h'.cells (g := g) rfl 33 _ (pl_idx x).2
    rw [Addr.add_mid, Nat.zero_add] at c1 c2
    exact .inr ⟨x, g, cap, rfl, rfl, c1, c2⟩
theorem own_pls {w : World} {B : Nat} {v : Value} {l : List Pl} (h : w.ownsRow B 122 34 v l.length (flatPl l)) (hl : l.length ≤ 1) : PlsIn w v l := by
  cases l with
  | nil => exact own_pls0 h
  | cons x r =>
    cases r with
    | nil =>
      rw [show flatPl [x] = plCells x from by simp [flatPl]] at h
      exact own_pls1 h
    | cons y r => simp at hl
/-- VerifyNone's answer -/
def verNF (R Z : Nat → Int) (key : ByteArray) (L Rt : List PvP) : Option Nat :=
  if 1 < L.length ∨ 1 < Rt.length ∨ betF key L Rt = false then some 23 else match folAllF R L, folAllF R Rt with
    | some l, some r => if adjF R Z l r then none else some 23
    | _, _ => some 23
set_option maxHeartbeats 8000000 in
theorem verNone_any (R : Nat → Int) (key : ByteArray) (vl vr : Value) (L Rt : List PvP) (w : World) (he : Env w) (hl : PrsIn w vl L) (hr : PrsIn w vr Rt) (hzl : ∀ p ∈ L, p.key.size + p.val.size ≤ 140737488351232) (hzr : ∀ p ∈ Rt, p.key.size + p.val.size ≤ 140737488351232) :
    Calls Tryd.prog 31 #[.agg (rowOf .u8 32 R), .string key, .agg #[vl, vr]] w fun e w' => e = .returned (errV (verNF R (sumF []) key L Rt)) ∧ Below w.heap.size w w' := by
  obtain ⟨la, lc, rfl, hlm⟩ := hl.len
  obtain ⟨ra, rc, rfl, hrm⟩ := hr.len
  have hlI : (L.length : Int) ≤ 9223372036854775807 := by unfold maxLen at hlm; omega
  have hrI : (Rt.length : Int) ≤ 9223372036854775807 := by unfold maxLen at hrm; omega
  have hb0 : Below w.heap.size w ((w.alloc (.cells (rowOf .u8 32 R) 43)).alloc (.cells #[.slice la L.length lc, .slice ra Rt.length rc] 62)) := ((Below.refl _ w).alloc (Nat.le_refl _) _).alloc (by simp) _
  have H3 := Lib.hid (show ((w.alloc (.cells (rowOf .u8 32 R) 43)).alloc (.cells #[.slice la L.length lc, .slice ra Rt.length rc] 62)).heap[w.heap.size]? = some (.cells (rowOf .u8 32 R) 43 (0, 0)) by rw [(below_alloc _ _).block _ (by simp)]; exact heap_alloc_new _ _)
  have H5 := Lib.hid (show ((w.alloc (.cells (rowOf .u8 32 R) 43)).alloc (.cells #[.slice la L.length lc, .slice ra Rt.length rc] 62)).heap[w.heap.size + 1]? = some (.cells #[.slice la L.length lc, .slice ra Rt.length rc] 62 (0, 0)) by
    have := heap_alloc_new (w.alloc (.cells (rowOf .u8 32 R) 43)) (.cells #[.slice la L.length lc, .slice ra Rt.length rc] 62)
    rw [size_alloc] at this; exact this)
  have HE := Lib.hid (he.below hb0 he.lt)
  have HL := Lib.hid (hl.below hb0)
  have HR := Lib.hid (hr.below hb0)
  have HB := Lib.hid hb0
  have HZL := Lib.hid hzl
  have HZR := Lib.hid hzr
  obtain ⟨VF, hVF⟩ : ∃ x, x = verNF R (sumF []) key L Rt := ⟨_, rfl⟩
  rw [← hVF]
  have HVF := Lib.hid hVF
  clear he hl hr hzl hzr hb0 hlm hrm hVF
  go_enter Tryd.func31, Tryd.ntmps31
  go_upto_region 1 with (fail)
  generalize (w.alloc (.cells (rowOf .u8 32 R) 43)).alloc (.cells #[.slice la L.length lc, .slice ra Rt.length rc] 62) = w1 at *
  obtain ⟨q, hq⟩ : ∃ q, q = w.heap.size := ⟨_, rfl⟩
  rw [← hq] at H3 H5 ⊢
  have HQ := Lib.hid hq
  clear hq
  have c0 : w1.cell? ⟨q + 1, 0, none⟩ = some (.slice la L.length lc) := cell_of_row w1 _ 0 _ _ _ H5.out
  have c1 : w1.cell? ⟨q + 1, 1, none⟩ = some (.slice ra Rt.length rc) := cell_of_row w1 _ 1 _ _ _ H5.out
  by_cases h1 : 1 < L.length
  · have h1I : (1 : Int) < (L.length : Int) := by omega
    have HV := Lib.hid (show VF = some 23 from by rw [HVF.out]; unfold verNF; rw [if_pos (.inl h1)])
    clear h1 HVF
    go_wp2_with (fail)
    go_ret
    exact ⟨by rw [HV.out]; rfl, HB.out⟩
  · have h1I : ¬ (1 : Int) < (L.length : Int) := by omega
    by_cases h2 : 1 < Rt.length
    · have h2I : (1 : Int) < (Rt.length : Int) := by omega
      have HV := Lib.hid (show VF = some 23 from by rw [HVF.out]; unfold verNF; rw [if_pos (.inr (.inl h2))])
      clear h1 h2 HVF
      go_wp2_with (fail)
      go_ret
      exact ⟨by rw [HV.out]; rfl, HB.out⟩
    · have h2I : ¬ (1 : Int) < (Rt.length : Int) := by omega
      have HBT := Lib.hid (fun w' hl hr => between_any key (.slice la L.length lc) (.slice ra Rt.length rc) L Rt w' hl hr)
      have HFL := Lib.hid (fun w' he hl => followAll_any R L (.slice la L.length lc) w' he hl HZL.out (by omega))
      have HFR := Lib.hid (fun w' he hl => followAll_any R Rt (.slice ra Rt.length rc) w' he hl HZR.out (by omega))
      unfold FaPost at HFL HFR
      have HN1 := Lib.hid h1
      have HN2 := Lib.hid h2
      cases hbt : betF key L Rt with
      | false =>
        have HV := Lib.hid (show VF = some 23 from by rw [HVF.out]; unfold verNF; rw [if_pos (.inr (.inr hbt))])
        rw [hbt] at HBT
        clear h1 h2 hbt HVF
        go_wp2_with (go_at_call 61; (with_reducible refine (HBT.out _ HL.out HR.out).mono ?_); rintro e w2 ⟨rfl, hb⟩; replace HB := Lib.hid (HB.out.trans (hb.mono HB.out.size)); clear hb)
        go_ret
        exact ⟨by rw [HV.out]; rfl, HB.out⟩
      | true =>
        have HV0 := Lib.hid (show VF = (match folAllF R L, folAllF R Rt with | some l, some r => if adjF R (sumF []) l r then none else some 23 | _, _ => some 23) from by rw [HVF.out]; unfold verNF; rw [if_neg (by rw [hbt]; simp; omega)])
        rw [hbt] at HBT
        clear h1 h2 hbt HVF
        go_upto_region 3 with (go_at_call 61; (with_reducible refine (HBT.out _ HL.out HR.out).mono ?_); rintro e w2 ⟨rfl, hb⟩; have HB2 := Lib.hid hb; clear hb)
        clear c0 c1
        replace HB := Lib.hid (HB.out.trans (HB2.out.mono HB.out.size))
        replace HE := Lib.hid (HE.out.below HB2.out HE.out.lt)
        replace HL := Lib.hid (HL.out.below HB2.out)
        replace HR := Lib.hid (HR.out.below HB2.out)
        replace H3 := Lib.hid ((HB2.out.block _ (bk_lt H3.out)).trans H3.out)
        replace H5 := Lib.hid ((HB2.out.block _ (bk_lt H5.out)).trans H5.out)
        have c0 : w2.cell? ⟨q + 1, 0, none⟩ = some (.slice la L.length lc) := cell_of_row w2 _ 0 _ _ _ H5.out
        clear HB2
        cases hfl : folAllF R L with
        | none =>
          have HV := Lib.hid (show VF = some 23 from by rw [HV0.out, hfl])
          rw [hfl] at HFL
          simp only [e23o, errV, Option.isSome_none, Bool.false_eq_true, if_false] at HFL
          clear hfl
          go_wp2_with (first
            | (refine wpList_load_row rfl 43 (.tmp 3) rfl q rfl 43 _ (0, 0) _ H3.out Tryd.underlying43 rfl (by rw [rowOf_size]; kernel_rfl) ?_)
            | (go_at_call 62; (with_reducible refine (HFL.out _ HE.out HL.out).mono ?_); rintro e w3 ⟨v3, rfl, ho, hb⟩; replace HB := Lib.hid (HB.out.trans (hb.mono HB.out.size)); clear hb ho))
          go_ret
          exact ⟨by rw [HV.out]; rfl, HB.out⟩
        | some l =>
          have HLL := Lib.hid (folAll_len R L l hfl)
          have HLB := Lib.hid (folAll_bd R L l hfl)
          have HV1 := Lib.hid (show VF = (match folAllF R Rt with | some r => if adjF R (sumF []) l r then none else some 23 | _ => some 23) from by rw [HV0.out, hfl]; cases folAllF R Rt <;> rfl)
          rw [hfl] at HFL
          simp only [e23o, errV, Option.isSome_some, if_true] at HFL
          clear hfl HV0
          go_upto_region 6 with (first
            | (refine wpList_load_row rfl 43 (.tmp 3) rfl q rfl 43 _ (0, 0) _ H3.out Tryd.underlying43 rfl (by rw [rowOf_size]; kernel_rfl) ?_)
            | (go_at_call 62; (with_reducible refine (HFL.out _ HE.out HL.out).mono ?_); rintro e w3 ⟨v3, rfl, ho, hb⟩; have HO3 := Lib.hid (own_pls (ho l rfl) (by have := HLL.out; have := HN1.out; omega)); have HB3 := Lib.hid hb; clear hb ho))
          clear c0
          replace HB := Lib.hid (HB.out.trans (HB3.out.mono HB.out.size))
          replace HE := Lib.hid (HE.out.below HB3.out HE.out.lt)
          replace HR := Lib.hid (HR.out.below HB3.out)
          replace H3 := Lib.hid ((HB3.out.block _ (bk_lt H3.out)).trans H3.out)
          replace H5 := Lib.hid ((HB3.out.block _ (bk_lt H5.out)).trans H5.out)
          have c1 : w3.cell? ⟨q + 1, 1, none⟩ = some (.slice ra Rt.length rc) := cell_of_row w3 _ 1 _ _ _ H5.out
          clear HB3
          cases hfr : folAllF R Rt with
          | none =>
            have HV := Lib.hid (show VF = some 23 from by rw [HV1.out, hfr])
            rw [hfr] at HFR
            simp only [e23o, errV, Option.isSome_none, Bool.false_eq_true, if_false] at HFR
            clear hfr
            go_wp2_with (first
              | (refine wpList_load_row rfl 43 (.tmp 3) rfl q rfl 43 _ (0, 0) _ H3.out Tryd.underlying43 rfl (by rw [rowOf_size]; kernel_rfl) ?_)
              | (go_at_call 62; (with_reducible refine (HFR.out _ HE.out HR.out).mono ?_); rintro e w4 ⟨v4, rfl, ho, hb⟩; replace HB := Lib.hid (HB.out.trans (hb.mono HB.out.size)); clear hb ho))
            go_ret
            exact ⟨by rw [HV.out]; rfl, HB.out⟩
          | some r =>
            have HRL := Lib.hid (folAll_len R Rt r hfr)
            have HRB := Lib.hid (folAll_bd R Rt r hfr)
            have HV2 := Lib.hid (show VF = (if adjF R (sumF []) l r then none else some 23) from by rw [HV1.out, hfr])
            rw [hfr] at HFR
            simp only [e23o, errV, Option.isSome_some, if_true] at HFR
            clear hfr HV1
            obtain ⟨b, hb⟩ : ∃ b, b = adjF R (sumF []) l r := ⟨_, rfl⟩
            have HAD := Lib.hid (fun w' va vb he hl hr => adjacent_any R va vb l r w' he hl hr HLB.out HRB.out)
            rw [← hb] at HV2
            replace HAD := Lib.hid (show ∀ w' va vb, Env w' → PlsIn w' va l → PlsIn w' vb r → Calls Tryd.prog 63 #[.agg (rowOf .u8 32 R), va, vb] w' fun e w'' => e = .returned (.bool b) ∧ Below w'.heap.size w' w'' from fun w' va vb he hl hr => by rw [hb]; exact HAD.out w' va vb he hl hr)
            clear hb
            cases b with
            | true =>
              have HV := Lib.hid (show VF = none from by rw [HV2.out]; rfl)
              go_wp2_with (first
                | (refine wpList_load_row rfl 43 (.tmp 3) rfl q rfl 43 _ (0, 0) _ H3.out Tryd.underlying43 rfl (by rw [rowOf_size]; kernel_rfl) ?_)
                | (go_at_call 62; (with_reducible refine (HFR.out _ HE.out HR.out).mono ?_); rintro e w4 ⟨v4, rfl, ho, hb⟩; have HO4 := Lib.hid (own_pls (ho r rfl) (by have := HRL.out; have := HN2.out; omega)); replace HO3 := Lib.hid (HO3.out.below hb); replace HE := Lib.hid (HE.out.below hb HE.out.lt); replace HB := Lib.hid (HB.out.trans (hb.mono HB.out.size)); replace H3 := Lib.hid ((hb.block _ (bk_lt H3.out)).trans H3.out); clear hb ho)
                | (go_at_call 63; (with_reducible refine (HAD.out _ _ _ HE.out HO3.out HO4.out).mono ?_); rintro e w5 ⟨rfl, hb⟩; replace HB := Lib.hid (HB.out.trans (hb.mono HB.out.size)); clear hb))
              go_ret
              exact ⟨by rw [HV.out]; rfl, HB.out⟩
            | false =>
              have HV := Lib.hid (show VF = some 23 from by rw [HV2.out]; rfl)
              go_wp2_with (first
                | (refine wpList_load_row rfl 43 (.tmp 3) rfl q rfl 43 _ (0, 0) _ H3.out Tryd.underlying43 rfl (by rw [rowOf_size]; kernel_rfl) ?_)
                | (go_at_call 62; (with_reducible refine (HFR.out _ HE.out HR.out).mono ?_); rintro e w4 ⟨v4, rfl, ho, hb⟩; have HO4 := Lib.hid (own_pls (ho r rfl) (by have := HRL.out; have := HN2.out; omega)); replace HO3 := Lib.hid (HO3.out.below hb); replace HE := Lib.hid (HE.out.below hb HE.out.lt); replace HB := Lib.hid (HB.out.trans (hb.mono HB.out.size)); replace H3 := Lib.hid ((hb.block _ (bk_lt H3.out)).trans H3.out); clear hb ho)
                | (go_at_call 63; (with_reducible refine (HAD.out _ _ _ HE.out HO3.out HO4.out).mono ?_); rintro e w5 ⟨rfl, hb⟩; replace HB := Lib.hid (HB.out.trans (hb.mono HB.out.size)); clear hb))
              go_ret
              exact ⟨by rw [HV.out]; rfl, HB.out⟩
end Go.Proofs.YtfmfemmknccfmaaDoor
