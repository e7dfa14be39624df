/- Part 19 of the proof. -/
import Derived.Test.YtejglhlodfhgkaaGreatDoorXv18
namespace Go.Proofs.YtejglhlodfhgkaaGreatDoor
set_option linter.unusedVariables false
set_option linter.unusedSimpArgs false
open Go.RowKit
set_option maxRecDepth 100000
set_option linter.unusedSimpArgs false
set_option linter.unusedVariables false
theorem tx_cells {w : World} {q : Nat} {ac dn : ByteArray} {s a : Int} {mv sv : Value} {T : TypeId} (h : w.heap[q]? = some (.cells #[.string ac, .int .i64 s, .string dn, .int .i64 a, mv, sv] T (0, 0))) : w.cell? ⟨q, 0, none⟩ = some (.string ac) ∧ w.cell? ⟨q, 1, none⟩ = some (.int .i64 s) ∧ w.rangeAt q 2 (#[.string dn, .int .i64 a] : Array Value).toList ∧ w.cell? ⟨q, 2, none⟩ = some (.string dn) ∧ w.cell? ⟨q, 3, none⟩ = some (.int .i64 a) ∧ w.cell? ⟨q, 4, none⟩ = some mv ∧ w.cell? ⟨q, 5, none⟩ = some sv := by
  refine ⟨?_, ?_, fun j v hv => ?_, ?_, ?_, ?_, ?_⟩
  · rw [cell_of_row _ _ _ _ _ _ h]; rfl
  · rw [cell_of_row _ _ _ _ _ _ h]; rfl
  · rw [cell_of_row _ _ _ _ _ _ h]
    match j, hv with
    | 0, hv => exact hv
    | 1, hv => exact hv
  · rw [cell_of_row _ _ _ _ _ _ h]; rfl
  · rw [cell_of_row _ _ _ _ _ _ h]; rfl
  · rw [cell_of_row _ _ _ _ _ _ h]; rfl
  · rw [cell_of_row _ _ _ _ _ _ h]; rfl
set_option maxHeartbeats 8000000 in
theorem tcheck_any (x : Tr) (w : World) (h : ShTab w) (hx : TrE w x) (ha : x.acc.size ≤ 9223372036854775807) (hd : x.den.size ≤ 140737488351232) : Calls Tryz.prog 14 #[.agg (trC15 x)] w fun e w' => e = .returned (errV (chkX (pxP x))) ∧ Below w.heap.size w w' := by
  obtain ⟨ac, S, dn, A, mv, ms, sv, sg⟩ := x
  obtain ⟨⟨a1, c1, e1⟩, ⟨a2, c2, e2⟩⟩ := hx.v
  simp only at e1 e2 ha hd
  subst e1 e2
  obtain ⟨n1, hn1⟩ : ∃ z, z = ms.length := ⟨_, rfl⟩
  obtain ⟨n2, hn2⟩ : ∃ z, z = sg.length := ⟨_, rfl⟩
  have hCe : trC15 ⟨ac, S, dn, A, .slice a1 ms.length c1, ms, .slice a2 sg.length c2, sg⟩ = #[.string ac, .int .i64 S, .string dn, .int .i64 A, .slice a1 n1 c1, .slice a2 n2 c2] := by rw [hn1, hn2]; rfl
  rw [hCe]
  have hba := below_alloc w (.cells #[.string ac, .int .i64 S, .string dn, .int .i64 A, .slice a1 n1 c1, .slice a2 n2 c2] 34)
  have HQ := Lib.hid (heap_alloc_new w (.cells #[.string ac, .int .i64 S, .string dn, .int .i64 A, .slice a1 n1 c1, .slice a2 n2 c2] 34))
  have HB := Lib.hid hba
  have HT := Lib.hid (h.below hba h.lt)
  have HM := Lib.hid (show MsK (w.alloc (.cells #[.string ac, .int .i64 S, .string dn, .int .i64 A, .slice a1 n1 c1, .slice a2 n2 c2] 34)) (.slice a1 n1 c1) ms from MsK.below ⟨by rw [hn1]; exact hx.m, hx.e⟩ hba)
  have HAC := Lib.hid (fun w => tacc_any ac w ha)
  have HFE := Lib.hid (fun w => tfee_any dn A w hd)
  have HMS := Lib.hid (fun w (h : ShTab w) (k : MsK w (.slice a1 n1 c1) ms) => tmsgs_any (.slice a1 n1 c1) ms w h k.1 k.2)
  have HX := Lib.hid (show chkX (pxP ⟨ac, S, dn, A, .slice a1 ms.length c1, ms, .slice a2 sg.length c2, sg⟩) = if accB ac then (if S < 0 ∨ 1099511627776 < S then some 43 else match chkF dn A with
    | some e => some e
    | none => match chkL (ms.map mgP) with
      | some e => some e
      | none => if 8192 < n2 then some 2 else none) else some 42 from by rw [hn2]; rfl)
  have hn2I : (n2 : Int) ≤ 9223372036854775807 := by
    obtain ⟨_, _, _, _, h2, _⟩ := hx.s
    simp only at h2
    unfold maxLen at h2
    omega
  obtain ⟨Z, hZ⟩ : ∃ z, z = chkX (pxP ⟨ac, S, dn, A, .slice a1 ms.length c1, ms, .slice a2 sg.length c2, sg⟩) := ⟨_, rfl⟩
  rw [← hZ] at HX ⊢
  obtain ⟨B1, hB1⟩ : ∃ z, z = accB ac := ⟨_, rfl⟩
  obtain ⟨E1, hE1⟩ : ∃ z, z = chkF dn A := ⟨_, rfl⟩
  obtain ⟨E2, hE2⟩ : ∃ z, z = chkL (ms.map mgP) := ⟨_, rfl⟩
  rw [← hB1] at HAC HX
  rw [← hE1] at HFE HX
  rw [← hE2] at HMS HX
  clear hZ hB1 hE1 hE2 hn1 hn2 hCe hx h hba ha hd
  cases B1 with
  | false =>
    have HE := Lib.hid (show Z = some 42 from by rw [HX.out]; rfl)
    rw [HE.out]
    clear HX HE HFE HMS
    go_enter Tryz.func14, Tryz.ntmps14
    go_upto_region 1 with (fail)
    generalize w.alloc (.cells #[.string ac, .int .i64 S, .string dn, .int .i64 A, .slice a1 n1 c1, .slice a2 n2 c2] 34) = w1 at *
    obtain ⟨c0, -⟩ := tx_cells HQ.out
    go_wp2_with (go_at_call 58; (with_reducible refine (HAC.out _).mono ?_); rintro e w2 ⟨rfl, hb⟩; have HB2 := Lib.hid (HB.out.trans (hb.mono HB.out.size)); clear hb)
    go_ret
    exact ⟨rfl, HB2.out⟩
  | true =>
    go_enter Tryz.func14, Tryz.ntmps14
    go_upto_region 1 with (fail)
    generalize w.alloc (.cells #[.string ac, .int .i64 S, .string dn, .int .i64 A, .slice a1 n1 c1, .slice a2 n2 c2] 34) = w1 at *
    obtain ⟨c0, -⟩ := tx_cells HQ.out
    obtain ⟨q, hq⟩ : ∃ q, q = w.heap.size := ⟨_, rfl⟩
    rw [← hq] at HQ c0 ⊢
    have HWQ := Lib.hid hq
    clear hq
    go_upto_region 3 with (go_at_call 58; (with_reducible refine (HAC.out _).mono ?_); rintro e w2 ⟨rfl, hb⟩; have HB2 := Lib.hid (HB.out.trans (hb.mono HB.out.size)); replace HQ := Lib.hid ((hb.block q (bkT_lt HQ.out)).trans HQ.out); replace HT := Lib.hid (HT.out.below hb HT.out.lt); replace HM := Lib.hid (HM.out.below hb); clear hb)
    clear c0 HAC
    obtain ⟨-, c1, cr, -⟩ := tx_cells HQ.out
    have HCR := Lib.hid cr
    clear cr
    by_cases hs : S < 0 ∨ 1099511627776 < S
    · have HE := Lib.hid (show Z = some 43 from by rw [HX.out, if_pos trivial, if_pos hs])
      clear HX HFE HMS
      by_cases h1 : S < 0
      · clear hs
        go_wp2_with (fail)
        go_ret
        exact ⟨by rw [HE.out]; rfl, by rw [← HWQ.out] at HB2 ⊢; exact HB2.out⟩
      · have h2 : 1099511627776 < S := by omega
        clear hs
        go_wp2_with (fail)
        go_ret
        exact ⟨by rw [HE.out]; rfl, by rw [← HWQ.out] at HB2 ⊢; exact HB2.out⟩
    · have h1 : ¬ S < 0 := fun h => hs (.inl h)
      have h2 : ¬ 1099511627776 < S := fun h => hs (.inr h)
      have HX2 := Lib.hid (HX.out.trans ((if_pos trivial).trans (if_neg hs)))
      clear HX hs
      cases E1 with
      | some e1 =>
        have HE := Lib.hid (show Z = some e1 from HX2.out)
        clear HX2 HMS
        simp only [errV] at HFE
        go_wp2_with (first
          | (refine wpList_load_rowT (by rfl) 23 (.tmp 19) rfl q 2 rfl #[.string dn, .int .i64 A] _ HCR.out Tryz.underlying23 rfl (by kernel_rfl) ?_)
          | (go_at_call 59; (with_reducible refine (HFE.out _).mono ?_); rintro e w3 ⟨rfl, hb⟩; have HB3 := Lib.hid (HB2.out.trans (hb.mono HB2.out.size)); clear hb))
        go_ret
        exact ⟨by rw [HE.out]; rfl, by rw [← HWQ.out] at HB3 ⊢; exact HB3.out⟩
      | none =>
        simp only [errV] at HFE
        go_upto_region 8 with (first
          | (refine wpList_load_rowT (by rfl) 23 (.tmp 19) rfl q 2 rfl #[.string dn, .int .i64 A] _ HCR.out Tryz.underlying23 rfl (by kernel_rfl) ?_)
          | (go_at_call 59; (with_reducible refine (HFE.out _).mono ?_); rintro e w3 ⟨rfl, hb⟩; have HB3 := Lib.hid (HB2.out.trans (hb.mono HB2.out.size)); replace HQ := Lib.hid ((hb.block q (bkT_lt HQ.out)).trans HQ.out); replace HT := Lib.hid (HT.out.below hb HT.out.lt); replace HM := Lib.hid (HM.out.below hb); clear hb))
        clear c1 HCR
        obtain ⟨-, -, -, -, -, c4, -⟩ := tx_cells HQ.out
        cases E2 with
        | some e2 =>
          have HE := Lib.hid (show Z = some e2 from HX2.out)
          clear HX2
          simp only [errV] at HMS
          go_wp2_with (go_at_call 60; (with_reducible refine (HMS.out _ HT.out HM.out).mono ?_); rintro e w4 ⟨rfl, hb⟩; have HB4 := Lib.hid (HB3.out.trans (hb.mono HB3.out.size)); clear hb)
          go_ret
          exact ⟨by rw [HE.out]; rfl, by rw [← HWQ.out] at HB4 ⊢; exact HB4.out⟩
        | none =>
          simp only [errV] at HMS
          go_upto_region 11 with (go_at_call 60; (with_reducible refine (HMS.out _ HT.out HM.out).mono ?_); rintro e w4 ⟨rfl, hb⟩; have HB4 := Lib.hid (HB3.out.trans (hb.mono HB3.out.size)); replace HQ := Lib.hid ((hb.block q (bkT_lt HQ.out)).trans HQ.out); clear hb)
          clear c4
          obtain ⟨-, -, -, -, -, -, c5⟩ := tx_cells HQ.out
          by_cases h8 : 8192 < n2
          · have h8I : (8192 : Int) < (n2 : Int) := by omega
            have HE := Lib.hid (show Z = some 2 from HX2.out.trans (if_pos h8))
            clear HX2
            go_wp2_with (fail)
            go_ret
            exact ⟨by rw [HE.out]; rfl, by rw [← HWQ.out] at HB4 ⊢; exact HB4.out⟩
          · have h8I : ¬ (8192 : Int) < (n2 : Int) := by omega
            have HE := Lib.hid (show Z = none from HX2.out.trans (if_neg h8))
            clear HX2
            go_wp2_with (fail)
            go_ret
            exact ⟨by rw [HE.out]; rfl, by rw [← HWQ.out] at HB4 ⊢; exact HB4.out⟩
end Go.Proofs.YtejglhlodfhgkaaGreatDoor
