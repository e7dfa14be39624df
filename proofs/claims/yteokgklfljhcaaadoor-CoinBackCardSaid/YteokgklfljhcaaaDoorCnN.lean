/- CoinBack: the walk (written by gencnbk.py). -/
import Derived.Test.YteokgklfljhcaaaDoorCnM
import Derived.Test.YteokgklfljhcaaaDoorCnJ
namespace Go.Proofs.YteokgklfljhcaaaDoor
open Go.RowKit
set_option maxRecDepth 100000
set_option linter.unusedSimpArgs false
set_option linter.unusedVariables false
set_option maxHeartbeats 8000000 in
theorem lcback_any (t : List ByteArray) (b p c : ByteArray) (pv : Value) (w : World) (he : Env w) (hp : SsIn w pv t) (hl : t.length ≤ 8796093022207) (hs : ∀ s ∈ t, s.size ≤ 9223372036854775806) (hb : b.size ≤ 9223372036854775807) :
    Calls Tryd.prog 5 #[.agg (trC pv b), .string p, .string c] w fun e w' => e = .returned (.bool true) ∧ Below w.heap.size w w' := by
  have HE := Lib.hid he
  have HSU := Lib.hid csure_any
  have HGV := Lib.hid (fun v w h => lgive_any t b v w h (by omega))
  have HIN := Lib.hid (fun v w h => cinto_any t b p c v w h (by omega) hs hb)
  have HFU := Lib.hid (fun v w h => cfull_any t b v w h (by omega) hs hb (fun h => Nat.le_trans (full_small h) (by omega)))
  have HDE := Lib.hid (fun v w he h => cdenom_any t b v w he h (by omega) hs hb (fun h => Nat.le_trans (full_small h) (by omega)))
  have HSM := Lib.hid (fun va vb w h1 h2 => lsame14_any t b va vb w h1 h2)
  have HFR := Lib.hid (fun (h0 : intoE t b p c = none) v w h => cfrom_any (intoP t b p c) b p c v w h (by rw [(back_into h0).2.2.2]; omega))
  have HPA := Lib.hid (fun (h0 : trE t b = none) w => cparse_any (fullR t b) w (by rw [full_eq h0]; exact Nat.le_trans (full_small h0) (by omega)))
  have HCK := Lib.hid (fun (h0 : trE t b = none) w => ccheck_any (denR t b) w (Nat.le_trans (den_size h0) (by omega)))
  have HNE := Lib.hid (fun (h0 : trE t b = none) => den_ne h0)
  unfold FromP at HFR
  have HIB := Lib.hid (fun (h0 : intoE t b p c = none) => back_into h0)
  obtain ⟨I, hI⟩ : ∃ e, e = intoE t b p c := ⟨_, rfl⟩
  obtain ⟨F, hF⟩ : ∃ e, e = trE t b := ⟨_, rfl⟩
  obtain ⟨R, hR⟩ : ∃ e, e = fullR t b := ⟨_, rfl⟩
  obtain ⟨D, hD⟩ : ∃ e, e = denR t b := ⟨_, rfl⟩
  obtain ⟨XP, hXP⟩ : ∃ e, e = intoP t b p c := ⟨_, rfl⟩
  obtain ⟨XB, hXB⟩ : ∃ e, e = intoB t b p c := ⟨_, rfl⟩
  have HPF := Lib.hid (show trE t b = none → parE R = none ∧ parP R = t ∧ parB R = b from fun h => by rw [hR, full_eq h]; exact par_full h)
  have HRE := Lib.hid (show ∀ x, F = some x → R = { data := #[] } from fun x h => by rw [hR]; unfold fullR; rw [← hF, h, if_neg (by simp)])
  have HDC := Lib.hid (show trE t b = none → chkD D = none from fun h => by rw [hD]; exact den_chk h)
  have HFF := Lib.hid hF
  have HII := Lib.hid hI
  rw [← hI, ← hXP, ← hXB] at HIN
  rw [← hXP] at HFR
  rw [← hXP, ← hXB] at HIB
  rw [← hF, ← hR] at HFU
  rw [← hR] at HPA
  rw [← hF, ← hD] at HDE
  rw [← hD] at HCK
  rw [← hD, ← hR] at HNE
  obtain ⟨pa, pc, rfl, -, -⟩ := id hp
  obtain ⟨n, hn⟩ : ∃ n, n = t.length := ⟨_, rfl⟩
  rw [← hn] at hp ⊢
  have HN := Lib.hid hn
  have hba := below_alloc w (.cells (trC (.slice pa n pc) b) 34)
  have M := Lib.hid (show Kp w (w.alloc (.cells (trC (.slice pa n pc) b) 34)) (TrV 34 w.heap.size (.slice pa n pc) b t) from ⟨hba, ⟨heap_alloc_new _ _, hp.below hba⟩, kept_trv _ _ _ _ _⟩)
  clear he hp hl hs hb hI hF hR hD hXP hXB hn hba
  go_enter Tryd.func5, Tryd.ntmps5
  go_upto_region 1 with (fail)
  obtain ⟨q, hq⟩ : ∃ q, q = w.heap.size := ⟨_, rfl⟩
  rw [← hq] at M ⊢
  clear hq
  generalize w.alloc (.cells (trC (.slice pa n pc) b) 34) = w1 at *
  go_upto_region 2 with (first
    | (refine wpList_load_row rfl 34 (.tmp 3) rfl q rfl 34 _ (0, 0) _ M.out.x.r Tryd.underlying34 rfl (by kernel_rfl) ?_)
    | (go_at_call 14; (with_reducible refine (HGV.out _ _ M.out.x.s).mono ?_); rintro e w2 ⟨v1, rfl, h1, hb⟩; have H1 := Lib.hid h1; replace M := Lib.hid (M.out.call hb); clear h1 hb)
    | (go_at_call 13; (with_reducible refine (HIN.out _ _ H1.out).mono ?_); rintro e w3 ⟨xv, rfl, h2, hb⟩; obtain ⟨xa, xl, xc, rfl⟩ := h2.sl; have HX := Lib.hid h2; replace M := Lib.hid (M.out.call hb); clear h2 hb H1)
    | (refine wpList_store_row rfl 35 (.tmp 7) (.tmp 23) rfl w3.heap.size (trC (.slice xa xl xc) XB) rfl rfl 35 _ (heap_alloc_new _ _) (by kernel_rfl) (by rfl) (trC_one _ _ _ _) ?_; rw [World.setRow_alloc_new]))
  replace M := Lib.hid ((M.out.call (below_alloc w3 (.cells (trC (.slice xa xl xc) XB) 35))).add (Y := TrV 35 w3.heap.size (.slice xa xl xc) XB XP) ⟨heap_alloc_new _ _, HX.out.below (below_alloc _ _)⟩ (kept_trv _ _ _ _ _))
  clear HX
  obtain ⟨g7, hg7⟩ : ∃ g, g = w3.heap.size := ⟨_, rfl⟩
  rw [← hg7] at M ⊢
  clear hg7
  generalize w3.alloc (.cells (trC (.slice xa xl xc) XB) 35) = w4 at *

  cases I with
  | some x =>
    simp only [errV]
    go_upto_region 6 with (fail)
    replace M := Lib.hid (show Kp w w4 (TrV 34 q (.slice pa n pc) b t) from ⟨M.out.below, M.out.x.1, kept_trv _ _ _ _ _⟩)
    go_upto_region 7 with (first
      | (refine wpList_load_row rfl 34 (.tmp 3) rfl q rfl 34 _ (0, 0) _ M.out.x.r Tryd.underlying34 rfl (by kernel_rfl) ?_)
      | (go_at_call 14; (with_reducible refine (HGV.out _ _ M.out.x.s).mono ?_); rintro e w12 ⟨v1, rfl, h1, hb⟩; have H1 := Lib.hid h1; replace M := Lib.hid (M.out.call hb); clear h1 hb)
      | (go_at_call 17; (with_reducible refine (HFU.out _ _ H1.out).mono ?_); rintro e w13 ⟨rfl, hb⟩; replace M := Lib.hid (M.out.call hb); clear hb H1))
    cases F with
    | some x =>
      simp only [errV]
      obtain rfl := HRE.out x rfl
      have k0 : (({ data := #[] } : ByteArray).toList == ({ data := #[] } : ByteArray).toList) = true := by simp
      go_wp2_with (go_at_call 9; (with_reducible refine (HSU.out _).mono ?_); rintro e w17 ⟨rfl, hb⟩; replace M := Lib.hid (M.out.call hb); clear hb)
      go_ret
      exact ⟨rfl, M.out.below⟩
    | none =>
      simp only [errV]
      have hz := HFF.out.symm
      obtain ⟨p1, p2, p3⟩ := HPF.out hz
      have hpa := HPA.out hz
      rw [p1, p2, p3] at hpa
      have hck := HCK.out hz
      rw [HDC.out hz] at hck
      have HNE2 := Lib.hid (HNE.out hz)
      replace HPA := Lib.hid hpa
      replace HCK := Lib.hid hck
      clear hpa hck p1 p2 p3 hz HPF HDC HNE
      go_upto_region 10 with (first
        | (go_at_call 18; (with_reducible refine (HPA.out _).mono ?_); rintro e w14 ⟨zv, rfl, h2, hb⟩; obtain ⟨za, zl, zc, rfl⟩ := h2.sl; have HX := Lib.hid h2; replace M := Lib.hid (M.out.call hb); clear h2 hb)
        | (refine wpList_store_row rfl 35 (.tmp 13) (.tmp 58) rfl w14.heap.size (trC (.slice za zl zc) b) rfl rfl 35 _ (heap_alloc_new _ _) (by kernel_rfl) (by rfl) (trC_one _ _ _ _) ?_; rw [World.setRow_alloc_new]))
      replace M := Lib.hid ((M.out.call (below_alloc w14 (.cells (trC (.slice za zl zc) b) 35))).add (Y := TrV 35 w14.heap.size (.slice za zl zc) b t) ⟨heap_alloc_new _ _, HX.out.below (below_alloc _ _)⟩ (kept_trv _ _ _ _ _))
      clear HX
      obtain ⟨g13, hg13⟩ : ∃ g, g = w14.heap.size := ⟨_, rfl⟩
      rw [← hg13] at M ⊢
      clear hg13
      generalize w14.alloc (.cells (trC (.slice za zl zc) b) 35) = w15 at *
      go_upto_region 11 with (first
        | (refine wpList_load_row rfl 34 (.tmp 3) rfl q rfl 34 _ (0, 0) _ M.out.x.1.r Tryd.underlying34 rfl (by kernel_rfl) ?_)
        | (go_at_call 14; (with_reducible refine (HGV.out _ _ M.out.x.1.s).mono ?_); rintro e w16 ⟨v1, rfl, h1, hb⟩; have H1 := Lib.hid h1; replace M := Lib.hid (M.out.call hb); clear h1 hb)
        | (go_at_call 19; (with_reducible refine (HDE.out _ _ (HE.out.below M.out.below HE.out.lt) H1.out).mono ?_); rintro e w18 ⟨rfl, hb⟩; replace M := Lib.hid (M.out.call hb); clear hb H1; simp only [errV]))
      by_cases ht : t = []
      · obtain rfl : D = R := HNE2.out.2 ht
        obtain rfl : n = 0 := by rw [HN.out, ht]; rfl
        have k1 : (D.toList == D.toList) = true := by simp
        clear ht
        go_wp2_with (first
          | (refine wpList_load_rowG (by rfl) 35 (.tmp 13) rfl g13 rfl 35 _ (0, 0) _ M.out.x.2.r Tryd.underlying35 rfl (by kernel_rfl) ?_)
          | (refine wpList_load_rowG (by rfl) 34 (.tmp 3) rfl q rfl 34 _ (0, 0) _ M.out.x.1.r Tryd.underlying34 rfl (by kernel_rfl) ?_)
          | (go_at_call 16; (with_reducible refine (HSM.out _ _ _ M.out.x.2.s M.out.x.1.s).mono ?_); rintro e w20 ⟨rfl, hb⟩; replace M := Lib.hid (M.out.call hb); clear hb)
          | (go_at_call 20; (with_reducible refine (HCK.out _).mono ?_); rintro e w21 ⟨rfl, hb⟩; replace M := Lib.hid (M.out.call hb); have c0 : w21.cell? ⟨q, 0, none⟩ = some (.slice pa _ pc) := cell_of_row _ _ _ _ _ _ M.out.x.1.r; clear hb; simp only [errV])
          | (go_at_call 9; (with_reducible refine (HSU.out _).mono ?_); rintro e w22 ⟨rfl, hb⟩; replace M := Lib.hid (M.out.call hb); clear hb))
        go_ret
        exact ⟨rfl, M.out.below⟩
      · have k1 : (D.toList == R.toList) = false := by rw [beq14, decide_eq_false_iff_not]; exact fun e => ht (HNE2.out.1 e)
        have k2 : (0 : Int) < (n : Int) := by have h1 := HN.out; have h2 := List.length_pos_iff.2 ht; omega
        clear ht
        go_wp2_with (first
          | (refine wpList_load_rowG (by rfl) 35 (.tmp 13) rfl g13 rfl 35 _ (0, 0) _ M.out.x.2.r Tryd.underlying35 rfl (by kernel_rfl) ?_)
          | (refine wpList_load_rowG (by rfl) 34 (.tmp 3) rfl q rfl 34 _ (0, 0) _ M.out.x.1.r Tryd.underlying34 rfl (by kernel_rfl) ?_)
          | (go_at_call 16; (with_reducible refine (HSM.out _ _ _ M.out.x.2.s M.out.x.1.s).mono ?_); rintro e w20 ⟨rfl, hb⟩; replace M := Lib.hid (M.out.call hb); clear hb)
          | (go_at_call 20; (with_reducible refine (HCK.out _).mono ?_); rintro e w21 ⟨rfl, hb⟩; replace M := Lib.hid (M.out.call hb); have c0 : w21.cell? ⟨q, 0, none⟩ = some (.slice pa _ pc) := cell_of_row _ _ _ _ _ _ M.out.x.1.r; clear hb; simp only [errV])
          | (go_at_call 9; (with_reducible refine (HSU.out _).mono ?_); rintro e w22 ⟨rfl, hb⟩; replace M := Lib.hid (M.out.call hb); clear hb))
        go_ret
        exact ⟨rfl, M.out.below⟩
  | none =>
    simp only [errV]
    obtain ⟨hi1, hi2, hi3, -⟩ := HIB.out HII.out.symm
    have HFR2 := HFR.out HII.out.symm
    rw [hi1, hi2] at HFR2
    replace HFR := Lib.hid HFR2
    rw [hi3] at M
    clear HFR2 hi1 hi2 hi3 HIB
    go_upto_region 4 with (first
      | (refine wpList_load_row rfl 35 (.tmp 7) rfl g7 rfl 35 _ (0, 0) _ M.out.x.2.r Tryd.underlying35 rfl (by kernel_rfl) ?_)
      | (go_at_call 15; (with_reducible refine (HFR.out _ _ M.out.x.2.s).mono ?_); rintro e w8 ⟨uv, rfl, h2, hb⟩; obtain ⟨ua, ul, uc, rfl⟩ := h2.sl; have HX := Lib.hid h2; replace M := Lib.hid (M.out.call hb); clear h2 hb)
      | (refine wpList_store_row rfl 35 (.tmp 9) (.tmp 32) rfl w8.heap.size (trC (.slice ua ul uc) b) rfl rfl 35 _ (heap_alloc_new _ _) (by kernel_rfl) (by rfl) (trC_one _ _ _ _) ?_; rw [World.setRow_alloc_new]))
    replace M := Lib.hid ((M.out.call (below_alloc w8 (.cells (trC (.slice ua ul uc) b) 35))).add (Y := TrV 35 w8.heap.size (.slice ua ul uc) b t) ⟨heap_alloc_new _ _, HX.out.below (below_alloc _ _)⟩ (kept_trv _ _ _ _ _))
    clear HX
    obtain ⟨g9, hg9⟩ : ∃ g, g = w8.heap.size := ⟨_, rfl⟩
    rw [← hg9] at M ⊢
    clear hg9
    generalize w8.alloc (.cells (trC (.slice ua ul uc) b) 35) = w9 at *
    go_upto_region 6 with (first
      | (refine wpList_load_rowG (by rfl) 35 (.tmp 9) rfl g9 rfl 35 _ (0, 0) _ M.out.x.2.r Tryd.underlying35 rfl (by kernel_rfl) ?_)
      | (refine wpList_load_rowG (by rfl) 34 (.tmp 3) rfl q rfl 34 _ (0, 0) _ M.out.x.1.1.r Tryd.underlying34 rfl (by kernel_rfl) ?_)
      | (go_at_call 16; (with_reducible refine (HSM.out _ _ _ M.out.x.2.s M.out.x.1.1.s).mono ?_); rintro e w10 ⟨rfl, hb⟩; replace M := Lib.hid (M.out.call hb); clear hb))
    replace M := Lib.hid (show Kp w w10 (TrV 34 q (.slice pa n pc) b t) from ⟨M.out.below, M.out.x.1.1, kept_trv _ _ _ _ _⟩)
    go_upto_region 7 with (first
      | (refine wpList_load_row rfl 34 (.tmp 3) rfl q rfl 34 _ (0, 0) _ M.out.x.r Tryd.underlying34 rfl (by kernel_rfl) ?_)
      | (go_at_call 14; (with_reducible refine (HGV.out _ _ M.out.x.s).mono ?_); rintro e w12 ⟨v1, rfl, h1, hb⟩; have H1 := Lib.hid h1; replace M := Lib.hid (M.out.call hb); clear h1 hb)
      | (go_at_call 17; (with_reducible refine (HFU.out _ _ H1.out).mono ?_); rintro e w13 ⟨rfl, hb⟩; replace M := Lib.hid (M.out.call hb); clear hb H1))
    cases F with
    | some x =>
      simp only [errV]
      obtain rfl := HRE.out x rfl
      have k0 : (({ data := #[] } : ByteArray).toList == ({ data := #[] } : ByteArray).toList) = true := by simp
      go_wp2_with (go_at_call 9; (with_reducible refine (HSU.out _).mono ?_); rintro e w17 ⟨rfl, hb⟩; replace M := Lib.hid (M.out.call hb); clear hb)
      go_ret
      exact ⟨rfl, M.out.below⟩
    | none =>
      simp only [errV]
      have hz := HFF.out.symm
      obtain ⟨p1, p2, p3⟩ := HPF.out hz
      have hpa := HPA.out hz
      rw [p1, p2, p3] at hpa
      have hck := HCK.out hz
      rw [HDC.out hz] at hck
      have HNE2 := Lib.hid (HNE.out hz)
      replace HPA := Lib.hid hpa
      replace HCK := Lib.hid hck
      clear hpa hck p1 p2 p3 hz HPF HDC HNE
      go_upto_region 10 with (first
        | (go_at_call 18; (with_reducible refine (HPA.out _).mono ?_); rintro e w14 ⟨zv, rfl, h2, hb⟩; obtain ⟨za, zl, zc, rfl⟩ := h2.sl; have HX := Lib.hid h2; replace M := Lib.hid (M.out.call hb); clear h2 hb)
        | (refine wpList_store_row rfl 35 (.tmp 13) (.tmp 58) rfl w14.heap.size (trC (.slice za zl zc) b) rfl rfl 35 _ (heap_alloc_new _ _) (by kernel_rfl) (by rfl) (trC_one _ _ _ _) ?_; rw [World.setRow_alloc_new]))
      replace M := Lib.hid ((M.out.call (below_alloc w14 (.cells (trC (.slice za zl zc) b) 35))).add (Y := TrV 35 w14.heap.size (.slice za zl zc) b t) ⟨heap_alloc_new _ _, HX.out.below (below_alloc _ _)⟩ (kept_trv _ _ _ _ _))
      clear HX
      obtain ⟨g13, hg13⟩ : ∃ g, g = w14.heap.size := ⟨_, rfl⟩
      rw [← hg13] at M ⊢
      clear hg13
      generalize w14.alloc (.cells (trC (.slice za zl zc) b) 35) = w15 at *
      go_upto_region 11 with (first
        | (refine wpList_load_row rfl 34 (.tmp 3) rfl q rfl 34 _ (0, 0) _ M.out.x.1.r Tryd.underlying34 rfl (by kernel_rfl) ?_)
        | (go_at_call 14; (with_reducible refine (HGV.out _ _ M.out.x.1.s).mono ?_); rintro e w16 ⟨v1, rfl, h1, hb⟩; have H1 := Lib.hid h1; replace M := Lib.hid (M.out.call hb); clear h1 hb)
        | (go_at_call 19; (with_reducible refine (HDE.out _ _ (HE.out.below M.out.below HE.out.lt) H1.out).mono ?_); rintro e w18 ⟨rfl, hb⟩; replace M := Lib.hid (M.out.call hb); clear hb H1; simp only [errV]))
      by_cases ht : t = []
      · obtain rfl : D = R := HNE2.out.2 ht
        obtain rfl : n = 0 := by rw [HN.out, ht]; rfl
        have k1 : (D.toList == D.toList) = true := by simp
        clear ht
        go_wp2_with (first
          | (refine wpList_load_rowG (by rfl) 35 (.tmp 13) rfl g13 rfl 35 _ (0, 0) _ M.out.x.2.r Tryd.underlying35 rfl (by kernel_rfl) ?_)
          | (refine wpList_load_rowG (by rfl) 34 (.tmp 3) rfl q rfl 34 _ (0, 0) _ M.out.x.1.r Tryd.underlying34 rfl (by kernel_rfl) ?_)
          | (go_at_call 16; (with_reducible refine (HSM.out _ _ _ M.out.x.2.s M.out.x.1.s).mono ?_); rintro e w20 ⟨rfl, hb⟩; replace M := Lib.hid (M.out.call hb); clear hb)
          | (go_at_call 20; (with_reducible refine (HCK.out _).mono ?_); rintro e w21 ⟨rfl, hb⟩; replace M := Lib.hid (M.out.call hb); have c0 : w21.cell? ⟨q, 0, none⟩ = some (.slice pa _ pc) := cell_of_row _ _ _ _ _ _ M.out.x.1.r; clear hb; simp only [errV])
          | (go_at_call 9; (with_reducible refine (HSU.out _).mono ?_); rintro e w22 ⟨rfl, hb⟩; replace M := Lib.hid (M.out.call hb); clear hb))
        go_ret
        exact ⟨rfl, M.out.below⟩
      · have k1 : (D.toList == R.toList) = false := by rw [beq14, decide_eq_false_iff_not]; exact fun e => ht (HNE2.out.1 e)
        have k2 : (0 : Int) < (n : Int) := by have h1 := HN.out; have h2 := List.length_pos_iff.2 ht; omega
        clear ht
        go_wp2_with (first
          | (refine wpList_load_rowG (by rfl) 35 (.tmp 13) rfl g13 rfl 35 _ (0, 0) _ M.out.x.2.r Tryd.underlying35 rfl (by kernel_rfl) ?_)
          | (refine wpList_load_rowG (by rfl) 34 (.tmp 3) rfl q rfl 34 _ (0, 0) _ M.out.x.1.r Tryd.underlying34 rfl (by kernel_rfl) ?_)
          | (go_at_call 16; (with_reducible refine (HSM.out _ _ _ M.out.x.2.s M.out.x.1.s).mono ?_); rintro e w20 ⟨rfl, hb⟩; replace M := Lib.hid (M.out.call hb); clear hb)
          | (go_at_call 20; (with_reducible refine (HCK.out _).mono ?_); rintro e w21 ⟨rfl, hb⟩; replace M := Lib.hid (M.out.call hb); have c0 : w21.cell? ⟨q, 0, none⟩ = some (.slice pa _ pc) := cell_of_row _ _ _ _ _ _ M.out.x.1.r; clear hb; simp only [errV])
          | (go_at_call 9; (with_reducible refine (HSU.out _).mono ?_); rintro e w22 ⟨rfl, hb⟩; replace M := Lib.hid (M.out.call hb); clear hb))
        go_ret
        exact ⟨rfl, M.out.below⟩

end Go.Proofs.YteokgklfljhcaaaDoor
