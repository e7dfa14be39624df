/- CoinTraces: the walk. -/
import Derived.Test.YteokgklfljhcaaaGreatDoorCnR
import Derived.Test.YteokgklfljhcaaaGreatDoorCnJ
namespace Go.Proofs.YteokgklfljhcaaaGreatDoor
open Go.RowKit
set_option maxRecDepth 100000
set_option linter.unusedSimpArgs false
set_option linter.unusedVariables false
theorem den_small (p : List ByteArray) (b : ByteArray) : (denR p b).size ≤ 352 := by
  rcases trE_cases p b with h | h | h
  · exact den_size h
  all_goals
    unfold denR fullR
    rw [if_neg (fun e => by rw [h] at e; cases e.1), if_neg (by rw [h]; simp)]
    decide
set_option maxHeartbeats 8000000 in
theorem lctraces_any (t : List ByteArray) (b s : ByteArray) (pv : Value) (w : World) (he : Env w) (hg : ErrType w) (hp : SsIn w pv t) (hl : t.length ≤ 1048576) (hs : ∀ s ∈ t, s.size ≤ 1048576) (hb : b.size ≤ 1048576) (hss : s.size ≤ 1048576) :
    Calls Tryz.prog 5 #[.agg (trC pv b), .string s] w fun e w' => e = .returned (.bool true) ∧ Below w.heap.size w w' := by
  have HE := Lib.hid he
  have HG := Lib.hid hg
  have HSU := Lib.hid csure_any
  have hs2 : ∀ x ∈ t, x.size ≤ 9223372036854775806 := fun x hx => Nat.le_trans (hs x hx) (by omega)
  have HGV := Lib.hid (fun v w h => lgive_any t b v w h (by omega))
  have HFU := Lib.hid (fun v w h => cfull_any t b v w h (by omega) hs2 (by omega) (fun h => Nat.le_trans (full_small h) (by omega)))
  have HRF := Lib.hid (fun v w h => rfull_any t b v w h hs2 (by omega))
  have HDE := Lib.hid (fun v w he h => cdenom_any t b v w he h (by omega) hs2 (by omega) (fun h => Nat.le_trans (full_small h) (by omega)))
  have HRD := Lib.hid (fun v w h => rdenom14_any t b v w h hs2 (by omega))
  have HPA := Lib.hid (fun w => cparse_any s w (by omega))
  have HRP := Lib.hid (fun w => rparse14_any s w (by omega))
  have HSM := Lib.hid (fun va vb w h1 h2 => lsame14_any (parP s) (parB s) va vb w h1 h2)
  have HBA := Lib.hid (fun w => cbase_any s w (by omega))
  have HRB := Lib.hid (fun w => rbase_any s w (by omega))
  have hds := den_small t b
  have HC1 := Lib.hid (fun w => ccheck_any s w (by omega))
  have HR1 := Lib.hid (fun w => rcheck14_any s w (by omega))
  have HC2 := Lib.hid (fun w => ccheck_any (denR t b) w (by omega))
  have HR2 := Lib.hid (fun w => rcheck14_any (denR t b) w (by omega))
  have HN1 := Lib.hid (fun w h => num_any (trE t b) w h)
  have HN2 := Lib.hid (fun w h => num_any (parE s) w h)
  have HN3 := Lib.hid (fun w h => num_any (chkD s) w h)
  have HN4 := Lib.hid (fun w h => num_any (chkD (denR t b)) w h)
  obtain ⟨E4, hE4⟩ : ∃ e, e = errV (chkD (denR t b)) := ⟨_, rfl⟩
  obtain ⟨F4, hF4⟩ : ∃ e, e = numE (chkD (denR t b)) := ⟨_, rfl⟩
  rw [← hE4] at HC2 HN4
  rw [← hF4] at HR2 HN4
  obtain ⟨E1, hE1⟩ : ∃ e, e = errV (trE t b) := ⟨_, rfl⟩
  obtain ⟨F1, hF1⟩ : ∃ e, e = numE (trE t b) := ⟨_, rfl⟩
  obtain ⟨E2, hE2⟩ : ∃ e, e = errV (parE s) := ⟨_, rfl⟩
  obtain ⟨F2, hF2⟩ : ∃ e, e = numE (parE s) := ⟨_, rfl⟩
  obtain ⟨E3, hE3⟩ : ∃ e, e = errV (chkD s) := ⟨_, rfl⟩
  obtain ⟨F3, hF3⟩ : ∃ e, e = numE (chkD s) := ⟨_, rfl⟩
  obtain ⟨R, hR⟩ : ∃ e, e = fullR t b := ⟨_, rfl⟩
  obtain ⟨D, hD⟩ : ∃ e, e = denR t b := ⟨_, rfl⟩
  obtain ⟨PP, hPP⟩ : ∃ e, e = parP s := ⟨_, rfl⟩
  obtain ⟨PB, hPB⟩ : ∃ e, e = parB s := ⟨_, rfl⟩
  obtain ⟨BB, hBB⟩ : ∃ e, e = baseB s := ⟨_, rfl⟩
  rw [← hE1] at HFU HDE HN1
  rw [← hF1] at HRF HRD HN1
  rw [← hE2] at HPA HN2
  rw [← hF2] at HRP HN2
  rw [← hE3] at HC1 HN3
  rw [← hF3] at HR1 HN3
  rw [← hR] at HFU HRF
  rw [← hD] at HDE HRD HC2 HR2
  rw [← hPP, ← hPB] at HPA HRP HSM
  rw [← hBB] at HBA HRB
  have kR : (R.toList == R.toList) = true := by simp
  have kD : (D.toList == D.toList) = true := by simp
  have kB : (BB == BB) = true := by simp
  obtain ⟨pa, pc, rfl, -, -⟩ := id hp
  obtain ⟨n, hn⟩ : ∃ n, n = t.length := ⟨_, rfl⟩
  rw [← hn] at hp ⊢
  have hba := below_alloc w (.cells (trC (.slice pa n pc) b) 62)
  have M := Lib.hid (show Kp w (w.alloc (.cells (trC (.slice pa n pc) b) 62)) (TrV 62 w.heap.size (.slice pa n pc) b t) from ⟨hba, ⟨heap_alloc_new _ _, hp.below hba⟩, kept_trv _ _ _ _ _⟩)
  clear he hg hp hl hs hs2 hb hss hds hE1 hF1 hE2 hF2 hE3 hF3 hE4 hF4 hR hD hPP hPB hBB hn hba
  go_enter Tryz.func5, Tryz.ntmps5
  go_upto_region 1 with (fail)
  obtain ⟨q, hq⟩ : ∃ q, q = w.heap.size := ⟨_, rfl⟩
  rw [← hq] at M ⊢
  clear hq
  generalize w.alloc (.cells (trC (.slice pa n pc) b) 62) = w1 at *
  go_upto_region 5 with (first
    | (refine wpList_load_row rfl 62 (.tmp 2) rfl q rfl 62 _ (0, 0) _ M.out.x.r Tryz.underlying62 rfl (by kernel_rfl) ?_)
    | (go_at_call 31; (with_reducible refine (HGV.out _ _ M.out.x.s).mono ?_); rintro e w2 ⟨v1, rfl, h1, hb⟩; have H1 := Lib.hid h1; replace M := Lib.hid (M.out.call hb); clear h1 hb)
    | (go_at_call 30; (with_reducible refine (HFU.out _ _ H1.out).mono ?_); rintro e w3 ⟨rfl, hb⟩; replace M := Lib.hid (M.out.call hb); clear hb H1)
    | (go_at_call 32; (with_reducible refine (HRF.out _ _ M.out.x.s).mono ?_); rintro e w4 ⟨rfl, hb⟩; replace M := Lib.hid (M.out.call hb); clear hb)
    | (go_at_call 33; (with_reducible refine (HDE.out _ _ (HE.out.below M.out.below HE.out.lt) H1.out).mono ?_); rintro e w5 ⟨rfl, hb⟩; replace M := Lib.hid (M.out.call hb); clear hb H1)
    | (go_at_call 34; (with_reducible refine (HRD.out _ _ M.out.x.s).mono ?_); rintro e w6 ⟨rfl, hb⟩; replace M := Lib.hid (M.out.call hb); clear hb))
  go_upto_region 6 with (first
    | (go_at_call 35; (with_reducible refine (HPA.out _).mono ?_); rintro e w7 ⟨zv, rfl, h2, hb⟩; obtain ⟨za, zl, zc, rfl⟩ := h2.sl; have HX := Lib.hid h2; replace M := Lib.hid (M.out.call hb); clear h2 hb)
    | (refine wpList_store_row rfl 65 (.tmp 13) (.tmp 42) rfl w7.heap.size (trC (.slice za zl zc) PB) rfl rfl 65 _ (heap_alloc_new _ _) (by kernel_rfl) (by rfl) (trC_one _ _ _ _) ?_; rw [World.setRow_alloc_new]))
  replace M := Lib.hid ((M.out.call (below_alloc w7 (.cells (trC (.slice za zl zc) PB) 65))).add (Y := TrV 65 w7.heap.size (.slice za zl zc) PB PP) ⟨heap_alloc_new _ _, HX.out.below (below_alloc _ _)⟩ (kept_trv _ _ _ _ _))
  clear HX
  obtain ⟨g13, hg13⟩ : ∃ g, g = w7.heap.size := ⟨_, rfl⟩
  rw [← hg13] at M ⊢
  clear hg13
  generalize w7.alloc (.cells (trC (.slice za zl zc) PB) 65) = w8 at *
  go_upto_region 7 with (first
    | (go_at_call 36; (with_reducible refine (HRP.out _).mono ?_); rintro e w9 ⟨yv, rfl, h2, hb⟩; obtain ⟨ya, yl, yc, rfl⟩ := h2.sl; have HX := Lib.hid h2; replace M := Lib.hid (M.out.call hb); clear h2 hb)
    | (refine wpList_store_row rfl 62 (.tmp 15) (.tmp 47) rfl w9.heap.size (trC (.slice ya yl yc) PB) rfl rfl 62 _ (heap_alloc_new _ _) (by kernel_rfl) (by rfl) (trC_one _ _ _ _) ?_; rw [World.setRow_alloc_new]))
  replace M := Lib.hid ((M.out.call (below_alloc w9 (.cells (trC (.slice ya yl yc) PB) 62))).add (Y := TrV 62 w9.heap.size (.slice ya yl yc) PB PP) ⟨heap_alloc_new _ _, HX.out.below (below_alloc _ _)⟩ (kept_trv _ _ _ _ _))
  clear HX
  obtain ⟨g15, hg15⟩ : ∃ g, g = w9.heap.size := ⟨_, rfl⟩
  rw [← hg15] at M ⊢
  clear hg15
  generalize w9.alloc (.cells (trC (.slice ya yl yc) PB) 62) = w10 at *
  go_wp2_with (first
    | (refine wpList_load_rowG (by rfl) 65 (.tmp 13) rfl g13 rfl 65 _ (0, 0) _ M.out.x.1.2.r Tryz.underlying65 rfl (by kernel_rfl) ?_)
    | (refine wpList_load_rowG (by rfl) 62 (.tmp 15) rfl g15 rfl 62 _ (0, 0) _ M.out.x.2.r Tryz.underlying62 rfl (by kernel_rfl) ?_)
    | (go_at_call 38; (with_reducible refine (HSM.out _ _ _ M.out.x.1.2.s M.out.x.2.s).mono ?_); rintro e w12 ⟨rfl, hb⟩; replace M := Lib.hid (M.out.call hb); clear hb)
    | (go_at_call 37; (with_reducible refine (HN1.out _ (HG.out.below M.out.below)).mono ?_); rintro e w14 ⟨rfl, hb⟩; replace M := Lib.hid (M.out.call hb); clear hb)
    | (go_at_call 37; (with_reducible refine (HN2.out _ (HG.out.below M.out.below)).mono ?_); rintro e w15 ⟨rfl, hb⟩; replace M := Lib.hid (M.out.call hb); clear hb)
    | (go_at_call 37; (with_reducible refine (HN3.out _ (HG.out.below M.out.below)).mono ?_); rintro e w16 ⟨rfl, hb⟩; replace M := Lib.hid (M.out.call hb); clear hb)
    | (go_at_call 37; (with_reducible refine (HN4.out _ (HG.out.below M.out.below)).mono ?_); rintro e w17 ⟨rfl, hb⟩; replace M := Lib.hid (M.out.call hb); clear hb)
    | (go_at_call 39; (with_reducible refine (HBA.out _).mono ?_); rintro e w18 ⟨rfl, hb⟩; replace M := Lib.hid (M.out.call hb); clear hb)
    | (go_at_call 40; (with_reducible refine (HRB.out _).mono ?_); rintro e w19 ⟨rfl, rfl⟩)
    | (go_at_call 41; (with_reducible refine (HC1.out _).mono ?_); rintro e w20 ⟨rfl, hb⟩; replace M := Lib.hid (M.out.call hb); clear hb)
    | (go_at_call 42; (with_reducible refine (HR1.out _).mono ?_); rintro e w21 ⟨rfl, hb⟩; replace M := Lib.hid (M.out.call hb); clear hb)
    | (go_at_call 41; (with_reducible refine (HC2.out _).mono ?_); rintro e w22 ⟨rfl, hb⟩; replace M := Lib.hid (M.out.call hb); clear hb)
    | (go_at_call 42; (with_reducible refine (HR2.out _).mono ?_); rintro e w23 ⟨rfl, hb⟩; replace M := Lib.hid (M.out.call hb); clear hb)
    | (go_at_call 43; (with_reducible refine (HSU.out _).mono ?_); rintro e w24 ⟨rfl, hb⟩; replace M := Lib.hid (M.out.call hb); clear hb))
  go_ret
  exact ⟨rfl, M.out.below⟩
end Go.Proofs.YteokgklfljhcaaaGreatDoor
