/- For every slice of bytes, TypesReads returns true and leaves its argument as it was. Conditions: errors.errorType reads as the program's text lays it, which the card ties to that text; the slice takes at most 2^47 - 4096 bytes. -/
import Derived.ProofKit
import Derived.LaidMore
import Derived.OpenShut
import Derived.Stop.Joined
import Derived.Stop.LaidErr
import Derived.Lib.LaidTab
import Derived.LaidHandle
import Derived.SizedLaws
import Derived.Test.YtanekacpalpcbaaGreatDoorTie
import Derived.Test.YtanekacpalpcbaaGreatDoorCards
import Derived.SevenTiedAt
import Derived.Test.YtanekacpalpcbaaGreatDoorRd8
import Derived.Test.YtanekacpalpcbaaGreatDoorRd32
import Derived.Test.YtanekacpalpcbaaGreatDoorRd44
import Derived.Test.YtanekacpalpcbaaGreatDoorRd47
namespace Go.Proofs.YtanekacpalpcbaaGreatDoor
set_option linter.unusedVariables false
set_option linter.unusedSimpArgs false
open Go.RowKit
set_option maxRecDepth 1000000
set_option linter.unusedSimpArgs false
set_option linter.unusedVariables false
theorem unzig_fl {n : Nat} (h : n < 18446744073709551616) : -9223372036854775808 ≤ unzig n ∧ unzig n ≤ 9223372036854775807 := by
  unfold unzig
  split <;> constructor <;> omega
theorem intS_fl (s : RSt) : -9223372036854775808 ≤ (intS s).1 ∧ (intS s).1 ≤ 9223372036854775807 := unzig_fl (uintS_lt s _)
theorem partS_le11 (s : RSt) (m : Nat) : (partS s (m : Int)).1.length ≤ m := by
  unfold partS
  cases s.2 with
  | some x => simp
  | none =>
    simp only
    split
    · simp
    · split
      · simp
      · split
        · simp
        · split
          · simp
          · rename_i h1 _ _ h2 _
            simp only [List.length_take]
            omega
theorem vtV_fl (s : RSt) (v : Value) : VoFl (vtV s v) ∧ (vtV s v).sign.length ≤ 65536 := ⟨⟨intS_fl _, intS_fl _, intS_fl _, intS_fl _⟩, partS_le11 _ 65536⟩
theorem vtsF_fl (s : RSt) : ∀ (l : List Value) (k : Nat), ∀ t ∈ vtsF k s l, VoFl t ∧ t.sign.length ≤ 65536
  | [], k, t, h => by cases h
  | v :: r, k, t, h => by
    rcases List.mem_cons.1 h with rfl | h
    · exact vtV_fl _ _
    · exact vtsF_fl s r (k + 1) t h
theorem dvo_fl (xs : List Int) : VoFl (dvo xs) ∧ (dvo xs).sign.length ≤ 65536 := by
  unfold dvo
  split
  · exact vtV_fl _ _
  · exact ⟨⟨by decide, by decide, by decide, by decide⟩, by decide⟩
theorem dcl_fl (xs : List Int) : ∀ t ∈ dcl xs, VoFl t ∧ t.sign.length ≤ 65536 := by
  unfold dcl
  split
  · exact vtsF_fl _ _ _
  · intro t h; cases h
theorem dbl_fl (xs : List Int) : ∀ t ∈ dbl xs, VoFl t ∧ t.sign.length ≤ 65536 := by
  unfold dbl
  split
  · exact vtsF_fl _ _ _
  · intro t h; cases h
theorem core_fl {t : Vo} (h : VoFl (coreV t) ∧ (coreV t).sign.length ≤ 65536) : VoFl t ∧ (vo1 t).length + 400 ≤ 140737488355328 := by
  have hf : VoFl t := ⟨h.1.k, h.1.h, h.1.r, h.1.vl⟩
  exact ⟨hf, by have := vo1_len hf h.2; omega⟩
theorem map_fl {l DL : List Vo} (h : l.map coreV = DL) (hd : ∀ t ∈ DL, VoFl t ∧ t.sign.length ≤ 65536) : ∀ t ∈ l, VoFl t ∧ (vo1 t).length + 400 ≤ 140737488355328 := fun t m => core_fl (hd _ (by rw [← h]; exact List.mem_map_of_mem m))
theorem map_same {la lb DL : List Vo} (ha : la.map coreV = DL) (hb : lb.map coreV = DL) : SameV la lb := by
  have hl : la.length = lb.length := by have := congrArg List.length (ha.trans hb.symm); simpa using this
  refine ⟨hl, fun i x y hx hy => ?_⟩
  have e1 : (la.map coreV)[i]? = some (coreV x) := by rw [List.getElem?_map, hx]; rfl
  have e2 : (lb.map coreV)[i]? = some (coreV y) := by rw [List.getElem?_map, hy]; rfl
  rw [ha] at e1
  rw [hb, e1] at e2
  injection e2 with e2
  have e3 := congrArg vo1 e2
  exact e3
theorem map_sameT {la lb : List Tb} {DL : List (List Int)} (ha : la.map Tb.bs = DL) (hb : lb.map Tb.bs = DL) : SameT la lb := by
  have hl : la.length = lb.length := by have := congrArg List.length (ha.trans hb.symm); simpa using this
  refine ⟨hl, fun i x y hx hy => ?_⟩
  have e1 : (la.map Tb.bs)[i]? = some x.bs := by rw [List.getElem?_map, hx]; rfl
  have e2 : (lb.map Tb.bs)[i]? = some y.bs := by rw [List.getElem?_map, hy]; rfl
  rw [ha] at e1
  rw [hb, e1] at e2
  injection e2
theorem hd_form (xs : List Int) (A : Array Value) (h : A = dhA xs ∨ A = dbh xs) : ∃ CH HT TM LA AP TX VA NX PR, A = hdD CH HT TM LA AP TX VA NX PR := by
  rcases h with rfl | rfl
  · unfold dhA; split <;> exact ⟨_, _, _, _, _, _, _, _, _, rfl⟩
  · unfold dbh; split <;> exact ⟨_, _, _, _, _, _, _, _, _, rfl⟩
theorem hd_eqT {A : Array Value} (h : ∃ CH HT TM LA AP TX VA NX PR, A = hdD CH HT TM LA AP TX VA NX PR) : (∀ w : World, (binOp .eql 74 (.agg A) (.agg A)).run Tryz.prog w = .ok (.bool true) w) ∧ A.size = 164 ∧ A.all (·.oneCell') = true := by
  obtain ⟨CH, HT, TM, LA, AP, TX, VA, NX, PR, hA⟩ := h
  rw [hA]
  exact ⟨fun w => eqlHeader_self CH HT TM LA AP TX VA NX PR w, hdD_size CH HT TM LA AP TX VA NX PR, hdD_one11 CH HT TM LA AP TX VA NX PR⟩
theorem kept_bytesR (v : Value) (xs : List Int) : Kept (fun w => BytesIn w v xs) := fun _ _ h hb => h.below hb
theorem kept_vlR (v : Value) (l : List Vo) : Kept (fun w => VoIn w v l ∧ ∀ t ∈ l, BytesIn w t.sv t.sign) := fun _ _ h hb => ⟨h.1.below hb, fun t m => (h.2 t m).below hb⟩
theorem kept_tlR (v : Value) (l : List Tb) : Kept (fun w => TbIn w v l ∧ ∀ t ∈ l, BytesIn w t.bv t.bs) := fun _ _ h hb => ⟨h.1.below hb, fun t m => (h.2 t m).below hb⟩
set_option maxHeartbeats 16000000 in
theorem lreads_any (bv : Value) (xs : List Int) (w : World) (hg : ErrType w) (hx : BytesIn w bv xs) (hxo : bytesOk xs) (hxl : xs.length ≤ 140737488351232) :
    Calls Tryz.prog 8 #[bv] w fun e w' => e = .returned (.bool true) ∧ Below w.heap.size w w' := by
  obtain ⟨ba, bc, rfl, -⟩ := id hx
  obtain ⟨bn, hbn⟩ : ∃ n, n = xs.length := ⟨_, rfl⟩
  have HBN := Lib.hid hbn
  have HG := Lib.hid hg
  have HXO := Lib.hid hxo
  have HXL := Lib.hid hxl
  have HSU := Lib.hid (fun w' (h : Below w.heap.size w w') => tysure_any w' (HG.out.below h))
  obtain ⟨V, hV⟩ : ∃ x, x = dvo xs := ⟨_, rfl⟩
  obtain ⟨EV, hEV⟩ : ∃ x, x = dvoE xs := ⟨_, rfl⟩
  obtain ⟨HA, hHA⟩ : ∃ x, x = dhA xs := ⟨_, rfl⟩
  obtain ⟨EH, hEH⟩ : ∃ x, x = dhE xs := ⟨_, rfl⟩
  obtain ⟨C, hC⟩ : ∃ x, x = dcm xs := ⟨_, rfl⟩
  obtain ⟨DC, hDC⟩ : ∃ x, x = dcl xs := ⟨_, rfl⟩
  obtain ⟨EC, hEC⟩ : ∃ x, x = dcE xs := ⟨_, rfl⟩
  obtain ⟨HK, hHK⟩ : ∃ x, x = dbh xs := ⟨_, rfl⟩
  obtain ⟨CK, hCK⟩ : ∃ x, x = dbc xs := ⟨_, rfl⟩
  obtain ⟨DT, hDT⟩ : ∃ x, x = dbt xs := ⟨_, rfl⟩
  obtain ⟨DL, hDL⟩ : ∃ x, x = dbl xs := ⟨_, rfl⟩
  obtain ⟨EB, hEB⟩ : ∃ x, x = dbE xs := ⟨_, rfl⟩
  have HVF := Lib.hid (show VoFl V ∧ V.sign.length ≤ 65536 from by rw [hV]; exact dvo_fl xs)
  have HCF := Lib.hid (show ∀ t ∈ DC, VoFl t ∧ t.sign.length ≤ 65536 from by rw [hDC]; exact dcl_fl xs)
  have HBF := Lib.hid (show ∀ t ∈ DL, VoFl t ∧ t.sign.length ≤ 65536 from by rw [hDL]; exact dbl_fl xs)
  obtain ⟨heqH, hHS, hHO⟩ := hd_eqT (hd_form xs HA (.inl hHA))
  obtain ⟨heqK, hKS, hKO⟩ := hd_eqT (hd_form xs HK (.inr hHK))
  have HEQH := Lib.hid heqH
  have HEQK := Lib.hid heqK
  have HHS := Lib.hid hHS
  have HHO := Lib.hid hHO
  have HKS := Lib.hid hKS
  have HKO := Lib.hid hKO
  have HPV := Lib.hid (fun v w h => pdv_any v xs w h hxo (Nat.le_trans hxl (by omega)))
  have HRV := Lib.hid (fun v w h => rdv_any v xs w h hxo hxl)
  have HPC := Lib.hid (fun v w h => pdc_any v xs w h hxo (Nat.le_trans hxl (by omega)))
  have HRC := Lib.hid (fun v w h => rdc_any v xs w h hxo hxl)
  have HPH := Lib.hid (fun v w h => pdh_any v xs w h hxo (Nat.le_trans hxl (by omega)))
  have HRH := Lib.hid (fun v w h => rdh_any v xs w h hxo hxl)
  have HPB := Lib.hid (fun v w h => pdb_any v xs w h hxo (Nat.le_trans hxl (by omega)))
  have HRB := Lib.hid (fun v w h => rdb_any v xs w h hxo hxl)
  unfold DvP at HPV HRV
  unfold DcP at HPC HRC
  unfold DhP at HPH HRH
  unfold DbP at HPB HRB
  dsimp only at HRV HRC HRH HRB
  rw [← hV, ← hEV] at HPV HRV
  rw [← hC, ← hDC, ← hEC] at HPC HRC
  rw [← hHA, ← hEH] at HPH HRH
  rw [← hHK, ← hCK, ← hDT, ← hDL, ← hEB] at HPB HRB
  obtain ⟨cV, hcV⟩ : ∃ c, c = numE EV := ⟨_, rfl⟩
  obtain ⟨cH, hcH⟩ : ∃ c, c = numE EH := ⟨_, rfl⟩
  obtain ⟨cC, hcC⟩ : ∃ c, c = numE EC := ⟨_, rfl⟩
  obtain ⟨cB, hcB⟩ : ∃ c, c = numE EB := ⟨_, rfl⟩
  rw [← hcV] at HRV
  rw [← hcH] at HRH
  rw [← hcC] at HRC
  rw [← hcB] at HRB
  have HN1 := Lib.hid (fun w h => num_any EV w h)
  have HN2 := Lib.hid (fun w h => num_any EC w h)
  have HN3 := Lib.hid (fun w h => num_any EH w h)
  have HN4 := Lib.hid (fun w h => num_any EB w h)
  rw [← hcV] at HN1
  rw [← hcC] at HN2
  rw [← hcH] at HN3
  rw [← hcB] at HN4
  obtain ⟨KT, hKT⟩ : ∃ k, k = strOfNums xs := ⟨_, rfl⟩
  have HKT := Lib.hid hKT
  have hk1 : (KT.toList == KT.toList) = true := by simp
  have M := Lib.hid ((Kp.start w).add (Y := fun w => BytesIn w (.slice ba bn bc) xs) (by rw [hbn]; exact hx) (kept_bytesR _ _))
  rw [← hbn]
  clear hg hx hxo hxl hbn hV hEV hHA hEH hC hDC hEC hHK hCK hDT hDL hEB hHS hHO hKS hKO heqH heqK hcV hcH hcC hcB hKT
  go_enter Tryz.func8, Tryz.ntmps8
  go_upto_region 3 with (at_builtin; refine wpList_append_bytes rfl (.tmp 20) (.tmp 21) rfl rfl w.heap.size (.slice none 0 0) 0 [] rfl (World.ownsRow_nil _ _ _ _) (.slice ba bn bc) xs rfl M.out.x.2 (by have := HXL.out; omega) (Nat.le_refl _) ?_; intro mv w2 hmo hmg _; simp only [Nat.zero_add, List.nil_append] at hmo; obtain ⟨ma, mc, hme⟩ := own_slice11 hmo; rw [← HBN.out] at hme; subst hme; have HMO := Lib.hid (owns_in hmo (by have := HXL.out; unfold maxLen; omega)); have hb2 := (Below.refl _ _).grown hmg (Nat.le_refl _) (fun j hj => by cases hj); replace M := Lib.hid ((M.out.call hb2).add (Y := fun w => BytesIn w (.slice ma bn mc) xs) HMO.out (kept_bytesR _ _)); clear hmo hmg hb2 HMO)
  go_upto_region 4 with (first
    | (go_at_call 51; (with_reducible refine (HPV.out _ _ M.out.x.2).mono ?_); rintro e w3 ⟨sv1, rfl, hs, hb⟩; have HBV1 := Lib.hid hs; have HXV1 := Lib.hid (show ∃ a n c, (setSv V sv1).sv = .slice a n c from by obtain ⟨a, c, e, _⟩ := hs; exact ⟨_, _, _, e⟩); clear hs; obtain ⟨CV1, hCV1⟩ : ∃ x, x = voC (setSv V sv1) := ⟨_, rfl⟩; have HCV1 := Lib.hid hCV1; have HSV1 := Lib.hid ((congrArg Array.size hCV1).trans (voC_size _)); have HOV1 := Lib.hid (show CV1.all (·.oneCell') = true from by rw [hCV1]; exact voC_one _ HXV1.out); rw [← hCV1]; clear hCV1; replace M := Lib.hid (M.out.call hb); clear hb)
    | (refine wpList_store_row rfl 93 (.tmp 4) (.tmp 26) rfl w3.heap.size CV1 rfl rfl 93 _ (heap_alloc_new _ _) (by rw [HSV1.out]; kernel_rfl) (by rw [HSV1.out]; kernel_rfl) HOV1.out ?_; rw [World.setRow_alloc_new]))
  have hb := below_alloc w3 (.cells CV1 93)
  replace M := Lib.hid (M.out.call hb)
  replace M := Lib.hid (M.out.add (Y := fun w => BytesIn w sv1 V.sign) (HBV1.out.below hb) (kept_bytesR _ _))
  replace M := Lib.hid (M.out.add (Y := fun w => w.heap[w3.heap.size]? = some (.cells CV1 93 (0, 0))) (heap_alloc_new _ _) (kept_blk _ _))
  obtain ⟨qV1, hqV1⟩ : ∃ g, g = w3.heap.size := ⟨_, rfl⟩
  rw [← hqV1] at M ⊢
  clear hqV1 hb HBV1
  generalize w3.alloc (.cells CV1 93) = w4 at *
  go_upto_region 5 with (first
    | (go_at_call 52; (with_reducible refine (HRV.out _ _ M.out.x.1.1.1.2).mono ?_); rintro e w5 ⟨sv2, rfl, hs, hb⟩; have HBV2 := Lib.hid hs; have HXV2 := Lib.hid (show ∃ a n c, (setSv V sv2).sv = .slice a n c from by obtain ⟨a, c, e, _⟩ := hs; exact ⟨_, _, _, e⟩); clear hs; obtain ⟨CV2, hCV2⟩ : ∃ x, x = voC (setSv V sv2) := ⟨_, rfl⟩; have HCV2 := Lib.hid hCV2; have HSV2 := Lib.hid ((congrArg Array.size hCV2).trans (voC_size _)); have HOV2 := Lib.hid (show CV2.all (·.oneCell') = true from by rw [hCV2]; exact voC_one _ HXV2.out); rw [← hCV2]; clear hCV2; replace M := Lib.hid (M.out.call hb); clear hb)
    | (refine wpList_store_row rfl 93 (.tmp 6) (.tmp 31) rfl w5.heap.size CV2 rfl rfl 93 _ (heap_alloc_new _ _) (by rw [HSV2.out]; kernel_rfl) (by rw [HSV2.out]; kernel_rfl) HOV2.out ?_; rw [World.setRow_alloc_new]))
  have hb := below_alloc w5 (.cells CV2 93)
  replace M := Lib.hid (M.out.call hb)
  replace M := Lib.hid (M.out.add (Y := fun w => BytesIn w sv2 V.sign) (HBV2.out.below hb) (kept_bytesR _ _))
  replace M := Lib.hid (M.out.add (Y := fun w => w.heap[w5.heap.size]? = some (.cells CV2 93 (0, 0))) (heap_alloc_new _ _) (kept_blk _ _))
  obtain ⟨qV2, hqV2⟩ : ∃ g, g = w5.heap.size := ⟨_, rfl⟩
  rw [← hqV2] at M ⊢
  clear hqV2 hb HBV2
  generalize w5.alloc (.cells CV2 93) = w6 at *
  go_upto_region 6 with (first
    | (go_at_call 53; (with_reducible refine (HPC.out _ _ M.out.x.1.1.1.1.2).mono ?_); rintro e w7 ⟨cv1, lc1, rfl, hv, hs, hm, hb⟩; have HBC1 := Lib.hid (show VoIn w7 cv1 lc1 ∧ (∀ t ∈ lc1, BytesIn w7 t.sv t.sign) from ⟨hv, hs⟩); have HMC1 := Lib.hid hm; obtain ⟨xa, xc, hxe, -, -⟩ := hv.len; clear hv hs hm; obtain ⟨CC1, hCC1⟩ : ∃ x, x = cmC C cv1 := ⟨_, rfl⟩; have HCC1 := Lib.hid hCC1; have HSC1 := Lib.hid ((congrArg Array.size hCC1).trans (cmC_size _ _)); have HOC1 := Lib.hid (show CC1.all (·.oneCell') = true from by rw [hCC1]; exact (by rw [hxe]; exact cmC_one11 _ _ _ _)); rw [← hCC1]; clear hCC1; clear hxe; replace M := Lib.hid (M.out.call hb); clear hb)
    | (refine wpList_store_row rfl 78 (.tmp 8) (.tmp 36) rfl w7.heap.size CC1 rfl rfl 78 _ (heap_alloc_new _ _) (by rw [HSC1.out]; kernel_rfl) (by rw [HSC1.out]; kernel_rfl) HOC1.out ?_; rw [World.setRow_alloc_new]))
  have hb := below_alloc w7 (.cells CC1 78)
  replace M := Lib.hid (M.out.call hb)
  replace M := Lib.hid (M.out.add (Y := fun w => VoIn w cv1 lc1 ∧ ∀ t ∈ lc1, BytesIn w t.sv t.sign) ⟨HBC1.out.1.below hb, fun t m => (HBC1.out.2 t m).below hb⟩ (kept_vlR _ _))
  replace M := Lib.hid (M.out.add (Y := fun w => w.heap[w7.heap.size]? = some (.cells CC1 78 (0, 0))) (heap_alloc_new _ _) (kept_blk _ _))
  obtain ⟨qC1, hqC1⟩ : ∃ g, g = w7.heap.size := ⟨_, rfl⟩
  rw [← hqC1] at M ⊢
  clear hqC1 hb HBC1
  generalize w7.alloc (.cells CC1 78) = w8 at *
  go_upto_region 7 with (first
    | (go_at_call 54; (with_reducible refine (HRC.out _ _ M.out.x.1.1.1.1.1.1.1.2).mono ?_); rintro e w9 ⟨cv2, lc2, rfl, hv, hs, hm, hb⟩; have HBC2 := Lib.hid (show VoIn w9 cv2 lc2 ∧ (∀ t ∈ lc2, BytesIn w9 t.sv t.sign) from ⟨hv, hs⟩); have HMC2 := Lib.hid hm; obtain ⟨xa, xc, hxe, -, -⟩ := hv.len; clear hv hs hm; obtain ⟨CC2, hCC2⟩ : ∃ x, x = cmC C cv2 := ⟨_, rfl⟩; have HCC2 := Lib.hid hCC2; have HSC2 := Lib.hid ((congrArg Array.size hCC2).trans (cmC_size _ _)); have HOC2 := Lib.hid (show CC2.all (·.oneCell') = true from by rw [hCC2]; exact (by rw [hxe]; exact cmC_one11 _ _ _ _)); rw [← hCC2]; clear hCC2; clear hxe; replace M := Lib.hid (M.out.call hb); clear hb)
    | (refine wpList_store_row rfl 78 (.tmp 10) (.tmp 41) rfl w9.heap.size CC2 rfl rfl 78 _ (heap_alloc_new _ _) (by rw [HSC2.out]; kernel_rfl) (by rw [HSC2.out]; kernel_rfl) HOC2.out ?_; rw [World.setRow_alloc_new]))
  have hb := below_alloc w9 (.cells CC2 78)
  replace M := Lib.hid (M.out.call hb)
  replace M := Lib.hid (M.out.add (Y := fun w => VoIn w cv2 lc2 ∧ ∀ t ∈ lc2, BytesIn w t.sv t.sign) ⟨HBC2.out.1.below hb, fun t m => (HBC2.out.2 t m).below hb⟩ (kept_vlR _ _))
  replace M := Lib.hid (M.out.add (Y := fun w => w.heap[w9.heap.size]? = some (.cells CC2 78 (0, 0))) (heap_alloc_new _ _) (kept_blk _ _))
  obtain ⟨qC2, hqC2⟩ : ∃ g, g = w9.heap.size := ⟨_, rfl⟩
  rw [← hqC2] at M ⊢
  clear hqC2 hb HBC2
  generalize w9.alloc (.cells CC2 78) = w10 at *
  have HSH1 := Lib.hid HHS.out
  have HOH1 := Lib.hid HHO.out
  go_upto_region 8 with (first
    | (go_at_call 55; (with_reducible refine (HPH.out _ _ M.out.x.1.1.1.1.1.1.1.1.2).mono ?_); rintro e w11 ⟨rfl, hb⟩; skip; replace M := Lib.hid (M.out.call hb); clear hb)
    | (refine wpList_store_row rfl 74 (.tmp 12) (.tmp 46) rfl w11.heap.size HA rfl rfl 74 _ (heap_alloc_new _ _) (by rw [HSH1.out]; kernel_rfl) (by rw [HSH1.out]; kernel_rfl) HOH1.out ?_; rw [World.setRow_alloc_new]))
  have hb := below_alloc w11 (.cells HA 74)
  replace M := Lib.hid (M.out.call hb)
  replace M := Lib.hid (M.out.add (Y := fun w => w.heap[w11.heap.size]? = some (.cells HA 74 (0, 0))) (heap_alloc_new _ _) (kept_blk _ _))
  obtain ⟨qH1, hqH1⟩ : ∃ g, g = w11.heap.size := ⟨_, rfl⟩
  rw [← hqH1] at M ⊢
  clear hqH1 hb HSH1 HOH1
  generalize w11.alloc (.cells HA 74) = w12 at *
  have HSH2 := Lib.hid HHS.out
  have HOH2 := Lib.hid HHO.out
  go_upto_region 9 with (first
    | (go_at_call 56; (with_reducible refine (HRH.out _ _ M.out.x.1.1.1.1.1.1.1.1.1.1.2).mono ?_); rintro e w13 ⟨rfl, hb⟩; skip; replace M := Lib.hid (M.out.call hb); clear hb)
    | (refine wpList_store_row rfl 74 (.tmp 14) (.tmp 51) rfl w13.heap.size HA rfl rfl 74 _ (heap_alloc_new _ _) (by rw [HSH2.out]; kernel_rfl) (by rw [HSH2.out]; kernel_rfl) HOH2.out ?_; rw [World.setRow_alloc_new]))
  have hb := below_alloc w13 (.cells HA 74)
  replace M := Lib.hid (M.out.call hb)
  replace M := Lib.hid (M.out.add (Y := fun w => w.heap[w13.heap.size]? = some (.cells HA 74 (0, 0))) (heap_alloc_new _ _) (kept_blk _ _))
  obtain ⟨qH2, hqH2⟩ : ∃ g, g = w13.heap.size := ⟨_, rfl⟩
  rw [← hqH2] at M ⊢
  clear hqH2 hb HSH2 HOH2
  generalize w13.alloc (.cells HA 74) = w14 at *
  go_upto_region 10 with (first
    | (go_at_call 57; (with_reducible refine (HPB.out _ _ M.out.x.1.1.1.1.1.1.1.1.1.1.2).mono ?_); rintro e w15 ⟨tv1, tl1, bv1, bl1, rfl, ht, hts, hmt, hv, hs, hm, hb⟩; have HTB1 := Lib.hid (show TbIn w15 tv1 tl1 ∧ (∀ t ∈ tl1, BytesIn w15 t.bv t.bs) from ⟨ht, hts⟩); have HBB1 := Lib.hid (show VoIn w15 bv1 bl1 ∧ (∀ t ∈ bl1, BytesIn w15 t.sv t.sign) from ⟨hv, hs⟩); have HMB1 := Lib.hid hm; have HMTB1 := Lib.hid hmt; obtain ⟨xa, xc, hxe, -, -⟩ := hv.len; obtain ⟨ya, yc, hye, -, -⟩ := ht.len; clear hv hs hm ht hts hmt; obtain ⟨CK1, hCK1⟩ : ∃ x, x = cmC CK bv1 := ⟨_, rfl⟩; have HCK1 := Lib.hid hCK1; have HSK1 := Lib.hid ((congrArg Array.size hCK1).trans (cmC_size _ _)); have HOK1 := Lib.hid (show CK1.all (·.oneCell') = true from by rw [hCK1]; exact (by rw [hxe]; exact cmC_one11 _ _ _ _)); rw [← hCK1]; clear hCK1; obtain ⟨CB1, hCB1⟩ : ∃ x, x = bkD HK tv1 CK1 := ⟨_, rfl⟩; have HCB1 := Lib.hid hCB1; have HSB1 := Lib.hid ((congrArg Array.size hCB1).trans (bkD_size HKS.out HSK1.out)); have HOB1 := Lib.hid (show CB1.all (·.oneCell') = true from by rw [hCB1]; exact (by rw [hye]; exact bkD_one HKO.out HOK1.out)); rw [← hCB1]; clear hCB1; clear hxe hye; replace M := Lib.hid (M.out.call hb); clear hb)
    | (refine wpList_store_row rfl 80 (.tmp 16) (.tmp 56) rfl w15.heap.size CB1 rfl rfl 80 _ (heap_alloc_new _ _) (by rw [HSB1.out]; kernel_rfl) (by rw [HSB1.out]; kernel_rfl) HOB1.out ?_; rw [World.setRow_alloc_new]))
  have hb := below_alloc w15 (.cells CB1 80)
  replace M := Lib.hid (M.out.call hb)
  replace M := Lib.hid (M.out.add (Y := fun w => TbIn w tv1 tl1 ∧ ∀ t ∈ tl1, BytesIn w t.bv t.bs) ⟨HTB1.out.1.below hb, fun t m => (HTB1.out.2 t m).below hb⟩ (kept_tlR _ _))
  replace M := Lib.hid (M.out.add (Y := fun w => VoIn w bv1 bl1 ∧ ∀ t ∈ bl1, BytesIn w t.sv t.sign) ⟨HBB1.out.1.below hb, fun t m => (HBB1.out.2 t m).below hb⟩ (kept_vlR _ _))
  replace M := Lib.hid (M.out.add (Y := fun w => w.heap[w15.heap.size]? = some (.cells CB1 80 (0, 0))) (heap_alloc_new _ _) (kept_blk _ _))
  obtain ⟨qB1, hqB1⟩ : ∃ g, g = w15.heap.size := ⟨_, rfl⟩
  rw [← hqB1] at M ⊢
  clear hqB1 hb HBB1 HTB1
  generalize w15.alloc (.cells CB1 80) = w16 at *
  go_upto_region 11 with (first
    | (go_at_call 58; (with_reducible refine (HRB.out _ _ M.out.x.1.1.1.1.1.1.1.1.1.1.1.1.1.1.2).mono ?_); rintro e w17 ⟨tv2, tl2, bv2, bl2, rfl, ht, hts, hmt, hv, hs, hm, hb⟩; have HTB2 := Lib.hid (show TbIn w17 tv2 tl2 ∧ (∀ t ∈ tl2, BytesIn w17 t.bv t.bs) from ⟨ht, hts⟩); have HBB2 := Lib.hid (show VoIn w17 bv2 bl2 ∧ (∀ t ∈ bl2, BytesIn w17 t.sv t.sign) from ⟨hv, hs⟩); have HMB2 := Lib.hid hm; have HMTB2 := Lib.hid hmt; obtain ⟨xa, xc, hxe, -, -⟩ := hv.len; obtain ⟨ya, yc, hye, -, -⟩ := ht.len; clear hv hs hm ht hts hmt; obtain ⟨CK2, hCK2⟩ : ∃ x, x = cmC CK bv2 := ⟨_, rfl⟩; have HCK2 := Lib.hid hCK2; have HSK2 := Lib.hid ((congrArg Array.size hCK2).trans (cmC_size _ _)); have HOK2 := Lib.hid (show CK2.all (·.oneCell') = true from by rw [hCK2]; exact (by rw [hxe]; exact cmC_one11 _ _ _ _)); rw [← hCK2]; clear hCK2; obtain ⟨CB2, hCB2⟩ : ∃ x, x = bkD HK tv2 CK2 := ⟨_, rfl⟩; have HCB2 := Lib.hid hCB2; have HSB2 := Lib.hid ((congrArg Array.size hCB2).trans (bkD_size HKS.out HSK2.out)); have HOB2 := Lib.hid (show CB2.all (·.oneCell') = true from by rw [hCB2]; exact (by rw [hye]; exact bkD_one HKO.out HOK2.out)); rw [← hCB2]; clear hCB2; clear hxe hye; replace M := Lib.hid (M.out.call hb); clear hb)
    | (refine wpList_store_row rfl 80 (.tmp 18) (.tmp 61) rfl w17.heap.size CB2 rfl rfl 80 _ (heap_alloc_new _ _) (by rw [HSB2.out]; kernel_rfl) (by rw [HSB2.out]; kernel_rfl) HOB2.out ?_; rw [World.setRow_alloc_new]))
  have hb := below_alloc w17 (.cells CB2 80)
  replace M := Lib.hid (M.out.call hb)
  replace M := Lib.hid (M.out.add (Y := fun w => TbIn w tv2 tl2 ∧ ∀ t ∈ tl2, BytesIn w t.bv t.bs) ⟨HTB2.out.1.below hb, fun t m => (HTB2.out.2 t m).below hb⟩ (kept_tlR _ _))
  replace M := Lib.hid (M.out.add (Y := fun w => VoIn w bv2 bl2 ∧ ∀ t ∈ bl2, BytesIn w t.sv t.sign) ⟨HBB2.out.1.below hb, fun t m => (HBB2.out.2 t m).below hb⟩ (kept_vlR _ _))
  replace M := Lib.hid (M.out.add (Y := fun w => w.heap[w17.heap.size]? = some (.cells CB2 80 (0, 0))) (heap_alloc_new _ _) (kept_blk _ _))
  obtain ⟨qB2, hqB2⟩ : ∃ g, g = w17.heap.size := ⟨_, rfl⟩
  rw [← hqB2] at M ⊢
  clear hqB2 hb HBB2 HTB2
  generalize w17.alloc (.cells CB2 80) = w18 at *
  have HLC := Lib.hid (show ∀ w, (VoIn w cv1 lc1 ∧ ∀ t ∈ lc1, BytesIn w t.sv t.sign) → (VoIn w cv2 lc2 ∧ ∀ t ∈ lc2, BytesIn w t.sv t.sign) → Calls Tryz.prog 60 #[.agg CC1, .agg CC2] w fun e w' => e = .returned (.bool true) ∧ Below w.heap.size w w' from fun w h1 h2 => by
    rw [HCC1.out, HCC2.out]
    exact lcommit11_any C cv1 cv2 lc1 lc2 w h1.1 h2.1 h1.2 h2.2 (map_fl HMC1.out HCF.out) (map_fl HMC2.out HCF.out) (map_same HMC1.out HMC2.out))
  have HLK := Lib.hid (show ∀ w, (VoIn w bv1 bl1 ∧ ∀ t ∈ bl1, BytesIn w t.sv t.sign) → (VoIn w bv2 bl2 ∧ ∀ t ∈ bl2, BytesIn w t.sv t.sign) → Calls Tryz.prog 60 #[.agg CK1, .agg CK2] w fun e w' => e = .returned (.bool true) ∧ Below w.heap.size w w' from fun w h1 h2 => by
    rw [HCK1.out, HCK2.out]
    exact lcommit11_any CK bv1 bv2 bl1 bl2 w h1.1 h2.1 h1.2 h2.2 (map_fl HMB1.out HBF.out) (map_fl HMB2.out HBF.out) (map_same HMB1.out HMB2.out))
  have HLT := Lib.hid (show ∀ w, (TbIn w tv1 tl1 ∧ ∀ t ∈ tl1, BytesIn w t.bv t.bs) → (TbIn w tv2 tl2 ∧ ∀ t ∈ tl2, BytesIn w t.bv t.bs) → Calls Tryz.prog 61 #[tv1, tv2] w fun e w' => e = .returned (.bool true) ∧ Below w.heap.size w w' from fun w h1 h2 => llists11_any tv1 tv2 tl1 tl2 w h1.1 h2.1 h1.2 h2.2 (map_sameT HMTB1.out HMTB2.out))
  obtain ⟨T1, hT1⟩ : ∃ t, t = setSv V sv1 := ⟨_, rfl⟩
  obtain ⟨T2, hT2⟩ : ∃ t, t = setSv V sv2 := ⟨_, rfl⟩
  have HT1 := Lib.hid (show T1.sv = sv1 ∧ T1.sign = V.sign ∧ (VoFl T1 ∧ (vo1 T1).length + 400 ≤ 140737488355328) ∧ CV1 = voC T1 ∧ ∃ a n c, T1.sv = .slice a n c from by rw [hT1]; exact ⟨rfl, rfl, core_fl (t := setSv V sv1) ⟨⟨HVF.out.1.k, HVF.out.1.h, HVF.out.1.r, HVF.out.1.vl⟩, HVF.out.2⟩, HCV1.out, HXV1.out⟩)
  have HT2 := Lib.hid (show T2.sv = sv2 ∧ T2.sign = V.sign ∧ (VoFl T2 ∧ (vo1 T2).length + 400 ≤ 140737488355328) ∧ CV2 = voC T2 ∧ ∃ a n c, T2.sv = .slice a n c from by rw [hT2]; exact ⟨rfl, rfl, core_fl (t := setSv V sv2) ⟨⟨HVF.out.1.k, HVF.out.1.h, HVF.out.1.r, HVF.out.1.vl⟩, HVF.out.2⟩, HCV2.out, HXV2.out⟩)
  have HSV := Lib.hid (show vo1 T1 = vo1 T2 from by rw [hT1, hT2]; rfl)
  clear hT1 hT2 HPV HRV HPC HRC HPH HRH HPB HRB
  dsimp only [List.append]
  go_wp2_with (first
    | (refine wpList_load_rowT (by rfl) 93 (.tmp 4) rfl qV1 0 rfl CV1 _ (rowT_range M.out.x.1.1.1.1.1.1.1.1.1.1.1.1.1.1.2) Tryz.underlying93 rfl (by rw [HSV1.out]; kernel_rfl) ?_)
    | (refine wpList_load_rowT (by rfl) 93 (.tmp 6) rfl qV2 0 rfl CV2 _ (rowT_range M.out.x.1.1.1.1.1.1.1.1.1.1.1.1.2) Tryz.underlying93 rfl (by rw [HSV2.out]; kernel_rfl) ?_)
    | (refine wpList_oneVw (by rfl) (.tmp 63) rfl (some 64) rfl T1 HT1.out.2.2.2.2 (.agg CV1) (by rw [HT1.out.2.2.2.1]) rfl ?_; have HA1 := Lib.hid (heap_alloc_new w18 (.cells (voTL T1).toArray 93)); have hb9 := below_alloc w18 (.cells (voTL T1).toArray 93); replace M := Lib.hid (M.out.call hb9); obtain ⟨qa, hqa⟩ : ∃ z, z = w18.heap.size := ⟨_, rfl⟩; rw [← hqa] at HA1 ⊢; clear hqa hb9; generalize w18.alloc (.cells (voTL T1).toArray 93) = wa at *)
    | (refine wpList_oneVw (by rfl) (.tmp 65) rfl (some 66) rfl T2 HT2.out.2.2.2.2 (.agg CV2) (by rw [HT2.out.2.2.2.1]) rfl ?_; have HA2 := Lib.hid (heap_alloc_new wa (.cells (voTL T2).toArray 93)); have hb9 := below_alloc wa (.cells (voTL T2).toArray 93); replace M := Lib.hid (M.out.call hb9); replace HA1 := Lib.hid ((hb9.block qa (bkT_lt HA1.out)).trans HA1.out); obtain ⟨qb, hqb⟩ : ∃ z, z = wa.heap.size := ⟨_, rfl⟩; rw [← hqb] at HA2 ⊢; clear hqb hb9; generalize wa.alloc (.cells (voTL T2).toArray 93) = wb at *)
    | (go_at_call 59; (with_reducible refine (lvotes11_any (.slice (some ⟨qa, 0, none⟩) 1 1) (.slice (some ⟨qb, 0, none⟩) 1 1) [T1] [T2] wb (rows_oneV HA1.out) (rows_oneV HA2.out) (fun t m => by rw [List.mem_singleton.1 m, HT1.out.1, HT1.out.2.1]; exact M.out.x.1.1.1.1.1.1.1.1.1.1.1.1.1.1.1.2) (fun t m => by rw [List.mem_singleton.1 m, HT2.out.1, HT2.out.2.1]; exact M.out.x.1.1.1.1.1.1.1.1.1.1.1.1.1.2) (fun t m => by rw [List.mem_singleton.1 m]; exact HT1.out.2.2.1) (fun t m => by rw [List.mem_singleton.1 m]; exact HT2.out.2.2.1) (sameV_one HSV.out)).mono ?_); rintro e wd ⟨rfl, hb⟩; replace M := Lib.hid (M.out.call hb); clear hb)
    | (go_at_call 29; (with_reducible refine (HN1.out _ (HG.out.below M.out.below)).mono ?_); rintro e we ⟨rfl, hb⟩; replace M := Lib.hid (M.out.call hb); clear hb)
    | (refine wpList_load_rowT (by rfl) 78 (.tmp 8) rfl qC1 0 rfl CC1 _ (rowT_range M.out.x.1.1.1.1.1.1.1.1.1.1.2) Tryz.underlying78 rfl (by rw [HSC1.out]; kernel_rfl) ?_)
    | (refine wpList_load_rowT (by rfl) 78 (.tmp 10) rfl qC2 0 rfl CC2 _ (rowT_range M.out.x.1.1.1.1.1.1.1.1.2) Tryz.underlying78 rfl (by rw [HSC2.out]; kernel_rfl) ?_)
    | (go_at_call 60; (with_reducible refine (HLC.out _ M.out.x.1.1.1.1.1.1.1.1.1.1.1.2 M.out.x.1.1.1.1.1.1.1.1.1.2).mono ?_); rintro e wf ⟨rfl, hb⟩; replace M := Lib.hid (M.out.call hb); clear hb)
    | (go_at_call 29; (with_reducible refine (HN2.out _ (HG.out.below M.out.below)).mono ?_); rintro e wg ⟨rfl, hb⟩; replace M := Lib.hid (M.out.call hb); clear hb)
    | (refine wpList_load_rowT (by rfl) 74 (.tmp 12) rfl qH1 0 rfl HA _ (rowT_range M.out.x.1.1.1.1.1.1.1.2) Tryz.underlying74 rfl (by rw [HHS.out]; kernel_rfl) ?_)
    | (refine wpList_load_rowT (by rfl) 74 (.tmp 14) rfl qH2 0 rfl HA _ (rowT_range M.out.x.1.1.1.1.1.1.2) Tryz.underlying74 rfl (by rw [HHS.out]; kernel_rfl) ?_)
    | (refine wpList_eqH (by rfl) (.tmp 86) (.tmp 87) rfl HA HEQH.out rfl rfl ?_)
    | (go_at_call 29; (with_reducible refine (HN3.out _ (HG.out.below M.out.below)).mono ?_); rintro e wh ⟨rfl, hb⟩; replace M := Lib.hid (M.out.call hb); clear hb; have hbk1 := M.out.x.1.1.1.2; have hbk2 := M.out.x.2; rw [HCB1.out] at hbk1; rw [HCB2.out] at hbk2; have HK1 := Lib.hid hbk1; have HK2 := Lib.hid hbk2; have ct1 := bk_t hbk1 HKS.out; have ct2 := bk_t hbk2 HKS.out; clear hbk1 hbk2)
    | (refine wpList_load_rowT (by rfl) 74 (.tmp 97) rfl qB1 0 rfl HK _ (bk_h HK1.out HKS.out) Tryz.underlying74 rfl (by rw [HKS.out]; kernel_rfl) ?_)
    | (refine wpList_load_rowT (by rfl) 74 (.tmp 99) rfl qB2 0 rfl HK _ (bk_h HK2.out HKS.out) Tryz.underlying74 rfl (by rw [HKS.out]; kernel_rfl) ?_)
    | (refine wpList_eqH (by rfl) (.tmp 98) (.tmp 100) rfl HK HEQK.out rfl rfl ?_)
    | (go_at_call 61; (with_reducible refine (HLT.out _ M.out.x.1.1.1.1.1.2 M.out.x.1.1.2).mono ?_); rintro e wi ⟨rfl, hb⟩; replace M := Lib.hid (M.out.call hb); replace HK1 := Lib.hid ((hb.block _ (bkT_lt HK1.out)).trans HK1.out); replace HK2 := Lib.hid ((hb.block _ (bkT_lt HK2.out)).trans HK2.out); clear hb ct1 ct2)
    | (refine wpList_load_rowT (by rfl) 78 (.tmp 111) rfl qB1 165 rfl CK1 _ (bk_c HK1.out HKS.out) Tryz.underlying78 rfl (by rw [HSK1.out]; kernel_rfl) ?_)
    | (refine wpList_load_rowT (by rfl) 78 (.tmp 113) rfl qB2 165 rfl CK2 _ (bk_c HK2.out HKS.out) Tryz.underlying78 rfl (by rw [HSK2.out]; kernel_rfl) ?_)
    | (go_at_call 60; (with_reducible refine (HLK.out _ M.out.x.1.1.1.1.2 M.out.x.1.2).mono ?_); rintro e wj ⟨rfl, hb⟩; replace M := Lib.hid (M.out.call hb); clear hb)
    | (go_at_call 29; (with_reducible refine (HN4.out _ (HG.out.below M.out.below)).mono ?_); rintro e wk ⟨rfl, hb⟩; replace M := Lib.hid (M.out.call hb); clear hb; have hcm := conv_bytes wk _ _ M.out.x.1.1.1.1.1.1.1.1.1.1.1.1.1.1.1.1.2; have hcb := conv_bytes wk _ _ M.out.x.1.1.1.1.1.1.1.1.1.1.1.1.1.1.1.1.1.2; rw [← HKT.out] at hcm hcb)
    | (go_at_call 38; (with_reducible refine (HSU.out _ M.out.below).mono ?_); rintro e wl ⟨rfl, hb⟩; replace M := Lib.hid (M.out.call hb); clear hb))
  go_ret
  exact ⟨rfl, M.out.below⟩
end Go.Proofs.YtanekacpalpcbaaGreatDoor
namespace Go.Proofs.YtanekacpalpcbaaGreatDoor
set_option linter.unusedVariables false
set_option linter.unusedSimpArgs false
open Go.ChangeShapes Go.WideShapes Go.ChangeAt Go.RowKit
set_option maxRecDepth 100000
theorem doorOwn : ownKnob Tryz.prog.godebug = none := by kernel_rfl
theorem doorLaidOut : laidOutB Tryz.prog = true := by kernel_rfl
def laidErr : List (String × DataW Unit) := [("errors.errorType", Rows.laid_errors_errorType)]
theorem doorEt : Tryz.prog.globalNamed "errors.errorType" = some 0 := by kernel_rfl
theorem doorRt : (Tryz.prog.cutTypes.find? (·.1 == "internal/reflectlite.rtype")).map (·.2) = some 299 := by kernel_rfl
theorem doorOneRow : ((List.range Tryz.prog.types.size).filter fun t => Tryz.prog.rowNamed t [101, 114, 114, 111, 114]) = [29] := by kernel_rfl
theorem err_of_laid {W : World} (h : laidMetH Tryz.prog laidErr W) : ErrType W := by
  have h' : laidMet Tryz.prog [] W ∧ handlesMet Tryz.prog laidErr W := h
  obtain ⟨name, u, ty, e1, e2, e3, e4, e5⟩ := h'.2 _ (List.mem_singleton.2 rfl)
  have en : name = [101, 114, 114, 111, 114] := (Option.some.inj e1).symm
  subst en
  obtain rfl := Option.some.inj (doorRt.symm.trans e2)
  have hm : ty ∈ (List.range Tryz.prog.types.size).filter fun t => Tryz.prog.rowNamed t [101, 114, 114, 111, 114] := List.mem_filter.2 ⟨List.mem_range.2 e3, e4⟩
  rw [doorOneRow] at hm
  obtain rfl := List.mem_singleton.1 hm
  have hh : typeHandle Tryz.prog 29 = .pointer (some ⟨5, 29, none⟩) := by kernel_rfl
  rw [hh] at e5
  unfold ErrType
  simpa using World.var?_cell doorEt e5 0
theorem door_met (os : Os) (args : Array Value) : laidMetH Tryz.prog laidErr ((World.doorLaid Tryz.prog 400 os).forCall (fun _ _ => 0) ⟨#[], args, []⟩).memory :=
  laidMetH_of_parts (laidMet_nil _ _) (by kernel_rfl)
end Go.Proofs.YtanekacpalpcbaaGreatDoor
namespace Go.Proofs.YtanekacpalpcbaaGreatDoor
set_option linter.unusedVariables false
set_option linter.unusedSimpArgs false
open Go.ChangeShapes Go.WideShapes Go.ChangeAt Go.RowKit
set_option maxRecDepth 100000
theorem tyreads_lifted (os : Os) (started : os.Started) (H : Type) (enc : TypeId × Value → H) :
    ReturnsInHanded {} Tryz.checked os 8 .any (fun w args => (Rows.typesReadsSpec.pre enc Tryz.prog Tryz.f8 [] false w args ∧ laidMetH Tryz.prog laidErr w) ∧ sizedMet enc Tryz.prog Tryz.f8 (OpenSpec.ofChange Rows.typesReadsSpec) false w args)
      (Rows.typesReadsSpec.post enc Tryz.prog Tryz.f8 false true false false) := by
  refine returnsInHanded_of_change_and (C := Tryz.checked) (X := fun w _ => laidMetH Tryz.prog laidErr w) (fun _ _ _ hh h => h.of_heap hh) doorOwn started (by kernel_rfl) Tryz.func8
    (ChangeSpec.witness_shaped (enc := enc) (C := Tryz.checked) (os := os) (X := fun w _ => laidMetH Tryz.prog laidErr w) false (World.doorLaid Tryz.prog 400 os) #[.slice none 0 0] 8 rfl (World.shaped_of_RefB (by kernel_rfl) (by kernel_rfl)) (by kernel_rfl) (by kernel_rfl) (by kernel_rfl) (door_met os _)) ?_
  intro W base args ds gs before hval0 hW _ hsz0 hL _
  have hsz : (DataW.weightsEach Tryz.prog (Tryz.f8.params.toList ++ Rows.typesReadsSpec.plain.varTypes Tryz.prog) (ds ++ gs)).all (· ≤ reachBytes) = true := hsz0
  clear hsz0
  have hval : ∀ (j : Nat) t v, Tryz.f8.params[j]? = some t → args[j]? = some v → Value.okWide Tryz.prog W .any base t v := hval0
  have hW' := hW
  obtain ⟨p, q, hA0, hV, rfl, hfz, hnd⟩ := hW
  have hA : DataW.TrodAll enc Tryz.prog W 0 (fun _ => true) true Tryz.f8.params.toList args.toList ds p := hA0
  rw [Tryz.params8] at hA hval hsz
  obtain ⟨v0, vs0, d0, ds0, p0, q0, hargs, rfl, rfl, h0, r0⟩ := trodAll_cons hA
  obtain ⟨rfl, rfl, rfl⟩ := trodAll_nil r0
  obtain rfl : args = #[v0] := by cases args; simp_all
  obtain ⟨rfl, rfl⟩ := trodVars_none hV
  obtain ⟨a0, len0, cap0, rfl⟩ := okWide_slice Tryz.underlying34 (hval 0 34 v0 rfl rfl)
  have k0 := h0
  have lt0 : ∀ x ∈ p0, x.block < W.heap.size := by obtain ⟨m, hm⟩ := k0; exact DataW.trod_lt m _ _ _ hm
  obtain ⟨xs0, hxl0, hx0, hxo0, hxs0⟩ := bytes_arg h0
  have hlen0 := hxs0 _ _ 0 (by rfl) (by rfl) hsz
  clear hA0 hval0
  refine (lreads_any (.slice a0 len0 cap0) xs0 W (err_of_laid hL) hx0 hxo0 (by omega)).mono fun e W' ⟨he, bel⟩ => ?_
  subst he
  exact ⟨_, rfl, _, _, _, [], _, [], hW', trodAll_mk1 (shut_bool Tryz.underlying4 _), (trodAll_cons_mk (Below.trod doorLaidOut (by kernel_rfl) (of_decide_eq_true (by kernel_rfl)) k0 bel lt0) trodAll_mk0), rfl, bel.frame _, fun h => by cases h⟩
theorem tyreads_holds : Rows.TypesReadsSaid :=
  OpenClaim.holds_of_wide 8 Tryz.f8 rfl rfl rfl rfl rfl rfl rfl ⟨rfl, rfl, rfl, rfl, rfl⟩ rfl rfl rfl rfl rfl (by kernel_rfl) Tryz.func8 (by kernel_rfl)
    (of_decide_eq_true (by kernel_rfl)) (by unfold Func.isWrapper; first | (rw [if_pos (by decide +kernel)]; kernel_rfl) | (rw [if_neg (by decide +kernel)]; exact ⟨rfl, rfl⟩))
    (fun os started H enc _ => tyreads_lifted os started H enc)
theorem tyreads_card : Rows.TypesReadsCardSaid :=
  Claim7.holds_tied_plain_at .later [] [.handle] true _ true
    tyreads_holds (fun _ h => by cases h) (by kernel_rfl) (fun _ h => by cases h) typesReads_row_tie rfl ⟨rfl, rfl⟩ (by kernel_rfl) rfl
    (fun f fn hf hfn => by
      obtain rfl : f = 8 := Option.some.inj ((show Tryz.prog.funcNamed "isthmus/isthmuslaw11.TypesReads" = some 8 by kernel_rfl).symm.trans hf) |>.symm
      obtain rfl : fn = Tryz.f8 := (Option.some.inj (Tryz.func8.symm.trans hfn)).symm
      exact ⟨by kernel_rfl, fun j t ht => by
        rw [Tryz.params8] at ht
        have hm : t ∈ [34] := by simpa using Array.mem_of_getElem? ht
        have hall : ([34].all fun u => !Tryz.prog.wantsStandIn u) = true := by kernel_rfl
        exact (show Tryz.prog.wantsStandIn t = false by simpa using List.all_eq_true.1 hall t hm)⟩)
    (by kernel_rfl)
#print axioms tyreads_card
end Go.Proofs.YtanekacpalpcbaaGreatDoor
