/- Part 30 of the proof. -/
import Derived.Test.YtanekacpalpcbaaGreatDoorRd28
namespace Go.Proofs.YtanekacpalpcbaaGreatDoor
set_option linter.unusedVariables false
set_option linter.unusedSimpArgs false
open Go.RowKit
set_option maxRecDepth 100000
set_option linter.unusedSimpArgs false
set_option linter.unusedVariables false
theorem hdZ_one : (hdD { data := #[] } 0 0 (fun _ => 0) (fun _ => 0) (fun _ => 0) (fun _ => 0) (fun _ => 0) 0).all (·.oneCell') = true := hdD_one11 _ _ _ _ _ _ _ _ _
set_option maxHeartbeats 8000000 in
theorem rdheader_any (v : Value) (s : RSt) (w : World) (hy : BytesIn w v s.1) (ok : okR11 s) :
    Calls Tryz.prog 123 #[.agg (rdC v (numE s.2))] w fun e w' => ∃ v', e = .returned (.tuple #[.agg (rdC v' (numE (hdR s).2)), .agg (hdV s)]) ∧ BytesIn w' v' (hdR s).1 ∧ v'.ownBlock = v.ownBlock ∧ Below w.heap.size w w' := by
  obtain ⟨CB, s1, e1⟩ : ∃ a b, partS s (64 : Int) = (a, b) := ⟨_, _, rfl⟩
  have ok1 : okR11 s1 := by have := partS_k11 (most := (64 : Int)) ok; rwa [e1] at this
  have HC1 := Lib.hid (rp_let (most := 64) (m := 64) (by omega) rfl e1 ok)
  have HEs1 := Lib.hid (show s.1 = [] → s1.1 = [] from fun h => by have := partE11 (most := (64 : Int)) h; rwa [e1] at this)
  obtain ⟨HT, s2, e2⟩ : ∃ a b, intS s1 = (a, b) := ⟨_, _, rfl⟩
  have ok2 : okR11 s2 := by have := intS_k11 ok1; rwa [e2] at this
  have HC2 := Lib.hid (ri_let e2 ok1)
  have HEs2 := Lib.hid (show s1.1 = [] → s2.1 = [] from fun h => by have := intE11 h; rwa [e2] at this)
  obtain ⟨TM, s3, e3⟩ : ∃ a b, intS s2 = (a, b) := ⟨_, _, rfl⟩
  have ok3 : okR11 s3 := by have := intS_k11 ok2; rwa [e3] at this
  have HC3 := Lib.hid (ri_let e3 ok2)
  have HEs3 := Lib.hid (show s2.1 = [] → s3.1 = [] from fun h => by have := intE11 h; rwa [e3] at this)
  obtain ⟨LA, s4, e4⟩ : ∃ a b, hashS s3 = (a, b) := ⟨_, _, rfl⟩
  have ok4 : okR11 s4 := by have := hashS_k11 ok3; rwa [e4] at this
  have HC4 := Lib.hid (rh_let e4 ok3)
  have HEs4 := Lib.hid (show s3.1 = [] → s4.1 = [] from fun h => by have := hashE11 h; rwa [e4] at this)
  obtain ⟨AP, s5, e5⟩ : ∃ a b, hashS s4 = (a, b) := ⟨_, _, rfl⟩
  have ok5 : okR11 s5 := by have := hashS_k11 ok4; rwa [e5] at this
  have HC5 := Lib.hid (rh_let e5 ok4)
  have HEs5 := Lib.hid (show s4.1 = [] → s5.1 = [] from fun h => by have := hashE11 h; rwa [e5] at this)
  obtain ⟨TX, s6, e6⟩ : ∃ a b, hashS s5 = (a, b) := ⟨_, _, rfl⟩
  have ok6 : okR11 s6 := by have := hashS_k11 ok5; rwa [e6] at this
  have HC6 := Lib.hid (rh_let e6 ok5)
  have HEs6 := Lib.hid (show s5.1 = [] → s6.1 = [] from fun h => by have := hashE11 h; rwa [e6] at this)
  obtain ⟨VA, s7, e7⟩ : ∃ a b, hashS s6 = (a, b) := ⟨_, _, rfl⟩
  have ok7 : okR11 s7 := by have := hashS_k11 ok6; rwa [e7] at this
  have HC7 := Lib.hid (rh_let e7 ok6)
  have HEs7 := Lib.hid (show s6.1 = [] → s7.1 = [] from fun h => by have := hashE11 h; rwa [e7] at this)
  obtain ⟨NX, s8, e8⟩ : ∃ a b, hashS s7 = (a, b) := ⟨_, _, rfl⟩
  have ok8 : okR11 s8 := by have := hashS_k11 ok7; rwa [e8] at this
  have HC8 := Lib.hid (rh_let e8 ok7)
  have HEs8 := Lib.hid (show s7.1 = [] → s8.1 = [] from fun h => by have := hashE11 h; rwa [e8] at this)
  obtain ⟨PR, s9, e9⟩ : ∃ a b, intS s8 = (a, b) := ⟨_, _, rfl⟩
  have ok9 : okR11 s9 := by have := intS_k11 ok8; rwa [e9] at this
  have HC9 := Lib.hid (ri_let e9 ok8)
  have HEs9 := Lib.hid (show s8.1 = [] → s9.1 = [] from fun h => by have := intE11 h; rwa [e9] at this)
  obtain ⟨CH, hch⟩ : ∃ c, c = strOfNums CB := ⟨_, rfl⟩
  have HCH := Lib.hid hch
  have HR := Lib.hid (show hdR s = s9 from by unfold hdR hdT7 hdT6 hdT5 hdT4 hdT3 hdT2 hdT1 hdT0; rw [e1]; simp only; rw [e2]; simp only; rw [e3]; simp only; rw [e4]; simp only; rw [e5]; simp only; rw [e6]; simp only; rw [e7]; simp only; rw [e8]; simp only; rw [e9])
  have HV := Lib.hid (show hdV s = hdD CH HT TM LA AP TX VA NX PR from by unfold hdV hdT7 hdT6 hdT5 hdT4 hdT3 hdT2 hdT1 hdT0; rw [e1]; simp only; rw [e2]; simp only; rw [e3]; simp only; rw [e4]; simp only; rw [e5]; simp only; rw [e6]; simp only; rw [e7]; simp only; rw [e8]; simp only; rw [e9, hch])
  clear e1 e2 e3 e4 e5 e6 e7 e8 e9 ok1 ok2 ok3 ok4 ok5 ok6 ok7 ok8 ok9 hch
  obtain ⟨va, vc, rfl, -⟩ := id hy
  obtain ⟨CZ, hbz, hCZ⟩ : ∃ C, Tryz.prog.built 74 [] = some C ∧ C = hdD { data := #[] } 0 0 (fun _ => 0) (fun _ => 0) (fun _ => 0) (fun _ => 0) (fun _ => 0) 0 := ⟨_, by kernel_rfl, rfl⟩
  have HCZ := Lib.hid hCZ
  have HBZ := Lib.hid hbz
  have HCS := Lib.hid ((congrArg Array.size hCZ).trans (hdD_size _ _ _ _ _ _ _ _ _))
  have HCO := Lib.hid (show CZ.all (·.oneCell') = true from by rw [hCZ]; exact hdZ_one)
  have HST := Lib.hid (fun (w1 : World) (Z : Array Value) (hZ : Z.size = 164) (hA : ((w.alloc (.cells (rdC (.slice va s.1.length vc) (numE s.2)) 152)).alloc (.cells (rdC (.slice none 0 0) 0) 152)).alloc (.cells Z 74) = w1) => rr_start hy hZ hA)
  clear hy ok hCZ hbz
  go_enter Tryz.func123, Tryz.ntmps123
  go_upto_region 1 with (fail)
  rw [← r2_zero]
  generalize hA : World.alloc (World.alloc (World.alloc w _) _) _ = w1
  have HST1 := Lib.hid (HST.out w1 _ (by kernel_rfl) hA)
  clear hA HST
  go_upto_region 2 with (first
    | (refine wpList_buildTo rfl 74 #[] rfl (some 6) rfl CZ (by refine Eq.trans (congrArg (Tryz.prog.built 74) ?_) HBZ.out; kernel_rfl) ?_)
    | (refine wpList_store_row rfl 74 (.tmp 4) (.tmp 6) rfl w1.heap.size CZ rfl rfl 74 _ (heap_alloc_new _ _) (by rw [HCS.out]; kernel_rfl) (by rw [HCS.out]; kernel_rfl) HCO.out ?_; rw [World.setRow_alloc_new]))
  clear HBZ
  obtain ⟨Z, hZ, hM⟩ := HST1.out
  have HZ := Lib.hid hZ
  have M := Lib.hid (hM CZ)
  clear hM hZ HST1
  obtain ⟨q, hq⟩ : ∃ q, q = w1.heap.size := ⟨_, rfl⟩
  rw [← hq] at M ⊢
  clear hq
  generalize w1.alloc (.cells CZ 74) = w2 at *
  rw [HCZ.out] at M
  clear HCZ HCS HCO
  have HQL := Lib.hid (show w.heap.size + 1 + 1 < q from M.out.q3)
  obtain ⟨ra, rn, rc, h5, hin, hob⟩ := M.out.rd
  have H5 := Lib.hid h5
  have HIN := Lib.hid hin
  have HOB := Lib.hid hob
  clear h5 hin hob
  have HQI := Lib.hid (show q < w2.heap.size from bkT_lt M.out.at_)
  go_upto_region 3 with (first
    | (refine wpList_load_row rfl 152 (.tmp 1) rfl w.heap.size rfl 152 _ (0, 0) _ H5.out Tryz.underlying152 rfl (by kernel_rfl) ?_)
    | (go_at_call 156; (with_reducible refine (HC1.out _ w2 HIN.out).mono ?_); rintro e wc2 ⟨vx, vb, rfl, hx, hvb, ho, hnb, hb⟩; obtain ⟨ax, cx, rfl, -⟩ := id hx; have HX := Lib.hid hx; have HO := Lib.hid (ho.trans HOB.out); replace M := Lib.hid (M.out.call hb); obtain ⟨_, _, _, h5, -⟩ := M.out.rd; replace H5 := Lib.hid h5; clear hx ho h5; have HVB := Lib.hid hvb; have HNB := Lib.hid (show ∀ j, vb.ownBlock = some j → w2.heap.size ≤ j ∧ j < wc2.heap.size from hnb); obtain ⟨ba, bc, rfl, -⟩ := id hvb; clear hvb hnb; clear hb)
    | (refine wpList_store_row rfl 152 (.tmp 1) (.tmp 10) rfl w.heap.size (rdC (.slice ax s1.1.length cx) (numE s1.2)) rfl rfl 152 _ H5.out (by kernel_rfl) (by rfl) (rd_one _ _ _ _) ?_; go_loud (clear H5; replace HVB := Lib.hid (M.out.row (rdC (.slice ax s1.1.length cx) (numE s1.2)) HVB.out); replace HNB := Lib.hid (show ∀ j, (Value.slice ba _ bc).ownBlock = some j → w2.heap.size ≤ j ∧ j < (wc2.setRow w.heap.size (rdC (.slice ax s1.1.length cx) (numE s1.2))).heap.size from fun j hj => ⟨(HNB.out j hj).1, Nat.lt_of_lt_of_le (HNB.out j hj).2 (only_setRow11 wc2 w.heap.size (rdC (.slice ax s1.1.length cx) (numE s1.2))).size⟩); replace M := Lib.hid (M.out.read (s' := s1) HX.out HO.out HEs1.out); generalize wc2.setRow w.heap.size (rdC (.slice ax s1.1.length cx) (numE s1.2)) = wb2 at *)))
  clear HX HO HIN HOB
  have hcv := conv_bytes wb2 _ _ HVB.out
  rw [← HCH.out] at hcv
  have k0 : wb2.cell? ⟨q, 0, none⟩ = some (.string { data := #[] }) := hdD_c0 M.out.at_
  have k1 : wb2.frozen? ⟨q, 0, none⟩ = false := frozen_of_row _ _ _ _ _ M.out.at_
  go_upto_region 4 with (fail)
  clear k0 k1 hcv
  replace M := Lib.hid (M.out.put (Only.setCell wb2 ⟨q, 0, none⟩ (.string CH)) (hdD_s0 M.out.at_))
  generalize wb2.setCell ⟨q, 0, none⟩ (.string CH) = w3 at *
  clear HVB HNB HQI
  obtain ⟨ra, rn, rc, h5, hin, hob⟩ := M.out.rd
  have H5 := Lib.hid h5
  have HIN := Lib.hid hin
  have HOB := Lib.hid hob
  clear h5 hin hob
  go_upto_region 5 with (first
    | (refine wpList_load_row rfl 152 (.tmp 1) rfl w.heap.size rfl 152 _ (0, 0) _ H5.out Tryz.underlying152 rfl (by kernel_rfl) ?_)
    | (go_at_call 158; (with_reducible refine (HC2.out _ w3 HIN.out).mono ?_); rintro e wc3 ⟨vx, rfl, hx, ho, hb⟩; obtain ⟨ax, cx, rfl, -⟩ := id hx; have HX := Lib.hid hx; have HO := Lib.hid (ho.trans HOB.out); replace M := Lib.hid (M.out.call hb); obtain ⟨_, _, _, h5, -⟩ := M.out.rd; replace H5 := Lib.hid h5; clear hx ho h5; clear hb)
    | (refine wpList_store_row rfl 152 (.tmp 1) (.tmp 18) rfl w.heap.size (rdC (.slice ax s2.1.length cx) (numE s2.2)) rfl rfl 152 _ H5.out (by kernel_rfl) (by rfl) (rd_one _ _ _ _) ?_; go_loud (clear H5; replace M := Lib.hid (M.out.read (s' := s2) HX.out HO.out HEs2.out); generalize wc3.setRow w.heap.size (rdC (.slice ax s2.1.length cx) (numE s2.2)) = wb3 at *; have k0 : wb3.cell? ⟨q, 1, none⟩ = some (.int .i64 0) := hdD_c1 M.out.at_; have k1 : wb3.frozen? ⟨q, 1, none⟩ = false := frozen_of_row _ _ _ _ _ M.out.at_)))
  clear k0 k1
  replace M := Lib.hid (M.out.put (Only.setCell wb3 ⟨q, 1, none⟩ (.int .i64 HT)) (hdD_s1 M.out.at_))
  generalize wb3.setCell ⟨q, 1, none⟩ (.int .i64 HT) = w4 at *
  clear HX HO HIN HOB
  obtain ⟨ra, rn, rc, h5, hin, hob⟩ := M.out.rd
  have H5 := Lib.hid h5
  have HIN := Lib.hid hin
  have HOB := Lib.hid hob
  clear h5 hin hob
  go_upto_region 6 with (first
    | (refine wpList_load_row rfl 152 (.tmp 1) rfl w.heap.size rfl 152 _ (0, 0) _ H5.out Tryz.underlying152 rfl (by kernel_rfl) ?_)
    | (go_at_call 158; (with_reducible refine (HC3.out _ w4 HIN.out).mono ?_); rintro e wc4 ⟨vx, rfl, hx, ho, hb⟩; obtain ⟨ax, cx, rfl, -⟩ := id hx; have HX := Lib.hid hx; have HO := Lib.hid (ho.trans HOB.out); replace M := Lib.hid (M.out.call hb); obtain ⟨_, _, _, h5, -⟩ := M.out.rd; replace H5 := Lib.hid h5; clear hx ho h5; clear hb)
    | (refine wpList_store_row rfl 152 (.tmp 1) (.tmp 24) rfl w.heap.size (rdC (.slice ax s3.1.length cx) (numE s3.2)) rfl rfl 152 _ H5.out (by kernel_rfl) (by rfl) (rd_one _ _ _ _) ?_; go_loud (clear H5; replace M := Lib.hid (M.out.read (s' := s3) HX.out HO.out HEs3.out); generalize wc4.setRow w.heap.size (rdC (.slice ax s3.1.length cx) (numE s3.2)) = wb4 at *; have k0 : wb4.cell? ⟨q, 2, none⟩ = some (.int .i64 0) := hdD_c2 M.out.at_; have k1 : wb4.frozen? ⟨q, 2, none⟩ = false := frozen_of_row _ _ _ _ _ M.out.at_)))
  clear k0 k1
  replace M := Lib.hid (M.out.put (Only.setCell wb4 ⟨q, 2, none⟩ (.int .i64 TM)) (hdD_s2 M.out.at_))
  generalize wb4.setCell ⟨q, 2, none⟩ (.int .i64 TM) = w5 at *
  clear HX HO HIN HOB
  obtain ⟨ra, rn, rc, h5, hin, hob⟩ := M.out.rd
  have H5 := Lib.hid h5
  have HIN := Lib.hid hin
  have HOB := Lib.hid hob
  clear h5 hin hob
  go_upto_region 7 with (first
    | (refine wpList_load_row rfl 152 (.tmp 1) rfl w.heap.size rfl 152 _ (0, 0) _ H5.out Tryz.underlying152 rfl (by kernel_rfl) ?_)
    | (go_at_call 157; (with_reducible refine (HC4.out _ w5 HIN.out).mono ?_); rintro e wc5 ⟨vx, rfl, hx, ho, hb⟩; obtain ⟨ax, cx, rfl, -⟩ := id hx; have HX := Lib.hid hx; have HO := Lib.hid (ho.trans HOB.out); replace M := Lib.hid (M.out.call hb); obtain ⟨_, _, _, h5, -⟩ := M.out.rd; replace H5 := Lib.hid h5; clear hx ho h5; clear hb)
    | (refine wpList_store_row rfl 152 (.tmp 1) (.tmp 30) rfl w.heap.size (rdC (.slice ax s4.1.length cx) (numE s4.2)) rfl rfl 152 _ H5.out (by kernel_rfl) (by rfl) (rd_one _ _ _ _) ?_; go_loud (clear H5; replace M := Lib.hid (M.out.read (s' := s4) HX.out HO.out HEs4.out); generalize wc5.setRow w.heap.size (rdC (.slice ax s4.1.length cx) (numE s4.2)) = wb5 at *))
    | (refine wpList_store_mid rfl 65 (.tmp 32) (.tmp 31) rfl q 3 (rowOf .u8 32 LA) rfl rfl (by rw [rowOf_size]; exact hdD_t3 M.out.at_) (by rw [rowOf_size]; kernel_rfl) (rowOf_one _ _ _) ?_))
  replace M := Lib.hid (M.out.put (only_cells11 q (rowOf .u8 32 LA).toList 3 wb5) (hdD_s3 M.out.at_))
  generalize wb5.setCells q 3 (rowOf .u8 32 LA).toList = w6 at *
  clear HX HO HIN HOB
  obtain ⟨ra, rn, rc, h5, hin, hob⟩ := M.out.rd
  have H5 := Lib.hid h5
  have HIN := Lib.hid hin
  have HOB := Lib.hid hob
  clear h5 hin hob
  go_upto_region 8 with (first
    | (refine wpList_load_row rfl 152 (.tmp 1) rfl w.heap.size rfl 152 _ (0, 0) _ H5.out Tryz.underlying152 rfl (by kernel_rfl) ?_)
    | (go_at_call 157; (with_reducible refine (HC5.out _ w6 HIN.out).mono ?_); rintro e wc6 ⟨vx, rfl, hx, ho, hb⟩; obtain ⟨ax, cx, rfl, -⟩ := id hx; have HX := Lib.hid hx; have HO := Lib.hid (ho.trans HOB.out); replace M := Lib.hid (M.out.call hb); obtain ⟨_, _, _, h5, -⟩ := M.out.rd; replace H5 := Lib.hid h5; clear hx ho h5; clear hb)
    | (refine wpList_store_row rfl 152 (.tmp 1) (.tmp 36) rfl w.heap.size (rdC (.slice ax s5.1.length cx) (numE s5.2)) rfl rfl 152 _ H5.out (by kernel_rfl) (by rfl) (rd_one _ _ _ _) ?_; go_loud (clear H5; replace M := Lib.hid (M.out.read (s' := s5) HX.out HO.out HEs5.out); generalize wc6.setRow w.heap.size (rdC (.slice ax s5.1.length cx) (numE s5.2)) = wb6 at *))
    | (refine wpList_store_mid rfl 65 (.tmp 38) (.tmp 37) rfl q 35 (rowOf .u8 32 AP) rfl rfl (by rw [rowOf_size]; exact hdD_t4 M.out.at_) (by rw [rowOf_size]; kernel_rfl) (rowOf_one _ _ _) ?_))
  replace M := Lib.hid (M.out.put (only_cells11 q (rowOf .u8 32 AP).toList 35 wb6) (hdD_s4 M.out.at_))
  generalize wb6.setCells q 35 (rowOf .u8 32 AP).toList = w7 at *
  clear HX HO HIN HOB
  obtain ⟨ra, rn, rc, h5, hin, hob⟩ := M.out.rd
  have H5 := Lib.hid h5
  have HIN := Lib.hid hin
  have HOB := Lib.hid hob
  clear h5 hin hob
  go_upto_region 9 with (first
    | (refine wpList_load_row rfl 152 (.tmp 1) rfl w.heap.size rfl 152 _ (0, 0) _ H5.out Tryz.underlying152 rfl (by kernel_rfl) ?_)
    | (go_at_call 157; (with_reducible refine (HC6.out _ w7 HIN.out).mono ?_); rintro e wc7 ⟨vx, rfl, hx, ho, hb⟩; obtain ⟨ax, cx, rfl, -⟩ := id hx; have HX := Lib.hid hx; have HO := Lib.hid (ho.trans HOB.out); replace M := Lib.hid (M.out.call hb); obtain ⟨_, _, _, h5, -⟩ := M.out.rd; replace H5 := Lib.hid h5; clear hx ho h5; clear hb)
    | (refine wpList_store_row rfl 152 (.tmp 1) (.tmp 42) rfl w.heap.size (rdC (.slice ax s6.1.length cx) (numE s6.2)) rfl rfl 152 _ H5.out (by kernel_rfl) (by rfl) (rd_one _ _ _ _) ?_; go_loud (clear H5; replace M := Lib.hid (M.out.read (s' := s6) HX.out HO.out HEs6.out); generalize wc7.setRow w.heap.size (rdC (.slice ax s6.1.length cx) (numE s6.2)) = wb7 at *))
    | (refine wpList_store_mid rfl 65 (.tmp 44) (.tmp 43) rfl q 67 (rowOf .u8 32 TX) rfl rfl (by rw [rowOf_size]; exact hdD_t5 M.out.at_) (by rw [rowOf_size]; kernel_rfl) (rowOf_one _ _ _) ?_))
  replace M := Lib.hid (M.out.put (only_cells11 q (rowOf .u8 32 TX).toList 67 wb7) (hdD_s5 M.out.at_))
  generalize wb7.setCells q 67 (rowOf .u8 32 TX).toList = w8 at *
  clear HX HO HIN HOB
  obtain ⟨ra, rn, rc, h5, hin, hob⟩ := M.out.rd
  have H5 := Lib.hid h5
  have HIN := Lib.hid hin
  have HOB := Lib.hid hob
  clear h5 hin hob
  go_upto_region 10 with (first
    | (refine wpList_load_row rfl 152 (.tmp 1) rfl w.heap.size rfl 152 _ (0, 0) _ H5.out Tryz.underlying152 rfl (by kernel_rfl) ?_)
    | (go_at_call 157; (with_reducible refine (HC7.out _ w8 HIN.out).mono ?_); rintro e wc8 ⟨vx, rfl, hx, ho, hb⟩; obtain ⟨ax, cx, rfl, -⟩ := id hx; have HX := Lib.hid hx; have HO := Lib.hid (ho.trans HOB.out); replace M := Lib.hid (M.out.call hb); obtain ⟨_, _, _, h5, -⟩ := M.out.rd; replace H5 := Lib.hid h5; clear hx ho h5; clear hb)
    | (refine wpList_store_row rfl 152 (.tmp 1) (.tmp 48) rfl w.heap.size (rdC (.slice ax s7.1.length cx) (numE s7.2)) rfl rfl 152 _ H5.out (by kernel_rfl) (by rfl) (rd_one _ _ _ _) ?_; go_loud (clear H5; replace M := Lib.hid (M.out.read (s' := s7) HX.out HO.out HEs7.out); generalize wc8.setRow w.heap.size (rdC (.slice ax s7.1.length cx) (numE s7.2)) = wb8 at *))
    | (refine wpList_store_mid rfl 65 (.tmp 50) (.tmp 49) rfl q 99 (rowOf .u8 32 VA) rfl rfl (by rw [rowOf_size]; exact hdD_t6 M.out.at_) (by rw [rowOf_size]; kernel_rfl) (rowOf_one _ _ _) ?_))
  replace M := Lib.hid (M.out.put (only_cells11 q (rowOf .u8 32 VA).toList 99 wb8) (hdD_s6 M.out.at_))
  generalize wb8.setCells q 99 (rowOf .u8 32 VA).toList = w9 at *
  clear HX HO HIN HOB
  obtain ⟨ra, rn, rc, h5, hin, hob⟩ := M.out.rd
  have H5 := Lib.hid h5
  have HIN := Lib.hid hin
  have HOB := Lib.hid hob
  clear h5 hin hob
  go_upto_region 11 with (first
    | (refine wpList_load_row rfl 152 (.tmp 1) rfl w.heap.size rfl 152 _ (0, 0) _ H5.out Tryz.underlying152 rfl (by kernel_rfl) ?_)
    | (go_at_call 157; (with_reducible refine (HC8.out _ w9 HIN.out).mono ?_); rintro e wc9 ⟨vx, rfl, hx, ho, hb⟩; obtain ⟨ax, cx, rfl, -⟩ := id hx; have HX := Lib.hid hx; have HO := Lib.hid (ho.trans HOB.out); replace M := Lib.hid (M.out.call hb); obtain ⟨_, _, _, h5, -⟩ := M.out.rd; replace H5 := Lib.hid h5; clear hx ho h5; clear hb)
    | (refine wpList_store_row rfl 152 (.tmp 1) (.tmp 54) rfl w.heap.size (rdC (.slice ax s8.1.length cx) (numE s8.2)) rfl rfl 152 _ H5.out (by kernel_rfl) (by rfl) (rd_one _ _ _ _) ?_; go_loud (clear H5; replace M := Lib.hid (M.out.read (s' := s8) HX.out HO.out HEs8.out); generalize wc9.setRow w.heap.size (rdC (.slice ax s8.1.length cx) (numE s8.2)) = wb9 at *))
    | (refine wpList_store_mid rfl 65 (.tmp 56) (.tmp 55) rfl q 131 (rowOf .u8 32 NX) rfl rfl (by rw [rowOf_size]; exact hdD_t7 M.out.at_) (by rw [rowOf_size]; kernel_rfl) (rowOf_one _ _ _) ?_))
  replace M := Lib.hid (M.out.put (only_cells11 q (rowOf .u8 32 NX).toList 131 wb9) (hdD_s7 M.out.at_))
  generalize wb9.setCells q 131 (rowOf .u8 32 NX).toList = w10 at *
  clear HX HO HIN HOB
  obtain ⟨ra, rn, rc, h5, hin, hob⟩ := M.out.rd
  have H5 := Lib.hid h5
  have HIN := Lib.hid hin
  have HOB := Lib.hid hob
  clear h5 hin hob
  go_upto_region 12 with (first
    | (refine wpList_load_row rfl 152 (.tmp 1) rfl w.heap.size rfl 152 _ (0, 0) _ H5.out Tryz.underlying152 rfl (by kernel_rfl) ?_)
    | (go_at_call 158; (with_reducible refine (HC9.out _ w10 HIN.out).mono ?_); rintro e wc10 ⟨vx, rfl, hx, ho, hb⟩; obtain ⟨ax, cx, rfl, -⟩ := id hx; have HX := Lib.hid hx; have HO := Lib.hid (ho.trans HOB.out); replace M := Lib.hid (M.out.call hb); obtain ⟨_, _, _, h5, -⟩ := M.out.rd; replace H5 := Lib.hid h5; clear hx ho h5; clear hb)
    | (refine wpList_store_row rfl 152 (.tmp 1) (.tmp 60) rfl w.heap.size (rdC (.slice ax s9.1.length cx) (numE s9.2)) rfl rfl 152 _ H5.out (by kernel_rfl) (by rfl) (rd_one _ _ _ _) ?_; go_loud (clear H5; replace M := Lib.hid (M.out.read (s' := s9) HX.out HO.out HEs9.out); generalize wc10.setRow w.heap.size (rdC (.slice ax s9.1.length cx) (numE s9.2)) = wb10 at *; have k0 : wb10.cell? ⟨q, 163, none⟩ = some (.int .i64 0) := hdD_c8 M.out.at_; have k1 : wb10.frozen? ⟨q, 163, none⟩ = false := frozen_of_row _ _ _ _ _ M.out.at_)))
  clear k0 k1
  replace M := Lib.hid (M.out.put (Only.setCell wb10 ⟨q, 163, none⟩ (.int .i64 PR)) (hdD_s8 M.out.at_))
  generalize wb10.setCell ⟨q, 163, none⟩ (.int .i64 PR) = w11 at *
  clear HX HO HIN HOB
  obtain ⟨CV, hCV⟩ : ∃ x, x = hdD CH HT TM LA AP TX VA NX PR := ⟨_, rfl⟩
  have HCV := Lib.hid hCV
  have HVS := Lib.hid ((congrArg Array.size hCV).trans (hdD_size _ _ _ _ _ _ _ _ _))
  have HVO := Lib.hid (show CV.all (·.oneCell') = true from by rw [hCV]; exact hdD_one11 _ _ _ _ _ _ _ _ _)
  rw [← hCV] at M
  clear hCV
  obtain ⟨ra, rn, rc, h5, hin, hob⟩ := M.out.rd
  have HOB := Lib.hid hob
  have H5 := Lib.hid h5
  have HIN := Lib.hid hin
  clear h5 hin hob
  refine wp_region_T (fun W => W.heap[w.heap.size]? = some (.cells (rdC (.slice ra rn rc) (numE s9.2)) 152 (0, 0)) ∧ W.heap[q]? = some (.cells CV 74 (0, 0))) [0, 1, 2, 3] (by kernel_rfl) ?_
  have hbd : Below w11.heap.size w11 w11.drew := (Below.refl _ _).drew
  replace M := Lib.hid (M.out.call hbd)
  replace H5 := Lib.hid ((hbd.block _ (bkT_lt H5.out)).trans H5.out)
  replace HIN := Lib.hid (HIN.out.below hbd)
  skip
  clear hbd
  generalize w11.drew = wd at *
  have HS := Lib.hid (show wd.heap[w.heap.size]? = some (.cells (rdC (.slice ra rn rc) (numE s9.2)) 152 (0, 0)) ∧ wd.heap[q]? = some (.cells CV 74 (0, 0)) from ⟨H5.out, M.out.at_⟩)
  have HF := Lib.hid (M.out.fin H5.out)
  refine anyT_take [] (i := 0) (v := .agg (rdC (.slice ra rn rc) (numE s9.2))) rfl (by kernel_rfl) (by kernel_rfl) (by kernel_rfl) (fun _ _ _ h => h) (by kernel_rfl) (rdagg_yields (by rfl) 152 (.tmp 1) rfl w.heap.size rfl _ _ (fun _ h => h.1) Tryz.underlying152 rfl (by kernel_rfl)) HS.out ?_
  try simp only [List.getElem_toArray, List.getElem_cons_succ, List.getElem_cons_zero, Act.put, List.setIfInBounds_toArray, List.set_cons_zero, List.set_cons_succ]
  refine anyT_take [] (i := 1) (v := .agg CV) rfl (by kernel_rfl) (by kernel_rfl) (by kernel_rfl) (fun _ _ _ h => h) (by kernel_rfl) (rdagg_yields (by rfl) 74 (.tmp 4) rfl q rfl _ _ (fun _ h => h.2) Tryz.underlying74 rfl (by rw [HVS.out]; kernel_rfl)) HS.out ?_
  try simp only [List.getElem_toArray, List.getElem_cons_succ, List.getElem_cons_zero, Act.put, List.setIfInBounds_toArray, List.set_cons_zero, List.set_cons_succ]
  refine anyT_one (i := 2) (by kernel_rfl) rfl (fun K hK => ?_)
  rw [if_pos (by rfl)]
  try simp only [List.getElem_toArray, List.getElem_cons_succ, List.getElem_cons_zero]
  (refine wp_store_row 152 (.tmp 2) (.tmp 63) rfl (w.heap.size + 1) (rdC (.slice ra rn rc) (numE s9.2)) rfl rfl 152 _ HF.out.r0 (by kernel_rfl) (by rfl) (rd_one _ _ _ _) ?_)
  refine hK _ _ (fun _ => HF.out.s1) ?_
  clear hK K
  try simp only [List.getElem_toArray, List.getElem_cons_succ, List.getElem_cons_zero, Act.put, List.setIfInBounds_toArray, List.set_cons_zero, List.set_cons_succ]
  refine anyT_one (i := 3) (by kernel_rfl) rfl (fun K hK => ?_)
  rw [if_pos (by rfl)]
  try simp only [List.getElem_toArray, List.getElem_cons_succ, List.getElem_cons_zero]
  (refine wp_store_row 74 (.tmp 3) (.tmp 64) rfl (w.heap.size + 1 + 1) CV rfl rfl 74 _ HF.out.r1 (by rw [HVS.out]; kernel_rfl) (by rw [HVS.out, HZ.out]) HVO.out ?_)
  refine hK _ _ (fun _ => HF.out.s2) ?_
  clear hK K
  try simp only [List.getElem_toArray, List.getElem_cons_succ, List.getElem_cons_zero, Act.put, List.setIfInBounds_toArray, List.set_cons_zero, List.set_cons_succ]
  refine anyT_done (by kernel_rfl) ?_ _
  have HL := Lib.hid HF.out.end_
  have HRA := Lib.hid HF.out.a
  have HRB := Lib.hid HF.out.b
  generalize (World.setRow _ (w.heap.size + 1 + 1) CV) = wz at *
  go_wp2_with (fail)
  refine bodyPost_ret (results_cell2_row rfl _ _ (w.heap.size + 1) (w.heap.size + 1 + 1) 152 74 _ _ (0, 0) (0, 0) _ _ rfl HRA.out Tryz.underlying152 rfl (by kernel_rfl) rfl HRB.out Tryz.underlying74 rfl (by rw [HVS.out]; kernel_rfl)) rfl ?_
  have hQL := HQL.out
  have hend := HL.out
  rw [HR.out]
  exact ⟨_, by rw [HV.out, HCV.out], bytes_blk11 HIN.out (fun hn k hk => hend.2.2 k (by have := M.out.obN hn k (HOB.out ▸ hk); omega) (by have := M.out.obN hn k (HOB.out ▸ hk); omega)), HOB.out, hend.1⟩
end Go.Proofs.YtanekacpalpcbaaGreatDoor
