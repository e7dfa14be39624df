/- Part 38 of the proof. -/
import Derived.Test.YtabflppnecemkaaGreatDoorPb37
namespace Go.Proofs.YtabflppnecemkaaGreatDoor
set_option linter.unusedVariables false
set_option linter.unusedSimpArgs false
open Go.RowKit
set_option maxRecDepth 100000
set_option linter.unusedSimpArgs false
set_option linter.unusedVariables false
theorem dnf_any (s : RSt) (h : s.2 ≠ some 0) : numE (doneE s) = 0 ↔ doneE s = none := by
  unfold doneE
  cases he : s.2 with
  | none => simp only; split <;> simp [numE]
  | some x =>
    simp only [numE]
    rw [he] at h
    constructor
    · intro h2; exact absurd (by rw [show x = 0 by omega]) h
    · intro h2; cases h2
set_option maxHeartbeats 16000000 in
theorem ddecnone_any (vb : Value) (xs : List Int) (w : World) (hy : BytesIn w vb xs) (hok : bytesOk xs) (hl : xs.length ≤ 1048576) :
    Calls Tryz.prog 7 #[vb] w (DqPost (dnL xs) (dnR xs) (dnE xs) w) := by
  obtain ⟨va, vc, rfl, -⟩ := id hy
  obtain ⟨vn, hvn⟩ : ∃ n, n = xs.length := ⟨_, rfl⟩
  rw [← hvn] at hy ⊢
  have HVN := Lib.hid hvn
  have HOK := Lib.hid (show okR (xs, none) from ⟨hok, by show xs.length ≤ _; omega, by simp⟩)
  have HLE := Lib.hid hl
  have HY := Lib.hid hy
  have hbz := e8ab_zero_built
  have hbr := rd_built va vn vc
  clear hy hok hl hvn
  unfold DqPost
  go_enter Tryz.func7, Tryz.ntmps7
  go_upto_region 1 with (fail)
  have HC1 := Lib.hid (heap_alloc_new w (.cells #[.slice none 0 0, .slice none 0 0] 27))
  have HB1 := Lib.hid (below_alloc w (.cells #[.slice none 0 0, .slice none 0 0] 27))
  have HL1 := Lib.hid (show (w.alloc (.cells #[.slice none 0 0, .slice none 0 0] 27)).heap.size = w.heap.size + 1 by simp)
  generalize w.alloc (.cells #[.slice none 0 0, .slice none 0 0] 27) = w1 at *
  go_upto_region 2 with (refine wpList_store_row rfl 27 (.tmp 4) (.tmp 11) rfl w1.heap.size #[.slice none 0 0, .slice none 0 0] rfl rfl 27 _ (heap_alloc_new _ _) (by kernel_rfl) rfl (by simp [Value.oneCell']) ?_; rw [World.setRow_alloc_new])
  have HC4 := Lib.hid (heap_alloc_new w1 (.cells #[.slice none 0 0, .slice none 0 0] 27))
  have hb2 := below_alloc w1 (.cells #[.slice none 0 0, .slice none 0 0] 27)
  have HL2 := Lib.hid (show (w1.alloc (.cells #[.slice none 0 0, .slice none 0 0] 27)).heap.size = w1.heap.size + 1 by simp)
  replace HC1 := Lib.hid ((hb2.block _ (bk_lt HC1.out)).trans HC1.out)
  replace HB1 := Lib.hid (HB1.out.trans (hb2.mono HB1.out.size))
  obtain ⟨p4, hp4⟩ : ∃ p, p = w1.heap.size := ⟨_, rfl⟩
  rw [← hp4] at HC4 HL2 ⊢
  have HP4 := Lib.hid (show w.heap.size < p4 by have := HL1.out; omega)
  clear hb2 hp4 HL1
  generalize w1.alloc (.cells #[.slice none 0 0, .slice none 0 0] 27) = w2 at *
  go_upto_region 3 with (refine wpList_store_row rfl 69 (.tmp 5) (.tmp 13) rfl w2.heap.size (rdC (.slice va vn vc) 0) rfl rfl 69 _ (heap_alloc_new _ _) (by kernel_rfl) (by rfl) (rd_one _ _ _ _) ?_; rw [World.setRow_alloc_new])
  have hb3 := below_alloc w2 (.cells (rdC (.slice va vn vc) 0) 69)
  have HM0 := Lib.hid (show DrRel w p4 w2.heap.size xs 0 (w2.alloc (.cells (rdC (.slice va vn vc) 0) 69)) from
    ⟨_, _, ⟨HB1.out.trans (hb3.mono HB1.out.size), (hb3.block _ (bk_lt HC1.out)).trans HC1.out, (hb3.block _ (bk_lt HC4.out)).trans HC4.out, ⟨va, vn, vc, heap_alloc_new w2 _, (HY.out.below HB1.out).below hb3⟩, HOK.out, OwnQ.nil _ _, OwnQ.nil _ _, HP4.out, by have := HL2.out; omega⟩, fun _ => rfl, fun _ => rfl, fun h => by omega, fun h => by omega⟩)
  obtain ⟨p5, hp5⟩ : ∃ p, p = w2.heap.size := ⟨_, rfl⟩
  rw [← hp5] at HM0 ⊢
  clear hb3 hp5 HL2 HC1 HB1 HC4 HP4 hbr HY
  generalize w2.alloc (.cells (rdC (.slice va vn vc) 0) 69) = w3 at *
  go_wp2_with (fail)
  go_loopw [6] (fun x wr => ∃ k : Nat, k ≤ 2 ∧ x = .int .i64 (k : Int) ∧ Hid (DrRel w p4 p5 xs k wr)) (fun x _ => 2 - (intOf x).toNat)
  case atStart => exact ⟨0, Nat.zero_le _, rfl, HM0⟩
  case round =>
    clear HM0
    obtain ⟨k, hkn, rfl, HM⟩ := hrel
    obtain ⟨vl, vr, hm, hv1, hv2, ho1, ho2⟩ := HM.out
    have M := Lib.hid hm
    clear HM hm
    rcases (by omega : k = 0 ∨ k = 1 ∨ k = 2) with rfl | rfl | rfl
    · -- side 0
      obtain rfl := hv1 rfl
      obtain rfl := hv2 (by omega)
      clear hv1 hv2 ho1 ho2
      replace M := Lib.hid (show DrM w p4 p5 (.slice none 0 0) (.slice none 0 0) [] [] (xs, none) wr from M.out)
      obtain ⟨s, hs⟩ : ∃ s, s = (xs, none) := ⟨_, rfl⟩
      rw [← hs] at M
      have HSS := Lib.hid hs
      have hsl : s.1.length ≤ xs.length := by rw [hs]; exact Nat.le_refl _
      have HKS := Lib.hid M.out.ok
      have HKC := Lib.hid (show okR (sdC s) from countS_k M.out.ok)
      have HPK := Lib.hid (show okR (sdB xs.length s).2 from partS_k HKC.out)
      have HBO := Lib.hid (show bytesOk (sdB xs.length s).1 from partS_ok1 _ HKC.out.1)
      have HBL := Lib.hid (show (sdB xs.length s).1.length ≤ 140737488351232 from Nat.le_trans (partS_len1 _ _) HKC.out.2.1)
      have HCC := Lib.hid (show ∀ v X, BytesIn X v s.1 → Calls Tryz.prog 26 #[.agg (rdC v (numE s.2)), .int .i64 1] X fun e w' => ∃ v', e = .returned (.tuple #[.agg (rdC v' (numE (sdC s).2)), .int .i64 (sdN s : Int)]) ∧ BytesIn w' v' (sdC s).1 ∧ Below X.heap.size X w' from fun v X h => rrcount_any v s.1 s.2 HKS.out.2.2 1 (by omega) X h HKS.out.1 HKS.out.2.1)
      have HCB := Lib.hid (show ∀ v X, BytesIn X v (sdC s).1 → Calls Tryz.prog 25 #[.agg (rdC v (numE (sdC s).2)), .int .i64 (vn : Int)] X (RpPost (sdB xs.length s) X) from fun v X h => by rw [HVN.out]; exact rrbytes_any v (sdC s).1 (sdC s).2 HKC.out.2.2 xs.length HLE.out X h HKC.out.1 HKC.out.2.1)
      unfold RpPost at HCB
      obtain ⟨NI, hNI⟩ : ∃ i : Int, i = (sdN s : Int) := ⟨_, rfl⟩
      rw [← hNI] at HCC
      have hN01 : sdN s = 0 ∨ sdN s = 1 := by have := sdN_le s; omega
      obtain ⟨ra, rn, rc, h5, hin⟩ := M.out.rd
      have H5 := Lib.hid h5
      have HIN := Lib.hid hin
      clear h5 hin hs hsl
      rcases hN01 with hN | hN
      · have HZ := Lib.hid (sd_zero (s := s) xs.length hN)
        rw [HSS.out] at HZ
        obtain rfl : NI = 0 := by rw [hNI, hN]; rfl
        clear hN hNI
        go_wp2_with (first
          | (refine wpList_load_row rfl 69 (.tmp 5) rfl p5 rfl 69 _ (0, 0) _ H5.out Tryz.underlying69 rfl (by kernel_rfl) ?_)
          | (go_at_call 26; (with_reducible refine (HCC.out _ wr HIN.out).mono ?_); rintro e w6 ⟨v6, rfl, hx, hb⟩; obtain ⟨a6, c6, rfl, -⟩ := id hx; have HX6 := Lib.hid hx; replace M := Lib.hid (M.out.call hb); obtain ⟨qa, qn, qc, h5, -⟩ := M.out.rd; replace H5 := Lib.hid h5; clear hx hb h5)
          | (refine wpList_store_row rfl 69 (.tmp 5) (.tmp 21) rfl p5 _ rfl rfl 69 _ H5.out (by kernel_rfl) (by rfl) (rd_one _ _ _ _) ?_; replace M := Lib.hid (M.out.read (s' := sdC s) HX6.out HKC.out).1; generalize w6.setRow p5 _ = wZ at *))
        go_roundw
        case rel =>
          rw [HSS.out] at M
          exact ⟨1, by omega, by go_num, Lib.hid ⟨_, _, show DrM w p4 p5 (.slice none 0 0) (.slice none 0 0) (sdL xs.length (xs, none)) [] (sdT xs.length (xs, none)) wZ from by rw [HZ.out.2.1, HZ.out.2.2]; exact M.out, fun h => by omega, fun _ => rfl, fun _ => HZ.out.1, fun h => by omega⟩⟩
        case measure => simp [intOf]
      · obtain rfl : NI = 1 := by rw [hNI, hN]; rfl
        have HN := Lib.hid hN
        clear hN hNI
        go_upto_region 10 with (first
          | (refine wpList_load_row rfl 69 (.tmp 5) rfl p5 rfl 69 _ (0, 0) _ H5.out Tryz.underlying69 rfl (by kernel_rfl) ?_)
          | (go_at_call 26; (with_reducible refine (HCC.out _ wr HIN.out).mono ?_); rintro e w6 ⟨v6, rfl, hx, hb⟩; obtain ⟨a6, c6, rfl, -⟩ := id hx; have HX6 := Lib.hid hx; replace M := Lib.hid (M.out.call hb); obtain ⟨qa, qn, qc, h5, -⟩ := M.out.rd; replace H5 := Lib.hid h5; clear hx hb h5)
          | (refine wpList_store_row rfl 69 (.tmp 5) (.tmp 21) rfl p5 _ rfl rfl 69 _ H5.out (by kernel_rfl) (by rfl) (rd_one _ _ _ _) ?_; replace M := Lib.hid (M.out.read (s' := sdC s) HX6.out HKC.out).1; generalize w6.setRow p5 _ = w7 at *))
        clear HCC HX6 H5 HIN
        obtain ⟨ra, rn, rc, h5, hin⟩ := M.out.rd
        have H5 := Lib.hid h5
        have HIN := Lib.hid hin
        clear h5 hin
        go_upto_region 11 with (first
          | (refine wpList_load_row rfl 69 (.tmp 5) rfl p5 rfl 69 _ (0, 0) _ H5.out Tryz.underlying69 rfl (by kernel_rfl) ?_)
          | (go_at_call 25; (with_reducible refine (HCB.out _ w7 HIN.out).mono ?_); rintro e w8 ⟨v8, vy, rfl, hx, hk, hb⟩; obtain ⟨a8, c8, rfl, -⟩ := id hx; have HX8 := Lib.hid hx; have HK8 := Lib.hid hk; replace M := Lib.hid (M.out.call hb); obtain ⟨qa, qn, qc, h5, -⟩ := M.out.rd; replace H5 := Lib.hid h5; clear hx hk hb h5)
          | (refine wpList_store_row rfl 69 (.tmp 5) (.tmp 30) rfl p5 _ rfl rfl 69 _ H5.out (by kernel_rfl) (by rfl) (rd_one _ _ _ _) ?_; obtain ⟨hm2, hby⟩ := M.out.read (s' := (sdB xs.length s).2) HX8.out HPK.out; replace M := Lib.hid hm2; replace HK8 := Lib.hid (hby _ _ HK8.out); clear hm2 hby; generalize w8.setRow p5 _ = w9 at *))
        clear HCB HX8 H5 HIN
        have HDE := Lib.hid (ddecode_any vy (sdB xs.length s).1 w9 HK8.out HBO.out HBL.out)
        unfold DdPost at HDE
        obtain ⟨P, hP⟩ : ∃ P, P = decP (sdB xs.length s).1 := ⟨_, rfl⟩
        rw [← hP] at HDE
        have HPE := Lib.hid hP
        clear hP HK8
        cases hE : decE (sdB xs.length s).1 with
        | some x =>
          have HBAD := Lib.hid (show sdOk xs.length ((xs, none)) = false from by rw [← HSS.out]; exact sd_bad HN.out hE)
          obtain rfl : x = 3 := by
            have := hE
            unfold decE at this
            split at this
            · cases this
            · injection this with this; exact this.symm
          have HP := Lib.hid (dn_bad1 HBAD.out)
          rw [hE] at HDE
          rw [show numE (some 3) = (3 : Int) from rfl] at HDE
          clear hE
          go_wp2_with (first
            | (go_at_call 5; (with_reducible refine HDE.out.mono ?_); rintro e w10 ⟨sa, sc, rfl, -, hb⟩; replace M := Lib.hid (M.out.call hb); clear hb)
            | (refine wpList_store_row rfl 24 (.tmp 9) (.tmp 35) rfl w10.heap.size (prC P (.slice sa P.steps.length sc)) rfl rfl 24 _ (heap_alloc_new _ _) (by kernel_rfl) rfl (prC_one _ _ _ _) ?_; rw [World.setRow_alloc_new]; replace M := Lib.hid (M.out.call (below_alloc w10 (.cells (prC P (.slice sa P.steps.length sc)) 24))); generalize w10.alloc (.cells (prC P (.slice sa P.steps.length sc)) 24) = w11 at *)
            | (refine wpList_store_row rfl 27 (.tmp 2) (.tmp 39) rfl w.heap.size #[.slice none 0 0, .slice none 0 0] rfl rfl 27 _ M.out.res (by kernel_rfl) rfl (by simp [Value.oneCell']) ?_))
          refine bodyPost_ret (results_cell_tmp_row rfl _ _ w.heap.size 27 #[.slice none 0 0, .slice none 0 0] (0, 0) _ rfl (setRow_heap _ _ _ _ _ _ M.out.res) Tryz.underlying27 rfl (by kernel_rfl)) rfl ?_
          rw [HP.out.1, HP.out.2.1, HP.out.2.2]
          exact ⟨none, 0, none, 0, rfl, prs_nil8 _, prs_nil8 _, below_setRow M.out.below (Nat.le_refl _) _⟩
        | none =>
          have HZ := Lib.hid (sd_one (m := xs.length) HN.out hE)
          rw [HSS.out] at HZ HPE
          rw [hE] at HDE
          rw [show numE none = (0 : Int) from rfl] at HDE
          clear hE
          go_upto_region 15 with (first
            | (go_at_call 5; (with_reducible refine HDE.out.mono ?_); rintro e w10 ⟨sa, sc, rfl, hst, hb⟩; have HST := Lib.hid hst; replace M := Lib.hid (M.out.call hb); clear hb hst)
            | (refine wpList_store_row rfl 24 (.tmp 9) (.tmp 35) rfl w10.heap.size (prC P (.slice sa P.steps.length sc)) rfl rfl 24 _ (heap_alloc_new _ _) (by kernel_rfl) rfl (prC_one _ _ _ _) ?_; rw [World.setRow_alloc_new]))
          have hba := below_alloc w10 (.cells (prC P (.slice sa P.steps.length sc)) 24)
          have HQ := Lib.hid (heap_alloc_new w10 (.cells (prC P (.slice sa P.steps.length sc)) 24))
          replace M := Lib.hid (M.out.call hba)
          replace HST := Lib.hid (HST.out.alloc (.cells (prC P (.slice sa P.steps.length sc)) 24))
          obtain ⟨q, hq⟩ : ∃ q, q = w10.heap.size := ⟨_, rfl⟩
          rw [← hq] at HQ ⊢
          clear hba hq HDE
          generalize w10.alloc (.cells (prC P (.slice sa P.steps.length sc)) 24) = w11 at *
          have c0 : w11.cell? ⟨p4, 0, none⟩ = some (.slice none 0 0) := by rw [cell_of_row _ _ 0 _ _ _ M.out.at4]; rfl
          go_wp2_with (first
            | (refine wpList_load_row rfl 24 (.tmp 9) rfl q rfl 24 _ (0, 0) _ HQ.out Tryz.underlying24 rfl (by kernel_rfl) ?_)
            | (refine wpList_plain rfl fun K hK => wp_pr1 25 24 Tryz.underlying25 infoPr8 (.tmp 44) rfl P.key P.val sa P.steps.length sc rfl (hK _ _ ?_); clear hK K c0; have HN6 := Lib.hid (heap_alloc_new w11 (.cells #[.string P.key, .string P.val, .slice sa P.steps.length sc] 24)); replace HST := Lib.hid (HST.out.alloc (.cells #[.string P.key, .string P.val, .slice sa P.steps.length sc] 24)); replace M := Lib.hid (M.out.call (below_alloc w11 (.cells #[.string P.key, .string P.val, .slice sa P.steps.length sc] 24))); obtain ⟨q6, hq6⟩ : ∃ q, q = w11.heap.size := ⟨_, rfl⟩; rw [← hq6] at HN6 ⊢; clear hq6; generalize w11.alloc (.cells #[.string P.key, .string P.val, .slice sa P.steps.length sc] 24) = wA at *)
            | (refine wpList_plain rfl fun K hK => wp_append_ownQ (.tmp 43) (.tmp 45) rfl rfl w.heap.size (.slice none 0 0) [] rfl (OwnQ.nil wA w.heap.size) q6 P (.slice sa P.steps.length sc) ⟨_, _, _, rfl⟩ rfl HN6.out ⟨_, HST.out⟩ (by simp) M.out.below.size fun v7 wB ho7 hg7 => hK _ _ ?_; clear hK K; have hb7 := (Below.refl _ _).grown hg7 (Nat.le_refl _) (fun j hj => by cases hj); obtain ⟨xa, xc, rfl⟩ := ho7.slice; replace M := Lib.hid (M.out.call hb7); have HO7 := Lib.hid ho7; have k1 : wB.cell? ⟨p4, 0, none⟩ = some (.slice none 0 0) := by { rw [cell_of_row _ _ 0 _ _ _ M.out.at4]; rfl }; have k2 : wB.frozen? ⟨p4, 0, none⟩ = false := frozen_of_row _ _ _ _ _ M.out.at4; clear ho7 hg7 hb7))
          replace M := Lib.hid (M.out.set0 HO7.out)
          go_roundw
          case rel =>
            rw [HSS.out] at M
            exact ⟨1, by omega, by go_num, Lib.hid ⟨_, _, show DrM w p4 p5 (.slice xa 1 xc) (.slice none 0 0) (sdL xs.length (xs, none)) [] (sdT xs.length (xs, none)) _ from by rw [HZ.out.2.1, HZ.out.2.2, ← HPE.out]; exact M.out, fun h => by omega, fun _ => rfl, fun _ => HZ.out.1, fun h => by omega⟩⟩
          case measure => simp [intOf]
    · -- side 1
      obtain rfl := hv2 (by omega)
      have HO1 := Lib.hid (ho1 (by omega))
      clear hv1 hv2 ho1 ho2
      obtain ⟨L0, hL0⟩ : ∃ l, l = sdL xs.length (xs, none) := ⟨_, rfl⟩
      replace M := Lib.hid (show DrM w p4 p5 vl (.slice none 0 0) L0 [] (dnS1 xs) wr from by rw [hL0]; exact M.out)
      obtain ⟨vla, vlc, rfl⟩ := M.out.l.slice
      have HL0 := Lib.hid hL0
      clear hL0
      obtain ⟨s, hs⟩ : ∃ s, s = dnS1 xs := ⟨_, rfl⟩
      rw [← hs] at M
      have HSS := Lib.hid hs
      have hsl : s.1.length ≤ xs.length := by rw [hs]; exact sdT_len _ (xs, none)
      have HKS := Lib.hid M.out.ok
      have HKC := Lib.hid (show okR (sdC s) from countS_k M.out.ok)
      have HPK := Lib.hid (show okR (sdB xs.length s).2 from partS_k HKC.out)
      have HBO := Lib.hid (show bytesOk (sdB xs.length s).1 from partS_ok1 _ HKC.out.1)
      have HBL := Lib.hid (show (sdB xs.length s).1.length ≤ 140737488351232 from Nat.le_trans (partS_len1 _ _) HKC.out.2.1)
      have HCC := Lib.hid (show ∀ v X, BytesIn X v s.1 → Calls Tryz.prog 26 #[.agg (rdC v (numE s.2)), .int .i64 1] X fun e w' => ∃ v', e = .returned (.tuple #[.agg (rdC v' (numE (sdC s).2)), .int .i64 (sdN s : Int)]) ∧ BytesIn w' v' (sdC s).1 ∧ Below X.heap.size X w' from fun v X h => rrcount_any v s.1 s.2 HKS.out.2.2 1 (by omega) X h HKS.out.1 HKS.out.2.1)
      have HCB := Lib.hid (show ∀ v X, BytesIn X v (sdC s).1 → Calls Tryz.prog 25 #[.agg (rdC v (numE (sdC s).2)), .int .i64 (vn : Int)] X (RpPost (sdB xs.length s) X) from fun v X h => by rw [HVN.out]; exact rrbytes_any v (sdC s).1 (sdC s).2 HKC.out.2.2 xs.length HLE.out X h HKC.out.1 HKC.out.2.1)
      unfold RpPost at HCB
      obtain ⟨NI, hNI⟩ : ∃ i : Int, i = (sdN s : Int) := ⟨_, rfl⟩
      rw [← hNI] at HCC
      have hN01 : sdN s = 0 ∨ sdN s = 1 := by have := sdN_le s; omega
      obtain ⟨ra, rn, rc, h5, hin⟩ := M.out.rd
      have H5 := Lib.hid h5
      have HIN := Lib.hid hin
      clear h5 hin hs hsl
      rcases hN01 with hN | hN
      · have HZ := Lib.hid (sd_zero (s := s) xs.length hN)
        rw [HSS.out] at HZ
        obtain rfl : NI = 0 := by rw [hNI, hN]; rfl
        clear hN hNI
        go_wp2_with (first
          | (refine wpList_load_row rfl 69 (.tmp 5) rfl p5 rfl 69 _ (0, 0) _ H5.out Tryz.underlying69 rfl (by kernel_rfl) ?_)
          | (go_at_call 26; (with_reducible refine (HCC.out _ wr HIN.out).mono ?_); rintro e w6 ⟨v6, rfl, hx, hb⟩; obtain ⟨a6, c6, rfl, -⟩ := id hx; have HX6 := Lib.hid hx; replace M := Lib.hid (M.out.call hb); obtain ⟨qa, qn, qc, h5, -⟩ := M.out.rd; replace H5 := Lib.hid h5; clear hx hb h5)
          | (refine wpList_store_row rfl 69 (.tmp 5) (.tmp 21) rfl p5 _ rfl rfl 69 _ H5.out (by kernel_rfl) (by rfl) (rd_one _ _ _ _) ?_; replace M := Lib.hid (M.out.read (s' := sdC s) HX6.out HKC.out).1; generalize w6.setRow p5 _ = wZ at *))
        go_roundw
        case rel =>
          rw [HSS.out] at M
          exact ⟨2, by omega, by go_num, Lib.hid ⟨_, _, show DrM w p4 p5 (.slice vla L0.length vlc) (.slice none 0 0) (sdL xs.length (xs, none)) (sdL xs.length (dnS1 xs)) (sdT xs.length (dnS1 xs)) wZ from by rw [HZ.out.2.1, HZ.out.2.2, ← HL0.out]; exact M.out, fun h => by omega, fun h => by omega, fun _ => HO1.out, fun _ => HZ.out.1⟩⟩
        case measure => simp [intOf]
      · obtain rfl : NI = 1 := by rw [hNI, hN]; rfl
        have HN := Lib.hid hN
        clear hN hNI
        go_upto_region 10 with (first
          | (refine wpList_load_row rfl 69 (.tmp 5) rfl p5 rfl 69 _ (0, 0) _ H5.out Tryz.underlying69 rfl (by kernel_rfl) ?_)
          | (go_at_call 26; (with_reducible refine (HCC.out _ wr HIN.out).mono ?_); rintro e w6 ⟨v6, rfl, hx, hb⟩; obtain ⟨a6, c6, rfl, -⟩ := id hx; have HX6 := Lib.hid hx; replace M := Lib.hid (M.out.call hb); obtain ⟨qa, qn, qc, h5, -⟩ := M.out.rd; replace H5 := Lib.hid h5; clear hx hb h5)
          | (refine wpList_store_row rfl 69 (.tmp 5) (.tmp 21) rfl p5 _ rfl rfl 69 _ H5.out (by kernel_rfl) (by rfl) (rd_one _ _ _ _) ?_; replace M := Lib.hid (M.out.read (s' := sdC s) HX6.out HKC.out).1; generalize w6.setRow p5 _ = w7 at *))
        clear HCC HX6 H5 HIN
        obtain ⟨ra, rn, rc, h5, hin⟩ := M.out.rd
        have H5 := Lib.hid h5
        have HIN := Lib.hid hin
        clear h5 hin
        go_upto_region 11 with (first
          | (refine wpList_load_row rfl 69 (.tmp 5) rfl p5 rfl 69 _ (0, 0) _ H5.out Tryz.underlying69 rfl (by kernel_rfl) ?_)
          | (go_at_call 25; (with_reducible refine (HCB.out _ w7 HIN.out).mono ?_); rintro e w8 ⟨v8, vy, rfl, hx, hk, hb⟩; obtain ⟨a8, c8, rfl, -⟩ := id hx; have HX8 := Lib.hid hx; have HK8 := Lib.hid hk; replace M := Lib.hid (M.out.call hb); obtain ⟨qa, qn, qc, h5, -⟩ := M.out.rd; replace H5 := Lib.hid h5; clear hx hk hb h5)
          | (refine wpList_store_row rfl 69 (.tmp 5) (.tmp 30) rfl p5 _ rfl rfl 69 _ H5.out (by kernel_rfl) (by rfl) (rd_one _ _ _ _) ?_; obtain ⟨hm2, hby⟩ := M.out.read (s' := (sdB xs.length s).2) HX8.out HPK.out; replace M := Lib.hid hm2; replace HK8 := Lib.hid (hby _ _ HK8.out); clear hm2 hby; generalize w8.setRow p5 _ = w9 at *))
        clear HCB HX8 H5 HIN
        have HDE := Lib.hid (ddecode_any vy (sdB xs.length s).1 w9 HK8.out HBO.out HBL.out)
        unfold DdPost at HDE
        obtain ⟨P, hP⟩ : ∃ P, P = decP (sdB xs.length s).1 := ⟨_, rfl⟩
        rw [← hP] at HDE
        have HPE := Lib.hid hP
        clear hP HK8
        cases hE : decE (sdB xs.length s).1 with
        | some x =>
          have HBAD := Lib.hid (show sdOk xs.length (dnS1 xs) = false from by rw [← HSS.out]; exact sd_bad HN.out hE)
          obtain rfl : x = 3 := by
            have := hE
            unfold decE at this
            split at this
            · cases this
            · injection this with this; exact this.symm
          have HP := Lib.hid (dn_bad2 HBAD.out)
          rw [hE] at HDE
          rw [show numE (some 3) = (3 : Int) from rfl] at HDE
          clear hE
          go_wp2_with (first
            | (go_at_call 5; (with_reducible refine HDE.out.mono ?_); rintro e w10 ⟨sa, sc, rfl, -, hb⟩; replace M := Lib.hid (M.out.call hb); clear hb)
            | (refine wpList_store_row rfl 24 (.tmp 9) (.tmp 35) rfl w10.heap.size (prC P (.slice sa P.steps.length sc)) rfl rfl 24 _ (heap_alloc_new _ _) (by kernel_rfl) rfl (prC_one _ _ _ _) ?_; rw [World.setRow_alloc_new]; replace M := Lib.hid (M.out.call (below_alloc w10 (.cells (prC P (.slice sa P.steps.length sc)) 24))); generalize w10.alloc (.cells (prC P (.slice sa P.steps.length sc)) 24) = w11 at *)
            | (refine wpList_store_row rfl 27 (.tmp 2) (.tmp 39) rfl w.heap.size #[.slice none 0 0, .slice none 0 0] rfl rfl 27 _ M.out.res (by kernel_rfl) rfl (by simp [Value.oneCell']) ?_))
          refine bodyPost_ret (results_cell_tmp_row rfl _ _ w.heap.size 27 #[.slice none 0 0, .slice none 0 0] (0, 0) _ rfl (setRow_heap _ _ _ _ _ _ M.out.res) Tryz.underlying27 rfl (by kernel_rfl)) rfl ?_
          rw [HP.out.1, HP.out.2.1, HP.out.2.2]
          exact ⟨none, 0, none, 0, rfl, prs_nil8 _, prs_nil8 _, below_setRow M.out.below (Nat.le_refl _) _⟩
        | none =>
          have HZ := Lib.hid (sd_one (m := xs.length) HN.out hE)
          rw [HSS.out] at HZ HPE
          rw [hE] at HDE
          rw [show numE none = (0 : Int) from rfl] at HDE
          clear hE
          go_upto_region 16 with (first
            | (go_at_call 5; (with_reducible refine HDE.out.mono ?_); rintro e w10 ⟨sa, sc, rfl, hst, hb⟩; have HST := Lib.hid hst; replace M := Lib.hid (M.out.call hb); clear hb hst)
            | (refine wpList_store_row rfl 24 (.tmp 9) (.tmp 35) rfl w10.heap.size (prC P (.slice sa P.steps.length sc)) rfl rfl 24 _ (heap_alloc_new _ _) (by kernel_rfl) rfl (prC_one _ _ _ _) ?_; rw [World.setRow_alloc_new]))
          have hba := below_alloc w10 (.cells (prC P (.slice sa P.steps.length sc)) 24)
          have HQ := Lib.hid (heap_alloc_new w10 (.cells (prC P (.slice sa P.steps.length sc)) 24))
          replace M := Lib.hid (M.out.call hba)
          replace HST := Lib.hid (HST.out.alloc (.cells (prC P (.slice sa P.steps.length sc)) 24))
          obtain ⟨q, hq⟩ : ∃ q, q = w10.heap.size := ⟨_, rfl⟩
          rw [← hq] at HQ ⊢
          clear hba hq HDE
          generalize w10.alloc (.cells (prC P (.slice sa P.steps.length sc)) 24) = w11 at *
          have c0 : w11.cell? ⟨p4, 1, none⟩ = some (.slice none 0 0) := by rw [cell_of_row _ _ 1 _ _ _ M.out.at4]; rfl
          go_wp2_with (first
            | (refine wpList_load_row rfl 24 (.tmp 9) rfl q rfl 24 _ (0, 0) _ HQ.out Tryz.underlying24 rfl (by kernel_rfl) ?_)
            | (refine wpList_plain rfl fun K hK => wp_pr1 25 24 Tryz.underlying25 infoPr8 (.tmp 50) rfl P.key P.val sa P.steps.length sc rfl (hK _ _ ?_); clear hK K c0; have HN6 := Lib.hid (heap_alloc_new w11 (.cells #[.string P.key, .string P.val, .slice sa P.steps.length sc] 24)); replace HST := Lib.hid (HST.out.alloc (.cells #[.string P.key, .string P.val, .slice sa P.steps.length sc] 24)); replace M := Lib.hid (M.out.call (below_alloc w11 (.cells #[.string P.key, .string P.val, .slice sa P.steps.length sc] 24))); obtain ⟨q6, hq6⟩ : ∃ q, q = w11.heap.size := ⟨_, rfl⟩; rw [← hq6] at HN6 ⊢; clear hq6; generalize w11.alloc (.cells #[.string P.key, .string P.val, .slice sa P.steps.length sc] 24) = wA at *)
            | (refine wpList_plain rfl fun K hK => wp_append_ownQ (.tmp 49) (.tmp 51) rfl rfl w.heap.size (.slice none 0 0) [] rfl (OwnQ.nil wA w.heap.size) q6 P (.slice sa P.steps.length sc) ⟨_, _, _, rfl⟩ rfl HN6.out ⟨_, HST.out⟩ (by simp) M.out.below.size fun v7 wB ho7 hg7 => hK _ _ ?_; clear hK K; have hb7 := (Below.refl _ _).grown hg7 (Nat.le_refl _) (fun j hj => by cases hj); obtain ⟨xa, xc, rfl⟩ := ho7.slice; replace M := Lib.hid (M.out.call hb7); have HO7 := Lib.hid ho7; have k1 : wB.cell? ⟨p4, 1, none⟩ = some (.slice none 0 0) := by { rw [cell_of_row _ _ 1 _ _ _ M.out.at4]; rfl }; have k2 : wB.frozen? ⟨p4, 1, none⟩ = false := frozen_of_row _ _ _ _ _ M.out.at4; clear ho7 hg7 hb7))
          replace M := Lib.hid (M.out.set1 HO7.out)
          go_roundw
          case rel =>
            rw [HSS.out] at M
            exact ⟨2, by omega, by go_num, Lib.hid ⟨_, _, show DrM w p4 p5 (.slice vla L0.length vlc) (.slice xa 1 xc) (sdL xs.length (xs, none)) (sdL xs.length (dnS1 xs)) (sdT xs.length (dnS1 xs)) _ from by rw [HZ.out.2.1, HZ.out.2.2, ← HL0.out, ← HPE.out]; exact M.out, fun h => by omega, fun h => by omega, fun _ => HO1.out, fun _ => HZ.out.1⟩⟩
          case measure => simp [intOf]
    · -- behind both
      have HO1 := Lib.hid (ho1 (by omega))
      have HO2 := Lib.hid (ho2 (by omega))
      clear hv1 hv2 ho1 ho2
      obtain ⟨L, hL⟩ : ∃ l, l = sdL xs.length (xs, none) := ⟨_, rfl⟩
      obtain ⟨R, hR⟩ : ∃ l, l = sdL xs.length (dnS1 xs) := ⟨_, rfl⟩
      have HLL := Lib.hid hL
      have HRR := Lib.hid hR
      replace M := Lib.hid (show DrM w p4 p5 vl vr L R (dnS2 xs) wr from by rw [hL, hR]; exact M.out)
      obtain ⟨vla, vlc, rfl⟩ := M.out.l.slice
      obtain ⟨vra, vrc, rfl⟩ := M.out.r.slice
      clear hL hR
      obtain ⟨ra, rn, rc, h5, hin⟩ := M.out.rd
      have H5 := Lib.hid h5
      have HE := Lib.hid (show Calls Tryz.prog 30 #[.agg (rdC (.slice ra rn rc) (numE (dnS2 xs).2))] wr fun r w' => r = .returned (.int .i64 (numE (doneE (dnS2 xs)))) ∧ Below wr.heap.size wr w' from rdone2_any _ _ _ M.out.ok.2.2 wr hin (Nat.le_trans M.out.ok.2.1 (by omega)))
      have hdn := dnf_any (dnS2 xs) M.out.ok.2.2
      clear h5 hin
      cases hd : doneE (dnS2 xs) with
      | none =>
        have HP := Lib.hid (dn_good HO1.out HO2.out hd)
        rw [hd, show numE none = (0 : Int) from rfl] at HE
        clear hd hdn
        go_wp2_with (first
          | (refine wpList_load_row rfl 69 (.tmp 5) rfl p5 rfl 69 _ (0, 0) _ H5.out Tryz.underlying69 rfl (by kernel_rfl) ?_)
          | (go_at_call 30; (with_reducible refine HE.out.mono ?_); rintro e w7 ⟨rfl, hb⟩; replace M := Lib.hid (M.out.call hb); clear hb)
          | (refine wpList_load_row rfl 27 (.tmp 4) rfl p4 rfl 27 _ (0, 0) _ M.out.at4 Tryz.underlying27 rfl (by kernel_rfl) ?_)
          | (refine wpList_store_row rfl 27 (.tmp 2) (.tmp 58) rfl w.heap.size #[.slice vla L.length vlc, .slice vra R.length vrc] rfl rfl 27 _ M.out.res (by kernel_rfl) rfl (by simp [Value.oneCell']) ?_))
        refine bodyPost_ret (results_cell_tmp_row rfl _ _ w.heap.size 27 #[.slice vla L.length vlc, .slice vra R.length vrc] (0, 0) _ rfl (setRow_heap _ _ _ _ _ _ M.out.res) Tryz.underlying27 rfl (by kernel_rfl)) rfl ?_
        have ho := Only.setRow w7 w.heap.size #[.slice vla L.length vlc, .slice vra R.length vrc]
        rw [HP.out.1, HP.out.2.1, HP.out.2.2, ← HLL.out, ← HRR.out]
        exact ⟨vla, vlc, vra, vrc, rfl, (M.out.l.only M.out.res (by decide) ho).prs, (M.out.r.only M.out.res (by decide) ho).prs, below_setRow M.out.below (Nat.le_refl _) _⟩
      | some x =>
        have HP := Lib.hid (dn_bad3 hd)
        rw [hd] at HE hdn
        obtain ⟨dn, hdn2⟩ : ∃ d, d = numE (some x) := ⟨_, rfl⟩
        rw [← hdn2] at HE hdn
        have hz : (dn != 0) = true := by
          have : ¬ dn = 0 := fun h => by have := hdn.1 h; cases this
          simpa using this
        clear hd hdn hdn2
        go_wp2_with (first
          | (refine wpList_load_row rfl 69 (.tmp 5) rfl p5 rfl 69 _ (0, 0) _ H5.out Tryz.underlying69 rfl (by kernel_rfl) ?_)
          | (go_at_call 30; (with_reducible refine HE.out.mono ?_); rintro e w7 ⟨rfl, hb⟩; replace M := Lib.hid (M.out.call hb); clear hb)
          | (refine wpList_store_row rfl 27 (.tmp 2) (.tmp 57) rfl w.heap.size #[.slice none 0 0, .slice none 0 0] rfl rfl 27 _ M.out.res (by kernel_rfl) rfl (by simp [Value.oneCell']) ?_))
        refine bodyPost_ret (results_cell_tmp_row rfl _ _ w.heap.size 27 #[.slice none 0 0, .slice none 0 0] (0, 0) _ rfl (setRow_heap _ _ _ _ _ _ M.out.res) Tryz.underlying27 rfl (by kernel_rfl)) rfl ?_
        rw [HP.out.1, HP.out.2.1, HP.out.2.2]
        exact ⟨none, 0, none, 0, rfl, prs_nil8 _, prs_nil8 _, below_setRow M.out.below (Nat.le_refl _) _⟩
end Go.Proofs.YtabflppnecemkaaGreatDoor
