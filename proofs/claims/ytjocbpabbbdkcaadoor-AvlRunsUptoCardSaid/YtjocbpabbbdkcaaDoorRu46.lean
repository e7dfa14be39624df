/- Part 46 of the proof. -/
import Derived.Test.YtjocbpabbbdkcaaDoorRu45
namespace Go.Proofs.YtjocbpabbbdkcaaDoor
set_option linter.unusedVariables false
set_option linter.unusedSimpArgs false
open Go.RowKit
set_option maxRecDepth 100000
set_option linter.unusedSimpArgs false
set_option linter.unusedVariables false
set_option maxRecDepth 1000000 in
set_option maxHeartbeats 8000000 in
theorem lruns_any (va : Value) (ts : List AvA) (K T : ByteArray) (P : Int) (N : Nat) (w : World) (he : Env w) (hg : ErrType w) (hx : AvActs w va ts) (hk : ∀ t ∈ ts, t.kOk) (hs : ∀ t ∈ ts, t.key.size + t.val.size ≤ N) (hN : N ≤ 1048576) (hq : K.size + T.size ≤ 1048576) :
    Calls Tryd.prog 3 #[va, .agg #[.string K, .string T, .int .i64 P]] w fun e w' => e = .returned (.bool true) ∧ Below w.heap.size w w' := by
  have HB0 := Lib.hid (below_alloc w (.cells #[.string K, .string T, .int .i64 P] 24))
  have HA0 := Lib.hid (heap_alloc_new w (.cells #[.string K, .string T, .int .i64 P] 24))
  have HGR := Lib.hid (grown_any va ts N (w.alloc (.cells #[.string K, .string T, .int .i64 P] 24)) (he.below HB0.out he.lt) (hx.below HB0.out) hk hs hN)
  have HE := Lib.hid he
  have HET := Lib.hid hg
  have HNB := Lib.hid hN
  have HQ := Lib.hid hq
  clear he hg hx hk hs hN hq
  unfold GrPost at HGR
  go_enter Tryd.func3, Tryd.ntmps3
  go_upto_region 1 with (fail)
  generalize w.alloc (.cells #[.string K, .string T, .int .i64 P] 24) = w0 at *
  go_upto_region 2 with (first
    | (go_at_call 5; (with_reducible refine HGR.out.mono ?_); rintro e w1 ⟨v, cs, t, rfl, ht, hr, hg, hb⟩; have HT := Lib.hid ht; have HR := Lib.hid hr; have HG := Lib.hid hg; have HBT := Lib.hid hb; have csZ := Lib.hid hr.size; have csO := Lib.hid hr.one; clear ht hr hg hb)
    | (refine wpList_store_row rfl 28 (.tmp 6) (.tmp 25) rfl w1.heap.size cs rfl rfl 28 _ (heap_alloc_new _ _) (by rw [csZ.out]; kernel_rfl) (by rw [csZ.out]; rfl) csO.out ?_; rw [World.setRow_alloc_new]))
  obtain ⟨p, rfl⟩ := HT.out.ptr
  have M := Lib.hid (show RuM w (w1.alloc (.cells cs 28)) w.heap.size w1.heap.size K T P p t cs (fun _ => True) from by
    have hb := below_alloc w1 (.cells cs 28)
    exact ⟨(HB0.out.trans (HBT.out.mono HB0.out.size)).trans (hb.mono (Nat.le_trans HB0.out.size HBT.out.size)), (hb.block _ (Nat.lt_of_lt_of_le (blk_lt HA0.out) HBT.out.size)).trans ((HBT.out.block _ (blk_lt HA0.out)).trans HA0.out), HT.out.below hb, heap_alloc_new _ _, HR.out.below hb, trivial, fun _ _ _ _ => trivial⟩)
  obtain ⟨g6, hg6⟩ : ∃ g, g = w1.heap.size := ⟨_, rfl⟩
  rw [← hg6] at M ⊢
  clear hg6 HT HR HBT HA0 HB0
  generalize w1.alloc (.cells cs 28) = w2 at *
  have hsrt : Srt (pairsO t) := HG.out.srt
  have hmany : manyO t ≤ 60 := HG.out.many
  have HGE := Lib.hid (fun w h => get_any (.pointer p) K t w h)
  have HRG := Lib.hid (fun w h => rget_any t cs K w h (by omega))
  rw [getL_eq hsrt] at HRG
  obtain ⟨gk, hgk⟩ : ∃ g, g = getO t K := ⟨_, rfl⟩
  rw [← hgk] at HGE HRG
  rw [show strO2 gk = strO gk by cases gk <;> rfl] at HRG
  obtain ⟨GV, hGV⟩ : ∃ v, v = strO gk := ⟨_, rfl⟩
  obtain ⟨GI, hGI⟩ : ∃ v, v = gk.isSome := ⟨_, rfl⟩
  rw [← hGV, ← hGI] at HGE HRG
  clear hGV hGI
  have HAT := Lib.hid (fun w h => at_any (.pointer p) t P w h (by omega))
  have HPA := Lib.hid (fun w h => path_any7 (.pointer p) t P w h (by omega))
  have HRP := Lib.hid (fun w he h => rPath_any t cs P w he h (by omega) (fun p hp => by have := HG.out.size p hp; have := HNB.out; omega))
  obtain ⟨S, hS⟩ : ∃ S, S = (pathO t P).1 := ⟨_, rfl⟩
  obtain ⟨ec, hec⟩ : ∃ c, c = (pathO t P).2 := ⟨_, rfl⟩
  unfold PathPost at HPA
  unfold P7Post at HRP
  have hSL : S.length ≤ 1048576 := by
    rw [hS]
    cases t with
    | none => simp [pathO]
    | some t =>
      have hm2 : t.many ≤ 60 := hmany
      unfold pathO; dsimp only
      split
      · have := path_len7 t P.toNat; dsimp only; omega
      · simp
  rw [← hS, ← hec] at HPA HRP
  replace HRP := Lib.hid (show ∀ w, Env w → RO w cs t → Calls Tryd.prog 11 #[.agg cs, .int .i64 P] w (fun e w' => ∃ v, e = .returned (.tuple #[v, .int .i64 (numE ec)]) ∧ w'.ownsRow w.heap.size 53 34 v S.length (flatSt S) ∧ Below w.heap.size w w') from fun w he h => by
    have := HRP.out w he h
    cases ec <;> exact this)
  clear hS hec
  have HPS := Lib.hid (fun w h => rpairs_any t cs w h (by omega))
  have HRT := Lib.hid (fun w he h => root_any (.pointer p) t w he h)
  have HRR := Lib.hid (fun w he h => rRoot_any t cs w he h (by omega) (fun p hp => by have := HG.out.size p hp; have := HNB.out; omega))
  have HND := Lib.hid (fun w he => avNode_any 1 2 (rootO t) (fun _ => 0) w he)
  have HRN := Lib.hid (fun w he => rNode_any 1 2 (rootO t) (fun _ => 0) w he)
  obtain ⟨R, hR⟩ : ∃ R, R = rootO t := ⟨_, rfl⟩
  rw [← hR] at HRT HRR HND HRN
  obtain ⟨NF, hNF⟩ : ∃ F, F = avNodeF (uN 1) R (uN 2) (fun _ => 0) := ⟨_, rfl⟩
  rw [← hNF] at HND HRN
  obtain ⟨ZF, hZF⟩ : ∃ F : Nat → Int, F = fun _ => 0 := ⟨_, rfl⟩
  rw [← hZF] at HND HRN
  have HZF := Lib.hid (show Tryd.prog.built 50 [] = some (rowOf .u8 32 ZF) from by rw [hZF]; exact zeroH_built)
  have HLF := Lib.hid (fun w he => avLeaf_any K T w he (by have := HQ.out; omega))
  have HRL := Lib.hid (fun w => rLeaf_any K T w HQ.out)
  obtain ⟨LH, hLH⟩ : ∃ F, F = avLeafF K T := ⟨_, rfl⟩
  rw [← hLH] at HLF HRL
  have HLN := Lib.hid (fun w h => len_any (v := .pointer p) (t := t) w h)
  rw [← manyO_eq] at HLN
  have HHT := Lib.hid (fun w h => height_any (v := .pointer p) (t := t) w h)
  have HRH := Lib.hid (fun w h => rheight_any t cs w h (by omega))
  unfold HtPost at HRH
  obtain ⟨hgt, hhg⟩ : ∃ n, n = heightO t := ⟨_, rfl⟩
  rw [← hhg] at HHT HRH
  have HFI := Lib.hid (fun w h => find_any (.pointer p) K t w h (by omega))
  have HRF := Lib.hid (fun w h => rfind_any t cs K w h (by omega))
  rw [← findO_lead hsrt] at HRF
  obtain ⟨FN, hFN⟩ : ∃ n, n = findO t K := ⟨_, rfl⟩
  rw [← hFN] at HFI HRF
  have HR0 := Lib.hid (show ∀ w, TreeO w (.pointer p) t → Calls Tryd.prog 21 #[.pointer p, .string { data := #[] }, .string { data := #[] }] w fun e w' => ∃ v, e = .returned v ∧ KVIn w' v (pairsO t) ∧ Below w.heap.size w w' from fun w h => by
    have := range_kv p t eBA eBA w h hsrt (by omega)
    rw [range_full hsrt] at this; exact this)
  have HR1 := Lib.hid (show ∀ w, TreeO w (.pointer p) t → Calls Tryd.prog 21 #[.pointer p, .string K, .string T] w fun e w' => ∃ v, e = .returned v ∧ KVIn w' v ((pairsO t).filter (between K T)) ∧ Below w.heap.size w w' from fun w h => by
    have := range_kv p t K T w h hsrt (by omega)
    rw [range_eq hsrt] at this; exact this)
  have HQ1 := Lib.hid (fun w h => rrange_any t cs K T w h (by omega))
  unfold PsPost at HQ1
  obtain ⟨LF, hLF⟩ : ∃ l, l = (pairsO t).filter (between K T) := ⟨_, rfl⟩
  rw [← hLF] at HR1 HQ1
  clear hR hZF hNF hLH hhg hFN hLF
  obtain ⟨L, hL⟩ : ∃ L, L = pairsO t := ⟨_, rfl⟩
  rw [← hL] at HPS HLN HR0
  unfold PsPost at HPS
  unfold AtPost at HAT
  clear hgk
  obtain ⟨cA, cT, cP⟩ := M.out.cells
  go_upto_region 3 with (go_at_call 6; (with_reducible refine (HGE.out _ M.out.tree).mono ?_); rintro e w' ⟨rfl, rfl⟩)
  go_upto_region 4 with (first
    | (refine wpList_load_row rfl 28 (.tmp 6) rfl g6 rfl 28 _ (0, 0) _ M.out.h6 Tryd.underlying28 rfl (by rw [csZ.out]; kernel_rfl) ?_)
    | (go_at_call 7; (with_reducible refine (HRG.out _ M.out.ro).mono ?_); rintro e w3 ⟨rfl, hb⟩; replace M := Lib.hid (M.out.call hb); clear hb))
  obtain ⟨pa, hpa⟩ : ∃ q, q = (atO t P).1 := ⟨_, rfl⟩
  obtain ⟨ea, hea⟩ : ∃ q, q = (atO t P).2 := ⟨_, rfl⟩
  rw [← hpa, ← hea] at HAT
  have HPAE := Lib.hid (show (pa, ea) = atO t P by rw [hpa, hea])
  have HLE := Lib.hid hL
  clear hpa hea hL
  clear cA cT cP
  obtain ⟨cA, cT, cP⟩ := M.out.cells
  go_upto_region 5 with (first
    | (go_at_call 8; (with_reducible refine (HAT.out _ M.out.tree).mono ?_); rintro e w4 ⟨rfl, hb⟩; replace M := Lib.hid (M.out.call hb); clear hb)
    | (refine wpList_store_row rfl 35 (.tmp 11) (.tmp 45) rfl w4.heap.size (kvC pa) rfl rfl 35 _ (heap_alloc_new _ _) (by kernel_rfl) rfl (kvC_one _) ?_; rw [World.setRow_alloc_new]))
  replace M := Lib.hid ((M.out.call (below_alloc w4 (.cells (kvC pa) 35))).add (Y := fun u => u.heap[w4.heap.size]? = some (.cells (kvC pa) 35 (0, 0))) (heap_alloc_new w4 _) (fun a b h hb => (hb.block _ (blk_lt h)).trans h))
  obtain ⟨g11, hg11⟩ : ∃ g, g = w4.heap.size := ⟨_, rfl⟩
  rw [← hg11] at M ⊢
  clear hg11
  generalize w4.alloc (.cells (kvC pa) 35) = w5 at *
  go_upto_region 6 with (refine wpList_store_row rfl 35 (.tmp 13) (.tmp 47) rfl w5.heap.size (kvC (eBA, eBA)) rfl rfl 35 _ (heap_alloc_new _ _) (by kernel_rfl) rfl (kvC_one _) ?_; rw [World.setRow_alloc_new])
  have M0 := M
  have M0 := M
  have HB5 := Lib.hid (below_alloc w5 (.cells (kvC (eBA, eBA)) 35))
  replace M := Lib.hid (M.out.call HB5.out)
  have H13 := Lib.hid (heap_alloc_new w5 (.cells (kvC (eBA, eBA)) 35))
  obtain ⟨g13, hg13⟩ : ∃ g, g = w5.heap.size := ⟨_, rfl⟩
  have HG5 := Lib.hid hg13
  rw [← hg13] at H13 ⊢
  clear hg13
  generalize w5.alloc (.cells (kvC (eBA, eBA)) 35) = w6 at *
  go_upto_region 7 with (first
    | (refine wpList_load_row rfl 28 (.tmp 6) rfl g6 rfl 28 _ (0, 0) _ M.out.h6 Tryd.underlying28 rfl (by rw [csZ.out]; kernel_rfl) ?_)
    | (go_at_call 9; (with_reducible refine (HPS.out _ M.out.ro).mono ?_); rintro e w7 ⟨r, rfl, ho, hb⟩; have HOW := Lib.hid ho; have HK := Lib.hid (KVIn.of_own ho); have HG67 := Lib.hid (blk_lt H13.out); replace M := Lib.hid (M.out.call hb); replace HB5 := Lib.hid (HB5.out.trans (hb.mono HB5.out.size)); replace H13 := Lib.hid ((hb.block _ (blk_lt H13.out)).trans H13.out); clear ho hb))
  obtain ⟨ra, rc, rfl⟩ := HK.out.len
  clear cA cT cP
  obtain ⟨cA, cT, cP⟩ := M.out.cells
  have HATO := Lib.hid (show (∃ (k : Nat) (y : KV), P = (k : Int) ∧ L[k]? = some y ∧ pa = y ∧ ea = none) ∨ (¬ (0 ≤ P ∧ P < (L.length : Int)) ∧ pa = (eBA, eBA) ∧ ea = some 1) by
    have e := HPAE.out
    have hl := HLE.out
    cases t with
    | none =>
      injection e with e1 e2
      exact .inr ⟨by rw [hl]; show ¬ (0 ≤ P ∧ P < ((0 : Nat) : Int)); omega, e1, e2⟩
    | some t =>
      have hlen : L.length = t.many := by rw [hl]; exact AvT.many_eq t
      by_cases hin : 0 ≤ P ∧ P < (t.many : Int)
      · refine .inl ⟨P.toNat, t.at? P.toNat, by omega, by rw [hl]; exact at_eq t _ (by omega), ?_, ?_⟩
        · rw [show pa = (atO (some t) P).1 by rw [← e]]; unfold atO; dsimp only; rw [if_pos hin]
        · rw [show ea = (atO (some t) P).2 by rw [← e]]; unfold atO; dsimp only; rw [if_pos hin]
      · refine .inr ⟨by rw [hlen]; exact hin, ?_, ?_⟩
        · rw [show pa = (atO (some t) P).1 by rw [← e]]; unfold atO; dsimp only; rw [if_neg hin]
        · rw [show ea = (atO (some t) P).2 by rw [← e]]; unfold atO; dsimp only; rw [if_neg hin])
  rcases HATO.out with ⟨k, y, rfl, hy, rfl, hea⟩ | ⟨hout, hpa, hea⟩
  · have hkl : k < L.length := (List.getElem?_eq_some_iff.1 hy).1
    obtain ⟨ab, ao, rfl, hab, q0, q1⟩ := HK.out.at k pa hy
    have hkI : (k : Int) < (L.length : Int) := by omega
    have HEA := Lib.hid hea
    clear hy HATO hea
    go_upto_region 10 with (refine wpList_store_row rfl 35 (.tmp 13) (.tmp 64) rfl g13 (kvC pa) rfl rfl 35 _ H13.out (by kernel_rfl) rfl (kvC_one _) ?_)
    have HKV := Lib.hid (KVIn.of_own (ownsRow_set HOW.out (g := g13) (cs := kvC pa) HG67.out))
    replace HB5 := Lib.hid (below_setRow HB5.out (Nat.le_of_eq HG5.out.symm) (kvC pa))
    replace M := Lib.hid ((M0.out.call HB5.out).add (Y := fun u => KVIn u (.slice (some ⟨ab, ao, none⟩) L.length rc) L) HKV.out (fun a b h hb => h.below hb))
    replace H13 := Lib.hid (setRow_heap _ _ _ (kvC pa) _ _ H13.out)
    generalize w7.setRow g13 (kvC pa) = w8 at *
    clear hkl hkI hab q0 q1 HKV HB5 M0 HG5 HG67 HOW HK
    obtain ⟨is, ke, ve, ae, en, ce, rfl⟩ := M.out.ro.form
    clear cA cT cP
    obtain ⟨cA, cT, cP⟩ := M.out.cells; obtain ⟨d0, d1, d2, d3⟩ := r_cells M.out.h6
    go_upto_region 11 with (go_at_call 10; (with_reducible refine (HPA.out _ M.out.tree).mono ?_); rintro e w9 ⟨sv, rfl, hst, hb⟩; replace M := Lib.hid ((M.out.call hb).add (Y := fun u => StIn u sv S) hst (fun a b h hb => h.below hb)); replace H13 := Lib.hid ((hb.block _ (blk_lt H13.out)).trans H13.out); clear hst hb; clear cA cT cP d0 d1 d2 d3; obtain ⟨cA, cT, cP⟩ := M.out.cells; obtain ⟨d0, d1, d2, d3⟩ := r_cells M.out.h6)
    obtain ⟨sa, sc, rfl⟩ := M.out.x.2.len
    go_upto_region 12 with (go_at_call 11; (with_reducible refine (HRP.out _ (HE.out.below M.out.below HE.out.lt) M.out.ro).mono ?_); rintro e w10 ⟨rv, rfl, hro, hb⟩; replace M := Lib.hid ((M.out.call hb).add (Y := fun u => StIn u rv S) (StIn.of_own7 hro) (fun a b h hb => h.below hb)); replace H13 := Lib.hid ((hb.block _ (blk_lt H13.out)).trans H13.out); clear hro hb; clear cA cT cP d0 d1 d2 d3; obtain ⟨cA, cT, cP⟩ := M.out.cells; obtain ⟨d0, d1, d2, d3⟩ := r_cells M.out.h6)
    obtain ⟨qa, qc, rfl⟩ := M.out.x.2.len
    have hne : (numE ea != (0 : Int)) = false := by rw [HEA.out]; rfl
    have hnc : (numE ec != numE ec) = false := by simp
    have hnl : ((S.length : Int) != (S.length : Int)) = false := by simp
    go_upto_region 14 with (first
      | (go_at_call 12; (with_reducible refine (num_any ea _ (HET.out.below M.out.below)).mono ?_); rintro e w11 ⟨rfl, hb⟩; replace M := Lib.hid (M.out.call hb); replace H13 := Lib.hid ((hb.block _ (blk_lt H13.out)).trans H13.out); clear hb; clear cA cT cP d0 d1 d2 d3; obtain ⟨cA, cT, cP⟩ := M.out.cells; obtain ⟨d0, d1, d2, d3⟩ := r_cells M.out.h6; have k0 : w11.cell? ⟨g11, 0, none⟩ = some (.string pa.1) := cell_of_row w11 g11 0 _ _ _ M.out.x.1.1.1.2; have k1 : w11.cell? ⟨g11, 1, none⟩ = some (.string pa.2) := cell_of_row w11 g11 1 _ _ _ M.out.x.1.1.1.2; have l0 : w11.cell? ⟨g13, 0, none⟩ = some (.string pa.1) := cell_of_row w11 g13 0 _ _ _ H13.out; have l1 : w11.cell? ⟨g13, 1, none⟩ = some (.string pa.2) := cell_of_row w11 g13 1 _ _ _ H13.out)
      | (go_at_call 12; (with_reducible refine (num_any ec _ (HET.out.below M.out.below)).mono ?_); rintro e w12 ⟨rfl, hb⟩; clear k0 k1 l0 l1; replace M := Lib.hid (M.out.call hb); clear hb; clear cA cT cP d0 d1 d2 d3; obtain ⟨cA, cT, cP⟩ := M.out.cells; obtain ⟨d0, d1, d2, d3⟩ := r_cells M.out.h6))
    clear hne hnc hnl H13 HEA
    go_wp2_with (fail)
    have HBS := Lib.hid (Below.refl w12.heap.size w12)
    go_loopw [20] (fun x wr => ∃ k : Nat, k ≤ S.length ∧ x = .int .i64 (k : Int) ∧ Hid (Below w12.heap.size w12 wr)) (fun x _ => S.length - (intOf x).toNat)
    case atStart => exact ⟨0, by omega, rfl, HBS⟩
    case round =>
      clear HBS cA cT cP d0 d1 d2 d3
      obtain ⟨j, hjl, rfl, HBS⟩ := hrel
      replace M := Lib.hid (M.out.call HBS.out)
      by_cases hlt : j < S.length
      · obtain ⟨s, hs⟩ : ∃ s, S[j]? = some s := ⟨S[j], List.getElem?_eq_getElem hlt⟩
        obtain ⟨xb, xo, rfl, hxb, hxr⟩ := M.out.x.1.2.at j s hs
        obtain ⟨yb, yo, rfl, hyb, hyr⟩ := M.out.x.2.at j s hs
        have HXR := Lib.hid hxr
        have HYR := Lib.hid hyr
        have hltI : (j : Int) < (S.length : Int) := by omega
        clear hs hxb hyb hxr hyr
        go_upto_region 17 with (fail)
        refine wp_region_T (fun w' => w'.rangeAt xb (xo + j * 34) s.cells ∧ w'.rangeAt yb (yo + j * 34) s.cells) [2, 3, 6, 7] (by kernel_rfl) ?_
        replace HBS := Lib.hid HBS.out.drew
        replace HXR := Lib.hid (show wr.drew.rangeAt xb (xo + j * 34) s.cells from HXR.out)
        replace HYR := Lib.hid (show wr.drew.rangeAt yb (yo + j * 34) s.cells from HYR.out)
        clear M
        generalize wr.drew = w13 at *
        refine anyT_takeY (i := 0) (v := .slice (some ⟨xb, xo, none⟩) S.length sc) rfl (by kernel_rfl) (by kernel_rfl) (by kernel_rfl) (fun _ _ _ h => h) (by kernel_rfl) (Or.inl ⟨by rfl, by intro w; go_simp⟩) ?_
        try simp only [List.getElem_toArray, List.getElem_cons_succ, List.getElem_cons_zero, Act.put, List.setIfInBounds_toArray, List.set_cons_zero, List.set_cons_succ]
        refine anyT_takeY (i := 1) (v := .int .i64 (j : Int)) rfl (by kernel_rfl) (by kernel_rfl) (by kernel_rfl) (fun _ _ _ h => h) (by kernel_rfl) (Or.inl ⟨by rfl, by intro w; go_simp⟩) ?_
        try simp only [List.getElem_toArray, List.getElem_cons_succ, List.getElem_cons_zero, Act.put, List.setIfInBounds_toArray, List.set_cons_zero, List.set_cons_succ]
        refine anyT_takeY (i := 4) (v := .slice (some ⟨yb, yo, none⟩) S.length qc) rfl (by kernel_rfl) (by kernel_rfl) (by kernel_rfl) (fun _ _ _ h => h) (by kernel_rfl) (Or.inl ⟨by rfl, by intro w; go_simp⟩) ?_
        try simp only [List.getElem_toArray, List.getElem_cons_succ, List.getElem_cons_zero, Act.put, List.setIfInBounds_toArray, List.set_cons_zero, List.set_cons_succ]
        refine anyT_takeY (i := 5) (v := .int .i64 (j : Int)) rfl (by kernel_rfl) (by kernel_rfl) (by kernel_rfl) (fun _ _ _ h => h) (by kernel_rfl) (Or.inl ⟨by rfl, by intro w; go_simp⟩) ?_
        try simp only [List.getElem_toArray, List.getElem_cons_succ, List.getElem_cons_zero, Act.put, List.setIfInBounds_toArray, List.set_cons_zero, List.set_cons_succ]
        refine anyT_take [3, 8] (i := 2) (v := .pointer (some ⟨xb, xo + j * 34, none⟩)) rfl (by kernel_rfl) (by kernel_rfl) (by kernel_rfl) (fun _ _ _ h => h) (by kernel_rfl) (Or.inl ⟨by rfl, fun w' _ => by go_simp⟩) ⟨HXR.out, HYR.out⟩ ?_
        try simp only [List.getElem_toArray, List.getElem_cons_succ, List.getElem_cons_zero, Act.put, List.setIfInBounds_toArray, List.set_cons_zero, List.set_cons_succ]
        refine anyT_take [7, 8] (i := 6) (v := .pointer (some ⟨yb, yo + j * 34, none⟩)) rfl (by kernel_rfl) (by kernel_rfl) (by kernel_rfl) (fun _ _ _ h => h) (by kernel_rfl) (Or.inl ⟨by rfl, fun w' _ => by go_simp⟩) ⟨HXR.out, HYR.out⟩ ?_
        try simp only [List.getElem_toArray, List.getElem_cons_succ, List.getElem_cons_zero, Act.put, List.setIfInBounds_toArray, List.set_cons_zero, List.set_cons_succ]
        refine anyT_take [8] (i := 3) (v := .agg (stC s)) rfl (by kernel_rfl) (by kernel_rfl) (by kernel_rfl) (fun _ _ _ h => h) (by kernel_rfl) (st_yields (by rfl) 52 (.tmp 109) rfl xb (xo + j * 34) rfl s _ (fun _ h => h.1) Tryd.underlying52 rfl (by kernel_rfl)) ⟨HXR.out, HYR.out⟩ ?_
        try simp only [List.getElem_toArray, List.getElem_cons_succ, List.getElem_cons_zero, Act.put, List.setIfInBounds_toArray, List.set_cons_zero, List.set_cons_succ]
        refine anyT_take [8] (i := 7) (v := .agg (stC s)) rfl (by kernel_rfl) (by kernel_rfl) (by kernel_rfl) (fun _ _ _ h => h) (by kernel_rfl) (st_yields (by rfl) 53 (.tmp 113) rfl yb (yo + j * 34) rfl s _ (fun _ h => h.2) Tryd.underlying53 rfl (by kernel_rfl)) ⟨HXR.out, HYR.out⟩ ?_
        try simp only [List.getElem_toArray, List.getElem_cons_succ, List.getElem_cons_zero, Act.put, List.setIfInBounds_toArray, List.set_cons_zero, List.set_cons_succ]
        refine anyT_takeY (i := 8) (v := .bool false) rfl (by kernel_rfl) (by kernel_rfl) (by kernel_rfl) (fun _ _ _ h => h) (by kernel_rfl) (Or.inl ⟨by rfl, fun w' => execStep (.tmp 110) (.tmp 114) rfl s rfl rfl⟩) ?_
        try simp only [List.getElem_toArray, List.getElem_cons_succ, List.getElem_cons_zero, Act.put, List.setIfInBounds_toArray, List.set_cons_zero, List.set_cons_succ]
        refine anyT_done (by kernel_rfl) ?_ _
        go_wp2_with (fail)
        go_roundw
        case rel => exact ⟨j + 1, by omega, by go_num, HBS⟩
        case measure => simp [intOf]; omega
      · obtain rfl : j = S.length := by omega
        clear HBS hlt
        obtain ⟨cA, cT, cP⟩ := M.out.cells; obtain ⟨d0, d1, d2, d3⟩ := r_cells M.out.h6
        go_upto_region 19 with (fail)
        refine r19_any _ (by unfold last19; kernel_rfl) (HE.out.below M.out.below HE.out.lt) ⟨Below.refl _ _, M.out.ask, M.out.tree, M.out.h6, M.out.ro, M.out.x.1.1.2, fun a b h hb => h.below hb⟩ HRT.out HRR.out HND.out HRN.out HZF.out HLF.out HRL.out HLN.out HHT.out HRH.out HFI.out HRF.out HR0.out HR1.out HQ1.out (fun _ _ _ _ _ h => h) ?_
        intro z116 z117 z118 z119 z120 z121 z122 z123 z124 z125 z126 z127 z128 z129 z130 z131 z132 z133 z134 z135 z136 z137 z138 z139 z140 z141 z142 z143 z144 z145 z146 z147 z148 z149 z150 z151 z152 z153 z154 z155 z156 z157 z158 z159 z160 z161 z162 z163 z164 z165 z166 z167 z168 z169 z170 z171 z172 z173 z174 z175 z176 z177 z178 z179 z180 z181 z182 z183 z184 z185 z186 z187 z188 z189 z190 z191 z192 z193 z194 z195 z196 z197 z198 z199 z200 z201 z202 z203 w13 hb13
        go_wp2_with (fail)
        go_ret
        exact ⟨rfl, M.out.below.trans (hb13.mono M.out.below.size)⟩
  · replace M := Lib.hid (M.out.add (Y := fun u => KVIn u (.slice ra L.length rc) L) HK.out (fun a b h hb => h.below hb))
    have HEA := Lib.hid hea
    rw [← hpa] at H13
    clear hpa HATO hea HB5 M0 HG5 HG67 HOW HK
    by_cases hp0 : 0 ≤ P
    · have hp1 : ¬ (P < (L.length : Int)) := fun h => hout ⟨hp0, h⟩
      clear hout
      go_upto_region 10 with (fail)
      clear hp0 hp1
      obtain ⟨is, ke, ve, ae, en, ce, rfl⟩ := M.out.ro.form
      clear cA cT cP
      obtain ⟨cA, cT, cP⟩ := M.out.cells; obtain ⟨d0, d1, d2, d3⟩ := r_cells M.out.h6
      go_upto_region 11 with (go_at_call 10; (with_reducible refine (HPA.out _ M.out.tree).mono ?_); rintro e w9 ⟨sv, rfl, hst, hb⟩; replace M := Lib.hid ((M.out.call hb).add (Y := fun u => StIn u sv S) hst (fun a b h hb => h.below hb)); replace H13 := Lib.hid ((hb.block _ (blk_lt H13.out)).trans H13.out); clear hst hb; clear cA cT cP d0 d1 d2 d3; obtain ⟨cA, cT, cP⟩ := M.out.cells; obtain ⟨d0, d1, d2, d3⟩ := r_cells M.out.h6)
      obtain ⟨sa, sc, rfl⟩ := M.out.x.2.len
      go_upto_region 12 with (go_at_call 11; (with_reducible refine (HRP.out _ (HE.out.below M.out.below HE.out.lt) M.out.ro).mono ?_); rintro e w10 ⟨rv, rfl, hro, hb⟩; replace M := Lib.hid ((M.out.call hb).add (Y := fun u => StIn u rv S) (StIn.of_own7 hro) (fun a b h hb => h.below hb)); replace H13 := Lib.hid ((hb.block _ (blk_lt H13.out)).trans H13.out); clear hro hb; clear cA cT cP d0 d1 d2 d3; obtain ⟨cA, cT, cP⟩ := M.out.cells; obtain ⟨d0, d1, d2, d3⟩ := r_cells M.out.h6)
      obtain ⟨qa, qc, rfl⟩ := M.out.x.2.len
      have hne : (numE ea != (1 : Int)) = false := by rw [HEA.out]; rfl
      have hnc : (numE ec != numE ec) = false := by simp
      have hnl : ((S.length : Int) != (S.length : Int)) = false := by simp
      go_upto_region 14 with (first
        | (go_at_call 12; (with_reducible refine (num_any ea _ (HET.out.below M.out.below)).mono ?_); rintro e w11 ⟨rfl, hb⟩; replace M := Lib.hid (M.out.call hb); replace H13 := Lib.hid ((hb.block _ (blk_lt H13.out)).trans H13.out); clear hb; clear cA cT cP d0 d1 d2 d3; obtain ⟨cA, cT, cP⟩ := M.out.cells; obtain ⟨d0, d1, d2, d3⟩ := r_cells M.out.h6; have k0 : w11.cell? ⟨g11, 0, none⟩ = some (.string pa.1) := cell_of_row w11 g11 0 _ _ _ M.out.x.1.1.1.2; have k1 : w11.cell? ⟨g11, 1, none⟩ = some (.string pa.2) := cell_of_row w11 g11 1 _ _ _ M.out.x.1.1.1.2; have l0 : w11.cell? ⟨g13, 0, none⟩ = some (.string pa.1) := cell_of_row w11 g13 0 _ _ _ H13.out; have l1 : w11.cell? ⟨g13, 1, none⟩ = some (.string pa.2) := cell_of_row w11 g13 1 _ _ _ H13.out)
        | (go_at_call 12; (with_reducible refine (num_any ec _ (HET.out.below M.out.below)).mono ?_); rintro e w12 ⟨rfl, hb⟩; clear k0 k1 l0 l1; replace M := Lib.hid (M.out.call hb); clear hb; clear cA cT cP d0 d1 d2 d3; obtain ⟨cA, cT, cP⟩ := M.out.cells; obtain ⟨d0, d1, d2, d3⟩ := r_cells M.out.h6))
      clear hne hnc hnl H13 HEA
      go_wp2_with (fail)
      have HBS := Lib.hid (Below.refl w12.heap.size w12)
      go_loopw [20] (fun x wr => ∃ k : Nat, k ≤ S.length ∧ x = .int .i64 (k : Int) ∧ Hid (Below w12.heap.size w12 wr)) (fun x _ => S.length - (intOf x).toNat)
      case atStart => exact ⟨0, by omega, rfl, HBS⟩
      case round =>
        clear HBS cA cT cP d0 d1 d2 d3
        obtain ⟨j, hjl, rfl, HBS⟩ := hrel
        replace M := Lib.hid (M.out.call HBS.out)
        by_cases hlt : j < S.length
        · obtain ⟨s, hs⟩ : ∃ s, S[j]? = some s := ⟨S[j], List.getElem?_eq_getElem hlt⟩
          obtain ⟨xb, xo, rfl, hxb, hxr⟩ := M.out.x.1.2.at j s hs
          obtain ⟨yb, yo, rfl, hyb, hyr⟩ := M.out.x.2.at j s hs
          have HXR := Lib.hid hxr
          have HYR := Lib.hid hyr
          have hltI : (j : Int) < (S.length : Int) := by omega
          clear hs hxb hyb hxr hyr
          go_upto_region 17 with (fail)
          refine wp_region_T (fun w' => w'.rangeAt xb (xo + j * 34) s.cells ∧ w'.rangeAt yb (yo + j * 34) s.cells) [2, 3, 6, 7] (by kernel_rfl) ?_
          replace HBS := Lib.hid HBS.out.drew
          replace HXR := Lib.hid (show wr.drew.rangeAt xb (xo + j * 34) s.cells from HXR.out)
          replace HYR := Lib.hid (show wr.drew.rangeAt yb (yo + j * 34) s.cells from HYR.out)
          clear M
          generalize wr.drew = w13 at *
          refine anyT_takeY (i := 0) (v := .slice (some ⟨xb, xo, none⟩) S.length sc) rfl (by kernel_rfl) (by kernel_rfl) (by kernel_rfl) (fun _ _ _ h => h) (by kernel_rfl) (Or.inl ⟨by rfl, by intro w; go_simp⟩) ?_
          try simp only [List.getElem_toArray, List.getElem_cons_succ, List.getElem_cons_zero, Act.put, List.setIfInBounds_toArray, List.set_cons_zero, List.set_cons_succ]
          refine anyT_takeY (i := 1) (v := .int .i64 (j : Int)) rfl (by kernel_rfl) (by kernel_rfl) (by kernel_rfl) (fun _ _ _ h => h) (by kernel_rfl) (Or.inl ⟨by rfl, by intro w; go_simp⟩) ?_
          try simp only [List.getElem_toArray, List.getElem_cons_succ, List.getElem_cons_zero, Act.put, List.setIfInBounds_toArray, List.set_cons_zero, List.set_cons_succ]
          refine anyT_takeY (i := 4) (v := .slice (some ⟨yb, yo, none⟩) S.length qc) rfl (by kernel_rfl) (by kernel_rfl) (by kernel_rfl) (fun _ _ _ h => h) (by kernel_rfl) (Or.inl ⟨by rfl, by intro w; go_simp⟩) ?_
          try simp only [List.getElem_toArray, List.getElem_cons_succ, List.getElem_cons_zero, Act.put, List.setIfInBounds_toArray, List.set_cons_zero, List.set_cons_succ]
          refine anyT_takeY (i := 5) (v := .int .i64 (j : Int)) rfl (by kernel_rfl) (by kernel_rfl) (by kernel_rfl) (fun _ _ _ h => h) (by kernel_rfl) (Or.inl ⟨by rfl, by intro w; go_simp⟩) ?_
          try simp only [List.getElem_toArray, List.getElem_cons_succ, List.getElem_cons_zero, Act.put, List.setIfInBounds_toArray, List.set_cons_zero, List.set_cons_succ]
          refine anyT_take [3, 8] (i := 2) (v := .pointer (some ⟨xb, xo + j * 34, none⟩)) rfl (by kernel_rfl) (by kernel_rfl) (by kernel_rfl) (fun _ _ _ h => h) (by kernel_rfl) (Or.inl ⟨by rfl, fun w' _ => by go_simp⟩) ⟨HXR.out, HYR.out⟩ ?_
          try simp only [List.getElem_toArray, List.getElem_cons_succ, List.getElem_cons_zero, Act.put, List.setIfInBounds_toArray, List.set_cons_zero, List.set_cons_succ]
          refine anyT_take [7, 8] (i := 6) (v := .pointer (some ⟨yb, yo + j * 34, none⟩)) rfl (by kernel_rfl) (by kernel_rfl) (by kernel_rfl) (fun _ _ _ h => h) (by kernel_rfl) (Or.inl ⟨by rfl, fun w' _ => by go_simp⟩) ⟨HXR.out, HYR.out⟩ ?_
          try simp only [List.getElem_toArray, List.getElem_cons_succ, List.getElem_cons_zero, Act.put, List.setIfInBounds_toArray, List.set_cons_zero, List.set_cons_succ]
          refine anyT_take [8] (i := 3) (v := .agg (stC s)) rfl (by kernel_rfl) (by kernel_rfl) (by kernel_rfl) (fun _ _ _ h => h) (by kernel_rfl) (st_yields (by rfl) 52 (.tmp 109) rfl xb (xo + j * 34) rfl s _ (fun _ h => h.1) Tryd.underlying52 rfl (by kernel_rfl)) ⟨HXR.out, HYR.out⟩ ?_
          try simp only [List.getElem_toArray, List.getElem_cons_succ, List.getElem_cons_zero, Act.put, List.setIfInBounds_toArray, List.set_cons_zero, List.set_cons_succ]
          refine anyT_take [8] (i := 7) (v := .agg (stC s)) rfl (by kernel_rfl) (by kernel_rfl) (by kernel_rfl) (fun _ _ _ h => h) (by kernel_rfl) (st_yields (by rfl) 53 (.tmp 113) rfl yb (yo + j * 34) rfl s _ (fun _ h => h.2) Tryd.underlying53 rfl (by kernel_rfl)) ⟨HXR.out, HYR.out⟩ ?_
          try simp only [List.getElem_toArray, List.getElem_cons_succ, List.getElem_cons_zero, Act.put, List.setIfInBounds_toArray, List.set_cons_zero, List.set_cons_succ]
          refine anyT_takeY (i := 8) (v := .bool false) rfl (by kernel_rfl) (by kernel_rfl) (by kernel_rfl) (fun _ _ _ h => h) (by kernel_rfl) (Or.inl ⟨by rfl, fun w' => execStep (.tmp 110) (.tmp 114) rfl s rfl rfl⟩) ?_
          try simp only [List.getElem_toArray, List.getElem_cons_succ, List.getElem_cons_zero, Act.put, List.setIfInBounds_toArray, List.set_cons_zero, List.set_cons_succ]
          refine anyT_done (by kernel_rfl) ?_ _
          go_wp2_with (fail)
          go_roundw
          case rel => exact ⟨j + 1, by omega, by go_num, HBS⟩
          case measure => simp [intOf]; omega
        · obtain rfl : j = S.length := by omega
          clear HBS hlt
          obtain ⟨cA, cT, cP⟩ := M.out.cells; obtain ⟨d0, d1, d2, d3⟩ := r_cells M.out.h6
          go_upto_region 19 with (fail)
          refine r19_any _ (by unfold last19; kernel_rfl) (HE.out.below M.out.below HE.out.lt) ⟨Below.refl _ _, M.out.ask, M.out.tree, M.out.h6, M.out.ro, M.out.x.1.1.2, fun a b h hb => h.below hb⟩ HRT.out HRR.out HND.out HRN.out HZF.out HLF.out HRL.out HLN.out HHT.out HRH.out HFI.out HRF.out HR0.out HR1.out HQ1.out (fun _ _ _ _ _ h => h) ?_
          intro z116 z117 z118 z119 z120 z121 z122 z123 z124 z125 z126 z127 z128 z129 z130 z131 z132 z133 z134 z135 z136 z137 z138 z139 z140 z141 z142 z143 z144 z145 z146 z147 z148 z149 z150 z151 z152 z153 z154 z155 z156 z157 z158 z159 z160 z161 z162 z163 z164 z165 z166 z167 z168 z169 z170 z171 z172 z173 z174 z175 z176 z177 z178 z179 z180 z181 z182 z183 z184 z185 z186 z187 z188 z189 z190 z191 z192 z193 z194 z195 z196 z197 z198 z199 z200 z201 z202 z203 w13 hb13
          go_wp2_with (fail)
          go_ret
          exact ⟨rfl, M.out.below.trans (hb13.mono M.out.below.size)⟩
    · clear hout
      go_upto_region 10 with (fail)
      clear hp0
      obtain ⟨is, ke, ve, ae, en, ce, rfl⟩ := M.out.ro.form
      clear cA cT cP
      obtain ⟨cA, cT, cP⟩ := M.out.cells; obtain ⟨d0, d1, d2, d3⟩ := r_cells M.out.h6
      go_upto_region 11 with (go_at_call 10; (with_reducible refine (HPA.out _ M.out.tree).mono ?_); rintro e w9 ⟨sv, rfl, hst, hb⟩; replace M := Lib.hid ((M.out.call hb).add (Y := fun u => StIn u sv S) hst (fun a b h hb => h.below hb)); replace H13 := Lib.hid ((hb.block _ (blk_lt H13.out)).trans H13.out); clear hst hb; clear cA cT cP d0 d1 d2 d3; obtain ⟨cA, cT, cP⟩ := M.out.cells; obtain ⟨d0, d1, d2, d3⟩ := r_cells M.out.h6)
      obtain ⟨sa, sc, rfl⟩ := M.out.x.2.len
      go_upto_region 12 with (go_at_call 11; (with_reducible refine (HRP.out _ (HE.out.below M.out.below HE.out.lt) M.out.ro).mono ?_); rintro e w10 ⟨rv, rfl, hro, hb⟩; replace M := Lib.hid ((M.out.call hb).add (Y := fun u => StIn u rv S) (StIn.of_own7 hro) (fun a b h hb => h.below hb)); replace H13 := Lib.hid ((hb.block _ (blk_lt H13.out)).trans H13.out); clear hro hb; clear cA cT cP d0 d1 d2 d3; obtain ⟨cA, cT, cP⟩ := M.out.cells; obtain ⟨d0, d1, d2, d3⟩ := r_cells M.out.h6)
      obtain ⟨qa, qc, rfl⟩ := M.out.x.2.len
      have hne : (numE ea != (1 : Int)) = false := by rw [HEA.out]; rfl
      have hnc : (numE ec != numE ec) = false := by simp
      have hnl : ((S.length : Int) != (S.length : Int)) = false := by simp
      go_upto_region 14 with (first
        | (go_at_call 12; (with_reducible refine (num_any ea _ (HET.out.below M.out.below)).mono ?_); rintro e w11 ⟨rfl, hb⟩; replace M := Lib.hid (M.out.call hb); replace H13 := Lib.hid ((hb.block _ (blk_lt H13.out)).trans H13.out); clear hb; clear cA cT cP d0 d1 d2 d3; obtain ⟨cA, cT, cP⟩ := M.out.cells; obtain ⟨d0, d1, d2, d3⟩ := r_cells M.out.h6; have k0 : w11.cell? ⟨g11, 0, none⟩ = some (.string pa.1) := cell_of_row w11 g11 0 _ _ _ M.out.x.1.1.1.2; have k1 : w11.cell? ⟨g11, 1, none⟩ = some (.string pa.2) := cell_of_row w11 g11 1 _ _ _ M.out.x.1.1.1.2; have l0 : w11.cell? ⟨g13, 0, none⟩ = some (.string pa.1) := cell_of_row w11 g13 0 _ _ _ H13.out; have l1 : w11.cell? ⟨g13, 1, none⟩ = some (.string pa.2) := cell_of_row w11 g13 1 _ _ _ H13.out)
        | (go_at_call 12; (with_reducible refine (num_any ec _ (HET.out.below M.out.below)).mono ?_); rintro e w12 ⟨rfl, hb⟩; clear k0 k1 l0 l1; replace M := Lib.hid (M.out.call hb); clear hb; clear cA cT cP d0 d1 d2 d3; obtain ⟨cA, cT, cP⟩ := M.out.cells; obtain ⟨d0, d1, d2, d3⟩ := r_cells M.out.h6))
      clear hne hnc hnl H13 HEA
      go_wp2_with (fail)
      have HBS := Lib.hid (Below.refl w12.heap.size w12)
      go_loopw [20] (fun x wr => ∃ k : Nat, k ≤ S.length ∧ x = .int .i64 (k : Int) ∧ Hid (Below w12.heap.size w12 wr)) (fun x _ => S.length - (intOf x).toNat)
      case atStart => exact ⟨0, by omega, rfl, HBS⟩
      case round =>
        clear HBS cA cT cP d0 d1 d2 d3
        obtain ⟨j, hjl, rfl, HBS⟩ := hrel
        replace M := Lib.hid (M.out.call HBS.out)
        by_cases hlt : j < S.length
        · obtain ⟨s, hs⟩ : ∃ s, S[j]? = some s := ⟨S[j], List.getElem?_eq_getElem hlt⟩
          obtain ⟨xb, xo, rfl, hxb, hxr⟩ := M.out.x.1.2.at j s hs
          obtain ⟨yb, yo, rfl, hyb, hyr⟩ := M.out.x.2.at j s hs
          have HXR := Lib.hid hxr
          have HYR := Lib.hid hyr
          have hltI : (j : Int) < (S.length : Int) := by omega
          clear hs hxb hyb hxr hyr
          go_upto_region 17 with (fail)
          refine wp_region_T (fun w' => w'.rangeAt xb (xo + j * 34) s.cells ∧ w'.rangeAt yb (yo + j * 34) s.cells) [2, 3, 6, 7] (by kernel_rfl) ?_
          replace HBS := Lib.hid HBS.out.drew
          replace HXR := Lib.hid (show wr.drew.rangeAt xb (xo + j * 34) s.cells from HXR.out)
          replace HYR := Lib.hid (show wr.drew.rangeAt yb (yo + j * 34) s.cells from HYR.out)
          clear M
          generalize wr.drew = w13 at *
          refine anyT_takeY (i := 0) (v := .slice (some ⟨xb, xo, none⟩) S.length sc) rfl (by kernel_rfl) (by kernel_rfl) (by kernel_rfl) (fun _ _ _ h => h) (by kernel_rfl) (Or.inl ⟨by rfl, by intro w; go_simp⟩) ?_
          try simp only [List.getElem_toArray, List.getElem_cons_succ, List.getElem_cons_zero, Act.put, List.setIfInBounds_toArray, List.set_cons_zero, List.set_cons_succ]
          refine anyT_takeY (i := 1) (v := .int .i64 (j : Int)) rfl (by kernel_rfl) (by kernel_rfl) (by kernel_rfl) (fun _ _ _ h => h) (by kernel_rfl) (Or.inl ⟨by rfl, by intro w; go_simp⟩) ?_
          try simp only [List.getElem_toArray, List.getElem_cons_succ, List.getElem_cons_zero, Act.put, List.setIfInBounds_toArray, List.set_cons_zero, List.set_cons_succ]
          refine anyT_takeY (i := 4) (v := .slice (some ⟨yb, yo, none⟩) S.length qc) rfl (by kernel_rfl) (by kernel_rfl) (by kernel_rfl) (fun _ _ _ h => h) (by kernel_rfl) (Or.inl ⟨by rfl, by intro w; go_simp⟩) ?_
          try simp only [List.getElem_toArray, List.getElem_cons_succ, List.getElem_cons_zero, Act.put, List.setIfInBounds_toArray, List.set_cons_zero, List.set_cons_succ]
          refine anyT_takeY (i := 5) (v := .int .i64 (j : Int)) rfl (by kernel_rfl) (by kernel_rfl) (by kernel_rfl) (fun _ _ _ h => h) (by kernel_rfl) (Or.inl ⟨by rfl, by intro w; go_simp⟩) ?_
          try simp only [List.getElem_toArray, List.getElem_cons_succ, List.getElem_cons_zero, Act.put, List.setIfInBounds_toArray, List.set_cons_zero, List.set_cons_succ]
          refine anyT_take [3, 8] (i := 2) (v := .pointer (some ⟨xb, xo + j * 34, none⟩)) rfl (by kernel_rfl) (by kernel_rfl) (by kernel_rfl) (fun _ _ _ h => h) (by kernel_rfl) (Or.inl ⟨by rfl, fun w' _ => by go_simp⟩) ⟨HXR.out, HYR.out⟩ ?_
          try simp only [List.getElem_toArray, List.getElem_cons_succ, List.getElem_cons_zero, Act.put, List.setIfInBounds_toArray, List.set_cons_zero, List.set_cons_succ]
          refine anyT_take [7, 8] (i := 6) (v := .pointer (some ⟨yb, yo + j * 34, none⟩)) rfl (by kernel_rfl) (by kernel_rfl) (by kernel_rfl) (fun _ _ _ h => h) (by kernel_rfl) (Or.inl ⟨by rfl, fun w' _ => by go_simp⟩) ⟨HXR.out, HYR.out⟩ ?_
          try simp only [List.getElem_toArray, List.getElem_cons_succ, List.getElem_cons_zero, Act.put, List.setIfInBounds_toArray, List.set_cons_zero, List.set_cons_succ]
          refine anyT_take [8] (i := 3) (v := .agg (stC s)) rfl (by kernel_rfl) (by kernel_rfl) (by kernel_rfl) (fun _ _ _ h => h) (by kernel_rfl) (st_yields (by rfl) 52 (.tmp 109) rfl xb (xo + j * 34) rfl s _ (fun _ h => h.1) Tryd.underlying52 rfl (by kernel_rfl)) ⟨HXR.out, HYR.out⟩ ?_
          try simp only [List.getElem_toArray, List.getElem_cons_succ, List.getElem_cons_zero, Act.put, List.setIfInBounds_toArray, List.set_cons_zero, List.set_cons_succ]
          refine anyT_take [8] (i := 7) (v := .agg (stC s)) rfl (by kernel_rfl) (by kernel_rfl) (by kernel_rfl) (fun _ _ _ h => h) (by kernel_rfl) (st_yields (by rfl) 53 (.tmp 113) rfl yb (yo + j * 34) rfl s _ (fun _ h => h.2) Tryd.underlying53 rfl (by kernel_rfl)) ⟨HXR.out, HYR.out⟩ ?_
          try simp only [List.getElem_toArray, List.getElem_cons_succ, List.getElem_cons_zero, Act.put, List.setIfInBounds_toArray, List.set_cons_zero, List.set_cons_succ]
          refine anyT_takeY (i := 8) (v := .bool false) rfl (by kernel_rfl) (by kernel_rfl) (by kernel_rfl) (fun _ _ _ h => h) (by kernel_rfl) (Or.inl ⟨by rfl, fun w' => execStep (.tmp 110) (.tmp 114) rfl s rfl rfl⟩) ?_
          try simp only [List.getElem_toArray, List.getElem_cons_succ, List.getElem_cons_zero, Act.put, List.setIfInBounds_toArray, List.set_cons_zero, List.set_cons_succ]
          refine anyT_done (by kernel_rfl) ?_ _
          go_wp2_with (fail)
          go_roundw
          case rel => exact ⟨j + 1, by omega, by go_num, HBS⟩
          case measure => simp [intOf]; omega
        · obtain rfl : j = S.length := by omega
          clear HBS hlt
          obtain ⟨cA, cT, cP⟩ := M.out.cells; obtain ⟨d0, d1, d2, d3⟩ := r_cells M.out.h6
          go_upto_region 19 with (fail)
          refine r19_any _ (by unfold last19; kernel_rfl) (HE.out.below M.out.below HE.out.lt) ⟨Below.refl _ _, M.out.ask, M.out.tree, M.out.h6, M.out.ro, M.out.x.1.1.2, fun a b h hb => h.below hb⟩ HRT.out HRR.out HND.out HRN.out HZF.out HLF.out HRL.out HLN.out HHT.out HRH.out HFI.out HRF.out HR0.out HR1.out HQ1.out (fun _ _ _ _ _ h => h) ?_
          intro z116 z117 z118 z119 z120 z121 z122 z123 z124 z125 z126 z127 z128 z129 z130 z131 z132 z133 z134 z135 z136 z137 z138 z139 z140 z141 z142 z143 z144 z145 z146 z147 z148 z149 z150 z151 z152 z153 z154 z155 z156 z157 z158 z159 z160 z161 z162 z163 z164 z165 z166 z167 z168 z169 z170 z171 z172 z173 z174 z175 z176 z177 z178 z179 z180 z181 z182 z183 z184 z185 z186 z187 z188 z189 z190 z191 z192 z193 z194 z195 z196 z197 z198 z199 z200 z201 z202 z203 w13 hb13
          go_wp2_with (fail)
          go_ret
          exact ⟨rfl, M.out.below.trans (hb13.mono M.out.below.size)⟩
end Go.Proofs.YtjocbpabbbdkcaaDoor
