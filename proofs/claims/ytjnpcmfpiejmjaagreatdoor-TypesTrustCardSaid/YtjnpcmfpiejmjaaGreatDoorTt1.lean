/- Part 1 of the proof. -/
import Derived.Test.YtjnpcmfpiejmjaaGreatDoorVo43
namespace Go.Proofs.YtjnpcmfpiejmjaaGreatDoor
set_option linter.unusedVariables false
set_option linter.unusedSimpArgs false
open Go.RowKit
set_option maxRecDepth 1000000
set_option linter.unusedSimpArgs false
set_option linter.unusedVariables false
theorem str_not {A B : ByteArray} (h : A ≠ B) : (A.toList == B.toList) = false := by rw [beqT, decide_eq_false h]
set_option maxHeartbeats 32000000 in
theorem ltrust_any (chain : ByteArray) (l : List Va) (lv : Value) (D E : Int) (c : Cm) (xs : List Vo) (vx : Value) (CH : ByteArray) (HT TM : Int) (LA AP TX VA NX : Nat → Int) (PR : Int) (w : World) (he : Env w) (hg : ErrType w) (hl : VaIn w lv l) (hx : VoIn w vx xs) (hsx : ∀ t ∈ xs, BytesIn w t.sv t.sign) (hc : chain.size ≤ 140737488351232) (hz : ∀ x ∈ l, x.name.size ≤ 140737488351232) (hk : ∀ x ∈ l, ∀ i, i < 32 → 0 ≤ x.key i ∧ x.key i < 256) (hox : ∀ t ∈ xs, VoIs t)
    (hHT : -9223372036854775808 ≤ HT ∧ HT ≤ 9223372036854775807) (hTM : -9223372036854775808 ≤ TM ∧ TM ≤ 9223372036854775807) (hPR : -9223372036854775808 ≤ PR ∧ PR ≤ 9223372036854775807) (h1 : byOk LA) (h2 : byOk AP) (h3 : byOk TX) (h4 : byOk VA) (h5 : byOk NX) (hCH : CH.size ≤ 140737488351232) :
    Calls Tryz.prog 7 #[.agg (csC chain lv D E), .agg (cmC c vx), .agg (hdD CH HT TM LA AP TX VA NX PR)] w fun e w' => e = .returned (.bool true) ∧ Below w.heap.size w w' := by
  obtain ⟨la, lc, rfl, -, hlm⟩ := hl.len
  obtain ⟨xa, xc, rfl, -, hxm⟩ := hx.len
  have HE := Lib.hid he
  have HG := Lib.hid hg
  have HSU := Lib.hid (fun w' (h : Below w.heap.size w w') => tysure_any w' (HG.out.below h))
  have HV1 := Lib.hid (show ∀ w, Env w → VaIn w (.slice la l.length lc) l → VoIn w (.slice xa xs.length xc) xs → (∀ t ∈ xs, BytesIn w t.sv t.sign) → Calls Tryz.prog 50 #[.string chain, .slice la l.length lc, .agg (parC D (cutE4 E)), .agg (cmC c (.slice xa xs.length xc))] w fun e w' => e = .returned (errV (vcE chain l D (cutE4 E) c xs)) ∧ Below w.heap.size w w' from fun w he h1 h2 h3 => vcommit_any chain l _ D (cutE4 E) c xs _ w he h1 h2 h3 hc hz hox)
  have HVT := Lib.hid (show vcE chain l D (cutE4 E) c xs = none → ∀ w, VaIn w (.slice la l.length lc) l → VoIn w (.slice xa xs.length xc) xs → Calls Tryz.prog 51 #[.slice la l.length lc, .slice la l.length lc, .agg (cmC c (.slice xa xs.length xc))] w fun e w' => e = .returned (errV none) ∧ Below w.heap.size w w' from fun hv w h1 h2 => by
    have h := vtrust_any l l xs c _ _ _ w h1 h1 h2 (fun x hx => ⟨hz x hx, hk x hx⟩) (fun x hx => ⟨hz x hx, hk x hx⟩) (vc_set hv) (fun t ht => by obtain ⟨a, cp, e, _⟩ := hsx t ht; exact ⟨_, _, _, e⟩)
    rw [trust_of hv] at h
    exact h)
  have HEN := Lib.hid (show ∀ (TN : Int) (AQ : Nat → Int), (-9223372036854775808 ≤ TN ∧ TN ≤ 9223372036854775807) → ∀ w, Calls Tryz.prog 35 #[.agg (hdD CH HT TN LA AQ TX VA NX PR)] w fun e w' => ∃ vb, e = .returned vb ∧ BytesIn w' vb (hdL CH HT TN LA AQ TX VA NX PR) ∧ Below w.heap.size w w' from fun TN AQ hb w => eheader_any CH HT TN LA AQ TX VA NX PR w hHT hb hPR (by omega))
  obtain ⟨TN, hTN⟩ : ∃ t, t = bits .xor .i64 TM 1 := ⟨_, rfl⟩
  obtain ⟨AN, hAN⟩ : ∃ t, t = bits .xor .u8 (AP 0) 1 := ⟨_, rfl⟩
  have HTN := Lib.hid hTN
  have HAN := Lib.hid hAN
  have HTB := Lib.hid (show -9223372036854775808 ≤ TN ∧ TN ≤ 9223372036854775807 by rw [hTN]; exact (xor1_i64 hTM).1)
  have HMB := Lib.hid hTM
  have HANB := Lib.hid (show 0 ≤ AN ∧ AN < 256 by rw [hAN]; exact (xor1_u8 (h2 0 (by omega))).1)
  obtain ⟨S0, hS0⟩ : ∃ s, s = strOfNums (hdL CH HT TM LA AP TX VA NX PR) := ⟨_, rfl⟩
  obtain ⟨S1, hS1⟩ : ∃ s, s = strOfNums (hdL CH HT TN LA AP TX VA NX PR) := ⟨_, rfl⟩
  obtain ⟨S2, hS2⟩ : ∃ s, s = strOfNums (hdL CH HT TM LA (upd AP 0 AN) TX VA NX PR) := ⟨_, rfl⟩
  have HN1 := Lib.hid (show (S1.toList == S0.toList) = false from str_not (by rw [hS1, hS0]; exact hd_sTime h1 h2 h3 h4 h5 hTM HTB.out (by rw [hTN]; exact (xor1_i64 hTM).2)))
  have HN2 := Lib.hid (show (S2.toList == S0.toList) = false from str_not (by rw [hS2, hS0]; exact hd_sApp h1 h2 (upd_ok h2 HANB.out) h3 h4 h5 (by rw [upd_zero, hAN]; exact (xor1_u8 (h2 0 (by omega))).2)))
  have HS0 := Lib.hid hS0
  have HS1 := Lib.hid hS1
  have HS2 := Lib.hid hS2
  obtain ⟨nl, hnl⟩ : ∃ n, n = l.length := ⟨_, rfl⟩
  obtain ⟨nx, hnx⟩ : ∃ n, n = xs.length := ⟨_, rfl⟩
  have HNL := Lib.hid hnl
  have HNX := Lib.hid hnx
  obtain ⟨E2, hE2⟩ : ∃ e, e = cutE4 E := ⟨_, rfl⟩
  have HCU := Lib.hid (fun w => lcut11_any D E w)
  rw [← hE2] at HV1 HVT HCU
  have hb1 := below_alloc w (.cells (csC chain (.slice la l.length lc) D E) 44)
  have hb2 := below_alloc (w.alloc (.cells (csC chain (.slice la l.length lc) D E) 44)) (.cells (cmC c (.slice xa xs.length xc)) 59)
  have hb3 := below_alloc ((w.alloc (.cells (csC chain (.slice la l.length lc) D E) 44)).alloc (.cells (cmC c (.slice xa xs.length xc)) 59)) (.cells (hdD CH HT TM LA AP TX VA NX PR) 55)
  have h3' := heap_alloc_new w (.cells (csC chain (.slice la l.length lc) D E) 44)
  have h4' := heap_alloc_new (w.alloc (.cells (csC chain (.slice la l.length lc) D E) 44)) (.cells (cmC c (.slice xa xs.length xc)) 59)
  have h5' := heap_alloc_new ((w.alloc (.cells (csC chain (.slice la l.length lc) D E) 44)).alloc (.cells (cmC c (.slice xa xs.length xc)) 59)) (.cells (hdD CH HT TM LA AP TX VA NX PR) 55)
  rw [size_alloc] at h4' h5'
  rw [size_alloc] at h5'
  have M := Lib.hid (show Kp w (((w.alloc (.cells (csC chain (.slice la l.length lc) D E) 44)).alloc (.cells (cmC c (.slice xa xs.length xc)) 59)).alloc (.cells (hdD CH HT TM LA AP TX VA NX PR) 55)) (fun W => TrX w.heap.size (w.heap.size + 1) chain D E c (.slice la l.length lc) (.slice xa xs.length xc) l xs W ∧ W.heap[w.heap.size + 1 + 1]? = some (.cells (hdD CH HT TM LA AP TX VA NX PR) 55 (0, 0))) from
    ⟨(hb1.trans (hb2.mono (by simp))).trans (hb3.mono (by simp; omega)), ⟨⟨(hb3.block _ (by simp; omega)).trans ((hb2.block _ (by simp)).trans h3'), (hb3.block _ (by simp)).trans h4', ((hl.below hb1).below hb2).below hb3, ((hx.below hb1).below hb2).below hb3, fun t ht => (((hsx t ht).below hb1).below hb2).below hb3⟩, h5'⟩, (kept_trx _ _ _ _ _ _ _ _ _ _).and (kept_blk _ _)⟩)
  rw [← hnl, ← hnx] at M HV1 HVT
  have hnlI : (nl : Int) ≤ 9223372036854775807 := by unfold maxLen at hlm; omega
  have hnxI : (nx : Int) ≤ 9223372036854775807 := by unfold maxLen at hxm; omega
  rw [← hnl, ← hnx]
  clear hb1 hb2 hb3 h3' h4' h5' he hg hl hx hsx hc hz hk hox hnl hnx hlm hxm hE2 hHT hTM hPR h1 h2 h3 h4 h5 hCH hTN hAN hS0 hS1 hS2
  obtain ⟨L0, hL0⟩ : ∃ s, s = hdL CH HT TM LA AP TX VA NX PR := ⟨_, rfl⟩
  obtain ⟨L1, hL1⟩ : ∃ s, s = hdL CH HT TN LA AP TX VA NX PR := ⟨_, rfl⟩
  obtain ⟨L2, hL2⟩ : ∃ s, s = hdL CH HT TM LA (upd AP 0 AN) TX VA NX PR := ⟨_, rfl⟩
  have HE0 := Lib.hid (HEN.out TM AP HMB.out)
  have HE1 := Lib.hid (HEN.out TN AP HTB.out)
  have HE2 := Lib.hid (HEN.out TM (upd AP 0 AN) HMB.out)
  rw [← hL0] at HE0 HS0
  rw [← hL1] at HE1 HS1
  rw [← hL2] at HE2 HS2
  clear hL0 hL1 hL2 HEN
  go_enter Tryz.func7, Tryz.ntmps7
  go_upto_region 1 with (fail)
  obtain ⟨g3, hg3⟩ : ∃ g, g = w.heap.size := ⟨_, rfl⟩
  obtain ⟨g4, hg4⟩ : ∃ g, g = w.heap.size + 1 := ⟨_, rfl⟩
  obtain ⟨g5, hg5⟩ : ∃ g, g = w.heap.size + 1 + 1 := ⟨_, rfl⟩
  rw [← hg5, ← hg4, ← hg3] at M
  first
    | rw [← hg5, ← hg4, ← hg3]
    | rw [show w.heap.size + 2 = g5 from hg5.symm, ← hg4, ← hg3]
  clear hg3 hg4 hg5
  generalize ((w.alloc (.cells (csC chain (.slice la nl lc) D E) 44)).alloc (.cells (cmC c (.slice xa nx xc)) 59)).alloc (.cells (hdD CH HT TM LA AP TX VA NX PR) 55) = w1 at *
  go_upto_region 2 with (first
    | (refine wpList_load_rowT (by rfl) 42 (.tmp 10) rfl g3 2 rfl (parC D E) _ (cs_cells M.out.x.1.h3).2.2 Tryz.underlying42 rfl (by kernel_rfl) ?_)
    | (go_at_call 20; (with_reducible refine (HCU.out _).mono ?_); rintro e w2 ⟨rfl, hb⟩; replace M := Lib.hid (M.out.call hb); clear hb)
    | (refine wpList_store_row rfl 42 (.tmp 7) (.tmp 12) rfl w2.heap.size (parC D E2) rfl rfl 42 _ (heap_alloc_new _ _) (by kernel_rfl) (by rfl) (par11_one _ _) ?_; rw [World.setRow_alloc_new]))
  have hb := below_alloc w2 (.cells (parC D E2) 42)
  replace M := Lib.hid ((M.out.call hb).add (heap_alloc_new w2 (.cells (parC D E2) 42)) (kept_blk _ _))
  obtain ⟨g7, hg7⟩ : ∃ g, g = w2.heap.size := ⟨_, rfl⟩
  rw [← hg7] at M ⊢
  clear hg7 hb HCU
  generalize w2.alloc (.cells (parC D E2) 42) = w3 at *
  have c4 := (cm_cells M.out.x.1.1.h4).2.2.2
  by_cases hx40 : 40 < nx
  · have hI : (40 : Int) < (nx : Int) := by omega
    clear hx40
    go_wp2_with (go_at_call 19; (with_reducible refine (HSU.out _ M.out.below).mono ?_); rintro e w4 ⟨rfl, hb⟩; replace M := Lib.hid (M.out.call hb); clear hb)
    go_ret
    exact ⟨rfl, M.out.below⟩
  have hI : ¬ (40 : Int) < (nx : Int) := by omega
  clear hx40
  go_upto_region 4 with (fail)
  have c30 := (cs_cells M.out.x.1.1.h3).1
  have c31 := (cs_cells M.out.x.1.1.h3).2.1
  obtain ⟨r1, hr1⟩ : ∃ r, r = vcE chain l D E2 c xs := ⟨_, rfl⟩
  rw [← hr1] at HV1 HVT
  clear hr1
  cases r1 with
  | some x =>
    simp only [errV] at HV1
    clear HVT
    go_upto_region 6 with (first
      | (refine wpList_load_rowT (by rfl) 42 (.tmp 7) rfl g7 0 rfl (parC D E2) _ (rowT_range M.out.x.2) Tryz.underlying42 rfl (by kernel_rfl) ?_)
      | (refine wpList_load_rowT (by rfl) 59 (.tmp 4) rfl g4 0 rfl (cmC c (.slice xa nx xc)) _ (rowT_range M.out.x.1.1.h4) Tryz.underlying59 rfl (by rw [cmC_size]; kernel_rfl) ?_)
      | (go_at_call 50; (with_reducible refine (HV1.out _ (HE.out.below M.out.below HE.out.lt) M.out.x.1.1.l M.out.x.1.1.x M.out.x.1.1.sx).mono ?_); rintro e w4 ⟨rfl, hb⟩; replace M := Lib.hid (M.out.call hb); clear hb))
    clear c4 c30 c31 HV1
    have H5 := Lib.hid M.out.x.1.2
    go_upto_region 7 with (first
      | (refine wpList_load_rowT (by rfl) 55 (.tmp 5) rfl g5 0 rfl (hdD CH HT TM LA AP TX VA NX PR) _ (rowT_range H5.out) Tryz.underlying55 rfl (by rw [hdD_size]; kernel_rfl) ?_)
      | (refine wpList_store_row rfl 55 (.tmp 8) (.tmp 35) rfl w4.heap.size (hdD CH HT TM LA AP TX VA NX PR) rfl rfl 55 _ (heap_alloc_new _ _) (by rw [hdD_size]; kernel_rfl) (by rw [hdD_size]; rfl) (hdD_one _ _ _ _ _ _ _ _ _) ?_; rw [World.setRow_alloc_new]))
    have H8 := Lib.hid (heap_alloc_new w4 (.cells (hdD CH HT TM LA AP TX VA NX PR) 55))
    have HB := Lib.hid (below_alloc w4 (.cells (hdD CH HT TM LA AP TX VA NX PR) 55))
    obtain ⟨g8, hg8⟩ : ∃ g, g = w4.heap.size := ⟨_, rfl⟩
    have HG8 := Lib.hid hg8
    rw [← hg8] at H8 HB ⊢
    clear hg8
    generalize w4.alloc (.cells (hdD CH HT TM LA AP TX VA NX PR) 55) = w5 at *
    have c8 := (hdD_cells H8.out).2.2.1
    have f8 : w5.frozen? ⟨g8, 2, none⟩ = false := frozen_of_row _ _ _ _ _ H8.out
    go_upto_region 8 with (fail)
    try rw [← HTN.out]
    clear c8 f8
    have HO := Lib.hid (Only.setCell w5 ⟨g8, 2, none⟩ (.int .i64 TN))
    replace H8 := Lib.hid (show (w5.setCell ⟨g8, 2, none⟩ (.int .i64 TN)).heap[g8]? = some (.cells (hdD CH HT TN LA AP TX VA NX PR) 55 (0, 0)) by rw [heap_setCell_same w5 g8 2 _ _ _ H8.out, hdD_setTime])
    replace HB := Lib.hid (HB.out.trans (HO.out.below (Nat.le_refl _) (by have := HB.out.size; have := HG8.out; omega)))
    replace M := Lib.hid ((M.out.call (HB.out.mono (Nat.le_of_eq HG8.out.symm))).add H8.out (kept_blk _ _))
    clear HB HO H8 HG8 H5
    generalize w5.setCell ⟨g8, 2, none⟩ (.int .i64 TN) = w6 at *
    have H5 := Lib.hid M.out.x.1.1.2
    go_upto_region 9 with (first
      | (refine wpList_load_rowT (by rfl) 55 (.tmp 5) rfl g5 0 rfl (hdD CH HT TM LA AP TX VA NX PR) _ (rowT_range H5.out) Tryz.underlying55 rfl (by rw [hdD_size]; kernel_rfl) ?_)
      | (refine wpList_store_row rfl 55 (.tmp 9) (.tmp 40) rfl w6.heap.size (hdD CH HT TM LA AP TX VA NX PR) rfl rfl 55 _ (heap_alloc_new _ _) (by rw [hdD_size]; kernel_rfl) (by rw [hdD_size]; rfl) (hdD_one _ _ _ _ _ _ _ _ _) ?_; rw [World.setRow_alloc_new]))
    have H9 := Lib.hid (heap_alloc_new w6 (.cells (hdD CH HT TM LA AP TX VA NX PR) 55))
    have HB := Lib.hid (below_alloc w6 (.cells (hdD CH HT TM LA AP TX VA NX PR) 55))
    obtain ⟨g9, hg9⟩ : ∃ g, g = w6.heap.size := ⟨_, rfl⟩
    have HG9 := Lib.hid hg9
    rw [← hg9] at H9 HB ⊢
    clear hg9
    generalize w6.alloc (.cells (hdD CH HT TM LA AP TX VA NX PR) 55) = w7 at *
    have c9 : w7.cell? ⟨g9, 35, none⟩ = some (.int .u8 (AP 0)) := (hdD_cells H9.out).2.2.2.2.1 0 _ (by rw [Array.getElem?_toList]; exact rowOf_get _ _ _ _ (by omega))
    have f9 : w7.frozen? ⟨g9, 35, none⟩ = false := frozen_of_row _ _ _ _ _ H9.out
    go_upto_region 10 with (fail)
    try rw [← HAN.out]
    clear c9 f9
    have HO := Lib.hid (Only.setCell w7 ⟨g9, 35, none⟩ (.int .u8 AN))
    replace H9 := Lib.hid (show (w7.setCell ⟨g9, 35, none⟩ (.int .u8 AN)).heap[g9]? = some (.cells (hdD CH HT TM LA (upd AP 0 AN) TX VA NX PR) 55 (0, 0)) by rw [heap_setCell_same w7 g9 35 _ _ _ H9.out, hdD_setApp])
    replace HB := Lib.hid (HB.out.trans (HO.out.below (Nat.le_refl _) (by have := HB.out.size; have := HG9.out; omega)))
    replace M := Lib.hid ((M.out.call (HB.out.mono (Nat.le_of_eq HG9.out.symm))).add H9.out (kept_blk _ _))
    clear HB HO H9 HG9 H5
    generalize w7.setCell ⟨g9, 35, none⟩ (.int .u8 AN) = w8 at *
    have KX := Lib.hid (kept_try g5 g8 g9 CH HT TM TN LA AP (upd AP 0 AN) TX VA NX PR)
    obtain ⟨X0, hX0⟩ : ∃ X, X = TrY g5 g8 g9 CH HT TM TN LA AP (upd AP 0 AN) TX VA NX PR := ⟨_, rfl⟩
    have HX0 := Lib.hid (show ∀ w, X0 w → TrY g5 g8 g9 CH HT TM TN LA AP (upd AP 0 AN) TX VA NX PR w from fun w h => by rw [hX0] at h; exact h)
    rw [← hX0] at KX
    have M2 := Lib.hid (show Kp w w8 X0 from ⟨M.out.below, by rw [hX0]; exact ⟨M.out.x.1.1.1.2, M.out.x.1.2, M.out.x.2⟩, KX.out⟩)
    clear M hX0
    have M := M2
    clear M2
    have hn1 := HN1.out
    have hn2 := HN2.out
    refine wp_region_T (fun w' => Kp w w' X0) [0, 1, 2, 3, 4, 5, 6, 7, 8, 9, 10, 11, 12, 13, 14, 15, 16, 17, 18, 19] (by kernel_rfl) ?_
    replace M := Lib.hid (M.out.call (Below.refl _ _).drew)
    generalize w8.drew = w9 at *
    refine anyT_take [] (i := 0) (v := .agg (hdD CH HT TN LA AP TX VA NX PR)) rfl (by kernel_rfl) (by kernel_rfl) (by kernel_rfl) (fun _ _ _ h => h) (by kernel_rfl) (rowT_yields (by rfl) 55 (.tmp 8) rfl g8 0 rfl _ _ (fun _ h => rowT_range (HX0.out _ (h.x)).h8) Tryz.underlying55 rfl (by rw [hdD_size]; kernel_rfl)) M.out ?_
    try simp only [List.getElem_toArray, List.getElem_cons_succ, List.getElem_cons_zero, Act.put, List.setIfInBounds_toArray, List.set_cons_zero, List.set_cons_succ]
    refine anyT_take [] (i := 3) (v := .agg (hdD CH HT TM LA AP TX VA NX PR)) rfl (by kernel_rfl) (by kernel_rfl) (by kernel_rfl) (fun _ _ _ h => h) (by kernel_rfl) (rowT_yields (by rfl) 55 (.tmp 5) rfl g5 0 rfl _ _ (fun _ h => rowT_range (HX0.out _ (h.x)).h5) Tryz.underlying55 rfl (by rw [hdD_size]; kernel_rfl)) M.out ?_
    try simp only [List.getElem_toArray, List.getElem_cons_succ, List.getElem_cons_zero, Act.put, List.setIfInBounds_toArray, List.set_cons_zero, List.set_cons_succ]
    refine anyT_one (i := 1) (by kernel_rfl) rfl (fun K hK => ?_)
    rw [if_pos (by rfl)]
    try simp only [List.getElem_toArray, List.getElem_cons_succ, List.getElem_cons_zero]
    (go_simp; (with_reducible refine (HE1.out _).mono ?_); rintro e w10 ⟨v48, rfl, hby, hb⟩; obtain ⟨a48, c48, rfl, -⟩ := id hby; have HB48 := Lib.hid (hby.below (Below.refl _ _)); clear hby; replace M := Lib.hid (M.out.call hb); clear hb)
    refine hK _ _ (fun _ => M.out) ?_
    clear hK K
    try simp only [List.getElem_toArray, List.getElem_cons_succ, List.getElem_cons_zero, Act.put, List.setIfInBounds_toArray, List.set_cons_zero, List.set_cons_succ]
    replace M := Lib.hid (M.out.add HB48.out (kept_bytesT _ _))
    refine anyT_kpT (Y := fun w => BytesIn w (.slice a48 L1.length c48) L1) KX.out ?_
    replace KX := Lib.hid (KX.out.and (kept_bytesT (.slice a48 L1.length c48) L1))
    clear HB48
    refine anyT_take [] (i := 2) (v := .string S1) rfl (by kernel_rfl) (by kernel_rfl) (by kernel_rfl) (fun _ _ _ h => h) (by kernel_rfl) (Or.inl ⟨by rfl, fun w' hS => by have c := conv_bytes w' _ _ hS.x.2; rw [← HS1.out] at c; go_simp⟩) M.out ?_
    try simp only [List.getElem_toArray, List.getElem_cons_succ, List.getElem_cons_zero, Act.put, List.setIfInBounds_toArray, List.set_cons_zero, List.set_cons_succ]
    refine anyT_one (i := 4) (by kernel_rfl) rfl (fun K hK => ?_)
    rw [if_pos (by rfl)]
    try simp only [List.getElem_toArray, List.getElem_cons_succ, List.getElem_cons_zero]
    (go_simp; (with_reducible refine (HE0.out _).mono ?_); rintro e w11 ⟨v51, rfl, hby, hb⟩; obtain ⟨a51, c51, rfl, -⟩ := id hby; have HB51 := Lib.hid (hby.below (Below.refl _ _)); clear hby; replace M := Lib.hid (M.out.call hb); clear hb)
    refine hK _ _ (fun _ => M.out) ?_
    clear hK K
    try simp only [List.getElem_toArray, List.getElem_cons_succ, List.getElem_cons_zero, Act.put, List.setIfInBounds_toArray, List.set_cons_zero, List.set_cons_succ]
    replace M := Lib.hid (M.out.add HB51.out (kept_bytesT _ _))
    refine anyT_kpT (Y := fun w => BytesIn w (.slice a51 L0.length c51) L0) KX.out ?_
    replace KX := Lib.hid (KX.out.and (kept_bytesT (.slice a51 L0.length c51) L0))
    clear HB51
    refine anyT_take [] (i := 5) (v := .string S0) rfl (by kernel_rfl) (by kernel_rfl) (by kernel_rfl) (fun _ _ _ h => h) (by kernel_rfl) (Or.inl ⟨by rfl, fun w' hS => by have c := conv_bytes w' _ _ hS.x.2; rw [← HS0.out] at c; go_simp⟩) M.out ?_
    try simp only [List.getElem_toArray, List.getElem_cons_succ, List.getElem_cons_zero, Act.put, List.setIfInBounds_toArray, List.set_cons_zero, List.set_cons_succ]
    refine anyT_take [] (i := 6) (v := .bool true) rfl (by kernel_rfl) (by kernel_rfl) (by kernel_rfl) (fun _ _ _ h => h) (by kernel_rfl) (Or.inl ⟨by rfl, fun w' _ => by go_simp⟩) M.out ?_
    try simp only [List.getElem_toArray, List.getElem_cons_succ, List.getElem_cons_zero, Act.put, List.setIfInBounds_toArray, List.set_cons_zero, List.set_cons_succ]
    refine anyT_take [] (i := 7) (v := .bool true) rfl (by kernel_rfl) (by kernel_rfl) (by kernel_rfl) (fun _ _ _ h => h) (by kernel_rfl) (Or.inl ⟨by rfl, fun w' _ => by go_simp⟩) M.out ?_
    try simp only [List.getElem_toArray, List.getElem_cons_succ, List.getElem_cons_zero, Act.put, List.setIfInBounds_toArray, List.set_cons_zero, List.set_cons_succ]
    refine anyT_take [] (i := 8) (v := .agg (hdD CH HT TM LA (upd AP 0 AN) TX VA NX PR)) rfl (by kernel_rfl) (by kernel_rfl) (by kernel_rfl) (fun _ _ _ h => h) (by kernel_rfl) (rowT_yields (by rfl) 55 (.tmp 9) rfl g9 0 rfl _ _ (fun _ h => rowT_range (HX0.out _ (h.x.1.1)).h9) Tryz.underlying55 rfl (by rw [hdD_size]; kernel_rfl)) M.out ?_
    try simp only [List.getElem_toArray, List.getElem_cons_succ, List.getElem_cons_zero, Act.put, List.setIfInBounds_toArray, List.set_cons_zero, List.set_cons_succ]
    refine anyT_take [] (i := 11) (v := .agg (hdD CH HT TM LA AP TX VA NX PR)) rfl (by kernel_rfl) (by kernel_rfl) (by kernel_rfl) (fun _ _ _ h => h) (by kernel_rfl) (rowT_yields (by rfl) 55 (.tmp 5) rfl g5 0 rfl _ _ (fun _ h => rowT_range (HX0.out _ (h.x.1.1)).h5) Tryz.underlying55 rfl (by rw [hdD_size]; kernel_rfl)) M.out ?_
    try simp only [List.getElem_toArray, List.getElem_cons_succ, List.getElem_cons_zero, Act.put, List.setIfInBounds_toArray, List.set_cons_zero, List.set_cons_succ]
    refine anyT_one (i := 9) (by kernel_rfl) rfl (fun K hK => ?_)
    rw [if_pos (by rfl)]
    try simp only [List.getElem_toArray, List.getElem_cons_succ, List.getElem_cons_zero]
    (go_simp; (with_reducible refine (HE2.out _).mono ?_); rintro e w12 ⟨v56, rfl, hby, hb⟩; obtain ⟨a56, c56, rfl, -⟩ := id hby; have HB56 := Lib.hid (hby.below (Below.refl _ _)); clear hby; replace M := Lib.hid (M.out.call hb); clear hb)
    refine hK _ _ (fun _ => M.out) ?_
    clear hK K
    try simp only [List.getElem_toArray, List.getElem_cons_succ, List.getElem_cons_zero, Act.put, List.setIfInBounds_toArray, List.set_cons_zero, List.set_cons_succ]
    replace M := Lib.hid (M.out.add HB56.out (kept_bytesT _ _))
    refine anyT_kpT (Y := fun w => BytesIn w (.slice a56 L2.length c56) L2) KX.out ?_
    replace KX := Lib.hid (KX.out.and (kept_bytesT (.slice a56 L2.length c56) L2))
    clear HB56
    refine anyT_take [] (i := 10) (v := .string S2) rfl (by kernel_rfl) (by kernel_rfl) (by kernel_rfl) (fun _ _ _ h => h) (by kernel_rfl) (Or.inl ⟨by rfl, fun w' hS => by have c := conv_bytes w' _ _ hS.x.2; rw [← HS2.out] at c; go_simp⟩) M.out ?_
    try simp only [List.getElem_toArray, List.getElem_cons_succ, List.getElem_cons_zero, Act.put, List.setIfInBounds_toArray, List.set_cons_zero, List.set_cons_succ]
    refine anyT_one (i := 12) (by kernel_rfl) rfl (fun K hK => ?_)
    rw [if_pos (by rfl)]
    try simp only [List.getElem_toArray, List.getElem_cons_succ, List.getElem_cons_zero]
    (go_simp; (with_reducible refine (HE0.out _).mono ?_); rintro e w13 ⟨v59, rfl, hby, hb⟩; obtain ⟨a59, c59, rfl, -⟩ := id hby; have HB59 := Lib.hid (hby.below (Below.refl _ _)); clear hby; replace M := Lib.hid (M.out.call hb); clear hb)
    refine hK _ _ (fun _ => M.out) ?_
    clear hK K
    try simp only [List.getElem_toArray, List.getElem_cons_succ, List.getElem_cons_zero, Act.put, List.setIfInBounds_toArray, List.set_cons_zero, List.set_cons_succ]
    replace M := Lib.hid (M.out.add HB59.out (kept_bytesT _ _))
    refine anyT_kpT (Y := fun w => BytesIn w (.slice a59 L0.length c59) L0) KX.out ?_
    replace KX := Lib.hid (KX.out.and (kept_bytesT (.slice a59 L0.length c59) L0))
    clear HB59
    refine anyT_take [] (i := 13) (v := .string S0) rfl (by kernel_rfl) (by kernel_rfl) (by kernel_rfl) (fun _ _ _ h => h) (by kernel_rfl) (Or.inl ⟨by rfl, fun w' hS => by have c := conv_bytes w' _ _ hS.x.2; rw [← HS0.out] at c; go_simp⟩) M.out ?_
    try simp only [List.getElem_toArray, List.getElem_cons_succ, List.getElem_cons_zero, Act.put, List.setIfInBounds_toArray, List.set_cons_zero, List.set_cons_succ]
    refine anyT_take [] (i := 14) (v := .bool true) rfl (by kernel_rfl) (by kernel_rfl) (by kernel_rfl) (fun _ _ _ h => h) (by kernel_rfl) (Or.inl ⟨by rfl, fun w' _ => by go_simp⟩) M.out ?_
    try simp only [List.getElem_toArray, List.getElem_cons_succ, List.getElem_cons_zero, Act.put, List.setIfInBounds_toArray, List.set_cons_zero, List.set_cons_succ]
    refine anyT_take [] (i := 15) (v := .bool true) rfl (by kernel_rfl) (by kernel_rfl) (by kernel_rfl) (fun _ _ _ h => h) (by kernel_rfl) (Or.inl ⟨by rfl, fun w' _ => by go_simp⟩) M.out ?_
    try simp only [List.getElem_toArray, List.getElem_cons_succ, List.getElem_cons_zero, Act.put, List.setIfInBounds_toArray, List.set_cons_zero, List.set_cons_succ]
    refine anyT_take [] (i := 16) (v := .bool true) rfl (by kernel_rfl) (by kernel_rfl) (by kernel_rfl) (fun _ _ _ h => h) (by kernel_rfl) (Or.inl ⟨by rfl, fun w' _ => by go_simp⟩) M.out ?_
    try simp only [List.getElem_toArray, List.getElem_cons_succ, List.getElem_cons_zero, Act.put, List.setIfInBounds_toArray, List.set_cons_zero, List.set_cons_succ]
    refine anyT_one (i := 17) (by kernel_rfl) rfl (fun K hK => ?_)
    rw [if_pos (by rfl)]
    try simp only [List.getElem_toArray, List.getElem_cons_succ, List.getElem_cons_zero]
    (go_simp; (with_reducible refine (HSU.out _ M.out.below).mono ?_); rintro e w14 ⟨rfl, hb⟩;  replace M := Lib.hid (M.out.call hb); clear hb)
    refine hK _ _ (fun _ => M.out) ?_
    clear hK K
    try simp only [List.getElem_toArray, List.getElem_cons_succ, List.getElem_cons_zero, Act.put, List.setIfInBounds_toArray, List.set_cons_zero, List.set_cons_succ]
    refine anyT_take [] (i := 18) (v := .bool true) rfl (by kernel_rfl) (by kernel_rfl) (by kernel_rfl) (fun _ _ _ h => h) (by kernel_rfl) (Or.inl ⟨by rfl, fun w' _ => by go_simp⟩) M.out ?_
    try simp only [List.getElem_toArray, List.getElem_cons_succ, List.getElem_cons_zero, Act.put, List.setIfInBounds_toArray, List.set_cons_zero, List.set_cons_succ]
    refine anyT_take [] (i := 19) (v := .bool true) rfl (by kernel_rfl) (by kernel_rfl) (by kernel_rfl) (fun _ _ _ h => h) (by kernel_rfl) (Or.inl ⟨by rfl, fun w' _ => by go_simp⟩) M.out ?_
    try simp only [List.getElem_toArray, List.getElem_cons_succ, List.getElem_cons_zero, Act.put, List.setIfInBounds_toArray, List.set_cons_zero, List.set_cons_succ]
    refine anyT_done (by kernel_rfl) ?_ _
    go_wp2_with (fail)
    go_ret
    exact ⟨rfl, M.out.below⟩
  | none =>
    replace HVT := Lib.hid (HVT.out rfl)
    simp only [errV] at HV1 HVT
    go_upto_region 6 with (first
      | (refine wpList_load_rowT (by rfl) 42 (.tmp 7) rfl g7 0 rfl (parC D E2) _ (rowT_range M.out.x.2) Tryz.underlying42 rfl (by kernel_rfl) ?_)
      | (refine wpList_load_rowT (by rfl) 59 (.tmp 4) rfl g4 0 rfl (cmC c (.slice xa nx xc)) _ (rowT_range M.out.x.1.1.h4) Tryz.underlying59 rfl (by rw [cmC_size]; kernel_rfl) ?_)
      | (go_at_call 50; (with_reducible refine (HV1.out _ (HE.out.below M.out.below HE.out.lt) M.out.x.1.1.l M.out.x.1.1.x M.out.x.1.1.sx).mono ?_); rintro e w3a ⟨rfl, hb⟩; replace M := Lib.hid (M.out.call hb); have d31 := (cs_cells M.out.x.1.1.h3).2.1; clear hb)
      | (go_at_call 51; (with_reducible refine (HVT.out _ M.out.x.1.1.l M.out.x.1.1.x).mono ?_); rintro e w4 ⟨rfl, hb⟩; replace M := Lib.hid (M.out.call hb); clear hb))
    clear c4 c30 c31 d31 HV1 HVT
    have H5 := Lib.hid M.out.x.1.2
    go_upto_region 7 with (first
      | (refine wpList_load_rowT (by rfl) 55 (.tmp 5) rfl g5 0 rfl (hdD CH HT TM LA AP TX VA NX PR) _ (rowT_range H5.out) Tryz.underlying55 rfl (by rw [hdD_size]; kernel_rfl) ?_)
      | (refine wpList_store_row rfl 55 (.tmp 8) (.tmp 35) rfl w4.heap.size (hdD CH HT TM LA AP TX VA NX PR) rfl rfl 55 _ (heap_alloc_new _ _) (by rw [hdD_size]; kernel_rfl) (by rw [hdD_size]; rfl) (hdD_one _ _ _ _ _ _ _ _ _) ?_; rw [World.setRow_alloc_new]))
    have H8 := Lib.hid (heap_alloc_new w4 (.cells (hdD CH HT TM LA AP TX VA NX PR) 55))
    have HB := Lib.hid (below_alloc w4 (.cells (hdD CH HT TM LA AP TX VA NX PR) 55))
    obtain ⟨g8, hg8⟩ : ∃ g, g = w4.heap.size := ⟨_, rfl⟩
    have HG8 := Lib.hid hg8
    rw [← hg8] at H8 HB ⊢
    clear hg8
    generalize w4.alloc (.cells (hdD CH HT TM LA AP TX VA NX PR) 55) = w5 at *
    have c8 := (hdD_cells H8.out).2.2.1
    have f8 : w5.frozen? ⟨g8, 2, none⟩ = false := frozen_of_row _ _ _ _ _ H8.out
    go_upto_region 8 with (fail)
    try rw [← HTN.out]
    clear c8 f8
    have HO := Lib.hid (Only.setCell w5 ⟨g8, 2, none⟩ (.int .i64 TN))
    replace H8 := Lib.hid (show (w5.setCell ⟨g8, 2, none⟩ (.int .i64 TN)).heap[g8]? = some (.cells (hdD CH HT TN LA AP TX VA NX PR) 55 (0, 0)) by rw [heap_setCell_same w5 g8 2 _ _ _ H8.out, hdD_setTime])
    replace HB := Lib.hid (HB.out.trans (HO.out.below (Nat.le_refl _) (by have := HB.out.size; have := HG8.out; omega)))
    replace M := Lib.hid ((M.out.call (HB.out.mono (Nat.le_of_eq HG8.out.symm))).add H8.out (kept_blk _ _))
    clear HB HO H8 HG8 H5
    generalize w5.setCell ⟨g8, 2, none⟩ (.int .i64 TN) = w6 at *
    have H5 := Lib.hid M.out.x.1.1.2
    go_upto_region 9 with (first
      | (refine wpList_load_rowT (by rfl) 55 (.tmp 5) rfl g5 0 rfl (hdD CH HT TM LA AP TX VA NX PR) _ (rowT_range H5.out) Tryz.underlying55 rfl (by rw [hdD_size]; kernel_rfl) ?_)
      | (refine wpList_store_row rfl 55 (.tmp 9) (.tmp 40) rfl w6.heap.size (hdD CH HT TM LA AP TX VA NX PR) rfl rfl 55 _ (heap_alloc_new _ _) (by rw [hdD_size]; kernel_rfl) (by rw [hdD_size]; rfl) (hdD_one _ _ _ _ _ _ _ _ _) ?_; rw [World.setRow_alloc_new]))
    have H9 := Lib.hid (heap_alloc_new w6 (.cells (hdD CH HT TM LA AP TX VA NX PR) 55))
    have HB := Lib.hid (below_alloc w6 (.cells (hdD CH HT TM LA AP TX VA NX PR) 55))
    obtain ⟨g9, hg9⟩ : ∃ g, g = w6.heap.size := ⟨_, rfl⟩
    have HG9 := Lib.hid hg9
    rw [← hg9] at H9 HB ⊢
    clear hg9
    generalize w6.alloc (.cells (hdD CH HT TM LA AP TX VA NX PR) 55) = w7 at *
    have c9 : w7.cell? ⟨g9, 35, none⟩ = some (.int .u8 (AP 0)) := (hdD_cells H9.out).2.2.2.2.1 0 _ (by rw [Array.getElem?_toList]; exact rowOf_get _ _ _ _ (by omega))
    have f9 : w7.frozen? ⟨g9, 35, none⟩ = false := frozen_of_row _ _ _ _ _ H9.out
    go_upto_region 10 with (fail)
    try rw [← HAN.out]
    clear c9 f9
    have HO := Lib.hid (Only.setCell w7 ⟨g9, 35, none⟩ (.int .u8 AN))
    replace H9 := Lib.hid (show (w7.setCell ⟨g9, 35, none⟩ (.int .u8 AN)).heap[g9]? = some (.cells (hdD CH HT TM LA (upd AP 0 AN) TX VA NX PR) 55 (0, 0)) by rw [heap_setCell_same w7 g9 35 _ _ _ H9.out, hdD_setApp])
    replace HB := Lib.hid (HB.out.trans (HO.out.below (Nat.le_refl _) (by have := HB.out.size; have := HG9.out; omega)))
    replace M := Lib.hid ((M.out.call (HB.out.mono (Nat.le_of_eq HG9.out.symm))).add H9.out (kept_blk _ _))
    clear HB HO H9 HG9 H5
    generalize w7.setCell ⟨g9, 35, none⟩ (.int .u8 AN) = w8 at *
    have KX := Lib.hid (kept_try g5 g8 g9 CH HT TM TN LA AP (upd AP 0 AN) TX VA NX PR)
    obtain ⟨X0, hX0⟩ : ∃ X, X = TrY g5 g8 g9 CH HT TM TN LA AP (upd AP 0 AN) TX VA NX PR := ⟨_, rfl⟩
    have HX0 := Lib.hid (show ∀ w, X0 w → TrY g5 g8 g9 CH HT TM TN LA AP (upd AP 0 AN) TX VA NX PR w from fun w h => by rw [hX0] at h; exact h)
    rw [← hX0] at KX
    have M2 := Lib.hid (show Kp w w8 X0 from ⟨M.out.below, by rw [hX0]; exact ⟨M.out.x.1.1.1.2, M.out.x.1.2, M.out.x.2⟩, KX.out⟩)
    clear M hX0
    have M := M2
    clear M2
    have hn1 := HN1.out
    have hn2 := HN2.out
    refine wp_region_T (fun w' => Kp w w' X0) [0, 1, 2, 3, 4, 5, 6, 7, 8, 9, 10, 11, 12, 13, 14, 15, 16, 17, 18, 19] (by kernel_rfl) ?_
    replace M := Lib.hid (M.out.call (Below.refl _ _).drew)
    generalize w8.drew = w9 at *
    refine anyT_take [] (i := 0) (v := .agg (hdD CH HT TN LA AP TX VA NX PR)) rfl (by kernel_rfl) (by kernel_rfl) (by kernel_rfl) (fun _ _ _ h => h) (by kernel_rfl) (rowT_yields (by rfl) 55 (.tmp 8) rfl g8 0 rfl _ _ (fun _ h => rowT_range (HX0.out _ (h.x)).h8) Tryz.underlying55 rfl (by rw [hdD_size]; kernel_rfl)) M.out ?_
    try simp only [List.getElem_toArray, List.getElem_cons_succ, List.getElem_cons_zero, Act.put, List.setIfInBounds_toArray, List.set_cons_zero, List.set_cons_succ]
    refine anyT_take [] (i := 3) (v := .agg (hdD CH HT TM LA AP TX VA NX PR)) rfl (by kernel_rfl) (by kernel_rfl) (by kernel_rfl) (fun _ _ _ h => h) (by kernel_rfl) (rowT_yields (by rfl) 55 (.tmp 5) rfl g5 0 rfl _ _ (fun _ h => rowT_range (HX0.out _ (h.x)).h5) Tryz.underlying55 rfl (by rw [hdD_size]; kernel_rfl)) M.out ?_
    try simp only [List.getElem_toArray, List.getElem_cons_succ, List.getElem_cons_zero, Act.put, List.setIfInBounds_toArray, List.set_cons_zero, List.set_cons_succ]
    refine anyT_one (i := 1) (by kernel_rfl) rfl (fun K hK => ?_)
    rw [if_pos (by rfl)]
    try simp only [List.getElem_toArray, List.getElem_cons_succ, List.getElem_cons_zero]
    (go_simp; (with_reducible refine (HE1.out _).mono ?_); rintro e w10 ⟨v48, rfl, hby, hb⟩; obtain ⟨a48, c48, rfl, -⟩ := id hby; have HB48 := Lib.hid (hby.below (Below.refl _ _)); clear hby; replace M := Lib.hid (M.out.call hb); clear hb)
    refine hK _ _ (fun _ => M.out) ?_
    clear hK K
    try simp only [List.getElem_toArray, List.getElem_cons_succ, List.getElem_cons_zero, Act.put, List.setIfInBounds_toArray, List.set_cons_zero, List.set_cons_succ]
    replace M := Lib.hid (M.out.add HB48.out (kept_bytesT _ _))
    refine anyT_kpT (Y := fun w => BytesIn w (.slice a48 L1.length c48) L1) KX.out ?_
    replace KX := Lib.hid (KX.out.and (kept_bytesT (.slice a48 L1.length c48) L1))
    clear HB48
    refine anyT_take [] (i := 2) (v := .string S1) rfl (by kernel_rfl) (by kernel_rfl) (by kernel_rfl) (fun _ _ _ h => h) (by kernel_rfl) (Or.inl ⟨by rfl, fun w' hS => by have c := conv_bytes w' _ _ hS.x.2; rw [← HS1.out] at c; go_simp⟩) M.out ?_
    try simp only [List.getElem_toArray, List.getElem_cons_succ, List.getElem_cons_zero, Act.put, List.setIfInBounds_toArray, List.set_cons_zero, List.set_cons_succ]
    refine anyT_one (i := 4) (by kernel_rfl) rfl (fun K hK => ?_)
    rw [if_pos (by rfl)]
    try simp only [List.getElem_toArray, List.getElem_cons_succ, List.getElem_cons_zero]
    (go_simp; (with_reducible refine (HE0.out _).mono ?_); rintro e w11 ⟨v51, rfl, hby, hb⟩; obtain ⟨a51, c51, rfl, -⟩ := id hby; have HB51 := Lib.hid (hby.below (Below.refl _ _)); clear hby; replace M := Lib.hid (M.out.call hb); clear hb)
    refine hK _ _ (fun _ => M.out) ?_
    clear hK K
    try simp only [List.getElem_toArray, List.getElem_cons_succ, List.getElem_cons_zero, Act.put, List.setIfInBounds_toArray, List.set_cons_zero, List.set_cons_succ]
    replace M := Lib.hid (M.out.add HB51.out (kept_bytesT _ _))
    refine anyT_kpT (Y := fun w => BytesIn w (.slice a51 L0.length c51) L0) KX.out ?_
    replace KX := Lib.hid (KX.out.and (kept_bytesT (.slice a51 L0.length c51) L0))
    clear HB51
    refine anyT_take [] (i := 5) (v := .string S0) rfl (by kernel_rfl) (by kernel_rfl) (by kernel_rfl) (fun _ _ _ h => h) (by kernel_rfl) (Or.inl ⟨by rfl, fun w' hS => by have c := conv_bytes w' _ _ hS.x.2; rw [← HS0.out] at c; go_simp⟩) M.out ?_
    try simp only [List.getElem_toArray, List.getElem_cons_succ, List.getElem_cons_zero, Act.put, List.setIfInBounds_toArray, List.set_cons_zero, List.set_cons_succ]
    refine anyT_take [] (i := 6) (v := .bool true) rfl (by kernel_rfl) (by kernel_rfl) (by kernel_rfl) (fun _ _ _ h => h) (by kernel_rfl) (Or.inl ⟨by rfl, fun w' _ => by go_simp⟩) M.out ?_
    try simp only [List.getElem_toArray, List.getElem_cons_succ, List.getElem_cons_zero, Act.put, List.setIfInBounds_toArray, List.set_cons_zero, List.set_cons_succ]
    refine anyT_take [] (i := 7) (v := .bool true) rfl (by kernel_rfl) (by kernel_rfl) (by kernel_rfl) (fun _ _ _ h => h) (by kernel_rfl) (Or.inl ⟨by rfl, fun w' _ => by go_simp⟩) M.out ?_
    try simp only [List.getElem_toArray, List.getElem_cons_succ, List.getElem_cons_zero, Act.put, List.setIfInBounds_toArray, List.set_cons_zero, List.set_cons_succ]
    refine anyT_take [] (i := 8) (v := .agg (hdD CH HT TM LA (upd AP 0 AN) TX VA NX PR)) rfl (by kernel_rfl) (by kernel_rfl) (by kernel_rfl) (fun _ _ _ h => h) (by kernel_rfl) (rowT_yields (by rfl) 55 (.tmp 9) rfl g9 0 rfl _ _ (fun _ h => rowT_range (HX0.out _ (h.x.1.1)).h9) Tryz.underlying55 rfl (by rw [hdD_size]; kernel_rfl)) M.out ?_
    try simp only [List.getElem_toArray, List.getElem_cons_succ, List.getElem_cons_zero, Act.put, List.setIfInBounds_toArray, List.set_cons_zero, List.set_cons_succ]
    refine anyT_take [] (i := 11) (v := .agg (hdD CH HT TM LA AP TX VA NX PR)) rfl (by kernel_rfl) (by kernel_rfl) (by kernel_rfl) (fun _ _ _ h => h) (by kernel_rfl) (rowT_yields (by rfl) 55 (.tmp 5) rfl g5 0 rfl _ _ (fun _ h => rowT_range (HX0.out _ (h.x.1.1)).h5) Tryz.underlying55 rfl (by rw [hdD_size]; kernel_rfl)) M.out ?_
    try simp only [List.getElem_toArray, List.getElem_cons_succ, List.getElem_cons_zero, Act.put, List.setIfInBounds_toArray, List.set_cons_zero, List.set_cons_succ]
    refine anyT_one (i := 9) (by kernel_rfl) rfl (fun K hK => ?_)
    rw [if_pos (by rfl)]
    try simp only [List.getElem_toArray, List.getElem_cons_succ, List.getElem_cons_zero]
    (go_simp; (with_reducible refine (HE2.out _).mono ?_); rintro e w12 ⟨v56, rfl, hby, hb⟩; obtain ⟨a56, c56, rfl, -⟩ := id hby; have HB56 := Lib.hid (hby.below (Below.refl _ _)); clear hby; replace M := Lib.hid (M.out.call hb); clear hb)
    refine hK _ _ (fun _ => M.out) ?_
    clear hK K
    try simp only [List.getElem_toArray, List.getElem_cons_succ, List.getElem_cons_zero, Act.put, List.setIfInBounds_toArray, List.set_cons_zero, List.set_cons_succ]
    replace M := Lib.hid (M.out.add HB56.out (kept_bytesT _ _))
    refine anyT_kpT (Y := fun w => BytesIn w (.slice a56 L2.length c56) L2) KX.out ?_
    replace KX := Lib.hid (KX.out.and (kept_bytesT (.slice a56 L2.length c56) L2))
    clear HB56
    refine anyT_take [] (i := 10) (v := .string S2) rfl (by kernel_rfl) (by kernel_rfl) (by kernel_rfl) (fun _ _ _ h => h) (by kernel_rfl) (Or.inl ⟨by rfl, fun w' hS => by have c := conv_bytes w' _ _ hS.x.2; rw [← HS2.out] at c; go_simp⟩) M.out ?_
    try simp only [List.getElem_toArray, List.getElem_cons_succ, List.getElem_cons_zero, Act.put, List.setIfInBounds_toArray, List.set_cons_zero, List.set_cons_succ]
    refine anyT_one (i := 12) (by kernel_rfl) rfl (fun K hK => ?_)
    rw [if_pos (by rfl)]
    try simp only [List.getElem_toArray, List.getElem_cons_succ, List.getElem_cons_zero]
    (go_simp; (with_reducible refine (HE0.out _).mono ?_); rintro e w13 ⟨v59, rfl, hby, hb⟩; obtain ⟨a59, c59, rfl, -⟩ := id hby; have HB59 := Lib.hid (hby.below (Below.refl _ _)); clear hby; replace M := Lib.hid (M.out.call hb); clear hb)
    refine hK _ _ (fun _ => M.out) ?_
    clear hK K
    try simp only [List.getElem_toArray, List.getElem_cons_succ, List.getElem_cons_zero, Act.put, List.setIfInBounds_toArray, List.set_cons_zero, List.set_cons_succ]
    replace M := Lib.hid (M.out.add HB59.out (kept_bytesT _ _))
    refine anyT_kpT (Y := fun w => BytesIn w (.slice a59 L0.length c59) L0) KX.out ?_
    replace KX := Lib.hid (KX.out.and (kept_bytesT (.slice a59 L0.length c59) L0))
    clear HB59
    refine anyT_take [] (i := 13) (v := .string S0) rfl (by kernel_rfl) (by kernel_rfl) (by kernel_rfl) (fun _ _ _ h => h) (by kernel_rfl) (Or.inl ⟨by rfl, fun w' hS => by have c := conv_bytes w' _ _ hS.x.2; rw [← HS0.out] at c; go_simp⟩) M.out ?_
    try simp only [List.getElem_toArray, List.getElem_cons_succ, List.getElem_cons_zero, Act.put, List.setIfInBounds_toArray, List.set_cons_zero, List.set_cons_succ]
    refine anyT_take [] (i := 14) (v := .bool true) rfl (by kernel_rfl) (by kernel_rfl) (by kernel_rfl) (fun _ _ _ h => h) (by kernel_rfl) (Or.inl ⟨by rfl, fun w' _ => by go_simp⟩) M.out ?_
    try simp only [List.getElem_toArray, List.getElem_cons_succ, List.getElem_cons_zero, Act.put, List.setIfInBounds_toArray, List.set_cons_zero, List.set_cons_succ]
    refine anyT_take [] (i := 15) (v := .bool true) rfl (by kernel_rfl) (by kernel_rfl) (by kernel_rfl) (fun _ _ _ h => h) (by kernel_rfl) (Or.inl ⟨by rfl, fun w' _ => by go_simp⟩) M.out ?_
    try simp only [List.getElem_toArray, List.getElem_cons_succ, List.getElem_cons_zero, Act.put, List.setIfInBounds_toArray, List.set_cons_zero, List.set_cons_succ]
    refine anyT_take [] (i := 16) (v := .bool true) rfl (by kernel_rfl) (by kernel_rfl) (by kernel_rfl) (fun _ _ _ h => h) (by kernel_rfl) (Or.inl ⟨by rfl, fun w' _ => by go_simp⟩) M.out ?_
    try simp only [List.getElem_toArray, List.getElem_cons_succ, List.getElem_cons_zero, Act.put, List.setIfInBounds_toArray, List.set_cons_zero, List.set_cons_succ]
    refine anyT_one (i := 17) (by kernel_rfl) rfl (fun K hK => ?_)
    rw [if_pos (by rfl)]
    try simp only [List.getElem_toArray, List.getElem_cons_succ, List.getElem_cons_zero]
    (go_simp; (with_reducible refine (HSU.out _ M.out.below).mono ?_); rintro e w14 ⟨rfl, hb⟩;  replace M := Lib.hid (M.out.call hb); clear hb)
    refine hK _ _ (fun _ => M.out) ?_
    clear hK K
    try simp only [List.getElem_toArray, List.getElem_cons_succ, List.getElem_cons_zero, Act.put, List.setIfInBounds_toArray, List.set_cons_zero, List.set_cons_succ]
    refine anyT_take [] (i := 18) (v := .bool true) rfl (by kernel_rfl) (by kernel_rfl) (by kernel_rfl) (fun _ _ _ h => h) (by kernel_rfl) (Or.inl ⟨by rfl, fun w' _ => by go_simp⟩) M.out ?_
    try simp only [List.getElem_toArray, List.getElem_cons_succ, List.getElem_cons_zero, Act.put, List.setIfInBounds_toArray, List.set_cons_zero, List.set_cons_succ]
    refine anyT_take [] (i := 19) (v := .bool true) rfl (by kernel_rfl) (by kernel_rfl) (by kernel_rfl) (fun _ _ _ h => h) (by kernel_rfl) (Or.inl ⟨by rfl, fun w' _ => by go_simp⟩) M.out ?_
    try simp only [List.getElem_toArray, List.getElem_cons_succ, List.getElem_cons_zero, Act.put, List.setIfInBounds_toArray, List.set_cons_zero, List.set_cons_succ]
    refine anyT_done (by kernel_rfl) ?_ _
    go_wp2_with (fail)
    go_ret
    exact ⟨rfl, M.out.below⟩
end Go.Proofs.YtjnpcmfpiejmjaaGreatDoor
