/- Part 26 of the proof. -/
import Derived.Test.YteokgklfljhcaaaGreatDoorBd2
import Derived.Test.YteokgklfljhcaaaGreatDoorBd23
import Derived.Test.YteokgklfljhcaaaGreatDoorBd25
namespace Go.Proofs.YteokgklfljhcaaaGreatDoor
set_option linter.unusedVariables false
set_option linter.unusedSimpArgs false
open Go.RowKit
set_option maxRecDepth 1000000
set_option linter.unusedSimpArgs false
set_option linter.unusedVariables false
theorem anyT_impB {P : Program} {ops : Array Oper} {Q : Exit → Act → World → Prop} {md : Region.Mode} {S S' : World → Prop} {ds : List Nat} (h : ∀ w, S' w → S w) : ∀ (f : Nat) (l : Array Bool) (a : Act) (w : World), anyT P md ops Q S' ds f l a w → anyT P md ops Q S ds f l a w
  | 0, _, _, _, k => k
  | f + 1, _, _, _, k => ⟨k.1, fun i hi => wpOp_mono (fun a' w' h' => ⟨fun hd => h _ (h'.1 hd), anyT_impB h f _ a' w' h'.2⟩) (k.2 i hi)⟩
theorem anyT_kpB {P : Program} {ops : Array Oper} {Q : Exit → Act → World → Prop} {md : Region.Mode} {X Y : World → Prop} {ds : List Nat} {w0 : World} (kx : Kept X) {f : Nat} {l : Array Bool} {a : Act} {w : World}
    (h : anyT P md ops Q (fun w' => Kp w0 w' (fun w => X w ∧ Y w)) ds f l a w) : anyT P md ops Q (fun w' => Kp w0 w' X) ds f l a w :=
  anyT_impB (fun _ k => ⟨k.below, k.x.1, kx⟩) _ _ _ _ h
theorem kept_bytesB (v : Value) (xs : List Int) : Kept (fun w => BytesIn w v xs) := fun _ _ h hb => h.below hb
/-- what lies in memory ahead of the statement -/
structure BlX (q q3 : Nat) (HC CC : Array Value) (tv vv : Value) (ts : List Tb) (l : List Vo) (w : World) : Prop where
  h : w.heap[q]? = some (.cells (bkD HC tv CC) 31 (0, 0))
  h3 : w.heap[q3]? = some (.cells HC 25 (0, 0))
  t : TbIn w tv ts
  tb : ∀ t ∈ ts, BytesIn w t.bv t.bs
  v : VoIn w vv l
  vs : ∀ t ∈ l, BytesIn w t.sv t.sign
  e : Env w
theorem kept_blx (q q3 : Nat) (HC CC : Array Value) (tv vv : Value) (ts : List Tb) (l : List Vo) : Kept (BlX q q3 HC CC tv vv ts l) := fun _ _ m h => ⟨kept_blk _ _ _ _ m.h h, kept_blk _ _ _ _ m.h3 h, m.t.below h, fun t ht => (m.tb t ht).below h, m.v.below h, fun t ht => (m.vs t ht).below h, m.e.below h m.e.lt⟩
set_option maxHeartbeats 20000000 in
theorem lblocks_any (h : Hd) (ts : List Tb) (tv : Value) (c : Cm) (l : List Vo) (vv : Value) (w : World) (he : Env w) (hg : ErrType w) (hh : HdFl h) (hch : h.CH.size ≤ 1048576) (ht : TbIn w tv ts) (hts : ∀ t ∈ ts, BytesIn w t.bv t.bs) (htz : ∀ t ∈ ts, t.bs.length ≤ 1048576) (htn : ts.length ≤ 1048576) (hv : VoIn w vv l) (hvs : ∀ t ∈ l, BytesIn w t.sv t.sign) (hvf : ∀ t ∈ l, VoFl t) (hvz : ∀ t ∈ l, t.sign.length ≤ 1048576) (hvn : l.length ≤ 1048576) (hc : CmFl c) :
    Calls Tryz.prog 3 #[.agg (bkD (hdD h.CH h.HT h.TM h.LA h.AP h.TX h.VA h.NX h.PR) tv (cmC c vv))] w fun e w' => e = .returned (.bool true) ∧ Below w.heap.size w w' := by
  obtain ⟨ta, tc, rfl, -, -⟩ := ht.len
  obtain ⟨va, vc, rfl, -, -⟩ := hv.len
  have zt : ∀ t ∈ ts, t.bs.length + 81 ≤ 140737488355328 := fun t m => by have := htz t m; omega
  have a1 := glenT (zig_lt hh.ht.1 hh.ht.2)
  have a2 := glenT (zig_lt hh.tm.1 hh.tm.2)
  have a3 := glenT (zig_lt hh.pr.1 hh.pr.2)
  have a4 := glenT (n := h.CH.size) (by omega)
  have a5 := glenT (zig_lt hc.h.1 hc.h.2)
  have a6 := glenT (zig_lt hc.r.1 hc.r.2)
  have a7 := glenT (n := ts.length) (by omega)
  have a8 := glenT (n := l.length) (by omega)
  have l1 : (hdL h.CH h.HT h.TM h.LA h.AP h.TX h.VA h.NX h.PR).length ≤ 1048576 + 300 := by simp only [hdL, List.length_append, rowL32, numsOf_length]; omega
  have l2 : (catL tb1 ts).length ≤ ts.length * 1048600 := catL_le tb1 1048600 ts fun t m => by
    have h1 := htz t m
    have h2 := glenT (n := t.bs.length) (by omega)
    simp only [tb1, List.length_append]; omega
  have l3 : (catL vo1 l).length ≤ l.length * 1048700 := catL_le vo1 1048700 l fun t m => by
    have h1 := hvz t m
    have hf := hvf t m
    have b1 := glenT (zig_lt hf.k.1 hf.k.2)
    have b2 := glenT (zig_lt hf.h.1 hf.h.2)
    have b3 := glenT (zig_lt hf.r.1 hf.r.2)
    have b4 := glenT (zig_lt hf.vl.1 hf.vl.2)
    have b5 := glenT (n := t.sign.length) (by omega)
    simp only [vo1, voL, List.length_append, rowL32]; omega
  have l4 : ts.length * 1048600 ≤ 1048576 * 1048600 := Nat.mul_le_mul_right _ htn
  have l5 : l.length * 1048700 ≤ 1048576 * 1048700 := Nat.mul_le_mul_right _ hvn
  have lC : (cmL c l).length + 400 ≤ 140737488355328 := by simp only [cmL, listL, List.length_append, rowL32]; omega
  have lB : (bkL h ts c l).length + 800 ≤ 140737488355328 := by simp only [bkL, cmL, listL, List.length_append, rowL32]; omega
  clear a1 a2 a3 a4 a5 a6 a7 a8 l2 l3 l4 l5
  have HG := Lib.hid hg
  have HSU := Lib.hid (fun w' (h : Below w.heap.size w w') => tysure_any w' (HG.out.below h))
  obtain ⟨E, hE⟩ : ∃ x, x = ckE11 h.CH h.HT h.TM h.LA h.TX h.PR ts c l.length := ⟨_, rfl⟩
  obtain ⟨RT, hRT⟩ : ∃ R, R = rootF (ts.map txF) := ⟨_, rfl⟩
  obtain ⟨HL, hHL⟩ : ∃ x, x = hdL h.CH h.HT h.TM h.LA h.AP h.TX h.VA h.NX h.PR := ⟨_, rfl⟩
  obtain ⟨SF, hSF⟩ : ∃ x, x = sumF (8 :: HL) := ⟨_, rfl⟩
  obtain ⟨BL, hBL⟩ : ∃ x, x = bkL h ts c l := ⟨_, rfl⟩
  obtain ⟨CL, hCL⟩ : ∃ x, x = cmL c l := ⟨_, rfl⟩
  obtain ⟨HC, hHC⟩ : ∃ x, x = hdD h.CH h.HT h.TM h.LA h.AP h.TX h.VA h.NX h.PR := ⟨_, rfl⟩
  obtain ⟨CC, hCC⟩ : ∃ x, x = cmC c (.slice va l.length vc) := ⟨_, rfl⟩
  obtain ⟨BC, hBC⟩ : ∃ x, x = bkD HC (.slice ta ts.length tc) CC := ⟨_, rfl⟩
  have HHS := Lib.hid (show HC.size = 164 from by rw [hHC]; exact hdD_size _ _ _ _ _ _ _ _ _)
  have HHO := Lib.hid (show HC.all (·.oneCell') = true from by rw [hHC]; exact hdD_one11 _ _ _ _ _ _ _ _ _)
  have HCS := Lib.hid ((congrArg Array.size hCC).trans (cmC_size _ _))
  have HBS := Lib.hid ((congrArg Array.size hBC).trans (bkD_size HHS.out HCS.out))
  have HBC := Lib.hid hBC
  have HCK := Lib.hid (show ∀ w, Env w → TbIn w (.slice ta ts.length tc) ts → (∀ t ∈ ts, BytesIn w t.bv t.bs) → Calls Tryz.prog 7 #[.agg BC] w fun e w' => e = .returned (errV E) ∧ Below w.heap.size w w' from fun w h1 h2 h3 => by
    rw [hBC, hHC, hCC, hE]
    exact pckblock_any h.CH h.HT h.TM h.LA h.AP h.TX h.VA h.NX h.PR _ ts c va l.length vc w (by omega) (by omega) h1 h2 h3 zt htn)
  have HRK := Lib.hid (show ∀ w, TbIn w (.slice ta ts.length tc) ts → (∀ t ∈ ts, BytesIn w t.bv t.bs) → Calls Tryz.prog 8 #[.agg BC] w fun e w' => e = .returned (.int .i64 (numE E)) ∧ Below w.heap.size w w' from fun w h2 h3 => by
    rw [hBC, hHC, hCC, hE]
    exact rckblock_any h.CH h.HT h.TM h.LA h.AP h.TX h.VA h.NX h.PR _ ts c va l.length vc w (by omega) (by omega) hc h2 h3 zt htn)
  have HPT := Lib.hid (show ∀ w, Env w → TbIn w (.slice ta ts.length tc) ts → (∀ t ∈ ts, BytesIn w t.bv t.bs) → Calls Tryz.prog 9 #[.slice ta ts.length tc] w fun e w' => e = .returned (.agg (rowOf .u8 32 RT)) ∧ Below w.heap.size w w' from fun w h1 h2 h3 => by rw [hRT]; exact ptxs_any ts _ w h1 h2 h3 zt htn)
  have HRT := Lib.hid (show ∀ w, TbIn w (.slice ta ts.length tc) ts → (∀ t ∈ ts, BytesIn w t.bv t.bs) → Calls Tryz.prog 10 #[.slice ta ts.length tc] w fun e w' => e = .returned (.agg (rowOf .u8 32 RT)) ∧ Below w.heap.size w w' from fun w h2 h3 => by rw [hRT]; exact rtxs_any ts _ w h2 h3 zt htn)
  have HPH := Lib.hid (show ∀ w, Env w → Calls Tryz.prog 11 #[.agg HC] w fun e w' => e = .returned (.agg (rowOf .u8 32 SF)) ∧ Below w.heap.size w w' from fun w h1 => by rw [hSF, hHL, hHC]; exact pheaderhash_any _ _ _ _ _ _ _ _ _ w h1 hh.ht hh.tm hh.pr hch)
  have HRH := Lib.hid (show ∀ w, Calls Tryz.prog 12 #[.agg HC] w fun e w' => e = .returned (.agg (rowOf .u8 32 SF)) ∧ Below w.heap.size w w' from fun w => by rw [hSF, hHL, hHC]; exact rheaderhash_any _ _ _ _ _ _ _ _ _ w hh.ht hh.tm hh.pr hch)
  have HEB := Lib.hid (show ∀ w, TbIn w (.slice ta ts.length tc) ts → (∀ t ∈ ts, BytesIn w t.bv t.bs) → VoIn w (.slice va l.length vc) l → (∀ t ∈ l, BytesIn w t.sv t.sign) → Calls Tryz.prog 13 #[.agg BC] w fun e w' => ∃ vb, e = .returned vb ∧ BytesIn w' vb BL ∧ Below w.heap.size w w' from fun w h1 h2 h3 h4 => by rw [hBC, hHC, hCC, hBL]; exact eblock_any h ts _ c l _ w hh h1 h2 h3 h4 hvf hc (by omega))
  have HRB := Lib.hid (show ∀ w, TbIn w (.slice ta ts.length tc) ts → (∀ t ∈ ts, BytesIn w t.bv t.bs) → VoIn w (.slice va l.length vc) l → (∀ t ∈ l, BytesIn w t.sv t.sign) → Calls Tryz.prog 14 #[.slice none 0 0, .agg BC] w fun e w' => ∃ vb, e = .returned vb ∧ BytesIn w' vb BL ∧ Below w.heap.size w w' from fun w h1 h2 h3 h4 => by
    rw [hBC, hHC, hCC, hBL]
    exact rrefbk_any (.slice none 0 0) [] h ts _ c l _ w (nil_in w) hh h1 h2 h3 h4 hvf hc (by rw [List.length_nil]; omega))
  have HEH := Lib.hid (show ∀ w, Calls Tryz.prog 15 #[.agg HC] w fun e w' => ∃ vb, e = .returned vb ∧ BytesIn w' vb HL ∧ Below w.heap.size w w' from fun w => by rw [hHL, hHC]; exact eheader_any _ _ _ _ _ _ _ _ _ w hh.ht hh.tm hh.pr (by omega))
  have HRE := Lib.hid (show ∀ w, Calls Tryz.prog 16 #[.slice none 0 0, .agg HC] w fun e w' => ∃ vb, e = .returned vb ∧ BytesIn w' vb HL ∧ Below w.heap.size w w' from fun w => by
    rw [hHL, hHC]
    exact rrefhdr_any (.slice none 0 0) [] _ _ _ _ _ _ _ _ _ w (nil_in w) hh.ht hh.tm hh.pr (by rw [List.length_nil]; omega))
  have HEC := Lib.hid (show ∀ w, VoIn w (.slice va l.length vc) l → (∀ t ∈ l, BytesIn w t.sv t.sign) → Calls Tryz.prog 17 #[.agg CC] w fun e w' => ∃ vb, e = .returned vb ∧ BytesIn w' vb CL ∧ Below w.heap.size w w' from fun w h3 h4 => by rw [hCC, hCL]; exact ecommit_any c l _ w h3 h4 hvf hc lC)
  have HRC := Lib.hid (show ∀ w, VoIn w (.slice va l.length vc) l → (∀ t ∈ l, BytesIn w t.sv t.sign) → Calls Tryz.prog 18 #[.slice none 0 0, .agg CC] w fun e w' => ∃ vb, e = .returned vb ∧ BytesIn w' vb CL ∧ Below w.heap.size w w' from fun w h3 h4 => by
    rw [hCC, hCL]
    exact rrefcm_any (.slice none 0 0) [] c l _ w (nil_in w) h3 h4 hvf hc (by rw [List.length_nil]; omega))
  rw [← hHC, ← hCC, ← hBC]
  obtain ⟨cE, hcE⟩ : ∃ c, c = numE E := ⟨_, rfl⟩
  rw [← hcE] at HRK
  have HNU := Lib.hid (fun w h => num_any E w h)
  rw [← hcE] at HNU
  obtain ⟨KB, hKB⟩ : ∃ k, k = strOfNums BL := ⟨_, rfl⟩
  obtain ⟨KE, hKE⟩ : ∃ k, k = strOfNums HL := ⟨_, rfl⟩
  obtain ⟨KC, hKC⟩ : ∃ k, k = strOfNums CL := ⟨_, rfl⟩
  have HKB := Lib.hid hKB
  have HKE := Lib.hid hKE
  have HKC := Lib.hid hKC
  have k1 : (KB.toList == KB.toList) = true := by simp
  have k2 : (KE.toList == KE.toList) = true := by simp
  have k3 : (KC.toList == KC.toList) = true := by simp
  have q1 := eq32_self RT
  have q2 := eq32_self SF
  obtain ⟨tn, htl⟩ : ∃ n, n = ts.length := ⟨_, rfl⟩
  obtain ⟨vn, hvl⟩ : ∃ n, n = l.length := ⟨_, rfl⟩
  rw [← htl] at HCK HRK HPT HRT HEB HRB HBC ht
  rw [← hvl] at HEB HRB HEC HRC hv
  have HQ := Lib.hid (heap_alloc_new w (.cells BC 31))
  have hb1 := below_alloc w (.cells BC 31)
  have HB := Lib.hid hb1
  have HEN := Lib.hid he
  have HIN := Lib.hid (show (TbIn w (.slice ta tn tc) ts ∧ ∀ t ∈ ts, BytesIn w t.bv t.bs) ∧ (VoIn w (.slice va vn vc) l ∧ ∀ t ∈ l, BytesIn w t.sv t.sign) from ⟨⟨ht, hts⟩, ⟨hv, hvs⟩⟩)
  clear he hg hh hch ht hts htz htn hv hvs hvf hvz hvn hc zt l1 lC lB hE hRT hHL hSF hBL hCL hHC hCC hBC hcE hKB hKE hKC htl hvl hb1
  go_enter Tryz.func3, Tryz.ntmps3
  go_upto_region 1 with (fail)
  obtain ⟨q, hq⟩ : ∃ q, q = w.heap.size := ⟨_, rfl⟩
  rw [← hq] at HQ ⊢
  clear hq
  generalize w.alloc (.cells BC 31) = w1 at *
  go_upto_region 2 with (first
    | (refine wpList_load_rowT (by rfl) 25 (.tmp 4) rfl q 0 rfl HC _ (bk_h (by rw [← HBC.out]; exact HQ.out) HHS.out) Tryz.underlying25 rfl (by rw [HHS.out]; kernel_rfl) ?_)
    | (refine wpList_store_row rfl 25 (.tmp 3) (.tmp 5) rfl w1.heap.size HC rfl rfl 25 _ (heap_alloc_new _ _) (by rw [HHS.out]; kernel_rfl) (by rw [HHS.out]; kernel_rfl) HHO.out ?_; rw [World.setRow_alloc_new]))
  have hb2 := below_alloc w1 (.cells HC 25)
  have hbz := HB.out.trans (hb2.mono HB.out.size)
  have M := Lib.hid (show Kp w (w1.alloc (.cells HC 25)) (BlX q w1.heap.size HC CC (.slice ta tn tc) (.slice va vn vc) ts l) from ⟨hbz, ⟨by rw [← HBC.out]; exact (hb2.block _ (bkT_lt HQ.out)).trans HQ.out, heap_alloc_new _ _, HIN.out.1.1.below hbz, fun t m => (HIN.out.1.2 t m).below hbz, HIN.out.2.1.below hbz, fun t m => (HIN.out.2.2 t m).below hbz, HEN.out.below hbz HEN.out.lt⟩, kept_blx _ _ _ _ _ _ _ _⟩)
  obtain ⟨q3, hq3⟩ : ∃ q, q = w1.heap.size := ⟨_, rfl⟩
  rw [← hq3] at M ⊢
  clear hq3 hb2 hbz HQ HB HIN HEN
  generalize w1.alloc (.cells HC 25) = w2 at *
  have KX := Lib.hid (kept_blx q q3 HC CC (.slice ta tn tc) (.slice va vn vc) ts l)
  obtain ⟨X0, hX0⟩ : ∃ X, X = BlX q q3 HC CC (.slice ta tn tc) (.slice va vn vc) ts l := ⟨_, rfl⟩
  have HX0 := Lib.hid (show ∀ w, X0 w → BlX q q3 HC CC (.slice ta tn tc) (.slice va vn vc) ts l w from fun w h => by rw [hX0] at h; exact h)
  rw [← hX0] at M KX
  clear hX0
  refine wp_region_T (fun w' => Kp w w' X0) [0, 1, 2, 3, 4, 5, 6, 7, 8, 9, 10, 11, 12, 13, 14, 15, 16, 17, 18, 19, 20, 21, 22, 23, 24, 25, 26, 27, 28, 29, 30, 31, 32, 33, 34, 35, 36, 37, 38, 39, 40, 41, 42, 43, 44, 45, 46, 47, 48, 49, 50, 51, 52, 53, 54] (by kernel_rfl) ?_
  replace M := Lib.hid (M.out.call (Below.refl _ _).drew)
  generalize w2.drew = w3 at *
  refine anyT_take [] (i := 0) (v := .agg BC) rfl (by kernel_rfl) (by kernel_rfl) (by kernel_rfl) (fun _ _ _ h => h) (by kernel_rfl) (rowT_yields (by rfl) 31 (.tmp 1) rfl q 0 rfl _ _ (fun _ h => rowT_range (by rw [HBC.out]; exact (HX0.out _ (h.x)).h)) Tryz.underlying31 rfl (by rw [HBS.out]; kernel_rfl)) M.out ?_
  try simp only [List.getElem_toArray, List.getElem_cons_succ, List.getElem_cons_zero, Act.put, List.setIfInBounds_toArray, List.set_cons_zero, List.set_cons_succ]
  refine anyT_take [] (i := 3) (v := .agg BC) rfl (by kernel_rfl) (by kernel_rfl) (by kernel_rfl) (fun _ _ _ h => h) (by kernel_rfl) (rowT_yields (by rfl) 31 (.tmp 1) rfl q 0 rfl _ _ (fun _ h => rowT_range (by rw [HBC.out]; exact (HX0.out _ (h.x)).h)) Tryz.underlying31 rfl (by rw [HBS.out]; kernel_rfl)) M.out ?_
  try simp only [List.getElem_toArray, List.getElem_cons_succ, List.getElem_cons_zero, Act.put, List.setIfInBounds_toArray, List.set_cons_zero, List.set_cons_succ]
  refine anyT_one (i := 1) (by kernel_rfl) rfl (fun K hK => ?_)
  rw [if_pos (by rfl)]
  try simp only [List.getElem_toArray, List.getElem_cons_succ, List.getElem_cons_zero]
  (go_simp; (with_reducible refine (HCK.out _ (HX0.out _ (M.out.x)).e (HX0.out _ (M.out.x)).t (HX0.out _ (M.out.x)).tb).mono ?_); rintro e w4 ⟨rfl, hb⟩;  replace M := Lib.hid (M.out.call hb); clear hb)
  refine hK _ _ (fun _ => M.out) ?_
  clear hK K
  try simp only [List.getElem_toArray, List.getElem_cons_succ, List.getElem_cons_zero, Act.put, List.setIfInBounds_toArray, List.set_cons_zero, List.set_cons_succ]
  refine anyT_one (i := 2) (by kernel_rfl) rfl (fun K hK => ?_)
  rw [if_pos (by rfl)]
  try simp only [List.getElem_toArray, List.getElem_cons_succ, List.getElem_cons_zero]
  (go_simp; (with_reducible refine (HNU.out _ (HG.out.below M.out.below)).mono ?_); rintro e w5 ⟨rfl, hb⟩;  replace M := Lib.hid (M.out.call hb); clear hb)
  refine hK _ _ (fun _ => M.out) ?_
  clear hK K
  try simp only [List.getElem_toArray, List.getElem_cons_succ, List.getElem_cons_zero, Act.put, List.setIfInBounds_toArray, List.set_cons_zero, List.set_cons_succ]
  refine anyT_one (i := 4) (by kernel_rfl) rfl (fun K hK => ?_)
  rw [if_pos (by rfl)]
  try simp only [List.getElem_toArray, List.getElem_cons_succ, List.getElem_cons_zero]
  (go_simp; (with_reducible refine (HRK.out _ (HX0.out _ (M.out.x)).t (HX0.out _ (M.out.x)).tb).mono ?_); rintro e w6 ⟨rfl, hb⟩;  replace M := Lib.hid (M.out.call hb); clear hb)
  refine hK _ _ (fun _ => M.out) ?_
  clear hK K
  try simp only [List.getElem_toArray, List.getElem_cons_succ, List.getElem_cons_zero, Act.put, List.setIfInBounds_toArray, List.set_cons_zero, List.set_cons_succ]
  refine anyT_take [] (i := 5) (v := .bool true) rfl (by kernel_rfl) (by kernel_rfl) (by kernel_rfl) (fun _ _ _ h => h) (by kernel_rfl) (Or.inl ⟨by rfl, fun w' _ => by go_simp⟩) M.out ?_
  try simp only [List.getElem_toArray, List.getElem_cons_succ, List.getElem_cons_zero, Act.put, List.setIfInBounds_toArray, List.set_cons_zero, List.set_cons_succ]
  refine anyT_take [] (i := 6) (v := .bool true) rfl (by kernel_rfl) (by kernel_rfl) (by kernel_rfl) (fun _ _ _ h => h) (by kernel_rfl) (Or.inl ⟨by rfl, fun w' _ => by go_simp⟩) M.out ?_
  try simp only [List.getElem_toArray, List.getElem_cons_succ, List.getElem_cons_zero, Act.put, List.setIfInBounds_toArray, List.set_cons_zero, List.set_cons_succ]
  refine anyT_take [] (i := 7) (v := .pointer (some ⟨q, 164, none⟩)) rfl (by kernel_rfl) (by kernel_rfl) (by kernel_rfl) (fun _ _ _ h => h) (by kernel_rfl) (Or.inl ⟨by rfl, fun w' _ => by go_simp⟩) M.out ?_
  try simp only [List.getElem_toArray, List.getElem_cons_succ, List.getElem_cons_zero, Act.put, List.setIfInBounds_toArray, List.set_cons_zero, List.set_cons_succ]
  refine anyT_take [] (i := 8) (v := .slice ta tn tc) rfl (by kernel_rfl) (by kernel_rfl) (by kernel_rfl) (fun _ _ _ h => h) (by kernel_rfl) (Or.inl ⟨by rfl, fun w' hS => by have c := bk_t (HX0.out _ (hS.x)).h HHS.out; go_simp⟩) M.out ?_
  try simp only [List.getElem_toArray, List.getElem_cons_succ, List.getElem_cons_zero, Act.put, List.setIfInBounds_toArray, List.set_cons_zero, List.set_cons_succ]
  refine anyT_take [] (i := 10) (v := .pointer (some ⟨q, 164, none⟩)) rfl (by kernel_rfl) (by kernel_rfl) (by kernel_rfl) (fun _ _ _ h => h) (by kernel_rfl) (Or.inl ⟨by rfl, fun w' _ => by go_simp⟩) M.out ?_
  try simp only [List.getElem_toArray, List.getElem_cons_succ, List.getElem_cons_zero, Act.put, List.setIfInBounds_toArray, List.set_cons_zero, List.set_cons_succ]
  refine anyT_take [] (i := 11) (v := .slice ta tn tc) rfl (by kernel_rfl) (by kernel_rfl) (by kernel_rfl) (fun _ _ _ h => h) (by kernel_rfl) (Or.inl ⟨by rfl, fun w' hS => by have c := bk_t (HX0.out _ (hS.x)).h HHS.out; go_simp⟩) M.out ?_
  try simp only [List.getElem_toArray, List.getElem_cons_succ, List.getElem_cons_zero, Act.put, List.setIfInBounds_toArray, List.set_cons_zero, List.set_cons_succ]
  refine anyT_one (i := 9) (by kernel_rfl) rfl (fun K hK => ?_)
  rw [if_pos (by rfl)]
  try simp only [List.getElem_toArray, List.getElem_cons_succ, List.getElem_cons_zero]
  (go_simp; (with_reducible refine (HPT.out _ (HX0.out _ (M.out.x)).e (HX0.out _ (M.out.x)).t (HX0.out _ (M.out.x)).tb).mono ?_); rintro e w7 ⟨rfl, hb⟩;  replace M := Lib.hid (M.out.call hb); clear hb)
  refine hK _ _ (fun _ => M.out) ?_
  clear hK K
  try simp only [List.getElem_toArray, List.getElem_cons_succ, List.getElem_cons_zero, Act.put, List.setIfInBounds_toArray, List.set_cons_zero, List.set_cons_succ]
  refine anyT_one (i := 12) (by kernel_rfl) rfl (fun K hK => ?_)
  rw [if_pos (by rfl)]
  try simp only [List.getElem_toArray, List.getElem_cons_succ, List.getElem_cons_zero]
  (go_simp; (with_reducible refine (HRT.out _ (HX0.out _ (M.out.x)).t (HX0.out _ (M.out.x)).tb).mono ?_); rintro e w8 ⟨rfl, hb⟩;  replace M := Lib.hid (M.out.call hb); clear hb)
  refine hK _ _ (fun _ => M.out) ?_
  clear hK K
  try simp only [List.getElem_toArray, List.getElem_cons_succ, List.getElem_cons_zero, Act.put, List.setIfInBounds_toArray, List.set_cons_zero, List.set_cons_succ]
  refine anyT_take [] (i := 13) (v := .bool true) rfl (by kernel_rfl) (by kernel_rfl) (by kernel_rfl) (fun _ _ _ h => h) (by kernel_rfl) (Or.inl ⟨by rfl, fun w' _ => by go_simp⟩) M.out ?_
  try simp only [List.getElem_toArray, List.getElem_cons_succ, List.getElem_cons_zero, Act.put, List.setIfInBounds_toArray, List.set_cons_zero, List.set_cons_succ]
  refine anyT_take [] (i := 14) (v := .bool true) rfl (by kernel_rfl) (by kernel_rfl) (by kernel_rfl) (fun _ _ _ h => h) (by kernel_rfl) (Or.inl ⟨by rfl, fun w' _ => by go_simp⟩) M.out ?_
  try simp only [List.getElem_toArray, List.getElem_cons_succ, List.getElem_cons_zero, Act.put, List.setIfInBounds_toArray, List.set_cons_zero, List.set_cons_succ]
  refine anyT_take [] (i := 15) (v := .bool true) rfl (by kernel_rfl) (by kernel_rfl) (by kernel_rfl) (fun _ _ _ h => h) (by kernel_rfl) (Or.inl ⟨by rfl, fun w' _ => by go_simp⟩) M.out ?_
  try simp only [List.getElem_toArray, List.getElem_cons_succ, List.getElem_cons_zero, Act.put, List.setIfInBounds_toArray, List.set_cons_zero, List.set_cons_succ]
  refine anyT_take [] (i := 16) (v := .agg HC) rfl (by kernel_rfl) (by kernel_rfl) (by kernel_rfl) (fun _ _ _ h => h) (by kernel_rfl) (rowT_yields (by rfl) 25 (.tmp 3) rfl q3 0 rfl _ _ (fun _ h => rowT_range (HX0.out _ (h.x)).h3) Tryz.underlying25 rfl (by rw [HHS.out]; kernel_rfl)) M.out ?_
  try simp only [List.getElem_toArray, List.getElem_cons_succ, List.getElem_cons_zero, Act.put, List.setIfInBounds_toArray, List.set_cons_zero, List.set_cons_succ]
  refine anyT_take [] (i := 18) (v := .agg HC) rfl (by kernel_rfl) (by kernel_rfl) (by kernel_rfl) (fun _ _ _ h => h) (by kernel_rfl) (rowT_yields (by rfl) 25 (.tmp 3) rfl q3 0 rfl _ _ (fun _ h => rowT_range (HX0.out _ (h.x)).h3) Tryz.underlying25 rfl (by rw [HHS.out]; kernel_rfl)) M.out ?_
  try simp only [List.getElem_toArray, List.getElem_cons_succ, List.getElem_cons_zero, Act.put, List.setIfInBounds_toArray, List.set_cons_zero, List.set_cons_succ]
  refine anyT_one (i := 17) (by kernel_rfl) rfl (fun K hK => ?_)
  rw [if_pos (by rfl)]
  try simp only [List.getElem_toArray, List.getElem_cons_succ, List.getElem_cons_zero]
  (go_simp; (with_reducible refine (HPH.out _ (HX0.out _ (M.out.x)).e).mono ?_); rintro e w9 ⟨rfl, hb⟩;  replace M := Lib.hid (M.out.call hb); clear hb)
  refine hK _ _ (fun _ => M.out) ?_
  clear hK K
  try simp only [List.getElem_toArray, List.getElem_cons_succ, List.getElem_cons_zero, Act.put, List.setIfInBounds_toArray, List.set_cons_zero, List.set_cons_succ]
  refine anyT_one (i := 19) (by kernel_rfl) rfl (fun K hK => ?_)
  rw [if_pos (by rfl)]
  try simp only [List.getElem_toArray, List.getElem_cons_succ, List.getElem_cons_zero]
  (go_simp; (with_reducible refine (HRH.out _).mono ?_); rintro e w10 ⟨rfl, hb⟩;  replace M := Lib.hid (M.out.call hb); clear hb)
  refine hK _ _ (fun _ => M.out) ?_
  clear hK K
  try simp only [List.getElem_toArray, List.getElem_cons_succ, List.getElem_cons_zero, Act.put, List.setIfInBounds_toArray, List.set_cons_zero, List.set_cons_succ]
  refine anyT_take [] (i := 20) (v := .bool true) rfl (by kernel_rfl) (by kernel_rfl) (by kernel_rfl) (fun _ _ _ h => h) (by kernel_rfl) (Or.inl ⟨by rfl, fun w' _ => by go_simp⟩) M.out ?_
  try simp only [List.getElem_toArray, List.getElem_cons_succ, List.getElem_cons_zero, Act.put, List.setIfInBounds_toArray, List.set_cons_zero, List.set_cons_succ]
  refine anyT_take [] (i := 21) (v := .bool true) rfl (by kernel_rfl) (by kernel_rfl) (by kernel_rfl) (fun _ _ _ h => h) (by kernel_rfl) (Or.inl ⟨by rfl, fun w' _ => by go_simp⟩) M.out ?_
  try simp only [List.getElem_toArray, List.getElem_cons_succ, List.getElem_cons_zero, Act.put, List.setIfInBounds_toArray, List.set_cons_zero, List.set_cons_succ]
  refine anyT_take [] (i := 22) (v := .bool true) rfl (by kernel_rfl) (by kernel_rfl) (by kernel_rfl) (fun _ _ _ h => h) (by kernel_rfl) (Or.inl ⟨by rfl, fun w' _ => by go_simp⟩) M.out ?_
  try simp only [List.getElem_toArray, List.getElem_cons_succ, List.getElem_cons_zero, Act.put, List.setIfInBounds_toArray, List.set_cons_zero, List.set_cons_succ]
  refine anyT_take [] (i := 23) (v := .agg BC) rfl (by kernel_rfl) (by kernel_rfl) (by kernel_rfl) (fun _ _ _ h => h) (by kernel_rfl) (rowT_yields (by rfl) 31 (.tmp 1) rfl q 0 rfl _ _ (fun _ h => rowT_range (by rw [HBC.out]; exact (HX0.out _ (h.x)).h)) Tryz.underlying31 rfl (by rw [HBS.out]; kernel_rfl)) M.out ?_
  try simp only [List.getElem_toArray, List.getElem_cons_succ, List.getElem_cons_zero, Act.put, List.setIfInBounds_toArray, List.set_cons_zero, List.set_cons_succ]
  refine anyT_take [] (i := 26) (v := .agg BC) rfl (by kernel_rfl) (by kernel_rfl) (by kernel_rfl) (fun _ _ _ h => h) (by kernel_rfl) (rowT_yields (by rfl) 31 (.tmp 1) rfl q 0 rfl _ _ (fun _ h => rowT_range (by rw [HBC.out]; exact (HX0.out _ (h.x)).h)) Tryz.underlying31 rfl (by rw [HBS.out]; kernel_rfl)) M.out ?_
  try simp only [List.getElem_toArray, List.getElem_cons_succ, List.getElem_cons_zero, Act.put, List.setIfInBounds_toArray, List.set_cons_zero, List.set_cons_succ]
  refine anyT_one (i := 24) (by kernel_rfl) rfl (fun K hK => ?_)
  rw [if_pos (by rfl)]
  try simp only [List.getElem_toArray, List.getElem_cons_succ, List.getElem_cons_zero]
  (go_simp; (with_reducible refine (HEB.out _ (HX0.out _ (M.out.x)).t (HX0.out _ (M.out.x)).tb (HX0.out _ (M.out.x)).v (HX0.out _ (M.out.x)).vs).mono ?_); rintro e w11 ⟨v24, rfl, hby, hb⟩; obtain ⟨a24, c24, rfl, -⟩ := id hby; have HB24 := Lib.hid hby; clear hby; replace M := Lib.hid (M.out.call hb); clear hb)
  refine hK _ _ (fun _ => M.out) ?_
  clear hK K
  try simp only [List.getElem_toArray, List.getElem_cons_succ, List.getElem_cons_zero, Act.put, List.setIfInBounds_toArray, List.set_cons_zero, List.set_cons_succ]
  replace M := Lib.hid (M.out.add HB24.out (kept_bytesB _ _))
  refine anyT_kpB (Y := fun w => BytesIn w (.slice a24 BL.length c24) BL) KX.out ?_
  replace KX := Lib.hid (KX.out.and (kept_bytesB (.slice a24 BL.length c24) BL))
  clear HB24
  refine anyT_take [] (i := 25) (v := .string KB) rfl (by kernel_rfl) (by kernel_rfl) (by kernel_rfl) (fun _ _ _ h => h) (by kernel_rfl) (Or.inl ⟨by rfl, fun w' hS => by have c := conv_bytes w' _ _ hS.x.2; rw [← HKB.out] at c; go_simp⟩) M.out ?_
  try simp only [List.getElem_toArray, List.getElem_cons_succ, List.getElem_cons_zero, Act.put, List.setIfInBounds_toArray, List.set_cons_zero, List.set_cons_succ]
  refine anyT_one (i := 27) (by kernel_rfl) rfl (fun K hK => ?_)
  rw [if_pos (by rfl)]
  try simp only [List.getElem_toArray, List.getElem_cons_succ, List.getElem_cons_zero]
  (go_simp; (with_reducible refine (HRB.out _ (HX0.out _ (M.out.x.1)).t (HX0.out _ (M.out.x.1)).tb (HX0.out _ (M.out.x.1)).v (HX0.out _ (M.out.x.1)).vs).mono ?_); rintro e w12 ⟨v27, rfl, hby, hb⟩; obtain ⟨a27, c27, rfl, -⟩ := id hby; have HB27 := Lib.hid hby; clear hby; replace M := Lib.hid (M.out.call hb); clear hb)
  refine hK _ _ (fun _ => M.out) ?_
  clear hK K
  try simp only [List.getElem_toArray, List.getElem_cons_succ, List.getElem_cons_zero, Act.put, List.setIfInBounds_toArray, List.set_cons_zero, List.set_cons_succ]
  replace M := Lib.hid (M.out.add HB27.out (kept_bytesB _ _))
  refine anyT_kpB (Y := fun w => BytesIn w (.slice a27 BL.length c27) BL) KX.out ?_
  replace KX := Lib.hid (KX.out.and (kept_bytesB (.slice a27 BL.length c27) BL))
  clear HB27
  refine anyT_take [] (i := 28) (v := .string KB) rfl (by kernel_rfl) (by kernel_rfl) (by kernel_rfl) (fun _ _ _ h => h) (by kernel_rfl) (Or.inl ⟨by rfl, fun w' hS => by have c := conv_bytes w' _ _ hS.x.2; rw [← HKB.out] at c; go_simp⟩) M.out ?_
  try simp only [List.getElem_toArray, List.getElem_cons_succ, List.getElem_cons_zero, Act.put, List.setIfInBounds_toArray, List.set_cons_zero, List.set_cons_succ]
  refine anyT_take [] (i := 29) (v := .bool true) rfl (by kernel_rfl) (by kernel_rfl) (by kernel_rfl) (fun _ _ _ h => h) (by kernel_rfl) (Or.inl ⟨by rfl, fun w' _ => by go_simp⟩) M.out ?_
  try simp only [List.getElem_toArray, List.getElem_cons_succ, List.getElem_cons_zero, Act.put, List.setIfInBounds_toArray, List.set_cons_zero, List.set_cons_succ]
  refine anyT_take [] (i := 30) (v := .bool true) rfl (by kernel_rfl) (by kernel_rfl) (by kernel_rfl) (fun _ _ _ h => h) (by kernel_rfl) (Or.inl ⟨by rfl, fun w' _ => by go_simp⟩) M.out ?_
  try simp only [List.getElem_toArray, List.getElem_cons_succ, List.getElem_cons_zero, Act.put, List.setIfInBounds_toArray, List.set_cons_zero, List.set_cons_succ]
  refine anyT_take [] (i := 31) (v := .bool true) rfl (by kernel_rfl) (by kernel_rfl) (by kernel_rfl) (fun _ _ _ h => h) (by kernel_rfl) (Or.inl ⟨by rfl, fun w' _ => by go_simp⟩) M.out ?_
  try simp only [List.getElem_toArray, List.getElem_cons_succ, List.getElem_cons_zero, Act.put, List.setIfInBounds_toArray, List.set_cons_zero, List.set_cons_succ]
  refine anyT_take [] (i := 32) (v := .agg HC) rfl (by kernel_rfl) (by kernel_rfl) (by kernel_rfl) (fun _ _ _ h => h) (by kernel_rfl) (rowT_yields (by rfl) 25 (.tmp 3) rfl q3 0 rfl _ _ (fun _ h => rowT_range (HX0.out _ (h.x.1.1)).h3) Tryz.underlying25 rfl (by rw [HHS.out]; kernel_rfl)) M.out ?_
  try simp only [List.getElem_toArray, List.getElem_cons_succ, List.getElem_cons_zero, Act.put, List.setIfInBounds_toArray, List.set_cons_zero, List.set_cons_succ]
  refine anyT_take [] (i := 35) (v := .agg HC) rfl (by kernel_rfl) (by kernel_rfl) (by kernel_rfl) (fun _ _ _ h => h) (by kernel_rfl) (rowT_yields (by rfl) 25 (.tmp 3) rfl q3 0 rfl _ _ (fun _ h => rowT_range (HX0.out _ (h.x.1.1)).h3) Tryz.underlying25 rfl (by rw [HHS.out]; kernel_rfl)) M.out ?_
  try simp only [List.getElem_toArray, List.getElem_cons_succ, List.getElem_cons_zero, Act.put, List.setIfInBounds_toArray, List.set_cons_zero, List.set_cons_succ]
  refine anyT_one (i := 33) (by kernel_rfl) rfl (fun K hK => ?_)
  rw [if_pos (by rfl)]
  try simp only [List.getElem_toArray, List.getElem_cons_succ, List.getElem_cons_zero]
  (go_simp; (with_reducible refine (HEH.out _).mono ?_); rintro e w13 ⟨v33, rfl, hby, hb⟩; obtain ⟨a33, c33, rfl, -⟩ := id hby; have HB33 := Lib.hid hby; clear hby; replace M := Lib.hid (M.out.call hb); clear hb)
  refine hK _ _ (fun _ => M.out) ?_
  clear hK K
  try simp only [List.getElem_toArray, List.getElem_cons_succ, List.getElem_cons_zero, Act.put, List.setIfInBounds_toArray, List.set_cons_zero, List.set_cons_succ]
  replace M := Lib.hid (M.out.add HB33.out (kept_bytesB _ _))
  refine anyT_kpB (Y := fun w => BytesIn w (.slice a33 HL.length c33) HL) KX.out ?_
  replace KX := Lib.hid (KX.out.and (kept_bytesB (.slice a33 HL.length c33) HL))
  clear HB33
  refine anyT_take [] (i := 34) (v := .string KE) rfl (by kernel_rfl) (by kernel_rfl) (by kernel_rfl) (fun _ _ _ h => h) (by kernel_rfl) (Or.inl ⟨by rfl, fun w' hS => by have c := conv_bytes w' _ _ hS.x.2; rw [← HKE.out] at c; go_simp⟩) M.out ?_
  try simp only [List.getElem_toArray, List.getElem_cons_succ, List.getElem_cons_zero, Act.put, List.setIfInBounds_toArray, List.set_cons_zero, List.set_cons_succ]
  refine anyT_one (i := 36) (by kernel_rfl) rfl (fun K hK => ?_)
  rw [if_pos (by rfl)]
  try simp only [List.getElem_toArray, List.getElem_cons_succ, List.getElem_cons_zero]
  (go_simp; (with_reducible refine (HRE.out _).mono ?_); rintro e w14 ⟨v36, rfl, hby, hb⟩; obtain ⟨a36, c36, rfl, -⟩ := id hby; have HB36 := Lib.hid hby; clear hby; replace M := Lib.hid (M.out.call hb); clear hb)
  refine hK _ _ (fun _ => M.out) ?_
  clear hK K
  try simp only [List.getElem_toArray, List.getElem_cons_succ, List.getElem_cons_zero, Act.put, List.setIfInBounds_toArray, List.set_cons_zero, List.set_cons_succ]
  replace M := Lib.hid (M.out.add HB36.out (kept_bytesB _ _))
  refine anyT_kpB (Y := fun w => BytesIn w (.slice a36 HL.length c36) HL) KX.out ?_
  replace KX := Lib.hid (KX.out.and (kept_bytesB (.slice a36 HL.length c36) HL))
  clear HB36
  refine anyT_take [] (i := 37) (v := .string KE) rfl (by kernel_rfl) (by kernel_rfl) (by kernel_rfl) (fun _ _ _ h => h) (by kernel_rfl) (Or.inl ⟨by rfl, fun w' hS => by have c := conv_bytes w' _ _ hS.x.2; rw [← HKE.out] at c; go_simp⟩) M.out ?_
  try simp only [List.getElem_toArray, List.getElem_cons_succ, List.getElem_cons_zero, Act.put, List.setIfInBounds_toArray, List.set_cons_zero, List.set_cons_succ]
  refine anyT_take [] (i := 38) (v := .bool true) rfl (by kernel_rfl) (by kernel_rfl) (by kernel_rfl) (fun _ _ _ h => h) (by kernel_rfl) (Or.inl ⟨by rfl, fun w' _ => by go_simp⟩) M.out ?_
  try simp only [List.getElem_toArray, List.getElem_cons_succ, List.getElem_cons_zero, Act.put, List.setIfInBounds_toArray, List.set_cons_zero, List.set_cons_succ]
  refine anyT_take [] (i := 39) (v := .bool true) rfl (by kernel_rfl) (by kernel_rfl) (by kernel_rfl) (fun _ _ _ h => h) (by kernel_rfl) (Or.inl ⟨by rfl, fun w' _ => by go_simp⟩) M.out ?_
  try simp only [List.getElem_toArray, List.getElem_cons_succ, List.getElem_cons_zero, Act.put, List.setIfInBounds_toArray, List.set_cons_zero, List.set_cons_succ]
  refine anyT_take [] (i := 40) (v := .bool true) rfl (by kernel_rfl) (by kernel_rfl) (by kernel_rfl) (fun _ _ _ h => h) (by kernel_rfl) (Or.inl ⟨by rfl, fun w' _ => by go_simp⟩) M.out ?_
  try simp only [List.getElem_toArray, List.getElem_cons_succ, List.getElem_cons_zero, Act.put, List.setIfInBounds_toArray, List.set_cons_zero, List.set_cons_succ]
  refine anyT_take [] (i := 41) (v := .pointer (some ⟨q, 165, none⟩)) rfl (by kernel_rfl) (by kernel_rfl) (by kernel_rfl) (fun _ _ _ h => h) (by kernel_rfl) (Or.inl ⟨by rfl, fun w' _ => by go_simp⟩) M.out ?_
  try simp only [List.getElem_toArray, List.getElem_cons_succ, List.getElem_cons_zero, Act.put, List.setIfInBounds_toArray, List.set_cons_zero, List.set_cons_succ]
  refine anyT_take [] (i := 42) (v := .agg CC) rfl (by kernel_rfl) (by kernel_rfl) (by kernel_rfl) (fun _ _ _ h => h) (by kernel_rfl) (rowT_yields (by rfl) 29 (.tmp 47) rfl q 165 rfl _ _ (fun _ h => bk_c (HX0.out _ (h.x.1.1.1.1)).h HHS.out) Tryz.underlying29 rfl (by rw [HCS.out]; kernel_rfl)) M.out ?_
  try simp only [List.getElem_toArray, List.getElem_cons_succ, List.getElem_cons_zero, Act.put, List.setIfInBounds_toArray, List.set_cons_zero, List.set_cons_succ]
  refine anyT_take [] (i := 45) (v := .pointer (some ⟨q, 165, none⟩)) rfl (by kernel_rfl) (by kernel_rfl) (by kernel_rfl) (fun _ _ _ h => h) (by kernel_rfl) (Or.inl ⟨by rfl, fun w' _ => by go_simp⟩) M.out ?_
  try simp only [List.getElem_toArray, List.getElem_cons_succ, List.getElem_cons_zero, Act.put, List.setIfInBounds_toArray, List.set_cons_zero, List.set_cons_succ]
  refine anyT_take [] (i := 46) (v := .agg CC) rfl (by kernel_rfl) (by kernel_rfl) (by kernel_rfl) (fun _ _ _ h => h) (by kernel_rfl) (rowT_yields (by rfl) 29 (.tmp 51) rfl q 165 rfl _ _ (fun _ h => bk_c (HX0.out _ (h.x.1.1.1.1)).h HHS.out) Tryz.underlying29 rfl (by rw [HCS.out]; kernel_rfl)) M.out ?_
  try simp only [List.getElem_toArray, List.getElem_cons_succ, List.getElem_cons_zero, Act.put, List.setIfInBounds_toArray, List.set_cons_zero, List.set_cons_succ]
  refine anyT_one (i := 43) (by kernel_rfl) rfl (fun K hK => ?_)
  rw [if_pos (by rfl)]
  try simp only [List.getElem_toArray, List.getElem_cons_succ, List.getElem_cons_zero]
  (go_simp; (with_reducible refine (HEC.out _ (HX0.out _ (M.out.x.1.1.1.1)).v (HX0.out _ (M.out.x.1.1.1.1)).vs).mono ?_); rintro e w15 ⟨v43, rfl, hby, hb⟩; obtain ⟨a43, c43, rfl, -⟩ := id hby; have HB43 := Lib.hid hby; clear hby; replace M := Lib.hid (M.out.call hb); clear hb)
  refine hK _ _ (fun _ => M.out) ?_
  clear hK K
  try simp only [List.getElem_toArray, List.getElem_cons_succ, List.getElem_cons_zero, Act.put, List.setIfInBounds_toArray, List.set_cons_zero, List.set_cons_succ]
  replace M := Lib.hid (M.out.add HB43.out (kept_bytesB _ _))
  refine anyT_kpB (Y := fun w => BytesIn w (.slice a43 CL.length c43) CL) KX.out ?_
  replace KX := Lib.hid (KX.out.and (kept_bytesB (.slice a43 CL.length c43) CL))
  clear HB43
  refine anyT_take [] (i := 44) (v := .string KC) rfl (by kernel_rfl) (by kernel_rfl) (by kernel_rfl) (fun _ _ _ h => h) (by kernel_rfl) (Or.inl ⟨by rfl, fun w' hS => by have c := conv_bytes w' _ _ hS.x.2; rw [← HKC.out] at c; go_simp⟩) M.out ?_
  try simp only [List.getElem_toArray, List.getElem_cons_succ, List.getElem_cons_zero, Act.put, List.setIfInBounds_toArray, List.set_cons_zero, List.set_cons_succ]
  refine anyT_one (i := 47) (by kernel_rfl) rfl (fun K hK => ?_)
  rw [if_pos (by rfl)]
  try simp only [List.getElem_toArray, List.getElem_cons_succ, List.getElem_cons_zero]
  (go_simp; (with_reducible refine (HRC.out _ (HX0.out _ (M.out.x.1.1.1.1.1)).v (HX0.out _ (M.out.x.1.1.1.1.1)).vs).mono ?_); rintro e w16 ⟨v47, rfl, hby, hb⟩; obtain ⟨a47, c47, rfl, -⟩ := id hby; have HB47 := Lib.hid hby; clear hby; replace M := Lib.hid (M.out.call hb); clear hb)
  refine hK _ _ (fun _ => M.out) ?_
  clear hK K
  try simp only [List.getElem_toArray, List.getElem_cons_succ, List.getElem_cons_zero, Act.put, List.setIfInBounds_toArray, List.set_cons_zero, List.set_cons_succ]
  replace M := Lib.hid (M.out.add HB47.out (kept_bytesB _ _))
  refine anyT_kpB (Y := fun w => BytesIn w (.slice a47 CL.length c47) CL) KX.out ?_
  replace KX := Lib.hid (KX.out.and (kept_bytesB (.slice a47 CL.length c47) CL))
  clear HB47
  refine anyT_take [] (i := 48) (v := .string KC) rfl (by kernel_rfl) (by kernel_rfl) (by kernel_rfl) (fun _ _ _ h => h) (by kernel_rfl) (Or.inl ⟨by rfl, fun w' hS => by have c := conv_bytes w' _ _ hS.x.2; rw [← HKC.out] at c; go_simp⟩) M.out ?_
  try simp only [List.getElem_toArray, List.getElem_cons_succ, List.getElem_cons_zero, Act.put, List.setIfInBounds_toArray, List.set_cons_zero, List.set_cons_succ]
  refine anyT_take [] (i := 49) (v := .bool true) rfl (by kernel_rfl) (by kernel_rfl) (by kernel_rfl) (fun _ _ _ h => h) (by kernel_rfl) (Or.inl ⟨by rfl, fun w' _ => by go_simp⟩) M.out ?_
  try simp only [List.getElem_toArray, List.getElem_cons_succ, List.getElem_cons_zero, Act.put, List.setIfInBounds_toArray, List.set_cons_zero, List.set_cons_succ]
  refine anyT_take [] (i := 50) (v := .bool true) rfl (by kernel_rfl) (by kernel_rfl) (by kernel_rfl) (fun _ _ _ h => h) (by kernel_rfl) (Or.inl ⟨by rfl, fun w' _ => by go_simp⟩) M.out ?_
  try simp only [List.getElem_toArray, List.getElem_cons_succ, List.getElem_cons_zero, Act.put, List.setIfInBounds_toArray, List.set_cons_zero, List.set_cons_succ]
  refine anyT_take [] (i := 51) (v := .bool true) rfl (by kernel_rfl) (by kernel_rfl) (by kernel_rfl) (fun _ _ _ h => h) (by kernel_rfl) (Or.inl ⟨by rfl, fun w' _ => by go_simp⟩) M.out ?_
  try simp only [List.getElem_toArray, List.getElem_cons_succ, List.getElem_cons_zero, Act.put, List.setIfInBounds_toArray, List.set_cons_zero, List.set_cons_succ]
  refine anyT_one (i := 52) (by kernel_rfl) rfl (fun K hK => ?_)
  rw [if_pos (by rfl)]
  try simp only [List.getElem_toArray, List.getElem_cons_succ, List.getElem_cons_zero]
  (go_simp; (with_reducible refine (HSU.out _ M.out.below).mono ?_); rintro e w17 ⟨rfl, hb⟩;  replace M := Lib.hid (M.out.call hb); clear hb)
  refine hK _ _ (fun _ => M.out) ?_
  clear hK K
  try simp only [List.getElem_toArray, List.getElem_cons_succ, List.getElem_cons_zero, Act.put, List.setIfInBounds_toArray, List.set_cons_zero, List.set_cons_succ]
  refine anyT_take [] (i := 53) (v := .bool true) rfl (by kernel_rfl) (by kernel_rfl) (by kernel_rfl) (fun _ _ _ h => h) (by kernel_rfl) (Or.inl ⟨by rfl, fun w' _ => by go_simp⟩) M.out ?_
  try simp only [List.getElem_toArray, List.getElem_cons_succ, List.getElem_cons_zero, Act.put, List.setIfInBounds_toArray, List.set_cons_zero, List.set_cons_succ]
  refine anyT_take [] (i := 54) (v := .bool true) rfl (by kernel_rfl) (by kernel_rfl) (by kernel_rfl) (fun _ _ _ h => h) (by kernel_rfl) (Or.inl ⟨by rfl, fun w' _ => by go_simp⟩) M.out ?_
  try simp only [List.getElem_toArray, List.getElem_cons_succ, List.getElem_cons_zero, Act.put, List.setIfInBounds_toArray, List.set_cons_zero, List.set_cons_succ]
  refine anyT_done (by kernel_rfl) ?_ _
  go_wp2_with (fail)
  go_ret
  exact ⟨rfl, M.out.below⟩
end Go.Proofs.YteokgklfljhcaaaGreatDoor
