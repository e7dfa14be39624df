/- Part 44 of the proof. -/
import Derived.Test.YtjnpcmfpiejmjaaGreatDoorVo37
import Derived.Test.YtjnpcmfpiejmjaaGreatDoorVo41
import Derived.Test.YtjnpcmfpiejmjaaGreatDoorVo43
namespace Go.Proofs.YtjnpcmfpiejmjaaGreatDoor
set_option linter.unusedVariables false
set_option linter.unusedSimpArgs false
open Go.RowKit
set_option maxRecDepth 1000000
set_option linter.unusedSimpArgs false
set_option linter.unusedVariables false
/-- what lies in memory ahead of the last statement -/
structure VtX (g3 g4 g5 g7 : Nat) (chain : ByteArray) (D E E2 : Int) (a b : Vo) (lv : Value) (l : List Va) (w : World) : Prop where
  h3 : w.heap[g3]? = some (.cells (csC chain lv D E) 44 (0, 0))
  h4 : w.heap[g4]? = some (.cells (voC a) 46 (0, 0))
  h5 : w.heap[g5]? = some (.cells (voC b) 46 (0, 0))
  h7 : w.heap[g7]? = some (.cells (parC D E2) 42 (0, 0))
  l : VaIn w lv l
  sa : BytesIn w a.sv a.sign
  sb : BytesIn w b.sv b.sign
theorem kept_vtx (g3 g4 g5 g7 : Nat) (chain : ByteArray) (D E E2 : Int) (a b : Vo) (lv : Value) (l : List Va) : Kept (VtX g3 g4 g5 g7 chain D E E2 a b lv l) := fun _ _ m h =>
  ⟨kept_blk _ _ _ _ m.h3 h, kept_blk _ _ _ _ m.h4 h, kept_blk _ _ _ _ m.h5 h, kept_blk _ _ _ _ m.h7 h, m.l.below h, m.sa.below h, m.sb.below h⟩
set_option maxHeartbeats 32000000 in
theorem lvotes_any (chain : ByteArray) (l : List Va) (lv : Value) (D E : Int) (a b : Vo) (w : World) (he : Env w) (hg : ErrType w) (hl : VaIn w lv l) (hsa : BytesIn w a.sv a.sign) (hsb : BytesIn w b.sv b.sign) (hc : chain.size ≤ 140737488351232) (hva : VoOk a) (hvb : VoOk b) (hba : bytesOk a.sign) (hbb : bytesOk b.sign) (hza : a.sign.length ≤ 140737488351232) (hzb : b.sign.length ≤ 140737488351232) :
    Calls Tryz.prog 4 #[.agg (csC chain lv D E), .agg (voC a), .agg (voC b)] w fun e w' => e = .returned (.bool true) ∧ Below w.heap.size w w' := by
  obtain ⟨la, lc, rfl, -, hlm⟩ := hl.len
  have hn : l.length ≤ 9223372036854775807 := by unfold maxLen at hlm; omega
  have HE := Lib.hid he
  have HG := Lib.hid hg
  have HSU := Lib.hid (fun w' (h : Below w.heap.size w w') => tysure_any w' (HG.out.below h))
  have HCU := Lib.hid (fun w => lcut11_any D E w)
  obtain ⟨E2, hE2⟩ : ∃ e, e = cutE4 E := ⟨_, rfl⟩
  rw [← hE2] at HCU
  have HVA := Lib.hid (show ∀ w, Env w → VaIn w (.slice la l.length lc) l → BytesIn w a.sv a.sign → Calls Tryz.prog 21 #[.string chain, .slice la l.length lc, .agg (parC D E2), .agg (voC a)] w fun e w' => e = .returned (errV (vvE chain l D E2 a)) ∧ Below w.heap.size w w' from fun w he h1 h2 => vvote_any chain l _ D E2 a w he h1 h2 hc hva hba (Nat.le_trans hza (by omega)) hn)
  have HRA := Lib.hid (show ∀ w, VaIn w (.slice la l.length lc) l → BytesIn w a.sv a.sign → Calls Tryz.prog 22 #[.string chain, .slice la l.length lc, .agg (parC D E2), .agg (voC a)] w fun e w' => e = .returned (.int .i64 (numE (vvE chain l D E2 a))) ∧ Below w.heap.size w w' from fun w h1 h2 => rvvote_any chain l _ D E2 a w h1 h2 hc hva hba hza)
  have HTW := Lib.hid (show ∀ w, Env w → VaIn w (.slice la l.length lc) l → BytesIn w a.sv a.sign → BytesIn w b.sv b.sign → Calls Tryz.prog 23 #[.string chain, .slice la l.length lc, .agg (parC D E2), .agg (voC a), .agg (voC b)] w fun e w' => e = .returned (errV (twoE chain l D E2 a b)) ∧ Below w.heap.size w w' from fun w he h1 h2 h3 => ttwo_any chain l _ D E2 a b w he h1 h2 h3 hc hva hvb hba hbb hza hzb)
  have HRT := Lib.hid (show ∀ w, VaIn w (.slice la l.length lc) l → BytesIn w a.sv a.sign → BytesIn w b.sv b.sign → Calls Tryz.prog 24 #[.string chain, .slice la l.length lc, .agg (parC D E2), .agg (voC a), .agg (voC b)] w fun e w' => e = .returned (.int .i64 (numE (twoE chain l D E2 a b))) ∧ Below w.heap.size w w' from fun w h1 h2 h3 => rtwo_any chain l _ D E2 a b w h1 h2 h3 hc hva hvb hba hbb hza hzb)
  have HVB := Lib.hid (fun w => votebytes_any chain a w hc hva)
  have HRB := Lib.hid (fun w => rvbytes_any chain a w hc hva)
  obtain ⟨e1, he1⟩ : ∃ e, e = vvE chain l D E2 a := ⟨_, rfl⟩
  obtain ⟨e2, he2⟩ : ∃ e, e = twoE chain l D E2 a b := ⟨_, rfl⟩
  rw [← he1] at HVA HRA
  rw [← he2] at HTW HRT
  have HN1 := Lib.hid (fun w h => num_any e1 w h)
  have HN2 := Lib.hid (fun w h => num_any e2 w h)
  obtain ⟨n1, hn1⟩ : ∃ n, n = numE e1 := ⟨_, rfl⟩
  obtain ⟨n2, hn2⟩ : ∃ n, n = numE e2 := ⟨_, rfl⟩
  rw [← hn1] at HRA HN1
  rw [← hn2] at HRT HN2
  obtain ⟨L0, hL0⟩ : ∃ x, x = vbL chain a := ⟨_, rfl⟩
  rw [← hL0] at HVB HRB
  obtain ⟨S0, hS0⟩ : ∃ s, s = strOfNums L0 := ⟨_, rfl⟩
  have HS0 := Lib.hid hS0
  have hk0 : (S0.toList == S0.toList) = true := by simp
  obtain ⟨nl, hnl⟩ : ∃ n, n = l.length := ⟨_, rfl⟩
  rw [← hnl] at HVA HRA HTW HRT
  have hb1 := below_alloc w (.cells (csC chain (.slice la l.length lc) D E) 44)
  have hb2 := below_alloc (w.alloc (.cells (csC chain (.slice la l.length lc) D E) 44)) (.cells (voC a) 46)
  have hb3 := below_alloc ((w.alloc (.cells (csC chain (.slice la l.length lc) D E) 44)).alloc (.cells (voC a) 46)) (.cells (voC b) 46)
  have h3' := heap_alloc_new w (.cells (csC chain (.slice la l.length lc) D E) 44)
  have h4' := heap_alloc_new (w.alloc (.cells (csC chain (.slice la l.length lc) D E) 44)) (.cells (voC a) 46)
  have h5' := heap_alloc_new ((w.alloc (.cells (csC chain (.slice la l.length lc) D E) 44)).alloc (.cells (voC a) 46)) (.cells (voC b) 46)
  rw [size_alloc] at h4' h5'
  rw [size_alloc] at h5'
  have MB := Lib.hid (show Below w.heap.size w (((w.alloc (.cells (csC chain (.slice la l.length lc) D E) 44)).alloc (.cells (voC a) 46)).alloc (.cells (voC b) 46)) from (hb1.trans (hb2.mono (by simp))).trans (hb3.mono (by simp; omega)))
  have M3 := Lib.hid ((hb3.block _ (by simp; omega)).trans ((hb2.block _ (by simp)).trans h3'))
  have M4 := Lib.hid ((hb3.block _ (by simp)).trans h4')
  have M5 := Lib.hid h5'
  have ML := Lib.hid (((hl.below hb1).below hb2).below hb3)
  have MA := Lib.hid (((hsa.below hb1).below hb2).below hb3)
  have MC := Lib.hid (((hsb.below hb1).below hb2).below hb3)
  rw [← hnl] at MB M3 M4 M5 ML MA MC hn ⊢
  clear hb1 hb2 hb3 h3' h4' h5' he hg hl hsa hsb hc hva hvb hba hbb hza hzb hnl hE2 he1 he2 hn1 hn2 hL0 hS0 hlm
  go_enter Tryz.func4, Tryz.ntmps4
  go_upto_region 1 with (fail)
  obtain ⟨g3, hg3⟩ : ∃ g, g = w.heap.size := ⟨_, rfl⟩
  obtain ⟨g4, hg4⟩ : ∃ g, g = w.heap.size + 1 := ⟨_, rfl⟩
  obtain ⟨g5, hg5⟩ : ∃ g, g = w.heap.size + 1 + 1 := ⟨_, rfl⟩
  have HG3 := Lib.hid hg3
  rw [← hg3] at M3
  rw [← hg4] at M4
  rw [← hg5] at M5
  first
    | rw [← hg5, ← hg4, ← hg3]
    | rw [show w.heap.size + 2 = g5 from hg5.symm, ← hg4, ← hg3]
  clear hg3 hg4 hg5
  generalize ((w.alloc (.cells (csC chain (.slice la nl lc) D E) 44)).alloc (.cells (voC a) 46)).alloc (.cells (voC b) 46) = w1 at *
  go_upto_region 2 with (first
    | (refine wpList_load_rowT (by rfl) 42 (.tmp 8) rfl g3 2 rfl (parC D E) _ (cs_cells M3.out).2.2 Tryz.underlying42 rfl (by kernel_rfl) ?_)
    | (go_at_call 20; (with_reducible refine (HCU.out _).mono ?_); rintro e w2 ⟨rfl, hb⟩; have HB2 := Lib.hid hb; clear hb)
    | (refine wpList_store_row rfl 42 (.tmp 7) (.tmp 10) rfl w2.heap.size (parC D E2) rfl rfl 42 _ (heap_alloc_new _ _) (by kernel_rfl) (by rfl) (par11_one _ _) ?_; rw [World.setRow_alloc_new]))
  have hb := below_alloc w2 (.cells (parC D E2) 42)
  have h7 := heap_alloc_new w2 (.cells (parC D E2) 42)
  obtain ⟨g7, hg7⟩ : ∃ g, g = w2.heap.size := ⟨_, rfl⟩
  obtain ⟨X0, hX0⟩ : ∃ X, X = VtX g3 g4 g5 g7 chain D E E2 a b (.slice la nl lc) l := ⟨_, rfl⟩
  have HX0 := Lib.hid (show ∀ w, X0 w → VtX g3 g4 g5 g7 chain D E E2 a b (.slice la nl lc) l w from fun w h => by rw [hX0] at h; exact h)
  have KX := Lib.hid (show Kept X0 from by rw [hX0]; exact kept_vtx _ _ _ _ _ _ _ _ _ _ _ _)
  have M := Lib.hid (show Kp w (w2.alloc (.cells (parC D E2) 42)) X0 from by
    have hb2 := HB2.out
    have kp : ∀ g o, w1.heap[g]? = some o → (w2.alloc (.cells (parC D E2) 42)).heap[g]? = some o := fun g o h => kept_blk _ _ _ _ (kept_blk _ _ _ _ h hb2) hb
    refine ⟨MB.out.trans ((hb2.mono MB.out.size).trans (hb.mono (Nat.le_trans MB.out.size hb2.size))), ?_, KX.out⟩
    rw [hX0, hg7]
    exact ⟨kp _ _ M3.out, kp _ _ M4.out, kp _ _ M5.out, h7, (ML.out.below hb2).below hb, (MA.out.below hb2).below hb, (MC.out.below hb2).below hb⟩)
  rw [← hg7]
  clear hg7 hb h7 hX0 HCU HB2 MB M3 M4 M5 ML MA MC
  generalize w2.alloc (.cells (parC D E2) 42) = w10 at *
  refine wp_region_T (fun w' => Kp w w' X0) [0, 1, 2, 3, 4, 5, 6, 7, 8, 9, 10, 11, 12, 13, 14, 15, 16, 17, 18, 19, 20, 21, 22, 23, 24, 25, 26, 27, 28, 29, 30, 31, 32, 33, 34, 35, 36, 37, 38, 39, 40, 41, 42, 43, 44, 45, 46, 47, 48, 49, 50, 51, 52] (by kernel_rfl) ?_
  replace M := Lib.hid (M.out.call (Below.refl _ _).drew)
  generalize w10.drew = w11 at *
  refine anyT_take [] (i := 0) (v := .pointer (some ⟨g3, 0, none⟩)) rfl (by kernel_rfl) (by kernel_rfl) (by kernel_rfl) (fun _ _ _ h => h) (by kernel_rfl) (Or.inl ⟨by rfl, fun w' _ => by go_simp⟩) M.out ?_
  try simp only [List.getElem_toArray, List.getElem_cons_succ, List.getElem_cons_zero, Act.put, List.setIfInBounds_toArray, List.set_cons_zero, List.set_cons_succ]
  refine anyT_take [] (i := 1) (v := .string chain) rfl (by kernel_rfl) (by kernel_rfl) (by kernel_rfl) (fun _ _ _ h => h) (by kernel_rfl) (Or.inl ⟨by rfl, fun w' hS => by have c := (cs_cells (HX0.out _ (hS.x)).h3).1; go_simp⟩) M.out ?_
  try simp only [List.getElem_toArray, List.getElem_cons_succ, List.getElem_cons_zero, Act.put, List.setIfInBounds_toArray, List.set_cons_zero, List.set_cons_succ]
  refine anyT_take [] (i := 2) (v := .pointer (some ⟨g3, 1, none⟩)) rfl (by kernel_rfl) (by kernel_rfl) (by kernel_rfl) (fun _ _ _ h => h) (by kernel_rfl) (Or.inl ⟨by rfl, fun w' _ => by go_simp⟩) M.out ?_
  try simp only [List.getElem_toArray, List.getElem_cons_succ, List.getElem_cons_zero, Act.put, List.setIfInBounds_toArray, List.set_cons_zero, List.set_cons_succ]
  refine anyT_take [] (i := 3) (v := .slice la nl lc) rfl (by kernel_rfl) (by kernel_rfl) (by kernel_rfl) (fun _ _ _ h => h) (by kernel_rfl) (Or.inl ⟨by rfl, fun w' hS => by have c := (cs_cells (HX0.out _ (hS.x)).h3).2.1; go_simp⟩) M.out ?_
  try simp only [List.getElem_toArray, List.getElem_cons_succ, List.getElem_cons_zero, Act.put, List.setIfInBounds_toArray, List.set_cons_zero, List.set_cons_succ]
  refine anyT_take [] (i := 4) (v := .agg (parC D E2)) rfl (by kernel_rfl) (by kernel_rfl) (by kernel_rfl) (fun _ _ _ h => h) (by kernel_rfl) (rowT_yields (by rfl) 42 (.tmp 7) rfl g7 0 rfl _ _ (fun _ h => rowT_range (HX0.out _ (h.x)).h7) Tryz.underlying42 rfl (by kernel_rfl)) M.out ?_
  try simp only [List.getElem_toArray, List.getElem_cons_succ, List.getElem_cons_zero, Act.put, List.setIfInBounds_toArray, List.set_cons_zero, List.set_cons_succ]
  refine anyT_take [] (i := 5) (v := .agg (voC a)) rfl (by kernel_rfl) (by kernel_rfl) (by kernel_rfl) (fun _ _ _ h => h) (by kernel_rfl) (rowT_yields (by rfl) 46 (.tmp 4) rfl g4 0 rfl _ _ (fun _ h => rowT_range (HX0.out _ (h.x)).h4) Tryz.underlying46 rfl (by rw [voC_size]; kernel_rfl)) M.out ?_
  try simp only [List.getElem_toArray, List.getElem_cons_succ, List.getElem_cons_zero, Act.put, List.setIfInBounds_toArray, List.set_cons_zero, List.set_cons_succ]
  refine anyT_take [] (i := 8) (v := .pointer (some ⟨g3, 0, none⟩)) rfl (by kernel_rfl) (by kernel_rfl) (by kernel_rfl) (fun _ _ _ h => h) (by kernel_rfl) (Or.inl ⟨by rfl, fun w' _ => by go_simp⟩) M.out ?_
  try simp only [List.getElem_toArray, List.getElem_cons_succ, List.getElem_cons_zero, Act.put, List.setIfInBounds_toArray, List.set_cons_zero, List.set_cons_succ]
  refine anyT_take [] (i := 9) (v := .string chain) rfl (by kernel_rfl) (by kernel_rfl) (by kernel_rfl) (fun _ _ _ h => h) (by kernel_rfl) (Or.inl ⟨by rfl, fun w' hS => by have c := (cs_cells (HX0.out _ (hS.x)).h3).1; go_simp⟩) M.out ?_
  try simp only [List.getElem_toArray, List.getElem_cons_succ, List.getElem_cons_zero, Act.put, List.setIfInBounds_toArray, List.set_cons_zero, List.set_cons_succ]
  refine anyT_take [] (i := 10) (v := .pointer (some ⟨g3, 1, none⟩)) rfl (by kernel_rfl) (by kernel_rfl) (by kernel_rfl) (fun _ _ _ h => h) (by kernel_rfl) (Or.inl ⟨by rfl, fun w' _ => by go_simp⟩) M.out ?_
  try simp only [List.getElem_toArray, List.getElem_cons_succ, List.getElem_cons_zero, Act.put, List.setIfInBounds_toArray, List.set_cons_zero, List.set_cons_succ]
  refine anyT_take [] (i := 11) (v := .slice la nl lc) rfl (by kernel_rfl) (by kernel_rfl) (by kernel_rfl) (fun _ _ _ h => h) (by kernel_rfl) (Or.inl ⟨by rfl, fun w' hS => by have c := (cs_cells (HX0.out _ (hS.x)).h3).2.1; go_simp⟩) M.out ?_
  try simp only [List.getElem_toArray, List.getElem_cons_succ, List.getElem_cons_zero, Act.put, List.setIfInBounds_toArray, List.set_cons_zero, List.set_cons_succ]
  refine anyT_take [] (i := 12) (v := .agg (parC D E2)) rfl (by kernel_rfl) (by kernel_rfl) (by kernel_rfl) (fun _ _ _ h => h) (by kernel_rfl) (rowT_yields (by rfl) 42 (.tmp 7) rfl g7 0 rfl _ _ (fun _ h => rowT_range (HX0.out _ (h.x)).h7) Tryz.underlying42 rfl (by kernel_rfl)) M.out ?_
  try simp only [List.getElem_toArray, List.getElem_cons_succ, List.getElem_cons_zero, Act.put, List.setIfInBounds_toArray, List.set_cons_zero, List.set_cons_succ]
  refine anyT_take [] (i := 13) (v := .agg (voC a)) rfl (by kernel_rfl) (by kernel_rfl) (by kernel_rfl) (fun _ _ _ h => h) (by kernel_rfl) (rowT_yields (by rfl) 46 (.tmp 4) rfl g4 0 rfl _ _ (fun _ h => rowT_range (HX0.out _ (h.x)).h4) Tryz.underlying46 rfl (by rw [voC_size]; kernel_rfl)) M.out ?_
  try simp only [List.getElem_toArray, List.getElem_cons_succ, List.getElem_cons_zero, Act.put, List.setIfInBounds_toArray, List.set_cons_zero, List.set_cons_succ]
  refine anyT_one (i := 6) (by kernel_rfl) rfl (fun K hK => ?_)
  rw [if_pos (by rfl)]
  try simp only [List.getElem_toArray, List.getElem_cons_succ, List.getElem_cons_zero]
  (go_simp; (with_reducible refine (HVA.out _ (HE.out.below M.out.below HE.out.lt) (HX0.out _ (M.out.x)).l (HX0.out _ (M.out.x)).sa).mono ?_); rintro e w12 ⟨rfl, hb⟩;  replace M := Lib.hid (M.out.call hb); clear hb)
  refine hK _ _ (fun _ => M.out) ?_
  clear hK K
  try simp only [List.getElem_toArray, List.getElem_cons_succ, List.getElem_cons_zero, Act.put, List.setIfInBounds_toArray, List.set_cons_zero, List.set_cons_succ]
  refine anyT_one (i := 7) (by kernel_rfl) rfl (fun K hK => ?_)
  rw [if_pos (by rfl)]
  try simp only [List.getElem_toArray, List.getElem_cons_succ, List.getElem_cons_zero]
  (go_simp; (with_reducible refine (HN1.out _ (HG.out.below M.out.below)).mono ?_); rintro e w13 ⟨rfl, hb⟩;  replace M := Lib.hid (M.out.call hb); clear hb)
  refine hK _ _ (fun _ => M.out) ?_
  clear hK K
  try simp only [List.getElem_toArray, List.getElem_cons_succ, List.getElem_cons_zero, Act.put, List.setIfInBounds_toArray, List.set_cons_zero, List.set_cons_succ]
  refine anyT_one (i := 14) (by kernel_rfl) rfl (fun K hK => ?_)
  rw [if_pos (by rfl)]
  try simp only [List.getElem_toArray, List.getElem_cons_succ, List.getElem_cons_zero]
  (go_simp; (with_reducible refine (HRA.out _ (HX0.out _ (M.out.x)).l (HX0.out _ (M.out.x)).sa).mono ?_); rintro e w14 ⟨rfl, hb⟩;  replace M := Lib.hid (M.out.call hb); clear hb)
  refine hK _ _ (fun _ => M.out) ?_
  clear hK K
  try simp only [List.getElem_toArray, List.getElem_cons_succ, List.getElem_cons_zero, Act.put, List.setIfInBounds_toArray, List.set_cons_zero, List.set_cons_succ]
  refine anyT_take [] (i := 15) (v := .bool true) rfl (by kernel_rfl) (by kernel_rfl) (by kernel_rfl) (fun _ _ _ h => h) (by kernel_rfl) (Or.inl ⟨by rfl, fun w' _ => by go_simp⟩) M.out ?_
  try simp only [List.getElem_toArray, List.getElem_cons_succ, List.getElem_cons_zero, Act.put, List.setIfInBounds_toArray, List.set_cons_zero, List.set_cons_succ]
  refine anyT_take [] (i := 16) (v := .bool true) rfl (by kernel_rfl) (by kernel_rfl) (by kernel_rfl) (fun _ _ _ h => h) (by kernel_rfl) (Or.inl ⟨by rfl, fun w' _ => by go_simp⟩) M.out ?_
  try simp only [List.getElem_toArray, List.getElem_cons_succ, List.getElem_cons_zero, Act.put, List.setIfInBounds_toArray, List.set_cons_zero, List.set_cons_succ]
  refine anyT_take [] (i := 17) (v := .pointer (some ⟨g3, 0, none⟩)) rfl (by kernel_rfl) (by kernel_rfl) (by kernel_rfl) (fun _ _ _ h => h) (by kernel_rfl) (Or.inl ⟨by rfl, fun w' _ => by go_simp⟩) M.out ?_
  try simp only [List.getElem_toArray, List.getElem_cons_succ, List.getElem_cons_zero, Act.put, List.setIfInBounds_toArray, List.set_cons_zero, List.set_cons_succ]
  refine anyT_take [] (i := 18) (v := .string chain) rfl (by kernel_rfl) (by kernel_rfl) (by kernel_rfl) (fun _ _ _ h => h) (by kernel_rfl) (Or.inl ⟨by rfl, fun w' hS => by have c := (cs_cells (HX0.out _ (hS.x)).h3).1; go_simp⟩) M.out ?_
  try simp only [List.getElem_toArray, List.getElem_cons_succ, List.getElem_cons_zero, Act.put, List.setIfInBounds_toArray, List.set_cons_zero, List.set_cons_succ]
  refine anyT_take [] (i := 19) (v := .pointer (some ⟨g3, 1, none⟩)) rfl (by kernel_rfl) (by kernel_rfl) (by kernel_rfl) (fun _ _ _ h => h) (by kernel_rfl) (Or.inl ⟨by rfl, fun w' _ => by go_simp⟩) M.out ?_
  try simp only [List.getElem_toArray, List.getElem_cons_succ, List.getElem_cons_zero, Act.put, List.setIfInBounds_toArray, List.set_cons_zero, List.set_cons_succ]
  refine anyT_take [] (i := 20) (v := .slice la nl lc) rfl (by kernel_rfl) (by kernel_rfl) (by kernel_rfl) (fun _ _ _ h => h) (by kernel_rfl) (Or.inl ⟨by rfl, fun w' hS => by have c := (cs_cells (HX0.out _ (hS.x)).h3).2.1; go_simp⟩) M.out ?_
  try simp only [List.getElem_toArray, List.getElem_cons_succ, List.getElem_cons_zero, Act.put, List.setIfInBounds_toArray, List.set_cons_zero, List.set_cons_succ]
  refine anyT_take [] (i := 21) (v := .agg (parC D E2)) rfl (by kernel_rfl) (by kernel_rfl) (by kernel_rfl) (fun _ _ _ h => h) (by kernel_rfl) (rowT_yields (by rfl) 42 (.tmp 7) rfl g7 0 rfl _ _ (fun _ h => rowT_range (HX0.out _ (h.x)).h7) Tryz.underlying42 rfl (by kernel_rfl)) M.out ?_
  try simp only [List.getElem_toArray, List.getElem_cons_succ, List.getElem_cons_zero, Act.put, List.setIfInBounds_toArray, List.set_cons_zero, List.set_cons_succ]
  refine anyT_take [] (i := 22) (v := .agg (voC a)) rfl (by kernel_rfl) (by kernel_rfl) (by kernel_rfl) (fun _ _ _ h => h) (by kernel_rfl) (rowT_yields (by rfl) 46 (.tmp 4) rfl g4 0 rfl _ _ (fun _ h => rowT_range (HX0.out _ (h.x)).h4) Tryz.underlying46 rfl (by rw [voC_size]; kernel_rfl)) M.out ?_
  try simp only [List.getElem_toArray, List.getElem_cons_succ, List.getElem_cons_zero, Act.put, List.setIfInBounds_toArray, List.set_cons_zero, List.set_cons_succ]
  refine anyT_take [] (i := 23) (v := .agg (voC b)) rfl (by kernel_rfl) (by kernel_rfl) (by kernel_rfl) (fun _ _ _ h => h) (by kernel_rfl) (rowT_yields (by rfl) 46 (.tmp 5) rfl g5 0 rfl _ _ (fun _ h => rowT_range (HX0.out _ (h.x)).h5) Tryz.underlying46 rfl (by rw [voC_size]; kernel_rfl)) M.out ?_
  try simp only [List.getElem_toArray, List.getElem_cons_succ, List.getElem_cons_zero, Act.put, List.setIfInBounds_toArray, List.set_cons_zero, List.set_cons_succ]
  refine anyT_take [] (i := 26) (v := .pointer (some ⟨g3, 0, none⟩)) rfl (by kernel_rfl) (by kernel_rfl) (by kernel_rfl) (fun _ _ _ h => h) (by kernel_rfl) (Or.inl ⟨by rfl, fun w' _ => by go_simp⟩) M.out ?_
  try simp only [List.getElem_toArray, List.getElem_cons_succ, List.getElem_cons_zero, Act.put, List.setIfInBounds_toArray, List.set_cons_zero, List.set_cons_succ]
  refine anyT_take [] (i := 27) (v := .string chain) rfl (by kernel_rfl) (by kernel_rfl) (by kernel_rfl) (fun _ _ _ h => h) (by kernel_rfl) (Or.inl ⟨by rfl, fun w' hS => by have c := (cs_cells (HX0.out _ (hS.x)).h3).1; go_simp⟩) M.out ?_
  try simp only [List.getElem_toArray, List.getElem_cons_succ, List.getElem_cons_zero, Act.put, List.setIfInBounds_toArray, List.set_cons_zero, List.set_cons_succ]
  refine anyT_take [] (i := 28) (v := .pointer (some ⟨g3, 1, none⟩)) rfl (by kernel_rfl) (by kernel_rfl) (by kernel_rfl) (fun _ _ _ h => h) (by kernel_rfl) (Or.inl ⟨by rfl, fun w' _ => by go_simp⟩) M.out ?_
  try simp only [List.getElem_toArray, List.getElem_cons_succ, List.getElem_cons_zero, Act.put, List.setIfInBounds_toArray, List.set_cons_zero, List.set_cons_succ]
  refine anyT_take [] (i := 29) (v := .slice la nl lc) rfl (by kernel_rfl) (by kernel_rfl) (by kernel_rfl) (fun _ _ _ h => h) (by kernel_rfl) (Or.inl ⟨by rfl, fun w' hS => by have c := (cs_cells (HX0.out _ (hS.x)).h3).2.1; go_simp⟩) M.out ?_
  try simp only [List.getElem_toArray, List.getElem_cons_succ, List.getElem_cons_zero, Act.put, List.setIfInBounds_toArray, List.set_cons_zero, List.set_cons_succ]
  refine anyT_take [] (i := 30) (v := .agg (parC D E2)) rfl (by kernel_rfl) (by kernel_rfl) (by kernel_rfl) (fun _ _ _ h => h) (by kernel_rfl) (rowT_yields (by rfl) 42 (.tmp 7) rfl g7 0 rfl _ _ (fun _ h => rowT_range (HX0.out _ (h.x)).h7) Tryz.underlying42 rfl (by kernel_rfl)) M.out ?_
  try simp only [List.getElem_toArray, List.getElem_cons_succ, List.getElem_cons_zero, Act.put, List.setIfInBounds_toArray, List.set_cons_zero, List.set_cons_succ]
  refine anyT_take [] (i := 31) (v := .agg (voC a)) rfl (by kernel_rfl) (by kernel_rfl) (by kernel_rfl) (fun _ _ _ h => h) (by kernel_rfl) (rowT_yields (by rfl) 46 (.tmp 4) rfl g4 0 rfl _ _ (fun _ h => rowT_range (HX0.out _ (h.x)).h4) Tryz.underlying46 rfl (by rw [voC_size]; kernel_rfl)) M.out ?_
  try simp only [List.getElem_toArray, List.getElem_cons_succ, List.getElem_cons_zero, Act.put, List.setIfInBounds_toArray, List.set_cons_zero, List.set_cons_succ]
  refine anyT_take [] (i := 32) (v := .agg (voC b)) rfl (by kernel_rfl) (by kernel_rfl) (by kernel_rfl) (fun _ _ _ h => h) (by kernel_rfl) (rowT_yields (by rfl) 46 (.tmp 5) rfl g5 0 rfl _ _ (fun _ h => rowT_range (HX0.out _ (h.x)).h5) Tryz.underlying46 rfl (by rw [voC_size]; kernel_rfl)) M.out ?_
  try simp only [List.getElem_toArray, List.getElem_cons_succ, List.getElem_cons_zero, Act.put, List.setIfInBounds_toArray, List.set_cons_zero, List.set_cons_succ]
  refine anyT_one (i := 24) (by kernel_rfl) rfl (fun K hK => ?_)
  rw [if_pos (by rfl)]
  try simp only [List.getElem_toArray, List.getElem_cons_succ, List.getElem_cons_zero]
  (go_simp; (with_reducible refine (HTW.out _ (HE.out.below M.out.below HE.out.lt) (HX0.out _ (M.out.x)).l (HX0.out _ (M.out.x)).sa (HX0.out _ (M.out.x)).sb).mono ?_); rintro e w15 ⟨rfl, hb⟩;  replace M := Lib.hid (M.out.call hb); clear hb)
  refine hK _ _ (fun _ => M.out) ?_
  clear hK K
  try simp only [List.getElem_toArray, List.getElem_cons_succ, List.getElem_cons_zero, Act.put, List.setIfInBounds_toArray, List.set_cons_zero, List.set_cons_succ]
  refine anyT_one (i := 25) (by kernel_rfl) rfl (fun K hK => ?_)
  rw [if_pos (by rfl)]
  try simp only [List.getElem_toArray, List.getElem_cons_succ, List.getElem_cons_zero]
  (go_simp; (with_reducible refine (HN2.out _ (HG.out.below M.out.below)).mono ?_); rintro e w16 ⟨rfl, hb⟩;  replace M := Lib.hid (M.out.call hb); clear hb)
  refine hK _ _ (fun _ => M.out) ?_
  clear hK K
  try simp only [List.getElem_toArray, List.getElem_cons_succ, List.getElem_cons_zero, Act.put, List.setIfInBounds_toArray, List.set_cons_zero, List.set_cons_succ]
  refine anyT_one (i := 33) (by kernel_rfl) rfl (fun K hK => ?_)
  rw [if_pos (by rfl)]
  try simp only [List.getElem_toArray, List.getElem_cons_succ, List.getElem_cons_zero]
  (go_simp; (with_reducible refine (HRT.out _ (HX0.out _ (M.out.x)).l (HX0.out _ (M.out.x)).sa (HX0.out _ (M.out.x)).sb).mono ?_); rintro e w17 ⟨rfl, hb⟩;  replace M := Lib.hid (M.out.call hb); clear hb)
  refine hK _ _ (fun _ => M.out) ?_
  clear hK K
  try simp only [List.getElem_toArray, List.getElem_cons_succ, List.getElem_cons_zero, Act.put, List.setIfInBounds_toArray, List.set_cons_zero, List.set_cons_succ]
  refine anyT_take [] (i := 34) (v := .bool true) rfl (by kernel_rfl) (by kernel_rfl) (by kernel_rfl) (fun _ _ _ h => h) (by kernel_rfl) (Or.inl ⟨by rfl, fun w' _ => by go_simp⟩) M.out ?_
  try simp only [List.getElem_toArray, List.getElem_cons_succ, List.getElem_cons_zero, Act.put, List.setIfInBounds_toArray, List.set_cons_zero, List.set_cons_succ]
  refine anyT_take [] (i := 35) (v := .bool true) rfl (by kernel_rfl) (by kernel_rfl) (by kernel_rfl) (fun _ _ _ h => h) (by kernel_rfl) (Or.inl ⟨by rfl, fun w' _ => by go_simp⟩) M.out ?_
  try simp only [List.getElem_toArray, List.getElem_cons_succ, List.getElem_cons_zero, Act.put, List.setIfInBounds_toArray, List.set_cons_zero, List.set_cons_succ]
  refine anyT_take [] (i := 36) (v := .bool true) rfl (by kernel_rfl) (by kernel_rfl) (by kernel_rfl) (fun _ _ _ h => h) (by kernel_rfl) (Or.inl ⟨by rfl, fun w' _ => by go_simp⟩) M.out ?_
  try simp only [List.getElem_toArray, List.getElem_cons_succ, List.getElem_cons_zero, Act.put, List.setIfInBounds_toArray, List.set_cons_zero, List.set_cons_succ]
  refine anyT_take [] (i := 37) (v := .pointer (some ⟨g3, 0, none⟩)) rfl (by kernel_rfl) (by kernel_rfl) (by kernel_rfl) (fun _ _ _ h => h) (by kernel_rfl) (Or.inl ⟨by rfl, fun w' _ => by go_simp⟩) M.out ?_
  try simp only [List.getElem_toArray, List.getElem_cons_succ, List.getElem_cons_zero, Act.put, List.setIfInBounds_toArray, List.set_cons_zero, List.set_cons_succ]
  refine anyT_take [] (i := 38) (v := .string chain) rfl (by kernel_rfl) (by kernel_rfl) (by kernel_rfl) (fun _ _ _ h => h) (by kernel_rfl) (Or.inl ⟨by rfl, fun w' hS => by have c := (cs_cells (HX0.out _ (hS.x)).h3).1; go_simp⟩) M.out ?_
  try simp only [List.getElem_toArray, List.getElem_cons_succ, List.getElem_cons_zero, Act.put, List.setIfInBounds_toArray, List.set_cons_zero, List.set_cons_succ]
  refine anyT_take [] (i := 39) (v := .agg (voC a)) rfl (by kernel_rfl) (by kernel_rfl) (by kernel_rfl) (fun _ _ _ h => h) (by kernel_rfl) (rowT_yields (by rfl) 46 (.tmp 4) rfl g4 0 rfl _ _ (fun _ h => rowT_range (HX0.out _ (h.x)).h4) Tryz.underlying46 rfl (by rw [voC_size]; kernel_rfl)) M.out ?_
  try simp only [List.getElem_toArray, List.getElem_cons_succ, List.getElem_cons_zero, Act.put, List.setIfInBounds_toArray, List.set_cons_zero, List.set_cons_succ]
  refine anyT_take [] (i := 42) (v := .pointer (some ⟨g3, 0, none⟩)) rfl (by kernel_rfl) (by kernel_rfl) (by kernel_rfl) (fun _ _ _ h => h) (by kernel_rfl) (Or.inl ⟨by rfl, fun w' _ => by go_simp⟩) M.out ?_
  try simp only [List.getElem_toArray, List.getElem_cons_succ, List.getElem_cons_zero, Act.put, List.setIfInBounds_toArray, List.set_cons_zero, List.set_cons_succ]
  refine anyT_take [] (i := 43) (v := .string chain) rfl (by kernel_rfl) (by kernel_rfl) (by kernel_rfl) (fun _ _ _ h => h) (by kernel_rfl) (Or.inl ⟨by rfl, fun w' hS => by have c := (cs_cells (HX0.out _ (hS.x)).h3).1; go_simp⟩) M.out ?_
  try simp only [List.getElem_toArray, List.getElem_cons_succ, List.getElem_cons_zero, Act.put, List.setIfInBounds_toArray, List.set_cons_zero, List.set_cons_succ]
  refine anyT_take [] (i := 44) (v := .agg (voC a)) rfl (by kernel_rfl) (by kernel_rfl) (by kernel_rfl) (fun _ _ _ h => h) (by kernel_rfl) (rowT_yields (by rfl) 46 (.tmp 4) rfl g4 0 rfl _ _ (fun _ h => rowT_range (HX0.out _ (h.x)).h4) Tryz.underlying46 rfl (by rw [voC_size]; kernel_rfl)) M.out ?_
  try simp only [List.getElem_toArray, List.getElem_cons_succ, List.getElem_cons_zero, Act.put, List.setIfInBounds_toArray, List.set_cons_zero, List.set_cons_succ]
  refine anyT_one (i := 40) (by kernel_rfl) rfl (fun K hK => ?_)
  rw [if_pos (by rfl)]
  try simp only [List.getElem_toArray, List.getElem_cons_succ, List.getElem_cons_zero]
  (go_simp; (with_reducible refine (HVB.out _).mono ?_); rintro e w18 ⟨v51, rfl, hby, hb⟩; obtain ⟨a51, c51, rfl, -⟩ := id hby; have HB51 := Lib.hid (hby.below (Below.refl _ _)); clear hby; replace M := Lib.hid (M.out.call hb); clear hb)
  refine hK _ _ (fun _ => M.out) ?_
  clear hK K
  try simp only [List.getElem_toArray, List.getElem_cons_succ, List.getElem_cons_zero, Act.put, List.setIfInBounds_toArray, List.set_cons_zero, List.set_cons_succ]
  replace M := Lib.hid (M.out.add HB51.out (kept_bytesT _ _))
  refine anyT_kpT (Y := fun w => BytesIn w (.slice a51 L0.length c51) L0) KX.out ?_
  replace KX := Lib.hid (KX.out.and (kept_bytesT (.slice a51 L0.length c51) L0))
  clear HB51
  refine anyT_take [] (i := 41) (v := .string S0) rfl (by kernel_rfl) (by kernel_rfl) (by kernel_rfl) (fun _ _ _ h => h) (by kernel_rfl) (Or.inl ⟨by rfl, fun w' hS => by have c := conv_bytes w' _ _ hS.x.2; rw [← HS0.out] at c; go_simp⟩) M.out ?_
  try simp only [List.getElem_toArray, List.getElem_cons_succ, List.getElem_cons_zero, Act.put, List.setIfInBounds_toArray, List.set_cons_zero, List.set_cons_succ]
  refine anyT_one (i := 45) (by kernel_rfl) rfl (fun K hK => ?_)
  rw [if_pos (by rfl)]
  try simp only [List.getElem_toArray, List.getElem_cons_succ, List.getElem_cons_zero]
  (go_simp; (with_reducible refine (HRB.out _).mono ?_); rintro e w19 ⟨v56, rfl, hby, hb⟩; obtain ⟨a56, c56, rfl, -⟩ := id hby; have HB56 := Lib.hid (hby.below (Below.refl _ _)); clear hby; replace M := Lib.hid (M.out.call hb); clear hb)
  refine hK _ _ (fun _ => M.out) ?_
  clear hK K
  try simp only [List.getElem_toArray, List.getElem_cons_succ, List.getElem_cons_zero, Act.put, List.setIfInBounds_toArray, List.set_cons_zero, List.set_cons_succ]
  replace M := Lib.hid (M.out.add HB56.out (kept_bytesT _ _))
  refine anyT_kpT (Y := fun w => BytesIn w (.slice a56 L0.length c56) L0) KX.out ?_
  replace KX := Lib.hid (KX.out.and (kept_bytesT (.slice a56 L0.length c56) L0))
  clear HB56
  refine anyT_take [] (i := 46) (v := .string S0) rfl (by kernel_rfl) (by kernel_rfl) (by kernel_rfl) (fun _ _ _ h => h) (by kernel_rfl) (Or.inl ⟨by rfl, fun w' hS => by have c := conv_bytes w' _ _ hS.x.2; rw [← HS0.out] at c; go_simp⟩) M.out ?_
  try simp only [List.getElem_toArray, List.getElem_cons_succ, List.getElem_cons_zero, Act.put, List.setIfInBounds_toArray, List.set_cons_zero, List.set_cons_succ]
  refine anyT_take [] (i := 47) (v := .bool true) rfl (by kernel_rfl) (by kernel_rfl) (by kernel_rfl) (fun _ _ _ h => h) (by kernel_rfl) (Or.inl ⟨by rfl, fun w' _ => by go_simp⟩) M.out ?_
  try simp only [List.getElem_toArray, List.getElem_cons_succ, List.getElem_cons_zero, Act.put, List.setIfInBounds_toArray, List.set_cons_zero, List.set_cons_succ]
  refine anyT_take [] (i := 48) (v := .bool true) rfl (by kernel_rfl) (by kernel_rfl) (by kernel_rfl) (fun _ _ _ h => h) (by kernel_rfl) (Or.inl ⟨by rfl, fun w' _ => by go_simp⟩) M.out ?_
  try simp only [List.getElem_toArray, List.getElem_cons_succ, List.getElem_cons_zero, Act.put, List.setIfInBounds_toArray, List.set_cons_zero, List.set_cons_succ]
  refine anyT_take [] (i := 49) (v := .bool true) rfl (by kernel_rfl) (by kernel_rfl) (by kernel_rfl) (fun _ _ _ h => h) (by kernel_rfl) (Or.inl ⟨by rfl, fun w' _ => by go_simp⟩) M.out ?_
  try simp only [List.getElem_toArray, List.getElem_cons_succ, List.getElem_cons_zero, Act.put, List.setIfInBounds_toArray, List.set_cons_zero, List.set_cons_succ]
  refine anyT_one (i := 50) (by kernel_rfl) rfl (fun K hK => ?_)
  rw [if_pos (by rfl)]
  try simp only [List.getElem_toArray, List.getElem_cons_succ, List.getElem_cons_zero]
  (go_simp; (with_reducible refine (HSU.out _ M.out.below).mono ?_); rintro e w20 ⟨rfl, hb⟩;  replace M := Lib.hid (M.out.call hb); clear hb)
  refine hK _ _ (fun _ => M.out) ?_
  clear hK K
  try simp only [List.getElem_toArray, List.getElem_cons_succ, List.getElem_cons_zero, Act.put, List.setIfInBounds_toArray, List.set_cons_zero, List.set_cons_succ]
  refine anyT_take [] (i := 51) (v := .bool true) rfl (by kernel_rfl) (by kernel_rfl) (by kernel_rfl) (fun _ _ _ h => h) (by kernel_rfl) (Or.inl ⟨by rfl, fun w' _ => by go_simp⟩) M.out ?_
  try simp only [List.getElem_toArray, List.getElem_cons_succ, List.getElem_cons_zero, Act.put, List.setIfInBounds_toArray, List.set_cons_zero, List.set_cons_succ]
  refine anyT_take [] (i := 52) (v := .bool true) rfl (by kernel_rfl) (by kernel_rfl) (by kernel_rfl) (fun _ _ _ h => h) (by kernel_rfl) (Or.inl ⟨by rfl, fun w' _ => by go_simp⟩) M.out ?_
  try simp only [List.getElem_toArray, List.getElem_cons_succ, List.getElem_cons_zero, Act.put, List.setIfInBounds_toArray, List.set_cons_zero, List.set_cons_succ]
  refine anyT_done (by kernel_rfl) ?_ _
  go_wp2_with (fail)
  go_ret
  exact ⟨rfl, M.out.below⟩
end Go.Proofs.YtjnpcmfpiejmjaaGreatDoor
namespace Go.Proofs.YtjnpcmfpiejmjaaGreatDoor
set_option linter.unusedVariables false
set_option linter.unusedSimpArgs false
open Go.ChangeShapes Go.WideShapes Go.ChangeAt Go.RowKit Go.Proofs
set_option maxRecDepth 100000
theorem vote_arg {H : Type} {enc : TypeId × Value → H} {W : World} {cs : Array Value} {d : DataW H} {p : List MemPlace} (h : DataW.Trod enc Tryz.prog W 0 (fun _ => true) true 46 (.agg cs) d p) :
    ∃ t : Vo, cs = voC t ∧ VoOk t ∧ bytesOk t.sign ∧ BytesIn W t.sv t.sign ∧ (∀ us ds : List _, ∀ j : Nat, us[j]? = some 46 → ds[j]? = some d → (DataW.weightsEach Tryz.prog us ds).all (· ≤ reachBytes) = true → t.sign.length ≤ 140737488351232) := by
  obtain ⟨fuel, hf⟩ := h
  have hf' : DataW.trod enc Tryz.prog W 0 (fun _ => true) true fuel 46 cs.toList = some (d, p) := by simpa [Value.cells] using hf
  obtain ⟨t, h1, h2, h3, h4, h5⟩ := vote_raw _ _ _ hf'
  exact ⟨t, Array.toList_inj.1 h1, h2, h3, h4, fun us ds j htj hdj hw => h5 _ fun n hn => of_decide_eq_true (List.all_eq_true.1 hw _ (DataW.weights_mem_each htj hdj _ hn))⟩
end Go.Proofs.YtjnpcmfpiejmjaaGreatDoor
