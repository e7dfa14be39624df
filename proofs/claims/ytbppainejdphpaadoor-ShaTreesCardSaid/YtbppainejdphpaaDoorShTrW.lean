/- ShaTrees: the walk. -/
import Derived.Test.YtbppainejdphpaaDoorShRFo
import Derived.Test.YtbppainejdphpaaDoorShHs
import Derived.Test.YtbppainejdphpaaDoorRLeaf
import Derived.Test.YtbppainejdphpaaDoorShLeaf
import Derived.Test.YtbppainejdphpaaDoorShSure
import Derived.Test.YtbppainejdphpaaDoorTwin
namespace Go.Proofs.YtbppainejdphpaaDoor
open Go.RowKit
set_option maxRecDepth 100000
/-- what lies in memory: rows, slices of hashes -/
structure TrM (w w' : World) (rows : List (Nat × (Nat → Int))) (sl : List (Value × List (Nat → Int))) : Prop where
  below : Below w.heap.size w w'
  rs : ∀ p ∈ rows, RowAt w' p.1 .u8 32 25 p.2
  hh : ∀ p ∈ sl, HashesIn w' p.1 p.2
theorem TrM.call {w w' w2 : World} {rows : List (Nat × (Nat → Int))} {sl : List (Value × List (Nat → Int))} (m : TrM w w' rows sl) (hb : Below w'.heap.size w' w2) : TrM w w2 rows sl :=
  ⟨m.below.trans (hb.mono m.below.size), fun p hp => (m.rs p hp).below hb (m.rs p hp).lt, fun p hp => (m.hh p hp).below hb⟩
theorem TrM.addR {w w' : World} {rows : List (Nat × (Nat → Int))} {sl : List (Value × List (Nat → Int))} (m : TrM w w' rows sl) (F : Nat → Int) : TrM w (w'.alloc (.cells (rowOf .u8 32 F) 25)) ((w'.heap.size, F) :: rows) sl := by
  have h := m.call (below_alloc w' (.cells (rowOf .u8 32 F) 25))
  refine ⟨h.below, fun p hp => ?_, h.hh⟩
  rcases List.mem_cons.1 hp with rfl | hp
  · exact RowAt.new w' _ _ _ _
  · exact h.rs p hp
theorem TrM.addH {w w' : World} {rows : List (Nat × (Nat → Int))} {sl : List (Value × List (Nat → Int))} (m : TrM w w' rows sl) {v : Value} {l : List (Nat → Int)} (h : HashesIn w' v l) : TrM w w' rows ((v, l) :: sl) :=
  ⟨m.below, m.rs, fun p hp => by
    rcases List.mem_cons.1 hp with rfl | hp
    · exact h
    · exact m.hh p hp⟩
set_option maxHeartbeats 8000000 in
theorem ltrees_any (vl vb : Value) (i : Int) (hs : List (Nat → Int)) (xs : List Int) (w : World) (he : Env w) (het : ErrType w) (hh : HashesIn w vl hs) (hx : BytesIn w vb xs) (hlx : xs.length ≤ 140737488351232) :
    Calls Tryd.prog 4 #[vl, .int .i64 i, vb] w fun e w' => e = .returned (.bool true) ∧ Below w.heap.size w w' := by
  have HE := Lib.hid he
  have HET := Lib.hid het
  have HH := Lib.hid hh
  have HX := Lib.hid hx
  have HG := Lib.hid he.lt
  by_cases hbig : 200 < hs.length
  · obtain ⟨a, cap, rfl, hc, hm, -⟩ := hh
    have hbI : (200 : Int) < hs.length := by omega
    go_enter Tryd.func4, Tryd.ntmps4
    go_wp2_with (go_at_call 17; (with_reducible refine (shsure_any _ HE.out).mono ?_); rintro e w1 ⟨rfl, hb⟩; have HB := Lib.hid hb; clear hb)
    go_ret
    exact ⟨rfl, HB.out⟩
  have hbI : ¬ (200 : Int) < hs.length := by omega
  have HL1 := Lib.hid (show xs.length + 81 ≤ 140737488355328 by omega)
  have HL2 := Lib.hid (show xs.length ≤ 140737488355328 by omega)
  have HHL := Lib.hid (show hs.length ≤ 9223372036854775807 by omega)
  have HAL := Lib.hid (show (0 + hs.length) * 32 ≤ 140737488355328 by omega)
  have HPL := Lib.hid (show (pathR hs i).1.length ≤ 9223372036854775807 by have := pathR_len hs i (by omega); omega)
  obtain ⟨a, cap, hv, hc, hm, -⟩ := hh
  obtain ⟨n, hn⟩ : ∃ n, n = hs.length := ⟨_, rfl⟩
  have HN := Lib.hid (show n ≤ 9223372036854775807 by omega)
  have HPA := Lib.hid (rpath_any hs i)
  have HPB := Lib.hid (spath_any hs i)
  obtain ⟨ps, hps⟩ : ∃ ps, ps = (pathR hs i).1 := ⟨_, rfl⟩
  obtain ⟨c0, hc0⟩ : ∃ c0, c0 = (pathR hs i).2 := ⟨_, rfl⟩
  rw [← hps, ← hc0] at HPA HPB
  rw [← hps] at HPL
  obtain ⟨Lf, hLf⟩ : ∃ Lf, Lf = sumF (0 :: xs) := ⟨_, rfl⟩
  obtain ⟨X1, hX1⟩ : ∃ X1, X1 = (foldR Lf i n hs).1 := ⟨_, rfl⟩
  obtain ⟨c1, hc1⟩ : ∃ c1, c1 = (foldR Lf i n hs).2 := ⟨_, rfl⟩
  obtain ⟨X2, hX2⟩ : ∃ X2, X2 = (foldR Lf i n ps).1 := ⟨_, rfl⟩
  obtain ⟨c2, hc2⟩ : ∃ c2, c2 = (foldR Lf i n ps).2 := ⟨_, rfl⟩
  have HLf := Lib.hid hLf.symm
  obtain ⟨ND, hND⟩ : ∃ ND, ND = nodeF Lf (fun _ => 0) := ⟨_, rfl⟩
  obtain ⟨RT, hRT⟩ : ∃ RT, RT = rootF hs := ⟨_, rfl⟩
  have HND := Lib.hid hND.symm
  have HRT := Lib.hid hRT.symm
  have HX1 := Lib.hid hX1.symm
  have HC1 := Lib.hid hc1.symm
  have HX2 := Lib.hid hX2.symm
  have HC2 := Lib.hid hc2.symm
  rw [← hn] at hv hbI
  subst hv
  replace hn := Lib.hid hn
  clear hND hRT he het hx hlx hc hm hps hc0 hLf hX1 hc1 hX2 hc2 hbig
  have HNIL := Lib.hid (World.ownsRow_nil w w.heap.size 25 32)
  go_enter Tryd.func4, Tryd.ntmps4
  go_upto_region 5 with (at_builtin; refine wpList_append_hashes rfl (.tmp 25) (.tmp 26) rfl rfl w.heap.size _ 0 [] rfl HNIL.out _ hs rfl HH.out HAL.out (Nat.le_refl _) ?_; intro vm w1 ho hg; have HM := Lib.hid (HashesIn.of_own (show w1.ownsRow w.heap.size 25 32 vm hs.length (flatC hs) by rw [Nat.zero_add, List.nil_append] at ho; exact ho)); have HB := Lib.hid ((Below.refl w.heap.size w).grown hg (Nat.le_refl _) (fun k hk => by cases hk)); clear ho hg)
  have HPS := Lib.hid (show True from trivial)
  go_upto_region 6 with (go_at_call 18; (with_reducible refine (HPB.out vm _ HM.out (HE.out.below HB.out HG.out)).mono ?_); rintro e w2 ⟨vp, rfl, ho, hb⟩; have HP := Lib.hid (HashesIn.of_own ho); replace HM := Lib.hid (HM.out.below hb); replace HB := Lib.hid (HB.out.trans (hb.mono HB.out.size)); clear ho hb)
  go_upto_region 7 with (go_at_call 19; (with_reducible refine (HPA.out _ _ (HH.out.below HB.out)).mono ?_); rintro e w3 ⟨vq, rfl, ho, hb⟩; have HQ := Lib.hid (HashesIn.of_own ho); replace HM := Lib.hid (HM.out.below hb); replace HP := Lib.hid (HP.out.below hb); replace HB := Lib.hid (HB.out.trans (hb.mono HB.out.size)); clear ho hb)
  have M := Lib.hid (show TrM w w3 [] [(vm, hs), (vp, ps), (vq, ps)] from ⟨HB.out, by simp, by
    intro p hp
    simp only [List.mem_cons, List.not_mem_nil, or_false] at hp
    rcases hp with rfl | rfl | rfl
    · exact HM.out
    · exact HP.out
    · exact HQ.out⟩)
  clear HB HM HP HQ HPA HPB HPS
  go_upto_region 8 with (first
    | (go_at_call 20; (with_reducible refine (rleaf_any _ xs _ (HX.out.below M.out.below) HL1.out).mono ?_); rintro e w4 ⟨rfl, hb⟩; rw [HLf.out]; replace M := Lib.hid (M.out.call hb); clear hb)
    | (refine wpList_store_row rfl 25 (.tmp 12) (.tmp 41) rfl w4.heap.size (rowOf .u8 32 Lf) rfl rfl 25 _ (heap_alloc_new _ _) (by rw [rowOf_size]; kernel_rfl) (by rw [rowOf_size]; rfl) (rowOf_one _ _ _) ?_; rw [World.setRow_alloc_new]))
  replace M := Lib.hid (M.out.addR Lf)
  generalize w4.alloc (.cells (rowOf .u8 32 Lf) 25) = w5 at *
  obtain ⟨g12, hg12⟩ : ∃ g12, g12 = w4.heap.size := ⟨_, rfl⟩
  rw [← hg12] at M ⊢
  clear hg12
  go_upto_region 9 with (first
    | (refine wpList_load_row rfl 25 (.tmp 12) rfl g12 rfl 25 _ (0, 0) _ (M.out.rs (g12, Lf) (by simp)) Tryd.underlying25 rfl (by rw [rowOf_size]; kernel_rfl) ?_)
    | (go_at_call 21; (with_reducible refine (sFold_any Lf i n hs _ _ HN.out (HH.out.below M.out.below) (HE.out.below M.out.below HG.out)).mono ?_); rintro e w6 ⟨rfl, hb⟩; rw [HX1.out, HC1.out]; replace M := Lib.hid (M.out.call hb); clear hb)
    | (refine wpList_store_row rfl 25 (.tmp 13) (.tmp 49) rfl w6.heap.size (rowOf .u8 32 X1) rfl rfl 25 _ (heap_alloc_new _ _) (by rw [rowOf_size]; kernel_rfl) (by rw [rowOf_size]; rfl) (rowOf_one _ _ _) ?_; rw [World.setRow_alloc_new]))
  replace M := Lib.hid (M.out.addR X1)
  generalize w6.alloc (.cells (rowOf .u8 32 X1) 25) = w7 at *
  obtain ⟨g13, hg13⟩ : ∃ g13, g13 = w6.heap.size := ⟨_, rfl⟩
  rw [← hg13] at M ⊢
  clear hg13
  go_upto_region 10 with (first
    | (refine wpList_load_row rfl 25 (.tmp 12) rfl g12 rfl 25 _ (0, 0) _ (M.out.rs (g12, Lf) (by simp)) Tryd.underlying25 rfl (by rw [rowOf_size]; kernel_rfl) ?_)
    | (go_at_call 22; (with_reducible refine (rFold_any Lf i n hs _ _ HN.out (HH.out.below M.out.below)).mono ?_); rintro e w8 ⟨rfl, hb⟩; rw [HX1.out, HC1.out]; replace M := Lib.hid (M.out.call hb); clear hb)
    | (refine wpList_store_row rfl 25 (.tmp 15) (.tmp 58) rfl w8.heap.size (rowOf .u8 32 X1) rfl rfl 25 _ (heap_alloc_new _ _) (by rw [rowOf_size]; kernel_rfl) (by rw [rowOf_size]; rfl) (rowOf_one _ _ _) ?_; rw [World.setRow_alloc_new]))
  replace M := Lib.hid (M.out.addR X1)
  generalize w8.alloc (.cells (rowOf .u8 32 X1) 25) = w9 at *
  obtain ⟨g15, hg15⟩ : ∃ g15, g15 = w8.heap.size := ⟨_, rfl⟩
  rw [← hg15] at M ⊢
  clear hg15
  go_upto_region 11 with (first
    | (refine wpList_load_row rfl 25 (.tmp 12) rfl g12 rfl 25 _ (0, 0) _ (M.out.rs (g12, Lf) (by simp)) Tryd.underlying25 rfl (by rw [rowOf_size]; kernel_rfl) ?_)
    | (go_at_call 21; (with_reducible refine (sFold_any Lf i n ps _ _ HN.out (M.out.hh (vp, ps) (by simp)) (HE.out.below M.out.below HG.out)).mono ?_); rintro e w10 ⟨rfl, hb⟩; rw [HX2.out, HC2.out]; replace M := Lib.hid (M.out.call hb); clear hb)
    | (refine wpList_store_row rfl 25 (.tmp 17) (.tmp 67) rfl w10.heap.size (rowOf .u8 32 X2) rfl rfl 25 _ (heap_alloc_new _ _) (by rw [rowOf_size]; kernel_rfl) (by rw [rowOf_size]; rfl) (rowOf_one _ _ _) ?_; rw [World.setRow_alloc_new]))
  replace M := Lib.hid (M.out.addR X2)
  generalize w10.alloc (.cells (rowOf .u8 32 X2) 25) = w11 at *
  obtain ⟨g17, hg17⟩ : ∃ g17, g17 = w10.heap.size := ⟨_, rfl⟩
  rw [← hg17] at M ⊢
  clear hg17
  go_upto_region 12 with (first
    | (refine wpList_load_row rfl 25 (.tmp 12) rfl g12 rfl 25 _ (0, 0) _ (M.out.rs (g12, Lf) (by simp)) Tryd.underlying25 rfl (by rw [rowOf_size]; kernel_rfl) ?_)
    | (go_at_call 22; (with_reducible refine (rFold_any Lf i n ps _ _ HN.out (M.out.hh (vq, ps) (by simp))).mono ?_); rintro e w12 ⟨rfl, hb⟩; rw [HX2.out, HC2.out]; replace M := Lib.hid (M.out.call hb); clear hb)
    | (refine wpList_store_row rfl 25 (.tmp 19) (.tmp 76) rfl w12.heap.size (rowOf .u8 32 X2) rfl rfl 25 _ (heap_alloc_new _ _) (by rw [rowOf_size]; kernel_rfl) (by rw [rowOf_size]; rfl) (rowOf_one _ _ _) ?_; rw [World.setRow_alloc_new]))
  replace M := Lib.hid (M.out.addR X2)
  generalize w12.alloc (.cells (rowOf .u8 32 X2) 25) = w13 at *
  obtain ⟨g19, hg19⟩ : ∃ g19, g19 = w12.heap.size := ⟨_, rfl⟩
  rw [← hg19] at M ⊢
  clear hg19
  refine wp_region_T (fun w' => TrM w w' [(g19, X2), (g17, X2), (g15, X1), (g13, X1), (g12, Lf)] [(vm, hs), (vp, ps), (vq, ps)]) [1, 2, 3, 6, 8, 9, 11, 16, 18, 24, 28, 33, 34, 39, 44, 45, 50, 57, 60] (by kernel_rfl) ?_
  replace M := Lib.hid (M.out.call (Below.refl _ _).drew)
  generalize w13.drew = w14 at *
  refine anyT_takeY (i := 0) (v := vb) rfl (by kernel_rfl) (by kernel_rfl) (by kernel_rfl) (fun _ _ _ h => h) (by kernel_rfl) (Or.inl ⟨by rfl, by intro w; go_simp⟩) ?_
  try simp only [List.getElem_toArray, List.getElem_cons_succ, List.getElem_cons_zero, Act.put, List.setIfInBounds_toArray, List.set_cons_zero, List.set_cons_succ]
  refine anyT_take [4, 5, 6, 7, 8, 9, 10, 11, 12, 13, 14, 15, 16, 17, 18, 19, 20, 21, 22, 23, 24, 25, 26, 27, 28, 29, 30, 31, 32, 33, 34, 35, 36, 37, 38, 39, 40, 41, 42, 43, 44, 45, 46, 47, 48, 49, 50, 51, 52, 53, 54, 55, 56, 57, 58, 59, 60, 61, 62] (i := 3) (v := .agg (rowOf .u8 32 Lf)) rfl (by kernel_rfl) (by kernel_rfl) (by kernel_rfl) (fun _ _ _ h => h) (by kernel_rfl) (row_yields (by rfl) 25 (.tmp 12) rfl g12 rfl .u8 32 Lf _ (fun _ h => h.rs (g12, Lf) (by simp)) Tryd.underlying25 rfl (by kernel_rfl)) M.out ?_
  try simp only [List.getElem_toArray, List.getElem_cons_succ, List.getElem_cons_zero, Act.put, List.setIfInBounds_toArray, List.set_cons_zero, List.set_cons_succ]
  refine anyT_one (i := 1) (by kernel_rfl) rfl (fun K hK => ?_)
  rw [if_pos (by rfl)]
  try simp only [List.getElem_toArray, List.getElem_cons_succ, List.getElem_cons_zero]
  (go_simp; refine (twin_any _ xs _ (HX.out.below M.out.below) HL2.out).mono ?_; rintro e w_1 ⟨vt, rfl, ho, hb⟩; have HT := Lib.hid (owns_in ho (by have := HL2.out; unfold maxLen; omega)); replace M := Lib.hid (M.out.call hb); clear ho hb)
  refine hK _ _ (fun _ => M.out) ?_
  clear hK K
  try simp only [List.getElem_toArray, List.getElem_cons_succ, List.getElem_cons_zero, Act.put, List.setIfInBounds_toArray, List.set_cons_zero, List.set_cons_succ]
  refine anyT_one (i := 2) (by kernel_rfl) rfl (fun K hK => ?_)
  rw [if_pos (by rfl)]
  try simp only [List.getElem_toArray, List.getElem_cons_succ, List.getElem_cons_zero]
  (go_simp; refine (leaf_any _ xs _ HT.out (HE.out.below M.out.below HG.out)).mono ?_; rintro e w_2 ⟨rfl, hb⟩; rw [HLf.out]; replace M := Lib.hid (M.out.call hb); clear hb; clear HT)
  refine hK _ _ (fun _ => M.out) ?_
  clear hK K
  try simp only [List.getElem_toArray, List.getElem_cons_succ, List.getElem_cons_zero, Act.put, List.setIfInBounds_toArray, List.set_cons_zero, List.set_cons_succ]
  refine anyT_takeY (i := 4) (v := .bool true) rfl (by kernel_rfl) (by kernel_rfl) (by kernel_rfl) (fun _ _ _ h => h) (by kernel_rfl) (Or.inl ⟨by rfl, fun w' => by have h := eqIn32_self (Lf) w'; go_simp⟩) ?_
  try simp only [List.getElem_toArray, List.getElem_cons_succ, List.getElem_cons_zero, Act.put, List.setIfInBounds_toArray, List.set_cons_zero, List.set_cons_succ]
  refine anyT_takeY (i := 5) (v := .bool true) rfl (by kernel_rfl) (by kernel_rfl) (by kernel_rfl) (fun _ _ _ h => h) (by kernel_rfl) (Or.inl ⟨by rfl, by intro w; go_simp⟩) ?_
  try simp only [List.getElem_toArray, List.getElem_cons_succ, List.getElem_cons_zero, Act.put, List.setIfInBounds_toArray, List.set_cons_zero, List.set_cons_succ]
  refine anyT_takeY (i := 7) (v := .agg (rowOf .u8 32 (fun _ => 0))) rfl (by kernel_rfl) (by kernel_rfl) (by kernel_rfl) (fun _ _ _ h => h) (by kernel_rfl) (Or.inl ⟨by rfl, by intro w'; rw [← zeros32]; go_simp⟩) ?_
  try simp only [List.getElem_toArray, List.getElem_cons_succ, List.getElem_cons_zero, Act.put, List.setIfInBounds_toArray, List.set_cons_zero, List.set_cons_succ]
  refine anyT_takeY (i := 10) (v := .agg (rowOf .u8 32 (fun _ => 0))) rfl (by kernel_rfl) (by kernel_rfl) (by kernel_rfl) (fun _ _ _ h => h) (by kernel_rfl) (Or.inl ⟨by rfl, by intro w'; rw [← zeros32]; go_simp⟩) ?_
  try simp only [List.getElem_toArray, List.getElem_cons_succ, List.getElem_cons_zero, Act.put, List.setIfInBounds_toArray, List.set_cons_zero, List.set_cons_succ]
  refine anyT_take [8, 11, 12, 13, 14, 15, 16, 17, 18, 19, 20, 21, 22, 23, 24, 25, 26, 27, 28, 29, 30, 31, 32, 33, 34, 35, 36, 37, 38, 39, 40, 41, 42, 43, 44, 45, 46, 47, 48, 49, 50, 51, 52, 53, 54, 55, 56, 57, 58, 59, 60, 61, 62] (i := 6) (v := .agg (rowOf .u8 32 Lf)) rfl (by kernel_rfl) (by kernel_rfl) (by kernel_rfl) (fun _ _ _ h => h) (by kernel_rfl) (row_yields (by rfl) 25 (.tmp 12) rfl g12 rfl .u8 32 Lf _ (fun _ h => h.rs (g12, Lf) (by simp)) Tryd.underlying25 rfl (by kernel_rfl)) M.out ?_
  try simp only [List.getElem_toArray, List.getElem_cons_succ, List.getElem_cons_zero, Act.put, List.setIfInBounds_toArray, List.set_cons_zero, List.set_cons_succ]
  refine anyT_take [11, 12, 13, 14, 15, 16, 17, 18, 19, 20, 21, 22, 23, 24, 25, 26, 27, 28, 29, 30, 31, 32, 33, 34, 35, 36, 37, 38, 39, 40, 41, 42, 43, 44, 45, 46, 47, 48, 49, 50, 51, 52, 53, 54, 55, 56, 57, 58, 59, 60, 61, 62] (i := 9) (v := .agg (rowOf .u8 32 Lf)) rfl (by kernel_rfl) (by kernel_rfl) (by kernel_rfl) (fun _ _ _ h => h) (by kernel_rfl) (row_yields (by rfl) 25 (.tmp 12) rfl g12 rfl .u8 32 Lf _ (fun _ h => h.rs (g12, Lf) (by simp)) Tryd.underlying25 rfl (by kernel_rfl)) M.out ?_
  try simp only [List.getElem_toArray, List.getElem_cons_succ, List.getElem_cons_zero, Act.put, List.setIfInBounds_toArray, List.set_cons_zero, List.set_cons_succ]
  refine anyT_one (i := 8) (by kernel_rfl) rfl (fun K hK => ?_)
  rw [if_pos (by rfl)]
  try simp only [List.getElem_toArray, List.getElem_cons_succ, List.getElem_cons_zero]
  (go_simp; refine (node_any Lf (fun _ => 0) _ (HE.out.below M.out.below HG.out)).mono ?_; rintro e w_8 ⟨rfl, hb⟩; rw [HND.out]; replace M := Lib.hid (M.out.call hb); clear hb)
  refine hK _ _ (fun _ => M.out) ?_
  clear hK K
  try simp only [List.getElem_toArray, List.getElem_cons_succ, List.getElem_cons_zero, Act.put, List.setIfInBounds_toArray, List.set_cons_zero, List.set_cons_succ]
  refine anyT_one (i := 11) (by kernel_rfl) rfl (fun K hK => ?_)
  rw [if_pos (by rfl)]
  try simp only [List.getElem_toArray, List.getElem_cons_succ, List.getElem_cons_zero]
  (go_simp; refine (rnode_any Lf (fun _ => 0) _).mono ?_; rintro e w_11 ⟨rfl, hb⟩; rw [HND.out]; replace M := Lib.hid (M.out.call hb); clear hb)
  refine hK _ _ (fun _ => M.out) ?_
  clear hK K
  try simp only [List.getElem_toArray, List.getElem_cons_succ, List.getElem_cons_zero, Act.put, List.setIfInBounds_toArray, List.set_cons_zero, List.set_cons_succ]
  refine anyT_takeY (i := 12) (v := .bool true) rfl (by kernel_rfl) (by kernel_rfl) (by kernel_rfl) (fun _ _ _ h => h) (by kernel_rfl) (Or.inl ⟨by rfl, fun w' => by have h := eqIn32_self (ND) w'; go_simp⟩) ?_
  try simp only [List.getElem_toArray, List.getElem_cons_succ, List.getElem_cons_zero, Act.put, List.setIfInBounds_toArray, List.set_cons_zero, List.set_cons_succ]
  refine anyT_takeY (i := 13) (v := .bool true) rfl (by kernel_rfl) (by kernel_rfl) (by kernel_rfl) (fun _ _ _ h => h) (by kernel_rfl) (Or.inl ⟨by rfl, by intro w; go_simp⟩) ?_
  try simp only [List.getElem_toArray, List.getElem_cons_succ, List.getElem_cons_zero, Act.put, List.setIfInBounds_toArray, List.set_cons_zero, List.set_cons_succ]
  refine anyT_takeY (i := 14) (v := .bool true) rfl (by kernel_rfl) (by kernel_rfl) (by kernel_rfl) (fun _ _ _ h => h) (by kernel_rfl) (Or.inl ⟨by rfl, by intro w; go_simp⟩) ?_
  try simp only [List.getElem_toArray, List.getElem_cons_succ, List.getElem_cons_zero, Act.put, List.setIfInBounds_toArray, List.set_cons_zero, List.set_cons_succ]
  refine anyT_takeY (i := 15) (v := vm) rfl (by kernel_rfl) (by kernel_rfl) (by kernel_rfl) (fun _ _ _ h => h) (by kernel_rfl) (Or.inl ⟨by rfl, by intro w; go_simp⟩) ?_
  try simp only [List.getElem_toArray, List.getElem_cons_succ, List.getElem_cons_zero, Act.put, List.setIfInBounds_toArray, List.set_cons_zero, List.set_cons_succ]
  refine anyT_takeY (i := 17) (v := .slice a n cap) rfl (by kernel_rfl) (by kernel_rfl) (by kernel_rfl) (fun _ _ _ h => h) (by kernel_rfl) (Or.inl ⟨by rfl, by intro w; go_simp⟩) ?_
  try simp only [List.getElem_toArray, List.getElem_cons_succ, List.getElem_cons_zero, Act.put, List.setIfInBounds_toArray, List.set_cons_zero, List.set_cons_succ]
  refine anyT_one (i := 16) (by kernel_rfl) rfl (fun K hK => ?_)
  rw [if_pos (by rfl)]
  try simp only [List.getElem_toArray, List.getElem_cons_succ, List.getElem_cons_zero]
  (go_simp; refine (root_any _ hs rfl vm _ (M.out.hh (vm, hs) (by simp)) (HE.out.below M.out.below HG.out)).mono ?_; rintro e w_16 ⟨rfl, hb⟩; rw [HRT.out]; replace M := Lib.hid (M.out.call hb); clear hb)
  refine hK _ _ (fun _ => M.out) ?_
  clear hK K
  try simp only [List.getElem_toArray, List.getElem_cons_succ, List.getElem_cons_zero, Act.put, List.setIfInBounds_toArray, List.set_cons_zero, List.set_cons_succ]
  refine anyT_one (i := 18) (by kernel_rfl) rfl (fun K hK => ?_)
  rw [if_pos (by rfl)]
  try simp only [List.getElem_toArray, List.getElem_cons_succ, List.getElem_cons_zero]
  (go_simp; refine (rroot_any _ hs rfl _ _ (HH.out.below M.out.below)).mono ?_; rintro e w_18 ⟨rfl, hb⟩; rw [HRT.out]; replace M := Lib.hid (M.out.call hb); clear hb)
  refine hK _ _ (fun _ => M.out) ?_
  clear hK K
  try simp only [List.getElem_toArray, List.getElem_cons_succ, List.getElem_cons_zero, Act.put, List.setIfInBounds_toArray, List.set_cons_zero, List.set_cons_succ]
  refine anyT_takeY (i := 19) (v := .bool true) rfl (by kernel_rfl) (by kernel_rfl) (by kernel_rfl) (fun _ _ _ h => h) (by kernel_rfl) (Or.inl ⟨by rfl, fun w' => by have h := eqIn32_self (RT) w'; go_simp⟩) ?_
  try simp only [List.getElem_toArray, List.getElem_cons_succ, List.getElem_cons_zero, Act.put, List.setIfInBounds_toArray, List.set_cons_zero, List.set_cons_succ]
  refine anyT_takeY (i := 20) (v := .bool true) rfl (by kernel_rfl) (by kernel_rfl) (by kernel_rfl) (fun _ _ _ h => h) (by kernel_rfl) (Or.inl ⟨by rfl, by intro w; go_simp⟩) ?_
  try simp only [List.getElem_toArray, List.getElem_cons_succ, List.getElem_cons_zero, Act.put, List.setIfInBounds_toArray, List.set_cons_zero, List.set_cons_succ]
  refine anyT_takeY (i := 21) (v := .bool true) rfl (by kernel_rfl) (by kernel_rfl) (by kernel_rfl) (fun _ _ _ h => h) (by kernel_rfl) (Or.inl ⟨by rfl, by intro w; go_simp⟩) ?_
  try simp only [List.getElem_toArray, List.getElem_cons_succ, List.getElem_cons_zero, Act.put, List.setIfInBounds_toArray, List.set_cons_zero, List.set_cons_succ]
  refine anyT_takeY (i := 22) (v := vp) rfl (by kernel_rfl) (by kernel_rfl) (by kernel_rfl) (fun _ _ _ h => h) (by kernel_rfl) (Or.inl ⟨by rfl, by intro w; go_simp⟩) ?_
  try simp only [List.getElem_toArray, List.getElem_cons_succ, List.getElem_cons_zero, Act.put, List.setIfInBounds_toArray, List.set_cons_zero, List.set_cons_succ]
  refine anyT_takeY (i := 23) (v := vq) rfl (by kernel_rfl) (by kernel_rfl) (by kernel_rfl) (fun _ _ _ h => h) (by kernel_rfl) (Or.inl ⟨by rfl, by intro w; go_simp⟩) ?_
  try simp only [List.getElem_toArray, List.getElem_cons_succ, List.getElem_cons_zero, Act.put, List.setIfInBounds_toArray, List.set_cons_zero, List.set_cons_succ]
  refine anyT_one (i := 24) (by kernel_rfl) rfl (fun K hK => ?_)
  rw [if_pos (by rfl)]
  try simp only [List.getElem_toArray, List.getElem_cons_succ, List.getElem_cons_zero]
  (go_simp; refine (lhashes_any vp vq ps _ (M.out.hh (vp, ps) (by simp)) (M.out.hh (vq, ps) (by simp)) HPL.out).mono ?_; rintro e w_24 ⟨rfl, hb⟩; replace M := Lib.hid (M.out.call hb); clear hb)
  refine hK _ _ (fun _ => M.out) ?_
  clear hK K
  try simp only [List.getElem_toArray, List.getElem_cons_succ, List.getElem_cons_zero, Act.put, List.setIfInBounds_toArray, List.set_cons_zero, List.set_cons_succ]
  refine anyT_takeY (i := 25) (v := .bool true) rfl (by kernel_rfl) (by kernel_rfl) (by kernel_rfl) (fun _ _ _ h => h) (by kernel_rfl) (Or.inl ⟨by rfl, by intro w; go_simp⟩) ?_
  try simp only [List.getElem_toArray, List.getElem_cons_succ, List.getElem_cons_zero, Act.put, List.setIfInBounds_toArray, List.set_cons_zero, List.set_cons_succ]
  refine anyT_takeY (i := 26) (v := .bool true) rfl (by kernel_rfl) (by kernel_rfl) (by kernel_rfl) (fun _ _ _ h => h) (by kernel_rfl) (Or.inl ⟨by rfl, by intro w; go_simp⟩) ?_
  try simp only [List.getElem_toArray, List.getElem_cons_succ, List.getElem_cons_zero, Act.put, List.setIfInBounds_toArray, List.set_cons_zero, List.set_cons_succ]
  refine anyT_takeY (i := 27) (v := errV c0) rfl (by kernel_rfl) (by kernel_rfl) (by kernel_rfl) (fun _ _ _ h => h) (by kernel_rfl) (Or.inl ⟨by rfl, by intro w; go_simp⟩) ?_
  try simp only [List.getElem_toArray, List.getElem_cons_succ, List.getElem_cons_zero, Act.put, List.setIfInBounds_toArray, List.set_cons_zero, List.set_cons_succ]
  refine anyT_takeY (i := 29) (v := .int .i64 (numE c0)) rfl (by kernel_rfl) (by kernel_rfl) (by kernel_rfl) (fun _ _ _ h => h) (by kernel_rfl) (Or.inl ⟨by rfl, by intro w; go_simp⟩) ?_
  try simp only [List.getElem_toArray, List.getElem_cons_succ, List.getElem_cons_zero, Act.put, List.setIfInBounds_toArray, List.set_cons_zero, List.set_cons_succ]
  refine anyT_one (i := 28) (by kernel_rfl) rfl (fun K hK => ?_)
  rw [if_pos (by rfl)]
  try simp only [List.getElem_toArray, List.getElem_cons_succ, List.getElem_cons_zero]
  (go_simp; refine (num_any c0 _ (HET.out.below M.out.below)).mono ?_; rintro e w_28 ⟨rfl, hb⟩; replace M := Lib.hid (M.out.call hb); clear hb)
  refine hK _ _ (fun _ => M.out) ?_
  clear hK K
  try simp only [List.getElem_toArray, List.getElem_cons_succ, List.getElem_cons_zero, Act.put, List.setIfInBounds_toArray, List.set_cons_zero, List.set_cons_succ]
  refine anyT_takeY (i := 30) (v := .bool true) rfl (by kernel_rfl) (by kernel_rfl) (by kernel_rfl) (fun _ _ _ h => h) (by kernel_rfl) (Or.inl ⟨by rfl, by intro w; go_simp⟩) ?_
  try simp only [List.getElem_toArray, List.getElem_cons_succ, List.getElem_cons_zero, Act.put, List.setIfInBounds_toArray, List.set_cons_zero, List.set_cons_succ]
  refine anyT_takeY (i := 31) (v := .bool true) rfl (by kernel_rfl) (by kernel_rfl) (by kernel_rfl) (fun _ _ _ h => h) (by kernel_rfl) (Or.inl ⟨by rfl, by intro w; go_simp⟩) ?_
  try simp only [List.getElem_toArray, List.getElem_cons_succ, List.getElem_cons_zero, Act.put, List.setIfInBounds_toArray, List.set_cons_zero, List.set_cons_succ]
  refine anyT_takeY (i := 32) (v := .bool true) rfl (by kernel_rfl) (by kernel_rfl) (by kernel_rfl) (fun _ _ _ h => h) (by kernel_rfl) (Or.inl ⟨by rfl, by intro w; go_simp⟩) ?_
  try simp only [List.getElem_toArray, List.getElem_cons_succ, List.getElem_cons_zero, Act.put, List.setIfInBounds_toArray, List.set_cons_zero, List.set_cons_succ]
  refine anyT_take [35, 36, 37, 38, 39, 40, 41, 42, 43, 44, 45, 46, 47, 48, 49, 50, 51, 52, 53, 54, 55, 56, 57, 58, 59, 60, 61, 62] (i := 33) (v := .agg (rowOf .u8 32 X1)) rfl (by kernel_rfl) (by kernel_rfl) (by kernel_rfl) (fun _ _ _ h => h) (by kernel_rfl) (row_yields (by rfl) 25 (.tmp 13) rfl g13 rfl .u8 32 X1 _ (fun _ h => h.rs (g13, X1) (by simp)) Tryd.underlying25 rfl (by kernel_rfl)) M.out ?_
  try simp only [List.getElem_toArray, List.getElem_cons_succ, List.getElem_cons_zero, Act.put, List.setIfInBounds_toArray, List.set_cons_zero, List.set_cons_succ]
  refine anyT_take [35, 36, 37, 38, 39, 40, 41, 42, 43, 44, 45, 46, 47, 48, 49, 50, 51, 52, 53, 54, 55, 56, 57, 58, 59, 60, 61, 62] (i := 34) (v := .agg (rowOf .u8 32 X1)) rfl (by kernel_rfl) (by kernel_rfl) (by kernel_rfl) (fun _ _ _ h => h) (by kernel_rfl) (row_yields (by rfl) 25 (.tmp 15) rfl g15 rfl .u8 32 X1 _ (fun _ h => h.rs (g15, X1) (by simp)) Tryd.underlying25 rfl (by kernel_rfl)) M.out ?_
  try simp only [List.getElem_toArray, List.getElem_cons_succ, List.getElem_cons_zero, Act.put, List.setIfInBounds_toArray, List.set_cons_zero, List.set_cons_succ]
  refine anyT_takeY (i := 35) (v := .bool true) rfl (by kernel_rfl) (by kernel_rfl) (by kernel_rfl) (fun _ _ _ h => h) (by kernel_rfl) (Or.inl ⟨by rfl, fun w' => by have h := eqIn32_self (X1) w'; go_simp⟩) ?_
  try simp only [List.getElem_toArray, List.getElem_cons_succ, List.getElem_cons_zero, Act.put, List.setIfInBounds_toArray, List.set_cons_zero, List.set_cons_succ]
  refine anyT_takeY (i := 36) (v := .bool true) rfl (by kernel_rfl) (by kernel_rfl) (by kernel_rfl) (fun _ _ _ h => h) (by kernel_rfl) (Or.inl ⟨by rfl, by intro w; go_simp⟩) ?_
  try simp only [List.getElem_toArray, List.getElem_cons_succ, List.getElem_cons_zero, Act.put, List.setIfInBounds_toArray, List.set_cons_zero, List.set_cons_succ]
  refine anyT_takeY (i := 37) (v := .bool true) rfl (by kernel_rfl) (by kernel_rfl) (by kernel_rfl) (fun _ _ _ h => h) (by kernel_rfl) (Or.inl ⟨by rfl, by intro w; go_simp⟩) ?_
  try simp only [List.getElem_toArray, List.getElem_cons_succ, List.getElem_cons_zero, Act.put, List.setIfInBounds_toArray, List.set_cons_zero, List.set_cons_succ]
  refine anyT_takeY (i := 38) (v := errV c1) rfl (by kernel_rfl) (by kernel_rfl) (by kernel_rfl) (fun _ _ _ h => h) (by kernel_rfl) (Or.inl ⟨by rfl, by intro w; go_simp⟩) ?_
  try simp only [List.getElem_toArray, List.getElem_cons_succ, List.getElem_cons_zero, Act.put, List.setIfInBounds_toArray, List.set_cons_zero, List.set_cons_succ]
  refine anyT_takeY (i := 40) (v := .int .i64 (numE c1)) rfl (by kernel_rfl) (by kernel_rfl) (by kernel_rfl) (fun _ _ _ h => h) (by kernel_rfl) (Or.inl ⟨by rfl, by intro w; go_simp⟩) ?_
  try simp only [List.getElem_toArray, List.getElem_cons_succ, List.getElem_cons_zero, Act.put, List.setIfInBounds_toArray, List.set_cons_zero, List.set_cons_succ]
  refine anyT_one (i := 39) (by kernel_rfl) rfl (fun K hK => ?_)
  rw [if_pos (by rfl)]
  try simp only [List.getElem_toArray, List.getElem_cons_succ, List.getElem_cons_zero]
  (go_simp; refine (num_any c1 _ (HET.out.below M.out.below)).mono ?_; rintro e w_39 ⟨rfl, hb⟩; replace M := Lib.hid (M.out.call hb); clear hb)
  refine hK _ _ (fun _ => M.out) ?_
  clear hK K
  try simp only [List.getElem_toArray, List.getElem_cons_succ, List.getElem_cons_zero, Act.put, List.setIfInBounds_toArray, List.set_cons_zero, List.set_cons_succ]
  refine anyT_takeY (i := 41) (v := .bool true) rfl (by kernel_rfl) (by kernel_rfl) (by kernel_rfl) (fun _ _ _ h => h) (by kernel_rfl) (Or.inl ⟨by rfl, by intro w; go_simp⟩) ?_
  try simp only [List.getElem_toArray, List.getElem_cons_succ, List.getElem_cons_zero, Act.put, List.setIfInBounds_toArray, List.set_cons_zero, List.set_cons_succ]
  refine anyT_takeY (i := 42) (v := .bool true) rfl (by kernel_rfl) (by kernel_rfl) (by kernel_rfl) (fun _ _ _ h => h) (by kernel_rfl) (Or.inl ⟨by rfl, by intro w; go_simp⟩) ?_
  try simp only [List.getElem_toArray, List.getElem_cons_succ, List.getElem_cons_zero, Act.put, List.setIfInBounds_toArray, List.set_cons_zero, List.set_cons_succ]
  refine anyT_takeY (i := 43) (v := .bool true) rfl (by kernel_rfl) (by kernel_rfl) (by kernel_rfl) (fun _ _ _ h => h) (by kernel_rfl) (Or.inl ⟨by rfl, by intro w; go_simp⟩) ?_
  try simp only [List.getElem_toArray, List.getElem_cons_succ, List.getElem_cons_zero, Act.put, List.setIfInBounds_toArray, List.set_cons_zero, List.set_cons_succ]
  refine anyT_take [46, 47, 48, 49, 50, 51, 52, 53, 54, 55, 56, 57, 58, 59, 60, 61, 62] (i := 44) (v := .agg (rowOf .u8 32 X2)) rfl (by kernel_rfl) (by kernel_rfl) (by kernel_rfl) (fun _ _ _ h => h) (by kernel_rfl) (row_yields (by rfl) 25 (.tmp 17) rfl g17 rfl .u8 32 X2 _ (fun _ h => h.rs (g17, X2) (by simp)) Tryd.underlying25 rfl (by kernel_rfl)) M.out ?_
  try simp only [List.getElem_toArray, List.getElem_cons_succ, List.getElem_cons_zero, Act.put, List.setIfInBounds_toArray, List.set_cons_zero, List.set_cons_succ]
  refine anyT_take [46, 47, 48, 49, 50, 51, 52, 53, 54, 55, 56, 57, 58, 59, 60, 61, 62] (i := 45) (v := .agg (rowOf .u8 32 X2)) rfl (by kernel_rfl) (by kernel_rfl) (by kernel_rfl) (fun _ _ _ h => h) (by kernel_rfl) (row_yields (by rfl) 25 (.tmp 19) rfl g19 rfl .u8 32 X2 _ (fun _ h => h.rs (g19, X2) (by simp)) Tryd.underlying25 rfl (by kernel_rfl)) M.out ?_
  try simp only [List.getElem_toArray, List.getElem_cons_succ, List.getElem_cons_zero, Act.put, List.setIfInBounds_toArray, List.set_cons_zero, List.set_cons_succ]
  refine anyT_takeY (i := 46) (v := .bool true) rfl (by kernel_rfl) (by kernel_rfl) (by kernel_rfl) (fun _ _ _ h => h) (by kernel_rfl) (Or.inl ⟨by rfl, fun w' => by have h := eqIn32_self (X2) w'; go_simp⟩) ?_
  try simp only [List.getElem_toArray, List.getElem_cons_succ, List.getElem_cons_zero, Act.put, List.setIfInBounds_toArray, List.set_cons_zero, List.set_cons_succ]
  refine anyT_takeY (i := 47) (v := .bool true) rfl (by kernel_rfl) (by kernel_rfl) (by kernel_rfl) (fun _ _ _ h => h) (by kernel_rfl) (Or.inl ⟨by rfl, by intro w; go_simp⟩) ?_
  try simp only [List.getElem_toArray, List.getElem_cons_succ, List.getElem_cons_zero, Act.put, List.setIfInBounds_toArray, List.set_cons_zero, List.set_cons_succ]
  refine anyT_takeY (i := 48) (v := .bool true) rfl (by kernel_rfl) (by kernel_rfl) (by kernel_rfl) (fun _ _ _ h => h) (by kernel_rfl) (Or.inl ⟨by rfl, by intro w; go_simp⟩) ?_
  try simp only [List.getElem_toArray, List.getElem_cons_succ, List.getElem_cons_zero, Act.put, List.setIfInBounds_toArray, List.set_cons_zero, List.set_cons_succ]
  refine anyT_takeY (i := 49) (v := errV c2) rfl (by kernel_rfl) (by kernel_rfl) (by kernel_rfl) (fun _ _ _ h => h) (by kernel_rfl) (Or.inl ⟨by rfl, by intro w; go_simp⟩) ?_
  try simp only [List.getElem_toArray, List.getElem_cons_succ, List.getElem_cons_zero, Act.put, List.setIfInBounds_toArray, List.set_cons_zero, List.set_cons_succ]
  refine anyT_takeY (i := 51) (v := .int .i64 (numE c2)) rfl (by kernel_rfl) (by kernel_rfl) (by kernel_rfl) (fun _ _ _ h => h) (by kernel_rfl) (Or.inl ⟨by rfl, by intro w; go_simp⟩) ?_
  try simp only [List.getElem_toArray, List.getElem_cons_succ, List.getElem_cons_zero, Act.put, List.setIfInBounds_toArray, List.set_cons_zero, List.set_cons_succ]
  refine anyT_one (i := 50) (by kernel_rfl) rfl (fun K hK => ?_)
  rw [if_pos (by rfl)]
  try simp only [List.getElem_toArray, List.getElem_cons_succ, List.getElem_cons_zero]
  (go_simp; refine (num_any c2 _ (HET.out.below M.out.below)).mono ?_; rintro e w_50 ⟨rfl, hb⟩; replace M := Lib.hid (M.out.call hb); clear hb)
  refine hK _ _ (fun _ => M.out) ?_
  clear hK K
  try simp only [List.getElem_toArray, List.getElem_cons_succ, List.getElem_cons_zero, Act.put, List.setIfInBounds_toArray, List.set_cons_zero, List.set_cons_succ]
  refine anyT_takeY (i := 52) (v := .bool true) rfl (by kernel_rfl) (by kernel_rfl) (by kernel_rfl) (fun _ _ _ h => h) (by kernel_rfl) (Or.inl ⟨by rfl, by intro w; go_simp⟩) ?_
  try simp only [List.getElem_toArray, List.getElem_cons_succ, List.getElem_cons_zero, Act.put, List.setIfInBounds_toArray, List.set_cons_zero, List.set_cons_succ]
  refine anyT_takeY (i := 53) (v := .bool true) rfl (by kernel_rfl) (by kernel_rfl) (by kernel_rfl) (fun _ _ _ h => h) (by kernel_rfl) (Or.inl ⟨by rfl, by intro w; go_simp⟩) ?_
  try simp only [List.getElem_toArray, List.getElem_cons_succ, List.getElem_cons_zero, Act.put, List.setIfInBounds_toArray, List.set_cons_zero, List.set_cons_succ]
  refine anyT_takeY (i := 54) (v := .bool true) rfl (by kernel_rfl) (by kernel_rfl) (by kernel_rfl) (fun _ _ _ h => h) (by kernel_rfl) (Or.inl ⟨by rfl, by intro w; go_simp⟩) ?_
  try simp only [List.getElem_toArray, List.getElem_cons_succ, List.getElem_cons_zero, Act.put, List.setIfInBounds_toArray, List.set_cons_zero, List.set_cons_succ]
  refine anyT_takeY (i := 55) (v := vm) rfl (by kernel_rfl) (by kernel_rfl) (by kernel_rfl) (fun _ _ _ h => h) (by kernel_rfl) (Or.inl ⟨by rfl, by intro w; go_simp⟩) ?_
  try simp only [List.getElem_toArray, List.getElem_cons_succ, List.getElem_cons_zero, Act.put, List.setIfInBounds_toArray, List.set_cons_zero, List.set_cons_succ]
  refine anyT_takeY (i := 56) (v := .slice a n cap) rfl (by kernel_rfl) (by kernel_rfl) (by kernel_rfl) (fun _ _ _ h => h) (by kernel_rfl) (Or.inl ⟨by rfl, by intro w; go_simp⟩) ?_
  try simp only [List.getElem_toArray, List.getElem_cons_succ, List.getElem_cons_zero, Act.put, List.setIfInBounds_toArray, List.set_cons_zero, List.set_cons_succ]
  refine anyT_one (i := 57) (by kernel_rfl) rfl (fun K hK => ?_)
  rw [if_pos (by rfl)]
  try simp only [List.getElem_toArray, List.getElem_cons_succ, List.getElem_cons_zero]
  (go_simp; refine (lhashes_any vm _ hs _ (M.out.hh (vm, hs) (by simp)) (HH.out.below M.out.below) HHL.out).mono ?_; rintro e w_57 ⟨rfl, hb⟩; replace M := Lib.hid (M.out.call hb); clear hb)
  refine hK _ _ (fun _ => M.out) ?_
  clear hK K
  try simp only [List.getElem_toArray, List.getElem_cons_succ, List.getElem_cons_zero, Act.put, List.setIfInBounds_toArray, List.set_cons_zero, List.set_cons_succ]
  refine anyT_takeY (i := 58) (v := .bool true) rfl (by kernel_rfl) (by kernel_rfl) (by kernel_rfl) (fun _ _ _ h => h) (by kernel_rfl) (Or.inl ⟨by rfl, by intro w; go_simp⟩) ?_
  try simp only [List.getElem_toArray, List.getElem_cons_succ, List.getElem_cons_zero, Act.put, List.setIfInBounds_toArray, List.set_cons_zero, List.set_cons_succ]
  refine anyT_takeY (i := 59) (v := .bool true) rfl (by kernel_rfl) (by kernel_rfl) (by kernel_rfl) (fun _ _ _ h => h) (by kernel_rfl) (Or.inl ⟨by rfl, by intro w; go_simp⟩) ?_
  try simp only [List.getElem_toArray, List.getElem_cons_succ, List.getElem_cons_zero, Act.put, List.setIfInBounds_toArray, List.set_cons_zero, List.set_cons_succ]
  refine anyT_one (i := 60) (by kernel_rfl) rfl (fun K hK => ?_)
  rw [if_pos (by rfl)]
  try simp only [List.getElem_toArray, List.getElem_cons_succ, List.getElem_cons_zero]
  (go_simp; refine (shsure_any _ (HE.out.below M.out.below HG.out)).mono ?_; rintro e w_60 ⟨rfl, hb⟩; replace M := Lib.hid (M.out.call hb); clear hb)
  refine hK _ _ (fun _ => M.out) ?_
  clear hK K
  try simp only [List.getElem_toArray, List.getElem_cons_succ, List.getElem_cons_zero, Act.put, List.setIfInBounds_toArray, List.set_cons_zero, List.set_cons_succ]
  refine anyT_takeY (i := 61) (v := .bool true) rfl (by kernel_rfl) (by kernel_rfl) (by kernel_rfl) (fun _ _ _ h => h) (by kernel_rfl) (Or.inl ⟨by rfl, by intro w; go_simp⟩) ?_
  try simp only [List.getElem_toArray, List.getElem_cons_succ, List.getElem_cons_zero, Act.put, List.setIfInBounds_toArray, List.set_cons_zero, List.set_cons_succ]
  refine anyT_takeY (i := 62) (v := .bool true) rfl (by kernel_rfl) (by kernel_rfl) (by kernel_rfl) (fun _ _ _ h => h) (by kernel_rfl) (Or.inl ⟨by rfl, by intro w; go_simp⟩) ?_
  try simp only [List.getElem_toArray, List.getElem_cons_succ, List.getElem_cons_zero, Act.put, List.setIfInBounds_toArray, List.set_cons_zero, List.set_cons_succ]
  refine anyT_done (by kernel_rfl) ?_ _
  go_wp2_with (fail)
  go_ret
  exact ⟨rfl, M.out.below⟩
#print axioms ltrees_any
end Go.Proofs.YtbppainejdphpaaDoor
