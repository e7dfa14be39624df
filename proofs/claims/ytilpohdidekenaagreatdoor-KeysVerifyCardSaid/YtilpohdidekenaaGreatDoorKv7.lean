/- Part 7 of the proof. -/
import Derived.Test.YtilpohdidekenaaGreatDoorKl37
import Derived.Test.YtilpohdidekenaaGreatDoorKl36
import Derived.Test.YtilpohdidekenaaGreatDoorKl31
import Derived.Test.YtilpohdidekenaaGreatDoorKl17
import Derived.Test.YtilpohdidekenaaGreatDoorKv6
namespace Go.Proofs.YtilpohdidekenaaGreatDoor
set_option linter.unusedVariables false
set_option linter.unusedSimpArgs false
open Go.RowKit
set_option maxRecDepth 100000
theorem KEnv.at {w w' : World} (h : KEnv w.heap.size w) (hb : Below w.heap.size w w') : KEnv w'.heap.size w' := by
  have h2 := h.below hb
  exact ⟨h2.env, h2.nib, h2.err, Nat.lt_of_lt_of_le h2.c1 hb.size, Nat.lt_of_lt_of_le h2.c2 hb.size, Nat.lt_of_lt_of_le h2.c3 hb.size⟩
structure VfM (w w' : World) (F : Nat → Int) (D E : Int) (v0 v1 : Value) : Prop where
  below : Below w.heap.size w w'
  seed : RowAt w' w.heap.size .u8 32 23 F
  par : w'.heap[w.heap.size + 1]? = some (.cells (parC D E) 25 (0, 0))
  arr : w'.heap[w.heap.size + 2]? = some (.cells #[v0, v1] 27 (0, 0))
theorem VfM.call {w w' w2 : World} {F : Nat → Int} {D E : Int} {v0 v1 : Value} (m : VfM w w' F D E v0 v1) (h : Below w'.heap.size w' w2) : VfM w w2 F D E v0 v1 :=
  ⟨m.below.trans (h.mono m.below.size), m.seed.below h m.seed.lt, (h.block _ (heap_lt' m.par)).trans m.par, (h.block _ (heap_lt' m.arr)).trans m.arr⟩
theorem VfM.cells {w w' : World} {F : Nat → Int} {D E : Int} {v0 v1 : Value} (m : VfM w w' F D E v0 v1) : w'.cell? ⟨w.heap.size + 2, 0, none⟩ = some v0 ∧ w'.cell? ⟨w.heap.size + 2, 1, none⟩ = some v1 :=
  ⟨by rw [cell_of_row _ _ _ _ _ _ m.arr]; rfl, by rw [cell_of_row _ _ _ _ _ _ m.arr]; rfl⟩
def vfW (w : World) (F : Nat → Int) (D E : Int) (v0 v1 : Value) : World := (verW w F D E).alloc (.cells #[v0, v1] 27)
theorem vfM_start (w : World) (F : Nat → Int) (D E : Int) (v0 v1 : Value) : VfM w (vfW w F D E v0 v1) F D E v0 v1 := by
  have m := rvM_start w F D E
  have hb := below_alloc (verW w F D E) (.cells #[v0, v1] 27)
  have hs : (verW w F D E).heap.size = w.heap.size + 2 := by simp [verW]
  have hn := heap_alloc_new (verW w F D E) (.cells #[v0, v1] 27)
  rw [hs] at hn
  exact ⟨m.below.trans (hb.mono m.below.size), m.row.below hb m.row.lt, (hb.block _ (heap_lt' m.par)).trans m.par, hn⟩
theorem VfM.cut {w w' : World} {F : Nat → Int} {D E E' : Int} {v0 v1 : Value} (m : VfM w w' F D E v0 v1) : VfM w (w'.setRow (w.heap.size + 1) (parC D E')) F D E' v0 v1 :=
  ⟨below_setRow m.below (by omega) _, (setRow_other _ _ _ _ (by omega)).trans m.seed, setRow_heap _ _ _ _ _ _ m.par, (setRow_other _ _ _ _ (by omega)).trans m.arr⟩
structure VgM (w w' : World) (F : Nat → Int) (D E : Int) (v0 v1 : Value) (g7 g9 g13 : Nat) (RK : Nat → Int) (lf : Nat) (vo vp : Value) : Prop where
  m : VfM w w' F D E v0 v1
  r7 : RowAt w' g7 .u8 32 23 RK
  r9 : RowAt w' g9 .u8 32 23 RK
  sg : w'.heap[g13]? = some (.cells (sgC lf vo vp) 39 (0, 0))
theorem VgM.call {w w' w2 : World} {F : Nat → Int} {D E : Int} {v0 v1 : Value} {g7 g9 g13 : Nat} {RK : Nat → Int} {lf : Nat} {vo vp : Value} (m : VgM w w' F D E v0 v1 g7 g9 g13 RK lf vo vp) (h : Below w'.heap.size w' w2) : VgM w w2 F D E v0 v1 g7 g9 g13 RK lf vo vp :=
  ⟨m.m.call h, m.r7.below h m.r7.lt, m.r9.below h m.r9.lt, (h.block _ (heap_lt' m.sg)).trans m.sg⟩
set_option maxHeartbeats 8000000 in
theorem lverify_any (F : Nat → Int) (D E : Int) (a0 a1 : Option Addr) (n0 n1 c0 c1 : Nat) (x0 x1 : List Int) (w : World) (he : KEnv w.heap.size w) (h0 : BytesIn w (.slice a0 n0 c0) x0) (h1 : BytesIn w (.slice a1 n1 c1) x1) (hb1 : bytesOk x1) (hl0 : x0.length + 81 ≤ 140737488355328) (hl1 : x1.length ≤ 140737488351232) :
    Calls Tryz.prog 3 #[.agg (rowOf .u8 32 F), .agg (parC D E), .agg #[.slice a0 n0 c0, .slice a1 n1 c1]] w fun e w' => e = .returned (.bool true) ∧ Below w.heap.size w w' := by
  have HE := Lib.hid he
  have H0 := Lib.hid h0
  have H1 := Lib.hid h1
  obtain ⟨E', hE'⟩ : ∃ E', E' = cutE5 E := ⟨_, rfl⟩
  have HCT := Lib.hid (show ∀ w, Calls Tryz.prog 6 #[.agg (parC D E)] w fun e w' => e = .returned (.agg (parC D E')) ∧ Below w.heap.size w w' from fun w => by rw [hE']; exact lcut_any D E w)
  obtain ⟨RK, e0, hrk⟩ : ∃ RK e0, kRootR F D E' = (RK, e0) := ⟨_, _, rfl⟩
  have HKR := Lib.hid (show ∀ w, Env w → Calls Tryz.prog 7 #[.agg (rowOf .u8 32 F), .agg (parC D E')] w fun e w' => e = .returned (.tuple #[.agg (rowOf .u8 32 RK), errV e0]) ∧ Below w.heap.size w w' from fun w h => by have := kroot_any F D E' w h; rw [hrk] at this; exact this)
  have HRR := Lib.hid (show ∀ w, Calls Tryz.prog 8 #[.agg (rowOf .u8 32 F), .agg (parC D E')] w fun e w' => e = .returned (.tuple #[.agg (rowOf .u8 32 RK), .int .i64 (numE e0)]) ∧ Below w.heap.size w w' from fun w => by have := rkroot_any F D E' w; rw [hrk] at this; exact this)
  obtain ⟨sg, er, hsg⟩ : ∃ sg er, decS x1 = (sg, er) := ⟨_, _, rfl⟩
  have HLF := Lib.hid (show ∀ w, BytesIn w (.slice a1 n1 c1) x1 → Calls Tryz.prog 9 #[.slice a1 n1 c1] w fun e w' => e = .returned (.tuple #[.int .i64 (sg.leaf : Int), errV er]) ∧ Below w.heap.size w w' from fun w h => by have := kleaf_any _ x1 w h hb1 (by omega); rw [hsg] at this; exact this)
  have HPT := Lib.hid (show ∀ w, BytesIn w (.slice a1 n1 c1) x1 → Calls Tryz.prog 10 #[.slice a1 n1 c1] w fun e w' => ∃ vo vp, e = .returned (.tuple #[.agg (sgC sg.leaf vo vp), .int .i64 (numE er)]) ∧ (sgC sg.leaf vo vp).all (·.oneCell') = true ∧ Below w.heap.size w w' from fun w h => by
    have := rparts_any _ x1 w h hb1 hl1
    rw [hsg] at this
    refine this.mono fun e w' h2 => ?_
    obtain ⟨vo, vp, q1, q2, q3, q4⟩ := h2
    exact ⟨vo, vp, q1, sg_all sg.leaf q2 q3, q4⟩)
  obtain ⟨ck, hck⟩ : ∃ ck, ckR D E' = ck := ⟨_, rfl⟩
  have HK1 := Lib.hid (show ∀ w, Calls Tryz.prog 12 #[.agg (parC D E')] w fun e w' => e = .returned (errV ck) ∧ Below w.heap.size w w' from fun w => by have := kcheck_any D E' w; rw [hck] at this; exact this)
  have HK2 := Lib.hid (show ∀ w, Calls Tryz.prog 13 #[.agg (parC D E')] w fun e w' => e = .returned (.int .i64 (numE ck)) ∧ Below w.heap.size w w' from fun w => by have := rcheck_any D E' w; rw [hck] at this; exact this)
  obtain ⟨vr, hvr⟩ : ∃ vr, verR RK D E' x0 x1 = vr := ⟨_, rfl⟩
  have HV1 := Lib.hid (show ∀ w, Env w → BytesIn w (.slice a0 n0 c0) x0 → BytesIn w (.slice a1 n1 c1) x1 → Calls Tryz.prog 14 #[.agg (rowOf .u8 32 RK), .agg (parC D E'), .slice a0 n0 c0, .slice a1 n1 c1] w fun e w' => e = .returned (errV vr) ∧ Below w.heap.size w w' from fun w q1 q2 q3 => by
    have := kverify_any RK D E' _ _ x0 x1 w q1 q2 q3 hb1 (by omega); rw [hvr] at this; exact this)
  have HV2 := Lib.hid (show ∀ w, BytesIn w (.slice a0 n0 c0) x0 → BytesIn w (.slice a1 n1 c1) x1 → Calls Tryz.prog 15 #[.agg (rowOf .u8 32 RK), .agg (parC D E'), .slice a0 n0 c0, .slice a1 n1 c1] w fun e w' => e = .returned (.int .i64 (numE vr)) ∧ Below w.heap.size w w' from fun w q2 q3 => by
    have := rkverify_any RK D E' _ _ x0 x1 w q2 hl0 q3 hb1 hl1; rw [hvr] at this; exact this)
  have M := Lib.hid (vfM_start w F D E (.slice a0 n0 c0) (.slice a1 n1 c1))
  clear he h0 h1 hb1 hl0 hl1 hE' hrk hsg hck hvr
  go_enter Tryz.func3, Tryz.ntmps3
  go_upto_region 1 with (fail)
  have e0' : ((w.alloc (.cells (rowOf .u8 32 F) 23)).alloc (.cells (parC D E) 25)).alloc (.cells #[.slice a0 n0 c0, .slice a1 n1 c1] 27) = vfW w F D E (.slice a0 n0 c0) (.slice a1 n1 c1) := rfl
  rw [e0']; clear e0'
  generalize vfW w F D E (.slice a0 n0 c0) (.slice a1 n1 c1) = w1 at *
  go_upto_region 2 with (first
    | (refine wpList_load_row rfl 25 (.tmp 4) rfl (w.heap.size + 1) rfl 25 _ (0, 0) _ M.out.par Tryz.underlying25 rfl (by kernel_rfl) ?_)
    | (go_at_call 6; (with_reducible refine (HCT.out _).mono ?_); rintro e w2 ⟨rfl, hb⟩; replace M := Lib.hid (M.out.call hb); clear hb)
    | (refine wpList_store_row rfl 25 (.tmp 4) (.tmp 16) rfl (w.heap.size + 1) (parC D E') rfl rfl 25 _ M.out.par (by kernel_rfl) (by rfl) (par_one _ _) ?_; replace M := Lib.hid (M.out.cut (E' := E')); generalize w2.setRow (w.heap.size + 1) (parC D E') = w3 at *))
  go_upto_region 3 with (first
    | (refine wpList_load_row rfl 23 (.tmp 3) rfl w.heap.size rfl 23 _ (0, 0) _ M.out.seed Tryz.underlying23 rfl (by rw [rowOf_size]; kernel_rfl) ?_)
    | (refine wpList_load_row rfl 25 (.tmp 4) rfl (w.heap.size + 1) rfl 25 _ (0, 0) _ M.out.par Tryz.underlying25 rfl (by kernel_rfl) ?_)
    | (go_at_call 7; (with_reducible refine (HKR.out _ (HE.out.at M.out.below).env).mono ?_); rintro e w4 ⟨rfl, hb⟩; replace M := Lib.hid (M.out.call hb); clear hb)
    | (refine wpList_store_row rfl 23 (.tmp 7) (.tmp 21) rfl w4.heap.size (rowOf .u8 32 RK) rfl rfl 23 _ (heap_alloc_new _ _) (by rw [rowOf_size]; kernel_rfl) (by rw [rowOf_size]; rfl) (rowOf_one _ _ _) ?_; rw [World.setRow_alloc_new]; have HA := Lib.hid (below_alloc w4 (.cells (rowOf .u8 32 RK) 23)); replace M := Lib.hid (M.out.call HA.out); have R7 := Lib.hid (RowAt.new w4 .u8 32 23 RK); clear HA; generalize w4.alloc (.cells (rowOf .u8 32 RK) 23) = w5 at *))
  generalize w4.heap.size = g7 at *
  go_upto_region 4 with (first
    | (refine wpList_load_row rfl 23 (.tmp 3) rfl w.heap.size rfl 23 _ (0, 0) _ M.out.seed Tryz.underlying23 rfl (by rw [rowOf_size]; kernel_rfl) ?_)
    | (refine wpList_load_row rfl 25 (.tmp 4) rfl (w.heap.size + 1) rfl 25 _ (0, 0) _ M.out.par Tryz.underlying25 rfl (by kernel_rfl) ?_)
    | (go_at_call 8; (with_reducible refine (HRR.out _).mono ?_); rintro e w6 ⟨rfl, hb⟩; replace R7 := Lib.hid (RowAt.below R7.out hb (RowAt.lt R7.out)); replace M := Lib.hid (M.out.call hb); clear hb)
    | (refine wpList_store_row rfl 23 (.tmp 9) (.tmp 27) rfl w6.heap.size (rowOf .u8 32 RK) rfl rfl 23 _ (heap_alloc_new _ _) (by rw [rowOf_size]; kernel_rfl) (by rw [rowOf_size]; rfl) (rowOf_one _ _ _) ?_; rw [World.setRow_alloc_new]; have HA := Lib.hid (below_alloc w6 (.cells (rowOf .u8 32 RK) 23)); replace R7 := Lib.hid (RowAt.below R7.out HA.out (RowAt.lt R7.out)); replace M := Lib.hid (M.out.call HA.out); have R9 := Lib.hid (RowAt.new w6 .u8 32 23 RK); clear HA; generalize w6.alloc (.cells (rowOf .u8 32 RK) 23) = w7 at *))
  generalize w6.heap.size = g9 at *
  obtain ⟨k0, k1⟩ := M.out.cells
  go_upto_region 5 with (go_at_call 9; (with_reducible refine (HLF.out _ (H1.out.below M.out.below)).mono ?_); rintro e w8 ⟨rfl, hb⟩; replace R7 := Lib.hid (RowAt.below R7.out hb (RowAt.lt R7.out)); replace R9 := Lib.hid (RowAt.below R9.out hb (RowAt.lt R9.out)); replace M := Lib.hid (M.out.call hb); clear hb)
  clear k0 k1
  obtain ⟨k0, k1⟩ := M.out.cells
  go_upto_region 6 with (first
    | (go_at_call 10; (with_reducible refine (HPT.out _ (H1.out.below M.out.below)).mono ?_); rintro e w9 ⟨vo, vp, rfl, hw, hb⟩; have HW := Lib.hid hw; replace R7 := Lib.hid (RowAt.below R7.out hb (RowAt.lt R7.out)); replace R9 := Lib.hid (RowAt.below R9.out hb (RowAt.lt R9.out)); replace M := Lib.hid (M.out.call hb); clear hb hw)
    | (refine wpList_store_row rfl 39 (.tmp 13) (.tmp 39) rfl w9.heap.size (sgC sg.leaf vo vp) rfl rfl 39 _ (heap_alloc_new _ _) (by kernel_rfl) (by rfl) HW.out ?_; rw [World.setRow_alloc_new]; have HA := Lib.hid (below_alloc w9 (.cells (sgC sg.leaf vo vp) 39)); have G := Lib.hid (show VgM w (w9.alloc (.cells (sgC sg.leaf vo vp) 39)) F D E' (.slice a0 n0 c0) (.slice a1 n1 c1) g7 g9 w9.heap.size RK sg.leaf vo vp from ⟨M.out.call HA.out, RowAt.below R7.out HA.out (RowAt.lt R7.out), RowAt.below R9.out HA.out (RowAt.lt R9.out), heap_alloc_new _ _⟩); clear HA; generalize w9.alloc (.cells (sgC sg.leaf vo vp) 39) = w10 at *))
  clear k0 k1 M R7 R9 HW HCT HKR HRR HLF HPT
  generalize w9.heap.size = g13 at *
  refine wp_region_T (fun w' => VgM w w' F D E' (.slice a0 n0 c0) (.slice a1 n1 c1) g7 g9 g13 RK sg.leaf vo vp) [0, 1, 5, 10, 11, 12, 13, 14, 20, 25, 30, 31, 33, 35, 36, 37, 38, 39, 41, 43, 44, 48] (by kernel_rfl) ?_
  replace G := Lib.hid (G.out.call (Below.refl _ _).drew)
  generalize w10.drew = w11 at *
  refine anyT_take [2, 3, 4, 5, 6, 7, 8, 9, 10, 11, 12, 13, 14, 15, 16, 17, 18, 19, 20, 21, 22, 23, 24, 25, 26, 27, 28, 29, 30, 31, 32, 33, 34, 35, 36, 37, 38, 39, 40, 41, 42, 43, 44, 45, 46, 47, 48, 49, 50] (i := 0) (v := .agg (rowOf .u8 32 RK)) rfl (by kernel_rfl) (by kernel_rfl) (by kernel_rfl) (fun _ _ _ h => h) (by kernel_rfl) (row_yields (by rfl) 23 (.tmp 7) rfl g7 rfl .u8 32 RK _ (fun _ h => h.r7) Tryz.underlying23 rfl (by kernel_rfl)) G.out ?_
  try simp only [List.getElem_toArray, List.getElem_cons_succ, List.getElem_cons_zero, Act.put, List.setIfInBounds_toArray, List.set_cons_zero, List.set_cons_succ]
  refine anyT_take [2, 3, 4, 5, 6, 7, 8, 9, 10, 11, 12, 13, 14, 15, 16, 17, 18, 19, 20, 21, 22, 23, 24, 25, 26, 27, 28, 29, 30, 31, 32, 33, 34, 35, 36, 37, 38, 39, 40, 41, 42, 43, 44, 45, 46, 47, 48, 49, 50] (i := 1) (v := .agg (rowOf .u8 32 RK)) rfl (by kernel_rfl) (by kernel_rfl) (by kernel_rfl) (fun _ _ _ h => h) (by kernel_rfl) (row_yields (by rfl) 23 (.tmp 9) rfl g9 rfl .u8 32 RK _ (fun _ h => h.r9) Tryz.underlying23 rfl (by kernel_rfl)) G.out ?_
  try simp only [List.getElem_toArray, List.getElem_cons_succ, List.getElem_cons_zero, Act.put, List.setIfInBounds_toArray, List.set_cons_zero, List.set_cons_succ]
  refine anyT_takeY (i := 2) (v := .bool true) rfl (by kernel_rfl) (by kernel_rfl) (by kernel_rfl) (fun _ _ _ h => h) (by kernel_rfl) (Or.inl ⟨by rfl, fun w' => by have h := eqIn32_self (RK) w'; go_simp⟩) ?_
  try simp only [List.getElem_toArray, List.getElem_cons_succ, List.getElem_cons_zero, Act.put, List.setIfInBounds_toArray, List.set_cons_zero, List.set_cons_succ]
  refine anyT_takeY (i := 3) (v := .bool true) rfl (by kernel_rfl) (by kernel_rfl) (by kernel_rfl) (fun _ _ _ h => h) (by kernel_rfl) (Or.inl ⟨by rfl, by intro w; go_simp⟩) ?_
  try simp only [List.getElem_toArray, List.getElem_cons_succ, List.getElem_cons_zero, Act.put, List.setIfInBounds_toArray, List.set_cons_zero, List.set_cons_succ]
  refine anyT_takeY (i := 4) (v := errV e0) rfl (by kernel_rfl) (by kernel_rfl) (by kernel_rfl) (fun _ _ _ h => h) (by kernel_rfl) (Or.inl ⟨by rfl, by intro w; go_simp⟩) ?_
  try simp only [List.getElem_toArray, List.getElem_cons_succ, List.getElem_cons_zero, Act.put, List.setIfInBounds_toArray, List.set_cons_zero, List.set_cons_succ]
  refine anyT_takeY (i := 6) (v := .int .i64 (numE e0)) rfl (by kernel_rfl) (by kernel_rfl) (by kernel_rfl) (fun _ _ _ h => h) (by kernel_rfl) (Or.inl ⟨by rfl, by intro w; go_simp⟩) ?_
  try simp only [List.getElem_toArray, List.getElem_cons_succ, List.getElem_cons_zero, Act.put, List.setIfInBounds_toArray, List.set_cons_zero, List.set_cons_succ]
  refine anyT_one (i := 5) (by kernel_rfl) rfl (fun K hK => ?_)
  rw [if_pos (by rfl)]
  try simp only [List.getElem_toArray, List.getElem_cons_succ, List.getElem_cons_zero]
  (go_simp; refine (num_any e0 _ (HE.out.at G.out.m.below).err).mono ?_; rintro e w_5 ⟨rfl, hb⟩; replace G := Lib.hid (G.out.call hb); clear hb)
  refine hK _ _ (fun _ => G.out) ?_
  clear hK K
  try simp only [List.getElem_toArray, List.getElem_cons_succ, List.getElem_cons_zero, Act.put, List.setIfInBounds_toArray, List.set_cons_zero, List.set_cons_succ]
  refine anyT_takeY (i := 7) (v := .bool true) rfl (by kernel_rfl) (by kernel_rfl) (by kernel_rfl) (fun _ _ _ h => h) (by kernel_rfl) (Or.inl ⟨by rfl, by intro w; go_simp⟩) ?_
  try simp only [List.getElem_toArray, List.getElem_cons_succ, List.getElem_cons_zero, Act.put, List.setIfInBounds_toArray, List.set_cons_zero, List.set_cons_succ]
  refine anyT_takeY (i := 8) (v := .bool true) rfl (by kernel_rfl) (by kernel_rfl) (by kernel_rfl) (fun _ _ _ h => h) (by kernel_rfl) (Or.inl ⟨by rfl, by intro w; go_simp⟩) ?_
  try simp only [List.getElem_toArray, List.getElem_cons_succ, List.getElem_cons_zero, Act.put, List.setIfInBounds_toArray, List.set_cons_zero, List.set_cons_succ]
  refine anyT_takeY (i := 9) (v := .bool true) rfl (by kernel_rfl) (by kernel_rfl) (by kernel_rfl) (fun _ _ _ h => h) (by kernel_rfl) (Or.inl ⟨by rfl, by intro w; go_simp⟩) ?_
  try simp only [List.getElem_toArray, List.getElem_cons_succ, List.getElem_cons_zero, Act.put, List.setIfInBounds_toArray, List.set_cons_zero, List.set_cons_succ]
  refine anyT_take [11, 12, 14, 15, 16, 17, 18, 19, 20, 21, 22, 23, 24, 25, 26, 27, 28, 29, 30, 31, 32, 33, 34, 35, 36, 37, 38, 39, 40, 41, 42, 43, 44, 45, 46, 47, 48, 49, 50] (i := 10) (v := .agg (parC D E')) rfl (by kernel_rfl) (by kernel_rfl) (by kernel_rfl) (fun _ _ _ h => h) (by kernel_rfl) (kagg_yields (by rfl) 25 (.tmp 4) rfl (w.heap.size + 1) rfl (parC D E') _ (fun _ h => h.m.par) Tryz.underlying25 rfl (by kernel_rfl)) G.out ?_
  try simp only [List.getElem_toArray, List.getElem_cons_succ, List.getElem_cons_zero, Act.put, List.setIfInBounds_toArray, List.set_cons_zero, List.set_cons_succ]
  refine anyT_take [14, 15, 16, 17, 18, 19, 20, 21, 22, 23, 24, 25, 26, 27, 28, 29, 30, 31, 32, 33, 34, 35, 36, 37, 38, 39, 40, 41, 42, 43, 44, 45, 46, 47, 48, 49, 50] (i := 13) (v := .agg (parC D E')) rfl (by kernel_rfl) (by kernel_rfl) (by kernel_rfl) (fun _ _ _ h => h) (by kernel_rfl) (kagg_yields (by rfl) 25 (.tmp 4) rfl (w.heap.size + 1) rfl (parC D E') _ (fun _ h => h.m.par) Tryz.underlying25 rfl (by kernel_rfl)) G.out ?_
  try simp only [List.getElem_toArray, List.getElem_cons_succ, List.getElem_cons_zero, Act.put, List.setIfInBounds_toArray, List.set_cons_zero, List.set_cons_succ]
  refine anyT_one (i := 11) (by kernel_rfl) rfl (fun K hK => ?_)
  rw [if_pos (by rfl)]
  try simp only [List.getElem_toArray, List.getElem_cons_succ, List.getElem_cons_zero]
  (go_simp; refine (HK1.out _).mono ?_; rintro e w_11 ⟨rfl, hb⟩; replace G := Lib.hid (G.out.call hb); clear hb)
  refine hK _ _ (fun _ => G.out) ?_
  clear hK K
  try simp only [List.getElem_toArray, List.getElem_cons_succ, List.getElem_cons_zero, Act.put, List.setIfInBounds_toArray, List.set_cons_zero, List.set_cons_succ]
  refine anyT_one (i := 12) (by kernel_rfl) rfl (fun K hK => ?_)
  rw [if_pos (by rfl)]
  try simp only [List.getElem_toArray, List.getElem_cons_succ, List.getElem_cons_zero]
  (go_simp; refine (num_any ck _ (HE.out.at G.out.m.below).err).mono ?_; rintro e w_12 ⟨rfl, hb⟩; replace G := Lib.hid (G.out.call hb); clear hb)
  refine hK _ _ (fun _ => G.out) ?_
  clear hK K
  try simp only [List.getElem_toArray, List.getElem_cons_succ, List.getElem_cons_zero, Act.put, List.setIfInBounds_toArray, List.set_cons_zero, List.set_cons_succ]
  refine anyT_one (i := 14) (by kernel_rfl) rfl (fun K hK => ?_)
  rw [if_pos (by rfl)]
  try simp only [List.getElem_toArray, List.getElem_cons_succ, List.getElem_cons_zero]
  (go_simp; refine (HK2.out _).mono ?_; rintro e w_14 ⟨rfl, hb⟩; replace G := Lib.hid (G.out.call hb); clear hb)
  refine hK _ _ (fun _ => G.out) ?_
  clear hK K
  try simp only [List.getElem_toArray, List.getElem_cons_succ, List.getElem_cons_zero, Act.put, List.setIfInBounds_toArray, List.set_cons_zero, List.set_cons_succ]
  refine anyT_takeY (i := 15) (v := .bool true) rfl (by kernel_rfl) (by kernel_rfl) (by kernel_rfl) (fun _ _ _ h => h) (by kernel_rfl) (Or.inl ⟨by rfl, by intro w; go_simp⟩) ?_
  try simp only [List.getElem_toArray, List.getElem_cons_succ, List.getElem_cons_zero, Act.put, List.setIfInBounds_toArray, List.set_cons_zero, List.set_cons_succ]
  refine anyT_takeY (i := 16) (v := .bool true) rfl (by kernel_rfl) (by kernel_rfl) (by kernel_rfl) (fun _ _ _ h => h) (by kernel_rfl) (Or.inl ⟨by rfl, by intro w; go_simp⟩) ?_
  try simp only [List.getElem_toArray, List.getElem_cons_succ, List.getElem_cons_zero, Act.put, List.setIfInBounds_toArray, List.set_cons_zero, List.set_cons_succ]
  refine anyT_takeY (i := 17) (v := .bool true) rfl (by kernel_rfl) (by kernel_rfl) (by kernel_rfl) (fun _ _ _ h => h) (by kernel_rfl) (Or.inl ⟨by rfl, by intro w; go_simp⟩) ?_
  try simp only [List.getElem_toArray, List.getElem_cons_succ, List.getElem_cons_zero, Act.put, List.setIfInBounds_toArray, List.set_cons_zero, List.set_cons_succ]
  refine anyT_takeY (i := 18) (v := .int .i64 (sg.leaf : Int)) rfl (by kernel_rfl) (by kernel_rfl) (by kernel_rfl) (fun _ _ _ h => h) (by kernel_rfl) (Or.inl ⟨by rfl, by intro w; go_simp⟩) ?_
  try simp only [List.getElem_toArray, List.getElem_cons_succ, List.getElem_cons_zero, Act.put, List.setIfInBounds_toArray, List.set_cons_zero, List.set_cons_succ]
  refine anyT_takeY (i := 19) (v := .pointer (some ⟨g13, 0, none⟩)) rfl (by kernel_rfl) (by kernel_rfl) (by kernel_rfl) (fun _ _ _ h => h) (by kernel_rfl) (Or.inl ⟨by rfl, by intro w; go_simp⟩) ?_
  try simp only [List.getElem_toArray, List.getElem_cons_succ, List.getElem_cons_zero, Act.put, List.setIfInBounds_toArray, List.set_cons_zero, List.set_cons_succ]
  refine anyT_take [21, 22, 23, 24, 25, 26, 27, 28, 29, 30, 31, 32, 33, 34, 35, 36, 37, 38, 39, 40, 41, 42, 43, 44, 45, 46, 47, 48, 49, 50] (i := 20) (v := .int .i64 (sg.leaf : Int)) rfl (by kernel_rfl) (by kernel_rfl) (by kernel_rfl) (fun _ _ _ h => h) (by kernel_rfl) (Or.inl ⟨by rfl, fun w' hS => by have q := (sig6_cells hS.sg).1; go_simp⟩) G.out ?_
  try simp only [List.getElem_toArray, List.getElem_cons_succ, List.getElem_cons_zero, Act.put, List.setIfInBounds_toArray, List.set_cons_zero, List.set_cons_succ]
  refine anyT_takeY (i := 21) (v := .bool true) rfl (by kernel_rfl) (by kernel_rfl) (by kernel_rfl) (fun _ _ _ h => h) (by kernel_rfl) (Or.inl ⟨by rfl, by intro w; go_simp⟩) ?_
  try simp only [List.getElem_toArray, List.getElem_cons_succ, List.getElem_cons_zero, Act.put, List.setIfInBounds_toArray, List.set_cons_zero, List.set_cons_succ]
  refine anyT_takeY (i := 22) (v := .bool true) rfl (by kernel_rfl) (by kernel_rfl) (by kernel_rfl) (fun _ _ _ h => h) (by kernel_rfl) (Or.inl ⟨by rfl, by intro w; go_simp⟩) ?_
  try simp only [List.getElem_toArray, List.getElem_cons_succ, List.getElem_cons_zero, Act.put, List.setIfInBounds_toArray, List.set_cons_zero, List.set_cons_succ]
  refine anyT_takeY (i := 23) (v := .bool true) rfl (by kernel_rfl) (by kernel_rfl) (by kernel_rfl) (fun _ _ _ h => h) (by kernel_rfl) (Or.inl ⟨by rfl, by intro w; go_simp⟩) ?_
  try simp only [List.getElem_toArray, List.getElem_cons_succ, List.getElem_cons_zero, Act.put, List.setIfInBounds_toArray, List.set_cons_zero, List.set_cons_succ]
  refine anyT_takeY (i := 24) (v := errV er) rfl (by kernel_rfl) (by kernel_rfl) (by kernel_rfl) (fun _ _ _ h => h) (by kernel_rfl) (Or.inl ⟨by rfl, by intro w; go_simp⟩) ?_
  try simp only [List.getElem_toArray, List.getElem_cons_succ, List.getElem_cons_zero, Act.put, List.setIfInBounds_toArray, List.set_cons_zero, List.set_cons_succ]
  refine anyT_takeY (i := 26) (v := .int .i64 (numE er)) rfl (by kernel_rfl) (by kernel_rfl) (by kernel_rfl) (fun _ _ _ h => h) (by kernel_rfl) (Or.inl ⟨by rfl, by intro w; go_simp⟩) ?_
  try simp only [List.getElem_toArray, List.getElem_cons_succ, List.getElem_cons_zero, Act.put, List.setIfInBounds_toArray, List.set_cons_zero, List.set_cons_succ]
  refine anyT_one (i := 25) (by kernel_rfl) rfl (fun K hK => ?_)
  rw [if_pos (by rfl)]
  try simp only [List.getElem_toArray, List.getElem_cons_succ, List.getElem_cons_zero]
  (go_simp; refine (num_any er _ (HE.out.at G.out.m.below).err).mono ?_; rintro e w_25 ⟨rfl, hb⟩; replace G := Lib.hid (G.out.call hb); clear hb)
  refine hK _ _ (fun _ => G.out) ?_
  clear hK K
  try simp only [List.getElem_toArray, List.getElem_cons_succ, List.getElem_cons_zero, Act.put, List.setIfInBounds_toArray, List.set_cons_zero, List.set_cons_succ]
  refine anyT_takeY (i := 27) (v := .bool true) rfl (by kernel_rfl) (by kernel_rfl) (by kernel_rfl) (fun _ _ _ h => h) (by kernel_rfl) (Or.inl ⟨by rfl, by intro w; go_simp⟩) ?_
  try simp only [List.getElem_toArray, List.getElem_cons_succ, List.getElem_cons_zero, Act.put, List.setIfInBounds_toArray, List.set_cons_zero, List.set_cons_succ]
  refine anyT_takeY (i := 28) (v := .bool true) rfl (by kernel_rfl) (by kernel_rfl) (by kernel_rfl) (fun _ _ _ h => h) (by kernel_rfl) (Or.inl ⟨by rfl, by intro w; go_simp⟩) ?_
  try simp only [List.getElem_toArray, List.getElem_cons_succ, List.getElem_cons_zero, Act.put, List.setIfInBounds_toArray, List.set_cons_zero, List.set_cons_succ]
  refine anyT_takeY (i := 29) (v := .bool true) rfl (by kernel_rfl) (by kernel_rfl) (by kernel_rfl) (fun _ _ _ h => h) (by kernel_rfl) (Or.inl ⟨by rfl, by intro w; go_simp⟩) ?_
  try simp only [List.getElem_toArray, List.getElem_cons_succ, List.getElem_cons_zero, Act.put, List.setIfInBounds_toArray, List.set_cons_zero, List.set_cons_succ]
  refine anyT_takeY (i := 32) (v := .pointer (some ⟨w.heap.size + 2, 0, none⟩)) rfl (by kernel_rfl) (by kernel_rfl) (by kernel_rfl) (fun _ _ _ h => h) (by kernel_rfl) (Or.inl ⟨by rfl, by intro w; go_simp⟩) ?_
  try simp only [List.getElem_toArray, List.getElem_cons_succ, List.getElem_cons_zero, Act.put, List.setIfInBounds_toArray, List.set_cons_zero, List.set_cons_succ]
  refine anyT_takeY (i := 34) (v := .pointer (some ⟨w.heap.size + 2, 1, none⟩)) rfl (by kernel_rfl) (by kernel_rfl) (by kernel_rfl) (fun _ _ _ h => h) (by kernel_rfl) (Or.inl ⟨by rfl, by intro w; go_simp⟩) ?_
  try simp only [List.getElem_toArray, List.getElem_cons_succ, List.getElem_cons_zero, Act.put, List.setIfInBounds_toArray, List.set_cons_zero, List.set_cons_succ]
  refine anyT_takeY (i := 40) (v := .pointer (some ⟨w.heap.size + 2, 0, none⟩)) rfl (by kernel_rfl) (by kernel_rfl) (by kernel_rfl) (fun _ _ _ h => h) (by kernel_rfl) (Or.inl ⟨by rfl, by intro w; go_simp⟩) ?_
  try simp only [List.getElem_toArray, List.getElem_cons_succ, List.getElem_cons_zero, Act.put, List.setIfInBounds_toArray, List.set_cons_zero, List.set_cons_succ]
  refine anyT_takeY (i := 42) (v := .pointer (some ⟨w.heap.size + 2, 1, none⟩)) rfl (by kernel_rfl) (by kernel_rfl) (by kernel_rfl) (fun _ _ _ h => h) (by kernel_rfl) (Or.inl ⟨by rfl, by intro w; go_simp⟩) ?_
  try simp only [List.getElem_toArray, List.getElem_cons_succ, List.getElem_cons_zero, Act.put, List.setIfInBounds_toArray, List.set_cons_zero, List.set_cons_succ]
  refine anyT_take [36, 37, 44, 45, 46, 47, 48, 49, 50] (i := 30) (v := .agg (rowOf .u8 32 RK)) rfl (by kernel_rfl) (by kernel_rfl) (by kernel_rfl) (fun _ _ _ h => h) (by kernel_rfl) (row_yields (by rfl) 23 (.tmp 9) rfl g9 rfl .u8 32 RK _ (fun _ h => h.r9) Tryz.underlying23 rfl (by kernel_rfl)) G.out ?_
  try simp only [List.getElem_toArray, List.getElem_cons_succ, List.getElem_cons_zero, Act.put, List.setIfInBounds_toArray, List.set_cons_zero, List.set_cons_succ]
  refine anyT_take [36, 37, 44, 45, 46, 47, 48, 49, 50] (i := 31) (v := .agg (parC D E')) rfl (by kernel_rfl) (by kernel_rfl) (by kernel_rfl) (fun _ _ _ h => h) (by kernel_rfl) (kagg_yields (by rfl) 25 (.tmp 4) rfl (w.heap.size + 1) rfl (parC D E') _ (fun _ h => h.m.par) Tryz.underlying25 rfl (by kernel_rfl)) G.out ?_
  try simp only [List.getElem_toArray, List.getElem_cons_succ, List.getElem_cons_zero, Act.put, List.setIfInBounds_toArray, List.set_cons_zero, List.set_cons_succ]
  refine anyT_take [36, 37, 44, 45, 46, 47, 48, 49, 50] (i := 33) (v := .slice a0 n0 c0) rfl (by kernel_rfl) (by kernel_rfl) (by kernel_rfl) (fun _ _ _ h => h) (by kernel_rfl) (Or.inl ⟨by rfl, fun w' hS => by have q := hS.m.cells.1; go_simp⟩) G.out ?_
  try simp only [List.getElem_toArray, List.getElem_cons_succ, List.getElem_cons_zero, Act.put, List.setIfInBounds_toArray, List.set_cons_zero, List.set_cons_succ]
  refine anyT_take [36, 37, 44, 45, 46, 47, 48, 49, 50] (i := 35) (v := .slice a1 n1 c1) rfl (by kernel_rfl) (by kernel_rfl) (by kernel_rfl) (fun _ _ _ h => h) (by kernel_rfl) (Or.inl ⟨by rfl, fun w' hS => by have q := hS.m.cells.2; go_simp⟩) G.out ?_
  try simp only [List.getElem_toArray, List.getElem_cons_succ, List.getElem_cons_zero, Act.put, List.setIfInBounds_toArray, List.set_cons_zero, List.set_cons_succ]
  refine anyT_take [44, 45, 46, 47, 48, 49, 50] (i := 38) (v := .agg (rowOf .u8 32 RK)) rfl (by kernel_rfl) (by kernel_rfl) (by kernel_rfl) (fun _ _ _ h => h) (by kernel_rfl) (row_yields (by rfl) 23 (.tmp 9) rfl g9 rfl .u8 32 RK _ (fun _ h => h.r9) Tryz.underlying23 rfl (by kernel_rfl)) G.out ?_
  try simp only [List.getElem_toArray, List.getElem_cons_succ, List.getElem_cons_zero, Act.put, List.setIfInBounds_toArray, List.set_cons_zero, List.set_cons_succ]
  refine anyT_take [44, 45, 46, 47, 48, 49, 50] (i := 39) (v := .agg (parC D E')) rfl (by kernel_rfl) (by kernel_rfl) (by kernel_rfl) (fun _ _ _ h => h) (by kernel_rfl) (kagg_yields (by rfl) 25 (.tmp 4) rfl (w.heap.size + 1) rfl (parC D E') _ (fun _ h => h.m.par) Tryz.underlying25 rfl (by kernel_rfl)) G.out ?_
  try simp only [List.getElem_toArray, List.getElem_cons_succ, List.getElem_cons_zero, Act.put, List.setIfInBounds_toArray, List.set_cons_zero, List.set_cons_succ]
  refine anyT_take [44, 45, 46, 47, 48, 49, 50] (i := 41) (v := .slice a0 n0 c0) rfl (by kernel_rfl) (by kernel_rfl) (by kernel_rfl) (fun _ _ _ h => h) (by kernel_rfl) (Or.inl ⟨by rfl, fun w' hS => by have q := hS.m.cells.1; go_simp⟩) G.out ?_
  try simp only [List.getElem_toArray, List.getElem_cons_succ, List.getElem_cons_zero, Act.put, List.setIfInBounds_toArray, List.set_cons_zero, List.set_cons_succ]
  refine anyT_take [44, 45, 46, 47, 48, 49, 50] (i := 43) (v := .slice a1 n1 c1) rfl (by kernel_rfl) (by kernel_rfl) (by kernel_rfl) (fun _ _ _ h => h) (by kernel_rfl) (Or.inl ⟨by rfl, fun w' hS => by have q := hS.m.cells.2; go_simp⟩) G.out ?_
  try simp only [List.getElem_toArray, List.getElem_cons_succ, List.getElem_cons_zero, Act.put, List.setIfInBounds_toArray, List.set_cons_zero, List.set_cons_succ]
  refine anyT_one (i := 36) (by kernel_rfl) rfl (fun K hK => ?_)
  rw [if_pos (by rfl)]
  try simp only [List.getElem_toArray, List.getElem_cons_succ, List.getElem_cons_zero]
  (go_simp; refine (HV1.out _ (HE.out.at G.out.m.below).env (H0.out.below G.out.m.below) (H1.out.below G.out.m.below)).mono ?_; rintro e w_36 ⟨rfl, hb⟩; replace G := Lib.hid (G.out.call hb); clear hb)
  refine hK _ _ (fun _ => G.out) ?_
  clear hK K
  try simp only [List.getElem_toArray, List.getElem_cons_succ, List.getElem_cons_zero, Act.put, List.setIfInBounds_toArray, List.set_cons_zero, List.set_cons_succ]
  refine anyT_one (i := 37) (by kernel_rfl) rfl (fun K hK => ?_)
  rw [if_pos (by rfl)]
  try simp only [List.getElem_toArray, List.getElem_cons_succ, List.getElem_cons_zero]
  (go_simp; refine (num_any vr _ (HE.out.at G.out.m.below).err).mono ?_; rintro e w_37 ⟨rfl, hb⟩; replace G := Lib.hid (G.out.call hb); clear hb)
  refine hK _ _ (fun _ => G.out) ?_
  clear hK K
  try simp only [List.getElem_toArray, List.getElem_cons_succ, List.getElem_cons_zero, Act.put, List.setIfInBounds_toArray, List.set_cons_zero, List.set_cons_succ]
  refine anyT_one (i := 44) (by kernel_rfl) rfl (fun K hK => ?_)
  rw [if_pos (by rfl)]
  try simp only [List.getElem_toArray, List.getElem_cons_succ, List.getElem_cons_zero]
  (go_simp; refine (HV2.out _ (H0.out.below G.out.m.below) (H1.out.below G.out.m.below)).mono ?_; rintro e w_44 ⟨rfl, hb⟩; replace G := Lib.hid (G.out.call hb); clear hb)
  refine hK _ _ (fun _ => G.out) ?_
  clear hK K
  try simp only [List.getElem_toArray, List.getElem_cons_succ, List.getElem_cons_zero, Act.put, List.setIfInBounds_toArray, List.set_cons_zero, List.set_cons_succ]
  refine anyT_takeY (i := 45) (v := .bool true) rfl (by kernel_rfl) (by kernel_rfl) (by kernel_rfl) (fun _ _ _ h => h) (by kernel_rfl) (Or.inl ⟨by rfl, by intro w; go_simp⟩) ?_
  try simp only [List.getElem_toArray, List.getElem_cons_succ, List.getElem_cons_zero, Act.put, List.setIfInBounds_toArray, List.set_cons_zero, List.set_cons_succ]
  refine anyT_takeY (i := 46) (v := .bool true) rfl (by kernel_rfl) (by kernel_rfl) (by kernel_rfl) (fun _ _ _ h => h) (by kernel_rfl) (Or.inl ⟨by rfl, by intro w; go_simp⟩) ?_
  try simp only [List.getElem_toArray, List.getElem_cons_succ, List.getElem_cons_zero, Act.put, List.setIfInBounds_toArray, List.set_cons_zero, List.set_cons_succ]
  refine anyT_takeY (i := 47) (v := .bool true) rfl (by kernel_rfl) (by kernel_rfl) (by kernel_rfl) (fun _ _ _ h => h) (by kernel_rfl) (Or.inl ⟨by rfl, by intro w; go_simp⟩) ?_
  try simp only [List.getElem_toArray, List.getElem_cons_succ, List.getElem_cons_zero, Act.put, List.setIfInBounds_toArray, List.set_cons_zero, List.set_cons_succ]
  refine anyT_one (i := 48) (by kernel_rfl) rfl (fun K hK => ?_)
  rw [if_pos (by rfl)]
  try simp only [List.getElem_toArray, List.getElem_cons_succ, List.getElem_cons_zero]
  (go_simp; refine (ksure_any _ (HE.out.at G.out.m.below)).mono ?_; rintro e w_48 ⟨rfl, hb⟩; replace G := Lib.hid (G.out.call hb); clear hb)
  refine hK _ _ (fun _ => G.out) ?_
  clear hK K
  try simp only [List.getElem_toArray, List.getElem_cons_succ, List.getElem_cons_zero, Act.put, List.setIfInBounds_toArray, List.set_cons_zero, List.set_cons_succ]
  refine anyT_takeY (i := 49) (v := .bool true) rfl (by kernel_rfl) (by kernel_rfl) (by kernel_rfl) (fun _ _ _ h => h) (by kernel_rfl) (Or.inl ⟨by rfl, by intro w; go_simp⟩) ?_
  try simp only [List.getElem_toArray, List.getElem_cons_succ, List.getElem_cons_zero, Act.put, List.setIfInBounds_toArray, List.set_cons_zero, List.set_cons_succ]
  refine anyT_takeY (i := 50) (v := .bool true) rfl (by kernel_rfl) (by kernel_rfl) (by kernel_rfl) (fun _ _ _ h => h) (by kernel_rfl) (Or.inl ⟨by rfl, by intro w; go_simp⟩) ?_
  try simp only [List.getElem_toArray, List.getElem_cons_succ, List.getElem_cons_zero, Act.put, List.setIfInBounds_toArray, List.set_cons_zero, List.set_cons_succ]
  refine anyT_done (by kernel_rfl) ?_ _
  go_wp2_with (fail)
  go_ret
  exact ⟨rfl, G.out.m.below⟩
end Go.Proofs.YtilpohdidekenaaGreatDoor
namespace Go.Proofs.YtilpohdidekenaaGreatDoor
set_option linter.unusedVariables false
set_option linter.unusedSimpArgs false
open Go.ChangeShapes Go.WideShapes Go.ChangeAt Go.RowKit
set_option maxRecDepth 100000
theorem par_arg {H : Type} {enc : TypeId × Value → H} {W : World} {cs : Array Value} {d : DataW H} {p : List MemPlace} (h : DataW.Trod enc Tryz.prog W 0 (fun _ => true) true 25 (.agg cs) d p) : ∃ D E, cs = parC D E := by
  obtain ⟨fuel, hf⟩ := h
  have hf' : DataW.trod enc Tryz.prog W 0 (fun _ => true) true fuel 25 cs.toList = some (d, p) := by simpa [Value.cells] using hf
  obtain ⟨xs, m, _, hx, hlen, hxl, hff⟩ := DataW.trod_struct Tryz.underlying25 hf'
  rw [show Tryz.prog.cellsOf 25 = 2 by kernel_rfl] at hlen
  simp only [List.size_toArray, List.length_cons, List.length_nil] at hxl
  have g : ∀ i, i < 2 → ∃ y, xs[i]? = some y := fun i hi => ⟨xs[i], List.getElem?_eq_getElem (by omega)⟩
  obtain ⟨y0, e0⟩ := g 0 (by omega)
  obtain ⟨y1, e1⟩ := g 1 (by omega)
  have f0 : DataW.trod enc Tryz.prog W 0 (fun _ => true) true m 3 ((cs.toList.drop 0).take (Tryz.prog.cellsOf 3)) = xs[0]? := hff 0 _ rfl
  have f1 : DataW.trod enc Tryz.prog W 0 (fun _ => true) true m 3 ((cs.toList.drop 1).take (Tryz.prog.cellsOf 3)) = xs[1]? := hff 1 _ rfl
  rw [e0, show Tryz.prog.cellsOf 3 = 1 by kernel_rfl] at f0
  rw [e1, show Tryz.prog.cellsOf 3 = 1 by kernel_rfl] at f1
  obtain ⟨D, hD, _, _⟩ := DataW.trod_int Tryz.underlying3 f0
  obtain ⟨E, hE, _, _⟩ := DataW.trod_int Tryz.underlying3 f1
  refine ⟨D, E, ?_⟩
  apply Array.toList_inj.1
  apply List.ext_getElem?
  intro i
  match i with
  | 0 => rw [one_take hD]; rfl
  | 1 => rw [one_take hE]; rfl
  | n + 2 => rw [List.getElem?_eq_none (by omega), List.getElem?_eq_none (by show 2 ≤ n + 2; omega)]
theorem bytes2_arg {H : Type} {enc : TypeId × Value → H} {W : World} {cs : Array Value} {d : DataW H} {p : List MemPlace} (h : DataW.Trod enc Tryz.prog W 0 (fun _ => true) true 27 (.agg cs) d p) :
    ∃ (a0 a1 : Option Addr) (n0 n1 c0 c1 : Nat) (x0 x1 : List Int), cs = #[.slice a0 n0 c0, .slice a1 n1 c1] ∧ BytesIn W (.slice a0 n0 c0) x0 ∧ BytesIn W (.slice a1 n1 c1) x1 ∧ bytesOk x1 ∧
      (∀ ts ds : List _, ∀ j : Nat, ts[j]? = some 27 → ds[j]? = some d → (DataW.weightsEach Tryz.prog ts ds).all (· ≤ reachBytes) = true → x0.length ≤ 140737488351232 ∧ x1.length ≤ 140737488351232) := by
  obtain ⟨fuel, hf⟩ := h
  have hf' : DataW.trod enc Tryz.prog W 0 (fun _ => true) true fuel 27 cs.toList = some (d, p) := by simpa [Value.cells] using hf
  obtain ⟨xs, m, _, hx, hlen, hxl, hff⟩ := DataW.trod_array Tryz.underlying27 hf'
  rw [show Tryz.prog.cellsOf 27 = 2 by kernel_rfl] at hlen
  have g : ∀ i, i < 2 → ∃ y, xs[i]? = some y := fun i hi => ⟨xs[i], List.getElem?_eq_getElem (by omega)⟩
  obtain ⟨y0, e0⟩ := g 0 (by omega)
  obtain ⟨y1, e1⟩ := g 1 (by omega)
  have f0 : DataW.trod enc Tryz.prog W 0 (fun _ => true) true m 26 ((cs.toList.drop (0 * Tryz.prog.cellsOf 26)).take (Tryz.prog.cellsOf 26)) = xs[0]? := hff 0 (by omega)
  have f1 : DataW.trod enc Tryz.prog W 0 (fun _ => true) true m 26 ((cs.toList.drop (1 * Tryz.prog.cellsOf 26)).take (Tryz.prog.cellsOf 26)) = xs[1]? := hff 1 (by omega)
  rw [e0, show Tryz.prog.cellsOf 26 = 1 by kernel_rfl, Nat.zero_mul] at f0
  rw [e1, show Tryz.prog.cellsOf 26 = 1 by kernel_rfl, Nat.one_mul] at f1
  obtain ⟨b0, s0, hb0, hin0, hok0, ⟨a0, c0, hv0⟩, _, hd0⟩ := bytes_raw f0
  obtain ⟨b1, s1, hb1, hin1, hok1, ⟨a1, c1, hv1⟩, _, hd1⟩ := bytes_raw f1
  subst hv0 hv1
  simp only [Prod.mk.injEq] at hx
  have far : ∀ (i : Nat) (y : DataW H × List MemPlace) (elems spare : List (DataW H)), xs[i]? = some y → y.1 = .slice elems spare → ∀ ts ds : List _, ∀ j : Nat, ts[j]? = some 27 → ds[j]? = some d → (DataW.weightsEach Tryz.prog ts ds).all (· ≤ reachBytes) = true → elems.length + spare.length ≤ 140737488351232 := by
    intro i y elems spare hy he ts ds j htj hdj hw
    have h4 : (elems.length + spare.length) * Tryz.prog.bytesOf 5 ∈ y.1.weights Tryz.prog 26 := by
      rw [he]; simp [DataW.weights, Tryz.underlying26]
    have h5 : (elems.length + spare.length) * Tryz.prog.bytesOf 5 ∈ DataW.weightsAll Tryz.prog 26 (xs.map (·.1)) :=
      weights_all_mem (List.mem_map.2 ⟨y, List.mem_of_getElem? hy, rfl⟩) _ h4
    have h6 : (elems.length + spare.length) * Tryz.prog.bytesOf 5 ∈ DataW.weightsEach Tryz.prog ts ds :=
      DataW.weights_mem_each htj hdj _ (by rw [hx.1]; simpa [DataW.weights, Tryz.underlying27] using h5)
    have h7 := of_decide_eq_true (List.all_eq_true.1 hw _ h6)
    rw [bytesOfU8, Nat.mul_one, show reachBytes = 140737488351232 from rfl] at h7
    exact h7
  refine ⟨a0, a1, s0.length, s1.length, c0, c1, s0, s1, ?_, hin0, hin1, hok1, fun ts ds j htj hdj hw => ?_⟩
  · apply Array.toList_inj.1
    apply List.ext_getElem?
    intro i
    match i with
    | 0 => rw [one_take hb0]; rfl
    | 1 => rw [one_take hb1]; rfl
    | n + 2 => rw [List.getElem?_eq_none (by omega), List.getElem?_eq_none (by show 2 ≤ n + 2; omega)]
  · constructor
    · rcases hd0 with ⟨_, rfl⟩ | ⟨elems, spare, he, hel⟩
      · simp
      · have := far 0 y0 elems spare e0 he ts ds j htj hdj hw
        omega
    · rcases hd1 with ⟨_, rfl⟩ | ⟨elems, spare, he, hel⟩
      · simp
      · have := far 1 y1 elems spare e1 he ts ds j htj hdj hw
        omega
end Go.Proofs.YtilpohdidekenaaGreatDoor
