/- Part 46 of the proof. -/
import Derived.Test.YtejglhlodfhgkaaGreatDoorXb1
import Derived.Test.YtejglhlodfhgkaaGreatDoorXb31
import Derived.Test.YtejglhlodfhgkaaGreatDoorXb45
namespace Go.Proofs.YtejglhlodfhgkaaGreatDoor
set_option linter.unusedVariables false
set_option linter.unusedSimpArgs false
open Go.RowKit
set_option maxRecDepth 100000
set_option linter.unusedSimpArgs false
set_option linter.unusedVariables false
/-- what lies in memory behind the law's first two lines -/
structure TbX (q : Nat) (CX : Array Value) (x : Tr) (v1 v2 : Value) (L : List Int) (w : World) : Prop where
  r : w.heap[q]? = some (.cells CX 27 (0, 0))
  x : TrE w x
  b1 : BytesIn w v1 L
  b2 : BytesIn w v2 L
theorem kept_tbx (q : Nat) (CX : Array Value) (x : Tr) (v1 v2 : Value) (L : List Int) : Kept (TbX q CX x v1 v2 L) := fun _ _ m hb => ⟨kept_blk _ _ _ _ m.r hb, m.x.below hb, m.b1.below hb, m.b2.below hb⟩
set_option maxHeartbeats 16000000 in
theorem lxbytes_any (c : ByteArray) (x : Tr) (w : World) (B : Nat) (h : ShTab w) (hg : ErrType w) (hx : TrBk w B x) (hB : B ≤ 1048576) (hc : c.size ≤ 1048576) :
    Calls Tryz.prog 3 #[.string c, .agg (trC15 x)] w fun e w' => e = .returned (.bool true) ∧ Below w.heap.size w w' := by
  obtain ⟨p, hp⟩ : ∃ p, p = pxP x := ⟨_, rfl⟩
  have hl0 := hx.len hB
  have hpl : (px1 p).length ≤ 70368744177664 := by rw [hp, ← tr1_P]; omega
  have hpa : p.acc.size ≤ 1048576 ∧ p.den.size ≤ 1048576 := by rw [hp]; exact ⟨Nat.le_trans hx.na hB, Nat.le_trans hx.nd hB⟩
  have hpg : p.sg.length ≤ 1048576 := by rw [hp]; exact Nat.le_trans hx.ns hB
  have hpB : (pxB p).length + 600 ≤ 140737488355328 := by
    have := varint_le (show p.sg.length < 18446744073709551616 by omega)
    unfold pxB by1
    simp only [List.length_append]
    omega
  have hpS : (pxS c p).length + 600 ≤ 140737488355328 := by
    have e1 := st1_len c
    have e2 := varint_le (show c.size < 18446744073709551616 by omega)
    have e0 : ({ data := #[116, 120] } : ByteArray).size = 2 := rfl
    have e3 := st1_len { data := #[116, 120] }
    rw [e0] at e3
    have e4 := varint_le (show (2 : Nat) < 18446744073709551616 by omega)
    unfold pxS
    simp only [List.length_append]
    omega
  have HG := Lib.hid (fun w' (he : TrE w' x) => lxgive_any x w' he hx.f (hx.sm hB))
  have hac : ∀ y : Tr, pxP y = p → y.acc.size ≤ 9223372036854775807 ∧ y.den.size ≤ 140737488351232 := fun y h4 => by
    have h5 : y.acc = p.acc := congrArg Px.acc h4
    have h6 : y.den = p.den := congrArg Px.den h4
    rw [h5, h6]; omega
  have HEN := Lib.hid (show ∀ (y : Tr) (w' : World), ShTab w' → TrE w' y → TrFl y → pxP y = p → Calls Tryz.prog 10 #[.agg (trC15 y)] w' fun e w'' => ∃ vb, e = .returned (.tuple #[vb, errV (encE p)]) ∧ BytesIn w'' vb (encL p) ∧ Below w'.heap.size w' w'' from fun y w' h1 h2 h3 h4 => by
    have hh := tenc_any y w' h1 h2 h3 (hac y h4).1 (hac y h4).2 (by rw [trB_P, h4]; omega)
    rw [h4] at hh; exact hh)
  have HRE := Lib.hid (show ∀ (w' : World), TrE w' x → Calls Tryz.prog 12 #[.agg (trC15 x)] w' fun e w'' => ∃ vb, e = .returned (.tuple #[vb, .int .i64 (numE (encE p))]) ∧ BytesIn w'' vb (encL p) ∧ Below w'.heap.size w' w'' from fun w' h2 => by
    have hh := renc15_any x w' h2 hx.f (hac x hp.symm).1 (hac x hp.symm).2 (by rw [trB_P, ← hp]; exact hpB)
    rw [← hp] at hh; exact hh)
  have HCK := Lib.hid (show ∀ (y : Tr) (w' : World), ShTab w' → TrE w' y → pxP y = p → Calls Tryz.prog 14 #[.agg (trC15 y)] w' fun e w'' => e = .returned (errV (chkX p)) ∧ Below w'.heap.size w' w'' from fun y w' h1 h2 h4 => by
    have hh := tcheck_any y w' h1 h2 (hac y h4).1 (hac y h4).2
    rw [h4] at hh; exact hh)
  have HRC := Lib.hid (show ∀ (w' : World), TrE w' x → Calls Tryz.prog 15 #[.agg (trC15 x)] w' fun e w'' => e = .returned (.int .i64 (numE (chkX p))) ∧ Below w'.heap.size w' w'' from fun w' h2 => by
    have hh := rcheck15_any x w' h2 (hac x hp.symm).1 (hac x hp.symm).2
    rw [← hp] at hh; exact hh)
  have HBY := Lib.hid (show ∀ (y : Tr) (w' : World), TrE w' y → TrFl y → pxP y = p → Calls Tryz.prog 16 #[.string c, .agg (trC15 y)] w' fun e w'' => ∃ vb, e = .returned vb ∧ BytesIn w'' vb (pxS c p) ∧ Below w'.heap.size w' w'' from fun y w' h1 h2 h4 => by
    have hh := tbytes_any c y w' h1 h2 (by rw [trS_P, h4]; omega)
    rw [trS_P, h4] at hh; exact hh)
  have HRB := Lib.hid (show ∀ (w' : World), TrE w' x → Calls Tryz.prog 17 #[.string c, .agg (trC15 x)] w' fun e w'' => ∃ vb, e = .returned vb ∧ BytesIn w'' vb (pxS c p) ∧ Below w'.heap.size w' w'' from fun w' h1 => by
    have hh := rbytes15_any c x w' h1 hx.f (by rw [trS_P, ← hp]; omega)
    rw [trS_P, ← hp] at hh; exact hh)
  have HSU := Lib.hid (fun w h => lxsure_any w h)
  have HNM := Lib.hid (fun e w h => num_any e w h)
  obtain ⟨EE, hEE⟩ : ∃ z, z = encE p := ⟨_, rfl⟩
  obtain ⟨EL, hEL⟩ : ∃ z, z = encL p := ⟨_, rfl⟩
  obtain ⟨CK, hCK⟩ : ∃ z, z = chkX p := ⟨_, rfl⟩
  obtain ⟨LS, hLS⟩ : ∃ z, z = pxS c p := ⟨_, rfl⟩
  rw [← hEE, ← hEL] at HEN HRE
  rw [← hCK] at HCK HRC
  rw [← hLS] at HBY HRB
  have HNE := Lib.hid (fun w h => num_any EE w h)
  have HNC := Lib.hid (fun w h => num_any CK w h)
  obtain ⟨ne, hne⟩ : ∃ z, z = numE EE := ⟨_, rfl⟩
  obtain ⟨nc, hnc⟩ : ∃ z, z = numE CK := ⟨_, rfl⟩
  rw [← hne] at HRE HNE
  rw [← hnc] at HRC HNC
  obtain ⟨VE, hVE⟩ : ∃ z, z = errV EE := ⟨_, rfl⟩
  rw [← hVE] at HEN HNE
  obtain ⟨VC, hVC⟩ : ∃ z, z = errV CK := ⟨_, rfl⟩
  rw [← hVC] at HCK HNC
  obtain ⟨S1, hS1⟩ : ∃ z, z = strOfNums EL := ⟨_, rfl⟩
  obtain ⟨S2, hS2⟩ : ∃ z, z = strOfNums LS := ⟨_, rfl⟩
  have HS1 := Lib.hid hS1
  have HS2 := Lib.hid hS2
  have h11 : (S1.toList == S1.toList) = true := by simp
  have h22 : (S2.toList == S2.toList) = true := by simp
  have hee : (ne == ne) = true := by simp
  have hcc : (nc == nc) = true := by simp
  have HP := Lib.hid hp
  have HT := Lib.hid h
  have HTL := Lib.hid h.lt
  have HGE := Lib.hid hg
  obtain ⟨CX, hCX⟩ : ∃ z, z = trC15 x := ⟨_, rfl⟩
  have HCS := Lib.hid (show CX.size = 6 from by rw [hCX]; rfl)
  have HB0 := Lib.hid (below_alloc w (.cells CX 27))
  have HX := Lib.hid (hx.e.below HB0.out)
  have HR := Lib.hid (heap_alloc_new w (.cells CX 27))
  rw [← hCX] at HG HRE HRC HRB ⊢
  clear h hg hx hB hc hl0 hpl hpa hpg hpB hpS hac hEE hEL hCK hLS hne hnc hVE hVC hS1 hS2 hp hCX HNM
  unfold GvPost at HG
  go_enter Tryz.func3, Tryz.ntmps3
  go_upto_region 1 with (fail)
  obtain ⟨q, hq⟩ : ∃ q, q = w.heap.size := ⟨_, rfl⟩
  rw [← hq] at HR ⊢
  clear hq
  generalize w.alloc (.cells CX 27) = w1 at *
  go_upto_region 3 with (first
    | (refine wpList_load_rowT (by rfl) 27 (.tmp 3) rfl q 0 rfl CX _ (rowT_range HR.out) Tryz.underlying27 rfl (by rw [HCS.out]; kernel_rfl) ?_)
    | (go_at_call 11; (with_reducible refine (HG.out w1 HX.out).mono ?_); rintro e w2 ⟨y, rfl, hye, hyp, hyf, -, -, hb⟩; have HY := Lib.hid hye; have HYP := Lib.hid hyp; have HYF := Lib.hid hyf; replace HX := Lib.hid (HX.out.below hb); replace HR := Lib.hid ((hb.block q (bkT_lt HR.out)).trans HR.out); replace HB0 := Lib.hid (HB0.out.trans (hb.mono HB0.out.size)); clear hye hyp hyf hb)
    | (go_at_call 10; (with_reducible refine (HEN.out y w2 (HT.out.below HB0.out HTL.out) HY.out HYF.out (HYP.out.trans HP.out.symm)).mono ?_); rintro e w3 ⟨v1, rfl, hb1, hb⟩; have HV1 := Lib.hid hb1; replace HX := Lib.hid (HX.out.below hb); replace HR := Lib.hid ((hb.block q (bkT_lt HR.out)).trans HR.out); replace HB0 := Lib.hid (HB0.out.trans (hb.mono HB0.out.size)); clear hb hb1)
    | (go_at_call 12; (with_reducible refine (HRE.out w3 HX.out).mono ?_); rintro e w4 ⟨v2, rfl, hb2, hb⟩; have HV2 := Lib.hid hb2; replace HV1 := Lib.hid (HV1.out.below hb); replace HX := Lib.hid (HX.out.below hb); replace HR := Lib.hid ((hb.block q (bkT_lt HR.out)).trans HR.out); replace HB0 := Lib.hid (HB0.out.trans (hb.mono HB0.out.size)); clear hb hb2))
  have KX := Lib.hid (kept_tbx q CX x v1 v2 EL)
  have M := Lib.hid (show Kp w w4 (TbX q CX x v1 v2 EL) from ⟨HB0.out, ⟨HR.out, HX.out, HV1.out, HV2.out⟩, KX.out⟩)
  clear HB0 HR HX HV1 HV2 HY HYP HYF
  obtain ⟨X0, hX0⟩ : ∃ X, X = TbX q CX x v1 v2 EL := ⟨_, rfl⟩
  have HX0 := Lib.hid (show ∀ w, X0 w → TbX q CX x v1 v2 EL w from fun w h => by rw [hX0] at h; exact h)
  rw [← hX0] at M KX
  clear hX0
  obtain ⟨a1, n1, c1, rfl⟩ : ∃ a n c, v1 = .slice a n c := by obtain ⟨a, c, e, -⟩ := (HX0.out _ M.out.x).b1; exact ⟨a, _, c, e⟩
  obtain ⟨a2, n2, c2, rfl⟩ : ∃ a n c, v2 = .slice a n c := by obtain ⟨a, c, e, -⟩ := (HX0.out _ M.out.x).b2; exact ⟨a, _, c, e⟩
  refine wp_region_T (fun w' => Kp w w' X0) [0, 1, 2, 3, 4, 5, 6, 7, 8, 9, 10, 11, 12, 13, 14, 15, 16, 17, 18, 19, 20, 21, 22, 23, 24, 25, 26, 27, 28, 29, 30, 31, 32, 33, 34, 35] (by kernel_rfl) ?_
  replace M := Lib.hid (M.out.call (Below.refl _ _).drew)
  generalize w4.drew = d0 at *
  refine anyT_take [] (i := 0) (v := .agg CX) rfl (by kernel_rfl) (by kernel_rfl) (by kernel_rfl) (fun _ _ _ h => h) (by kernel_rfl) (rowT_yields (by rfl) 27 (.tmp 3) rfl q 0 rfl _ _ (fun _ h => rowT_range (HX0.out _ (h.x)).r) Tryz.underlying27 rfl (by rw [HCS.out]; kernel_rfl)) M.out ?_
  try simp only [List.getElem_toArray, List.getElem_cons_succ, List.getElem_cons_zero, Act.put, List.setIfInBounds_toArray, List.set_cons_zero, List.set_cons_succ]
  refine anyT_take [] (i := 4) (v := .agg CX) rfl (by kernel_rfl) (by kernel_rfl) (by kernel_rfl) (fun _ _ _ h => h) (by kernel_rfl) (rowT_yields (by rfl) 27 (.tmp 3) rfl q 0 rfl _ _ (fun _ h => rowT_range (HX0.out _ (h.x)).r) Tryz.underlying27 rfl (by rw [HCS.out]; kernel_rfl)) M.out ?_
  try simp only [List.getElem_toArray, List.getElem_cons_succ, List.getElem_cons_zero, Act.put, List.setIfInBounds_toArray, List.set_cons_zero, List.set_cons_succ]
  refine anyT_one (i := 1) (by kernel_rfl) rfl (fun K hK => ?_)
  rw [if_pos (by rfl)]
  try simp only [List.getElem_toArray, List.getElem_cons_succ, List.getElem_cons_zero]
  (go_simp; (with_reducible refine (HG.out _ (HX0.out _ (M.out.x)).x).mono ?_); rintro e x1 ⟨y, rfl, hye, hyp, hyf, -, -, hb⟩; have HY := Lib.hid hye; have HYP := Lib.hid hyp; have HYF := Lib.hid hyf; clear hye hyp hyf; replace M := Lib.hid (M.out.call hb); clear hb)
  refine hK _ _ (fun _ => M.out) ?_
  clear hK K
  try simp only [List.getElem_toArray, List.getElem_cons_succ, List.getElem_cons_zero, Act.put, List.setIfInBounds_toArray, List.set_cons_zero, List.set_cons_succ]
  refine anyT_one (i := 2) (by kernel_rfl) rfl (fun K hK => ?_)
  rw [if_pos (by rfl)]
  try simp only [List.getElem_toArray, List.getElem_cons_succ, List.getElem_cons_zero]
  (go_simp; (with_reducible refine (HCK.out y x1 (HT.out.below M.out.below HTL.out) HY.out (HYP.out.trans HP.out.symm)).mono ?_); rintro e x2 ⟨rfl, hb⟩; clear HY HYP HYF; replace M := Lib.hid (M.out.call hb); clear hb)
  refine hK _ _ (fun _ => M.out) ?_
  clear hK K
  try simp only [List.getElem_toArray, List.getElem_cons_succ, List.getElem_cons_zero, Act.put, List.setIfInBounds_toArray, List.set_cons_zero, List.set_cons_succ]
  refine anyT_one (i := 3) (by kernel_rfl) rfl (fun K hK => ?_)
  rw [if_pos (by rfl)]
  try simp only [List.getElem_toArray, List.getElem_cons_succ, List.getElem_cons_zero]
  (go_simp; (with_reducible refine (HNC.out _ (HGE.out.below M.out.below)).mono ?_); rintro e x3 ⟨rfl, hb⟩;  replace M := Lib.hid (M.out.call hb); clear hb)
  refine hK _ _ (fun _ => M.out) ?_
  clear hK K
  try simp only [List.getElem_toArray, List.getElem_cons_succ, List.getElem_cons_zero, Act.put, List.setIfInBounds_toArray, List.set_cons_zero, List.set_cons_succ]
  refine anyT_one (i := 5) (by kernel_rfl) rfl (fun K hK => ?_)
  rw [if_pos (by rfl)]
  try simp only [List.getElem_toArray, List.getElem_cons_succ, List.getElem_cons_zero]
  (go_simp; (with_reducible refine (HRC.out _ (HX0.out _ (M.out.x)).x).mono ?_); rintro e x4 ⟨rfl, hb⟩;  replace M := Lib.hid (M.out.call hb); clear hb)
  refine hK _ _ (fun _ => M.out) ?_
  clear hK K
  try simp only [List.getElem_toArray, List.getElem_cons_succ, List.getElem_cons_zero, Act.put, List.setIfInBounds_toArray, List.set_cons_zero, List.set_cons_succ]
  refine anyT_take [] (i := 6) (v := .bool true) rfl (by kernel_rfl) (by kernel_rfl) (by kernel_rfl) (fun _ _ _ h => h) (by kernel_rfl) (Or.inl ⟨by rfl, fun w' _ => by go_simp⟩) M.out ?_
  try simp only [List.getElem_toArray, List.getElem_cons_succ, List.getElem_cons_zero, Act.put, List.setIfInBounds_toArray, List.set_cons_zero, List.set_cons_succ]
  refine anyT_take [] (i := 7) (v := .bool true) rfl (by kernel_rfl) (by kernel_rfl) (by kernel_rfl) (fun _ _ _ h => h) (by kernel_rfl) (Or.inl ⟨by rfl, fun w' _ => by go_simp⟩) M.out ?_
  try simp only [List.getElem_toArray, List.getElem_cons_succ, List.getElem_cons_zero, Act.put, List.setIfInBounds_toArray, List.set_cons_zero, List.set_cons_succ]
  refine anyT_take [] (i := 8) (v := .slice a1 n1 c1) rfl (by kernel_rfl) (by kernel_rfl) (by kernel_rfl) (fun _ _ _ h => h) (by kernel_rfl) (Or.inl ⟨by rfl, fun w' _ => by go_simp⟩) M.out ?_
  try simp only [List.getElem_toArray, List.getElem_cons_succ, List.getElem_cons_zero, Act.put, List.setIfInBounds_toArray, List.set_cons_zero, List.set_cons_succ]
  refine anyT_take [] (i := 9) (v := .string S1) rfl (by kernel_rfl) (by kernel_rfl) (by kernel_rfl) (fun _ _ _ h => h) (by kernel_rfl) (Or.inl ⟨by rfl, fun w' hS => by have c := conv_bytes w' _ _ (HX0.out _ (hS.x)).b1; rw [← HS1.out] at c; go_simp⟩) M.out ?_
  try simp only [List.getElem_toArray, List.getElem_cons_succ, List.getElem_cons_zero, Act.put, List.setIfInBounds_toArray, List.set_cons_zero, List.set_cons_succ]
  refine anyT_take [] (i := 10) (v := .slice a2 n2 c2) rfl (by kernel_rfl) (by kernel_rfl) (by kernel_rfl) (fun _ _ _ h => h) (by kernel_rfl) (Or.inl ⟨by rfl, fun w' _ => by go_simp⟩) M.out ?_
  try simp only [List.getElem_toArray, List.getElem_cons_succ, List.getElem_cons_zero, Act.put, List.setIfInBounds_toArray, List.set_cons_zero, List.set_cons_succ]
  refine anyT_take [] (i := 11) (v := .string S1) rfl (by kernel_rfl) (by kernel_rfl) (by kernel_rfl) (fun _ _ _ h => h) (by kernel_rfl) (Or.inl ⟨by rfl, fun w' hS => by have c := conv_bytes w' _ _ (HX0.out _ (hS.x)).b2; rw [← HS1.out] at c; go_simp⟩) M.out ?_
  try simp only [List.getElem_toArray, List.getElem_cons_succ, List.getElem_cons_zero, Act.put, List.setIfInBounds_toArray, List.set_cons_zero, List.set_cons_succ]
  refine anyT_take [] (i := 12) (v := .bool true) rfl (by kernel_rfl) (by kernel_rfl) (by kernel_rfl) (fun _ _ _ h => h) (by kernel_rfl) (Or.inl ⟨by rfl, fun w' _ => by go_simp⟩) M.out ?_
  try simp only [List.getElem_toArray, List.getElem_cons_succ, List.getElem_cons_zero, Act.put, List.setIfInBounds_toArray, List.set_cons_zero, List.set_cons_succ]
  refine anyT_take [] (i := 13) (v := .bool true) rfl (by kernel_rfl) (by kernel_rfl) (by kernel_rfl) (fun _ _ _ h => h) (by kernel_rfl) (Or.inl ⟨by rfl, fun w' _ => by go_simp⟩) M.out ?_
  try simp only [List.getElem_toArray, List.getElem_cons_succ, List.getElem_cons_zero, Act.put, List.setIfInBounds_toArray, List.set_cons_zero, List.set_cons_succ]
  refine anyT_take [] (i := 14) (v := .bool true) rfl (by kernel_rfl) (by kernel_rfl) (by kernel_rfl) (fun _ _ _ h => h) (by kernel_rfl) (Or.inl ⟨by rfl, fun w' _ => by go_simp⟩) M.out ?_
  try simp only [List.getElem_toArray, List.getElem_cons_succ, List.getElem_cons_zero, Act.put, List.setIfInBounds_toArray, List.set_cons_zero, List.set_cons_succ]
  refine anyT_take [] (i := 15) (v := VE) rfl (by kernel_rfl) (by kernel_rfl) (by kernel_rfl) (fun _ _ _ h => h) (by kernel_rfl) (Or.inl ⟨by rfl, fun w' _ => by go_simp⟩) M.out ?_
  try simp only [List.getElem_toArray, List.getElem_cons_succ, List.getElem_cons_zero, Act.put, List.setIfInBounds_toArray, List.set_cons_zero, List.set_cons_succ]
  refine anyT_take [] (i := 17) (v := .int .i64 ne) rfl (by kernel_rfl) (by kernel_rfl) (by kernel_rfl) (fun _ _ _ h => h) (by kernel_rfl) (Or.inl ⟨by rfl, fun w' _ => by go_simp⟩) M.out ?_
  try simp only [List.getElem_toArray, List.getElem_cons_succ, List.getElem_cons_zero, Act.put, List.setIfInBounds_toArray, List.set_cons_zero, List.set_cons_succ]
  refine anyT_one (i := 16) (by kernel_rfl) rfl (fun K hK => ?_)
  rw [if_pos (by rfl)]
  try simp only [List.getElem_toArray, List.getElem_cons_succ, List.getElem_cons_zero]
  (go_simp; (with_reducible refine (HNE.out _ (HGE.out.below M.out.below)).mono ?_); rintro e x5 ⟨rfl, hb⟩;  replace M := Lib.hid (M.out.call hb); clear hb)
  refine hK _ _ (fun _ => M.out) ?_
  clear hK K
  try simp only [List.getElem_toArray, List.getElem_cons_succ, List.getElem_cons_zero, Act.put, List.setIfInBounds_toArray, List.set_cons_zero, List.set_cons_succ]
  refine anyT_take [] (i := 18) (v := .bool true) rfl (by kernel_rfl) (by kernel_rfl) (by kernel_rfl) (fun _ _ _ h => h) (by kernel_rfl) (Or.inl ⟨by rfl, fun w' _ => by go_simp⟩) M.out ?_
  try simp only [List.getElem_toArray, List.getElem_cons_succ, List.getElem_cons_zero, Act.put, List.setIfInBounds_toArray, List.set_cons_zero, List.set_cons_succ]
  refine anyT_take [] (i := 19) (v := .bool true) rfl (by kernel_rfl) (by kernel_rfl) (by kernel_rfl) (fun _ _ _ h => h) (by kernel_rfl) (Or.inl ⟨by rfl, fun w' _ => by go_simp⟩) M.out ?_
  try simp only [List.getElem_toArray, List.getElem_cons_succ, List.getElem_cons_zero, Act.put, List.setIfInBounds_toArray, List.set_cons_zero, List.set_cons_succ]
  refine anyT_take [] (i := 20) (v := .bool true) rfl (by kernel_rfl) (by kernel_rfl) (by kernel_rfl) (fun _ _ _ h => h) (by kernel_rfl) (Or.inl ⟨by rfl, fun w' _ => by go_simp⟩) M.out ?_
  try simp only [List.getElem_toArray, List.getElem_cons_succ, List.getElem_cons_zero, Act.put, List.setIfInBounds_toArray, List.set_cons_zero, List.set_cons_succ]
  refine anyT_take [] (i := 21) (v := .string c) rfl (by kernel_rfl) (by kernel_rfl) (by kernel_rfl) (fun _ _ _ h => h) (by kernel_rfl) (Or.inl ⟨by rfl, fun w' _ => by go_simp⟩) M.out ?_
  try simp only [List.getElem_toArray, List.getElem_cons_succ, List.getElem_cons_zero, Act.put, List.setIfInBounds_toArray, List.set_cons_zero, List.set_cons_succ]
  refine anyT_take [] (i := 22) (v := .agg CX) rfl (by kernel_rfl) (by kernel_rfl) (by kernel_rfl) (fun _ _ _ h => h) (by kernel_rfl) (rowT_yields (by rfl) 27 (.tmp 3) rfl q 0 rfl _ _ (fun _ h => rowT_range (HX0.out _ (h.x)).r) Tryz.underlying27 rfl (by rw [HCS.out]; kernel_rfl)) M.out ?_
  try simp only [List.getElem_toArray, List.getElem_cons_succ, List.getElem_cons_zero, Act.put, List.setIfInBounds_toArray, List.set_cons_zero, List.set_cons_succ]
  refine anyT_take [] (i := 26) (v := .string c) rfl (by kernel_rfl) (by kernel_rfl) (by kernel_rfl) (fun _ _ _ h => h) (by kernel_rfl) (Or.inl ⟨by rfl, fun w' _ => by go_simp⟩) M.out ?_
  try simp only [List.getElem_toArray, List.getElem_cons_succ, List.getElem_cons_zero, Act.put, List.setIfInBounds_toArray, List.set_cons_zero, List.set_cons_succ]
  refine anyT_take [] (i := 27) (v := .agg CX) rfl (by kernel_rfl) (by kernel_rfl) (by kernel_rfl) (fun _ _ _ h => h) (by kernel_rfl) (rowT_yields (by rfl) 27 (.tmp 3) rfl q 0 rfl _ _ (fun _ h => rowT_range (HX0.out _ (h.x)).r) Tryz.underlying27 rfl (by rw [HCS.out]; kernel_rfl)) M.out ?_
  try simp only [List.getElem_toArray, List.getElem_cons_succ, List.getElem_cons_zero, Act.put, List.setIfInBounds_toArray, List.set_cons_zero, List.set_cons_succ]
  refine anyT_one (i := 23) (by kernel_rfl) rfl (fun K hK => ?_)
  rw [if_pos (by rfl)]
  try simp only [List.getElem_toArray, List.getElem_cons_succ, List.getElem_cons_zero]
  (go_simp; (with_reducible refine (HG.out _ (HX0.out _ (M.out.x)).x).mono ?_); rintro e x6 ⟨y, rfl, hye, hyp, hyf, -, -, hb⟩; have HY := Lib.hid hye; have HYP := Lib.hid hyp; have HYF := Lib.hid hyf; clear hye hyp hyf; replace M := Lib.hid (M.out.call hb); clear hb)
  refine hK _ _ (fun _ => M.out) ?_
  clear hK K
  try simp only [List.getElem_toArray, List.getElem_cons_succ, List.getElem_cons_zero, Act.put, List.setIfInBounds_toArray, List.set_cons_zero, List.set_cons_succ]
  refine anyT_one (i := 24) (by kernel_rfl) rfl (fun K hK => ?_)
  rw [if_pos (by rfl)]
  try simp only [List.getElem_toArray, List.getElem_cons_succ, List.getElem_cons_zero]
  (go_simp; (with_reducible refine (HBY.out y x6 HY.out HYF.out (HYP.out.trans HP.out.symm)).mono ?_); rintro e x7 ⟨v3, rfl, hb3, hb⟩; have HB3 := Lib.hid hb3; clear hb3 HY HYP HYF; replace M := Lib.hid (M.out.call hb); clear hb)
  refine hK _ _ (fun _ => M.out) ?_
  clear hK K
  try simp only [List.getElem_toArray, List.getElem_cons_succ, List.getElem_cons_zero, Act.put, List.setIfInBounds_toArray, List.set_cons_zero, List.set_cons_succ]
  obtain ⟨a3, n3, c3, rfl⟩ : ∃ a n c, v3 = .slice a n c := by obtain ⟨a, c, e, -⟩ := HB3.out; exact ⟨a, _, c, e⟩
  replace M := Lib.hid (M.out.add HB3.out (kept_bytesL _ _))
  refine anyT_kpL (Y := fun w => BytesIn w (.slice a3 n3 c3) (LS)) KX.out ?_
  replace KX := Lib.hid (KX.out.and (kept_bytesL (.slice a3 n3 c3) (LS)))
  clear HB3
  refine anyT_take [] (i := 25) (v := .string S2) rfl (by kernel_rfl) (by kernel_rfl) (by kernel_rfl) (fun _ _ _ h => h) (by kernel_rfl) (Or.inl ⟨by rfl, fun w' hS => by have c := conv_bytes w' _ _ hS.x.2; rw [← HS2.out] at c; go_simp⟩) M.out ?_
  try simp only [List.getElem_toArray, List.getElem_cons_succ, List.getElem_cons_zero, Act.put, List.setIfInBounds_toArray, List.set_cons_zero, List.set_cons_succ]
  refine anyT_one (i := 28) (by kernel_rfl) rfl (fun K hK => ?_)
  rw [if_pos (by rfl)]
  try simp only [List.getElem_toArray, List.getElem_cons_succ, List.getElem_cons_zero]
  (go_simp; (with_reducible refine (HRB.out _ (HX0.out _ (M.out.x.1)).x).mono ?_); rintro e x8 ⟨v4, rfl, hb4, hb⟩; have HB4 := Lib.hid hb4; clear hb4; replace M := Lib.hid (M.out.call hb); clear hb)
  refine hK _ _ (fun _ => M.out) ?_
  clear hK K
  try simp only [List.getElem_toArray, List.getElem_cons_succ, List.getElem_cons_zero, Act.put, List.setIfInBounds_toArray, List.set_cons_zero, List.set_cons_succ]
  obtain ⟨a4, n4, c4, rfl⟩ : ∃ a n c, v4 = .slice a n c := by obtain ⟨a, c, e, -⟩ := HB4.out; exact ⟨a, _, c, e⟩
  replace M := Lib.hid (M.out.add HB4.out (kept_bytesL _ _))
  refine anyT_kpL (Y := fun w => BytesIn w (.slice a4 n4 c4) (LS)) KX.out ?_
  replace KX := Lib.hid (KX.out.and (kept_bytesL (.slice a4 n4 c4) (LS)))
  clear HB4
  refine anyT_take [] (i := 29) (v := .string S2) rfl (by kernel_rfl) (by kernel_rfl) (by kernel_rfl) (fun _ _ _ h => h) (by kernel_rfl) (Or.inl ⟨by rfl, fun w' hS => by have c := conv_bytes w' _ _ hS.x.2; rw [← HS2.out] at c; go_simp⟩) M.out ?_
  try simp only [List.getElem_toArray, List.getElem_cons_succ, List.getElem_cons_zero, Act.put, List.setIfInBounds_toArray, List.set_cons_zero, List.set_cons_succ]
  refine anyT_take [] (i := 30) (v := .bool true) rfl (by kernel_rfl) (by kernel_rfl) (by kernel_rfl) (fun _ _ _ h => h) (by kernel_rfl) (Or.inl ⟨by rfl, fun w' _ => by go_simp⟩) M.out ?_
  try simp only [List.getElem_toArray, List.getElem_cons_succ, List.getElem_cons_zero, Act.put, List.setIfInBounds_toArray, List.set_cons_zero, List.set_cons_succ]
  refine anyT_take [] (i := 31) (v := .bool true) rfl (by kernel_rfl) (by kernel_rfl) (by kernel_rfl) (fun _ _ _ h => h) (by kernel_rfl) (Or.inl ⟨by rfl, fun w' _ => by go_simp⟩) M.out ?_
  try simp only [List.getElem_toArray, List.getElem_cons_succ, List.getElem_cons_zero, Act.put, List.setIfInBounds_toArray, List.set_cons_zero, List.set_cons_succ]
  refine anyT_take [] (i := 32) (v := .bool true) rfl (by kernel_rfl) (by kernel_rfl) (by kernel_rfl) (fun _ _ _ h => h) (by kernel_rfl) (Or.inl ⟨by rfl, fun w' _ => by go_simp⟩) M.out ?_
  try simp only [List.getElem_toArray, List.getElem_cons_succ, List.getElem_cons_zero, Act.put, List.setIfInBounds_toArray, List.set_cons_zero, List.set_cons_succ]
  refine anyT_one (i := 33) (by kernel_rfl) rfl (fun K hK => ?_)
  rw [if_pos (by rfl)]
  try simp only [List.getElem_toArray, List.getElem_cons_succ, List.getElem_cons_zero]
  (go_simp; (with_reducible refine (HSU.out _ (HT.out.below M.out.below HTL.out)).mono ?_); rintro e x9 ⟨rfl, hb⟩;  replace M := Lib.hid (M.out.call hb); clear hb)
  refine hK _ _ (fun _ => M.out) ?_
  clear hK K
  try simp only [List.getElem_toArray, List.getElem_cons_succ, List.getElem_cons_zero, Act.put, List.setIfInBounds_toArray, List.set_cons_zero, List.set_cons_succ]
  refine anyT_take [] (i := 34) (v := .bool true) rfl (by kernel_rfl) (by kernel_rfl) (by kernel_rfl) (fun _ _ _ h => h) (by kernel_rfl) (Or.inl ⟨by rfl, fun w' _ => by go_simp⟩) M.out ?_
  try simp only [List.getElem_toArray, List.getElem_cons_succ, List.getElem_cons_zero, Act.put, List.setIfInBounds_toArray, List.set_cons_zero, List.set_cons_succ]
  refine anyT_take [] (i := 35) (v := .bool true) rfl (by kernel_rfl) (by kernel_rfl) (by kernel_rfl) (fun _ _ _ h => h) (by kernel_rfl) (Or.inl ⟨by rfl, fun w' _ => by go_simp⟩) M.out ?_
  try simp only [List.getElem_toArray, List.getElem_cons_succ, List.getElem_cons_zero, Act.put, List.setIfInBounds_toArray, List.set_cons_zero, List.set_cons_succ]
  refine anyT_done (by kernel_rfl) ?_ _
  go_wp2_with (fail)
  go_ret
  exact ⟨rfl, M.out.below⟩
end Go.Proofs.YtejglhlodfhgkaaGreatDoor
