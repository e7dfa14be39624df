/- Part 54 of the proof. -/
import Derived.Deep.DeepCutAuto
import Derived.Test.YtejglhlodfhgkaaGreatDoorXv1
import Derived.Test.YtejglhlodfhgkaaGreatDoorXv23
import Derived.Test.YtejglhlodfhgkaaGreatDoorXv31
import Derived.Test.YtejglhlodfhgkaaGreatDoorXv38
import Derived.Test.YtejglhlodfhgkaaGreatDoorXv39
import Derived.Test.YtejglhlodfhgkaaGreatDoorXv53
namespace Go.Proofs.YtejglhlodfhgkaaGreatDoor
set_option linter.unusedVariables false
set_option linter.unusedSimpArgs false
open Go.RowKit
set_option maxRecDepth 100000
set_option linter.unusedSimpArgs false
set_option linter.unusedVariables false
theorem rseed_any (s : ByteArray) (w : World) (hs : s.size + 200 ≤ 140737488355328) :
    Calls Tryz.prog 27 #[.string s] w fun e w' => e = .returned (.agg (rowOf .u8 32 (seedF s))) ∧ Below w.heap.size w w' := by
  have HS := Lib.hid hs
  clear hs
  have HB := Lib.hid (below_alloc w (.cells (rowOf .u8 32 (fun _ => 0)) 53))
  have HR := Lib.hid (RowAt.new w .u8 32 53 (fun _ => 0))
  go_enter Tryz.func27, Tryz.ntmps27
  go_upto_region 1 with (fail)
  rw [zeros32]
  generalize w.alloc (.cells (rowOf .u8 32 (fun _ => 0)) 53) = w1 at *
  go_wp2_with (first
    | (at_builtin; refine wpList_append_str rfl (.tmp 3) (.tmp 4) rfl rfl w1.heap.size _ 1 [.int .u8 5] rfl (owns_lit1 w1 5) s rfl (by have := HS.out; omega) (by simp) ?_; intro v2 w2 ho hg; replace HB := Lib.hid (HB.out.trans ((((Below.refl _ w1).alloc (Nat.le_refl _) _).grown hg (by simp) (fun k hk => by cases hk; exact Nat.le_refl _)).mono HB.out.size)); replace HR := Lib.hid (HR.out.below (((Below.refl _ w1).alloc (Nat.le_refl _) _).grown hg (by simp) (fun k hk => by cases hk; exact Nat.le_refl _)) HR.out.lt); have HX := Lib.hid (show BytesIn w2 v2 (5 :: numsOf s) from owns_in (by rw [List.length_cons, numsOf_length, Nat.add_comm]; exact ho) (by rw [List.length_cons, numsOf_length]; have := HS.out; unfold maxLen; omega)); clear ho hg)
    | (go_at_call 75; (with_reducible refine (rsum_any _ _ _ HX.out (by rw [List.length_cons, numsOf_length]; have := HS.out; omega)).mono ?_); rintro e w3 ⟨rfl, hb⟩; replace HR := Lib.hid (HR.out.below hb HR.out.lt); replace HB := Lib.hid (HB.out.trans (hb.mono HB.out.size)); clear hb)
    | (refine wpList_store_row rfl 53 (.tmp 2) (.tmp 6) rfl w.heap.size _ rfl rfl 53 _ HR.out (by rw [rowOf_size]; kernel_rfl) (by rw [rowOf_size, rowOf_size]) (rowOf_one _ _ _) ?_))
  refine bodyPost_ret (results_cell_row rfl _ _ w.heap.size 53 (rowOf .u8 32 (seedF s)) (0, 0) _ rfl (setRow_heap _ _ _ _ _ _ HR.out) Tryz.underlying53 rfl (by rw [rowOf_size]; kernel_rfl)) rfl ?_
  exact ⟨rfl, below_setRow HB.out (by omega) _⟩
/-- what lies in memory: the params, the transaction -/
structure VfX (w : World) (q : Nat) (D E : Int) (C : Array Value) (x : Tr) (wr : World) : Prop where
  p : wr.heap[q]? = some (.cells (parC D E) 57 (0, 0))
  r : wr.heap[q + 1]? = some (.cells C 27 (0, 0))
  x : TrE wr x
  b : Below w.heap.size w wr
  l : w.heap.size ≤ q
theorem VfX.call {w : World} {q : Nat} {D E : Int} {C : Array Value} {x : Tr} {wr wr' : World} (m : VfX w q D E C x wr) (h : Below wr.heap.size wr wr') : VfX w q D E C x wr' := ⟨(h.block q (bkT_lt m.p)).trans m.p, (h.block _ (bkT_lt m.r)).trans m.r, m.x.below h, m.b.trans (h.mono m.b.size), m.l⟩
theorem VfX.cell {w : World} {q : Nat} {D E : Int} {C : Array Value} {x : Tr} {wr : World} (m : VfX w q D E C x wr) : wr.cell? ⟨q, 1, none⟩ = some (.int .i64 E) := by rw [cell_of_row _ _ _ _ _ _ m.p]; rfl
theorem vfX_start (w : World) (D E : Int) (C : Array Value) (x : Tr) (hx : TrE w x) : VfX w w.heap.size D E C x ((w.alloc (.cells (parC D E) 57)).alloc (.cells C 27)) := by
  have b1 := below_alloc w (.cells (parC D E) 57)
  have b2 := below_alloc (w.alloc (.cells (parC D E) 57)) (.cells C 27)
  have h1 := heap_alloc_new w (.cells (parC D E) 57)
  have h2 := heap_alloc_new (w.alloc (.cells (parC D E) 57)) (.cells C 27)
  rw [size_alloc] at h2
  have hb := b1.trans (b2.mono b1.size)
  exact ⟨(b2.block _ (by simp only [size_alloc]; omega)).trans h1, h2, hx.below hb, hb, Nat.le_refl _⟩
/-- the depth is turned; what the given memory held stays, for it lies below -/
theorem VfX.cut {w : World} {q : Nat} {D E E' : Int} {C : Array Value} {x : Tr} {wr : World} (hx : TrE w x) (m : VfX w q D E C x wr) : VfX w q D E' C x (wr.setCell ⟨q, 1, none⟩ (.int .i64 E')) := by
  have hb := Below.setCell (p := ⟨q, 1, none⟩) m.b m.l (.int .i64 E')
  refine ⟨by rw [heap_setCell_same wr q 1 _ _ _ m.p]; rfl, ?_, hx.below hb, hb, m.l⟩
  rw [Below.heap_setCell _ _ _ _ (by show q + 1 ≠ q; omega)]
  exact m.r
structure VgX (w : World) (q : Nat) (D E : Int) (C : Array Value) (x : Tr) (g : Nat) (R : Nat → Int) (wr : World) : Prop where
  m : VfX w q D E C x wr
  k : wr.heap[g]? = some (.cells (rowOf .u8 32 R) 53 (0, 0))
theorem VgX.call {w : World} {q : Nat} {D E : Int} {C : Array Value} {x : Tr} {g : Nat} {R : Nat → Int} {wr wr' : World} (m : VgX w q D E C x g R wr) (h : Below wr.heap.size wr wr') : VgX w q D E C x g R wr' := ⟨m.m.call h, (h.block g (bkT_lt m.k)).trans m.k⟩
def vfCut (E : Int) : Int := if 2 < E ∧ E ≤ 10 then 1 else E

set_option maxHeartbeats 16000000 in
theorem lxverify_any (c : ByteArray) (D E : Int) (x : Tr) (w : World) (B : Nat) (hv : Env w) (h : ShTab w) (hg : ErrType w) (hx : TrBk w B x) (hB : B ≤ 1048576) (hc : c.size ≤ 1048576) :
    Calls Tryz.prog 5 #[.string c, .agg (parC D E), .agg (trC15 x)] w fun e w' => e = .returned (.bool true) ∧ Below w.heap.size w w' := by
  obtain ⟨p, hp⟩ : ∃ p, p = pxP x := ⟨_, rfl⟩
  have hl0 := hx.len hB
  have hpl : (px1 p).length ≤ 70368744177664 := by rw [hp, ← tr1_P]; omega
  have hpS : (pxS c p).length + 600 ≤ 140737488355328 := by
    have e1 := st1_len c
    have e2 := varint_le (show c.size < 18446744073709551616 by omega)
    have e0 : ({ data := #[116, 120] } : ByteArray).size = 2 := rfl
    have e3 := st1_len { data := #[116, 120] }
    rw [e0] at e3
    have e4 := varint_le (show (2 : Nat) < 18446744073709551616 by omega)
    unfold pxS
    simp only [List.length_append]
    omega
  have hpk : ∀ y : Tr, pxP y = p → y.acc.size ≤ 9223372036854775807 ∧ y.den.size ≤ 140737488351232 ∧ bytesOk y.sg ∧ y.sg.length ≤ 140737488351232 := fun y h4 => by
    rw [hp] at h4
    have h5 : y.acc = x.acc := congrArg Px.acc h4
    have h6 : y.den = x.den := congrArg Px.den h4
    have h7 : y.sg = x.sg := congrArg Px.sg h4
    have i1 := hx.na
    have i2 := hx.nd
    have i3 := hx.ns
    rw [h5, h6, h7]
    exact ⟨by omega, by omega, hx.so, by omega⟩
  have HG := Lib.hid (fun w' (he : TrE w' x) => lxgive_any x w' he hx.f (hx.sm hB))
  obtain ⟨E2, hE2⟩ : ∃ E2, E2 = vfCut E := ⟨_, rfl⟩
  obtain ⟨F, hF⟩ : ∃ F, F = seedF { data := #[97, 110, 110] } := ⟨_, rfl⟩
  have HSD := Lib.hid (show ∀ w, Calls Tryz.prog 27 #[.string { data := #[97, 110, 110] }] w fun e w' => e = .returned (.agg (rowOf .u8 32 F)) ∧ Below w.heap.size w w' from fun w => by rw [hF]; exact rseed_any _ w (by decide))
  obtain ⟨RK, e1, hrk⟩ : ∃ RK e1, kRootR F D E2 = (RK, e1) := ⟨_, _, rfl⟩
  obtain ⟨e0, he0⟩ : ∃ z, z = numE e1 := ⟨_, rfl⟩
  have HRT := Lib.hid (show ∀ w, Calls Tryz.prog 26 #[.agg (rowOf .u8 32 F), .agg (parC D E2)] w fun e w' => e = .returned (.tuple #[.agg (rowOf .u8 32 RK), .int .i64 e0]) ∧ Below w.heap.size w w' from fun w => by have := rkroot_any F D E2 w; rw [hrk, ← he0] at this; exact this)
  have HTV := Lib.hid (show ∀ (y : Tr) (w' : World), Env w' → ShTab w' → TrE w' y → TrFl y → pxP y = p → Calls Tryz.prog 28 #[.string c, .agg (rowOf .u8 32 RK), .agg (parC D E2), .agg (trC15 y)] w' fun e w'' => e = .returned (errV (verX c RK D E2 p)) ∧ Below w'.heap.size w' w'' from fun y w' h1 h2 h3 h4 h5 => by
    obtain ⟨i1, i2, i3, i4⟩ := hpk y h5
    have hh := tver_any c RK D E2 y w' h1 h2 h3 h4 i3 i1 i2 (by rw [trS_P, h5]; exact hpS) i4
    rw [h5] at hh; exact hh)
  have HRV := Lib.hid (show ∀ (w' : World), TrE w' x → Calls Tryz.prog 29 #[.string c, .agg (rowOf .u8 32 RK), .agg (parC D E2), .agg (trC15 x)] w' fun e w'' => e = .returned (.int .i64 (numE (verX c RK D E2 p))) ∧ Below w'.heap.size w' w'' from fun w' h3 => by
    obtain ⟨i1, i2, i3, i4⟩ := hpk x hp.symm
    have hh := rver15_any c RK D E2 x w' h3 hx.f i3 i1 i2 (by rw [trS_P, ← hp]; exact hpS) i4
    rw [← hp] at hh; exact hh)
  have HSU := Lib.hid (fun w h => lxsure_any w h)
  obtain ⟨VX, hVX⟩ : ∃ z, z = verX c RK D E2 p := ⟨_, rfl⟩
  rw [← hVX] at HTV HRV
  have HNV := Lib.hid (fun w h => num_any VX w h)
  obtain ⟨nv, hnv⟩ : ∃ z, z = numE VX := ⟨_, rfl⟩
  rw [← hnv] at HRV HNV
  obtain ⟨EV, hEV⟩ : ∃ z, z = errV VX := ⟨_, rfl⟩
  rw [← hEV] at HTV HNV
  have hcc : (nv == nv) = true := by simp
  have HP := Lib.hid hp
  have HEN := Lib.hid hv
  have HTB := Lib.hid h
  have HGE := Lib.hid hg
  have HXE := Lib.hid hx.e
  obtain ⟨CX, hCX⟩ : ∃ z, z = trC15 x := ⟨_, rfl⟩
  have HCS := Lib.hid (show CX.size = 6 from by rw [hCX]; rfl)
  have M := Lib.hid (vfX_start w D E CX x hx.e)
  rw [← hCX] at HG HRV ⊢
  clear h hg hx hB hc hl0 hpl hpS hpk hF hrk he0 hVX hnv hEV hp hCX hv
  unfold GvPost at HG
  go_enter Tryz.func5, Tryz.ntmps5
  go_upto_region 1 with (fail)
  obtain ⟨q, hq⟩ : ∃ q, q = w.heap.size := ⟨_, rfl⟩
  rw [← hq] at M ⊢
  clear hq
  generalize (w.alloc (.cells (parC D E) 57)).alloc (.cells CX 27) = w2 at *
  have c1 := M.out.cell
  by_cases h1 : (2 : Int) < E
  · by_cases h2 : E ≤ 10
    · have HE2 : 1 = E2 := by rw [hE2]; unfold vfCut; rw [if_pos ⟨h1, h2⟩]
      clear hE2
      replace HE2 := Lib.hid HE2
      have kf := frozen_of_row w2 q 1 _ _ M.out.p
      go_upto_region 3 with (fail)
      replace M := Lib.hid (show VfX w q D E2 CX x (w2.setCell ⟨q, 1, none⟩ (.int .i64 1)) from by rw [← HE2.out]; exact VfX.cut HXE.out M.out)
      clear c1 h1 h2 HE2 kf
      generalize w2.setCell ⟨q, 1, none⟩ (.int .i64 1) = w2 at *
      go_cut [7] (fun p7 wx => ∃ g7, p7 = .pointer (some ⟨g7, 0, none⟩) ∧ Hid (VgX w q D E2 CX x g7 RK wx))
      case first =>
        refine wp_region_T (fun w' => VfX w q D E2 CX x w') [0, 1, 2, 6] (by kernel_rfl) ?_
        replace M := Lib.hid (M.out.call (Below.refl _ _).drew)
        generalize w2.drew = w7 at *
        have M7 := M
        have HBW := Lib.hid (Below.refl w7.heap.size w7)
        refine anyT_take [2, 3, 4, 5, 7, 8] (i := 1) (v := .agg (parC D E2)) rfl (by kernel_rfl) (by kernel_rfl) (by kernel_rfl) (fun _ _ _ h => h) (by kernel_rfl) (rowT_yields (by rfl) 57 (.tmp 4) rfl q 0 rfl _ _ (fun _ h => rowT_range h.p) Tryz.underlying57 rfl (by rw [parC_size]; kernel_rfl)) M.out ?_
        try simp only [List.getElem_toArray, List.getElem_cons_succ, List.getElem_cons_zero, Act.put, List.setIfInBounds_toArray, List.set_cons_zero, List.set_cons_succ]
        refine anyT_ready (rs := [0, 6]) (by kernel_rfl) (by simp) ?_
        refine readyT_cons rfl (fun K hK => ?_) (readyT_cons rfl (fun K hK => ?_) readyT_nil)
        · rw [if_pos (by rfl)]
          try simp only [List.getElem_toArray, List.getElem_cons_succ, List.getElem_cons_zero]
          (go_simp; (with_reducible refine (HSD.out w7).mono ?_); rintro e w8 ⟨rfl, hb⟩; replace HBW := Lib.hid (HBW.out.trans (hb.mono HBW.out.size)); replace M := Lib.hid (M.out.call hb); clear hb)
          refine hK _ _ (fun _ => M.out) ?_
          clear hK K
          try simp only [List.getElem_toArray, List.getElem_cons_succ, List.getElem_cons_zero, Act.put, List.setIfInBounds_toArray, List.set_cons_zero, List.set_cons_succ]
          refine anyT_ready (rs := [2, 6]) (by kernel_rfl) (by simp) ?_
          refine readyT_cons rfl (fun K hK => ?_) (readyT_cons rfl (fun K hK => ?_) readyT_nil)
          · rw [if_pos (by rfl)]
            try simp only [List.getElem_toArray, List.getElem_cons_succ, List.getElem_cons_zero]
            (go_simp; (with_reducible refine (HRT.out w8).mono ?_); rintro e w9 ⟨rfl, hb⟩; replace HBW := Lib.hid (HBW.out.trans (hb.mono HBW.out.size)); replace M := Lib.hid (M.out.call hb); clear hb)
            refine hK _ _ (fun _ => M.out) ?_
            clear hK K
            try simp only [List.getElem_toArray, List.getElem_cons_succ, List.getElem_cons_zero, Act.put, List.setIfInBounds_toArray, List.set_cons_zero, List.set_cons_succ]
            refine anyT_takeY (i := 3) (v := .tuple #[.agg (rowOf .u8 32 RK), .int .i64 e0]) rfl (by kernel_rfl) (by kernel_rfl) (by kernel_rfl) (fun _ _ _ h => h) (by kernel_rfl) (Or.inl ⟨by rfl, by intro w; go_simp⟩) ?_
            try simp only [List.getElem_toArray, List.getElem_cons_succ, List.getElem_cons_zero, Act.put, List.setIfInBounds_toArray, List.set_cons_zero, List.set_cons_succ]
            refine anyT_takeY (i := 4) (v := .agg (rowOf .u8 32 RK)) rfl (by kernel_rfl) (by kernel_rfl) (by kernel_rfl) (fun _ _ _ h => h) (by kernel_rfl) (Or.inl ⟨by rfl, by intro w; go_simp⟩) ?_
            try simp only [List.getElem_toArray, List.getElem_cons_succ, List.getElem_cons_zero, Act.put, List.setIfInBounds_toArray, List.set_cons_zero, List.set_cons_succ]
            refine anyT_takeY (i := 5) (v := .int .i64 e0) rfl (by kernel_rfl) (by kernel_rfl) (by kernel_rfl) (fun _ _ _ h => h) (by kernel_rfl) (Or.inl ⟨by rfl, by intro w; go_simp⟩) ?_
            try simp only [List.getElem_toArray, List.getElem_cons_succ, List.getElem_cons_zero, Act.put, List.setIfInBounds_toArray, List.set_cons_zero, List.set_cons_succ]
            refine anyT_one (i := 6) (by kernel_rfl) rfl (fun K hK => ?_)
            rw [if_pos (by rfl)]
            try simp only [List.getElem_toArray, List.getElem_cons_succ, List.getElem_cons_zero]
            (go_simp; have R9 := Lib.hid (RowAt.new w9 .u8 32 53 zF); have HS9 := Lib.hid HBW.out.size; replace HBW := Lib.hid (HBW.out.trans ((below_alloc w9 (.cells (rowOf .u8 32 zF) 53)).mono HBW.out.size)); replace M := Lib.hid (M.out.call (below_alloc w9 (.cells (rowOf .u8 32 zF) 53))))
            refine hK _ _ (fun _ => M.out) ?_
            clear hK K
            try simp only [List.getElem_toArray, List.getElem_cons_succ, List.getElem_cons_zero, Act.put, List.setIfInBounds_toArray, List.set_cons_zero, List.set_cons_succ]
            rw [zeros32']
            obtain ⟨g9, hg9⟩ : ∃ g9, g9 = w9.heap.size := ⟨_, rfl⟩
            have HG9 := Lib.hid (show w7.heap.size ≤ g9 by rw [hg9]; exact HS9.out)
            rw [← hg9] at R9 ⊢
            generalize w9.alloc (.cells (rowOf .u8 32 zF) 53) = w10 at *
            clear hg9
            refine anyT_one (i := 7) (by kernel_rfl) rfl (fun K hK => ?_)
            rw [if_pos (by rfl)]
            try simp only [List.getElem_toArray, List.getElem_cons_succ, List.getElem_cons_zero]
            (refine wp_store_row 53 (.tmp 7) (.tmp 22) rfl g9 (rowOf .u8 32 RK) rfl rfl 53 _ R9.out (by rw [rowOf_size]; kernel_rfl) (by rw [rowOf_size, rowOf_size]) (rowOf_one _ _ _) ?_)
            refine hK _ _ (not_mem rfl) ?_
            clear hK K
            try simp only [List.getElem_toArray, List.getElem_cons_succ, List.getElem_cons_zero, Act.put, List.setIfInBounds_toArray, List.set_cons_zero, List.set_cons_succ]
            refine anyT_takeY (i := 8) (v := .int .i64 e0) rfl (by kernel_rfl) (by kernel_rfl) (by kernel_rfl) (fun _ _ _ h => h) (by kernel_rfl) (Or.inl ⟨by rfl, by intro w; go_simp⟩) ?_
            try simp only [List.getElem_toArray, List.getElem_cons_succ, List.getElem_cons_zero, Act.put, List.setIfInBounds_toArray, List.set_cons_zero, List.set_cons_succ]
            refine anyT_done (by kernel_rfl) ?_ _
            go_wp2_with (fail)
            go_meet
            have MF := M7.out.call (below_setRow HBW.out HG9.out (rowOf .u8 32 RK))
            exact ⟨g9, rfl, Lib.hid ⟨MF, setRow_heap _ _ _ _ _ _ R9.out⟩⟩
          · rw [if_pos (by rfl)]
            try simp only [List.getElem_toArray, List.getElem_cons_succ, List.getElem_cons_zero]
            (go_simp; have R9 := Lib.hid (RowAt.new w8 .u8 32 53 zF); have HS9 := Lib.hid HBW.out.size; replace HBW := Lib.hid (HBW.out.trans ((below_alloc w8 (.cells (rowOf .u8 32 zF) 53)).mono HBW.out.size)); replace M := Lib.hid (M.out.call (below_alloc w8 (.cells (rowOf .u8 32 zF) 53))))
            refine hK _ _ (fun _ => M.out) ?_
            clear hK K
            try simp only [List.getElem_toArray, List.getElem_cons_succ, List.getElem_cons_zero, Act.put, List.setIfInBounds_toArray, List.set_cons_zero, List.set_cons_succ]
            rw [zeros32']
            obtain ⟨g9, hg9⟩ : ∃ g9, g9 = w8.heap.size := ⟨_, rfl⟩
            have HG9 := Lib.hid (show w7.heap.size ≤ g9 by rw [hg9]; exact HS9.out)
            rw [← hg9] at R9 ⊢
            generalize w8.alloc (.cells (rowOf .u8 32 zF) 53) = w9 at *
            clear hg9
            refine anyT_one (i := 2) (by kernel_rfl) rfl (fun K hK => ?_)
            rw [if_pos (by rfl)]
            try simp only [List.getElem_toArray, List.getElem_cons_succ, List.getElem_cons_zero]
            (go_simp; (with_reducible refine (HRT.out w9).mono ?_); rintro e w10 ⟨rfl, hb⟩; replace R9 := Lib.hid (R9.out.below hb R9.out.lt); replace HBW := Lib.hid (HBW.out.trans (hb.mono HBW.out.size)); replace M := Lib.hid (M.out.call hb); clear hb)
            refine hK _ _ (fun _ => M.out) ?_
            clear hK K
            try simp only [List.getElem_toArray, List.getElem_cons_succ, List.getElem_cons_zero, Act.put, List.setIfInBounds_toArray, List.set_cons_zero, List.set_cons_succ]
            refine anyT_takeY (i := 3) (v := .tuple #[.agg (rowOf .u8 32 RK), .int .i64 e0]) rfl (by kernel_rfl) (by kernel_rfl) (by kernel_rfl) (fun _ _ _ h => h) (by kernel_rfl) (Or.inl ⟨by rfl, by intro w; go_simp⟩) ?_
            try simp only [List.getElem_toArray, List.getElem_cons_succ, List.getElem_cons_zero, Act.put, List.setIfInBounds_toArray, List.set_cons_zero, List.set_cons_succ]
            refine anyT_takeY (i := 4) (v := .agg (rowOf .u8 32 RK)) rfl (by kernel_rfl) (by kernel_rfl) (by kernel_rfl) (fun _ _ _ h => h) (by kernel_rfl) (Or.inl ⟨by rfl, by intro w; go_simp⟩) ?_
            try simp only [List.getElem_toArray, List.getElem_cons_succ, List.getElem_cons_zero, Act.put, List.setIfInBounds_toArray, List.set_cons_zero, List.set_cons_succ]
            refine anyT_takeY (i := 5) (v := .int .i64 e0) rfl (by kernel_rfl) (by kernel_rfl) (by kernel_rfl) (fun _ _ _ h => h) (by kernel_rfl) (Or.inl ⟨by rfl, by intro w; go_simp⟩) ?_
            try simp only [List.getElem_toArray, List.getElem_cons_succ, List.getElem_cons_zero, Act.put, List.setIfInBounds_toArray, List.set_cons_zero, List.set_cons_succ]
            refine anyT_one (i := 7) (by kernel_rfl) rfl (fun K hK => ?_)
            rw [if_pos (by rfl)]
            try simp only [List.getElem_toArray, List.getElem_cons_succ, List.getElem_cons_zero]
            (refine wp_store_row 53 (.tmp 7) (.tmp 22) rfl g9 (rowOf .u8 32 RK) rfl rfl 53 _ R9.out (by rw [rowOf_size]; kernel_rfl) (by rw [rowOf_size, rowOf_size]) (rowOf_one _ _ _) ?_)
            refine hK _ _ (not_mem rfl) ?_
            clear hK K
            try simp only [List.getElem_toArray, List.getElem_cons_succ, List.getElem_cons_zero, Act.put, List.setIfInBounds_toArray, List.set_cons_zero, List.set_cons_succ]
            refine anyT_takeY (i := 8) (v := .int .i64 e0) rfl (by kernel_rfl) (by kernel_rfl) (by kernel_rfl) (fun _ _ _ h => h) (by kernel_rfl) (Or.inl ⟨by rfl, by intro w; go_simp⟩) ?_
            try simp only [List.getElem_toArray, List.getElem_cons_succ, List.getElem_cons_zero, Act.put, List.setIfInBounds_toArray, List.set_cons_zero, List.set_cons_succ]
            refine anyT_done (by kernel_rfl) ?_ _
            go_wp2_with (fail)
            go_meet
            have MF := M7.out.call (below_setRow HBW.out HG9.out (rowOf .u8 32 RK))
            exact ⟨g9, rfl, Lib.hid ⟨MF, setRow_heap _ _ _ _ _ _ R9.out⟩⟩
        · rw [if_pos (by rfl)]
          try simp only [List.getElem_toArray, List.getElem_cons_succ, List.getElem_cons_zero]
          (go_simp; have R9 := Lib.hid (RowAt.new w7 .u8 32 53 zF); have HS9 := Lib.hid HBW.out.size; replace HBW := Lib.hid (HBW.out.trans ((below_alloc w7 (.cells (rowOf .u8 32 zF) 53)).mono HBW.out.size)); replace M := Lib.hid (M.out.call (below_alloc w7 (.cells (rowOf .u8 32 zF) 53))))
          refine hK _ _ (fun _ => M.out) ?_
          clear hK K
          try simp only [List.getElem_toArray, List.getElem_cons_succ, List.getElem_cons_zero, Act.put, List.setIfInBounds_toArray, List.set_cons_zero, List.set_cons_succ]
          rw [zeros32']
          obtain ⟨g9, hg9⟩ : ∃ g9, g9 = w7.heap.size := ⟨_, rfl⟩
          have HG9 := Lib.hid (show w7.heap.size ≤ g9 by rw [hg9]; exact HS9.out)
          rw [← hg9] at R9 ⊢
          generalize w7.alloc (.cells (rowOf .u8 32 zF) 53) = w8 at *
          clear hg9
          refine anyT_one (i := 0) (by kernel_rfl) rfl (fun K hK => ?_)
          rw [if_pos (by rfl)]
          try simp only [List.getElem_toArray, List.getElem_cons_succ, List.getElem_cons_zero]
          (go_simp; (with_reducible refine (HSD.out w8).mono ?_); rintro e w9 ⟨rfl, hb⟩; replace R9 := Lib.hid (R9.out.below hb R9.out.lt); replace HBW := Lib.hid (HBW.out.trans (hb.mono HBW.out.size)); replace M := Lib.hid (M.out.call hb); clear hb)
          refine hK _ _ (fun _ => M.out) ?_
          clear hK K
          try simp only [List.getElem_toArray, List.getElem_cons_succ, List.getElem_cons_zero, Act.put, List.setIfInBounds_toArray, List.set_cons_zero, List.set_cons_succ]
          refine anyT_one (i := 2) (by kernel_rfl) rfl (fun K hK => ?_)
          rw [if_pos (by rfl)]
          try simp only [List.getElem_toArray, List.getElem_cons_succ, List.getElem_cons_zero]
          (go_simp; (with_reducible refine (HRT.out w9).mono ?_); rintro e w10 ⟨rfl, hb⟩; replace R9 := Lib.hid (R9.out.below hb R9.out.lt); replace HBW := Lib.hid (HBW.out.trans (hb.mono HBW.out.size)); replace M := Lib.hid (M.out.call hb); clear hb)
          refine hK _ _ (fun _ => M.out) ?_
          clear hK K
          try simp only [List.getElem_toArray, List.getElem_cons_succ, List.getElem_cons_zero, Act.put, List.setIfInBounds_toArray, List.set_cons_zero, List.set_cons_succ]
          refine anyT_takeY (i := 3) (v := .tuple #[.agg (rowOf .u8 32 RK), .int .i64 e0]) rfl (by kernel_rfl) (by kernel_rfl) (by kernel_rfl) (fun _ _ _ h => h) (by kernel_rfl) (Or.inl ⟨by rfl, by intro w; go_simp⟩) ?_
          try simp only [List.getElem_toArray, List.getElem_cons_succ, List.getElem_cons_zero, Act.put, List.setIfInBounds_toArray, List.set_cons_zero, List.set_cons_succ]
          refine anyT_takeY (i := 4) (v := .agg (rowOf .u8 32 RK)) rfl (by kernel_rfl) (by kernel_rfl) (by kernel_rfl) (fun _ _ _ h => h) (by kernel_rfl) (Or.inl ⟨by rfl, by intro w; go_simp⟩) ?_
          try simp only [List.getElem_toArray, List.getElem_cons_succ, List.getElem_cons_zero, Act.put, List.setIfInBounds_toArray, List.set_cons_zero, List.set_cons_succ]
          refine anyT_takeY (i := 5) (v := .int .i64 e0) rfl (by kernel_rfl) (by kernel_rfl) (by kernel_rfl) (fun _ _ _ h => h) (by kernel_rfl) (Or.inl ⟨by rfl, by intro w; go_simp⟩) ?_
          try simp only [List.getElem_toArray, List.getElem_cons_succ, List.getElem_cons_zero, Act.put, List.setIfInBounds_toArray, List.set_cons_zero, List.set_cons_succ]
          refine anyT_one (i := 7) (by kernel_rfl) rfl (fun K hK => ?_)
          rw [if_pos (by rfl)]
          try simp only [List.getElem_toArray, List.getElem_cons_succ, List.getElem_cons_zero]
          (refine wp_store_row 53 (.tmp 7) (.tmp 22) rfl g9 (rowOf .u8 32 RK) rfl rfl 53 _ R9.out (by rw [rowOf_size]; kernel_rfl) (by rw [rowOf_size, rowOf_size]) (rowOf_one _ _ _) ?_)
          refine hK _ _ (not_mem rfl) ?_
          clear hK K
          try simp only [List.getElem_toArray, List.getElem_cons_succ, List.getElem_cons_zero, Act.put, List.setIfInBounds_toArray, List.set_cons_zero, List.set_cons_succ]
          refine anyT_takeY (i := 8) (v := .int .i64 e0) rfl (by kernel_rfl) (by kernel_rfl) (by kernel_rfl) (fun _ _ _ h => h) (by kernel_rfl) (Or.inl ⟨by rfl, by intro w; go_simp⟩) ?_
          try simp only [List.getElem_toArray, List.getElem_cons_succ, List.getElem_cons_zero, Act.put, List.setIfInBounds_toArray, List.set_cons_zero, List.set_cons_succ]
          refine anyT_done (by kernel_rfl) ?_ _
          go_wp2_with (fail)
          go_meet
          have MF := M7.out.call (below_setRow HBW.out HG9.out (rowOf .u8 32 RK))
          exact ⟨g9, rfl, Lib.hid ⟨MF, setRow_heap _ _ _ _ _ _ R9.out⟩⟩
      case rest =>
        obtain ⟨g7, rfl, M⟩ := hcut
        go_upto_region 4 with (fail)
        refine wp_region_T (fun w' => VgX w q D E2 CX x g7 RK w') [0, 1, 2, 3, 4, 5, 6, 7, 8, 9, 10, 11, 12, 13, 14, 15, 16] (by kernel_rfl) ?_
        replace M := Lib.hid (M.out.call (Below.refl _ _).drew)
        generalize World.drew _ = d0 at *
        refine anyT_take [5, 6, 11, 12, 13, 14, 15, 16] (i := 0) (v := .string c) rfl (by kernel_rfl) (by kernel_rfl) (by kernel_rfl) (fun _ _ _ h => h) (by kernel_rfl) (Or.inl ⟨by rfl, fun w' _ => by go_simp⟩) M.out ?_
        try simp only [List.getElem_toArray, List.getElem_cons_succ, List.getElem_cons_zero, Act.put, List.setIfInBounds_toArray, List.set_cons_zero, List.set_cons_succ]
        refine anyT_take [5, 6, 11, 12, 13, 14, 15, 16] (i := 1) (v := .agg (rowOf .u8 32 RK)) rfl (by kernel_rfl) (by kernel_rfl) (by kernel_rfl) (fun _ _ _ h => h) (by kernel_rfl) (rowT_yields (by rfl) 53 (.tmp 7) rfl (g7) 0 rfl _ _ (fun _ h => rowT_range h.k) Tryz.underlying53 rfl (by rw [rowOf_size]; kernel_rfl)) M.out ?_
        try simp only [List.getElem_toArray, List.getElem_cons_succ, List.getElem_cons_zero, Act.put, List.setIfInBounds_toArray, List.set_cons_zero, List.set_cons_succ]
        refine anyT_take [5, 6, 11, 12, 13, 14, 15, 16] (i := 2) (v := .agg (parC D E2)) rfl (by kernel_rfl) (by kernel_rfl) (by kernel_rfl) (fun _ _ _ h => h) (by kernel_rfl) (rowT_yields (by rfl) 57 (.tmp 4) rfl (q) 0 rfl _ _ (fun _ h => rowT_range h.m.p) Tryz.underlying57 rfl (by rw [parC_size]; kernel_rfl)) M.out ?_
        try simp only [List.getElem_toArray, List.getElem_cons_succ, List.getElem_cons_zero, Act.put, List.setIfInBounds_toArray, List.set_cons_zero, List.set_cons_succ]
        refine anyT_take [4, 5, 6, 11, 12, 13, 14, 15, 16] (i := 3) (v := .agg CX) rfl (by kernel_rfl) (by kernel_rfl) (by kernel_rfl) (fun _ _ _ h => h) (by kernel_rfl) (rowT_yields (by rfl) 27 (.tmp 5) rfl (q + 1) 0 rfl _ _ (fun _ h => rowT_range h.m.r) Tryz.underlying27 rfl (by rw [HCS.out]; kernel_rfl)) M.out ?_
        try simp only [List.getElem_toArray, List.getElem_cons_succ, List.getElem_cons_zero, Act.put, List.setIfInBounds_toArray, List.set_cons_zero, List.set_cons_succ]
        refine anyT_take [11, 12, 13, 14, 15, 16] (i := 7) (v := .string c) rfl (by kernel_rfl) (by kernel_rfl) (by kernel_rfl) (fun _ _ _ h => h) (by kernel_rfl) (Or.inl ⟨by rfl, fun w' _ => by go_simp⟩) M.out ?_
        try simp only [List.getElem_toArray, List.getElem_cons_succ, List.getElem_cons_zero, Act.put, List.setIfInBounds_toArray, List.set_cons_zero, List.set_cons_succ]
        refine anyT_take [11, 12, 13, 14, 15, 16] (i := 8) (v := .agg (rowOf .u8 32 RK)) rfl (by kernel_rfl) (by kernel_rfl) (by kernel_rfl) (fun _ _ _ h => h) (by kernel_rfl) (rowT_yields (by rfl) 53 (.tmp 7) rfl (g7) 0 rfl _ _ (fun _ h => rowT_range h.k) Tryz.underlying53 rfl (by rw [rowOf_size]; kernel_rfl)) M.out ?_
        try simp only [List.getElem_toArray, List.getElem_cons_succ, List.getElem_cons_zero, Act.put, List.setIfInBounds_toArray, List.set_cons_zero, List.set_cons_succ]
        refine anyT_take [11, 12, 13, 14, 15, 16] (i := 9) (v := .agg (parC D E2)) rfl (by kernel_rfl) (by kernel_rfl) (by kernel_rfl) (fun _ _ _ h => h) (by kernel_rfl) (rowT_yields (by rfl) 57 (.tmp 4) rfl (q) 0 rfl _ _ (fun _ h => rowT_range h.m.p) Tryz.underlying57 rfl (by rw [parC_size]; kernel_rfl)) M.out ?_
        try simp only [List.getElem_toArray, List.getElem_cons_succ, List.getElem_cons_zero, Act.put, List.setIfInBounds_toArray, List.set_cons_zero, List.set_cons_succ]
        refine anyT_take [11, 12, 13, 14, 15, 16] (i := 10) (v := .agg CX) rfl (by kernel_rfl) (by kernel_rfl) (by kernel_rfl) (fun _ _ _ h => h) (by kernel_rfl) (rowT_yields (by rfl) 27 (.tmp 5) rfl (q + 1) 0 rfl _ _ (fun _ h => rowT_range h.m.r) Tryz.underlying27 rfl (by rw [HCS.out]; kernel_rfl)) M.out ?_
        try simp only [List.getElem_toArray, List.getElem_cons_succ, List.getElem_cons_zero, Act.put, List.setIfInBounds_toArray, List.set_cons_zero, List.set_cons_succ]
        refine anyT_one (i := 4) (by kernel_rfl) rfl (fun K hK => ?_)
        rw [if_pos (by rfl)]
        try simp only [List.getElem_toArray, List.getElem_cons_succ, List.getElem_cons_zero]
        (go_simp; (with_reducible refine (HG.out _ M.out.m.x).mono ?_); rintro e x1 ⟨y, rfl, hye, hyp, hyf, -, -, hb⟩; have HY := Lib.hid hye; have HYP := Lib.hid hyp; have HYF := Lib.hid hyf; clear hye hyp hyf; replace M := Lib.hid (M.out.call hb); clear hb)
        refine hK _ _ (fun _ => M.out) ?_
        clear hK K
        try simp only [List.getElem_toArray, List.getElem_cons_succ, List.getElem_cons_zero, Act.put, List.setIfInBounds_toArray, List.set_cons_zero, List.set_cons_succ]
        refine anyT_one (i := 5) (by kernel_rfl) rfl (fun K hK => ?_)
        rw [if_pos (by rfl)]
        try simp only [List.getElem_toArray, List.getElem_cons_succ, List.getElem_cons_zero]
        (go_simp; (with_reducible refine (HTV.out y x1 (HEN.out.below M.out.m.b HEN.out.lt) (HTB.out.below M.out.m.b HTB.out.lt) HY.out HYF.out (HYP.out.trans HP.out.symm)).mono ?_); rintro e x2 ⟨rfl, hb⟩; clear HY HYP HYF; replace M := Lib.hid (M.out.call hb); clear hb)
        refine hK _ _ (fun _ => M.out) ?_
        clear hK K
        try simp only [List.getElem_toArray, List.getElem_cons_succ, List.getElem_cons_zero, Act.put, List.setIfInBounds_toArray, List.set_cons_zero, List.set_cons_succ]
        refine anyT_one (i := 6) (by kernel_rfl) rfl (fun K hK => ?_)
        rw [if_pos (by rfl)]
        try simp only [List.getElem_toArray, List.getElem_cons_succ, List.getElem_cons_zero]
        (go_simp; (with_reducible refine (HNV.out _ (HGE.out.below M.out.m.b)).mono ?_); rintro e x3 ⟨rfl, hb⟩; replace M := Lib.hid (M.out.call hb); clear hb)
        refine hK _ _ (fun _ => M.out) ?_
        clear hK K
        try simp only [List.getElem_toArray, List.getElem_cons_succ, List.getElem_cons_zero, Act.put, List.setIfInBounds_toArray, List.set_cons_zero, List.set_cons_succ]
        refine anyT_one (i := 11) (by kernel_rfl) rfl (fun K hK => ?_)
        rw [if_pos (by rfl)]
        try simp only [List.getElem_toArray, List.getElem_cons_succ, List.getElem_cons_zero]
        (go_simp; (with_reducible refine (HRV.out _ M.out.m.x).mono ?_); rintro e x4 ⟨rfl, hb⟩; replace M := Lib.hid (M.out.call hb); clear hb)
        refine hK _ _ (fun _ => M.out) ?_
        clear hK K
        try simp only [List.getElem_toArray, List.getElem_cons_succ, List.getElem_cons_zero, Act.put, List.setIfInBounds_toArray, List.set_cons_zero, List.set_cons_succ]
        refine anyT_take [13, 14, 15, 16] (i := 12) (v := .bool true) rfl (by kernel_rfl) (by kernel_rfl) (by kernel_rfl) (fun _ _ _ h => h) (by kernel_rfl) (Or.inl ⟨by rfl, fun w' _ => by go_simp⟩) M.out ?_
        try simp only [List.getElem_toArray, List.getElem_cons_succ, List.getElem_cons_zero, Act.put, List.setIfInBounds_toArray, List.set_cons_zero, List.set_cons_succ]
        refine anyT_take [14, 15, 16] (i := 13) (v := .bool true) rfl (by kernel_rfl) (by kernel_rfl) (by kernel_rfl) (fun _ _ _ h => h) (by kernel_rfl) (Or.inl ⟨by rfl, fun w' _ => by go_simp⟩) M.out ?_
        try simp only [List.getElem_toArray, List.getElem_cons_succ, List.getElem_cons_zero, Act.put, List.setIfInBounds_toArray, List.set_cons_zero, List.set_cons_succ]
        refine anyT_one (i := 14) (by kernel_rfl) rfl (fun K hK => ?_)
        rw [if_pos (by rfl)]
        try simp only [List.getElem_toArray, List.getElem_cons_succ, List.getElem_cons_zero]
        (go_simp; (with_reducible refine (HSU.out _ (HTB.out.below M.out.m.b HTB.out.lt)).mono ?_); rintro e x5 ⟨rfl, hb⟩; replace M := Lib.hid (M.out.call hb); clear hb)
        refine hK _ _ (fun _ => M.out) ?_
        clear hK K
        try simp only [List.getElem_toArray, List.getElem_cons_succ, List.getElem_cons_zero, Act.put, List.setIfInBounds_toArray, List.set_cons_zero, List.set_cons_succ]
        refine anyT_take [16] (i := 15) (v := .bool true) rfl (by kernel_rfl) (by kernel_rfl) (by kernel_rfl) (fun _ _ _ h => h) (by kernel_rfl) (Or.inl ⟨by rfl, fun w' _ => by go_simp⟩) M.out ?_
        try simp only [List.getElem_toArray, List.getElem_cons_succ, List.getElem_cons_zero, Act.put, List.setIfInBounds_toArray, List.set_cons_zero, List.set_cons_succ]
        refine anyT_take [] (i := 16) (v := .bool true) rfl (by kernel_rfl) (by kernel_rfl) (by kernel_rfl) (fun _ _ _ h => h) (by kernel_rfl) (Or.inl ⟨by rfl, fun w' _ => by go_simp⟩) M.out ?_
        try simp only [List.getElem_toArray, List.getElem_cons_succ, List.getElem_cons_zero, Act.put, List.setIfInBounds_toArray, List.set_cons_zero, List.set_cons_succ]
        refine anyT_done (by kernel_rfl) ?_ _
        go_wp2_with (fail)
        go_ret
        exact ⟨rfl, M.out.m.b⟩
    · have HE2 : E = E2 := by rw [hE2]; unfold vfCut; rw [if_neg (fun h => h2 h.2)]
      clear hE2
      replace HE2 := Lib.hid HE2
      go_upto_region 3 with (fail)
      replace M := Lib.hid (show VfX w q D E2 CX x w2 from by rw [← HE2.out]; exact M.out)
      clear c1 h1 h2 HE2
      go_cut [7] (fun p7 wx => ∃ g7, p7 = .pointer (some ⟨g7, 0, none⟩) ∧ Hid (VgX w q D E2 CX x g7 RK wx))
      case first =>
        refine wp_region_T (fun w' => VfX w q D E2 CX x w') [0, 1, 2, 6] (by kernel_rfl) ?_
        replace M := Lib.hid (M.out.call (Below.refl _ _).drew)
        generalize w2.drew = w7 at *
        have M7 := M
        have HBW := Lib.hid (Below.refl w7.heap.size w7)
        refine anyT_take [2, 3, 4, 5, 7, 8] (i := 1) (v := .agg (parC D E2)) rfl (by kernel_rfl) (by kernel_rfl) (by kernel_rfl) (fun _ _ _ h => h) (by kernel_rfl) (rowT_yields (by rfl) 57 (.tmp 4) rfl q 0 rfl _ _ (fun _ h => rowT_range h.p) Tryz.underlying57 rfl (by rw [parC_size]; kernel_rfl)) M.out ?_
        try simp only [List.getElem_toArray, List.getElem_cons_succ, List.getElem_cons_zero, Act.put, List.setIfInBounds_toArray, List.set_cons_zero, List.set_cons_succ]
        refine anyT_ready (rs := [0, 6]) (by kernel_rfl) (by simp) ?_
        refine readyT_cons rfl (fun K hK => ?_) (readyT_cons rfl (fun K hK => ?_) readyT_nil)
        · rw [if_pos (by rfl)]
          try simp only [List.getElem_toArray, List.getElem_cons_succ, List.getElem_cons_zero]
          (go_simp; (with_reducible refine (HSD.out w7).mono ?_); rintro e w8 ⟨rfl, hb⟩; replace HBW := Lib.hid (HBW.out.trans (hb.mono HBW.out.size)); replace M := Lib.hid (M.out.call hb); clear hb)
          refine hK _ _ (fun _ => M.out) ?_
          clear hK K
          try simp only [List.getElem_toArray, List.getElem_cons_succ, List.getElem_cons_zero, Act.put, List.setIfInBounds_toArray, List.set_cons_zero, List.set_cons_succ]
          refine anyT_ready (rs := [2, 6]) (by kernel_rfl) (by simp) ?_
          refine readyT_cons rfl (fun K hK => ?_) (readyT_cons rfl (fun K hK => ?_) readyT_nil)
          · rw [if_pos (by rfl)]
            try simp only [List.getElem_toArray, List.getElem_cons_succ, List.getElem_cons_zero]
            (go_simp; (with_reducible refine (HRT.out w8).mono ?_); rintro e w9 ⟨rfl, hb⟩; replace HBW := Lib.hid (HBW.out.trans (hb.mono HBW.out.size)); replace M := Lib.hid (M.out.call hb); clear hb)
            refine hK _ _ (fun _ => M.out) ?_
            clear hK K
            try simp only [List.getElem_toArray, List.getElem_cons_succ, List.getElem_cons_zero, Act.put, List.setIfInBounds_toArray, List.set_cons_zero, List.set_cons_succ]
            refine anyT_takeY (i := 3) (v := .tuple #[.agg (rowOf .u8 32 RK), .int .i64 e0]) rfl (by kernel_rfl) (by kernel_rfl) (by kernel_rfl) (fun _ _ _ h => h) (by kernel_rfl) (Or.inl ⟨by rfl, by intro w; go_simp⟩) ?_
            try simp only [List.getElem_toArray, List.getElem_cons_succ, List.getElem_cons_zero, Act.put, List.setIfInBounds_toArray, List.set_cons_zero, List.set_cons_succ]
            refine anyT_takeY (i := 4) (v := .agg (rowOf .u8 32 RK)) rfl (by kernel_rfl) (by kernel_rfl) (by kernel_rfl) (fun _ _ _ h => h) (by kernel_rfl) (Or.inl ⟨by rfl, by intro w; go_simp⟩) ?_
            try simp only [List.getElem_toArray, List.getElem_cons_succ, List.getElem_cons_zero, Act.put, List.setIfInBounds_toArray, List.set_cons_zero, List.set_cons_succ]
            refine anyT_takeY (i := 5) (v := .int .i64 e0) rfl (by kernel_rfl) (by kernel_rfl) (by kernel_rfl) (fun _ _ _ h => h) (by kernel_rfl) (Or.inl ⟨by rfl, by intro w; go_simp⟩) ?_
            try simp only [List.getElem_toArray, List.getElem_cons_succ, List.getElem_cons_zero, Act.put, List.setIfInBounds_toArray, List.set_cons_zero, List.set_cons_succ]
            refine anyT_one (i := 6) (by kernel_rfl) rfl (fun K hK => ?_)
            rw [if_pos (by rfl)]
            try simp only [List.getElem_toArray, List.getElem_cons_succ, List.getElem_cons_zero]
            (go_simp; have R9 := Lib.hid (RowAt.new w9 .u8 32 53 zF); have HS9 := Lib.hid HBW.out.size; replace HBW := Lib.hid (HBW.out.trans ((below_alloc w9 (.cells (rowOf .u8 32 zF) 53)).mono HBW.out.size)); replace M := Lib.hid (M.out.call (below_alloc w9 (.cells (rowOf .u8 32 zF) 53))))
            refine hK _ _ (fun _ => M.out) ?_
            clear hK K
            try simp only [List.getElem_toArray, List.getElem_cons_succ, List.getElem_cons_zero, Act.put, List.setIfInBounds_toArray, List.set_cons_zero, List.set_cons_succ]
            rw [zeros32']
            obtain ⟨g9, hg9⟩ : ∃ g9, g9 = w9.heap.size := ⟨_, rfl⟩
            have HG9 := Lib.hid (show w7.heap.size ≤ g9 by rw [hg9]; exact HS9.out)
            rw [← hg9] at R9 ⊢
            generalize w9.alloc (.cells (rowOf .u8 32 zF) 53) = w10 at *
            clear hg9
            refine anyT_one (i := 7) (by kernel_rfl) rfl (fun K hK => ?_)
            rw [if_pos (by rfl)]
            try simp only [List.getElem_toArray, List.getElem_cons_succ, List.getElem_cons_zero]
            (refine wp_store_row 53 (.tmp 7) (.tmp 22) rfl g9 (rowOf .u8 32 RK) rfl rfl 53 _ R9.out (by rw [rowOf_size]; kernel_rfl) (by rw [rowOf_size, rowOf_size]) (rowOf_one _ _ _) ?_)
            refine hK _ _ (not_mem rfl) ?_
            clear hK K
            try simp only [List.getElem_toArray, List.getElem_cons_succ, List.getElem_cons_zero, Act.put, List.setIfInBounds_toArray, List.set_cons_zero, List.set_cons_succ]
            refine anyT_takeY (i := 8) (v := .int .i64 e0) rfl (by kernel_rfl) (by kernel_rfl) (by kernel_rfl) (fun _ _ _ h => h) (by kernel_rfl) (Or.inl ⟨by rfl, by intro w; go_simp⟩) ?_
            try simp only [List.getElem_toArray, List.getElem_cons_succ, List.getElem_cons_zero, Act.put, List.setIfInBounds_toArray, List.set_cons_zero, List.set_cons_succ]
            refine anyT_done (by kernel_rfl) ?_ _
            go_wp2_with (fail)
            go_meet
            have MF := M7.out.call (below_setRow HBW.out HG9.out (rowOf .u8 32 RK))
            exact ⟨g9, rfl, Lib.hid ⟨MF, setRow_heap _ _ _ _ _ _ R9.out⟩⟩
          · rw [if_pos (by rfl)]
            try simp only [List.getElem_toArray, List.getElem_cons_succ, List.getElem_cons_zero]
            (go_simp; have R9 := Lib.hid (RowAt.new w8 .u8 32 53 zF); have HS9 := Lib.hid HBW.out.size; replace HBW := Lib.hid (HBW.out.trans ((below_alloc w8 (.cells (rowOf .u8 32 zF) 53)).mono HBW.out.size)); replace M := Lib.hid (M.out.call (below_alloc w8 (.cells (rowOf .u8 32 zF) 53))))
            refine hK _ _ (fun _ => M.out) ?_
            clear hK K
            try simp only [List.getElem_toArray, List.getElem_cons_succ, List.getElem_cons_zero, Act.put, List.setIfInBounds_toArray, List.set_cons_zero, List.set_cons_succ]
            rw [zeros32']
            obtain ⟨g9, hg9⟩ : ∃ g9, g9 = w8.heap.size := ⟨_, rfl⟩
            have HG9 := Lib.hid (show w7.heap.size ≤ g9 by rw [hg9]; exact HS9.out)
            rw [← hg9] at R9 ⊢
            generalize w8.alloc (.cells (rowOf .u8 32 zF) 53) = w9 at *
            clear hg9
            refine anyT_one (i := 2) (by kernel_rfl) rfl (fun K hK => ?_)
            rw [if_pos (by rfl)]
            try simp only [List.getElem_toArray, List.getElem_cons_succ, List.getElem_cons_zero]
            (go_simp; (with_reducible refine (HRT.out w9).mono ?_); rintro e w10 ⟨rfl, hb⟩; replace R9 := Lib.hid (R9.out.below hb R9.out.lt); replace HBW := Lib.hid (HBW.out.trans (hb.mono HBW.out.size)); replace M := Lib.hid (M.out.call hb); clear hb)
            refine hK _ _ (fun _ => M.out) ?_
            clear hK K
            try simp only [List.getElem_toArray, List.getElem_cons_succ, List.getElem_cons_zero, Act.put, List.setIfInBounds_toArray, List.set_cons_zero, List.set_cons_succ]
            refine anyT_takeY (i := 3) (v := .tuple #[.agg (rowOf .u8 32 RK), .int .i64 e0]) rfl (by kernel_rfl) (by kernel_rfl) (by kernel_rfl) (fun _ _ _ h => h) (by kernel_rfl) (Or.inl ⟨by rfl, by intro w; go_simp⟩) ?_
            try simp only [List.getElem_toArray, List.getElem_cons_succ, List.getElem_cons_zero, Act.put, List.setIfInBounds_toArray, List.set_cons_zero, List.set_cons_succ]
            refine anyT_takeY (i := 4) (v := .agg (rowOf .u8 32 RK)) rfl (by kernel_rfl) (by kernel_rfl) (by kernel_rfl) (fun _ _ _ h => h) (by kernel_rfl) (Or.inl ⟨by rfl, by intro w; go_simp⟩) ?_
            try simp only [List.getElem_toArray, List.getElem_cons_succ, List.getElem_cons_zero, Act.put, List.setIfInBounds_toArray, List.set_cons_zero, List.set_cons_succ]
            refine anyT_takeY (i := 5) (v := .int .i64 e0) rfl (by kernel_rfl) (by kernel_rfl) (by kernel_rfl) (fun _ _ _ h => h) (by kernel_rfl) (Or.inl ⟨by rfl, by intro w; go_simp⟩) ?_
            try simp only [List.getElem_toArray, List.getElem_cons_succ, List.getElem_cons_zero, Act.put, List.setIfInBounds_toArray, List.set_cons_zero, List.set_cons_succ]
            refine anyT_one (i := 7) (by kernel_rfl) rfl (fun K hK => ?_)
            rw [if_pos (by rfl)]
            try simp only [List.getElem_toArray, List.getElem_cons_succ, List.getElem_cons_zero]
            (refine wp_store_row 53 (.tmp 7) (.tmp 22) rfl g9 (rowOf .u8 32 RK) rfl rfl 53 _ R9.out (by rw [rowOf_size]; kernel_rfl) (by rw [rowOf_size, rowOf_size]) (rowOf_one _ _ _) ?_)
            refine hK _ _ (not_mem rfl) ?_
            clear hK K
            try simp only [List.getElem_toArray, List.getElem_cons_succ, List.getElem_cons_zero, Act.put, List.setIfInBounds_toArray, List.set_cons_zero, List.set_cons_succ]
            refine anyT_takeY (i := 8) (v := .int .i64 e0) rfl (by kernel_rfl) (by kernel_rfl) (by kernel_rfl) (fun _ _ _ h => h) (by kernel_rfl) (Or.inl ⟨by rfl, by intro w; go_simp⟩) ?_
            try simp only [List.getElem_toArray, List.getElem_cons_succ, List.getElem_cons_zero, Act.put, List.setIfInBounds_toArray, List.set_cons_zero, List.set_cons_succ]
            refine anyT_done (by kernel_rfl) ?_ _
            go_wp2_with (fail)
            go_meet
            have MF := M7.out.call (below_setRow HBW.out HG9.out (rowOf .u8 32 RK))
            exact ⟨g9, rfl, Lib.hid ⟨MF, setRow_heap _ _ _ _ _ _ R9.out⟩⟩
        · rw [if_pos (by rfl)]
          try simp only [List.getElem_toArray, List.getElem_cons_succ, List.getElem_cons_zero]
          (go_simp; have R9 := Lib.hid (RowAt.new w7 .u8 32 53 zF); have HS9 := Lib.hid HBW.out.size; replace HBW := Lib.hid (HBW.out.trans ((below_alloc w7 (.cells (rowOf .u8 32 zF) 53)).mono HBW.out.size)); replace M := Lib.hid (M.out.call (below_alloc w7 (.cells (rowOf .u8 32 zF) 53))))
          refine hK _ _ (fun _ => M.out) ?_
          clear hK K
          try simp only [List.getElem_toArray, List.getElem_cons_succ, List.getElem_cons_zero, Act.put, List.setIfInBounds_toArray, List.set_cons_zero, List.set_cons_succ]
          rw [zeros32']
          obtain ⟨g9, hg9⟩ : ∃ g9, g9 = w7.heap.size := ⟨_, rfl⟩
          have HG9 := Lib.hid (show w7.heap.size ≤ g9 by rw [hg9]; exact HS9.out)
          rw [← hg9] at R9 ⊢
          generalize w7.alloc (.cells (rowOf .u8 32 zF) 53) = w8 at *
          clear hg9
          refine anyT_one (i := 0) (by kernel_rfl) rfl (fun K hK => ?_)
          rw [if_pos (by rfl)]
          try simp only [List.getElem_toArray, List.getElem_cons_succ, List.getElem_cons_zero]
          (go_simp; (with_reducible refine (HSD.out w8).mono ?_); rintro e w9 ⟨rfl, hb⟩; replace R9 := Lib.hid (R9.out.below hb R9.out.lt); replace HBW := Lib.hid (HBW.out.trans (hb.mono HBW.out.size)); replace M := Lib.hid (M.out.call hb); clear hb)
          refine hK _ _ (fun _ => M.out) ?_
          clear hK K
          try simp only [List.getElem_toArray, List.getElem_cons_succ, List.getElem_cons_zero, Act.put, List.setIfInBounds_toArray, List.set_cons_zero, List.set_cons_succ]
          refine anyT_one (i := 2) (by kernel_rfl) rfl (fun K hK => ?_)
          rw [if_pos (by rfl)]
          try simp only [List.getElem_toArray, List.getElem_cons_succ, List.getElem_cons_zero]
          (go_simp; (with_reducible refine (HRT.out w9).mono ?_); rintro e w10 ⟨rfl, hb⟩; replace R9 := Lib.hid (R9.out.below hb R9.out.lt); replace HBW := Lib.hid (HBW.out.trans (hb.mono HBW.out.size)); replace M := Lib.hid (M.out.call hb); clear hb)
          refine hK _ _ (fun _ => M.out) ?_
          clear hK K
          try simp only [List.getElem_toArray, List.getElem_cons_succ, List.getElem_cons_zero, Act.put, List.setIfInBounds_toArray, List.set_cons_zero, List.set_cons_succ]
          refine anyT_takeY (i := 3) (v := .tuple #[.agg (rowOf .u8 32 RK), .int .i64 e0]) rfl (by kernel_rfl) (by kernel_rfl) (by kernel_rfl) (fun _ _ _ h => h) (by kernel_rfl) (Or.inl ⟨by rfl, by intro w; go_simp⟩) ?_
          try simp only [List.getElem_toArray, List.getElem_cons_succ, List.getElem_cons_zero, Act.put, List.setIfInBounds_toArray, List.set_cons_zero, List.set_cons_succ]
          refine anyT_takeY (i := 4) (v := .agg (rowOf .u8 32 RK)) rfl (by kernel_rfl) (by kernel_rfl) (by kernel_rfl) (fun _ _ _ h => h) (by kernel_rfl) (Or.inl ⟨by rfl, by intro w; go_simp⟩) ?_
          try simp only [List.getElem_toArray, List.getElem_cons_succ, List.getElem_cons_zero, Act.put, List.setIfInBounds_toArray, List.set_cons_zero, List.set_cons_succ]
          refine anyT_takeY (i := 5) (v := .int .i64 e0) rfl (by kernel_rfl) (by kernel_rfl) (by kernel_rfl) (fun _ _ _ h => h) (by kernel_rfl) (Or.inl ⟨by rfl, by intro w; go_simp⟩) ?_
          try simp only [List.getElem_toArray, List.getElem_cons_succ, List.getElem_cons_zero, Act.put, List.setIfInBounds_toArray, List.set_cons_zero, List.set_cons_succ]
          refine anyT_one (i := 7) (by kernel_rfl) rfl (fun K hK => ?_)
          rw [if_pos (by rfl)]
          try simp only [List.getElem_toArray, List.getElem_cons_succ, List.getElem_cons_zero]
          (refine wp_store_row 53 (.tmp 7) (.tmp 22) rfl g9 (rowOf .u8 32 RK) rfl rfl 53 _ R9.out (by rw [rowOf_size]; kernel_rfl) (by rw [rowOf_size, rowOf_size]) (rowOf_one _ _ _) ?_)
          refine hK _ _ (not_mem rfl) ?_
          clear hK K
          try simp only [List.getElem_toArray, List.getElem_cons_succ, List.getElem_cons_zero, Act.put, List.setIfInBounds_toArray, List.set_cons_zero, List.set_cons_succ]
          refine anyT_takeY (i := 8) (v := .int .i64 e0) rfl (by kernel_rfl) (by kernel_rfl) (by kernel_rfl) (fun _ _ _ h => h) (by kernel_rfl) (Or.inl ⟨by rfl, by intro w; go_simp⟩) ?_
          try simp only [List.getElem_toArray, List.getElem_cons_succ, List.getElem_cons_zero, Act.put, List.setIfInBounds_toArray, List.set_cons_zero, List.set_cons_succ]
          refine anyT_done (by kernel_rfl) ?_ _
          go_wp2_with (fail)
          go_meet
          have MF := M7.out.call (below_setRow HBW.out HG9.out (rowOf .u8 32 RK))
          exact ⟨g9, rfl, Lib.hid ⟨MF, setRow_heap _ _ _ _ _ _ R9.out⟩⟩
      case rest =>
        obtain ⟨g7, rfl, M⟩ := hcut
        go_upto_region 4 with (fail)
        refine wp_region_T (fun w' => VgX w q D E2 CX x g7 RK w') [0, 1, 2, 3, 4, 5, 6, 7, 8, 9, 10, 11, 12, 13, 14, 15, 16] (by kernel_rfl) ?_
        replace M := Lib.hid (M.out.call (Below.refl _ _).drew)
        generalize World.drew _ = d0 at *
        refine anyT_take [5, 6, 11, 12, 13, 14, 15, 16] (i := 0) (v := .string c) rfl (by kernel_rfl) (by kernel_rfl) (by kernel_rfl) (fun _ _ _ h => h) (by kernel_rfl) (Or.inl ⟨by rfl, fun w' _ => by go_simp⟩) M.out ?_
        try simp only [List.getElem_toArray, List.getElem_cons_succ, List.getElem_cons_zero, Act.put, List.setIfInBounds_toArray, List.set_cons_zero, List.set_cons_succ]
        refine anyT_take [5, 6, 11, 12, 13, 14, 15, 16] (i := 1) (v := .agg (rowOf .u8 32 RK)) rfl (by kernel_rfl) (by kernel_rfl) (by kernel_rfl) (fun _ _ _ h => h) (by kernel_rfl) (rowT_yields (by rfl) 53 (.tmp 7) rfl (g7) 0 rfl _ _ (fun _ h => rowT_range h.k) Tryz.underlying53 rfl (by rw [rowOf_size]; kernel_rfl)) M.out ?_
        try simp only [List.getElem_toArray, List.getElem_cons_succ, List.getElem_cons_zero, Act.put, List.setIfInBounds_toArray, List.set_cons_zero, List.set_cons_succ]
        refine anyT_take [5, 6, 11, 12, 13, 14, 15, 16] (i := 2) (v := .agg (parC D E2)) rfl (by kernel_rfl) (by kernel_rfl) (by kernel_rfl) (fun _ _ _ h => h) (by kernel_rfl) (rowT_yields (by rfl) 57 (.tmp 4) rfl (q) 0 rfl _ _ (fun _ h => rowT_range h.m.p) Tryz.underlying57 rfl (by rw [parC_size]; kernel_rfl)) M.out ?_
        try simp only [List.getElem_toArray, List.getElem_cons_succ, List.getElem_cons_zero, Act.put, List.setIfInBounds_toArray, List.set_cons_zero, List.set_cons_succ]
        refine anyT_take [4, 5, 6, 11, 12, 13, 14, 15, 16] (i := 3) (v := .agg CX) rfl (by kernel_rfl) (by kernel_rfl) (by kernel_rfl) (fun _ _ _ h => h) (by kernel_rfl) (rowT_yields (by rfl) 27 (.tmp 5) rfl (q + 1) 0 rfl _ _ (fun _ h => rowT_range h.m.r) Tryz.underlying27 rfl (by rw [HCS.out]; kernel_rfl)) M.out ?_
        try simp only [List.getElem_toArray, List.getElem_cons_succ, List.getElem_cons_zero, Act.put, List.setIfInBounds_toArray, List.set_cons_zero, List.set_cons_succ]
        refine anyT_take [11, 12, 13, 14, 15, 16] (i := 7) (v := .string c) rfl (by kernel_rfl) (by kernel_rfl) (by kernel_rfl) (fun _ _ _ h => h) (by kernel_rfl) (Or.inl ⟨by rfl, fun w' _ => by go_simp⟩) M.out ?_
        try simp only [List.getElem_toArray, List.getElem_cons_succ, List.getElem_cons_zero, Act.put, List.setIfInBounds_toArray, List.set_cons_zero, List.set_cons_succ]
        refine anyT_take [11, 12, 13, 14, 15, 16] (i := 8) (v := .agg (rowOf .u8 32 RK)) rfl (by kernel_rfl) (by kernel_rfl) (by kernel_rfl) (fun _ _ _ h => h) (by kernel_rfl) (rowT_yields (by rfl) 53 (.tmp 7) rfl (g7) 0 rfl _ _ (fun _ h => rowT_range h.k) Tryz.underlying53 rfl (by rw [rowOf_size]; kernel_rfl)) M.out ?_
        try simp only [List.getElem_toArray, List.getElem_cons_succ, List.getElem_cons_zero, Act.put, List.setIfInBounds_toArray, List.set_cons_zero, List.set_cons_succ]
        refine anyT_take [11, 12, 13, 14, 15, 16] (i := 9) (v := .agg (parC D E2)) rfl (by kernel_rfl) (by kernel_rfl) (by kernel_rfl) (fun _ _ _ h => h) (by kernel_rfl) (rowT_yields (by rfl) 57 (.tmp 4) rfl (q) 0 rfl _ _ (fun _ h => rowT_range h.m.p) Tryz.underlying57 rfl (by rw [parC_size]; kernel_rfl)) M.out ?_
        try simp only [List.getElem_toArray, List.getElem_cons_succ, List.getElem_cons_zero, Act.put, List.setIfInBounds_toArray, List.set_cons_zero, List.set_cons_succ]
        refine anyT_take [11, 12, 13, 14, 15, 16] (i := 10) (v := .agg CX) rfl (by kernel_rfl) (by kernel_rfl) (by kernel_rfl) (fun _ _ _ h => h) (by kernel_rfl) (rowT_yields (by rfl) 27 (.tmp 5) rfl (q + 1) 0 rfl _ _ (fun _ h => rowT_range h.m.r) Tryz.underlying27 rfl (by rw [HCS.out]; kernel_rfl)) M.out ?_
        try simp only [List.getElem_toArray, List.getElem_cons_succ, List.getElem_cons_zero, Act.put, List.setIfInBounds_toArray, List.set_cons_zero, List.set_cons_succ]
        refine anyT_one (i := 4) (by kernel_rfl) rfl (fun K hK => ?_)
        rw [if_pos (by rfl)]
        try simp only [List.getElem_toArray, List.getElem_cons_succ, List.getElem_cons_zero]
        (go_simp; (with_reducible refine (HG.out _ M.out.m.x).mono ?_); rintro e x1 ⟨y, rfl, hye, hyp, hyf, -, -, hb⟩; have HY := Lib.hid hye; have HYP := Lib.hid hyp; have HYF := Lib.hid hyf; clear hye hyp hyf; replace M := Lib.hid (M.out.call hb); clear hb)
        refine hK _ _ (fun _ => M.out) ?_
        clear hK K
        try simp only [List.getElem_toArray, List.getElem_cons_succ, List.getElem_cons_zero, Act.put, List.setIfInBounds_toArray, List.set_cons_zero, List.set_cons_succ]
        refine anyT_one (i := 5) (by kernel_rfl) rfl (fun K hK => ?_)
        rw [if_pos (by rfl)]
        try simp only [List.getElem_toArray, List.getElem_cons_succ, List.getElem_cons_zero]
        (go_simp; (with_reducible refine (HTV.out y x1 (HEN.out.below M.out.m.b HEN.out.lt) (HTB.out.below M.out.m.b HTB.out.lt) HY.out HYF.out (HYP.out.trans HP.out.symm)).mono ?_); rintro e x2 ⟨rfl, hb⟩; clear HY HYP HYF; replace M := Lib.hid (M.out.call hb); clear hb)
        refine hK _ _ (fun _ => M.out) ?_
        clear hK K
        try simp only [List.getElem_toArray, List.getElem_cons_succ, List.getElem_cons_zero, Act.put, List.setIfInBounds_toArray, List.set_cons_zero, List.set_cons_succ]
        refine anyT_one (i := 6) (by kernel_rfl) rfl (fun K hK => ?_)
        rw [if_pos (by rfl)]
        try simp only [List.getElem_toArray, List.getElem_cons_succ, List.getElem_cons_zero]
        (go_simp; (with_reducible refine (HNV.out _ (HGE.out.below M.out.m.b)).mono ?_); rintro e x3 ⟨rfl, hb⟩; replace M := Lib.hid (M.out.call hb); clear hb)
        refine hK _ _ (fun _ => M.out) ?_
        clear hK K
        try simp only [List.getElem_toArray, List.getElem_cons_succ, List.getElem_cons_zero, Act.put, List.setIfInBounds_toArray, List.set_cons_zero, List.set_cons_succ]
        refine anyT_one (i := 11) (by kernel_rfl) rfl (fun K hK => ?_)
        rw [if_pos (by rfl)]
        try simp only [List.getElem_toArray, List.getElem_cons_succ, List.getElem_cons_zero]
        (go_simp; (with_reducible refine (HRV.out _ M.out.m.x).mono ?_); rintro e x4 ⟨rfl, hb⟩; replace M := Lib.hid (M.out.call hb); clear hb)
        refine hK _ _ (fun _ => M.out) ?_
        clear hK K
        try simp only [List.getElem_toArray, List.getElem_cons_succ, List.getElem_cons_zero, Act.put, List.setIfInBounds_toArray, List.set_cons_zero, List.set_cons_succ]
        refine anyT_take [13, 14, 15, 16] (i := 12) (v := .bool true) rfl (by kernel_rfl) (by kernel_rfl) (by kernel_rfl) (fun _ _ _ h => h) (by kernel_rfl) (Or.inl ⟨by rfl, fun w' _ => by go_simp⟩) M.out ?_
        try simp only [List.getElem_toArray, List.getElem_cons_succ, List.getElem_cons_zero, Act.put, List.setIfInBounds_toArray, List.set_cons_zero, List.set_cons_succ]
        refine anyT_take [14, 15, 16] (i := 13) (v := .bool true) rfl (by kernel_rfl) (by kernel_rfl) (by kernel_rfl) (fun _ _ _ h => h) (by kernel_rfl) (Or.inl ⟨by rfl, fun w' _ => by go_simp⟩) M.out ?_
        try simp only [List.getElem_toArray, List.getElem_cons_succ, List.getElem_cons_zero, Act.put, List.setIfInBounds_toArray, List.set_cons_zero, List.set_cons_succ]
        refine anyT_one (i := 14) (by kernel_rfl) rfl (fun K hK => ?_)
        rw [if_pos (by rfl)]
        try simp only [List.getElem_toArray, List.getElem_cons_succ, List.getElem_cons_zero]
        (go_simp; (with_reducible refine (HSU.out _ (HTB.out.below M.out.m.b HTB.out.lt)).mono ?_); rintro e x5 ⟨rfl, hb⟩; replace M := Lib.hid (M.out.call hb); clear hb)
        refine hK _ _ (fun _ => M.out) ?_
        clear hK K
        try simp only [List.getElem_toArray, List.getElem_cons_succ, List.getElem_cons_zero, Act.put, List.setIfInBounds_toArray, List.set_cons_zero, List.set_cons_succ]
        refine anyT_take [16] (i := 15) (v := .bool true) rfl (by kernel_rfl) (by kernel_rfl) (by kernel_rfl) (fun _ _ _ h => h) (by kernel_rfl) (Or.inl ⟨by rfl, fun w' _ => by go_simp⟩) M.out ?_
        try simp only [List.getElem_toArray, List.getElem_cons_succ, List.getElem_cons_zero, Act.put, List.setIfInBounds_toArray, List.set_cons_zero, List.set_cons_succ]
        refine anyT_take [] (i := 16) (v := .bool true) rfl (by kernel_rfl) (by kernel_rfl) (by kernel_rfl) (fun _ _ _ h => h) (by kernel_rfl) (Or.inl ⟨by rfl, fun w' _ => by go_simp⟩) M.out ?_
        try simp only [List.getElem_toArray, List.getElem_cons_succ, List.getElem_cons_zero, Act.put, List.setIfInBounds_toArray, List.set_cons_zero, List.set_cons_succ]
        refine anyT_done (by kernel_rfl) ?_ _
        go_wp2_with (fail)
        go_ret
        exact ⟨rfl, M.out.m.b⟩
  · have HE2 : E = E2 := by rw [hE2]; unfold vfCut; rw [if_neg (fun h => h1 h.1)]
    clear hE2
    replace HE2 := Lib.hid HE2
    go_upto_region 3 with (fail)
    replace M := Lib.hid (show VfX w q D E2 CX x w2 from by rw [← HE2.out]; exact M.out)
    clear c1 h1 HE2
    go_cut [7] (fun p7 wx => ∃ g7, p7 = .pointer (some ⟨g7, 0, none⟩) ∧ Hid (VgX w q D E2 CX x g7 RK wx))
    case first =>
      refine wp_region_T (fun w' => VfX w q D E2 CX x w') [0, 1, 2, 6] (by kernel_rfl) ?_
      replace M := Lib.hid (M.out.call (Below.refl _ _).drew)
      generalize w2.drew = w7 at *
      have M7 := M
      have HBW := Lib.hid (Below.refl w7.heap.size w7)
      refine anyT_take [2, 3, 4, 5, 7, 8] (i := 1) (v := .agg (parC D E2)) rfl (by kernel_rfl) (by kernel_rfl) (by kernel_rfl) (fun _ _ _ h => h) (by kernel_rfl) (rowT_yields (by rfl) 57 (.tmp 4) rfl q 0 rfl _ _ (fun _ h => rowT_range h.p) Tryz.underlying57 rfl (by rw [parC_size]; kernel_rfl)) M.out ?_
      try simp only [List.getElem_toArray, List.getElem_cons_succ, List.getElem_cons_zero, Act.put, List.setIfInBounds_toArray, List.set_cons_zero, List.set_cons_succ]
      refine anyT_ready (rs := [0, 6]) (by kernel_rfl) (by simp) ?_
      refine readyT_cons rfl (fun K hK => ?_) (readyT_cons rfl (fun K hK => ?_) readyT_nil)
      · rw [if_pos (by rfl)]
        try simp only [List.getElem_toArray, List.getElem_cons_succ, List.getElem_cons_zero]
        (go_simp; (with_reducible refine (HSD.out w7).mono ?_); rintro e w8 ⟨rfl, hb⟩; replace HBW := Lib.hid (HBW.out.trans (hb.mono HBW.out.size)); replace M := Lib.hid (M.out.call hb); clear hb)
        refine hK _ _ (fun _ => M.out) ?_
        clear hK K
        try simp only [List.getElem_toArray, List.getElem_cons_succ, List.getElem_cons_zero, Act.put, List.setIfInBounds_toArray, List.set_cons_zero, List.set_cons_succ]
        refine anyT_ready (rs := [2, 6]) (by kernel_rfl) (by simp) ?_
        refine readyT_cons rfl (fun K hK => ?_) (readyT_cons rfl (fun K hK => ?_) readyT_nil)
        · rw [if_pos (by rfl)]
          try simp only [List.getElem_toArray, List.getElem_cons_succ, List.getElem_cons_zero]
          (go_simp; (with_reducible refine (HRT.out w8).mono ?_); rintro e w9 ⟨rfl, hb⟩; replace HBW := Lib.hid (HBW.out.trans (hb.mono HBW.out.size)); replace M := Lib.hid (M.out.call hb); clear hb)
          refine hK _ _ (fun _ => M.out) ?_
          clear hK K
          try simp only [List.getElem_toArray, List.getElem_cons_succ, List.getElem_cons_zero, Act.put, List.setIfInBounds_toArray, List.set_cons_zero, List.set_cons_succ]
          refine anyT_takeY (i := 3) (v := .tuple #[.agg (rowOf .u8 32 RK), .int .i64 e0]) rfl (by kernel_rfl) (by kernel_rfl) (by kernel_rfl) (fun _ _ _ h => h) (by kernel_rfl) (Or.inl ⟨by rfl, by intro w; go_simp⟩) ?_
          try simp only [List.getElem_toArray, List.getElem_cons_succ, List.getElem_cons_zero, Act.put, List.setIfInBounds_toArray, List.set_cons_zero, List.set_cons_succ]
          refine anyT_takeY (i := 4) (v := .agg (rowOf .u8 32 RK)) rfl (by kernel_rfl) (by kernel_rfl) (by kernel_rfl) (fun _ _ _ h => h) (by kernel_rfl) (Or.inl ⟨by rfl, by intro w; go_simp⟩) ?_
          try simp only [List.getElem_toArray, List.getElem_cons_succ, List.getElem_cons_zero, Act.put, List.setIfInBounds_toArray, List.set_cons_zero, List.set_cons_succ]
          refine anyT_takeY (i := 5) (v := .int .i64 e0) rfl (by kernel_rfl) (by kernel_rfl) (by kernel_rfl) (fun _ _ _ h => h) (by kernel_rfl) (Or.inl ⟨by rfl, by intro w; go_simp⟩) ?_
          try simp only [List.getElem_toArray, List.getElem_cons_succ, List.getElem_cons_zero, Act.put, List.setIfInBounds_toArray, List.set_cons_zero, List.set_cons_succ]
          refine anyT_one (i := 6) (by kernel_rfl) rfl (fun K hK => ?_)
          rw [if_pos (by rfl)]
          try simp only [List.getElem_toArray, List.getElem_cons_succ, List.getElem_cons_zero]
          (go_simp; have R9 := Lib.hid (RowAt.new w9 .u8 32 53 zF); have HS9 := Lib.hid HBW.out.size; replace HBW := Lib.hid (HBW.out.trans ((below_alloc w9 (.cells (rowOf .u8 32 zF) 53)).mono HBW.out.size)); replace M := Lib.hid (M.out.call (below_alloc w9 (.cells (rowOf .u8 32 zF) 53))))
          refine hK _ _ (fun _ => M.out) ?_
          clear hK K
          try simp only [List.getElem_toArray, List.getElem_cons_succ, List.getElem_cons_zero, Act.put, List.setIfInBounds_toArray, List.set_cons_zero, List.set_cons_succ]
          rw [zeros32']
          obtain ⟨g9, hg9⟩ : ∃ g9, g9 = w9.heap.size := ⟨_, rfl⟩
          have HG9 := Lib.hid (show w7.heap.size ≤ g9 by rw [hg9]; exact HS9.out)
          rw [← hg9] at R9 ⊢
          generalize w9.alloc (.cells (rowOf .u8 32 zF) 53) = w10 at *
          clear hg9
          refine anyT_one (i := 7) (by kernel_rfl) rfl (fun K hK => ?_)
          rw [if_pos (by rfl)]
          try simp only [List.getElem_toArray, List.getElem_cons_succ, List.getElem_cons_zero]
          (refine wp_store_row 53 (.tmp 7) (.tmp 22) rfl g9 (rowOf .u8 32 RK) rfl rfl 53 _ R9.out (by rw [rowOf_size]; kernel_rfl) (by rw [rowOf_size, rowOf_size]) (rowOf_one _ _ _) ?_)
          refine hK _ _ (not_mem rfl) ?_
          clear hK K
          try simp only [List.getElem_toArray, List.getElem_cons_succ, List.getElem_cons_zero, Act.put, List.setIfInBounds_toArray, List.set_cons_zero, List.set_cons_succ]
          refine anyT_takeY (i := 8) (v := .int .i64 e0) rfl (by kernel_rfl) (by kernel_rfl) (by kernel_rfl) (fun _ _ _ h => h) (by kernel_rfl) (Or.inl ⟨by rfl, by intro w; go_simp⟩) ?_
          try simp only [List.getElem_toArray, List.getElem_cons_succ, List.getElem_cons_zero, Act.put, List.setIfInBounds_toArray, List.set_cons_zero, List.set_cons_succ]
          refine anyT_done (by kernel_rfl) ?_ _
          go_wp2_with (fail)
          go_meet
          have MF := M7.out.call (below_setRow HBW.out HG9.out (rowOf .u8 32 RK))
          exact ⟨g9, rfl, Lib.hid ⟨MF, setRow_heap _ _ _ _ _ _ R9.out⟩⟩
        · rw [if_pos (by rfl)]
          try simp only [List.getElem_toArray, List.getElem_cons_succ, List.getElem_cons_zero]
          (go_simp; have R9 := Lib.hid (RowAt.new w8 .u8 32 53 zF); have HS9 := Lib.hid HBW.out.size; replace HBW := Lib.hid (HBW.out.trans ((below_alloc w8 (.cells (rowOf .u8 32 zF) 53)).mono HBW.out.size)); replace M := Lib.hid (M.out.call (below_alloc w8 (.cells (rowOf .u8 32 zF) 53))))
          refine hK _ _ (fun _ => M.out) ?_
          clear hK K
          try simp only [List.getElem_toArray, List.getElem_cons_succ, List.getElem_cons_zero, Act.put, List.setIfInBounds_toArray, List.set_cons_zero, List.set_cons_succ]
          rw [zeros32']
          obtain ⟨g9, hg9⟩ : ∃ g9, g9 = w8.heap.size := ⟨_, rfl⟩
          have HG9 := Lib.hid (show w7.heap.size ≤ g9 by rw [hg9]; exact HS9.out)
          rw [← hg9] at R9 ⊢
          generalize w8.alloc (.cells (rowOf .u8 32 zF) 53) = w9 at *
          clear hg9
          refine anyT_one (i := 2) (by kernel_rfl) rfl (fun K hK => ?_)
          rw [if_pos (by rfl)]
          try simp only [List.getElem_toArray, List.getElem_cons_succ, List.getElem_cons_zero]
          (go_simp; (with_reducible refine (HRT.out w9).mono ?_); rintro e w10 ⟨rfl, hb⟩; replace R9 := Lib.hid (R9.out.below hb R9.out.lt); replace HBW := Lib.hid (HBW.out.trans (hb.mono HBW.out.size)); replace M := Lib.hid (M.out.call hb); clear hb)
          refine hK _ _ (fun _ => M.out) ?_
          clear hK K
          try simp only [List.getElem_toArray, List.getElem_cons_succ, List.getElem_cons_zero, Act.put, List.setIfInBounds_toArray, List.set_cons_zero, List.set_cons_succ]
          refine anyT_takeY (i := 3) (v := .tuple #[.agg (rowOf .u8 32 RK), .int .i64 e0]) rfl (by kernel_rfl) (by kernel_rfl) (by kernel_rfl) (fun _ _ _ h => h) (by kernel_rfl) (Or.inl ⟨by rfl, by intro w; go_simp⟩) ?_
          try simp only [List.getElem_toArray, List.getElem_cons_succ, List.getElem_cons_zero, Act.put, List.setIfInBounds_toArray, List.set_cons_zero, List.set_cons_succ]
          refine anyT_takeY (i := 4) (v := .agg (rowOf .u8 32 RK)) rfl (by kernel_rfl) (by kernel_rfl) (by kernel_rfl) (fun _ _ _ h => h) (by kernel_rfl) (Or.inl ⟨by rfl, by intro w; go_simp⟩) ?_
          try simp only [List.getElem_toArray, List.getElem_cons_succ, List.getElem_cons_zero, Act.put, List.setIfInBounds_toArray, List.set_cons_zero, List.set_cons_succ]
          refine anyT_takeY (i := 5) (v := .int .i64 e0) rfl (by kernel_rfl) (by kernel_rfl) (by kernel_rfl) (fun _ _ _ h => h) (by kernel_rfl) (Or.inl ⟨by rfl, by intro w; go_simp⟩) ?_
          try simp only [List.getElem_toArray, List.getElem_cons_succ, List.getElem_cons_zero, Act.put, List.setIfInBounds_toArray, List.set_cons_zero, List.set_cons_succ]
          refine anyT_one (i := 7) (by kernel_rfl) rfl (fun K hK => ?_)
          rw [if_pos (by rfl)]
          try simp only [List.getElem_toArray, List.getElem_cons_succ, List.getElem_cons_zero]
          (refine wp_store_row 53 (.tmp 7) (.tmp 22) rfl g9 (rowOf .u8 32 RK) rfl rfl 53 _ R9.out (by rw [rowOf_size]; kernel_rfl) (by rw [rowOf_size, rowOf_size]) (rowOf_one _ _ _) ?_)
          refine hK _ _ (not_mem rfl) ?_
          clear hK K
          try simp only [List.getElem_toArray, List.getElem_cons_succ, List.getElem_cons_zero, Act.put, List.setIfInBounds_toArray, List.set_cons_zero, List.set_cons_succ]
          refine anyT_takeY (i := 8) (v := .int .i64 e0) rfl (by kernel_rfl) (by kernel_rfl) (by kernel_rfl) (fun _ _ _ h => h) (by kernel_rfl) (Or.inl ⟨by rfl, by intro w; go_simp⟩) ?_
          try simp only [List.getElem_toArray, List.getElem_cons_succ, List.getElem_cons_zero, Act.put, List.setIfInBounds_toArray, List.set_cons_zero, List.set_cons_succ]
          refine anyT_done (by kernel_rfl) ?_ _
          go_wp2_with (fail)
          go_meet
          have MF := M7.out.call (below_setRow HBW.out HG9.out (rowOf .u8 32 RK))
          exact ⟨g9, rfl, Lib.hid ⟨MF, setRow_heap _ _ _ _ _ _ R9.out⟩⟩
      · rw [if_pos (by rfl)]
        try simp only [List.getElem_toArray, List.getElem_cons_succ, List.getElem_cons_zero]
        (go_simp; have R9 := Lib.hid (RowAt.new w7 .u8 32 53 zF); have HS9 := Lib.hid HBW.out.size; replace HBW := Lib.hid (HBW.out.trans ((below_alloc w7 (.cells (rowOf .u8 32 zF) 53)).mono HBW.out.size)); replace M := Lib.hid (M.out.call (below_alloc w7 (.cells (rowOf .u8 32 zF) 53))))
        refine hK _ _ (fun _ => M.out) ?_
        clear hK K
        try simp only [List.getElem_toArray, List.getElem_cons_succ, List.getElem_cons_zero, Act.put, List.setIfInBounds_toArray, List.set_cons_zero, List.set_cons_succ]
        rw [zeros32']
        obtain ⟨g9, hg9⟩ : ∃ g9, g9 = w7.heap.size := ⟨_, rfl⟩
        have HG9 := Lib.hid (show w7.heap.size ≤ g9 by rw [hg9]; exact HS9.out)
        rw [← hg9] at R9 ⊢
        generalize w7.alloc (.cells (rowOf .u8 32 zF) 53) = w8 at *
        clear hg9
        refine anyT_one (i := 0) (by kernel_rfl) rfl (fun K hK => ?_)
        rw [if_pos (by rfl)]
        try simp only [List.getElem_toArray, List.getElem_cons_succ, List.getElem_cons_zero]
        (go_simp; (with_reducible refine (HSD.out w8).mono ?_); rintro e w9 ⟨rfl, hb⟩; replace R9 := Lib.hid (R9.out.below hb R9.out.lt); replace HBW := Lib.hid (HBW.out.trans (hb.mono HBW.out.size)); replace M := Lib.hid (M.out.call hb); clear hb)
        refine hK _ _ (fun _ => M.out) ?_
        clear hK K
        try simp only [List.getElem_toArray, List.getElem_cons_succ, List.getElem_cons_zero, Act.put, List.setIfInBounds_toArray, List.set_cons_zero, List.set_cons_succ]
        refine anyT_one (i := 2) (by kernel_rfl) rfl (fun K hK => ?_)
        rw [if_pos (by rfl)]
        try simp only [List.getElem_toArray, List.getElem_cons_succ, List.getElem_cons_zero]
        (go_simp; (with_reducible refine (HRT.out w9).mono ?_); rintro e w10 ⟨rfl, hb⟩; replace R9 := Lib.hid (R9.out.below hb R9.out.lt); replace HBW := Lib.hid (HBW.out.trans (hb.mono HBW.out.size)); replace M := Lib.hid (M.out.call hb); clear hb)
        refine hK _ _ (fun _ => M.out) ?_
        clear hK K
        try simp only [List.getElem_toArray, List.getElem_cons_succ, List.getElem_cons_zero, Act.put, List.setIfInBounds_toArray, List.set_cons_zero, List.set_cons_succ]
        refine anyT_takeY (i := 3) (v := .tuple #[.agg (rowOf .u8 32 RK), .int .i64 e0]) rfl (by kernel_rfl) (by kernel_rfl) (by kernel_rfl) (fun _ _ _ h => h) (by kernel_rfl) (Or.inl ⟨by rfl, by intro w; go_simp⟩) ?_
        try simp only [List.getElem_toArray, List.getElem_cons_succ, List.getElem_cons_zero, Act.put, List.setIfInBounds_toArray, List.set_cons_zero, List.set_cons_succ]
        refine anyT_takeY (i := 4) (v := .agg (rowOf .u8 32 RK)) rfl (by kernel_rfl) (by kernel_rfl) (by kernel_rfl) (fun _ _ _ h => h) (by kernel_rfl) (Or.inl ⟨by rfl, by intro w; go_simp⟩) ?_
        try simp only [List.getElem_toArray, List.getElem_cons_succ, List.getElem_cons_zero, Act.put, List.setIfInBounds_toArray, List.set_cons_zero, List.set_cons_succ]
        refine anyT_takeY (i := 5) (v := .int .i64 e0) rfl (by kernel_rfl) (by kernel_rfl) (by kernel_rfl) (fun _ _ _ h => h) (by kernel_rfl) (Or.inl ⟨by rfl, by intro w; go_simp⟩) ?_
        try simp only [List.getElem_toArray, List.getElem_cons_succ, List.getElem_cons_zero, Act.put, List.setIfInBounds_toArray, List.set_cons_zero, List.set_cons_succ]
        refine anyT_one (i := 7) (by kernel_rfl) rfl (fun K hK => ?_)
        rw [if_pos (by rfl)]
        try simp only [List.getElem_toArray, List.getElem_cons_succ, List.getElem_cons_zero]
        (refine wp_store_row 53 (.tmp 7) (.tmp 22) rfl g9 (rowOf .u8 32 RK) rfl rfl 53 _ R9.out (by rw [rowOf_size]; kernel_rfl) (by rw [rowOf_size, rowOf_size]) (rowOf_one _ _ _) ?_)
        refine hK _ _ (not_mem rfl) ?_
        clear hK K
        try simp only [List.getElem_toArray, List.getElem_cons_succ, List.getElem_cons_zero, Act.put, List.setIfInBounds_toArray, List.set_cons_zero, List.set_cons_succ]
        refine anyT_takeY (i := 8) (v := .int .i64 e0) rfl (by kernel_rfl) (by kernel_rfl) (by kernel_rfl) (fun _ _ _ h => h) (by kernel_rfl) (Or.inl ⟨by rfl, by intro w; go_simp⟩) ?_
        try simp only [List.getElem_toArray, List.getElem_cons_succ, List.getElem_cons_zero, Act.put, List.setIfInBounds_toArray, List.set_cons_zero, List.set_cons_succ]
        refine anyT_done (by kernel_rfl) ?_ _
        go_wp2_with (fail)
        go_meet
        have MF := M7.out.call (below_setRow HBW.out HG9.out (rowOf .u8 32 RK))
        exact ⟨g9, rfl, Lib.hid ⟨MF, setRow_heap _ _ _ _ _ _ R9.out⟩⟩
    case rest =>
      obtain ⟨g7, rfl, M⟩ := hcut
      go_upto_region 4 with (fail)
      refine wp_region_T (fun w' => VgX w q D E2 CX x g7 RK w') [0, 1, 2, 3, 4, 5, 6, 7, 8, 9, 10, 11, 12, 13, 14, 15, 16] (by kernel_rfl) ?_
      replace M := Lib.hid (M.out.call (Below.refl _ _).drew)
      generalize World.drew _ = d0 at *
      refine anyT_take [5, 6, 11, 12, 13, 14, 15, 16] (i := 0) (v := .string c) rfl (by kernel_rfl) (by kernel_rfl) (by kernel_rfl) (fun _ _ _ h => h) (by kernel_rfl) (Or.inl ⟨by rfl, fun w' _ => by go_simp⟩) M.out ?_
      try simp only [List.getElem_toArray, List.getElem_cons_succ, List.getElem_cons_zero, Act.put, List.setIfInBounds_toArray, List.set_cons_zero, List.set_cons_succ]
      refine anyT_take [5, 6, 11, 12, 13, 14, 15, 16] (i := 1) (v := .agg (rowOf .u8 32 RK)) rfl (by kernel_rfl) (by kernel_rfl) (by kernel_rfl) (fun _ _ _ h => h) (by kernel_rfl) (rowT_yields (by rfl) 53 (.tmp 7) rfl (g7) 0 rfl _ _ (fun _ h => rowT_range h.k) Tryz.underlying53 rfl (by rw [rowOf_size]; kernel_rfl)) M.out ?_
      try simp only [List.getElem_toArray, List.getElem_cons_succ, List.getElem_cons_zero, Act.put, List.setIfInBounds_toArray, List.set_cons_zero, List.set_cons_succ]
      refine anyT_take [5, 6, 11, 12, 13, 14, 15, 16] (i := 2) (v := .agg (parC D E2)) rfl (by kernel_rfl) (by kernel_rfl) (by kernel_rfl) (fun _ _ _ h => h) (by kernel_rfl) (rowT_yields (by rfl) 57 (.tmp 4) rfl (q) 0 rfl _ _ (fun _ h => rowT_range h.m.p) Tryz.underlying57 rfl (by rw [parC_size]; kernel_rfl)) M.out ?_
      try simp only [List.getElem_toArray, List.getElem_cons_succ, List.getElem_cons_zero, Act.put, List.setIfInBounds_toArray, List.set_cons_zero, List.set_cons_succ]
      refine anyT_take [4, 5, 6, 11, 12, 13, 14, 15, 16] (i := 3) (v := .agg CX) rfl (by kernel_rfl) (by kernel_rfl) (by kernel_rfl) (fun _ _ _ h => h) (by kernel_rfl) (rowT_yields (by rfl) 27 (.tmp 5) rfl (q + 1) 0 rfl _ _ (fun _ h => rowT_range h.m.r) Tryz.underlying27 rfl (by rw [HCS.out]; kernel_rfl)) M.out ?_
      try simp only [List.getElem_toArray, List.getElem_cons_succ, List.getElem_cons_zero, Act.put, List.setIfInBounds_toArray, List.set_cons_zero, List.set_cons_succ]
      refine anyT_take [11, 12, 13, 14, 15, 16] (i := 7) (v := .string c) rfl (by kernel_rfl) (by kernel_rfl) (by kernel_rfl) (fun _ _ _ h => h) (by kernel_rfl) (Or.inl ⟨by rfl, fun w' _ => by go_simp⟩) M.out ?_
      try simp only [List.getElem_toArray, List.getElem_cons_succ, List.getElem_cons_zero, Act.put, List.setIfInBounds_toArray, List.set_cons_zero, List.set_cons_succ]
      refine anyT_take [11, 12, 13, 14, 15, 16] (i := 8) (v := .agg (rowOf .u8 32 RK)) rfl (by kernel_rfl) (by kernel_rfl) (by kernel_rfl) (fun _ _ _ h => h) (by kernel_rfl) (rowT_yields (by rfl) 53 (.tmp 7) rfl (g7) 0 rfl _ _ (fun _ h => rowT_range h.k) Tryz.underlying53 rfl (by rw [rowOf_size]; kernel_rfl)) M.out ?_
      try simp only [List.getElem_toArray, List.getElem_cons_succ, List.getElem_cons_zero, Act.put, List.setIfInBounds_toArray, List.set_cons_zero, List.set_cons_succ]
      refine anyT_take [11, 12, 13, 14, 15, 16] (i := 9) (v := .agg (parC D E2)) rfl (by kernel_rfl) (by kernel_rfl) (by kernel_rfl) (fun _ _ _ h => h) (by kernel_rfl) (rowT_yields (by rfl) 57 (.tmp 4) rfl (q) 0 rfl _ _ (fun _ h => rowT_range h.m.p) Tryz.underlying57 rfl (by rw [parC_size]; kernel_rfl)) M.out ?_
      try simp only [List.getElem_toArray, List.getElem_cons_succ, List.getElem_cons_zero, Act.put, List.setIfInBounds_toArray, List.set_cons_zero, List.set_cons_succ]
      refine anyT_take [11, 12, 13, 14, 15, 16] (i := 10) (v := .agg CX) rfl (by kernel_rfl) (by kernel_rfl) (by kernel_rfl) (fun _ _ _ h => h) (by kernel_rfl) (rowT_yields (by rfl) 27 (.tmp 5) rfl (q + 1) 0 rfl _ _ (fun _ h => rowT_range h.m.r) Tryz.underlying27 rfl (by rw [HCS.out]; kernel_rfl)) M.out ?_
      try simp only [List.getElem_toArray, List.getElem_cons_succ, List.getElem_cons_zero, Act.put, List.setIfInBounds_toArray, List.set_cons_zero, List.set_cons_succ]
      refine anyT_one (i := 4) (by kernel_rfl) rfl (fun K hK => ?_)
      rw [if_pos (by rfl)]
      try simp only [List.getElem_toArray, List.getElem_cons_succ, List.getElem_cons_zero]
      (go_simp; (with_reducible refine (HG.out _ M.out.m.x).mono ?_); rintro e x1 ⟨y, rfl, hye, hyp, hyf, -, -, hb⟩; have HY := Lib.hid hye; have HYP := Lib.hid hyp; have HYF := Lib.hid hyf; clear hye hyp hyf; replace M := Lib.hid (M.out.call hb); clear hb)
      refine hK _ _ (fun _ => M.out) ?_
      clear hK K
      try simp only [List.getElem_toArray, List.getElem_cons_succ, List.getElem_cons_zero, Act.put, List.setIfInBounds_toArray, List.set_cons_zero, List.set_cons_succ]
      refine anyT_one (i := 5) (by kernel_rfl) rfl (fun K hK => ?_)
      rw [if_pos (by rfl)]
      try simp only [List.getElem_toArray, List.getElem_cons_succ, List.getElem_cons_zero]
      (go_simp; (with_reducible refine (HTV.out y x1 (HEN.out.below M.out.m.b HEN.out.lt) (HTB.out.below M.out.m.b HTB.out.lt) HY.out HYF.out (HYP.out.trans HP.out.symm)).mono ?_); rintro e x2 ⟨rfl, hb⟩; clear HY HYP HYF; replace M := Lib.hid (M.out.call hb); clear hb)
      refine hK _ _ (fun _ => M.out) ?_
      clear hK K
      try simp only [List.getElem_toArray, List.getElem_cons_succ, List.getElem_cons_zero, Act.put, List.setIfInBounds_toArray, List.set_cons_zero, List.set_cons_succ]
      refine anyT_one (i := 6) (by kernel_rfl) rfl (fun K hK => ?_)
      rw [if_pos (by rfl)]
      try simp only [List.getElem_toArray, List.getElem_cons_succ, List.getElem_cons_zero]
      (go_simp; (with_reducible refine (HNV.out _ (HGE.out.below M.out.m.b)).mono ?_); rintro e x3 ⟨rfl, hb⟩; replace M := Lib.hid (M.out.call hb); clear hb)
      refine hK _ _ (fun _ => M.out) ?_
      clear hK K
      try simp only [List.getElem_toArray, List.getElem_cons_succ, List.getElem_cons_zero, Act.put, List.setIfInBounds_toArray, List.set_cons_zero, List.set_cons_succ]
      refine anyT_one (i := 11) (by kernel_rfl) rfl (fun K hK => ?_)
      rw [if_pos (by rfl)]
      try simp only [List.getElem_toArray, List.getElem_cons_succ, List.getElem_cons_zero]
      (go_simp; (with_reducible refine (HRV.out _ M.out.m.x).mono ?_); rintro e x4 ⟨rfl, hb⟩; replace M := Lib.hid (M.out.call hb); clear hb)
      refine hK _ _ (fun _ => M.out) ?_
      clear hK K
      try simp only [List.getElem_toArray, List.getElem_cons_succ, List.getElem_cons_zero, Act.put, List.setIfInBounds_toArray, List.set_cons_zero, List.set_cons_succ]
      refine anyT_take [13, 14, 15, 16] (i := 12) (v := .bool true) rfl (by kernel_rfl) (by kernel_rfl) (by kernel_rfl) (fun _ _ _ h => h) (by kernel_rfl) (Or.inl ⟨by rfl, fun w' _ => by go_simp⟩) M.out ?_
      try simp only [List.getElem_toArray, List.getElem_cons_succ, List.getElem_cons_zero, Act.put, List.setIfInBounds_toArray, List.set_cons_zero, List.set_cons_succ]
      refine anyT_take [14, 15, 16] (i := 13) (v := .bool true) rfl (by kernel_rfl) (by kernel_rfl) (by kernel_rfl) (fun _ _ _ h => h) (by kernel_rfl) (Or.inl ⟨by rfl, fun w' _ => by go_simp⟩) M.out ?_
      try simp only [List.getElem_toArray, List.getElem_cons_succ, List.getElem_cons_zero, Act.put, List.setIfInBounds_toArray, List.set_cons_zero, List.set_cons_succ]
      refine anyT_one (i := 14) (by kernel_rfl) rfl (fun K hK => ?_)
      rw [if_pos (by rfl)]
      try simp only [List.getElem_toArray, List.getElem_cons_succ, List.getElem_cons_zero]
      (go_simp; (with_reducible refine (HSU.out _ (HTB.out.below M.out.m.b HTB.out.lt)).mono ?_); rintro e x5 ⟨rfl, hb⟩; replace M := Lib.hid (M.out.call hb); clear hb)
      refine hK _ _ (fun _ => M.out) ?_
      clear hK K
      try simp only [List.getElem_toArray, List.getElem_cons_succ, List.getElem_cons_zero, Act.put, List.setIfInBounds_toArray, List.set_cons_zero, List.set_cons_succ]
      refine anyT_take [16] (i := 15) (v := .bool true) rfl (by kernel_rfl) (by kernel_rfl) (by kernel_rfl) (fun _ _ _ h => h) (by kernel_rfl) (Or.inl ⟨by rfl, fun w' _ => by go_simp⟩) M.out ?_
      try simp only [List.getElem_toArray, List.getElem_cons_succ, List.getElem_cons_zero, Act.put, List.setIfInBounds_toArray, List.set_cons_zero, List.set_cons_succ]
      refine anyT_take [] (i := 16) (v := .bool true) rfl (by kernel_rfl) (by kernel_rfl) (by kernel_rfl) (fun _ _ _ h => h) (by kernel_rfl) (Or.inl ⟨by rfl, fun w' _ => by go_simp⟩) M.out ?_
      try simp only [List.getElem_toArray, List.getElem_cons_succ, List.getElem_cons_zero, Act.put, List.setIfInBounds_toArray, List.set_cons_zero, List.set_cons_succ]
      refine anyT_done (by kernel_rfl) ?_ _
      go_wp2_with (fail)
      go_ret
      exact ⟨rfl, M.out.m.b⟩
end Go.Proofs.YtejglhlodfhgkaaGreatDoor
