/- Part 45 of the proof. -/
import Derived.Test.YtejglhlodfhgkaaGreatDoorXv44
namespace Go.Proofs.YtejglhlodfhgkaaGreatDoor
set_option linter.unusedVariables false
set_option linter.unusedSimpArgs false
open Go.RowKit
set_option maxRecDepth 100000
set_option linter.unusedSimpArgs false
set_option linter.unusedVariables false
theorem gv_built (ac dn : ByteArray) (S A : Int) : Tryz.prog.built 34 [(0, .string ac), (1, .int .i64 S), (2, .agg #[.string dn, .int .i64 A])] = some #[.string ac, .int .i64 S, .string dn, .int .i64 A, .slice none 0 0, .slice none 0 0] := by kernel_rfl
/-- what give answers -/
def GvPost (x : Tr) (w : World) (e : Ending) (w' : World) : Prop := ∃ y : Tr, e = .returned (.agg (trC15 y)) ∧ TrE w' y ∧ pxP y = pxP x ∧ TrFl y ∧ w'.ownsRow w.heap.size 5 1 y.sv y.sg.length (byteVals y.sg) ∧ (∀ j, y.sv.ownBlock = some j → y.mv.ownBlock ≠ some j ∧ ∀ m ∈ y.ms, ¬ mgF m j) ∧ Below w.heap.size w w'
structure TrSm (x : Tr) : Prop where
  m : x.ms.length ≤ 1048576
  s : x.sg.length ≤ 1048576
  e : ∀ m ∈ x.ms, m.ts.length ≤ 1048576 ∧ m.is.length ≤ 1048576 ∧ m.ds.length ≤ 1048576 ∧ ∀ t ∈ m.ds, t.bs.length ≤ 1048576
def GvR (w0 : World) (p0 p2 y B : Nat) (cz : Array Value) (x : Tr) (sv : Value) (k : Nat) (wr : World) : Prop := ∃ mv ms, ms.length = k ∧ GvO w0 p0 p2 y B cz x sv mv ms k wr
/-- the inner loop: j of the data are copied -/
def GvJ (w1 : World) (q : Nat) (u : Mg) (tv iv : Value) (j : Nat) (wr : World) : Prop := ∃ dv ds, ds.length = j ∧ ds.map Tb.bs = (u.ds.take j).map Tb.bs ∧ GvI w1 q u.kind tv iv dv u.ts u.is ds wr
theorem below_drew15 (w : World) : Below w.heap.size w w.drew := (Below.refl _ _).drew
set_option maxHeartbeats 16000000 in
theorem lxgive_any (x : Tr) (w : World) (hx : TrE w x) (hf : TrFl x) (hz : TrSm x) : Calls Tryz.prog 11 #[.agg (trC15 x)] w (GvPost x w) := by
  obtain ⟨⟨xa, xc, e1⟩, ⟨sa, sc, e2⟩⟩ := hx.v
  have HX := Lib.hid hx
  have HF := Lib.hid hf
  have HZ := Lib.hid hz
  have HB1 := Lib.hid (show (gv_built x.acc x.den x.seq x.amt) = gv_built x.acc x.den x.seq x.amt from rfl)
  have HTB := Lib.hid (gv_built x.acc x.den x.seq x.amt)
  have r1 : ∀ o, ((w.alloc (.cells (trC15 x) 27)).alloc o).heap[w.heap.size]? = some (.cells (trC15 x) 27 (0, 0)) := fun o => by
    rw [heap_alloc_old _ _ (by simp), heap_alloc_new]
  have b1 : ∀ o, Below w.heap.size w ((w.alloc (.cells (trC15 x) 27)).alloc o) := fun o => ((Below.refl _ w).alloc (Nat.le_refl _) _).alloc (by simp) _
  have s1 : ∀ o, ((w.alloc (.cells (trC15 x) 27)).alloc o).heap.size = w.heap.size + 1 + 1 := fun o => by simp
  have HR1 := Lib.hid r1
  have HBW := Lib.hid b1
  have HS1 := Lib.hid s1
  clear r1 b1 s1 HB1 hx hf hz
  unfold GvPost
  generalize hPO : (fun (e : Ending) (w' : World) => ∃ y : Tr, e = .returned (.agg (trC15 y)) ∧ TrE w' y ∧ pxP y = pxP x ∧ TrFl y ∧ w'.ownsRow w.heap.size 5 1 y.sv y.sg.length (byteVals y.sg) ∧ (∀ j, y.sv.ownBlock = some j → y.mv.ownBlock ≠ some j ∧ ∀ m ∈ y.ms, ¬ mgF m j) ∧ Below w.heap.size w w') = PO
  have HPO := Lib.hid hPO
  clear hPO
  go_enter Tryz.func11, Tryz.ntmps11
  go_upto_region 1 with (fail)
  generalize hA : World.alloc (World.alloc w _) _ = w1
  obtain ⟨cz, hcz, hq⟩ : ∃ cz : Array Value, cz.size = 6 ∧ w1.heap[w.heap.size + 1]? = some (.cells cz 34 (0, 0)) := ⟨_, by kernel_rfl, by rw [← hA]; have h := heap_alloc_new (w.alloc (.cells (trC15 x) 27)) (.cells #[.string { data := #[] }, .int .i64 0, .string { data := #[] }, .int .i64 0, .slice none 0 0, .slice none 0 0] 34); rw [size_alloc] at h; exact h⟩
  have HCZ := Lib.hid hcz
  have HR2 := Lib.hid hq
  replace HR1 := Lib.hid (show w1.heap[w.heap.size]? = some (.cells (trC15 x) 27 (0, 0)) from by rw [← hA]; exact HR1.out _)
  replace HBW := Lib.hid (show Below w.heap.size w w1 from by rw [← hA]; exact HBW.out _)
  replace HS1 := Lib.hid (show w1.heap.size = w.heap.size + 1 + 1 from by rw [← hA]; exact HS1.out _)
  clear hA hcz hq
  obtain ⟨p0, hp0⟩ : ∃ z, z = w.heap.size := ⟨_, rfl⟩
  obtain ⟨p2, hp2⟩ : ∃ z, z = w.heap.size + 1 := ⟨_, rfl⟩
  have HPP := Lib.hid (show p0 = w.heap.size ∧ p2 = w.heap.size + 1 from ⟨hp0, hp2⟩)
  rw [← hp0] at HR1
  rw [← hp2] at HR2
  rw [← hp2, ← hp0]
  clear hp0 hp2
  have HC15 := Lib.hid (show trC15 x = #[.string x.acc, .int .i64 x.seq, .string x.den, .int .i64 x.amt, .slice xa x.ms.length xc, .slice sa x.sg.length sc] from by unfold trC15; rw [e1, e2])
  obtain ⟨c0, c1, cr, -⟩ := tx_cells (show w1.heap[p0]? = some (.cells #[.string x.acc, .int .i64 x.seq, .string x.den, .int .i64 x.amt, .slice xa x.ms.length xc, .slice sa x.sg.length sc] 27 (0, 0)) from by rw [← HC15.out]; exact HR1.out)
  have HCR := Lib.hid cr
  obtain ⟨CV, hCV⟩ : ∃ z : Array Value, z = #[.string x.acc, .int .i64 x.seq, .string x.den, .int .i64 x.amt, .slice none 0 0, .slice none 0 0] := ⟨_, rfl⟩
  have HCV := Lib.hid hCV
  have HBU := Lib.hid (HTB.out.trans (congrArg some hCV.symm))
  have HVS := Lib.hid (show CV.size = 6 from by rw [hCV]; rfl)
  have HVO := Lib.hid (show CV.all (·.oneCell') = true from by rw [hCV]; simp [Value.oneCell'])
  clear cr hCV HTB
  go_upto_region 2 with (first
    | (refine wpList_load_rowT (by rfl) 23 (.tmp 12) rfl p0 2 rfl #[.string x.den, .int .i64 x.amt] _ HCR.out Tryz.underlying23 rfl (by kernel_rfl) ?_)
    | (refine wpList_buildTo rfl 34 #[(0, .tmp 9), (1, .tmp 11), (2, .tmp 13)] rfl (some 14) rfl CV (by refine Eq.trans (congrArg (Tryz.prog.built 34) ?_) HBU.out; kernel_rfl) ?_)
    | (refine wpList_store_row rfl 34 (.tmp 3) (.tmp 14) rfl w1.heap.size CV rfl rfl 34 _ (heap_alloc_new _ _) (by rw [HVS.out]; kernel_rfl) (by rw [HVS.out]; rfl) HVO.out ?_; rw [World.setRow_alloc_new]))
  clear c0 c1 HCR
  have hq := heap_alloc_new w1 (.cells CV 34)
  have hb := below_alloc w1 (.cells CV 34)
  have hs2 : (w1.alloc (.cells CV 34)).heap.size = w1.heap.size + 1 := by simp
  obtain ⟨y, hy⟩ : ∃ z, z = w1.heap.size := ⟨_, rfl⟩
  rw [← hy] at hq hs2 ⊢
  have HRY := Lib.hid hq
  replace HR1 := Lib.hid ((hb.block p0 (bkT_lt HR1.out)).trans HR1.out)
  replace HR2 := Lib.hid ((hb.block p2 (bkT_lt HR2.out)).trans HR2.out)
  replace HBW := Lib.hid (HBW.out.trans (hb.mono HBW.out.size))
  obtain ⟨B, hB⟩ : ∃ z, z = y + 1 := ⟨_, rfl⟩
  have HYB := Lib.hid (show y = w.heap.size + 1 + 1 ∧ B = y + 1 ∧ (w1.alloc (.cells CV 34)).heap.size = B from ⟨by rw [hy]; exact HS1.out, hB, by rw [hs2, hB]⟩)
  clear hq hb hs2 hy hB HS1
  generalize w1.alloc (.cells CV 34) = w2 at *
  have HXS := Lib.hid (HX.out.s.below HBW.out)
  rw [e2] at HXS
  rw [HCV.out] at HRY
  have k5 := (tx_cells HRY.out).2.2.2.2.2.2
  have c5 := (tx_cells (show w2.heap[p0]? = some (.cells #[.string x.acc, .int .i64 x.seq, .string x.den, .int .i64 x.amt, .slice xa x.ms.length xc, .slice sa x.sg.length sc] 27 (0, 0)) from by rw [← HC15.out]; exact HR1.out)).2.2.2.2.2.2
  go_upto_region 3 with (at_builtin; refine wpList_append_bytes rfl (.tmp 16) (.tmp 18) rfl rfl B (.slice none 0 0) 0 [] rfl (World.ownsRow_nil _ _ _ _) (.slice sa x.sg.length sc) x.sg rfl HXS.out (by have := HZ.out.s; omega) (by rw [HYB.out.2.2]; exact Nat.le_refl _) ?_; intro v4 w3 ho4 hg4 hw4; obtain ⟨a4, c4, hv4⟩ := owns_wide ho4; rw [Nat.zero_add] at hv4; subst hv4; have HO := Lib.hid (show w3.ownsRow B 5 1 (.slice a4 x.sg.length c4) x.sg.length (byteVals x.sg) from by rw [Nat.zero_add] at ho4; simpa using ho4); have HG := Lib.hid hg4; clear ho4 hg4 hw4; have hry := (HG.out.block y (bkT_lt HRY.out) (fun e => by cases e)).trans HRY.out; have k9 := (tx_cells hry).2.2.2.2.2.2; have kf := frozen_of_row w3 y 5 _ _ hry; clear hry)
  clear k5 c5 k9 kf
  have hO := Only.setCell w3 ⟨y, 5, none⟩ (.slice a4 x.sg.length c4)
  have hst : ∀ j, j < B → w3.heap[j]? = w2.heap[j]? := fun j hj => HG.out.block j (by rw [HYB.out.2.2]; exact hj) (fun e => by cases e)
  have hsz3 : B ≤ w3.heap.size := by have := HG.out.size; rw [HYB.out.2.2] at this; exact this
  have M0 := Lib.hid (show GvO w p0 p2 y B cz x (.slice a4 x.sg.length c4) (.slice none 0 0) [] 0 (w3.setCell ⟨y, 5, none⟩ (.slice a4 x.sg.length c4)) from by
    obtain ⟨h1, h2⟩ := HPP.out
    obtain ⟨h3, h4, h5⟩ := HYB.out
    have hb0 : Below w.heap.size w w3 := ⟨HG.out.os.trans HBW.out.os, HG.out.tape.trans HBW.out.tape, HG.out.output.trans HBW.out.output, Nat.le_trans HBW.out.size HG.out.size, fun j hj => (hst j (by omega)).trans (HBW.out.block j hj)⟩
    refine ⟨⟨hO.os.trans hb0.os, hO.tape.trans hb0.tape, hO.output.trans hb0.output, Nat.le_trans hb0.size hO.size, fun j hj => (hO.block j (Nat.lt_of_lt_of_le hj hb0.size) (by show j ≠ y; omega)).trans (hb0.block j hj)⟩, (hO.block p0 (by omega) (by show p0 ≠ y; omega)).trans ((hst p0 (by omega)).trans HR1.out), (hO.block p2 (by omega) (by show p2 ≠ y; omega)).trans ((hst p2 (by omega)).trans HR2.out), ?_, own_stay11 HO.out fun j hj => hO.block j (HO.out.lt j hj).2 (by have := (HO.out.lt j hj).1; show j ≠ y; omega), World.ownsRow_nil _ _ _ _, (fun t ht => by cases ht), rfl, by omega, by omega, by omega, by omega, Nat.le_trans hsz3 hO.size⟩
    rw [heap_setCell_same w3 y 5 _ _ _ ((hst y (by omega)).trans HRY.out)]; rfl)
  clear hO hst hsz3 HO HG HR1 HR2 HRY HBW HXS HYB HCV HBU HVS HVO
  generalize w3.setCell ⟨y, 5, none⟩ (.slice a4 x.sg.length c4) = w4 at *

  go_wp2_with (fail)
  go_loopw [4] (fun v wx => ∃ k : Nat, k ≤ x.ms.length ∧ v = .int .i64 (k : Int) ∧ Hid (GvR w p0 p2 y B cz x (.slice a4 x.sg.length c4) k wx)) (fun v _ => x.ms.length - (intOf v).toNat)
  case atStart => exact ⟨0, Nat.zero_le _, rfl, Lib.hid ⟨.slice none 0 0, [], rfl, M0.out⟩⟩
  case round =>
    clear M0
    obtain ⟨wx, hwx⟩ : ∃ z, z = wr := ⟨_, rfl⟩
    subst hwx
    obtain ⟨k, hkn, rfl, HR⟩ := hrel
    obtain ⟨mv, ms, hl, hm⟩ := HR.out
    obtain ⟨ma, mc, hvv⟩ := own_slice11 hm.m
    rw [hl] at hvv
    subst hvv
    have M := Lib.hid hm
    have HL := Lib.hid hl
    have hr1 := hm.r1
    rw [HC15.out] at hr1
    have cp : wx.cell? ⟨p0, 4, none⟩ = some (.slice xa x.ms.length xc) := (tx_cells hr1).2.2.2.2.2.1
    clear HR hl hm hr1
    by_cases hlt : k < x.ms.length
    · have hltI : (k : Int) < (x.ms.length : Int) := by omega
      have hmsn := HZ.out.m
      obtain ⟨u, hu⟩ : ∃ u, x.ms[k]? = some u := ⟨x.ms[k], List.getElem?_eq_getElem hlt⟩
      have HU := Lib.hid hu
      have hum := List.mem_of_getElem? hu
      have HUE := Lib.hid ((HX.out.e u hum).below M.out.below)
      have HZU := Lib.hid (HZ.out.e u hum)
      have HUF := Lib.hid (HF.out.m u hum)
      have hin : MgIn wx (.slice xa x.ms.length xc) x.ms := by rw [← e1]; exact HX.out.m.below M.out.below
      obtain ⟨ab, ao, rfl, hab, hra⟩ := hin.at hu
      obtain ⟨⟨ta, tc, et⟩, ⟨ia, ic, ei⟩, ⟨da, dc, ed⟩⟩ := HUE.out.v
      have q0 : wx.cell? ⟨ab, ao + k * 4, none⟩ = some (.int .i64 u.kind) := hra 0 _ rfl
      have q1 : wx.cell? ⟨ab, ao + k * 4 + 1, none⟩ = some (.slice ta u.ts.length tc) := (hra 1 _ rfl).trans (congrArg some et)
      have q2 : wx.cell? ⟨ab, ao + k * 4 + 2, none⟩ = some (.slice ia u.is.length ic) := (hra 2 _ rfl).trans (congrArg some ei)
      have q3 : wx.cell? ⟨ab, ao + k * 4 + 3, none⟩ = some (.slice da u.ds.length dc) := (hra 3 _ rfl).trans (congrArg some ed)
      have HCP := Lib.hid (show ∀ w', Below wx.heap.size wx w' → w'.cell? ⟨p0, 4, none⟩ = some (.slice (some ⟨ab, ao, none⟩) x.ms.length xc) ∧ w'.cell? ⟨ab, ao + k * 4 + 1, none⟩ = some (.slice ta u.ts.length tc) ∧ w'.cell? ⟨ab, ao + k * 4 + 2, none⟩ = some (.slice ia u.is.length ic) ∧ w'.cell? ⟨ab, ao + k * 4 + 3, none⟩ = some (.slice da u.ds.length dc) from fun w' hb =>
        ⟨(hb.cell (p := ⟨p0, 4, none⟩) (World.block_lt_of_cell? _ _ cp)).trans cp, (hb.cell (p := ⟨ab, ao + k * 4 + 1, none⟩) hab).trans q1, (hb.cell (p := ⟨ab, ao + k * 4 + 2, none⟩) hab).trans q2, (hb.cell (p := ⟨ab, ao + k * 4 + 3, none⟩) hab).trans q3⟩)
      have HUT := Lib.hid (show StIn wx (.slice ta u.ts.length tc) u.ts from et ▸ HUE.out.t)
      have HUI := Lib.hid (show ItIn wx (.slice ia u.is.length ic) u.is from ei ▸ HUE.out.i)
      have HUD := Lib.hid (show TbIn wx (.slice da u.ds.length dc) u.ds from ed ▸ HUE.out.d)
      clear hin hra hab hum q1 q2 q3 et ei ed hu
      go_upto_region 7 with (fail)
      clear cp q0
      have hq9 := heap_alloc_new wx (.cells #[.int .i64 u.kind, .slice none 0 0, .slice none 0 0, .slice none 0 0] 113)
      have hb9 := below_alloc wx (.cells #[.int .i64 u.kind, .slice none 0 0, .slice none 0 0, .slice none 0 0] 113)
      obtain ⟨q, hq⟩ : ∃ z, z = wx.heap.size := ⟨_, rfl⟩
      have HQ := Lib.hid hq
      have I0 := Lib.hid (show GvI wx q u.kind (.slice none 0 0) (.slice none 0 0) (.slice none 0 0) [] [] [] (wx.alloc (.cells #[.int .i64 u.kind, .slice none 0 0, .slice none 0 0, .slice none 0 0] 113)) from ⟨hb9, by rw [hq]; exact hq9, World.ownsRow_nil _ _ _ _, World.ownsRow_nil _ _ _ _, World.ownsRow_nil _ _ _ _, (fun t ht => by cases ht), by rw [hq]; exact Nat.le_refl _⟩)
      rw [← hq]
      clear hq hq9 hb9
      generalize wx.alloc (.cells #[.int .i64 u.kind, .slice none 0 0, .slice none 0 0, .slice none 0 0] 113) = w5 at *
      have cu : w5.cell? ⟨q, 1, none⟩ = some (.slice none 0 0) := (mg_cells I0.out.r).2.1
      have HALL := Lib.hid (show (w5.cell? ⟨q, 1, none⟩ = some (.slice none 0 0) ∧ w5.cell? ⟨p0, 4, none⟩ = some (.slice (some ⟨ab, ao, none⟩) x.ms.length xc)) ∧ w5.cell? ⟨ab, ao + k * 4 + 1, none⟩ = some (.slice ta u.ts.length tc) from ⟨⟨cu, (HCP.out w5 I0.out.below).1⟩, (HCP.out w5 I0.out.below).2.1⟩)
      clear cu
      refine wp_region_T (fun w' => (w'.cell? ⟨q, 1, none⟩ = some (.slice none 0 0) ∧ w'.cell? ⟨p0, 4, none⟩ = some (.slice (some ⟨ab, ao, none⟩) x.ms.length xc)) ∧ w'.cell? ⟨ab, ao + k * 4 + 1, none⟩ = some (.slice ta u.ts.length tc)) [1, 3, 5, 6, 7] (by kernel_rfl) ?_
      replace HALL := Lib.hid (show (w5.drew.cell? ⟨q, 1, none⟩ = some (.slice none 0 0) ∧ w5.drew.cell? ⟨p0, 4, none⟩ = some (.slice (some ⟨ab, ao, none⟩) x.ms.length xc)) ∧ w5.drew.cell? ⟨ab, ao + k * 4 + 1, none⟩ = some (.slice ta u.ts.length tc) from HALL.out)
      replace I0 := Lib.hid (I0.out.call (below_drew15 w5))
      generalize w5.drew = w6 at *
      refine anyT_takeY (i := 0) (v := .pointer (some ⟨q, 1, none⟩)) rfl (by kernel_rfl) (by kernel_rfl) (by kernel_rfl) (fun _ _ _ h => h) (by kernel_rfl) (Or.inl ⟨by rfl, by intro w; go_simp⟩) ?_
      try simp only [List.getElem_toArray, List.getElem_cons_succ, List.getElem_cons_zero, Act.put, List.setIfInBounds_toArray, List.set_cons_zero, List.set_cons_succ]
      refine anyT_takeY (i := 2) (v := .pointer (some ⟨p0, 4, none⟩)) rfl (by kernel_rfl) (by kernel_rfl) (by kernel_rfl) (fun _ _ _ h => h) (by kernel_rfl) (Or.inl ⟨by rfl, by intro w; go_simp⟩) ?_
      try simp only [List.getElem_toArray, List.getElem_cons_succ, List.getElem_cons_zero, Act.put, List.setIfInBounds_toArray, List.set_cons_zero, List.set_cons_succ]
      refine anyT_takeY (i := 4) (v := .int .i64 (k : Int)) rfl (by kernel_rfl) (by kernel_rfl) (by kernel_rfl) (fun _ _ _ h => h) (by kernel_rfl) (Or.inl ⟨by rfl, by intro w; go_simp⟩) ?_
      try simp only [List.getElem_toArray, List.getElem_cons_succ, List.getElem_cons_zero, Act.put, List.setIfInBounds_toArray, List.set_cons_zero, List.set_cons_succ]
      refine anyT_take [8, 9, 10] (i := 1) (v := .slice none 0 0) rfl (by kernel_rfl) (by kernel_rfl) (by kernel_rfl) (fun _ _ _ h => h) (by kernel_rfl) (Or.inl ⟨by rfl, fun w' hS => by have c := hS.1.1; go_simp⟩) HALL.out ?_
      try simp only [List.getElem_toArray, List.getElem_cons_succ, List.getElem_cons_zero, Act.put, List.setIfInBounds_toArray, List.set_cons_zero, List.set_cons_succ]
      refine anyT_take [5, 6, 7, 8, 9, 10] (i := 3) (v := .slice (some ⟨ab, ao, none⟩) x.ms.length xc) rfl (by kernel_rfl) (by kernel_rfl) (by kernel_rfl) (fun _ _ _ h => h) (by kernel_rfl) (Or.inl ⟨by rfl, fun w' hS => by have c := hS.1.2; go_simp⟩) HALL.out ?_
      try simp only [List.getElem_toArray, List.getElem_cons_succ, List.getElem_cons_zero, Act.put, List.setIfInBounds_toArray, List.set_cons_zero, List.set_cons_succ]
      refine anyT_take [6, 7, 8, 9, 10] (i := 5) (v := .pointer (some ⟨ab, ao + k * 4, none⟩)) rfl (by kernel_rfl) (by kernel_rfl) (by kernel_rfl) (fun _ _ _ h => h) (by kernel_rfl) (Or.inl ⟨by rfl, fun w' _ => by go_simp⟩) HALL.out ?_
      try simp only [List.getElem_toArray, List.getElem_cons_succ, List.getElem_cons_zero, Act.put, List.setIfInBounds_toArray, List.set_cons_zero, List.set_cons_succ]
      refine anyT_take [7, 8, 9, 10] (i := 6) (v := .pointer (some ⟨ab, ao + k * 4 + 1, none⟩)) rfl (by kernel_rfl) (by kernel_rfl) (by kernel_rfl) (fun _ _ _ h => h) (by kernel_rfl) (Or.inl ⟨by rfl, fun w' _ => by go_simp⟩) HALL.out ?_
      try simp only [List.getElem_toArray, List.getElem_cons_succ, List.getElem_cons_zero, Act.put, List.setIfInBounds_toArray, List.set_cons_zero, List.set_cons_succ]
      refine anyT_take [8, 9, 10] (i := 7) (v := .slice ta u.ts.length tc) rfl (by kernel_rfl) (by kernel_rfl) (by kernel_rfl) (fun _ _ _ h => h) (by kernel_rfl) (Or.inl ⟨by rfl, fun w' hS => by have c := hS.2; go_simp⟩) HALL.out ?_
      try simp only [List.getElem_toArray, List.getElem_cons_succ, List.getElem_cons_zero, Act.put, List.setIfInBounds_toArray, List.set_cons_zero, List.set_cons_succ]
      refine anyT_one (i := 8) (by kernel_rfl) rfl (fun K hK => ?_)
      rw [if_pos (by rfl)]
      try simp only [List.getElem_toArray, List.getElem_cons_succ, List.getElem_cons_zero]
      (refine wp_append_rows (n := 1) (C := stL) (fun _ => rfl) 108 9 (.string { data := #[] }) Tryz.underlying108 info15S (by kernel_rfl) (by omega) (.tmp 36) (.tmp 42) rfl rfl (q + 1) (.slice none 0 0) [] rfl (World.ownsRow_nil _ _ _ _) (.slice ta u.ts.length tc) u.ts rfl (HUT.out.below I0.out.below) (fun y _ => one15S y trivial) (by have := HZU.out.1; simp only [List.length_nil]; omega) (by have := HZU.out.1; simp only [List.length_nil]; unfold maxLen; omega) I0.out.q1 ?_; intro v8 w8 ho hgr hno; clear hno; rw [List.nil_append] at ho; obtain ⟨xa1, xc1, rfl⟩ := own_slice11 ho; have HO := Lib.hid ho; have HG := Lib.hid hgr; clear ho hgr; have hr8 : w8.heap[q]? = some (.cells #[.int .i64 u.kind, .slice none 0 0, .slice none 0 0, .slice none 0 0] 113 (0, 0)) := (HG.out.block q I0.out.q1 (fun e => by cases e)).trans I0.out.r)
      refine hK _ _ (not_mem rfl) ?_
      clear hK K
      try simp only [List.getElem_toArray, List.getElem_cons_succ, List.getElem_cons_zero, Act.put, List.setIfInBounds_toArray, List.set_cons_zero, List.set_cons_succ]
      refine anyT_takeY (i := 9) (v := .pointer (some ⟨q, 1, none⟩)) rfl (by kernel_rfl) (by kernel_rfl) (by kernel_rfl) (fun _ _ _ h => h) (by kernel_rfl) (Or.inl ⟨by rfl, by intro w; go_simp⟩) ?_
      try simp only [List.getElem_toArray, List.getElem_cons_succ, List.getElem_cons_zero, Act.put, List.setIfInBounds_toArray, List.set_cons_zero, List.set_cons_succ]
      refine anyT_one (i := 10) (by kernel_rfl) rfl (fun K hK => ?_)
      rw [if_pos (by rfl)]
      try simp only [List.getElem_toArray, List.getElem_cons_succ, List.getElem_cons_zero]
      (have k1 := (mg_cells hr8).2.1; have k2 : w8.frozen? ⟨q, 1, none⟩ = false := frozen_of_row w8 q 1 _ _ hr8; go_simp; clear k1 k2)
      refine hK _ _ (not_mem rfl) ?_
      clear hK K
      try simp only [List.getElem_toArray, List.getElem_cons_succ, List.getElem_cons_zero, Act.put, List.setIfInBounds_toArray, List.set_cons_zero, List.set_cons_succ]
      refine anyT_done (by kernel_rfl) ?_ _
      have I1 := Lib.hid (show GvI wx q u.kind (.slice xa1 u.ts.length xc1) (.slice none 0 0) (.slice none 0 0) u.ts [] [] (w8.setCell ⟨q, 1, none⟩ (.slice xa1 u.ts.length xc1)) from I0.out.grow (o := 1) HG.out (fun j e => by cases e) rfl HO.out (World.ownsRow_nil _ _ _ _) (World.ownsRow_nil _ _ _ _) (fun t ht => by cases ht))
      clear HO HG HALL hr8 I0
      generalize w8.setCell ⟨q, 1, none⟩ (.slice xa1 u.ts.length xc1) = w9 at *
      go_upto_region 8 with (fail)
      have cu : w9.cell? ⟨q, 2, none⟩ = some (.slice none 0 0) := (mg_cells I1.out.r).2.2.1
      have HALL := Lib.hid (show (w9.cell? ⟨q, 2, none⟩ = some (.slice none 0 0) ∧ w9.cell? ⟨p0, 4, none⟩ = some (.slice (some ⟨ab, ao, none⟩) x.ms.length xc)) ∧ w9.cell? ⟨ab, ao + k * 4 + 2, none⟩ = some (.slice ia u.is.length ic) from ⟨⟨cu, (HCP.out w9 I1.out.below).1⟩, (HCP.out w9 I1.out.below).2.2.1⟩)
      clear cu
      refine wp_region_T (fun w' => (w'.cell? ⟨q, 2, none⟩ = some (.slice none 0 0) ∧ w'.cell? ⟨p0, 4, none⟩ = some (.slice (some ⟨ab, ao, none⟩) x.ms.length xc)) ∧ w'.cell? ⟨ab, ao + k * 4 + 2, none⟩ = some (.slice ia u.is.length ic)) [1, 3, 5, 6, 7] (by kernel_rfl) ?_
      replace HALL := Lib.hid (show (w9.drew.cell? ⟨q, 2, none⟩ = some (.slice none 0 0) ∧ w9.drew.cell? ⟨p0, 4, none⟩ = some (.slice (some ⟨ab, ao, none⟩) x.ms.length xc)) ∧ w9.drew.cell? ⟨ab, ao + k * 4 + 2, none⟩ = some (.slice ia u.is.length ic) from HALL.out)
      replace I1 := Lib.hid (I1.out.call (below_drew15 w9))
      generalize w9.drew = w10 at *
      refine anyT_takeY (i := 0) (v := .pointer (some ⟨q, 2, none⟩)) rfl (by kernel_rfl) (by kernel_rfl) (by kernel_rfl) (fun _ _ _ h => h) (by kernel_rfl) (Or.inl ⟨by rfl, by intro w; go_simp⟩) ?_
      try simp only [List.getElem_toArray, List.getElem_cons_succ, List.getElem_cons_zero, Act.put, List.setIfInBounds_toArray, List.set_cons_zero, List.set_cons_succ]
      refine anyT_takeY (i := 2) (v := .pointer (some ⟨p0, 4, none⟩)) rfl (by kernel_rfl) (by kernel_rfl) (by kernel_rfl) (fun _ _ _ h => h) (by kernel_rfl) (Or.inl ⟨by rfl, by intro w; go_simp⟩) ?_
      try simp only [List.getElem_toArray, List.getElem_cons_succ, List.getElem_cons_zero, Act.put, List.setIfInBounds_toArray, List.set_cons_zero, List.set_cons_succ]
      refine anyT_takeY (i := 4) (v := .int .i64 (k : Int)) rfl (by kernel_rfl) (by kernel_rfl) (by kernel_rfl) (fun _ _ _ h => h) (by kernel_rfl) (Or.inl ⟨by rfl, by intro w; go_simp⟩) ?_
      try simp only [List.getElem_toArray, List.getElem_cons_succ, List.getElem_cons_zero, Act.put, List.setIfInBounds_toArray, List.set_cons_zero, List.set_cons_succ]
      refine anyT_take [8, 9, 10] (i := 1) (v := .slice none 0 0) rfl (by kernel_rfl) (by kernel_rfl) (by kernel_rfl) (fun _ _ _ h => h) (by kernel_rfl) (Or.inl ⟨by rfl, fun w' hS => by have c := hS.1.1; go_simp⟩) HALL.out ?_
      try simp only [List.getElem_toArray, List.getElem_cons_succ, List.getElem_cons_zero, Act.put, List.setIfInBounds_toArray, List.set_cons_zero, List.set_cons_succ]
      refine anyT_take [5, 6, 7, 8, 9, 10] (i := 3) (v := .slice (some ⟨ab, ao, none⟩) x.ms.length xc) rfl (by kernel_rfl) (by kernel_rfl) (by kernel_rfl) (fun _ _ _ h => h) (by kernel_rfl) (Or.inl ⟨by rfl, fun w' hS => by have c := hS.1.2; go_simp⟩) HALL.out ?_
      try simp only [List.getElem_toArray, List.getElem_cons_succ, List.getElem_cons_zero, Act.put, List.setIfInBounds_toArray, List.set_cons_zero, List.set_cons_succ]
      refine anyT_take [6, 7, 8, 9, 10] (i := 5) (v := .pointer (some ⟨ab, ao + k * 4, none⟩)) rfl (by kernel_rfl) (by kernel_rfl) (by kernel_rfl) (fun _ _ _ h => h) (by kernel_rfl) (Or.inl ⟨by rfl, fun w' _ => by go_simp⟩) HALL.out ?_
      try simp only [List.getElem_toArray, List.getElem_cons_succ, List.getElem_cons_zero, Act.put, List.setIfInBounds_toArray, List.set_cons_zero, List.set_cons_succ]
      refine anyT_take [7, 8, 9, 10] (i := 6) (v := .pointer (some ⟨ab, ao + k * 4 + 2, none⟩)) rfl (by kernel_rfl) (by kernel_rfl) (by kernel_rfl) (fun _ _ _ h => h) (by kernel_rfl) (Or.inl ⟨by rfl, fun w' _ => by go_simp⟩) HALL.out ?_
      try simp only [List.getElem_toArray, List.getElem_cons_succ, List.getElem_cons_zero, Act.put, List.setIfInBounds_toArray, List.set_cons_zero, List.set_cons_succ]
      refine anyT_take [8, 9, 10] (i := 7) (v := .slice ia u.is.length ic) rfl (by kernel_rfl) (by kernel_rfl) (by kernel_rfl) (fun _ _ _ h => h) (by kernel_rfl) (Or.inl ⟨by rfl, fun w' hS => by have c := hS.2; go_simp⟩) HALL.out ?_
      try simp only [List.getElem_toArray, List.getElem_cons_succ, List.getElem_cons_zero, Act.put, List.setIfInBounds_toArray, List.set_cons_zero, List.set_cons_succ]
      refine anyT_one (i := 8) (by kernel_rfl) rfl (fun K hK => ?_)
      rw [if_pos (by rfl)]
      try simp only [List.getElem_toArray, List.getElem_cons_succ, List.getElem_cons_zero]
      (refine wp_append_rows (n := 1) (C := itL) (fun _ => rfl) 109 3 (.int .i64 0) Tryz.underlying109 info15I (by kernel_rfl) (by omega) (.tmp 46) (.tmp 52) rfl rfl (q + 1) (.slice none 0 0) [] rfl (World.ownsRow_nil _ _ _ _) (.slice ia u.is.length ic) u.is rfl (HUI.out.below I1.out.below) (fun y _ => one15I y trivial) (by have := HZU.out.2.1; simp only [List.length_nil]; omega) (by have := HZU.out.2.1; simp only [List.length_nil]; unfold maxLen; omega) I1.out.q1 ?_; intro v8 w12 ho hgr hno; clear hno; rw [List.nil_append] at ho; obtain ⟨xa2, xc2, rfl⟩ := own_slice11 ho; have HO := Lib.hid ho; have HG := Lib.hid hgr; clear ho hgr; have hr8 : w12.heap[q]? = some (.cells #[.int .i64 u.kind, .slice xa1 u.ts.length xc1, .slice none 0 0, .slice none 0 0] 113 (0, 0)) := (HG.out.block q I1.out.q1 (fun e => by cases e)).trans I1.out.r)
      refine hK _ _ (not_mem rfl) ?_
      clear hK K
      try simp only [List.getElem_toArray, List.getElem_cons_succ, List.getElem_cons_zero, Act.put, List.setIfInBounds_toArray, List.set_cons_zero, List.set_cons_succ]
      refine anyT_takeY (i := 9) (v := .pointer (some ⟨q, 2, none⟩)) rfl (by kernel_rfl) (by kernel_rfl) (by kernel_rfl) (fun _ _ _ h => h) (by kernel_rfl) (Or.inl ⟨by rfl, by intro w; go_simp⟩) ?_
      try simp only [List.getElem_toArray, List.getElem_cons_succ, List.getElem_cons_zero, Act.put, List.setIfInBounds_toArray, List.set_cons_zero, List.set_cons_succ]
      refine anyT_one (i := 10) (by kernel_rfl) rfl (fun K hK => ?_)
      rw [if_pos (by rfl)]
      try simp only [List.getElem_toArray, List.getElem_cons_succ, List.getElem_cons_zero]
      (have k1 := (mg_cells hr8).2.2.1; have k2 : w12.frozen? ⟨q, 2, none⟩ = false := frozen_of_row w12 q 2 _ _ hr8; go_simp; clear k1 k2)
      refine hK _ _ (not_mem rfl) ?_
      clear hK K
      try simp only [List.getElem_toArray, List.getElem_cons_succ, List.getElem_cons_zero, Act.put, List.setIfInBounds_toArray, List.set_cons_zero, List.set_cons_succ]
      refine anyT_done (by kernel_rfl) ?_ _
      have I2 := Lib.hid (show GvI wx q u.kind (.slice xa1 u.ts.length xc1) (.slice xa2 u.is.length xc2) (.slice none 0 0) u.ts u.is [] (w12.setCell ⟨q, 2, none⟩ (.slice xa2 u.is.length xc2)) from I1.out.grow (o := 2) HG.out (fun j e => by cases e) rfl (own_stay11 I1.out.t fun j hj => HG.out.block j (I1.out.t.lt j hj).2 (fun e => by cases e)) HO.out (World.ownsRow_nil _ _ _ _) (fun t ht => by cases ht))
      clear HO HG HALL hr8 I1
      generalize w12.setCell ⟨q, 2, none⟩ (.slice xa2 u.is.length xc2) = w13 at *
      go_wp2_with (fail)
      go_loopw [6] (fun v wr => ∃ j : Nat, j ≤ u.ds.length ∧ v = .int .i64 (j : Int) ∧ Hid (GvJ wx q u (.slice xa1 u.ts.length xc1) (.slice xa2 u.is.length xc2) j wr)) (fun v _ => u.ds.length - (intOf v).toNat)
      case atStart => exact ⟨0, Nat.zero_le _, rfl, Lib.hid ⟨.slice none 0 0, [], rfl, rfl, I2.out⟩⟩
      case round =>
        clear I2
        obtain ⟨j, hjn, rfl, HJ⟩ := hrel
        obtain ⟨dv, ds, hdl, hdm, hi⟩ := HJ.out
        obtain ⟨d1, e1c, hvv⟩ := own_slice11 hi.d
        rw [hdl] at hvv
        subst hvv
        have I := Lib.hid hi
        have HDL := Lib.hid hdl
        have HDM := Lib.hid hdm
        have p1 := (HCP.out wr hi.below).1
        have p4 := (HCP.out wr hi.below).2.2.2
        clear HJ hdl hdm hi
        by_cases hjt : j < u.ds.length
        · have hjI : (j : Int) < (u.ds.length : Int) := by omega
          have hdsn := HZU.out.2.2.1
          obtain ⟨td, htd⟩ : ∃ t, u.ds[j]? = some t := ⟨u.ds[j], List.getElem?_eq_getElem hjt⟩
          have HTD := Lib.hid htd
          have hbt := HUE.out.b td (List.mem_of_getElem? htd)
          have HBZ := Lib.hid (HZU.out.2.2.2 td (List.mem_of_getElem? htd))
          obtain ⟨db, dd, rfl, hdb, hrd⟩ := HUD.out.at htd
          have hbt2 := hbt
          obtain ⟨ba, bc, eb, -, -, -⟩ := hbt2
          have HBT := Lib.hid (show BytesIn wx (.slice ba td.bs.length bc) td.bs from eb ▸ hbt)
          have hcd : wx.cell? ⟨db, dd + j, none⟩ = some (.slice ba td.bs.length bc) := by
            have h := hrd 0 _ rfl
            rw [eb] at h
            simpa using h
          have HCD := Lib.hid (show ∀ w', Below wx.heap.size wx w' → w'.cell? ⟨db, dd + j, none⟩ = some (.slice ba td.bs.length bc) from fun w' hb => (hb.cell (p := ⟨db, dd + j, none⟩) hdb).trans hcd)
          clear hcd hrd hdb hbt eb htd
          go_upto_region 13 with (fail)
          clear p1 p4
          have HALL := Lib.hid (show (((wr.cell? ⟨q, 3, none⟩ = some (.slice d1 j e1c) ∧ wr.cell? ⟨p0, 4, none⟩ = some (.slice (some ⟨ab, ao, none⟩) x.ms.length xc)) ∧ wr.cell? ⟨ab, ao + k * 4 + 3, none⟩ = some (.slice (some ⟨db, dd, none⟩) u.ds.length dc)) ∧ wr.cell? ⟨db, dd + j, none⟩ = some (.slice ba td.bs.length bc)) from ⟨⟨⟨(mg_cells I.out.r).2.2.2, (HCP.out wr I.out.below).1⟩, (HCP.out wr I.out.below).2.2.2⟩, HCD.out wr I.out.below⟩)
          refine wp_region_T (fun w' => (((w'.cell? ⟨q, 3, none⟩ = some (.slice d1 j e1c) ∧ w'.cell? ⟨p0, 4, none⟩ = some (.slice (some ⟨ab, ao, none⟩) x.ms.length xc)) ∧ w'.cell? ⟨ab, ao + k * 4 + 3, none⟩ = some (.slice (some ⟨db, dd, none⟩) u.ds.length dc)) ∧ w'.cell? ⟨db, dd + j, none⟩ = some (.slice ba td.bs.length bc))) [1, 4, 6, 7, 8, 10, 11, 12, 13] (by kernel_rfl) ?_
          replace HALL := Lib.hid (show (((wr.drew.cell? ⟨q, 3, none⟩ = some (.slice d1 j e1c) ∧ wr.drew.cell? ⟨p0, 4, none⟩ = some (.slice (some ⟨ab, ao, none⟩) x.ms.length xc)) ∧ wr.drew.cell? ⟨ab, ao + k * 4 + 3, none⟩ = some (.slice (some ⟨db, dd, none⟩) u.ds.length dc)) ∧ wr.drew.cell? ⟨db, dd + j, none⟩ = some (.slice ba td.bs.length bc)) from HALL.out)
          replace I := Lib.hid (I.out.call (below_drew15 wr))
          generalize wr.drew = wj at *
          refine anyT_takeY (i := 0) (v := .pointer (some ⟨q, 3, none⟩)) rfl (by kernel_rfl) (by kernel_rfl) (by kernel_rfl) (fun _ _ _ h => h) (by kernel_rfl) (Or.inl ⟨by rfl, by intro w; go_simp⟩) ?_
          try simp only [List.getElem_toArray, List.getElem_cons_succ, List.getElem_cons_zero, Act.put, List.setIfInBounds_toArray, List.set_cons_zero, List.set_cons_succ]
          refine anyT_takeY (i := 2) (v := .slice none 0 0) rfl (by kernel_rfl) (by kernel_rfl) (by kernel_rfl) (fun _ _ _ h => h) (by kernel_rfl) (Or.inl ⟨by rfl, by intro w; go_simp⟩) ?_
          try simp only [List.getElem_toArray, List.getElem_cons_succ, List.getElem_cons_zero, Act.put, List.setIfInBounds_toArray, List.set_cons_zero, List.set_cons_succ]
          refine anyT_takeY (i := 3) (v := .pointer (some ⟨p0, 4, none⟩)) rfl (by kernel_rfl) (by kernel_rfl) (by kernel_rfl) (fun _ _ _ h => h) (by kernel_rfl) (Or.inl ⟨by rfl, by intro w; go_simp⟩) ?_
          try simp only [List.getElem_toArray, List.getElem_cons_succ, List.getElem_cons_zero, Act.put, List.setIfInBounds_toArray, List.set_cons_zero, List.set_cons_succ]
          refine anyT_takeY (i := 5) (v := .int .i64 (k : Int)) rfl (by kernel_rfl) (by kernel_rfl) (by kernel_rfl) (fun _ _ _ h => h) (by kernel_rfl) (Or.inl ⟨by rfl, by intro w; go_simp⟩) ?_
          try simp only [List.getElem_toArray, List.getElem_cons_succ, List.getElem_cons_zero, Act.put, List.setIfInBounds_toArray, List.set_cons_zero, List.set_cons_succ]
          refine anyT_takeY (i := 9) (v := .int .i64 (j : Int)) rfl (by kernel_rfl) (by kernel_rfl) (by kernel_rfl) (fun _ _ _ h => h) (by kernel_rfl) (Or.inl ⟨by rfl, by intro w; go_simp⟩) ?_
          try simp only [List.getElem_toArray, List.getElem_cons_succ, List.getElem_cons_zero, Act.put, List.setIfInBounds_toArray, List.set_cons_zero, List.set_cons_succ]
          refine anyT_take [14, 15, 16] (i := 1) (v := .slice d1 j e1c) rfl (by kernel_rfl) (by kernel_rfl) (by kernel_rfl) (fun _ _ _ h => h) (by kernel_rfl) (Or.inl ⟨by rfl, fun w' hS => by have c := hS.1.1.1; go_simp⟩) HALL.out ?_
          try simp only [List.getElem_toArray, List.getElem_cons_succ, List.getElem_cons_zero, Act.put, List.setIfInBounds_toArray, List.set_cons_zero, List.set_cons_succ]
          refine anyT_take [6, 7, 8, 10, 11, 12, 13, 14, 15, 16] (i := 4) (v := .slice (some ⟨ab, ao, none⟩) x.ms.length xc) rfl (by kernel_rfl) (by kernel_rfl) (by kernel_rfl) (fun _ _ _ h => h) (by kernel_rfl) (Or.inl ⟨by rfl, fun w' hS => by have c := hS.1.1.2; go_simp⟩) HALL.out ?_
          try simp only [List.getElem_toArray, List.getElem_cons_succ, List.getElem_cons_zero, Act.put, List.setIfInBounds_toArray, List.set_cons_zero, List.set_cons_succ]
          refine anyT_take [7, 8, 10, 11, 12, 13, 14, 15, 16] (i := 6) (v := .pointer (some ⟨ab, ao + k * 4, none⟩)) rfl (by kernel_rfl) (by kernel_rfl) (by kernel_rfl) (fun _ _ _ h => h) (by kernel_rfl) (Or.inl ⟨by rfl, fun w' _ => by go_simp⟩) HALL.out ?_
          try simp only [List.getElem_toArray, List.getElem_cons_succ, List.getElem_cons_zero, Act.put, List.setIfInBounds_toArray, List.set_cons_zero, List.set_cons_succ]
          refine anyT_take [8, 10, 11, 12, 13, 14, 15, 16] (i := 7) (v := .pointer (some ⟨ab, ao + k * 4 + 3, none⟩)) rfl (by kernel_rfl) (by kernel_rfl) (by kernel_rfl) (fun _ _ _ h => h) (by kernel_rfl) (Or.inl ⟨by rfl, fun w' _ => by go_simp⟩) HALL.out ?_
          try simp only [List.getElem_toArray, List.getElem_cons_succ, List.getElem_cons_zero, Act.put, List.setIfInBounds_toArray, List.set_cons_zero, List.set_cons_succ]
          refine anyT_take [10, 11, 12, 13, 14, 15, 16] (i := 8) (v := .slice (some ⟨db, dd, none⟩) u.ds.length dc) rfl (by kernel_rfl) (by kernel_rfl) (by kernel_rfl) (fun _ _ _ h => h) (by kernel_rfl) (Or.inl ⟨by rfl, fun w' hS => by have c := hS.1.2; go_simp⟩) HALL.out ?_
          try simp only [List.getElem_toArray, List.getElem_cons_succ, List.getElem_cons_zero, Act.put, List.setIfInBounds_toArray, List.set_cons_zero, List.set_cons_succ]
          refine anyT_take [11, 12, 13, 14, 15, 16] (i := 10) (v := .pointer (some ⟨db, dd + j, none⟩)) rfl (by kernel_rfl) (by kernel_rfl) (by kernel_rfl) (fun _ _ _ h => h) (by kernel_rfl) (Or.inl ⟨by rfl, fun w' _ => by go_simp⟩) HALL.out ?_
          try simp only [List.getElem_toArray, List.getElem_cons_succ, List.getElem_cons_zero, Act.put, List.setIfInBounds_toArray, List.set_cons_zero, List.set_cons_succ]
          refine anyT_take [12, 13, 14, 15, 16] (i := 11) (v := .slice ba td.bs.length bc) rfl (by kernel_rfl) (by kernel_rfl) (by kernel_rfl) (fun _ _ _ h => h) (by kernel_rfl) (Or.inl ⟨by rfl, fun w' hS => by have c := hS.2; go_simp⟩) HALL.out ?_
          try simp only [List.getElem_toArray, List.getElem_cons_succ, List.getElem_cons_zero, Act.put, List.setIfInBounds_toArray, List.set_cons_zero, List.set_cons_succ]
          refine anyT_one (i := 12) (by kernel_rfl) rfl (fun K hK => ?_)
          rw [if_pos (by rfl)]
          try simp only [List.getElem_toArray, List.getElem_cons_succ, List.getElem_cons_zero]
          (refine wp_append_bytes15 (.tmp 68) (.tmp 77) rfl rfl wj.heap.size (.slice none 0 0) 0 [] rfl (World.ownsRow_nil _ _ _ _) (.slice ba td.bs.length bc) td.bs rfl (HBT.out.below I.out.below) (by have := HBZ.out; omega) (Nat.le_refl _) ?_; intro v7 wk ho hgr hno; clear hno; rw [Nat.zero_add, List.nil_append] at ho; obtain ⟨xb, xd, rfl⟩ := own_slice11 ho; have HOB := Lib.hid ho; have hbk : Below wj.heap.size wj wk := gb_below15 hgr; have IK := Lib.hid (I.out.call hbk); have HSJ := Lib.hid hbk.size; clear ho hgr hbk; have HSK := Lib.hid (show (((wk.cell? ⟨q, 3, none⟩ = some (.slice d1 j e1c) ∧ wk.cell? ⟨p0, 4, none⟩ = some (.slice (some ⟨ab, ao, none⟩) x.ms.length xc)) ∧ wk.cell? ⟨ab, ao + k * 4 + 3, none⟩ = some (.slice (some ⟨db, dd, none⟩) u.ds.length dc)) ∧ wk.cell? ⟨db, dd + j, none⟩ = some (.slice ba td.bs.length bc)) from ⟨⟨⟨(mg_cells IK.out.r).2.2.2, (HCP.out wk IK.out.below).1⟩, (HCP.out wk IK.out.below).2.2.2⟩, HCD.out wk IK.out.below⟩))
          refine hK _ _ (fun _ => HSK.out) ?_
          clear hK K
          try simp only [List.getElem_toArray, List.getElem_cons_succ, List.getElem_cons_zero, Act.put, List.setIfInBounds_toArray, List.set_cons_zero, List.set_cons_succ]
          refine anyT_one (i := 13) (by kernel_rfl) rfl (fun K hK => ?_)
          rw [if_pos (by rfl)]
          try simp only [List.getElem_toArray, List.getElem_cons_succ, List.getElem_cons_zero]
          (refine wp_one15D (.tmp 78) rfl (⟨.slice xb td.bs.length xd, td.bs⟩ : Tb) ⟨_, _, _, rfl⟩ rfl ?_; have hbl := below_alloc wk (.cells (tdL (⟨.slice xb td.bs.length xd, td.bs⟩ : Tb)).toArray 25); have HRN := Lib.hid (show TbIn (wk.alloc (.cells (tdL (⟨.slice xb td.bs.length xd, td.bs⟩ : Tb)).toArray 25)) (.slice (some ⟨wk.heap.size, 0, none⟩) 1 1) [(⟨.slice xb td.bs.length xd, td.bs⟩ : Tb)] from rows_new15 wk 25 [(⟨.slice xb td.bs.length xd, td.bs⟩ : Tb)] _ (fun i y hi j u hu => by match i, hi with | 0, hi => cases hi; simpa using hu) (by unfold maxLen; simp)); have IL := Lib.hid (IK.out.call hbl); replace HOB := Lib.hid (own_stay11 HOB.out fun i hi => hbl.block i (HOB.out.lt i hi).2); replace HSJ := Lib.hid (Nat.le_trans HSJ.out hbl.size); clear hbl; obtain ⟨g, hg⟩ : ∃ g, g = wk.heap.size := ⟨_, rfl⟩; rw [← hg] at HRN ⊢; clear hg; generalize wk.alloc (.cells (tdL (⟨.slice xb td.bs.length xd, td.bs⟩ : Tb)).toArray 25) = wl at *; have HSL := Lib.hid (show (((wl.cell? ⟨q, 3, none⟩ = some (.slice d1 j e1c) ∧ wl.cell? ⟨p0, 4, none⟩ = some (.slice (some ⟨ab, ao, none⟩) x.ms.length xc)) ∧ wl.cell? ⟨ab, ao + k * 4 + 3, none⟩ = some (.slice (some ⟨db, dd, none⟩) u.ds.length dc)) ∧ wl.cell? ⟨db, dd + j, none⟩ = some (.slice ba td.bs.length bc)) from ⟨⟨⟨(mg_cells IL.out.r).2.2.2, (HCP.out wl IL.out.below).1⟩, (HCP.out wl IL.out.below).2.2.2⟩, HCD.out wl IL.out.below⟩))
          refine hK _ _ (fun _ => HSL.out) ?_
          clear hK K
          try simp only [List.getElem_toArray, List.getElem_cons_succ, List.getElem_cons_zero, Act.put, List.setIfInBounds_toArray, List.set_cons_zero, List.set_cons_succ]
          refine anyT_one (i := 14) (by kernel_rfl) rfl (fun K hK => ?_)
          rw [if_pos (by rfl)]
          try simp only [List.getElem_toArray, List.getElem_cons_succ, List.getElem_cons_zero]
          (refine wp_append_rows (n := 1) (C := tdL) (fun _ => rfl) 110 25 (.slice none 0 0) Tryz.underlying110 info15D (by kernel_rfl) (by omega) (.tmp 67) (.tmp 79) rfl rfl (q + 1) (.slice d1 j e1c) ds rfl IL.out.d (.slice (some ⟨g, 0, none⟩) 1 1) [(⟨.slice xb td.bs.length xd, td.bs⟩ : Tb)] rfl HRN.out (fun y hy => by rw [List.mem_singleton.1 hy]; exact one15D _ ⟨_, _, _, rfl⟩) (by have := HZU.out.2.2.1; rw [HDL.out]; simp only [List.length_cons, List.length_nil]; omega) (by have := HZU.out.2.2.1; rw [HDL.out]; simp only [List.length_cons, List.length_nil]; unfold maxLen; omega) IL.out.q1 ?_; intro v8 wm ho hgr hno; obtain ⟨xe, xf, hv8⟩ := own_slice11 ho; rw [List.length_append, HDL.out] at hv8; have HV8 := Lib.hid (show v8 = .slice xe (j + 1) xf from hv8); have HO := Lib.hid ho; have HG := Lib.hid hgr; have HNO := Lib.hid hno; clear ho hgr hno hv8; have hr8 : wm.heap[q]? = some (.cells #[.int .i64 u.kind, .slice xa1 u.ts.length xc1, .slice xa2 u.is.length xc2, .slice d1 j e1c] 113 (0, 0)) := (HG.out.block q IL.out.q1 (fun e => by have := (IL.out.d.lt q e.symm).1; omega)).trans IL.out.r)
          refine hK _ _ (not_mem rfl) ?_
          clear hK K
          try simp only [List.getElem_toArray, List.getElem_cons_succ, List.getElem_cons_zero, Act.put, List.setIfInBounds_toArray, List.set_cons_zero, List.set_cons_succ]
          refine anyT_takeY (i := 15) (v := .pointer (some ⟨q, 3, none⟩)) rfl (by kernel_rfl) (by kernel_rfl) (by kernel_rfl) (fun _ _ _ h => h) (by kernel_rfl) (Or.inl ⟨by rfl, by intro w; go_simp⟩) ?_
          try simp only [List.getElem_toArray, List.getElem_cons_succ, List.getElem_cons_zero, Act.put, List.setIfInBounds_toArray, List.set_cons_zero, List.set_cons_succ]
          refine anyT_one (i := 16) (by kernel_rfl) rfl (fun K hK => ?_)
          rw [if_pos (by rfl)]
          try simp only [List.getElem_toArray, List.getElem_cons_succ, List.getElem_cons_zero]
          (have k1 := (mg_cells hr8).2.2.2; have k2 : wm.frozen? ⟨q, 3, none⟩ = false := frozen_of_row wm q 3 _ _ hr8; rw [HV8.out]; go_simp; clear k1 k2)
          refine hK _ _ (not_mem rfl) ?_
          clear hK K
          try simp only [List.getElem_toArray, List.getElem_cons_succ, List.getElem_cons_zero, Act.put, List.setIfInBounds_toArray, List.set_cons_zero, List.set_cons_succ]
          refine anyT_done (by kernel_rfl) ?_ _
          have HN := Lib.hid (show GvJ wx q u (.slice xa1 u.ts.length xc1) (.slice xa2 u.is.length xc2) (j + 1) (wm.setCell ⟨q, 3, none⟩ (.slice xe (j + 1) xf)) from
            ⟨.slice xe (j + 1) xf, ds ++ [(⟨.slice xb td.bs.length xd, td.bs⟩ : Tb)], by rw [List.length_append, HDL.out]; rfl, by rw [List.map_append, HDM.out, List.take_add_one, HTD.out, List.map_append]; rfl,
             by rw [← HV8.out]; exact gvi_data IL.out HG.out HO.out HNO.out HOB.out (owns_in HOB.out (Nat.le_trans HBZ.out (by unfold maxLen; omega))) (fun i e => (I.out.d.lt i e).2) I.out.q1⟩)
          clear HALL HSK HSL HO HG HNO HOB HSJ HRN IK IL I HV8 hr8
          generalize wm.setCell ⟨q, 3, none⟩ (.slice xe (j + 1) xf) = wn at *
          go_wp2_with (fail)
          go_roundw
          case rel => exact ⟨j + 1, by omega, by go_num, HN⟩
          case measure => simp [intOf]; omega
        · obtain rfl : j = u.ds.length := by omega
          rw [List.take_length] at HDM
          obtain ⟨t, ht⟩ : ∃ t : Mg, t = ⟨u.kind, .slice xa1 u.ts.length xc1, u.ts, .slice xa2 u.is.length xc2, u.is, .slice d1 u.ds.length e1c, ds⟩ := ⟨_, rfl⟩
          have HT := Lib.hid ht
          have HTE := Lib.hid (show MgE wr t from by
            rw [ht]
            exact ⟨rows_of_own (n := 1) (C := stL) (fun _ => rfl) I.out.t (Nat.le_trans HZU.out.1 (by unfold maxLen; omega)), rows_of_own (n := 1) (C := itL) (fun _ => rfl) I.out.i (Nat.le_trans HZU.out.2.1 (by unfold maxLen; omega)), (by have h := rows_of_own (n := 1) (C := tdL) (fun _ => rfl) I.out.d (by rw [HDL.out]; exact Nat.le_trans HZU.out.2.2.1 (by unfold maxLen; omega)); exact h), fun b hb => (I.out.e b hb).1⟩)
          have HOK := Lib.hid HTE.out.v
          have HTP := Lib.hid (show mgP t = mgP u from by rw [ht]; unfold mgP; simp only; rw [HDM.out])
          have HTF := Lib.hid (show MgFl t from by rw [ht]; exact ⟨HUF.out.k, HUF.out.i⟩)
          have HTB := Lib.hid (show ∀ i, mgF t i → q + 1 ≤ i ∧ i < wr.heap.size from by
            rw [ht]
            rintro i (h | h | h | ⟨b, hb, h⟩)
            · exact I.out.t.lt i h
            · exact I.out.i.lt i h
            · exact I.out.d.lt i h
            · have := (I.out.e b hb).2 i h; exact ⟨this.1, this.2.1⟩)
          obtain ⟨CM, hCM⟩ : ∃ z : Array Value, z = #[.int .i64 u.kind, .slice xa1 u.ts.length xc1, .slice xa2 u.is.length xc2, .slice d1 u.ds.length e1c] := ⟨_, rfl⟩
          have HCM := Lib.hid (show CM = mgC t from by rw [hCM, ht]; rfl)
          have HMZ := Lib.hid (show CM.size = 4 from by rw [hCM]; rfl)
          have HRC := Lib.hid (show wr.rangeAt q 0 CM.toList from by rw [hCM]; exact rowT_range I.out.r)
          have HMB := Lib.hid (show B ≤ wx.heap.size ∧ (∀ i, (Value.slice ma k mc).ownBlock = some i → i < wx.heap.size) ∧ ∀ i, (Value.slice a4 x.sg.length c4).ownBlock = some i → i < wx.heap.size from ⟨M.out.B1, fun i e => (M.out.m.lt i e).2, fun i e => (M.out.s.lt i e).2⟩)
          replace M := Lib.hid (M.out.call I.out.below)
          have HBI := Lib.hid I.out.below
          have HQL := Lib.hid (show wx.heap.size ≤ q ∧ q + 1 ≤ wr.heap.size from ⟨I.out.q0, I.out.q1⟩)
          have k5 := (tx_cells M.out.ry).2.2.2.2.2.1
          clear ht hCM I HDM HDL hjn
          go_upto_region 5 with (first
            | (refine wpList_load_rowT (by rfl) 113 (.tmp 5) rfl q 0 rfl CM _ HRC.out Tryz.underlying113 rfl (by rw [HMZ.out]; kernel_rfl) ?_)
            | (refine wpList_one15M rfl (.tmp 84) rfl (some 85) rfl t HOK.out (.agg CM) (by rw [HCM.out]) rfl ?_; go_loud (have hb2 := below_alloc wr (.cells (mgL t).toArray 113)); go_loud (have HQ9 := Lib.hid (heap_alloc_new wr (.cells (mgL t).toArray 113))); go_loud (replace M := Lib.hid (M.out.call hb2)); go_loud (replace HTE := Lib.hid (HTE.out.below hb2)); go_loud (have HSI := Lib.hid hb2.size); go_loud (clear hb2 k5 p1 p4); go_loud (obtain ⟨g, hg⟩ : ∃ g, g = wr.heap.size := ⟨_, rfl⟩); go_loud (rw [← hg] at HQ9 ⊢); (clear hg); go_loud (generalize wr.alloc (.cells (mgL t).toArray 113) = wo at *))
            | (at_builtin; go_loud (refine wpList_append_row11 (n := 4) (C := mgL) (fun _ => rfl) 32 113 mgZ15 Tryz.underlying32 info15M (by kernel_rfl) (by omega) rfl (.tmp 83) (.tmp 85) rfl rfl B (.slice ma k mc) ms rfl M.out.m g t (one15M t HOK.out) rfl HQ9.out (by have := HZ.out.m; rw [HL.out]; omega) (by have := HZ.out.m; rw [HL.out]; omega) M.out.B1 ?_; intro v4 wp ho4 hg4 hw4; obtain ⟨xg, xh, hv4⟩ := own_slice11 ho4; rw [List.length_append, HL.out] at hv4; have HV4 := Lib.hid (show v4 = .slice xg (k + 1) xh from hv4); have HO4 := Lib.hid ho4; have HG4 := Lib.hid hg4; have HW4 := Lib.hid hw4; have hry := (hg4.block y (bkT_lt M.out.ry) (fun e => by have := (M.out.m.lt y e.symm).1; have := M.out.qB; omega)).trans M.out.ry; have k5 := (tx_cells hry).2.2.2.2.2.1; have kf := frozen_of_row wp y 4 _ _ hry; rw [HV4.out]; clear ho4 hg4 hw4 hry hv4)))
          have HN := Lib.hid (show GvR w p0 p2 y B cz x (.slice a4 x.sg.length c4) (k + 1) (wp.setCell ⟨y, 4, none⟩ (.slice xg (k + 1) xh)) from
            ⟨.slice xg (k + 1) xh, ms ++ [t], by rw [List.length_append, HL.out]; rfl, HV4.out ▸ M.out.next HTE.out HTF.out HU.out HTP.out (fun i hi => by
              have h1 := HTB.out i hi
              have h2 := HSI.out
              have h3 := HQL.out
              have h4 := HMB.out
              exact ⟨by omega, by omega, fun e => by have := h4.2.1 i e; omega, fun e => by have := h4.2.2 i e; omega⟩) HG4.out HO4.out HW4.out⟩)
          clear k5 kf M HL HT HTE HOK HTP HTF HTB HCM HMZ HRC HBI HQL HMB HSI HQ9 HG4 HO4 HW4 HV4
          generalize wp.setCell ⟨y, 4, none⟩ (.slice xg (k + 1) xh) = wq at *
          go_wp2_with (fail)
          go_roundw
          case rel => exact ⟨k + 1, by omega, by go_num, HN⟩
          case measure => simp [intOf]; omega
    · obtain rfl : k = x.ms.length := by omega
      obtain ⟨yt, hyt⟩ : ∃ z : Tr, z = ⟨x.acc, x.seq, x.den, x.amt, .slice ma x.ms.length mc, ms, .slice a4 x.sg.length c4, x.sg⟩ := ⟨_, rfl⟩
      obtain ⟨CY, hCY⟩ : ∃ z : Array Value, z = #[.string x.acc, .int .i64 x.seq, .string x.den, .int .i64 x.amt, .slice ma x.ms.length mc, .slice a4 x.sg.length c4] := ⟨_, rfl⟩
      have HYC := Lib.hid (show CY = trC15 yt from by rw [hCY, hyt]; rfl)
      have HYZ := Lib.hid (show CY.size = 6 from by rw [hCY]; rfl)
      have HYO := Lib.hid (show CY.all (·.oneCell') = true from by rw [hCY]; simp [Value.oneCell'])
      have HRY := Lib.hid (show wx.rangeAt y 0 CY.toList from by rw [hCY]; exact rowT_range M.out.ry)
      have HYT := Lib.hid hyt
      clear hyt hCY hkn
      go_wp2_with (first
        | (refine wpList_load_rowT (by rfl) 34 (.tmp 3) rfl y 0 rfl CY _ HRY.out Tryz.underlying34 rfl (by rw [HYZ.out]; kernel_rfl) ?_)
        | (refine wpList_store_row rfl 34 (.tmp 2) (.tmp 88) rfl p2 CY rfl rfl 34 _ M.out.r2 (by rw [HYZ.out]; kernel_rfl) (by rw [HYZ.out, HCZ.out]) HYO.out ?_))
      refine bodyPost_ret (results_cell_row rfl _ _ p2 34 CY (0, 0) _ rfl (setRow_heap _ _ _ _ _ _ M.out.r2) Tryz.underlying34 rfl (by rw [HYZ.out]; kernel_rfl)) rfl ?_
      rw [← HPO.out]
      have hO := only_setRow11 wx p2 CY
      have h0 := M.out.q0
      have h2 := M.out.q2
      have hy := M.out.qy
      have hB := M.out.qB
      have hnp : ∀ j, B ≤ j → j ≠ p2 := fun j h => by omega
      have hp := M.out.p
      rw [List.take_length] at hp
      refine ⟨yt, by rw [HYC.out], ?_, ?_, ?_, ?_, ?_, below_setRow M.out.below (by omega) _⟩
      · rw [HYT.out]
        refine ⟨?_, fun m hm => ?_, ?_⟩
        · have h := rows_of_own (n := 4) (C := mgL) (fun _ => rfl) M.out.m (by rw [HL.out]; exact Nat.le_trans HZ.out.m (by unfold maxLen; omega))
          exact h.only hO fun j hj => hnp j (M.out.m.lt j hj).1
        · exact (M.out.e m hm).1.keep hO.size fun j hj => hO.block j ((M.out.e m hm).2.2 j hj).2.1 (hnp j ((M.out.e m hm).2.2 j hj).1)
        · exact owns_in (own_stay11 M.out.s fun j hj => hO.block j (M.out.s.lt j hj).2 (hnp j (M.out.s.lt j hj).1)) (Nat.le_trans HZ.out.s (by unfold maxLen; omega))
      · rw [HYT.out]; unfold pxP; simp only; rw [hp]
      · rw [HYT.out]; exact ⟨HF.out.s, HF.out.a, fun m hm => (M.out.e m hm).2.1⟩
      · rw [HYT.out]
        have h := own_stay11 M.out.s (w' := wx.setRow p2 CY) fun j hj => hO.block j (M.out.s.lt j hj).2 (hnp j (M.out.s.lt j hj).1)
        exact own_base15 h (by omega)
      · rw [HYT.out]
        intro j hj
        exact ⟨fun e => own_ne15' M.out.m M.out.s (by decide) j hj e, fun m hm hf => ((M.out.e m hm).2.2 j hf).2.2.2 hj⟩
end Go.Proofs.YtejglhlodfhgkaaGreatDoor
