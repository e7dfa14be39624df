/- Part 21 of the proof. -/
import Derived.Test.YteokgklfljhcaaaGreatDoorBd20
namespace Go.Proofs.YteokgklfljhcaaaGreatDoor
set_option linter.unusedVariables false
set_option linter.unusedSimpArgs false
open Go.RowKit
set_option maxRecDepth 100000
set_option linter.unusedSimpArgs false
set_option linter.unusedVariables false
set_option maxHeartbeats 8000000 in
theorem rrefhdr_any (b : Value) (bs : List Int) (CH : ByteArray) (HT TM : Int) (LA AP TX VA NX : Nat → Int) (PR : Int) (w : World) (hb : BytesIn w b bs) (hHT : -9223372036854775808 ≤ HT ∧ HT ≤ 9223372036854775807) (hTM : -9223372036854775808 ≤ TM ∧ TM ≤ 9223372036854775807) (hPR : -9223372036854775808 ≤ PR ∧ PR ≤ 9223372036854775807) (hl : bs.length + (hdL CH HT TM LA AP TX VA NX PR).length + 400 ≤ 140737488355328) :
    Calls Tryz.prog 16 #[b, .agg (hdD CH HT TM LA AP TX VA NX PR)] w fun e w' => ∃ vb, e = .returned vb ∧ BytesIn w' vb (bs ++ hdL CH HT TM LA AP TX VA NX PR) ∧ Below w.heap.size w w' := by
  have HB := Lib.hid (below_alloc w (.cells (hdD CH HT TM LA AP TX VA NX PR) 25))
  have HQ := Lib.hid (heap_alloc_new w (.cells (hdD CH HT TM LA AP TX VA NX PR) 25))
  have HX := Lib.hid (hb.below HB.out)
  have HR := Lib.hid (show bs.length + (((varint CH.size).length + CH.size) + (varint (zig HT)).length + (varint (zig TM)).length + 32 + 32 + 32 + 32 + 32 + (varint (zig PR)).length) + 400 ≤ 140737488355328 from by simp only [hdL, List.length_append, rowL32, numsOf_length] at hl; omega)
  have VHT := Lib.hid (glenT (zig_lt hHT.1 hHT.2))
  have IHT := Lib.hid hHT
  have VTM := Lib.hid (glenT (zig_lt hTM.1 hTM.2))
  have ITM := Lib.hid hTM
  have VPR := Lib.hid (glenT (zig_lt hPR.1 hPR.2))
  have IPR := Lib.hid hPR
  have VCH := Lib.hid (glenT (n := CH.size) (by have := HR.out; omega))
  clear hb hl hHT hTM hPR
  go_enter Tryz.func16, Tryz.ntmps16
  go_upto_region 1 with (fail)
  obtain ⟨q, hq⟩ : ∃ q, q = w.heap.size := ⟨_, rfl⟩
  rw [← hq] at HQ ⊢
  clear hq
  generalize w.alloc (.cells (hdD CH HT TM LA AP TX VA NX PR) 25) = w0 at *
  refine wp_region_T (fun w => w.heap[q]? = some (.cells (hdD CH HT TM LA AP TX VA NX PR) 25 (0, 0))) [0, 1, 2, 3, 4, 5, 6, 7, 8, 9, 10] (by kernel_rfl) ?_
  replace HQ := Lib.hid (kept_blk _ _ _ _ HQ.out (Below.refl _ _).drew)
  replace HX := Lib.hid (HX.out.below (Below.refl _ _).drew)
  replace HB := Lib.hid (HB.out.drew)
  generalize World.drew _ = d0 at *
  refine anyT_take [] (i := 0) (v := b) rfl (by kernel_rfl) (by kernel_rfl) (by kernel_rfl) (fun _ _ _ h => h) (by kernel_rfl) (Or.inl ⟨by rfl, fun w' _ => by go_simp⟩) HQ.out ?_
  try simp only [List.getElem_toArray, List.getElem_cons_succ, List.getElem_cons_zero, Act.put, List.setIfInBounds_toArray, List.set_cons_zero, List.set_cons_succ]
  refine anyT_take [] (i := 1) (v := .pointer (some ⟨q, 0, none⟩)) rfl (by kernel_rfl) (by kernel_rfl) (by kernel_rfl) (fun _ _ _ h => h) (by kernel_rfl) (Or.inl ⟨by rfl, fun w' _ => by go_simp⟩) HQ.out ?_
  try simp only [List.getElem_toArray, List.getElem_cons_succ, List.getElem_cons_zero, Act.put, List.setIfInBounds_toArray, List.set_cons_zero, List.set_cons_succ]
  refine anyT_take [] (i := 4) (v := .pointer (some ⟨q, 1, none⟩)) rfl (by kernel_rfl) (by kernel_rfl) (by kernel_rfl) (fun _ _ _ h => h) (by kernel_rfl) (Or.inl ⟨by rfl, fun w' _ => by go_simp⟩) HQ.out ?_
  try simp only [List.getElem_toArray, List.getElem_cons_succ, List.getElem_cons_zero, Act.put, List.setIfInBounds_toArray, List.set_cons_zero, List.set_cons_succ]
  refine anyT_take [] (i := 7) (v := .pointer (some ⟨q, 2, none⟩)) rfl (by kernel_rfl) (by kernel_rfl) (by kernel_rfl) (fun _ _ _ h => h) (by kernel_rfl) (Or.inl ⟨by rfl, fun w' _ => by go_simp⟩) HQ.out ?_
  try simp only [List.getElem_toArray, List.getElem_cons_succ, List.getElem_cons_zero, Act.put, List.setIfInBounds_toArray, List.set_cons_zero, List.set_cons_succ]
  refine anyT_take [] (i := 2) (v := .string CH) rfl (by kernel_rfl) (by kernel_rfl) (by kernel_rfl) (fun _ _ _ h => h) (by kernel_rfl) (Or.inl ⟨by rfl, fun w' hS => by have c := (hdD_cells hS).1; go_simp⟩) HQ.out ?_
  try simp only [List.getElem_toArray, List.getElem_cons_succ, List.getElem_cons_zero, Act.put, List.setIfInBounds_toArray, List.set_cons_zero, List.set_cons_succ]
  refine anyT_take [] (i := 5) (v := .int .i64 HT) rfl (by kernel_rfl) (by kernel_rfl) (by kernel_rfl) (fun _ _ _ h => h) (by kernel_rfl) (Or.inl ⟨by rfl, fun w' hS => by have c := (hdD_cells hS).2.1; go_simp⟩) HQ.out ?_
  try simp only [List.getElem_toArray, List.getElem_cons_succ, List.getElem_cons_zero, Act.put, List.setIfInBounds_toArray, List.set_cons_zero, List.set_cons_succ]
  refine anyT_take [] (i := 8) (v := .int .i64 TM) rfl (by kernel_rfl) (by kernel_rfl) (by kernel_rfl) (fun _ _ _ h => h) (by kernel_rfl) (Or.inl ⟨by rfl, fun w' hS => by have c := (hdD_cells hS).2.2.1; go_simp⟩) HQ.out ?_
  try simp only [List.getElem_toArray, List.getElem_cons_succ, List.getElem_cons_zero, Act.put, List.setIfInBounds_toArray, List.set_cons_zero, List.set_cons_succ]
  refine anyT_one (i := 3) (by kernel_rfl) rfl (fun K hK => ?_)
  rw [if_pos (by rfl)]
  try simp only [List.getElem_toArray, List.getElem_cons_succ, List.getElem_cons_zero]
  (go_simp; (with_reducible refine (dText11_any b _ CH d0 HX.out (by have h0 := HR.out; have aHT := VHT.out; have aTM := VTM.out; have aPR := VPR.out; have aCH := VCH.out; (try simp only [List.length_append, rowL32, numsOf_length]); omega)).mono ?_); rintro e x1 ⟨vx1, rfl, hx, hb⟩; replace HX := Lib.hid hx; replace HQ := Lib.hid (kept_blk _ _ _ _ HQ.out hb); replace HB := Lib.hid (HB.out.trans (hb.mono HB.out.size)); clear hx hb)
  refine hK _ _ (fun _ => HQ.out) ?_
  clear hK K
  try simp only [List.getElem_toArray, List.getElem_cons_succ, List.getElem_cons_zero, Act.put, List.setIfInBounds_toArray, List.set_cons_zero, List.set_cons_succ]
  refine anyT_one (i := 6) (by kernel_rfl) rfl (fun K hK => ?_)
  rw [if_pos (by rfl)]
  try simp only [List.getElem_toArray, List.getElem_cons_succ, List.getElem_cons_zero]
  (go_simp; (with_reducible refine (dInt_any vx1 _ HT x1 HX.out IHT.out.1 IHT.out.2 (by have h0 := HR.out; have aHT := VHT.out; have aTM := VTM.out; have aPR := VPR.out; have aCH := VCH.out; (try simp only [List.length_append, rowL32, numsOf_length]); omega)).mono ?_); rintro e x2 hp; obtain ⟨vx2, rfl, hx, hb⟩ := refL_next hp (by have h0 := HR.out; have aHT := VHT.out; have aTM := VTM.out; have aPR := VPR.out; have aCH := VCH.out; simp only [List.length_append, rowL32, numsOf_length]; unfold maxLen; omega); replace HX := Lib.hid hx; replace HQ := Lib.hid (kept_blk _ _ _ _ HQ.out hb); replace HB := Lib.hid (HB.out.trans (hb.mono HB.out.size)); clear hp hx hb)
  refine hK _ _ (fun _ => HQ.out) ?_
  clear hK K
  try simp only [List.getElem_toArray, List.getElem_cons_succ, List.getElem_cons_zero, Act.put, List.setIfInBounds_toArray, List.set_cons_zero, List.set_cons_succ]
  refine anyT_one (i := 9) (by kernel_rfl) rfl (fun K hK => ?_)
  rw [if_pos (by rfl)]
  try simp only [List.getElem_toArray, List.getElem_cons_succ, List.getElem_cons_zero]
  (go_simp; (with_reducible refine (dInt_any vx2 _ TM x2 HX.out ITM.out.1 ITM.out.2 (by have h0 := HR.out; have aHT := VHT.out; have aTM := VTM.out; have aPR := VPR.out; have aCH := VCH.out; (try simp only [List.length_append, rowL32, numsOf_length]); omega)).mono ?_); rintro e x3 hp; obtain ⟨vx3, rfl, hx, hb⟩ := refL_next hp (by have h0 := HR.out; have aHT := VHT.out; have aTM := VTM.out; have aPR := VPR.out; have aCH := VCH.out; simp only [List.length_append, rowL32, numsOf_length]; unfold maxLen; omega); replace HX := Lib.hid hx; replace HQ := Lib.hid (kept_blk _ _ _ _ HQ.out hb); replace HB := Lib.hid (HB.out.trans (hb.mono HB.out.size)); clear hp hx hb)
  refine hK _ _ (fun _ => HQ.out) ?_
  clear hK K
  try simp only [List.getElem_toArray, List.getElem_cons_succ, List.getElem_cons_zero, Act.put, List.setIfInBounds_toArray, List.set_cons_zero, List.set_cons_succ]
  refine anyT_take [] (i := 10) (v := vx3) rfl (by kernel_rfl) (by kernel_rfl) (by kernel_rfl) (fun _ _ _ h => h) (by kernel_rfl) (Or.inl ⟨by rfl, fun w' _ => by go_simp⟩) HQ.out ?_
  try simp only [List.getElem_toArray, List.getElem_cons_succ, List.getElem_cons_zero, Act.put, List.setIfInBounds_toArray, List.set_cons_zero, List.set_cons_succ]
  refine anyT_done (by kernel_rfl) ?_ _
  go_upto_region 2 with (fail)
  refine wp_region_T (fun w => w.heap[q]? = some (.cells (hdD CH HT TM LA AP TX VA NX PR) 25 (0, 0))) [0, 1, 2, 3, 4, 5, 6, 7, 8, 9, 10, 11, 12, 13, 14, 15, 16] (by kernel_rfl) ?_
  replace HQ := Lib.hid (kept_blk _ _ _ _ HQ.out (Below.refl _ _).drew)
  replace HX := Lib.hid (HX.out.below (Below.refl _ _).drew)
  replace HB := Lib.hid (HB.out.drew)
  generalize World.drew _ = d1 at *
  refine anyT_take [] (i := 0) (v := vx3) rfl (by kernel_rfl) (by kernel_rfl) (by kernel_rfl) (fun _ _ _ h => h) (by kernel_rfl) (Or.inl ⟨by rfl, fun w' _ => by go_simp⟩) HQ.out ?_
  try simp only [List.getElem_toArray, List.getElem_cons_succ, List.getElem_cons_zero, Act.put, List.setIfInBounds_toArray, List.set_cons_zero, List.set_cons_succ]
  refine anyT_take [] (i := 1) (v := .pointer (some ⟨q, 3, none⟩)) rfl (by kernel_rfl) (by kernel_rfl) (by kernel_rfl) (fun _ _ _ h => h) (by kernel_rfl) (Or.inl ⟨by rfl, fun w' _ => by go_simp⟩) HQ.out ?_
  try simp only [List.getElem_toArray, List.getElem_cons_succ, List.getElem_cons_zero, Act.put, List.setIfInBounds_toArray, List.set_cons_zero, List.set_cons_succ]
  refine anyT_take [] (i := 4) (v := .pointer (some ⟨q, 35, none⟩)) rfl (by kernel_rfl) (by kernel_rfl) (by kernel_rfl) (fun _ _ _ h => h) (by kernel_rfl) (Or.inl ⟨by rfl, fun w' _ => by go_simp⟩) HQ.out ?_
  try simp only [List.getElem_toArray, List.getElem_cons_succ, List.getElem_cons_zero, Act.put, List.setIfInBounds_toArray, List.set_cons_zero, List.set_cons_succ]
  refine anyT_take [] (i := 7) (v := .pointer (some ⟨q, 67, none⟩)) rfl (by kernel_rfl) (by kernel_rfl) (by kernel_rfl) (fun _ _ _ h => h) (by kernel_rfl) (Or.inl ⟨by rfl, fun w' _ => by go_simp⟩) HQ.out ?_
  try simp only [List.getElem_toArray, List.getElem_cons_succ, List.getElem_cons_zero, Act.put, List.setIfInBounds_toArray, List.set_cons_zero, List.set_cons_succ]
  refine anyT_take [] (i := 10) (v := .pointer (some ⟨q, 99, none⟩)) rfl (by kernel_rfl) (by kernel_rfl) (by kernel_rfl) (fun _ _ _ h => h) (by kernel_rfl) (Or.inl ⟨by rfl, fun w' _ => by go_simp⟩) HQ.out ?_
  try simp only [List.getElem_toArray, List.getElem_cons_succ, List.getElem_cons_zero, Act.put, List.setIfInBounds_toArray, List.set_cons_zero, List.set_cons_succ]
  refine anyT_take [] (i := 13) (v := .pointer (some ⟨q, 131, none⟩)) rfl (by kernel_rfl) (by kernel_rfl) (by kernel_rfl) (fun _ _ _ h => h) (by kernel_rfl) (Or.inl ⟨by rfl, fun w' _ => by go_simp⟩) HQ.out ?_
  try simp only [List.getElem_toArray, List.getElem_cons_succ, List.getElem_cons_zero, Act.put, List.setIfInBounds_toArray, List.set_cons_zero, List.set_cons_succ]
  refine anyT_take [] (i := 2) (v := .agg (rowOf .u8 32 LA)) rfl (by kernel_rfl) (by kernel_rfl) (by kernel_rfl) (fun _ _ _ h => h) (by kernel_rfl) (rowT_yields (by rfl) 23 (.tmp 16) rfl q 3 rfl _ _ (fun _ h => (hdD_cells h).2.2.2.1) Tryz.underlying23 rfl (by rw [rowOf_size]; kernel_rfl)) HQ.out ?_
  try simp only [List.getElem_toArray, List.getElem_cons_succ, List.getElem_cons_zero, Act.put, List.setIfInBounds_toArray, List.set_cons_zero, List.set_cons_succ]
  refine anyT_take [] (i := 5) (v := .agg (rowOf .u8 32 AP)) rfl (by kernel_rfl) (by kernel_rfl) (by kernel_rfl) (fun _ _ _ h => h) (by kernel_rfl) (rowT_yields (by rfl) 23 (.tmp 19) rfl q 35 rfl _ _ (fun _ h => (hdD_cells h).2.2.2.2.1) Tryz.underlying23 rfl (by rw [rowOf_size]; kernel_rfl)) HQ.out ?_
  try simp only [List.getElem_toArray, List.getElem_cons_succ, List.getElem_cons_zero, Act.put, List.setIfInBounds_toArray, List.set_cons_zero, List.set_cons_succ]
  refine anyT_take [] (i := 8) (v := .agg (rowOf .u8 32 TX)) rfl (by kernel_rfl) (by kernel_rfl) (by kernel_rfl) (fun _ _ _ h => h) (by kernel_rfl) (rowT_yields (by rfl) 23 (.tmp 22) rfl q 67 rfl _ _ (fun _ h => (hdD_cells h).2.2.2.2.2.1) Tryz.underlying23 rfl (by rw [rowOf_size]; kernel_rfl)) HQ.out ?_
  try simp only [List.getElem_toArray, List.getElem_cons_succ, List.getElem_cons_zero, Act.put, List.setIfInBounds_toArray, List.set_cons_zero, List.set_cons_succ]
  refine anyT_take [] (i := 11) (v := .agg (rowOf .u8 32 VA)) rfl (by kernel_rfl) (by kernel_rfl) (by kernel_rfl) (fun _ _ _ h => h) (by kernel_rfl) (rowT_yields (by rfl) 23 (.tmp 25) rfl q 99 rfl _ _ (fun _ h => (hdD_cells h).2.2.2.2.2.2.1) Tryz.underlying23 rfl (by rw [rowOf_size]; kernel_rfl)) HQ.out ?_
  try simp only [List.getElem_toArray, List.getElem_cons_succ, List.getElem_cons_zero, Act.put, List.setIfInBounds_toArray, List.set_cons_zero, List.set_cons_succ]
  refine anyT_take [] (i := 14) (v := .agg (rowOf .u8 32 NX)) rfl (by kernel_rfl) (by kernel_rfl) (by kernel_rfl) (fun _ _ _ h => h) (by kernel_rfl) (rowT_yields (by rfl) 23 (.tmp 28) rfl q 131 rfl _ _ (fun _ h => (hdD_cells h).2.2.2.2.2.2.2.1) Tryz.underlying23 rfl (by rw [rowOf_size]; kernel_rfl)) HQ.out ?_
  try simp only [List.getElem_toArray, List.getElem_cons_succ, List.getElem_cons_zero, Act.put, List.setIfInBounds_toArray, List.set_cons_zero, List.set_cons_succ]
  refine anyT_one (i := 3) (by kernel_rfl) rfl (fun K hK => ?_)
  rw [if_pos (by rfl)]
  try simp only [List.getElem_toArray, List.getElem_cons_succ, List.getElem_cons_zero]
  (go_simp; (with_reducible refine (dHash_any vx3 _ LA d1 HX.out (by have h0 := HR.out; have aHT := VHT.out; have aTM := VTM.out; have aPR := VPR.out; have aCH := VCH.out; (try simp only [List.length_append, rowL32, numsOf_length]); omega)).mono ?_); rintro e x4 hp; obtain ⟨vx4, rfl, hx, hb⟩ := refL_next hp (by have h0 := HR.out; have aHT := VHT.out; have aTM := VTM.out; have aPR := VPR.out; have aCH := VCH.out; simp only [List.length_append, rowL32, numsOf_length]; unfold maxLen; omega); replace HX := Lib.hid hx; replace HQ := Lib.hid (kept_blk _ _ _ _ HQ.out hb); replace HB := Lib.hid (HB.out.trans (hb.mono HB.out.size)); clear hp hx hb)
  refine hK _ _ (fun _ => HQ.out) ?_
  clear hK K
  try simp only [List.getElem_toArray, List.getElem_cons_succ, List.getElem_cons_zero, Act.put, List.setIfInBounds_toArray, List.set_cons_zero, List.set_cons_succ]
  refine anyT_one (i := 6) (by kernel_rfl) rfl (fun K hK => ?_)
  rw [if_pos (by rfl)]
  try simp only [List.getElem_toArray, List.getElem_cons_succ, List.getElem_cons_zero]
  (go_simp; (with_reducible refine (dHash_any vx4 _ AP x4 HX.out (by have h0 := HR.out; have aHT := VHT.out; have aTM := VTM.out; have aPR := VPR.out; have aCH := VCH.out; (try simp only [List.length_append, rowL32, numsOf_length]); omega)).mono ?_); rintro e x5 hp; obtain ⟨vx5, rfl, hx, hb⟩ := refL_next hp (by have h0 := HR.out; have aHT := VHT.out; have aTM := VTM.out; have aPR := VPR.out; have aCH := VCH.out; simp only [List.length_append, rowL32, numsOf_length]; unfold maxLen; omega); replace HX := Lib.hid hx; replace HQ := Lib.hid (kept_blk _ _ _ _ HQ.out hb); replace HB := Lib.hid (HB.out.trans (hb.mono HB.out.size)); clear hp hx hb)
  refine hK _ _ (fun _ => HQ.out) ?_
  clear hK K
  try simp only [List.getElem_toArray, List.getElem_cons_succ, List.getElem_cons_zero, Act.put, List.setIfInBounds_toArray, List.set_cons_zero, List.set_cons_succ]
  refine anyT_one (i := 9) (by kernel_rfl) rfl (fun K hK => ?_)
  rw [if_pos (by rfl)]
  try simp only [List.getElem_toArray, List.getElem_cons_succ, List.getElem_cons_zero]
  (go_simp; (with_reducible refine (dHash_any vx5 _ TX x5 HX.out (by have h0 := HR.out; have aHT := VHT.out; have aTM := VTM.out; have aPR := VPR.out; have aCH := VCH.out; (try simp only [List.length_append, rowL32, numsOf_length]); omega)).mono ?_); rintro e x6 hp; obtain ⟨vx6, rfl, hx, hb⟩ := refL_next hp (by have h0 := HR.out; have aHT := VHT.out; have aTM := VTM.out; have aPR := VPR.out; have aCH := VCH.out; simp only [List.length_append, rowL32, numsOf_length]; unfold maxLen; omega); replace HX := Lib.hid hx; replace HQ := Lib.hid (kept_blk _ _ _ _ HQ.out hb); replace HB := Lib.hid (HB.out.trans (hb.mono HB.out.size)); clear hp hx hb)
  refine hK _ _ (fun _ => HQ.out) ?_
  clear hK K
  try simp only [List.getElem_toArray, List.getElem_cons_succ, List.getElem_cons_zero, Act.put, List.setIfInBounds_toArray, List.set_cons_zero, List.set_cons_succ]
  refine anyT_one (i := 12) (by kernel_rfl) rfl (fun K hK => ?_)
  rw [if_pos (by rfl)]
  try simp only [List.getElem_toArray, List.getElem_cons_succ, List.getElem_cons_zero]
  (go_simp; (with_reducible refine (dHash_any vx6 _ VA x6 HX.out (by have h0 := HR.out; have aHT := VHT.out; have aTM := VTM.out; have aPR := VPR.out; have aCH := VCH.out; (try simp only [List.length_append, rowL32, numsOf_length]); omega)).mono ?_); rintro e x7 hp; obtain ⟨vx7, rfl, hx, hb⟩ := refL_next hp (by have h0 := HR.out; have aHT := VHT.out; have aTM := VTM.out; have aPR := VPR.out; have aCH := VCH.out; simp only [List.length_append, rowL32, numsOf_length]; unfold maxLen; omega); replace HX := Lib.hid hx; replace HQ := Lib.hid (kept_blk _ _ _ _ HQ.out hb); replace HB := Lib.hid (HB.out.trans (hb.mono HB.out.size)); clear hp hx hb)
  refine hK _ _ (fun _ => HQ.out) ?_
  clear hK K
  try simp only [List.getElem_toArray, List.getElem_cons_succ, List.getElem_cons_zero, Act.put, List.setIfInBounds_toArray, List.set_cons_zero, List.set_cons_succ]
  refine anyT_one (i := 15) (by kernel_rfl) rfl (fun K hK => ?_)
  rw [if_pos (by rfl)]
  try simp only [List.getElem_toArray, List.getElem_cons_succ, List.getElem_cons_zero]
  (go_simp; (with_reducible refine (dHash_any vx7 _ NX x7 HX.out (by have h0 := HR.out; have aHT := VHT.out; have aTM := VTM.out; have aPR := VPR.out; have aCH := VCH.out; (try simp only [List.length_append, rowL32, numsOf_length]); omega)).mono ?_); rintro e x8 hp; obtain ⟨vx8, rfl, hx, hb⟩ := refL_next hp (by have h0 := HR.out; have aHT := VHT.out; have aTM := VTM.out; have aPR := VPR.out; have aCH := VCH.out; simp only [List.length_append, rowL32, numsOf_length]; unfold maxLen; omega); replace HX := Lib.hid hx; replace HQ := Lib.hid (kept_blk _ _ _ _ HQ.out hb); replace HB := Lib.hid (HB.out.trans (hb.mono HB.out.size)); clear hp hx hb)
  refine hK _ _ (fun _ => HQ.out) ?_
  clear hK K
  try simp only [List.getElem_toArray, List.getElem_cons_succ, List.getElem_cons_zero, Act.put, List.setIfInBounds_toArray, List.set_cons_zero, List.set_cons_succ]
  refine anyT_take [] (i := 16) (v := vx8) rfl (by kernel_rfl) (by kernel_rfl) (by kernel_rfl) (fun _ _ _ h => h) (by kernel_rfl) (Or.inl ⟨by rfl, fun w' _ => by go_simp⟩) HQ.out ?_
  try simp only [List.getElem_toArray, List.getElem_cons_succ, List.getElem_cons_zero, Act.put, List.setIfInBounds_toArray, List.set_cons_zero, List.set_cons_succ]
  refine anyT_done (by kernel_rfl) ?_ _
  have cz := (hdD_cells HQ.out).2.2.2.2.2.2.2.2
  go_wp2_with (go_at_call 61; (with_reducible refine (dInt_any vx8 _ PR x8 HX.out IPR.out.1 IPR.out.2 (by have h0 := HR.out; have aHT := VHT.out; have aTM := VTM.out; have aPR := VPR.out; have aCH := VCH.out; (try simp only [List.length_append, rowL32, numsOf_length]); omega)).mono ?_); rintro e wz hp; obtain ⟨vz, rfl, hx, hb⟩ := refL_next hp (by have h0 := HR.out; have aHT := VHT.out; have aTM := VTM.out; have aPR := VPR.out; have aCH := VCH.out; simp only [List.length_append, rowL32, numsOf_length]; unfold maxLen; omega); replace HX := Lib.hid hx; replace HB := Lib.hid (HB.out.trans (hb.mono HB.out.size)); clear hp hx hb)
  go_ret
  exact ⟨vz, rfl, by have h := HX.out; simpa only [hdL, List.append_assoc] using h, HB.out⟩
def RlR {α : Type} (X : World → Prop) (w : World) (f : List α → List Int) (Z : List Int) (l : List α) (k : Nat) (y : Value) (wr : World) : Prop := Kp w wr X ∧ BytesIn wr y (Z ++ f (l.take k))
/-- a commit as an argument in memory -/
structure RcX (q : Nat) (c : Cm) (vv : Value) (l : List Vo) (w : World) : Prop where
  h : w.heap[q]? = some (.cells (cmC c vv) 29 (0, 0))
  v : VoIn w vv l
  s : ∀ t ∈ l, BytesIn w t.sv t.sign
theorem kept_rcx (q : Nat) (c : Cm) (vv : Value) (l : List Vo) : Kept (RcX q c vv l) := fun _ _ m hb => ⟨kept_blk _ _ _ _ m.h hb, m.v.below hb, fun t ht => (m.s t ht).below hb⟩
set_option maxHeartbeats 8000000 in
theorem rrefcm_any (b : Value) (bs : List Int) (c : Cm) (l : List Vo) (vv : Value) (w : World) (hb : BytesIn w b bs) (hl : VoIn w vv l) (hs : ∀ t ∈ l, BytesIn w t.sv t.sign) (ho : ∀ t ∈ l, VoFl t) (hc : CmFl c) (room : bs.length + (cmL c l).length + 400 ≤ 140737488355328) :
    Calls Tryz.prog 18 #[b, .agg (cmC c vv)] w fun e w' => ∃ vb, e = .returned vb ∧ BytesIn w' vb (bs ++ cmL c l) ∧ Below w.heap.size w w' := by
  obtain ⟨la, lc, rfl, -, hlm⟩ := hl.len
  have hb1 := below_alloc w (.cells (cmC c (.slice la l.length lc)) 29)
  have M := Lib.hid (show Kp w (w.alloc (.cells (cmC c (.slice la l.length lc)) 29)) (RcX w.heap.size c (.slice la l.length lc) l) from ⟨hb1, ⟨heap_alloc_new _ _, hl.below hb1, fun t m => (hs t m).below hb1⟩, kept_rcx _ _ _ _⟩)
  have HX := Lib.hid (hb.below hb1)
  have HO := Lib.hid ho
  have HR := Lib.hid (show bs.length + ((varint (zig c.height)).length + (varint (zig c.round)).length + 32 + ((varint l.length).length + (catL vo1 l).length)) + 400 ≤ 140737488355328 from by simp only [cmL, listL, List.length_append, rowL32] at room; omega)
  have V1 := Lib.hid (glenT (zig_lt hc.h.1 hc.h.2))
  have V2 := Lib.hid (glenT (zig_lt hc.r.1 hc.r.2))
  have V3 := Lib.hid (glenT (n := l.length) (by unfold maxLen at hlm; omega))
  have HCF := Lib.hid hc
  obtain ⟨H, hH⟩ : ∃ x, x = c.height := ⟨_, rfl⟩
  obtain ⟨R, hR⟩ : ∃ x, x = c.round := ⟨_, rfl⟩
  have HHR := Lib.hid (show H = c.height ∧ R = c.round from ⟨hH, hR⟩)
  rw [← hH] at HR V1
  rw [← hR] at HR V2
  obtain ⟨nl, hnl⟩ : ∃ n, n = l.length := ⟨_, rfl⟩
  have HNL := Lib.hid hnl
  rw [← hnl] at M HX HR V3 hlm ⊢
  have hnlI : (nl : Int) ≤ 9223372036854775807 := by unfold maxLen at hlm; omega
  have hu : IntKind.u64.wrap (nl : Int) = (nl : Int) := IntWalk.u64_in _ (by omega)
  have hn64 : nl < 18446744073709551616 := by unfold maxLen at hlm; omega
  clear hb hl hs ho hc room hlm hb1 hH hR hnl
  go_enter Tryz.func18, Tryz.ntmps18
  go_upto_region 1 with (fail)
  obtain ⟨q, hq⟩ : ∃ q, q = w.heap.size := ⟨_, rfl⟩
  rw [← hq] at M ⊢
  clear hq
  generalize w.alloc (.cells (cmC c (.slice la nl lc)) 29) = w0 at *
  refine wp_region_T (fun W => Kp w W (RcX q c (.slice la nl lc) l)) [0, 1, 2, 3, 4, 5, 6, 7, 8, 9, 10, 11, 12, 13, 14, 15] (by kernel_rfl) ?_
  replace M := Lib.hid (M.out.call (Below.refl _ _).drew)
  replace HX := Lib.hid (HX.out.below (Below.refl _ _).drew)
  generalize World.drew _ = d0 at *
  refine anyT_take [] (i := 0) (v := b) rfl (by kernel_rfl) (by kernel_rfl) (by kernel_rfl) (fun _ _ _ h => h) (by kernel_rfl) (Or.inl ⟨by rfl, fun w' _ => by go_simp⟩) M.out ?_
  try simp only [List.getElem_toArray, List.getElem_cons_succ, List.getElem_cons_zero, Act.put, List.setIfInBounds_toArray, List.set_cons_zero, List.set_cons_succ]
  refine anyT_take [] (i := 1) (v := .pointer (some ⟨q, 0, none⟩)) rfl (by kernel_rfl) (by kernel_rfl) (by kernel_rfl) (fun _ _ _ h => h) (by kernel_rfl) (Or.inl ⟨by rfl, fun w' _ => by go_simp⟩) M.out ?_
  try simp only [List.getElem_toArray, List.getElem_cons_succ, List.getElem_cons_zero, Act.put, List.setIfInBounds_toArray, List.set_cons_zero, List.set_cons_succ]
  refine anyT_take [] (i := 4) (v := .pointer (some ⟨q, 1, none⟩)) rfl (by kernel_rfl) (by kernel_rfl) (by kernel_rfl) (fun _ _ _ h => h) (by kernel_rfl) (Or.inl ⟨by rfl, fun w' _ => by go_simp⟩) M.out ?_
  try simp only [List.getElem_toArray, List.getElem_cons_succ, List.getElem_cons_zero, Act.put, List.setIfInBounds_toArray, List.set_cons_zero, List.set_cons_succ]
  refine anyT_take [] (i := 7) (v := .pointer (some ⟨q, 2, none⟩)) rfl (by kernel_rfl) (by kernel_rfl) (by kernel_rfl) (fun _ _ _ h => h) (by kernel_rfl) (Or.inl ⟨by rfl, fun w' _ => by go_simp⟩) M.out ?_
  try simp only [List.getElem_toArray, List.getElem_cons_succ, List.getElem_cons_zero, Act.put, List.setIfInBounds_toArray, List.set_cons_zero, List.set_cons_succ]
  refine anyT_take [] (i := 10) (v := .pointer (some ⟨q, 34, none⟩)) rfl (by kernel_rfl) (by kernel_rfl) (by kernel_rfl) (fun _ _ _ h => h) (by kernel_rfl) (Or.inl ⟨by rfl, fun w' _ => by go_simp⟩) M.out ?_
  try simp only [List.getElem_toArray, List.getElem_cons_succ, List.getElem_cons_zero, Act.put, List.setIfInBounds_toArray, List.set_cons_zero, List.set_cons_succ]
  refine anyT_take [] (i := 2) (v := .int .i64 H) rfl (by kernel_rfl) (by kernel_rfl) (by kernel_rfl) (fun _ _ _ h => h) (by kernel_rfl) (Or.inl ⟨by rfl, fun w' hS => by have c := (cm_cells hS.x.h).1; rw [← HHR.out.1] at c; go_simp⟩) M.out ?_
  try simp only [List.getElem_toArray, List.getElem_cons_succ, List.getElem_cons_zero, Act.put, List.setIfInBounds_toArray, List.set_cons_zero, List.set_cons_succ]
  refine anyT_take [] (i := 5) (v := .int .i64 R) rfl (by kernel_rfl) (by kernel_rfl) (by kernel_rfl) (fun _ _ _ h => h) (by kernel_rfl) (Or.inl ⟨by rfl, fun w' hS => by have c := (cm_cells hS.x.h).2.1; rw [← HHR.out.2] at c; go_simp⟩) M.out ?_
  try simp only [List.getElem_toArray, List.getElem_cons_succ, List.getElem_cons_zero, Act.put, List.setIfInBounds_toArray, List.set_cons_zero, List.set_cons_succ]
  refine anyT_take [] (i := 8) (v := .agg (rowOf .u8 32 c.blk)) rfl (by kernel_rfl) (by kernel_rfl) (by kernel_rfl) (fun _ _ _ h => h) (by kernel_rfl) (rowT_yields (by rfl) 23 (.tmp 13) rfl q 2 rfl _ _ (fun _ h => (cm_cells h.x.h).2.2.1) Tryz.underlying23 rfl (by rw [rowOf_size]; kernel_rfl)) M.out ?_
  try simp only [List.getElem_toArray, List.getElem_cons_succ, List.getElem_cons_zero, Act.put, List.setIfInBounds_toArray, List.set_cons_zero, List.set_cons_succ]
  refine anyT_take [] (i := 11) (v := .slice la nl lc) rfl (by kernel_rfl) (by kernel_rfl) (by kernel_rfl) (fun _ _ _ h => h) (by kernel_rfl) (Or.inl ⟨by rfl, fun w' hS => by have c := (cm_cells hS.x.h).2.2.2; go_simp⟩) M.out ?_
  try simp only [List.getElem_toArray, List.getElem_cons_succ, List.getElem_cons_zero, Act.put, List.setIfInBounds_toArray, List.set_cons_zero, List.set_cons_succ]
  refine anyT_take [] (i := 12) (v := .int .i64 (nl : Int)) rfl (by kernel_rfl) (by kernel_rfl) (by kernel_rfl) (fun _ _ _ h => h) (by kernel_rfl) (Or.inl ⟨by rfl, fun w' _ => by go_simp⟩) M.out ?_
  try simp only [List.getElem_toArray, List.getElem_cons_succ, List.getElem_cons_zero, Act.put, List.setIfInBounds_toArray, List.set_cons_zero, List.set_cons_succ]
  refine anyT_take [] (i := 13) (v := .int .u64 (nl : Int)) rfl (by kernel_rfl) (by kernel_rfl) (by kernel_rfl) (fun _ _ _ h => h) (by kernel_rfl) (Or.inl ⟨by rfl, fun w' _ => by go_simp⟩) M.out ?_
  try simp only [List.getElem_toArray, List.getElem_cons_succ, List.getElem_cons_zero, Act.put, List.setIfInBounds_toArray, List.set_cons_zero, List.set_cons_succ]
  refine anyT_one (i := 3) (by kernel_rfl) rfl (fun K hK => ?_)
  rw [if_pos (by rfl)]
  try simp only [List.getElem_toArray, List.getElem_cons_succ, List.getElem_cons_zero]
  (go_simp; (with_reducible refine (dInt_any b _ H d0 HX.out (by rw [HHR.out.1]; exact HCF.out.h.1) (by rw [HHR.out.1]; exact HCF.out.h.2) (by have h0 := HR.out; have a1 := V1.out; have a2 := V2.out; have a3 := V3.out; (try simp only [List.length_append, rowL32]); omega)).mono ?_); rintro e y1 hp; obtain ⟨vy1, rfl, hx, hb⟩ := refL_next hp (by have h0 := HR.out; have a1 := V1.out; have a2 := V2.out; have a3 := V3.out; simp only [List.length_append, rowL32]; unfold maxLen; omega); replace HX := Lib.hid hx; replace M := Lib.hid (M.out.call hb); clear hp hx hb)
  refine hK _ _ (fun _ => M.out) ?_
  clear hK K
  try simp only [List.getElem_toArray, List.getElem_cons_succ, List.getElem_cons_zero, Act.put, List.setIfInBounds_toArray, List.set_cons_zero, List.set_cons_succ]
  refine anyT_one (i := 6) (by kernel_rfl) rfl (fun K hK => ?_)
  rw [if_pos (by rfl)]
  try simp only [List.getElem_toArray, List.getElem_cons_succ, List.getElem_cons_zero]
  (go_simp; (with_reducible refine (dInt_any vy1 _ R y1 HX.out (by rw [HHR.out.2]; exact HCF.out.r.1) (by rw [HHR.out.2]; exact HCF.out.r.2) (by have h0 := HR.out; have a1 := V1.out; have a2 := V2.out; have a3 := V3.out; (try simp only [List.length_append, rowL32]); omega)).mono ?_); rintro e y2 hp; obtain ⟨vy2, rfl, hx, hb⟩ := refL_next hp (by have h0 := HR.out; have a1 := V1.out; have a2 := V2.out; have a3 := V3.out; simp only [List.length_append, rowL32]; unfold maxLen; omega); replace HX := Lib.hid hx; replace M := Lib.hid (M.out.call hb); clear hp hx hb)
  refine hK _ _ (fun _ => M.out) ?_
  clear hK K
  try simp only [List.getElem_toArray, List.getElem_cons_succ, List.getElem_cons_zero, Act.put, List.setIfInBounds_toArray, List.set_cons_zero, List.set_cons_succ]
  refine anyT_one (i := 9) (by kernel_rfl) rfl (fun K hK => ?_)
  rw [if_pos (by rfl)]
  try simp only [List.getElem_toArray, List.getElem_cons_succ, List.getElem_cons_zero]
  (go_simp; (with_reducible refine (dHash_any vy2 _ c.blk y2 HX.out (by have h0 := HR.out; have a1 := V1.out; have a2 := V2.out; have a3 := V3.out; (try simp only [List.length_append, rowL32]); omega)).mono ?_); rintro e y3 hp; obtain ⟨vy3, rfl, hx, hb⟩ := refL_next hp (by have h0 := HR.out; have a1 := V1.out; have a2 := V2.out; have a3 := V3.out; simp only [List.length_append, rowL32]; unfold maxLen; omega); replace HX := Lib.hid hx; replace M := Lib.hid (M.out.call hb); clear hp hx hb)
  refine hK _ _ (fun _ => M.out) ?_
  clear hK K
  try simp only [List.getElem_toArray, List.getElem_cons_succ, List.getElem_cons_zero, Act.put, List.setIfInBounds_toArray, List.set_cons_zero, List.set_cons_succ]
  refine anyT_one (i := 14) (by kernel_rfl) rfl (fun K hK => ?_)
  rw [if_pos (by rfl)]
  try simp only [List.getElem_toArray, List.getElem_cons_succ, List.getElem_cons_zero]
  (go_simp; (with_reducible refine (dUint_any vy3 _ nl y3 HX.out hn64 (by have h0 := HR.out; have a1 := V1.out; have a2 := V2.out; have a3 := V3.out; (try simp only [List.length_append, rowL32]); omega)).mono ?_); rintro e y4 hp; obtain ⟨vy4, rfl, hx, hb⟩ := refL_next hp (by have h0 := HR.out; have a1 := V1.out; have a2 := V2.out; have a3 := V3.out; simp only [List.length_append, rowL32]; unfold maxLen; omega); replace HX := Lib.hid hx; replace M := Lib.hid (M.out.call hb); clear hp hx hb)
  refine hK _ _ (fun _ => M.out) ?_
  clear hK K
  try simp only [List.getElem_toArray, List.getElem_cons_succ, List.getElem_cons_zero, Act.put, List.setIfInBounds_toArray, List.set_cons_zero, List.set_cons_succ]
  refine anyT_take [] (i := 15) (v := vy4) rfl (by kernel_rfl) (by kernel_rfl) (by kernel_rfl) (fun _ _ _ h => h) (by kernel_rfl) (Or.inl ⟨by rfl, fun w' _ => by go_simp⟩) M.out ?_
  try simp only [List.getElem_toArray, List.getElem_cons_succ, List.getElem_cons_zero, Act.put, List.setIfInBounds_toArray, List.set_cons_zero, List.set_cons_succ]
  refine anyT_done (by kernel_rfl) ?_ _
  obtain ⟨Z, hZ⟩ : ∃ Z, Z = (((bs ++ varint (zig H)) ++ varint (zig R)) ++ rowL 32 c.blk) ++ varint nl := ⟨_, rfl⟩
  have HZ := Lib.hid hZ
  rw [← hZ] at HX
  have HZL := Lib.hid (show Z.length + (catL vo1 l).length + 400 ≤ 140737488355328 from by rw [hZ]; have h0 := HR.out; simp only [List.nil_append, List.length_append, rowL32]; omega)
  have HR0 := Lib.hid (show RlR (RcX q c (.slice la nl lc) l) w (catL vo1) Z l 0 vy4 y4 from ⟨M.out, by simpa [catL] using HX.out⟩)
  clear HX M HR hZ
  go_wp2_with (fail)
  go_loopw [0, 5] (fun y x wr => ∃ k : Nat, k ≤ nl ∧ x = .int .i64 (k : Int) ∧ Hid (RlR (RcX q c (.slice la nl lc) l) w (catL vo1) Z l k y wr)) (fun _ x _ => nl - (intOf x).toNat)
  case atStart => exact ⟨0, Nat.zero_le _, rfl, HR0⟩
  case round =>
    clear HR0
    obtain ⟨k, hkn, rfl, HM⟩ := hrel
    obtain ⟨hm, hx0⟩ := HM.out
    have M := Lib.hid hm
    have HX := Lib.hid hx0
    obtain ⟨ya, yc, rfl, -⟩ := id hx0
    have c34 := (cm_cells M.out.x.h).2.2.2
    clear HM hm hx0
    by_cases hlt : k < nl
    · have hltI : (k : Int) < (nl : Int) := by omega
      obtain ⟨x, hx⟩ : ∃ x, l[k]? = some x := ⟨l[k]'(by have := HNL.out; omega), List.getElem?_eq_getElem _⟩
      have hv := M.out.x.v
      rw [HNL.out] at hv
      obtain ⟨ab, ao, rfl, hab, hra⟩ := hv.at hx
      have HT := Lib.hid (catL_take vo1 l k x hx)
      have HBX := Lib.hid (M.out.x.s x (List.mem_of_getElem? hx))
      have HFX := Lib.hid (HO.out x (List.mem_of_getElem? hx))
      have HRA := Lib.hid hra
      clear hra
      have HRM := Lib.hid (show (Z ++ catL vo1 (l.take k)).length + (vo1 x).length + 400 ≤ 140737488355328 from by
        have h1 := HZL.out
        have h2 := catL_room vo1 l (k + 1)
        rw [HT.out] at h2
        rw [List.length_append] at h2
        simp only [List.length_append]
        omega)
      obtain ⟨yl, hyl⟩ : ∃ n, n = (Z ++ catL vo1 (l.take k)).length := ⟨_, rfl⟩
      rw [← hyl] at HX ⊢
      clear hv hab hx hyl
      go_upto_region 4 with (first
        | (refine wpList_load_rowT (by rfl) 99 (.tmp 32) rfl ab (ao + k * 37) rfl (voC x) _ HRA.out Tryz.underlying99 rfl (by rw [voC_size]; kernel_rfl) ?_)
        | (go_at_call 66; (with_reducible refine (rrefvote_any (.slice ya yl yc) _ x wr HX.out HBX.out HFX.out HRM.out).mono ?_); rintro e w2 ⟨vb, rfl, hx2, hb⟩; replace HX := Lib.hid hx2; replace M := Lib.hid (M.out.call hb); clear hx2 hb))
      go_wp2_with (fail)
      go_roundw
      case rel => exact ⟨k + 1, by omega, by go_num, Lib.hid ⟨M.out, by have h := HX.out; rw [HT.out, ← List.append_assoc]; exact h⟩⟩
      case measure => simp [intOf]; omega
    · obtain rfl : k = nl := by omega
      go_wp2_with (fail)
      go_ret
      refine ⟨_, rfl, ?_, M.out.below⟩
      have h := HX.out
      have e : bs ++ cmL c l = Z ++ catL vo1 (l.take k) := by rw [HZ.out, HHR.out.1, HHR.out.2, HNL.out, List.take_length]; simp only [cmL, listL, List.append_assoc]
      rw [e]
      exact h
end Go.Proofs.YteokgklfljhcaaaGreatDoor
