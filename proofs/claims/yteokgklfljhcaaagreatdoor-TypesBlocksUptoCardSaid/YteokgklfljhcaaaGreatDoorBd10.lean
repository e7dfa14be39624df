/- Part 10 of the proof. -/
import Derived.Test.YteokgklfljhcaaaGreatDoorBd9
namespace Go.Proofs.YteokgklfljhcaaaGreatDoor
set_option linter.unusedVariables false
set_option linter.unusedSimpArgs false
open Go.RowKit
set_option maxRecDepth 100000
set_option linter.unusedSimpArgs false
set_option linter.unusedVariables false
theorem rowL32 (f : Nat → Int) : (rowL 32 f).length = 32 := by simp [rowL]
/-- behind writing: the Writer holds xs -/
def WsR (g : Nat) (v : Value) (w : World) (xs : List Int) (wr : World) : Prop := ∃ v', WAt wr g v' xs ∧ WStep g v v' w wr
theorem wpS_next {g : Nat} {v : Value} {xs ys : List Int} {w w' : World} {e : Ending} (h : WPost g v xs ys w e w') : e = .returned (.pointer (some ⟨g, 0, none⟩)) ∧ ∃ v', WAt w' g v' (xs ++ ys) ∧ WStep g v v' w w' := h
theorem rangeT_app {w : World} {g : Nat} {D A B C : Array Value} {T : TypeId} {n : Nat} (h : w.heap[g]? = some (.cells D T (0, 0))) (e : D = A ++ (B ++ C)) (hn : A.size = n) : w.rangeAt g n B.toList := fun j u hu => by
  have hj : j < B.size := by have := (List.getElem?_eq_some_iff.1 hu).1; simpa using this
  rw [cell_of_row w g (n + j) _ _ _ h, e, Array.getElem?_append_right (by omega), show n + j - A.size = j by omega, Array.getElem?_append_left hj]
  simpa using hu
theorem cellT_app {w : World} {g : Nat} {D A C : Array Value} {x : Value} {T : TypeId} {n : Nat} (h : w.heap[g]? = some (.cells D T (0, 0))) (e : D = A ++ (#[x] ++ C)) (hn : A.size = n) : w.cell? ⟨g, n, none⟩ = some x := by
  rw [cell_of_row w g n _ _ _ h, e, Array.getElem?_append_right (by omega), show n - A.size = 0 by omega, Array.getElem?_append_left (by simp)]; rfl
/-- a header's cells -/
def hdD (CH : ByteArray) (HT : Int) (TM : Int) (LA : Nat → Int) (AP : Nat → Int) (TX : Nat → Int) (VA : Nat → Int) (NX : Nat → Int) (PR : Int) : Array Value := #[.string CH] ++ (#[.int .i64 HT] ++ (#[.int .i64 TM] ++ (rowOf .u8 32 LA ++ (rowOf .u8 32 AP ++ (rowOf .u8 32 TX ++ (rowOf .u8 32 VA ++ (rowOf .u8 32 NX ++ (#[.int .i64 PR]))))))))
theorem hdD_size (CH : ByteArray) (HT : Int) (TM : Int) (LA : Nat → Int) (AP : Nat → Int) (TX : Nat → Int) (VA : Nat → Int) (NX : Nat → Int) (PR : Int) : (hdD CH HT TM LA AP TX VA NX PR).size = 164 := by simp [hdD, rowOf_size]
theorem hdD_cells {CH : ByteArray} {HT : Int} {TM : Int} {LA : Nat → Int} {AP : Nat → Int} {TX : Nat → Int} {VA : Nat → Int} {NX : Nat → Int} {PR : Int} {w : World} {g : Nat} {T : TypeId} (h : w.heap[g]? = some (.cells (hdD CH HT TM LA AP TX VA NX PR) T (0, 0))) :
    w.cell? ⟨g, 0, none⟩ = some (.string CH) ∧ w.cell? ⟨g, 1, none⟩ = some (.int .i64 HT) ∧ w.cell? ⟨g, 2, none⟩ = some (.int .i64 TM) ∧ w.rangeAt g 3 (rowOf .u8 32 LA).toList ∧ w.rangeAt g 35 (rowOf .u8 32 AP).toList ∧ w.rangeAt g 67 (rowOf .u8 32 TX).toList ∧ w.rangeAt g 99 (rowOf .u8 32 VA).toList ∧ w.rangeAt g 131 (rowOf .u8 32 NX).toList ∧ w.cell? ⟨g, 163, none⟩ = some (.int .i64 PR) := by
  refine ⟨?_, ?_, ?_, ?_, ?_, ?_, ?_, ?_, ?_⟩
  · exact cellT_app (A := #[])  (C := #[.int .i64 HT] ++ (#[.int .i64 TM] ++ (rowOf .u8 32 LA ++ (rowOf .u8 32 AP ++ (rowOf .u8 32 TX ++ (rowOf .u8 32 VA ++ (rowOf .u8 32 NX ++ (#[.int .i64 PR])))))))) h (by simp only [hdD, Array.append_assoc, Array.append_empty, Array.empty_append]) (by simp [rowOf_size])
  · exact cellT_app (A := #[.string CH])  (C := #[.int .i64 TM] ++ (rowOf .u8 32 LA ++ (rowOf .u8 32 AP ++ (rowOf .u8 32 TX ++ (rowOf .u8 32 VA ++ (rowOf .u8 32 NX ++ (#[.int .i64 PR]))))))) h (by simp only [hdD, Array.append_assoc, Array.append_empty, Array.empty_append]) (by simp [rowOf_size])
  · exact cellT_app (A := (#[.string CH]) ++ #[.int .i64 HT])  (C := rowOf .u8 32 LA ++ (rowOf .u8 32 AP ++ (rowOf .u8 32 TX ++ (rowOf .u8 32 VA ++ (rowOf .u8 32 NX ++ (#[.int .i64 PR])))))) h (by simp only [hdD, Array.append_assoc, Array.append_empty, Array.empty_append]) (by simp [rowOf_size])
  · exact rangeT_app (A := ((#[.string CH]) ++ #[.int .i64 HT]) ++ #[.int .i64 TM]) (B := rowOf .u8 32 LA) (C := rowOf .u8 32 AP ++ (rowOf .u8 32 TX ++ (rowOf .u8 32 VA ++ (rowOf .u8 32 NX ++ (#[.int .i64 PR]))))) h (by simp only [hdD, Array.append_assoc, Array.append_empty, Array.empty_append]) (by simp [rowOf_size])
  · exact rangeT_app (A := (((#[.string CH]) ++ #[.int .i64 HT]) ++ #[.int .i64 TM]) ++ rowOf .u8 32 LA) (B := rowOf .u8 32 AP) (C := rowOf .u8 32 TX ++ (rowOf .u8 32 VA ++ (rowOf .u8 32 NX ++ (#[.int .i64 PR])))) h (by simp only [hdD, Array.append_assoc, Array.append_empty, Array.empty_append]) (by simp [rowOf_size])
  · exact rangeT_app (A := ((((#[.string CH]) ++ #[.int .i64 HT]) ++ #[.int .i64 TM]) ++ rowOf .u8 32 LA) ++ rowOf .u8 32 AP) (B := rowOf .u8 32 TX) (C := rowOf .u8 32 VA ++ (rowOf .u8 32 NX ++ (#[.int .i64 PR]))) h (by simp only [hdD, Array.append_assoc, Array.append_empty, Array.empty_append]) (by simp [rowOf_size])
  · exact rangeT_app (A := (((((#[.string CH]) ++ #[.int .i64 HT]) ++ #[.int .i64 TM]) ++ rowOf .u8 32 LA) ++ rowOf .u8 32 AP) ++ rowOf .u8 32 TX) (B := rowOf .u8 32 VA) (C := rowOf .u8 32 NX ++ (#[.int .i64 PR])) h (by simp only [hdD, Array.append_assoc, Array.append_empty, Array.empty_append]) (by simp [rowOf_size])
  · exact rangeT_app (A := ((((((#[.string CH]) ++ #[.int .i64 HT]) ++ #[.int .i64 TM]) ++ rowOf .u8 32 LA) ++ rowOf .u8 32 AP) ++ rowOf .u8 32 TX) ++ rowOf .u8 32 VA) (B := rowOf .u8 32 NX) (C := #[.int .i64 PR]) h (by simp only [hdD, Array.append_assoc, Array.append_empty, Array.empty_append]) (by simp [rowOf_size])
  · exact cellT_app (A := (((((((#[.string CH]) ++ #[.int .i64 HT]) ++ #[.int .i64 TM]) ++ rowOf .u8 32 LA) ++ rowOf .u8 32 AP) ++ rowOf .u8 32 TX) ++ rowOf .u8 32 VA) ++ rowOf .u8 32 NX)  (C := #[]) h (by simp only [hdD, Array.append_assoc, Array.append_empty, Array.empty_append]) (by simp [rowOf_size])
def hdS (q : Nat) (CH : ByteArray) (HT : Int) (TM : Int) (LA : Nat → Int) (AP : Nat → Int) (TX : Nat → Int) (VA : Nat → Int) (NX : Nat → Int) (PR : Int) (w : World) : Prop := w.heap[q]? = some (.cells (hdD CH HT TM LA AP TX VA NX PR) 25 (0, 0))
/-- its bytes -/
def hdL (CH : ByteArray) (HT : Int) (TM : Int) (LA : Nat → Int) (AP : Nat → Int) (TX : Nat → Int) (VA : Nat → Int) (NX : Nat → Int) (PR : Int) : List Int := (((((((((varint CH.size ++ numsOf CH)) ++ varint (zig HT)) ++ varint (zig TM)) ++ rowL 32 LA) ++ rowL 32 AP) ++ rowL 32 TX) ++ rowL 32 VA) ++ rowL 32 NX) ++ varint (zig PR)
/-- a vote's cells -/
def voD (KI : Int) (HT : Int) (RD : Int) (BK : Nat → Int) (VL : Int) (sv : Value) : Array Value := #[.int .i64 KI] ++ (#[.int .i64 HT] ++ (#[.int .i64 RD] ++ (rowOf .u8 32 BK ++ (#[.int .i64 VL] ++ (#[sv])))))
theorem voD_cells {KI : Int} {HT : Int} {RD : Int} {BK : Nat → Int} {VL : Int} {sv : Value} {w : World} {g : Nat} {T : TypeId} (h : w.heap[g]? = some (.cells (voD KI HT RD BK VL sv) T (0, 0))) :
    w.cell? ⟨g, 0, none⟩ = some (.int .i64 KI) ∧ w.cell? ⟨g, 1, none⟩ = some (.int .i64 HT) ∧ w.cell? ⟨g, 2, none⟩ = some (.int .i64 RD) ∧ w.rangeAt g 3 (rowOf .u8 32 BK).toList ∧ w.cell? ⟨g, 35, none⟩ = some (.int .i64 VL) ∧ w.cell? ⟨g, 36, none⟩ = some sv := by
  refine ⟨?_, ?_, ?_, ?_, ?_, ?_⟩
  · exact cellT_app (A := #[])  (C := #[.int .i64 HT] ++ (#[.int .i64 RD] ++ (rowOf .u8 32 BK ++ (#[.int .i64 VL] ++ (#[sv]))))) h (by simp only [voD, Array.append_assoc, Array.append_empty, Array.empty_append]) (by simp [rowOf_size])
  · exact cellT_app (A := #[.int .i64 KI])  (C := #[.int .i64 RD] ++ (rowOf .u8 32 BK ++ (#[.int .i64 VL] ++ (#[sv])))) h (by simp only [voD, Array.append_assoc, Array.append_empty, Array.empty_append]) (by simp [rowOf_size])
  · exact cellT_app (A := (#[.int .i64 KI]) ++ #[.int .i64 HT])  (C := rowOf .u8 32 BK ++ (#[.int .i64 VL] ++ (#[sv]))) h (by simp only [voD, Array.append_assoc, Array.append_empty, Array.empty_append]) (by simp [rowOf_size])
  · exact rangeT_app (A := ((#[.int .i64 KI]) ++ #[.int .i64 HT]) ++ #[.int .i64 RD]) (B := rowOf .u8 32 BK) (C := #[.int .i64 VL] ++ (#[sv])) h (by simp only [voD, Array.append_assoc, Array.append_empty, Array.empty_append]) (by simp [rowOf_size])
  · exact cellT_app (A := (((#[.int .i64 KI]) ++ #[.int .i64 HT]) ++ #[.int .i64 RD]) ++ rowOf .u8 32 BK)  (C := #[sv]) h (by simp only [voD, Array.append_assoc, Array.append_empty, Array.empty_append]) (by simp [rowOf_size])
  · exact cellT_app (A := ((((#[.int .i64 KI]) ++ #[.int .i64 HT]) ++ #[.int .i64 RD]) ++ rowOf .u8 32 BK) ++ #[.int .i64 VL])  (C := #[]) h (by simp only [voD, Array.append_assoc, Array.append_empty, Array.empty_append]) (by simp [rowOf_size])
def voS (q : Nat) (KI : Int) (HT : Int) (RD : Int) (BK : Nat → Int) (VL : Int) (sv : Value) (w : World) : Prop := w.heap[q]? = some (.cells (voD KI HT RD BK VL sv) 99 (0, 0))
/-- its bytes -/
def voL (KI : Int) (HT : Int) (RD : Int) (BK : Nat → Int) (VL : Int) (SG : List Int) : List Int := (((((varint (zig KI)) ++ varint (zig HT)) ++ varint (zig RD)) ++ rowL 32 BK) ++ varint (zig VL)) ++ (varint SG.length ++ SG)
theorem voC_D (v : Vo) : voC v = voD v.kind v.height v.round v.blk v.val v.sv := by apply Array.toList_inj.1; simp [voC, voD]
set_option maxHeartbeats 8000000 in
theorem wheader_any (CH : ByteArray) (HT : Int) (TM : Int) (LA : Nat → Int) (AP : Nat → Int) (TX : Nat → Int) (VA : Nat → Int) (NX : Nat → Int) (PR : Int) (g : Nat) (v : Value) (XS : List Int) (w : World) (hw : WAt w g v XS) (hHT : -9223372036854775808 ≤ HT ∧ HT ≤ 9223372036854775807) (hTM : -9223372036854775808 ≤ TM ∧ TM ≤ 9223372036854775807) (hPR : -9223372036854775808 ≤ PR ∧ PR ≤ 9223372036854775807) (hl : XS.length + CH.size + 300 ≤ 140737488355328) :
    Calls Tryz.prog 60 #[.pointer (some ⟨g, 0, none⟩), .agg (hdD CH HT TM LA AP TX VA NX PR)] w fun e w' => e = .returned (.tuple #[]) ∧ WsR g v w (XS ++ hdL CH HT TM LA AP TX VA NX PR) w' := by
  have HBA := Lib.hid (below_alloc w (.cells (hdD CH HT TM LA AP TX VA NX PR) 25))
  have HQ := Lib.hid (show hdS w.heap.size CH HT TM LA AP TX VA NX PR (w.alloc (.cells (hdD CH HT TM LA AP TX VA NX PR) 25)) from heap_alloc_new w (.cells (hdD CH HT TM LA AP TX VA NX PR) 25))
  have HW := Lib.hid (hw.below HBA.out)
  have HS := Lib.hid (WStep.of_below (p := g) (v := v) HBA.out)
  have HNE := Lib.hid (show w.heap.size ≠ g ∧ some w.heap.size ≠ v.ownBlock from ⟨by have := hw.lt; omega, fun e => by have := (hw.ne _ e.symm).2; omega⟩)
  have HQB := Lib.hid (show w.heap.size < (w.alloc (.cells (hdD CH HT TM LA AP TX VA NX PR) 25)).heap.size by simp)
  have HL := Lib.hid hl
  have VCH := Lib.hid (glenT (n := CH.size) (by have := HL.out; omega))
  have VHT := Lib.hid (glenT (zig_lt hHT.1 hHT.2))
  have IHT := Lib.hid hHT
  have VTM := Lib.hid (glenT (zig_lt hTM.1 hTM.2))
  have ITM := Lib.hid hTM
  have VPR := Lib.hid (glenT (zig_lt hPR.1 hPR.2))
  have IPR := Lib.hid hPR
  clear hHT hTM hPR hl hw HBA
  go_enter Tryz.func60, Tryz.ntmps60
  go_upto_region 1 with (fail)
  obtain ⟨q, hq⟩ : ∃ q, q = w.heap.size := ⟨_, rfl⟩
  rw [← hq] at HQ HNE HQB ⊢
  clear hq
  generalize w.alloc (.cells (hdD CH HT TM LA AP TX VA NX PR) 25) = w1 at *
  have HSX := Lib.hid (show ∀ v' X, WStep g v v' w1 X → hdS q CH HT TM LA AP TX VA NX PR X from fun v' X hs => (hs.block q HQB.out HNE.out.1 HNE.out.2).trans HQ.out)
  have HZ := Lib.hid (WStep.refl g v w1)
  refine wp_region_T (hdS q CH HT TM LA AP TX VA NX PR) [0, 1, 2, 3, 4, 5, 6, 7, 8, 9] (by kernel_rfl) ?_
  replace HW := Lib.hid (HW.out.below (Below.refl _ _).drew)
  replace HS := Lib.hid (HS.out.trans (WStep.of_below (Below.refl _ _).drew))
  replace HZ := Lib.hid (HZ.out.trans (WStep.of_below (Below.refl _ _).drew))
  generalize World.drew _ = d0 at *
  refine anyT_take [] (i := 0) (v := .pointer (some ⟨g, 0, none⟩)) rfl (by kernel_rfl) (by kernel_rfl) (by kernel_rfl) (fun _ _ _ h => h) (by kernel_rfl) (Or.inl ⟨by rfl, fun w' _ => by go_simp⟩) (HSX.out _ _ HZ.out) ?_
  try simp only [List.getElem_toArray, List.getElem_cons_succ, List.getElem_cons_zero, Act.put, List.setIfInBounds_toArray, List.set_cons_zero, List.set_cons_succ]
  refine anyT_take [] (i := 1) (v := .pointer (some ⟨q, 0, none⟩)) rfl (by kernel_rfl) (by kernel_rfl) (by kernel_rfl) (fun _ _ _ h => h) (by kernel_rfl) (Or.inl ⟨by rfl, fun w' _ => by go_simp⟩) (HSX.out _ _ HZ.out) ?_
  try simp only [List.getElem_toArray, List.getElem_cons_succ, List.getElem_cons_zero, Act.put, List.setIfInBounds_toArray, List.set_cons_zero, List.set_cons_succ]
  refine anyT_take [] (i := 4) (v := .pointer (some ⟨q, 1, none⟩)) rfl (by kernel_rfl) (by kernel_rfl) (by kernel_rfl) (fun _ _ _ h => h) (by kernel_rfl) (Or.inl ⟨by rfl, fun w' _ => by go_simp⟩) (HSX.out _ _ HZ.out) ?_
  try simp only [List.getElem_toArray, List.getElem_cons_succ, List.getElem_cons_zero, Act.put, List.setIfInBounds_toArray, List.set_cons_zero, List.set_cons_succ]
  refine anyT_take [] (i := 7) (v := .pointer (some ⟨q, 2, none⟩)) rfl (by kernel_rfl) (by kernel_rfl) (by kernel_rfl) (fun _ _ _ h => h) (by kernel_rfl) (Or.inl ⟨by rfl, fun w' _ => by go_simp⟩) (HSX.out _ _ HZ.out) ?_
  try simp only [List.getElem_toArray, List.getElem_cons_succ, List.getElem_cons_zero, Act.put, List.setIfInBounds_toArray, List.set_cons_zero, List.set_cons_succ]
  refine anyT_take [] (i := 2) (v := .string CH) rfl (by kernel_rfl) (by kernel_rfl) (by kernel_rfl) (fun _ _ _ h => h) (by kernel_rfl) (Or.inl ⟨by rfl, fun w' hS => by have c := (hdD_cells hS).1; go_simp⟩) (HSX.out _ _ HZ.out) ?_
  try simp only [List.getElem_toArray, List.getElem_cons_succ, List.getElem_cons_zero, Act.put, List.setIfInBounds_toArray, List.set_cons_zero, List.set_cons_succ]
  refine anyT_take [] (i := 5) (v := .int .i64 HT) rfl (by kernel_rfl) (by kernel_rfl) (by kernel_rfl) (fun _ _ _ h => h) (by kernel_rfl) (Or.inl ⟨by rfl, fun w' hS => by have c := (hdD_cells hS).2.1; go_simp⟩) (HSX.out _ _ HZ.out) ?_
  try simp only [List.getElem_toArray, List.getElem_cons_succ, List.getElem_cons_zero, Act.put, List.setIfInBounds_toArray, List.set_cons_zero, List.set_cons_succ]
  refine anyT_take [] (i := 8) (v := .int .i64 TM) rfl (by kernel_rfl) (by kernel_rfl) (by kernel_rfl) (fun _ _ _ h => h) (by kernel_rfl) (Or.inl ⟨by rfl, fun w' hS => by have c := (hdD_cells hS).2.2.1; go_simp⟩) (HSX.out _ _ HZ.out) ?_
  try simp only [List.getElem_toArray, List.getElem_cons_succ, List.getElem_cons_zero, Act.put, List.setIfInBounds_toArray, List.set_cons_zero, List.set_cons_succ]
  refine anyT_one (i := 3) (by kernel_rfl) rfl (fun K hK => ?_)
  rw [if_pos (by rfl)]
  try simp only [List.getElem_toArray, List.getElem_cons_succ, List.getElem_cons_zero]
  (go_simp; (with_reducible refine (wtext_any g _ CH _ d0 HW.out (by have a := HL.out; have bVCH := VCH.out; have bVHT := VHT.out; have bVTM := VTM.out; have bVPR := VPR.out; (try simp only [List.length_append, rowL32, numsOf_length]); omega)).mono ?_); rintro e w0_0 hp; obtain ⟨rfl, v0_0, hw, hs⟩ := wpS_next hp; replace HW := Lib.hid hw; replace HS := Lib.hid (HS.out.trans hs); replace HZ := Lib.hid (HZ.out.trans hs); clear hp hw hs)
  refine hK _ _ (fun _ => HSX.out _ _ HZ.out) ?_
  clear hK K
  try simp only [List.getElem_toArray, List.getElem_cons_succ, List.getElem_cons_zero, Act.put, List.setIfInBounds_toArray, List.set_cons_zero, List.set_cons_succ]
  refine anyT_one (i := 6) (by kernel_rfl) rfl (fun K hK => ?_)
  rw [if_pos (by rfl)]
  try simp only [List.getElem_toArray, List.getElem_cons_succ, List.getElem_cons_zero]
  (go_simp; (with_reducible refine (wint_any g _ HT _ w0_0 HW.out IHT.out.1 IHT.out.2 (by have a := HL.out; have bVCH := VCH.out; have bVHT := VHT.out; have bVTM := VTM.out; have bVPR := VPR.out; (try simp only [List.length_append, rowL32, numsOf_length]); omega)).mono ?_); rintro e w0_1 hp; obtain ⟨rfl, v0_1, hw, hs⟩ := wpS_next hp; replace HW := Lib.hid hw; replace HS := Lib.hid (HS.out.trans hs); replace HZ := Lib.hid (HZ.out.trans hs); clear hp hw hs)
  refine hK _ _ (fun _ => HSX.out _ _ HZ.out) ?_
  clear hK K
  try simp only [List.getElem_toArray, List.getElem_cons_succ, List.getElem_cons_zero, Act.put, List.setIfInBounds_toArray, List.set_cons_zero, List.set_cons_succ]
  refine anyT_one (i := 9) (by kernel_rfl) rfl (fun K hK => ?_)
  rw [if_pos (by rfl)]
  try simp only [List.getElem_toArray, List.getElem_cons_succ, List.getElem_cons_zero]
  (go_simp; (with_reducible refine (wint_any g _ TM _ w0_1 HW.out ITM.out.1 ITM.out.2 (by have a := HL.out; have bVCH := VCH.out; have bVHT := VHT.out; have bVTM := VTM.out; have bVPR := VPR.out; (try simp only [List.length_append, rowL32, numsOf_length]); omega)).mono ?_); rintro e w0_2 hp; obtain ⟨rfl, v0_2, hw, hs⟩ := wpS_next hp; replace HW := Lib.hid hw; replace HS := Lib.hid (HS.out.trans hs); replace HZ := Lib.hid (HZ.out.trans hs); clear hp hw hs)
  refine hK _ _ (fun _ => HSX.out _ _ HZ.out) ?_
  clear hK K
  try simp only [List.getElem_toArray, List.getElem_cons_succ, List.getElem_cons_zero, Act.put, List.setIfInBounds_toArray, List.set_cons_zero, List.set_cons_succ]
  refine anyT_done (by kernel_rfl) ?_ _
  go_upto_region 2 with (fail)
  refine wp_region_T (hdS q CH HT TM LA AP TX VA NX PR) [0, 1, 2, 3, 4, 5, 6, 7, 8, 9, 10, 11, 12, 13, 14, 15] (by kernel_rfl) ?_
  replace HW := Lib.hid (HW.out.below (Below.refl _ _).drew)
  replace HS := Lib.hid (HS.out.trans (WStep.of_below (Below.refl _ _).drew))
  replace HZ := Lib.hid (HZ.out.trans (WStep.of_below (Below.refl _ _).drew))
  generalize World.drew _ = d1 at *
  refine anyT_take [] (i := 0) (v := .pointer (some ⟨g, 0, none⟩)) rfl (by kernel_rfl) (by kernel_rfl) (by kernel_rfl) (fun _ _ _ h => h) (by kernel_rfl) (Or.inl ⟨by rfl, fun w' _ => by go_simp⟩) (HSX.out _ _ HZ.out) ?_
  try simp only [List.getElem_toArray, List.getElem_cons_succ, List.getElem_cons_zero, Act.put, List.setIfInBounds_toArray, List.set_cons_zero, List.set_cons_succ]
  refine anyT_take [] (i := 1) (v := .pointer (some ⟨q, 3, none⟩)) rfl (by kernel_rfl) (by kernel_rfl) (by kernel_rfl) (fun _ _ _ h => h) (by kernel_rfl) (Or.inl ⟨by rfl, fun w' _ => by go_simp⟩) (HSX.out _ _ HZ.out) ?_
  try simp only [List.getElem_toArray, List.getElem_cons_succ, List.getElem_cons_zero, Act.put, List.setIfInBounds_toArray, List.set_cons_zero, List.set_cons_succ]
  refine anyT_take [] (i := 4) (v := .pointer (some ⟨q, 35, none⟩)) rfl (by kernel_rfl) (by kernel_rfl) (by kernel_rfl) (fun _ _ _ h => h) (by kernel_rfl) (Or.inl ⟨by rfl, fun w' _ => by go_simp⟩) (HSX.out _ _ HZ.out) ?_
  try simp only [List.getElem_toArray, List.getElem_cons_succ, List.getElem_cons_zero, Act.put, List.setIfInBounds_toArray, List.set_cons_zero, List.set_cons_succ]
  refine anyT_take [] (i := 7) (v := .pointer (some ⟨q, 67, none⟩)) rfl (by kernel_rfl) (by kernel_rfl) (by kernel_rfl) (fun _ _ _ h => h) (by kernel_rfl) (Or.inl ⟨by rfl, fun w' _ => by go_simp⟩) (HSX.out _ _ HZ.out) ?_
  try simp only [List.getElem_toArray, List.getElem_cons_succ, List.getElem_cons_zero, Act.put, List.setIfInBounds_toArray, List.set_cons_zero, List.set_cons_succ]
  refine anyT_take [] (i := 10) (v := .pointer (some ⟨q, 99, none⟩)) rfl (by kernel_rfl) (by kernel_rfl) (by kernel_rfl) (fun _ _ _ h => h) (by kernel_rfl) (Or.inl ⟨by rfl, fun w' _ => by go_simp⟩) (HSX.out _ _ HZ.out) ?_
  try simp only [List.getElem_toArray, List.getElem_cons_succ, List.getElem_cons_zero, Act.put, List.setIfInBounds_toArray, List.set_cons_zero, List.set_cons_succ]
  refine anyT_take [] (i := 13) (v := .pointer (some ⟨q, 131, none⟩)) rfl (by kernel_rfl) (by kernel_rfl) (by kernel_rfl) (fun _ _ _ h => h) (by kernel_rfl) (Or.inl ⟨by rfl, fun w' _ => by go_simp⟩) (HSX.out _ _ HZ.out) ?_
  try simp only [List.getElem_toArray, List.getElem_cons_succ, List.getElem_cons_zero, Act.put, List.setIfInBounds_toArray, List.set_cons_zero, List.set_cons_succ]
  refine anyT_take [] (i := 2) (v := .agg (rowOf .u8 32 LA)) rfl (by kernel_rfl) (by kernel_rfl) (by kernel_rfl) (fun _ _ _ h => h) (by kernel_rfl) (rowT_yields (by rfl) 23 (.tmp 15) rfl q 3 rfl _ _ (fun _ h => (hdD_cells h).2.2.2.1) Tryz.underlying23 rfl (by rw [rowOf_size]; kernel_rfl)) (HSX.out _ _ HZ.out) ?_
  try simp only [List.getElem_toArray, List.getElem_cons_succ, List.getElem_cons_zero, Act.put, List.setIfInBounds_toArray, List.set_cons_zero, List.set_cons_succ]
  refine anyT_take [] (i := 5) (v := .agg (rowOf .u8 32 AP)) rfl (by kernel_rfl) (by kernel_rfl) (by kernel_rfl) (fun _ _ _ h => h) (by kernel_rfl) (rowT_yields (by rfl) 23 (.tmp 18) rfl q 35 rfl _ _ (fun _ h => (hdD_cells h).2.2.2.2.1) Tryz.underlying23 rfl (by rw [rowOf_size]; kernel_rfl)) (HSX.out _ _ HZ.out) ?_
  try simp only [List.getElem_toArray, List.getElem_cons_succ, List.getElem_cons_zero, Act.put, List.setIfInBounds_toArray, List.set_cons_zero, List.set_cons_succ]
  refine anyT_take [] (i := 8) (v := .agg (rowOf .u8 32 TX)) rfl (by kernel_rfl) (by kernel_rfl) (by kernel_rfl) (fun _ _ _ h => h) (by kernel_rfl) (rowT_yields (by rfl) 23 (.tmp 21) rfl q 67 rfl _ _ (fun _ h => (hdD_cells h).2.2.2.2.2.1) Tryz.underlying23 rfl (by rw [rowOf_size]; kernel_rfl)) (HSX.out _ _ HZ.out) ?_
  try simp only [List.getElem_toArray, List.getElem_cons_succ, List.getElem_cons_zero, Act.put, List.setIfInBounds_toArray, List.set_cons_zero, List.set_cons_succ]
  refine anyT_take [] (i := 11) (v := .agg (rowOf .u8 32 VA)) rfl (by kernel_rfl) (by kernel_rfl) (by kernel_rfl) (fun _ _ _ h => h) (by kernel_rfl) (rowT_yields (by rfl) 23 (.tmp 24) rfl q 99 rfl _ _ (fun _ h => (hdD_cells h).2.2.2.2.2.2.1) Tryz.underlying23 rfl (by rw [rowOf_size]; kernel_rfl)) (HSX.out _ _ HZ.out) ?_
  try simp only [List.getElem_toArray, List.getElem_cons_succ, List.getElem_cons_zero, Act.put, List.setIfInBounds_toArray, List.set_cons_zero, List.set_cons_succ]
  refine anyT_take [] (i := 14) (v := .agg (rowOf .u8 32 NX)) rfl (by kernel_rfl) (by kernel_rfl) (by kernel_rfl) (fun _ _ _ h => h) (by kernel_rfl) (rowT_yields (by rfl) 23 (.tmp 27) rfl q 131 rfl _ _ (fun _ h => (hdD_cells h).2.2.2.2.2.2.2.1) Tryz.underlying23 rfl (by rw [rowOf_size]; kernel_rfl)) (HSX.out _ _ HZ.out) ?_
  try simp only [List.getElem_toArray, List.getElem_cons_succ, List.getElem_cons_zero, Act.put, List.setIfInBounds_toArray, List.set_cons_zero, List.set_cons_succ]
  refine anyT_one (i := 3) (by kernel_rfl) rfl (fun K hK => ?_)
  rw [if_pos (by rfl)]
  try simp only [List.getElem_toArray, List.getElem_cons_succ, List.getElem_cons_zero]
  (go_simp; (with_reducible refine (whash_any g _ _ LA d1 HW.out (by have a := HL.out; have bVCH := VCH.out; have bVHT := VHT.out; have bVTM := VTM.out; have bVPR := VPR.out; (try simp only [List.length_append, rowL32, numsOf_length]); omega)).mono ?_); rintro e w1_0 hp; obtain ⟨rfl, v1_0, hw, hs⟩ := wpS_next hp; replace HW := Lib.hid hw; replace HS := Lib.hid (HS.out.trans hs); replace HZ := Lib.hid (HZ.out.trans hs); clear hp hw hs)
  refine hK _ _ (fun _ => HSX.out _ _ HZ.out) ?_
  clear hK K
  try simp only [List.getElem_toArray, List.getElem_cons_succ, List.getElem_cons_zero, Act.put, List.setIfInBounds_toArray, List.set_cons_zero, List.set_cons_succ]
  refine anyT_one (i := 6) (by kernel_rfl) rfl (fun K hK => ?_)
  rw [if_pos (by rfl)]
  try simp only [List.getElem_toArray, List.getElem_cons_succ, List.getElem_cons_zero]
  (go_simp; (with_reducible refine (whash_any g _ _ AP w1_0 HW.out (by have a := HL.out; have bVCH := VCH.out; have bVHT := VHT.out; have bVTM := VTM.out; have bVPR := VPR.out; (try simp only [List.length_append, rowL32, numsOf_length]); omega)).mono ?_); rintro e w1_1 hp; obtain ⟨rfl, v1_1, hw, hs⟩ := wpS_next hp; replace HW := Lib.hid hw; replace HS := Lib.hid (HS.out.trans hs); replace HZ := Lib.hid (HZ.out.trans hs); clear hp hw hs)
  refine hK _ _ (fun _ => HSX.out _ _ HZ.out) ?_
  clear hK K
  try simp only [List.getElem_toArray, List.getElem_cons_succ, List.getElem_cons_zero, Act.put, List.setIfInBounds_toArray, List.set_cons_zero, List.set_cons_succ]
  refine anyT_one (i := 9) (by kernel_rfl) rfl (fun K hK => ?_)
  rw [if_pos (by rfl)]
  try simp only [List.getElem_toArray, List.getElem_cons_succ, List.getElem_cons_zero]
  (go_simp; (with_reducible refine (whash_any g _ _ TX w1_1 HW.out (by have a := HL.out; have bVCH := VCH.out; have bVHT := VHT.out; have bVTM := VTM.out; have bVPR := VPR.out; (try simp only [List.length_append, rowL32, numsOf_length]); omega)).mono ?_); rintro e w1_2 hp; obtain ⟨rfl, v1_2, hw, hs⟩ := wpS_next hp; replace HW := Lib.hid hw; replace HS := Lib.hid (HS.out.trans hs); replace HZ := Lib.hid (HZ.out.trans hs); clear hp hw hs)
  refine hK _ _ (fun _ => HSX.out _ _ HZ.out) ?_
  clear hK K
  try simp only [List.getElem_toArray, List.getElem_cons_succ, List.getElem_cons_zero, Act.put, List.setIfInBounds_toArray, List.set_cons_zero, List.set_cons_succ]
  refine anyT_one (i := 12) (by kernel_rfl) rfl (fun K hK => ?_)
  rw [if_pos (by rfl)]
  try simp only [List.getElem_toArray, List.getElem_cons_succ, List.getElem_cons_zero]
  (go_simp; (with_reducible refine (whash_any g _ _ VA w1_2 HW.out (by have a := HL.out; have bVCH := VCH.out; have bVHT := VHT.out; have bVTM := VTM.out; have bVPR := VPR.out; (try simp only [List.length_append, rowL32, numsOf_length]); omega)).mono ?_); rintro e w1_3 hp; obtain ⟨rfl, v1_3, hw, hs⟩ := wpS_next hp; replace HW := Lib.hid hw; replace HS := Lib.hid (HS.out.trans hs); replace HZ := Lib.hid (HZ.out.trans hs); clear hp hw hs)
  refine hK _ _ (fun _ => HSX.out _ _ HZ.out) ?_
  clear hK K
  try simp only [List.getElem_toArray, List.getElem_cons_succ, List.getElem_cons_zero, Act.put, List.setIfInBounds_toArray, List.set_cons_zero, List.set_cons_succ]
  refine anyT_one (i := 15) (by kernel_rfl) rfl (fun K hK => ?_)
  rw [if_pos (by rfl)]
  try simp only [List.getElem_toArray, List.getElem_cons_succ, List.getElem_cons_zero]
  (go_simp; (with_reducible refine (whash_any g _ _ NX w1_3 HW.out (by have a := HL.out; have bVCH := VCH.out; have bVHT := VHT.out; have bVTM := VTM.out; have bVPR := VPR.out; (try simp only [List.length_append, rowL32, numsOf_length]); omega)).mono ?_); rintro e w1_4 hp; obtain ⟨rfl, v1_4, hw, hs⟩ := wpS_next hp; replace HW := Lib.hid hw; replace HS := Lib.hid (HS.out.trans hs); replace HZ := Lib.hid (HZ.out.trans hs); clear hp hw hs)
  refine hK _ _ (fun _ => HSX.out _ _ HZ.out) ?_
  clear hK K
  try simp only [List.getElem_toArray, List.getElem_cons_succ, List.getElem_cons_zero, Act.put, List.setIfInBounds_toArray, List.set_cons_zero, List.set_cons_succ]
  refine anyT_done (by kernel_rfl) ?_ _
  have cz := (hdD_cells (HSX.out _ _ HZ.out)).2.2.2.2.2.2.2.2
  go_wp2_with (go_at_call 112; (with_reducible refine (wint_any g _ PR _ w1_4 HW.out IPR.out.1 IPR.out.2 (by have a := HL.out; have bVCH := VCH.out; have bVHT := VHT.out; have bVTM := VTM.out; have bVPR := VPR.out; (try simp only [List.length_append, rowL32, numsOf_length]); omega)).mono ?_); rintro e wz hp; obtain ⟨rfl, vz, hwz, hsz⟩ := wpS_next hp; replace HW := Lib.hid hwz; replace HS := Lib.hid (HS.out.trans hsz); clear hp hwz hsz)
  go_end0
  exact ⟨rfl, _, by have := HW.out; unfold hdL; simpa only [List.append_assoc] using this, HS.out⟩
theorem hdL_len (CH : ByteArray) (HT : Int) (TM : Int) (LA : Nat → Int) (AP : Nat → Int) (TX : Nat → Int) (VA : Nat → Int) (NX : Nat → Int) (PR : Int) (hHT : -9223372036854775808 ≤ HT ∧ HT ≤ 9223372036854775807) (hTM : -9223372036854775808 ≤ TM ∧ TM ≤ 9223372036854775807) (hPR : -9223372036854775808 ≤ PR ∧ PR ≤ 9223372036854775807) (hl : CH.size + 300 ≤ 140737488355328) : (hdL CH HT TM LA AP TX VA NX PR).length ≤ CH.size + 300 := by
  have vCH := glenT (n := CH.size) (by omega)
  have vHT := glenT (zig_lt hHT.1 hHT.2)
  have vTM := glenT (zig_lt hTM.1 hTM.2)
  have vPR := glenT (zig_lt hPR.1 hPR.2)
  simp only [hdL, List.length_append, rowL32, numsOf_length]; omega
set_option maxHeartbeats 4000000 in
theorem ench_any (CH : ByteArray) (HT : Int) (TM : Int) (LA : Nat → Int) (AP : Nat → Int) (TX : Nat → Int) (VA : Nat → Int) (NX : Nat → Int) (PR : Int) (w : World) (hHT : -9223372036854775808 ≤ HT ∧ HT ≤ 9223372036854775807) (hTM : -9223372036854775808 ≤ TM ∧ TM ≤ 9223372036854775807) (hPR : -9223372036854775808 ≤ PR ∧ PR ≤ 9223372036854775807) (hl : CH.size + 300 ≤ 140737488355328) :
    Calls Tryz.prog 59 #[.agg (hdD CH HT TM LA AP TX VA NX PR), .func (.func 60) #[] #[]] w fun e w' => ∃ vb, e = .returned vb ∧ BytesIn w' vb (hdL CH HT TM LA AP TX VA NX PR) ∧ Below w.heap.size w w' := by
  have HBA := Lib.hid (below_alloc w (.cells (hdD CH HT TM LA AP TX VA NX PR) 25))
  have HQ := Lib.hid (heap_alloc_new w (.cells (hdD CH HT TM LA AP TX VA NX PR) 25))
  have HL := Lib.hid hl
  have HI := Lib.hid (show (-9223372036854775808 ≤ HT ∧ HT ≤ 9223372036854775807) ∧ (-9223372036854775808 ≤ TM ∧ TM ≤ 9223372036854775807) ∧ (-9223372036854775808 ≤ PR ∧ PR ≤ 9223372036854775807) from ⟨hHT, hTM, hPR⟩)
  have HLL := Lib.hid (hdL_len CH HT TM LA AP TX VA NX PR hHT hTM hPR hl)
  clear hl hHT hTM hPR 
  go_enter Tryz.func59, Tryz.ntmps59
  go_upto_region 1 with (fail)
  generalize w.alloc (.cells (hdD CH HT TM LA AP TX VA NX PR) 25) = w1 at *
  go_wp2_with (first
    | (go_at_call 107; (with_reducible refine (new_any w1).mono ?_); rintro e w2 ⟨rfl, hw, hb⟩; have HW := Lib.hid hw; have HB2 := Lib.hid hb; replace HQ := Lib.hid ((hb.block _ (bkT_lt HQ.out)).trans HQ.out); clear hw hb)
    | (refine wpList_load_rowT (by rfl) 25 (.tmp 2) rfl w.heap.size 0 rfl (hdD CH HT TM LA AP TX VA NX PR) _ (rowT_range HQ.out) Tryz.underlying25 rfl (by rw [hdD_size]; kernel_rfl) ?_)
    | (go_at_call 60; (with_reducible refine (wheader_any CH HT TM LA AP TX VA NX PR w1.heap.size _ [] w2 HW.out HI.out.1 HI.out.2.1 HI.out.2.2 (by have := HL.out; simp only [List.length_nil]; omega)).mono ?_); rintro e w3 ⟨rfl, v3, hw, hs⟩; have HB3 := Lib.hid (HB2.out.trans (hs.below HW.out (Nat.le_refl _))); replace HW := Lib.hid (show WAt w3 w1.heap.size v3 (hdL CH HT TM LA AP TX VA NX PR) from hw); clear hw hs)
    | (go_at_call 108; (with_reducible refine (done_any w1.heap.size _ _ w3 HW.out (by have := HLL.out; have := HL.out; omega)).mono ?_); rintro e w4 ⟨vb, rfl, ho, hb⟩; have HO := Lib.hid ho; have HB4 := Lib.hid (HB3.out.trans (hb.mono HB3.out.size)); clear ho hb))
  go_ret
  exact ⟨_, rfl, owns_in HO.out (by have := HLL.out; have := HL.out; unfold maxLen; omega), HBA.out.trans (HB4.out.mono HBA.out.size)⟩
set_option maxHeartbeats 4000000 in
theorem eheader_any (CH : ByteArray) (HT : Int) (TM : Int) (LA : Nat → Int) (AP : Nat → Int) (TX : Nat → Int) (VA : Nat → Int) (NX : Nat → Int) (PR : Int) (w : World) (hHT : -9223372036854775808 ≤ HT ∧ HT ≤ 9223372036854775807) (hTM : -9223372036854775808 ≤ TM ∧ TM ≤ 9223372036854775807) (hPR : -9223372036854775808 ≤ PR ∧ PR ≤ 9223372036854775807) (hl : CH.size + 300 ≤ 140737488355328) :
    Calls Tryz.prog 15 #[.agg (hdD CH HT TM LA AP TX VA NX PR)] w fun e w' => ∃ vb, e = .returned vb ∧ BytesIn w' vb (hdL CH HT TM LA AP TX VA NX PR) ∧ Below w.heap.size w w' := by
  have HBA := Lib.hid (below_alloc w (.cells (hdD CH HT TM LA AP TX VA NX PR) 25))
  have HQ := Lib.hid (heap_alloc_new w (.cells (hdD CH HT TM LA AP TX VA NX PR) 25))
  have HC := Lib.hid (ench_any CH HT TM LA AP TX VA NX PR (w.alloc (.cells (hdD CH HT TM LA AP TX VA NX PR) 25)) hHT hTM hPR hl)
  clear hl hHT hTM hPR 
  go_enter Tryz.func15, Tryz.ntmps15
  go_upto_region 1 with (fail)
  generalize w.alloc (.cells (hdD CH HT TM LA AP TX VA NX PR) 25) = w1 at *
  go_wp2_with (first
    | (refine wpList_load_rowT (by rfl) 25 (.tmp 1) rfl w.heap.size 0 rfl (hdD CH HT TM LA AP TX VA NX PR) _ (rowT_range HQ.out) Tryz.underlying25 rfl (by rw [hdD_size]; kernel_rfl) ?_)
    | (go_at_call 59; (with_reducible refine HC.out.mono ?_); rintro e w2 ⟨vb, rfl, hin, hb⟩; have HO := Lib.hid hin; have HB2 := Lib.hid hb; clear hin hb))
  go_ret
  exact ⟨_, rfl, HO.out, HBA.out.trans (HB2.out.mono HBA.out.size)⟩
end Go.Proofs.YteokgklfljhcaaaGreatDoor
