/- Part 17 of the proof. -/
import Derived.Test.YteokgklfljhcaaaGreatDoorBd11
namespace Go.Proofs.YteokgklfljhcaaaGreatDoor
set_option linter.unusedVariables false
set_option linter.unusedSimpArgs false
open Go.RowKit
set_option maxRecDepth 100000
set_option linter.unusedSimpArgs false
set_option linter.unusedVariables false
/-- a commit's bytes -/
def cmL (c : Cm) (l : List Vo) : List Int := ((varint (zig c.height) ++ varint (zig c.round)) ++ rowL 32 c.blk) ++ listL vo1 l
structure CmFl (c : Cm) : Prop where
  h : -9223372036854775808 ≤ c.height ∧ c.height ≤ 9223372036854775807
  r : -9223372036854775808 ≤ c.round ∧ c.round ≤ 9223372036854775807
def cmS11 (q : Nat) (c : Cm) (v : Value) (w : World) : Prop := w.heap[q]? = some (.cells (cmC c v) 29 (0, 0))
set_option maxHeartbeats 8000000 in
theorem wcommit_any (w0 : World) (g : Nat) (hg : w0.heap.size ≤ g) (c : Cm) (l : List Vo) (vv : Value) (hl : VoIn w0 vv l) (hs : ∀ t ∈ l, BytesIn w0 t.sv t.sign) (ho : ∀ t ∈ l, VoFl t) (hc : CmFl c) (v : Value) (XS : List Int) (w : World) (hw : WAt w g v XS) (hB : Below w0.heap.size w0 w) (room : XS.length + (cmL c l).length + 10 ≤ 140737488355328) :
    Calls Tryz.prog 65 #[.pointer (some ⟨g, 0, none⟩), .agg (cmC c vv)] w fun e w' => e = .returned (.tuple #[]) ∧ WsR g v w (XS ++ cmL c l) w' := by
  obtain ⟨la, lc, rfl, -, -⟩ := hl.len
  have HBA := Lib.hid (below_alloc w (.cells (cmC c (.slice la l.length lc)) 29))
  have HQ := Lib.hid (show cmS11 w.heap.size c (.slice la l.length lc) (w.alloc (.cells (cmC c (.slice la l.length lc)) 29)) from heap_alloc_new w (.cells (cmC c (.slice la l.length lc)) 29))
  have HW := Lib.hid (hw.below HBA.out)
  have HW0 := Lib.hid hw
  have HS := Lib.hid (WStep.of_below (p := g) (v := v) HBA.out)
  have HNE := Lib.hid (show w.heap.size ≠ g ∧ some w.heap.size ≠ v.ownBlock from ⟨by have := hw.lt; omega, fun e => by have := (hw.ne _ e.symm).2; omega⟩)
  have HQB := Lib.hid (show w.heap.size < (w.alloc (.cells (cmC c (.slice la l.length lc)) 29)).heap.size by simp)
  have HR := Lib.hid room
  have HV1 := Lib.hid (glenT (zig_lt hc.h.1 hc.h.2))
  have HV2 := Lib.hid (glenT (zig_lt hc.r.1 hc.r.2))
  have HLL := Lib.hid (show (cmL c l).length = (varint (zig c.height)).length + (varint (zig c.round)).length + 32 + (listL vo1 l).length from by simp only [cmL, List.length_append, rowL32])
  have HLW := Lib.hid (fun v XS w hw hB room => wlistV_any w0 g hg l (.slice la l.length lc) hl hs ho v XS w hw hB room)
  have HB := Lib.hid hB
  have HG := Lib.hid hg
  have HCF := Lib.hid hc
  obtain ⟨H, hH⟩ : ∃ x, x = c.height := ⟨_, rfl⟩
  obtain ⟨R, hR⟩ : ∃ x, x = c.round := ⟨_, rfl⟩
  have HHR := Lib.hid (show H = c.height ∧ R = c.round from ⟨hH, hR⟩)
  obtain ⟨nl, hnl⟩ : ∃ n, n = l.length := ⟨_, rfl⟩
  rw [← hnl] at HBA HQ HW HS HQB HLW ⊢
  clear hl hs ho hc hw hB hg room hH hR hnl
  go_enter Tryz.func65, Tryz.ntmps65
  go_upto_region 1 with (fail)
  obtain ⟨q, hq⟩ : ∃ q, q = w.heap.size := ⟨_, rfl⟩
  rw [← hq] at HQ HNE HQB ⊢
  clear hq
  generalize w.alloc (.cells (cmC c (.slice la nl lc)) 29) = w1 at *
  have HSX := Lib.hid (show ∀ v' X, WStep g v v' w1 X → cmS11 q c (.slice la nl lc) X from fun v' X hs => (hs.block q HQB.out HNE.out.1 HNE.out.2).trans HQ.out)
  have HZ := Lib.hid (WStep.refl g v w1)
  refine wp_region_T (cmS11 q c (.slice la nl lc)) [0, 1, 2, 3, 4, 5, 6, 7, 8, 9] (by kernel_rfl) ?_
  replace HW := Lib.hid (HW.out.below (Below.refl _ _).drew)
  replace HS := Lib.hid (HS.out.trans (WStep.of_below (Below.refl _ _).drew))
  replace HZ := Lib.hid (HZ.out.trans (WStep.of_below (Below.refl _ _).drew))
  generalize World.drew _ = d0 at *
  refine anyT_take [] (i := 0) (v := .pointer (some ⟨g, 0, none⟩)) rfl (by kernel_rfl) (by kernel_rfl) (by kernel_rfl) (fun _ _ _ h => h) (by kernel_rfl) (Or.inl ⟨by rfl, fun w' _ => by go_simp⟩) (HSX.out _ _ HZ.out) ?_
  try simp only [List.getElem_toArray, List.getElem_cons_succ, List.getElem_cons_zero, Act.put, List.setIfInBounds_toArray, List.set_cons_zero, List.set_cons_succ]
  refine anyT_take [] (i := 1) (v := .pointer (some ⟨q, 0, none⟩)) rfl (by kernel_rfl) (by kernel_rfl) (by kernel_rfl) (fun _ _ _ h => h) (by kernel_rfl) (Or.inl ⟨by rfl, fun w' _ => by go_simp⟩) (HSX.out _ _ HZ.out) ?_
  try simp only [List.getElem_toArray, List.getElem_cons_succ, List.getElem_cons_zero, Act.put, List.setIfInBounds_toArray, List.set_cons_zero, List.set_cons_succ]
  refine anyT_take [] (i := 4) (v := .pointer (some ⟨q, 1, none⟩)) rfl (by kernel_rfl) (by kernel_rfl) (by kernel_rfl) (fun _ _ _ h => h) (by kernel_rfl) (Or.inl ⟨by rfl, fun w' _ => by go_simp⟩) (HSX.out _ _ HZ.out) ?_
  try simp only [List.getElem_toArray, List.getElem_cons_succ, List.getElem_cons_zero, Act.put, List.setIfInBounds_toArray, List.set_cons_zero, List.set_cons_succ]
  refine anyT_take [] (i := 7) (v := .pointer (some ⟨q, 2, none⟩)) rfl (by kernel_rfl) (by kernel_rfl) (by kernel_rfl) (fun _ _ _ h => h) (by kernel_rfl) (Or.inl ⟨by rfl, fun w' _ => by go_simp⟩) (HSX.out _ _ HZ.out) ?_
  try simp only [List.getElem_toArray, List.getElem_cons_succ, List.getElem_cons_zero, Act.put, List.setIfInBounds_toArray, List.set_cons_zero, List.set_cons_succ]
  refine anyT_take [] (i := 2) (v := .int .i64 H) rfl (by kernel_rfl) (by kernel_rfl) (by kernel_rfl) (fun _ _ _ h => h) (by kernel_rfl) (Or.inl ⟨by rfl, fun w' hS => by have c := (cm_cells hS).1; rw [← HHR.out.1] at c; go_simp⟩) (HSX.out _ _ HZ.out) ?_
  try simp only [List.getElem_toArray, List.getElem_cons_succ, List.getElem_cons_zero, Act.put, List.setIfInBounds_toArray, List.set_cons_zero, List.set_cons_succ]
  refine anyT_take [] (i := 5) (v := .int .i64 R) rfl (by kernel_rfl) (by kernel_rfl) (by kernel_rfl) (fun _ _ _ h => h) (by kernel_rfl) (Or.inl ⟨by rfl, fun w' hS => by have c := (cm_cells hS).2.1; rw [← HHR.out.2] at c; go_simp⟩) (HSX.out _ _ HZ.out) ?_
  try simp only [List.getElem_toArray, List.getElem_cons_succ, List.getElem_cons_zero, Act.put, List.setIfInBounds_toArray, List.set_cons_zero, List.set_cons_succ]
  refine anyT_take [] (i := 8) (v := .agg (rowOf .u8 32 c.blk)) rfl (by kernel_rfl) (by kernel_rfl) (by kernel_rfl) (fun _ _ _ h => h) (by kernel_rfl) (rowT_yields (by rfl) 23 (.tmp 11) rfl q 2 rfl _ _ (fun _ h => (cm_cells h).2.2.1) Tryz.underlying23 rfl (by rw [rowOf_size]; kernel_rfl)) (HSX.out _ _ HZ.out) ?_
  try simp only [List.getElem_toArray, List.getElem_cons_succ, List.getElem_cons_zero, Act.put, List.setIfInBounds_toArray, List.set_cons_zero, List.set_cons_succ]
  refine anyT_one (i := 3) (by kernel_rfl) rfl (fun K hK => ?_)
  rw [if_pos (by rfl)]
  try simp only [List.getElem_toArray, List.getElem_cons_succ, List.getElem_cons_zero]
  (go_simp; (with_reducible refine (wint_any g _ H _ d0 HW.out (by rw [HHR.out.1]; exact HCF.out.h.1) (by rw [HHR.out.1]; exact HCF.out.h.2) (by have := HR.out; have := HLL.out; omega)).mono ?_); rintro e w2 hp; obtain ⟨rfl, v2, hw, hs⟩ := wpS_next hp; replace HW := Lib.hid hw; replace HS := Lib.hid (HS.out.trans hs); replace HZ := Lib.hid (HZ.out.trans hs); clear hp hw hs)
  refine hK _ _ (fun _ => HSX.out _ _ HZ.out) ?_
  clear hK K
  try simp only [List.getElem_toArray, List.getElem_cons_succ, List.getElem_cons_zero, Act.put, List.setIfInBounds_toArray, List.set_cons_zero, List.set_cons_succ]
  refine anyT_one (i := 6) (by kernel_rfl) rfl (fun K hK => ?_)
  rw [if_pos (by rfl)]
  try simp only [List.getElem_toArray, List.getElem_cons_succ, List.getElem_cons_zero]
  (go_simp; (with_reducible refine (wint_any g _ R _ w2 HW.out (by rw [HHR.out.2]; exact HCF.out.r.1) (by rw [HHR.out.2]; exact HCF.out.r.2) (by have := HR.out; have := HLL.out; rw [List.length_append, HHR.out.1]; omega)).mono ?_); rintro e w3 hp; obtain ⟨rfl, v3, hw, hs⟩ := wpS_next hp; replace HW := Lib.hid hw; replace HS := Lib.hid (HS.out.trans hs); replace HZ := Lib.hid (HZ.out.trans hs); clear hp hw hs)
  refine hK _ _ (fun _ => HSX.out _ _ HZ.out) ?_
  clear hK K
  try simp only [List.getElem_toArray, List.getElem_cons_succ, List.getElem_cons_zero, Act.put, List.setIfInBounds_toArray, List.set_cons_zero, List.set_cons_succ]
  refine anyT_one (i := 9) (by kernel_rfl) rfl (fun K hK => ?_)
  rw [if_pos (by rfl)]
  try simp only [List.getElem_toArray, List.getElem_cons_succ, List.getElem_cons_zero]
  (go_simp; (with_reducible refine (whash_any g _ _ c.blk w3 HW.out (by have := HR.out; have := HLL.out; rw [List.length_append, List.length_append, HHR.out.1, HHR.out.2]; omega)).mono ?_); rintro e w4 hp; obtain ⟨rfl, v4, hw, hs⟩ := wpS_next hp; replace HW := Lib.hid hw; replace HS := Lib.hid (HS.out.trans hs); replace HZ := Lib.hid (HZ.out.trans hs); clear hp hw hs)
  refine hK _ _ (fun _ => HSX.out _ _ HZ.out) ?_
  clear hK K
  try simp only [List.getElem_toArray, List.getElem_cons_succ, List.getElem_cons_zero, Act.put, List.setIfInBounds_toArray, List.set_cons_zero, List.set_cons_succ]
  refine anyT_done (by kernel_rfl) ?_ _
  have cz := (cm_cells (HSX.out _ _ HZ.out)).2.2.2
  go_wp2_with (go_at_call 114; (with_reducible refine (HLW.out v4 _ w4 HW.out (HB.out.trans (HS.out.below HW0.out HG.out)) (by have := HR.out; have := HLL.out; simp only [List.length_append, rowL32, HHR.out.1, HHR.out.2]; omega)).mono ?_); rintro e w5 ⟨rfl, v5, hw5, hs5⟩; replace HW := Lib.hid hw5; replace HS := Lib.hid (HS.out.trans hs5); clear hw5 hs5)
  go_end0
  refine ⟨rfl, v5, ?_, HS.out⟩
  have h := HW.out
  rw [HHR.out.1, HHR.out.2] at h
  simpa only [cmL, List.append_assoc] using h
/-- a header's values -/
structure Hd where
  CH : ByteArray
  HT : Int
  TM : Int
  LA : Nat → Int
  AP : Nat → Int
  TX : Nat → Int
  VA : Nat → Int
  NX : Nat → Int
  PR : Int
structure HdFl (h : Hd) : Prop where
  ht : -9223372036854775808 ≤ h.HT ∧ h.HT ≤ 9223372036854775807
  tm : -9223372036854775808 ≤ h.TM ∧ h.TM ≤ 9223372036854775807
  pr : -9223372036854775808 ≤ h.PR ∧ h.PR ≤ 9223372036854775807
  n : h.CH.size ≤ 140737488351232
/-- a block's bytes -/
def bkL (h : Hd) (ts : List Tb) (c : Cm) (l : List Vo) : List Int := (hdL h.CH h.HT h.TM h.LA h.AP h.TX h.VA h.NX h.PR) ++ (listL tb1 ts ++ cmL c l)
theorem bk_h {w : World} {g : Nat} {T : TypeId} {H C : Array Value} {tv : Value} (h : w.heap[g]? = some (.cells (bkD H tv C) T (0, 0))) (hs : H.size = 164) : w.rangeAt g 0 H.toList := by
  have := rangeT_app (A := #[]) (B := H) (C := #[tv] ++ C) h (by simp [bkD]) rfl
  exact this
theorem bk_t {w : World} {g : Nat} {T : TypeId} {H C : Array Value} {tv : Value} (h : w.heap[g]? = some (.cells (bkD H tv C) T (0, 0))) (hs : H.size = 164) : w.cell? ⟨g, 164, none⟩ = some tv := cellT_app (A := H) (C := C) h (by simp [bkD]) hs
theorem bk_c {w : World} {g : Nat} {T : TypeId} {H C : Array Value} {tv : Value} (h : w.heap[g]? = some (.cells (bkD H tv C) T (0, 0))) (hs : H.size = 164) : w.rangeAt g 165 C.toList := by
  have := rangeT_app (A := H ++ #[tv]) (B := C) (C := #[]) (n := 165) h (by simp [bkD]) (by simp [hs])
  exact this
set_option maxHeartbeats 8000000 in
theorem wblock_any (w0 : World) (g : Nat) (hg : w0.heap.size ≤ g) (h : Hd) (ts : List Tb) (tv : Value) (c : Cm) (l : List Vo) (vv : Value) (hh : HdFl h) (ht : TbIn w0 tv ts) (hts : ∀ t ∈ ts, BytesIn w0 t.bv t.bs) (hl : VoIn w0 vv l) (hs : ∀ t ∈ l, BytesIn w0 t.sv t.sign) (ho : ∀ t ∈ l, VoFl t) (hc : CmFl c) (v : Value) (XS : List Int) (w : World) (hw : WAt w g v XS) (hB : Below w0.heap.size w0 w) (room : XS.length + (bkL h ts c l).length + 300 ≤ 140737488355328) :
    Calls Tryz.prog 56 #[.pointer (some ⟨g, 0, none⟩), .agg (bkD (hdD h.CH h.HT h.TM h.LA h.AP h.TX h.VA h.NX h.PR) tv (cmC c vv))] w fun e w' => e = .returned (.tuple #[]) ∧ WsR g v w (XS ++ bkL h ts c l) w' := by
  obtain ⟨ta, tc, rfl, -, -⟩ := ht.len
  have HLB := Lib.hid (show (bkL h ts c l).length = (hdL h.CH h.HT h.TM h.LA h.AP h.TX h.VA h.NX h.PR).length + ((listL tb1 ts).length + (cmL c l).length) from by simp only [bkL, List.length_append])
  have HHS := Lib.hid (hdD_size h.CH h.HT h.TM h.LA h.AP h.TX h.VA h.NX h.PR)
  have HCH := Lib.hid (show h.CH.size ≤ (hdL h.CH h.HT h.TM h.LA h.AP h.TX h.VA h.NX h.PR).length from by simp only [hdL, List.length_append, numsOf_length]; omega)
  have HWH := Lib.hid (fun w hw room => wheader_any h.CH h.HT h.TM h.LA h.AP h.TX h.VA h.NX h.PR g v XS w hw hh.ht hh.tm hh.pr room)
  have HWT := Lib.hid (fun v XS w hw hB room => wlistT_any w0 g hg ts (.slice ta ts.length tc) ht hts v XS w hw hB room)
  have HWC := Lib.hid (fun v XS w hw hB room => wcommit_any w0 g hg c l vv hl hs ho hc v XS w hw hB room)
  have HBA := Lib.hid (below_alloc w (.cells (bkD (hdD h.CH h.HT h.TM h.LA h.AP h.TX h.VA h.NX h.PR) (.slice ta ts.length tc) (cmC c vv)) 31))
  have HQ := Lib.hid (heap_alloc_new w (.cells (bkD (hdD h.CH h.HT h.TM h.LA h.AP h.TX h.VA h.NX h.PR) (.slice ta ts.length tc) (cmC c vv)) 31))
  have HW := Lib.hid (hw.below HBA.out)
  have HW0 := Lib.hid hw
  have HS := Lib.hid (WStep.of_below (p := g) (v := v) HBA.out)
  have HNE := Lib.hid (show w.heap.size ≠ g ∧ some w.heap.size ≠ v.ownBlock from ⟨by have := hw.lt; omega, fun e => by have := (hw.ne _ e.symm).2; omega⟩)
  have HQB := Lib.hid (show w.heap.size < (w.alloc (.cells (bkD (hdD h.CH h.HT h.TM h.LA h.AP h.TX h.VA h.NX h.PR) (.slice ta ts.length tc) (cmC c vv)) 31)).heap.size by simp)
  have HR := Lib.hid room
  have HB := Lib.hid hB
  have HG := Lib.hid hg
  obtain ⟨HC, hHC⟩ : ∃ x, x = (hdD h.CH h.HT h.TM h.LA h.AP h.TX h.VA h.NX h.PR) := ⟨_, rfl⟩
  rw [← hHC] at HHS HBA HQ HW HS HQB HWH ⊢
  obtain ⟨CC, hCC⟩ : ∃ x, x = cmC c vv := ⟨_, rfl⟩
  have HCS := Lib.hid ((congrArg Array.size hCC).trans (cmC_size c vv))
  rw [← hCC] at HBA HQ HW HS HQB HWC ⊢
  obtain ⟨nl, hnl⟩ : ∃ n, n = ts.length := ⟨_, rfl⟩
  rw [← hnl] at HBA HQ HW HS HQB HWT ⊢
  clear hl hs ho hc hw hB hg room hnl hh ht hts hHC hCC
  go_enter Tryz.func56, Tryz.ntmps56
  go_upto_region 1 with (fail)
  obtain ⟨q, hq⟩ : ∃ q, q = w.heap.size := ⟨_, rfl⟩
  rw [← hq] at HQ HNE HQB ⊢
  clear hq
  generalize w.alloc (.cells (bkD HC (.slice ta nl tc) CC) 31) = w1 at *
  have HSX := Lib.hid (show ∀ v' X, WStep g v v' w1 X → X.heap[q]? = some (.cells (bkD HC (.slice ta nl tc) CC) 31 (0, 0)) from fun v' X hs => (hs.block q HQB.out HNE.out.1 HNE.out.2).trans HQ.out)
  go_wp2_with (first
    | (refine wpList_load_rowT (by rfl) 25 (.tmp 5) rfl q 0 rfl HC _ (bk_h HQ.out HHS.out) Tryz.underlying25 rfl (by rw [HHS.out]; kernel_rfl) ?_)
    | (go_at_call 60; (with_reducible refine (HWH.out w1 HW.out (by have := HR.out; have := HLB.out; have := HCH.out; omega)).mono ?_); rintro e w2 ⟨rfl, v2, hw2, hs2⟩; replace HW := Lib.hid hw2; replace HS := Lib.hid (HS.out.trans hs2); have HZ := Lib.hid hs2; have c2 := bk_t (HSX.out _ _ hs2) HHS.out; clear hw2 hs2)
    | (go_at_call 109; (with_reducible refine (HWT.out v2 _ w2 HW.out (HB.out.trans (HS.out.below HW0.out HG.out)) (by have := HR.out; have := HLB.out; simp only [List.length_append]; omega)).mono ?_); rintro e w3 ⟨rfl, v3, hw3, hs3⟩; replace HW := Lib.hid hw3; replace HS := Lib.hid (HS.out.trans hs3); replace HZ := Lib.hid (HZ.out.trans hs3); clear hw3 hs3)
    | (refine wpList_load_rowT (by rfl) 29 (.tmp 13) rfl q 165 rfl CC _ (bk_c (HSX.out _ _ HZ.out) HHS.out) Tryz.underlying29 rfl (by rw [HCS.out]; kernel_rfl) ?_)
    | (go_at_call 65; (with_reducible refine (HWC.out v3 _ w3 HW.out (HB.out.trans (HS.out.below HW0.out HG.out)) (by have := HR.out; have := HLB.out; simp only [List.length_append]; omega)).mono ?_); rintro e w4 ⟨rfl, v4, hw4, hs4⟩; replace HW := Lib.hid hw4; replace HS := Lib.hid (HS.out.trans hs4); clear hw4 hs4))
  go_end0
  exact ⟨rfl, v4, by have h := HW.out; simpa only [bkL, List.append_assoc] using h, HS.out⟩
set_option maxHeartbeats 4000000 in
theorem encblock_any (h : Hd) (ts : List Tb) (tv : Value) (c : Cm) (l : List Vo) (vv : Value) (w : World) (hh : HdFl h) (ht : TbIn w tv ts) (hts : ∀ t ∈ ts, BytesIn w t.bv t.bs) (hv : VoIn w vv l) (hs : ∀ t ∈ l, BytesIn w t.sv t.sign) (ho : ∀ t ∈ l, VoFl t) (hc : CmFl c) (hl : (bkL h ts c l).length + 400 ≤ 140737488355328) :
    Calls Tryz.prog 55 #[.agg (bkD (hdD h.CH h.HT h.TM h.LA h.AP h.TX h.VA h.NX h.PR) tv (cmC c vv)), .func (.func 56) #[] #[]] w fun e w' => ∃ vb, e = .returned vb ∧ BytesIn w' vb (bkL h ts c l) ∧ Below w.heap.size w w' := by
  have HBA := Lib.hid (below_alloc w (.cells (bkD (hdD h.CH h.HT h.TM h.LA h.AP h.TX h.VA h.NX h.PR) tv (cmC c vv)) 31))
  have HQ := Lib.hid (heap_alloc_new w (.cells (bkD (hdD h.CH h.HT h.TM h.LA h.AP h.TX h.VA h.NX h.PR) tv (cmC c vv)) 31))
  have HL := Lib.hid hl
  have HCW := Lib.hid (show ∀ g, (w.alloc (.cells (bkD (hdD h.CH h.HT h.TM h.LA h.AP h.TX h.VA h.NX h.PR) tv (cmC c vv)) 31)).heap.size ≤ g → ∀ v XS w2, WAt w2 g v XS → Below (w.alloc (.cells (bkD (hdD h.CH h.HT h.TM h.LA h.AP h.TX h.VA h.NX h.PR) tv (cmC c vv)) 31)).heap.size (w.alloc (.cells (bkD (hdD h.CH h.HT h.TM h.LA h.AP h.TX h.VA h.NX h.PR) tv (cmC c vv)) 31)) w2 → XS.length + (bkL h ts c l).length + 300 ≤ 140737488355328 → Calls Tryz.prog 56 #[.pointer (some ⟨g, 0, none⟩), .agg (bkD (hdD h.CH h.HT h.TM h.LA h.AP h.TX h.VA h.NX h.PR) tv (cmC c vv))] w2 fun e w' => e = .returned (.tuple #[]) ∧ WsR g v w2 (XS ++ bkL h ts c l) w' from fun g hg v XS w2 hw hB hr => wblock_any _ g hg h ts tv c l vv hh (ht.below HBA.out) (fun t m => (hts t m).below HBA.out) (hv.below HBA.out) (fun t m => (hs t m).below HBA.out) ho hc v XS w2 hw hB hr)
  obtain ⟨CC, hCC⟩ : ∃ x, x = bkD (hdD h.CH h.HT h.TM h.LA h.AP h.TX h.VA h.NX h.PR) tv (cmC c vv) := ⟨_, rfl⟩
  have HCS := Lib.hid ((congrArg Array.size hCC).trans (bkD_size (hdD_size _ _ _ _ _ _ _ _ _) (cmC_size _ _)))
  rw [← hCC] at HBA HQ HCW ⊢
  obtain ⟨LL, hLL⟩ : ∃ x, x = bkL h ts c l := ⟨_, rfl⟩
  rw [← hLL] at HL HCW ⊢
  clear hl hCC hLL hh ht hts hv hs ho hc
  go_enter Tryz.func55, Tryz.ntmps55
  go_upto_region 1 with (fail)
  generalize w.alloc (.cells CC 31) = w1 at *
  go_wp2_with (first
    | (go_at_call 107; (with_reducible refine (new_any w1).mono ?_); rintro e w2 ⟨rfl, hw, hb⟩; have HW := Lib.hid hw; have HB2 := Lib.hid hb; replace HQ := Lib.hid ((hb.block _ (bkT_lt HQ.out)).trans HQ.out); clear hw hb)
    | (refine wpList_load_rowT (by rfl) 31 (.tmp 2) rfl w.heap.size 0 rfl CC _ (rowT_range HQ.out) Tryz.underlying31 rfl (by rw [HCS.out]; kernel_rfl) ?_)
    | (go_at_call 56; (with_reducible refine (HCW.out w1.heap.size (Nat.le_refl _) _ [] w2 HW.out HB2.out (by have := HL.out; simp only [List.length_nil]; omega)).mono ?_); rintro e w3 ⟨rfl, v3, hw, hs⟩; have HB3 := Lib.hid (HB2.out.trans (hs.below HW.out (Nat.le_refl _))); replace HW := Lib.hid (show WAt w3 w1.heap.size v3 LL from hw); clear hw hs)
    | (go_at_call 108; (with_reducible refine (done_any w1.heap.size _ _ w3 HW.out (by have := HL.out; omega)).mono ?_); rintro e w4 ⟨vb, rfl, ho, hb⟩; have HO := Lib.hid ho; have HB4 := Lib.hid (HB3.out.trans (hb.mono HB3.out.size)); clear ho hb))
  go_ret
  exact ⟨_, rfl, owns_in HO.out (by have := HL.out; unfold maxLen; omega), HBA.out.trans (HB4.out.mono HBA.out.size)⟩
set_option maxHeartbeats 4000000 in
theorem eblock_any (h : Hd) (ts : List Tb) (tv : Value) (c : Cm) (l : List Vo) (vv : Value) (w : World) (hh : HdFl h) (ht : TbIn w tv ts) (hts : ∀ t ∈ ts, BytesIn w t.bv t.bs) (hv : VoIn w vv l) (hs : ∀ t ∈ l, BytesIn w t.sv t.sign) (ho : ∀ t ∈ l, VoFl t) (hc : CmFl c) (hl : (bkL h ts c l).length + 400 ≤ 140737488355328) :
    Calls Tryz.prog 13 #[.agg (bkD (hdD h.CH h.HT h.TM h.LA h.AP h.TX h.VA h.NX h.PR) tv (cmC c vv))] w fun e w' => ∃ vb, e = .returned vb ∧ BytesIn w' vb (bkL h ts c l) ∧ Below w.heap.size w w' := by
  have HBA := Lib.hid (below_alloc w (.cells (bkD (hdD h.CH h.HT h.TM h.LA h.AP h.TX h.VA h.NX h.PR) tv (cmC c vv)) 31))
  have HQ := Lib.hid (heap_alloc_new w (.cells (bkD (hdD h.CH h.HT h.TM h.LA h.AP h.TX h.VA h.NX h.PR) tv (cmC c vv)) 31))
  have HC := Lib.hid (encblock_any h ts tv c l vv (w.alloc (.cells (bkD (hdD h.CH h.HT h.TM h.LA h.AP h.TX h.VA h.NX h.PR) tv (cmC c vv)) 31)) hh (ht.below HBA.out) (fun t m => (hts t m).below HBA.out) (hv.below HBA.out) (fun t m => (hs t m).below HBA.out) ho hc hl)
  obtain ⟨CC, hCC⟩ : ∃ x, x = bkD (hdD h.CH h.HT h.TM h.LA h.AP h.TX h.VA h.NX h.PR) tv (cmC c vv) := ⟨_, rfl⟩
  have HCS := Lib.hid ((congrArg Array.size hCC).trans (bkD_size (hdD_size _ _ _ _ _ _ _ _ _) (cmC_size _ _)))
  rw [← hCC] at HBA HQ HC ⊢
  clear hl hCC hh ht hts hv hs ho hc
  go_enter Tryz.func13, Tryz.ntmps13
  go_upto_region 1 with (fail)
  generalize w.alloc (.cells CC 31) = w1 at *
  go_wp2_with (first
    | (refine wpList_load_rowT (by rfl) 31 (.tmp 1) rfl w.heap.size 0 rfl CC _ (rowT_range HQ.out) Tryz.underlying31 rfl (by rw [HCS.out]; kernel_rfl) ?_)
    | (go_at_call 55; (with_reducible refine HC.out.mono ?_); rintro e w2 ⟨vb, rfl, hin, hb⟩; have HO := Lib.hid hin; have HB2 := Lib.hid hb; clear hin hb))
  go_ret
  exact ⟨_, rfl, HO.out, HBA.out.trans (HB2.out.mono HBA.out.size)⟩
end Go.Proofs.YteokgklfljhcaaaGreatDoor
