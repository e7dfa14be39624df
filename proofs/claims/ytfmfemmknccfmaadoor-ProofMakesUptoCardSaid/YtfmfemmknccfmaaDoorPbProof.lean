/- For all pairs and every key that are together of bulk at most 1048576 (values and letters), ProofMakes returns true and leaves its arguments as they were. Conditions: that bulk; errors.errorType and the two tables of package sha read as the program's text lays them, which the card ties to that text. -/
import Derived.Deep.DeepHandedRow
import Derived.Deep.DeepWitnessRowRef
import Derived.ChangeMaps5
import Derived.Test.YtfmfemmknccfmaaDoorTie
import Derived.Test.YtfmfemmknccfmaaDoorCards
import Derived.SevenTiedAt
import Derived.Test.YtfmfemmknccfmaaDoorPaProof
import Derived.Test.YtfmfemmknccfmaaDoorPa45
import Derived.Test.YtfmfemmknccfmaaDoorPa43
import Derived.Test.YtfmfemmknccfmaaDoorPa38
import Derived.Test.YtfmfemmknccfmaaDoorPa1
import Derived.Test.YtfmfemmknccfmaaDoorPb5
import Derived.Test.YtfmfemmknccfmaaDoorPb7
namespace Go.Proofs.YtfmfemmknccfmaaDoor
set_option linter.unusedVariables false
set_option linter.unusedSimpArgs false
open Go.RowKit
set_option maxRecDepth 100000
set_option linter.unusedSimpArgs false
set_option linter.unusedVariables false
theorem two_start {w : World} {xs ys : Array Value} {X Y : TypeId} : ((w.alloc (.cells xs X)).alloc (.cells ys Y)).heap[w.heap.size]? = some (.cells xs X (0, 0)) ∧ ((w.alloc (.cells xs X)).alloc (.cells ys Y)).heap[w.heap.size + 1]? = some (.cells ys Y (0, 0)) ∧ Below w.heap.size w ((w.alloc (.cells xs X)).alloc (.cells ys Y)) := by
  refine ⟨?_, ?_, ((Below.refl _ w).alloc (Nat.le_refl _) _).alloc (by simp) _⟩
  · rw [heap_alloc_old _ _ (by simp), heap_alloc_new]
  · have := heap_alloc_new (w.alloc (.cells xs X)) (.cells ys Y)
    rw [size_alloc] at this; exact this
theorem st_in_range {w : World} {v : Value} {l : List AvS} {i : Nat} {s : AvS} (h : StIn w v l) (hi : l[i]? = some s) : ∃ ab ao c, v = .slice (some ⟨ab, ao, none⟩) l.length c ∧ ab < w.heap.size ∧ w.rangeAt ab (ao + i * 34) s.cells := by
  obtain ⟨a, c, rfl⟩ := h.len
  obtain ⟨ab, ao, rfl, hl, hr⟩ := h.at i s hi
  exact ⟨ab, ao, c, rfl, hl, hr⟩
structure SaM (w0 w : World) (P : PvP) (sv sw : Value) : Prop where
  below : Below w0.heap.size w0 w
  h2 : w.heap[w0.heap.size]? = some (.cells (prC P sv) 52 (0, 0))
  h3 : w.heap[w0.heap.size + 1]? = some (.cells (prC P sw) 57 (0, 0))
  sv : StIn w sv P.steps
  sw : StIn w sw P.steps
theorem SaM.call {w0 w w' : World} {P : PvP} {sv sw : Value} (m : SaM w0 w P sv sw) (h : Below w.heap.size w w') : SaM w0 w' P sv sw :=
  ⟨m.below.trans (h.mono m.below.size), (h.block _ (bk_lt m.h2)).trans m.h2, (h.block _ (bk_lt m.h3)).trans m.h3, m.sv.below h, m.sw.below h⟩
theorem saM_start {w : World} {P : PvP} {sv sw : Value} (h1 : StIn w sv P.steps) (h2 : StIn w sw P.steps) : SaM w ((w.alloc (.cells (prC P sv) 52)).alloc (.cells (prC P sw) 57)) P sv sw := by
  obtain ⟨a, b, c⟩ := two_start (w := w) (xs := prC P sv) (ys := prC P sw) (X := 52) (Y := 57)
  exact ⟨c, a, b, h1.below c, h2.below c⟩
set_option maxHeartbeats 4000000 in
theorem same_any (P : PvP) (sv sw : Value) (w : World) (h1 : StIn w sv P.steps) (h2 : StIn w sw P.steps) : Calls Tryd.prog 24 #[.agg (prC P sv), .agg (prC P sw)] w fun e w' => e = .returned (.bool true) ∧ Below w.heap.size w w' := by
  have M := Lib.hid (saM_start h1 h2)
  have hlm : P.steps.length ≤ maxLen := by obtain ⟨_, _, _, _, hm, _⟩ := h1; exact hm
  unfold maxLen at hlm
  obtain ⟨va, vc, rfl⟩ := h1.len
  obtain ⟨ua, uc, rfl⟩ := h2.len
  have hk := sbeq_self P.key
  have hv := sbeq_self P.val
  clear h1 h2
  go_enter Tryd.func24, Tryd.ntmps24
  go_upto_region 1 with (fail)
  have e0 : (w.alloc (.cells #[.string P.key, .string P.val, .slice va P.steps.length vc] 52)).alloc (.cells #[.string P.key, .string P.val, .slice ua P.steps.length uc] 57) = (w.alloc (.cells (prC P (.slice va P.steps.length vc)) 52)).alloc (.cells (prC P (.slice ua P.steps.length uc)) 57) := rfl
  try rw [e0]
  clear e0
  generalize (w.alloc (.cells (prC P (.slice va P.steps.length vc)) 52)).alloc (.cells (prC P (.slice ua P.steps.length uc)) 57) = w1 at *
  obtain ⟨S, hS⟩ : ∃ S, S = P.steps := ⟨_, rfl⟩
  have HS := Lib.hid hS
  have c0 : w1.cell? ⟨w.heap.size, 0, none⟩ = some (.string P.key) := cell_of_row _ _ 0 _ _ _ M.out.h2
  have c1 : w1.cell? ⟨w.heap.size, 1, none⟩ = some (.string P.val) := cell_of_row _ _ 1 _ _ _ M.out.h2
  have c2 : w1.cell? ⟨w.heap.size, 2, none⟩ = some (.slice va P.steps.length vc) := cell_of_row _ _ 2 _ _ _ M.out.h2
  have d0 : w1.cell? ⟨w.heap.size + 1, 0, none⟩ = some (.string P.key) := cell_of_row _ _ 0 _ _ _ M.out.h3
  have d1 : w1.cell? ⟨w.heap.size + 1, 1, none⟩ = some (.string P.val) := cell_of_row _ _ 1 _ _ _ M.out.h3
  have d2 : w1.cell? ⟨w.heap.size + 1, 2, none⟩ = some (.slice ua P.steps.length uc) := cell_of_row _ _ 2 _ _ _ M.out.h3
  rw [← hS] at c2 d2 hlm ⊢
  clear hS
  go_wp2_with (fail)
  clear c0 c1 c2 d0 d1 d2 hk hv
  have HB := Lib.hid (Below.refl w1.heap.size w1)
  go_loopw [5] (fun x wr => ∃ k : Nat, k ≤ S.length ∧ x = .int .i64 (k : Int) ∧ Hid (Below w1.heap.size w1 wr)) (fun x _ => S.length - (intOf x).toNat)
  case atStart => exact ⟨0, Nat.zero_le _, rfl, HB⟩
  case round =>
    clear HB
    obtain ⟨k, hkl, rfl, HB⟩ := hrel
    have M2 := Lib.hid (M.out.call HB.out)
    by_cases hlt : k < S.length
    · obtain ⟨s, hs⟩ : ∃ s, S[k]? = some s := ⟨_, List.getElem?_eq_getElem hlt⟩
      have hs' : P.steps[k]? = some s := by rw [← HS.out]; exact hs
      obtain ⟨ab, ao, c', e1, hab, hra⟩ := st_in_range M2.out.sv hs'
      obtain ⟨bb, bo, c'', e2, hbb, hrb⟩ := st_in_range M2.out.sw hs'
      injection e1 with e1 _ _
      injection e2 with e2 _ _
      subst e1 e2
      have HRA := Lib.hid hra
      have HRB := Lib.hid hrb
      have hltI : (k : Int) < (S.length : Int) := by omega
      have c2 : wr.cell? ⟨w.heap.size, 2, none⟩ = some (.slice (some ⟨ab, ao, none⟩) S.length vc) := by have := cell_of_row _ _ 2 _ _ _ M2.out.h2; rw [HS.out]; exact this
      have d2 : wr.cell? ⟨w.heap.size + 1, 2, none⟩ = some (.slice (some ⟨bb, bo, none⟩) S.length uc) := by have := cell_of_row _ _ 2 _ _ _ M2.out.h3; rw [HS.out]; exact this
      have HC := Lib.hid (⟨c2, d2⟩ : _ ∧ _)
      clear hs hs' hra hrb hab hbb d2
      go_upto_region 6 with (fail)
      clear c2
      have hdr : Below wr.heap.size wr wr.drew := (Below.refl _ _).drew
      refine wp_region_T (fun w' => (w'.cell? ⟨w.heap.size, 2, none⟩ = some (.slice (some ⟨ab, ao, none⟩) S.length vc) ∧ w'.cell? ⟨w.heap.size + 1, 2, none⟩ = some (.slice (some ⟨bb, bo, none⟩) S.length uc)) ∧ w'.rangeAt ab (ao + k * 34) s.cells ∧ w'.rangeAt bb (bo + k * 34) s.cells) [1, 3, 4, 6, 8, 9] (by kernel_rfl) ?_
      have HSS := Lib.hid (show (wr.drew.cell? ⟨w.heap.size, 2, none⟩ = some (.slice (some ⟨ab, ao, none⟩) S.length vc) ∧ wr.drew.cell? ⟨w.heap.size + 1, 2, none⟩ = some (.slice (some ⟨bb, bo, none⟩) S.length uc)) ∧ wr.drew.rangeAt ab (ao + k * 34) s.cells ∧ wr.drew.rangeAt bb (bo + k * 34) s.cells from ⟨HC.out, HRA.out, HRB.out⟩)
      replace HB := Lib.hid (HB.out.trans (hdr.mono HB.out.size))
      generalize wr.drew = w2 at *
      refine anyT_takeY (i := 0) (v := .pointer (some ⟨w.heap.size, 2, none⟩)) rfl (by kernel_rfl) (by kernel_rfl) (by kernel_rfl) (fun _ _ _ h => h) (by kernel_rfl) (Or.inl ⟨by rfl, by intro w; go_simp⟩) ?_
      try simp only [List.getElem_toArray, List.getElem_cons_succ, List.getElem_cons_zero, Act.put, List.setIfInBounds_toArray, List.set_cons_zero, List.set_cons_succ]
      refine anyT_takeY (i := 2) (v := .int .i64 (k : Int)) rfl (by kernel_rfl) (by kernel_rfl) (by kernel_rfl) (fun _ _ _ h => h) (by kernel_rfl) (Or.inl ⟨by rfl, by intro w; go_simp⟩) ?_
      try simp only [List.getElem_toArray, List.getElem_cons_succ, List.getElem_cons_zero, Act.put, List.setIfInBounds_toArray, List.set_cons_zero, List.set_cons_succ]
      refine anyT_takeY (i := 5) (v := .pointer (some ⟨w.heap.size + 1, 2, none⟩)) rfl (by kernel_rfl) (by kernel_rfl) (by kernel_rfl) (fun _ _ _ h => h) (by kernel_rfl) (Or.inl ⟨by rfl, by intro w; go_simp⟩) ?_
      try simp only [List.getElem_toArray, List.getElem_cons_succ, List.getElem_cons_zero, Act.put, List.setIfInBounds_toArray, List.set_cons_zero, List.set_cons_succ]
      refine anyT_takeY (i := 7) (v := .int .i64 (k : Int)) rfl (by kernel_rfl) (by kernel_rfl) (by kernel_rfl) (fun _ _ _ h => h) (by kernel_rfl) (Or.inl ⟨by rfl, by intro w; go_simp⟩) ?_
      try simp only [List.getElem_toArray, List.getElem_cons_succ, List.getElem_cons_zero, Act.put, List.setIfInBounds_toArray, List.set_cons_zero, List.set_cons_succ]
      refine anyT_take [3, 4, 10] (i := 1) (v := .slice (some ⟨ab, ao, none⟩) S.length vc) rfl (by kernel_rfl) (by kernel_rfl) (by kernel_rfl) (fun _ _ _ h => h) (by kernel_rfl) (Or.inl ⟨by rfl, fun w' hS => by have c := hS.1.1; go_simp⟩) HSS.out ?_
      try simp only [List.getElem_toArray, List.getElem_cons_succ, List.getElem_cons_zero, Act.put, List.setIfInBounds_toArray, List.set_cons_zero, List.set_cons_succ]
      refine anyT_take [8, 9, 10] (i := 6) (v := .slice (some ⟨bb, bo, none⟩) S.length uc) rfl (by kernel_rfl) (by kernel_rfl) (by kernel_rfl) (fun _ _ _ h => h) (by kernel_rfl) (Or.inl ⟨by rfl, fun w' hS => by have c := hS.1.2; go_simp⟩) HSS.out ?_
      try simp only [List.getElem_toArray, List.getElem_cons_succ, List.getElem_cons_zero, Act.put, List.setIfInBounds_toArray, List.set_cons_zero, List.set_cons_succ]
      refine anyT_take [4, 10] (i := 3) (v := .pointer (some ⟨ab, ao + k * 34, none⟩)) rfl (by kernel_rfl) (by kernel_rfl) (by kernel_rfl) (fun _ _ _ h => h) (by kernel_rfl) (Or.inl ⟨by rfl, fun w' _ => by go_simp⟩) HSS.out ?_
      try simp only [List.getElem_toArray, List.getElem_cons_succ, List.getElem_cons_zero, Act.put, List.setIfInBounds_toArray, List.set_cons_zero, List.set_cons_succ]
      refine anyT_take [9, 10] (i := 8) (v := .pointer (some ⟨bb, bo + k * 34, none⟩)) rfl (by kernel_rfl) (by kernel_rfl) (by kernel_rfl) (fun _ _ _ h => h) (by kernel_rfl) (Or.inl ⟨by rfl, fun w' _ => by go_simp⟩) HSS.out ?_
      try simp only [List.getElem_toArray, List.getElem_cons_succ, List.getElem_cons_zero, Act.put, List.setIfInBounds_toArray, List.set_cons_zero, List.set_cons_succ]
      refine anyT_take [10] (i := 4) (v := .agg (stC s)) rfl (by kernel_rfl) (by kernel_rfl) (by kernel_rfl) (fun _ _ _ h => h) (by kernel_rfl) (row_yields' (by rfl) 119 (.tmp 37) rfl ab (ao + k * 34) rfl _ _ (fun _ h => h.2.1) Tryd.underlying119 rfl (by rw [stC_size]; kernel_rfl)) HSS.out ?_
      try simp only [List.getElem_toArray, List.getElem_cons_succ, List.getElem_cons_zero, Act.put, List.setIfInBounds_toArray, List.set_cons_zero, List.set_cons_succ]
      refine anyT_take [10] (i := 9) (v := .agg (stC s)) rfl (by kernel_rfl) (by kernel_rfl) (by kernel_rfl) (fun _ _ _ h => h) (by kernel_rfl) (row_yields' (by rfl) 120 (.tmp 42) rfl bb (bo + k * 34) rfl _ _ (fun _ h => h.2.2) Tryd.underlying120 rfl (by rw [stC_size]; kernel_rfl)) HSS.out ?_
      try simp only [List.getElem_toArray, List.getElem_cons_succ, List.getElem_cons_zero, Act.put, List.setIfInBounds_toArray, List.set_cons_zero, List.set_cons_succ]
      refine anyT_takeY (i := 10) (v := .bool false) rfl (by kernel_rfl) (by kernel_rfl) (by kernel_rfl) (fun _ _ _ h => h) (by kernel_rfl) (Or.inl ⟨by rfl, fun w => execStep (.tmp 38) (.tmp 43) rfl s rfl rfl⟩) ?_
      try simp only [List.getElem_toArray, List.getElem_cons_succ, List.getElem_cons_zero, Act.put, List.setIfInBounds_toArray, List.set_cons_zero, List.set_cons_succ]
      refine anyT_done (by kernel_rfl) ?_ _
      go_wp2_with (fail)
      go_roundw
      case rel => first | exact ⟨k + 1, by omega, by go_num, HB⟩ | exact ⟨k + 1, by omega, by omega⟩
      case measure => simp [intOf]; omega
    · obtain rfl : k = S.length := by omega
      have c2 : wr.cell? ⟨w.heap.size, 2, none⟩ = some (.slice va S.length vc) := by have := cell_of_row _ _ 2 _ _ _ M2.out.h2; rw [HS.out]; exact this
      go_wp2_with (fail)
      go_ret
      exact ⟨rfl, M2.out.below⟩
structure SsM (w0 w : World) (vl vr ul ur : Value) (L R : List PvP) : Prop where
  below : Below w0.heap.size w0 w
  h2 : w.heap[w0.heap.size]? = some (.cells #[vl, vr] 62 (0, 0))
  h3 : w.heap[w0.heap.size + 1]? = some (.cells #[ul, ur] 67 (0, 0))
  vl : PrsIn w vl L
  vr : PrsIn w vr R
  ul : PrsIn w ul L
  ur : PrsIn w ur R
theorem SsM.call {w0 w w' : World} {vl vr ul ur : Value} {L R : List PvP} (m : SsM w0 w vl vr ul ur L R) (h : Below w.heap.size w w') : SsM w0 w' vl vr ul ur L R :=
  ⟨m.below.trans (h.mono m.below.size), (h.block _ (bk_lt m.h2)).trans m.h2, (h.block _ (bk_lt m.h3)).trans m.h3, m.vl.below h, m.vr.below h, m.ul.below h, m.ur.below h⟩
theorem ssM_start {w : World} {vl vr ul ur : Value} {L R : List PvP} (h1 : PrsIn w vl L) (h2 : PrsIn w vr R) (h3 : PrsIn w ul L) (h4 : PrsIn w ur R) : SsM w ((w.alloc (.cells #[vl, vr] 62)).alloc (.cells #[ul, ur] 67)) vl vr ul ur L R := by
  obtain ⟨a, b, c⟩ := two_start (w := w) (xs := #[vl, vr]) (ys := #[ul, ur]) (X := 62) (Y := 67)
  exact ⟨c, a, b, h1.below c, h2.below c, h3.below c, h4.below c⟩
theorem pr_in_range {w : World} {v : Value} {l : List PvP} {i : Nat} {p : PvP} (h : PrsIn w v l) (hi : l[i]? = some p) : ∃ ab ao c sa sc, v = .slice (some ⟨ab, ao, none⟩) l.length c ∧ w.rangeAt ab (ao + i * 3) (prC p (.slice sa p.steps.length sc)).toList ∧ StIn w (.slice sa p.steps.length sc) p.steps := by
  obtain ⟨a, c, rfl, _⟩ := h.len
  obtain ⟨ab, ao, rfl, sv, hr, hst⟩ := h.at hi
  obtain ⟨sa, sc, rfl⟩ := hst.len
  exact ⟨ab, ao, c, sa, sc, rfl, hr, hst⟩
set_option maxHeartbeats 4000000 in
theorem sames_any (vl vr ul ur : Value) (L R : List PvP) (w : World) (h1 : PrsIn w vl L) (h2 : PrsIn w vr R) (h3 : PrsIn w ul L) (h4 : PrsIn w ur R) : Calls Tryd.prog 26 #[.agg #[vl, vr], .agg #[ul, ur]] w fun e w' => e = .returned (.bool true) ∧ Below w.heap.size w w' := by
  have M := Lib.hid (ssM_start h1 h2 h3 h4)
  obtain ⟨va, vc, rfl, hlm⟩ := h1.len
  obtain ⟨ra, rc, rfl, hrm⟩ := h2.len
  obtain ⟨ua, uc, rfl, _⟩ := h3.len
  obtain ⟨ta, tc, rfl, _⟩ := h4.len
  unfold maxLen at hlm hrm
  clear h1 h2 h3 h4
  go_enter Tryd.func26, Tryd.ntmps26
  go_upto_region 1 with (fail)
  generalize (w.alloc (.cells #[.slice va L.length vc, .slice ra R.length rc] 62)).alloc (.cells #[.slice ua L.length uc, .slice ta R.length tc] 67) = w1 at *
  have c0 : w1.cell? ⟨w.heap.size, 0, none⟩ = some (.slice va L.length vc) := cell_of_row _ _ 0 _ _ _ M.out.h2
  have c1 : w1.cell? ⟨w.heap.size, 1, none⟩ = some (.slice ra R.length rc) := cell_of_row _ _ 1 _ _ _ M.out.h2
  have d0 : w1.cell? ⟨w.heap.size + 1, 0, none⟩ = some (.slice ua L.length uc) := cell_of_row _ _ 0 _ _ _ M.out.h3
  have d1 : w1.cell? ⟨w.heap.size + 1, 1, none⟩ = some (.slice ta R.length tc) := cell_of_row _ _ 1 _ _ _ M.out.h3
  go_wp2_with (fail)
  clear c0 c1 d0 d1
  have HB := Lib.hid (Below.refl w1.heap.size w1)
  go_loopw [5] (fun x wr => ∃ k : Nat, k ≤ L.length ∧ x = .int .i64 (k : Int) ∧ Hid (Below w1.heap.size w1 wr)) (fun x _ => L.length - (intOf x).toNat)
  case atStart => exact ⟨0, Nat.zero_le _, rfl, HB⟩
  case round =>
    clear HB
    obtain ⟨k, hkl, rfl, HB⟩ := hrel
    have M2 := Lib.hid (M.out.call HB.out)
    by_cases hlt : k < L.length
    · obtain ⟨p, hp⟩ : ∃ p, L[k]? = some p := ⟨_, List.getElem?_eq_getElem hlt⟩
      obtain ⟨ab, ao, c', sa, sc, e1, hra, hsa⟩ := pr_in_range M2.out.vl hp
      obtain ⟨bb, bo, c'', ua', uc', e2, hrb, hsb⟩ := pr_in_range M2.out.ul hp
      injection e1 with e1 _ _
      injection e2 with e2 _ _
      subst e1 e2
      have HSA := Lib.hid (fun w h1 h2 => same_any p (.slice sa p.steps.length sc) (.slice ua' p.steps.length uc') w h1 h2)
      have HST := Lib.hid (⟨hsa, hsb⟩ : _ ∧ _)
      have hltI : (k : Int) < (L.length : Int) := by omega
      have c2 : wr.cell? ⟨w.heap.size, 0, none⟩ = some (.slice (some ⟨ab, ao, none⟩) L.length vc) := cell_of_row _ _ 0 _ _ _ M2.out.h2
      have d2 : wr.cell? ⟨w.heap.size + 1, 0, none⟩ = some (.slice (some ⟨bb, bo, none⟩) L.length uc) := cell_of_row _ _ 0 _ _ _ M2.out.h3
      have HC := Lib.hid ((⟨⟨c2, d2⟩, hra, hrb⟩) : (_ ∧ _) ∧ _ ∧ _)
      clear hp hra hrb hsa hsb d2
      go_upto_region 6 with (fail)
      clear c2
      have hdr : Below wr.heap.size wr wr.drew := (Below.refl _ _).drew
      refine wp_region_T (fun w' => (w'.cell? ⟨w.heap.size, 0, none⟩ = some (.slice (some ⟨ab, ao, none⟩) L.length vc) ∧ w'.cell? ⟨w.heap.size + 1, 0, none⟩ = some (.slice (some ⟨bb, bo, none⟩) L.length uc)) ∧ w'.rangeAt ab (ao + k * 3) (prC p (.slice sa p.steps.length sc)).toList ∧ w'.rangeAt bb (bo + k * 3) (prC p (.slice ua' p.steps.length uc')).toList) [1, 3, 4, 6, 8, 9] (by kernel_rfl) ?_
      have HSS := Lib.hid (show (wr.drew.cell? ⟨w.heap.size, 0, none⟩ = some (.slice (some ⟨ab, ao, none⟩) L.length vc) ∧ wr.drew.cell? ⟨w.heap.size + 1, 0, none⟩ = some (.slice (some ⟨bb, bo, none⟩) L.length uc)) ∧ wr.drew.rangeAt ab (ao + k * 3) (prC p (.slice sa p.steps.length sc)).toList ∧ wr.drew.rangeAt bb (bo + k * 3) (prC p (.slice ua' p.steps.length uc')).toList from HC.out)
      replace HST := Lib.hid (⟨HST.out.1.below hdr, HST.out.2.below hdr⟩ : _ ∧ _)
      replace HB := Lib.hid (HB.out.trans (hdr.mono HB.out.size))
      generalize wr.drew = w2 at *
      refine anyT_takeY (i := 0) (v := .pointer (some ⟨w.heap.size, 0, none⟩)) rfl (by kernel_rfl) (by kernel_rfl) (by kernel_rfl) (fun _ _ _ h => h) (by kernel_rfl) (Or.inl ⟨by rfl, by intro w; go_simp⟩) ?_
      try simp only [List.getElem_toArray, List.getElem_cons_succ, List.getElem_cons_zero, Act.put, List.setIfInBounds_toArray, List.set_cons_zero, List.set_cons_succ]
      refine anyT_takeY (i := 2) (v := .int .i64 (k : Int)) rfl (by kernel_rfl) (by kernel_rfl) (by kernel_rfl) (fun _ _ _ h => h) (by kernel_rfl) (Or.inl ⟨by rfl, by intro w; go_simp⟩) ?_
      try simp only [List.getElem_toArray, List.getElem_cons_succ, List.getElem_cons_zero, Act.put, List.setIfInBounds_toArray, List.set_cons_zero, List.set_cons_succ]
      refine anyT_takeY (i := 5) (v := .pointer (some ⟨w.heap.size + 1, 0, none⟩)) rfl (by kernel_rfl) (by kernel_rfl) (by kernel_rfl) (fun _ _ _ h => h) (by kernel_rfl) (Or.inl ⟨by rfl, by intro w; go_simp⟩) ?_
      try simp only [List.getElem_toArray, List.getElem_cons_succ, List.getElem_cons_zero, Act.put, List.setIfInBounds_toArray, List.set_cons_zero, List.set_cons_succ]
      refine anyT_takeY (i := 7) (v := .int .i64 (k : Int)) rfl (by kernel_rfl) (by kernel_rfl) (by kernel_rfl) (fun _ _ _ h => h) (by kernel_rfl) (Or.inl ⟨by rfl, by intro w; go_simp⟩) ?_
      try simp only [List.getElem_toArray, List.getElem_cons_succ, List.getElem_cons_zero, Act.put, List.setIfInBounds_toArray, List.set_cons_zero, List.set_cons_succ]
      refine anyT_take [3, 4, 10, 11] (i := 1) (v := .slice (some ⟨ab, ao, none⟩) L.length vc) rfl (by kernel_rfl) (by kernel_rfl) (by kernel_rfl) (fun _ _ _ h => h) (by kernel_rfl) (Or.inl ⟨by rfl, fun w' hS => by have c := hS.1.1; go_simp⟩) HSS.out ?_
      try simp only [List.getElem_toArray, List.getElem_cons_succ, List.getElem_cons_zero, Act.put, List.setIfInBounds_toArray, List.set_cons_zero, List.set_cons_succ]
      refine anyT_take [8, 9, 10, 11] (i := 6) (v := .slice (some ⟨bb, bo, none⟩) L.length uc) rfl (by kernel_rfl) (by kernel_rfl) (by kernel_rfl) (fun _ _ _ h => h) (by kernel_rfl) (Or.inl ⟨by rfl, fun w' hS => by have c := hS.1.2; go_simp⟩) HSS.out ?_
      try simp only [List.getElem_toArray, List.getElem_cons_succ, List.getElem_cons_zero, Act.put, List.setIfInBounds_toArray, List.set_cons_zero, List.set_cons_succ]
      refine anyT_take [4, 10, 11] (i := 3) (v := .pointer (some ⟨ab, ao + k * 3, none⟩)) rfl (by kernel_rfl) (by kernel_rfl) (by kernel_rfl) (fun _ _ _ h => h) (by kernel_rfl) (Or.inl ⟨by rfl, fun w' _ => by go_simp⟩) HSS.out ?_
      try simp only [List.getElem_toArray, List.getElem_cons_succ, List.getElem_cons_zero, Act.put, List.setIfInBounds_toArray, List.set_cons_zero, List.set_cons_succ]
      refine anyT_take [9, 10, 11] (i := 8) (v := .pointer (some ⟨bb, bo + k * 3, none⟩)) rfl (by kernel_rfl) (by kernel_rfl) (by kernel_rfl) (fun _ _ _ h => h) (by kernel_rfl) (Or.inl ⟨by rfl, fun w' _ => by go_simp⟩) HSS.out ?_
      try simp only [List.getElem_toArray, List.getElem_cons_succ, List.getElem_cons_zero, Act.put, List.setIfInBounds_toArray, List.set_cons_zero, List.set_cons_succ]
      refine anyT_take [10, 11] (i := 4) (v := .agg (prC p (.slice sa p.steps.length sc))) rfl (by kernel_rfl) (by kernel_rfl) (by kernel_rfl) (fun _ _ _ h => h) (by kernel_rfl) (row_yields' (by rfl) 52 (.tmp 33) rfl ab (ao + k * 3) rfl _ _ (fun _ h => h.2.1) Tryd.underlying52 rfl (by kernel_rfl)) HSS.out ?_
      try simp only [List.getElem_toArray, List.getElem_cons_succ, List.getElem_cons_zero, Act.put, List.setIfInBounds_toArray, List.set_cons_zero, List.set_cons_succ]
      refine anyT_take [10, 11] (i := 9) (v := .agg (prC p (.slice ua' p.steps.length uc'))) rfl (by kernel_rfl) (by kernel_rfl) (by kernel_rfl) (fun _ _ _ h => h) (by kernel_rfl) (row_yields' (by rfl) 57 (.tmp 38) rfl bb (bo + k * 3) rfl _ _ (fun _ h => h.2.2) Tryd.underlying57 rfl (by kernel_rfl)) HSS.out ?_
      try simp only [List.getElem_toArray, List.getElem_cons_succ, List.getElem_cons_zero, Act.put, List.setIfInBounds_toArray, List.set_cons_zero, List.set_cons_succ]
      refine anyT_one (i := 10) (by kernel_rfl) rfl (fun K hK => ?_)
      rw [if_pos (by rfl)]
      try simp only [List.getElem_toArray, List.getElem_cons_succ, List.getElem_cons_zero]
      (go_simp; (with_reducible refine (HSA.out _ HST.out.1 HST.out.2).mono ?_); rintro e w3 ⟨rfl, hb⟩; replace HB := Lib.hid (HB.out.trans (hb.mono HB.out.size)); clear hb)
      refine hK _ _ (not_mem rfl) ?_
      clear hK K
      try simp only [List.getElem_toArray, List.getElem_cons_succ, List.getElem_cons_zero, Act.put, List.setIfInBounds_toArray, List.set_cons_zero, List.set_cons_succ]
      refine anyT_takeY (i := 11) (v := .bool false) rfl (by kernel_rfl) (by kernel_rfl) (by kernel_rfl) (fun _ _ _ h => h) (by kernel_rfl) (Or.inl ⟨by rfl, by intro w; go_simp⟩) ?_
      try simp only [List.getElem_toArray, List.getElem_cons_succ, List.getElem_cons_zero, Act.put, List.setIfInBounds_toArray, List.set_cons_zero, List.set_cons_succ]
      refine anyT_done (by kernel_rfl) ?_ _
      go_wp2_with (fail)
      go_roundw
      case rel => first | exact ⟨k + 1, by omega, by go_num, HB⟩ | exact ⟨k + 1, by omega, by omega⟩
      case measure => simp [intOf]; omega
    · obtain rfl : k = L.length := by omega
      have c0 : wr.cell? ⟨w.heap.size, 0, none⟩ = some (.slice va L.length vc) := cell_of_row _ _ 0 _ _ _ M2.out.h2
      have c1 : wr.cell? ⟨w.heap.size, 1, none⟩ = some (.slice ra R.length rc) := cell_of_row _ _ 1 _ _ _ M2.out.h2
      clear M HB hlt hkl
      generalize wr = w5 at *
      go_wp2_with (fail)
      clear c0 c1
      have M := M2
      clear M2
      have HB := Lib.hid (Below.refl w5.heap.size w5)
      go_loopw [6] (fun x wr => ∃ k : Nat, k ≤ R.length ∧ x = .int .i64 (k : Int) ∧ Hid (Below w5.heap.size w5 wr)) (fun x _ => R.length - (intOf x).toNat)
      case atStart => exact ⟨0, Nat.zero_le _, rfl, HB⟩
      case round =>
        clear HB
        obtain ⟨k, hkl, rfl, HB⟩ := hrel
        have M2 := Lib.hid (M.out.call HB.out)
        by_cases hlt : k < R.length
        · obtain ⟨p, hp⟩ : ∃ p, R[k]? = some p := ⟨_, List.getElem?_eq_getElem hlt⟩
          obtain ⟨ab, ao, c', sa, sc, e1, hra, hsa⟩ := pr_in_range M2.out.vr hp
          obtain ⟨bb, bo, c'', ua', uc', e2, hrb, hsb⟩ := pr_in_range M2.out.ur hp
          injection e1 with e1 _ _
          injection e2 with e2 _ _
          subst e1 e2
          have HSA := Lib.hid (fun w h1 h2 => same_any p (.slice sa p.steps.length sc) (.slice ua' p.steps.length uc') w h1 h2)
          have HST := Lib.hid (⟨hsa, hsb⟩ : _ ∧ _)
          have hltI : (k : Int) < (R.length : Int) := by omega
          have c2 : wr.cell? ⟨w.heap.size, 1, none⟩ = some (.slice (some ⟨ab, ao, none⟩) R.length rc) := cell_of_row _ _ 1 _ _ _ M2.out.h2
          have d2 : wr.cell? ⟨w.heap.size + 1, 1, none⟩ = some (.slice (some ⟨bb, bo, none⟩) R.length tc) := cell_of_row _ _ 1 _ _ _ M2.out.h3
          have HC := Lib.hid ((⟨⟨c2, d2⟩, hra, hrb⟩) : (_ ∧ _) ∧ _ ∧ _)
          clear hp hra hrb hsa hsb d2
          go_upto_region 11 with (fail)
          clear c2
          have hdr : Below wr.heap.size wr wr.drew := (Below.refl _ _).drew
          refine wp_region_T (fun w' => (w'.cell? ⟨w.heap.size, 1, none⟩ = some (.slice (some ⟨ab, ao, none⟩) R.length rc) ∧ w'.cell? ⟨w.heap.size + 1, 1, none⟩ = some (.slice (some ⟨bb, bo, none⟩) R.length tc)) ∧ w'.rangeAt ab (ao + k * 3) (prC p (.slice sa p.steps.length sc)).toList ∧ w'.rangeAt bb (bo + k * 3) (prC p (.slice ua' p.steps.length uc')).toList) [1, 3, 4, 6, 8, 9] (by kernel_rfl) ?_
          have HSS := Lib.hid (show (wr.drew.cell? ⟨w.heap.size, 1, none⟩ = some (.slice (some ⟨ab, ao, none⟩) R.length rc) ∧ wr.drew.cell? ⟨w.heap.size + 1, 1, none⟩ = some (.slice (some ⟨bb, bo, none⟩) R.length tc)) ∧ wr.drew.rangeAt ab (ao + k * 3) (prC p (.slice sa p.steps.length sc)).toList ∧ wr.drew.rangeAt bb (bo + k * 3) (prC p (.slice ua' p.steps.length uc')).toList from HC.out)
          replace HST := Lib.hid (⟨HST.out.1.below hdr, HST.out.2.below hdr⟩ : _ ∧ _)
          replace HB := Lib.hid (HB.out.trans (hdr.mono HB.out.size))
          generalize wr.drew = w2 at *
          refine anyT_takeY (i := 0) (v := .pointer (some ⟨w.heap.size, 1, none⟩)) rfl (by kernel_rfl) (by kernel_rfl) (by kernel_rfl) (fun _ _ _ h => h) (by kernel_rfl) (Or.inl ⟨by rfl, by intro w; go_simp⟩) ?_
          try simp only [List.getElem_toArray, List.getElem_cons_succ, List.getElem_cons_zero, Act.put, List.setIfInBounds_toArray, List.set_cons_zero, List.set_cons_succ]
          refine anyT_takeY (i := 2) (v := .int .i64 (k : Int)) rfl (by kernel_rfl) (by kernel_rfl) (by kernel_rfl) (fun _ _ _ h => h) (by kernel_rfl) (Or.inl ⟨by rfl, by intro w; go_simp⟩) ?_
          try simp only [List.getElem_toArray, List.getElem_cons_succ, List.getElem_cons_zero, Act.put, List.setIfInBounds_toArray, List.set_cons_zero, List.set_cons_succ]
          refine anyT_takeY (i := 5) (v := .pointer (some ⟨w.heap.size + 1, 1, none⟩)) rfl (by kernel_rfl) (by kernel_rfl) (by kernel_rfl) (fun _ _ _ h => h) (by kernel_rfl) (Or.inl ⟨by rfl, by intro w; go_simp⟩) ?_
          try simp only [List.getElem_toArray, List.getElem_cons_succ, List.getElem_cons_zero, Act.put, List.setIfInBounds_toArray, List.set_cons_zero, List.set_cons_succ]
          refine anyT_takeY (i := 7) (v := .int .i64 (k : Int)) rfl (by kernel_rfl) (by kernel_rfl) (by kernel_rfl) (fun _ _ _ h => h) (by kernel_rfl) (Or.inl ⟨by rfl, by intro w; go_simp⟩) ?_
          try simp only [List.getElem_toArray, List.getElem_cons_succ, List.getElem_cons_zero, Act.put, List.setIfInBounds_toArray, List.set_cons_zero, List.set_cons_succ]
          refine anyT_take [3, 4, 10, 11] (i := 1) (v := .slice (some ⟨ab, ao, none⟩) R.length rc) rfl (by kernel_rfl) (by kernel_rfl) (by kernel_rfl) (fun _ _ _ h => h) (by kernel_rfl) (Or.inl ⟨by rfl, fun w' hS => by have c := hS.1.1; go_simp⟩) HSS.out ?_
          try simp only [List.getElem_toArray, List.getElem_cons_succ, List.getElem_cons_zero, Act.put, List.setIfInBounds_toArray, List.set_cons_zero, List.set_cons_succ]
          refine anyT_take [8, 9, 10, 11] (i := 6) (v := .slice (some ⟨bb, bo, none⟩) R.length tc) rfl (by kernel_rfl) (by kernel_rfl) (by kernel_rfl) (fun _ _ _ h => h) (by kernel_rfl) (Or.inl ⟨by rfl, fun w' hS => by have c := hS.1.2; go_simp⟩) HSS.out ?_
          try simp only [List.getElem_toArray, List.getElem_cons_succ, List.getElem_cons_zero, Act.put, List.setIfInBounds_toArray, List.set_cons_zero, List.set_cons_succ]
          refine anyT_take [4, 10, 11] (i := 3) (v := .pointer (some ⟨ab, ao + k * 3, none⟩)) rfl (by kernel_rfl) (by kernel_rfl) (by kernel_rfl) (fun _ _ _ h => h) (by kernel_rfl) (Or.inl ⟨by rfl, fun w' _ => by go_simp⟩) HSS.out ?_
          try simp only [List.getElem_toArray, List.getElem_cons_succ, List.getElem_cons_zero, Act.put, List.setIfInBounds_toArray, List.set_cons_zero, List.set_cons_succ]
          refine anyT_take [9, 10, 11] (i := 8) (v := .pointer (some ⟨bb, bo + k * 3, none⟩)) rfl (by kernel_rfl) (by kernel_rfl) (by kernel_rfl) (fun _ _ _ h => h) (by kernel_rfl) (Or.inl ⟨by rfl, fun w' _ => by go_simp⟩) HSS.out ?_
          try simp only [List.getElem_toArray, List.getElem_cons_succ, List.getElem_cons_zero, Act.put, List.setIfInBounds_toArray, List.set_cons_zero, List.set_cons_succ]
          refine anyT_take [10, 11] (i := 4) (v := .agg (prC p (.slice sa p.steps.length sc))) rfl (by kernel_rfl) (by kernel_rfl) (by kernel_rfl) (fun _ _ _ h => h) (by kernel_rfl) (row_yields' (by rfl) 52 (.tmp 52) rfl ab (ao + k * 3) rfl _ _ (fun _ h => h.2.1) Tryd.underlying52 rfl (by kernel_rfl)) HSS.out ?_
          try simp only [List.getElem_toArray, List.getElem_cons_succ, List.getElem_cons_zero, Act.put, List.setIfInBounds_toArray, List.set_cons_zero, List.set_cons_succ]
          refine anyT_take [10, 11] (i := 9) (v := .agg (prC p (.slice ua' p.steps.length uc'))) rfl (by kernel_rfl) (by kernel_rfl) (by kernel_rfl) (fun _ _ _ h => h) (by kernel_rfl) (row_yields' (by rfl) 57 (.tmp 57) rfl bb (bo + k * 3) rfl _ _ (fun _ h => h.2.2) Tryd.underlying57 rfl (by kernel_rfl)) HSS.out ?_
          try simp only [List.getElem_toArray, List.getElem_cons_succ, List.getElem_cons_zero, Act.put, List.setIfInBounds_toArray, List.set_cons_zero, List.set_cons_succ]
          refine anyT_one (i := 10) (by kernel_rfl) rfl (fun K hK => ?_)
          rw [if_pos (by rfl)]
          try simp only [List.getElem_toArray, List.getElem_cons_succ, List.getElem_cons_zero]
          (go_simp; (with_reducible refine (HSA.out _ HST.out.1 HST.out.2).mono ?_); rintro e w3 ⟨rfl, hb⟩; replace HB := Lib.hid (HB.out.trans (hb.mono HB.out.size)); clear hb)
          refine hK _ _ (not_mem rfl) ?_
          clear hK K
          try simp only [List.getElem_toArray, List.getElem_cons_succ, List.getElem_cons_zero, Act.put, List.setIfInBounds_toArray, List.set_cons_zero, List.set_cons_succ]
          refine anyT_takeY (i := 11) (v := .bool false) rfl (by kernel_rfl) (by kernel_rfl) (by kernel_rfl) (fun _ _ _ h => h) (by kernel_rfl) (Or.inl ⟨by rfl, by intro w; go_simp⟩) ?_
          try simp only [List.getElem_toArray, List.getElem_cons_succ, List.getElem_cons_zero, Act.put, List.setIfInBounds_toArray, List.set_cons_zero, List.set_cons_succ]
          refine anyT_done (by kernel_rfl) ?_ _
          go_wp2_with (fail)
          go_roundw
          case rel => first | exact ⟨k + 1, by omega, by go_num, HB⟩ | exact ⟨k + 1, by omega, by omega⟩
          case measure => simp [intOf]; omega
        · obtain rfl : k = R.length := by omega
          have c1 : wr.cell? ⟨w.heap.size, 1, none⟩ = some (.slice ra R.length rc) := cell_of_row _ _ 1 _ _ _ M2.out.h2
          go_wp2_with (fail)
          go_ret
          exact ⟨rfl, M2.out.below⟩
end Go.Proofs.YtfmfemmknccfmaaDoor
namespace Go.Proofs.YtfmfemmknccfmaaDoor
set_option linter.unusedVariables false
set_option linter.unusedSimpArgs false
open Go.RowKit
set_option linter.unusedVariables false
def Kept (X : World → Prop) : Prop := ∀ a b : World, X a → Below a.heap.size a b → X b
structure Kp (w0 w : World) (X : World → Prop) : Prop where
  below : Below w0.heap.size w0 w
  x : X w
  kept : Kept X
theorem Kp.start (w : World) : Kp w w (fun _ => True) := ⟨Below.refl _ _, trivial, fun _ _ h _ => h⟩
theorem Kp.call {w0 w w' : World} {X : World → Prop} (m : Kp w0 w X) (h : Below w.heap.size w w') : Kp w0 w' X := ⟨m.below.trans (h.mono m.below.size), m.kept _ _ m.x h, m.kept⟩
theorem Kp.add {w0 w : World} {X Y : World → Prop} (m : Kp w0 w X) (hy : Y w) (hk : Kept Y) : Kp w0 w (fun w => X w ∧ Y w) := ⟨m.below, ⟨m.x, hy⟩, fun a b h hb => ⟨m.kept a b h.1 hb, hk a b h.2 hb⟩⟩
theorem Kp.new {w0 w : World} {X : World → Prop} (m : Kp w0 w X) (o : Obj) : Kp w0 (w.alloc o) X := m.call (below_alloc w o)
theorem kept_blk (g : Nat) (o : Obj) : Kept (fun w => w.heap[g]? = some o) := fun a b h hb => (hb.block g (Array.getElem?_eq_some_iff.1 h).1).trans h
theorem Kept.and {X Y : World → Prop} (h : Kept X) (k : Kept Y) : Kept (fun w => X w ∧ Y w) := fun a b x hb => ⟨h a b x.1 hb, k a b x.2 hb⟩
end Go.Proofs.YtfmfemmknccfmaaDoor
namespace Go.Proofs.YtfmfemmknccfmaaDoor
set_option linter.unusedVariables false
set_option linter.unusedSimpArgs false
open Go.RowKit
set_option maxRecDepth 100000
set_option linter.unusedSimpArgs false
set_option linter.unusedVariables false
theorem TreeO.ptr9 {w : World} {v : Value} {t : Option AvT} (h : TreeO w v t) : ∃ p, v = .pointer p := by
  cases t with
  | none => exact ⟨_, h⟩
  | some t => obtain ⟨g, e, _⟩ := h; exact ⟨_, e⟩
theorem kept_tree (v : Value) (t : Option AvT) : Kept (fun w => TreeO w v t) := fun _ _ h hb => h.below hb
theorem kept_ro (cs : Array Value) (t : Option AvT) : Kept (fun w => RO w cs t) := fun _ _ h hb => h.below hb
theorem kept_st (v : Value) (l : List AvS) : Kept (fun w => StIn w v l) := fun _ _ h hb => h.below hb
theorem kept_prs (v : Value) (l : List PvP) : Kept (fun w => PrsIn w v l) := fun _ _ h hb => h.below hb
set_option maxRecDepth 1000000 in
set_option maxHeartbeats 8000000 in
theorem lmakes_any (va : Value) (ts : List KV) (key : ByteArray) (N : Nat) (w : World) (he : Env w) (hg : ErrType w) (hx : KVIn w va ts) (hs : ∀ t ∈ ts, t.1.size + t.2.size ≤ N) (hN : N ≤ 1048576) :
    Calls Tryd.prog 4 #[va, .string key] w fun e w' => e = .returned (.bool true) ∧ Below w.heap.size w w' := by
  have HGR := Lib.hid (grown8_any va ts N w he hx hs hN)
  have HE := Lib.hid he
  have HG := Lib.hid hg
  have hgl : 0 < w.heap.size := World.block_lt_of_cell? w _ hg
  have HGL := Lib.hid hgl
  have HNB := Lib.hid hN
  obtain ⟨a0, cap0, rfl⟩ := hx.len
  clear he hg hx hs hN hgl
  unfold GrPost8 at HGR
  go_enter Tryd.func4, Tryd.ntmps4
  go_upto_region 2 with (first
    | (go_at_call 19; (with_reducible refine HGR.out.mono ?_); rintro e w1 ⟨v, cs, t, rfl, ht, hr, hgt, hb⟩; have HT := Lib.hid ht; have HRO := Lib.hid hr; have HGT := Lib.hid hgt; have HBT := Lib.hid hb; have csZ := Lib.hid hr.size; have csO := Lib.hid hr.one; clear ht hr hgt hb)
    | (refine wpList_store_row rfl 29 (.tmp 6) (.tmp 19) rfl w1.heap.size cs rfl rfl 29 _ (heap_alloc_new _ _) (by rw [csZ.out]; kernel_rfl) (by rw [csZ.out]; rfl) csO.out ?_; rw [World.setRow_alloc_new]))
  have hb2 := below_alloc w1 (.cells cs 29)
  have M := Lib.hid ((((Kp.start w).call (HBT.out.trans (hb2.mono HBT.out.size))).add (HT.out.below hb2) (kept_tree v t)).add (Y := fun w' => RO w' cs t ∧ w'.heap[w1.heap.size]? = some (.cells cs 29 (0, 0))) ⟨HRO.out.below hb2, heap_alloc_new _ _⟩ ((kept_ro cs t).and (kept_blk _ _)))
  obtain ⟨g6, hg6⟩ : ∃ g, g = w1.heap.size := ⟨_, rfl⟩
  rw [← hg6] at M ⊢
  clear hg6 hb2 HT HRO HBT
  generalize w1.alloc (.cells cs 29) = w2 at *
  obtain ⟨p, rfl⟩ := M.out.x.1.2.ptr9
  have hsrt : Srt (pairsO t) := HGT.out.srt
  have hmany : manyO t ≤ 40 := HGT.out.many
  have hzz : ∀ p ∈ pairsO t, p.1.size + p.2.size ≤ 1048576 := fun p hp => Nat.le_trans (HGT.out.size p hp) HNB.out
  have hfl := findO_le t hsrt key
  have HXC := Lib.hid (fun w h => exist_any (.pointer p) t key w h (by omega))
  have HXR := Lib.hid (fun w he h => rexist_any t cs key w he h hsrt (by omega) hzz)
  have HNC := Lib.hid (fun w h => none8_any (.pointer p) t key w h (by omega) (by omega))
  have HNR := Lib.hid (fun w he h => rnone_any t cs key w he h hsrt (by omega) hzz)
  obtain ⟨o, ho⟩ : ∃ o, o = exP t key := ⟨_, rfl⟩
  rw [← ho] at HXC HXR
  unfold ExPost at HXC
  unfold REx at HXR
  unfold NoPost at HNC
  unfold RNo at HNR
  obtain ⟨P, hP⟩ : ∃ P, P = o.getD eP := ⟨_, rfl⟩
  rw [← hP] at HXC HXR
  obtain ⟨eo, heo⟩ : ∃ x, x = e8 o := ⟨_, rfl⟩
  rw [← heo] at HXC
  obtain ⟨c8, hc8⟩ : ∃ c, c = numE eo := ⟨_, rfl⟩
  have hc8' : (if o.isSome then 0 else 8 : Int) = c8 := by
    rw [hc8, heo]; unfold e8; cases o <;> rfl
  rw [hc8'] at HXR
  have HN8 := Lib.hid (fun w h => num8_any eo w h)
  rw [← hc8] at HN8
  obtain ⟨b, hb⟩ : ∃ b, b = (getO t key).isSome := ⟨_, rfl⟩
  rw [← hb] at HNC HNR
  obtain ⟨en, hen⟩ : ∃ x, x = e9 b := ⟨_, rfl⟩
  rw [← hen] at HNC
  obtain ⟨c9, hc9⟩ : ∃ c, c = numE en := ⟨_, rfl⟩
  have hc9' : (if b = true then 9 else 0 : Int) = c9 := by
    rw [hc9, hen]; unfold e9; cases b <;> rfl
  rw [hc9'] at HNR
  have HN9 := Lib.hid (fun w h => num8_any en w h)
  rw [← hc9] at HN9
  obtain ⟨NL, hNL⟩ : ∃ l, l = noL t key := ⟨_, rfl⟩
  obtain ⟨NR, hNR⟩ : ∃ l, l = noR t key := ⟨_, rfl⟩
  rw [← hNL, ← hNR] at HNC HNR
  have HSA := Lib.hid (fun sv sw w h1 h2 => same_any P sv sw w h1 h2)
  have HSS := Lib.hid (fun vl vr ul ur w h1 h2 h3 h4 => sames_any vl vr ul ur NL NR w h1 h2 h3 h4)
  clear hsrt hmany hzz hfl ho hP heo hc8 hc8' hb hen hc9 hc9' hNL hNR
  go_upto_region 3 with (first
    | (go_at_call 20; (with_reducible refine (HXC.out _ M.out.x.1.2).mono ?_); rintro e w3 ⟨sa, sn, sc, rfl, hst, hb⟩; obtain rfl := hst.lenN; have HST := Lib.hid hst; replace M := Lib.hid (M.out.call hb); clear hst hb)
    | (refine wpList_store_row rfl 52 (.tmp 7) (.tmp 24) rfl w3.heap.size (prC P (.slice sa P.steps.length sc)) rfl rfl 52 _ (heap_alloc_new _ _) (by kernel_rfl) rfl (prC_one _ _ _ _) ?_; rw [World.setRow_alloc_new]))
  have hb2 := below_alloc w3 (.cells (prC P (.slice sa P.steps.length sc)) 52)
  replace M := Lib.hid ((M.out.call hb2).add (Y := fun w' => StIn w' (.slice sa P.steps.length sc) P.steps ∧ w'.heap[w3.heap.size]? = some (.cells (prC P (.slice sa P.steps.length sc)) 52 (0, 0))) ⟨HST.out.below hb2, heap_alloc_new _ _⟩ ((kept_st _ _).and (kept_blk _ _)))
  obtain ⟨g7, hg7⟩ : ∃ g, g = w3.heap.size := ⟨_, rfl⟩
  rw [← hg7] at M ⊢
  clear hg7 hb2 HST
  generalize w3.alloc (.cells (prC P (.slice sa P.steps.length sc)) 52) = w4 at *
  go_upto_region 4 with (first
    | (refine wpList_load_row rfl 29 (.tmp 6) rfl g6 rfl 29 _ (0, 0) _ M.out.x.1.2.2 Tryd.underlying29 rfl (by rw [csZ.out]; kernel_rfl) ?_)
    | (go_at_call 21; (with_reducible refine (HXR.out _ (HE.out.below M.out.below HE.out.lt) M.out.x.1.2.1).mono ?_); rintro e w5 ⟨ra, rc, rfl, hst, hb⟩; have HST := Lib.hid hst; replace M := Lib.hid (M.out.call hb); clear hst hb)
    | (refine wpList_store_row rfl 57 (.tmp 9) (.tmp 30) rfl w5.heap.size (prC P (.slice ra P.steps.length rc)) rfl rfl 57 _ (heap_alloc_new _ _) (by kernel_rfl) rfl (prC_one _ _ _ _) ?_; rw [World.setRow_alloc_new]))
  have hb2 := below_alloc w5 (.cells (prC P (.slice ra P.steps.length rc)) 57)
  replace M := Lib.hid ((M.out.call hb2).add (Y := fun w' => StIn w' (.slice ra P.steps.length rc) P.steps ∧ w'.heap[w5.heap.size]? = some (.cells (prC P (.slice ra P.steps.length rc)) 57 (0, 0))) ⟨HST.out.below hb2, heap_alloc_new _ _⟩ ((kept_st _ _).and (kept_blk _ _)))
  obtain ⟨g9, hg9⟩ : ∃ g, g = w5.heap.size := ⟨_, rfl⟩
  rw [← hg9] at M ⊢
  clear hg9 hb2 HST
  generalize w5.alloc (.cells (prC P (.slice ra P.steps.length rc)) 57) = w6 at *
  go_upto_region 5 with (first
    | (go_at_call 22; (with_reducible refine (HNC.out _ M.out.x.1.1.1.2).mono ?_); rintro e w7 ⟨vl, vr, rfl, hl, hr, hb⟩; obtain ⟨la, lc, rfl, _⟩ := hl.len; obtain ⟨qa, qc, rfl, _⟩ := hr.len; have HL := Lib.hid hl; have HQ := Lib.hid hr; replace M := Lib.hid (M.out.call hb); clear hl hr hb)
    | (refine wpList_store_row rfl 62 (.tmp 11) (.tmp 36) rfl w7.heap.size #[.slice la NL.length lc, .slice qa NR.length qc] rfl rfl 62 _ (heap_alloc_new _ _) (by kernel_rfl) rfl (by simp [Value.oneCell']) ?_; rw [World.setRow_alloc_new]))
  have hb2 := below_alloc w7 (.cells #[.slice la NL.length lc, .slice qa NR.length qc] 62)
  replace M := Lib.hid ((M.out.call hb2).add (Y := fun w' => (PrsIn w' (.slice la NL.length lc) NL ∧ PrsIn w' (.slice qa NR.length qc) NR) ∧ w'.heap[w7.heap.size]? = some (.cells #[.slice la NL.length lc, .slice qa NR.length qc] 62 (0, 0))) ⟨⟨HL.out.below hb2, HQ.out.below hb2⟩, heap_alloc_new _ _⟩ (((kept_prs _ _).and (kept_prs _ _)).and (kept_blk _ _)))
  obtain ⟨g11, hg11⟩ : ∃ g, g = w7.heap.size := ⟨_, rfl⟩
  rw [← hg11] at M ⊢
  clear hg11 hb2 HL HQ
  generalize w7.alloc (.cells #[.slice la NL.length lc, .slice qa NR.length qc] 62) = w8 at *
  go_upto_region 6 with (first
    | (refine wpList_load_row rfl 29 (.tmp 6) rfl g6 rfl 29 _ (0, 0) _ M.out.x.1.1.1.2.2 Tryd.underlying29 rfl (by rw [csZ.out]; kernel_rfl) ?_)
    | (go_at_call 23; (with_reducible refine (HNR.out _ (HE.out.below M.out.below HE.out.lt) M.out.x.1.1.1.2.1).mono ?_); rintro e w9 ⟨ul, ur, rfl, -, -, hl, hr, hb⟩; obtain ⟨ma, mc, rfl, _⟩ := hl.len; obtain ⟨oa, oc, rfl, _⟩ := hr.len; have HL := Lib.hid hl; have HQ := Lib.hid hr; replace M := Lib.hid (M.out.call hb); clear hl hr hb)
    | (refine wpList_store_row rfl 67 (.tmp 13) (.tmp 42) rfl w9.heap.size #[.slice ma NL.length mc, .slice oa NR.length oc] rfl rfl 67 _ (heap_alloc_new _ _) (by kernel_rfl) rfl (by simp [Value.oneCell']) ?_; rw [World.setRow_alloc_new]))
  have hb2 := below_alloc w9 (.cells #[.slice ma NL.length mc, .slice oa NR.length oc] 67)
  replace M := Lib.hid ((M.out.call hb2).add (Y := fun w' => (PrsIn w' (.slice ma NL.length mc) NL ∧ PrsIn w' (.slice oa NR.length oc) NR) ∧ w'.heap[w9.heap.size]? = some (.cells #[.slice ma NL.length mc, .slice oa NR.length oc] 67 (0, 0))) ⟨⟨HL.out.below hb2, HQ.out.below hb2⟩, heap_alloc_new _ _⟩ (((kept_prs _ _).and (kept_prs _ _)).and (kept_blk _ _)))
  obtain ⟨g13, hg13⟩ : ∃ g, g = w9.heap.size := ⟨_, rfl⟩
  rw [← hg13] at M ⊢
  clear hg13 hb2 HL HQ
  generalize w9.alloc (.cells #[.slice ma NL.length mc, .slice oa NR.length oc] 67) = w10 at *
  go_wp2_with (first
    | (refine wpList_load_rowsz (by rfl) 52 (.tmp 7) rfl g7 0 rfl (prC P (.slice sa P.steps.length sc)) _ (row_range M.out.x.1.1.1.2.2) Tryd.underlying52 rfl (by kernel_rfl) ?_)
    | (refine wpList_load_rowsz (by rfl) 57 (.tmp 9) rfl g9 0 rfl (prC P (.slice ra P.steps.length rc)) _ (row_range M.out.x.1.1.2.2) Tryd.underlying57 rfl (by kernel_rfl) ?_)
    | (go_at_call 24; (with_reducible refine (HSA.out _ _ _ M.out.x.1.1.1.2.1 M.out.x.1.1.2.1).mono ?_); rintro e w11 ⟨rfl, hb⟩; replace M := Lib.hid (M.out.call hb); clear hb)
    | (go_at_call 25; (with_reducible refine (HN8.out _ (HG.out.below M.out.below)).mono ?_); rintro e w12 ⟨rfl, hb⟩; replace M := Lib.hid (M.out.call hb); clear hb)
    | (go_at_call 25; (with_reducible refine (HN9.out _ (HG.out.below M.out.below)).mono ?_); rintro e w13 ⟨rfl, hb⟩; replace M := Lib.hid (M.out.call hb); clear hb)
    | (refine wpList_load_rowsz (by rfl) 62 (.tmp 11) rfl g11 0 rfl #[.slice la NL.length lc, .slice qa NR.length qc] _ (row_range M.out.x.1.2.2) Tryd.underlying62 rfl (by kernel_rfl) ?_)
    | (refine wpList_load_rowsz (by rfl) 67 (.tmp 13) rfl g13 0 rfl #[.slice ma NL.length mc, .slice oa NR.length oc] _ (row_range M.out.x.2.2) Tryd.underlying67 rfl (by kernel_rfl) ?_)
    | (go_at_call 26; (with_reducible refine (HSS.out _ _ _ _ _ M.out.x.1.2.1.1 M.out.x.1.2.1.2 M.out.x.2.1.1 M.out.x.2.1.2).mono ?_); rintro e w14 ⟨rfl, hb⟩; replace M := Lib.hid (M.out.call hb); clear hb)
    | (go_at_call 27; (with_reducible refine (pvsure_any _ (HE.out.below M.out.below HE.out.lt) (HG.out.below M.out.below) (Nat.lt_of_lt_of_le HGL.out M.out.below.size)).mono ?_); rintro e w15 ⟨rfl, hb⟩; replace M := Lib.hid (M.out.call hb); clear hb))
  go_ret
  exact ⟨rfl, M.out.below⟩
end Go.Proofs.YtfmfemmknccfmaaDoor
namespace Go.Proofs.YtfmfemmknccfmaaDoor
set_option linter.unusedVariables false
set_option linter.unusedSimpArgs false
open Go.ChangeShapes Go.WideShapes Go.ChangeAt Go.RowKit
set_option maxRecDepth 100000
theorem pvmakes_lifted (os : Os) (started : os.Started) (H : Type) (enc : TypeId × Value → H) (F : Stop.Interp) :
    ReturnsInHanded {} Tryd.checked os 4 .any ((Rows.OpenSpec.upto Rows.proofMakesSpec).preRow enc Tryd.prog Tryd.f4 Rows.proofMakesUptoRow.domain false laidShaErr) (((Rows.OpenSpec.upto Rows.proofMakesSpec).at F).post enc Tryd.prog Tryd.f4 false true false false) := by
  refine returnsInHanded_of_row (C := Tryd.checked) (s := Rows.OpenSpec.upto Rows.proofMakesSpec) doorOwn started (by kernel_rfl) Tryd.func4
    (witness_row_atRef (enc := enc) (C := Tryd.checked) false (World.doorLaid Tryd.prog 400 os) #[.slice none 0 0, .string { data := #[] }] rfl (by kernel_rfl) (by kernel_rfl) (by kernel_rfl)
      (OpenSpec.preRow_of_cond (x := ([.nil, .lit (.string [])], [], [])) 8 (by kernel_rfl) (by kernel_rfl) (fun k hk => by cases hk; kernel_rfl) (by kernel_rfl) (met_shaErr os _))) ?_
  intro W base args ds gs before hval0 hW _ hcond hsz0 hL _ _
  have hb : Rows.uptoBulkAll (ds ++ gs) ≤ 1048576 := of_decide_eq_true (hcond _ rfl)
  have hsz : (DataW.weightsEach Tryd.prog (Tryd.f4.params.toList ++ Rows.proofMakesSpec.plain.varTypes Tryd.prog) (ds ++ gs)).all (· ≤ reachBytes) = true := hsz0
  clear hsz0
  have hval : ∀ (j : Nat) t v, Tryd.f4.params[j]? = some t → args[j]? = some v → Value.okWide Tryd.prog W .any base t v := hval0
  have hW' := hW
  obtain ⟨p, q, hA0, hV, rfl, hfz, hnd⟩ := hW
  have hA : DataW.TrodAll enc Tryd.prog W 0 (fun _ => true) true Tryd.f4.params.toList args.toList ds p := hA0
  rw [Tryd.params4] at hA hval hsz
  obtain ⟨v0, vs0, d0, ds0, p0, q0, hargs, rfl, rfl, h0, r0⟩ := trodAll_cons hA
  obtain ⟨v1, vs1, d1, ds1, p1, q1, rfl, rfl, rfl, h1, r1⟩ := trodAll_cons r0
  obtain ⟨rfl, rfl, rfl⟩ := trodAll_nil r1
  obtain rfl : args = #[v0, v1] := by cases args; simp_all
  obtain ⟨rfl, rfl⟩ := trodVars_none hV
  obtain ⟨a0, len0, cap0, rfl⟩ := okWide_slice Tryd.underlying24 (hval 0 24 v0 rfl rfl)
  have k0 := h0
  have lt0 : ∀ x ∈ p0, x.block < W.heap.size := by obtain ⟨m, hm⟩ := k0; exact DataW.trod_lt m _ _ _ hm
  obtain ⟨ts0, hxl0, hx0, hbk0⟩ := kvs_arg h0
  obtain ⟨s1, rfl, rfl, rfl, hs1⟩ := Go.ChangeMaps.open_string Tryd.underlying9 (hval 1 9 v1 rfl rfl) h1
  simp only [List.append_nil, Rows.uptoBulkAll] at hb
  clear hA0 hval0
  refine (lmakes_any _ ts0 s1 1048576 W (shaErr_of_laid hL).1 (shaErr_of_laid hL).2 hx0 (fun t h => Nat.le_trans (hbk0 t h) (by omega)) (Nat.le_refl _)).mono fun e W' ⟨he, bel⟩ => ?_
  subst he
  exact ⟨_, rfl, _, _, _, [], _, [], hW', trodAll_mk1 (shut_bool Tryd.underlying4 _), (trodAll_cons_mk (Below.trod doorLaidOut (by kernel_rfl) (of_decide_eq_true (by kernel_rfl)) k0 bel lt0) (trodAll_cons_mk (Go.ChangeMaps.shut_string Tryd.underlying9 hs1) trodAll_mk0)), rfl, bel.frame _, fun h => by cases h⟩
theorem pvmakes_holds : Rows.ProofMakesUptoSaid :=
  OpenClaim.holds_of_cond 4 Tryd.f4 rfl rfl rfl rfl rfl rfl rfl ⟨rfl, rfl, rfl, rfl, rfl⟩ rfl rfl rfl rfl rfl (by kernel_rfl) Tryd.func4 (by kernel_rfl)
    (of_decide_eq_true (by kernel_rfl)) (by unfold Func.isWrapper; first | (rw [if_pos (by decide +kernel)]; kernel_rfl) | (rw [if_neg (by decide +kernel)]; exact ⟨rfl, rfl⟩))
    (fun os started H enc _ F => by rw [OpenClaim.pre_eq_preRow]; exact pvmakes_lifted os started H enc F)
theorem pvmakes_card : Rows.ProofMakesUptoCardSaid :=
  Claim7.holds_tied_plain_at .later [] [.handle, .data, .data] true _ true
    pvmakes_holds (fun _ h => by cases h) (by kernel_rfl) (fun _ h => by cases h) proofMakesUpto_row_tie rfl ⟨rfl, rfl⟩ (by kernel_rfl) rfl
    (fun f fn hf hfn => by
      obtain rfl : f = 4 := Option.some.inj ((show Tryd.prog.funcNamed "isthmus/isthmuslaw08.ProofMakes" = some 4 by kernel_rfl).symm.trans hf) |>.symm
      obtain rfl : fn = Tryd.f4 := (Option.some.inj (Tryd.func4.symm.trans hfn)).symm
      exact ⟨by kernel_rfl, fun j t ht => by
        rw [Tryd.params4] at ht
        have hm : t ∈ [24, 9] := by simpa using Array.mem_of_getElem? ht
        have hall : ([24, 9].all fun u => !Tryd.prog.wantsStandIn u) = true := by kernel_rfl
        exact (show Tryd.prog.wantsStandIn t = false by simpa using List.all_eq_true.1 hall t hm)⟩)
    (by kernel_rfl)
#print axioms pvmakes_card
end Go.Proofs.YtfmfemmknccfmaaDoor
