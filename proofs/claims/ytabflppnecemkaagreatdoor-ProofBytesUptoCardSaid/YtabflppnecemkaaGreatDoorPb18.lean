/- Part 18 of the proof. -/
import Derived.Test.YtabflppnecemkaaGreatDoorPb1
import Derived.Test.YtabflppnecemkaaGreatDoorPb17
namespace Go.Proofs.YtabflppnecemkaaGreatDoor
set_option linter.unusedVariables false
set_option linter.unusedSimpArgs false
open Go.RowKit
set_option maxRecDepth 100000
set_option linter.unusedSimpArgs false
set_option linter.unusedVariables false
theorem two_start {w : World} {xs ys : Array Value} {X Y : TypeId} : ((w.alloc (.cells xs X)).alloc (.cells ys Y)).heap[w.heap.size]? = some (.cells xs X (0, 0)) ∧ ((w.alloc (.cells xs X)).alloc (.cells ys Y)).heap[w.heap.size + 1]? = some (.cells ys Y (0, 0)) ∧ Below w.heap.size w ((w.alloc (.cells xs X)).alloc (.cells ys Y)) := by
  refine ⟨?_, ?_, ((Below.refl _ w).alloc (Nat.le_refl _) _).alloc (by simp) _⟩
  · rw [heap_alloc_old _ _ (by simp), heap_alloc_new]
  · have := heap_alloc_new (w.alloc (.cells xs X)) (.cells ys Y)
    rw [size_alloc] at this; exact this
theorem st_in_range {w : World} {v : Value} {l : List AvS} {i : Nat} {s : AvS} (h : StIn w v l) (hi : l[i]? = some s) : ∃ ab ao c, v = .slice (some ⟨ab, ao, none⟩) l.length c ∧ ab < w.heap.size ∧ w.rangeAt ab (ao + i * 34) s.cells := by
  obtain ⟨a, c, rfl⟩ := h.len
  obtain ⟨ab, ao, rfl, hl, hr⟩ := h.at i s hi
  exact ⟨ab, ao, c, rfl, hl, hr⟩
structure SaM (w0 w : World) (P : PvP) (sv sw : Value) : Prop where
  below : Below w0.heap.size w0 w
  h2 : w.heap[w0.heap.size]? = some (.cells (prC P sv) 31 (0, 0))
  h3 : w.heap[w0.heap.size + 1]? = some (.cells (prC P sw) 24 (0, 0))
  sv : StIn w sv P.steps
  sw : StIn w sw P.steps
theorem SaM.call {w0 w w' : World} {P : PvP} {sv sw : Value} (m : SaM w0 w P sv sw) (h : Below w.heap.size w w') : SaM w0 w' P sv sw :=
  ⟨m.below.trans (h.mono m.below.size), (h.block _ (bk_lt m.h2)).trans m.h2, (h.block _ (bk_lt m.h3)).trans m.h3, m.sv.below h, m.sw.below h⟩
theorem saM_start {w : World} {P : PvP} {sv sw : Value} (h1 : StIn w sv P.steps) (h2 : StIn w sw P.steps) : SaM w ((w.alloc (.cells (prC P sv) 31)).alloc (.cells (prC P sw) 24)) P sv sw := by
  obtain ⟨a, b, c⟩ := two_start (w := w) (xs := prC P sv) (ys := prC P sw) (X := 31) (Y := 24)
  exact ⟨c, a, b, h1.below c, h2.below c⟩
set_option maxHeartbeats 4000000 in
theorem same_any (P : PvP) (sv sw : Value) (w : World) (h1 : StIn w sv P.steps) (h2 : StIn w sw P.steps) : Calls Tryz.prog 14 #[.agg (prC P sv), .agg (prC P sw)] w fun e w' => e = .returned (.bool true) ∧ Below w.heap.size w w' := by
  have M := Lib.hid (saM_start h1 h2)
  have hlm : P.steps.length ≤ maxLen := by obtain ⟨_, _, _, _, hm, _⟩ := h1; exact hm
  unfold maxLen at hlm
  obtain ⟨va, vc, rfl⟩ := h1.len
  obtain ⟨ua, uc, rfl⟩ := h2.len
  have hk := sbeq_self P.key
  have hv := sbeq_self P.val
  clear h1 h2
  go_enter Tryz.func14, Tryz.ntmps14
  go_upto_region 1 with (fail)
  have e0 : (w.alloc (.cells #[.string P.key, .string P.val, .slice va P.steps.length vc] 31)).alloc (.cells #[.string P.key, .string P.val, .slice ua P.steps.length uc] 24) = (w.alloc (.cells (prC P (.slice va P.steps.length vc)) 31)).alloc (.cells (prC P (.slice ua P.steps.length uc)) 24) := rfl
  try rw [e0]
  clear e0
  generalize (w.alloc (.cells (prC P (.slice va P.steps.length vc)) 31)).alloc (.cells (prC P (.slice ua P.steps.length uc)) 24) = w1 at *
  obtain ⟨S, hS⟩ : ∃ S, S = P.steps := ⟨_, rfl⟩
  have HS := Lib.hid hS
  have c0 : w1.cell? ⟨w.heap.size, 0, none⟩ = some (.string P.key) := cell_of_row _ _ 0 _ _ _ M.out.h2
  have c1 : w1.cell? ⟨w.heap.size, 1, none⟩ = some (.string P.val) := cell_of_row _ _ 1 _ _ _ M.out.h2
  have c2 : w1.cell? ⟨w.heap.size, 2, none⟩ = some (.slice va P.steps.length vc) := cell_of_row _ _ 2 _ _ _ M.out.h2
  have d0 : w1.cell? ⟨w.heap.size + 1, 0, none⟩ = some (.string P.key) := cell_of_row _ _ 0 _ _ _ M.out.h3
  have d1 : w1.cell? ⟨w.heap.size + 1, 1, none⟩ = some (.string P.val) := cell_of_row _ _ 1 _ _ _ M.out.h3
  have d2 : w1.cell? ⟨w.heap.size + 1, 2, none⟩ = some (.slice ua P.steps.length uc) := cell_of_row _ _ 2 _ _ _ M.out.h3
  rw [← hS] at c2 d2 hlm ⊢
  clear hS
  go_wp2_with (fail)
  clear c0 c1 c2 d0 d1 d2 hk hv
  have HB := Lib.hid (Below.refl w1.heap.size w1)
  go_loopw [5] (fun x wr => ∃ k : Nat, k ≤ S.length ∧ x = .int .i64 (k : Int) ∧ Hid (Below w1.heap.size w1 wr)) (fun x _ => S.length - (intOf x).toNat)
  case atStart => exact ⟨0, Nat.zero_le _, rfl, HB⟩
  case round =>
    clear HB
    obtain ⟨k, hkl, rfl, HB⟩ := hrel
    have M2 := Lib.hid (M.out.call HB.out)
    by_cases hlt : k < S.length
    · obtain ⟨s, hs⟩ : ∃ s, S[k]? = some s := ⟨_, List.getElem?_eq_getElem hlt⟩
      have hs' : P.steps[k]? = some s := by rw [← HS.out]; exact hs
      obtain ⟨ab, ao, c', e1, hab, hra⟩ := st_in_range M2.out.sv hs'
      obtain ⟨bb, bo, c'', e2, hbb, hrb⟩ := st_in_range M2.out.sw hs'
      injection e1 with e1 _ _
      injection e2 with e2 _ _
      subst e1 e2
      have HRA := Lib.hid hra
      have HRB := Lib.hid hrb
      have hltI : (k : Int) < (S.length : Int) := by omega
      have c2 : wr.cell? ⟨w.heap.size, 2, none⟩ = some (.slice (some ⟨ab, ao, none⟩) S.length vc) := by have := cell_of_row _ _ 2 _ _ _ M2.out.h2; rw [HS.out]; exact this
      have d2 : wr.cell? ⟨w.heap.size + 1, 2, none⟩ = some (.slice (some ⟨bb, bo, none⟩) S.length uc) := by have := cell_of_row _ _ 2 _ _ _ M2.out.h3; rw [HS.out]; exact this
      have HC := Lib.hid (⟨c2, d2⟩ : _ ∧ _)
      clear hs hs' hra hrb hab hbb d2
      go_upto_region 6 with (fail)
      clear c2
      have hdr : Below wr.heap.size wr wr.drew := (Below.refl _ _).drew
      refine wp_region_T (fun w' => (w'.cell? ⟨w.heap.size, 2, none⟩ = some (.slice (some ⟨ab, ao, none⟩) S.length vc) ∧ w'.cell? ⟨w.heap.size + 1, 2, none⟩ = some (.slice (some ⟨bb, bo, none⟩) S.length uc)) ∧ w'.rangeAt ab (ao + k * 34) s.cells ∧ w'.rangeAt bb (bo + k * 34) s.cells) [1, 3, 4, 6, 8, 9] (by kernel_rfl) ?_
      have HSS := Lib.hid (show (wr.drew.cell? ⟨w.heap.size, 2, none⟩ = some (.slice (some ⟨ab, ao, none⟩) S.length vc) ∧ wr.drew.cell? ⟨w.heap.size + 1, 2, none⟩ = some (.slice (some ⟨bb, bo, none⟩) S.length uc)) ∧ wr.drew.rangeAt ab (ao + k * 34) s.cells ∧ wr.drew.rangeAt bb (bo + k * 34) s.cells from ⟨HC.out, HRA.out, HRB.out⟩)
      replace HB := Lib.hid (HB.out.trans (hdr.mono HB.out.size))
      generalize wr.drew = w2 at *
      refine anyT_takeY (i := 0) (v := .pointer (some ⟨w.heap.size, 2, none⟩)) rfl (by kernel_rfl) (by kernel_rfl) (by kernel_rfl) (fun _ _ _ h => h) (by kernel_rfl) (Or.inl ⟨by rfl, by intro w; go_simp⟩) ?_
      try simp only [List.getElem_toArray, List.getElem_cons_succ, List.getElem_cons_zero, Act.put, List.setIfInBounds_toArray, List.set_cons_zero, List.set_cons_succ]
      refine anyT_takeY (i := 2) (v := .int .i64 (k : Int)) rfl (by kernel_rfl) (by kernel_rfl) (by kernel_rfl) (fun _ _ _ h => h) (by kernel_rfl) (Or.inl ⟨by rfl, by intro w; go_simp⟩) ?_
      try simp only [List.getElem_toArray, List.getElem_cons_succ, List.getElem_cons_zero, Act.put, List.setIfInBounds_toArray, List.set_cons_zero, List.set_cons_succ]
      refine anyT_takeY (i := 5) (v := .pointer (some ⟨w.heap.size + 1, 2, none⟩)) rfl (by kernel_rfl) (by kernel_rfl) (by kernel_rfl) (fun _ _ _ h => h) (by kernel_rfl) (Or.inl ⟨by rfl, by intro w; go_simp⟩) ?_
      try simp only [List.getElem_toArray, List.getElem_cons_succ, List.getElem_cons_zero, Act.put, List.setIfInBounds_toArray, List.set_cons_zero, List.set_cons_succ]
      refine anyT_takeY (i := 7) (v := .int .i64 (k : Int)) rfl (by kernel_rfl) (by kernel_rfl) (by kernel_rfl) (fun _ _ _ h => h) (by kernel_rfl) (Or.inl ⟨by rfl, by intro w; go_simp⟩) ?_
      try simp only [List.getElem_toArray, List.getElem_cons_succ, List.getElem_cons_zero, Act.put, List.setIfInBounds_toArray, List.set_cons_zero, List.set_cons_succ]
      refine anyT_take [3, 4, 10] (i := 1) (v := .slice (some ⟨ab, ao, none⟩) S.length vc) rfl (by kernel_rfl) (by kernel_rfl) (by kernel_rfl) (fun _ _ _ h => h) (by kernel_rfl) (Or.inl ⟨by rfl, fun w' hS => by have c := hS.1.1; go_simp⟩) HSS.out ?_
      try simp only [List.getElem_toArray, List.getElem_cons_succ, List.getElem_cons_zero, Act.put, List.setIfInBounds_toArray, List.set_cons_zero, List.set_cons_succ]
      refine anyT_take [8, 9, 10] (i := 6) (v := .slice (some ⟨bb, bo, none⟩) S.length uc) rfl (by kernel_rfl) (by kernel_rfl) (by kernel_rfl) (fun _ _ _ h => h) (by kernel_rfl) (Or.inl ⟨by rfl, fun w' hS => by have c := hS.1.2; go_simp⟩) HSS.out ?_
      try simp only [List.getElem_toArray, List.getElem_cons_succ, List.getElem_cons_zero, Act.put, List.setIfInBounds_toArray, List.set_cons_zero, List.set_cons_succ]
      refine anyT_take [4, 10] (i := 3) (v := .pointer (some ⟨ab, ao + k * 34, none⟩)) rfl (by kernel_rfl) (by kernel_rfl) (by kernel_rfl) (fun _ _ _ h => h) (by kernel_rfl) (Or.inl ⟨by rfl, fun w' _ => by go_simp⟩) HSS.out ?_
      try simp only [List.getElem_toArray, List.getElem_cons_succ, List.getElem_cons_zero, Act.put, List.setIfInBounds_toArray, List.set_cons_zero, List.set_cons_succ]
      refine anyT_take [9, 10] (i := 8) (v := .pointer (some ⟨bb, bo + k * 34, none⟩)) rfl (by kernel_rfl) (by kernel_rfl) (by kernel_rfl) (fun _ _ _ h => h) (by kernel_rfl) (Or.inl ⟨by rfl, fun w' _ => by go_simp⟩) HSS.out ?_
      try simp only [List.getElem_toArray, List.getElem_cons_succ, List.getElem_cons_zero, Act.put, List.setIfInBounds_toArray, List.set_cons_zero, List.set_cons_succ]
      refine anyT_take [10] (i := 4) (v := .agg (stC s)) rfl (by kernel_rfl) (by kernel_rfl) (by kernel_rfl) (fun _ _ _ h => h) (by kernel_rfl) (row_yields' (by rfl) 65 (.tmp 37) rfl ab (ao + k * 34) rfl _ _ (fun _ h => h.2.1) Tryz.underlying65 rfl (by rw [stC_size]; kernel_rfl)) HSS.out ?_
      try simp only [List.getElem_toArray, List.getElem_cons_succ, List.getElem_cons_zero, Act.put, List.setIfInBounds_toArray, List.set_cons_zero, List.set_cons_succ]
      refine anyT_take [10] (i := 9) (v := .agg (stC s)) rfl (by kernel_rfl) (by kernel_rfl) (by kernel_rfl) (fun _ _ _ h => h) (by kernel_rfl) (row_yields' (by rfl) 74 (.tmp 42) rfl bb (bo + k * 34) rfl _ _ (fun _ h => h.2.2) Tryz.underlying74 rfl (by rw [stC_size]; kernel_rfl)) HSS.out ?_
      try simp only [List.getElem_toArray, List.getElem_cons_succ, List.getElem_cons_zero, Act.put, List.setIfInBounds_toArray, List.set_cons_zero, List.set_cons_succ]
      refine anyT_takeY (i := 10) (v := .bool false) rfl (by kernel_rfl) (by kernel_rfl) (by kernel_rfl) (fun _ _ _ h => h) (by kernel_rfl) (Or.inl ⟨by rfl, fun w => execStep (.tmp 38) (.tmp 43) rfl s rfl rfl⟩) ?_
      try simp only [List.getElem_toArray, List.getElem_cons_succ, List.getElem_cons_zero, Act.put, List.setIfInBounds_toArray, List.set_cons_zero, List.set_cons_succ]
      refine anyT_done (by kernel_rfl) ?_ _
      go_wp2_with (fail)
      go_roundw
      case rel => first | exact ⟨k + 1, by omega, by go_num, HB⟩ | exact ⟨k + 1, by omega, by omega⟩
      case measure => simp [intOf]; omega
    · obtain rfl : k = S.length := by omega
      have c2 : wr.cell? ⟨w.heap.size, 2, none⟩ = some (.slice va S.length vc) := by have := cell_of_row _ _ 2 _ _ _ M2.out.h2; rw [HS.out]; exact this
      go_wp2_with (fail)
      go_ret
      exact ⟨rfl, M2.out.below⟩
structure SsM (w0 w : World) (vl vr ul ur : Value) (L R : List PvP) : Prop where
  below : Below w0.heap.size w0 w
  h2 : w.heap[w0.heap.size]? = some (.cells #[vl, vr] 40 (0, 0))
  h3 : w.heap[w0.heap.size + 1]? = some (.cells #[ul, ur] 27 (0, 0))
  vl : PrsIn w vl L
  vr : PrsIn w vr R
  ul : PrsIn w ul L
  ur : PrsIn w ur R
theorem SsM.call {w0 w w' : World} {vl vr ul ur : Value} {L R : List PvP} (m : SsM w0 w vl vr ul ur L R) (h : Below w.heap.size w w') : SsM w0 w' vl vr ul ur L R :=
  ⟨m.below.trans (h.mono m.below.size), (h.block _ (bk_lt m.h2)).trans m.h2, (h.block _ (bk_lt m.h3)).trans m.h3, m.vl.below h, m.vr.below h, m.ul.below h, m.ur.below h⟩
theorem ssM_start {w : World} {vl vr ul ur : Value} {L R : List PvP} (h1 : PrsIn w vl L) (h2 : PrsIn w vr R) (h3 : PrsIn w ul L) (h4 : PrsIn w ur R) : SsM w ((w.alloc (.cells #[vl, vr] 40)).alloc (.cells #[ul, ur] 27)) vl vr ul ur L R := by
  obtain ⟨a, b, c⟩ := two_start (w := w) (xs := #[vl, vr]) (ys := #[ul, ur]) (X := 40) (Y := 27)
  exact ⟨c, a, b, h1.below c, h2.below c, h3.below c, h4.below c⟩
theorem pr_in_range {w : World} {v : Value} {l : List PvP} {i : Nat} {p : PvP} (h : PrsIn w v l) (hi : l[i]? = some p) : ∃ ab ao c sa sc, v = .slice (some ⟨ab, ao, none⟩) l.length c ∧ w.rangeAt ab (ao + i * 3) (prC p (.slice sa p.steps.length sc)).toList ∧ StIn w (.slice sa p.steps.length sc) p.steps := by
  obtain ⟨a, c, rfl, _⟩ := h.len
  obtain ⟨ab, ao, rfl, sv, hr, hst⟩ := h.at hi
  obtain ⟨sa, sc, rfl⟩ := hst.len
  exact ⟨ab, ao, c, sa, sc, rfl, hr, hst⟩
set_option maxHeartbeats 4000000 in
theorem sames_any (vl vr ul ur : Value) (L R : List PvP) (w : World) (h1 : PrsIn w vl L) (h2 : PrsIn w vr R) (h3 : PrsIn w ul L) (h4 : PrsIn w ur R) : Calls Tryz.prog 16 #[.agg #[vl, vr], .agg #[ul, ur]] w fun e w' => e = .returned (.bool true) ∧ Below w.heap.size w w' := by
  have M := Lib.hid (ssM_start h1 h2 h3 h4)
  obtain ⟨va, vc, rfl, hlm⟩ := h1.len
  obtain ⟨ra, rc, rfl, hrm⟩ := h2.len
  obtain ⟨ua, uc, rfl, _⟩ := h3.len
  obtain ⟨ta, tc, rfl, _⟩ := h4.len
  unfold maxLen at hlm hrm
  clear h1 h2 h3 h4
  go_enter Tryz.func16, Tryz.ntmps16
  go_upto_region 1 with (fail)
  generalize (w.alloc (.cells #[.slice va L.length vc, .slice ra R.length rc] 40)).alloc (.cells #[.slice ua L.length uc, .slice ta R.length tc] 27) = w1 at *
  have c0 : w1.cell? ⟨w.heap.size, 0, none⟩ = some (.slice va L.length vc) := cell_of_row _ _ 0 _ _ _ M.out.h2
  have c1 : w1.cell? ⟨w.heap.size, 1, none⟩ = some (.slice ra R.length rc) := cell_of_row _ _ 1 _ _ _ M.out.h2
  have d0 : w1.cell? ⟨w.heap.size + 1, 0, none⟩ = some (.slice ua L.length uc) := cell_of_row _ _ 0 _ _ _ M.out.h3
  have d1 : w1.cell? ⟨w.heap.size + 1, 1, none⟩ = some (.slice ta R.length tc) := cell_of_row _ _ 1 _ _ _ M.out.h3
  go_wp2_with (fail)
  clear c0 c1 d0 d1
  have HB := Lib.hid (Below.refl w1.heap.size w1)
  go_loopw [5] (fun x wr => ∃ k : Nat, k ≤ L.length ∧ x = .int .i64 (k : Int) ∧ Hid (Below w1.heap.size w1 wr)) (fun x _ => L.length - (intOf x).toNat)
  case atStart => exact ⟨0, Nat.zero_le _, rfl, HB⟩
  case round =>
    clear HB
    obtain ⟨k, hkl, rfl, HB⟩ := hrel
    have M2 := Lib.hid (M.out.call HB.out)
    by_cases hlt : k < L.length
    · obtain ⟨p, hp⟩ : ∃ p, L[k]? = some p := ⟨_, List.getElem?_eq_getElem hlt⟩
      obtain ⟨ab, ao, c', sa, sc, e1, hra, hsa⟩ := pr_in_range M2.out.vl hp
      obtain ⟨bb, bo, c'', ua', uc', e2, hrb, hsb⟩ := pr_in_range M2.out.ul hp
      injection e1 with e1 _ _
      injection e2 with e2 _ _
      subst e1 e2
      have HSA := Lib.hid (fun w h1 h2 => same_any p (.slice sa p.steps.length sc) (.slice ua' p.steps.length uc') w h1 h2)
      have HST := Lib.hid (⟨hsa, hsb⟩ : _ ∧ _)
      have hltI : (k : Int) < (L.length : Int) := by omega
      have c2 : wr.cell? ⟨w.heap.size, 0, none⟩ = some (.slice (some ⟨ab, ao, none⟩) L.length vc) := cell_of_row _ _ 0 _ _ _ M2.out.h2
      have d2 : wr.cell? ⟨w.heap.size + 1, 0, none⟩ = some (.slice (some ⟨bb, bo, none⟩) L.length uc) := cell_of_row _ _ 0 _ _ _ M2.out.h3
      have HC := Lib.hid ((⟨⟨c2, d2⟩, hra, hrb⟩) : (_ ∧ _) ∧ _ ∧ _)
      clear hp hra hrb hsa hsb d2
      go_upto_region 6 with (fail)
      clear c2
      have hdr : Below wr.heap.size wr wr.drew := (Below.refl _ _).drew
      refine wp_region_T (fun w' => (w'.cell? ⟨w.heap.size, 0, none⟩ = some (.slice (some ⟨ab, ao, none⟩) L.length vc) ∧ w'.cell? ⟨w.heap.size + 1, 0, none⟩ = some (.slice (some ⟨bb, bo, none⟩) L.length uc)) ∧ w'.rangeAt ab (ao + k * 3) (prC p (.slice sa p.steps.length sc)).toList ∧ w'.rangeAt bb (bo + k * 3) (prC p (.slice ua' p.steps.length uc')).toList) [1, 3, 4, 6, 8, 9] (by kernel_rfl) ?_
      have HSS := Lib.hid (show (wr.drew.cell? ⟨w.heap.size, 0, none⟩ = some (.slice (some ⟨ab, ao, none⟩) L.length vc) ∧ wr.drew.cell? ⟨w.heap.size + 1, 0, none⟩ = some (.slice (some ⟨bb, bo, none⟩) L.length uc)) ∧ wr.drew.rangeAt ab (ao + k * 3) (prC p (.slice sa p.steps.length sc)).toList ∧ wr.drew.rangeAt bb (bo + k * 3) (prC p (.slice ua' p.steps.length uc')).toList from HC.out)
      replace HST := Lib.hid (⟨HST.out.1.below hdr, HST.out.2.below hdr⟩ : _ ∧ _)
      replace HB := Lib.hid (HB.out.trans (hdr.mono HB.out.size))
      generalize wr.drew = w2 at *
      refine anyT_takeY (i := 0) (v := .pointer (some ⟨w.heap.size, 0, none⟩)) rfl (by kernel_rfl) (by kernel_rfl) (by kernel_rfl) (fun _ _ _ h => h) (by kernel_rfl) (Or.inl ⟨by rfl, by intro w; go_simp⟩) ?_
      try simp only [List.getElem_toArray, List.getElem_cons_succ, List.getElem_cons_zero, Act.put, List.setIfInBounds_toArray, List.set_cons_zero, List.set_cons_succ]
      refine anyT_takeY (i := 2) (v := .int .i64 (k : Int)) rfl (by kernel_rfl) (by kernel_rfl) (by kernel_rfl) (fun _ _ _ h => h) (by kernel_rfl) (Or.inl ⟨by rfl, by intro w; go_simp⟩) ?_
      try simp only [List.getElem_toArray, List.getElem_cons_succ, List.getElem_cons_zero, Act.put, List.setIfInBounds_toArray, List.set_cons_zero, List.set_cons_succ]
      refine anyT_takeY (i := 5) (v := .pointer (some ⟨w.heap.size + 1, 0, none⟩)) rfl (by kernel_rfl) (by kernel_rfl) (by kernel_rfl) (fun _ _ _ h => h) (by kernel_rfl) (Or.inl ⟨by rfl, by intro w; go_simp⟩) ?_
      try simp only [List.getElem_toArray, List.getElem_cons_succ, List.getElem_cons_zero, Act.put, List.setIfInBounds_toArray, List.set_cons_zero, List.set_cons_succ]
      refine anyT_takeY (i := 7) (v := .int .i64 (k : Int)) rfl (by kernel_rfl) (by kernel_rfl) (by kernel_rfl) (fun _ _ _ h => h) (by kernel_rfl) (Or.inl ⟨by rfl, by intro w; go_simp⟩) ?_
      try simp only [List.getElem_toArray, List.getElem_cons_succ, List.getElem_cons_zero, Act.put, List.setIfInBounds_toArray, List.set_cons_zero, List.set_cons_succ]
      refine anyT_take [3, 4, 10, 11] (i := 1) (v := .slice (some ⟨ab, ao, none⟩) L.length vc) rfl (by kernel_rfl) (by kernel_rfl) (by kernel_rfl) (fun _ _ _ h => h) (by kernel_rfl) (Or.inl ⟨by rfl, fun w' hS => by have c := hS.1.1; go_simp⟩) HSS.out ?_
      try simp only [List.getElem_toArray, List.getElem_cons_succ, List.getElem_cons_zero, Act.put, List.setIfInBounds_toArray, List.set_cons_zero, List.set_cons_succ]
      refine anyT_take [8, 9, 10, 11] (i := 6) (v := .slice (some ⟨bb, bo, none⟩) L.length uc) rfl (by kernel_rfl) (by kernel_rfl) (by kernel_rfl) (fun _ _ _ h => h) (by kernel_rfl) (Or.inl ⟨by rfl, fun w' hS => by have c := hS.1.2; go_simp⟩) HSS.out ?_
      try simp only [List.getElem_toArray, List.getElem_cons_succ, List.getElem_cons_zero, Act.put, List.setIfInBounds_toArray, List.set_cons_zero, List.set_cons_succ]
      refine anyT_take [4, 10, 11] (i := 3) (v := .pointer (some ⟨ab, ao + k * 3, none⟩)) rfl (by kernel_rfl) (by kernel_rfl) (by kernel_rfl) (fun _ _ _ h => h) (by kernel_rfl) (Or.inl ⟨by rfl, fun w' _ => by go_simp⟩) HSS.out ?_
      try simp only [List.getElem_toArray, List.getElem_cons_succ, List.getElem_cons_zero, Act.put, List.setIfInBounds_toArray, List.set_cons_zero, List.set_cons_succ]
      refine anyT_take [9, 10, 11] (i := 8) (v := .pointer (some ⟨bb, bo + k * 3, none⟩)) rfl (by kernel_rfl) (by kernel_rfl) (by kernel_rfl) (fun _ _ _ h => h) (by kernel_rfl) (Or.inl ⟨by rfl, fun w' _ => by go_simp⟩) HSS.out ?_
      try simp only [List.getElem_toArray, List.getElem_cons_succ, List.getElem_cons_zero, Act.put, List.setIfInBounds_toArray, List.set_cons_zero, List.set_cons_succ]
      refine anyT_take [10, 11] (i := 4) (v := .agg (prC p (.slice sa p.steps.length sc))) rfl (by kernel_rfl) (by kernel_rfl) (by kernel_rfl) (fun _ _ _ h => h) (by kernel_rfl) (row_yields' (by rfl) 31 (.tmp 33) rfl ab (ao + k * 3) rfl _ _ (fun _ h => h.2.1) Tryz.underlying31 rfl (by kernel_rfl)) HSS.out ?_
      try simp only [List.getElem_toArray, List.getElem_cons_succ, List.getElem_cons_zero, Act.put, List.setIfInBounds_toArray, List.set_cons_zero, List.set_cons_succ]
      refine anyT_take [10, 11] (i := 9) (v := .agg (prC p (.slice ua' p.steps.length uc'))) rfl (by kernel_rfl) (by kernel_rfl) (by kernel_rfl) (fun _ _ _ h => h) (by kernel_rfl) (row_yields' (by rfl) 24 (.tmp 38) rfl bb (bo + k * 3) rfl _ _ (fun _ h => h.2.2) Tryz.underlying24 rfl (by kernel_rfl)) HSS.out ?_
      try simp only [List.getElem_toArray, List.getElem_cons_succ, List.getElem_cons_zero, Act.put, List.setIfInBounds_toArray, List.set_cons_zero, List.set_cons_succ]
      refine anyT_one (i := 10) (by kernel_rfl) rfl (fun K hK => ?_)
      rw [if_pos (by rfl)]
      try simp only [List.getElem_toArray, List.getElem_cons_succ, List.getElem_cons_zero]
      (go_simp; (with_reducible refine (HSA.out _ HST.out.1 HST.out.2).mono ?_); rintro e w3 ⟨rfl, hb⟩; replace HB := Lib.hid (HB.out.trans (hb.mono HB.out.size)); clear hb)
      refine hK _ _ (not_mem rfl) ?_
      clear hK K
      try simp only [List.getElem_toArray, List.getElem_cons_succ, List.getElem_cons_zero, Act.put, List.setIfInBounds_toArray, List.set_cons_zero, List.set_cons_succ]
      refine anyT_takeY (i := 11) (v := .bool false) rfl (by kernel_rfl) (by kernel_rfl) (by kernel_rfl) (fun _ _ _ h => h) (by kernel_rfl) (Or.inl ⟨by rfl, by intro w; go_simp⟩) ?_
      try simp only [List.getElem_toArray, List.getElem_cons_succ, List.getElem_cons_zero, Act.put, List.setIfInBounds_toArray, List.set_cons_zero, List.set_cons_succ]
      refine anyT_done (by kernel_rfl) ?_ _
      go_wp2_with (fail)
      go_roundw
      case rel => first | exact ⟨k + 1, by omega, by go_num, HB⟩ | exact ⟨k + 1, by omega, by omega⟩
      case measure => simp [intOf]; omega
    · obtain rfl : k = L.length := by omega
      have c0 : wr.cell? ⟨w.heap.size, 0, none⟩ = some (.slice va L.length vc) := cell_of_row _ _ 0 _ _ _ M2.out.h2
      have c1 : wr.cell? ⟨w.heap.size, 1, none⟩ = some (.slice ra R.length rc) := cell_of_row _ _ 1 _ _ _ M2.out.h2
      clear M HB hlt hkl
      generalize wr = w5 at *
      go_wp2_with (fail)
      clear c0 c1
      have M := M2
      clear M2
      have HB := Lib.hid (Below.refl w5.heap.size w5)
      go_loopw [6] (fun x wr => ∃ k : Nat, k ≤ R.length ∧ x = .int .i64 (k : Int) ∧ Hid (Below w5.heap.size w5 wr)) (fun x _ => R.length - (intOf x).toNat)
      case atStart => exact ⟨0, Nat.zero_le _, rfl, HB⟩
      case round =>
        clear HB
        obtain ⟨k, hkl, rfl, HB⟩ := hrel
        have M2 := Lib.hid (M.out.call HB.out)
        by_cases hlt : k < R.length
        · obtain ⟨p, hp⟩ : ∃ p, R[k]? = some p := ⟨_, List.getElem?_eq_getElem hlt⟩
          obtain ⟨ab, ao, c', sa, sc, e1, hra, hsa⟩ := pr_in_range M2.out.vr hp
          obtain ⟨bb, bo, c'', ua', uc', e2, hrb, hsb⟩ := pr_in_range M2.out.ur hp
          injection e1 with e1 _ _
          injection e2 with e2 _ _
          subst e1 e2
          have HSA := Lib.hid (fun w h1 h2 => same_any p (.slice sa p.steps.length sc) (.slice ua' p.steps.length uc') w h1 h2)
          have HST := Lib.hid (⟨hsa, hsb⟩ : _ ∧ _)
          have hltI : (k : Int) < (R.length : Int) := by omega
          have c2 : wr.cell? ⟨w.heap.size, 1, none⟩ = some (.slice (some ⟨ab, ao, none⟩) R.length rc) := cell_of_row _ _ 1 _ _ _ M2.out.h2
          have d2 : wr.cell? ⟨w.heap.size + 1, 1, none⟩ = some (.slice (some ⟨bb, bo, none⟩) R.length tc) := cell_of_row _ _ 1 _ _ _ M2.out.h3
          have HC := Lib.hid ((⟨⟨c2, d2⟩, hra, hrb⟩) : (_ ∧ _) ∧ _ ∧ _)
          clear hp hra hrb hsa hsb d2
          go_upto_region 11 with (fail)
          clear c2
          have hdr : Below wr.heap.size wr wr.drew := (Below.refl _ _).drew
          refine wp_region_T (fun w' => (w'.cell? ⟨w.heap.size, 1, none⟩ = some (.slice (some ⟨ab, ao, none⟩) R.length rc) ∧ w'.cell? ⟨w.heap.size + 1, 1, none⟩ = some (.slice (some ⟨bb, bo, none⟩) R.length tc)) ∧ w'.rangeAt ab (ao + k * 3) (prC p (.slice sa p.steps.length sc)).toList ∧ w'.rangeAt bb (bo + k * 3) (prC p (.slice ua' p.steps.length uc')).toList) [1, 3, 4, 6, 8, 9] (by kernel_rfl) ?_
          have HSS := Lib.hid (show (wr.drew.cell? ⟨w.heap.size, 1, none⟩ = some (.slice (some ⟨ab, ao, none⟩) R.length rc) ∧ wr.drew.cell? ⟨w.heap.size + 1, 1, none⟩ = some (.slice (some ⟨bb, bo, none⟩) R.length tc)) ∧ wr.drew.rangeAt ab (ao + k * 3) (prC p (.slice sa p.steps.length sc)).toList ∧ wr.drew.rangeAt bb (bo + k * 3) (prC p (.slice ua' p.steps.length uc')).toList from HC.out)
          replace HST := Lib.hid (⟨HST.out.1.below hdr, HST.out.2.below hdr⟩ : _ ∧ _)
          replace HB := Lib.hid (HB.out.trans (hdr.mono HB.out.size))
          generalize wr.drew = w2 at *
          refine anyT_takeY (i := 0) (v := .pointer (some ⟨w.heap.size, 1, none⟩)) rfl (by kernel_rfl) (by kernel_rfl) (by kernel_rfl) (fun _ _ _ h => h) (by kernel_rfl) (Or.inl ⟨by rfl, by intro w; go_simp⟩) ?_
          try simp only [List.getElem_toArray, List.getElem_cons_succ, List.getElem_cons_zero, Act.put, List.setIfInBounds_toArray, List.set_cons_zero, List.set_cons_succ]
          refine anyT_takeY (i := 2) (v := .int .i64 (k : Int)) rfl (by kernel_rfl) (by kernel_rfl) (by kernel_rfl) (fun _ _ _ h => h) (by kernel_rfl) (Or.inl ⟨by rfl, by intro w; go_simp⟩) ?_
          try simp only [List.getElem_toArray, List.getElem_cons_succ, List.getElem_cons_zero, Act.put, List.setIfInBounds_toArray, List.set_cons_zero, List.set_cons_succ]
          refine anyT_takeY (i := 5) (v := .pointer (some ⟨w.heap.size + 1, 1, none⟩)) rfl (by kernel_rfl) (by kernel_rfl) (by kernel_rfl) (fun _ _ _ h => h) (by kernel_rfl) (Or.inl ⟨by rfl, by intro w; go_simp⟩) ?_
          try simp only [List.getElem_toArray, List.getElem_cons_succ, List.getElem_cons_zero, Act.put, List.setIfInBounds_toArray, List.set_cons_zero, List.set_cons_succ]
          refine anyT_takeY (i := 7) (v := .int .i64 (k : Int)) rfl (by kernel_rfl) (by kernel_rfl) (by kernel_rfl) (fun _ _ _ h => h) (by kernel_rfl) (Or.inl ⟨by rfl, by intro w; go_simp⟩) ?_
          try simp only [List.getElem_toArray, List.getElem_cons_succ, List.getElem_cons_zero, Act.put, List.setIfInBounds_toArray, List.set_cons_zero, List.set_cons_succ]
          refine anyT_take [3, 4, 10, 11] (i := 1) (v := .slice (some ⟨ab, ao, none⟩) R.length rc) rfl (by kernel_rfl) (by kernel_rfl) (by kernel_rfl) (fun _ _ _ h => h) (by kernel_rfl) (Or.inl ⟨by rfl, fun w' hS => by have c := hS.1.1; go_simp⟩) HSS.out ?_
          try simp only [List.getElem_toArray, List.getElem_cons_succ, List.getElem_cons_zero, Act.put, List.setIfInBounds_toArray, List.set_cons_zero, List.set_cons_succ]
          refine anyT_take [8, 9, 10, 11] (i := 6) (v := .slice (some ⟨bb, bo, none⟩) R.length tc) rfl (by kernel_rfl) (by kernel_rfl) (by kernel_rfl) (fun _ _ _ h => h) (by kernel_rfl) (Or.inl ⟨by rfl, fun w' hS => by have c := hS.1.2; go_simp⟩) HSS.out ?_
          try simp only [List.getElem_toArray, List.getElem_cons_succ, List.getElem_cons_zero, Act.put, List.setIfInBounds_toArray, List.set_cons_zero, List.set_cons_succ]
          refine anyT_take [4, 10, 11] (i := 3) (v := .pointer (some ⟨ab, ao + k * 3, none⟩)) rfl (by kernel_rfl) (by kernel_rfl) (by kernel_rfl) (fun _ _ _ h => h) (by kernel_rfl) (Or.inl ⟨by rfl, fun w' _ => by go_simp⟩) HSS.out ?_
          try simp only [List.getElem_toArray, List.getElem_cons_succ, List.getElem_cons_zero, Act.put, List.setIfInBounds_toArray, List.set_cons_zero, List.set_cons_succ]
          refine anyT_take [9, 10, 11] (i := 8) (v := .pointer (some ⟨bb, bo + k * 3, none⟩)) rfl (by kernel_rfl) (by kernel_rfl) (by kernel_rfl) (fun _ _ _ h => h) (by kernel_rfl) (Or.inl ⟨by rfl, fun w' _ => by go_simp⟩) HSS.out ?_
          try simp only [List.getElem_toArray, List.getElem_cons_succ, List.getElem_cons_zero, Act.put, List.setIfInBounds_toArray, List.set_cons_zero, List.set_cons_succ]
          refine anyT_take [10, 11] (i := 4) (v := .agg (prC p (.slice sa p.steps.length sc))) rfl (by kernel_rfl) (by kernel_rfl) (by kernel_rfl) (fun _ _ _ h => h) (by kernel_rfl) (row_yields' (by rfl) 31 (.tmp 52) rfl ab (ao + k * 3) rfl _ _ (fun _ h => h.2.1) Tryz.underlying31 rfl (by kernel_rfl)) HSS.out ?_
          try simp only [List.getElem_toArray, List.getElem_cons_succ, List.getElem_cons_zero, Act.put, List.setIfInBounds_toArray, List.set_cons_zero, List.set_cons_succ]
          refine anyT_take [10, 11] (i := 9) (v := .agg (prC p (.slice ua' p.steps.length uc'))) rfl (by kernel_rfl) (by kernel_rfl) (by kernel_rfl) (fun _ _ _ h => h) (by kernel_rfl) (row_yields' (by rfl) 24 (.tmp 57) rfl bb (bo + k * 3) rfl _ _ (fun _ h => h.2.2) Tryz.underlying24 rfl (by kernel_rfl)) HSS.out ?_
          try simp only [List.getElem_toArray, List.getElem_cons_succ, List.getElem_cons_zero, Act.put, List.setIfInBounds_toArray, List.set_cons_zero, List.set_cons_succ]
          refine anyT_one (i := 10) (by kernel_rfl) rfl (fun K hK => ?_)
          rw [if_pos (by rfl)]
          try simp only [List.getElem_toArray, List.getElem_cons_succ, List.getElem_cons_zero]
          (go_simp; (with_reducible refine (HSA.out _ HST.out.1 HST.out.2).mono ?_); rintro e w3 ⟨rfl, hb⟩; replace HB := Lib.hid (HB.out.trans (hb.mono HB.out.size)); clear hb)
          refine hK _ _ (not_mem rfl) ?_
          clear hK K
          try simp only [List.getElem_toArray, List.getElem_cons_succ, List.getElem_cons_zero, Act.put, List.setIfInBounds_toArray, List.set_cons_zero, List.set_cons_succ]
          refine anyT_takeY (i := 11) (v := .bool false) rfl (by kernel_rfl) (by kernel_rfl) (by kernel_rfl) (fun _ _ _ h => h) (by kernel_rfl) (Or.inl ⟨by rfl, by intro w; go_simp⟩) ?_
          try simp only [List.getElem_toArray, List.getElem_cons_succ, List.getElem_cons_zero, Act.put, List.setIfInBounds_toArray, List.set_cons_zero, List.set_cons_succ]
          refine anyT_done (by kernel_rfl) ?_ _
          go_wp2_with (fail)
          go_roundw
          case rel => first | exact ⟨k + 1, by omega, by go_num, HB⟩ | exact ⟨k + 1, by omega, by omega⟩
          case measure => simp [intOf]; omega
        · obtain rfl : k = R.length := by omega
          have c1 : wr.cell? ⟨w.heap.size, 1, none⟩ = some (.slice ra R.length rc) := cell_of_row _ _ 1 _ _ _ M2.out.h2
          go_wp2_with (fail)
          go_ret
          exact ⟨rfl, M2.out.below⟩
end Go.Proofs.YtabflppnecemkaaGreatDoor
namespace Go.Proofs.YtabflppnecemkaaGreatDoor
set_option linter.unusedVariables false
set_option linter.unusedSimpArgs false
open Go.RowKit
set_option linter.unusedVariables false
def Kept (X : World → Prop) : Prop := ∀ a b : World, X a → Below a.heap.size a b → X b
structure Kp (w0 w : World) (X : World → Prop) : Prop where
  below : Below w0.heap.size w0 w
  x : X w
  kept : Kept X
theorem Kp.start (w : World) : Kp w w (fun _ => True) := ⟨Below.refl _ _, trivial, fun _ _ h _ => h⟩
theorem Kp.call {w0 w w' : World} {X : World → Prop} (m : Kp w0 w X) (h : Below w.heap.size w w') : Kp w0 w' X := ⟨m.below.trans (h.mono m.below.size), m.kept _ _ m.x h, m.kept⟩
theorem Kp.add {w0 w : World} {X Y : World → Prop} (m : Kp w0 w X) (hy : Y w) (hk : Kept Y) : Kp w0 w (fun w => X w ∧ Y w) := ⟨m.below, ⟨m.x, hy⟩, fun a b h hb => ⟨m.kept a b h.1 hb, hk a b h.2 hb⟩⟩
theorem Kp.new {w0 w : World} {X : World → Prop} (m : Kp w0 w X) (o : Obj) : Kp w0 (w.alloc o) X := m.call (below_alloc w o)
theorem kept_blk (g : Nat) (o : Obj) : Kept (fun w => w.heap[g]? = some o) := fun a b h hb => (hb.block g (Array.getElem?_eq_some_iff.1 h).1).trans h
theorem Kept.and {X Y : World → Prop} (h : Kept X) (k : Kept Y) : Kept (fun w => X w ∧ Y w) := fun a b x hb => ⟨h a b x.1 hb, k a b x.2 hb⟩
end Go.Proofs.YtabflppnecemkaaGreatDoor
