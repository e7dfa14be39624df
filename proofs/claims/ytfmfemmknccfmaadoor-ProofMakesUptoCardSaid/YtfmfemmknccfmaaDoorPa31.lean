/- Part 31 of the proof. -/
import Derived.Test.YtfmfemmknccfmaaDoorPa30
namespace Go.Proofs.YtfmfemmknccfmaaDoor
set_option linter.unusedVariables false
set_option linter.unusedSimpArgs false
open Go.RowKit
set_option maxRecDepth 100000
set_option linter.unusedSimpArgs false
set_option linter.unusedVariables false
/-- one place, or none, in memory -/
def PlsIn (w : World) (v : Value) (l : List Pl) : Prop :=
  (l = [] ∧ ∃ a c, v = .slice a 0 c) ∨ ∃ x g c, l = [x] ∧ v = .slice (some ⟨g, 0, none⟩) 1 c ∧ w.cell? ⟨g, 32, none⟩ = some (.int .i64 x.2.1) ∧ w.cell? ⟨g, 33, none⟩ = some (.int .i64 x.2.2)
theorem PlsIn.below {w w' : World} {v : Value} {l : List Pl} (h : PlsIn w v l) (hb : Below w.heap.size w w') : PlsIn w' v l :=
  h.imp id fun ⟨x, g, c, e1, e2, h1, h2⟩ => ⟨x, g, c, e1, e2, (hb.cell (p := ⟨g, 32, none⟩) (World.block_lt_of_cell? w _ h1)).trans h1, (hb.cell (p := ⟨g, 33, none⟩) (World.block_lt_of_cell? w _ h2)).trans h2⟩
/-- nothing lies between both places -/
def adjF (R Z : Nat → Int) : List Pl → List Pl → Bool
  | [], [] => eqB R Z
  | [], y :: _ => y.2.1 == 0
  | x :: _, [] => x.2.1 == x.2.2 - 1
  | x :: _, y :: _ => x.2.2 == y.2.2 && y.2.1 == x.2.1 + 1
def plB (x : Pl) : Prop := 0 ≤ x.2.1 ∧ x.2.1 ≤ 4611686018427387904 ∧ 0 ≤ x.2.2 ∧ x.2.2 ≤ 4611686018427387904
set_option maxHeartbeats 4000000 in
theorem adjacent_any (R : Nat → Int) (vl vr : Value) (l r : List Pl) (w : World) (he : Env w) (hl : PlsIn w vl l) (hr : PlsIn w vr r) (hbl : ∀ x ∈ l, plB x) (hbr : ∀ x ∈ r, plB x) :
    Calls Tryd.prog 63 #[.agg (rowOf .u8 32 R), vl, vr] w fun e w' => e = .returned (.bool (adjF R (sumF []) l r)) ∧ Below w.heap.size w w' := by
  have HB := Lib.hid (below_alloc w (.cells (rowOf .u8 32 R) 43))
  have HX := Lib.hid (heap_alloc_new w (.cells (rowOf .u8 32 R) 43))
  have HE := Lib.hid (he.below HB.out he.lt)
  replace hl := hl.below HB.out
  replace hr := hr.below HB.out
  have HSM := Lib.hid (fun w (h : Env w) => shSum_any (.slice none 0 0) [] w (nil_in _) h)
  obtain ⟨Z, hZ⟩ : ∃ Z, Z = sumF [] := ⟨_, rfl⟩
  rw [← hZ] at HSM ⊢
  clear hZ he
  rcases hl with ⟨rfl, la, lc, rfl⟩ | ⟨x, g, lc, rfl, rfl, k1, k2⟩
  · rcases hr with ⟨rfl, ra, rc, rfl⟩ | ⟨y, h, rc, rfl, rfl, m1, m2⟩
    · obtain ⟨b, hb⟩ : ∃ b, b = eqB R Z := ⟨_, rfl⟩
      have HEQ := Lib.hid (show ∀ w, _ from fun w => eqIn32 R Z w)
      rw [← hb] at HEQ
      show Calls _ _ _ w fun e w' => e = .returned (.bool (eqB R Z)) ∧ _
      rw [← hb]
      clear hb hbl hbr
      go_enter Tryd.func63, Tryd.ntmps63
      go_upto_region 1 with (fail)
      generalize w.alloc (.cells (rowOf .u8 32 R) 43) = w1 at *
      obtain ⟨q, hq⟩ : ∃ q, q = w.heap.size := ⟨_, rfl⟩
      have HQ := Lib.hid hq
      rw [← hq] at HX ⊢
      clear hq
      go_upto_region 2 with (fail)
      refine wp_region_T (fun w' => w'.heap[q]? = some (.cells (rowOf .u8 32 R) 43 (0, 0))) [0, 1] (by kernel_rfl) ?_
      replace HB := Lib.hid (HB.out.drew)
      replace HX := Lib.hid (show w1.drew.heap[q]? = _ from HX.out)
      replace HE := Lib.hid (HE.out.below ((Below.refl _ w1).drew) HE.out.lt)
      generalize w1.drew = w2 at *
      refine anyT_take [2, 3] (i := 0) (v := .agg (rowOf .u8 32 R)) rfl (by kernel_rfl) (by kernel_rfl) (by kernel_rfl) (fun _ _ _ h => h) (by kernel_rfl) (row_yields' (by rfl) 43 (.tmp 3) rfl q 0 rfl (rowOf .u8 32 R) _ (fun w h j v hv => by rw [Nat.zero_add, cell_of_row w q j _ _ _ h]; simpa using hv) Tryd.underlying43 rfl (by rw [rowOf_size]; kernel_rfl)) HX.out ?_
      try simp only [List.getElem_toArray, List.getElem_cons_succ, List.getElem_cons_zero, Act.put, List.setIfInBounds_toArray, List.set_cons_zero, List.set_cons_succ]
      refine anyT_one (i := 1) (by kernel_rfl) rfl (fun K hK => ?_)
      rw [if_pos (by rfl)]
      try simp only [List.getElem_toArray, List.getElem_cons_succ, List.getElem_cons_zero]
      (go_simp; refine (HSM.out _ HE.out).mono ?_; rintro e w3 ⟨rfl, hb⟩; replace HX := Lib.hid ((hb.block _ (bk_lt HX.out)).trans HX.out); replace HB := Lib.hid (HB.out.trans (hb.mono HB.out.size)); clear hb)
      refine hK _ _ (fun _ => HX.out) ?_
      clear hK K
      try simp only [List.getElem_toArray, List.getElem_cons_succ, List.getElem_cons_zero, Act.put, List.setIfInBounds_toArray, List.set_cons_zero, List.set_cons_succ]
      refine anyT_takeY (i := 2) (v := .bool b) rfl (by kernel_rfl) (by kernel_rfl) (by kernel_rfl) (fun _ _ _ h => h) (by kernel_rfl) (Or.inl ⟨by rfl, by intro w; have h := HEQ.out w; go_simp⟩) ?_
      try simp only [List.getElem_toArray, List.getElem_cons_succ, List.getElem_cons_zero, Act.put, List.setIfInBounds_toArray, List.set_cons_zero, List.set_cons_succ]
      refine anyT_takeY (i := 3) (v := .bool b) rfl (by kernel_rfl) (by kernel_rfl) (by kernel_rfl) (fun _ _ _ h => h) (by kernel_rfl) (Or.inl ⟨by rfl, by intro w; go_simp⟩) ?_
      try simp only [List.getElem_toArray, List.getElem_cons_succ, List.getElem_cons_zero, Act.put, List.setIfInBounds_toArray, List.set_cons_zero, List.set_cons_succ]
      refine anyT_done (by kernel_rfl) ?_ _
      go_wp2_with (fail)
      go_ret
      exact ⟨rfl, HB.out⟩
    · have hy := hbr y (.head _)
      obtain ⟨b, hb⟩ : ∃ b, b = (y.2.1 == 0) := ⟨_, rfl⟩
      show Calls _ _ _ w fun e w' => e = .returned (.bool (y.2.1 == 0)) ∧ _
      clear hbl hbr hb b
      go_enter Tryd.func63, Tryd.ntmps63
      go_upto_region 1 with (fail)
      generalize w.alloc (.cells (rowOf .u8 32 R) 43) = w1 at *
      go_wp2_with (fail)
      go_ret
      exact ⟨rfl, HB.out⟩
  · rcases hr with ⟨rfl, ra, rc, rfl⟩ | ⟨y, h, rc, rfl, rfl, m1, m2⟩
    · have hx := hbl x (.head _)
      unfold plB at hx
      obtain ⟨x1, x2, x3, x4⟩ := hx
      show Calls _ _ _ w fun e w' => e = .returned (.bool (x.2.1 == x.2.2 - 1)) ∧ _
      clear hbl hbr
      go_enter Tryd.func63, Tryd.ntmps63
      go_upto_region 1 with (fail)
      generalize w.alloc (.cells (rowOf .u8 32 R) 43) = w1 at *
      go_upto_region 6 with (fail)
      go_region
      go_wp2_with (fail)
      go_ret
      exact ⟨rfl, HB.out.drew⟩
    · have hx := hbl x (.head _)
      have hy := hbr y (.head _)
      unfold plB at hx hy
      obtain ⟨x1, x2, x3, x4⟩ := hx
      obtain ⟨y1, y2, y3, y4⟩ := hy
      show Calls _ _ _ w fun e w' => e = .returned (.bool (x.2.2 == y.2.2 && y.2.1 == x.2.1 + 1)) ∧ _
      clear hbl hbr
      go_enter Tryd.func63, Tryd.ntmps63
      go_upto_region 1 with (fail)
      generalize w.alloc (.cells (rowOf .u8 32 R) 43) = w1 at *
      cases hc : (x.2.2 == y.2.2) with
      | true =>
        go_upto_region 7 with (fail)
        go_region
        go_wp2_with (fail)
        go_ret
        exact ⟨by rw [hc]; rfl, HB.out.drew⟩
      | false =>
        go_upto_region 7 with (fail)
        go_region
        go_wp2_with (fail)
        go_ret
        exact ⟨by rw [hc]; rfl, HB.out.drew⟩
end Go.Proofs.YtfmfemmknccfmaaDoor
