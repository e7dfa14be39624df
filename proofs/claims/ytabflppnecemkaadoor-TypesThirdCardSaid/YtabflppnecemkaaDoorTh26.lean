/- Part 26 of the proof. -/
import Derived.Lib.SmallJoins
import Derived.Deep.Fields
import Derived.ChangeSame
import Derived.Test.YtabflppnecemkaaDoorTh9
import Derived.Test.YtabflppnecemkaaDoorTh21
import Derived.Test.YtabflppnecemkaaDoorTh25
namespace Go.Proofs.YtabflppnecemkaaDoor
set_option linter.unusedVariables false
set_option linter.unusedSimpArgs false
open Go.RowKit
set_option maxRecDepth 1000000
set_option linter.unusedSimpArgs false
set_option linter.unusedVariables false
/-- a Case -/
def csC (chain : ByteArray) (lv : Value) (D E : Int) : Array Value := #[.string chain, lv, .int .i64 D, .int .i64 E]
theorem cs_cells {w : World} {g : Nat} {chain : ByteArray} {lv : Value} {D E : Int} {T : TypeId} (h : w.heap[g]? = some (.cells (csC chain lv D E) T (0, 0))) :
    w.cell? ⟨g, 0, none⟩ = some (.string chain) ∧ w.cell? ⟨g, 1, none⟩ = some lv ∧ w.rangeAt g 2 (parC D E).toList := by
  refine ⟨by rw [cell_of_row w g 0 _ _ _ h]; rfl, by rw [cell_of_row w g 1 _ _ _ h]; rfl, fun j u hu => ?_⟩
  rw [cell_of_row w g (2 + j) _ _ _ h]
  match j, hu with
  | 0, hu => exact hu
  | 1, hu => exact hu
theorem cut_ok (D E : Int) : True := trivial
/-- what lies in memory -/
structure TtM (w0 : World) (g3 g4 g5 : Nat) (chain : ByteArray) (D E : Int) (c d : Cm) (lv vx vy : Value) (l : List Va) (xs ys : List Vo) (w : World) : Prop where
  below : Below w0.heap.size w0 w
  h3 : w.heap[g3]? = some (.cells (csC chain lv D E) 26 (0, 0))
  h4 : w.heap[g4]? = some (.cells (cmC c vx) 31 (0, 0))
  h5 : w.heap[g5]? = some (.cells (cmC d vy) 31 (0, 0))
  l : VaIn w lv l
  x : VoIn w vx xs
  y : VoIn w vy ys
  sx : ∀ t ∈ xs, BytesIn w t.sv t.sign
  sy : ∀ t ∈ ys, BytesIn w t.sv t.sign
theorem TtM.call {w0 w w' : World} {g3 g4 g5 : Nat} {chain : ByteArray} {D E : Int} {c d : Cm} {lv vx vy : Value} {l : List Va} {xs ys : List Vo} (m : TtM w0 g3 g4 g5 chain D E c d lv vx vy l xs ys w) (hb : Below w.heap.size w w') : TtM w0 g3 g4 g5 chain D E c d lv vx vy l xs ys w' :=
  ⟨m.below.trans (hb.mono m.below.size), (hb.block _ (bkT_lt m.h3)).trans m.h3, (hb.block _ (bkT_lt m.h4)).trans m.h4, (hb.block _ (bkT_lt m.h5)).trans m.h5, m.l.below hb, m.x.below hb, m.y.below hb, fun t ht => (m.sx t ht).below hb, fun t ht => (m.sy t ht).below hb⟩
structure TtN (w0 : World) (g3 g4 g5 g7 : Nat) (chain : ByteArray) (D E E2 : Int) (c d : Cm) (lv vx vy : Value) (l : List Va) (xs ys : List Vo) (w : World) : Prop where
  m : TtM w0 g3 g4 g5 chain D E c d lv vx vy l xs ys w
  h7 : w.heap[g7]? = some (.cells (parC D E2) 24 (0, 0))
theorem TtN.call {w0 w w' : World} {g3 g4 g5 g7 : Nat} {chain : ByteArray} {D E E2 : Int} {c d : Cm} {lv vx vy : Value} {l : List Va} {xs ys : List Vo} (m : TtN w0 g3 g4 g5 g7 chain D E E2 c d lv vx vy l xs ys w) (hb : Below w.heap.size w w') : TtN w0 g3 g4 g5 g7 chain D E E2 c d lv vx vy l xs ys w' :=
  ⟨m.m.call hb, (hb.block _ (bkT_lt m.h7)).trans m.h7⟩
/-- so far: what both have signed -/
def outV (l : List Va) (xs ys : List Vo) (i : Nat) : Int := sumI l (fun j => hasV (xs.take i) j && hasV ys j) 0
theorem outV_next {l : List Va} {xs ys : List Vo} (g : GoodV l xs) {i m : Nat} {v : Vo} {x : Va} (h : xs[i]? = some v) (hm : v.val = (m : Int)) (hx : l[m]? = some x) : outV l xs ys (i + 1) = outV l xs ys i + if hasV ys m then x.pow else 0 := by
  unfold outV
  have hn := hasV_new g h hm
  cases hy : hasV ys m with
  | true =>
    have e := sumI_add l (fun j => hasV (xs.take i) j && hasV ys j) m 0 x hx (by rw [Nat.zero_add, hn]; rfl)
    rw [if_pos rfl, ← e]
    refine sumI_congr _ _ _ _ fun j => ?_
    rw [hasV_snoc h hm, Nat.zero_add]
    by_cases hj : j = m
    · subst hj; simp [hn, hy]
    · simp [hj]
  | false =>
    rw [if_neg (by simp), Int.add_zero]
    refine sumI_congr _ _ _ _ fun j => ?_
    rw [hasV_snoc h hm]
    by_cases hj : j = m
    · subst hj; simp [hn, hy]
    · simp [hj]
theorem outV_bd {l : List Va} (h : ckE l = none) (xs ys : List Vo) (i : Nat) : 0 ≤ outV l xs ys i ∧ outV l xs ys i ≤ 1099511627776 := by
  obtain ⟨h1, h2, h3⟩ := ck_sum h
  exact ⟨sumI_nonneg _ _ _ h1, Int.le_trans (sumI_le _ _ _ h1) h3⟩
def innV (ys : List Vo) (k m : Nat) (P : Int) : Int := if hasV (ys.take k) m then P else 0
theorem pow_bd {l : List Va} (h : ckE l = none) {m : Nat} {x : Va} (hx : l[m]? = some x) : 0 ≤ x.pow ∧ x.pow ≤ 1099511627776 := by
  obtain ⟨h1, h2, h3⟩ := ck_sum h
  have e := sumI_add l (fun _ => false) m 0 x hx rfl
  have e2 := sumI_le l (fun j => false || decide (j = 0 + m)) 0 h1
  rw [sumI_none] at e
  have := h1 x (List.mem_of_getElem? hx)
  omega
set_option maxHeartbeats 32000000 in
theorem lthird_any (chain : ByteArray) (l : List Va) (lv : Value) (D E : Int) (c d : Cm) (xs ys : List Vo) (vx vy : Value) (w : World) (he : Env w) (hg : ErrType w) (hl : VaIn w lv l) (hx : VoIn w vx xs) (hy : VoIn w vy ys) (hsx : ∀ t ∈ xs, BytesIn w t.sv t.sign) (hsy : ∀ t ∈ ys, BytesIn w t.sv t.sign) (hc : chain.size ≤ 140737488351232) (hz : ∀ x ∈ l, x.name.size ≤ 140737488351232) (hox : ∀ t ∈ xs, VoIs t) (hoy : ∀ t ∈ ys, VoIs t) :
    Calls Tryd.prog 3 #[.agg (csC chain lv D E), .agg (cmC c vx), .agg (cmC d vy)] w fun e w' => e = .returned (.bool true) ∧ Below w.heap.size w w' := by
  obtain ⟨la, lc, rfl, -, hlm⟩ := hl.len
  obtain ⟨xa, xc, rfl, -, hxm⟩ := hx.len
  obtain ⟨ya, yc, rfl, -, hym⟩ := hy.len
  have HE := Lib.hid he
  have HG := Lib.hid hg
  have HSU := Lib.hid (fun w' (h : Below w.heap.size w w') => tysure_any w' (HG.out.below h))
  have HV1 := Lib.hid (show ∀ w, Env w → VaIn w (.slice la l.length lc) l → VoIn w (.slice xa xs.length xc) xs → (∀ t ∈ xs, BytesIn w t.sv t.sign) → Calls Tryd.prog 7 #[.string chain, .slice la l.length lc, .agg (parC D (cutE4 E)), .agg (cmC c (.slice xa xs.length xc))] w fun e w' => e = .returned (errV (vcE chain l D (cutE4 E) c xs)) ∧ Below w.heap.size w w' from fun w he h1 h2 h3 => vcommit_any chain l _ D (cutE4 E) c xs _ w he h1 h2 h3 hc hz hox)
  have HV2 := Lib.hid (show ∀ w, Env w → VaIn w (.slice la l.length lc) l → VoIn w (.slice ya ys.length yc) ys → (∀ t ∈ ys, BytesIn w t.sv t.sign) → Calls Tryd.prog 7 #[.string chain, .slice la l.length lc, .agg (parC D (cutE4 E)), .agg (cmC d (.slice ya ys.length yc))] w fun e w' => e = .returned (errV (vcE chain l D (cutE4 E) d ys)) ∧ Below w.heap.size w w' from fun w he h1 h2 h3 => vcommit_any chain l _ D (cutE4 E) d ys _ w he h1 h2 h3 hc hz hoy)
  have HTO := Lib.hid (fun w h => total_any l (.slice la l.length lc) w h)
  have HCU := Lib.hid (fun w => lcut11_any D E w)
  obtain ⟨nl, hnl⟩ : ∃ n, n = l.length := ⟨_, rfl⟩
  obtain ⟨nx, hnx⟩ : ∃ n, n = xs.length := ⟨_, rfl⟩
  obtain ⟨ny, hny⟩ : ∃ n, n = ys.length := ⟨_, rfl⟩
  have HNL := Lib.hid hnl
  have HNX := Lib.hid hnx
  have HNY := Lib.hid hny
  obtain ⟨E2, hE2⟩ : ∃ e, e = cutE4 E := ⟨_, rfl⟩
  rw [← hE2] at HV1 HV2 HCU
  have hb1 := below_alloc w (.cells (csC chain (.slice la l.length lc) D E) 26)
  have hb2 := below_alloc (w.alloc (.cells (csC chain (.slice la l.length lc) D E) 26)) (.cells (cmC c (.slice xa xs.length xc)) 31)
  have hb3 := below_alloc ((w.alloc (.cells (csC chain (.slice la l.length lc) D E) 26)).alloc (.cells (cmC c (.slice xa xs.length xc)) 31)) (.cells (cmC d (.slice ya ys.length yc)) 31)
  have h3' := heap_alloc_new w (.cells (csC chain (.slice la l.length lc) D E) 26)
  have h4' := heap_alloc_new (w.alloc (.cells (csC chain (.slice la l.length lc) D E) 26)) (.cells (cmC c (.slice xa xs.length xc)) 31)
  have h5' := heap_alloc_new ((w.alloc (.cells (csC chain (.slice la l.length lc) D E) 26)).alloc (.cells (cmC c (.slice xa xs.length xc)) 31)) (.cells (cmC d (.slice ya ys.length yc)) 31)
  rw [size_alloc] at h4' h5'
  rw [size_alloc] at h5'
  have M := Lib.hid (show TtM w w.heap.size (w.heap.size + 1) (w.heap.size + 1 + 1) chain D E c d (.slice la l.length lc) (.slice xa xs.length xc) (.slice ya ys.length yc) l xs ys (((w.alloc (.cells (csC chain (.slice la l.length lc) D E) 26)).alloc (.cells (cmC c (.slice xa xs.length xc)) 31)).alloc (.cells (cmC d (.slice ya ys.length yc)) 31)) from
    ⟨(hb1.trans (hb2.mono (by simp))).trans (hb3.mono (by simp; omega)), (hb3.block _ (by simp; omega)).trans ((hb2.block _ (by simp)).trans h3'), (hb3.block _ (by simp)).trans h4', h5', ((hl.below hb1).below hb2).below hb3, ((hx.below hb1).below hb2).below hb3, ((hy.below hb1).below hb2).below hb3, fun t ht => (((hsx t ht).below hb1).below hb2).below hb3, fun t ht => (((hsy t ht).below hb1).below hb2).below hb3⟩)
  rw [← hnl, ← hnx, ← hny] at M
  rw [← hnl, ← hnx] at HV1
  rw [← hnl, ← hny] at HV2
  rw [← hnl] at HTO
  have hnlI : (nl : Int) ≤ 9223372036854775807 := by unfold maxLen at hlm; omega
  have hnxI : (nx : Int) ≤ 9223372036854775807 := by unfold maxLen at hxm; omega
  have hnyI : (ny : Int) ≤ 9223372036854775807 := by unfold maxLen at hym; omega
  rw [← hnl, ← hnx, ← hny]
  clear hb1 hb2 hb3 h3' h4' h5' he hg hl hx hy hsx hsy hc hz hox hoy hnl hnx hny hlm hxm hym hE2
  go_enter Tryd.func3, Tryd.ntmps3
  go_upto_region 1 with (fail)
  obtain ⟨g3, hg3⟩ : ∃ g, g = w.heap.size := ⟨_, rfl⟩
  obtain ⟨g4, hg4⟩ : ∃ g, g = w.heap.size + 1 := ⟨_, rfl⟩
  obtain ⟨g5, hg5⟩ : ∃ g, g = w.heap.size + 1 + 1 := ⟨_, rfl⟩
  rw [← hg5, ← hg4, ← hg3] at M
  first
    | rw [← hg5, ← hg4, ← hg3]
    | rw [show w.heap.size + 2 = g5 from hg5.symm, ← hg4, ← hg3]
  clear hg3 hg4 hg5
  generalize ((w.alloc (.cells (csC chain (.slice la nl lc) D E) 26)).alloc (.cells (cmC c (.slice xa nx xc)) 31)).alloc (.cells (cmC d (.slice ya ny yc)) 31) = w1 at *
  go_upto_region 2 with (first
    | (refine wpList_load_rowT (by rfl) 24 (.tmp 12) rfl g3 2 rfl (parC D E) _ (cs_cells M.out.h3).2.2 Tryd.underlying24 rfl (by kernel_rfl) ?_)
    | (go_at_call 5; (with_reducible refine (HCU.out _).mono ?_); rintro e w2 ⟨rfl, hb⟩; replace M := Lib.hid (M.out.call hb); clear hb)
    | (refine wpList_store_row rfl 24 (.tmp 7) (.tmp 14) rfl w2.heap.size (parC D E2) rfl rfl 24 _ (heap_alloc_new _ _) (by kernel_rfl) (by rfl) (par11_one _ _) ?_; rw [World.setRow_alloc_new]))
  have M2 := Lib.hid (show TtN w g3 g4 g5 w2.heap.size chain D E E2 c d (.slice la nl lc) (.slice xa nx xc) (.slice ya ny yc) l xs ys (w2.alloc (.cells (parC D E2) 24)) from ⟨M.out.call (below_alloc w2 _), heap_alloc_new w2 _⟩)
  obtain ⟨g7, hg7⟩ : ∃ g, g = w2.heap.size := ⟨_, rfl⟩
  rw [← hg7] at M2 ⊢
  clear hg7 M HCU
  have M := M2
  clear M2
  generalize w2.alloc (.cells (parC D E2) 24) = w3 at *
  have c4 := (cm_cells M.out.m.h4).2.2.2
  have c5 := (cm_cells M.out.m.h5).2.2.2
  by_cases hx40 : 40 < nx
  · have hI : (40 : Int) < (nx : Int) := by omega
    clear hx40
    go_wp2_with (go_at_call 6; (with_reducible refine (HSU.out _ M.out.m.below).mono ?_); rintro e w4 ⟨rfl, hb⟩; replace M := Lib.hid (M.out.call hb); clear hb)
    go_ret
    exact ⟨rfl, M.out.m.below⟩
  by_cases hy40 : 40 < ny
  · have hI : ¬ (40 : Int) < (nx : Int) := by omega
    have hI2 : (40 : Int) < (ny : Int) := by omega
    clear hx40 hy40
    go_wp2_with (go_at_call 6; (with_reducible refine (HSU.out _ M.out.m.below).mono ?_); rintro e w4 ⟨rfl, hb⟩; replace M := Lib.hid (M.out.call hb); clear hb)
    go_ret
    exact ⟨rfl, M.out.m.below⟩
  have hI : ¬ (40 : Int) < (nx : Int) := by omega
  have hI2 : ¬ (40 : Int) < (ny : Int) := by omega
  have hnx40 : nx ≤ 40 := by omega
  have hny40 : ny ≤ 40 := by omega
  clear hx40 hy40
  go_upto_region 4 with (fail)
  have c30 := (cs_cells M.out.m.h3).1
  have c31 := (cs_cells M.out.m.h3).2.1
  obtain ⟨r1, hr1⟩ : ∃ r, r = vcE chain l D E2 c xs := ⟨_, rfl⟩
  obtain ⟨r2, hr2⟩ : ∃ r, r = vcE chain l D E2 d ys := ⟨_, rfl⟩
  rw [← hr1] at HV1
  rw [← hr2] at HV2
  have HR1 := Lib.hid hr1
  have HR2 := Lib.hid hr2
  clear hr1 hr2
  cases r1 with
  | some x =>
    simp only [errV] at HV1
    go_wp2_with (first
      | (refine wpList_load_rowT (by rfl) 24 (.tmp 7) rfl g7 0 rfl (parC D E2) _ (rowT_range M.out.h7) Tryd.underlying24 rfl (by kernel_rfl) ?_)
      | (refine wpList_load_rowT (by rfl) 31 (.tmp 4) rfl g4 0 rfl (cmC c (.slice xa nx xc)) _ (rowT_range M.out.m.h4) Tryd.underlying31 rfl (by rw [cmC_size]; kernel_rfl) ?_)
      | (go_at_call 7; (with_reducible refine (HV1.out _ (HE.out.below M.out.m.below HE.out.lt) M.out.m.l M.out.m.x M.out.m.sx).mono ?_); rintro e w4 ⟨rfl, hb⟩; replace M := Lib.hid (M.out.call hb); clear hb)
      | (go_at_call 6; (with_reducible refine (HSU.out _ M.out.m.below).mono ?_); rintro e w5 ⟨rfl, hb⟩; replace M := Lib.hid (M.out.call hb); clear hb))
    go_ret
    exact ⟨rfl, M.out.m.below⟩
  | none =>
    simp only [errV] at HV1
    cases r2 with
    | some x =>
      simp only [errV] at HV2
      go_wp2_with (first
        | (refine wpList_load_rowT (by rfl) 24 (.tmp 7) rfl g7 0 rfl (parC D E2) _ (rowT_range M.out.h7) Tryd.underlying24 rfl (by kernel_rfl) ?_)
        | (refine wpList_load_rowT (by rfl) 31 (.tmp 4) rfl g4 0 rfl (cmC c (.slice xa nx xc)) _ (rowT_range M.out.m.h4) Tryd.underlying31 rfl (by rw [cmC_size]; kernel_rfl) ?_)
        | (refine wpList_load_rowT (by rfl) 31 (.tmp 5) rfl g5 0 rfl (cmC d (.slice ya ny yc)) _ (rowT_range M.out.m.h5) Tryd.underlying31 rfl (by rw [cmC_size]; kernel_rfl) ?_)
        | (go_at_call 7; (with_reducible refine (HV1.out _ (HE.out.below M.out.m.below HE.out.lt) M.out.m.l M.out.m.x M.out.m.sx).mono ?_); rintro e w4 ⟨rfl, hb⟩; replace M := Lib.hid (M.out.call hb); have d30 := (cs_cells M.out.m.h3).1; have d31 := (cs_cells M.out.m.h3).2.1; clear hb)
        | (go_at_call 7; (with_reducible refine (HV2.out _ (HE.out.below M.out.m.below HE.out.lt) M.out.m.l M.out.m.y M.out.m.sy).mono ?_); rintro e w5 ⟨rfl, hb⟩; replace M := Lib.hid (M.out.call hb); clear hb)
        | (go_at_call 6; (with_reducible refine (HSU.out _ M.out.m.below).mono ?_); rintro e w6 ⟨rfl, hb⟩; replace M := Lib.hid (M.out.call hb); clear hb))
      go_ret
      exact ⟨rfl, M.out.m.below⟩
    | none =>
      simp only [errV] at HV2
      obtain ⟨gx, gy, hck, htot, hlt3⟩ := third_of HR1.out.symm HR2.out.symm
      have HGX := Lib.hid gx
      have HGY := Lib.hid gy
      have HCK := Lib.hid hck
      have HLT := Lib.hid hlt3
      have HSUM := Lib.hid (ck_sum hck)
      rw [htot] at HTO
      clear gx gy hck htot hlt3 HR1 HR2
      go_upto_region 8 with (first
        | (refine wpList_load_rowT (by rfl) 24 (.tmp 7) rfl g7 0 rfl (parC D E2) _ (rowT_range M.out.h7) Tryd.underlying24 rfl (by kernel_rfl) ?_)
        | (refine wpList_load_rowT (by rfl) 31 (.tmp 4) rfl g4 0 rfl (cmC c (.slice xa nx xc)) _ (rowT_range M.out.m.h4) Tryd.underlying31 rfl (by rw [cmC_size]; kernel_rfl) ?_)
        | (refine wpList_load_rowT (by rfl) 31 (.tmp 5) rfl g5 0 rfl (cmC d (.slice ya ny yc)) _ (rowT_range M.out.m.h5) Tryd.underlying31 rfl (by rw [cmC_size]; kernel_rfl) ?_)
        | (go_at_call 7; (with_reducible refine (HV1.out _ (HE.out.below M.out.m.below HE.out.lt) M.out.m.l M.out.m.x M.out.m.sx).mono ?_); rintro e w4 ⟨rfl, hb⟩; replace M := Lib.hid (M.out.call hb); have d30 := (cs_cells M.out.m.h3).1; have d31 := (cs_cells M.out.m.h3).2.1; clear hb)
        | (go_at_call 7; (with_reducible refine (HV2.out _ (HE.out.below M.out.m.below HE.out.lt) M.out.m.l M.out.m.y M.out.m.sy).mono ?_); rintro e w5 ⟨rfl, hb⟩; replace M := Lib.hid (M.out.call hb); clear hb))
      clear c4 c5 c30 c31 d30 d31 HV1 HV2
      have c4 := (cm_cells M.out.m.h4).2.2.2
      have c5 := (cm_cells M.out.m.h5).2.2.2
      have c31 := (cs_cells M.out.m.h3).2.1
      have HR0 := Lib.hid (show (0 : Int) = outV l xs ys 0 from by unfold outV; exact ((sumI_congr l _ (fun _ => false) 0 (fun j => by simp [hasV])).trans (sumI_none l 0)).symm)
      go_wp2_with (fail)
      go_loopw [8, 9] (fun y x wr => ∃ (i : Nat) (s : Int), i ≤ nx ∧ y = .int .i64 s ∧ x = .int .i64 (i : Int) ∧ 0 ≤ s ∧ s ≤ 1099511627776 ∧ wr = w5 ∧ Hid (s = outV l xs ys i)) (fun _ x _ => nx - (intOf x).toNat)
      case atStart => exact ⟨0, _, Nat.zero_le _, rfl, rfl, by omega, by omega, rfl, HR0⟩
      case round =>
        clear HR0
        obtain ⟨i, s, hin, rfl, rfl, hs0, hs1, rfl, HR⟩ := hrel
        by_cases hlt : i < nx
        · have hltI : (i : Int) < (nx : Int) := by omega
          obtain ⟨v, hv⟩ : ∃ v, xs[i]? = some v := ⟨xs[i]'(by have := HNX.out; omega), List.getElem?_eq_getElem _⟩
          obtain ⟨m, hm⟩ : ∃ m : Nat, v.val = (m : Int) := ⟨v.val.toNat, by have := HGX.out.idx i v hv; omega⟩
          have hmI : (m : Int) < (nl : Int) := by have := HGX.out.idx i v hv; have := HNL.out; omega
          obtain ⟨x0, hx0⟩ : ∃ x, l[m]? = some x := ⟨l[m]'(by have := HNL.out; omega), List.getElem?_eq_getElem _⟩
          have hvx := M.out.m.x
          rw [HNX.out] at hvx
          obtain ⟨xb, xo, hxa, hxb, hxr⟩ := hvx.at hv
          have cxv := vo_val hxr
          rw [hm] at cxv
          have hvl := M.out.m.l
          rw [HNL.out] at hvl
          obtain ⟨lb, lo, hla, hlb, hlr⟩ := hvl.at hx0
          have cp := va_pow hlr
          obtain ⟨P, hP⟩ : ∃ P, P = x0.pow := ⟨_, rfl⟩
          rw [← hP] at cp
          obtain ⟨hp0, hp1⟩ : 0 ≤ P ∧ P ≤ 1099511627776 := by rw [hP]; exact pow_bd HCK.out hx0
          have HON := Lib.hid (outV_next (ys := ys) HGX.out hv hm hx0)
          rw [← hP] at HON
          have HBD := Lib.hid (outV_bd HCK.out xs ys (i + 1))
          subst hxa hla
          clear hv hm hx0 hvx hxb hxr hvl hlb hlr hP
          go_upto_region 11 with (fail)
          have HI0 := Lib.hid (show s = s + innV ys 0 m P from by unfold innV hasV; simp)
          go_wp2_with (fail)
          go_loopw [8, 10] (fun y x w' => ∃ (k : Nat) (s2 : Int), k ≤ ny ∧ y = .int .i64 s2 ∧ x = .int .i64 (k : Int) ∧ 0 ≤ s2 ∧ s2 ≤ 2199023255552 ∧ w' = wr ∧ Hid (s2 = s + innV ys k m P)) (fun _ x _ => ny - (intOf x).toNat)
          case atStart => exact ⟨0, _, Nat.zero_le _, rfl, rfl, by omega, by omega, rfl, HI0⟩
          case round =>
            clear HI0
            obtain ⟨k, s2, hkn, rfl, rfl, ht0, ht1, rfl, HS⟩ := hrel
            by_cases hlk : k < ny
            · have hlkI : (k : Int) < (ny : Int) := by omega
              obtain ⟨u, hu⟩ : ∃ u, ys[k]? = some u := ⟨ys[k]'(by have := HNY.out; omega), List.getElem?_eq_getElem _⟩
              obtain ⟨p, hp⟩ : ∃ p : Nat, u.val = (p : Int) := ⟨u.val.toNat, by have := HGY.out.idx k u hu; omega⟩
              have hvy := M.out.m.y
              rw [HNY.out] at hvy
              obtain ⟨yb, yo, hya, hyb, hyr⟩ := hvy.at hu
              have cyv := vo_val hyr
              rw [hp] at cyv
              have HSN := Lib.hid (hasV_snoc hu hp m)
              have HNEW := Lib.hid (hasV_new HGY.out hu hp)
              subst hya
              clear hu hp hvy hyb hyr
              by_cases hmp : m = p
              · subst hmp
                have HS2 := Lib.hid (show s2 = s from by rw [HS.out]; unfold innV; rw [HNEW.out]; simp)
                have HS3 := Lib.hid (show innV ys (k + 1) m P = P from by unfold innV; rw [HSN.out]; simp)
                go_wp2_with (fail)
                go_roundw
                case rel => exact ⟨k + 1, s2 + P, by omega, by go_num, by go_num, by omega, by have := HS2.out; omega, trivial, Lib.hid (by rw [HS3.out, HS2.out])⟩
                case measure => simp [intOf]; omega
              · have HS3 := Lib.hid (show innV ys (k + 1) m P = innV ys k m P from by unfold innV; rw [HSN.out, decide_eq_false hmp, Bool.or_false])
                have hne : ¬ (m : Int) = (p : Int) := by omega
                clear hmp
                go_wp2_with (fail)
                go_roundw
                case rel => exact ⟨k + 1, s2, by omega, rfl, by go_num, by omega, by omega, trivial, Lib.hid (by rw [HS3.out]; exact HS.out)⟩
                case measure => simp [intOf]; omega
            · obtain rfl : k = ny := by omega
              have HS4 := Lib.hid (show s2 = outV l xs ys (i + 1) from by
                rw [HON.out, ← HR.out, HS.out]
                unfold innV
                rw [HNY.out, List.take_length])
              go_wp2_with (fail)
              go_roundw
              case rel => exact ⟨i + 1, s2, by omega, rfl, by go_num, by omega, by rw [HS4.out]; exact HBD.out.2, trivial, HS4⟩
              case measure => simp [intOf]; omega
        · obtain rfl : i = nx := by omega
          have HBO := Lib.hid (show s = bothV l xs ys from by rw [HR.out, HNX.out]; unfold outV bothV; rw [List.take_length])
          obtain ⟨T, hT⟩ : ∃ T, T = sumV l := ⟨_, rfl⟩
          rw [← hT] at HTO
          have hT3 : T < 3 * s := by rw [hT, HBO.out]; exact HLT.out
          clear hT
          go_wp2_with (first
            | (go_at_call 8; (with_reducible refine (HTO.out _ M.out.m.l).mono ?_); rintro e w6 ⟨rfl, hb⟩; replace M := Lib.hid (M.out.call hb); clear hb)
            | (go_at_call 6; (with_reducible refine (HSU.out _ M.out.m.below).mono ?_); rintro e w7 ⟨rfl, hb⟩; replace M := Lib.hid (M.out.call hb); clear hb))
          go_ret
          exact ⟨rfl, M.out.m.below⟩
end Go.Proofs.YtabflppnecemkaaDoor
namespace Go.Proofs.YtabflppnecemkaaDoor
set_option linter.unusedVariables false
set_option linter.unusedSimpArgs false
open Go.ChangeShapes Go.WideShapes Go.ChangeAt Go.RowKit
set_option maxRecDepth 100000
theorem par_arg {H : Type} {enc : TypeId × Value → H} {W : World} {cs : Array Value} {d : DataW H} {p : List MemPlace} (h : DataW.Trod enc Tryd.prog W 0 (fun _ => true) true 24 (.agg cs) d p) : ∃ D E, cs = parC D E := by
  obtain ⟨fuel, hf⟩ := h
  have hf' : DataW.trod enc Tryd.prog W 0 (fun _ => true) true fuel 24 cs.toList = some (d, p) := by simpa [Value.cells] using hf
  obtain ⟨xs, m, _, hx, hlen, hxl, hff⟩ := DataW.trod_struct Tryd.underlying24 hf'
  rw [show Tryd.prog.cellsOf 24 = 2 by kernel_rfl] at hlen
  simp only [List.size_toArray, List.length_cons, List.length_nil] at hxl
  have g : ∀ i, i < 2 → ∃ y, xs[i]? = some y := fun i hi => ⟨xs[i], List.getElem?_eq_getElem (by omega)⟩
  obtain ⟨y0, e0⟩ := g 0 (by omega)
  obtain ⟨y1, e1⟩ := g 1 (by omega)
  have f0 : DataW.trod enc Tryd.prog W 0 (fun _ => true) true m 3 ((cs.toList.drop 0).take (Tryd.prog.cellsOf 3)) = xs[0]? := hff 0 _ rfl
  have f1 : DataW.trod enc Tryd.prog W 0 (fun _ => true) true m 3 ((cs.toList.drop 1).take (Tryd.prog.cellsOf 3)) = xs[1]? := hff 1 _ rfl
  rw [e0, show Tryd.prog.cellsOf 3 = 1 by kernel_rfl] at f0
  rw [e1, show Tryd.prog.cellsOf 3 = 1 by kernel_rfl] at f1
  obtain ⟨D, hD, _, _⟩ := DataW.trod_int Tryd.underlying3 f0
  obtain ⟨E, hE, _, _⟩ := DataW.trod_int Tryd.underlying3 f1
  refine ⟨D, E, ?_⟩
  apply Array.toList_inj.1
  apply List.ext_getElem?
  intro i
  match i with
  | 0 => rw [one_take hD]; rfl
  | 1 => rw [one_take hE]; rfl
  | n + 2 => rw [List.getElem?_eq_none (by omega), List.getElem?_eq_none (by show 2 ≤ n + 2; omega)]
end Go.Proofs.YtabflppnecemkaaDoor
namespace Go.Proofs.YtabflppnecemkaaDoor
set_option linter.unusedVariables false
set_option linter.unusedSimpArgs false
open Go.ChangeShapes Go.WideShapes Go.ChangeAt Go.RowKit Go.Proofs
set_option maxRecDepth 100000
set_option linter.unusedSimpArgs false
set_option linter.unusedVariables false
/-- a slice of rows that came in: each row's cells are C t -/
theorem rows_raw {H α : Type} {enc : TypeId × Value → H} {W : World} {T E : TypeId} {n : Nat} (hT : Tryd.prog.underlying T = some (.slice E)) (hn : Tryd.prog.cellsOf E = n) (hn0 : 0 < n) (C : α → List Value) (hC : ∀ t, (C t).length = n) (Ok : α → Nat → Prop)
    (hel : ∀ (f : Nat) (cs : List Value) (x : DataW H × List MemPlace), DataW.trod enc Tryd.prog W 0 (fun _ => true) true f E cs = some x → ∃ t, cs = C t ∧ Ok t (Rows.uptoBulk x.1))
    {fuel : Nat} {cs : List Value} {x : DataW H × List MemPlace} (h : DataW.trod enc Tryd.prog W 0 (fun _ => true) true fuel T cs = some x) :
    ∃ (ts : List α) (a : Option Addr) (cap : Nat), cs = [.slice a ts.length cap] ∧ ts.length ≤ cap ∧ ts.length ≤ maxLen ∧ ts.length ≤ Rows.uptoBulk x.1 ∧
      (ts = [] ∨ ∃ b off, a = some ⟨b, off, none⟩ ∧ b < W.heap.size ∧ ∀ i t, ts[i]? = some t → W.rangeAt b (off + i * n) (C t)) ∧ ∀ t ∈ ts, ∃ k, Ok t k ∧ k ≤ Rows.uptoBulk x.1 := by
  rcases Deep.open_slice hT h with ⟨hcs, hx⟩ | ⟨ad, l, c, m, f, D, Pl, hcs, _, hl, hm, hmm, hx, hel2⟩
  · exact ⟨[], none, 0, hcs, by simp, by simp [maxLen], by simp, .inl rfl, by simp⟩
  · simp only [if_true] at hmm
    subst hx
    rw [hn] at hel2
    have key : ∀ i, i < l → ∃ t : α, (∀ j v, (C t)[j]? = some v → W.cell? (ad.add (i * n + j)) = some v) ∧ Ok t (Rows.uptoBulk (D i)) := by
      intro i hi
      obtain ⟨cs', h1, h2⟩ := hel2 i (by omega)
      obtain ⟨_, hlen, hcell⟩ := World.cells?_some h1
      obtain ⟨t, rfl, hok⟩ := hel f _ _ h2
      refine ⟨t, fun j v hv => ?_, hok⟩
      have hj : j < n := by have := (List.getElem?_eq_some_iff.1 hv).1; rw [hC] at this; exact this
      rw [← hv, ← hcell j hj]
      by_cases hj0 : j = 0 <;> by_cases hi0 : i * n = 0 <;> simp [hj0, hi0, Addr.add, Nat.add_assoc]
    have hnone : ∀ (i : Nat), l ≤ i → True := fun _ _ => trivial
    by_cases hl0 : l = 0
    · subst hl0
      exact ⟨[], some ad, c, hcs, by simp, by simp [maxLen], by simp, .inl rfl, by simp⟩
    · obtain ⟨t0, _⟩ := key 0 (by omega)
      have hinh : Nonempty α := ⟨t0⟩
      have key2 : ∀ i, ∃ t : α, i < l → (∀ j v, (C t)[j]? = some v → W.cell? (ad.add (i * n + j)) = some v) ∧ Ok t (Rows.uptoBulk (D i)) := fun i => by
        by_cases hi : i < l
        · obtain ⟨t, ht⟩ := key i hi; exact ⟨t, fun _ => ht⟩
        · exact ⟨t0, fun h => absurd h hi⟩
      obtain ⟨F, hF⟩ : ∃ F : Nat → α, ∀ i, i < l → (∀ j v, (C (F i))[j]? = some v → W.cell? (ad.add (i * n + j)) = some v) ∧ Ok (F i) (Rows.uptoBulk (D i)) := ⟨fun i => (key2 i).choose, fun i => (key2 i).choose_spec⟩
      have hget : ∀ i t, ((List.range l).map F)[i]? = some t → i < l ∧ F i = t := fun i t hi => by
        have hil : i < l := by have := (List.getElem?_eq_some_iff.1 hi).1; simpa using this
        rw [List.getElem?_map, List.getElem?_range hil] at hi
        cases hi; exact ⟨hil, rfl⟩
      have hblk := bulk_len ((List.range l).map D)
      simp only [List.length_map, List.length_range] at hblk
      refine ⟨(List.range l).map F, some ad, c, by simpa using hcs, by simpa using hl, by simp; omega, ?_, .inr ?_, fun t ht => ?_⟩
      · simp only [Rows.uptoBulk, List.length_map, List.length_range]; omega
      · obtain ⟨b, off, spot⟩ := ad
        have h1 : (C (F 0))[0]? = some (C (F 0))[0]! := by rw [List.getElem?_eq_getElem (by rw [hC]; exact hn0)]; simp [hC, hn0]
        have h0 := (hF 0 (by omega)).1 0 _ h1
        have hspot : spot = none := by simpa [Addr.add] using World.cell?_spot h0
        subst hspot
        refine ⟨b, off, rfl, by simpa [Addr.add] using World.block_lt_of_cell? _ _ h0, fun i t hi => ?_⟩
        obtain ⟨hil, rfl⟩ := hget i t hi
        intro j v hv
        have := (hF i hil).1 j v hv
        rw [Addr.add_mid] at this
        rw [Nat.add_assoc]; exact this
      · obtain ⟨i, hi, rfl⟩ := List.mem_map.1 ht
        have h2 := bulk_mem (d := D i) (l := (List.range l).map D) (List.mem_map.2 ⟨i, hi, rfl⟩)
        exact ⟨_, (hF i (List.mem_range.1 hi)).2, by simp only [Rows.uptoBulk]; omega⟩
theorem pvone {α : Type} {l : List α} {k : Nat} {v : α} (h : (l.drop k).take 1 = [v]) : l[k]? = some v := by
  have h1 : ((l.drop k).take 1)[0]? = some v := by rw [h]; rfl
  rw [List.getElem?_take, if_pos (by omega), List.getElem?_drop, Nat.add_zero] at h1
  exact h1
theorem bulkAt {H : Type} {d : DataW H} {l : List (DataW H)} {i : Nat} (h : l[i]? = some d) : Rows.uptoBulk d ≤ Rows.uptoBulkAll l := bulk_mem (List.mem_of_getElem? h)
end Go.Proofs.YtabflppnecemkaaDoor
