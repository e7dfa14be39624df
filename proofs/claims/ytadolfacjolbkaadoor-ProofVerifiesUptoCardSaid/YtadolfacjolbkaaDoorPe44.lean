/- Part 44 of the proof. -/
import Derived.Test.YtadolfacjolbkaaDoorPe23
import Derived.Test.YtadolfacjolbkaaDoorPe40
import Derived.Test.YtadolfacjolbkaaDoorPe41
import Derived.Test.YtadolfacjolbkaaDoorPe43
namespace Go.Proofs.YtadolfacjolbkaaDoor
set_option linter.unusedVariables false
set_option linter.unusedSimpArgs false
open Go.RowKit
set_option maxRecDepth 1000000
set_option linter.unusedSimpArgs false
set_option linter.unusedVariables false
/-- what lies in memory: the arguments in their variables -/
structure VlM (w0 w : World) (R : Nat → Int) (P : PvP) (sv vl vr : Value) (L Rt : List PvP) : Prop where
  below : Below w0.heap.size w0 w
  h3 : w.heap[w0.heap.size]? = some (.cells (rowOf .u8 32 R) 43 (0, 0))
  h4 : w.heap[w0.heap.size + 1]? = some (.cells (prC P sv) 51 (0, 0))
  h5 : w.heap[w0.heap.size + 1 + 1]? = some (.cells #[vl, vr] 54 (0, 0))
  st : StIn w sv P.steps
  l : PrsIn w vl L
  r : PrsIn w vr Rt
theorem VlM.call {w0 w w' : World} {R : Nat → Int} {P : PvP} {sv vl vr : Value} {L Rt : List PvP} (m : VlM w0 w R P sv vl vr L Rt) (h : Below w.heap.size w w') : VlM w0 w' R P sv vl vr L Rt :=
  ⟨m.below.trans (h.mono m.below.size), (h.block _ (bk_lt m.h3)).trans m.h3, (h.block _ (bk_lt m.h4)).trans m.h4, (h.block _ (bk_lt m.h5)).trans m.h5, m.st.below h, m.l.below h, m.r.below h⟩
def vlW (w : World) (R : Nat → Int) (P : PvP) (sv vl vr : Value) : World := ((w.alloc (.cells (rowOf .u8 32 R) 43)).alloc (.cells (prC P sv) 51)).alloc (.cells #[vl, vr] 54)
theorem vlM_start {w : World} {R : Nat → Int} {P : PvP} {sv vl vr : Value} {L Rt : List PvP} (h1 : StIn w sv P.steps) (h2 : PrsIn w vl L) (h3 : PrsIn w vr Rt) : VlM w (vlW w R P sv vl vr) R P sv vl vr L Rt := by
  have hb : Below w.heap.size w (vlW w R P sv vl vr) := (((Below.refl _ w).alloc (Nat.le_refl _) _).alloc (by simp) _).alloc (by simp; omega) _
  refine ⟨hb, ?_, ?_, ?_, h1.below hb, h2.below hb, h3.below hb⟩
  · unfold vlW; rw [heap_alloc_old _ _ (by simp; omega), heap_alloc_old _ _ (by simp), heap_alloc_new]
  · unfold vlW; rw [heap_alloc_old _ _ (by simp)]
    have := heap_alloc_new (w.alloc (.cells (rowOf .u8 32 R) 43)) (.cells (prC P sv) 51)
    rw [size_alloc] at this; exact this
  · unfold vlW
    have := heap_alloc_new ((w.alloc (.cells (rowOf .u8 32 R) 43)).alloc (.cells (prC P sv) 51)) (.cells #[vl, vr] 54)
    rw [size_alloc, size_alloc] at this; exact this
theorem VlM.cells {w0 w : World} {R : Nat → Int} {P : PvP} {sv vl vr : Value} {L Rt : List PvP} (m : VlM w0 w R P sv vl vr L Rt) : w.cell? ⟨w0.heap.size + 1, 0, none⟩ = some (.string P.key) ∧ w.cell? ⟨w0.heap.size + 1, 1, none⟩ = some (.string P.val) ∧ w.cell? ⟨w0.heap.size + 1, 2, none⟩ = some sv ∧ w.cell? ⟨w0.heap.size + 1 + 1, 0, none⟩ = some vl ∧ w.cell? ⟨w0.heap.size + 1 + 1, 1, none⟩ = some vr :=
  ⟨cell_of_row _ _ 0 _ _ _ m.h4, cell_of_row _ _ 1 _ _ _ m.h4, cell_of_row _ _ 2 _ _ _ m.h4, cell_of_row _ _ 0 _ _ _ m.h5, cell_of_row _ _ 1 _ _ _ m.h5⟩
def vlS (w : World) (g : Nat) (R : Nat → Int) (P : PvP) (sv vl vr : Value) : Prop := (w.rangeAt g 0 (rowOf .u8 32 R).toList ∧ w.rangeAt (g + 1) 0 (prC P sv).toList) ∧ w.rangeAt (g + 1 + 1) 0 (#[vl, vr] : Array Value).toList ∧ w.cell? ⟨g + 1, 0, none⟩ = some (.string P.key) ∧ w.cell? ⟨g + 1, 1, none⟩ = some (.string P.val)
theorem VlM.s {w0 w : World} {R : Nat → Int} {P : PvP} {sv vl vr : Value} {L Rt : List PvP} (m : VlM w0 w R P sv vl vr L Rt) : vlS w w0.heap.size R P sv vl vr :=
  ⟨⟨row_range m.h3, row_range m.h4⟩, row_range m.h5, m.cells.1, m.cells.2.1⟩
/-- the steps' slice of a proof of a row of proofs -/
theorem prs_steps {w : World} {a : Option Addr} {n c : Nat} {l : List PvP} {i : Nat} {p : PvP} (h : PrsIn w (.slice a n c) l) (hi : l[i]? = some p) : ∃ ab ao sa sc, a = some ⟨ab, ao, none⟩ ∧ w.cell? ⟨ab, ao + i * 3 + 2, none⟩ = some (.slice sa p.steps.length sc) ∧ w.cell? ⟨ab, ao + i * 3, none⟩ = some (.string p.key) := by
  obtain ⟨ab, ao, c', sa, sc, e, hr, hst⟩ := pr_in_range h hi
  injection e with e _ _
  refine ⟨ab, ao, sa, sc, e, hr 2 _ rfl, ?_⟩
  have := hr 0 _ rfl
  rwa [Nat.add_zero] at this
theorem verF_val {R : Nat → Int} {key v2 : ByteArray} {P : PvP} (h : P.val ≠ v2) : verF R key v2 P = some 23 := by
  unfold verF
  rw [if_neg (fun e => h e.2)]
theorem val_bang (v : ByteArray) : v ≠ v ++ { data := #[33] } := fun e => by
  have := congrArg ByteArray.size e
  rw [ByteArray.size_append] at this
  have h1 : (ByteArray.mk #[33]).size = 1 := rfl
  omega
def VlRel (w4 : World) (n : Nat) (x : Value) (wr : World) : Prop := ∃ k : Nat, k ≤ n ∧ x = .int .i64 (k : Int) ∧ Hid (Below w4.heap.size w4 wr)
set_option maxHeartbeats 16000000 in
theorem lverifies_any (R : Nat → Int) (P : PvP) (sv vl vr : Value) (L Rt : List PvP) (N : Nat) (w : World) (he : Env w) (hg : ErrType w) (hst : StIn w sv P.steps) (hl : PrsIn w vl L) (hr : PrsIn w vr Rt)
    (hp : P.key.size + P.val.size ≤ N ∧ P.steps.length ≤ N) (hzl : ∀ p ∈ L, p.key.size + p.val.size ≤ N ∧ p.steps.length ≤ N) (hzr : ∀ p ∈ Rt, p.key.size + p.val.size ≤ N ∧ p.steps.length ≤ N) (hnl : L.length ≤ N) (hnr : Rt.length ≤ N) (hN : N ≤ 1048576) :
    Calls Tryd.prog 4 #[.agg (rowOf .u8 32 R), .agg (prC P sv), .agg #[vl, vr]] w fun e w' => e = .returned (.bool true) ∧ Below w.heap.size w w' := by
  obtain ⟨va, vc, rfl⟩ := hst.len
  obtain ⟨la, lc, rfl, _⟩ := hl.len
  obtain ⟨ra, rc, rfl, _⟩ := hr.len
  have M := Lib.hid (vlM_start (R := R) hst hl hr)
  have HE := Lib.hid he
  have HG := Lib.hid hg
  have HGL := Lib.hid (World.block_lt_of_cell? w _ hg)
  have HSU := Lib.hid (fun w' (h : Below w.heap.size w w') => pvsure_any w' (HE.out.below h HE.out.lt) (HG.out.below h) (Nat.lt_of_lt_of_le HGL.out h.size))
  have HGV := Lib.hid (fun w h => give_any P (.slice va P.steps.length vc) w h (by omega))
  have HGS := Lib.hid (fun w h1 h2 => gives_any (.slice la L.length lc) (.slice ra Rt.length rc) L Rt w h1 h2 (fun p hp => by have := (hzl p hp).2; omega) (fun p hp => by have := (hzr p hp).2; omega) (by omega) (by omega))
  have HV := Lib.hid (fun key val v w he hst => verify_any R key val P v w he hst (by omega))
  have HRV := Lib.hid (fun key val v w he hst => rverify_any R key val P v w he hst (by omega))
  have HVN := Lib.hid (fun key vl vr w he h1 h2 => verNone_any R key vl vr L Rt w he h1 h2 (fun p hp => by have := (hzl p hp).1; omega) (fun p hp => by have := (hzr p hp).1; omega))
  have HRN := Lib.hid (fun key vl vr w he h1 h2 => rverNone_any R key vl vr L Rt w he h1 h2 (fun p hp => by have := (hzl p hp).1; omega) (fun p hp => by have := (hzr p hp).1; omega))
  have HNU := Lib.hid (fun e w h => num8_any e w h)
  have HKS := Lib.hid (fun p (hp : p ∈ L) => show p.key.size + 1 ≤ 9223372036854775807 from by have := (hzl p hp).1; omega)
  have HPZ := Lib.hid (show P.key.size + P.val.size ≤ 1048576 by omega)
  have hvs : P.val.size + 1 ≤ 9223372036854775807 := by omega
  have hnl1 : (L.length : Int) ≤ 1048576 := by omega
  have hnr1 : (Rt.length : Int) ≤ 1048576 := by omega
  have hns : (P.steps.length : Int) ≤ 1048576 := by omega
  unfold GivePost at HGV
  unfold GivesPost at HGS
  unfold VePost at HV
  unfold RvPost at HRV HRN
  clear he hg hst hl hr hp hzl hzr hnl hnr hN
  go_enter Tryd.func4, Tryd.ntmps4
  go_upto_region 1 with (fail)
  have e0 : ((w.alloc (.cells (rowOf .u8 32 R) 43)).alloc (.cells (prC P (.slice va P.steps.length vc)) 51)).alloc (.cells #[.slice la L.length lc, .slice ra Rt.length rc] 54) = vlW w R P (.slice va P.steps.length vc) (.slice la L.length lc) (.slice ra Rt.length rc) := rfl
  rw [e0]
  clear e0
  generalize vlW w R P (.slice va P.steps.length vc) (.slice la L.length lc) (.slice ra Rt.length rc) = w1 at *
  obtain ⟨ck, cv, cs, cl, cr⟩ := M.out.cells
  by_cases h1 : 3 < L.length
  · have h1I : (3 : Int) < (L.length : Int) := by omega
    clear h1
    go_wp2_with (go_at_call 17; (with_reducible refine (HSU.out _ M.out.below).mono ?_); rintro e w2 ⟨rfl, hb⟩; replace M := Lib.hid (M.out.call hb); clear hb)
    go_ret
    exact ⟨rfl, M.out.below⟩
  by_cases h2 : 3 < Rt.length
  · have h1I : ¬ (3 : Int) < (L.length : Int) := by omega
    have h2I : (3 : Int) < (Rt.length : Int) := by omega
    clear h1 h2
    go_wp2_with (go_at_call 17; (with_reducible refine (HSU.out _ M.out.below).mono ?_); rintro e w2 ⟨rfl, hb⟩; replace M := Lib.hid (M.out.call hb); clear hb)
    go_ret
    exact ⟨rfl, M.out.below⟩
  by_cases h3 : 100 < P.steps.length
  · have h1I : ¬ (3 : Int) < (L.length : Int) := by omega
    have h2I : ¬ (3 : Int) < (Rt.length : Int) := by omega
    have h3I : (100 : Int) < (P.steps.length : Int) := by omega
    clear h1 h2 h3
    go_wp2_with (go_at_call 17; (with_reducible refine (HSU.out _ M.out.below).mono ?_); rintro e w2 ⟨rfl, hb⟩; replace M := Lib.hid (M.out.call hb); clear hb)
    go_ret
    exact ⟨rfl, M.out.below⟩
  have h1I : ¬ (3 : Int) < (L.length : Int) := by omega
  have h2I : ¬ (3 : Int) < (Rt.length : Int) := by omega
  have h3I : ¬ (100 : Int) < (P.steps.length : Int) := by omega
  have HKB := Lib.hid (Below.refl w1.heap.size w1)
  go_wp2_with (fail)
  clear ck cv cs cl cr
  go_loopw [7] (fun x wr => VlRel w1 L.length x wr) (fun x _ => L.length - (intOf x).toNat)
  case atStart => unfold VlRel; exact ⟨0, by omega, rfl, HKB⟩
  case round =>
    clear HKB
    obtain ⟨k, hkl, rfl, HKB⟩ := hrel
    have M2 := Lib.hid (M.out.call HKB.out)
    by_cases hlt : k < L.length
    · obtain ⟨q, hq⟩ : ∃ q, L[k]? = some q := ⟨L[k], List.getElem?_eq_getElem hlt⟩
      have hltI : (k : Int) < (L.length : Int) := by omega
      obtain ⟨ck, cv, cs, cl, cr⟩ := M2.out.cells
      obtain ⟨ab, ao, sa, sc, e1, hc2, hc0⟩ := prs_steps M2.out.l hq
      subst e1
      clear hc0 hq
      by_cases hS : 100 < q.steps.length
      · have hSI : (100 : Int) < (q.steps.length : Int) := by omega
        clear hS
        go_wp2_with (go_at_call 17; (with_reducible refine (HSU.out _ M2.out.below).mono ?_); rintro e w2 ⟨rfl, hb⟩; replace M2 := Lib.hid (M2.out.call hb); clear hb)
        go_ret
        exact ⟨rfl, M2.out.below⟩
      · have hSI : ¬ (100 : Int) < (q.steps.length : Int) := by omega
        clear hS
        go_wp2_with (fail)
        go_roundw
        case rel => unfold VlRel; exact ⟨k + 1, by omega, by go_num, HKB⟩
        case measure => simp [intOf]; omega
    · obtain rfl : k = L.length := by omega
      obtain ⟨ck, cv, cs, cl, cr⟩ := M2.out.cells
      clear M HKB hkl hlt
      have M := M2
      clear M2
      generalize wr = w1 at *
      have HKB := Lib.hid (Below.refl w1.heap.size w1)
      go_wp2_with (fail)
      clear ck cv cs cl cr
      go_loopw [8] (fun x wr => VlRel w1 Rt.length x wr) (fun x _ => Rt.length - (intOf x).toNat)
      case atStart => unfold VlRel; exact ⟨0, by omega, rfl, HKB⟩
      case round =>
        clear HKB
        obtain ⟨k, hkl, rfl, HKB⟩ := hrel
        have M2 := Lib.hid (M.out.call HKB.out)
        by_cases hlt : k < Rt.length
        · obtain ⟨q, hq⟩ : ∃ q, Rt[k]? = some q := ⟨Rt[k], List.getElem?_eq_getElem hlt⟩
          have hltI : (k : Int) < (Rt.length : Int) := by omega
          obtain ⟨ck, cv, cs, cl, cr⟩ := M2.out.cells
          obtain ⟨ab, ao, sa, sc, e1, hc2, hc0⟩ := prs_steps M2.out.r hq
          subst e1
          clear hc0 hq
          by_cases hS : 100 < q.steps.length
          · have hSI : (100 : Int) < (q.steps.length : Int) := by omega
            clear hS
            go_wp2_with (go_at_call 17; (with_reducible refine (HSU.out _ M2.out.below).mono ?_); rintro e w2 ⟨rfl, hb⟩; replace M2 := Lib.hid (M2.out.call hb); clear hb)
            go_ret
            exact ⟨rfl, M2.out.below⟩
          · have hSI : ¬ (100 : Int) < (q.steps.length : Int) := by omega
            clear hS
            go_wp2_with (fail)
            go_roundw
            case rel => unfold VlRel; exact ⟨k + 1, by omega, by go_num, HKB⟩
            case measure => simp [intOf]; omega
        · obtain rfl : k = Rt.length := by omega
          obtain ⟨ck, cv, cs, cl, cr⟩ := M2.out.cells
          clear M HKB hkl hlt
          have M := M2
          clear M2
          generalize wr = w1 at *
          have HKB := Lib.hid (Below.refl w1.heap.size w1)
          go_wp2_with (fail)
          clear ck cv cs cl cr
          go_loopw [9] (fun x wr => VlRel w1 2 x wr) (fun x _ => 2 - (intOf x).toNat)
          case atStart => unfold VlRel; exact ⟨0, by omega, rfl, HKB⟩
          case round =>
            clear HKB
            obtain ⟨k, hkl, rfl, HKB⟩ := hrel
            have M2 := Lib.hid (M.out.call HKB.out)
            obtain ⟨ck, cv, cs, cl, cr⟩ := M2.out.cells
            have hk2 : k = 0 ∨ k = 1 ∨ k = 2 := by omega
            rcases hk2 with rfl | rfl | rfl
            · go_upto_region 19 with (fail)
              clear ck cv cs cl cr
              obtain ⟨K, hK⟩ : ∃ K, K = P.key := ⟨_, rfl⟩
              have HRW : Value.string P.key = Value.string K := by rw [hK]
              have HV1 := Lib.hid (fun v w he hst => HV.out K P.val v w he hst)
              have HR1 := Lib.hid (fun v w he hst => HRV.out K P.val v w he hst)
              have HVN1 := Lib.hid (fun vl vr w he h1 h2 => HVN.out K vl vr w he h1 h2)
              have HRN1 := Lib.hid (fun vl vr w he h1 h2 => HRN.out K vl vr w he h1 h2)
              obtain ⟨e1, he1⟩ : ∃ e, e = verF R K P.val P := ⟨_, rfl⟩
              obtain ⟨e2, he2⟩ : ∃ e, e = verNF R (sumF []) K L Rt := ⟨_, rfl⟩
              rw [← he1] at HV1 HR1
              rw [← he2] at HVN1 HRN1
              have HN1 := Lib.hid (fun w h => HNU.out e1 w h)
              have HN2 := Lib.hid (fun w h => HNU.out e2 w h)
              obtain ⟨m1, hm1⟩ : ∃ m, m = numE e1 := ⟨_, rfl⟩
              obtain ⟨m2, hm2⟩ : ∃ m, m = numE e2 := ⟨_, rfl⟩
              rw [← hm1] at HN1 HR1
              rw [← hm2] at HN2 HRN1
              try rw [← hK]
              clear hK he1 he2 hm1 hm2
              refine wp_region_T (fun w' => vlS w' w.heap.size R P (.slice va P.steps.length vc) (.slice la L.length lc) (.slice ra Rt.length rc)) [0, 3, 4, 5, 6, 7, 8, 11, 12, 13, 16, 18, 19, 20, 21, 22, 24] (by kernel_rfl) ?_
              have hdr : Below wr.heap.size wr wr.drew := (Below.refl _ _).drew
              have MB := Lib.hid (HKB.out.trans (hdr.mono HKB.out.size))
              replace M2 := Lib.hid (M2.out.call hdr)
              clear hdr HKB
              generalize wr.drew = w2 at *
              refine anyT_takeY (i := 1) (v := .string K) rfl (by kernel_rfl) (by kernel_rfl) (by kernel_rfl) (fun _ _ _ h => h) (by kernel_rfl) (Or.inl ⟨by rfl, by intro w; go_simp⟩) ?_
              try simp only [List.getElem_toArray, List.getElem_cons_succ, List.getElem_cons_zero, Act.put, List.setIfInBounds_toArray, List.set_cons_zero, List.set_cons_succ]
              refine anyT_takeY (i := 2) (v := .pointer (some ⟨w.heap.size + 1, 1, none⟩)) rfl (by kernel_rfl) (by kernel_rfl) (by kernel_rfl) (fun _ _ _ h => h) (by kernel_rfl) (Or.inl ⟨by rfl, by intro w; go_simp⟩) ?_
              try simp only [List.getElem_toArray, List.getElem_cons_succ, List.getElem_cons_zero, Act.put, List.setIfInBounds_toArray, List.set_cons_zero, List.set_cons_succ]
              refine anyT_takeY (i := 9) (v := .string K) rfl (by kernel_rfl) (by kernel_rfl) (by kernel_rfl) (fun _ _ _ h => h) (by kernel_rfl) (Or.inl ⟨by rfl, by intro w; go_simp⟩) ?_
              try simp only [List.getElem_toArray, List.getElem_cons_succ, List.getElem_cons_zero, Act.put, List.setIfInBounds_toArray, List.set_cons_zero, List.set_cons_succ]
              refine anyT_takeY (i := 10) (v := .pointer (some ⟨w.heap.size + 1, 1, none⟩)) rfl (by kernel_rfl) (by kernel_rfl) (by kernel_rfl) (fun _ _ _ h => h) (by kernel_rfl) (Or.inl ⟨by rfl, by intro w; go_simp⟩) ?_
              try simp only [List.getElem_toArray, List.getElem_cons_succ, List.getElem_cons_zero, Act.put, List.setIfInBounds_toArray, List.set_cons_zero, List.set_cons_succ]
              refine anyT_take [6, 7, 13, 14, 15, 16, 17, 18, 19, 20, 21, 22, 23, 24, 25, 26, 27] (i := 0) (v := .agg (rowOf .u8 32 R)) rfl (by kernel_rfl) (by kernel_rfl) (by kernel_rfl) (fun _ _ _ h => h) (by kernel_rfl) (row_yields' (by rfl) 43 (.tmp 3) rfl w.heap.size 0 rfl _ _ (fun _ h => h.1.1) Tryd.underlying43 rfl (by rw [rowOf_size]; kernel_rfl)) M2.out.s ?_
              try simp only [List.getElem_toArray, List.getElem_cons_succ, List.getElem_cons_zero, Act.put, List.setIfInBounds_toArray, List.set_cons_zero, List.set_cons_succ]
              refine anyT_take [6, 7, 13, 14, 15, 16, 17, 18, 19, 20, 21, 22, 23, 24, 25, 26, 27] (i := 3) (v := .string P.val) rfl (by kernel_rfl) (by kernel_rfl) (by kernel_rfl) (fun _ _ _ h => h) (by kernel_rfl) (Or.inl ⟨by rfl, fun w' hS => by have c := hS.2.2.2; go_simp⟩) M2.out.s ?_
              try simp only [List.getElem_toArray, List.getElem_cons_succ, List.getElem_cons_zero, Act.put, List.setIfInBounds_toArray, List.set_cons_zero, List.set_cons_succ]
              refine anyT_take [13, 14, 15, 16, 17, 18, 19, 20, 21, 22, 23, 24, 25, 26, 27] (i := 8) (v := .agg (rowOf .u8 32 R)) rfl (by kernel_rfl) (by kernel_rfl) (by kernel_rfl) (fun _ _ _ h => h) (by kernel_rfl) (row_yields' (by rfl) 43 (.tmp 3) rfl w.heap.size 0 rfl _ _ (fun _ h => h.1.1) Tryd.underlying43 rfl (by rw [rowOf_size]; kernel_rfl)) M2.out.s ?_
              try simp only [List.getElem_toArray, List.getElem_cons_succ, List.getElem_cons_zero, Act.put, List.setIfInBounds_toArray, List.set_cons_zero, List.set_cons_succ]
              refine anyT_take [13, 14, 15, 16, 17, 18, 19, 20, 21, 22, 23, 24, 25, 26, 27] (i := 11) (v := .string P.val) rfl (by kernel_rfl) (by kernel_rfl) (by kernel_rfl) (fun _ _ _ h => h) (by kernel_rfl) (Or.inl ⟨by rfl, fun w' hS => by have c := hS.2.2.2; go_simp⟩) M2.out.s ?_
              try simp only [List.getElem_toArray, List.getElem_cons_succ, List.getElem_cons_zero, Act.put, List.setIfInBounds_toArray, List.set_cons_zero, List.set_cons_succ]
              refine anyT_take [13, 14, 15, 16, 17, 18, 19, 20, 21, 22, 23, 24, 25, 26, 27] (i := 12) (v := .agg (prC P (.slice va P.steps.length vc))) rfl (by kernel_rfl) (by kernel_rfl) (by kernel_rfl) (fun _ _ _ h => h) (by kernel_rfl) (row_yields' (by rfl) 51 (.tmp 4) rfl (w.heap.size + 1) 0 rfl _ _ (fun _ h => h.1.2) Tryd.underlying51 rfl (by kernel_rfl)) M2.out.s ?_
              try simp only [List.getElem_toArray, List.getElem_cons_succ, List.getElem_cons_zero, Act.put, List.setIfInBounds_toArray, List.set_cons_zero, List.set_cons_succ]
              refine anyT_take [5, 6, 7, 13, 14, 15, 16, 17, 18, 19, 20, 21, 22, 23, 24, 25, 26, 27] (i := 4) (v := .agg (prC P (.slice va P.steps.length vc))) rfl (by kernel_rfl) (by kernel_rfl) (by kernel_rfl) (fun _ _ _ h => h) (by kernel_rfl) (row_yields' (by rfl) 51 (.tmp 4) rfl (w.heap.size + 1) 0 rfl _ _ (fun _ h => h.1.2) Tryd.underlying51 rfl (by kernel_rfl)) M2.out.s ?_
              try simp only [List.getElem_toArray, List.getElem_cons_succ, List.getElem_cons_zero, Act.put, List.setIfInBounds_toArray, List.set_cons_zero, List.set_cons_succ]
              refine anyT_one (i := 5) (by kernel_rfl) rfl (fun K hK => ?_)
              rw [if_pos (by rfl)]
              try simp only [List.getElem_toArray, List.getElem_cons_succ, List.getElem_cons_zero]
              (go_simp; (with_reducible refine (HGV.out _ M2.out.st).mono ?_); rintro e w3 ⟨ta, tc, rfl, hown, hb⟩; have HOW := Lib.hid (StIn.of_own hown); replace MB := Lib.hid (MB.out.trans (hb.mono MB.out.size)); replace M2 := Lib.hid (M2.out.call hb); clear hown hb)
              refine hK _ _ (fun _ => M2.out.s) ?_
              clear hK K
              try simp only [List.getElem_toArray, List.getElem_cons_succ, List.getElem_cons_zero, Act.put, List.setIfInBounds_toArray, List.set_cons_zero, List.set_cons_succ]
              refine anyT_one (i := 6) (by kernel_rfl) rfl (fun K hK => ?_)
              rw [if_pos (by rfl)]
              try simp only [List.getElem_toArray, List.getElem_cons_succ, List.getElem_cons_zero]
              (go_simp; (with_reducible refine (HV1.out _ _ (HE.out.below M2.out.below HE.out.lt) HOW.out).mono ?_); rintro e w4 ⟨rfl, hb⟩; replace MB := Lib.hid (MB.out.trans (hb.mono MB.out.size)); replace M2 := Lib.hid (M2.out.call hb); clear hb)
              refine hK _ _ (fun _ => M2.out.s) ?_
              clear hK K
              try simp only [List.getElem_toArray, List.getElem_cons_succ, List.getElem_cons_zero, Act.put, List.setIfInBounds_toArray, List.set_cons_zero, List.set_cons_succ]
              refine anyT_one (i := 7) (by kernel_rfl) rfl (fun K hK => ?_)
              rw [if_pos (by rfl)]
              try simp only [List.getElem_toArray, List.getElem_cons_succ, List.getElem_cons_zero]
              (go_simp; (with_reducible refine (HN1.out _ (HG.out.below M2.out.below)).mono ?_); rintro e w5 ⟨rfl, hb⟩; replace MB := Lib.hid (MB.out.trans (hb.mono MB.out.size)); replace M2 := Lib.hid (M2.out.call hb); clear hb)
              refine hK _ _ (fun _ => M2.out.s) ?_
              clear hK K
              try simp only [List.getElem_toArray, List.getElem_cons_succ, List.getElem_cons_zero, Act.put, List.setIfInBounds_toArray, List.set_cons_zero, List.set_cons_succ]
              refine anyT_one (i := 13) (by kernel_rfl) rfl (fun K hK => ?_)
              rw [if_pos (by rfl)]
              try simp only [List.getElem_toArray, List.getElem_cons_succ, List.getElem_cons_zero]
              (go_simp; (with_reducible refine (HR1.out _ _ (HE.out.below M2.out.below HE.out.lt) M2.out.st).mono ?_); rintro e w6 ⟨rfl, hb⟩; replace MB := Lib.hid (MB.out.trans (hb.mono MB.out.size)); replace M2 := Lib.hid (M2.out.call hb); clear hb)
              refine hK _ _ (fun _ => M2.out.s) ?_
              clear hK K
              try simp only [List.getElem_toArray, List.getElem_cons_succ, List.getElem_cons_zero, Act.put, List.setIfInBounds_toArray, List.set_cons_zero, List.set_cons_succ]
              refine anyT_takeY (i := 14) (v := .bool false) rfl (by kernel_rfl) (by kernel_rfl) (by kernel_rfl) (fun _ _ _ h => h) (by kernel_rfl) (Or.inl ⟨by rfl, by intro w; go_simp⟩) ?_
              try simp only [List.getElem_toArray, List.getElem_cons_succ, List.getElem_cons_zero, Act.put, List.setIfInBounds_toArray, List.set_cons_zero, List.set_cons_succ]
              refine anyT_takeY (i := 15) (v := .bool false) rfl (by kernel_rfl) (by kernel_rfl) (by kernel_rfl) (fun _ _ _ h => h) (by kernel_rfl) (Or.inl ⟨by rfl, by intro w; go_simp⟩) ?_
              try simp only [List.getElem_toArray, List.getElem_cons_succ, List.getElem_cons_zero, Act.put, List.setIfInBounds_toArray, List.set_cons_zero, List.set_cons_succ]
              refine anyT_takeY (i := 17) (v := .string K) rfl (by kernel_rfl) (by kernel_rfl) (by kernel_rfl) (fun _ _ _ h => h) (by kernel_rfl) (Or.inl ⟨by rfl, by intro w; go_simp⟩) ?_
              try simp only [List.getElem_toArray, List.getElem_cons_succ, List.getElem_cons_zero, Act.put, List.setIfInBounds_toArray, List.set_cons_zero, List.set_cons_succ]
              refine anyT_takeY (i := 23) (v := .string K) rfl (by kernel_rfl) (by kernel_rfl) (by kernel_rfl) (fun _ _ _ h => h) (by kernel_rfl) (Or.inl ⟨by rfl, by intro w; go_simp⟩) ?_
              try simp only [List.getElem_toArray, List.getElem_cons_succ, List.getElem_cons_zero, Act.put, List.setIfInBounds_toArray, List.set_cons_zero, List.set_cons_succ]
              refine anyT_take [20, 21, 25, 26, 27] (i := 16) (v := .agg (rowOf .u8 32 R)) rfl (by kernel_rfl) (by kernel_rfl) (by kernel_rfl) (fun _ _ _ h => h) (by kernel_rfl) (row_yields' (by rfl) 43 (.tmp 3) rfl w.heap.size 0 rfl _ _ (fun _ h => h.1.1) Tryd.underlying43 rfl (by rw [rowOf_size]; kernel_rfl)) M2.out.s ?_
              try simp only [List.getElem_toArray, List.getElem_cons_succ, List.getElem_cons_zero, Act.put, List.setIfInBounds_toArray, List.set_cons_zero, List.set_cons_succ]
              refine anyT_take [25, 26, 27] (i := 22) (v := .agg (rowOf .u8 32 R)) rfl (by kernel_rfl) (by kernel_rfl) (by kernel_rfl) (fun _ _ _ h => h) (by kernel_rfl) (row_yields' (by rfl) 43 (.tmp 3) rfl w.heap.size 0 rfl _ _ (fun _ h => h.1.1) Tryd.underlying43 rfl (by rw [rowOf_size]; kernel_rfl)) M2.out.s ?_
              try simp only [List.getElem_toArray, List.getElem_cons_succ, List.getElem_cons_zero, Act.put, List.setIfInBounds_toArray, List.set_cons_zero, List.set_cons_succ]
              refine anyT_take [25, 26, 27] (i := 24) (v := .agg #[.slice la L.length lc, .slice ra Rt.length rc]) rfl (by kernel_rfl) (by kernel_rfl) (by kernel_rfl) (fun _ _ _ h => h) (by kernel_rfl) (row_yields' (by rfl) 54 (.tmp 5) rfl (w.heap.size + 1 + 1) 0 rfl _ _ (fun _ h => h.2.1) Tryd.underlying54 rfl (by kernel_rfl)) M2.out.s ?_
              try simp only [List.getElem_toArray, List.getElem_cons_succ, List.getElem_cons_zero, Act.put, List.setIfInBounds_toArray, List.set_cons_zero, List.set_cons_succ]
              refine anyT_take [19, 20, 21, 25, 26, 27] (i := 18) (v := .agg #[.slice la L.length lc, .slice ra Rt.length rc]) rfl (by kernel_rfl) (by kernel_rfl) (by kernel_rfl) (fun _ _ _ h => h) (by kernel_rfl) (row_yields' (by rfl) 54 (.tmp 5) rfl (w.heap.size + 1 + 1) 0 rfl _ _ (fun _ h => h.2.1) Tryd.underlying54 rfl (by kernel_rfl)) M2.out.s ?_
              try simp only [List.getElem_toArray, List.getElem_cons_succ, List.getElem_cons_zero, Act.put, List.setIfInBounds_toArray, List.set_cons_zero, List.set_cons_succ]
              refine anyT_one (i := 19) (by kernel_rfl) rfl (fun K hK => ?_)
              rw [if_pos (by rfl)]
              try simp only [List.getElem_toArray, List.getElem_cons_succ, List.getElem_cons_zero]
              (go_simp; (with_reducible refine (HGS.out _ M2.out.l M2.out.r).mono ?_); rintro e w7 ⟨a1, c1, a2, c2, rfl, hl, hr, hb⟩; have HL := Lib.hid hl; have HR := Lib.hid hr; replace MB := Lib.hid (MB.out.trans (hb.mono MB.out.size)); replace M2 := Lib.hid (M2.out.call hb); clear hl hr hb)
              refine hK _ _ (fun _ => M2.out.s) ?_
              clear hK K
              try simp only [List.getElem_toArray, List.getElem_cons_succ, List.getElem_cons_zero, Act.put, List.setIfInBounds_toArray, List.set_cons_zero, List.set_cons_succ]
              refine anyT_one (i := 20) (by kernel_rfl) rfl (fun K hK => ?_)
              rw [if_pos (by rfl)]
              try simp only [List.getElem_toArray, List.getElem_cons_succ, List.getElem_cons_zero]
              (go_simp; (with_reducible refine (HVN1.out _ _ _ (HE.out.below M2.out.below HE.out.lt) HL.out HR.out).mono ?_); rintro e w8 ⟨rfl, hb⟩; replace MB := Lib.hid (MB.out.trans (hb.mono MB.out.size)); replace M2 := Lib.hid (M2.out.call hb); clear hb)
              refine hK _ _ (fun _ => M2.out.s) ?_
              clear hK K
              try simp only [List.getElem_toArray, List.getElem_cons_succ, List.getElem_cons_zero, Act.put, List.setIfInBounds_toArray, List.set_cons_zero, List.set_cons_succ]
              refine anyT_one (i := 21) (by kernel_rfl) rfl (fun K hK => ?_)
              rw [if_pos (by rfl)]
              try simp only [List.getElem_toArray, List.getElem_cons_succ, List.getElem_cons_zero]
              (go_simp; (with_reducible refine (HN2.out _ (HG.out.below M2.out.below)).mono ?_); rintro e w9 ⟨rfl, hb⟩; replace MB := Lib.hid (MB.out.trans (hb.mono MB.out.size)); replace M2 := Lib.hid (M2.out.call hb); clear hb)
              refine hK _ _ (fun _ => M2.out.s) ?_
              clear hK K
              try simp only [List.getElem_toArray, List.getElem_cons_succ, List.getElem_cons_zero, Act.put, List.setIfInBounds_toArray, List.set_cons_zero, List.set_cons_succ]
              refine anyT_one (i := 25) (by kernel_rfl) rfl (fun K hK => ?_)
              rw [if_pos (by rfl)]
              try simp only [List.getElem_toArray, List.getElem_cons_succ, List.getElem_cons_zero]
              (go_simp; (with_reducible refine (HRN1.out _ _ _ (HE.out.below M2.out.below HE.out.lt) M2.out.l M2.out.r).mono ?_); rintro e w10 ⟨rfl, hb⟩; replace MB := Lib.hid (MB.out.trans (hb.mono MB.out.size)); replace M2 := Lib.hid (M2.out.call hb); clear hb)
              refine hK _ _ (not_mem rfl) ?_
              clear hK K
              try simp only [List.getElem_toArray, List.getElem_cons_succ, List.getElem_cons_zero, Act.put, List.setIfInBounds_toArray, List.set_cons_zero, List.set_cons_succ]
              refine anyT_takeY (i := 26) (v := .bool false) rfl (by kernel_rfl) (by kernel_rfl) (by kernel_rfl) (fun _ _ _ h => h) (by kernel_rfl) (Or.inl ⟨by rfl, by intro w; go_simp⟩) ?_
              try simp only [List.getElem_toArray, List.getElem_cons_succ, List.getElem_cons_zero, Act.put, List.setIfInBounds_toArray, List.set_cons_zero, List.set_cons_succ]
              refine anyT_takeY (i := 27) (v := .bool false) rfl (by kernel_rfl) (by kernel_rfl) (by kernel_rfl) (fun _ _ _ h => h) (by kernel_rfl) (Or.inl ⟨by rfl, by intro w; go_simp⟩) ?_
              try simp only [List.getElem_toArray, List.getElem_cons_succ, List.getElem_cons_zero, Act.put, List.setIfInBounds_toArray, List.set_cons_zero, List.set_cons_succ]
              refine anyT_done (by kernel_rfl) ?_ _
              have M3 := MB
              go_wp2_with (fail)
              go_roundw
              case rel => unfold VlRel; exact ⟨1, by omega, rfl, M3⟩
              case measure => simp [intOf]
            · by_cases hL0 : 0 < L.length
              · obtain ⟨q, hq⟩ : ∃ q, L[0]? = some q := ⟨L[0], List.getElem?_eq_getElem hL0⟩
                have hL0I : (0 : Int) < (L.length : Int) := by omega
                obtain ⟨ab, ao, sa, sc, e1, hc2, hc0⟩ := prs_steps M2.out.l hq
                subst e1
                rw [Nat.zero_mul, Nat.add_zero] at hc0
                have hqs := HKS.out q (List.mem_of_getElem? hq)
                clear hc2 hq
                obtain ⟨K, hK⟩ : ∃ K, K = q.key ++ { data := #[0] } := ⟨_, rfl⟩
                go_upto_region 19 with (fail)
                clear ck cv cs cl cr hc0 hqs
                have HV1 := Lib.hid (fun v w he hst => HV.out K P.val v w he hst)
                have HR1 := Lib.hid (fun v w he hst => HRV.out K P.val v w he hst)
                have HVN1 := Lib.hid (fun vl vr w he h1 h2 => HVN.out K vl vr w he h1 h2)
                have HRN1 := Lib.hid (fun vl vr w he h1 h2 => HRN.out K vl vr w he h1 h2)
                obtain ⟨e1, he1⟩ : ∃ e, e = verF R K P.val P := ⟨_, rfl⟩
                obtain ⟨e2, he2⟩ : ∃ e, e = verNF R (sumF []) K L Rt := ⟨_, rfl⟩
                rw [← he1] at HV1 HR1
                rw [← he2] at HVN1 HRN1
                have HN1 := Lib.hid (fun w h => HNU.out e1 w h)
                have HN2 := Lib.hid (fun w h => HNU.out e2 w h)
                obtain ⟨m1, hm1⟩ : ∃ m, m = numE e1 := ⟨_, rfl⟩
                obtain ⟨m2, hm2⟩ : ∃ m, m = numE e2 := ⟨_, rfl⟩
                rw [← hm1] at HN1 HR1
                rw [← hm2] at HN2 HRN1
                try rw [← hK]
                clear hK he1 he2 hm1 hm2
                refine wp_region_T (fun w' => vlS w' w.heap.size R P (.slice va P.steps.length vc) (.slice (some ⟨ab, ao, none⟩) L.length lc) (.slice ra Rt.length rc)) [0, 3, 4, 5, 6, 7, 8, 11, 12, 13, 16, 18, 19, 20, 21, 22, 24] (by kernel_rfl) ?_
                have hdr : Below wr.heap.size wr wr.drew := (Below.refl _ _).drew
                have MB := Lib.hid (HKB.out.trans (hdr.mono HKB.out.size))
                replace M2 := Lib.hid (M2.out.call hdr)
                clear hdr HKB
                generalize wr.drew = w2 at *
                refine anyT_takeY (i := 1) (v := .string K) rfl (by kernel_rfl) (by kernel_rfl) (by kernel_rfl) (fun _ _ _ h => h) (by kernel_rfl) (Or.inl ⟨by rfl, by intro w; go_simp⟩) ?_
                try simp only [List.getElem_toArray, List.getElem_cons_succ, List.getElem_cons_zero, Act.put, List.setIfInBounds_toArray, List.set_cons_zero, List.set_cons_succ]
                refine anyT_takeY (i := 2) (v := .pointer (some ⟨w.heap.size + 1, 1, none⟩)) rfl (by kernel_rfl) (by kernel_rfl) (by kernel_rfl) (fun _ _ _ h => h) (by kernel_rfl) (Or.inl ⟨by rfl, by intro w; go_simp⟩) ?_
                try simp only [List.getElem_toArray, List.getElem_cons_succ, List.getElem_cons_zero, Act.put, List.setIfInBounds_toArray, List.set_cons_zero, List.set_cons_succ]
                refine anyT_takeY (i := 9) (v := .string K) rfl (by kernel_rfl) (by kernel_rfl) (by kernel_rfl) (fun _ _ _ h => h) (by kernel_rfl) (Or.inl ⟨by rfl, by intro w; go_simp⟩) ?_
                try simp only [List.getElem_toArray, List.getElem_cons_succ, List.getElem_cons_zero, Act.put, List.setIfInBounds_toArray, List.set_cons_zero, List.set_cons_succ]
                refine anyT_takeY (i := 10) (v := .pointer (some ⟨w.heap.size + 1, 1, none⟩)) rfl (by kernel_rfl) (by kernel_rfl) (by kernel_rfl) (fun _ _ _ h => h) (by kernel_rfl) (Or.inl ⟨by rfl, by intro w; go_simp⟩) ?_
                try simp only [List.getElem_toArray, List.getElem_cons_succ, List.getElem_cons_zero, Act.put, List.setIfInBounds_toArray, List.set_cons_zero, List.set_cons_succ]
                refine anyT_take [6, 7, 13, 14, 15, 16, 17, 18, 19, 20, 21, 22, 23, 24, 25, 26, 27] (i := 0) (v := .agg (rowOf .u8 32 R)) rfl (by kernel_rfl) (by kernel_rfl) (by kernel_rfl) (fun _ _ _ h => h) (by kernel_rfl) (row_yields' (by rfl) 43 (.tmp 3) rfl w.heap.size 0 rfl _ _ (fun _ h => h.1.1) Tryd.underlying43 rfl (by rw [rowOf_size]; kernel_rfl)) M2.out.s ?_
                try simp only [List.getElem_toArray, List.getElem_cons_succ, List.getElem_cons_zero, Act.put, List.setIfInBounds_toArray, List.set_cons_zero, List.set_cons_succ]
                refine anyT_take [6, 7, 13, 14, 15, 16, 17, 18, 19, 20, 21, 22, 23, 24, 25, 26, 27] (i := 3) (v := .string P.val) rfl (by kernel_rfl) (by kernel_rfl) (by kernel_rfl) (fun _ _ _ h => h) (by kernel_rfl) (Or.inl ⟨by rfl, fun w' hS => by have c := hS.2.2.2; go_simp⟩) M2.out.s ?_
                try simp only [List.getElem_toArray, List.getElem_cons_succ, List.getElem_cons_zero, Act.put, List.setIfInBounds_toArray, List.set_cons_zero, List.set_cons_succ]
                refine anyT_take [13, 14, 15, 16, 17, 18, 19, 20, 21, 22, 23, 24, 25, 26, 27] (i := 8) (v := .agg (rowOf .u8 32 R)) rfl (by kernel_rfl) (by kernel_rfl) (by kernel_rfl) (fun _ _ _ h => h) (by kernel_rfl) (row_yields' (by rfl) 43 (.tmp 3) rfl w.heap.size 0 rfl _ _ (fun _ h => h.1.1) Tryd.underlying43 rfl (by rw [rowOf_size]; kernel_rfl)) M2.out.s ?_
                try simp only [List.getElem_toArray, List.getElem_cons_succ, List.getElem_cons_zero, Act.put, List.setIfInBounds_toArray, List.set_cons_zero, List.set_cons_succ]
                refine anyT_take [13, 14, 15, 16, 17, 18, 19, 20, 21, 22, 23, 24, 25, 26, 27] (i := 11) (v := .string P.val) rfl (by kernel_rfl) (by kernel_rfl) (by kernel_rfl) (fun _ _ _ h => h) (by kernel_rfl) (Or.inl ⟨by rfl, fun w' hS => by have c := hS.2.2.2; go_simp⟩) M2.out.s ?_
                try simp only [List.getElem_toArray, List.getElem_cons_succ, List.getElem_cons_zero, Act.put, List.setIfInBounds_toArray, List.set_cons_zero, List.set_cons_succ]
                refine anyT_take [13, 14, 15, 16, 17, 18, 19, 20, 21, 22, 23, 24, 25, 26, 27] (i := 12) (v := .agg (prC P (.slice va P.steps.length vc))) rfl (by kernel_rfl) (by kernel_rfl) (by kernel_rfl) (fun _ _ _ h => h) (by kernel_rfl) (row_yields' (by rfl) 51 (.tmp 4) rfl (w.heap.size + 1) 0 rfl _ _ (fun _ h => h.1.2) Tryd.underlying51 rfl (by kernel_rfl)) M2.out.s ?_
                try simp only [List.getElem_toArray, List.getElem_cons_succ, List.getElem_cons_zero, Act.put, List.setIfInBounds_toArray, List.set_cons_zero, List.set_cons_succ]
                refine anyT_take [5, 6, 7, 13, 14, 15, 16, 17, 18, 19, 20, 21, 22, 23, 24, 25, 26, 27] (i := 4) (v := .agg (prC P (.slice va P.steps.length vc))) rfl (by kernel_rfl) (by kernel_rfl) (by kernel_rfl) (fun _ _ _ h => h) (by kernel_rfl) (row_yields' (by rfl) 51 (.tmp 4) rfl (w.heap.size + 1) 0 rfl _ _ (fun _ h => h.1.2) Tryd.underlying51 rfl (by kernel_rfl)) M2.out.s ?_
                try simp only [List.getElem_toArray, List.getElem_cons_succ, List.getElem_cons_zero, Act.put, List.setIfInBounds_toArray, List.set_cons_zero, List.set_cons_succ]
                refine anyT_one (i := 5) (by kernel_rfl) rfl (fun K hK => ?_)
                rw [if_pos (by rfl)]
                try simp only [List.getElem_toArray, List.getElem_cons_succ, List.getElem_cons_zero]
                (go_simp; (with_reducible refine (HGV.out _ M2.out.st).mono ?_); rintro e w3 ⟨ta, tc, rfl, hown, hb⟩; have HOW := Lib.hid (StIn.of_own hown); replace MB := Lib.hid (MB.out.trans (hb.mono MB.out.size)); replace M2 := Lib.hid (M2.out.call hb); clear hown hb)
                refine hK _ _ (fun _ => M2.out.s) ?_
                clear hK K
                try simp only [List.getElem_toArray, List.getElem_cons_succ, List.getElem_cons_zero, Act.put, List.setIfInBounds_toArray, List.set_cons_zero, List.set_cons_succ]
                refine anyT_one (i := 6) (by kernel_rfl) rfl (fun K hK => ?_)
                rw [if_pos (by rfl)]
                try simp only [List.getElem_toArray, List.getElem_cons_succ, List.getElem_cons_zero]
                (go_simp; (with_reducible refine (HV1.out _ _ (HE.out.below M2.out.below HE.out.lt) HOW.out).mono ?_); rintro e w4 ⟨rfl, hb⟩; replace MB := Lib.hid (MB.out.trans (hb.mono MB.out.size)); replace M2 := Lib.hid (M2.out.call hb); clear hb)
                refine hK _ _ (fun _ => M2.out.s) ?_
                clear hK K
                try simp only [List.getElem_toArray, List.getElem_cons_succ, List.getElem_cons_zero, Act.put, List.setIfInBounds_toArray, List.set_cons_zero, List.set_cons_succ]
                refine anyT_one (i := 7) (by kernel_rfl) rfl (fun K hK => ?_)
                rw [if_pos (by rfl)]
                try simp only [List.getElem_toArray, List.getElem_cons_succ, List.getElem_cons_zero]
                (go_simp; (with_reducible refine (HN1.out _ (HG.out.below M2.out.below)).mono ?_); rintro e w5 ⟨rfl, hb⟩; replace MB := Lib.hid (MB.out.trans (hb.mono MB.out.size)); replace M2 := Lib.hid (M2.out.call hb); clear hb)
                refine hK _ _ (fun _ => M2.out.s) ?_
                clear hK K
                try simp only [List.getElem_toArray, List.getElem_cons_succ, List.getElem_cons_zero, Act.put, List.setIfInBounds_toArray, List.set_cons_zero, List.set_cons_succ]
                refine anyT_one (i := 13) (by kernel_rfl) rfl (fun K hK => ?_)
                rw [if_pos (by rfl)]
                try simp only [List.getElem_toArray, List.getElem_cons_succ, List.getElem_cons_zero]
                (go_simp; (with_reducible refine (HR1.out _ _ (HE.out.below M2.out.below HE.out.lt) M2.out.st).mono ?_); rintro e w6 ⟨rfl, hb⟩; replace MB := Lib.hid (MB.out.trans (hb.mono MB.out.size)); replace M2 := Lib.hid (M2.out.call hb); clear hb)
                refine hK _ _ (fun _ => M2.out.s) ?_
                clear hK K
                try simp only [List.getElem_toArray, List.getElem_cons_succ, List.getElem_cons_zero, Act.put, List.setIfInBounds_toArray, List.set_cons_zero, List.set_cons_succ]
                refine anyT_takeY (i := 14) (v := .bool false) rfl (by kernel_rfl) (by kernel_rfl) (by kernel_rfl) (fun _ _ _ h => h) (by kernel_rfl) (Or.inl ⟨by rfl, by intro w; go_simp⟩) ?_
                try simp only [List.getElem_toArray, List.getElem_cons_succ, List.getElem_cons_zero, Act.put, List.setIfInBounds_toArray, List.set_cons_zero, List.set_cons_succ]
                refine anyT_takeY (i := 15) (v := .bool false) rfl (by kernel_rfl) (by kernel_rfl) (by kernel_rfl) (fun _ _ _ h => h) (by kernel_rfl) (Or.inl ⟨by rfl, by intro w; go_simp⟩) ?_
                try simp only [List.getElem_toArray, List.getElem_cons_succ, List.getElem_cons_zero, Act.put, List.setIfInBounds_toArray, List.set_cons_zero, List.set_cons_succ]
                refine anyT_takeY (i := 17) (v := .string K) rfl (by kernel_rfl) (by kernel_rfl) (by kernel_rfl) (fun _ _ _ h => h) (by kernel_rfl) (Or.inl ⟨by rfl, by intro w; go_simp⟩) ?_
                try simp only [List.getElem_toArray, List.getElem_cons_succ, List.getElem_cons_zero, Act.put, List.setIfInBounds_toArray, List.set_cons_zero, List.set_cons_succ]
                refine anyT_takeY (i := 23) (v := .string K) rfl (by kernel_rfl) (by kernel_rfl) (by kernel_rfl) (fun _ _ _ h => h) (by kernel_rfl) (Or.inl ⟨by rfl, by intro w; go_simp⟩) ?_
                try simp only [List.getElem_toArray, List.getElem_cons_succ, List.getElem_cons_zero, Act.put, List.setIfInBounds_toArray, List.set_cons_zero, List.set_cons_succ]
                refine anyT_take [20, 21, 25, 26, 27] (i := 16) (v := .agg (rowOf .u8 32 R)) rfl (by kernel_rfl) (by kernel_rfl) (by kernel_rfl) (fun _ _ _ h => h) (by kernel_rfl) (row_yields' (by rfl) 43 (.tmp 3) rfl w.heap.size 0 rfl _ _ (fun _ h => h.1.1) Tryd.underlying43 rfl (by rw [rowOf_size]; kernel_rfl)) M2.out.s ?_
                try simp only [List.getElem_toArray, List.getElem_cons_succ, List.getElem_cons_zero, Act.put, List.setIfInBounds_toArray, List.set_cons_zero, List.set_cons_succ]
                refine anyT_take [25, 26, 27] (i := 22) (v := .agg (rowOf .u8 32 R)) rfl (by kernel_rfl) (by kernel_rfl) (by kernel_rfl) (fun _ _ _ h => h) (by kernel_rfl) (row_yields' (by rfl) 43 (.tmp 3) rfl w.heap.size 0 rfl _ _ (fun _ h => h.1.1) Tryd.underlying43 rfl (by rw [rowOf_size]; kernel_rfl)) M2.out.s ?_
                try simp only [List.getElem_toArray, List.getElem_cons_succ, List.getElem_cons_zero, Act.put, List.setIfInBounds_toArray, List.set_cons_zero, List.set_cons_succ]
                refine anyT_take [25, 26, 27] (i := 24) (v := .agg #[.slice (some ⟨ab, ao, none⟩) L.length lc, .slice ra Rt.length rc]) rfl (by kernel_rfl) (by kernel_rfl) (by kernel_rfl) (fun _ _ _ h => h) (by kernel_rfl) (row_yields' (by rfl) 54 (.tmp 5) rfl (w.heap.size + 1 + 1) 0 rfl _ _ (fun _ h => h.2.1) Tryd.underlying54 rfl (by kernel_rfl)) M2.out.s ?_
                try simp only [List.getElem_toArray, List.getElem_cons_succ, List.getElem_cons_zero, Act.put, List.setIfInBounds_toArray, List.set_cons_zero, List.set_cons_succ]
                refine anyT_take [19, 20, 21, 25, 26, 27] (i := 18) (v := .agg #[.slice (some ⟨ab, ao, none⟩) L.length lc, .slice ra Rt.length rc]) rfl (by kernel_rfl) (by kernel_rfl) (by kernel_rfl) (fun _ _ _ h => h) (by kernel_rfl) (row_yields' (by rfl) 54 (.tmp 5) rfl (w.heap.size + 1 + 1) 0 rfl _ _ (fun _ h => h.2.1) Tryd.underlying54 rfl (by kernel_rfl)) M2.out.s ?_
                try simp only [List.getElem_toArray, List.getElem_cons_succ, List.getElem_cons_zero, Act.put, List.setIfInBounds_toArray, List.set_cons_zero, List.set_cons_succ]
                refine anyT_one (i := 19) (by kernel_rfl) rfl (fun K hK => ?_)
                rw [if_pos (by rfl)]
                try simp only [List.getElem_toArray, List.getElem_cons_succ, List.getElem_cons_zero]
                (go_simp; (with_reducible refine (HGS.out _ M2.out.l M2.out.r).mono ?_); rintro e w7 ⟨a1, c1, a2, c2, rfl, hl, hr, hb⟩; have HL := Lib.hid hl; have HR := Lib.hid hr; replace MB := Lib.hid (MB.out.trans (hb.mono MB.out.size)); replace M2 := Lib.hid (M2.out.call hb); clear hl hr hb)
                refine hK _ _ (fun _ => M2.out.s) ?_
                clear hK K
                try simp only [List.getElem_toArray, List.getElem_cons_succ, List.getElem_cons_zero, Act.put, List.setIfInBounds_toArray, List.set_cons_zero, List.set_cons_succ]
                refine anyT_one (i := 20) (by kernel_rfl) rfl (fun K hK => ?_)
                rw [if_pos (by rfl)]
                try simp only [List.getElem_toArray, List.getElem_cons_succ, List.getElem_cons_zero]
                (go_simp; (with_reducible refine (HVN1.out _ _ _ (HE.out.below M2.out.below HE.out.lt) HL.out HR.out).mono ?_); rintro e w8 ⟨rfl, hb⟩; replace MB := Lib.hid (MB.out.trans (hb.mono MB.out.size)); replace M2 := Lib.hid (M2.out.call hb); clear hb)
                refine hK _ _ (fun _ => M2.out.s) ?_
                clear hK K
                try simp only [List.getElem_toArray, List.getElem_cons_succ, List.getElem_cons_zero, Act.put, List.setIfInBounds_toArray, List.set_cons_zero, List.set_cons_succ]
                refine anyT_one (i := 21) (by kernel_rfl) rfl (fun K hK => ?_)
                rw [if_pos (by rfl)]
                try simp only [List.getElem_toArray, List.getElem_cons_succ, List.getElem_cons_zero]
                (go_simp; (with_reducible refine (HN2.out _ (HG.out.below M2.out.below)).mono ?_); rintro e w9 ⟨rfl, hb⟩; replace MB := Lib.hid (MB.out.trans (hb.mono MB.out.size)); replace M2 := Lib.hid (M2.out.call hb); clear hb)
                refine hK _ _ (fun _ => M2.out.s) ?_
                clear hK K
                try simp only [List.getElem_toArray, List.getElem_cons_succ, List.getElem_cons_zero, Act.put, List.setIfInBounds_toArray, List.set_cons_zero, List.set_cons_succ]
                refine anyT_one (i := 25) (by kernel_rfl) rfl (fun K hK => ?_)
                rw [if_pos (by rfl)]
                try simp only [List.getElem_toArray, List.getElem_cons_succ, List.getElem_cons_zero]
                (go_simp; (with_reducible refine (HRN1.out _ _ _ (HE.out.below M2.out.below HE.out.lt) M2.out.l M2.out.r).mono ?_); rintro e w10 ⟨rfl, hb⟩; replace MB := Lib.hid (MB.out.trans (hb.mono MB.out.size)); replace M2 := Lib.hid (M2.out.call hb); clear hb)
                refine hK _ _ (not_mem rfl) ?_
                clear hK K
                try simp only [List.getElem_toArray, List.getElem_cons_succ, List.getElem_cons_zero, Act.put, List.setIfInBounds_toArray, List.set_cons_zero, List.set_cons_succ]
                refine anyT_takeY (i := 26) (v := .bool false) rfl (by kernel_rfl) (by kernel_rfl) (by kernel_rfl) (fun _ _ _ h => h) (by kernel_rfl) (Or.inl ⟨by rfl, by intro w; go_simp⟩) ?_
                try simp only [List.getElem_toArray, List.getElem_cons_succ, List.getElem_cons_zero, Act.put, List.setIfInBounds_toArray, List.set_cons_zero, List.set_cons_succ]
                refine anyT_takeY (i := 27) (v := .bool false) rfl (by kernel_rfl) (by kernel_rfl) (by kernel_rfl) (fun _ _ _ h => h) (by kernel_rfl) (Or.inl ⟨by rfl, by intro w; go_simp⟩) ?_
                try simp only [List.getElem_toArray, List.getElem_cons_succ, List.getElem_cons_zero, Act.put, List.setIfInBounds_toArray, List.set_cons_zero, List.set_cons_succ]
                refine anyT_done (by kernel_rfl) ?_ _
                have M3 := MB
                go_wp2_with (fail)
                go_roundw
                case rel => unfold VlRel; exact ⟨2, by omega, rfl, M3⟩
                case measure => simp [intOf]
              · have hL0I : ¬ (0 : Int) < (L.length : Int) := by omega
                go_upto_region 19 with (fail)
                clear ck cv cs cl cr
                obtain ⟨K, hK⟩ : ∃ K, K = P.key := ⟨_, rfl⟩
                have HV1 := Lib.hid (fun v w he hst => HV.out K P.val v w he hst)
                have HR1 := Lib.hid (fun v w he hst => HRV.out K P.val v w he hst)
                have HVN1 := Lib.hid (fun vl vr w he h1 h2 => HVN.out K vl vr w he h1 h2)
                have HRN1 := Lib.hid (fun vl vr w he h1 h2 => HRN.out K vl vr w he h1 h2)
                obtain ⟨e1, he1⟩ : ∃ e, e = verF R K P.val P := ⟨_, rfl⟩
                obtain ⟨e2, he2⟩ : ∃ e, e = verNF R (sumF []) K L Rt := ⟨_, rfl⟩
                rw [← he1] at HV1 HR1
                rw [← he2] at HVN1 HRN1
                have HN1 := Lib.hid (fun w h => HNU.out e1 w h)
                have HN2 := Lib.hid (fun w h => HNU.out e2 w h)
                obtain ⟨m1, hm1⟩ : ∃ m, m = numE e1 := ⟨_, rfl⟩
                obtain ⟨m2, hm2⟩ : ∃ m, m = numE e2 := ⟨_, rfl⟩
                rw [← hm1] at HN1 HR1
                rw [← hm2] at HN2 HRN1
                try rw [← hK]
                clear hK he1 he2 hm1 hm2
                refine wp_region_T (fun w' => vlS w' w.heap.size R P (.slice va P.steps.length vc) (.slice la L.length lc) (.slice ra Rt.length rc)) [0, 3, 4, 5, 6, 7, 8, 11, 12, 13, 16, 18, 19, 20, 21, 22, 24] (by kernel_rfl) ?_
                have hdr : Below wr.heap.size wr wr.drew := (Below.refl _ _).drew
                have MB := Lib.hid (HKB.out.trans (hdr.mono HKB.out.size))
                replace M2 := Lib.hid (M2.out.call hdr)
                clear hdr HKB
                generalize wr.drew = w2 at *
                refine anyT_takeY (i := 1) (v := .string K) rfl (by kernel_rfl) (by kernel_rfl) (by kernel_rfl) (fun _ _ _ h => h) (by kernel_rfl) (Or.inl ⟨by rfl, by intro w; go_simp⟩) ?_
                try simp only [List.getElem_toArray, List.getElem_cons_succ, List.getElem_cons_zero, Act.put, List.setIfInBounds_toArray, List.set_cons_zero, List.set_cons_succ]
                refine anyT_takeY (i := 2) (v := .pointer (some ⟨w.heap.size + 1, 1, none⟩)) rfl (by kernel_rfl) (by kernel_rfl) (by kernel_rfl) (fun _ _ _ h => h) (by kernel_rfl) (Or.inl ⟨by rfl, by intro w; go_simp⟩) ?_
                try simp only [List.getElem_toArray, List.getElem_cons_succ, List.getElem_cons_zero, Act.put, List.setIfInBounds_toArray, List.set_cons_zero, List.set_cons_succ]
                refine anyT_takeY (i := 9) (v := .string K) rfl (by kernel_rfl) (by kernel_rfl) (by kernel_rfl) (fun _ _ _ h => h) (by kernel_rfl) (Or.inl ⟨by rfl, by intro w; go_simp⟩) ?_
                try simp only [List.getElem_toArray, List.getElem_cons_succ, List.getElem_cons_zero, Act.put, List.setIfInBounds_toArray, List.set_cons_zero, List.set_cons_succ]
                refine anyT_takeY (i := 10) (v := .pointer (some ⟨w.heap.size + 1, 1, none⟩)) rfl (by kernel_rfl) (by kernel_rfl) (by kernel_rfl) (fun _ _ _ h => h) (by kernel_rfl) (Or.inl ⟨by rfl, by intro w; go_simp⟩) ?_
                try simp only [List.getElem_toArray, List.getElem_cons_succ, List.getElem_cons_zero, Act.put, List.setIfInBounds_toArray, List.set_cons_zero, List.set_cons_succ]
                refine anyT_take [6, 7, 13, 14, 15, 16, 17, 18, 19, 20, 21, 22, 23, 24, 25, 26, 27] (i := 0) (v := .agg (rowOf .u8 32 R)) rfl (by kernel_rfl) (by kernel_rfl) (by kernel_rfl) (fun _ _ _ h => h) (by kernel_rfl) (row_yields' (by rfl) 43 (.tmp 3) rfl w.heap.size 0 rfl _ _ (fun _ h => h.1.1) Tryd.underlying43 rfl (by rw [rowOf_size]; kernel_rfl)) M2.out.s ?_
                try simp only [List.getElem_toArray, List.getElem_cons_succ, List.getElem_cons_zero, Act.put, List.setIfInBounds_toArray, List.set_cons_zero, List.set_cons_succ]
                refine anyT_take [6, 7, 13, 14, 15, 16, 17, 18, 19, 20, 21, 22, 23, 24, 25, 26, 27] (i := 3) (v := .string P.val) rfl (by kernel_rfl) (by kernel_rfl) (by kernel_rfl) (fun _ _ _ h => h) (by kernel_rfl) (Or.inl ⟨by rfl, fun w' hS => by have c := hS.2.2.2; go_simp⟩) M2.out.s ?_
                try simp only [List.getElem_toArray, List.getElem_cons_succ, List.getElem_cons_zero, Act.put, List.setIfInBounds_toArray, List.set_cons_zero, List.set_cons_succ]
                refine anyT_take [13, 14, 15, 16, 17, 18, 19, 20, 21, 22, 23, 24, 25, 26, 27] (i := 8) (v := .agg (rowOf .u8 32 R)) rfl (by kernel_rfl) (by kernel_rfl) (by kernel_rfl) (fun _ _ _ h => h) (by kernel_rfl) (row_yields' (by rfl) 43 (.tmp 3) rfl w.heap.size 0 rfl _ _ (fun _ h => h.1.1) Tryd.underlying43 rfl (by rw [rowOf_size]; kernel_rfl)) M2.out.s ?_
                try simp only [List.getElem_toArray, List.getElem_cons_succ, List.getElem_cons_zero, Act.put, List.setIfInBounds_toArray, List.set_cons_zero, List.set_cons_succ]
                refine anyT_take [13, 14, 15, 16, 17, 18, 19, 20, 21, 22, 23, 24, 25, 26, 27] (i := 11) (v := .string P.val) rfl (by kernel_rfl) (by kernel_rfl) (by kernel_rfl) (fun _ _ _ h => h) (by kernel_rfl) (Or.inl ⟨by rfl, fun w' hS => by have c := hS.2.2.2; go_simp⟩) M2.out.s ?_
                try simp only [List.getElem_toArray, List.getElem_cons_succ, List.getElem_cons_zero, Act.put, List.setIfInBounds_toArray, List.set_cons_zero, List.set_cons_succ]
                refine anyT_take [13, 14, 15, 16, 17, 18, 19, 20, 21, 22, 23, 24, 25, 26, 27] (i := 12) (v := .agg (prC P (.slice va P.steps.length vc))) rfl (by kernel_rfl) (by kernel_rfl) (by kernel_rfl) (fun _ _ _ h => h) (by kernel_rfl) (row_yields' (by rfl) 51 (.tmp 4) rfl (w.heap.size + 1) 0 rfl _ _ (fun _ h => h.1.2) Tryd.underlying51 rfl (by kernel_rfl)) M2.out.s ?_
                try simp only [List.getElem_toArray, List.getElem_cons_succ, List.getElem_cons_zero, Act.put, List.setIfInBounds_toArray, List.set_cons_zero, List.set_cons_succ]
                refine anyT_take [5, 6, 7, 13, 14, 15, 16, 17, 18, 19, 20, 21, 22, 23, 24, 25, 26, 27] (i := 4) (v := .agg (prC P (.slice va P.steps.length vc))) rfl (by kernel_rfl) (by kernel_rfl) (by kernel_rfl) (fun _ _ _ h => h) (by kernel_rfl) (row_yields' (by rfl) 51 (.tmp 4) rfl (w.heap.size + 1) 0 rfl _ _ (fun _ h => h.1.2) Tryd.underlying51 rfl (by kernel_rfl)) M2.out.s ?_
                try simp only [List.getElem_toArray, List.getElem_cons_succ, List.getElem_cons_zero, Act.put, List.setIfInBounds_toArray, List.set_cons_zero, List.set_cons_succ]
                refine anyT_one (i := 5) (by kernel_rfl) rfl (fun K hK => ?_)
                rw [if_pos (by rfl)]
                try simp only [List.getElem_toArray, List.getElem_cons_succ, List.getElem_cons_zero]
                (go_simp; (with_reducible refine (HGV.out _ M2.out.st).mono ?_); rintro e w3 ⟨ta, tc, rfl, hown, hb⟩; have HOW := Lib.hid (StIn.of_own hown); replace MB := Lib.hid (MB.out.trans (hb.mono MB.out.size)); replace M2 := Lib.hid (M2.out.call hb); clear hown hb)
                refine hK _ _ (fun _ => M2.out.s) ?_
                clear hK K
                try simp only [List.getElem_toArray, List.getElem_cons_succ, List.getElem_cons_zero, Act.put, List.setIfInBounds_toArray, List.set_cons_zero, List.set_cons_succ]
                refine anyT_one (i := 6) (by kernel_rfl) rfl (fun K hK => ?_)
                rw [if_pos (by rfl)]
                try simp only [List.getElem_toArray, List.getElem_cons_succ, List.getElem_cons_zero]
                (go_simp; (with_reducible refine (HV1.out _ _ (HE.out.below M2.out.below HE.out.lt) HOW.out).mono ?_); rintro e w4 ⟨rfl, hb⟩; replace MB := Lib.hid (MB.out.trans (hb.mono MB.out.size)); replace M2 := Lib.hid (M2.out.call hb); clear hb)
                refine hK _ _ (fun _ => M2.out.s) ?_
                clear hK K
                try simp only [List.getElem_toArray, List.getElem_cons_succ, List.getElem_cons_zero, Act.put, List.setIfInBounds_toArray, List.set_cons_zero, List.set_cons_succ]
                refine anyT_one (i := 7) (by kernel_rfl) rfl (fun K hK => ?_)
                rw [if_pos (by rfl)]
                try simp only [List.getElem_toArray, List.getElem_cons_succ, List.getElem_cons_zero]
                (go_simp; (with_reducible refine (HN1.out _ (HG.out.below M2.out.below)).mono ?_); rintro e w5 ⟨rfl, hb⟩; replace MB := Lib.hid (MB.out.trans (hb.mono MB.out.size)); replace M2 := Lib.hid (M2.out.call hb); clear hb)
                refine hK _ _ (fun _ => M2.out.s) ?_
                clear hK K
                try simp only [List.getElem_toArray, List.getElem_cons_succ, List.getElem_cons_zero, Act.put, List.setIfInBounds_toArray, List.set_cons_zero, List.set_cons_succ]
                refine anyT_one (i := 13) (by kernel_rfl) rfl (fun K hK => ?_)
                rw [if_pos (by rfl)]
                try simp only [List.getElem_toArray, List.getElem_cons_succ, List.getElem_cons_zero]
                (go_simp; (with_reducible refine (HR1.out _ _ (HE.out.below M2.out.below HE.out.lt) M2.out.st).mono ?_); rintro e w6 ⟨rfl, hb⟩; replace MB := Lib.hid (MB.out.trans (hb.mono MB.out.size)); replace M2 := Lib.hid (M2.out.call hb); clear hb)
                refine hK _ _ (fun _ => M2.out.s) ?_
                clear hK K
                try simp only [List.getElem_toArray, List.getElem_cons_succ, List.getElem_cons_zero, Act.put, List.setIfInBounds_toArray, List.set_cons_zero, List.set_cons_succ]
                refine anyT_takeY (i := 14) (v := .bool false) rfl (by kernel_rfl) (by kernel_rfl) (by kernel_rfl) (fun _ _ _ h => h) (by kernel_rfl) (Or.inl ⟨by rfl, by intro w; go_simp⟩) ?_
                try simp only [List.getElem_toArray, List.getElem_cons_succ, List.getElem_cons_zero, Act.put, List.setIfInBounds_toArray, List.set_cons_zero, List.set_cons_succ]
                refine anyT_takeY (i := 15) (v := .bool false) rfl (by kernel_rfl) (by kernel_rfl) (by kernel_rfl) (fun _ _ _ h => h) (by kernel_rfl) (Or.inl ⟨by rfl, by intro w; go_simp⟩) ?_
                try simp only [List.getElem_toArray, List.getElem_cons_succ, List.getElem_cons_zero, Act.put, List.setIfInBounds_toArray, List.set_cons_zero, List.set_cons_succ]
                refine anyT_takeY (i := 17) (v := .string K) rfl (by kernel_rfl) (by kernel_rfl) (by kernel_rfl) (fun _ _ _ h => h) (by kernel_rfl) (Or.inl ⟨by rfl, by intro w; go_simp⟩) ?_
                try simp only [List.getElem_toArray, List.getElem_cons_succ, List.getElem_cons_zero, Act.put, List.setIfInBounds_toArray, List.set_cons_zero, List.set_cons_succ]
                refine anyT_takeY (i := 23) (v := .string K) rfl (by kernel_rfl) (by kernel_rfl) (by kernel_rfl) (fun _ _ _ h => h) (by kernel_rfl) (Or.inl ⟨by rfl, by intro w; go_simp⟩) ?_
                try simp only [List.getElem_toArray, List.getElem_cons_succ, List.getElem_cons_zero, Act.put, List.setIfInBounds_toArray, List.set_cons_zero, List.set_cons_succ]
                refine anyT_take [20, 21, 25, 26, 27] (i := 16) (v := .agg (rowOf .u8 32 R)) rfl (by kernel_rfl) (by kernel_rfl) (by kernel_rfl) (fun _ _ _ h => h) (by kernel_rfl) (row_yields' (by rfl) 43 (.tmp 3) rfl w.heap.size 0 rfl _ _ (fun _ h => h.1.1) Tryd.underlying43 rfl (by rw [rowOf_size]; kernel_rfl)) M2.out.s ?_
                try simp only [List.getElem_toArray, List.getElem_cons_succ, List.getElem_cons_zero, Act.put, List.setIfInBounds_toArray, List.set_cons_zero, List.set_cons_succ]
                refine anyT_take [25, 26, 27] (i := 22) (v := .agg (rowOf .u8 32 R)) rfl (by kernel_rfl) (by kernel_rfl) (by kernel_rfl) (fun _ _ _ h => h) (by kernel_rfl) (row_yields' (by rfl) 43 (.tmp 3) rfl w.heap.size 0 rfl _ _ (fun _ h => h.1.1) Tryd.underlying43 rfl (by rw [rowOf_size]; kernel_rfl)) M2.out.s ?_
                try simp only [List.getElem_toArray, List.getElem_cons_succ, List.getElem_cons_zero, Act.put, List.setIfInBounds_toArray, List.set_cons_zero, List.set_cons_succ]
                refine anyT_take [25, 26, 27] (i := 24) (v := .agg #[.slice la L.length lc, .slice ra Rt.length rc]) rfl (by kernel_rfl) (by kernel_rfl) (by kernel_rfl) (fun _ _ _ h => h) (by kernel_rfl) (row_yields' (by rfl) 54 (.tmp 5) rfl (w.heap.size + 1 + 1) 0 rfl _ _ (fun _ h => h.2.1) Tryd.underlying54 rfl (by kernel_rfl)) M2.out.s ?_
                try simp only [List.getElem_toArray, List.getElem_cons_succ, List.getElem_cons_zero, Act.put, List.setIfInBounds_toArray, List.set_cons_zero, List.set_cons_succ]
                refine anyT_take [19, 20, 21, 25, 26, 27] (i := 18) (v := .agg #[.slice la L.length lc, .slice ra Rt.length rc]) rfl (by kernel_rfl) (by kernel_rfl) (by kernel_rfl) (fun _ _ _ h => h) (by kernel_rfl) (row_yields' (by rfl) 54 (.tmp 5) rfl (w.heap.size + 1 + 1) 0 rfl _ _ (fun _ h => h.2.1) Tryd.underlying54 rfl (by kernel_rfl)) M2.out.s ?_
                try simp only [List.getElem_toArray, List.getElem_cons_succ, List.getElem_cons_zero, Act.put, List.setIfInBounds_toArray, List.set_cons_zero, List.set_cons_succ]
                refine anyT_one (i := 19) (by kernel_rfl) rfl (fun K hK => ?_)
                rw [if_pos (by rfl)]
                try simp only [List.getElem_toArray, List.getElem_cons_succ, List.getElem_cons_zero]
                (go_simp; (with_reducible refine (HGS.out _ M2.out.l M2.out.r).mono ?_); rintro e w7 ⟨a1, c1, a2, c2, rfl, hl, hr, hb⟩; have HL := Lib.hid hl; have HR := Lib.hid hr; replace MB := Lib.hid (MB.out.trans (hb.mono MB.out.size)); replace M2 := Lib.hid (M2.out.call hb); clear hl hr hb)
                refine hK _ _ (fun _ => M2.out.s) ?_
                clear hK K
                try simp only [List.getElem_toArray, List.getElem_cons_succ, List.getElem_cons_zero, Act.put, List.setIfInBounds_toArray, List.set_cons_zero, List.set_cons_succ]
                refine anyT_one (i := 20) (by kernel_rfl) rfl (fun K hK => ?_)
                rw [if_pos (by rfl)]
                try simp only [List.getElem_toArray, List.getElem_cons_succ, List.getElem_cons_zero]
                (go_simp; (with_reducible refine (HVN1.out _ _ _ (HE.out.below M2.out.below HE.out.lt) HL.out HR.out).mono ?_); rintro e w8 ⟨rfl, hb⟩; replace MB := Lib.hid (MB.out.trans (hb.mono MB.out.size)); replace M2 := Lib.hid (M2.out.call hb); clear hb)
                refine hK _ _ (fun _ => M2.out.s) ?_
                clear hK K
                try simp only [List.getElem_toArray, List.getElem_cons_succ, List.getElem_cons_zero, Act.put, List.setIfInBounds_toArray, List.set_cons_zero, List.set_cons_succ]
                refine anyT_one (i := 21) (by kernel_rfl) rfl (fun K hK => ?_)
                rw [if_pos (by rfl)]
                try simp only [List.getElem_toArray, List.getElem_cons_succ, List.getElem_cons_zero]
                (go_simp; (with_reducible refine (HN2.out _ (HG.out.below M2.out.below)).mono ?_); rintro e w9 ⟨rfl, hb⟩; replace MB := Lib.hid (MB.out.trans (hb.mono MB.out.size)); replace M2 := Lib.hid (M2.out.call hb); clear hb)
                refine hK _ _ (fun _ => M2.out.s) ?_
                clear hK K
                try simp only [List.getElem_toArray, List.getElem_cons_succ, List.getElem_cons_zero, Act.put, List.setIfInBounds_toArray, List.set_cons_zero, List.set_cons_succ]
                refine anyT_one (i := 25) (by kernel_rfl) rfl (fun K hK => ?_)
                rw [if_pos (by rfl)]
                try simp only [List.getElem_toArray, List.getElem_cons_succ, List.getElem_cons_zero]
                (go_simp; (with_reducible refine (HRN1.out _ _ _ (HE.out.below M2.out.below HE.out.lt) M2.out.l M2.out.r).mono ?_); rintro e w10 ⟨rfl, hb⟩; replace MB := Lib.hid (MB.out.trans (hb.mono MB.out.size)); replace M2 := Lib.hid (M2.out.call hb); clear hb)
                refine hK _ _ (not_mem rfl) ?_
                clear hK K
                try simp only [List.getElem_toArray, List.getElem_cons_succ, List.getElem_cons_zero, Act.put, List.setIfInBounds_toArray, List.set_cons_zero, List.set_cons_succ]
                refine anyT_takeY (i := 26) (v := .bool false) rfl (by kernel_rfl) (by kernel_rfl) (by kernel_rfl) (fun _ _ _ h => h) (by kernel_rfl) (Or.inl ⟨by rfl, by intro w; go_simp⟩) ?_
                try simp only [List.getElem_toArray, List.getElem_cons_succ, List.getElem_cons_zero, Act.put, List.setIfInBounds_toArray, List.set_cons_zero, List.set_cons_succ]
                refine anyT_takeY (i := 27) (v := .bool false) rfl (by kernel_rfl) (by kernel_rfl) (by kernel_rfl) (fun _ _ _ h => h) (by kernel_rfl) (Or.inl ⟨by rfl, by intro w; go_simp⟩) ?_
                try simp only [List.getElem_toArray, List.getElem_cons_succ, List.getElem_cons_zero, Act.put, List.setIfInBounds_toArray, List.set_cons_zero, List.set_cons_succ]
                refine anyT_done (by kernel_rfl) ?_ _
                have M3 := MB
                go_wp2_with (fail)
                go_roundw
                case rel => unfold VlRel; exact ⟨2, by omega, rfl, M3⟩
                case measure => simp [intOf]
            · go_upto_region 21 with (fail)
              clear ck cv cs cl cr
              have hvb := verF_val (R := R) (key := P.key) (val_bang P.val)
              obtain ⟨VB, hVB⟩ : ∃ V, V = P.val ++ { data := #[33] } := ⟨_, rfl⟩
              rw [← hVB] at hvb
              have HVB := Lib.hid (show P.val ++ { data := #[33] } = VB from hVB.symm)
              have HV23 := Lib.hid (fun v w he hst => verify_ok R P.key VB P (some 23) hvb (by
                have := HPZ.out; omega) v w he hst)
              unfold VeOk at HV23
              simp only [errV] at HV23
              have HN23 := Lib.hid (fun w h => HNU.out (some 23) w h)
              simp only [errV, numE] at HN23
              clear hvb hVB
              refine wp_region_T (fun w' => vlS w' w.heap.size R P (.slice va P.steps.length vc) (.slice la L.length lc) (.slice ra Rt.length rc)) [0, 2, 4, 5, 6, 7, 8] (by kernel_rfl) ?_
              replace M2 := Lib.hid (M2.out.call (Below.refl _ _).drew)
              generalize wr.drew = w2 at *
              refine anyT_takeY (i := 1) (v := .pointer (some ⟨w.heap.size + 1, 0, none⟩)) rfl (by kernel_rfl) (by kernel_rfl) (by kernel_rfl) (fun _ _ _ h => h) (by kernel_rfl) (Or.inl ⟨by rfl, by intro w; go_simp⟩) ?_
              try simp only [List.getElem_toArray, List.getElem_cons_succ, List.getElem_cons_zero, Act.put, List.setIfInBounds_toArray, List.set_cons_zero, List.set_cons_succ]
              refine anyT_takeY (i := 3) (v := .pointer (some ⟨w.heap.size + 1, 1, none⟩)) rfl (by kernel_rfl) (by kernel_rfl) (by kernel_rfl) (fun _ _ _ h => h) (by kernel_rfl) (Or.inl ⟨by rfl, by intro w; go_simp⟩) ?_
              try simp only [List.getElem_toArray, List.getElem_cons_succ, List.getElem_cons_zero, Act.put, List.setIfInBounds_toArray, List.set_cons_zero, List.set_cons_succ]
              refine anyT_take [8, 9, 10, 11, 12, 13, 14] (i := 0) (v := .agg (rowOf .u8 32 R)) rfl (by kernel_rfl) (by kernel_rfl) (by kernel_rfl) (fun _ _ _ h => h) (by kernel_rfl) (row_yields' (by rfl) 43 (.tmp 3) rfl w.heap.size 0 rfl _ _ (fun _ h => h.1.1) Tryd.underlying43 rfl (by rw [rowOf_size]; kernel_rfl)) M2.out.s ?_
              try simp only [List.getElem_toArray, List.getElem_cons_succ, List.getElem_cons_zero, Act.put, List.setIfInBounds_toArray, List.set_cons_zero, List.set_cons_succ]
              refine anyT_take [8, 9, 10, 11, 12, 13, 14] (i := 2) (v := .string P.key) rfl (by kernel_rfl) (by kernel_rfl) (by kernel_rfl) (fun _ _ _ h => h) (by kernel_rfl) (Or.inl ⟨by rfl, fun w' hS => by have c := hS.2.2.1; go_simp⟩) M2.out.s ?_
              try simp only [List.getElem_toArray, List.getElem_cons_succ, List.getElem_cons_zero, Act.put, List.setIfInBounds_toArray, List.set_cons_zero, List.set_cons_succ]
              refine anyT_take [5, 8, 9, 10, 11, 12, 13, 14] (i := 4) (v := .string P.val) rfl (by kernel_rfl) (by kernel_rfl) (by kernel_rfl) (fun _ _ _ h => h) (by kernel_rfl) (Or.inl ⟨by rfl, fun w' hS => by have c := hS.2.2.2; go_simp⟩) M2.out.s ?_
              try simp only [List.getElem_toArray, List.getElem_cons_succ, List.getElem_cons_zero, Act.put, List.setIfInBounds_toArray, List.set_cons_zero, List.set_cons_succ]
              refine anyT_take [8, 9, 10, 11, 12, 13, 14] (i := 5) (v := .string VB) rfl (by kernel_rfl) (by kernel_rfl) (by kernel_rfl) (fun _ _ _ h => h) (by kernel_rfl) (Or.inl ⟨by rfl, fun w' _ => by have hK0 := HVB.out; go_simp⟩) M2.out.s ?_
              try simp only [List.getElem_toArray, List.getElem_cons_succ, List.getElem_cons_zero, Act.put, List.setIfInBounds_toArray, List.set_cons_zero, List.set_cons_succ]
              refine anyT_take [7, 8, 9, 10, 11, 12, 13, 14] (i := 6) (v := .agg (prC P (.slice va P.steps.length vc))) rfl (by kernel_rfl) (by kernel_rfl) (by kernel_rfl) (fun _ _ _ h => h) (by kernel_rfl) (row_yields' (by rfl) 51 (.tmp 4) rfl (w.heap.size + 1) 0 rfl _ _ (fun _ h => h.1.2) Tryd.underlying51 rfl (by kernel_rfl)) M2.out.s ?_
              try simp only [List.getElem_toArray, List.getElem_cons_succ, List.getElem_cons_zero, Act.put, List.setIfInBounds_toArray, List.set_cons_zero, List.set_cons_succ]
              refine anyT_one (i := 7) (by kernel_rfl) rfl (fun K hK => ?_)
              rw [if_pos (by rfl)]
              try simp only [List.getElem_toArray, List.getElem_cons_succ, List.getElem_cons_zero]
              (go_simp; (with_reducible refine (HGV.out _ M2.out.st).mono ?_); rintro e w3 ⟨ta, tc, rfl, hown, hb⟩; have HOW := Lib.hid (StIn.of_own hown); replace M2 := Lib.hid (M2.out.call hb); clear hown hb)
              refine hK _ _ (fun _ => M2.out.s) ?_
              clear hK K
              try simp only [List.getElem_toArray, List.getElem_cons_succ, List.getElem_cons_zero, Act.put, List.setIfInBounds_toArray, List.set_cons_zero, List.set_cons_succ]
              refine anyT_one (i := 8) (by kernel_rfl) rfl (fun K hK => ?_)
              rw [if_pos (by rfl)]
              try simp only [List.getElem_toArray, List.getElem_cons_succ, List.getElem_cons_zero]
              (go_simp; (with_reducible refine (HV23.out _ _ (HE.out.below M2.out.below HE.out.lt) HOW.out).mono ?_); rintro e w4 ⟨rfl, hb⟩; replace M2 := Lib.hid (M2.out.call hb); clear hb)
              refine hK _ _ (fun _ => M2.out.s) ?_
              clear hK K
              try simp only [List.getElem_toArray, List.getElem_cons_succ, List.getElem_cons_zero, Act.put, List.setIfInBounds_toArray, List.set_cons_zero, List.set_cons_succ]
              refine anyT_one (i := 9) (by kernel_rfl) rfl (fun K hK => ?_)
              rw [if_pos (by rfl)]
              try simp only [List.getElem_toArray, List.getElem_cons_succ, List.getElem_cons_zero]
              (go_simp; refine (HN23.out _ (HG.out.below M2.out.below)).mono ?_; rintro e w5 ⟨rfl, hb⟩; replace M2 := Lib.hid (M2.out.call hb); clear hb)
              refine hK _ _ (not_mem rfl) ?_
              clear hK K
              try simp only [List.getElem_toArray, List.getElem_cons_succ, List.getElem_cons_zero, Act.put, List.setIfInBounds_toArray, List.set_cons_zero, List.set_cons_succ]
              refine anyT_takeY (i := 10) (v := .bool true) rfl (by kernel_rfl) (by kernel_rfl) (by kernel_rfl) (fun _ _ _ h => h) (by kernel_rfl) (Or.inl ⟨by rfl, by intro w; go_simp⟩) ?_
              try simp only [List.getElem_toArray, List.getElem_cons_succ, List.getElem_cons_zero, Act.put, List.setIfInBounds_toArray, List.set_cons_zero, List.set_cons_succ]
              refine anyT_takeY (i := 11) (v := .bool true) rfl (by kernel_rfl) (by kernel_rfl) (by kernel_rfl) (fun _ _ _ h => h) (by kernel_rfl) (Or.inl ⟨by rfl, by intro w; go_simp⟩) ?_
              try simp only [List.getElem_toArray, List.getElem_cons_succ, List.getElem_cons_zero, Act.put, List.setIfInBounds_toArray, List.set_cons_zero, List.set_cons_succ]
              refine anyT_one (i := 12) (by kernel_rfl) rfl (fun K hK => ?_)
              rw [if_pos (by rfl)]
              try simp only [List.getElem_toArray, List.getElem_cons_succ, List.getElem_cons_zero]
              (go_simp; (with_reducible refine (HSU.out _ M2.out.below).mono ?_); rintro e w6 ⟨rfl, hb⟩; replace M2 := Lib.hid (M2.out.call hb); clear hb)
              refine hK _ _ (not_mem rfl) ?_
              clear hK K
              try simp only [List.getElem_toArray, List.getElem_cons_succ, List.getElem_cons_zero, Act.put, List.setIfInBounds_toArray, List.set_cons_zero, List.set_cons_succ]
              refine anyT_takeY (i := 13) (v := .bool true) rfl (by kernel_rfl) (by kernel_rfl) (by kernel_rfl) (fun _ _ _ h => h) (by kernel_rfl) (Or.inl ⟨by rfl, by intro w; go_simp⟩) ?_
              try simp only [List.getElem_toArray, List.getElem_cons_succ, List.getElem_cons_zero, Act.put, List.setIfInBounds_toArray, List.set_cons_zero, List.set_cons_succ]
              refine anyT_takeY (i := 14) (v := .bool true) rfl (by kernel_rfl) (by kernel_rfl) (by kernel_rfl) (fun _ _ _ h => h) (by kernel_rfl) (Or.inl ⟨by rfl, by intro w; go_simp⟩) ?_
              try simp only [List.getElem_toArray, List.getElem_cons_succ, List.getElem_cons_zero, Act.put, List.setIfInBounds_toArray, List.set_cons_zero, List.set_cons_succ]
              refine anyT_done (by kernel_rfl) ?_ _
              go_wp2_with (fail)
              go_ret
              exact ⟨rfl, M2.out.below⟩
end Go.Proofs.YtadolfacjolbkaaDoor
