/- Part 29 of the proof. -/
import Derived.Test.YtfmfemmknccfmaaDoorPa28
namespace Go.Proofs.YtfmfemmknccfmaaDoor
set_option linter.unusedVariables false
set_option linter.unusedSimpArgs false
open Go.RowKit
set_option maxRecDepth 100000
set_option linter.unusedSimpArgs false
set_option linter.unusedVariables false
/-- one proof lies here -/
def PrAt (w : World) (b o : Nat) (p : PvP) : Prop := ∃ sv, w.rangeAt b o [.string p.key, .string p.val, sv] ∧ StIn w sv p.steps
/-- proofs that lie anywhere -/
def PrsIn (w : World) (v : Value) (ps : List PvP) : Prop :=
  ∃ a cap, v = .slice a ps.length cap ∧ ps.length ≤ maxLen ∧ (ps = [] ∨ ∃ b off, a = some ⟨b, off, none⟩ ∧ b < w.heap.size ∧ ∀ i p, ps[i]? = some p → PrAt w b (off + i * 3) p)
theorem PrAt.below {w w' : World} {b o : Nat} {p : PvP} (h : PrAt w b o p) (hb : Below w.heap.size w w') : PrAt w' b o p := by
  obtain ⟨sv, h1, h2⟩ := h
  exact ⟨sv, fun j v hv => (hb.cell (p := ⟨b, o + j, none⟩) (World.block_lt_of_cell? w _ (h1 j v hv))).trans (h1 j v hv), h2.below hb⟩
theorem PrsIn.below {w w' : World} {v : Value} {ps : List PvP} (h : PrsIn w v ps) (hb : Below w.heap.size w w') : PrsIn w' v ps := by
  obtain ⟨a, cap, rfl, hm, h⟩ := h
  exact ⟨a, cap, rfl, hm, h.imp id fun ⟨b, off, e, hl, hh⟩ => ⟨b, off, e, Nat.lt_of_lt_of_le hl hb.size, fun i p hi => (hh i p hi).below hb⟩⟩
theorem PrsIn.at {w : World} {a : Option Addr} {n c : Nat} {ps : List PvP} (h : PrsIn w (.slice a n c) ps) {i : Nat} {p : PvP} (hi : ps[i]? = some p) : ∃ b off, a = some ⟨b, off, none⟩ ∧ PrAt w b (off + i * 3) p := by
  obtain ⟨a', cap, e, _, h⟩ := h
  injection e with e1 _ _
  subst e1
  rcases h with rfl | ⟨b, off, e, _, hh⟩
  · cases hi
  · exact ⟨b, off, e, hh i p hi⟩
theorem PrsIn.len {w : World} {v : Value} {ps : List PvP} (h : PrsIn w v ps) : ∃ a c, v = .slice a ps.length c ∧ ps.length ≤ maxLen := by
  obtain ⟨a, c, e, hm, _⟩ := h
  exact ⟨a, c, e, hm⟩
/-- no proof of the left is at or above the key, none of the right at or below -/
def betF (key : ByteArray) (L R : List PvP) : Bool := L.all (fun p => Op.bytesLess p.key.toList key.toList) && R.all (fun p => !(Op.bytesLess p.key.toList key.toList || p.key.toList == key.toList))
theorem prC_one (p : PvP) (a : Option Addr) (n c : Nat) : (prC p (.slice a n c)).all (·.oneCell') = true := by simp [prC, Value.oneCell']
set_option maxHeartbeats 4000000 in
theorem between_any (key : ByteArray) (vl vr : Value) (L R : List PvP) (w : World) (hl : PrsIn w vl L) (hr : PrsIn w vr R) :
    Calls Tryd.prog 61 #[.string key, .agg #[vl, vr]] w fun e w' => e = .returned (.bool (betF key L R)) ∧ Below w.heap.size w w' := by
  obtain ⟨la, lc, rfl, hlm⟩ := hl.len
  obtain ⟨ra, rc, rfl, hrm⟩ := hr.len
  have HL := Lib.hid hl
  have HR := Lib.hid hr
  have hlI : (L.length : Int) ≤ 9223372036854775807 := by unfold maxLen at hlm; omega
  have hrI : (R.length : Int) ≤ 9223372036854775807 := by unfold maxLen at hrm; omega
  clear hl hr hlm hrm
  obtain ⟨B, hB⟩ : ∃ B, B = betF key L R := ⟨_, rfl⟩
  rw [← hB]
  have HBE := Lib.hid hB
  clear hB
  go_enter Tryd.func61, Tryd.ntmps61
  go_upto_region 1 with (fail)
  have c0 : (w.alloc (.cells #[.slice la L.length lc, .slice ra R.length rc] 62)).cell? ⟨w.heap.size, 0, none⟩ = some (.slice la L.length lc) := cell_of_row _ _ 0 _ _ _ (heap_alloc_new w _)
  have H3 := Lib.hid (heap_alloc_new w (.cells #[.slice la L.length lc, .slice ra R.length rc] 62))
  have HB0 := Lib.hid (below_alloc w (.cells #[.slice la L.length lc, .slice ra R.length rc] 62))
  generalize w.alloc (.cells #[.slice la L.length lc, .slice ra R.length rc] 62) = w1 at *
  obtain ⟨q, hq⟩ : ∃ q, q = w.heap.size := ⟨_, rfl⟩
  rw [← hq] at c0 H3 ⊢
  clear hq
  have d0 : w1.cell? ⟨q, 1, none⟩ = some (.slice ra R.length rc) := cell_of_row _ _ 1 _ _ _ H3.out
  have HW1 := Lib.hid (Below.refl w1.heap.size w1)
  have HQ1 := Lib.hid (bk_lt H3.out)
  replace HL := Lib.hid (HL.out.below HB0.out)
  replace HR := Lib.hid (HR.out.below HB0.out)
  go_wp2_with (fail)
  clear c0 d0
  go_loopw [12] (fun x wr => ∃ k : Nat, k ≤ L.length ∧ x = .int .i64 (k : Int) ∧ Hid ((L.take k).all (fun p => Op.bytesLess p.key.toList key.toList) = true) ∧ Hid (Below w1.heap.size w1 wr)) (fun x _ => L.length - (intOf x).toNat)
  case atStart => exact ⟨0, Nat.zero_le _, rfl, Lib.hid rfl, HW1⟩
  case round =>
    clear HW1
    obtain ⟨k, hkl, rfl, HK, HW1⟩ := hrel
    by_cases hlt : k < L.length
    · obtain ⟨p, hp⟩ : ∃ p, L[k]? = some p := ⟨_, List.getElem?_eq_getElem hlt⟩
      obtain ⟨b, off, rfl, hpa⟩ := HL.out.at hp
      obtain ⟨sv, hrg, hst⟩ := hpa.below HW1.out
      obtain ⟨sa, sc, rfl⟩ := hst.len
      have HRG := Lib.hid hrg
      have HP := Lib.hid hp
      have hltI : (k : Int) < (L.length : Int) := by omega
      clear hp hpa hrg hst
      cases hb : Op.bytesLess p.key.toList key.toList with
      | true =>
        go_wp2_with (first
          | (refine wpList_load_rowsz (by rfl) 52 (.tmp 14) rfl b (off + k * 3) rfl (prC p (.slice sa p.steps.length sc)) _ HRG.out Tryd.underlying52 rfl (by kernel_rfl) ?_)
          | (refine wpList_store_row rfl 52 (.tmp 6) (.tmp 15) rfl wr.heap.size (prC p (.slice sa p.steps.length sc)) rfl rfl 52 _ (heap_alloc_new _ _) (by kernel_rfl) rfl (prC_one _ _ _ _) ?_; rw [World.setRow_alloc_new]; have k0 : (wr.alloc (.cells (prC p (.slice sa p.steps.length sc)) 52)).cell? ⟨wr.heap.size, 0, none⟩ = some (.string p.key) := cell_of_row _ _ 0 _ _ _ (heap_alloc_new wr _)))
        go_roundw
        case rel => exact ⟨k + 1, by omega, by go_num, Lib.hid (by rw [List.take_add_one, HP.out]; simp [HK.out, hb]), Lib.hid (HW1.out.trans ((below_alloc wr _).mono HW1.out.size))⟩
        case measure => simp [intOf]; omega
      | false =>
        have HF := Lib.hid (show B = false from by rw [HBE.out]; unfold betF; rw [Bool.and_eq_false_iff]; left; rw [List.all_eq_false]; exact ⟨p, List.mem_of_getElem? HP.out, by rw [hb]; simp⟩)
        go_wp2_with (first
          | (refine wpList_load_rowsz (by rfl) 52 (.tmp 14) rfl b (off + k * 3) rfl (prC p (.slice sa p.steps.length sc)) _ HRG.out Tryd.underlying52 rfl (by kernel_rfl) ?_)
          | (refine wpList_store_row rfl 52 (.tmp 6) (.tmp 15) rfl wr.heap.size (prC p (.slice sa p.steps.length sc)) rfl rfl 52 _ (heap_alloc_new _ _) (by kernel_rfl) rfl (prC_one _ _ _ _) ?_; rw [World.setRow_alloc_new]; have k0 : (wr.alloc (.cells (prC p (.slice sa p.steps.length sc)) 52)).cell? ⟨wr.heap.size, 0, none⟩ = some (.string p.key) := cell_of_row _ _ 0 _ _ _ (heap_alloc_new wr _)))
        go_ret
        exact ⟨by rw [HF.out]; rfl, (HB0.out.trans (HW1.out.mono HB0.out.size)).trans ((below_alloc wr _).mono (Nat.le_trans HB0.out.size HW1.out.size))⟩
    · obtain rfl : k = L.length := by omega
      rw [List.take_length] at HK
      have d0 : wr.cell? ⟨q, 1, none⟩ = some (.slice ra R.length rc) := by rw [cell_of_row _ _ 1 _ _ _ ((HW1.out.block _ HQ1.out).trans H3.out)]; rfl
      have HB1 := Lib.hid (HB0.out.trans (HW1.out.mono HB0.out.size))
      have HR1 := Lib.hid (HR.out.below HW1.out)
      have HS1 := Lib.hid (show w.heap.size ≤ wr.heap.size from Nat.le_trans HB0.out.size HW1.out.size)
      clear hlt hkl HL HR HW1 H3 HB0
      generalize wr = w2 at *
      have HW2 := Lib.hid (Below.refl w2.heap.size w2)
      go_wp2_with (fail)
      clear d0
      go_loopw [24] (fun x wr => ∃ k : Nat, k ≤ R.length ∧ x = .int .i64 (k : Int) ∧ Hid ((R.take k).all (fun p => !(Op.bytesLess p.key.toList key.toList || p.key.toList == key.toList)) = true) ∧ Hid (Below w2.heap.size w2 wr)) (fun x _ => R.length - (intOf x).toNat)
      case atStart => exact ⟨0, Nat.zero_le _, rfl, Lib.hid rfl, HW2⟩
      case round =>
        clear HW2
        obtain ⟨k, hkl, rfl, HK2, HW2⟩ := hrel
        by_cases hlt : k < R.length
        · obtain ⟨p, hp⟩ : ∃ p, R[k]? = some p := ⟨_, List.getElem?_eq_getElem hlt⟩
          obtain ⟨b, off, rfl, hpa⟩ := HR1.out.at hp
          obtain ⟨sv, hrg, hst⟩ := hpa.below HW2.out
          obtain ⟨sa, sc, rfl⟩ := hst.len
          have HRG := Lib.hid hrg
          have HP := Lib.hid hp
          have hltI : (k : Int) < (R.length : Int) := by omega
          clear hp hpa hrg hst
          cases hb : (Op.bytesLess p.key.toList key.toList || p.key.toList == key.toList) with
          | false =>
            go_wp2_with (first
              | (refine wpList_load_rowsz (by rfl) 52 (.tmp 26) rfl b (off + k * 3) rfl (prC p (.slice sa p.steps.length sc)) _ HRG.out Tryd.underlying52 rfl (by kernel_rfl) ?_)
              | (refine wpList_store_row rfl 52 (.tmp 8) (.tmp 27) rfl wr.heap.size (prC p (.slice sa p.steps.length sc)) rfl rfl 52 _ (heap_alloc_new _ _) (by kernel_rfl) rfl (prC_one _ _ _ _) ?_; rw [World.setRow_alloc_new]; have k0 : (wr.alloc (.cells (prC p (.slice sa p.steps.length sc)) 52)).cell? ⟨wr.heap.size, 0, none⟩ = some (.string p.key) := cell_of_row _ _ 0 _ _ _ (heap_alloc_new wr _)))
            go_roundw
            case rel => exact ⟨k + 1, by omega, by go_num, Lib.hid (by rw [List.take_add_one, HP.out, List.all_append, HK2.out]; simp only [Option.toList_some, List.all_cons, List.all_nil, hb]; rfl), Lib.hid (HW2.out.trans ((below_alloc wr _).mono HW2.out.size))⟩
            case measure => simp [intOf]; omega
          | true =>
            have HF := Lib.hid (show B = false from by rw [HBE.out]; unfold betF; rw [Bool.and_eq_false_iff]; right; rw [List.all_eq_false]; exact ⟨p, List.mem_of_getElem? HP.out, by rw [hb]; simp⟩)
            go_wp2_with (first
              | (refine wpList_load_rowsz (by rfl) 52 (.tmp 26) rfl b (off + k * 3) rfl (prC p (.slice sa p.steps.length sc)) _ HRG.out Tryd.underlying52 rfl (by kernel_rfl) ?_)
              | (refine wpList_store_row rfl 52 (.tmp 8) (.tmp 27) rfl wr.heap.size (prC p (.slice sa p.steps.length sc)) rfl rfl 52 _ (heap_alloc_new _ _) (by kernel_rfl) rfl (prC_one _ _ _ _) ?_; rw [World.setRow_alloc_new]; have k0 : (wr.alloc (.cells (prC p (.slice sa p.steps.length sc)) 52)).cell? ⟨wr.heap.size, 0, none⟩ = some (.string p.key) := cell_of_row _ _ 0 _ _ _ (heap_alloc_new wr _)))
            go_ret
            exact ⟨by rw [HF.out]; rfl, (HB1.out.trans (HW2.out.mono HS1.out)).trans ((below_alloc wr _).mono (Nat.le_trans HS1.out HW2.out.size))⟩
        · obtain rfl : k = R.length := by omega
          rw [List.take_length] at HK2
          have HF := Lib.hid (show B = true from by rw [HBE.out]; unfold betF; rw [HK.out, HK2.out]; rfl)
          clear hlt hkl
          go_wp2_with (fail)
          go_ret
          exact ⟨by rw [HF.out]; rfl, HB1.out.trans (HW2.out.mono HS1.out)⟩
end Go.Proofs.YtfmfemmknccfmaaDoor
