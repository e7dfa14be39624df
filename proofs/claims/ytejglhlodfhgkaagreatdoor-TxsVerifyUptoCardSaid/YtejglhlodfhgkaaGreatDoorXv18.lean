/- Part 18 of the proof. -/
import Derived.Test.YtejglhlodfhgkaaGreatDoorXv17
namespace Go.Proofs.YtejglhlodfhgkaaGreatDoor
set_option linter.unusedVariables false
set_option linter.unusedSimpArgs false
open Go.RowKit
set_option maxRecDepth 100000
set_option linter.unusedSimpArgs false
set_option linter.unusedVariables false
def ChkK (l : List Mg) (k : Nat) : Prop := ∀ i m, i < k → l[i]? = some m → chkM (mgP m) = none
theorem chkMs_first : ∀ (l : List Mg) (k : Nat) (m : Mg) (e : Nat), ChkK l k → l[k]? = some m → chkM (mgP m) = some e → chkMs (l.map mgP) = some e
  | [], k, m, e, _, h, _ => by cases h
  | x :: l, 0, m, e, _, h, he => by
    injection h with h; subst h
    rw [List.map_cons, chkMs, he]
  | x :: l, k + 1, m, e, hk, h, he => by
    rw [List.map_cons, chkMs, hk 0 x (by omega) rfl]
    exact chkMs_first l k m e (fun i y hi hy => hk (i + 1) y (by omega) hy) h he
theorem chkMs_none : ∀ (l : List Mg), ChkK l l.length → chkMs (l.map mgP) = none
  | [], _ => rfl
  | x :: l, hk => by
    rw [List.map_cons, chkMs, hk 0 x (by simp) rfl]
    exact chkMs_none l fun i y hi hy => hk (i + 1) y (by simpa using hi) hy
def MsK (w : World) (mv : Value) (l : List Mg) : Prop := MgIn w mv l ∧ ∀ m ∈ l, MgE w m
theorem MsK.below {w w' : World} {mv : Value} {l : List Mg} (h : MsK w mv l) (hb : Below w.heap.size w w') : MsK w' mv l := ⟨h.1.below hb, fun m hm => (h.2 m hm).below hb⟩
def MsR (w : World) (mv : Value) (l : List Mg) (k : Nat) (wr : World) : Prop := Below w.heap.size w wr ∧ MsK wr mv l ∧ ShTab wr ∧ ChkK l k
set_option maxHeartbeats 8000000 in
theorem tmsgs_any (mv : Value) (l : List Mg) (w : World) (h : ShTab w) (hm : MgIn w mv l) (he : ∀ m ∈ l, MgE w m) : Calls Tryz.prog 60 #[mv] w fun e w' => e = .returned (errV (chkL (l.map mgP))) ∧ Below w.heap.size w w' := by
  obtain ⟨la, lc, rfl, -, hlm⟩ := hm.len
  have HM0 := Lib.hid (show MsR w (.slice la l.length lc) l 0 w from ⟨Below.refl _ _, ⟨hm, he⟩, h, fun i m hi => by omega⟩)
  have HLL := Lib.hid (show chkL (l.map mgP) = if l.length = 0 ∨ 8 < l.length then some 1 else chkMs (l.map mgP) from by unfold chkL; rw [List.length_map])
  obtain ⟨Z, hZ⟩ : ∃ z, z = chkL (l.map mgP) := ⟨_, rfl⟩
  rw [← hZ] at HLL ⊢
  obtain ⟨n, hn⟩ : ∃ z, z = l.length := ⟨_, rfl⟩
  have HN := Lib.hid hn
  rw [← hn] at HM0 HLL hlm ⊢
  have hnI : (n : Int) ≤ 9223372036854775807 := by unfold maxLen at hlm; omega
  clear hZ hn h hm he hlm
  by_cases hz : n = 0
  · have HE := Lib.hid (show Z = some 1 from by rw [HLL.out, if_pos (.inl hz)])
    rw [HE.out]
    subst hz
    clear HE HLL
    go_enter Tryz.func60, Tryz.ntmps60
    go_wp2_with (fail)
    go_ret
    exact ⟨rfl, Below.refl _ _⟩
  by_cases h8 : 8 < n
  · have HE := Lib.hid (show Z = some 1 from by rw [HLL.out, if_pos (.inr h8)])
    rw [HE.out]
    have h8I : (8 : Int) < (n : Int) := by omega
    have hzI : ¬ (n : Int) = 0 := by omega
    clear HE HLL
    go_enter Tryz.func60, Tryz.ntmps60
    go_wp2_with (fail)
    go_ret
    exact ⟨rfl, Below.refl _ _⟩
  have HE := Lib.hid (show Z = chkMs (l.map mgP) from by rw [HLL.out, if_neg (fun h => h.elim hz h8)])
  have h8I : ¬ (8 : Int) < (n : Int) := by omega
  have hzI : ¬ (n : Int) = 0 := by omega
  clear HLL
  go_enter Tryz.func60, Tryz.ntmps60
  go_wp2_with (fail)
  go_loopw [17] (fun x wr => ∃ k : Nat, k ≤ n ∧ x = .int .i64 (k : Int) ∧ Hid (MsR w (.slice la n lc) l k wr)) (fun x _ => n - (intOf x).toNat)
  case atStart => exact ⟨0, Nat.zero_le _, rfl, HM0⟩
  case round =>
    clear HM0
    obtain ⟨k, hkn, rfl, HM⟩ := hrel
    by_cases hlt : k < n
    · have hltI : (k : Int) < (n : Int) := by omega
      obtain ⟨x, hx⟩ : ∃ x, l[k]? = some x := ⟨l[k]'(by have := HN.out; omega), List.getElem?_eq_getElem _⟩
      obtain ⟨ab, ao, rfl, hab, hra⟩ := HM.out.2.1.1.at hx
      have HX := Lib.hid hx
      have HME := Lib.hid (HM.out.2.1.2 x (List.mem_of_getElem? hx))
      obtain ⟨CV, hCV⟩ : ∃ c, c = mgC x := ⟨_, rfl⟩
      have HCV := Lib.hid hCV
      have HCS := Lib.hid (show CV.size = 4 from by rw [hCV]; rfl)
      have HCO := Lib.hid (show CV.all (·.oneCell') = true from by rw [hCV]; exact mgC_one HME.out.v)
      have HRC := Lib.hid (show wr.rangeAt ab (ao + k * 4) CV.toList from by rw [hCV]; exact hra)
      clear hra hx hCV
      obtain ⟨E, hE⟩ : ∃ e, e = chkM (mgP x) := ⟨_, rfl⟩
      have HEE := Lib.hid hE
      have hba := below_alloc wr (.cells CV 113)
      have HCK := Lib.hid (tmsg_any x (wr.alloc (.cells CV 113)) (HM.out.2.2.1.below hba HM.out.2.2.1.lt) (HME.out.below hba))
      rw [← hE, ← HCV.out] at HCK
      have HBA := Lib.hid hba
      clear hE hba
      cases E with
      | none =>
        simp only [errV] at HCK
        go_upto_region 6 with (first
          | (refine wpList_load_rowT (by rfl) 113 (.tmp 19) rfl ab (ao + k * 4) rfl CV _ HRC.out Tryz.underlying113 rfl (by rw [HCS.out]; kernel_rfl) ?_)
          | (refine wpList_store_row rfl 113 (.tmp 4) (.tmp 20) rfl wr.heap.size CV rfl rfl 113 _ (heap_alloc_new _ _) (by rw [HCS.out]; kernel_rfl) (by rw [HCS.out]; rfl) HCO.out ?_; rw [World.setRow_alloc_new]))
        have HQ := Lib.hid (heap_alloc_new wr (.cells CV 113))
        obtain ⟨q, hq⟩ : ∃ q, q = wr.heap.size := ⟨_, rfl⟩
        rw [← hq] at HQ ⊢
        clear hq
        replace HM := Lib.hid (show Below w.heap.size w (wr.alloc (.cells CV 113)) ∧ MsK (wr.alloc (.cells CV 113)) (.slice (some ⟨ab, ao, none⟩) n lc) l ∧ ShTab (wr.alloc (.cells CV 113)) ∧ ChkK l k from ⟨HM.out.1.trans (HBA.out.mono HM.out.1.size), HM.out.2.1.below HBA.out, HM.out.2.2.1.below HBA.out HM.out.2.2.1.lt, HM.out.2.2.2⟩)
        clear HBA HRC HME
        generalize wr.alloc (.cells CV 113) = w3 at *
        go_upto_region 9 with (first
          | (refine wpList_load_rowT (by rfl) 113 (.tmp 4) rfl q 0 rfl CV _ (rowT_range HQ.out) Tryz.underlying113 rfl (by rw [HCS.out]; kernel_rfl) ?_)
          | (go_at_call 130; (with_reducible refine HCK.out.mono ?_); rintro e w4 ⟨rfl, hb⟩; have HB := Lib.hid hb; clear hb))
        have HR := Lib.hid (show MsR w (.slice (some ⟨ab, ao, none⟩) n lc) l (k + 1) w4 from ⟨HM.out.1.trans (HB.out.mono HM.out.1.size), HM.out.2.1.below HB.out, HM.out.2.2.1.below HB.out HM.out.2.2.1.lt, fun i m hi hm => by
          by_cases e : i = k
          · subst e
            have := HX.out.symm.trans hm
            cases this
            exact HEE.out.symm
          · exact HM.out.2.2.2 i m (by omega) hm⟩)
        go_wp2_with (fail)
        go_roundw
        case rel => exact ⟨k + 1, by omega, by go_num, HR⟩
        case measure => simp [intOf]; omega
      | some e1 =>
        have HZ := Lib.hid (show Z = some e1 from by rw [HE.out]; exact chkMs_first l k x e1 HM.out.2.2.2 HX.out HEE.out.symm)
        simp only [errV] at HCK
        go_upto_region 6 with (first
          | (refine wpList_load_rowT (by rfl) 113 (.tmp 19) rfl ab (ao + k * 4) rfl CV _ HRC.out Tryz.underlying113 rfl (by rw [HCS.out]; kernel_rfl) ?_)
          | (refine wpList_store_row rfl 113 (.tmp 4) (.tmp 20) rfl wr.heap.size CV rfl rfl 113 _ (heap_alloc_new _ _) (by rw [HCS.out]; kernel_rfl) (by rw [HCS.out]; rfl) HCO.out ?_; rw [World.setRow_alloc_new]))
        have HQ := Lib.hid (heap_alloc_new wr (.cells CV 113))
        obtain ⟨q, hq⟩ : ∃ q, q = wr.heap.size := ⟨_, rfl⟩
        rw [← hq] at HQ ⊢
        clear hq
        have HB3 := Lib.hid (HM.out.1.trans (HBA.out.mono HM.out.1.size))
        clear HBA HRC HME
        generalize wr.alloc (.cells CV 113) = w3 at *
        go_wp2_with (first
          | (refine wpList_load_rowT (by rfl) 113 (.tmp 4) rfl q 0 rfl CV _ (rowT_range HQ.out) Tryz.underlying113 rfl (by rw [HCS.out]; kernel_rfl) ?_)
          | (go_at_call 130; (with_reducible refine HCK.out.mono ?_); rintro e w4 ⟨rfl, hb⟩; have HB := Lib.hid hb; clear hb))
        go_ret
        exact ⟨by rw [HZ.out]; rfl, HB3.out.trans (HB.out.mono HB3.out.size)⟩
    · obtain rfl : k = n := by omega
      have HZ := Lib.hid (show Z = none from by rw [HE.out]; exact chkMs_none l (by rw [← HN.out]; exact HM.out.2.2.2))
      go_wp2_with (fail)
      go_ret
      exact ⟨by rw [HZ.out]; rfl, HM.out.1⟩
set_option maxHeartbeats 4000000 in
theorem tfee_any (d : ByteArray) (a : Int) (w : World) (hd : d.size ≤ 140737488351232) : Calls Tryz.prog 59 #[.agg #[.string d, .int .i64 a]] w fun e w' => e = .returned (errV (chkF d a)) ∧ Below w.heap.size w w' := by
  have HB := Lib.hid (below_alloc w (.cells #[.string d, .int .i64 a] 23))
  have HQ := Lib.hid (heap_alloc_new w (.cells #[.string d, .int .i64 a] 23))
  have HC := Lib.hid (fun w => ccheck_any d w hd)
  obtain ⟨R, hR⟩ : ∃ r, r = chkF d a := ⟨_, rfl⟩
  rw [← hR]
  unfold chkF at hR
  obtain ⟨E, hE⟩ : ∃ e, e = chkD d := ⟨_, rfl⟩
  rw [← hE] at HC hR
  clear hE hd
  have hh : (∃ x, E = some x) ∨ (E = none ∧ a < 0) ∨ (E = none ∧ ¬ a < 0 ∧ 1152921504606846976 < a) ∨ (E = none ∧ ¬ a < 0 ∧ ¬ 1152921504606846976 < a) := by
    cases E with
    | some x => exact .inl ⟨x, rfl⟩
    | none =>
      by_cases h1 : a < 0
      · exact .inr (.inl ⟨rfl, h1⟩)
      · by_cases h2 : 1152921504606846976 < a
        · exact .inr (.inr (.inl ⟨rfl, h1, h2⟩))
        · exact .inr (.inr (.inr ⟨rfl, h1, h2⟩))
  rcases hh with ⟨x, rfl⟩ | ⟨rfl, h1⟩ | ⟨rfl, h1, h2⟩ | ⟨rfl, h1, h2⟩
  · have hR2 : R = some x := hR
    subst hR2
    clear hR
    simp only [errV] at HC ⊢
    go_enter Tryz.func59, Tryz.ntmps59
    go_upto_region 1 with (fail)
    generalize w.alloc (.cells #[.string d, .int .i64 a] 23) = w1 at *
    have c0 := cell_of_row w1 w.heap.size 0 _ _ _ HQ.out
    simp only [List.getElem?_toArray, List.getElem?_cons_zero] at c0
    go_wp2_with (go_at_call 129; (with_reducible refine (HC.out _).mono ?_); rintro e w2 ⟨rfl, hb⟩; have HB2 := Lib.hid (HB.out.trans (hb.mono HB.out.size)); clear hb)
    go_ret
    exact ⟨rfl, HB2.out⟩
  · have hR2 : R = some 44 := hR.trans (if_pos (.inl h1))
    subst hR2
    clear hR
    simp only [errV] at HC ⊢
    go_enter Tryz.func59, Tryz.ntmps59
    go_upto_region 1 with (fail)
    generalize w.alloc (.cells #[.string d, .int .i64 a] 23) = w1 at *
    have c0 := cell_of_row w1 w.heap.size 0 _ _ _ HQ.out
    simp only [List.getElem?_toArray, List.getElem?_cons_zero] at c0
    go_upto_region 4 with (go_at_call 129; (with_reducible refine (HC.out _).mono ?_); rintro e w2 ⟨rfl, hb⟩; have HB2 := Lib.hid (HB.out.trans (hb.mono HB.out.size)); replace HQ := Lib.hid ((hb.block w.heap.size (bkT_lt HQ.out)).trans HQ.out); clear hb)
    clear c0
    have c1 := cell_of_row w2 w.heap.size 1 _ _ _ HQ.out
    simp only [List.getElem?_toArray, List.getElem?_cons_zero, List.getElem?_cons_succ] at c1
    go_wp2_with (fail)
    go_ret
    exact ⟨rfl, HB2.out⟩
  · have hR2 : R = some 44 := hR.trans (if_pos (.inr h2))
    subst hR2
    clear hR
    simp only [errV] at HC ⊢
    go_enter Tryz.func59, Tryz.ntmps59
    go_upto_region 1 with (fail)
    generalize w.alloc (.cells #[.string d, .int .i64 a] 23) = w1 at *
    have c0 := cell_of_row w1 w.heap.size 0 _ _ _ HQ.out
    simp only [List.getElem?_toArray, List.getElem?_cons_zero] at c0
    go_upto_region 4 with (go_at_call 129; (with_reducible refine (HC.out _).mono ?_); rintro e w2 ⟨rfl, hb⟩; have HB2 := Lib.hid (HB.out.trans (hb.mono HB.out.size)); replace HQ := Lib.hid ((hb.block w.heap.size (bkT_lt HQ.out)).trans HQ.out); clear hb)
    clear c0
    have c1 := cell_of_row w2 w.heap.size 1 _ _ _ HQ.out
    simp only [List.getElem?_toArray, List.getElem?_cons_zero, List.getElem?_cons_succ] at c1
    go_wp2_with (fail)
    go_ret
    exact ⟨rfl, HB2.out⟩
  · have hR2 : R = none := hR.trans (if_neg (fun h => h.elim h1 h2))
    subst hR2
    clear hR
    simp only [errV] at HC ⊢
    go_enter Tryz.func59, Tryz.ntmps59
    go_upto_region 1 with (fail)
    generalize w.alloc (.cells #[.string d, .int .i64 a] 23) = w1 at *
    have c0 := cell_of_row w1 w.heap.size 0 _ _ _ HQ.out
    simp only [List.getElem?_toArray, List.getElem?_cons_zero] at c0
    go_upto_region 4 with (go_at_call 129; (with_reducible refine (HC.out _).mono ?_); rintro e w2 ⟨rfl, hb⟩; have HB2 := Lib.hid (HB.out.trans (hb.mono HB.out.size)); replace HQ := Lib.hid ((hb.block w.heap.size (bkT_lt HQ.out)).trans HQ.out); clear hb)
    clear c0
    have c1 := cell_of_row w2 w.heap.size 1 _ _ _ HQ.out
    simp only [List.getElem?_toArray, List.getElem?_cons_zero, List.getElem?_cons_succ] at c1
    go_wp2_with (fail)
    go_ret
    exact ⟨rfl, HB2.out⟩
end Go.Proofs.YtejglhlodfhgkaaGreatDoor
