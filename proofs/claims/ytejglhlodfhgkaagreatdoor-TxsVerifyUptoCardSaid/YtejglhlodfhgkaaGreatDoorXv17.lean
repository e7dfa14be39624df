/- Part 17 of the proof. -/
import Derived.Test.YtejglhlodfhgkaaGreatDoorXv14
namespace Go.Proofs.YtejglhlodfhgkaaGreatDoor
set_option linter.unusedVariables false
set_option linter.unusedSimpArgs false
open Go.RowKit
set_option maxRecDepth 100000
set_option linter.unusedSimpArgs false
set_option linter.unusedVariables false
theorem mg_cells {w : World} {q : Nat} {k : Int} {tv iv dv : Value} {T : TypeId} (h : w.heap[q]? = some (.cells #[.int .i64 k, tv, iv, dv] T (0, 0))) : w.cell? ⟨q, 0, none⟩ = some (.int .i64 k) ∧ w.cell? ⟨q, 1, none⟩ = some tv ∧ w.cell? ⟨q, 2, none⟩ = some iv ∧ w.cell? ⟨q, 3, none⟩ = some dv := by
  refine ⟨?_, ?_, ?_, ?_⟩ <;> (rw [cell_of_row _ _ _ _ _ _ h]; rfl)
def ShtS (l : List ByteArray) (k : Nat) : Prop := ∀ i s, i < k → l[i]? = some s → s.size ≤ 256
def ShtD (l : List Tb) (k : Nat) : Prop := ∀ i t, i < k → l[i]? = some t → t.bs.length ≤ 16384
theorem chk_form15 {m : Pm} (h : formM m = false) : chkM m = some 1 := by unfold chkM; rw [h]; rfl
theorem chk_long15 {m : Pm} (h : formM m = true) (hl : longM m = false) : chkM m = some 2 := by unfold chkM; rw [h, hl]; rfl
theorem chk_ok15 {m : Pm} (h : formM m = true) (hl : longM m = true) : chkM m = none := by unfold chkM; rw [h, hl]; rfl
theorem long_s {m : Mg} {k : Nat} {s : ByteArray} (h : m.ts[k]? = some s) (hs : 256 < s.size) : longM (mgP m) = false := by
  unfold longM mgP
  simp only
  rw [show (m.ts.all fun s => decide (s.size ≤ 256)) = false from List.all_eq_false.2 ⟨s, List.mem_of_getElem? h, by simp; omega⟩]; rfl
theorem long_d {m : Mg} {k : Nat} {t : Tb} (h : m.ds[k]? = some t) (hs : 16384 < t.bs.length) : longM (mgP m) = false := by
  unfold longM mgP
  simp only
  rw [show ((m.ds.map Tb.bs).all fun b => decide (b.length ≤ 16384)) = false from List.all_eq_false.2 ⟨t.bs, List.mem_map.2 ⟨t, List.mem_of_getElem? h, rfl⟩, by simp; omega⟩, Bool.and_false]
theorem long_ok {m : Mg} (h1 : ShtS m.ts m.ts.length) (h2 : ShtD m.ds m.ds.length) : longM (mgP m) = true := by
  unfold longM mgP
  simp only
  rw [Bool.and_eq_true, List.all_eq_true, List.all_eq_true]
  refine ⟨fun s hs => ?_, fun b hb => ?_⟩
  · obtain ⟨i, hi, e⟩ := List.getElem_of_mem hs
    exact decide_eq_true (h1 i s hi (by rw [← e]; exact List.getElem?_eq_getElem _))
  · obtain ⟨t, ht, rfl⟩ := List.mem_map.1 hb
    obtain ⟨i, hi, e⟩ := List.getElem_of_mem ht
    exact decide_eq_true (h2 i t hi (by rw [← e]; exact List.getElem?_eq_getElem _))
set_option maxHeartbeats 8000000 in
theorem tmsg_any (m : Mg) (w : World) (h : ShTab w) (hm : MgE w m) : Calls Tryz.prog 130 #[.agg (mgC m)] w fun e w' => e = .returned (errV (chkM (mgP m))) ∧ Below w.heap.size w w' := by
  obtain ⟨⟨a1, c1, e1⟩, ⟨a2, c2, e2⟩, ⟨a3, c3, e3⟩⟩ := hm.v
  have HLO := Lib.hid (fun k s (h : m.ts[k]? = some s) => long_s (m := m) h)
  have HLD := Lib.hid (fun k t (h : m.ds[k]? = some t) => long_d (m := m) h)
  have HOK := Lib.hid (long_ok (m := m))
  have HT := Lib.hid hm.t
  have HD := Lib.hid hm.d
  have HDB := Lib.hid hm.b
  have HF := Lib.hid (show formM (mgP m) = (kindB m.kind && (decide (m.ts.length = (shp m.kind).1) && (decide (m.is.length = (shp m.kind).2.1) && decide (m.ds.length = (shp m.kind).2.2)))) from by unfold formM mgP; simp only [List.length_map])
  have hmt := hm.t.len_le
  have hmd := hm.d.len_le
  have HCE := Lib.hid (show mgC m = #[.int .i64 m.kind, .slice a1 m.ts.length c1, .slice a2 m.is.length c2, .slice a3 m.ds.length c3] from by unfold mgC; rw [e1, e2, e3])
  rw [HCE.out]
  rw [e1] at HT
  rw [e3] at HD
  have HSH := Lib.hid (fun w h => tshape_any m.kind w h)
  have HK := Lib.hid (fun w => tkind_any m.kind w)
  unfold shV at HSH
  obtain ⟨Z, hZ⟩ : ∃ z, z = chkM (mgP m) := ⟨_, rfl⟩
  have HZ := Lib.hid hZ
  rw [← hZ]
  obtain ⟨K, hK⟩ : ∃ z, z = m.kind := ⟨_, rfl⟩
  obtain ⟨KB, hKB⟩ : ∃ z, z = kindB m.kind := ⟨_, rfl⟩
  obtain ⟨n1, hn1⟩ : ∃ z, z = m.ts.length := ⟨_, rfl⟩
  obtain ⟨n2, hn2⟩ : ∃ z, z = m.is.length := ⟨_, rfl⟩
  obtain ⟨n3, hn3⟩ : ∃ z, z = m.ds.length := ⟨_, rfl⟩
  obtain ⟨S1, hS1⟩ : ∃ z, z = (shp m.kind).1 := ⟨_, rfl⟩
  obtain ⟨S2, hS2⟩ : ∃ z, z = (shp m.kind).2.1 := ⟨_, rfl⟩
  obtain ⟨S3, hS3⟩ : ∃ z, z = (shp m.kind).2.2 := ⟨_, rfl⟩
  rw [← hS1, ← hS2, ← hS3, ← hKB, ← hn1, ← hn2, ← hn3] at HF
  rw [← hS1, ← hS2, ← hS3, ← hK] at HSH
  rw [← hKB, ← hK] at HK
  rw [← hn1] at HT hmt
  rw [← hn3] at HD hmd
  rw [← hn1, ← hn2, ← hn3, ← hK]
  have HN := Lib.hid (show n1 = m.ts.length ∧ n3 = m.ds.length from ⟨hn1, hn3⟩)
  have hn1I : (n1 : Int) ≤ 9223372036854775807 := by unfold maxLen at hmt; omega
  have hn3I : (n3 : Int) ≤ 9223372036854775807 := by unfold maxLen at hmd; omega
  have HTAB := Lib.hid (h.below (below_alloc w (.cells #[.int .i64 K, .slice a1 n1 c1, .slice a2 n2 c2, .slice a3 n3 c3] 113)) h.lt)
  have hb := below_alloc w (.cells #[.int .i64 K, .slice a1 n1 c1, .slice a2 n2 c2, .slice a3 n3 c3] 113)
  have HQ := Lib.hid (heap_alloc_new w (.cells #[.int .i64 K, .slice a1 n1 c1, .slice a2 n2 c2, .slice a3 n3 c3] 113))
  replace HT := Lib.hid (HT.out.below hb)
  replace HD := Lib.hid (HD.out.below hb)
  replace HDB := Lib.hid (fun t ht => (HDB.out t ht).below hb)
  have HB := Lib.hid hb
  clear hZ hK hKB hn1 hn2 hn3 hS1 hS2 hS3 hm e1 e2 e3 h hmt hmd hb HCE
  by_cases hg : KB = true ∧ n1 = S1 ∧ n2 = S2 ∧ n3 = S3
  · obtain ⟨rfl, rfl, rfl, rfl⟩ := hg
    have HFT := Lib.hid (show formM (mgP m) = true from by rw [HF.out]; simp)
    clear HF
    go_enter Tryz.func130, Tryz.ntmps130
    go_upto_region 1 with (fail)
    obtain ⟨q, hq⟩ : ∃ q, q = w.heap.size := ⟨_, rfl⟩
    rw [← hq] at HQ ⊢
    clear hq
    generalize w.alloc (.cells #[.int .i64 K, .slice a1 n1 c1, .slice a2 n2 c2, .slice a3 n3 c3] 113) = w1 at *
    obtain ⟨k0, k1, k2, k3⟩ := mg_cells HQ.out
    go_upto_region 2 with (go_at_call 21; (with_reducible refine (HSH.out _ HTAB.out).mono ?_); rintro e w2 ⟨rfl, hb⟩; have HB2 := Lib.hid (HB.out.trans (hb.mono HB.out.size)); replace HQ := Lib.hid ((hb.block q (bkT_lt HQ.out)).trans HQ.out); replace HT := Lib.hid (HT.out.below hb); replace HD := Lib.hid (HD.out.below hb); replace HDB := Lib.hid (fun t ht => (HDB.out t ht).below hb); clear hb)
    clear k0 k1 k2 k3 HTAB HSH
    obtain ⟨k0, k1, k2, k3⟩ := mg_cells HQ.out
    go_upto_region 4 with (go_at_call 73; (with_reducible refine (HK.out _).mono ?_); rintro e w3 ⟨rfl, hw⟩; obtain rfl := hw.symm)
    go_wp2_with (fail)
    go_loopw [46] (fun x wr => ∃ k : Nat, k ≤ n1 ∧ x = .int .i64 (k : Int) ∧ wr = w2 ∧ Hid (ShtS m.ts k)) (fun x _ => n1 - (intOf x).toNat)
    case atStart => exact ⟨0, Nat.zero_le _, rfl, rfl, Lib.hid (fun i s h => by omega)⟩
    case round =>
      obtain ⟨k, hkn, rfl, rfl, HS⟩ := hrel
      by_cases hlt : k < n1
      · have hltI : (k : Int) < (n1 : Int) := by omega
        obtain ⟨s, hs⟩ : ∃ s, m.ts[k]? = some s := ⟨m.ts[k]'(by have := HN.out.1; omega), List.getElem?_eq_getElem _⟩
        obtain ⟨ab, ao, rfl, hab, hra⟩ := HT.out.at hs
        have hc : wr.cell? ⟨ab, ao + k, none⟩ = some (.string s) := by have := hra 0 _ rfl; rw [Nat.mul_one] at this; exact this
        by_cases hz : s.size ≤ 256
        · have hzI : ¬ (256 : Int) < (s.size : Int) := by omega
          have HS1 := Lib.hid (show ShtS m.ts (k + 1) from fun i t hi ht => by
            by_cases e : i = k
            · subst e; rw [hs] at ht; cases ht; exact hz
            · exact HS.out i t (by omega) ht)
          clear hs hra hz HS
          go_wp2_with (fail)
          go_roundw
          case rel => exact ⟨k + 1, by omega, by go_num, trivial, HS1⟩
          case measure => simp [intOf]; omega
        · have hzI : (256 : Int) < (s.size : Int) := by omega
          have HE := Lib.hid (show Z = some 2 from by rw [HZ.out]; exact chk_long15 HFT.out (HLO.out k s hs (by omega)))
          clear hs hra hz HS
          go_wp2_with (fail)
          go_ret
          exact ⟨by rw [HE.out]; rfl, HB2.out⟩
      · obtain rfl : k = n1 := by omega
        go_upto_region 10 with (fail)
        go_wp2_with (fail)
        go_loopw [58] (fun x wr' => ∃ j : Nat, j ≤ n3 ∧ x = .int .i64 (j : Int) ∧ wr' = wr ∧ Hid (ShtD m.ds j)) (fun x _ => n3 - (intOf x).toNat)
        case atStart => exact ⟨0, Nat.zero_le _, rfl, rfl, Lib.hid (fun i s h => by omega)⟩
        case round =>
          obtain ⟨j, hjn, rfl, rfl, HS2⟩ := hrel
          by_cases hlt2 : j < n3
          · have hltI : (j : Int) < (n3 : Int) := by omega
            obtain ⟨t, ht⟩ : ∃ s, m.ds[j]? = some s := ⟨m.ds[j]'(by have := HN.out.2; omega), List.getElem?_eq_getElem _⟩
            obtain ⟨ab, ao, rfl, hab, hra⟩ := HD.out.at ht
            have hc : wr.cell? ⟨ab, ao + j, none⟩ = some t.bv := by have := hra 0 _ rfl; rw [Nat.mul_one] at this; exact this
            obtain ⟨ba, bc, hbv, -⟩ := HDB.out t (List.mem_of_getElem? ht)
            rw [hbv] at hc
            obtain ⟨bn, hbn⟩ : ∃ z, z = t.bs.length := ⟨_, rfl⟩
            rw [← hbn] at hc
            by_cases hz : bn ≤ 16384
            · have hzI : ¬ (16384 : Int) < (bn : Int) := by omega
              have HS3 := Lib.hid (show ShtD m.ds (j + 1) from fun i u hi hu => by
                by_cases e : i = j
                · subst e; rw [ht] at hu; cases hu; omega
                · exact HS2.out i u (by omega) hu)
              clear ht hra hz HS2 hbn hbv
              go_wp2_with (fail)
              go_roundw
              case rel => exact ⟨j + 1, by omega, by go_num, trivial, HS3⟩
              case measure => simp [intOf]; omega
            · have hzI : (16384 : Int) < (bn : Int) := by omega
              have HE := Lib.hid (show Z = some 2 from by rw [HZ.out]; exact chk_long15 HFT.out (HLD.out j t ht (by omega)))
              clear ht hra hz HS2 hbn hbv
              go_wp2_with (fail)
              go_ret
              exact ⟨by rw [HE.out]; rfl, HB2.out⟩
          · obtain rfl : j = n3 := by omega
            have HE := Lib.hid (show Z = none from by rw [HZ.out]; exact chk_ok15 HFT.out (HOK.out (by rw [← HN.out.1]; exact HS.out) (by rw [← HN.out.2]; exact HS2.out)))
            clear HS HS2
            go_wp2_with (fail)
            go_ret
            exact ⟨by rw [HE.out]; rfl, HB2.out⟩
  · have HE := Lib.hid (show Z = some 1 from by
      rw [HZ.out]
      refine chk_form15 ?_
      rw [HF.out]
      cases KB with
      | false => rfl
      | true =>
        simp only [Bool.true_and]
        by_cases g1 : n1 = S1
        · by_cases g2 : n2 = S2
          · rw [decide_eq_false (p := n3 = S3) (fun g3 => hg ⟨rfl, g1, g2, g3⟩)]; simp
          · rw [decide_eq_false g2]; simp
        · rw [decide_eq_false g1]; rfl)
    rw [HE.out]
    clear HE HZ HLO HLD HOK HF HN HT HD HDB
    have hh : KB = false ∨ (KB = true ∧ ¬ (n1 : Int) = (S1 : Int)) ∨ (KB = true ∧ (n1 : Int) = (S1 : Int) ∧ ¬ (n2 : Int) = (S2 : Int)) ∨ (KB = true ∧ (n1 : Int) = (S1 : Int) ∧ (n2 : Int) = (S2 : Int) ∧ ¬ (n3 : Int) = (S3 : Int)) := by
      cases KB with
      | false => exact .inl rfl
      | true =>
        by_cases g1 : n1 = S1
        · by_cases g2 : n2 = S2
          · exact .inr (.inr (.inr ⟨rfl, by omega, by omega, fun g3 => hg ⟨rfl, g1, g2, by omega⟩⟩))
          · exact .inr (.inr (.inl ⟨rfl, by omega, by omega⟩))
        · exact .inr (.inl ⟨rfl, by omega⟩)
    clear hg
    rcases hh with rfl | ⟨rfl, g1⟩ | ⟨rfl, g1, g2⟩ | ⟨rfl, g1, g2, g3⟩ <;>
    · go_enter Tryz.func130, Tryz.ntmps130
      go_upto_region 1 with (fail)
      obtain ⟨q, hq⟩ : ∃ q, q = w.heap.size := ⟨_, rfl⟩
      rw [← hq] at HQ ⊢
      clear hq
      generalize w.alloc (.cells #[.int .i64 K, .slice a1 n1 c1, .slice a2 n2 c2, .slice a3 n3 c3] 113) = w1 at *
      obtain ⟨k0, k1, k2, k3⟩ := mg_cells HQ.out
      go_upto_region 2 with (go_at_call 21; (with_reducible refine (HSH.out _ HTAB.out).mono ?_); rintro e w2 ⟨rfl, hb⟩; have HB2 := Lib.hid (HB.out.trans (hb.mono HB.out.size)); replace HQ := Lib.hid ((hb.block q (bkT_lt HQ.out)).trans HQ.out); clear hb)
      clear k0 k1 k2 k3 HTAB HSH
      obtain ⟨k0, k1, k2, k3⟩ := mg_cells HQ.out
      go_wp2_with (go_at_call 73; (with_reducible refine (HK.out _).mono ?_); rintro e w3 ⟨rfl, hw⟩; obtain rfl := hw.symm)
      go_ret
      exact ⟨rfl, HB2.out⟩
end Go.Proofs.YtejglhlodfhgkaaGreatDoor
