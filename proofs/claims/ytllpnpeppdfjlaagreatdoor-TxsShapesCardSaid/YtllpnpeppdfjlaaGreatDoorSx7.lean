/- Part 7 of the proof. -/
import Derived.Test.YtllpnpeppdfjlaaGreatDoorSx4
import Derived.Test.YtllpnpeppdfjlaaGreatDoorSx6
namespace Go.Proofs.YtllpnpeppdfjlaaGreatDoor
set_option linter.unusedVariables false
set_option linter.unusedSimpArgs false
open Go.RowKit
set_option maxRecDepth 100000
set_option linter.unusedSimpArgs false
set_option linter.unusedVariables false
theorem mg_cells {w : World} {q : Nat} {k : Int} {tv iv dv : Value} {T : TypeId} (h : w.heap[q]? = some (.cells #[.int .i64 k, tv, iv, dv] T (0, 0))) : w.cell? ⟨q, 0, none⟩ = some (.int .i64 k) ∧ w.cell? ⟨q, 1, none⟩ = some tv ∧ w.cell? ⟨q, 2, none⟩ = some iv ∧ w.cell? ⟨q, 3, none⟩ = some dv := by
  refine ⟨?_, ?_, ?_, ?_⟩ <;> (rw [cell_of_row _ _ _ _ _ _ h]; rfl)
def ShtS (l : List ByteArray) (k : Nat) : Prop := ∀ i s, i < k → l[i]? = some s → s.size ≤ 256
def ShtD (l : List Tb) (k : Nat) : Prop := ∀ i t, i < k → l[i]? = some t → t.bs.length ≤ 16384
theorem chk_form15 {m : Pm} (h : formM m = false) : chkM m = some 1 := by unfold chkM; rw [h]; rfl
theorem chk_long15 {m : Pm} (h : formM m = true) (hl : longM m = false) : chkM m = some 2 := by unfold chkM; rw [h, hl]; rfl
theorem chk_ok15 {m : Pm} (h : formM m = true) (hl : longM m = true) : chkM m = none := by unfold chkM; rw [h, hl]; rfl
theorem long_s {m : Mg} {k : Nat} {s : ByteArray} (h : m.ts[k]? = some s) (hs : 256 < s.size) : longM (mgP m) = false := by
  unfold longM mgP
  simp only
  rw [show (m.ts.all fun s => decide (s.size ≤ 256)) = false from List.all_eq_false.2 ⟨s, List.mem_of_getElem? h, by simp; omega⟩]; rfl
theorem long_d {m : Mg} {k : Nat} {t : Tb} (h : m.ds[k]? = some t) (hs : 16384 < t.bs.length) : longM (mgP m) = false := by
  unfold longM mgP
  simp only
  rw [show ((m.ds.map Tb.bs).all fun b => decide (b.length ≤ 16384)) = false from List.all_eq_false.2 ⟨t.bs, List.mem_map.2 ⟨t, List.mem_of_getElem? h, rfl⟩, by simp; omega⟩, Bool.and_false]
theorem long_ok {m : Mg} (h1 : ShtS m.ts m.ts.length) (h2 : ShtD m.ds m.ds.length) : longM (mgP m) = true := by
  unfold longM mgP
  simp only
  rw [Bool.and_eq_true, List.all_eq_true, List.all_eq_true]
  refine ⟨fun s hs => ?_, fun b hb => ?_⟩
  · obtain ⟨i, hi, e⟩ := List.getElem_of_mem hs
    exact decide_eq_true (h1 i s hi (by rw [← e]; exact List.getElem?_eq_getElem _))
  · obtain ⟨t, ht, rfl⟩ := List.mem_map.1 hb
    obtain ⟨i, hi, e⟩ := List.getElem_of_mem ht
    exact decide_eq_true (h2 i t hi (by rw [← e]; exact List.getElem?_eq_getElem _))
set_option maxHeartbeats 8000000 in
theorem tmsg_any (m : Mg) (w : World) (h : ShTab w) (hm : MgE w m) : Calls Tryz.prog 131 #[.agg (mgC m)] w fun e w' => e = .returned (errV (chkM (mgP m))) ∧ Below w.heap.size w w' := by
  obtain ⟨⟨a1, c1, e1⟩, ⟨a2, c2, e2⟩, ⟨a3, c3, e3⟩⟩ := hm.v
  have HLO := Lib.hid (fun k s (h : m.ts[k]? = some s) => long_s (m := m) h)
  have HLD := Lib.hid (fun k t (h : m.ds[k]? = some t) => long_d (m := m) h)
  have HOK := Lib.hid (long_ok (m := m))
  have HT := Lib.hid hm.t
  have HD := Lib.hid hm.d
  have HDB := Lib.hid hm.b
  have HF := Lib.hid (show formM (mgP m) = (kindB m.kind && (decide (m.ts.length = (shp m.kind).1) && (decide (m.is.length = (shp m.kind).2.1) && decide (m.ds.length = (shp m.kind).2.2)))) from by unfold formM mgP; simp only [List.length_map])
  have hmt := hm.t.len_le
  have hmd := hm.d.len_le
  have HCE := Lib.hid (show mgC m = #[.int .i64 m.kind, .slice a1 m.ts.length c1, .slice a2 m.is.length c2, .slice a3 m.ds.length c3] from by unfold mgC; rw [e1, e2, e3])
  rw [HCE.out]
  rw [e1] at HT
  rw [e3] at HD
  have HSH := Lib.hid (fun w h => tshape_any m.kind w h)
  have HK := Lib.hid (fun w => tkind_any m.kind w)
  unfold shV at HSH
  obtain ⟨Z, hZ⟩ : ∃ z, z = chkM (mgP m) := ⟨_, rfl⟩
  have HZ := Lib.hid hZ
  rw [← hZ]
  obtain ⟨K, hK⟩ : ∃ z, z = m.kind := ⟨_, rfl⟩
  obtain ⟨KB, hKB⟩ : ∃ z, z = kindB m.kind := ⟨_, rfl⟩
  obtain ⟨n1, hn1⟩ : ∃ z, z = m.ts.length := ⟨_, rfl⟩
  obtain ⟨n2, hn2⟩ : ∃ z, z = m.is.length := ⟨_, rfl⟩
  obtain ⟨n3, hn3⟩ : ∃ z, z = m.ds.length := ⟨_, rfl⟩
  obtain ⟨S1, hS1⟩ : ∃ z, z = (shp m.kind).1 := ⟨_, rfl⟩
  obtain ⟨S2, hS2⟩ : ∃ z, z = (shp m.kind).2.1 := ⟨_, rfl⟩
  obtain ⟨S3, hS3⟩ : ∃ z, z = (shp m.kind).2.2 := ⟨_, rfl⟩
  rw [← hS1, ← hS2, ← hS3, ← hKB, ← hn1, ← hn2, ← hn3] at HF
  rw [← hS1, ← hS2, ← hS3, ← hK] at HSH
  rw [← hKB, ← hK] at HK
  rw [← hn1] at HT hmt
  rw [← hn3] at HD hmd
  rw [← hn1, ← hn2, ← hn3, ← hK]
  have HN := Lib.hid (show n1 = m.ts.length ∧ n3 = m.ds.length from ⟨hn1, hn3⟩)
  have hn1I : (n1 : Int) ≤ 9223372036854775807 := by unfold maxLen at hmt; omega
  have hn3I : (n3 : Int) ≤ 9223372036854775807 := by unfold maxLen at hmd; omega
  have HTAB := Lib.hid (h.below (below_alloc w (.cells #[.int .i64 K, .slice a1 n1 c1, .slice a2 n2 c2, .slice a3 n3 c3] 100)) h.lt)
  have hb := below_alloc w (.cells #[.int .i64 K, .slice a1 n1 c1, .slice a2 n2 c2, .slice a3 n3 c3] 100)
  have HQ := Lib.hid (heap_alloc_new w (.cells #[.int .i64 K, .slice a1 n1 c1, .slice a2 n2 c2, .slice a3 n3 c3] 100))
  replace HT := Lib.hid (HT.out.below hb)
  replace HD := Lib.hid (HD.out.below hb)
  replace HDB := Lib.hid (fun t ht => (HDB.out t ht).below hb)
  have HB := Lib.hid hb
  clear hZ hK hKB hn1 hn2 hn3 hS1 hS2 hS3 hm e1 e2 e3 h hmt hmd hb HCE
  by_cases hg : KB = true ∧ n1 = S1 ∧ n2 = S2 ∧ n3 = S3
  · obtain ⟨rfl, rfl, rfl, rfl⟩ := hg
    have HFT := Lib.hid (show formM (mgP m) = true from by rw [HF.out]; simp)
    clear HF
    go_enter Tryz.func131, Tryz.ntmps131
    go_upto_region 1 with (fail)
    obtain ⟨q, hq⟩ : ∃ q, q = w.heap.size := ⟨_, rfl⟩
    rw [← hq] at HQ ⊢
    clear hq
    generalize w.alloc (.cells #[.int .i64 K, .slice a1 n1 c1, .slice a2 n2 c2, .slice a3 n3 c3] 100) = w1 at *
    obtain ⟨k0, k1, k2, k3⟩ := mg_cells HQ.out
    go_upto_region 2 with (go_at_call 39; (with_reducible refine (HSH.out _ HTAB.out).mono ?_); rintro e w2 ⟨rfl, hb⟩; have HB2 := Lib.hid (HB.out.trans (hb.mono HB.out.size)); replace HQ := Lib.hid ((hb.block q (bkT_lt HQ.out)).trans HQ.out); replace HT := Lib.hid (HT.out.below hb); replace HD := Lib.hid (HD.out.below hb); replace HDB := Lib.hid (fun t ht => (HDB.out t ht).below hb); clear hb)
    clear k0 k1 k2 k3 HTAB HSH
    obtain ⟨k0, k1, k2, k3⟩ := mg_cells HQ.out
    go_upto_region 4 with (go_at_call 88; (with_reducible refine (HK.out _).mono ?_); rintro e w3 ⟨rfl, hw⟩; obtain rfl := hw.symm)
    go_wp2_with (fail)
    go_loopw [46] (fun x wr => ∃ k : Nat, k ≤ n1 ∧ x = .int .i64 (k : Int) ∧ wr = w2 ∧ Hid (ShtS m.ts k)) (fun x _ => n1 - (intOf x).toNat)
    case atStart => exact ⟨0, Nat.zero_le _, rfl, rfl, Lib.hid (fun i s h => by omega)⟩
    case round =>
      obtain ⟨k, hkn, rfl, rfl, HS⟩ := hrel
      by_cases hlt : k < n1
      · have hltI : (k : Int) < (n1 : Int) := by omega
        obtain ⟨s, hs⟩ : ∃ s, m.ts[k]? = some s := ⟨m.ts[k]'(by have := HN.out.1; omega), List.getElem?_eq_getElem _⟩
        obtain ⟨ab, ao, rfl, hab, hra⟩ := HT.out.at hs
        have hc : wr.cell? ⟨ab, ao + k, none⟩ = some (.string s) := by have := hra 0 _ rfl; rw [Nat.mul_one] at this; exact this
        by_cases hz : s.size ≤ 256
        · have hzI : ¬ (256 : Int) < (s.size : Int) := by omega
          have HS1 := Lib.hid (show ShtS m.ts (k + 1) from fun i t hi ht => by
            by_cases e : i = k
            · subst e; rw [hs] at ht; cases ht; exact hz
            · exact HS.out i t (by omega) ht)
          clear hs hra hz HS
          go_wp2_with (fail)
          go_roundw
          case rel => exact ⟨k + 1, by omega, by go_num, trivial, HS1⟩
          case measure => simp [intOf]; omega
        · have hzI : (256 : Int) < (s.size : Int) := by omega
          have HE := Lib.hid (show Z = some 2 from by rw [HZ.out]; exact chk_long15 HFT.out (HLO.out k s hs (by omega)))
          clear hs hra hz HS
          go_wp2_with (fail)
          go_ret
          exact ⟨by rw [HE.out]; rfl, HB2.out⟩
      · obtain rfl : k = n1 := by omega
        go_upto_region 10 with (fail)
        go_wp2_with (fail)
        go_loopw [58] (fun x wr' => ∃ j : Nat, j ≤ n3 ∧ x = .int .i64 (j : Int) ∧ wr' = wr ∧ Hid (ShtD m.ds j)) (fun x _ => n3 - (intOf x).toNat)
        case atStart => exact ⟨0, Nat.zero_le _, rfl, rfl, Lib.hid (fun i s h => by omega)⟩
        case round =>
          obtain ⟨j, hjn, rfl, rfl, HS2⟩ := hrel
          by_cases hlt2 : j < n3
          · have hltI : (j : Int) < (n3 : Int) := by omega
            obtain ⟨t, ht⟩ : ∃ s, m.ds[j]? = some s := ⟨m.ds[j]'(by have := HN.out.2; omega), List.getElem?_eq_getElem _⟩
            obtain ⟨ab, ao, rfl, hab, hra⟩ := HD.out.at ht
            have hc : wr.cell? ⟨ab, ao + j, none⟩ = some t.bv := by have := hra 0 _ rfl; rw [Nat.mul_one] at this; exact this
            obtain ⟨ba, bc, hbv, -⟩ := HDB.out t (List.mem_of_getElem? ht)
            rw [hbv] at hc
            obtain ⟨bn, hbn⟩ : ∃ z, z = t.bs.length := ⟨_, rfl⟩
            rw [← hbn] at hc
            by_cases hz : bn ≤ 16384
            · have hzI : ¬ (16384 : Int) < (bn : Int) := by omega
              have HS3 := Lib.hid (show ShtD m.ds (j + 1) from fun i u hi hu => by
                by_cases e : i = j
                · subst e; rw [ht] at hu; cases hu; omega
                · exact HS2.out i u (by omega) hu)
              clear ht hra hz HS2 hbn hbv
              go_wp2_with (fail)
              go_roundw
              case rel => exact ⟨j + 1, by omega, by go_num, trivial, HS3⟩
              case measure => simp [intOf]; omega
            · have hzI : (16384 : Int) < (bn : Int) := by omega
              have HE := Lib.hid (show Z = some 2 from by rw [HZ.out]; exact chk_long15 HFT.out (HLD.out j t ht (by omega)))
              clear ht hra hz HS2 hbn hbv
              go_wp2_with (fail)
              go_ret
              exact ⟨by rw [HE.out]; rfl, HB2.out⟩
          · obtain rfl : j = n3 := by omega
            have HE := Lib.hid (show Z = none from by rw [HZ.out]; exact chk_ok15 HFT.out (HOK.out (by rw [← HN.out.1]; exact HS.out) (by rw [← HN.out.2]; exact HS2.out)))
            clear HS HS2
            go_wp2_with (fail)
            go_ret
            exact ⟨by rw [HE.out]; rfl, HB2.out⟩
  · have HE := Lib.hid (show Z = some 1 from by
      rw [HZ.out]
      refine chk_form15 ?_
      rw [HF.out]
      cases KB with
      | false => rfl
      | true =>
        simp only [Bool.true_and]
        by_cases g1 : n1 = S1
        · by_cases g2 : n2 = S2
          · rw [decide_eq_false (p := n3 = S3) (fun g3 => hg ⟨rfl, g1, g2, g3⟩)]; simp
          · rw [decide_eq_false g2]; simp
        · rw [decide_eq_false g1]; rfl)
    rw [HE.out]
    clear HE HZ HLO HLD HOK HF HN HT HD HDB
    have hh : KB = false ∨ (KB = true ∧ ¬ (n1 : Int) = (S1 : Int)) ∨ (KB = true ∧ (n1 : Int) = (S1 : Int) ∧ ¬ (n2 : Int) = (S2 : Int)) ∨ (KB = true ∧ (n1 : Int) = (S1 : Int) ∧ (n2 : Int) = (S2 : Int) ∧ ¬ (n3 : Int) = (S3 : Int)) := by
      cases KB with
      | false => exact .inl rfl
      | true =>
        by_cases g1 : n1 = S1
        · by_cases g2 : n2 = S2
          · exact .inr (.inr (.inr ⟨rfl, by omega, by omega, fun g3 => hg ⟨rfl, g1, g2, by omega⟩⟩))
          · exact .inr (.inr (.inl ⟨rfl, by omega, by omega⟩))
        · exact .inr (.inl ⟨rfl, by omega⟩)
    clear hg
    rcases hh with rfl | ⟨rfl, g1⟩ | ⟨rfl, g1, g2⟩ | ⟨rfl, g1, g2, g3⟩ <;>
    · go_enter Tryz.func131, Tryz.ntmps131
      go_upto_region 1 with (fail)
      obtain ⟨q, hq⟩ : ∃ q, q = w.heap.size := ⟨_, rfl⟩
      rw [← hq] at HQ ⊢
      clear hq
      generalize w.alloc (.cells #[.int .i64 K, .slice a1 n1 c1, .slice a2 n2 c2, .slice a3 n3 c3] 100) = w1 at *
      obtain ⟨k0, k1, k2, k3⟩ := mg_cells HQ.out
      go_upto_region 2 with (go_at_call 39; (with_reducible refine (HSH.out _ HTAB.out).mono ?_); rintro e w2 ⟨rfl, hb⟩; have HB2 := Lib.hid (HB.out.trans (hb.mono HB.out.size)); replace HQ := Lib.hid ((hb.block q (bkT_lt HQ.out)).trans HQ.out); clear hb)
      clear k0 k1 k2 k3 HTAB HSH
      obtain ⟨k0, k1, k2, k3⟩ := mg_cells HQ.out
      go_wp2_with (go_at_call 88; (with_reducible refine (HK.out _).mono ?_); rintro e w3 ⟨rfl, hw⟩; obtain rfl := hw.symm)
      go_ret
      exact ⟨rfl, HB2.out⟩
end Go.Proofs.YtllpnpeppdfjlaaGreatDoor
namespace Go.Proofs.YtllpnpeppdfjlaaGreatDoor
set_option linter.unusedVariables false
set_option linter.unusedSimpArgs false
open Go.RowKit
set_option maxRecDepth 100000
set_option linter.unusedSimpArgs false
set_option linter.unusedVariables false
def ChkK (l : List Mg) (k : Nat) : Prop := ∀ i m, i < k → l[i]? = some m → chkM (mgP m) = none
theorem chkMs_first : ∀ (l : List Mg) (k : Nat) (m : Mg) (e : Nat), ChkK l k → l[k]? = some m → chkM (mgP m) = some e → chkMs (l.map mgP) = some e
  | [], k, m, e, _, h, _ => by cases h
  | x :: l, 0, m, e, _, h, he => by
    injection h with h; subst h
    rw [List.map_cons, chkMs, he]
  | x :: l, k + 1, m, e, hk, h, he => by
    rw [List.map_cons, chkMs, hk 0 x (by omega) rfl]
    exact chkMs_first l k m e (fun i y hi hy => hk (i + 1) y (by omega) hy) h he
theorem chkMs_none : ∀ (l : List Mg), ChkK l l.length → chkMs (l.map mgP) = none
  | [], _ => rfl
  | x :: l, hk => by
    rw [List.map_cons, chkMs, hk 0 x (by simp) rfl]
    exact chkMs_none l fun i y hi hy => hk (i + 1) y (by simpa using hi) hy
def MsK (w : World) (mv : Value) (l : List Mg) : Prop := MgIn w mv l ∧ ∀ m ∈ l, MgE w m
theorem MsK.below {w w' : World} {mv : Value} {l : List Mg} (h : MsK w mv l) (hb : Below w.heap.size w w') : MsK w' mv l := ⟨h.1.below hb, fun m hm => (h.2 m hm).below hb⟩
def MsR (w : World) (mv : Value) (l : List Mg) (k : Nat) (wr : World) : Prop := Below w.heap.size w wr ∧ MsK wr mv l ∧ ShTab wr ∧ ChkK l k
set_option maxHeartbeats 8000000 in
theorem tmsgs_any (mv : Value) (l : List Mg) (w : World) (h : ShTab w) (hm : MgIn w mv l) (he : ∀ m ∈ l, MgE w m) : Calls Tryz.prog 77 #[mv] w fun e w' => e = .returned (errV (chkL (l.map mgP))) ∧ Below w.heap.size w w' := by
  obtain ⟨la, lc, rfl, -, hlm⟩ := hm.len
  have HM0 := Lib.hid (show MsR w (.slice la l.length lc) l 0 w from ⟨Below.refl _ _, ⟨hm, he⟩, h, fun i m hi => by omega⟩)
  have HLL := Lib.hid (show chkL (l.map mgP) = if l.length = 0 ∨ 8 < l.length then some 1 else chkMs (l.map mgP) from by unfold chkL; rw [List.length_map])
  obtain ⟨Z, hZ⟩ : ∃ z, z = chkL (l.map mgP) := ⟨_, rfl⟩
  rw [← hZ] at HLL ⊢
  obtain ⟨n, hn⟩ : ∃ z, z = l.length := ⟨_, rfl⟩
  have HN := Lib.hid hn
  rw [← hn] at HM0 HLL hlm ⊢
  have hnI : (n : Int) ≤ 9223372036854775807 := by unfold maxLen at hlm; omega
  clear hZ hn h hm he hlm
  by_cases hz : n = 0
  · have HE := Lib.hid (show Z = some 1 from by rw [HLL.out, if_pos (.inl hz)])
    rw [HE.out]
    subst hz
    clear HE HLL
    go_enter Tryz.func77, Tryz.ntmps77
    go_wp2_with (fail)
    go_ret
    exact ⟨rfl, Below.refl _ _⟩
  by_cases h8 : 8 < n
  · have HE := Lib.hid (show Z = some 1 from by rw [HLL.out, if_pos (.inr h8)])
    rw [HE.out]
    have h8I : (8 : Int) < (n : Int) := by omega
    have hzI : ¬ (n : Int) = 0 := by omega
    clear HE HLL
    go_enter Tryz.func77, Tryz.ntmps77
    go_wp2_with (fail)
    go_ret
    exact ⟨rfl, Below.refl _ _⟩
  have HE := Lib.hid (show Z = chkMs (l.map mgP) from by rw [HLL.out, if_neg (fun h => h.elim hz h8)])
  have h8I : ¬ (8 : Int) < (n : Int) := by omega
  have hzI : ¬ (n : Int) = 0 := by omega
  clear HLL
  go_enter Tryz.func77, Tryz.ntmps77
  go_wp2_with (fail)
  go_loopw [17] (fun x wr => ∃ k : Nat, k ≤ n ∧ x = .int .i64 (k : Int) ∧ Hid (MsR w (.slice la n lc) l k wr)) (fun x _ => n - (intOf x).toNat)
  case atStart => exact ⟨0, Nat.zero_le _, rfl, HM0⟩
  case round =>
    clear HM0
    obtain ⟨k, hkn, rfl, HM⟩ := hrel
    by_cases hlt : k < n
    · have hltI : (k : Int) < (n : Int) := by omega
      obtain ⟨x, hx⟩ : ∃ x, l[k]? = some x := ⟨l[k]'(by have := HN.out; omega), List.getElem?_eq_getElem _⟩
      obtain ⟨ab, ao, rfl, hab, hra⟩ := HM.out.2.1.1.at hx
      have HX := Lib.hid hx
      have HME := Lib.hid (HM.out.2.1.2 x (List.mem_of_getElem? hx))
      obtain ⟨CV, hCV⟩ : ∃ c, c = mgC x := ⟨_, rfl⟩
      have HCV := Lib.hid hCV
      have HCS := Lib.hid (show CV.size = 4 from by rw [hCV]; rfl)
      have HCO := Lib.hid (show CV.all (·.oneCell') = true from by rw [hCV]; exact mgC_one HME.out.v)
      have HRC := Lib.hid (show wr.rangeAt ab (ao + k * 4) CV.toList from by rw [hCV]; exact hra)
      clear hra hx hCV
      obtain ⟨E, hE⟩ : ∃ e, e = chkM (mgP x) := ⟨_, rfl⟩
      have HEE := Lib.hid hE
      have hba := below_alloc wr (.cells CV 100)
      have HCK := Lib.hid (tmsg_any x (wr.alloc (.cells CV 100)) (HM.out.2.2.1.below hba HM.out.2.2.1.lt) (HME.out.below hba))
      rw [← hE, ← HCV.out] at HCK
      have HBA := Lib.hid hba
      clear hE hba
      cases E with
      | none =>
        simp only [errV] at HCK
        go_upto_region 6 with (first
          | (refine wpList_load_rowT (by rfl) 100 (.tmp 19) rfl ab (ao + k * 4) rfl CV _ HRC.out Tryz.underlying100 rfl (by rw [HCS.out]; kernel_rfl) ?_)
          | (refine wpList_store_row rfl 100 (.tmp 4) (.tmp 20) rfl wr.heap.size CV rfl rfl 100 _ (heap_alloc_new _ _) (by rw [HCS.out]; kernel_rfl) (by rw [HCS.out]; rfl) HCO.out ?_; rw [World.setRow_alloc_new]))
        have HQ := Lib.hid (heap_alloc_new wr (.cells CV 100))
        obtain ⟨q, hq⟩ : ∃ q, q = wr.heap.size := ⟨_, rfl⟩
        rw [← hq] at HQ ⊢
        clear hq
        replace HM := Lib.hid (show Below w.heap.size w (wr.alloc (.cells CV 100)) ∧ MsK (wr.alloc (.cells CV 100)) (.slice (some ⟨ab, ao, none⟩) n lc) l ∧ ShTab (wr.alloc (.cells CV 100)) ∧ ChkK l k from ⟨HM.out.1.trans (HBA.out.mono HM.out.1.size), HM.out.2.1.below HBA.out, HM.out.2.2.1.below HBA.out HM.out.2.2.1.lt, HM.out.2.2.2⟩)
        clear HBA HRC HME
        generalize wr.alloc (.cells CV 100) = w3 at *
        go_upto_region 9 with (first
          | (refine wpList_load_rowT (by rfl) 100 (.tmp 4) rfl q 0 rfl CV _ (rowT_range HQ.out) Tryz.underlying100 rfl (by rw [HCS.out]; kernel_rfl) ?_)
          | (go_at_call 131; (with_reducible refine HCK.out.mono ?_); rintro e w4 ⟨rfl, hb⟩; have HB := Lib.hid hb; clear hb))
        have HR := Lib.hid (show MsR w (.slice (some ⟨ab, ao, none⟩) n lc) l (k + 1) w4 from ⟨HM.out.1.trans (HB.out.mono HM.out.1.size), HM.out.2.1.below HB.out, HM.out.2.2.1.below HB.out HM.out.2.2.1.lt, fun i m hi hm => by
          by_cases e : i = k
          · subst e
            have := HX.out.symm.trans hm
            cases this
            exact HEE.out.symm
          · exact HM.out.2.2.2 i m (by omega) hm⟩)
        go_wp2_with (fail)
        go_roundw
        case rel => exact ⟨k + 1, by omega, by go_num, HR⟩
        case measure => simp [intOf]; omega
      | some e1 =>
        have HZ := Lib.hid (show Z = some e1 from by rw [HE.out]; exact chkMs_first l k x e1 HM.out.2.2.2 HX.out HEE.out.symm)
        simp only [errV] at HCK
        go_upto_region 6 with (first
          | (refine wpList_load_rowT (by rfl) 100 (.tmp 19) rfl ab (ao + k * 4) rfl CV _ HRC.out Tryz.underlying100 rfl (by rw [HCS.out]; kernel_rfl) ?_)
          | (refine wpList_store_row rfl 100 (.tmp 4) (.tmp 20) rfl wr.heap.size CV rfl rfl 100 _ (heap_alloc_new _ _) (by rw [HCS.out]; kernel_rfl) (by rw [HCS.out]; rfl) HCO.out ?_; rw [World.setRow_alloc_new]))
        have HQ := Lib.hid (heap_alloc_new wr (.cells CV 100))
        obtain ⟨q, hq⟩ : ∃ q, q = wr.heap.size := ⟨_, rfl⟩
        rw [← hq] at HQ ⊢
        clear hq
        have HB3 := Lib.hid (HM.out.1.trans (HBA.out.mono HM.out.1.size))
        clear HBA HRC HME
        generalize wr.alloc (.cells CV 100) = w3 at *
        go_wp2_with (first
          | (refine wpList_load_rowT (by rfl) 100 (.tmp 4) rfl q 0 rfl CV _ (rowT_range HQ.out) Tryz.underlying100 rfl (by rw [HCS.out]; kernel_rfl) ?_)
          | (go_at_call 131; (with_reducible refine HCK.out.mono ?_); rintro e w4 ⟨rfl, hb⟩; have HB := Lib.hid hb; clear hb))
        go_ret
        exact ⟨by rw [HZ.out]; rfl, HB3.out.trans (HB.out.mono HB3.out.size)⟩
    · obtain rfl : k = n := by omega
      have HZ := Lib.hid (show Z = none from by rw [HE.out]; exact chkMs_none l (by rw [← HN.out]; exact HM.out.2.2.2))
      go_wp2_with (fail)
      go_ret
      exact ⟨by rw [HZ.out]; rfl, HM.out.1⟩
set_option maxHeartbeats 4000000 in
theorem tfee_any (d : ByteArray) (a : Int) (w : World) (hd : d.size ≤ 140737488351232) : Calls Tryz.prog 76 #[.agg #[.string d, .int .i64 a]] w fun e w' => e = .returned (errV (chkF d a)) ∧ Below w.heap.size w w' := by
  have HB := Lib.hid (below_alloc w (.cells #[.string d, .int .i64 a] 59))
  have HQ := Lib.hid (heap_alloc_new w (.cells #[.string d, .int .i64 a] 59))
  have HC := Lib.hid (fun w => ccheck_any d w hd)
  obtain ⟨R, hR⟩ : ∃ r, r = chkF d a := ⟨_, rfl⟩
  rw [← hR]
  unfold chkF at hR
  obtain ⟨E, hE⟩ : ∃ e, e = chkD d := ⟨_, rfl⟩
  rw [← hE] at HC hR
  clear hE hd
  have hh : (∃ x, E = some x) ∨ (E = none ∧ a < 0) ∨ (E = none ∧ ¬ a < 0 ∧ 1152921504606846976 < a) ∨ (E = none ∧ ¬ a < 0 ∧ ¬ 1152921504606846976 < a) := by
    cases E with
    | some x => exact .inl ⟨x, rfl⟩
    | none =>
      by_cases h1 : a < 0
      · exact .inr (.inl ⟨rfl, h1⟩)
      · by_cases h2 : 1152921504606846976 < a
        · exact .inr (.inr (.inl ⟨rfl, h1, h2⟩))
        · exact .inr (.inr (.inr ⟨rfl, h1, h2⟩))
  rcases hh with ⟨x, rfl⟩ | ⟨rfl, h1⟩ | ⟨rfl, h1, h2⟩ | ⟨rfl, h1, h2⟩
  · have hR2 : R = some x := hR
    subst hR2
    clear hR
    simp only [errV] at HC ⊢
    go_enter Tryz.func76, Tryz.ntmps76
    go_upto_region 1 with (fail)
    generalize w.alloc (.cells #[.string d, .int .i64 a] 59) = w1 at *
    have c0 := cell_of_row w1 w.heap.size 0 _ _ _ HQ.out
    simp only [List.getElem?_toArray, List.getElem?_cons_zero] at c0
    go_wp2_with (go_at_call 130; (with_reducible refine (HC.out _).mono ?_); rintro e w2 ⟨rfl, hb⟩; have HB2 := Lib.hid (HB.out.trans (hb.mono HB.out.size)); clear hb)
    go_ret
    exact ⟨rfl, HB2.out⟩
  · have hR2 : R = some 44 := hR.trans (if_pos (.inl h1))
    subst hR2
    clear hR
    simp only [errV] at HC ⊢
    go_enter Tryz.func76, Tryz.ntmps76
    go_upto_region 1 with (fail)
    generalize w.alloc (.cells #[.string d, .int .i64 a] 59) = w1 at *
    have c0 := cell_of_row w1 w.heap.size 0 _ _ _ HQ.out
    simp only [List.getElem?_toArray, List.getElem?_cons_zero] at c0
    go_upto_region 4 with (go_at_call 130; (with_reducible refine (HC.out _).mono ?_); rintro e w2 ⟨rfl, hb⟩; have HB2 := Lib.hid (HB.out.trans (hb.mono HB.out.size)); replace HQ := Lib.hid ((hb.block w.heap.size (bkT_lt HQ.out)).trans HQ.out); clear hb)
    clear c0
    have c1 := cell_of_row w2 w.heap.size 1 _ _ _ HQ.out
    simp only [List.getElem?_toArray, List.getElem?_cons_zero, List.getElem?_cons_succ] at c1
    go_wp2_with (fail)
    go_ret
    exact ⟨rfl, HB2.out⟩
  · have hR2 : R = some 44 := hR.trans (if_pos (.inr h2))
    subst hR2
    clear hR
    simp only [errV] at HC ⊢
    go_enter Tryz.func76, Tryz.ntmps76
    go_upto_region 1 with (fail)
    generalize w.alloc (.cells #[.string d, .int .i64 a] 59) = w1 at *
    have c0 := cell_of_row w1 w.heap.size 0 _ _ _ HQ.out
    simp only [List.getElem?_toArray, List.getElem?_cons_zero] at c0
    go_upto_region 4 with (go_at_call 130; (with_reducible refine (HC.out _).mono ?_); rintro e w2 ⟨rfl, hb⟩; have HB2 := Lib.hid (HB.out.trans (hb.mono HB.out.size)); replace HQ := Lib.hid ((hb.block w.heap.size (bkT_lt HQ.out)).trans HQ.out); clear hb)
    clear c0
    have c1 := cell_of_row w2 w.heap.size 1 _ _ _ HQ.out
    simp only [List.getElem?_toArray, List.getElem?_cons_zero, List.getElem?_cons_succ] at c1
    go_wp2_with (fail)
    go_ret
    exact ⟨rfl, HB2.out⟩
  · have hR2 : R = none := hR.trans (if_neg (fun h => h.elim h1 h2))
    subst hR2
    clear hR
    simp only [errV] at HC ⊢
    go_enter Tryz.func76, Tryz.ntmps76
    go_upto_region 1 with (fail)
    generalize w.alloc (.cells #[.string d, .int .i64 a] 59) = w1 at *
    have c0 := cell_of_row w1 w.heap.size 0 _ _ _ HQ.out
    simp only [List.getElem?_toArray, List.getElem?_cons_zero] at c0
    go_upto_region 4 with (go_at_call 130; (with_reducible refine (HC.out _).mono ?_); rintro e w2 ⟨rfl, hb⟩; have HB2 := Lib.hid (HB.out.trans (hb.mono HB.out.size)); replace HQ := Lib.hid ((hb.block w.heap.size (bkT_lt HQ.out)).trans HQ.out); clear hb)
    clear c0
    have c1 := cell_of_row w2 w.heap.size 1 _ _ _ HQ.out
    simp only [List.getElem?_toArray, List.getElem?_cons_zero, List.getElem?_cons_succ] at c1
    go_wp2_with (fail)
    go_ret
    exact ⟨rfl, HB2.out⟩
end Go.Proofs.YtllpnpeppdfjlaaGreatDoor
namespace Go.Proofs.YtllpnpeppdfjlaaGreatDoor
set_option linter.unusedVariables false
set_option linter.unusedSimpArgs false
open Go.RowKit
set_option maxRecDepth 100000
set_option linter.unusedSimpArgs false
set_option linter.unusedVariables false
theorem tx_cells {w : World} {q : Nat} {ac dn : ByteArray} {s a : Int} {mv sv : Value} {T : TypeId} (h : w.heap[q]? = some (.cells #[.string ac, .int .i64 s, .string dn, .int .i64 a, mv, sv] T (0, 0))) : w.cell? ⟨q, 0, none⟩ = some (.string ac) ∧ w.cell? ⟨q, 1, none⟩ = some (.int .i64 s) ∧ w.rangeAt q 2 (#[.string dn, .int .i64 a] : Array Value).toList ∧ w.cell? ⟨q, 2, none⟩ = some (.string dn) ∧ w.cell? ⟨q, 3, none⟩ = some (.int .i64 a) ∧ w.cell? ⟨q, 4, none⟩ = some mv ∧ w.cell? ⟨q, 5, none⟩ = some sv := by
  refine ⟨?_, ?_, fun j v hv => ?_, ?_, ?_, ?_, ?_⟩
  · rw [cell_of_row _ _ _ _ _ _ h]; rfl
  · rw [cell_of_row _ _ _ _ _ _ h]; rfl
  · rw [cell_of_row _ _ _ _ _ _ h]
    match j, hv with
    | 0, hv => exact hv
    | 1, hv => exact hv
  · rw [cell_of_row _ _ _ _ _ _ h]; rfl
  · rw [cell_of_row _ _ _ _ _ _ h]; rfl
  · rw [cell_of_row _ _ _ _ _ _ h]; rfl
  · rw [cell_of_row _ _ _ _ _ _ h]; rfl
set_option maxHeartbeats 8000000 in
theorem tcheck_any (x : Tr) (w : World) (h : ShTab w) (hx : TrE w x) (ha : x.acc.size ≤ 9223372036854775807) (hd : x.den.size ≤ 140737488351232) : Calls Tryz.prog 32 #[.agg (trC15 x)] w fun e w' => e = .returned (errV (chkX (pxP x))) ∧ Below w.heap.size w w' := by
  obtain ⟨ac, S, dn, A, mv, ms, sv, sg⟩ := x
  obtain ⟨⟨a1, c1, e1⟩, ⟨a2, c2, e2⟩⟩ := hx.v
  simp only at e1 e2 ha hd
  subst e1 e2
  obtain ⟨n1, hn1⟩ : ∃ z, z = ms.length := ⟨_, rfl⟩
  obtain ⟨n2, hn2⟩ : ∃ z, z = sg.length := ⟨_, rfl⟩
  have hCe : trC15 ⟨ac, S, dn, A, .slice a1 ms.length c1, ms, .slice a2 sg.length c2, sg⟩ = #[.string ac, .int .i64 S, .string dn, .int .i64 A, .slice a1 n1 c1, .slice a2 n2 c2] := by rw [hn1, hn2]; rfl
  rw [hCe]
  have hba := below_alloc w (.cells #[.string ac, .int .i64 S, .string dn, .int .i64 A, .slice a1 n1 c1, .slice a2 n2 c2] 67)
  have HQ := Lib.hid (heap_alloc_new w (.cells #[.string ac, .int .i64 S, .string dn, .int .i64 A, .slice a1 n1 c1, .slice a2 n2 c2] 67))
  have HB := Lib.hid hba
  have HT := Lib.hid (h.below hba h.lt)
  have HM := Lib.hid (show MsK (w.alloc (.cells #[.string ac, .int .i64 S, .string dn, .int .i64 A, .slice a1 n1 c1, .slice a2 n2 c2] 67)) (.slice a1 n1 c1) ms from MsK.below ⟨by rw [hn1]; exact hx.m, hx.e⟩ hba)
  have HAC := Lib.hid (fun w => tacc_any ac w ha)
  have HFE := Lib.hid (fun w => tfee_any dn A w hd)
  have HMS := Lib.hid (fun w (h : ShTab w) (k : MsK w (.slice a1 n1 c1) ms) => tmsgs_any (.slice a1 n1 c1) ms w h k.1 k.2)
  have HX := Lib.hid (show chkX (pxP ⟨ac, S, dn, A, .slice a1 ms.length c1, ms, .slice a2 sg.length c2, sg⟩) = if accB ac then (if S < 0 ∨ 1099511627776 < S then some 43 else match chkF dn A with
    | some e => some e
    | none => match chkL (ms.map mgP) with
      | some e => some e
      | none => if 8192 < n2 then some 2 else none) else some 42 from by rw [hn2]; rfl)
  have hn2I : (n2 : Int) ≤ 9223372036854775807 := by
    obtain ⟨_, _, _, _, h2, _⟩ := hx.s
    simp only at h2
    unfold maxLen at h2
    omega
  obtain ⟨Z, hZ⟩ : ∃ z, z = chkX (pxP ⟨ac, S, dn, A, .slice a1 ms.length c1, ms, .slice a2 sg.length c2, sg⟩) := ⟨_, rfl⟩
  rw [← hZ] at HX ⊢
  obtain ⟨B1, hB1⟩ : ∃ z, z = accB ac := ⟨_, rfl⟩
  obtain ⟨E1, hE1⟩ : ∃ z, z = chkF dn A := ⟨_, rfl⟩
  obtain ⟨E2, hE2⟩ : ∃ z, z = chkL (ms.map mgP) := ⟨_, rfl⟩
  rw [← hB1] at HAC HX
  rw [← hE1] at HFE HX
  rw [← hE2] at HMS HX
  clear hZ hB1 hE1 hE2 hn1 hn2 hCe hx h hba ha hd
  cases B1 with
  | false =>
    have HE := Lib.hid (show Z = some 42 from by rw [HX.out]; rfl)
    rw [HE.out]
    clear HX HE HFE HMS
    go_enter Tryz.func32, Tryz.ntmps32
    go_upto_region 1 with (fail)
    generalize w.alloc (.cells #[.string ac, .int .i64 S, .string dn, .int .i64 A, .slice a1 n1 c1, .slice a2 n2 c2] 67) = w1 at *
    obtain ⟨c0, -⟩ := tx_cells HQ.out
    go_wp2_with (go_at_call 75; (with_reducible refine (HAC.out _).mono ?_); rintro e w2 ⟨rfl, hb⟩; have HB2 := Lib.hid (HB.out.trans (hb.mono HB.out.size)); clear hb)
    go_ret
    exact ⟨rfl, HB2.out⟩
  | true =>
    go_enter Tryz.func32, Tryz.ntmps32
    go_upto_region 1 with (fail)
    generalize w.alloc (.cells #[.string ac, .int .i64 S, .string dn, .int .i64 A, .slice a1 n1 c1, .slice a2 n2 c2] 67) = w1 at *
    obtain ⟨c0, -⟩ := tx_cells HQ.out
    obtain ⟨q, hq⟩ : ∃ q, q = w.heap.size := ⟨_, rfl⟩
    rw [← hq] at HQ c0 ⊢
    have HWQ := Lib.hid hq
    clear hq
    go_upto_region 3 with (go_at_call 75; (with_reducible refine (HAC.out _).mono ?_); rintro e w2 ⟨rfl, hb⟩; have HB2 := Lib.hid (HB.out.trans (hb.mono HB.out.size)); replace HQ := Lib.hid ((hb.block q (bkT_lt HQ.out)).trans HQ.out); replace HT := Lib.hid (HT.out.below hb HT.out.lt); replace HM := Lib.hid (HM.out.below hb); clear hb)
    clear c0 HAC
    obtain ⟨-, c1, cr, -⟩ := tx_cells HQ.out
    have HCR := Lib.hid cr
    clear cr
    by_cases hs : S < 0 ∨ 1099511627776 < S
    · have HE := Lib.hid (show Z = some 43 from by rw [HX.out, if_pos trivial, if_pos hs])
      clear HX HFE HMS
      by_cases h1 : S < 0
      · clear hs
        go_wp2_with (fail)
        go_ret
        exact ⟨by rw [HE.out]; rfl, by rw [← HWQ.out] at HB2 ⊢; exact HB2.out⟩
      · have h2 : 1099511627776 < S := by omega
        clear hs
        go_wp2_with (fail)
        go_ret
        exact ⟨by rw [HE.out]; rfl, by rw [← HWQ.out] at HB2 ⊢; exact HB2.out⟩
    · have h1 : ¬ S < 0 := fun h => hs (.inl h)
      have h2 : ¬ 1099511627776 < S := fun h => hs (.inr h)
      have HX2 := Lib.hid (HX.out.trans ((if_pos trivial).trans (if_neg hs)))
      clear HX hs
      cases E1 with
      | some e1 =>
        have HE := Lib.hid (show Z = some e1 from HX2.out)
        clear HX2 HMS
        simp only [errV] at HFE
        go_wp2_with (first
          | (refine wpList_load_rowT (by rfl) 59 (.tmp 19) rfl q 2 rfl #[.string dn, .int .i64 A] _ HCR.out Tryz.underlying59 rfl (by kernel_rfl) ?_)
          | (go_at_call 76; (with_reducible refine (HFE.out _).mono ?_); rintro e w3 ⟨rfl, hb⟩; have HB3 := Lib.hid (HB2.out.trans (hb.mono HB2.out.size)); clear hb))
        go_ret
        exact ⟨by rw [HE.out]; rfl, by rw [← HWQ.out] at HB3 ⊢; exact HB3.out⟩
      | none =>
        simp only [errV] at HFE
        go_upto_region 8 with (first
          | (refine wpList_load_rowT (by rfl) 59 (.tmp 19) rfl q 2 rfl #[.string dn, .int .i64 A] _ HCR.out Tryz.underlying59 rfl (by kernel_rfl) ?_)
          | (go_at_call 76; (with_reducible refine (HFE.out _).mono ?_); rintro e w3 ⟨rfl, hb⟩; have HB3 := Lib.hid (HB2.out.trans (hb.mono HB2.out.size)); replace HQ := Lib.hid ((hb.block q (bkT_lt HQ.out)).trans HQ.out); replace HT := Lib.hid (HT.out.below hb HT.out.lt); replace HM := Lib.hid (HM.out.below hb); clear hb))
        clear c1 HCR
        obtain ⟨-, -, -, -, -, c4, -⟩ := tx_cells HQ.out
        cases E2 with
        | some e2 =>
          have HE := Lib.hid (show Z = some e2 from HX2.out)
          clear HX2
          simp only [errV] at HMS
          go_wp2_with (go_at_call 77; (with_reducible refine (HMS.out _ HT.out HM.out).mono ?_); rintro e w4 ⟨rfl, hb⟩; have HB4 := Lib.hid (HB3.out.trans (hb.mono HB3.out.size)); clear hb)
          go_ret
          exact ⟨by rw [HE.out]; rfl, by rw [← HWQ.out] at HB4 ⊢; exact HB4.out⟩
        | none =>
          simp only [errV] at HMS
          go_upto_region 11 with (go_at_call 77; (with_reducible refine (HMS.out _ HT.out HM.out).mono ?_); rintro e w4 ⟨rfl, hb⟩; have HB4 := Lib.hid (HB3.out.trans (hb.mono HB3.out.size)); replace HQ := Lib.hid ((hb.block q (bkT_lt HQ.out)).trans HQ.out); clear hb)
          clear c4
          obtain ⟨-, -, -, -, -, -, c5⟩ := tx_cells HQ.out
          by_cases h8 : 8192 < n2
          · have h8I : (8192 : Int) < (n2 : Int) := by omega
            have HE := Lib.hid (show Z = some 2 from HX2.out.trans (if_pos h8))
            clear HX2
            go_wp2_with (fail)
            go_ret
            exact ⟨by rw [HE.out]; rfl, by rw [← HWQ.out] at HB4 ⊢; exact HB4.out⟩
          · have h8I : ¬ (8192 : Int) < (n2 : Int) := by omega
            have HE := Lib.hid (show Z = none from HX2.out.trans (if_neg h8))
            clear HX2
            go_wp2_with (fail)
            go_ret
            exact ⟨by rw [HE.out]; rfl, by rw [← HWQ.out] at HB4 ⊢; exact HB4.out⟩
end Go.Proofs.YtllpnpeppdfjlaaGreatDoor
namespace Go.Proofs.YtllpnpeppdfjlaaGreatDoor
set_option linter.unusedVariables false
set_option linter.unusedSimpArgs false
open Go.RowKit
set_option maxRecDepth 100000
set_option linter.unusedSimpArgs false
set_option linter.unusedVariables false
abbrev txS15 (q : Nat) (ac dn : ByteArray) (S A : Int) (mv sv : Value) (w : World) : Prop := w.heap[q]? = some (.cells #[.string ac, .int .i64 S, .string dn, .int .i64 A, mv, sv] 67 (0, 0))
set_option maxHeartbeats 8000000 in
theorem wuns15_any (x : Tr) (g : Nat) (v : Value) (XS : List Int) (w : World) (hw : WAt w g v XS) (w0 : World) (hg : w0.heap.size ≤ g) (hB : Below w0.heap.size w0 w) (hx : TrE w0 x) (hf : TrFl x) (hl : XS.length + (tr1 x).length + 10 ≤ 140737488355328) :
    Calls Tryz.prog 69 #[.pointer (some ⟨g, 0, none⟩), .agg (trC15 x)] w fun e w' => e = .returned (.tuple #[]) ∧ WsR g v w (XS ++ tr1 x) w' := by
  obtain ⟨ac, S, dn, A, mv, ms, sv, sg⟩ := x
  obtain ⟨⟨a1, c1, e1⟩, ⟨a2, c2, e2⟩⟩ := hx.v
  simp only at e1 e2
  subst e1 e2
  have HLN := Lib.hid (show (tr1 ⟨ac, S, dn, A, .slice a1 ms.length c1, ms, .slice a2 sg.length c2, sg⟩).length = (varint ac.size).length + ac.size + (it1 S).length + ((varint dn.size).length + dn.size) + (it1 A).length + (listL mg1 ms).length from by simp only [tr1, List.length_append, st1_len])
  have HME := Lib.hid (show tr1 ⟨ac, S, dn, A, .slice a1 ms.length c1, ms, .slice a2 sg.length c2, sg⟩ = (((st1 ac ++ it1 S) ++ st1 dn) ++ it1 A) ++ listL mg1 ms from rfl)
  have HL := Lib.hid hl
  have HV1 := Lib.hid (show -9223372036854775808 ≤ S ∧ S ≤ 9223372036854775807 from hf.s)
  have HV2 := Lib.hid (show -9223372036854775808 ≤ A ∧ A ≤ 9223372036854775807 from hf.a)
  have HK1 := Lib.hid (it1_len hf.s)
  have HK2 := Lib.hid (it1_len hf.a)
  have HWM := Lib.hid (fun v XS w hw hB room => wlist15M_any w0 g hg ms (.slice a1 ms.length c1) hx.m hx.e hf.m v XS w hw hB room)
  have HB := Lib.hid hB
  have HG := Lib.hid hg
  have HW0 := Lib.hid hw
  obtain ⟨M1, hM1⟩ : ∃ z, z = tr1 ⟨ac, S, dn, A, .slice a1 ms.length c1, ms, .slice a2 sg.length c2, sg⟩ := ⟨_, rfl⟩
  rw [← hM1] at HLN HME HL ⊢
  obtain ⟨n1, hn1⟩ : ∃ z, z = ms.length := ⟨_, rfl⟩
  obtain ⟨n2, hn2⟩ : ∃ z, z = sg.length := ⟨_, rfl⟩
  rw [← hn1] at HWM
  have hCe : trC15 ⟨ac, S, dn, A, .slice a1 ms.length c1, ms, .slice a2 sg.length c2, sg⟩ = #[.string ac, .int .i64 S, .string dn, .int .i64 A, .slice a1 n1 c1, .slice a2 n2 c2] := by rw [hn1, hn2]; rfl
  rw [hCe]
  clear hM1 hn1 hn2 hCe hx hf hg hl hB
  have HBA := Lib.hid (below_alloc w (.cells #[.string ac, .int .i64 S, .string dn, .int .i64 A, .slice a1 n1 c1, .slice a2 n2 c2] 67))
  have HQ := Lib.hid (show txS15 w.heap.size ac dn S A (.slice a1 n1 c1) (.slice a2 n2 c2) (w.alloc (.cells #[.string ac, .int .i64 S, .string dn, .int .i64 A, .slice a1 n1 c1, .slice a2 n2 c2] 67)) from heap_alloc_new w (.cells #[.string ac, .int .i64 S, .string dn, .int .i64 A, .slice a1 n1 c1, .slice a2 n2 c2] 67))
  have HW := Lib.hid (hw.below HBA.out)
  have HS := Lib.hid (WStep.of_below (p := g) (v := v) HBA.out)
  have HNE := Lib.hid (show w.heap.size ≠ g ∧ some w.heap.size ≠ v.ownBlock from ⟨by have := hw.lt; omega, fun e => by have := (hw.ne _ e.symm).2; omega⟩)
  have HQB := Lib.hid (show w.heap.size < (w.alloc (.cells #[.string ac, .int .i64 S, .string dn, .int .i64 A, .slice a1 n1 c1, .slice a2 n2 c2] 67)).heap.size by simp)
  clear hw
  go_enter Tryz.func69, Tryz.ntmps69
  go_upto_region 1 with (fail)
  obtain ⟨q, hq⟩ : ∃ q, q = w.heap.size := ⟨_, rfl⟩
  rw [← hq] at HQ HNE HQB ⊢
  clear hq HBA
  generalize w.alloc (.cells #[.string ac, .int .i64 S, .string dn, .int .i64 A, .slice a1 n1 c1, .slice a2 n2 c2] 67) = w1 at *
  have HSX := Lib.hid (show ∀ v' X, WStep g v v' w1 X → txS15 q ac dn S A (.slice a1 n1 c1) (.slice a2 n2 c2) X from fun v' X hs => (hs.block q HQB.out HNE.out.1 HNE.out.2).trans HQ.out)
  have HZ := Lib.hid (WStep.refl g v w1)
  refine wp_region_T (txS15 q ac dn S A (.slice a1 n1 c1) (.slice a2 n2 c2)) [0, 1, 2, 3, 4, 5, 6, 7, 8, 9, 10, 11, 12, 13, 14] (by kernel_rfl) ?_
  replace HW := Lib.hid (HW.out.below (Below.refl _ _).drew)
  replace HS := Lib.hid (HS.out.trans (WStep.of_below (Below.refl _ _).drew))
  replace HZ := Lib.hid (HZ.out.trans (WStep.of_below (Below.refl _ _).drew))
  generalize World.drew _ = d0 at *
  refine anyT_take [] (i := 0) (v := .pointer (some ⟨g, 0, none⟩)) rfl (by kernel_rfl) (by kernel_rfl) (by kernel_rfl) (fun _ _ _ h => h) (by kernel_rfl) (Or.inl ⟨by rfl, fun w' _ => by go_simp⟩) (HSX.out _ _ HZ.out) ?_
  try simp only [List.getElem_toArray, List.getElem_cons_succ, List.getElem_cons_zero, Act.put, List.setIfInBounds_toArray, List.set_cons_zero, List.set_cons_succ]
  refine anyT_take [] (i := 1) (v := .pointer (some ⟨q, 0, none⟩)) rfl (by kernel_rfl) (by kernel_rfl) (by kernel_rfl) (fun _ _ _ h => h) (by kernel_rfl) (Or.inl ⟨by rfl, fun w' _ => by go_simp⟩) (HSX.out _ _ HZ.out) ?_
  try simp only [List.getElem_toArray, List.getElem_cons_succ, List.getElem_cons_zero, Act.put, List.setIfInBounds_toArray, List.set_cons_zero, List.set_cons_succ]
  refine anyT_take [] (i := 4) (v := .pointer (some ⟨q, 1, none⟩)) rfl (by kernel_rfl) (by kernel_rfl) (by kernel_rfl) (fun _ _ _ h => h) (by kernel_rfl) (Or.inl ⟨by rfl, fun w' _ => by go_simp⟩) (HSX.out _ _ HZ.out) ?_
  try simp only [List.getElem_toArray, List.getElem_cons_succ, List.getElem_cons_zero, Act.put, List.setIfInBounds_toArray, List.set_cons_zero, List.set_cons_succ]
  refine anyT_take [] (i := 7) (v := .pointer (some ⟨q, 2, none⟩)) rfl (by kernel_rfl) (by kernel_rfl) (by kernel_rfl) (fun _ _ _ h => h) (by kernel_rfl) (Or.inl ⟨by rfl, fun w' _ => by go_simp⟩) (HSX.out _ _ HZ.out) ?_
  try simp only [List.getElem_toArray, List.getElem_cons_succ, List.getElem_cons_zero, Act.put, List.setIfInBounds_toArray, List.set_cons_zero, List.set_cons_succ]
  refine anyT_take [] (i := 8) (v := .pointer (some ⟨q, 2, none⟩)) rfl (by kernel_rfl) (by kernel_rfl) (by kernel_rfl) (fun _ _ _ h => h) (by kernel_rfl) (Or.inl ⟨by rfl, fun w' _ => by go_simp⟩) (HSX.out _ _ HZ.out) ?_
  try simp only [List.getElem_toArray, List.getElem_cons_succ, List.getElem_cons_zero, Act.put, List.setIfInBounds_toArray, List.set_cons_zero, List.set_cons_succ]
  refine anyT_take [] (i := 11) (v := .pointer (some ⟨q, 2, none⟩)) rfl (by kernel_rfl) (by kernel_rfl) (by kernel_rfl) (fun _ _ _ h => h) (by kernel_rfl) (Or.inl ⟨by rfl, fun w' _ => by go_simp⟩) (HSX.out _ _ HZ.out) ?_
  try simp only [List.getElem_toArray, List.getElem_cons_succ, List.getElem_cons_zero, Act.put, List.setIfInBounds_toArray, List.set_cons_zero, List.set_cons_succ]
  refine anyT_take [] (i := 12) (v := .pointer (some ⟨q, 3, none⟩)) rfl (by kernel_rfl) (by kernel_rfl) (by kernel_rfl) (fun _ _ _ h => h) (by kernel_rfl) (Or.inl ⟨by rfl, fun w' _ => by go_simp⟩) (HSX.out _ _ HZ.out) ?_
  try simp only [List.getElem_toArray, List.getElem_cons_succ, List.getElem_cons_zero, Act.put, List.setIfInBounds_toArray, List.set_cons_zero, List.set_cons_succ]
  refine anyT_take [] (i := 2) (v := .string ac) rfl (by kernel_rfl) (by kernel_rfl) (by kernel_rfl) (fun _ _ _ h => h) (by kernel_rfl) (Or.inl ⟨by rfl, fun w' hS => by have c := (tx_cells hS).1; go_simp⟩) (HSX.out _ _ HZ.out) ?_
  try simp only [List.getElem_toArray, List.getElem_cons_succ, List.getElem_cons_zero, Act.put, List.setIfInBounds_toArray, List.set_cons_zero, List.set_cons_succ]
  refine anyT_take [] (i := 5) (v := .int .i64 S) rfl (by kernel_rfl) (by kernel_rfl) (by kernel_rfl) (fun _ _ _ h => h) (by kernel_rfl) (Or.inl ⟨by rfl, fun w' hS => by have c := (tx_cells hS).2.1; go_simp⟩) (HSX.out _ _ HZ.out) ?_
  try simp only [List.getElem_toArray, List.getElem_cons_succ, List.getElem_cons_zero, Act.put, List.setIfInBounds_toArray, List.set_cons_zero, List.set_cons_succ]
  refine anyT_take [] (i := 9) (v := .string dn) rfl (by kernel_rfl) (by kernel_rfl) (by kernel_rfl) (fun _ _ _ h => h) (by kernel_rfl) (Or.inl ⟨by rfl, fun w' hS => by have c := (tx_cells hS).2.2.2.1; go_simp⟩) (HSX.out _ _ HZ.out) ?_
  try simp only [List.getElem_toArray, List.getElem_cons_succ, List.getElem_cons_zero, Act.put, List.setIfInBounds_toArray, List.set_cons_zero, List.set_cons_succ]
  refine anyT_take [] (i := 13) (v := .int .i64 A) rfl (by kernel_rfl) (by kernel_rfl) (by kernel_rfl) (fun _ _ _ h => h) (by kernel_rfl) (Or.inl ⟨by rfl, fun w' hS => by have c := (tx_cells hS).2.2.2.2.1; go_simp⟩) (HSX.out _ _ HZ.out) ?_
  try simp only [List.getElem_toArray, List.getElem_cons_succ, List.getElem_cons_zero, Act.put, List.setIfInBounds_toArray, List.set_cons_zero, List.set_cons_succ]
  refine anyT_one (i := 3) (by kernel_rfl) rfl (fun K hK => ?_)
  rw [if_pos (by rfl)]
  try simp only [List.getElem_toArray, List.getElem_cons_succ, List.getElem_cons_zero]
  (go_simp; (with_reducible refine (wtext_any g _ ac _ d0 HW.out (by have := HL.out; have := HLN.out; omega)).mono ?_); rintro e w2 hp; obtain ⟨rfl, v2, hw, hs⟩ := wpS_next hp; replace HW := Lib.hid hw; replace HS := Lib.hid (HS.out.trans hs); replace HZ := Lib.hid (HZ.out.trans hs); clear hp hw hs)
  refine hK _ _ (fun _ => HSX.out _ _ HZ.out) ?_
  clear hK K
  try simp only [List.getElem_toArray, List.getElem_cons_succ, List.getElem_cons_zero, Act.put, List.setIfInBounds_toArray, List.set_cons_zero, List.set_cons_succ]
  refine anyT_one (i := 6) (by kernel_rfl) rfl (fun K hK => ?_)
  rw [if_pos (by rfl)]
  try simp only [List.getElem_toArray, List.getElem_cons_succ, List.getElem_cons_zero]
  (go_simp; (with_reducible refine (wint_any g _ S _ w2 HW.out HV1.out.1 HV1.out.2 (by have := HL.out; have := HLN.out; have := HK1.out; have := HK2.out; (try simp only [List.length_append, numsOf_length]); omega)).mono ?_); rintro e w3 hp; obtain ⟨rfl, v3, hw, hs⟩ := wpS_next hp; replace HW := Lib.hid hw; replace HS := Lib.hid (HS.out.trans hs); replace HZ := Lib.hid (HZ.out.trans hs); clear hp hw hs)
  refine hK _ _ (fun _ => HSX.out _ _ HZ.out) ?_
  clear hK K
  try simp only [List.getElem_toArray, List.getElem_cons_succ, List.getElem_cons_zero, Act.put, List.setIfInBounds_toArray, List.set_cons_zero, List.set_cons_succ]
  refine anyT_one (i := 10) (by kernel_rfl) rfl (fun K hK => ?_)
  rw [if_pos (by rfl)]
  try simp only [List.getElem_toArray, List.getElem_cons_succ, List.getElem_cons_zero]
  (go_simp; (with_reducible refine (wtext_any g _ dn _ w3 HW.out (by have := HL.out; have := HLN.out; have := HK1.out; have := HK2.out; (try simp only [List.length_append, numsOf_length]); have : (varint (zig S)).length = (it1 S).length := rfl; omega)).mono ?_); rintro e w4 hp; obtain ⟨rfl, v4, hw, hs⟩ := wpS_next hp; replace HW := Lib.hid hw; replace HS := Lib.hid (HS.out.trans hs); replace HZ := Lib.hid (HZ.out.trans hs); clear hp hw hs)
  refine hK _ _ (fun _ => HSX.out _ _ HZ.out) ?_
  clear hK K
  try simp only [List.getElem_toArray, List.getElem_cons_succ, List.getElem_cons_zero, Act.put, List.setIfInBounds_toArray, List.set_cons_zero, List.set_cons_succ]
  refine anyT_one (i := 14) (by kernel_rfl) rfl (fun K hK => ?_)
  rw [if_pos (by rfl)]
  try simp only [List.getElem_toArray, List.getElem_cons_succ, List.getElem_cons_zero]
  (go_simp; (with_reducible refine (wint_any g _ A _ w4 HW.out HV2.out.1 HV2.out.2 (by have := HL.out; have := HLN.out; have := HK1.out; have := HK2.out; (try simp only [List.length_append, numsOf_length]); have : (varint (zig S)).length = (it1 S).length := rfl; omega)).mono ?_); rintro e w5 hp; obtain ⟨rfl, v5, hw, hs⟩ := wpS_next hp; replace HW := Lib.hid hw; replace HS := Lib.hid (HS.out.trans hs); replace HZ := Lib.hid (HZ.out.trans hs); clear hp hw hs)
  refine hK _ _ (fun _ => HSX.out _ _ HZ.out) ?_
  clear hK K
  try simp only [List.getElem_toArray, List.getElem_cons_succ, List.getElem_cons_zero, Act.put, List.setIfInBounds_toArray, List.set_cons_zero, List.set_cons_succ]
  refine anyT_done (by kernel_rfl) ?_ _
  have c4 := (tx_cells (HSX.out _ _ HZ.out)).2.2.2.2.2.1
  go_wp2_with (go_at_call 120; (with_reducible refine (HWM.out _ _ w5 HW.out (HB.out.trans (HS.out.below HW0.out HG.out)) (by have := HL.out; have := HLN.out; have := HK1.out; have := HK2.out; simp only [List.length_append, numsOf_length]; have : (varint (zig S)).length = (it1 S).length := rfl; have : (varint (zig A)).length = (it1 A).length := rfl; omega)).mono ?_); rintro e w6 ⟨rfl, v6, hw6, hs6⟩; replace HW := Lib.hid hw6; replace HS := Lib.hid (HS.out.trans hs6); clear hw6 hs6)
  go_end0
  refine ⟨rfl, v6, ?_, HS.out⟩
  have h := HW.out
  rw [HME.out]
  simpa only [st1, it1, List.append_assoc] using h
/-- a transaction's row, and its parts beside it -/
structure TxB (w : World) (q : Nat) (C : Array Value) (x : Tr) (wr : World) : Prop where
  r : wr.heap[q]? = some (.cells C 67 (0, 0))
  x : TrE wr x
  b : Below w.heap.size w wr
theorem TxB.call {w : World} {q : Nat} {C : Array Value} {x : Tr} {wr wr' : World} (m : TxB w q C x wr) (h : Below wr.heap.size wr wr') : TxB w q C x wr' := ⟨(h.block q (bkT_lt m.r)).trans m.r, m.x.below h, m.b.trans (h.mono m.b.size)⟩
end Go.Proofs.YtllpnpeppdfjlaaGreatDoor
