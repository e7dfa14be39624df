/- Part 24 of the proof. -/
import Derived.Test.YtejglhlodfhgkaaGreatDoorXv15
import Derived.Test.YtejglhlodfhgkaaGreatDoorXv16
import Derived.Test.YtejglhlodfhgkaaGreatDoorXv19
import Derived.Test.YtejglhlodfhgkaaGreatDoorXv23
namespace Go.Proofs.YtejglhlodfhgkaaGreatDoor
set_option linter.unusedVariables false
set_option linter.unusedSimpArgs false
open Go.RowKit
set_option maxRecDepth 100000
set_option linter.unusedSimpArgs false
set_option linter.unusedVariables false
theorem chkD_cases (s : ByteArray) : chkD s = none ∨ chkD s = some 40 := by unfold chkD; split; exact .inl rfl; exact .inr rfl
/-- what lies in memory while the reference's Check goes on -/
structure CkM15 (w : World) (q : Nat) (C : Array Value) (mv : Value) (ms : List Mg) (wr : World) : Prop where
  b : Below w.heap.size w wr
  r : wr.heap[q]? = some (.cells C 27 (0, 0))
  m : MsK wr mv ms
theorem CkM15.call {w : World} {q : Nat} {C : Array Value} {mv : Value} {ms : List Mg} {wr w' : World} (h : CkM15 w q C mv ms wr) (hb : Below wr.heap.size wr w') : CkM15 w q C mv ms w' := ⟨h.b.trans (hb.mono h.b.size), (hb.block q (bkT_lt h.r)).trans h.r, h.m.below hb⟩
def CkR15 (w : World) (q : Nat) (C : Array Value) (mv : Value) (ms : List Mg) (k : Nat) (wr : World) : Prop := CkM15 w q C mv ms wr ∧ ChkK ms k
def fee15 (E : Option Nat) (A : Int) : Option Nat := match E with
  | some e => some e
  | none => if A < 0 ∨ 1152921504606846976 < A then some 44 else none
def end15 (E : Option Nat) (n : Nat) : Option Nat := match E with
  | some e => some e
  | none => if 8192 < n then some 2 else none
def all15 (F R : Option Nat) : Option Nat := match F with
  | some e => some e
  | none => R
theorem fee15_bad {A : Int} (h : A < 0 ∨ 1152921504606846976 < A) : fee15 none A = some 44 := if_pos h
theorem fee15_ok {A : Int} (h : ¬ (A < 0 ∨ 1152921504606846976 < A)) : fee15 none A = none := if_neg h
theorem shv_any (KD : Int) (t n d : Nat) (h : shp KD = (t, n, d)) (w : World) : Calls Tryz.prog 22 #[.int .i64 KD] w fun e w' => e = .returned (.tuple #[.int .i64 (t : Int), .int .i64 (n : Int), .int .i64 (d : Int)]) ∧ w' = w := by
  have h2 := rshape15_any KD w
  unfold shV at h2
  rw [h] at h2
  exact h2
set_option maxHeartbeats 16000000 in
theorem rcheck15_any (x : Tr) (w : World) (hx : TrE w x) (ha : x.acc.size ≤ 9223372036854775807) (hd : x.den.size ≤ 140737488351232) : Calls Tryz.prog 15 #[.agg (trC15 x)] w fun e w' => e = .returned (.int .i64 (numE (chkX (pxP x)))) ∧ Below w.heap.size w w' := by
  obtain ⟨ac, S, dn, A, mv, ms, sv, sg⟩ := x
  obtain ⟨⟨a1, c1, e1⟩, ⟨a2, c2, e2⟩⟩ := hx.v
  simp only at e1 e2 ha hd
  subst e1 e2
  obtain ⟨n1, hn1⟩ : ∃ z, z = ms.length := ⟨_, rfl⟩
  obtain ⟨n2, hn2⟩ : ∃ z, z = sg.length := ⟨_, rfl⟩
  have hCe : trC15 ⟨ac, S, dn, A, .slice a1 ms.length c1, ms, .slice a2 sg.length c2, sg⟩ = #[.string ac, .int .i64 S, .string dn, .int .i64 A, .slice a1 n1 c1, .slice a2 n2 c2] := by rw [hn1, hn2]; rfl
  rw [hCe]
  have hba := below_alloc w (.cells #[.string ac, .int .i64 S, .string dn, .int .i64 A, .slice a1 n1 c1, .slice a2 n2 c2] 27)
  have M := Lib.hid (show CkM15 w w.heap.size #[.string ac, .int .i64 S, .string dn, .int .i64 A, .slice a1 n1 c1, .slice a2 n2 c2] (.slice a1 n1 c1) ms (w.alloc (.cells #[.string ac, .int .i64 S, .string dn, .int .i64 A, .slice a1 n1 c1, .slice a2 n2 c2] 27)) from ⟨hba, heap_alloc_new w _, MsK.below ⟨by rw [hn1]; exact hx.m, hx.e⟩ hba⟩)
  have HAC := Lib.hid (fun w => rnamed15_any ac w ha)
  have HCD := Lib.hid (fun w => rcheck14_any dn w (by omega))
  have HX := Lib.hid (show chkX (pxP ⟨ac, S, dn, A, .slice a1 ms.length c1, ms, .slice a2 sg.length c2, sg⟩) = if accB ac then (if S < 0 ∨ 1099511627776 < S then some 43 else all15 (fee15 (chkD dn) A) (end15 (chkL (ms.map mgP)) n2)) else some 42 from by rw [hn2]; rfl)
  have hn2I : (n2 : Int) ≤ 9223372036854775807 := by
    obtain ⟨_, _, _, _, h2, _⟩ := hx.s
    simp only at h2
    unfold maxLen at h2
    omega
  have hn1I : (n1 : Int) ≤ 9223372036854775807 := by
    obtain ⟨_, _, _, _, h2⟩ := hx.m.len
    simp only at h2
    unfold maxLen at h2
    omega
  have HL1 := Lib.hid (fun (h : n1 < 1 ∨ 8 < n1) => show chkL (ms.map mgP) = some 1 from chkL_len (by rw [List.length_map, ← hn1]; omega))
  have HL2 := Lib.hid (fun (h1 : 1 ≤ n1) (h2 : n1 ≤ 8) => show chkL (ms.map mgP) = chkMs (ms.map mgP) from chkL_ms (by rw [List.length_map, ← hn1]; omega) (by rw [List.length_map, ← hn1]; omega))
  have HN1 := Lib.hid hn1
  obtain ⟨Z, hZ⟩ : ∃ z, z = chkX (pxP ⟨ac, S, dn, A, .slice a1 ms.length c1, ms, .slice a2 sg.length c2, sg⟩) := ⟨_, rfl⟩
  rw [← hZ] at HX ⊢
  obtain ⟨B1, hB1⟩ : ∃ z, z = accB ac := ⟨_, rfl⟩
  have HCS := Lib.hid (chkD_cases dn)
  obtain ⟨E1, hE1⟩ : ∃ z, z = chkD dn := ⟨_, rfl⟩
  obtain ⟨E2, hE2⟩ : ∃ z, z = chkL (ms.map mgP) := ⟨_, rfl⟩
  rw [← hB1] at HAC HX
  rw [← hE1] at HCD HX HCS
  rw [← hE2] at HX HL1 HL2
  clear hZ hB1 hE1 hE2 hn1 hn2 hCe hx hba ha hd
  obtain ⟨CC, hCC⟩ : ∃ z : Array Value, z = #[.string ac, .int .i64 S, .string dn, .int .i64 A, .slice a1 n1 c1, .slice a2 n2 c2] := ⟨_, rfl⟩
  have HCC := Lib.hid hCC
  have HTC := Lib.hid (fun (W : World) (h : CkM15 w w.heap.size CC (.slice a1 n1 c1) ms W) => tx_cells (show W.heap[w.heap.size]? = some (.cells #[.string ac, .int .i64 S, .string dn, .int .i64 A, .slice a1 n1 c1, .slice a2 n2 c2] 27 (0, 0)) from by rw [← hCC]; exact h.r))
  rw [← hCC] at M ⊢
  clear hCC
  go_enter Tryz.func15, Tryz.ntmps15
  go_upto_region 1 with (fail)
  obtain ⟨q, hq⟩ : ∃ z, z = w.heap.size := ⟨_, rfl⟩
  rw [← hq] at M HTC ⊢
  have HWQ := Lib.hid hq
  clear hq
  generalize w.alloc (.cells CC 27) = w1 at *
  obtain ⟨c0, -⟩ := HTC.out w1 M.out
  cases B1 with
  | false =>
    have HE := Lib.hid (show Z = some 42 from by rw [HX.out]; rfl)
    go_wp2_with (go_at_call 61; (with_reducible refine (HAC.out _).mono ?_); rintro e w2 ⟨rfl, rfl⟩)
    go_ret
    exact ⟨by rw [HE.out]; rfl, M.out.b⟩
  | true =>
  go_upto_region 3 with (go_at_call 61; (with_reducible refine (HAC.out _).mono ?_); rintro e w2 ⟨rfl, rfl⟩)
  have HX2 := Lib.hid (HX.out.trans (if_pos trivial))
  clear c0 HAC HX
  obtain ⟨-, c1_, -⟩ := HTC.out w2 M.out
  by_cases hs1 : S < 0
  · have HE := Lib.hid (show Z = some 43 from HX2.out.trans (if_pos (.inl hs1)))
    go_wp2_with (fail)
    go_ret
    exact ⟨by rw [HE.out]; rfl, M.out.b⟩
  by_cases hs2 : 1099511627776 < S
  · have HE := Lib.hid (show Z = some 43 from HX2.out.trans (if_pos (.inr hs2)))
    go_wp2_with (fail)
    go_ret
    exact ⟨by rw [HE.out]; rfl, M.out.b⟩
  have HX3 := Lib.hid (HX2.out.trans (if_neg (by omega)))
  clear HX2
  go_upto_region 5 with (fail)
  clear c1_ hs1 hs2
  obtain ⟨-, -, -, c2_, -⟩ := HTC.out w2 M.out
  have hcs := HCS.out
  clear HCS
  rcases hcs with rfl | rfl
  case inr =>
    have HE := Lib.hid (show Z = some 40 from HX3.out)
    simp only [numE] at HCD
    go_wp2_with (go_at_call 62; (with_reducible refine (HCD.out _).mono ?_); rintro e w3 ⟨rfl, hb⟩; have M3 := Lib.hid (M.out.call hb); clear hb)
    go_ret
    exact ⟨by rw [HE.out]; rfl, M3.out.b⟩
  simp only [numE] at HCD
  go_upto_region 8 with (go_at_call 62; (with_reducible refine (HCD.out _).mono ?_); rintro e w3 ⟨rfl, hb⟩; replace M := Lib.hid (M.out.call hb); clear hb)
  clear c2_ HCD
  obtain ⟨-, -, -, -, c3_, -⟩ := HTC.out w3 M.out
  by_cases ha1 : A < 0
  · have HE := Lib.hid (show Z = some 44 from by rw [HX3.out, fee15_bad (.inl ha1)]; rfl)
    go_wp2_with (fail)
    go_ret
    exact ⟨by rw [HE.out]; rfl, M.out.b⟩
  by_cases ha2 : 1152921504606846976 < A
  · have HE := Lib.hid (show Z = some 44 from by rw [HX3.out, fee15_bad (.inr ha2)]; rfl)
    go_wp2_with (fail)
    go_ret
    exact ⟨by rw [HE.out]; rfl, M.out.b⟩
  have HX4 := Lib.hid (show Z = end15 E2 n2 from by rw [HX3.out, fee15_ok (by omega)]; rfl)
  clear HX3
  go_upto_region 10 with (fail)
  clear c3_ ha1 ha2
  obtain ⟨-, -, -, -, -, c4_, -⟩ := HTC.out w3 M.out
  by_cases hm1 : n1 < 1
  · have hm1I : (n1 : Int) < 1 := by omega
    have HE := Lib.hid (show Z = some 1 from by rw [HX4.out, HL1.out (.inl hm1)]; rfl)
    go_wp2_with (fail)
    go_ret
    exact ⟨by rw [HE.out]; rfl, M.out.b⟩
  have hm1I : ¬ (n1 : Int) < 1 := by omega
  by_cases hm2 : 8 < n1
  · have hm2I : (8 : Int) < (n1 : Int) := by omega
    have HE := Lib.hid (show Z = some 1 from by rw [HX4.out, HL1.out (.inr hm2)]; rfl)
    go_wp2_with (fail)
    go_ret
    exact ⟨by rw [HE.out]; rfl, M.out.b⟩
  have hm2I : ¬ (8 : Int) < (n1 : Int) := by omega
  have HL3 := Lib.hid (HL2.out (by omega) (by omega))
  clear HL1 HL2
  go_upto_region 12 with (fail)
  clear c4_ hm1 hm2 hm1I hm2I
  have HR0 := Lib.hid (show CkR15 w q CC (.slice a1 n1 c1) ms 0 w3 from ⟨M.out, fun i m h => by omega⟩)
  clear M
  go_wp2_with (fail)
  go_loopw [4] (fun v wr => ∃ k : Nat, k ≤ n1 ∧ v = .int .i64 (k : Int) ∧ Hid (CkR15 w q CC (.slice a1 n1 c1) ms k wr)) (fun v _ => n1 - (intOf v).toNat)
  case atStart => exact ⟨0, Nat.zero_le _, rfl, HR0⟩
  case round =>
    clear HR0
    obtain ⟨wx, hwx⟩ : ∃ z, z = wr := ⟨_, rfl⟩
    subst hwx
    obtain ⟨k, hkn, rfl, HM⟩ := hrel
    have M := Lib.hid HM.out.1
    have HK := Lib.hid HM.out.2
    clear HM
    obtain ⟨-, -, -, -, -, c4_, -⟩ := HTC.out wx M.out
    by_cases hlt : k < n1
    · have hltI : (k : Int) < (n1 : Int) := by omega
      obtain ⟨m, hm⟩ : ∃ x, ms[k]? = some x := ⟨ms[k]'(by have := HN1.out; omega), List.getElem?_eq_getElem _⟩
      have hv := M.out.m.1
      rw [HN1.out] at hv
      obtain ⟨ab, ao, rfl, hab, hra⟩ := hv.at hm
      have HRA := Lib.hid (show wx.rangeAt ab (ao + k * 4) (mgC m).toList from hra)
      have HME := Lib.hid (M.out.m.2 m (List.mem_of_getElem? hm))
      obtain ⟨⟨ta, tc, he1⟩, ⟨ia, ic, he2⟩, ⟨da, dc, he3⟩⟩ := HME.out.v
      have HBAD := Lib.hid (fun e => chkMs_first ms k m e HK.out hm)
      have HNX := Lib.hid (fun (h : chkM (mgP m) = none) => show ChkK ms (k + 1) from fun i y hi hy => by
        by_cases e : i = k
        · subst e; rw [hm] at hy; cases hy; exact h
        · exact HK.out i y (by omega) hy)
      have HONE := Lib.hid (mgC_one HME.out.v)
      obtain ⟨KD, hKD⟩ : ∃ z, z = m.kind := ⟨_, rfl⟩
      obtain ⟨nt, hnt⟩ : ∃ z, z = m.ts.length := ⟨_, rfl⟩
      obtain ⟨ni, hni⟩ : ∃ z, z = m.is.length := ⟨_, rfl⟩
      obtain ⟨nd, hnd⟩ : ∃ z, z = m.ds.length := ⟨_, rfl⟩
      have hMC : mgC m = #[.int .i64 KD, .slice ta nt tc, .slice ia ni ic, .slice da nd dc] := by unfold mgC; rw [he1, he2, he3, hKD, hnt, hni, hnd]
      obtain ⟨t, nn, d, hs⟩ : ∃ t n d, shp KD = (t, n, d) := ⟨_, _, _, rfl⟩
      have HSH := Lib.hid (fun W => shv_any KD t nn d hs W)
      have hle := shp_le KD
      rw [hs] at hle
      obtain ⟨ht5, hn4, hd3⟩ : t ≤ 5 ∧ nn ≤ 4 ∧ d ≤ 3 := hle
      have HPOS := Lib.hid (show kindB KD = true → 1 ≤ t + nn + d from fun h => by have := shp_pos h; rw [hs] at this; exact this)
      have HZERO := Lib.hid (show kindB KD = false → t = 0 ∧ nn = 0 ∧ d = 0 from fun h => by have := shp_zero h; rw [hs] at this; injection this with a b; injection b with b c; exact ⟨a, b, c⟩)
      have HNO := Lib.hid (show (kindB KD = false ∨ nt ≠ t ∨ ni ≠ nn ∨ nd ≠ d) → E2 = some 1 from fun h => by
        rw [HL3.out]
        refine HBAD.out 1 (chk_form15 (form_no ?_))
        show kindB m.kind = false ∨ m.ts.length ≠ (shp m.kind).1 ∨ m.is.length ≠ (shp m.kind).2.1 ∨ (m.ds.map Tb.bs).length ≠ (shp m.kind).2.2
        rw [← hKD, hs, List.length_map, ← hnt, ← hni, ← hnd]; exact h)
      have HYES := Lib.hid (show kindB KD = true → nt = t → ni = nn → nd = d → formM (mgP m) = true from fun h1 h2 h3 h4 => by
        refine form_yes (by show kindB m.kind = true; rw [← hKD]; exact h1) ?_ ?_ ?_
        · show m.ts.length = (shp m.kind).1; rw [← hKD, hs, ← hnt]; exact h2
        · show m.is.length = (shp m.kind).2.1; rw [← hKD, hs, ← hni]; exact h3
        · show (m.ds.map Tb.bs).length = (shp m.kind).2.2; rw [List.length_map, ← hKD, hs, ← hnd]; exact h4)
      have HNT := Lib.hid (show nt = m.ts.length ∧ nd = m.ds.length from ⟨hnt, hnd⟩)
      have HTX := Lib.hid (show StIn wx (.slice ta nt tc) m.ts from by have h := HME.out.t; rw [he1, ← hnt] at h; exact h)
      have HDX := Lib.hid (show TbIn wx (.slice da nd dc) m.ds from by have h := HME.out.d; rw [he3, ← hnd] at h; exact h)
      have HDB := Lib.hid HME.out.b
      have hntI : (nt : Int) ≤ 9223372036854775807 := by have := HTX.out.len_le; unfold maxLen at this; rw [← hnt] at this; omega
      have hniI : (ni : Int) ≤ 9223372036854775807 := by have := HME.out.i.len_le; unfold maxLen at this; rw [← hni] at this; omega
      have hndI : (nd : Int) ≤ 9223372036854775807 := by have := HDX.out.len_le; unfold maxLen at this; rw [← hnd] at this; omega
      obtain ⟨MC, hMCe⟩ : ∃ z, z = mgC m := ⟨_, rfl⟩
      have HMS := Lib.hid (show MC.size = 4 from by rw [hMCe]; rfl)
      have HMG := Lib.hid (fun (W : World) (g : Nat) (h : W.heap[g]? = some (.cells MC 112 (0, 0))) => mg_cells (show W.heap[g]? = some (.cells #[.int .i64 KD, .slice ta nt tc, .slice ia ni ic, .slice da nd dc] 112 (0, 0)) from by rw [← hMC, ← hMCe]; exact h))
      rw [← hMCe] at HRA HONE
      clear hv hab hra hm he1 he2 he3 hKD hnt hni hnd hMC hs hMCe HME
      go_upto_region 16 with (first
        | (refine wpList_load_rowT (by rfl) 112 (.tmp 60) rfl ab (ao + k * 4) rfl MC _ HRA.out Tryz.underlying112 rfl (by rw [HMS.out]; kernel_rfl) ?_)
        | (refine wpList_store_row rfl 112 (.tmp 5) (.tmp 61) rfl wx.heap.size MC rfl rfl 112 _ (heap_alloc_new _ _) (by rw [HMS.out]; kernel_rfl) (by rw [HMS.out]; rfl) HONE.out ?_; rw [World.setRow_alloc_new]))
      clear c4_ HRA HONE
      have hb1 := below_alloc wx (.cells MC 112)
      have hg1 := heap_alloc_new wx (.cells MC 112)
      obtain ⟨g, hg⟩ : ∃ z, z = wx.heap.size := ⟨_, rfl⟩
      rw [← hg] at hg1 ⊢
      obtain ⟨k0, k1, k2, k3⟩ := HMG.out _ g hg1
      replace M := Lib.hid (M.out.call hb1)
      replace HTX := Lib.hid (HTX.out.below hb1)
      replace HDX := Lib.hid (HDX.out.below hb1)
      replace HDB := Lib.hid (fun t ht => (HDB.out t ht).below hb1)
      clear hb1 hg1 hg HMG
      generalize wx.alloc (.cells MC 112) = wy at *
      cases hkb : kindB KD with
      | false =>
        obtain ⟨rfl, rfl, rfl⟩ := HZERO.out hkb
        have HE := Lib.hid (show Z = some 1 from by rw [HX4.out, HNO.out (.inl hkb)]; rfl)
        clear hkb
        go_wp2_with (go_at_call 22; (with_reducible refine (HSH.out _).mono ?_); rintro e wz ⟨rfl, rfl⟩)
        go_ret
        exact ⟨by rw [HE.out]; rfl, M.out.b⟩
      | true =>
        have hpos := HPOS.out hkb
        have hsum : ¬ ((t : Int) + (nn : Int) + (d : Int)) = 0 := by omega
        have HFY := Lib.hid (HYES.out hkb)
        clear hkb HZERO HPOS HYES
        go_upto_region 17 with (go_at_call 22; (with_reducible refine (HSH.out _).mono ?_); rintro e wz ⟨rfl, rfl⟩)
        by_cases q1 : nt = t
        case neg =>
          have q1I : ¬ (nt : Int) = (t : Int) := by omega
          have HE := Lib.hid (show Z = some 1 from by rw [HX4.out, HNO.out (.inr (.inl q1))]; rfl)
          go_wp2_with (fail)
          go_ret
          exact ⟨by rw [HE.out]; rfl, M.out.b⟩
        by_cases q2 : ni = nn
        case neg =>
          have q2I : ¬ (ni : Int) = (nn : Int) := by omega
          have q1I : (nt : Int) = (t : Int) := by omega
          have HE := Lib.hid (show Z = some 1 from by rw [HX4.out, HNO.out (.inr (.inr (.inl q2)))]; rfl)
          clear q1
          go_wp2_with (fail)
          go_ret
          exact ⟨by rw [HE.out]; rfl, M.out.b⟩
        by_cases q3 : nd = d
        case neg =>
          have q3I : ((nd : Int) != (d : Int)) = true := by rw [bne_iff_ne]; omega
          have HE := Lib.hid (show Z = some 1 from by rw [HX4.out, HNO.out (.inr (.inr (.inr q3)))]; rfl)
          have q1I : (nt : Int) = (t : Int) := by omega
          have q2I : (ni : Int) = (nn : Int) := by omega
          clear q1 q2
          go_wp2_with (fail)
          go_ret
          exact ⟨by rw [HE.out]; rfl, M.out.b⟩
        have HFO := Lib.hid (HFY.out q1 q2 q3)
        subst q1 q2 q3
        clear HFY HNO
        go_upto_region 19 with (fail)
        have HT0 := Lib.hid (show ShtS m.ts 0 from fun i s h => by omega)
        go_wp2_with (fail)
        go_loopw [9] (fun v wr => ∃ j : Nat, j ≤ nt ∧ v = .int .i64 (j : Int) ∧ wr = wz ∧ Hid (ShtS m.ts j)) (fun v _ => nt - (intOf v).toNat)
        case atStart => exact ⟨0, Nat.zero_le _, rfl, rfl, HT0⟩
        case round =>
          clear HT0
          obtain ⟨j, hjn, rfl, rfl, HS⟩ := hrel
          by_cases hjl : j < nt
          · have hjlI : (j : Int) < (nt : Int) := by omega
            obtain ⟨s, hs⟩ : ∃ x, m.ts[j]? = some x := ⟨m.ts[j]'(by have := HNT.out.1; omega), List.getElem?_eq_getElem _⟩
            have hv := HTX.out
            rw [HNT.out.1] at hv
            obtain ⟨sb, so, rfl, hsb, hsr⟩ := hv.at hs
            have cs : wr.cell? ⟨sb, so + j, none⟩ = some (.string s) := by have := hsr 0 _ rfl; rw [Nat.mul_one] at this; exact this
            have HSS := Lib.hid hs
            clear hv hsb hsr hs
            by_cases hz : 256 < s.size
            · have hzI : (256 : Int) < (s.size : Int) := by omega
              have HE := Lib.hid (show Z = some 2 from by rw [HX4.out, HL3.out, HBAD.out 2 (chk_long15 HFO.out (long_s HSS.out hz))]; rfl)
              go_wp2_with (fail)
              go_ret
              exact ⟨by rw [HE.out]; rfl, M.out.b⟩
            · have hzI : ¬ (256 : Int) < (s.size : Int) := by omega
              have HS2 := Lib.hid (show ShtS m.ts (j + 1) from fun i y hi hy => by
                by_cases e : i = j
                · subst e; rw [HSS.out] at hy; cases hy; omega
                · exact HS.out i y (by omega) hy)
              go_wp2_with (fail)
              go_roundw
              case rel => exact ⟨j + 1, by omega, by go_num, by trivial, HS2⟩
              case measure => simp [intOf]; omega
          · obtain rfl : j = nt := by omega
            have HD0 := Lib.hid (show ShtD m.ds 0 from fun i s h => by omega)
            go_upto_region 24 with (fail)
            go_wp2_with (fail)
            go_loopw [10] (fun v wr_ => ∃ i : Nat, i ≤ nd ∧ v = .int .i64 (i : Int) ∧ wr_ = wr ∧ Hid (ShtD m.ds i)) (fun v _ => nd - (intOf v).toNat)
            case atStart => exact ⟨0, Nat.zero_le _, rfl, rfl, HD0⟩
            case round =>
              clear HD0
              obtain ⟨i, hin, rfl, rfl, HDD⟩ := hrel
              by_cases hil : i < nd
              · have hilI : (i : Int) < (nd : Int) := by omega
                obtain ⟨b, hb⟩ : ∃ x, m.ds[i]? = some x := ⟨m.ds[i]'(by have := HNT.out.2; omega), List.getElem?_eq_getElem _⟩
                have hv := HDX.out
                rw [HNT.out.2] at hv
                obtain ⟨sb, so, rfl, hsb, hsr⟩ := hv.at hb
                obtain ⟨ba, bc, hbv, -, hbl, -⟩ := HDB.out b (List.mem_of_getElem? hb)
                have HBS := Lib.hid hb
                obtain ⟨nb, hnb⟩ : ∃ z, z = b.bs.length := ⟨_, rfl⟩
                have cs : wr.cell? ⟨sb, so + i, none⟩ = some (.slice ba nb bc) := by have := hsr 0 _ rfl; rw [Nat.mul_one, hbv, ← hnb] at this; exact this
                have hnbI : (nb : Int) ≤ 9223372036854775807 := by unfold maxLen at hbl; omega
                have HNB := Lib.hid hnb
                clear hv hsb hsr hb hbv hbl hnb
                by_cases hz : 16384 < nb
                · have hzI : (16384 : Int) < (nb : Int) := by omega
                  have HE := Lib.hid (show Z = some 2 from by rw [HX4.out, HL3.out, HBAD.out 2 (chk_long15 HFO.out (long_d HBS.out (by rw [← HNB.out]; exact hz)))]; rfl)
                  go_wp2_with (fail)
                  go_ret
                  exact ⟨by rw [HE.out]; rfl, M.out.b⟩
                · have hzI : ¬ (16384 : Int) < (nb : Int) := by omega
                  have HD2 := Lib.hid (show ShtD m.ds (i + 1) from fun i' y hi hy => by
                    by_cases e : i' = i
                    · subst e; rw [HBS.out] at hy; cases hy; rw [← HNB.out]; omega
                    · exact HDD.out i' y (by omega) hy)
                  go_wp2_with (fail)
                  go_roundw
                  case rel => exact ⟨i + 1, by omega, by go_num, by trivial, HD2⟩
                  case measure => simp [intOf]; omega
              · obtain rfl : i = nd := by omega
                have HNEXT := Lib.hid (HNX.out (chk_ok15 HFO.out (long_ok (by rw [← HNT.out.1]; exact HS.out) (by rw [← HNT.out.2]; exact HDD.out))))
                go_wp2_with (fail)
                go_roundw
                case rel => exact ⟨k + 1, by omega, by go_num, Lib.hid ⟨M.out, HNEXT.out⟩⟩
                case measure => simp [intOf]; omega
    · obtain rfl : k = n1 := by omega
      have HE2 := Lib.hid (show E2 = none from by rw [HL3.out]; exact chkMs_none ms (by rw [← HN1.out]; exact HK.out))
      obtain ⟨-, -, -, -, -, -, c5_⟩ := HTC.out wx M.out
      by_cases h8 : 8192 < n2
      · have h8I : (8192 : Int) < (n2 : Int) := by omega
        have HE := Lib.hid (show Z = some 2 from by rw [HX4.out, HE2.out]; exact if_pos h8)
        go_wp2_with (fail)
        go_ret
        exact ⟨by rw [HE.out]; rfl, M.out.b⟩
      · have h8I : ¬ (8192 : Int) < (n2 : Int) := by omega
        have HE := Lib.hid (show Z = none from by rw [HX4.out, HE2.out]; exact if_neg h8)
        go_wp2_with (fail)
        go_ret
        exact ⟨by rw [HE.out]; rfl, M.out.b⟩
end Go.Proofs.YtejglhlodfhgkaaGreatDoor
