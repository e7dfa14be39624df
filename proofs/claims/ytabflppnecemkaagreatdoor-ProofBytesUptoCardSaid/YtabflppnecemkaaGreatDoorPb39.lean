/- Part 39 of the proof. -/
import Derived.Test.YtabflppnecemkaaGreatDoorPb15
import Derived.Test.YtabflppnecemkaaGreatDoorPb17
import Derived.Test.YtabflppnecemkaaGreatDoorPb25
namespace Go.Proofs.YtabflppnecemkaaGreatDoor
set_option linter.unusedVariables false
set_option linter.unusedSimpArgs false
open Go.RowKit
set_option maxRecDepth 100000
set_option linter.unusedSimpArgs false
set_option linter.unusedVariables false
def enSide (ps : List PvP) : List Int := ps.flatMap fun p => varint (encL p).length ++ encL p
/-- a side's bytes -/
def sideL (ps : List PvP) : List Int := varint ps.length ++ enSide ps
def encN (L R : List PvP) : List Int := sideL L ++ sideL R
theorem enSide_snoc (S : List PvP) (k : Nat) (p : PvP) (h : S[k]? = some p) : enSide (S.take (k + 1)) = enSide (S.take k) ++ (varint (encL p).length ++ encL p) := by
  rw [List.take_add_one, h]
  simp [enSide]
theorem encL_len {p : PvP} (h : BdP p) : (encL p).length ≤ 50000000 := by
  have h1 := stsL_len p.steps h.1
  have h2 := glen_10 (n := p.key.size) (by have := h.2.1; omega)
  have h3 := glen_10 (n := p.val.size) (by have := h.2.1; omega)
  have h4 := glen_10 (n := p.steps.length) (by have := h.2.2; omega)
  have := h.2
  simp only [encL, List.length_append, numsOf_len]
  omega
theorem enSide_len : ∀ (l : List PvP), (∀ p ∈ l, BdP p) → (enSide l).length ≤ l.length * 50000010
  | [], _ => by simp [enSide]
  | p :: l, h => by
    have h1 := enSide_len l fun x hx => h x (by simp [hx])
    have h2 := encL_len (h p (by simp))
    have h3 := glen_10 (n := (encL p).length) (by omega)
    simp only [enSide, List.flatMap_cons, List.length_append, List.length_cons] at h1 ⊢
    omega
theorem sideL_len {l : List PvP} (h : ∀ p ∈ l, BdP p) (hn : l.length ≤ 1048576) : (sideL l).length ≤ 53000000000000 := by
  have h1 := enSide_len l h
  have h3 := glen_10 (n := l.length) (by omega)
  simp only [sideL, List.length_append]
  omega
def SdRel (g : Nat) (v : Value) (w : World) (xs : List Int) (wr : World) : Prop := ∃ v', WAt wr g v' xs ∧ WStep g v v' w wr
set_option maxHeartbeats 4000000 in
theorem wside_any (S : List PvP) (sv : Value) (g : Nat) (v : Value) (XS : List Int) (B : Nat) (w0 w : World) (hw : WAt w g v XS) (hb : Below B w0 w) (hB : B = w0.heap.size) (hg : B ≤ g) (hps : PrsIn w0 sv S) (hok : ∀ p ∈ S, BdP p) (hn : S.length ≤ 1048576) (hl : XS.length ≤ 60000000000000) :
    Calls Tryz.prog 44 #[.pointer (some ⟨g, 0, none⟩), sv] w fun e w' => e = .returned (.tuple #[]) ∧ SdRel g v w (XS ++ sideL S) w' := by
  obtain ⟨n, hnn⟩ : ∃ n, n = S.length := ⟨_, rfl⟩
  obtain ⟨sa, c, rfl, -⟩ := hps.len
  have HSL := Lib.hid hnn.symm
  have HPS := Lib.hid hps
  have HBD := Lib.hid hok
  have HW := Lib.hid hw
  have HB := Lib.hid hb
  have HBE := Lib.hid hB
  have HG := Lib.hid hg
  have HL := Lib.hid hl
  rw [← hnn] at hn HPS ⊢
  have hwr : IntKind.u64.wrap (n : Int) = (n : Int) := IntWalk.u64_in _ (by omega)
  clear hps hok hw hb hB hg hl hnn
  go_enter Tryz.func44, Tryz.ntmps44
  go_upto_region 2 with (go_at_call 34; (with_reducible refine (wuint_any g v XS n w HW.out (by omega) (by have := HL.out; omega)).mono ?_); rintro e w1 ⟨rfl, v1, hw1, hs1⟩; have HW1 := Lib.hid hw1; have HS1 := Lib.hid hs1; clear hw1 hs1)
  clear hwr
  have HR0 := Lib.hid (show SdRel g v w ((XS ++ varint n) ++ enSide (S.take 0)) w1 from ⟨v1, by simpa [enSide] using HW1.out, HS1.out⟩)
  clear HW1 HS1
  go_wp2_with (fail)
  go_loopw [13] (fun x wr => ∃ k : Nat, k ≤ n ∧ x = .int .i64 (k : Int) ∧ Hid (SdRel g v w ((XS ++ varint n) ++ enSide (S.take k)) wr)) (fun x _ => n - (intOf x).toNat)
  case atStart => exact ⟨0, Nat.zero_le _, rfl, HR0⟩
  case round =>
    clear HR0
    obtain ⟨k, hkn, rfl, HR⟩ := hrel
    by_cases hlt : k < n
    · obtain ⟨p, hp⟩ : ∃ p, S[k]? = some p := ⟨S[k]'(by rw [HSL.out]; exact hlt), List.getElem?_eq_getElem (by rw [HSL.out]; exact hlt)⟩
      have HPB := Lib.hid (HBD.out p (List.mem_of_getElem? hp))
      have HSS := Lib.hid (enSide_snoc S k p hp)
      have HLEN := Lib.hid (show ((XS ++ varint n) ++ enSide (S.take k)).length ≤ 120000000000000 by
        have h1 := HL.out
        have h2 := enSide_len (S.take k) (fun x hx => HBD.out x (List.mem_of_mem_take hx))
        have h3 := glen_10 (n := n) (by omega)
        rw [List.length_take] at h2
        simp only [List.length_append]; omega)
      obtain ⟨v2, hw2, hs2⟩ := HR.out
      have HBW := Lib.hid (HB.out.trans (hs2.below HW.out HG.out))
      have hps := HPS.out
      rw [HSL.out.symm] at hps
      obtain ⟨b, off, rfl, hpa⟩ := hps.at hp
      obtain ⟨tv, hrg, hst⟩ := hpa.below (by rw [← HBE.out]; exact HBW.out)
      obtain ⟨ta, tc, rfl⟩ := hst.len
      have HRG := Lib.hid hrg
      have HST := Lib.hid hst
      have HW2 := Lib.hid hw2
      have HS2 := Lib.hid hs2
      obtain ⟨YS, hYS⟩ : ∃ xs, xs = (XS ++ varint n) ++ enSide (S.take k) := ⟨_, rfl⟩
      rw [← hYS] at HW2 HLEN
      have HYS := Lib.hid hYS
      have hI : (k : Int) < (n : Int) := by omega
      clear hp hps hpa hrg hst hw2 hs2 hYS HR
      go_upto_region 4 with (first
        | (refine wpList_load_rowsz (by rfl) 31 (.tmp 15) rfl b (off + k * 3) rfl (prC p (.slice ta p.steps.length tc)) _ HRG.out Tryz.underlying31 rfl (by kernel_rfl) ?_)
        | (refine wpList_store_row rfl 31 (.tmp 5) (.tmp 16) rfl wr.heap.size (prC p (.slice ta p.steps.length tc)) rfl rfl 31 _ (heap_alloc_new _ _) (by kernel_rfl) rfl (prC_one _ _ _ _) ?_; rw [World.setRow_alloc_new]))
      have H5 := Lib.hid (heap_alloc_new wr (.cells (prC p (.slice ta p.steps.length tc)) 31))
      have HB5 := Lib.hid (below_alloc wr (.cells (prC p (.slice ta p.steps.length tc)) 31))
      replace HST := Lib.hid (HST.out.below HB5.out)
      replace HW2 := Lib.hid (HW2.out.below HB5.out)
      replace HS2 := Lib.hid (HS2.out.trans (WStep.of_below HB5.out))
      obtain ⟨g5, hg5⟩ : ∃ x, x = wr.heap.size := ⟨_, rfl⟩
      rw [← hg5] at H5 ⊢
      clear hg5 HB5 HBW HRG
      generalize wr.alloc (.cells (prC p (.slice ta p.steps.length tc)) 31) = w5 at *
      have HV6 := Lib.hid (show ∀ v6 w6, w6.ownsRow w5.heap.size 5 1 v6 (encL p).length (byteVals (encL p)) → Below w5.heap.size w5 w6 → WAt w6 g v2 YS ∧ BytesIn w6 v6 (encL p) ∧ Apart g v2 v6 ∧ YS.length + (encL p).length + 10 ≤ 140737488355328 from fun v6 w6 ho hb =>
        ⟨HW2.out.below hb, owns_in ho (by have := encL_len HPB.out; unfold maxLen; omega), fun j hj => by
          have h1 := ho.lt j hj
          have h2 := HW2.out.lt
          exact ⟨by omega, fun e => by have := HW2.out.ne j e.symm; omega⟩, by have := HLEN.out; have := encL_len HPB.out; omega⟩)
      go_wp2_with (first
        | (refine wpList_load_row rfl 31 (.tmp 5) rfl g5 rfl 31 _ (0, 0) _ H5.out Tryz.underlying31 rfl (by kernel_rfl) ?_)
        | (go_at_call 8; (with_reducible refine (pencode_any p (.slice ta p.steps.length tc) w5 HST.out HPB.out).mono ?_); rintro e w6 ⟨v6, rfl, ho, hb⟩; have HO := Lib.hid ho; have HB6 := Lib.hid hb; clear ho hb)
        | (go_at_call 63; (with_reducible refine (wbytes_any g v2 v6 YS (encL p) w6 (HV6.out v6 w6 HO.out HB6.out).1 (HV6.out v6 w6 HO.out HB6.out).2.1 (fun _ => (HV6.out v6 w6 HO.out HB6.out).2.2.1) (HV6.out v6 w6 HO.out HB6.out).2.2.2).mono ?_); rintro e w7 ⟨rfl, v7, hw7, hs7⟩; have HW7 := Lib.hid hw7; have HS7 := Lib.hid hs7; clear hw7 hs7))
      go_roundw
      case rel => exact ⟨k + 1, by omega, by go_num, Lib.hid ⟨v7, by have := HW7.out; rw [HSS.out, ← List.append_assoc, ← HYS.out]; exact this, HS2.out.trans ((WStep.of_below HB6.out).trans HS7.out)⟩⟩
      case measure => simp [intOf]; omega
    · obtain rfl : k = n := by omega
      have HE := Lib.hid (show SdRel g v w (XS ++ sideL S) wr by have := HR.out; rw [← HSL.out, List.take_length, List.append_assoc] at this; exact this)
      go_wp2_with (fail)
      go_end0
      exact ⟨rfl, HE.out⟩
set_option maxHeartbeats 4000000 in
theorem pencnone_any (L R : List PvP) (vl vr : Value) (w : World) (hl : PrsIn w vl L) (hr : PrsIn w vr R) (hL : ∀ p ∈ L, BdP p) (hR : ∀ p ∈ R, BdP p) (hln : L.length ≤ 1048576) (hrn : R.length ≤ 1048576) :
    Calls Tryz.prog 11 #[.agg #[vl, vr]] w fun e w' => ∃ v', e = .returned v' ∧ w'.ownsRow w.heap.size 5 1 v' (encN L R).length (byteVals (encN L R)) ∧ Below w.heap.size w w' := by
  obtain ⟨la, lc, rfl, -⟩ := hl.len
  obtain ⟨ra, rc, rfl, -⟩ := hr.len
  have HC1 := Lib.hid (heap_alloc_new w (.cells #[.slice la L.length lc, .slice ra R.length rc] 40))
  have HB1 := Lib.hid (below_alloc w (.cells #[.slice la L.length lc, .slice ra R.length rc] 40))
  have HL := Lib.hid (hl.below HB1.out)
  have HR := Lib.hid (hr.below HB1.out)
  have HBL := Lib.hid hL
  have HBR := Lib.hid hR
  have HNL := Lib.hid hln
  have HNR := Lib.hid hrn
  have HSL := Lib.hid (sideL_len hL hln)
  have HSR := Lib.hid (sideL_len hR hrn)
  clear hl hr hL hR hln hrn
  go_enter Tryz.func11, Tryz.ntmps11
  go_upto_region 1 with (fail)
  generalize w.alloc (.cells #[.slice la L.length lc, .slice ra R.length rc] 40) = w1 at *
  have HQ := Lib.hid (bk_lt HC1.out)
  go_upto_region 2 with (go_at_call 32; (with_reducible refine (new_any w1).mono ?_); rintro e w2 ⟨rfl, hw2, hb2⟩; have HW2 := Lib.hid hw2; have HB2 := Lib.hid hb2; clear hw2 hb2)
  have c0 : w2.cell? ⟨w.heap.size, 0, none⟩ = some (.slice la L.length lc) := by rw [cell_of_row _ _ 0 _ _ _ ((HB2.out.block _ HQ.out).trans HC1.out)]; rfl
  go_upto_region 3 with (go_at_call 44; (with_reducible refine (wside_any L _ w1.heap.size _ [] w1.heap.size w1 w2 HW2.out HB2.out rfl (Nat.le_refl _) HL.out HBL.out HNL.out (by simp)).mono ?_); rintro e w3 ⟨rfl, v3, hw3, hs3⟩; have HW3 := Lib.hid hw3; have HB3 := Lib.hid (HB2.out.trans (hs3.below HW2.out (Nat.le_refl _))); clear hw3 hs3)
  clear c0
  have c1 : w3.cell? ⟨w.heap.size, 1, none⟩ = some (.slice ra R.length rc) := by rw [cell_of_row _ _ 1 _ _ _ ((HB3.out.block _ HQ.out).trans HC1.out)]; rfl
  go_upto_region 4 with (go_at_call 44; (with_reducible refine (wside_any R _ w1.heap.size v3 _ w1.heap.size w1 w3 HW3.out HB3.out rfl (Nat.le_refl _) HR.out HBR.out HNR.out (by have := HSL.out; simp only [List.nil_append]; omega)).mono ?_); rintro e w4 ⟨rfl, v4, hw4, hs4⟩; have HW4 := Lib.hid (show WAt w4 w1.heap.size v4 (encN L R) by unfold encN; simpa using hw4); have HB4 := Lib.hid (HB3.out.trans (hs4.below HW3.out (Nat.le_refl _))); clear hw4 hs4)
  clear c1
  have HLEN := Lib.hid (show (encN L R).length ≤ 140737488355328 by have := HSL.out; have := HSR.out; unfold encN; rw [List.length_append]; omega)
  go_wp2_with (go_at_call 38; (with_reducible refine (done_any w1.heap.size v4 (encN L R) w4 HW4.out HLEN.out).mono ?_); rintro e w9 ⟨v9, rfl, ho, hb⟩; have HO := Lib.hid ho; have HB9 := Lib.hid hb; clear ho hb)
  go_ret
  exact ⟨v9, rfl, ownsRow_base HO.out (by have h1 := HB4.out.size; have h2 := HB1.out.size; omega), (HB1.out.trans (HB4.out.mono HB1.out.size)).trans (HB9.out.mono (by have h1 := HB4.out.size; have h2 := HB1.out.size; omega))⟩
end Go.Proofs.YtabflppnecemkaaGreatDoor
namespace Go.Proofs.YtabflppnecemkaaGreatDoor
set_option linter.unusedVariables false
set_option linter.unusedSimpArgs false
open Go.RowKit
set_option maxRecDepth 100000
set_option linter.unusedSimpArgs false
set_option linter.unusedVariables false
set_option maxHeartbeats 4000000 in
theorem dencnone_any (L R : List PvP) (vl vr : Value) (w : World) (hl : PrsIn w vl L) (hr : PrsIn w vr R) (hL : ∀ p ∈ L, BdP p) (hR : ∀ p ∈ R, BdP p) (hln : L.length ≤ 1048576) (hrn : R.length ≤ 1048576) :
    Calls Tryz.prog 13 #[.agg #[vl, vr]] w (InPost (encN L R) w) := by
  obtain ⟨la, lc, rfl, -⟩ := hl.len
  obtain ⟨ra, rc, rfl, -⟩ := hr.len
  obtain ⟨nl, hnl⟩ : ∃ n, n = L.length := ⟨_, rfl⟩
  obtain ⟨nr, hnr⟩ : ∃ n, n = R.length := ⟨_, rfl⟩
  have HNL := Lib.hid hnl.symm
  have HNR := Lib.hid hnr.symm
  have HC1 := Lib.hid (heap_alloc_new w (.cells #[.slice la L.length lc, .slice ra R.length rc] 27))
  have HB1 := Lib.hid (below_alloc w (.cells #[.slice la L.length lc, .slice ra R.length rc] 27))
  have HL := Lib.hid (hl.below HB1.out)
  have HR := Lib.hid (hr.below HB1.out)
  have HBL := Lib.hid hL
  have HBR := Lib.hid hR
  have HSL := Lib.hid (sideL_len hL hln)
  have HSR := Lib.hid (sideL_len hR hrn)
  have HPL := Lib.hid (show ∀ k, (enSide (L.take k)).length ≤ 52500000000000 from fun k => by
    have := enSide_len (L.take k) (fun x hx => hL x (List.mem_of_mem_take hx))
    rw [List.length_take] at this; omega)
  have HPR := Lib.hid (show ∀ k, (enSide (R.take k)).length ≤ 52500000000000 from fun k => by
    have := enSide_len (R.take k) (fun x hx => hR x (List.mem_of_mem_take hx))
    rw [List.length_take] at this; omega)
  rw [← hnl] at hln
  rw [← hnr] at hrn
  rw [← hnl, ← hnr] at HC1 HB1 HL HR ⊢
  have hwl : IntKind.u64.wrap (nl : Int) = (nl : Int) := IntWalk.u64_in _ (by omega)
  have hwr2 : IntKind.u64.wrap (nr : Int) = (nr : Int) := IntWalk.u64_in _ (by omega)
  clear hl hr hL hR hnl hnr
  unfold InPost
  go_enter Tryz.func13, Tryz.ntmps13
  go_upto_region 1 with (fail)
  generalize w.alloc (.cells #[.slice la nl lc, .slice ra nr rc] 27) = w1 at *
  have HQ := Lib.hid (bk_lt HC1.out)
  have HSX := Lib.hid (show ∀ X, Below w1.heap.size w1 X → X.cell? ⟨w.heap.size, 0, none⟩ = some (.slice la nl lc) ∧ X.cell? ⟨w.heap.size, 1, none⟩ = some (.slice ra nr rc) from fun X hb =>
    ⟨by rw [cell_of_row _ _ 0 _ _ _ ((hb.block _ HQ.out).trans HC1.out)]; rfl, by rw [cell_of_row _ _ 1 _ _ _ ((hb.block _ HQ.out).trans HC1.out)]; rfl⟩)
  obtain ⟨c0, c1⟩ := HSX.out _ (Below.refl _ _)
  go_upto_region 2 with (go_at_call 39; (with_reducible refine (dUint_any (.slice none 0 0) [] nl w1 (nil_in w1) (by omega) (by simp)).mono ?_); intro e w2 hpost; obtain ⟨v2, rfl, hx, hb⟩ := refp_in hpost (by have := glen_10 (n := nl) (by omega); simp only [List.nil_append]; unfold maxLen; omega); have HX2 := Lib.hid hx; have HB2 := Lib.hid hb; clear hx hb hpost)
  have HR0 := Lib.hid (show EnRelD w1 (varint nl ++ enSide (L.take 0)) v2 w2 from ⟨by simpa [enSide] using HX2.out, HB2.out⟩)
  clear HX2 HB2 hwl
  go_wp2_with (fail)
  clear c0 c1
  go_loopw [3, 4] (fun v x wr => ∃ k : Nat, k ≤ nl ∧ x = .int .i64 (k : Int) ∧ Hid (EnRelD w1 (varint nl ++ enSide (L.take k)) v wr)) (fun _ x _ => nl - (intOf x).toNat)
  case atStart => exact ⟨0, Nat.zero_le _, rfl, HR0⟩
  case round =>
    clear HR0 w2
    obtain ⟨k, hkn, rfl, HV⟩ := hrel
    obtain ⟨hx, hb⟩ := HV.out
    obtain ⟨xa, xn, xc, rfl⟩ := slice_of hx
    obtain ⟨c0, c1⟩ := HSX.out _ hb
    have HX := Lib.hid hx
    have HB := Lib.hid hb
    clear hx hb HV
    by_cases hlt : k < nl
    · obtain ⟨p, hp⟩ : ∃ p, L[k]? = some p := ⟨L[k]'(by rw [HNL.out]; exact hlt), List.getElem?_eq_getElem (by rw [HNL.out]; exact hlt)⟩
      have HPB := Lib.hid (HBL.out p (List.mem_of_getElem? hp))
      have HSS := Lib.hid (enSide_snoc L k p hp)
      have HLEN := Lib.hid (show (varint nl ++ enSide (L.take k)).length ≤ 120000000000000 by
        have h2 := HPL.out k
        have h3 := glen_10 (n := nl) (by omega)
        simp only [List.length_append]; omega)
      have hps := HL.out
      obtain ⟨b, off, rfl, hpa⟩ := hps.at hp
      obtain ⟨tv, hrg, hst⟩ := hpa.below HB.out
      obtain ⟨ta, tc, rfl⟩ := hst.len
      have HRG := Lib.hid hrg
      have HST := Lib.hid hst
      obtain ⟨YS, hYS⟩ : ∃ xs, xs = varint nl ++ enSide (L.take k) := ⟨_, rfl⟩
      rw [← hYS] at HX HLEN
      have HYS := Lib.hid hYS
      have hI : (k : Int) < (nl : Int) := by omega
      clear hp hps hpa hrg hst hYS
      go_wp2_with (first
        | (refine wpList_load_rowsz (by rfl) 24 (.tmp 22) rfl b (off + k * 3) rfl (prC p (.slice ta p.steps.length tc)) _ HRG.out Tryz.underlying24 rfl (by kernel_rfl) ?_)
        | (go_at_call 10; (with_reducible refine (dencode_any p (.slice ta p.steps.length tc) wr HST.out HPB.out).mono ?_); rintro e w6 ⟨v6, rfl, ho, hb⟩; have HO := Lib.hid ho; have HB6 := Lib.hid hb; clear ho hb)
        | (go_at_call 45; (with_reducible refine (dBytes_any (.slice xa xn xc) v6 YS (encL p) w6 (HX.out.below HB6.out) HO.out (by have := HLEN.out; have := encL_len HPB.out; omega)).mono ?_); intro e w7 hpost; obtain ⟨v7, rfl, hx, hb⟩ := refp_in hpost (by have := HLEN.out; have := encL_len HPB.out; have := glen_10 (n := (encL p).length) (by omega); simp only [List.length_append]; unfold maxLen; omega); have HX7 := Lib.hid hx; have HB7 := Lib.hid hb; clear hx hb hpost))
      go_roundw
      case rel => exact ⟨k + 1, by omega, by go_num, Lib.hid ⟨by have := HX7.out; rw [HSS.out, ← List.append_assoc, ← HYS.out]; exact this, HB.out.trans ((HB6.out.trans (HB7.out.mono HB6.out.size)).mono HB.out.size)⟩⟩
      case measure => simp [intOf]; omega
    · obtain rfl : k = nl := by omega
      have HX1 := Lib.hid (show BytesIn wr (.slice xa xn xc) (sideL L) by have := HX.out; rw [← HNL.out, List.take_length] at this; exact this)
      have HLL := HSL.out
      clear HX HPL
      generalize wr = w3 at *
      go_upto_region 7 with (go_at_call 39; (with_reducible refine (dUint_any (.slice xa xn xc) (sideL L) nr w3 HX1.out (by omega) (by have := HSL.out; omega)).mono ?_); intro e w4 hpost; obtain ⟨v4, rfl, hx, hb⟩ := refp_in hpost (by have := HSL.out; have := glen_10 (n := nr) (by omega); simp only [List.length_append]; unfold maxLen; omega); have HX4 := Lib.hid hx; have HB4 := Lib.hid (HB.out.trans (hb.mono HB.out.size)); clear hx hb hpost)
      have HR0 := Lib.hid (show EnRelD w1 ((sideL L ++ varint nr) ++ enSide (R.take 0)) v4 w4 from ⟨by simpa [enSide] using HX4.out, HB4.out⟩)
      clear HX4 HB4 hwr2 c0 c1 HB hlt hkn
      go_wp2_with (fail)
      go_loopw [3, 5] (fun v x wr => ∃ k : Nat, k ≤ nr ∧ x = .int .i64 (k : Int) ∧ Hid (EnRelD w1 ((sideL L ++ varint nr) ++ enSide (R.take k)) v wr)) (fun _ x _ => nr - (intOf x).toNat)
      case atStart => exact ⟨0, Nat.zero_le _, rfl, HR0⟩
      case round =>
        clear HR0 w4
        obtain ⟨k, hkn, rfl, HV⟩ := hrel
        obtain ⟨hx, hb⟩ := HV.out
        obtain ⟨ya, yn, yc, rfl⟩ := slice_of hx
        obtain ⟨c0, c1⟩ := HSX.out _ hb
        have HX := Lib.hid hx
        have HB := Lib.hid hb
        clear hx hb HV
        by_cases hlt : k < nr
        · obtain ⟨p, hp⟩ : ∃ p, R[k]? = some p := ⟨R[k]'(by rw [HNR.out]; exact hlt), List.getElem?_eq_getElem (by rw [HNR.out]; exact hlt)⟩
          have HPB := Lib.hid (HBR.out p (List.mem_of_getElem? hp))
          have HSS := Lib.hid (enSide_snoc R k p hp)
          have HLEN := Lib.hid (show ((sideL L ++ varint nr) ++ enSide (R.take k)).length ≤ 120000000000000 by
            have h1 := HSL.out
            have h2 := HPR.out k
            have h3 := glen_10 (n := nr) (by omega)
            simp only [List.length_append]; omega)
          have hps := HR.out
          obtain ⟨b, off, rfl, hpa⟩ := hps.at hp
          obtain ⟨tv, hrg, hst⟩ := hpa.below HB.out
          obtain ⟨ta, tc, rfl⟩ := hst.len
          have HRG := Lib.hid hrg
          have HST := Lib.hid hst
          obtain ⟨YS, hYS⟩ : ∃ xs, xs = (sideL L ++ varint nr) ++ enSide (R.take k) := ⟨_, rfl⟩
          rw [← hYS] at HX HLEN
          have HYS := Lib.hid hYS
          have hI : (k : Int) < (nr : Int) := by omega
          clear hp hps hpa hrg hst hYS
          go_wp2_with (first
            | (refine wpList_load_rowsz (by rfl) 24 (.tmp 43) rfl b (off + k * 3) rfl (prC p (.slice ta p.steps.length tc)) _ HRG.out Tryz.underlying24 rfl (by kernel_rfl) ?_)
            | (go_at_call 10; (with_reducible refine (dencode_any p (.slice ta p.steps.length tc) wr HST.out HPB.out).mono ?_); rintro e w6 ⟨v6, rfl, ho, hb⟩; have HO := Lib.hid ho; have HB6 := Lib.hid hb; clear ho hb)
            | (go_at_call 45; (with_reducible refine (dBytes_any (.slice ya yn yc) v6 YS (encL p) w6 (HX.out.below HB6.out) HO.out (by have := HLEN.out; have := encL_len HPB.out; omega)).mono ?_); intro e w7 hpost; obtain ⟨v7, rfl, hx, hb⟩ := refp_in hpost (by have := HLEN.out; have := encL_len HPB.out; have := glen_10 (n := (encL p).length) (by omega); simp only [List.length_append]; unfold maxLen; omega); have HX7 := Lib.hid hx; have HB7 := Lib.hid hb; clear hx hb hpost))
          go_roundw
          case rel => exact ⟨k + 1, by omega, by go_num, Lib.hid ⟨by have := HX7.out; rw [HSS.out, ← List.append_assoc, ← HYS.out]; exact this, HB.out.trans ((HB6.out.trans (HB7.out.mono HB6.out.size)).mono HB.out.size)⟩⟩
          case measure => simp [intOf]; omega
        · obtain rfl : k = nr := by omega
          have HX2 := Lib.hid (show BytesIn wr (.slice ya yn yc) (encN L R) by have := HX.out; rw [← HNR.out, List.take_length, List.append_assoc] at this; exact this)
          go_wp2_with (fail)
          go_ret
          exact ⟨_, rfl, HX2.out, HB1.out.trans (HB.out.mono HB1.out.size)⟩
end Go.Proofs.YtabflppnecemkaaGreatDoor
namespace Go.Proofs.YtabflppnecemkaaGreatDoor
set_option linter.unusedVariables false
set_option linter.unusedSimpArgs false
open Go.RowKit
set_option maxRecDepth 100000
set_option linter.unusedSimpArgs false
set_option linter.unusedVariables false
def eP : PvP := ⟨eBA, eBA, []⟩
def exQ (key : ByteArray) : List PvP → Option PvP
  | p :: _ => if p.key = key then some p else none
  | [] => none
/-- the proof that a key is there, or none -/
def exP (t : Option AvT) (key : ByteArray) : Option PvP := exQ key (atP t (findO t key : Int))
def e8 (o : Option PvP) : Option Nat := if o.isSome then none else some 8
def ExPost (o : Option PvP) (w : World) (e : Ending) (w' : World) : Prop :=
  ∃ sa n c, e = .returned (.tuple #[.agg (prC (o.getD eP) (.slice sa n c)), errV (e8 o)]) ∧ StIn w' (.slice sa n c) (o.getD eP).steps ∧ Below w.heap.size w w'
/-- steps stay where a block of another type is written -/
theorem st_row {w : World} {v : Value} {l : List AvS} {q : Nat} {old new : Array Value} (h : StIn w v l) (hq : w.heap[q]? = some (.cells old 31 (0, 0))) (hno : ∀ (k : Nat) (b : Bool), old[k]? ≠ some (Value.bool b)) : StIn (w.setRow q new) v l := by
  obtain ⟨a, cap, rfl, hc, hm, hx⟩ := h
  refine ⟨a, cap, rfl, hc, hm, hx.imp id ?_⟩
  rintro ⟨ab, ao, rfl, hl, hr⟩
  refine ⟨ab, ao, rfl, by simpa [World.setRow] using hl, fun i s hi => ?_⟩
  have hne : ab ≠ q := fun e => by
    subst e
    have h0 := hr i s hi 0 (.bool s.sec) (by simp [AvS.cells, stC])
    rw [cell_of_row _ _ _ _ _ _ hq] at h0
    exact hno _ _ h0
  exact fun j v hv => (World.cell?_of_block (setRow_other _ _ _ _ hne)).trans (hr i s hi j v hv)
theorem no_bool (a b : ByteArray) (x : Option Addr) (n c : Nat) : ∀ (k : Nat) (t : Bool), (#[Value.string a, .string b, .slice x n c] : Array Value)[k]? ≠ some (Value.bool t) := by
  intro k t h
  rcases k with _ | _ | _ | k
  · cases h
  · cases h
  · cases h
  · simp at h
set_option maxHeartbeats 4000000 in
theorem exist_any (va : Value) (t : Option AvT) (key : ByteArray) (w : World) (ht : TreeO w va t) (hm : manyO t ≤ 1099511627776) :
    Calls Tryz.prog 48 #[va, .string key] w (ExPost (exP t key) w) := by
  have HFI := Lib.hid (fun w h => find_any va key t w h (by omega))
  have HAT := Lib.hid (fun w h => at8_any va t (findO t key : Int) w h hm)
  have hb0 := below_alloc w (.cells #[.string { data := #[] }, .string { data := #[] }, .slice none 0 0] 31)
  have H4 := Lib.hid (heap_alloc_new w (.cells #[.string { data := #[] }, .string { data := #[] }, .slice none 0 0] 31))
  have HT := Lib.hid (ht.below hb0)
  have HB := Lib.hid hb0
  obtain ⟨p, rfl⟩ : ∃ p, va = .pointer p := by
    cases t with
    | none => exact ⟨_, ht⟩
    | some t => obtain ⟨g, e, _⟩ := ht; exact ⟨_, e⟩
  have hle : atP t (findO t key : Int) = [] ∨ ∃ x, atP t (findO t key : Int) = [x] := by
    unfold atP; split
    · exact .inr ⟨_, rfl⟩
    · exact .inl rfl
  obtain ⟨ps, hps⟩ : ∃ l, l = atP t (findO t key : Int) := ⟨_, rfl⟩
  obtain ⟨o, ho⟩ : ∃ o, o = exP t key := ⟨_, rfl⟩
  have HO := Lib.hid (show o = exQ key ps from by rw [ho, hps]; rfl)
  rw [← hps] at HAT hle
  rw [← ho]
  obtain ⟨FN, hFN⟩ : ∃ n, n = findO t key := ⟨_, rfl⟩
  rw [← hFN] at HFI HAT
  unfold ExPost
  clear ht hm hb0 hps ho hFN
  go_enter Tryz.func48, Tryz.ntmps48
  go_upto_region 1 with (fail)
  generalize w.alloc (.cells #[.string { data := #[] }, .string { data := #[] }, .slice none 0 0] 31) = w1 at *
  obtain ⟨q, hq⟩ : ∃ q, q = w.heap.size := ⟨_, rfl⟩
  rw [← hq] at H4 ⊢
  have HQ := Lib.hid hq
  clear hq
  go_upto_region 2 with (first
    | (go_at_call 74; (with_reducible refine (HFI.out _ HT.out).mono ?_); rintro e w' ⟨rfl, rfl⟩)
    | (go_at_call 73; (with_reducible refine (HAT.out _ HT.out).mono ?_); rintro e w2 ⟨v, rfl, hp, hb⟩; have HP := Lib.hid hp; replace H4 := Lib.hid ((hb.block _ (bk_lt H4.out)).trans H4.out); replace HB := Lib.hid (HB.out.trans (hb.mono HB.out.size)); clear hp hb))
  rcases hle with rfl | ⟨x, rfl⟩
  · obtain ⟨va, vc, rfl, _⟩ := HP.out.len
    have HN := Lib.hid (show o = none from HO.out)
    go_wp2_with (first
      | (refine wpList_store_row rfl 31 (.tmp 4) (.tmp 23) rfl q #[.string { data := #[] }, .string { data := #[] }, .slice none 0 0] rfl rfl 31 _ H4.out (by kernel_rfl) rfl (by simp [Value.oneCell']) ?_))
    refine bodyPost_ret (results_cell_tmp_row rfl _ _ q 31 #[.string { data := #[] }, .string { data := #[] }, .slice none 0 0] (0, 0) _ rfl (setRow_heap _ _ _ _ _ _ H4.out) Tryz.underlying31 rfl (by kernel_rfl)) rfl ?_
    exact ⟨none, 0, 0, by rw [HN.out]; rfl, by rw [HN.out]; exact StIn.nil _, below_setRow HB.out (Nat.le_of_eq HQ.out.symm) _⟩
  · obtain ⟨vv, vc, rfl, _⟩ := HP.out.len
    obtain ⟨b, off, rfl, sv, hrg, hst⟩ := HP.out.at (i := 0) (p := x) rfl
    obtain ⟨sa, sc, rfl⟩ := hst.len
    rw [Nat.zero_mul, Nat.add_zero] at hrg
    have HRG := Lib.hid hrg
    have HST := Lib.hid hst
    have c0 : w2.cell? ⟨b, off, none⟩ = some (.string x.key) := by have := hrg 0 (.string x.key) rfl; rwa [Nat.add_zero] at this
    clear hrg hst
    by_cases hk : x.key = key
    · have hk1 : (x.key.toList == key.toList) = true := by rw [hk]; exact sbeq_self _
      have HN := Lib.hid (show o = some x from by rw [HO.out]; exact if_pos hk)
      clear hk
      go_wp2_with (first
        | (refine wpList_load_rowsz (by rfl) 31 (.tmp 26) rfl b off rfl (prC x (.slice sa x.steps.length sc)) _ HRG.out Tryz.underlying31 rfl (by kernel_rfl) ?_)
        | (refine wpList_store_row rfl 31 (.tmp 4) (.tmp 27) rfl q (prC x (.slice sa x.steps.length sc)) rfl rfl 31 _ H4.out (by kernel_rfl) rfl (prC_one _ _ _ _) ?_))
      refine bodyPost_ret (results_cell_tmp_row rfl _ _ q 31 (prC x (.slice sa x.steps.length sc)) (0, 0) _ rfl (setRow_heap _ _ _ _ _ _ H4.out) Tryz.underlying31 rfl (by kernel_rfl)) rfl ?_
      exact ⟨sa, x.steps.length, sc, by rw [HN.out]; rfl, by rw [HN.out]; exact st_row HST.out H4.out (no_bool _ _ _ _ _), below_setRow HB.out (Nat.le_of_eq HQ.out.symm) _⟩
    · have hk1 : (x.key.toList == key.toList) = false := sbeq_ne hk
      have HN := Lib.hid (show o = none from by rw [HO.out]; exact if_neg hk)
      clear hk
      go_wp2_with (first
        | (refine wpList_store_row rfl 31 (.tmp 4) (.tmp 23) rfl q #[.string { data := #[] }, .string { data := #[] }, .slice none 0 0] rfl rfl 31 _ H4.out (by kernel_rfl) rfl (by simp [Value.oneCell']) ?_))
      refine bodyPost_ret (results_cell_tmp_row rfl _ _ q 31 #[.string { data := #[] }, .string { data := #[] }, .slice none 0 0] (0, 0) _ rfl (setRow_heap _ _ _ _ _ _ H4.out) Tryz.underlying31 rfl (by kernel_rfl)) rfl ?_
      exact ⟨none, 0, 0, by rw [HN.out]; rfl, by rw [HN.out]; exact StIn.nil _, below_setRow HB.out (Nat.le_of_eq HQ.out.symm) _⟩
end Go.Proofs.YtabflppnecemkaaGreatDoor
namespace Go.Proofs.YtabflppnecemkaaGreatDoor
set_option linter.unusedVariables false
set_option linter.unusedSimpArgs false
open Go.RowKit
set_option maxRecDepth 100000
set_option linter.unusedSimpArgs false
set_option linter.unusedVariables false
/-- the proofs of a key's neighbours; none where it is there -/
def noL (t : Option AvT) (key : ByteArray) : List PvP := if (getO t key).isSome then [] else atP t ((findO t key : Int) - 1)
def noR (t : Option AvT) (key : ByteArray) : List PvP := if (getO t key).isSome then [] else atP t (findO t key : Int)
def e9 (b : Bool) : Option Nat := if b then some 9 else none
def NoPost (t : Option AvT) (key : ByteArray) (w : World) (e : Ending) (w' : World) : Prop :=
  ∃ vl vr, e = .returned (.tuple #[.agg #[vl, vr], errV (e9 (getO t key).isSome)]) ∧ PrsIn w' vl (noL t key) ∧ PrsIn w' vr (noR t key) ∧ Below w.heap.size w w'
theorem prs_nil (w : World) : PrsIn w (.slice none 0 0) [] := ⟨none, 0, rfl, by simp, .inl rfl⟩
theorem prAt_row {w : World} {b o q : Nat} {p : PvP} {v1 v2 : Value} {new : Array Value} (h : PrAt w b o p) (hq : w.heap[q]? = some (.cells #[v1, v2] 40 (0, 0))) (h1 : ∃ a n c, v1 = .slice a n c) (h2 : ∃ a n c, v2 = .slice a n c) : PrAt (w.setRow q new) b o p := by
  obtain ⟨a1, n1, c1, rfl⟩ := h1
  obtain ⟨a2, n2, c2, rfl⟩ := h2
  have hno : ∀ (k : Nat) (x : Value), (∀ a n c, x ≠ .slice a n c) → (#[Value.slice a1 n1 c1, .slice a2 n2 c2] : Array Value)[k]? ≠ some x := by
    intro k x hx h
    rcases k with _ | _ | k
    · injection h with h; exact hx _ _ _ h.symm
    · injection h with h; exact hx _ _ _ h.symm
    · simp at h
  obtain ⟨sv, hr, hst⟩ := h
  have hbq : b ≠ q := fun e => by
    subst e
    have h0 := hr 0 (.string p.key) rfl
    rw [cell_of_row _ _ _ _ _ _ hq] at h0
    exact hno _ _ (fun _ _ _ => by simp) h0
  refine ⟨sv, fun j v hv => (World.cell?_of_block (setRow_other _ _ _ _ hbq)).trans (hr j v hv), ?_⟩
  obtain ⟨a, cap, rfl, hc, hm, hx⟩ := hst
  refine ⟨a, cap, rfl, hc, hm, hx.imp id ?_⟩
  rintro ⟨ab, ao, rfl, hl, hr⟩
  refine ⟨ab, ao, rfl, by simpa [World.setRow] using hl, fun i s hi => ?_⟩
  have hne : ab ≠ q := fun e => by
    subst e
    have h0 := hr i s hi 0 (.bool s.sec) (by simp [AvS.cells, stC])
    rw [cell_of_row _ _ _ _ _ _ hq] at h0
    exact hno _ _ (fun _ _ _ => by simp) h0
  exact fun j v hv => (World.cell?_of_block (setRow_other _ _ _ _ hne)).trans (hr i s hi j v hv)
theorem prs_row {w : World} {v : Value} {ps : List PvP} {q : Nat} {v1 v2 : Value} {new : Array Value} (h : PrsIn w v ps) (hq : w.heap[q]? = some (.cells #[v1, v2] 40 (0, 0))) (h1 : ∃ a n c, v1 = .slice a n c) (h2 : ∃ a n c, v2 = .slice a n c) : PrsIn (w.setRow q new) v ps := by
  obtain ⟨a, cap, rfl, hm, hx⟩ := h
  exact ⟨a, cap, rfl, hm, hx.imp id fun ⟨b, off, e, hl, hh⟩ => ⟨b, off, e, by simpa [World.setRow] using hl, fun i p hi => prAt_row (hh i p hi) hq h1 h2⟩⟩
set_option maxHeartbeats 4000000 in
theorem none8_any (va : Value) (t : Option AvT) (key : ByteArray) (w : World) (ht : TreeO w va t) (hm : manyO t ≤ 1099511627776) (hf : (findO t key : Int) ≤ 1099511627776) :
    Calls Tryz.prog 49 #[va, .string key] w (NoPost t key w) := by
  have HGE := Lib.hid (fun w h => get_any va key t w h)
  have HFI := Lib.hid (fun w h => find_any va key t w h (by omega))
  have HA1 := Lib.hid (fun w h => at8_any va t ((findO t key : Int) - 1) w h hm)
  have HA2 := Lib.hid (fun w h => at8_any va t (findO t key : Int) w h hm)
  have hb0 := below_alloc w (.cells #[.slice none 0 0, .slice none 0 0] 40)
  have H4 := Lib.hid (heap_alloc_new w (.cells #[.slice none 0 0, .slice none 0 0] 40))
  have HT := Lib.hid (ht.below hb0)
  have HB := Lib.hid hb0
  obtain ⟨p, rfl⟩ : ∃ p, va = .pointer p := by
    cases t with
    | none => exact ⟨_, ht⟩
    | some t => obtain ⟨g, e, _⟩ := ht; exact ⟨_, e⟩
  obtain ⟨gb, hgb⟩ : ∃ b, b = (getO t key).isSome := ⟨_, rfl⟩
  obtain ⟨gs, hgs⟩ : ∃ b, b = strO (getO t key) := ⟨_, rfl⟩
  have HNL := Lib.hid (show noL t key = if gb then [] else atP t ((findO t key : Int) - 1) from by rw [hgb]; rfl)
  have HNR := Lib.hid (show noR t key = if gb then [] else atP t (findO t key : Int) from by rw [hgb]; rfl)
  rw [← hgb, ← hgs] at HGE
  unfold NoPost
  rw [← hgb]
  obtain ⟨FN, hFN⟩ : ∃ n, n = findO t key := ⟨_, rfl⟩
  rw [← hFN] at HFI HA1 HA2 HNL HNR hf
  clear ht hm hb0 hgb hgs hFN
  go_enter Tryz.func49, Tryz.ntmps49
  go_upto_region 1 with (fail)
  generalize w.alloc (.cells #[.slice none 0 0, .slice none 0 0] 40) = w1 at *
  obtain ⟨q, hq⟩ : ∃ q, q = w.heap.size := ⟨_, rfl⟩
  rw [← hq] at H4 ⊢
  have HQ := Lib.hid hq
  clear hq
  cases gb with
  | true =>
    have hNL := HNL.out
    have hNR := HNR.out
    go_wp2_with (first
      | (go_at_call 75; (with_reducible refine (HGE.out _ HT.out).mono ?_); rintro e w' ⟨rfl, rfl⟩)
      | (refine wpList_store_row rfl 40 (.tmp 4) (.tmp 16) rfl q #[.slice none 0 0, .slice none 0 0] rfl rfl 40 _ H4.out (by kernel_rfl) rfl (by simp [Value.oneCell']) ?_))
    refine bodyPost_ret (results_cell_tmp_row rfl _ _ q 40 #[.slice none 0 0, .slice none 0 0] (0, 0) _ rfl (setRow_heap _ _ _ _ _ _ H4.out) Tryz.underlying40 rfl (by kernel_rfl)) rfl ?_
    exact ⟨_, _, rfl, by rw [HNL.out]; exact prs_nil _, by rw [HNR.out]; exact prs_nil _, below_setRow HB.out (Nat.le_of_eq HQ.out.symm) _⟩
  | false =>
    have hf0 : (0 : Int) ≤ FN := by omega
    go_upto_region 5 with (first
      | (go_at_call 75; (with_reducible refine (HGE.out _ HT.out).mono ?_); rintro e w' ⟨rfl, rfl⟩)
      | (go_at_call 74; (with_reducible refine (HFI.out _ HT.out).mono ?_); rintro e w' ⟨rfl, rfl⟩))
    go_wp2_with (first
      | (go_at_call 73; (with_reducible refine (HA1.out _ HT.out).mono ?_); rintro e w2 ⟨v1, rfl, hp, hb⟩; have HP1 := Lib.hid hp; obtain ⟨a1, c1, rfl, _⟩ := hp.len; replace HT := Lib.hid (HT.out.below hb); replace H4 := Lib.hid ((hb.block _ (bk_lt H4.out)).trans H4.out); replace HB := Lib.hid (HB.out.trans (hb.mono HB.out.size)); clear hp hb HA1)
      | (go_at_call 73; (with_reducible refine (HA2.out _ HT.out).mono ?_); rintro e w3 ⟨v2, rfl, hp, hb⟩; have HP2 := Lib.hid hp; obtain ⟨a2, c2, rfl, _⟩ := hp.len; replace HP1 := Lib.hid (HP1.out.below hb); replace H4 := Lib.hid ((hb.block _ (bk_lt H4.out)).trans H4.out); replace HB := Lib.hid (HB.out.trans (hb.mono HB.out.size)); clear hp hb)
      | (refine wpList_store_row rfl 40 (.tmp 4) (.tmp 28) rfl q #[.slice a1 _ c1, .slice a2 _ c2] rfl rfl 40 _ H4.out (by kernel_rfl) rfl (by simp [Value.oneCell']) ?_))
    refine bodyPost_ret (results_cell_tmp_row rfl _ _ q 40 #[.slice a1 _ c1, .slice a2 _ c2] (0, 0) _ rfl (setRow_heap _ _ _ _ _ _ H4.out) Tryz.underlying40 rfl (by kernel_rfl)) rfl ?_
    exact ⟨_, _, rfl, by rw [HNL.out]; exact prs_row HP1.out H4.out ⟨_, _, _, rfl⟩ ⟨_, _, _, rfl⟩, by rw [HNR.out]; exact prs_row HP2.out H4.out ⟨_, _, _, rfl⟩ ⟨_, _, _, rfl⟩, below_setRow HB.out (Nat.le_of_eq HQ.out.symm) _⟩
end Go.Proofs.YtabflppnecemkaaGreatDoor
