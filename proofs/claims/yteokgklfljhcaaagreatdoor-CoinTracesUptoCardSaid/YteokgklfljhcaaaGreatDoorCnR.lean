/- coin: the reference's Check and Denom. -/
import Derived.Test.YteokgklfljhcaaaGreatDoorCnO
import Derived.Test.YteokgklfljhcaaaGreatDoorCnJ
import Derived.Test.YteokgklfljhcaaaGreatDoorCnM
import Derived.Test.YteokgklfljhcaaaGreatDoorShRPa
import Derived.Test.YteokgklfljhcaaaGreatDoorShRefS
namespace Go.Proofs.YteokgklfljhcaaaGreatDoor
open Go.RowKit
set_option maxRecDepth 100000
set_option linter.unusedSimpArgs false
set_option linter.unusedVariables false
theorem pre_iff (s : ByteArray) (h : 4 ≤ s.size) : hasPre s = decide (s.extract 0 4 = { data := #[105, 98, 99, 47] }) := by
  rw [Bool.eq_iff_iff, decide_eq_true_eq]
  unfold hasPre Lib.hasPrefix
  rw [List.isPrefixOf_iff_prefix, List.prefix_iff_eq_take]
  constructor
  · intro e
    exact bytes_ext14 (by rw [ext_data14, List.drop_zero]; exact e.symm)
  · intro e
    have := congrArg (fun b : ByteArray => b.data.toList) e
    simp only [ext_data14, List.drop_zero] at this
    exact this.symm
theorem rest_eq (s : ByteArray) (h : hasPre s = true) : restS s = s.extract 4 s.size := bytes_ext14 (by
  unfold restS Lib.trimPrefix
  rw [if_pos (show Lib.hasPrefix s.data.toList [105, 98, 99, 47] = true from h), ext_data14, ← size14, List.take_length]
  rfl)
theorem vou_size {s : ByteArray} (h : vouB s = true) : s.size = 68 ∧ hasPre s = true := by
  unfold vouB at h
  rw [Bool.and_eq_true] at h
  refine ⟨?_, h.1⟩
  have h2 := h.2
  unfold parR at h2
  split at h2
  · rename_i h3
    rw [numsOf_length, rest_eq s h.1, ByteArray.size_extract] at h3
    omega
  · simp at h2
set_option maxHeartbeats 4000000 in
theorem rcheck14_any (s : ByteArray) (w : World) (hs : s.size ≤ 140737488355328) : Calls Tryz.prog 42 #[.string s] w fun e w' => e = .returned (.int .i64 (numE (chkD s))) ∧ Below w.heap.size w w' := by
  have HBS := Lib.hid (fun w => rbase_any s w (by omega))
  unfold chkD
  cases hb : baseB s with
  | true =>
    rw [hb] at HBS
    rw [Bool.true_or, if_pos rfl]
    simp only [numE]
    clear hb
    go_enter Tryz.func42, Tryz.ntmps42
    go_wp2_with (go_at_call 40; (with_reducible refine (HBS.out _).mono ?_); rintro e w2 ⟨rfl, rfl⟩)
    go_ret
    exact ⟨rfl, Below.refl _ _⟩
  | false =>
    rw [hb] at HBS
    rw [Bool.false_or]
    clear hb
    by_cases h68 : s.size = 68
    · have h68I : (s.size : Int) = 68 := by omega
      have c1 : (4 : Int) ≤ (s.size : Int) := by omega
      have c2 : (s.size : Int) ≤ (s.size : Int) := by omega
      have hp := pre_iff s (by omega)
      by_cases hpre : s.extract 0 4 = { data := #[105, 98, 99, 47] }
      · rw [decide_eq_true hpre] at hp
        have hrs : restS s = s.extract 4 68 := by rw [rest_eq s hp, h68]
        have hv : vouB s = (parR (numsOf (s.extract 4 68))).2.isNone := by unfold vouB; rw [hp, Bool.true_and, hrs]
        have HPR := Lib.hid (fun w => rparse_any (s.extract 4 68) w (by rw [ByteArray.size_extract]; unfold maxLen; omega))
        have k1 : ((s.extract 0 4).toList == [105, 98, 99, 47]) = true := by rw [hpre]; decide +kernel
        rw [hv]
        obtain ⟨G, hG⟩ : ∃ g, g = (parR (numsOf (s.extract 4 68))).2 := ⟨_, rfl⟩
        obtain ⟨H, hH⟩ : ∃ g, g = (parR (numsOf (s.extract 4 68))).1 := ⟨_, rfl⟩
        rw [← hG]
        rw [← hG, ← hH] at HPR
        have HG := Lib.hid (show G = none ∨ G = some 3 from by rw [hG]; unfold parR; split; exact .inl rfl; exact .inr rfl)
        clear hp hrs hv hG hH hpre
        have hgr := HG.out
        clear HG
        rcases hgr with rfl | rfl
        all_goals
          simp only [numE] at HPR
          go_enter Tryz.func42, Tryz.ntmps42
          go_wp2_with (first
            | (go_at_call 40; (with_reducible refine (HBS.out _).mono ?_); rintro e w2 ⟨rfl, rfl⟩)
            | (go_at_call 92; (with_reducible refine (HPR.out _).mono ?_); rintro e w3 ⟨rfl, hb⟩; have HB := Lib.hid hb; clear hb)
            | (refine wpList_store_row rfl 23 (.tmp 3) (.tmp 19) rfl w3.heap.size (rowOf .u8 32 H) rfl rfl 23 _ (heap_alloc_new _ _) (by rw [rowOf_size]; kernel_rfl) (by rw [rowOf_size]; kernel_rfl) (rowOf_one _ _ _) ?_; rw [World.setRow_alloc_new]))
          go_ret
          first | exact ⟨rfl, HB.out.alloc HB.out.size _⟩ | exact ⟨rfl, HB.out⟩
      · rw [decide_eq_false hpre] at hp
        have hv : vouB s = false := by unfold vouB; rw [hp, Bool.false_and]
        have k1 : ((s.extract 0 4).toList == [105, 98, 99, 47]) = false := by
          have h2 := beq14 (s.extract 0 4) { data := #[105, 98, 99, 47] }
          rw [decide_eq_false hpre, show ({ data := #[105, 98, 99, 47] } : ByteArray).toList = [105, 98, 99, 47] from by decide +kernel] at h2
          exact h2
        rw [hv]
        clear hp hv hpre
        go_enter Tryz.func42, Tryz.ntmps42
        go_wp2_with (go_at_call 40; (with_reducible refine (HBS.out _).mono ?_); rintro e w2 ⟨rfl, rfl⟩)
        go_ret
        exact ⟨rfl, Below.refl _ _⟩
    · have h68I : ¬ (s.size : Int) = 68 := by omega
      have hv : vouB s = false := by
        cases h : vouB s with
        | false => rfl
        | true => exact absurd (vou_size h).1 h68
      rw [hv]
      clear hv
      go_enter Tryz.func42, Tryz.ntmps42
      go_wp2_with (go_at_call 40; (with_reducible refine (HBS.out _).mono ?_); rintro e w2 ⟨rfl, rfl⟩)
      go_ret
      exact ⟨rfl, Below.refl _ _⟩
set_option maxHeartbeats 4000000 in
theorem rdenom14_any (p : List ByteArray) (b : ByteArray) (pv : Value) (w : World) (hp : SsIn w pv p) (hs : ∀ s ∈ p, s.size ≤ 9223372036854775806) (hb : b.size ≤ 9223372036854775807) :
    Calls Tryz.prog 34 #[.agg (trC pv b)] w fun e w' => e = .returned (.tuple #[.string (denR p b), .int .i64 (numE (trE p b))]) ∧ Below w.heap.size w w' := by
  obtain ⟨pa, pc, rfl, -, -⟩ := id hp
  have HC := Lib.hid (fun w h => rfull_any p b (.slice pa p.length pc) w h hs hb)
  have HP := Lib.hid hp
  have HEC := Lib.hid (trE_cases p b)
  obtain ⟨E, hE⟩ : ∃ e, e = trE p b := ⟨_, rfl⟩
  obtain ⟨R, hR⟩ : ∃ r, r = denR p b := ⟨_, rfl⟩
  rw [← hR]
  unfold denR at hR
  have hfs : E = none → (fullR p b).size ≤ 352 := fun h => by rw [full_eq (hE ▸ h)]; exact full_small (hE ▸ h)
  obtain ⟨S, hS⟩ : ∃ s, s = fullR p b := ⟨_, rfl⟩
  rw [← hS] at HC hR hfs
  rw [← hE] at HC HEC hR ⊢
  have HR := Lib.hid hR
  obtain ⟨n, hn⟩ : ∃ n, n = p.length := ⟨_, rfl⟩
  have M := Lib.hid (show TrV 62 w.heap.size (.slice pa n pc) b p (w.alloc (.cells (trC (.slice pa n pc) b) 62)) from ⟨heap_alloc_new _ _, by rw [hn]; exact hp.below (below_alloc _ _)⟩)
  have HB := Lib.hid (below_alloc w (.cells (trC (.slice pa n pc) b) 62))
  rw [← hn] at HC HP ⊢
  have HN := Lib.hid (show n = 0 ↔ p = [] from by rw [hn]; exact List.length_eq_zero_iff)
  have HSU := Lib.hid (fun v w h (hz : S.size ≤ 352) => rsum_any v (numsOf S) w h (by rw [numsOf_length]; omega))
  have HTX := Lib.hid (fun xs w => r1text_any (sumF xs) (fun i _ => by unfold sumF hsum outF; omega) w)
  clear hp hs hb hE hR hn hS
  go_enter Tryz.func34, Tryz.ntmps34
  go_upto_region 1 with (fail)
  obtain ⟨q, hq⟩ : ∃ q, q = w.heap.size := ⟨_, rfl⟩
  rw [← hq] at M ⊢
  clear hq
  generalize w.alloc (.cells (trC (.slice pa n pc) b) 62) = w1 at *
  rcases HEC.out with rfl | rfl | rfl
  · have hfz := hfs rfl
    by_cases h0 : n = 0
    · have HF := Lib.hid (show R = S from by rw [HR.out, if_neg (fun h => h.2 (HN.out.1 h0))])
      subst h0
      go_upto_region 2 with (first
        | (refine wpList_load_row rfl 62 (.tmp 1) rfl q rfl 62 _ (0, 0) _ M.out.r Tryz.underlying62 rfl (by kernel_rfl) ?_)
        | (go_at_call 32; (with_reducible refine (HC.out _ M.out.s).mono ?_); rintro e w2 ⟨rfl, hb⟩; replace M := Lib.hid (kept_trv _ _ _ _ _ _ _ M.out hb); replace HB := Lib.hid (HB.out.trans (hb.mono HB.out.size)); clear hb; simp only [numE]))
      have c0 : w2.cell? ⟨q, 0, none⟩ = some (.slice pa 0 pc) := cell_of_row _ _ _ _ _ _ M.out.r
      go_wp2_with (fail)
      first | go_ret | go_ret2
      exact ⟨by rw [HF.out]; rfl, HB.out⟩
    · have h0I : ¬ (n : Int) = 0 := by omega
      have HF := Lib.hid (show R = { data := #[105, 98, 99, 47] } ++ strOfNums (textL (sumF (numsOf S))) from by rw [HR.out, if_pos ⟨rfl, fun h => h0 (HN.out.2 h)⟩]; rfl)
      go_upto_region 2 with (first
        | (refine wpList_load_row rfl 62 (.tmp 1) rfl q rfl 62 _ (0, 0) _ M.out.r Tryz.underlying62 rfl (by kernel_rfl) ?_)
        | (go_at_call 32; (with_reducible refine (HC.out _ M.out.s).mono ?_); rintro e w2 ⟨rfl, hb⟩; replace M := Lib.hid (kept_trv _ _ _ _ _ _ _ M.out hb); replace HB := Lib.hid (HB.out.trans (hb.mono HB.out.size)); clear hb; simp only [numE]))
      have c0 : w2.cell? ⟨q, 0, none⟩ = some (.slice pa n pc) := cell_of_row _ _ _ _ _ _ M.out.r
      go_upto_region 4 with (fail)
      clear c0
      have HB2 := Lib.hid (bytesW_below w2 S)
      have HY := Lib.hid (bytesW_in w2 S (by unfold maxLen; omega))
      have hcv : ∀ w : World, (convert 9 39 (.string S)).run Tryz.prog w = .ok (.slice (some ⟨w.heap.size, 0, none⟩) S.size (grownCap w S.size 0 5)) (bytesW w S) :=
        fun w => run_bytes_of_string w 9 39 5 S Tryz.underlying9 Tryz.underlying39 Tryz.underlying5
      have hts : (strOfNums (textL (sumF (numsOf S)))).size = 64 := by
        have h : ∀ l : List Int, (strOfNums l).size = l.length := fun l => by unfold strOfNums; simp [ByteArray.size]
        rw [h]
        simp [textL]
      have z1 : ¬ 9223372036854775807 < 4 + (strOfNums (textL (sumF (numsOf S)))).size := by omega
      have z2 : ¬ 9223372036854775807 < (({ data := #[105, 98, 99, 47] } : ByteArray)).size + (strOfNums (textL (sumF (numsOf S)))).size := by rw [hts]; decide
      obtain ⟨TX, hTX⟩ : ∃ t, t = strOfNums (textL (sumF (numsOf S))) := ⟨_, rfl⟩
      have HTS := Lib.hid (HTX.out (numsOf S))
      rw [← hTX] at HF HTS z1 z2
      obtain ⟨SF, hSF⟩ : ∃ t, t = sumF (numsOf S) := ⟨_, rfl⟩
      rw [← hSF] at HSU HTS
      clear hts hTX hSF
      go_wp2_with (first
        | (go_at_call 54; (with_reducible refine (HSU.out _ _ HY.out hfz).mono ?_); rintro e w3 ⟨rfl, hb⟩; replace HB := Lib.hid ((HB.out.trans (HB2.out.mono HB.out.size)).trans (hb.mono (HB.out.trans (HB2.out.mono HB.out.size)).size)); clear hb)
        | (go_at_call 85; (with_reducible refine (HTS.out _).mono ?_); rintro e w4 ⟨rfl, hb⟩; replace HB := Lib.hid (HB.out.trans (hb.mono HB.out.size)); clear hb))
      first | go_ret | go_ret2
      exact ⟨by rw [HF.out]; rfl, HB.out⟩
  all_goals
    go_wp2_with (first
      | (refine wpList_load_row rfl 62 (.tmp 1) rfl q rfl 62 _ (0, 0) _ M.out.r Tryz.underlying62 rfl (by kernel_rfl) ?_)
      | (go_at_call 32; (with_reducible refine (HC.out _ M.out.s).mono ?_); rintro e w2 ⟨rfl, hb⟩; replace HB := Lib.hid (HB.out.trans (hb.mono HB.out.size)); clear hb; simp only [numE]))
    first | go_ret | go_ret2
    exact ⟨by rw [HR.out, if_neg (fun h => by cases h.1)]; rfl, HB.out⟩
end Go.Proofs.YteokgklfljhcaaaGreatDoor
