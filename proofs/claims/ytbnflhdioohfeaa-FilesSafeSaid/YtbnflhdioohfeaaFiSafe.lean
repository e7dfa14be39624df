/- FilesSafe: the walk. -/
import Derived.Test.YtbnflhdioohfeaaFiSafM
namespace Go.Proofs.Ytbnflhdioohfeaa
open Go.RowKit Go.Maps Go.Proofs
set_option maxRecDepth 100000
theorem small_mod (n : Int) (m : Nat) (hm : 0 < m) (hm2 : m < 1000) : ∃ k : Nat, k < m ∧ wrap64 ((IntKind.u64.wrap n).tmod m) = (k : Int) := by
  have h0 : 0 ≤ IntKind.u64.wrap n := by
    unfold IntKind.wrap
    simp [IntKind.bits, IntKind.signed]
    omega
  have h1 : (IntKind.u64.wrap n).tmod m = IntKind.u64.wrap n % m := Int.tmod_eq_emod_of_nonneg h0
  have h2 := Int.emod_nonneg (IntKind.u64.wrap n) (show (m : Int) ≠ 0 by omega)
  have h3 := Int.emod_lt_of_pos (IntKind.u64.wrap n) (show (0 : Int) < m by omega)
  refine ⟨(IntKind.u64.wrap n % m).toNat, by omega, ?_⟩
  rw [h1, Int.toNat_of_nonneg h2]
  unfold wrap64; omega
def stS0 (a : List Int) : St := ⟨[⟨[108, 111, 103], a, 0⟩], 1, false, 0, false⟩
def stS1 (a : List Int) : St := ⟨[⟨[108, 111, 103], a, a.length⟩], 2, false, 0, false⟩
def stS2 (a : List Int) (k : Nat) : St := ⟨[⟨[108, 111, 103], a, a.length⟩], 2, true, k, false⟩
theorem fs_app (a : List Int) (h : a.length ≤ 1048576) : aAppend st0 nmL a = (none, stS0 a) := by
  have he : aApE st0 nmL a.length = none := apE_gen st0 nmL _ (chkL false) (by decide) (by show 0 + a.length ≤ _; omega)
  unfold aAppend
  rw [he]
  rfl
theorem fs_sync (a : List Int) : aSync (stS0 a) nmL = (none, stS1 a) := by
  unfold aSync aFind
  simp only [stS0, chkL]
  rfl
theorem fs_arm (a : List Int) (k : Nat) : aArm (stS1 a) (k : Int) = (none, stS2 a k) := by
  unfold aArm
  rw [if_neg (by omega)]
  rfl
theorem fs_inv (a b : List Int) (k : Nat) : SInv a b 0 (stS2 a k) := ⟨⟨0, Nat.le_refl _, by simp [catN]; rfl⟩, by show 2 ≤ _; omega⟩
theorem NumsIn.up {B B' : Nat} {w w' : World} {v : Value} {ks : List Int} (h : NumsIn B w v ks) (hb : Below w.heap.size w w') (hB : w.heap.size ≤ B') : NumsIn B' w' v ks := by
  obtain ⟨a, cap, rfl, h1, h2, h3⟩ := h
  refine ⟨a, cap, rfl, h1, h2, ?_⟩
  cases ks with
  | nil => exact .inl rfl
  | cons k t =>
    right
    rcases h3 with h3 | ⟨ab, ao, rfl, _, hc⟩
    · cases h3
    · have hlt := World.block_lt_of_cell? w _ (hc 0 k rfl)
      exact ⟨ab, ao, rfl, .inl (by simp only at hlt; omega), fun i x hi => (hb.cell (p := ⟨ab, ao + i, none⟩) hlt).trans (hc i x hi)⟩
theorem str_app (a b : List Int) : strOfNums (a ++ b) = strOfNums a ++ strOfNums b := by
  apply ByteArray.ext
  apply Array.ext'
  rw [strOfNums_data, ByteArray.data_append, Array.toList_append, strOfNums_data, strOfNums_data, List.map_append]
theorem str_size (a : List Int) : (strOfNums a).size = a.length := by
  show (strOfNums a).data.size = _
  rw [← Array.length_toList, strOfNums_data, List.length_map]
theorem str_take (a : List Int) (m : Nat) (hm : m ≤ a.length) : (strOfNums a).extract 0 m = strOfNums (a.take m) := by
  apply ByteArray.ext
  apply Array.ext'
  rw [strOfNums_data, ByteArray.data_extract, Array.toList_extract, strOfNums_data]
  simp [List.map_take]
set_option maxRecDepth 2000000 in
set_option maxHeartbeats 8000000 in
theorem fsafe_any (ya yb : Value) (a b : List Int) (t : AT) (w : World) (ha : BytesIn w ya a) (hb : BytesIn w yb b) (hao : bytesOk a) (hbo : bytesOk b) (ht : AOk w t) :
    Calls Try.prog 3 #[ya, yb, .agg t.cells.toArray] w fun e w' => e = .returned (.bool true) ∧ Below w.heap.size w w' := by
  obtain ⟨a0, ca, rfl, hca, hma, hax⟩ := ha
  have HA : Hid (BytesIn w (.slice a0 a.length ca) a) := Lib.hid ⟨a0, ca, rfl, hca, hma, hax⟩
  obtain ⟨b0, cb, rfl, hcb, hmb, hbx⟩ := hb
  have HB : Hid (BytesIn w (.slice b0 b.length cb) b) := Lib.hid ⟨b0, cb, rfl, hcb, hmb, hbx⟩
  obtain ⟨tk, tn, tm, tw, dv, dd, kv, kk⟩ := t
  have HKP := Lib.hid ht.keep
  obtain ⟨d0, cd, hdv, _⟩ := ht.data
  obtain ⟨k0, ck, hkv, _⟩ := ht.keep
  simp only at hdv hkv
  subst hdv hkv
  have HAO := Lib.hid hao
  have HBO := Lib.hid hbo
  have hali : (a.length : Int) ≤ 9223372036854775807 := by unfold maxLen at hma; omega
  have hbli : (b.length : Int) ≤ 9223372036854775807 := by unfold maxLen at hmb; omega
  simp only at HKP
  clear ht hca hma hax hcb hmb hbx hao hbo
  obtain ⟨k, hk, hkn⟩ := small_mod tn 4 (by decide) (by decide)
  have HKN := Lib.hid hkn
  have hki : (k : Int) < 4 := by omega
  clear hkn hk
  show Calls Try.prog 3 #[.slice a0 a.length ca, .slice b0 b.length cb, .agg #[.int .i64 tk, .int .i64 tn, .string tm, .string tw, .slice d0 dd.length cd, .slice k0 kk.length ck]] w _
  by_cases hbig : 1048576 < a.length ∨ 1048576 < b.length
  · by_cases hba : 1048576 < a.length
    · have hd : decide ((1048576 : Int) < a.length) = true := by simp; omega
      clear hba hbig
      go_enter Try.func3, Try.ntmps3
      go_wp2_with (first | (go_at_call 4; (with_reducible refine (new_any _).mono ?_); rintro e w1 ⟨rfl, ho, hb⟩; have HB1 := Lib.hid hb; clear ho hb) | (go_at_call 5; (with_reducible refine (sure_any _).mono ?_); rintro e w3 ⟨rfl, hb3⟩; have HB3 := Lib.hid ((below1 w _).trans ((HB1.out.trans (hb3.mono HB1.out.size)).mono (by simp))); clear hb3))
      go_ret
      exact ⟨rfl, HB3.out⟩
    · have hd : decide ((1048576 : Int) < a.length) = false := by simp; omega
      have hd2 : decide ((1048576 : Int) < b.length) = true := by simp; omega
      clear hba hbig
      go_enter Try.func3, Try.ntmps3
      go_wp2_with (first | (go_at_call 4; (with_reducible refine (new_any _).mono ?_); rintro e w1 ⟨rfl, ho, hb⟩; have HB1 := Lib.hid hb; clear ho hb) | (go_at_call 5; (with_reducible refine (sure_any _).mono ?_); rintro e w3 ⟨rfl, hb3⟩; have HB3 := Lib.hid ((below1 w _).trans ((HB1.out.trans (hb3.mono HB1.out.size)).mono (by simp))); clear hb3))
      go_ret
      exact ⟨rfl, HB3.out⟩
  · have hd : decide ((1048576 : Int) < a.length) = false := by simp; omega
    have hd2 : decide ((1048576 : Int) < b.length) = false := by simp; omega
    have HSA : Hid (a.length ≤ 1048576) := Lib.hid (by omega)
    have HSB : Hid (b.length ≤ 1048576) := Lib.hid (by omega)
    clear hbig
    obtain ⟨WX, hWX⟩ : ∃ WX, WX = w.alloc (.cells #[.int .i64 tk, .int .i64 tn, .string tm, .string tw, .slice d0 dd.length cd, .slice k0 kk.length ck] 25) := ⟨_, rfl⟩
    have HWX := Lib.hid hWX
    have HBX : Hid (Below w.heap.size w WX) := Lib.hid (by rw [hWX]; exact below1 _ _)
    have HSX : Hid (WX.heap.size = w.heap.size + 1) := Lib.hid (by rw [hWX]; simp)
    have HXX : Hid (WX.heap[w.heap.size]? = some (.cells #[.int .i64 tk, .int .i64 tn, .string tm, .string tw, .slice d0 dd.length cd, .slice k0 kk.length ck] 25 (0, 0))) := Lib.hid (by rw [hWX]; exact heap_alloc_new _ _)
    clear hWX
    go_enter Try.func3, Try.ntmps3
    go_upto_region 1 with (fail)
    rw [← HWX.out]
    clear HWX
    go_wp2_with (go_at_call 4; (with_reducible refine (new_own _).mono ?_); rintro e w1 ⟨p, rfl, ho, hb⟩; have HO1 := Lib.hid ho; have HB1 := Lib.hid hb; clear ho hb)
    have h1 : Calls Try.prog 6 #[.pointer (some ⟨p, 0, none⟩), .string { data := #[108, 111, 103] }, .slice a0 a.length ca] w1 (OwnPost WX.heap.size p w1 none (stS0 a)) := s_own (append_own HO1.out nmL (by decide) _ a ((HA.out.below HBX.out).below HB1.out) HAO.out (by have := HSA.out; omega) (by decide)) (fs_app a HSA.out)
    have H1 := Lib.hid h1
    clear h1
    (with_reducible refine H1.out.mono ?_); rintro e w2 ⟨rfl, ho2, hb2⟩
    simp only [errV]
    have HO2 := Lib.hid ho2
    have HB2 := Lib.hid (HB1.out.trans hb2)
    clear ho2 hb2 H1
    have h2 : Calls Try.prog 7 #[.pointer (some ⟨p, 0, none⟩), .string { data := #[108, 111, 103] }] w2 (OwnPost WX.heap.size p w2 none (stS1 a)) := s_own (sync_own HO2.out nmL (by decide) (by show 1 < 4611686018427387904; decide)) (fs_sync a)
    have H2 := Lib.hid h2
    clear h2
    go_wp2_with (fail)
    (with_reducible refine H2.out.mono ?_); rintro e w3 ⟨rfl, ho3, hb3⟩
    simp only [errV]
    have HO3 := Lib.hid ho3
    have HB3 := Lib.hid (HB2.out.trans hb3)
    clear ho3 hb3 H2
    have q1 : w3.cell? ⟨w.heap.size, 1, none⟩ = some (.int .i64 tn) := below_cell HB3.out HXX.out rfl
    go_wp2_with (fail)
    have hz := HKN.out
    simp only [Int.cast_ofNat_Int] at hz
    rw [hz]
    clear hz q1
    have h3 : Calls Try.prog 8 #[.pointer (some ⟨p, 0, none⟩), .int .i64 (k : Int)] w3 (OwnPost WX.heap.size p w3 none (stS2 a k)) := s_own (arm_own HO3.out (k : Int) (by omega)) (fs_arm a k)
    have H3 := Lib.hid h3
    clear h3
    (with_reducible refine H3.out.mono ?_); rintro e w4 ⟨rfl, ho4, hb4⟩
    simp only [errV]
    have HO4 := Lib.hid ho4
    have HB4 := Lib.hid (HB3.out.trans hb4)
    clear ho4 hb4 H3
    go_wp2_with (fail)
    have HREL : Hid ((∃ st, OwnP WX.heap.size w4 p st ∧ SInv a b 0 st) ∧ Below WX.heap.size WX w4) := Lib.hid ⟨⟨_, HO4.out, fs_inv a b k⟩, HB4.out⟩
    clear hd hd2
    go_loopw [8] (fun i wr => ∃ j : Nat, j ≤ 3 ∧ i = .int .i64 (j : Int) ∧ Hid ((∃ st, OwnP WX.heap.size wr p st ∧ SInv a b j st) ∧ Below WX.heap.size WX wr)) (fun i _ => 3 - (intOf i).toNat)
    case atStart => exact ⟨0, by omega, rfl, HREL⟩
    case round =>
      obtain ⟨j, hj, rfl, hr⟩ := hrel
      clear HREL
      obtain ⟨⟨st, hso, hsi⟩, hsb⟩ := hr.out
      have HSO := Lib.hid hso
      have HSI := Lib.hid hsi
      have HSBB := Lib.hid hsb
      clear hr hso hsi hsb
      by_cases hlt : j < 3
      · obtain ⟨e1, st1, ha1, hi1⟩ := sinv_log HSI.out
        have h1 : Calls Try.prog 6 #[.pointer (some ⟨p, 0, none⟩), .string { data := #[108, 111, 103] }, .slice b0 b.length cb] wr (OwnPost WX.heap.size p wr e1 st1) := s_own (append_own HSO.out nmL (by decide) _ b ((HB.out.below HBX.out).below HSBB.out) HBO.out (by have := HSB.out; omega) (by have := HSI.out.2; omega)) ha1
        have H1 := Lib.hid h1
        have HI1 := Lib.hid hi1
        clear h1 ha1 hi1
        go_wp2_with (fail)
        (with_reducible refine H1.out.mono ?_); rintro e w5 ⟨rfl, ho5, hb5⟩
        have HO5 := Lib.hid ho5
        have HB5 := Lib.hid (HSBB.out.trans hb5)
        clear ho5 hb5 H1
        obtain ⟨e2, st2, ha2, hi2⟩ := sinv_z HI1.out
        have h2 : Calls Try.prog 6 #[.pointer (some ⟨p, 0, none⟩), .string { data := #[122] }, .slice b0 b.length cb] w5 (OwnPost WX.heap.size p w5 e2 st2) := s_own (append_own HO5.out nmZ (by decide) _ b ((HB.out.below HBX.out).below HB5.out) HBO.out (by have := HSB.out; omega) (by have : st1.steps + 1 ≤ _ := HI1.out.2; omega)) ha2
        have H2 := Lib.hid h2
        have HI2 := Lib.hid hi2
        clear h2 ha2 hi2
        go_wp2_with (fail)
        (with_reducible refine H2.out.mono ?_); rintro e w6 ⟨rfl, ho6, hb6⟩
        have HO6 := Lib.hid ho6
        have HB6 := Lib.hid (HB5.out.trans hb6)
        clear ho6 hb6 H2
        go_wp2_with (fail)
        go_roundw
        case rel => exact ⟨j + 1, by omega, by go_num, Lib.hid ⟨⟨_, HO6.out, HI2.out⟩, HB6.out⟩⟩
        case measure => simp [intOf]; omega
      · obtain rfl : j = 3 := by omega
        have q5 : wr.cell? ⟨w.heap.size, 5, none⟩ = some (.slice k0 kk.length ck) := below_cell HSBB.out HXX.out rfl
        obtain ⟨⟨jj, hjj, hgg⟩, _⟩ := HSI.out
        obtain ⟨m, hm1, hm2, hgs⟩ := aget_start _ st.L kk _ hgg (by show a.length ≤ (a ++ catN jj b).length; rw [List.length_append]; omega)
        simp only at hm1 hm2 hgs
        have hfind : aFind (aStart st kk) nmL = (none, some ⟨[108, 111, 103], (a ++ catN jj b).take m, m⟩) := by
          unfold aFind
          have hl : aget nmL.data.toList (aStart st kk).L = some ⟨[108, 111, 103], (a ++ catN jj b).take m, m⟩ := hgs
          rw [hl, show (aStart st kk).down = false from rfl, chkL]
          rfl
        have hml : ((a ++ catN jj b).take m).length = m := by rw [List.length_take]; omega
        obtain ⟨xs, hxs⟩ : ∃ xs, xs = (a ++ catN jj b).take m := ⟨_, rfl⟩
        have hall : (strOfNums (a ++ b ++ b ++ b)).extract 0 m = strOfNums xs := by
          have h3 : ∃ r, a ++ b ++ b ++ b = (a ++ catN jj b) ++ r := by
            match jj, hjj with
            | 0, _ => exact ⟨b ++ b ++ b, by simp [catN]⟩
            | 1, _ => exact ⟨b ++ b, by simp [catN]⟩
            | 2, _ => exact ⟨b, by simp [catN]⟩
            | 3, _ => exact ⟨[], by simp [catN]⟩
          obtain ⟨r, hr⟩ := h3
          rw [hr, str_take _ _ (by rw [List.length_append]; omega), List.take_append_of_le_length hm2, ← hxs]
        have hcl : m ≤ a.length + 3 * b.length := by
          rw [List.length_append, catN_length] at hm2
          have := Nat.mul_le_mul_right b.length hjj
          omega
        have hkp := HKP.out.up (B' := WX.heap.size) (HBX.out.trans (HSBB.out.mono (by rw [HSX.out]; omega))) (by rw [HSX.out]; omega)
        have h1 := start_own HSO.out _ kk hkp
        have H1 := Lib.hid h1
        rw [← hxs] at hfind hml
        have HF := Lib.hid hfind
        have HML := Lib.hid hml
        have HALL := Lib.hid hall
        have HM1 := Lib.hid hm1
        have HCL := Lib.hid hcl
        clear hj hlt hjj hgg hgs hm2 hm1 hfind hml hxs hall hcl hkp h1
        go_wp2_with (fail)
        (with_reducible refine H1.out.mono ?_); rintro e w5 ⟨rfl, ho5, hb5⟩
        have HO5 := Lib.hid ho5
        have HB5 := Lib.hid (HSBB.out.trans hb5)
        clear ho5 hb5 H1 q5
        have h2 : Calls Try.prog 10 #[.pointer (some ⟨p, 0, none⟩), .string { data := #[108, 111, 103] }] w5 fun r w' => ∃ ac cc, r = .returned (.tuple #[.slice ac m cc, .nilIface]) ∧ BytesIn w' (.slice ac m cc) xs ∧ Below w5.heap.size w5 w' := (read_own HO5.out nmL (by decide) _ _ HF.out).mono fun r w' ⟨ac, cc, h1, h2, h3⟩ => ⟨ac, cc, by rw [h1]; show Ending.returned (Value.tuple #[.slice ac xs.length cc, _]) = _; rw [HML.out]; rfl, by
          have h4 := owns_in h2 (by show xs.length ≤ maxLen; rw [HML.out]; have := HCL.out; have := HSA.out; have := HSB.out; unfold maxLen; omega)
          have h5 : BytesIn w' (.slice ac xs.length cc) xs := h4
          rw [HML.out] at h5; exact h5, h3⟩
        have H2 := Lib.hid h2
        clear h2
        go_wp2_with (fail)
        (with_reducible refine H2.out.mono ?_); rintro e w6 ⟨ac, cc, rfl, hbc, hb6⟩
        have HO6 := Lib.hid (HO5.out.below hb6)
        have HB6 := Lib.hid (HB5.out.trans (hb6.mono HO5.out.le))
        have HBC := Lib.hid hbc
        clear hbc hb6 H2
        have h3 : Calls Try.prog 11 #[.pointer (some ⟨p, 0, none⟩), .string { data := #[108, 111, 103] }] w6 fun r w' => r = .returned (.tuple #[.int .i64 (m : Int), .nilIface]) ∧ Below w6.heap.size w6 w' := safe_own HO6.out nmL (by decide) _ _ HF.out
        have H3 := Lib.hid h3
        clear h3
        go_wp2_with (fail)
        (with_reducible refine H3.out.mono ?_); rintro e w7 ⟨rfl, hb7⟩
        have HO7 := Lib.hid (HO6.out.below hb7)
        have HB7 := Lib.hid (HB6.out.trans (hb7.mono HO6.out.le))
        have HBC7 := Lib.hid (HBC.out.below hb7)
        clear hb7 H3
        have hca7 : (convert 22 9 (.slice a0 a.length ca)).run Try.prog w7 = .ok (.string (strOfNums a)) w7 := conv_bytes w7 _ _ ((HA.out.below HBX.out).below HB7.out)
        have hcb7 : (convert 22 9 (.slice b0 b.length cb)).run Try.prog w7 = .ok (.string (strOfNums b)) w7 := conv_bytes w7 _ _ ((HB.out.below HBX.out).below HB7.out)
        have e1 : ¬ 9223372036854775807 < (strOfNums a).size + (strOfNums b).size := by rw [str_size, str_size]; have := HSA.out; have := HSB.out; omega
        have e2 : ¬ 9223372036854775807 < (strOfNums a).size + (strOfNums b).size + (strOfNums b).size := by rw [str_size, str_size]; have := HSA.out; have := HSB.out; omega
        have e3 : ¬ 9223372036854775807 < (strOfNums a).size + (strOfNums b).size + (strOfNums b).size + (strOfNums b).size := by rw [str_size, str_size]; have := HSA.out; have := HSB.out; omega
        go_upto_region 15 with (fail)
        have hax : (strOfNums a ++ strOfNums b ++ strOfNums b ++ strOfNums b).extract 0 m = strOfNums xs := by rw [← str_app, ← str_app, ← str_app]; exact HALL.out
        have hsz : (strOfNums a ++ strOfNums b ++ strOfNums b ++ strOfNums b).size = a.length + 3 * b.length := by rw [← str_app, ← str_app, ← str_app, str_size]; simp only [List.length_append]; omega
        generalize strOfNums a ++ strOfNums b ++ strOfNums b ++ strOfNums b = alls at hax hsz ⊢
        have hm0 : (m : Int) ≤ alls.size := by rw [hsz]; have := HCL.out; omega
        have hm0n : m ≤ alls.size := by rw [hsz]; exact HCL.out
        have hc1 : decide ((a.length : Int) ≤ m) = true := by have := HM1.out; simp; omega
        have hc1n : decide (a.length ≤ m) = true := by have := HM1.out; simpa using this
        have hc2 : decide ((m : Int) ≤ alls.size) = true := by simpa using hm0n
        clear hca7 hcb7 e1 e2 e3 hsz
        have hS0 : (convert 22 9 (.slice ac m cc)).run Try.prog w7.drew = .ok (.string (strOfNums xs)) w7.drew := conv_bytes _ _ _ (HBC7.out.below (Below.refl _ w7).drew)
        have HD7 := Lib.hid (down_own (HO7.out.below (Below.refl _ w7).drew))
        have HDD : Hid (Calls Try.prog 12 #[.pointer (some ⟨p, 0, none⟩)] w7.drew fun e w' => e = .returned (.bool false) ∧ w7.drew = w') := Lib.hid HD7.out
        clear HD7
        go_region_held3 (fun w' => (convert 22 9 (.slice ac m cc)).run Try.prog w' = .ok (.string (strOfNums xs)) w')
          (first | (with_reducible exact hS0) | (with_reducible exact hS1))
          (first | (go_at_call 12; (with_reducible refine HDD.out.mono ?_); rintro e w8 ⟨rfl, rfl⟩) | (go_at_call 5; (with_reducible refine (sure_any _).mono ?_); rintro e w8 ⟨rfl, hb8⟩; have HB8 := Lib.hid hb8; have hS1 : (convert 22 9 (.slice ac m cc)).run Try.prog w8 = .ok (.string (strOfNums xs)) w8 := conv_bytes _ _ _ ((HBC7.out.below (Below.refl _ w7).drew).below hb8); clear hb8))
        go_wp2_with (fail)
        go_ret
        exact ⟨rfl, HBX.out.trans ((HB7.out.trans (((Below.refl _ w7).drew.trans HB8.out).mono HO7.out.le)).mono (by rw [HSX.out]; omega))⟩
end Go.Proofs.Ytbnflhdioohfeaa
