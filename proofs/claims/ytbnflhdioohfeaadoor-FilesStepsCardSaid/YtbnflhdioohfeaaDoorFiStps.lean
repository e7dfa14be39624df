/- FilesSteps: the walk. -/
import Derived.Test.YtbnflhdioohfeaaDoorFiSure
import Derived.Test.YtbnflhdioohfeaaDoorNum
namespace Go.Proofs.YtbnflhdioohfeaaDoor
open Go.RowKit Go.Maps Go.Proofs
set_option maxRecDepth 100000
def nmA : ByteArray := { data := #[97] }
def catN : Nat → List Int → List Int
  | 0, _ => []
  | j + 1, b => catN j b ++ b
theorem catN_length (b : List Int) : ∀ j, (catN j b).length = j * b.length
  | 0 => by simp [catN]
  | j + 1 => by rw [catN, List.length_append, catN_length b j, Nat.add_mul, Nat.one_mul]
theorem catN_ok {b : List Int} (h : bytesOk b) : ∀ j, bytesOk (catN j b)
  | 0 => fun x hx => by cases hx
  | j + 1 => fun x hx => by
    rcases List.mem_append.1 hx with hx | hx
    · exact catN_ok h j x hx
    · exact h x hx
def stAt (k : Nat) (b : List Int) (i : Nat) : St :=
  if i = 0 then ⟨[], 0, true, k, false⟩ else ⟨[⟨[97], catN (min i (k + 1)) b, 0⟩], min i k, true, k - min i k, decide (k < i)⟩
theorem chkA (d : Bool) : checkE d [nmA] = if d then some 13 else none := by cases d <;> decide +kernel
theorem stAt_succ (k : Nat) (b : List Int) (i : Nat) : stAt k b (i + 1) = ⟨[⟨[97], catN (min (i + 1) (k + 1)) b, 0⟩], min (i + 1) k, true, k - min (i + 1) k, decide (k < i + 1)⟩ := by unfold stAt; rw [if_neg (by omega)]
theorem apE_go (st : St) (m : Nat) (hd : st.down = false) (h64 : st.L.length < 64) (hl : (afXs (aget [97] st.L)).length + m ≤ 16777216) : aApE st nmA m = none := by
  unfold aApE
  rw [hd, chkA]
  show (if _ then some 10 else if 16777216 < (afXs (aget [97] st.L)).length + m then some 2 else none) = none
  rw [if_neg (fun h => by have := h.2; omega), if_neg (by omega)]
theorem app_down (st : St) (b : List Int) (hap : aApE st nmA b.length = none) (h : st.armed = true ∧ st.left = 0) : aAppend st nmA b = (some 13, { st with L := aput ⟨[97], afXs (aget [97] st.L) ++ b, afSafe (aget [97] st.L)⟩ st.L, down := true }) := by
  unfold aAppend; rw [hap]; exact if_pos h
theorem app_step (st : St) (b : List Int) (hap : aApE st nmA b.length = none) (h : ¬ (st.armed = true ∧ st.left = 0)) : aAppend st nmA b = (none, aStepped st (aput ⟨[97], afXs (aget [97] st.L) ++ b, afSafe (aget [97] st.L)⟩ st.L)) := by
  unfold aAppend; rw [hap]; exact if_neg h
theorem stAt_next (k : Nat) (b : List Int) (i : Nat) (hi : i < 15) (hk : k < 12) (hb : b.length ≤ 1000) : aAppend (stAt k b i) nmA b = (if i < k then none else some 13, stAt k b (i + 1)) := by
  have hcl : (catN (min i (k + 1)) b).length + b.length ≤ 16777216 := by
    rw [catN_length]
    have : min i (k + 1) ≤ 13 := by omega
    have := Nat.mul_le_mul this hb
    omega
  rw [stAt_succ]
  by_cases h0 : i = 0
  · subst h0
    have hap : aApE ⟨[], 0, true, k, false⟩ nmA b.length = none := apE_go _ _ rfl (by show 0 < 64; decide) (by show 0 + b.length ≤ _; omega)
    show aAppend ⟨[], 0, true, k, false⟩ nmA b = _
    rw [show min (0 + 1) (k + 1) = 1 by omega]
    by_cases hk0 : k = 0
    · subst hk0
      rw [app_down _ _ hap ⟨rfl, rfl⟩]
      rfl
    · rw [app_step _ _ hap (by rintro ⟨_, h⟩; exact hk0 h), if_pos (by omega), show min (0 + 1) k = 1 by omega, show decide (k < 0 + 1) = false by simp; omega]
      rfl
  · by_cases hd : k < i
    · have hst : stAt k b i = ⟨[⟨[97], catN (k + 1) b, 0⟩], k, true, 0, true⟩ := by
        unfold stAt
        rw [if_neg h0, show min i (k + 1) = k + 1 by omega, show min i k = k by omega, Nat.sub_self, show decide (k < i) = true by simpa using hd]
      rw [hst, if_neg (by omega), show min (i + 1) (k + 1) = k + 1 by omega, show min (i + 1) k = k by omega, Nat.sub_self, show decide (k < i + 1) = true by simp; omega]
      have hap : aApE ⟨[⟨[97], catN (k + 1) b, 0⟩], k, true, 0, true⟩ nmA b.length = some 13 := by
        unfold aApE
        rw [show (St.mk [⟨[97], catN (k + 1) b, 0⟩] k true 0 true).down = true from rfl, chkA]
        rfl
      unfold aAppend
      rw [hap]
    · have hst : stAt k b i = ⟨[⟨[97], catN i b, 0⟩], i, true, k - i, false⟩ := by
        unfold stAt
        rw [if_neg h0, show min i (k + 1) = i by omega, show min i k = i by omega, show decide (k < i) = false by simpa using hd]
      have hap : aApE ⟨[⟨[97], catN i b, 0⟩], i, true, k - i, false⟩ nmA b.length = none := apE_go _ _ rfl (by show 1 < 64; decide) (by rw [show min i (k + 1) = i by omega] at hcl; exact hcl)
      rw [hst, show min (i + 1) (k + 1) = i + 1 by omega]
      by_cases hki : k = i
      · rw [app_down _ _ hap ⟨rfl, by show k - i = 0; omega⟩, if_neg (by omega), show min (i + 1) k = i by omega, show decide (k < i + 1) = true by simp; omega, show k - i = 0 by omega]
        rfl
      · rw [app_step _ _ hap (by rintro ⟨_, h⟩; have h : k - i = 0 := h; omega), if_pos (by omega), show min (i + 1) k = i + 1 by omega, show decide (k < i + 1) = false by simp; omega, show k - (i + 1) = k - i - 1 by omega]
        rfl
theorem stAt_15 (k : Nat) (b : List Int) (hk : k < 12) : stAt k b 15 = ⟨[⟨[97], catN (k + 1) b, 0⟩], k, true, 0, true⟩ := by
  unfold stAt
  rw [if_neg (by omega), show min 15 (k + 1) = k + 1 by omega, show min 15 k = k by omega, Nat.sub_self, show decide (k < 15) = true by simp; omega]
def stEnd (k : Nat) (b : List Int) : St := ⟨[⟨[97], catN (k + 1) b, (k + 1) * b.length⟩], k, false, 0, false⟩
theorem st_find15 (k : Nat) (b : List Int) : aFind ⟨[⟨[97], catN (k + 1) b, 0⟩], k, true, 0, true⟩ nmA = (some 13, none) := by
  unfold aFind
  simp only [chkA]
  rfl
theorem st_sync15 (k : Nat) (b : List Int) : aSync ⟨[⟨[97], catN (k + 1) b, 0⟩], k, true, 0, true⟩ nmA = (some 13, ⟨[⟨[97], catN (k + 1) b, 0⟩], k, true, 0, true⟩) := by
  unfold aSync
  rw [st_find15]
theorem st_start (k : Nat) (b : List Int) (hk : k < 12) (hb : b.length ≤ 1000) : aStart ⟨[⟨[97], catN (k + 1) b, 0⟩], k, true, 0, true⟩ [1099511627776] = stEnd k b := by
  have hl := catN_length b (k + 1)
  have hle : (catN (k + 1) b).length ≤ 16777216 := by rw [hl]; have := Nat.mul_le_mul (show k + 1 ≤ 13 by omega) hb; omega
  unfold aStart stEnd
  show St.mk (if (catN (k + 1) b).length = 0 then _ else _) k false 0 false = _
  split
  · rename_i h0
    rw [← hl, h0]; rfl
  · show St.mk (aCutF ⟨[97], catN (k + 1) b, 0⟩ (aKept ⟨[97], catN (k + 1) b, 0⟩ 1099511627776) :: aStartL [] []) k false 0 false = _
    have hkept : aKept ⟨[97], catN (k + 1) b, 0⟩ 1099511627776 = (catN (k + 1) b).length := by
      unfold aKept
      simp only
      omega
    rw [hkept]
    unfold aCutF
    simp only [List.take_length, aStartL]
    rw [hl]
theorem st_findE (k : Nat) (b : List Int) : aFind (stEnd k b) nmA = (none, some ⟨[97], catN (k + 1) b, (k + 1) * b.length⟩) := by
  unfold aFind stEnd
  simp only [chkA]
  rfl
theorem st_syncE (k : Nat) (b : List Int) : (aSync (stEnd k b) nmA).1 = none := by
  unfold aSync
  rw [st_findE]
  rfl
theorem small_mod (n : Int) (m : Nat) (hm : 0 < m) (hm2 : m < 1000) : ∃ k : Nat, k < m ∧ wrap64 ((IntKind.u64.wrap n).tmod m) = (k : Int) := by
  have h0 : 0 ≤ IntKind.u64.wrap n := by
    unfold IntKind.wrap
    simp [IntKind.bits, IntKind.signed]
    omega
  have h1 : (IntKind.u64.wrap n).tmod m = IntKind.u64.wrap n % m := Int.tmod_eq_emod_of_nonneg h0
  have h2 := Int.emod_nonneg (IntKind.u64.wrap n) (show (m : Int) ≠ 0 by omega)
  have h3 := Int.emod_lt_of_pos (IntKind.u64.wrap n) (show (0 : Int) < m by omega)
  refine ⟨(IntKind.u64.wrap n % m).toNat, by omega, ?_⟩
  rw [h1, Int.toNat_of_nonneg h2]
  unfold wrap64; omega
set_option maxRecDepth 2000000 in
set_option maxHeartbeats 8000000 in
theorem stps_any (n : Int) (y : Value) (b : List Int) (w : World) (hy : BytesIn w y b) (hok : bytesOk b) (hg : ErrType w) (hn : -9223372036854775808 ≤ n ∧ n ≤ 9223372036854775807) (hl : b.length ≤ 140737488355328) :
    Calls Tryd.prog 5 #[.int .i64 n, y] w fun e w' => e = .returned (.bool true) ∧ Below w.heap.size w w' := by
  obtain ⟨a0, cy, hyv, hcl, hml, hyx⟩ := hy
  have HY : Hid (BytesIn w (.slice a0 b.length cy) b) := Lib.hid ⟨a0, cy, rfl, hcl, hml, hyx⟩
  subst hyv
  have HOK := Lib.hid hok
  have HG := Lib.hid hg
  obtain ⟨hn1, hn2⟩ := hn
  have hlb : (b.length : Int) ≤ 140737488355328 := by omega
  clear hok hg hyx hcl hml
  obtain ⟨k, hk, hkn⟩ := small_mod n 12 (by decide) (by decide)
  have HKN := Lib.hid hkn
  have HK := Lib.hid hk
  have hki : (k : Int) < 12 := by omega
  clear hkn hk
  have harm : aArm st0 (k : Int) = (none, stAt k b 0) := by unfold aArm; rw [if_neg (by omega)]; rfl
  have HARM := Lib.hid harm
  clear harm
  go_enter Tryd.func5, Tryd.ntmps5
  go_wp2_with (go_at_call 6; (with_reducible refine (new_own _).mono ?_); rintro e w1 ⟨p, rfl, ho, hb⟩; have HO := Lib.hid ho; have HB := Lib.hid hb; clear ho hb)
  have hz := HKN.out
  simp only [Int.cast_ofNat_Int] at hz
  rw [hz]
  clear hz
  refine (s_own (arm_own HO.out (k : Int) (by omega)) HARM.out).mono ?_
  rintro e w2 ⟨rfl, ho2, hb2⟩
  simp only [errV]
  have HO2 := Lib.hid ho2
  have HB2 := Lib.hid (HB.out.trans hb2)
  clear ho2 hb2
  by_cases hbig : 1000 < b.length
  · have hd : decide ((1000 : Int) < b.length) = true := by simp; omega
    clear hbig
    go_wp2_with (go_at_call 19; (with_reducible refine (sure_any _).mono ?_); rintro e w3 ⟨rfl, hb3⟩; have HB3 := Lib.hid (HB2.out.trans (hb3.mono HO2.out.le)); clear hb3)
    go_ret
    exact ⟨rfl, HB3.out⟩
  · have hd : decide ((1000 : Int) < b.length) = false := by simp; omega
    have HSM : Hid (b.length ≤ 1000) := Lib.hid (by omega)
    clear hbig
    go_wp2_with (fail)
    have HREL : Hid (OwnP w.heap.size w2 p (stAt k b 0) ∧ Below w.heap.size w w2) := Lib.hid ⟨HO2.out, HB2.out⟩
    clear hd
    go_loopw [7, 8] (fun i _ wr => ∃ j : Nat, j ≤ 15 ∧ i = .int .i64 (j : Int) ∧ Hid (OwnP w.heap.size wr p (stAt k b j) ∧ Below w.heap.size w wr)) (fun i _ _ => 15 - (intOf i).toNat)
    case atStart => exact ⟨0, by omega, rfl, HREL⟩
    case round =>
      obtain ⟨j, hj, rfl, hr⟩ := hrel
      clear HREL
      by_cases hlt : j < 15
      · have happ : Calls Tryd.prog 11 #[.pointer (some ⟨p, 0, none⟩), .string { data := #[97] }, .slice a0 b.length cy] wr (OwnPost w.heap.size p wr (if j < k then none else some 13) (stAt k b (j + 1))) := s_own (append_own hr.out.1 nmA (by decide) _ b (HY.out.below hr.out.2) HOK.out hl (by unfold stAt; split; simp; simp; omega)) (stAt_next k b j hlt HK.out HSM.out)
        by_cases hjk : j < k
        · rw [if_pos hjk] at happ
          have HAPP := Lib.hid happ
          have hdown : (stAt k b (j + 1)).down = false := by rw [stAt_succ]; simp; omega
          have hsteps : (stAt k b (j + 1)).steps = j + 1 := by rw [stAt_succ]; simp; omega
          have HDN := Lib.hid hdown
          have HSP := Lib.hid hsteps
          have h1 : decide ((j : Int) < k) = true := by simp; omega
          have h2 : decide ((k : Int) ≤ j) = false := by simp; omega
          have h1n : decide (j < k) = true := by simpa using hjk
          have h2n : decide (k ≤ j) = false := by simpa using hjk
          have hmn : min ((j : Int) + 1) (k : Int) = (j : Int) + 1 := by omega
          clear hdown hsteps happ hjk
          go_wp2_with (fail)
          (with_reducible refine HAPP.out.mono ?_)
          rintro e w3 ⟨rfl, ho3, hb3⟩
          simp only [errV]
          have HO3 := Lib.hid ho3
          have HB3 := Lib.hid hb3
          have hdn := down_own HO3.out
          rw [HDN.out] at hdn
          have HDC := Lib.hid hdn
          have hsc := steps_own HO3.out
          rw [HSP.out, show (((j + 1 : Nat)) : Int) = (j : Int) + 1 by omega] at hsc
          have HSC := Lib.hid hsc
          clear ho3 hb3 hdn hsc
          go_wp2_with (fail)
          (with_reducible refine HDC.out.mono ?_); rintro e w4 ⟨rfl, rfl⟩
          go_wp2_with (fail)
          (with_reducible refine HSC.out.mono ?_); rintro e w4 ⟨rfl, rfl⟩
          go_wp2_with (fail)
          go_roundw
          case rel => exact ⟨j + 1, by omega, by go_num, Lib.hid ⟨HO3.out, hr.out.2.trans HB3.out⟩⟩
          case measure => simp [intOf]; omega
        · rw [if_neg hjk] at happ
          have HAPP := Lib.hid happ
          have hdown : (stAt k b (j + 1)).down = true := by rw [stAt_succ]; simp; omega
          have hsteps : (stAt k b (j + 1)).steps = k := by rw [stAt_succ]; simp; omega
          have HDN := Lib.hid hdown
          have HSP := Lib.hid hsteps
          have h1 : decide ((j : Int) < k) = false := by simp; omega
          have h2 : decide ((k : Int) ≤ j) = true := by simp; omega
          have h1n : decide (j < k) = false := by simpa using hjk
          have h2n : decide (k ≤ j) = true := by simp; omega
          have hmn : min ((j : Int) + 1) (k : Int) = (k : Int) := by omega
          clear hdown hsteps happ hjk
          go_wp2_with (fail)
          (with_reducible refine HAPP.out.mono ?_)
          rintro e w3 ⟨rfl, ho3, hb3⟩
          simp only [errV]
          have HO3 := Lib.hid ho3
          have HB3 := Lib.hid hb3
          have hdn := down_own HO3.out
          rw [HDN.out] at hdn
          have HDC := Lib.hid hdn
          have hsc := steps_own HO3.out
          rw [HSP.out] at hsc
          have HSC := Lib.hid hsc
          have hnum := num_any (some 13) w3 (HG.out.below (hr.out.2.trans HB3.out))
          have HNUM : Hid (Calls Tryd.prog 13 #[.iface 72 (.int .i64 13)] w3 fun r w' => r = .returned (.int .i64 13) ∧ Below w3.heap.size w3 w') := Lib.hid hnum
          clear ho3 hb3 hdn hsc hnum
          go_wp2_with (fail)
          (with_reducible refine HDC.out.mono ?_); rintro e w4 ⟨rfl, rfl⟩
          go_wp2_with (fail)
          (with_reducible refine HSC.out.mono ?_); rintro e w4 ⟨rfl, rfl⟩
          go_wp2_with (fail)
          (with_reducible refine HNUM.out.mono ?_); rintro e w4 ⟨rfl, hb4⟩
          have HB4 := Lib.hid hb4
          clear hb4
          go_wp2_with (fail)
          go_roundw
          case rel => exact ⟨j + 1, by omega, by go_num, Lib.hid ⟨HO3.out.below HB4.out, (hr.out.2.trans HB3.out).trans (HB4.out.mono HO3.out.le)⟩⟩
          case measure => simp [intOf]; omega
      · obtain rfl : j = 15 := by omega
        have ho := hr.out.1
        rw [stAt_15 k b HK.out] at ho
        have HO3 := Lib.hid ho
        have HB3 := Lib.hid hr.out.2
        clear ho hr hlt hj
        have hrd := read_own HO3.out nmA (by decide) _ _ (st_find15 k b)
        have hrd' : Calls Tryd.prog 12 #[.pointer (some ⟨p, 0, none⟩), .string { data := #[97] }] wr fun r w' => ∃ a c, r = .returned (.tuple #[.slice a 0 c, .iface 72 (.int .i64 13)]) ∧ Below wr.heap.size wr w' := hrd.mono fun r w' ⟨a, c, h1, _, h3⟩ => ⟨a, c, h1, h3⟩
        have HRD := Lib.hid hrd'
        clear hrd hrd'
        go_wp2_with (fail)
        (with_reducible refine HRD.out.mono ?_); rintro e w4 ⟨a4, c4, rfl, hb4⟩
        have HO4 := Lib.hid (HO3.out.below hb4)
        have HB4 := Lib.hid (HB3.out.trans (hb4.mono HO3.out.le))
        clear hb4
        have hsy : Calls Tryd.prog 14 #[.pointer (some ⟨p, 0, none⟩), .string { data := #[97] }] w4 (OwnPost w.heap.size p w4 (some 13) ⟨[⟨[97], catN (k + 1) b, 0⟩], k, true, 0, true⟩) := s_own (sync_own HO4.out nmA (by decide) (by show k < _; have := HK.out; omega)) (st_sync15 k b)
        have HSY := Lib.hid hsy
        clear hsy
        go_wp2_with (fail)
        (with_reducible refine HSY.out.mono ?_); rintro e w5 ⟨rfl, ho5, hb5⟩
        simp only [errV]
        have HO5 := Lib.hid ho5
        have HB5 := Lib.hid (HB4.out.trans hb5)
        clear ho5 hb5
        have HKS := Lib.hid (show NumsIn w.heap.size (w5.alloc (.cells #[.int .i64 1099511627776] 3)) (.slice (some ⟨w5.heap.size, 0, none⟩) 1 1) [1099511627776] from ints_new _ w5 [1099511627776] (by decide))
        have hst := start_own (HO5.out.below (below1 w5 (.cells #[.int .i64 1099511627776] 3))) _ [1099511627776] HKS.out
        rw [st_start k b HK.out HSM.out] at hst
        have HST := Lib.hid hst
        clear hst
        go_wp2_with (fail)
        (with_reducible refine HST.out.mono ?_); rintro e w6 ⟨rfl, ho6, hb6⟩
        have HO6 := Lib.hid ho6
        have HB6 := Lib.hid ((HB5.out.trans ((below1 _ _).mono HO5.out.le)).trans hb6)
        clear ho6 hb6
        have hl6 : (afXs (some (AF.mk [97] (catN (k + 1) b) ((k + 1) * b.length)))).length = (k + 1) * b.length := catN_length b (k + 1)
        have hrd := read_own HO6.out nmA (by decide) _ _ (st_findE k b)
        have hrd' : Calls Tryd.prog 12 #[.pointer (some ⟨p, 0, none⟩), .string { data := #[97] }] w6 fun r w' => ∃ a c, r = .returned (.tuple #[.slice a ((k + 1) * b.length) c, .nilIface]) ∧ Below w6.heap.size w6 w' := hrd.mono fun r w' ⟨a, c, h1, _, h3⟩ => ⟨a, c, by rw [h1, hl6]; rfl, h3⟩
        have HRD6 := Lib.hid hrd'
        clear hrd hrd' hl6
        go_wp2_with (fail)
        (with_reducible refine HRD6.out.mono ?_); rintro e w7 ⟨a7, c7, rfl, hb7⟩
        have HO7 := Lib.hid (HO6.out.below hb7)
        have HB7 := Lib.hid (HB6.out.trans (hb7.mono HO6.out.le))
        clear hb7
        have hp0 : (0 : Int) ≤ ((k : Int) + 1) * b.length := Int.mul_nonneg (by omega) (by omega)
        have hp1 : ((k : Int) + 1) * b.length ≤ 13000 := by
          have h1 := HSM.out
          have h2 := HK.out
          have := Int.mul_le_mul (show (k : Int) + 1 ≤ 13 by omega) (show (b.length : Int) ≤ 1000 by omega) (by omega) (by omega)
          omega
        have hwr : IntKind.i64.wrap (((k : Int) + 1) * b.length) = ((k : Int) + 1) * b.length := IntWalk.i64_in _ (by omega)
        have hwr2 : wrap64 (((k : Int) + 1) * b.length) = ((k : Int) + 1) * b.length := by unfold wrap64; omega
        have hcast : ((((k + 1) * b.length : Nat)) : Int) = ((k : Int) + 1) * b.length := by rw [Int.natCast_mul]; rfl
        rw [hcast] at *
        have hn1 : Calls Tryd.prog 13 #[.iface 72 (.int .i64 13)] w7 fun r w' => r = .returned (.int .i64 13) ∧ Below w7.heap.size w7 w' := num_any (some 13) w7 (HG.out.below HB7.out)
        have HN1 := Lib.hid hn1
        clear hn1
        go_wp2_with (fail)
        (with_reducible refine HN1.out.mono ?_); rintro e w8 ⟨rfl, hb8⟩
        have HO8 := Lib.hid (HO7.out.below hb8)
        have HB8 := Lib.hid (HB7.out.trans (hb8.mono HO7.out.le))
        clear hb8
        have hn2' : Calls Tryd.prog 13 #[.iface 72 (.int .i64 13)] w8 fun r w' => r = .returned (.int .i64 13) ∧ Below w8.heap.size w8 w' := num_any (some 13) w8 (HG.out.below HB8.out)
        have HN2 := Lib.hid hn2'
        clear hn2'
        go_wp2_with (fail)
        (with_reducible refine HN2.out.mono ?_); rintro e w9 ⟨rfl, hb9⟩
        have HO9 := Lib.hid (HO8.out.below hb9)
        have HB9 := Lib.hid (HB8.out.trans (hb9.mono HO8.out.le))
        clear hb9
        have hdn : Calls Tryd.prog 16 #[.pointer (some ⟨p, 0, none⟩)] w9 fun e w' => e = .returned (.bool false) ∧ w9 = w' := down_own HO9.out
        have HDN := Lib.hid hdn
        clear hdn
        have hsy : Calls Tryd.prog 14 #[.pointer (some ⟨p, 0, none⟩), .string { data := #[97] }] w9 (OwnPost w.heap.size p w9 none (aSync (stEnd k b) nmA).2) := s_own (sync_own HO9.out nmA (by decide) (by show k < _; have := HK.out; omega)) (Prod.ext (st_syncE k b) rfl)
        have HSY9 := Lib.hid hsy
        clear hsy
        go_wp2_with (fail)
        (with_reducible refine HDN.out.mono ?_); rintro e w10 ⟨rfl, rfl⟩
        go_wp2_with (fail)
        (with_reducible refine HSY9.out.mono ?_); rintro e w10 ⟨rfl, ho10, hb10⟩
        simp only [errV]
        have HO10 := Lib.hid ho10
        have HB10 := Lib.hid (HB9.out.trans hb10)
        clear ho10 hb10
        have hsu := sure_any w10
        have HSU := Lib.hid hsu
        clear hsu
        go_wp2_with (fail)
        (with_reducible refine HSU.out.mono ?_); rintro e w11 ⟨rfl, hb11⟩
        have HB11 := Lib.hid (HB10.out.trans (hb11.mono HO10.out.le))
        clear hb11
        go_wp2_with (fail)
        go_ret
        exact ⟨rfl, HB11.out⟩
end Go.Proofs.YtbnflhdioohfeaaDoor
