/- For every name, BankNames returns true and leaves its argument as it was. Conditions: errors.errorType, the two tables of package sha and the two tables of package unicode/utf8 read as their texts lay them, which the card ties to those texts; each string takes at most 2^47 - 4096 bytes. -/
import Derived.Deep.DeepCutAuto
import Derived.ProofKit
import Derived.OpenShut
import Derived.Deep.Slices
import Derived.SizedLaws
import Derived.LaidMore
import Derived.Stop.Joined
import Derived.Stop.LaidErr
import Derived.Lib.LaidTab
import Derived.LaidHandle
import Derived.Carry
import Derived.Lay
import Derived.ChangeMaps5
import Derived.Test.YtejglhlodfhgkaaGreatDoorTie
import Derived.Test.YtejglhlodfhgkaaGreatDoorCards
import Derived.SevenTiedAt
import Derived.Test.YtejglhlodfhgkaaGreatDoorBn1
import Derived.Test.YtejglhlodfhgkaaGreatDoorBn2
import Derived.Test.YtejglhlodfhgkaaGreatDoorBn5
import Derived.Test.YtejglhlodfhgkaaGreatDoorBn15
import Derived.Test.YtejglhlodfhgkaaGreatDoorBn17
namespace Go.Proofs.YtejglhlodfhgkaaGreatDoor
set_option linter.unusedVariables false
set_option linter.unusedSimpArgs false
open Go.RowKit
set_option maxRecDepth 100000
set_option linter.unusedSimpArgs false
set_option linter.unusedVariables false
def bkP (s : ByteArray) (k : Nat) : Bool := decide (1 ≤ s.size ∧ s.size ≤ 64) && ((numsOf s).take k).all bkC
theorem bkP_succ {s : ByteArray} {k : Nat} {c : Int} (h : (numsOf s)[k]? = some c) : bkP s (k + 1) = (bkP s k && bkC c) := by
  unfold bkP
  rw [List.take_add_one, h, List.all_append, Bool.and_assoc]
  simp
theorem bkP_all (s : ByteArray) : bkP s s.size = bkN s := by
  unfold bkP bkN
  rw [List.take_of_length_le (by rw [numsOf_length]; exact Nat.le_refl _)]
theorem num_at {s : ByteArray} {k : Nat} (h : k < s.size) : (numsOf s)[k]? = some (s[k].toNat : Int) := by
  unfold numsOf
  rw [List.getElem?_map, Array.getElem?_toList, Array.getElem?_eq_getElem h]
  rfl
/-- what the law's calls answer where the name is one -/
structure NmF (s : ByteArray) where
  T1 : Option AvT
  k1 : Nat → Int
  T2 : Option AvT
  k2 : Nat → Int
  UT : Option AvT
  VT : Option AvT
structure NmH (s : ByteArray) (F : NmF s) : Prop where
  o : (openR none s k1H).e = none ∧ (openR none s k1H).t = F.T1
  g1 : GT 140737488351232 1 F.T1
  f1 : findR F.T1 s = ⟨F.k1, 0, none⟩
  b : (bumpR F.T1 s).e = none ∧ (bumpR F.T1 s).t = F.T2
  g2 : GT 140737488351232 2 F.T2
  f2 : findR F.T2 s = ⟨F.k2, 1, none⟩
  kk : ∀ i, i < 32 → F.k2 i = F.k1 i
  u : (mintR none s atD 5).e = none ∧ (mintR none s atD 5).t = F.UT
  gu : GT 140737488351232 2 F.UT
  ub : bkV F.UT (balK s atD) = 5
  v : (sendR suT anN s atD 5).e = none ∧ (sendR suT anN s atD 5).t = F.VT
  gv : GT 140737488351232 4 F.VT
  vb : bkV F.VT (balK s atD) = 5
theorem nmf_yes {s : ByteArray} (hs : bkN s = true) : ∃ F : NmF s, NmH s F := by
  have hz : s.size ≤ 64 := ckN_one (ckN_of hs)
  have g0 := GT.none 140737488351232
  have f0 := findR_none (ckN_of hs)
  have a5 : amt 5 := ⟨by decide, by decide⟩
  -- Open
  have o1 : (openR none s k1H).e = none := by unfold openR; rw [ckN_of hs, f0]; rfl
  have o2 : (openR none s k1H).t = some (setO none (accK s) (encA k1H 0)) := by unfold openR; rw [ckN_of hs, f0]; rfl
  have g1 : GT 140737488351232 1 (some (setO none (accK s) (encA k1H 0))) := g0.set _ _ (by rw [accK_size]; have := encA_size (k := k1H) (s := 0) (by decide); omega)
  obtain ⟨k1, e1, h1⟩ := acc_enc (k := k1H) (s := 0) k1H_b (by decide)
  have f1 : findR (some (setO none (accK s) (encA k1H 0))) s = ⟨k1, 0, none⟩ := (findR_at (ckN_of hs) (getO_set_same srt_nil _ _)).trans e1
  -- Bump
  have b1 : (bumpR (some (setO none (accK s) (encA k1H 0))) s).e = none := by unfold bumpR; rw [f1]; rfl
  have b2 : (bumpR (some (setO none (accK s) (encA k1H 0))) s).t = some (setO (some (setO none (accK s) (encA k1H 0))) (accK s) (encA k1 1)) := by unfold bumpR; rw [f1]; rfl
  have g2 : GT 140737488351232 2 (some (setO (some (setO none (accK s) (encA k1H 0))) (accK s) (encA k1 1))) := g1.set _ _ (by rw [accK_size]; have := encA_size (k := k1) (s := 1) (by decide); omega)
  obtain ⟨k2, e2, h2⟩ := acc_enc (k := k1) (s := 1) (fun i hi => by rw [h1 i hi]; exact k1H_b i hi) (by decide)
  have f2 : findR (some (setO (some (setO none (accK s) (encA k1H 0))) (accK s) (encA k1 1))) s = ⟨k2, 1, none⟩ := (findR_at (ckN_of hs) (getO_set_same g1.srt _ _)).trans e2
  -- Mint
  obtain ⟨u1, u2⟩ := mint_new hs a5
  have gu : GT 140737488351232 2 (mintR none s atD 5).t := mint_GT g0 u1 (by have : atD.size = 4 := rfl; omega)
  have ub : bkV (mintR none s atD 5).t (balK s atD) = 5 := by rw [u2]; exact bkV_same (srt_chg srt_nil _ _) _ (by decide)
  -- Send
  obtain ⟨w1, w2⟩ := mint_new nm_an a5
  have sT : suT = chgT (chgT none (supK atD) 5) (balK anN atD) 5 := w2
  have sS : Srt (pairsO suT) := suT_GT.srt
  have hc : ckC atD [anN, s] = none := by unfold ckC; rw [ckN2_of nm_an hs]; exact chk_atD
  have hx : bkV suT (balK anN atD) = 5 := by rw [sT]; exact bkV_same (srt_chg srt_nil _ _) _ (by decide)
  have hy : bkV (chgT suT (balK anN atD) (5 - 5)) (balK s atD) = 0 := by
    by_cases e : balK s atD = balK anN atD
    · rw [e]; exact bkV_same sS _ (by decide)
    · rw [bkV_other sS _ e, sT, bkV_other (srt_chg srt_nil _ _) _ e, bkV_other srt_nil _ (bal_sup s atD atD)]
      exact bkV_nil _
  obtain ⟨v1, v2⟩ := send_yes sS hc hx a5 a5 (by decide) hy ⟨by decide, by decide⟩ (by decide)
  have gv : GT 140737488351232 4 (sendR suT anN s atD 5).t := send_GT suT_GT v1 (by have : atD.size = 4 := rfl; have : anN.size = 3 := rfl; omega)
  have vb : bkV (sendR suT anN s atD 5).t (balK s atD) = 5 := by rw [v2]; exact bkV_same (srt_chg sS _ _) _ (by decide)
  exact ⟨⟨_, k1, _, k2, (mintR none s atD 5).t, (sendR suT anN s atD 5).t⟩, ⟨o1, o2⟩, g1, f1, ⟨b1, b2⟩, g2, f2, h2, ⟨u1, rfl⟩, gu, ub, ⟨v1, rfl⟩, gv, vb⟩
theorem k1_built : Tryz.prog.built 53 [(0, .int .u8 1)] = some (rowOf .u8 32 k1H) := by kernel_rfl
/-- what stands while the law goes on: the coin's block, the tables -/
structure NmM (w : World) (q : Nat) (wr : World) : Prop where
  b : Below w.heap.size w wr
  r : wr.heap[q]? = some (.cells #[.string atD, .int .i64 5] 23 (0, 0))
theorem NmM.call {w : World} {q : Nat} {wr w' : World} (m : NmM w q wr) (h : Below wr.heap.size wr w') : NmM w q w' := ⟨m.b.trans (h.mono m.b.size), (h.block q (bkT_lt m.r)).trans m.r⟩
set_option maxHeartbeats 16000000 in
theorem lbknames_any (s : ByteArray) (w : World) (he : Env w) (hg : ErrType w) (hs : s.size ≤ 140737488351232) : Calls Tryz.prog 9 #[.string s] w fun e w' => e = .returned (.bool true) ∧ Below w.heap.size w w' := by
  have HE := Lib.hid he
  have HEL := Lib.hid he.lt
  have HGE := Lib.hid hg
  have HSU := Lib.hid (fun w h k => bksure_any w h k)
  have HSZ := Lib.hid hs
  have hsI : (s.size : Int) ≤ 9223372036854775807 := by omega
  have HPA := Lib.hid (bkP_all s)
  clear he hg hs
  go_enter Tryz.func9, Tryz.ntmps9
  go_upto_region 1 with (fail)
  go_cut [3] from 20 to 27 (fun z wx => z = .bool (bkP s 0) ∧ wx = w)
  case first =>
    by_cases h1 : 1 ≤ s.size
    · have h1I : (1 : Int) ≤ (s.size : Int) := by omega
      by_cases h2 : s.size ≤ 64
      · have h2I : (s.size : Int) ≤ 64 := by omega
        have HD := Lib.hid (show bkP s 0 = true from by unfold bkP; rw [decide_eq_true ⟨h1, h2⟩]; rfl)
        go_wp2_with (fail)
        go_meet
        exact ⟨by rw [HD.out], rfl⟩
      · have h2I : ¬ (s.size : Int) ≤ 64 := by omega
        have HD := Lib.hid (show bkP s 0 = false from by unfold bkP; rw [decide_eq_false (by omega)]; rfl)
        go_wp2_with (fail)
        go_meet
        exact ⟨by rw [HD.out], rfl⟩
    · have h1I : ¬ (1 : Int) ≤ (s.size : Int) := by omega
      have HD := Lib.hid (show bkP s 0 = false from by unfold bkP; rw [decide_eq_false (by omega)]; rfl)
      go_wp2_with (fail)
      go_meet
      exact ⟨by rw [HD.out], rfl⟩
  case rest =>
  obtain ⟨rfl, hw⟩ := hcut
  obtain rfl := hw.symm
  clear hw
  go_wp2_with (fail)
  go_loopw [3, 4] (fun o i wr_ => ∃ k : Nat, k ≤ s.size ∧ i = .int .i64 (k : Int) ∧ o = .bool (bkP s k) ∧ wr_ = w) (fun _ i _ => s.size - (intOf i).toNat)
  case atStart => exact ⟨0, Nat.zero_le _, rfl, rfl, rfl⟩
  case round =>
    obtain ⟨k, hk, rfl, rfl, rfl⟩ := hrel
    by_cases hlt : k < s.size
    · have hltI : (k : Int) < (s.size : Int) := by omega
      have HN := Lib.hid (bkP_succ (num_at hlt))
      obtain ⟨b, hb⟩ : ∃ b, b = bkP s k := ⟨_, rfl⟩
      rw [← hb] at HN ⊢
      clear hb
      cases b with
      | false =>
        have HF := Lib.hid (show bkP s (k + 1) = false from by rw [HN.out]; rfl)
        go_wp2_with (fail)
        go_roundw
        case rel => exact ⟨k + 1, by omega, by go_num, by rw [HF.out], by trivial⟩
        case measure => simp [intOf]; omega
      | true =>
        by_cases a1 : 33 ≤ (s[k].toNat : Int)
        · by_cases a2 : (s[k].toNat : Int) ≤ 126
          · by_cases a3 : (s[k].toNat : Int) = 47
            · have HF := Lib.hid (show bkP s (k + 1) = false from by rw [HN.out]; unfold bkC; rw [decide_eq_false (by omega)]; rfl)
              have a3B : ((s[k].toNat : Int) != 47) = false := by rw [a3]; rfl
              go_wp2_with (fail)
              go_roundw
              case rel => exact ⟨k + 1, by omega, by go_num, by rw [HF.out], by trivial⟩
              case measure => simp [intOf]; omega
            · have HF := Lib.hid (show bkP s (k + 1) = true from by rw [HN.out]; unfold bkC; rw [decide_eq_true ⟨a1, a2, a3⟩]; rfl)
              have a3B : ((s[k].toNat : Int) != 47) = true := by rw [bne_iff_ne]; exact a3
              go_wp2_with (fail)
              go_roundw
              case rel => exact ⟨k + 1, by omega, by go_num, by rw [HF.out], by trivial⟩
              case measure => simp [intOf]; omega
          · have HF := Lib.hid (show bkP s (k + 1) = false from by rw [HN.out]; unfold bkC; rw [decide_eq_false (by omega)]; rfl)
            go_wp2_with (fail)
            go_roundw
            case rel => exact ⟨k + 1, by omega, by go_num, by rw [HF.out], by trivial⟩
            case measure => simp [intOf]; omega
        · have HF := Lib.hid (show bkP s (k + 1) = false from by rw [HN.out]; unfold bkC; rw [decide_eq_false (by omega)]; rfl)
          go_wp2_with (fail)
          go_roundw
          case rel => exact ⟨k + 1, by omega, by go_num, by rw [HF.out], by trivial⟩
          case measure => simp [intOf]; omega
    · obtain rfl : k = s.size := by omega
      rw [HPA.out]
      have HB0 := Lib.hid (Below.refl wr.heap.size wr)
      have HMA := Lib.hid (fun (W : World) (h : Env W) => show Calls Tryz.prog 46 #[.pointer none, .string anN, .agg #[.string atD, .int .i64 5]] W (fun e w' => ∃ v, e = .returned (.tuple #[v, .nilIface]) ∧ TreeO w' v suT ∧ Below W.heap.size W w') from by
        have h2 := bkmint_any (.pointer none) none anN atD 5 W 0 h rfl (GT.none _) (by decide) (by decide) (by decide)
        unfold ChgPost at h2
        rw [su_e1] at h2
        exact h2)
      have HOP := Lib.hid (fun (W : World) (h : Env W) => show Calls Tryz.prog 49 #[.pointer none, .string s, .agg (rowOf .u8 32 k1H)] W (ChgPost (openR none s k1H).e (openR none s k1H).t W) from bkopen_any (.pointer none) none s k1H W 0 h rfl (GT.none _) (by decide) HSZ.out)
      have HMI := Lib.hid (fun (W : World) (h : Env W) => show Calls Tryz.prog 46 #[.pointer none, .string s, .agg #[.string atD, .int .i64 5]] W (ChgPost (mintR none s atD 5).e (mintR none s atD 5).t W) from bkmint_any (.pointer none) none s atD 5 W 0 h rfl (GT.none _) (by decide) HSZ.out (by decide))
      have HSE := Lib.hid (fun (W : World) (v : Value) (h : Env W) (k : TreeO W v suT) => show Calls Tryz.prog 48 #[v, .string anN, .string s, .agg #[.string atD, .int .i64 5]] W (ChgPost (sendR suT anN s atD 5).e (sendR suT anN s atD 5).t W) from bksend_any v suT anN s atD 5 W 2 h k suT_GT (by decide) ⟨by decide, HSZ.out⟩ (by decide))
      unfold ChgPost at HOP HMI HSE
      obtain ⟨CC, hCC⟩ : ∃ z : Array Value, z = #[.string atD, .int .i64 5] := ⟨_, rfl⟩
      cases hB : bkN s with
      | false =>
        have e1 : (openR none s k1H).e = some 42 ∧ (openR none s k1H).t = none := by unfold openR; rw [ckN_no hB]; exact ⟨rfl, rfl⟩
        have e2 : (mintR none s atD 5).e = some 42 := by unfold mintR stp2 st2E ckC; rw [ckN_no hB]
        have e3 : (sendR suT anN s atD 5).e = some 42 := by unfold sendR stp2 st2E ckC; rw [ckN2_no hB]
        rw [e1.1, e1.2] at HOP
        rw [e2, show (mintR none s atD 5).t = none from stp2_err e2] at HMI
        rw [e3, show (sendR suT anN s atD 5).t = none from stp2_err e3] at HSE
        have HN := Lib.hid (fun (W : World) (h : ErrType W) => show Calls Tryz.prog 31 #[errV (some 42)] W (fun e w' => e = .returned (.int .i64 42) ∧ Below W.heap.size W w') from num16_any (some 42) W h)
        simp only [errV, Int.cast_ofNat_Int] at HOP HMI HSE HN
        obtain ⟨T, hT⟩ : ∃ z, z = suT := ⟨_, rfl⟩
        rw [← hT] at HMA HSE
        clear e1 e2 e3 hB hT HPA
        go_upto_region 7 with (first
          | (refine wpList_buildTo rfl 23 #[(0, .const (.string atD)), (1, .const (.int .i64 5))] rfl (some 53) rfl #[.string atD, .int .i64 5] (by kernel_rfl) ?_)
          | (refine wpList_store_row rfl 23 (.tmp 5) (.tmp 53) rfl wr.heap.size #[.string atD, .int .i64 5] rfl rfl 23 _ (heap_alloc_new _ _) (by kernel_rfl) (by rfl) (by simp [Value.oneCell']) ?_; rw [World.setRow_alloc_new]))
        have M := Lib.hid (show NmM wr wr.heap.size (wr.alloc (.cells #[.string atD, .int .i64 5] 23)) from ⟨below_alloc _ _, heap_alloc_new _ _⟩)
        obtain ⟨q, hq⟩ : ∃ q, q = wr.heap.size := ⟨_, rfl⟩
        rw [← hq] at M ⊢
        clear hq HB0
        generalize wr.alloc (.cells #[.string atD, .int .i64 5] 23) = w1 at *
        go_wp2_with (first
          | (refine wpList_buildTo rfl 53 #[(0, .const (.int .u8 1))] rfl (some 56) rfl (rowOf .u8 32 k1H) (by refine Eq.trans (congrArg (Tryz.prog.built 53) ?_) k1_built; kernel_rfl) ?_)
          | (go_at_call 49; (with_reducible refine (HOP.out _ (HE.out.below M.out.b HEL.out)).mono ?_); rintro e w2 ⟨v1, rfl, rfl, hb⟩; replace M := Lib.hid (M.out.call hb); clear hb)
          | (refine wpList_load_rowT (by rfl) 23 (.tmp 5) rfl q 0 rfl #[.string atD, .int .i64 5] _ (rowT_range M.out.r) Tryz.underlying23 rfl (by kernel_rfl) ?_)
          | (go_at_call 46; (with_reducible refine (HMI.out _ (HE.out.below M.out.b HEL.out)).mono ?_); rintro e w3 ⟨v2, rfl, rfl, hb⟩; replace M := Lib.hid (M.out.call hb); clear hb)
          | (go_at_call 46; (with_reducible refine (HMA.out _ (HE.out.below M.out.b HEL.out)).mono ?_); rintro e w4 ⟨v3, rfl, ht, hb⟩; have HT := Lib.hid ht; replace M := Lib.hid (M.out.call hb); clear ht hb)
          | (go_at_call 48; (with_reducible refine (HSE.out _ v3 (HE.out.below M.out.b HEL.out) HT.out).mono ?_); rintro e w5 ⟨v4, rfl, rfl, hb⟩; replace M := Lib.hid (M.out.call hb); clear hb)
          | (go_at_call 31; (with_reducible refine (HN.out _ (HGE.out.below M.out.b)).mono ?_); rintro e w6 ⟨rfl, hb⟩; replace M := Lib.hid (M.out.call hb); clear hb)
          | (go_at_call 45; (with_reducible refine (HSU.out _ (HE.out.below M.out.b HEL.out) (HGE.out.below M.out.b)).mono ?_); rintro e w7 ⟨rfl, hb⟩; replace M := Lib.hid (M.out.call hb); clear hb))
        go_ret
        exact ⟨rfl, M.out.b⟩
      | true =>
        obtain ⟨F, hF⟩ := nmf_yes hB
        have hz : s.size ≤ 64 := ckN_one (ckN_of hB)
        have hz4 : atD.size = 4 := rfl
        rw [hF.o.1, hF.o.2] at HOP
        rw [hF.u.1, hF.u.2] at HMI
        rw [hF.v.1, hF.v.2] at HSE
        have HF1 := Lib.hid (fun (W : World) (v : Value) (h : TreeO W v F.T1) => show Calls Tryz.prog 34 #[v, .string s] W (fun e w' => e = .returned (.tuple #[.agg (acC F.k1 0), .nilIface]) ∧ Below W.heap.size W w') from by
          have h2 := bkfind_any v F.T1 s W h (hF.g1.val _) (by omega)
          rw [hF.f1] at h2
          exact h2)
        have HBU := Lib.hid (fun (W : World) (v : Value) (h0 : Env W) (h : TreeO W v F.T1) => show Calls Tryz.prog 50 #[v, .string s] W (fun e w' => ∃ v', e = .returned (.tuple #[v', .nilIface]) ∧ TreeO w' v' F.T2 ∧ Below W.heap.size W w') from by
          have h2 := bkbump_any v F.T1 s W 1 h0 h hF.g1 (by decide) (by omega)
          rw [hF.b.1, hF.b.2] at h2
          exact h2)
        have HF2 := Lib.hid (fun (W : World) (v : Value) (h : TreeO W v F.T2) => show Calls Tryz.prog 34 #[v, .string s] W (fun e w' => e = .returned (.tuple #[.agg (acC F.k1 1), .nilIface]) ∧ Below W.heap.size W w') from by
          have h2 := bkfind_any v F.T2 s W h (hF.g2.val _) (by omega)
          rw [hF.f2] at h2
          simp only at h2
          rw [acC_congr hF.kk] at h2
          exact h2)
        have HU1 := Lib.hid (fun (W : World) (v : Value) (h : TreeO W v F.UT) => show Calls Tryz.prog 36 #[v, .string s, .string atD] W (fun e w' => e = .returned (.int .i64 5) ∧ Below W.heap.size W w') from by
          have h2 := bkbalance_any v F.UT s atD W h (hF.gu.val _) (by omega)
          rw [hF.ub] at h2
          exact h2)
        have HU2 := Lib.hid (fun (W : World) (v : Value) (h : TreeO W v F.VT) => show Calls Tryz.prog 36 #[v, .string s, .string atD] W (fun e w' => e = .returned (.int .i64 5) ∧ Below W.heap.size W w') from by
          have h2 := bkbalance_any v F.VT s atD W h (hF.gv.val _) (by omega)
          rw [hF.vb] at h2
          exact h2)
        simp only [errV] at HOP HMI HSE
        obtain ⟨T, hT⟩ : ∃ z, z = suT := ⟨_, rfl⟩
        rw [← hT] at HMA HSE
        obtain ⟨T1, k1, T2, k2, UT, VT⟩ := F
        simp only at HOP HMI HSE HF1 HBU HF2 HU1 HU2
        have heq := eq32_self k1
        obtain ⟨C1, hC1⟩ : ∃ z, z = acC k1 0 := ⟨_, rfl⟩
        obtain ⟨C2, hC2⟩ : ∃ z, z = acC k1 1 := ⟨_, rfl⟩
        have HC1 := Lib.hid (fun (W : World) {g : Nat} (h : W.heap[g]? = some (.cells C1 78 (0, 0))) => ac_cells (show W.heap[g]? = some (.cells (acC k1 0) 78 (0, 0)) from by rw [← hC1]; exact h))
        have HC2 := Lib.hid (fun (W : World) {g : Nat} (h : W.heap[g]? = some (.cells C2 78 (0, 0))) => ac_cells (show W.heap[g]? = some (.cells (acC k1 1) 78 (0, 0)) from by rw [← hC2]; exact h))
        have HV1 := Lib.hid (show C1.size = 33 ∧ C1.all (·.oneCell') = true from by rw [hC1]; exact ⟨acC_size _ _, acC_one _ _⟩)
        have HV2 := Lib.hid (show C2.size = 33 ∧ C2.all (·.oneCell') = true from by rw [hC2]; exact ⟨acC_size _ _, acC_one _ _⟩)
        have HR32 := Lib.hid (show (rowOf .u8 32 k1).size = 32 from rowOf_size _ _ _)
        rw [← hC1] at HF1
        rw [← hC2] at HF2
        clear hB hT HPA hF hz hz4 hC1 hC2
        go_upto_region 7 with (first
          | (refine wpList_buildTo rfl 23 #[(0, .const (.string atD)), (1, .const (.int .i64 5))] rfl (some 53) rfl #[.string atD, .int .i64 5] (by kernel_rfl) ?_)
          | (refine wpList_store_row rfl 23 (.tmp 5) (.tmp 53) rfl wr.heap.size #[.string atD, .int .i64 5] rfl rfl 23 _ (heap_alloc_new _ _) (by kernel_rfl) (by rfl) (by simp [Value.oneCell']) ?_; rw [World.setRow_alloc_new]))
        have M := Lib.hid (show NmM wr wr.heap.size (wr.alloc (.cells #[.string atD, .int .i64 5] 23)) from ⟨below_alloc _ _, heap_alloc_new _ _⟩)
        obtain ⟨q, hq⟩ : ∃ q, q = wr.heap.size := ⟨_, rfl⟩
        rw [← hq] at M ⊢
        clear hq HB0
        generalize wr.alloc (.cells #[.string atD, .int .i64 5] 23) = w1 at *
        go_upto_region 15 with (first
          | (refine wpList_buildTo rfl 53 #[(0, .const (.int .u8 1))] rfl (some 56) rfl (rowOf .u8 32 k1H) (by refine Eq.trans (congrArg (Tryz.prog.built 53) ?_) k1_built; kernel_rfl) ?_)
          | (go_at_call 49; (with_reducible refine (HOP.out _ (HE.out.below M.out.b HEL.out)).mono ?_); rintro e w2 ⟨v1, rfl, ht, hb⟩; have HT1 := Lib.hid ht; replace M := Lib.hid (M.out.call hb); clear ht hb)
          | (refine wpList_load_rowT (by rfl) 23 (.tmp 5) rfl q 0 rfl #[.string atD, .int .i64 5] _ (rowT_range M.out.r) Tryz.underlying23 rfl (by kernel_rfl) ?_)
          | (go_at_call 46; (with_reducible refine (HMI.out _ (HE.out.below M.out.b HEL.out)).mono ?_); rintro e w3 ⟨v2, rfl, ht, hb⟩; have HTU := Lib.hid ht; replace HT1 := Lib.hid (HT1.out.below hb); replace M := Lib.hid (M.out.call hb); clear ht hb)
          | (go_at_call 46; (with_reducible refine (HMA.out _ (HE.out.below M.out.b HEL.out)).mono ?_); rintro e w4 ⟨v3, rfl, ht, hb⟩; have HT := Lib.hid ht; replace HT1 := Lib.hid (HT1.out.below hb); replace HTU := Lib.hid (HTU.out.below hb); replace M := Lib.hid (M.out.call hb); clear ht hb)
          | (go_at_call 48; (with_reducible refine (HSE.out _ v3 (HE.out.below M.out.b HEL.out) HT.out).mono ?_); rintro e w5 ⟨v4, rfl, ht, hb⟩; have HTV := Lib.hid ht; replace HT1 := Lib.hid (HT1.out.below hb); replace HTU := Lib.hid (HTU.out.below hb); replace M := Lib.hid (M.out.call hb); clear ht hb))
        clear HOP HMI HMA HSE HT
        go_upto_region 16 with (first
          | (go_at_call 34; (with_reducible refine (HF1.out _ v1 HT1.out).mono ?_); rintro e w6 ⟨rfl, hb⟩; replace HT1 := Lib.hid (HT1.out.below hb); replace HTU := Lib.hid (HTU.out.below hb); replace HTV := Lib.hid (HTV.out.below hb); replace M := Lib.hid (M.out.call hb); clear hb)
          | (refine wpList_store_row rfl 78 (.tmp 14) (.tmp 132) rfl w6.heap.size C1 rfl rfl 78 _ (heap_alloc_new _ _) (by rw [HV1.out.1]; kernel_rfl) (by rw [HV1.out.1]; rfl) HV1.out.2 ?_; rw [World.setRow_alloc_new]))
        have hba := below_alloc w6 (.cells C1 78)
        have HQ1 := Lib.hid (heap_alloc_new w6 (.cells C1 78))
        obtain ⟨g1, hg1⟩ : ∃ z, z = w6.heap.size := ⟨_, rfl⟩
        rw [← hg1] at HQ1 ⊢
        replace HT1 := Lib.hid (HT1.out.below hba)
        replace HTU := Lib.hid (HTU.out.below hba)
        replace HTV := Lib.hid (HTV.out.below hba)
        replace M := Lib.hid (M.out.call hba)
        clear hba hg1
        generalize w6.alloc (.cells C1 78) = w7 at *
        go_upto_region 18 with (first
          | (go_at_call 50; (with_reducible refine (HBU.out _ v1 (HE.out.below M.out.b HEL.out) HT1.out).mono ?_); rintro e w8 ⟨v5, rfl, ht, hb⟩; have HT2 := Lib.hid ht; replace HQ1 := Lib.hid ((hb.block g1 (bkT_lt HQ1.out)).trans HQ1.out); replace HTU := Lib.hid (HTU.out.below hb); replace HTV := Lib.hid (HTV.out.below hb); replace M := Lib.hid (M.out.call hb); clear ht hb)
          | (go_at_call 34; (with_reducible refine (HF2.out _ v5 HT2.out).mono ?_); rintro e w9 ⟨rfl, hb⟩; replace HQ1 := Lib.hid ((hb.block g1 (bkT_lt HQ1.out)).trans HQ1.out); replace HTU := Lib.hid (HTU.out.below hb); replace HTV := Lib.hid (HTV.out.below hb); replace M := Lib.hid (M.out.call hb); clear hb)
          | (refine wpList_store_row rfl 78 (.tmp 18) (.tmp 144) rfl w9.heap.size C2 rfl rfl 78 _ (heap_alloc_new _ _) (by rw [HV2.out.1]; kernel_rfl) (by rw [HV2.out.1]; rfl) HV2.out.2 ?_; rw [World.setRow_alloc_new]))
        have hba := below_alloc w9 (.cells C2 78)
        have HQ2 := Lib.hid (heap_alloc_new w9 (.cells C2 78))
        replace HQ1 := Lib.hid ((hba.block g1 (bkT_lt HQ1.out)).trans HQ1.out)
        obtain ⟨g2, hg2⟩ : ∃ z, z = w9.heap.size := ⟨_, rfl⟩
        rw [← hg2] at HQ2 ⊢
        replace HTU := Lib.hid (HTU.out.below hba)
        replace HTV := Lib.hid (HTV.out.below hba)
        replace M := Lib.hid (M.out.call hba)
        clear hba hg2 HT1
        generalize w9.alloc (.cells C2 78) = w10 at *
        obtain ⟨r1, c1⟩ := HC1.out w10 HQ1.out
        obtain ⟨r2, c2⟩ := HC2.out w10 HQ2.out
        have HR1 := Lib.hid r1
        have HR2 := Lib.hid r2
        clear r1 r2
        go_wp2_with (first
          | (refine wpList_load_rowT (by rfl) 53 (.tmp 167) rfl g2 0 rfl (rowOf .u8 32 k1) _ HR2.out Tryz.underlying53 rfl (by rw [HR32.out]; kernel_rfl) ?_)
          | (refine wpList_load_rowT (by rfl) 53 (.tmp 169) rfl g1 0 rfl (rowOf .u8 32 k1) _ HR1.out Tryz.underlying53 rfl (by rw [HR32.out]; kernel_rfl) ?_)
          | (go_at_call 36; (with_reducible refine (HU1.out _ v2 HTU.out).mono ?_); rintro e w11 ⟨rfl, hb⟩; replace HTV := Lib.hid (HTV.out.below hb); replace M := Lib.hid (M.out.call hb); clear hb)
          | (go_at_call 36; (with_reducible refine (HU2.out _ v4 HTV.out).mono ?_); rintro e w12 ⟨rfl, hb⟩; replace M := Lib.hid (M.out.call hb); clear hb)
          | (go_at_call 45; (with_reducible refine (HSU.out _ (HE.out.below M.out.b HEL.out) (HGE.out.below M.out.b)).mono ?_); rintro e w13 ⟨rfl, hb⟩; replace M := Lib.hid (M.out.call hb); clear hb))
        go_ret
        exact ⟨rfl, M.out.b⟩
end Go.Proofs.YtejglhlodfhgkaaGreatDoor
namespace Go.Proofs.YtejglhlodfhgkaaGreatDoor
set_option linter.unusedVariables false
set_option linter.unusedSimpArgs false
open Go.ChangeShapes Go.WideShapes Go.ChangeAt Go.RowKit
/-- a slice of slices of bytes -/
def BssIn (w : World) (v : Value) (ps : List (List Int)) : Prop :=
  ∃ a c, v = .slice a ps.length c ∧ ps.length ≤ c ∧ ps.length ≤ maxLen ∧ (ps = [] ∨ ∃ ab ao, a = some ⟨ab, ao, none⟩ ∧ ∀ i p, ps[i]? = some p → ∃ u, w.cell? ⟨ab, ao + i, none⟩ = some u ∧ BytesIn w u p)
theorem BssIn.below {w w' : World} {v : Value} {ps : List (List Int)} (h : BssIn w v ps) (hb : Below w.heap.size w w') : BssIn w' v ps := by
  obtain ⟨a, c, rfl, hc, hm, hx⟩ := h
  refine ⟨a, c, rfl, hc, hm, ?_⟩
  rcases hx with hx | ⟨ab, ao, rfl, hx⟩
  · exact .inl hx
  · refine .inr ⟨ab, ao, rfl, fun i p hi => ?_⟩
    obtain ⟨u, hu, hp⟩ := hx i p hi
    exact ⟨u, (hb.cell (p := ⟨ab, ao + i, none⟩) (World.block_lt_of_cell? w _ hu)).trans hu, hp.below hb⟩
end Go.Proofs.YtejglhlodfhgkaaGreatDoor
namespace Go.Proofs.YtejglhlodfhgkaaGreatDoor
set_option linter.unusedVariables false
set_option linter.unusedSimpArgs false
open Go.ChangeShapes Go.WideShapes Go.ChangeAt Go.RowKit
set_option maxRecDepth 100000
theorem doorOwn : ownKnob Tryz.prog.godebug = none := by kernel_rfl
theorem nBegin : Tryz.prog.globalNamed "isthmus/sha.begin" = some 2 := by kernel_rfl
theorem nConst : Tryz.prog.globalNamed "isthmus/sha.constants" = some 3 := by kernel_rfl
theorem tyBegin : (Tryz.prog.globals[2]?).map (·.type) = some 217 := by kernel_rfl
theorem tyConst : (Tryz.prog.globals[3]?).map (·.type) = some 216 := by kernel_rfl
def laidCt : List (String × DataW Unit) := [("unicode/utf8.acceptRanges", Rows.laid_unicode_utf8_acceptRanges), ("errors.errorType", Rows.laid_errors_errorType), ("isthmus/sha.begin", Rows.laid_isthmus_sha_begin), ("isthmus/sha.constants", Rows.laid_isthmus_sha_constants), ("unicode/utf8.first", Rows.laid_unicode_utf8_first)]
def laidCd : List (String × DataW Unit) := [("unicode/utf8.acceptRanges", Rows.laid_unicode_utf8_acceptRanges), ("isthmus/sha.begin", Rows.laid_isthmus_sha_begin), ("isthmus/sha.constants", Rows.laid_isthmus_sha_constants), ("unicode/utf8.first", Rows.laid_unicode_utf8_first)]
def laidEr : List (String × DataW Unit) := [("errors.errorType", Rows.laid_errors_errorType)]
theorem doorEt : Tryz.prog.globalNamed "errors.errorType" = some 1 := by kernel_rfl
theorem doorRt : (Tryz.prog.cutTypes.find? (·.1 == "internal/reflectlite.rtype")).map (·.2) = some 260 := by kernel_rfl
theorem doorOneRow : ((List.range Tryz.prog.types.size).filter fun t => Tryz.prog.rowNamed t [101, 114, 114, 111, 114]) = [29] := by kernel_rfl
theorem toList_getD (f : Nat → Int) (n i : Nat) (h : i < n) : ((List.range n).map f).getD i 0 = f i := by simp [List.getD, h]
theorem dBegin {H : Type} : (Rows.laid_isthmus_sha_begin : DataW H) = Lib.tabData .u32 ((List.range 8).map BT) := by rfl
theorem dConst {H : Type} : (Rows.laid_isthmus_sha_constants : DataW H) = Lib.tabData .u32 ((List.range 64).map KT) := by rfl
theorem env_of_tabs {W : World} (hb : Lib.TabIs Tryz.prog W "isthmus/sha.begin" .u32 ((List.range 8).map BT)) (hc : Lib.TabIs Tryz.prog W "isthmus/sha.constants" .u32 ((List.range 64).map KT)) : Env W :=
  ⟨fun i hi => by
    have := hb.cell nBegin i (by simpa using hi)
    rw [toList_getD _ _ _ hi] at this; exact this,
   fun i hi => by
    have := hc.cell nConst i (by simpa using hi)
    rw [toList_getD _ _ _ hi] at this; exact this⟩
theorem ct_env {W : World} (h : laidMetH Tryz.prog laidCt W) : Env W := by
  have h' : laidMet Tryz.prog laidCd W ∧ handlesMet Tryz.prog laidEr W := h
  have h := h'.1
  unfold laidCd at h
  rw [dBegin, dConst] at h
  exact env_of_tabs (Lib.tabIs_of_head nBegin tyBegin Tryz.underlying217 Tryz.underlying215 (by kernel_rfl) (by kernel_rfl) h.tail)
    (Lib.tabIs_of_head nConst tyConst Tryz.underlying216 Tryz.underlying215 (by kernel_rfl) (by kernel_rfl) h.tail.tail)
theorem ct_err {W : World} (h : laidMetH Tryz.prog laidCt W) : ErrType W := by
  have h' : laidMet Tryz.prog laidCd W ∧ handlesMet Tryz.prog laidEr W := h
  obtain ⟨name, u, ty, e1, e2, e3, e4, e5⟩ := h'.2 _ (List.mem_singleton.2 rfl)
  have en : name = [101, 114, 114, 111, 114] := (Option.some.inj e1).symm
  subst en
  obtain rfl := Option.some.inj (doorRt.symm.trans e2)
  have hm : ty ∈ (List.range Tryz.prog.types.size).filter fun t => Tryz.prog.rowNamed t [101, 114, 114, 111, 114] := List.mem_filter.2 ⟨List.mem_range.2 e3, e4⟩
  rw [doorOneRow] at hm
  obtain rfl := List.mem_singleton.1 hm
  have hh : typeHandle Tryz.prog 29 = .pointer (some ⟨7, 29, none⟩) := by kernel_rfl
  rw [hh] at e5
  unfold ErrType
  simpa using World.var?_cell doorEt e5 0
noncomputable def ctWorld (os : Os) : World := (World.doorLaid Tryz.prog 400 os).layVars Tryz.prog laidCd
theorem ct_os (os : Os) : (ctWorld os).os = os := World.layVars_os _ _ _
theorem ct_met (os : Os) (args : Array Value) : laidMetH Tryz.prog laidCt ((ctWorld os).forCall (fun _ _ => 0) ⟨#[], args, []⟩).memory :=
  laidMetH_of_parts3 (fuel := 8)
    ((laidMet_layVars (w0 := World.doorLaid Tryz.prog 400 os) (w' := ctWorld os) (laid := laidCd) ["unicode/utf8.acceptRanges", "isthmus/sha.begin", "isthmus/sha.constants", "unicode/utf8.first"] [] (by rfl) (by kernel_rfl) (by kernel_rfl) LaidIn.none).of_heap (by simp [World.memory, World.forCall, Input.heap]))
    (by kernel_rfl) (by kernel_rfl)
end Go.Proofs.YtejglhlodfhgkaaGreatDoor
namespace Go.Proofs.YtejglhlodfhgkaaGreatDoor
set_option linter.unusedVariables false
set_option linter.unusedSimpArgs false
open Go.ChangeShapes Go.WideShapes Go.ChangeAt Go.RowKit
set_option maxRecDepth 100000
theorem banknames_lifted (os : Os) (started : os.Started) (H : Type) (enc : TypeId × Value → H) :
    ReturnsInHanded {} Tryz.checked os 9 .any (fun w args => (Rows.bankNamesSpec.pre enc Tryz.prog Tryz.f9 [] false w args ∧ laidMetH Tryz.prog laidCt w) ∧ sizedMet enc Tryz.prog Tryz.f9 (OpenSpec.ofChange Rows.bankNamesSpec) false w args)
      (Rows.bankNamesSpec.post enc Tryz.prog Tryz.f9 false true false false) := by
  refine returnsInHanded_of_change_and (C := Tryz.checked) (X := fun w _ => laidMetH Tryz.prog laidCt w) (fun _ _ _ hh h => h.of_heap hh) doorOwn started (by kernel_rfl) Tryz.func9
    (ChangeSpec.witness_shaped (enc := enc) (C := Tryz.checked) (os := os) (X := fun w _ => laidMetH Tryz.prog laidCt w) false (ctWorld os) #[.string { data := #[] }] 8 (ct_os os) (World.shaped_of_RefB (by kernel_rfl) (by kernel_rfl)) (by kernel_rfl) (by kernel_rfl) (by kernel_rfl) (ct_met os _)) ?_
  intro W base args ds gs before hval0 hW _ hsz0 hL _
  have hsz : (DataW.weightsEach Tryz.prog (Tryz.f9.params.toList ++ Rows.bankNamesSpec.plain.varTypes Tryz.prog) (ds ++ gs)).all (· ≤ reachBytes) = true := hsz0
  clear hsz0
  have hval : ∀ (j : Nat) t v, Tryz.f9.params[j]? = some t → args[j]? = some v → Value.okWide Tryz.prog W .any base t v := hval0
  have hW' := hW
  obtain ⟨p, q, hA0, hV, rfl, hfz, hnd⟩ := hW
  have hA : DataW.TrodAll enc Tryz.prog W 0 (fun _ => true) true Tryz.f9.params.toList args.toList ds p := hA0
  rw [Tryz.params9] at hA hval hsz
  obtain ⟨v0, vs0, d0, ds0, p0, q0, hargs, rfl, rfl, h0, r0⟩ := trodAll_cons hA
  obtain ⟨rfl, rfl, rfl⟩ := trodAll_nil r0
  obtain rfl : args = #[v0] := by cases args; simp_all
  obtain ⟨rfl, rfl⟩ := trodVars_none hV
  obtain ⟨s0, rfl, rfl, rfl, hs0⟩ := Go.ChangeMaps.open_string Tryz.underlying9 (hval 0 9 v0 rfl rfl) h0
  have hlen0 : s0.size ≤ 140737488351232 := by have h := sized_string hsz (j := 0) (t := 9) (by rfl) (by rfl); rw [Array.length_toList] at h; exact h
  clear hA0 hval0
  refine (lbknames_any s0 W (ct_env hL) (ct_err hL) hlen0).mono fun e W' ⟨he, bel⟩ => ?_
  subst he
  exact ⟨_, rfl, _, _, _, [], _, [], hW', trodAll_mk1 (shut_bool Tryz.underlying4 _), (trodAll_cons_mk (Go.ChangeMaps.shut_string Tryz.underlying9 hs0) trodAll_mk0), rfl, bel.frame _, fun h => by cases h⟩
theorem banknames_holds : Rows.BankNamesSaid :=
  OpenClaim.holds_of_wide 9 Tryz.f9 rfl rfl rfl rfl rfl rfl rfl ⟨rfl, rfl, rfl, rfl, rfl⟩ rfl rfl rfl rfl rfl (by kernel_rfl) Tryz.func9 (by kernel_rfl)
    (of_decide_eq_true (by kernel_rfl)) (by unfold Func.isWrapper; first | (rw [if_pos (by decide +kernel)]; kernel_rfl) | (rw [if_neg (by decide +kernel)]; exact ⟨rfl, rfl⟩))
    (fun os started H enc _ => banknames_lifted os started H enc)
theorem banknames_card : Rows.BankNamesCardSaid :=
  Claim7.holds_tied_plain_at .later [] [.data, .handle, .data, .data, .pinned] true _ true
    banknames_holds (fun _ h => by cases h) (by kernel_rfl) (fun _ h => by cases h) bankNames_row_tie rfl ⟨rfl, rfl⟩ (by kernel_rfl) rfl
    (fun f fn hf hfn => by
      obtain rfl : f = 9 := Option.some.inj ((show Tryz.prog.funcNamed "isthmus/isthmuslaw16.BankNames" = some 9 by kernel_rfl).symm.trans hf) |>.symm
      obtain rfl : fn = Tryz.f9 := (Option.some.inj (Tryz.func9.symm.trans hfn)).symm
      exact ⟨by kernel_rfl, fun j t ht => by
        rw [Tryz.params9] at ht
        have hm : t ∈ [9] := by simpa using Array.mem_of_getElem? ht
        have hall : ([9].all fun u => !Tryz.prog.wantsStandIn u) = true := by kernel_rfl
        exact (show Tryz.prog.wantsStandIn t = false by simpa using List.all_eq_true.1 hall t hm)⟩)
    (by kernel_rfl)
#print axioms banknames_card
end Go.Proofs.YtejglhlodfhgkaaGreatDoor
