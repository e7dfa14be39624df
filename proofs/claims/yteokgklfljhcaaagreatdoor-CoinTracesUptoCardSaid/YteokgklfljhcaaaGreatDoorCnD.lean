/- coin: Check, Denom. -/
import Derived.Test.YteokgklfljhcaaaGreatDoorCnF
import Derived.Test.YteokgklfljhcaaaGreatDoorCnLa2
import Derived.Test.YteokgklfljhcaaaGreatDoorShSumM
import Derived.Test.YteokgklfljhcaaaGreatDoorShText
import Derived.Test.YteokgklfljhcaaaGreatDoorShPar
import Derived.Test.YteokgklfljhcaaaGreatDoorStr
namespace Go.Proofs.YteokgklfljhcaaaGreatDoor
open Go.RowKit
set_option maxRecDepth 100000
set_option linter.unusedSimpArgs false
set_option linter.unusedVariables false
def restS (s : ByteArray) : ByteArray := ⟨(Lib.trimPrefix s.data.toList [105, 98, 99, 47]).toArray⟩
def hasPre (s : ByteArray) : Bool := Lib.hasPrefix s.data.toList [105, 98, 99, 47]
def vouB (s : ByteArray) : Bool := hasPre s && (parR (numsOf (restS s))).2.isNone
def chkD (s : ByteArray) : Option Nat := if baseB s || vouB s then none else some 40
theorem rest_size (s : ByteArray) : (restS s).size ≤ s.size := by
  have h : ∀ l : List UInt8, (⟨l.toArray⟩ : ByteArray).size = l.length := fun l => List.size_toArray
  unfold restS
  rw [h]
  unfold Lib.trimPrefix
  split
  · rw [List.length_drop, size14]; exact Nat.sub_le _ _
  · rw [size14]; exact Nat.le_refl _
theorem cvou_any (s : ByteArray) (w : World) (hs : s.size ≤ 140737488351232) : Calls Tryz.prog 91 #[.string s] w fun e w' => e = .returned (.bool (vouB s)) ∧ Below w.heap.size w w' := by
  have HC := Lib.hid (show ∀ w, Calls Tryz.prog 138 #[.string s, .string { data := #[105, 98, 99, 47] }] w fun e w' => e = .returned (.tuple #[.string (restS s), .bool (hasPre s)]) ∧ w' = w from fun w => Any.strings_CutPrefix Tryz.lays103 s { data := #[105, 98, 99, 47] } w)
  have HP := Lib.hid (fun w => parse_any (restS s) w (by have := rest_size s; unfold maxLen; omega))
  unfold vouB
  obtain ⟨r, hr⟩ : ∃ r, r = restS s := ⟨_, rfl⟩
  obtain ⟨x, hx⟩ : ∃ x, x = hasPre s := ⟨_, rfl⟩
  rw [← hr, ← hx] at HC
  rw [← hr] at HP
  rw [← hr, ← hx]
  obtain ⟨F, hF⟩ : ∃ f, f = (parR (numsOf r)).1 := ⟨_, rfl⟩
  obtain ⟨E, hE⟩ : ∃ f, f = (parR (numsOf r)).2 := ⟨_, rfl⟩
  rw [← hF, ← hE] at HP
  rw [← hE]
  clear hr hx hF hE
  cases x with
  | false =>
    go_enter Tryz.func91, Tryz.ntmps91
    go_wp2_with (go_at_call 138; (with_reducible refine (HC.out _).mono ?_); rintro e w1 ⟨rfl, hw⟩; obtain rfl := hw.symm)
    go_ret
    exact ⟨rfl, Below.refl _ _⟩
  | true =>
    cases E with
    | none =>
      simp only [errV] at HP
      go_enter Tryz.func91, Tryz.ntmps91
      go_wp2_with (first
        | (go_at_call 138; (with_reducible refine (HC.out _).mono ?_); rintro e w1 ⟨rfl, hw⟩; obtain rfl := hw.symm)
        | (go_at_call 139; (with_reducible refine (HP.out _).mono ?_); rintro e w2 ⟨rfl, hb⟩; have HB := Lib.hid hb; clear hb)
        | (refine wpList_store_row rfl 23 (.tmp 5) (.tmp 17) rfl w2.heap.size (rowOf .u8 32 F) rfl rfl 23 _ (heap_alloc_new _ _) (by rw [rowOf_size]; kernel_rfl) (by rw [rowOf_size]; kernel_rfl) (rowOf_one _ _ _) ?_; rw [World.setRow_alloc_new]))
      go_ret
      exact ⟨rfl, HB.out.trans ((below_alloc _ _).mono HB.out.size)⟩
    | some n =>
      simp only [errV] at HP
      go_enter Tryz.func91, Tryz.ntmps91
      go_wp2_with (first
        | (go_at_call 138; (with_reducible refine (HC.out _).mono ?_); rintro e w1 ⟨rfl, hw⟩; obtain rfl := hw.symm)
        | (go_at_call 139; (with_reducible refine (HP.out _).mono ?_); rintro e w2 ⟨rfl, hb⟩; have HB := Lib.hid hb; clear hb)
        | (refine wpList_store_row rfl 23 (.tmp 5) (.tmp 17) rfl w2.heap.size (rowOf .u8 32 F) rfl rfl 23 _ (heap_alloc_new _ _) (by rw [rowOf_size]; kernel_rfl) (by rw [rowOf_size]; kernel_rfl) (rowOf_one _ _ _) ?_; rw [World.setRow_alloc_new]))
      go_ret
      exact ⟨rfl, HB.out.trans ((below_alloc _ _).mono HB.out.size)⟩
theorem ccheck_any (s : ByteArray) (w : World) (hs : s.size ≤ 140737488351232) : Calls Tryz.prog 41 #[.string s] w fun e w' => e = .returned (errV (chkD s)) ∧ Below w.heap.size w w' := by
  have HB1 := Lib.hid (fun w => cbase_any s w (by omega))
  have HV := Lib.hid (fun w => cvou_any s w hs)
  unfold chkD
  obtain ⟨x, hx⟩ : ∃ x, x = baseB s := ⟨_, rfl⟩
  obtain ⟨y, hy⟩ : ∃ x, x = vouB s := ⟨_, rfl⟩
  rw [← hx] at HB1 ⊢
  rw [← hy] at HV ⊢
  clear hx hy hs
  have HB := Lib.hid (Below.refl w.heap.size w)
  cases x <;> cases y <;>
  · go_enter Tryz.func41, Tryz.ntmps41
    go_wp2_with (first
      | (go_at_call 39; (with_reducible refine (HB1.out _).mono ?_); rintro e w1 ⟨rfl, hb⟩; replace HB := Lib.hid (HB.out.trans (hb.mono HB.out.size)); clear hb)
      | (go_at_call 91; (with_reducible refine (HV.out _).mono ?_); rintro e w2 ⟨rfl, hb⟩; replace HB := Lib.hid (HB.out.trans (hb.mono HB.out.size)); clear hb))
    go_ret
    exact ⟨rfl, HB.out⟩
/-- what Denom answers -/
def vouS (s : ByteArray) : ByteArray := { data := #[105, 98, 99, 47] } ++ strOfNums (textL (sumF (numsOf s)))
def denR (p : List ByteArray) (b : ByteArray) : ByteArray := if trE p b = none ∧ p ≠ [] then vouS (fullR p b) else fullR p b
set_option maxHeartbeats 4000000 in
theorem cdenom_any (p : List ByteArray) (b : ByteArray) (pv : Value) (w : World) (he : Env w) (hp : SsIn w pv p) (hl : p.length + 1 ≤ 8796093022208) (hs : ∀ s ∈ p, s.size ≤ 9223372036854775806) (hb : b.size ≤ 9223372036854775807) (hj : trE p b = none → (joinS (p ++ [b])).size ≤ 4194304) :
    Calls Tryz.prog 33 #[.agg (trC pv b)] w fun e w' => e = .returned (.tuple #[.string (denR p b), errV (trE p b)]) ∧ Below w.heap.size w w' := by
  obtain ⟨pa, pc, rfl, -, -⟩ := id hp
  have HC := Lib.hid (fun w h => cfull_any p b (.slice pa p.length pc) w h hl hs hb (fun h => Nat.le_trans (hj h) (by omega)))
  have HP := Lib.hid hp
  obtain ⟨E, hE⟩ : ∃ e, e = trE p b := ⟨_, rfl⟩
  obtain ⟨R, hR⟩ : ∃ r, r = denR p b := ⟨_, rfl⟩
  rw [← hR]
  unfold denR at hR
  have hfs : E = none → (fullR p b).size ≤ 4194304 := fun h => by unfold fullR; rw [← hE, if_pos h]; exact hj (hE ▸ h)
  obtain ⟨S, hS⟩ : ∃ s, s = fullR p b := ⟨_, rfl⟩
  rw [← hS] at HC hR hfs
  rw [← hE] at HC hR ⊢
  have HR := Lib.hid hR
  obtain ⟨n, hn⟩ : ∃ n, n = p.length := ⟨_, rfl⟩
  have M := Lib.hid (show TrB w w.heap.size (.slice pa n pc) b (w.alloc (.cells (trC (.slice pa n pc) b) 65)) from ⟨heap_alloc_new _ _, below_alloc _ _⟩)
  rw [← hn] at HC HP ⊢
  have HN := Lib.hid (show n = 0 ↔ p = [] from by rw [hn]; exact List.length_eq_zero_iff)
  have HEN := Lib.hid (he.below (below_alloc w (.cells (trC (.slice pa n pc) b) 65)) he.lt)
  have HSU := Lib.hid (fun v w h he => shSum_any v (numsOf S) w h he)
  have HTX := Lib.hid (fun xs w => text_any (sumF xs) (fun i _ => by unfold sumF hsum outF; omega) w)
  clear hp hs hb hj hl hE hR hn hS he
  go_enter Tryz.func33, Tryz.ntmps33
  go_upto_region 1 with (fail)
  obtain ⟨q, hq⟩ : ∃ q, q = w.heap.size := ⟨_, rfl⟩
  rw [← hq] at M ⊢
  clear hq
  generalize w.alloc (.cells (trC (.slice pa n pc) b) 65) = w1 at *
  cases E with
  | some x =>
    go_wp2_with (first
      | (refine wpList_load_row rfl 65 (.tmp 1) rfl q rfl 65 _ (0, 0) _ M.out.at_ Tryz.underlying65 rfl (by kernel_rfl) ?_)
      | (go_at_call 30; (with_reducible refine (HC.out _ (HP.out.below M.out.below)).mono ?_); rintro e w2 ⟨rfl, hb⟩; replace M := Lib.hid (M.out.call hb); clear hb; simp only [errV]))
    first | go_ret | go_ret2
    exact ⟨by rw [HR.out, if_neg (fun h => by cases h.1)]; rfl, M.out.below⟩
  | none =>
    have hfz := hfs rfl
    by_cases h0 : n = 0
    · have HF := Lib.hid (show R = S from by rw [HR.out, if_neg (fun h => h.2 (HN.out.1 h0))])
      subst h0
      have c0 := M.out.c0
      go_upto_region 2 with (first
        | (refine wpList_load_row rfl 65 (.tmp 1) rfl q rfl 65 _ (0, 0) _ M.out.at_ Tryz.underlying65 rfl (by kernel_rfl) ?_)
        | (go_at_call 30; (with_reducible refine (HC.out _ (HP.out.below M.out.below)).mono ?_); rintro e w2 ⟨rfl, hb⟩; replace M := Lib.hid (M.out.call hb); clear hb; simp only [errV]))
      clear c0
      have c0 := M.out.c0
      go_wp2_with (fail)
      first | go_ret | go_ret2
      exact ⟨by rw [HF.out]; rfl, M.out.below⟩
    · have h0I : ¬ (n : Int) = 0 := by omega
      have HF := Lib.hid (show R = { data := #[105, 98, 99, 47] } ++ strOfNums (textL (sumF (numsOf S))) from by rw [HR.out, if_pos ⟨rfl, fun h => h0 (HN.out.2 h)⟩]; rfl)
      go_upto_region 2 with (first
        | (refine wpList_load_row rfl 65 (.tmp 1) rfl q rfl 65 _ (0, 0) _ M.out.at_ Tryz.underlying65 rfl (by kernel_rfl) ?_)
        | (go_at_call 30; (with_reducible refine (HC.out _ (HP.out.below M.out.below)).mono ?_); rintro e w2 ⟨rfl, hb⟩; replace M := Lib.hid (M.out.call hb); replace HEN := Lib.hid (HEN.out.below hb HEN.out.lt); clear hb; simp only [errV]))
      have c0 := M.out.c0
      go_upto_region 4 with (fail)
      clear c0
      have HB2 := Lib.hid (bytesW_below w2 S)
      have HY := Lib.hid (bytesW_in w2 S (by unfold maxLen; omega))
      have hcv : ∀ w : World, (convert 9 39 (.string S)).run Tryz.prog w = .ok (.slice (some ⟨w.heap.size, 0, none⟩) S.size (grownCap w S.size 0 5)) (bytesW w S) :=
        fun w => run_bytes_of_string w 9 39 5 S Tryz.underlying9 Tryz.underlying39 Tryz.underlying5
      have hts : (strOfNums (textL (sumF (numsOf S)))).size = 64 := by
        have h : ∀ l : List Int, (strOfNums l).size = l.length := fun l => by unfold strOfNums; simp [ByteArray.size]
        rw [h]
        simp [textL]
      have z1 : ¬ 9223372036854775807 < 4 + (strOfNums (textL (sumF (numsOf S)))).size := by omega
      have z2 : ¬ 9223372036854775807 < (({ data := #[105, 98, 99, 47] } : ByteArray)).size + (strOfNums (textL (sumF (numsOf S)))).size := by rw [hts]; decide
      obtain ⟨TX, hTX⟩ : ∃ t, t = strOfNums (textL (sumF (numsOf S))) := ⟨_, rfl⟩
      have HTS := Lib.hid (HTX.out (numsOf S))
      rw [← hTX] at HF HTS z1 z2
      obtain ⟨SF, hSF⟩ : ∃ t, t = sumF (numsOf S) := ⟨_, rfl⟩
      rw [← hSF] at HSU HTS
      clear hts hTX hSF
      go_wp2_with (first
        | (go_at_call 53; (with_reducible refine (HSU.out _ _ HY.out (HEN.out.below HB2.out HEN.out.lt)).mono ?_); rintro e w3 ⟨rfl, hb⟩; replace M := Lib.hid ((M.out.call HB2.out).call hb); clear hb)
        | (go_at_call 84; (with_reducible refine (HTS.out _).mono ?_); rintro e w4 ⟨rfl, hb⟩; replace M := Lib.hid (M.out.call hb); clear hb))
      first | go_ret | go_ret2
      exact ⟨by rw [HF.out]; rfl, M.out.below⟩
end Go.Proofs.YteokgklfljhcaaaGreatDoor
