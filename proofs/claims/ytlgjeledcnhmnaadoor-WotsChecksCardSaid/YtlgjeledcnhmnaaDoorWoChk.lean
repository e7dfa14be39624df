/- WotsChecks: the walk. -/
import Derived.Test.YtlgjeledcnhmnaaDoorWoSure
import Derived.Test.YtlgjeledcnhmnaaDoorTwin
namespace Go.Proofs.YtlgjeledcnhmnaaDoor
open Go.RowKit
set_option maxRecDepth 100000
set_option maxHeartbeats 2000000 in
theorem checks_no (a : Option Addr) (n cap : Nat) (xs : List Int) (w : World) (hx : BytesIn w (.slice a n cap) xs) (he : Env w) (hl : n ≤ 140737488355328) (h : n < 1 ∨ 32 < n) :
    Calls Tryd.prog 7 #[.slice a n cap] w fun e w' => e = .returned (.bool true) ∧ Below w.heap.size w w' := by
  have HX := Lib.hid hx
  have HE := Lib.hid he
  have HN := Lib.hid (show xs.length = n by obtain ⟨_, _, e, _⟩ := hx; injection e with e1 e2 e3; exact e2.symm)
  have HL := Lib.hid hl
  have HC := Lib.hid h
  have HCI := Lib.hid (show (n : Int) < 1 ∨ 32 < (n : Int) by omega)
  clear hx he hl
  rcases h with h0 | h1
  · have h0' : n = 0 := by omega
    subst h0'
    go_enter Tryd.func7, Tryd.ntmps7
    go_wp2_with (first
      | (go_at_call 9; (with_reducible refine (twin_any _ xs _ HX.out (by rw [HN.out]; exact HL.out)).mono ?_); rintro e w1 ⟨vt, rfl, ho, hb⟩; have HT := Lib.hid ho; have HB := Lib.hid hb; clear ho hb; rw [HN.out] at HT; obtain ⟨at_, ct, rfl⟩ := owns_wide HT.out)
      | (go_at_call 17; (with_reducible refine (wdigits_no _ _ _ _ HC.out).mono ?_); rintro e w2 ⟨rfl, rfl⟩)
      | (go_at_call 19; (refine (wlen_no _ _ HCI.out).mono ?_); rintro e w2 ⟨rfl, rfl⟩)
      | (go_at_call 20; (with_reducible refine (wsure_any _ (HE.out.below HB.out HE.out.lt)).mono ?_); rintro e w3 ⟨rfl, hb⟩; have HB3 := Lib.hid hb; clear hb))
    go_ret
    exact ⟨rfl, HB.out.trans (HB3.out.mono HB.out.size)⟩
  · have hn0 : ¬ ((n : Int) = 0) := by omega
    have hn0b : ((n : Int) == 0) = false := by simpa using hn0
    have hn1 : (32 : Int) < n := by omega
    go_enter Tryd.func7, Tryd.ntmps7
    go_wp2_with (first
      | (go_at_call 9; (with_reducible refine (twin_any _ xs _ HX.out (by rw [HN.out]; exact HL.out)).mono ?_); rintro e w1 ⟨vt, rfl, ho, hb⟩; have HT := Lib.hid ho; have HB := Lib.hid hb; clear ho hb; rw [HN.out] at HT; obtain ⟨at_, ct, rfl⟩ := owns_wide HT.out)
      | (go_at_call 17; (with_reducible refine (wdigits_no _ _ _ _ HC.out).mono ?_); rintro e w2 ⟨rfl, rfl⟩)
      | (go_at_call 19; (refine (wlen_no _ _ HCI.out).mono ?_); rintro e w2 ⟨rfl, rfl⟩)
      | (go_at_call 20; (with_reducible refine (wsure_any _ (HE.out.below HB.out HE.out.lt)).mono ?_); rintro e w3 ⟨rfl, hb⟩; have HB3 := Lib.hid hb; clear hb))
    go_ret
    exact ⟨rfl, HB.out.trans (HB3.out.mono HB.out.size)⟩
theorem digF_take {xs : List Int} {k : Nat} (h : k ≤ 2 * xs.length) : (digF xs).take k = (digs xs).take k := by
  unfold digF; rw [List.take_append_of_le_length (by rw [digs_length]; exact h)]
theorem digF_ends (xs : List Int) : (digF xs)[2 * xs.length]? = some (lacks (digs xs) / 256) ∧ (digF xs)[2 * xs.length + 1]? = some (lacks (digs xs) / 16 % 16) ∧ (digF xs)[2 * xs.length + 2]? = some (lacks (digs xs) % 16) := by
  unfold digF
  rw [← digs_length]
  refine ⟨?_, ?_, ?_⟩
  · rw [List.getElem?_append_right (Nat.le_refl _), Nat.sub_self]; rfl
  · rw [List.getElem?_append_right (by omega), show (digs xs).length + 1 - (digs xs).length = 1 by omega]; rfl
  · rw [List.getElem?_append_right (by omega), show (digs xs).length + 2 - (digs xs).length = 2 by omega]; rfl
set_option maxHeartbeats 4000000 in
theorem checks_ok (v : Value) (xs : List Int) (w : World) (hx : BytesIn w v xs) (he : Env w) (hb : bytesOk xs) (hn : 1 ≤ xs.length ∧ xs.length ≤ 32) :
    Calls Tryd.prog 7 #[v] w fun e w' => e = .returned (.bool true) ∧ Below w.heap.size w w' := by
  have HX := Lib.hid hx
  have HE := Lib.hid he
  have HBO := Lib.hid hb
  obtain ⟨a, cap, rfl, -, -, -⟩ := hx
  obtain ⟨n, hnn⟩ : ∃ n, n = xs.length := ⟨_, rfl⟩
  have HXN := Lib.hid hn
  rw [← hnn] at HX hn ⊢
  have HN := Lib.hid hn
  have hnb := hn.2
  have hn1 := hn.1
  replace hnn := Lib.hid hnn
  have hn0 : ¬ (2 * (n : Int) + 3 = 0) := by omega
  have HN0 := Lib.hid hn0
  clear he hb hn
  go_enter Tryd.func7, Tryd.ntmps7
  go_upto_region 5 with (first
    | (go_at_call 9; (with_reducible refine (twin_any _ xs _ HX.out (by have := HXN.out; omega)).mono ?_); rintro e w1 ⟨vt, rfl, ho, hb⟩; have HT := Lib.hid (owns_in ho (by have := HXN.out; unfold maxLen; omega)); have HB := Lib.hid hb; clear ho hb)
    | (go_at_call 17; (with_reducible refine (wdigits_ok _ xs _ HT.out HBO.out HXN.out.1 HXN.out.2).mono ?_); rintro e w2 ⟨vd, rfl, ho, hb2⟩; obtain ⟨ad, cd, rfl, -, -, hcell⟩ := owns_ints ho (by rw [natInts_length, digF_length, ← hnn.out]; unfold maxLen; have := HN.out; omega); have HC := Lib.hid hcell; have HB2 := Lib.hid (HB.out.trans (hb2.mono HB.out.size)); clear hcell ho hb2 HB HT)
    | (go_at_call 19; (refine (wlen_ok _ _ HN.out.1 HN.out.2).mono ?_); rintro e w3 ⟨rfl, rfl⟩))
  obtain ⟨L, hL⟩ : ∃ L, L = digF xs := ⟨_, rfl⟩
  have HL := Lib.hid hL
  have HLE := Lib.hid (show ∀ d ∈ L, d ≤ 15 by rw [hL]; exact digF_le HBO.out HXN.out.2)
  rw [← hL] at HC ⊢
  obtain ⟨N, hN⟩ : ∃ N, N = (natInts L).length := ⟨_, rfl⟩
  have HNL := Lib.hid (show L.length = N by rw [hN, natInts_length])
  have HN3 := Lib.hid (show N = 2 * n + 3 by rw [← HNL.out, HL.out, digF_length, ← hnn.out])
  rw [← hN, show 2 * (n : Int) + 3 = (N : Int) by rw [HN3.out]; omega]
  clear hL hN hn0
  have hN67 : N ≤ 67 := by have := HN3.out; have := HN.out; omega
  have hN5 : 5 ≤ N := by have := HN3.out; have := HN.out; omega
  replace HC := HC.out
  rcases HC with h0 | ⟨gb, go, rfl, hcell⟩
  · exfalso
    have h1 := natInts_length L
    rw [h0] at h1
    have h2 := HNL.out
    simp at h1
    omega
  have HC := Lib.hid hcell
  clear hcell
  have hne1 : ((N : Int) != (N : Int)) = false := by simp
  have hne2 : ((N : Int) != 2 * (n : Int) + 3) = false := by rw [HN3.out]; simp
  go_wp2_with (fail)
  go_loop [5, 6] (fun s i => ∃ k : Nat, k ≤ N - 3 ∧ i = .int .i64 (k : Int) ∧ s = .int .i64 ((lacks (L.take k) : Nat) : Int)) (fun _ i => N - (intOf i).toNat)
  case atStart => exact ⟨0, Nat.zero_le _, rfl, rfl⟩
  case round =>
    obtain ⟨k, hk, rfl, rfl⟩ := hrel
    have hb2 : lacks (L.take k) ≤ 15 * 67 := by
      have := lacks_le (L.take k)
      rw [List.length_take] at this
      omega
    by_cases hlt : k < N - 3
    · obtain ⟨d, hd⟩ : ∃ d, L[k]? = some d := ⟨_, List.getElem?_eq_getElem (by rw [HNL.out]; omega)⟩
      have hd15 := HLE.out d (List.mem_of_getElem? hd)
      have HS := Lib.hid (lacks_snoc L k d hd)
      have c0 := HC.out k (d : Int) (nat_get L k d hd)
      replace hd := Lib.hid hd
      obtain ⟨S, hS⟩ : ∃ S, S = lacks (L.take k) := ⟨_, rfl⟩
      rw [← hS] at HS hb2 ⊢
      replace hS := Lib.hid hS
      have hlt' : (k : Int) < (N : Int) - 3 := by omega
      go_wp2_with (fail)
      go_round
      case rel => exact ⟨k + 1, by omega, by go_num, by rw [HS.out]; congr 1; omega⟩
      case measure => simp [intOf]; omega
    · have HE2 := Lib.hid (show L.take k = digs xs by
        rw [show k = 2 * xs.length by have := HN3.out; have := hnn.out; omega, HL.out, digF_take (Nat.le_refl _), ← digs_length, List.take_length])
      have hlt' : ¬ (k : Int) < (N : Int) - 3 := by omega
      rw [HE2.out] at hb2 ⊢
      have he3 := digF_ends xs
      rw [← HL.out, ← hnn.out] at he3
      obtain ⟨S, hS⟩ : ∃ S, S = lacks (digs xs) := ⟨_, rfl⟩
      rw [← hS] at hb2 he3 ⊢
      replace hS := Lib.hid hS
      clear HE2 hk hlt
      obtain ⟨a, ha⟩ : ∃ a, a = S / 256 := ⟨_, rfl⟩
      obtain ⟨b, hb⟩ : ∃ b, b = S / 16 % 16 := ⟨_, rfl⟩
      obtain ⟨c, hc⟩ : ∃ c, c = S % 16 := ⟨_, rfl⟩
      rw [← ha, ← hb, ← hc] at he3
      have hsum : a * 256 + b * 16 + c = S := by omega
      have ha5 : a ≤ 5 := by omega
      have hb15 : b ≤ 15 := by omega
      have hc15 : c ≤ 15 := by omega
      clear ha hb hc
      obtain ⟨e1, e2, e3⟩ := he3
      have q : 2 * n = N - 3 := by have := HN3.out; omega
      have c1 := HC.out (2 * n) (a : Int) (nat_get L _ a e1)
      have c2 := HC.out (2 * n + 1) (b : Int) (nat_get L _ b e2)
      have c3 := HC.out (2 * n + 2) (c : Int) (nat_get L _ c e3)
      clear e1 e2 e3
      rw [q] at c1 c2 c3
      have n1 : ((N : Int) - 3).toNat = N - 3 := by omega
      have n2 : ((N : Int) - 2).toNat = N - 3 + 1 := by omega
      have n3 : ((N : Int) - 1).toNat = N - 3 + 2 := by omega
      have p1 : 0 ≤ (N : Int) - 3 := by omega
      have p2 : 0 ≤ (N : Int) - 2 := by omega
      have p3 : 0 ≤ (N : Int) - 1 := by omega
      have p1' : 3 ≤ (N : Int) := by omega
      have p2' : 2 ≤ (N : Int) := by omega
      have p3' : 1 ≤ (N : Int) := by omega
      have q1 : (N : Int) - 3 < N := by omega
      have q2 : (N : Int) - 2 < N := by omega
      have q3 : (N : Int) - 1 < N := by omega
      have m1 : IntKind.i64.wrap ((N : Int) - 3) = (N : Int) - 3 := IntWalk.i64_in _ (by omega)
      have m2 : IntKind.i64.wrap ((N : Int) - 2) = (N : Int) - 2 := IntWalk.i64_in _ (by omega)
      have m3 : IntKind.i64.wrap ((N : Int) - 1) = (N : Int) - 1 := IntWalk.i64_in _ (by omega)
      have r1 : IntKind.i64.wrap ((a : Int) * 256) = (a : Int) * 256 := IntWalk.i64_in _ (by omega)
      have r2 : IntKind.i64.wrap ((b : Int) * 16) = (b : Int) * 16 := IntWalk.i64_in _ (by omega)
      have r3 : IntKind.i64.wrap ((a : Int) * 256 + (b : Int) * 16) = (a : Int) * 256 + (b : Int) * 16 := IntWalk.i64_in _ (by omega)
      have r4 : IntKind.i64.wrap ((a : Int) * 256 + (b : Int) * 16 + (c : Int)) = (a : Int) * 256 + (b : Int) * 16 + (c : Int) := IntWalk.i64_in _ (by omega)
      have r5 : ((a : Int) * 256 + (b : Int) * 16 + (c : Int) == (S : Int)) = true := by simp; omega
      clear q hsum
      go_wp2_with (fail)
      go_still_tail 22, (by kernel_rfl)
      change wpList _ _ _ _ _ w2.drew
      clear m1 m2 m3 r1 r2 r3 r4 r5 p1 p2 p3 p1' p2' p3' q1 q2 q3 n1 n2 n3 c1 c2 c3
      have hbd : Below w2.heap.size w2 w2.drew := (Below.refl _ _).drew
      replace HE := Lib.hid (HE.out.below (HB2.out.trans (hbd.mono HB2.out.size)) HE.out.lt)
      replace HB2 := Lib.hid (HB2.out.trans (hbd.mono HB2.out.size))
      clear hbd
      generalize w2.drew = w4 at *
      go_wp2_with (go_at_call 20; (with_reducible refine (wsure_any _ HE.out).mono ?_); rintro e w3 ⟨rfl, hb⟩; have HB3 := Lib.hid hb; clear hb)
      go_ret
      exact ⟨rfl, HB2.out.trans (HB3.out.mono HB2.out.size)⟩
theorem checks_any (a : Option Addr) (n cap : Nat) (xs : List Int) (w : World) (hl : xs.length = n) (hx : BytesIn w (.slice a n cap) xs) (hb : bytesOk xs) (hn : n ≤ 140737488351232) (he : Env w) :
    Calls Tryd.prog 7 #[.slice a n cap] w fun e w' => e = .returned (.bool true) ∧ Below w.heap.size w w' := by
  by_cases h : 1 ≤ n ∧ n ≤ 32
  · exact checks_ok _ xs w hx he hb (by rw [hl]; exact h)
  · exact checks_no a n cap xs w hx he (by omega) (by omega)
#print axioms checks_any
end Go.Proofs.YtlgjeledcnhmnaaDoor
