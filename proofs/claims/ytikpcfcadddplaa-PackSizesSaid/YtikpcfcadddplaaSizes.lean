/- PackSizes: the walk. -/
import Derived.Test.YtikpcfcadddplaaSure
namespace Go.Proofs.Ytikpcfcadddplaa
open Go.RowKit
theorem done_w (p : Nat) (v : Value) (xs : List Int) (n : Nat) (w : World) (hw : WAt w p v xs) (hn : xs.length = n) (hl : n ≤ 140737488355328) :
    Calls Try.prog 8 #[.pointer (some ⟨p, 0, none⟩)] w fun e w' => ∃ a c, e = .returned (.slice a n c) ∧ Below w.heap.size w w' :=
  (done_any p v xs w hw (by omega)).mono fun _ _ ⟨_, h1, h2, h3⟩ => by
    obtain ⟨a, c, rfl⟩ := owns_wide h2
    rw [hn] at h1
    exact ⟨a, c, h1, h3⟩
theorem wbool_true (p : Nat) (w : World) (hw : WAt w p (.slice none 0 0) []) : Calls Try.prog 13 #[.pointer (some ⟨p, 0, none⟩), .bool true] w (WPost p (.slice none 0 0) [] [1] w) := wbool_any p _ [] true w hw (by decide)
set_option maxRecDepth 100000 in
set_option maxHeartbeats 1000000 in
theorem sizes_any (n : Nat) (hn : n < 18446744073709551616) (w : World) : Calls Try.prog 5 #[.int .u64 (n : Int)] w fun e w' => e = .returned (.bool true) ∧ Below w.heap.size w w' := by
  have HN := Lib.hid hn
  have HG := Lib.hid (glen_le hn)
  clear hn
  go_enter Try.func5, Try.ntmps5
  go_wp2_with (fail)
  go_loopw [3, 4] (fun k x wr => ∃ j : Nat, 1 ≤ j ∧ j ≤ glen n ∧ k = .int .i64 j ∧ x = .int .u64 ((n / 128 ^ j : Nat) : Int) ∧ wr = w) (fun k _ _ => 10 - (intOf k).toNat)
  case atStart => exact ⟨1, Nat.le_refl _, glen_pos n, rfl, by rw [Nat.pow_one]; rfl, rfl⟩
  case round =>
    obtain ⟨j, h1, hj, rfl, rfl, rfl⟩ := hrel
    have hj10 := HG.out
    obtain ⟨m, hm⟩ : ∃ m, m = n / 128 ^ j := ⟨_, rfl⟩
    have hiff : 0 < m ↔ j < glen n := by
      obtain ⟨i, rfl⟩ : ∃ i, j = i + 1 := ⟨j - 1, by omega⟩
      rw [hm, div_pow_step, ← glen_iff (by omega : i < glen n)]; omega
    rw [← hm]
    replace hm := Lib.hid hm
    by_cases h : 0 < m
    · have hlt := hiff.1 h
      have hi : (0 : Int) < (m : Int) := by omega
      clear hiff
      go_wp2_with (fail)
      go_roundw
      case rel =>
        refine ⟨j + 1, by omega, hlt, rfl, ?_, trivial⟩
        rw [div_pow_step, ← hm.out]; rfl
      case measure => simp [intOf]; omega
    · have hjg : j = glen n := by omega
      have hi : ¬ (0 : Int) < (m : Int) := by omega
      clear hiff hm
      subst hjg
      obtain ⟨g, hg⟩ : ∃ g, g = glen n := ⟨_, rfl⟩
      have hL := Lib.hid (show (varint n).length = g by rw [varint_length, hg])
      have hg10 : g ≤ 10 := by omega
      rw [← hg]
      clear hg hj10 hj h1
      have HA := Lib.hid (Below.refl wr.heap.size wr)
      go_wp2_with (first
        | (go_at_call 14; (with_reducible refine (sure_any _).mono ?_); rintro e w9 ⟨rfl, HB9⟩; replace HA := Lib.hid (HA.out.trans (HB9.mono HA.out.size)))
        | (go_at_call 6; (with_reducible refine (new_p _).mono ?_); rintro e w1 ⟨p, rfl, hp, HW, HB⟩; replace hp := Lib.hid (Nat.le_trans HA.out.size hp); replace HA := Lib.hid (HA.out.trans (HB.mono HA.out.size)); replace HW := Lib.hid HW; clear HB)
        | (go_at_call 9; (with_reducible refine (wuint_any p _ [] n _ HW.out HN.out (by decide)).mono ?_); rintro e w2 ⟨rfl, v2, HW2, HS2⟩; rw [List.nil_append] at HW2; replace HA := Lib.hid (HA.out.trans (HS2.below HW.out hp.out)); have HD := Lib.hid (fun h => done_w p v2 (varint n) g w2 HW2 hL.out h); clear HS2 HW2)
        | (go_at_call 13; (with_reducible refine (wbool_true p _ HW.out).mono ?_); rintro e w2 ⟨rfl, v2, HW2, HS2⟩; rw [List.nil_append] at HW2; replace HA := Lib.hid (HA.out.trans (HS2.below HW.out hp.out)); have HD := Lib.hid (fun h => done_w p v2 [1] 1 w2 HW2 rfl h); clear HS2 HW2)
        | (go_at_call 12; rw [zeros32]; (with_reducible refine (whash_any p _ [] (fun _ => 0) _ HW.out (by decide)).mono ?_); rintro e w2 ⟨rfl, v2, HW2, HS2⟩; rw [List.nil_append] at HW2; replace HA := Lib.hid (HA.out.trans (HS2.below HW.out hp.out)); have HD := Lib.hid (fun h => done_w p v2 (rowL 32 (fun _ => 0)) 32 w2 HW2 (by simp [rowL]) h); clear HS2 HW2)
        | (go_at_call 8; (with_reducible refine (HD.out (by omega)).mono ?_); rintro e w3 ⟨a3, c3, rfl, HB3⟩; replace HA := Lib.hid (HA.out.trans (HB3.mono HA.out.size)); clear HB3 HD))
      go_ret
      exact ⟨rfl, HA.out⟩
#print axioms sizes_any
end Go.Proofs.Ytikpcfcadddplaa
