/- The reference's check, Digits. -/
import Derived.Test.YtlgjeledcnhmnaaDoorWoSign
namespace Go.Proofs.YtlgjeledcnhmnaaDoor
open Go.RowKit
set_option maxRecDepth 100000
theorem rcheck_ok (leaf n : Int) (w : World) (h : 0 ≤ leaf ∧ leaf < 1024 ∧ 1 ≤ n ∧ n ≤ 32) : Calls Tryd.prog 32 #[.int .i64 leaf, .int .i64 n] w fun e w' => e = .returned (.bool true) ∧ w = w' := by
  obtain ⟨h1, h2, h3, h4⟩ := h
  have e1 : decide (leaf < 1024) = true := by simpa using h2
  have e2 : decide (1 ≤ n) = true := by simpa using h3
  have e3 : decide (n ≤ 32) = true := by simpa using h4
  have e0 : decide (0 ≤ leaf) = true := by simpa using h1
  go_enter Tryd.func32, Tryd.ntmps32
  go_wp2
  go_ret
  exact ⟨by simp, rfl⟩
theorem rcheck_no (leaf n : Int) (w : World) (h : ¬ (0 ≤ leaf ∧ leaf < 1024 ∧ 1 ≤ n ∧ n ≤ 32)) : Calls Tryd.prog 32 #[.int .i64 leaf, .int .i64 n] w fun e w' => e = .returned (.bool false) ∧ w = w' := by
  by_cases h1 : 0 ≤ leaf
  · have e0 : decide (0 ≤ leaf) = true := by simpa using h1
    by_cases h2 : leaf < 1024
    · have e1 : decide (leaf < 1024) = true := by simpa using h2
      by_cases h3 : 1 ≤ n
      · have e2 : decide (1 ≤ n) = true := by simpa using h3
        have h4 : ¬ n ≤ 32 := by omega
        have e3 : decide (n ≤ 32) = false := by simpa using h4
        clear h
        go_enter Tryd.func32, Tryd.ntmps32
        go_wp2
        go_ret
        exact ⟨by simp, rfl⟩
      · have e2 : decide (1 ≤ n) = false := by simpa using h3
        clear h
        go_enter Tryd.func32, Tryd.ntmps32
        go_wp2
        go_ret
        exact ⟨by simp, rfl⟩
    · have e1 : decide (leaf < 1024) = false := by simpa using h2
      clear h
      go_enter Tryd.func32, Tryd.ntmps32
      go_wp2
      go_ret
      exact ⟨by simp, rfl⟩
  · have e0 : decide (0 ≤ leaf) = false := by simpa using h1
    clear h
    go_enter Tryd.func32, Tryd.ntmps32
    go_wp2
    go_ret
    exact ⟨by simp, rfl⟩
theorem rdigits_no (a : Option Addr) (n cap : Nat) (w : World) (h : n < 1 ∨ 32 < n) :
    Calls Tryd.prog 18 #[.slice a n cap] w fun e w' => e = .returned (.slice none 0 0) ∧ w = w' := by
  rcases h with h | h
  · have h1 : n = 0 := by omega
    subst h1
    clear h
    go_enter Tryd.func18, Tryd.ntmps18
    go_wp2
    go_ret
    exact ⟨rfl, rfl⟩
  · have h1 : ¬ ((n : Int) < 1) := by omega
    have h2 : (32 : Int) < n := by omega
    have e1 : decide ((n : Int) < 1) = false := by simpa using h1
    go_enter Tryd.func18, Tryd.ntmps18
    go_wp2
    go_ret
    exact ⟨rfl, rfl⟩
theorem lack2 (s a b : Nat) (ha : a ≤ 15) (hb : b ≤ 15) : (s : Int) + 30 - a - b = ((s + (15 - a) + (15 - b) : Nat) : Int) := by omega
theorem lacks_two (l : List Nat) (a b : Nat) : lacks (l ++ [a, b]) = lacks l + (15 - a) + (15 - b) := by rw [lacks_append]; simp [lacks]; omega
set_option maxHeartbeats 4000000 in
theorem rdigits_ok (v : Value) (xs : List Int) (w : World) (hx : BytesIn w v xs) (hb : bytesOk xs) (h1 : 1 ≤ xs.length) (h2 : xs.length ≤ 32) :
    Calls Tryd.prog 18 #[v] w fun e w' => ∃ v', e = .returned v' ∧ w'.ownsRow w.heap.size 3 1 v' (natInts (digF xs)).length (intVals (natInts (digF xs))) ∧ Below w.heap.size w w' := by
  have HX := Lib.hid hx
  have HB := Lib.hid hb
  have HL := Lib.hid (And.intro h1 h2)
  obtain ⟨a, cap, rfl, hc, hm, hcell⟩ := hx
  rcases hcell with rfl | ⟨ab, ao, rfl, hcell⟩
  · simp at h1
  have HCE := Lib.hid hcell
  obtain ⟨n, hn⟩ : ∃ n, n = xs.length := ⟨_, rfl⟩
  rw [← hn] at HX h1 h2 hc hm HL ⊢
  have HN := Lib.hid hn
  clear hcell hb hc hm hn
  have hn0 : ¬ ((n : Int) < 1) := by omega
  have e1 : decide ((n : Int) < 1) = false := by simpa using hn0
  have M : Hid (DigM w w (.slice (some ⟨ab, ao, none⟩) n cap) xs (.slice none 0 0) []) := Lib.hid ⟨HX.out, World.ownsRow_nil _ _ _ _, Below.refl _ _⟩
  go_enter Tryd.func18, Tryd.ntmps18
  go_wp2_with (fail)
  go_loopw [3, 4, 5] (fun s c i wr => ∃ k : Nat, k ≤ n ∧ i = .int .i64 (k : Int) ∧ c = .int .i64 ((lacks (digs (xs.take k)) : Nat) : Int) ∧ Hid (DigM w wr (.slice (some ⟨ab, ao, none⟩) n cap) xs s (digs (xs.take k)))) (fun _ _ i _ => n - (intOf i).toNat)
  case atStart => exact ⟨0, Nat.zero_le _, rfl, rfl, M⟩
  case round =>
    clear M
    obtain ⟨k, hk, rfl, rfl, M⟩ := hrel
    by_cases hlt : k < n
    · obtain ⟨x, hx⟩ : ∃ x, xs[k]? = some x := ⟨_, List.getElem?_eq_getElem (by rw [← HN.out]; exact hlt)⟩
      have hxb := HB.out x (List.mem_of_getElem? hx)
      obtain ⟨m, rfl⟩ : ∃ m : Nat, x = (m : Int) := ⟨x.toNat, by omega⟩
      have hm : m < 256 := by omega
      have HD := Lib.hid (digs_snoc xs k _ hx)
      have hlk : lacks (digs (xs.take k)) ≤ 960 := by
        have := lacks_le (digs (xs.take k)); rw [digs_length, List.length_take] at this; omega
      have c0 := M.out.below.cell (p := ⟨ab, ao + k, none⟩) (World.block_lt_of_cell? w _ (HCE.out k _ hx))
      rw [HCE.out k _ hx] at c0
      replace hx := Lib.hid hx
      have HLN2 := Lib.hid (show (natInts (digs (xs.take k))).length ≤ 64 by rw [natInts_length, digs_length, List.length_take]; have := HL.out; omega)
      obtain ⟨p, hp⟩ : ∃ p, p = m / 16 := ⟨_, rfl⟩
      obtain ⟨q, hq⟩ : ∃ q, q = m % 16 := ⟨_, rfl⟩
      have hp15 : p ≤ 15 := by omega
      have hq15 : q ≤ 15 := by omega
      have t1 : (m : Int) / 16 = (p : Int) := by omega
      have t2 : (m : Int) % 16 = (q : Int) := by omega
      replace HD : Hid (digs (xs.take (k + 1)) = digs (xs.take k) ++ [p, q]) := by rw [hp, hq]; exact HD
      clear hp hq hxb
      go_upto_region 8 with (fail)
      go_quiet (fail)
      replace M : Hid (DigM w (wr.drewN nq) (.slice (some ⟨ab, ao, none⟩) n cap) xs u3 (digs (xs.take k))) := Lib.hid ⟨M.out.arg, M.out.row, ⟨M.out.below.os, M.out.below.tape, M.out.below.output, M.out.below.size, M.out.below.block⟩⟩
      clear c0 t1 t2
      generalize wr.drewN nq = w2 at *
      have HA := Lib.hid (below_alloc w2 (.cells (intVals (natInts [p, q])).toArray 3))
      have HY := Lib.hid (lits_in w2 (natInts [p, q]) (by simp [natInts, maxLen]))
      have HLK := Lib.hid (show ((lacks (digs (xs.take k)) : Nat) : Int) + 30 - p - q = ((lacks (digs (xs.take (k + 1))) : Nat) : Int) by rw [HD.out, lacks_two]; exact lack2 _ p q hp15 hq15)
      obtain ⟨S, hS⟩ : ∃ S, S = lacks (digs (xs.take k)) := ⟨_, rfl⟩
      rw [← hS] at HLK hlk ⊢
      replace hS := Lib.hid hS
      go_wp2_with (at_builtin; refine wpList_append_ints rfl (.tmp 34) (.tmp 37) rfl rfl w.heap.size _ _ rfl (kept_below M.out.row HA.out) _ (natInts [p, q]) rfl HY.out (by simp [natInts]) (by rw [natInts_length [p, q]]; have := HLN2.out; simp; omega) (Nat.le_trans M.out.below.size HA.out.size) ?_; intro v2 w3 ho hg; have M2 := Lib.hid (M.out.grow HA.out hg ho HX.out); clear ho hg)
      go_roundw
      case rel => exact ⟨k + 1, by omega, by go_num, by rw [HLK.out], by rw [HD.out]; exact M2⟩
      case measure => simp [intOf]; omega
    · have hkn : k = n := by omega
      have hlt' : ¬ (k : Int) < (n : Int) := by omega
      have HD := Lib.hid (show xs.take k = xs by rw [hkn, HN.out, List.take_length])
      rw [HD.out] at M ⊢
      clear HD hkn hk hlt
      have HLS := Lib.hid (show lacks (digs xs) ≤ 960 from lacks_bound (by have := HL.out; have := HN.out; omega))
      have HDF := Lib.hid (show digF xs = digs xs ++ [lacks (digs xs) / 256 % 16, lacks (digs xs) / 16 % 16, lacks (digs xs) % 16] by unfold digF; rw [show lacks (digs xs) / 256 % 16 = lacks (digs xs) / 256 from Nat.mod_eq_of_lt (by have := HLS.out; omega)])
      have HLN2 := Lib.hid (show (natInts (digs xs)).length ≤ 64 by rw [natInts_length, digs_length]; have := HL.out; have := HN.out; omega)
      obtain ⟨S, hS⟩ : ∃ S, S = lacks (digs xs) := ⟨_, rfl⟩
      rw [← hS] at HLS HDF ⊢
      replace hS := Lib.hid hS
      have hs9 := HLS.out
      have HA := Lib.hid (below_alloc wr (.cells (intVals (natInts [S / 256 % 16, S / 16 % 16, S % 16])).toArray 3))
      have HY := Lib.hid (lits_in wr (natInts [S / 256 % 16, S / 16 % 16, S % 16]) (by simp [natInts, maxLen]))
      go_wp2_with (at_builtin; refine wpList_append_ints rfl (.tmp 45) (.tmp 54) rfl rfl w.heap.size _ (natInts (digs xs)) rfl (kept_below M.out.row HA.out) _ (natInts [S / 256 % 16, S / 16 % 16, S % 16]) rfl HY.out (by simp [natInts]) (by rw [natInts_length [S / 256 % 16, S / 16 % 16, S % 16]]; have := HLN2.out; simp; omega) (Nat.le_trans M.out.below.size HA.out.size) ?_; intro v2 w3 ho hg; have M2 := Lib.hid (M.out.grow HA.out hg ho HX.out); clear ho hg)
      go_ret
      refine ⟨_, rfl, ?_, M2.out.below⟩
      rw [HDF.out]
      exact M2.out.row
end Go.Proofs.YtlgjeledcnhmnaaDoor
