/- wots.Digits. -/
import Derived.Test.YtlgjeledcnhmnaaDoorWoStep
import Derived.Test.YtlgjeledcnhmnaaDoorInts
namespace Go.Proofs.YtlgjeledcnhmnaaDoor
open Go.RowKit
set_option maxRecDepth 100000
def natInts (l : List Nat) : List Int := l.map fun d : Nat => (d : Int)
theorem natInts_length (l : List Nat) : (natInts l).length = l.length := by simp [natInts]
theorem natInts_append (a b : List Nat) : natInts (a ++ b) = natInts a ++ natInts b := by simp [natInts]
theorem digs_snoc (xs : List Int) (k : Nat) (x : Int) (h : xs[k]? = some x) : digs (xs.take (k + 1)) = digs (xs.take k) ++ [x.toNat / 16, x.toNat % 16] := by
  rw [List.take_add_one, h, Option.toList_some, digs_append]
  rfl
theorem lacks_snoc (l : List Nat) (k d : Nat) (h : l[k]? = some d) : lacks (l.take (k + 1)) = lacks (l.take k) + (15 - d) := by
  rw [List.take_add_one, h, Option.toList_some, lacks_append]
  simp [lacks]
theorem kept_below {w w' : World} {B n : Nat} {e : TypeId} {v : Value} {vs : List Value} (h : w.ownsRow B e 1 v n vs) (hb : Below w.heap.size w w') : w'.ownsRow B e 1 v n vs := by
  refine h.kept (row := none) ⟨hb.os, hb.tape, hb.output, hb.size, fun k hk _ => hb.block k hk⟩ ?_
  cases v.ownBlock <;> simp
structure DigM (w wr : World) (v : Value) (xs : List Int) (v' : Value) (l : List Nat) : Prop where
  arg : BytesIn wr v xs
  row : wr.ownsRow w.heap.size 3 1 v' (natInts l).length (intVals (natInts l))
  below : Below w.heap.size w wr
theorem DigM.grow {w wr w2 w3 : World} {v v' v2 : Value} {xs : List Int} {l m : List Nat} (h : DigM w wr v xs v' l) (hb : Below wr.heap.size wr w2) (hg : w2.grownBy w3 v'.ownBlock)
    (ho : w3.ownsRow w.heap.size 3 1 v2 (natInts l ++ natInts m).length (intVals (natInts l ++ natInts m))) (hx : BytesIn w v xs) : DigM w w3 v xs v2 (l ++ m) := by
  have h1 := (h.below.trans (hb.mono h.below.size)).grown hg (Nat.le_trans h.below.size hb.size) (fun k hk => (h.row.lt k hk).1)
  exact ⟨hx.below h1, by rw [natInts_append]; exact ho, h1⟩
set_option maxHeartbeats 2000000 in
theorem wdigits_ok (v : Value) (xs : List Int) (w : World) (hx : BytesIn w v xs) (hb : bytesOk xs) (h1 : 1 ≤ xs.length) (h2 : xs.length ≤ 32) :
    Calls Tryd.prog 17 #[v] w fun e w' => ∃ v', e = .returned v' ∧ w'.ownsRow w.heap.size 3 1 v' (natInts (digF xs)).length (intVals (natInts (digF xs))) ∧ Below w.heap.size w w' := by
  have HX := Lib.hid hx
  have HB := Lib.hid hb
  have HL := Lib.hid (And.intro h1 h2)
  have hxx := hx
  obtain ⟨a, cap, rfl, hc, hm, hcell⟩ := hx
  rcases hcell with rfl | ⟨ab, ao, rfl, hcell⟩
  · simp at h1
  have HCE := Lib.hid hcell
  obtain ⟨n, hn⟩ : ∃ n, n = xs.length := ⟨_, rfl⟩
  rw [← hn] at HX hxx h1 h2 hc hm HL ⊢
  have HN := Lib.hid hn
  clear hcell hb hxx hc hm hn
  obtain ⟨iI, hI, hI0, hI1, hI2⟩ := info_parts infoInt
  have HI := Lib.hid (And.intro hI (And.intro hI0 (And.intro hI1 hI2)))
  clear hI hI0 hI1 hI2
  have hln : (2 * (n : Int) + 3) = ((2 * n + 3 : Nat) : Int) := by omega
  have HLN := Lib.hid hln
  clear hln
  have hn0 : ¬ (2 * (n : Int) + 3 = 0) := by omega
  go_enter Tryd.func17, Tryd.ntmps17
  go_wp2_with (first
    | (go_at_call 19; (with_reducible refine (wlen_ok n _ HL.out.1 HL.out.2).mono ?_); rintro e w' ⟨rfl, rfl⟩)
    | (refine wpList_make_own w rfl (.const (.int .i64 0)) (.tmp 15) 42 rfl w.heap.size 3 iI (.int .i64 0) 1 Tryd.underlying42 HI.out.1 HI.out.2.1 HI.out.2.2.1 .i64 .i64 _ (2 * n + 3) rfl rfl HLN.out (by rw [HI.out.2.2.2]; have := HL.out; omega) (by unfold maxLen; have := HL.out; omega) (Nat.le_refl _) ?_; intro w1 ho hg; have M : Hid (DigM w w1 (.slice (some ⟨ab, ao, none⟩) n cap) xs (.slice (some ⟨w.heap.size, 0, none⟩) 0 (2 * n + 3)) []) := Lib.hid ⟨HX.out.below ((Below.refl _ _).grown hg (Nat.le_refl _) (fun k hk => by cases hk)), ho, (Below.refl _ _).grown hg (Nat.le_refl _) (fun k hk => by cases hk)⟩; clear ho hg))
  go_loopw [3, 19] (fun s i wr => ∃ k : Nat, k ≤ n ∧ i = .int .i64 (k : Int) ∧ Hid (DigM w wr (.slice (some ⟨ab, ao, none⟩) n cap) xs s (digs (xs.take k)))) (fun _ i _ => n - (intOf i).toNat)
  case atStart => exact ⟨0, Nat.zero_le _, rfl, M⟩
  case round =>
    clear M w1
    obtain ⟨k, hk, rfl, M⟩ := hrel
    by_cases hlt : k < n
    · obtain ⟨x, hx⟩ : ∃ x, xs[k]? = some x := ⟨_, List.getElem?_eq_getElem (by rw [← HN.out]; exact hlt)⟩
      have hxb := HB.out x (List.mem_of_getElem? hx)
      obtain ⟨m, rfl⟩ : ∃ m : Nat, x = (m : Int) := ⟨x.toNat, by omega⟩
      have hm : m < 1024 := by omega
      have HD := Lib.hid (digs_snoc xs k _ hx)
      have c0 := M.out.below.cell (p := ⟨ab, ao + k, none⟩) (World.block_lt_of_cell? w _ (HCE.out k _ hx))
      rw [HCE.out k _ hx] at c0
      replace hx := Lib.hid hx
      have HA := Lib.hid (below_alloc wr (.cells (intVals (natInts [m / 16, m % 16])).toArray 3))
      have HY := Lib.hid (lits_in wr (natInts [m / 16, m % 16]) (by simp [natInts, maxLen]))
      have HLN2 := Lib.hid (show (natInts (digs (xs.take k))).length ≤ 64 by rw [natInts_length, digs_length, List.length_take]; have := HL.out; omega)
      go_wp2_with (first
        | (go_at_call 37; (with_reducible refine (wup_any m _ (by omega)).mono ?_); rintro e w' ⟨rfl, rfl⟩)
        | (go_at_call 38; (with_reducible refine (wlow_any m _ (by omega)).mono ?_); rintro e w' ⟨rfl, rfl⟩)
        | (at_builtin; refine wpList_append_ints rfl (.tmp 23) (.tmp 30) rfl rfl w.heap.size _ _ rfl (kept_below M.out.row HA.out) _ (natInts [m / 16, m % 16]) rfl HY.out (by simp [natInts]) (by rw [natInts_length [m / 16, m % 16]]; have := HLN2.out; simp; omega) (Nat.le_trans M.out.below.size HA.out.size) ?_; intro v2 w3 ho hg; have M2 := Lib.hid (M.out.grow HA.out hg ho HX.out); clear ho hg))
      go_roundw
      case rel => exact ⟨k + 1, by omega, by go_num, by rw [HD.out]; exact M2⟩
      case measure => simp [intOf]; omega
    · have hkn : k = n := by omega
      obtain ⟨s, rfl⟩ : ∃ s, s = u3 := ⟨_, rfl⟩
      have HD := Lib.hid (show xs.take k = xs by rw [hkn, HN.out, List.take_length])
      rw [HD.out] at M
      replace hkn := Lib.hid hkn
      clear HD
      obtain ⟨L, hL⟩ : ∃ L, L = digs xs := ⟨_, rfl⟩
      have HLL := Lib.hid (show L.length = 2 * n by rw [hL, digs_length, HN.out])
      have HLE := Lib.hid (show ∀ d ∈ L, d ≤ 15 by rw [hL]; exact digs_le HB.out)
      have HLS := Lib.hid (show lacks L ≤ 960 by rw [hL]; exact lacks_bound (by have := HL.out; have := HN.out; omega))
      have HDF := Lib.hid (show digF xs = L ++ [lacks L / 256, lacks L / 16 % 16, lacks L % 16] by rw [hL]; rfl)
      rw [← hL] at M
      replace hL := Lib.hid hL
      have hi := owns_ints M.out.row (by rw [natInts_length]; unfold maxLen; have := HLL.out; have := HL.out; omega)
      obtain ⟨a2, cap2, rfl, hc2, hm2, hcell⟩ := hi
      rcases hcell with h0 | ⟨gb, go, rfl, hcell⟩
      · exfalso; have h3 := natInts_length L; rw [h0] at h3; have := HLL.out; simp at h3; omega
      have HC2 := Lib.hid hcell
      obtain ⟨N, hN⟩ : ∃ N, N = (natInts L).length := ⟨_, rfl⟩
      have HN2 := Lib.hid (show N = L.length by rw [hN, natInts_length])
      rw [← hN] at M hc2 hm2 ⊢
      have HN3 := Lib.hid hN
      clear hcell hN hc2 hm2
      have hN64 : N ≤ 64 := by have := HN2.out; have := HLL.out; have := HL.out; omega
      go_wp2_with (fail)
      go_loop [6, 35] (fun s i => ∃ k : Nat, k ≤ N ∧ i = .int .i64 (k : Int) ∧ s = .int .i64 ((lacks (L.take k) : Nat) : Int)) (fun _ i => N - (intOf i).toNat)
      case atStart => exact ⟨0, Nat.zero_le _, rfl, rfl⟩
      case round =>
        clear hk hlt
        obtain ⟨k2, hk2, rfl, rfl⟩ := hrel
        by_cases hlt2 : k2 < N
        · obtain ⟨d, hd⟩ : ∃ d, L[k2]? = some d := ⟨_, List.getElem?_eq_getElem (by rw [← HN2.out]; exact hlt2)⟩
          have hd15 := HLE.out d (List.mem_of_getElem? hd)
          have HS := Lib.hid (lacks_snoc L k2 d hd)
          have hb2 : lacks (L.take k2) ≤ 960 := by
            have := lacks_le (L.take k2)
            rw [List.length_take] at this
            omega
          have c0 := HC2.out k2 (d : Int) (by simp [natInts, hd])
          replace hd := Lib.hid hd
          obtain ⟨S, hS⟩ : ∃ S, S = lacks (L.take k2) := ⟨_, rfl⟩
          rw [← hS] at HS hb2 ⊢
          replace hS := Lib.hid hS
          go_wp2_with (fail)
          go_round
          case rel => exact ⟨k2 + 1, by omega, by go_num, by rw [HS.out]; congr 1; omega⟩
          case measure => simp [intOf]; omega
        · have HE := Lib.hid (show L.take k2 = L by rw [show k2 = L.length by have := HN2.out; omega, List.take_length])
          rw [HE.out]
          clear HE
          obtain ⟨S, hS⟩ : ∃ S, S = lacks L := ⟨_, rfl⟩
          rw [← hS] at HLS HDF ⊢
          replace hS := Lib.hid hS
          have hs9 := HLS.out
          have hs1 : S < 1024 := by omega
          have hs2 : S / 16 < 1024 := by omega
          have HA := Lib.hid (below_alloc wr (.cells (intVals (natInts [S / 256, S / 16 % 16, S % 16])).toArray 3))
          have HY := Lib.hid (lits_in wr (natInts [S / 256, S / 16 % 16, S % 16]) (by simp [natInts, maxLen]))
          have H256 := Lib.hid (show S / 16 / 16 = S / 256 by omega)
          clear hs9
          go_wp2_with (first
            | (go_at_call 37; (with_reducible refine (wup_any S _ hs1).mono ?_); rintro e w' ⟨rfl, rfl⟩)
            | (go_at_call 37; (refine (wup_any (S / 16) _ hs2).mono ?_); rintro e w' ⟨rfl, rfl⟩; rw [H256.out])
            | (go_at_call 38; (with_reducible refine (wlow_any S _ hs1).mono ?_); rintro e w' ⟨rfl, rfl⟩)
            | (go_at_call 38; (refine (wlow_any (S / 16) _ hs2).mono ?_); rintro e w' ⟨rfl, rfl⟩)
            | (at_builtin; refine wpList_append_ints rfl (.tmp 44) (.tmp 53) rfl rfl w.heap.size _ (natInts L) rfl (kept_below (HN3.out ▸ M.out.row) HA.out) _ (natInts [S / 256, S / 16 % 16, S % 16]) rfl HY.out (by simp [natInts]) (by rw [natInts_length, natInts_length]; have := HN2.out; simp; omega) (Nat.le_trans M.out.below.size HA.out.size) ?_; intro v2 w3 ho hg; have M2 := Lib.hid (M.out.grow HA.out hg ho HX.out); clear ho hg))
          go_ret
          refine ⟨_, rfl, ?_, M2.out.below⟩
          rw [HDF.out]
          exact M2.out.row
end Go.Proofs.YtlgjeledcnhmnaaDoor
