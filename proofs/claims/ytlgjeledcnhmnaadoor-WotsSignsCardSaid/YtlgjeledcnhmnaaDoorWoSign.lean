/- wots.Digits of what is no digest; wots.Sign. -/
import Derived.Test.YtlgjeledcnhmnaaDoorWoPub
namespace Go.Proofs.YtlgjeledcnhmnaaDoor
open Go.RowKit
set_option maxRecDepth 100000
theorem wdigits_no (a : Option Addr) (n cap : Nat) (w : World) (h : n < 1 ∨ 32 < n) :
    Calls Tryd.prog 17 #[.slice a n cap] w fun e w' => e = .returned (.slice none 0 0) ∧ w = w' := by
  have hn : (n : Int) < 1 ∨ 32 < (n : Int) := by omega
  replace hn := Lib.hid hn
  clear h
  go_enter Tryd.func17, Tryd.ntmps17
  go_wp2_with (go_at_call 19; (with_reducible refine (wlen_no (n : Int) _ hn.out).mono ?_); rintro e w' ⟨rfl, rfl⟩)
  go_ret
  exact ⟨rfl, rfl⟩
theorem ownsRow_lower {w : World} {B B' n : Nat} {e : TypeId} {s : Nat} {v : Value} {vs : List Value} (h : w.ownsRow B e s v n vs) (hB : B' ≤ B) : w.ownsRow B' e s v n vs := by
  refine ⟨h.1, ?_⟩
  rcases h.2 with hn | ⟨g, cap, cur, h1, hb, rest⟩
  · exact .inl hn
  · exact .inr ⟨g, cap, cur, h1, Nat.le_trans hB hb, rest⟩
def noB : Value := .tuple #[.slice none 0 0, errV (some 1)]
set_option maxHeartbeats 1000000 in
theorem wsign_no (seed : Nat → Int) (leaf : Int) (a : Option Addr) (n cap : Nat) (w : World) (h : ¬ (0 ≤ leaf ∧ leaf < 1024 ∧ 1 ≤ n ∧ n ≤ 32)) :
    Calls Tryd.prog 13 #[.agg (rowOf .u8 32 seed), .int .i64 leaf, .slice a n cap] w fun e w' => e = .returned noB ∧ Below w.heap.size w w' := by
  unfold noB
  have HB := Lib.hid (below_alloc w (.cells (rowOf .u8 32 seed) 23))
  by_cases hl : 0 ≤ leaf ∧ leaf < 1024
  · have hn : (n : Int) < 1 ∨ 32 < (n : Int) := by omega
    replace hl := Lib.hid hl
    replace hn := Lib.hid hn
    clear h
    go_enter Tryd.func13, Tryd.ntmps13
    go_wp2_with (first
      | (go_at_call 29; (with_reducible refine (wleaf_ok leaf _ hl.out.1 hl.out.2).mono ?_); rintro e w' ⟨rfl, rfl⟩)
      | (go_at_call 19; (with_reducible refine (wlen_no n _ hn.out).mono ?_); rintro e w' ⟨rfl, rfl⟩))
    go_ret2
    exact ⟨rfl, HB.out⟩
  · have hl' : leaf < 0 ∨ 1024 ≤ leaf := by omega
    replace hl := Lib.hid hl'
    clear h hl'
    go_enter Tryd.func13, Tryd.ntmps13
    go_wp2_with (go_at_call 29; (with_reducible refine (wleaf_no leaf _ hl.out).mono ?_); rintro e w' ⟨rfl, rfl⟩)
    go_ret2
    exact ⟨rfl, HB.out⟩
theorem HasR.mark {w w' : World} {B : Nat} {rows : List (Nat × (Nat → Int))} (m : HasR w w' B rows) : HasR w' w' w'.heap.size rows :=
  ⟨Below.refl _ _, fun p hp => ⟨(m.row p hp).1, (m.row p hp).1.lt⟩, m.env, Nat.le_refl _, m.env.lt, Nat.le_refl _⟩
theorem nat_get (L : List Nat) (k d : Nat) (h : L[k]? = some d) : (natInts L)[k]? = some (d : Int) := by simp [natInts, h]
set_option maxHeartbeats 2000000 in
theorem wsign_ok (seed : Nat → Int) (leaf : Int) (v : Value) (xs : List Int) (w : World) (he : Env w) (h : 0 ≤ leaf ∧ leaf < 1024) (hx : BytesIn w v xs) (hb : bytesOk xs) (hn : 1 ≤ xs.length ∧ xs.length ≤ 32) :
    Calls Tryd.prog 13 #[.agg (rowOf .u8 32 seed), .int .i64 leaf, v] w fun e w' => ∃ v', e = .returned (.tuple #[v', errV none]) ∧ w'.ownsRow w.heap.size 5 1 v' (signF seed leaf xs).length (byteVals (signF seed leaf xs)) ∧ Below w.heap.size w w' := by
  have M := Lib.hid (hasR1 w seed he)
  have HX := Lib.hid (hx.below (below_alloc w (.cells (rowOf .u8 32 seed) 23)))
  have hl := Lib.hid h
  have HN := Lib.hid hn
  have HBO := Lib.hid hb
  obtain ⟨a, cap, rfl, -, -, -⟩ := hx
  obtain ⟨n, hnn⟩ : ∃ n, n = xs.length := ⟨_, rfl⟩
  rw [← hnn] at HN HX hn ⊢
  replace hnn := Lib.hid hnn
  have hn0 : ¬ (2 * (n : Int) + 3 = 0) := by omega
  clear he h hn hb
  go_enter Tryd.func13, Tryd.ntmps13
  go_upto_region 1 with (fail)
  generalize w.alloc (.cells (rowOf .u8 32 seed) 23) = w1 at *
  go_upto_region 4 with (first
    | (go_at_call 29; (with_reducible refine (wleaf_ok leaf _ hl.out.1 hl.out.2).mono ?_); rintro e w' ⟨rfl, rfl⟩)
    | (go_at_call 19; (with_reducible refine (wlen_ok n _ HN.out.1 HN.out.2).mono ?_); rintro e w' ⟨rfl, rfl⟩))
  go_wp2_with (go_at_call 17; (with_reducible refine (wdigits_ok _ xs _ HX.out HBO.out (by rw [← hnn.out]; exact HN.out.1) (by rw [← hnn.out]; exact HN.out.2)).mono ?_); rintro e w2 ⟨vd, rfl, ho, hb2⟩; obtain ⟨ad, cd, rfl, -, -, hcell⟩ := owns_ints ho (by rw [natInts_length, digF_length, ← hnn.out]; unfold maxLen; have := HN.out; omega); have HC := Lib.hid hcell; replace M := Lib.hid (M.out.call hb2); have H0 := Lib.hid M.out.below; replace M := Lib.hid M.out.mark; have R := Lib.hid (World.ownsRow_nil w2 w2.heap.size 5 1); clear hcell ho hb2)
  obtain ⟨L, hL⟩ : ∃ L, L = digF xs := ⟨_, rfl⟩
  have HL := Lib.hid hL
  have HLE := Lib.hid (show ∀ d ∈ L, d ≤ 15 by rw [hL]; exact digF_le HBO.out (by rw [← hnn.out]; exact HN.out.2))
  rw [← hL] at HC ⊢
  obtain ⟨N, hN⟩ : ∃ N, N = (natInts L).length := ⟨_, rfl⟩
  have HNL := Lib.hid (show L.length = N by rw [hN, natInts_length])
  have HN3 := Lib.hid (show N = 2 * n + 3 by rw [← HNL.out, HL.out, digF_length, ← hnn.out])
  rw [← hN]
  clear hL hN
  have hN67 : N ≤ 67 := by have := HN3.out; have := HN.out; omega
  replace HC := HC.out
  rcases HC with h0 | ⟨gb, go, rfl, hcell⟩
  · exfalso
    have h1 := natInts_length L
    rw [h0] at h1
    have h2 := HNL.out
    have h3 := HN3.out
    simp at h1
    omega
  have HC := Lib.hid hcell
  clear hcell
  go_loopw [8, 25] (fun s i wr => ∃ k : Nat, k ≤ N ∧ i = .int .i64 (k : Int) ∧ Hid (HasR w2 wr w2.heap.size [(w.heap.size, seed)]) ∧ Hid (wr.ownsRow w2.heap.size 5 1 s (chainsF seed leaf 0 (L.take k)).length (byteVals (chainsF seed leaf 0 (L.take k))))) (fun _ i _ => N - (intOf i).toNat)
  case atStart => exact ⟨0, Nat.zero_le _, rfl, M, by rw [List.take_zero]; exact R⟩
  case round =>
    clear M R
    obtain ⟨k, hk, rfl, M, R⟩ := hrel
    by_cases hlt : k < N
    · obtain ⟨d, hd⟩ : ∃ d, L[k]? = some d := ⟨_, List.getElem?_eq_getElem (by rw [HNL.out]; exact hlt)⟩
      have hd15 := HLE.out d (List.mem_of_getElem? hd)
      have HCS := Lib.hid (chainsF_snoc seed leaf L k d hd)
      have HLN := Lib.hid (show (chainsF seed leaf 0 (L.take k)).length ≤ 32 * 67 by rw [chainsF_length, List.length_take]; omega)
      have h0 := HC.out k (d : Int) (nat_get L k d hd)
      have c0 := M.out.below.cell (p := ⟨gb, go + k, none⟩) (World.block_lt_of_cell? w2 _ h0)
      rw [h0] at c0
      clear h0
      replace hd := Lib.hid hd
      obtain ⟨l, hl2⟩ : ∃ l, l = chainsF seed leaf 0 (L.take k) := ⟨_, rfl⟩
      rw [← hl2] at HCS HLN R
      replace hl2 := Lib.hid hl2
      go_wp2_with (first
        | (refine wpList_load_row rfl 23 (.tmp 3) rfl w.heap.size rfl 23 _ (0, 0) _ M.out.at0 Tryd.underlying23 rfl (by rw [rowOf_size]; kernel_rfl) ?_)
        | (go_at_call 30; (with_reducible refine (wstart_any seed leaf (k : Int) _ M.out.env).mono ?_); rintro e w3 ⟨rfl, HB2⟩; replace R := Lib.hid (kept_below R.out HB2); replace M := Lib.hid (M.out.call HB2); clear HB2)
        | (go_at_call 23; (with_reducible refine (wstep_any (startF seed leaf (k : Int)) leaf (k : Int) 0 (d : Int) _ M.out.env).mono ?_); rintro e w4 ⟨rfl, HB3⟩; replace R := Lib.hid (kept_below R.out HB3); replace M := Lib.hid (M.out.call HB3); clear HB3)
        | (refine wpList_store_row rfl 23 (.tmp 11) (.tmp 37) rfl w4.heap.size (rowOf .u8 32 (stepF (startF seed leaf (k : Int)) leaf (k : Int) 0 (d : Int))) rfl rfl 23 _ (heap_alloc_new _ _) (by rw [rowOf_size]; kernel_rfl) rfl (rowOf_one _ _ _) ?_; rw [World.setRow_alloc_new]; have HR := Lib.hid (RowAt.new w4 .u8 32 23 (stepF (startF seed leaf (k : Int)) leaf (k : Int) 0 (d : Int))); have HA := Lib.hid (below_alloc w4 (.cells (rowOf .u8 32 (stepF (startF seed leaf (k : Int)) leaf (k : Int) 0 (d : Int))) 23)); replace R := Lib.hid (kept_below R.out HA.out); replace M := Lib.hid (M.out.call HA.out); clear HA; generalize w4.alloc (.cells (rowOf .u8 32 (stepF (startF seed leaf (k : Int)) leaf (k : Int) 0 (d : Int))) 23) = w5 at *)
        | (at_builtin; refine wpList_append_bytes rfl (.tmp 38) (.tmp 39) rfl rfl w2.heap.size _ l.length (byteVals l) rfl R.out _ (rowL 32 (stepF (startF seed leaf (k : Int)) leaf (k : Int) 0 (d : Int))) rfl (row_in HR.out (Nat.le_refl _) (Nat.le_refl _) (by simp [maxLen])) (by have := HLN.out; rw [rowL32]; omega) M.out.size ?_; intro v6 w6 ho hg _; replace M := Lib.hid (M.out.grown hg R.out); replace R := Lib.hid ho; clear ho hg))
      go_roundw
      case rel =>
        refine ⟨k + 1, by omega, by go_num, M, ?_⟩
        rw [HCS.out, List.length_append, byteVals_append]
        exact R
      case measure => simp [intOf]; omega
    · have HE := Lib.hid (show L.take k = L by rw [show k = L.length by rw [HNL.out]; omega, List.take_length])
      rw [HE.out, HL.out] at R
      clear HE
      go_wp2_with (fail)
      go_ret2
      exact ⟨_, rfl, ownsRow_lower R.out H0.out.size, H0.out.trans (M.out.below.mono H0.out.size)⟩
end Go.Proofs.YtlgjeledcnhmnaaDoor
