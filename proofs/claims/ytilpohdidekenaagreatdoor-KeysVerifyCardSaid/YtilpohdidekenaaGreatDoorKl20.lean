/- Part 20 of the proof. -/
import Derived.Laws.ResultCell
import Derived.Shelf.Small.Bits
import Derived.Shelf.Small.Strs
import Derived.Shelf.Strconv.Itoa0
import Derived.Shelf.Strings.Search1
import Derived.Test.YtilpohdidekenaaGreatDoorProg
import Derived.Test.YtilpohdidekenaaGreatDoorKl1
import Derived.Test.YtilpohdidekenaaGreatDoorKl13
import Derived.Test.YtilpohdidekenaaGreatDoorKl18
import Derived.Test.YtilpohdidekenaaGreatDoorKl19
namespace Go.Proofs.YtilpohdidekenaaGreatDoor
set_option linter.unusedVariables false
set_option linter.unusedSimpArgs false
open Go.RowKit
set_option maxRecDepth 100000
def natInts (l : List Nat) : List Int := l.map fun d : Nat => (d : Int)
theorem natInts_length (l : List Nat) : (natInts l).length = l.length := by simp [natInts]
theorem natInts_append (a b : List Nat) : natInts (a ++ b) = natInts a ++ natInts b := by simp [natInts]
theorem digs_snoc (xs : List Int) (k : Nat) (x : Int) (h : xs[k]? = some x) : digs (xs.take (k + 1)) = digs (xs.take k) ++ [x.toNat / 16, x.toNat % 16] := by
  rw [List.take_add_one, h, Option.toList_some, digs_append]
  rfl
theorem lacks_snoc (l : List Nat) (k d : Nat) (h : l[k]? = some d) : lacks (l.take (k + 1)) = lacks (l.take k) + (15 - d) := by
  rw [List.take_add_one, h, Option.toList_some, lacks_append]
  simp [lacks]
theorem wkept_below {w w' : World} {B n : Nat} {e : TypeId} {v : Value} {vs : List Value} (h : w.ownsRow B e 1 v n vs) (hb : Below w.heap.size w w') : w'.ownsRow B e 1 v n vs := by
  refine h.kept (row := none) ⟨hb.os, hb.tape, hb.output, hb.size, fun k hk _ => hb.block k hk⟩ ?_
  cases v.ownBlock <;> simp
structure DigM (w wr : World) (v : Value) (xs : List Int) (v' : Value) (l : List Nat) : Prop where
  arg : BytesIn wr v xs
  row : wr.ownsRow w.heap.size 3 1 v' (natInts l).length (intVals (natInts l))
  below : Below w.heap.size w wr
theorem DigM.grow {w wr w2 w3 : World} {v v' v2 : Value} {xs : List Int} {l m : List Nat} (h : DigM w wr v xs v' l) (hb : Below wr.heap.size wr w2) (hg : w2.grownBy w3 v'.ownBlock)
    (ho : w3.ownsRow w.heap.size 3 1 v2 (natInts l ++ natInts m).length (intVals (natInts l ++ natInts m))) (hx : BytesIn w v xs) : DigM w w3 v xs v2 (l ++ m) := by
  have h1 := (h.below.trans (hb.mono h.below.size)).grown hg (Nat.le_trans h.below.size hb.size) (fun k hk => (h.row.lt k hk).1)
  exact ⟨hx.below h1, by rw [natInts_append]; exact ho, h1⟩
set_option maxHeartbeats 2000000 in
theorem wdigits_ok (v : Value) (xs : List Int) (w : World) (hx : BytesIn w v xs) (hb : bytesOk xs) (h1 : 1 ≤ xs.length) (h2 : xs.length ≤ 32) :
    Calls Tryz.prog 115 #[v] w fun e w' => ∃ v', e = .returned v' ∧ w'.ownsRow w.heap.size 3 1 v' (natInts (digF xs)).length (intVals (natInts (digF xs))) ∧ Below w.heap.size w w' := by
  have HX := Lib.hid hx
  have HB := Lib.hid hb
  have HL := Lib.hid (And.intro h1 h2)
  have hxx := hx
  obtain ⟨a, cap, rfl, hc, hm, hcell⟩ := hx
  rcases hcell with rfl | ⟨ab, ao, rfl, hcell⟩
  · simp at h1
  have HCE := Lib.hid hcell
  obtain ⟨n, hn⟩ : ∃ n, n = xs.length := ⟨_, rfl⟩
  rw [← hn] at HX hxx h1 h2 hc hm HL ⊢
  have HN := Lib.hid hn
  clear hcell hb hxx hc hm hn
  obtain ⟨iI, hI, hI0, hI1, hI2⟩ := info_parts infoInt
  have HI := Lib.hid (And.intro hI (And.intro hI0 (And.intro hI1 hI2)))
  clear hI hI0 hI1 hI2
  have hln : (2 * (n : Int) + 3) = ((2 * n + 3 : Nat) : Int) := by omega
  have HLN := Lib.hid hln
  clear hln
  have hn0 : ¬ (2 * (n : Int) + 3 = 0) := by omega
  go_enter Tryz.func115, Tryz.ntmps115
  go_wp2_with (first
    | (go_at_call 98; (with_reducible refine (wlen_ok n _ HL.out.1 HL.out.2).mono ?_); rintro e w' ⟨rfl, rfl⟩)
    | (refine wpList_make_own w rfl (.const (.int .i64 0)) (.tmp 15) 58 rfl w.heap.size 3 iI (.int .i64 0) 1 Tryz.underlying58 HI.out.1 HI.out.2.1 HI.out.2.2.1 .i64 .i64 _ (2 * n + 3) rfl rfl HLN.out (by rw [HI.out.2.2.2]; have := HL.out; omega) (by unfold maxLen; have := HL.out; omega) (Nat.le_refl _) ?_; intro w1 ho hg; have M : Hid (DigM w w1 (.slice (some ⟨ab, ao, none⟩) n cap) xs (.slice (some ⟨w.heap.size, 0, none⟩) 0 (2 * n + 3)) []) := Lib.hid ⟨HX.out.below ((Below.refl _ _).grown hg (Nat.le_refl _) (fun k hk => by cases hk)), ho, (Below.refl _ _).grown hg (Nat.le_refl _) (fun k hk => by cases hk)⟩; clear ho hg))
  go_loopw [3, 19] (fun s i wr => ∃ k : Nat, k ≤ n ∧ i = .int .i64 (k : Int) ∧ Hid (DigM w wr (.slice (some ⟨ab, ao, none⟩) n cap) xs s (digs (xs.take k)))) (fun _ i _ => n - (intOf i).toNat)
  case atStart => exact ⟨0, Nat.zero_le _, rfl, M⟩
  case round =>
    clear M w1
    obtain ⟨k, hk, rfl, M⟩ := hrel
    by_cases hlt : k < n
    · obtain ⟨x, hx⟩ : ∃ x, xs[k]? = some x := ⟨_, List.getElem?_eq_getElem (by rw [← HN.out]; exact hlt)⟩
      have hxb := HB.out x (List.mem_of_getElem? hx)
      obtain ⟨m, rfl⟩ : ∃ m : Nat, x = (m : Int) := ⟨x.toNat, by omega⟩
      have hm : m < 1024 := by omega
      have HD := Lib.hid (digs_snoc xs k _ hx)
      have c0 := M.out.below.cell (p := ⟨ab, ao + k, none⟩) (World.block_lt_of_cell? w _ (HCE.out k _ hx))
      rw [HCE.out k _ hx] at c0
      replace hx := Lib.hid hx
      have HA := Lib.hid (below_alloc wr (.cells (intVals (natInts [m / 16, m % 16])).toArray 3))
      have HY := Lib.hid (lits_in wr (natInts [m / 16, m % 16]) (by simp [natInts, maxLen]))
      have HLN2 := Lib.hid (show (natInts (digs (xs.take k))).length ≤ 64 by rw [natInts_length, digs_length, List.length_take]; have := HL.out; omega)
      go_wp2_with (first
        | (go_at_call 140; (with_reducible refine (wup_any m _ (by omega)).mono ?_); rintro e w' ⟨rfl, rfl⟩)
        | (go_at_call 141; (with_reducible refine (wlow_any m _ (by omega)).mono ?_); rintro e w' ⟨rfl, rfl⟩)
        | (at_builtin; refine wpList_append_ints rfl (.tmp 23) (.tmp 30) rfl rfl w.heap.size _ _ rfl (wkept_below M.out.row HA.out) _ (natInts [m / 16, m % 16]) rfl HY.out (by simp [natInts]) (by rw [natInts_length [m / 16, m % 16]]; have := HLN2.out; simp; omega) (Nat.le_trans M.out.below.size HA.out.size) ?_; intro v2 w3 ho hg; have M2 := Lib.hid (M.out.grow HA.out hg ho HX.out); clear ho hg))
      go_roundw
      case rel => exact ⟨k + 1, by omega, by go_num, by rw [HD.out]; exact M2⟩
      case measure => simp [intOf]; omega
    · have hkn : k = n := by omega
      obtain ⟨s, rfl⟩ : ∃ s, s = u3 := ⟨_, rfl⟩
      have HD := Lib.hid (show xs.take k = xs by rw [hkn, HN.out, List.take_length])
      rw [HD.out] at M
      replace hkn := Lib.hid hkn
      clear HD
      obtain ⟨L, hL⟩ : ∃ L, L = digs xs := ⟨_, rfl⟩
      have HLL := Lib.hid (show L.length = 2 * n by rw [hL, digs_length, HN.out])
      have HLE := Lib.hid (show ∀ d ∈ L, d ≤ 15 by rw [hL]; exact digs_le HB.out)
      have HLS := Lib.hid (show lacks L ≤ 960 by rw [hL]; exact lacks_bound (by have := HL.out; have := HN.out; omega))
      have HDF := Lib.hid (show digF xs = L ++ [lacks L / 256, lacks L / 16 % 16, lacks L % 16] by rw [hL]; rfl)
      rw [← hL] at M
      replace hL := Lib.hid hL
      have hi := owns_ints M.out.row (by rw [natInts_length]; unfold maxLen; have := HLL.out; have := HL.out; omega)
      obtain ⟨a2, cap2, rfl, hc2, hm2, hcell⟩ := hi
      rcases hcell with h0 | ⟨gb, go, rfl, hcell⟩
      · exfalso; have h3 := natInts_length L; rw [h0] at h3; have := HLL.out; simp at h3; omega
      have HC2 := Lib.hid hcell
      obtain ⟨N, hN⟩ : ∃ N, N = (natInts L).length := ⟨_, rfl⟩
      have HN2 := Lib.hid (show N = L.length by rw [hN, natInts_length])
      rw [← hN] at M hc2 hm2 ⊢
      have HN3 := Lib.hid hN
      clear hcell hN hc2 hm2
      have hN64 : N ≤ 64 := by have := HN2.out; have := HLL.out; have := HL.out; omega
      go_wp2_with (fail)
      go_loop [6, 35] (fun s i => ∃ k : Nat, k ≤ N ∧ i = .int .i64 (k : Int) ∧ s = .int .i64 ((lacks (L.take k) : Nat) : Int)) (fun _ i => N - (intOf i).toNat)
      case atStart => exact ⟨0, Nat.zero_le _, rfl, rfl⟩
      case round =>
        clear hk hlt
        obtain ⟨k2, hk2, rfl, rfl⟩ := hrel
        by_cases hlt2 : k2 < N
        · obtain ⟨d, hd⟩ : ∃ d, L[k2]? = some d := ⟨_, List.getElem?_eq_getElem (by rw [← HN2.out]; exact hlt2)⟩
          have hd15 := HLE.out d (List.mem_of_getElem? hd)
          have HS := Lib.hid (lacks_snoc L k2 d hd)
          have hb2 : lacks (L.take k2) ≤ 960 := by
            have := lacks_le (L.take k2)
            rw [List.length_take] at this
            omega
          have c0 := HC2.out k2 (d : Int) (by simp [natInts, hd])
          replace hd := Lib.hid hd
          obtain ⟨S, hS⟩ : ∃ S, S = lacks (L.take k2) := ⟨_, rfl⟩
          rw [← hS] at HS hb2 ⊢
          replace hS := Lib.hid hS
          go_wp2_with (fail)
          go_round
          case rel => exact ⟨k2 + 1, by omega, by go_num, by rw [HS.out]; congr 1; omega⟩
          case measure => simp [intOf]; omega
        · have HE := Lib.hid (show L.take k2 = L by rw [show k2 = L.length by have := HN2.out; omega, List.take_length])
          rw [HE.out]
          clear HE
          obtain ⟨S, hS⟩ : ∃ S, S = lacks L := ⟨_, rfl⟩
          rw [← hS] at HLS HDF ⊢
          replace hS := Lib.hid hS
          have hs9 := HLS.out
          have hs1 : S < 1024 := by omega
          have hs2 : S / 16 < 1024 := by omega
          have HA := Lib.hid (below_alloc wr (.cells (intVals (natInts [S / 256, S / 16 % 16, S % 16])).toArray 3))
          have HY := Lib.hid (lits_in wr (natInts [S / 256, S / 16 % 16, S % 16]) (by simp [natInts, maxLen]))
          have H256 := Lib.hid (show S / 16 / 16 = S / 256 by omega)
          clear hs9
          go_wp2_with (first
            | (go_at_call 140; (with_reducible refine (wup_any S _ hs1).mono ?_); rintro e w' ⟨rfl, rfl⟩)
            | (go_at_call 140; (refine (wup_any (S / 16) _ hs2).mono ?_); rintro e w' ⟨rfl, rfl⟩; rw [H256.out])
            | (go_at_call 141; (with_reducible refine (wlow_any S _ hs1).mono ?_); rintro e w' ⟨rfl, rfl⟩)
            | (go_at_call 141; (refine (wlow_any (S / 16) _ hs2).mono ?_); rintro e w' ⟨rfl, rfl⟩)
            | (at_builtin; refine wpList_append_ints rfl (.tmp 44) (.tmp 53) rfl rfl w.heap.size _ (natInts L) rfl (wkept_below (HN3.out ▸ M.out.row) HA.out) _ (natInts [S / 256, S / 16 % 16, S % 16]) rfl HY.out (by simp [natInts]) (by rw [natInts_length, natInts_length]; have := HN2.out; simp; omega) (Nat.le_trans M.out.below.size HA.out.size) ?_; intro v2 w3 ho hg; have M2 := Lib.hid (M.out.grow HA.out hg ho HX.out); clear ho hg))
          go_ret
          refine ⟨_, rfl, ?_, M2.out.below⟩
          rw [HDF.out]
          exact M2.out.row
end Go.Proofs.YtilpohdidekenaaGreatDoor
namespace Go.Proofs.YtilpohdidekenaaGreatDoor
set_option linter.unusedVariables false
set_option linter.unusedSimpArgs false
open Go.RowKit
set_option maxRecDepth 100000
structure LeafM (w w' : World) (g : Nat) (h : HS) : Prop where
  re : RowAt w' w.heap.size .u8 32 23 (fun _ => 0)
  hash : HashAt w' g h.s h.b h.n
  gg : w.heap.size < g
  bounds : 0 ≤ h.n ∧ h.n < 18446744073709551616
  below : Below w.heap.size w w'
  env : Env w'
theorem LeafM.wrote {w w' w2 : World} {g : Nat} {h : HS} (m : LeafM w w' g h) {xs : List Int} (hh : HashAt w2 g (putF h xs).s (putF h xs).b (putF h xs).n) (ho : Only g w' w2) (hc : 3 < w.heap.size) : LeafM w w2 g (putF h xs) :=
  ⟨(ho.block _ m.re.lt (by have := m.gg; omega)).trans m.re, hh, m.gg, putF_bounds h m.bounds.1 m.bounds.2 xs, m.below.trans (ho.below (by have := m.gg; omega) m.below.size), ho.env m.env (by have := m.gg; omega)⟩
theorem LeafM.calls {w w' w2 : World} {g : Nat} {h : HS} (m : LeafM w w' g h) (hb : Below w'.heap.size w' w2) : LeafM w w2 g h :=
  ⟨m.re.below hb m.re.lt, m.hash.below hb m.hash.lt, m.gg, m.bounds, m.below.trans (hb.mono m.below.size), m.env.below hb m.env.lt⟩
theorem leaf_start (w : World) (he : Env w) : LeafM w ((w.alloc (.cells (rowOf .u8 32 (fun _ => 0)) 23)).alloc (.cells (hashCells BT (fun _ => 0) 0) 212)) (w.heap.size + 1) h0 := by
  have hb : Below w.heap.size w ((w.alloc (.cells (rowOf .u8 32 (fun _ => 0)) 23)).alloc (.cells (hashCells BT (fun _ => 0) 0) 212)) := (below_alloc w _).trans ((below_alloc _ _).mono (by simp))
  refine ⟨(RowAt.new w _ _ _ _).alloc _, ?_, by omega, by decide, hb, he.below hb he.lt⟩
  have := heap_alloc_new (w.alloc (.cells (rowOf .u8 32 (fun _ => 0)) 23)) (.cells (hashCells BT (fun _ => 0) 0) 212)
  rw [shSize_alloc] at this; exact this
theorem oneAt (w : World) (g : Nat) (hg : g < w.heap.size) (x : Int) : BytesAt (w.alloc (.cells #[.int .u8 x] 5)) g (.slice (some ⟨w.heap.size, 0, none⟩) 1 1) [x] := by
  refine ⟨_, _, rfl, by simp, by simp [maxLen], .inr ⟨_, _, rfl, by omega, fun i y hi => ?_⟩⟩
  rw [Nat.zero_add, cell_of_row _ _ _ _ _ _ (heap_alloc_new w _)]
  match i, hi with
  | 0, hi => cases hi; rfl
theorem BytesAt.below' {w w' : World} {g : Nat} {v : Value} {xs : List Int} (h : BytesAt w g v xs) (hb : Below w.heap.size w w') : BytesAt w' g v xs := by
  obtain ⟨a, cap, rfl, hc, hm, hx⟩ := h
  refine ⟨a, cap, rfl, hc, hm, ?_⟩
  rcases hx with hx | ⟨ab, ao, rfl, hne, hx⟩
  · exact .inl hx
  · exact .inr ⟨ab, ao, rfl, hne, fun i y hi => (hb.cell (p := ⟨ab, ao + i, none⟩) (World.block_lt_of_cell? w _ (hx i y hi))).trans (hx i y hi)⟩
set_option maxHeartbeats 400000 in
theorem leaf_any (v : Value) (xs : List Int) (w : World) (hx : BytesIn w v xs) (he : Env w) :
    Calls Tryz.prog 101 #[v] w fun e w' => e = .returned (.agg (rowOf .u8 32 (sumF (0 :: xs)))) ∧ Below w.heap.size w w' := by
  have M := Lib.hid (leaf_start w he)
  have HE := Lib.hid (he.below (below_alloc w (.cells (rowOf .u8 32 (fun _ => 0)) 23)) he.lt)
  have HC := Lib.hid he.lt
  have HX := Lib.hid (hx.at (g := w.heap.size + 1) M.out.below (Nat.le_refl _) (by omega))
  clear he hx
  go_enter Tryz.func101, Tryz.ntmps101
  go_upto_region 1 with (fail)
  rw [zeros32]
  go_upto_region 2 with (go_at_call 94; (with_reducible refine (shNew_any _ HE.out).mono ?_); rintro e w' ⟨rfl, rfl⟩)
  generalize (w.alloc (.cells (rowOf .u8 32 (fun _ => 0)) 23)).alloc (.cells (hashCells BT (fun _ => 0) 0) 212) = w1 at *
  obtain ⟨g, hg⟩ : ∃ g, g = w.heap.size + 1 := ⟨_, rfl⟩
  rw [← hg] at M HX ⊢
  replace hg := Lib.hid hg
  clear HE
  have M1 := Lib.hid (M.out.calls (below_alloc w1 (.cells #[.int .u8 0] 5)))
  have HO1 := Lib.hid (oneAt w1 g M.out.hash.lt 0)
  have HX1 := Lib.hid (HX.out.below' (below_alloc w1 (.cells #[.int .u8 0] 5)))
  have HG := Lib.hid (show 3 < g from by have := HC.out; have := hg.out; omega)
  go_upto_region 3 with (go_at_call 95; (with_reducible refine (shWrite_any g _ _ _ [0] _ _ M1.out.hash M1.out.bounds.1 M1.out.bounds.2 HO1.out M1.out.env HG.out).mono ?_); rintro e w2 ⟨rfl, HH, HO⟩; replace HH := Lib.hid HH; replace HO := Lib.hid HO)
  have M2 := Lib.hid (M1.out.wrote HH.out HO.out HC.out)
  have HX2 := Lib.hid (HX1.out.only HO.out)
  clear M M1 HX HX1 HH HO HO1
  go_upto_region 4 with (go_at_call 95; (with_reducible refine (shWrite_any g _ _ _ xs v _ M2.out.hash M2.out.bounds.1 M2.out.bounds.2 HX2.out M2.out.env HG.out).mono ?_); rintro e w3 ⟨rfl, HH, HO⟩; replace HH := Lib.hid HH; replace HO := Lib.hid HO)
  have M3 := Lib.hid (M2.out.wrote HH.out HO.out HC.out)
  clear M2 HX2 HH HO
  go_wp2_with (first
    | (go_at_call 96; (with_reducible refine (sumM_any g _ _ _ _ M3.out.hash M3.out.bounds.1 M3.out.bounds.2 M3.out.env.consts).mono ?_); rintro e w5 ⟨rfl, HB5⟩; replace M3 := Lib.hid (M3.out.calls HB5); clear HB5)
    | (refine wpList_store_row rfl 23 (.tmp 2) (.tmp 12) rfl w.heap.size _ rfl rfl 23 _ M3.out.re (by rw [rowOf_size]; kernel_rfl) (by rw [rowOf_size, rowOf_size]) (rowOf_one _ _ _) ?_))
  refine bodyPost_ret (results_cell_row rfl _ _ w.heap.size 23 _ (0, 0) _ rfl (setRow_heap _ _ _ _ _ _ M3.out.re) Tryz.underlying23 rfl (by rw [rowOf_size]; kernel_rfl)) rfl ?_
  exact ⟨by rfl, below_setRow M3.out.below (by omega) _⟩
end Go.Proofs.YtilpohdidekenaaGreatDoor
namespace Go.Proofs.YtilpohdidekenaaGreatDoor
set_option linter.unusedVariables false
set_option linter.unusedSimpArgs false
open Go.RowKit
theorem results_cell_tmp_row {P : Program} {fn : Func} {p u : Tmp} {ty : TypeId} (h : fn.results = #[.cell p ty, .tmp u]) (tmps : Array Value) (w : World) (g : Nat) (t : TypeId) (cs : Array Value) (fr : Nat × Nat) (d : TypeDesc)
    (hp : tmps.getD p undef = .pointer (some ⟨g, 0, none⟩)) (hg : w.heap[g]? = some (.cells cs t fr))
    (hu : P.underlying ty = some d) (hd : (match d with | .struct _ | .array _ _ => true | _ => false) = true) (hi : (P.info? ty).map (·.size) = some cs.size) :
    (results fn tmps).run P w = .ok (.tuple #[.agg cs, tmps.getD u undef]) w := by
  have hp' : tmps[p]?.getD undef = .pointer (some ⟨g, 0, none⟩) := by simpa using hp
  simp [results, h, hp', asAddr, run_loadVar_row w g t ty cs fr d hg hu hd hi]
end Go.Proofs.YtilpohdidekenaaGreatDoor
namespace Go.Proofs.YtilpohdidekenaaGreatDoor
set_option linter.unusedVariables false
set_option linter.unusedSimpArgs false
open Go.RowKit
set_option maxRecDepth 100000
/-- rows of 32 bytes in memory, below the mark B; above it what calls make -/
structure HasR (w w' : World) (B : Nat) (rows : List (Nat × (Nat → Int))) : Prop where
  below : Below w.heap.size w w'
  row : ∀ p ∈ rows, RowAt w' p.1 .u8 32 23 p.2 ∧ p.1 < B
  env : Env w'
  size : B ≤ w'.heap.size
  lo : 3 < B
  wB : w.heap.size ≤ B
theorem HasR.calls {w w' w2 : World} {B : Nat} {rows : List (Nat × (Nat → Int))} (m : HasR w w' B rows) (h : Below B w' w2) : HasR w w2 B rows :=
  ⟨m.below.trans (h.mono m.wB), fun p hp => ⟨(m.row p hp).1.below h (m.row p hp).2, (m.row p hp).2⟩, m.env.below h m.lo, Nat.le_trans m.size h.size, m.lo, m.wB⟩
theorem HasR.call {w w' w2 : World} {B : Nat} {rows : List (Nat × (Nat → Int))} (m : HasR w w' B rows) (h : Below w'.heap.size w' w2) : HasR w w2 B rows := m.calls (h.mono m.size)
theorem HasR.grown {w w' w2 : World} {B n : Nat} {v : Value} {vs : List Value} {rows : List (Nat × (Nat → Int))} (m : HasR w w' B rows) (hg : w'.grownBy w2 v.ownBlock) (ho : w'.ownsRow B 5 1 v n vs) : HasR w w2 B rows :=
  m.calls ((Below.refl _ _).grown hg m.size (fun k hk => (ho.lt k hk).1))
theorem HasR.at0 {w w' : World} {B : Nat} {p : Nat × (Nat → Int)} {rows : List (Nat × (Nat → Int))} (m : HasR w w' B (p :: rows)) : RowAt w' p.1 .u8 32 23 p.2 := (m.row p (by simp)).1
theorem HasR.at1 {w w' : World} {B : Nat} {p q : Nat × (Nat → Int)} {rows : List (Nat × (Nat → Int))} (m : HasR w w' B (q :: p :: rows)) : RowAt w' p.1 .u8 32 23 p.2 := (m.row p (by simp)).1
def zF : Nat → Int := fun _ => 0
theorem zeros32' : (#[Value.int IntKind.u8 0, Value.int IntKind.u8 0, Value.int IntKind.u8 0, Value.int IntKind.u8 0, Value.int IntKind.u8 0, Value.int IntKind.u8 0, Value.int IntKind.u8 0, Value.int IntKind.u8 0, Value.int IntKind.u8 0, Value.int IntKind.u8 0, Value.int IntKind.u8 0, Value.int IntKind.u8 0, Value.int IntKind.u8 0, Value.int IntKind.u8 0, Value.int IntKind.u8 0, Value.int IntKind.u8 0, Value.int IntKind.u8 0, Value.int IntKind.u8 0, Value.int IntKind.u8 0, Value.int IntKind.u8 0, Value.int IntKind.u8 0, Value.int IntKind.u8 0, Value.int IntKind.u8 0, Value.int IntKind.u8 0, Value.int IntKind.u8 0, Value.int IntKind.u8 0, Value.int IntKind.u8 0, Value.int IntKind.u8 0, Value.int IntKind.u8 0, Value.int IntKind.u8 0, Value.int IntKind.u8 0, Value.int IntKind.u8 0] : Array Value) = rowOf .u8 32 zF := by rfl
theorem hasR2 (w : World) (f : Nat → Int) (he : Env w) : HasR w ((w.alloc (.cells (rowOf .u8 32 f) 23)).alloc (.cells (rowOf .u8 32 zF) 23)) (w.heap.size + 1 + 1) [(w.heap.size, f), (w.heap.size + 1, zF)] := by
  have hb : Below w.heap.size w ((w.alloc (.cells (rowOf .u8 32 f) 23)).alloc (.cells (rowOf .u8 32 zF) 23)) := (below_alloc w _).trans ((below_alloc _ _).mono (by simp))
  refine ⟨hb, fun p hp => ?_, he.below hb he.lt, by simp, by have := he.lt; omega, by omega⟩
  simp only [List.mem_cons, List.not_mem_nil, or_false] at hp
  rcases hp with rfl | rfl
  · exact ⟨(RowAt.new w _ _ _ _).alloc _, by simp; omega⟩
  · refine ⟨?_, by simp⟩
    have := RowAt.new (w.alloc (.cells (rowOf .u8 32 f) 23)) .u8 32 23 zF
    rw [shSize_alloc] at this; exact this
theorem hasR1 (w : World) (f : Nat → Int) (he : Env w) : HasR w (w.alloc (.cells (rowOf .u8 32 f) 23)) (w.heap.size + 1) [(w.heap.size, f)] := by
  refine ⟨below_alloc w _, fun p hp => ?_, he.below (below_alloc w _) he.lt, by simp, by have := he.lt; omega, by omega⟩
  simp only [List.mem_cons, List.not_mem_nil, or_false] at hp
  subst hp
  exact ⟨RowAt.new w _ _ _ _, by simp⟩
def noV : Value := .tuple #[.agg (rowOf .u8 32 zF), errV (some 1)]
set_option maxHeartbeats 1000000 in
theorem wpublic_no (seed : Nat → Int) (leaf n : Int) (w : World) (h : ¬ (0 ≤ leaf ∧ leaf < 1024 ∧ 1 ≤ n ∧ n ≤ 32)) :
    Calls Tryz.prog 49 #[.agg (rowOf .u8 32 seed), .int .i64 leaf, .int .i64 n] w fun e w' => e = .returned noV ∧ Below w.heap.size w w' := by
  unfold noV
  have HB := Lib.hid ((below_alloc w (.cells (rowOf .u8 32 seed) 23)).trans ((below_alloc _ (.cells (rowOf .u8 32 zF) 23)).mono (by simp)))
  have HR0 := Lib.hid (RowAt.new (w.alloc (.cells (rowOf .u8 32 seed) 23)) .u8 32 23 zF)
  by_cases hl : 0 ≤ leaf ∧ leaf < 1024
  · have hn : n < 1 ∨ 32 < n := by omega
    replace hl := Lib.hid hl
    replace hn := Lib.hid hn
    clear h
    go_enter Tryz.func49, Tryz.ntmps49
    go_upto_region 1 with (fail)
    rw [zeros32']
    rw [shSize_alloc] at HR0
    generalize (w.alloc (.cells (rowOf .u8 32 seed) 23)).alloc (.cells (rowOf .u8 32 zF) 23) = w1 at *
    go_wp2_with (first
      | (go_at_call 97; (with_reducible refine (wleaf_ok leaf _ hl.out.1 hl.out.2).mono ?_); rintro e w' ⟨rfl, rfl⟩)
      | (go_at_call 98; (with_reducible refine (wlen_no n _ hn.out).mono ?_); rintro e w' ⟨rfl, rfl⟩)
      | (refine wpList_store_row rfl 23 (.tmp 6) (.tmp 19) rfl (w.heap.size + 1) (rowOf .u8 32 zF) rfl rfl 23 _ HR0.out (by rw [rowOf_size]; kernel_rfl) rfl (rowOf_one _ _ _) ?_))
    refine bodyPost_ret (results_cell_tmp_row rfl _ _ (w.heap.size + 1) 23 (rowOf .u8 32 zF) (0, 0) _ rfl (setRow_heap _ _ _ _ _ _ HR0.out) Tryz.underlying23 rfl (by rw [rowOf_size]; kernel_rfl)) rfl ?_
    exact ⟨rfl, below_setRow HB.out (by omega) _⟩
  · have hl' : leaf < 0 ∨ 1024 ≤ leaf := by omega
    replace hl := Lib.hid hl'
    clear h hl'
    go_enter Tryz.func49, Tryz.ntmps49
    go_upto_region 1 with (fail)
    rw [zeros32']
    rw [shSize_alloc] at HR0
    generalize (w.alloc (.cells (rowOf .u8 32 seed) 23)).alloc (.cells (rowOf .u8 32 zF) 23) = w1 at *
    go_wp2_with (first
      | (go_at_call 97; (with_reducible refine (wleaf_no leaf _ hl.out).mono ?_); rintro e w' ⟨rfl, rfl⟩)
      | (refine wpList_store_row rfl 23 (.tmp 6) (.tmp 19) rfl (w.heap.size + 1) (rowOf .u8 32 zF) rfl rfl 23 _ HR0.out (by rw [rowOf_size]; kernel_rfl) rfl (rowOf_one _ _ _) ?_))
    refine bodyPost_ret (results_cell_tmp_row rfl _ _ (w.heap.size + 1) 23 (rowOf .u8 32 zF) (0, 0) _ rfl (setRow_heap _ _ _ _ _ _ HR0.out) Tryz.underlying23 rfl (by rw [rowOf_size]; kernel_rfl)) rfl ?_
    exact ⟨rfl, below_setRow HB.out (by omega) _⟩
def okV (f : Nat → Int) : Value := .tuple #[.agg (rowOf .u8 32 f), errV none]
theorem rep_get (n k : Nat) (h : k < n) : (List.replicate n 15)[k]? = some 15 := by simp [h]
set_option maxHeartbeats 2000000 in
theorem wpublic_ok (seed : Nat → Int) (leaf : Int) (n : Nat) (w : World) (he : Env w) (h : 0 ≤ leaf ∧ leaf < 1024) (hn : 1 ≤ n ∧ n ≤ 32) :
    Calls Tryz.prog 49 #[.agg (rowOf .u8 32 seed), .int .i64 leaf, .int .i64 (n : Int)] w fun e w' => e = .returned (okV (pubF seed leaf n)) ∧ Below w.heap.size w w' := by
  unfold okV
  have M := Lib.hid (hasR2 w seed he)
  have hl := Lib.hid h
  have HN := Lib.hid hn
  have hnb := hn.2
  have hn1 := hn.1
  have hn0 : ¬ (2 * (n : Int) + 3 = 0) := by omega
  clear he h hn
  go_enter Tryz.func49, Tryz.ntmps49
  go_upto_region 1 with (fail)
  rw [zeros32']
  obtain ⟨B, hB⟩ : ∃ B, B = w.heap.size + 1 + 1 := ⟨_, rfl⟩
  rw [← hB] at M
  replace hB := Lib.hid hB
  generalize (w.alloc (.cells (rowOf .u8 32 seed) 23)).alloc (.cells (rowOf .u8 32 zF) 23) = w1 at *
  have R := Lib.hid (World.ownsRow_nil w1 B 5 1)
  go_wp2_with (first
    | (go_at_call 97; (with_reducible refine (wleaf_ok leaf _ hl.out.1 hl.out.2).mono ?_); rintro e w' ⟨rfl, rfl⟩)
    | (go_at_call 98; (with_reducible refine (wlen_ok n _ HN.out.1 HN.out.2).mono ?_); rintro e w' ⟨rfl, rfl⟩))
  obtain ⟨L, hL⟩ : ∃ L, L = List.replicate (2 * n + 3) 15 := ⟨_, rfl⟩
  have HL := Lib.hid hL
  go_loopw [8, 23] (fun s i wr => ∃ k : Nat, k ≤ 2 * n + 3 ∧ i = .int .i64 (k : Int) ∧ Hid (HasR w wr B [(w.heap.size, seed), (w.heap.size + 1, zF)]) ∧ Hid (wr.ownsRow B 5 1 s (chainsF seed leaf 0 (L.take k)).length (byteVals (chainsF seed leaf 0 (L.take k))))) (fun _ i _ => 2 * n + 3 - (intOf i).toNat)
  case atStart => exact ⟨0, Nat.zero_le _, rfl, M, by rw [List.take_zero]; exact R⟩
  case round =>
    clear M R w1 hL
    obtain ⟨k, hk, rfl, M, R⟩ := hrel
    by_cases hlt : k < 2 * n + 3
    · have HC := Lib.hid (chainsF_snoc seed leaf L k 15 (by rw [HL.out]; exact rep_get _ _ hlt))
      have HLE := Lib.hid (show (chainsF seed leaf 0 (L.take k)).length ≤ 32 * 67 by rw [chainsF_length, List.length_take]; omega)
      have hk' : (k : Int) < 2 * (n : Int) + 3 := by omega
      obtain ⟨l, hl2⟩ : ∃ l, l = chainsF seed leaf 0 (L.take k) := ⟨_, rfl⟩
      rw [← hl2] at HC HLE R
      replace hl2 := Lib.hid hl2
      go_wp2_with (first
        | (refine wpList_load_row rfl 23 (.tmp 3) rfl w.heap.size rfl 23 _ (0, 0) _ M.out.at0 Tryz.underlying23 rfl (by rw [rowOf_size]; kernel_rfl) ?_)
        | (go_at_call 100; (with_reducible refine (wstart_any seed leaf (k : Int) _ M.out.env).mono ?_); rintro e w2 ⟨rfl, HB2⟩; replace R := Lib.hid (wkept_below R.out HB2); replace M := Lib.hid (M.out.call HB2); clear HB2)
        | (go_at_call 99; (with_reducible refine (wstep_any (startF seed leaf (k : Int)) leaf (k : Int) 0 15 _ M.out.env).mono ?_); rintro e w3 ⟨rfl, HB3⟩; replace R := Lib.hid (wkept_below R.out HB3); replace M := Lib.hid (M.out.call HB3); clear HB3)
        | (refine wpList_store_row rfl 23 (.tmp 10) (.tmp 32) rfl w3.heap.size (rowOf .u8 32 (stepF (startF seed leaf (k : Int)) leaf (k : Int) 0 15)) rfl rfl 23 _ (heap_alloc_new _ _) (by rw [rowOf_size]; kernel_rfl) rfl (rowOf_one _ _ _) ?_; rw [World.setRow_alloc_new]; have HR := Lib.hid (RowAt.new w3 .u8 32 23 (stepF (startF seed leaf (k : Int)) leaf (k : Int) 0 15)); have HA := Lib.hid (below_alloc w3 (.cells (rowOf .u8 32 (stepF (startF seed leaf (k : Int)) leaf (k : Int) 0 15)) 23)); replace R := Lib.hid (wkept_below R.out HA.out); replace M := Lib.hid (M.out.call HA.out); clear HA; generalize w3.alloc (.cells (rowOf .u8 32 (stepF (startF seed leaf (k : Int)) leaf (k : Int) 0 15)) 23) = w4 at *)
        | (at_builtin; refine wpList_append_bytes rfl (.tmp 33) (.tmp 34) rfl rfl B _ l.length (byteVals l) rfl R.out _ (rowL 32 (stepF (startF seed leaf (k : Int)) leaf (k : Int) 0 15)) rfl (row_in HR.out (Nat.le_refl _) (Nat.le_refl _) (by simp [maxLen])) (by have := HLE.out; rw [rowL32]; omega) M.out.size ?_; intro v5 w5 ho hg _; replace M := Lib.hid (M.out.grown hg R.out); replace R := Lib.hid ho; clear ho hg))
      go_roundw
      case rel =>
        refine ⟨k + 1, by omega, by go_num, M, ?_⟩
        rw [HC.out, List.length_append, byteVals_append]
        exact R
      case measure => simp [intOf]; omega
    · have HE := Lib.hid (show L.take k = L by rw [show k = L.length by rw [HL.out, List.length_replicate]; omega, List.take_length])
      rw [HE.out, HL.out] at R
      clear HE
      have hk' : ¬ (k : Int) < 2 * (n : Int) + 3 := by omega
      have HX := Lib.hid (owns_in R.out (by rw [chainsF_length, List.length_replicate]; unfold maxLen; omega))
      go_wp2_with (first
        | (go_at_call 101; (with_reducible refine (leaf_any _ _ _ HX.out M.out.env).mono ?_); rintro e w2 ⟨rfl, HB2⟩; replace M := Lib.hid (M.out.call HB2); clear HB2)
        | (refine wpList_store_row rfl 23 (.tmp 6) (.tmp 38) rfl (w.heap.size + 1) _ rfl rfl 23 _ M.out.at1 (by rw [rowOf_size]; kernel_rfl) (by rw [rowOf_size, rowOf_size]) (rowOf_one _ _ _) ?_))
      refine bodyPost_ret (results_cell_tmp_row rfl _ _ (w.heap.size + 1) 23 (rowOf .u8 32 (pubF seed leaf n)) (0, 0) _ rfl (setRow_heap _ _ _ _ _ _ M.out.at1) Tryz.underlying23 rfl (by rw [rowOf_size]; kernel_rfl)) rfl ?_
      exact ⟨rfl, below_setRow M.out.below (by omega) _⟩
end Go.Proofs.YtilpohdidekenaaGreatDoor
namespace Go.Proofs
set_option linter.unusedVariables false
set_option linter.unusedSimpArgs false
open Go.Shelf
def Tryz.lays125_ren : Go.Shelf.Ren := ⟨fun | 125 => 102 | 128 => 137 | 129 => 138 | n => n, fun | 3 => 3 | 4 => 4 | 5 => 5 | 9 => 9 | 46 => 50 | 51 => 167 | 53 => 79 | n => n, fun | n => n⟩
theorem Tryz.lays125 : Go.Proofs.Lays.n125 Tryz.prog Tryz.lays125_ren := {
  mixed := by kernel_rfl
  f125 := Tryz.func102.trans (congrArg some (by kernel_rfl))
  f128 := Tryz.func137.trans (congrArg some (by kernel_rfl))
  f129 := Tryz.func138.trans (congrArg some (by kernel_rfl))
  t3 := Tryz.underlying3
  a3 := Tryz.isAgg3
  z3 := Tryz.sizeOf3
  v3 := Tryz.zeroValue3
  t4 := Tryz.underlying4
  a4 := Tryz.isAgg4
  z4 := Tryz.sizeOf4
  v4 := Tryz.zeroValue4
  t5 := Tryz.underlying5
  a5 := Tryz.isAgg5
  z5 := Tryz.sizeOf5
  v5 := Tryz.zeroValue5
  t9 := Tryz.underlying9
  a9 := Tryz.isAgg9
  z9 := Tryz.sizeOf9
  v9 := Tryz.zeroValue9
  t46 := Tryz.underlying50
  a46 := Tryz.isAgg50
  z46 := Tryz.sizeOf50
  v46 := Tryz.zeroValue50
  t51 := Tryz.underlying167
  a51 := Tryz.isAgg167
  z51 := Tryz.sizeOf167
  v51 := Tryz.zeroValue167
  t53 := Tryz.underlying79
  a53 := Tryz.isAgg79
  z53 := Tryz.sizeOf79
  v53 := Tryz.zeroValue79 }
theorem Tryz.bits_Len (x : Int) (w : World) (h0 : 0 ≤ x) (h1 : x ≤ 18446744073709551615) :
    Calls Tryz.prog 102 #[.int .u64 x] w fun e w' => e = .returned (.int .i64 (Lib.bitLen x.toNat)) ∧ w' = w := Any.bits_Len Tryz.lays125 x w h0 h1
end Go.Proofs
