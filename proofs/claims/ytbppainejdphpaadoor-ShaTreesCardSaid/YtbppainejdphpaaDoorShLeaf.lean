/- sha.Leaf: the sum of a nought and bytes. -/
import Derived.Test.YtbppainejdphpaaDoorShSumM
namespace Go.Proofs.YtbppainejdphpaaDoor
open Go.RowKit
set_option maxRecDepth 100000
structure LeafM (w w' : World) (g : Nat) (h : HS) : Prop where
  re : RowAt w' w.heap.size .u8 32 25 (fun _ => 0)
  hash : HashAt w' g h.s h.b h.n
  gg : w.heap.size < g
  bounds : 0 ≤ h.n ∧ h.n < 18446744073709551616
  below : Below w.heap.size w w'
  env : Env w'
theorem LeafM.wrote {w w' w2 : World} {g : Nat} {h : HS} (m : LeafM w w' g h) {xs : List Int} (hh : HashAt w2 g (putF h xs).s (putF h xs).b (putF h xs).n) (ho : Only g w' w2) (hc : 1 < w.heap.size) : LeafM w w2 g (putF h xs) :=
  ⟨(ho.block _ m.re.lt (by have := m.gg; omega)).trans m.re, hh, m.gg, putF_bounds h m.bounds.1 m.bounds.2 xs, m.below.trans (ho.below (by have := m.gg; omega) m.below.size), ho.env m.env (by have := m.gg; omega)⟩
theorem LeafM.calls {w w' w2 : World} {g : Nat} {h : HS} (m : LeafM w w' g h) (hb : Below w'.heap.size w' w2) : LeafM w w2 g h :=
  ⟨m.re.below hb m.re.lt, m.hash.below hb m.hash.lt, m.gg, m.bounds, m.below.trans (hb.mono m.below.size), m.env.below hb m.env.lt⟩
theorem leaf_start (w : World) (he : Env w) : LeafM w ((w.alloc (.cells (rowOf .u8 32 (fun _ => 0)) 25)).alloc (.cells (hashCells BT (fun _ => 0) 0) 63)) (w.heap.size + 1) h0 := by
  have hb : Below w.heap.size w ((w.alloc (.cells (rowOf .u8 32 (fun _ => 0)) 25)).alloc (.cells (hashCells BT (fun _ => 0) 0) 63)) := (below_alloc w _).trans ((below_alloc _ _).mono (by simp))
  refine ⟨(RowAt.new w _ _ _ _).alloc _, ?_, by omega, by decide, hb, he.below hb he.lt⟩
  have := heap_alloc_new (w.alloc (.cells (rowOf .u8 32 (fun _ => 0)) 25)) (.cells (hashCells BT (fun _ => 0) 0) 63)
  rw [shSize_alloc] at this; exact this
theorem oneAt (w : World) (g : Nat) (hg : g < w.heap.size) (x : Int) : BytesAt (w.alloc (.cells #[.int .u8 x] 5)) g (.slice (some ⟨w.heap.size, 0, none⟩) 1 1) [x] := by
  refine ⟨_, _, rfl, by simp, by simp [maxLen], .inr ⟨_, _, rfl, by omega, fun i y hi => ?_⟩⟩
  rw [Nat.zero_add, cell_of_row _ _ _ _ _ _ (heap_alloc_new w _)]
  match i, hi with
  | 0, hi => cases hi; rfl
theorem BytesAt.below' {w w' : World} {g : Nat} {v : Value} {xs : List Int} (h : BytesAt w g v xs) (hb : Below w.heap.size w w') : BytesAt w' g v xs := by
  obtain ⟨a, cap, rfl, hc, hm, hx⟩ := h
  refine ⟨a, cap, rfl, hc, hm, ?_⟩
  rcases hx with hx | ⟨ab, ao, rfl, hne, hx⟩
  · exact .inl hx
  · exact .inr ⟨ab, ao, rfl, hne, fun i y hi => (hb.cell (p := ⟨ab, ao + i, none⟩) (World.block_lt_of_cell? w _ (hx i y hi))).trans (hx i y hi)⟩
set_option maxHeartbeats 400000 in
theorem leaf_any (v : Value) (xs : List Int) (w : World) (hx : BytesIn w v xs) (he : Env w) :
    Calls Tryd.prog 23 #[v] w fun e w' => e = .returned (.agg (rowOf .u8 32 (sumF (0 :: xs)))) ∧ Below w.heap.size w w' := by
  have M := Lib.hid (leaf_start w he)
  have HE := Lib.hid (he.below (below_alloc w (.cells (rowOf .u8 32 (fun _ => 0)) 25)) he.lt)
  have HC := Lib.hid he.lt
  have HX := Lib.hid (hx.at (g := w.heap.size + 1) M.out.below (Nat.le_refl _) (by omega))
  clear he hx
  go_enter Tryd.func23, Tryd.ntmps23
  go_upto_region 1 with (fail)
  rw [zeros32]
  go_upto_region 2 with (go_at_call 6; (with_reducible refine (shNew_any _ HE.out).mono ?_); rintro e w' ⟨rfl, rfl⟩)
  generalize (w.alloc (.cells (rowOf .u8 32 (fun _ => 0)) 25)).alloc (.cells (hashCells BT (fun _ => 0) 0) 63) = w1 at *
  obtain ⟨g, hg⟩ : ∃ g, g = w.heap.size + 1 := ⟨_, rfl⟩
  rw [← hg] at M HX ⊢
  replace hg := Lib.hid hg
  clear HE
  have M1 := Lib.hid (M.out.calls (below_alloc w1 (.cells #[.int .u8 0] 5)))
  have HO1 := Lib.hid (oneAt w1 g M.out.hash.lt 0)
  have HX1 := Lib.hid (HX.out.below' (below_alloc w1 (.cells #[.int .u8 0] 5)))
  have HG := Lib.hid (show 1 < g from by have := HC.out; have := hg.out; omega)
  go_upto_region 3 with (go_at_call 7; (with_reducible refine (shWrite_any g _ _ _ [0] _ _ M1.out.hash M1.out.bounds.1 M1.out.bounds.2 HO1.out M1.out.env HG.out).mono ?_); rintro e w2 ⟨rfl, HH, HO⟩; replace HH := Lib.hid HH; replace HO := Lib.hid HO)
  have M2 := Lib.hid (M1.out.wrote HH.out HO.out HC.out)
  have HX2 := Lib.hid (HX1.out.only HO.out)
  clear M M1 HX HX1 HH HO HO1
  go_upto_region 4 with (go_at_call 7; (with_reducible refine (shWrite_any g _ _ _ xs v _ M2.out.hash M2.out.bounds.1 M2.out.bounds.2 HX2.out M2.out.env HG.out).mono ?_); rintro e w3 ⟨rfl, HH, HO⟩; replace HH := Lib.hid HH; replace HO := Lib.hid HO)
  have M3 := Lib.hid (M2.out.wrote HH.out HO.out HC.out)
  clear M2 HX2 HH HO
  go_wp2_with (first
    | (go_at_call 9; (with_reducible refine (sumM_any g _ _ _ _ M3.out.hash M3.out.bounds.1 M3.out.bounds.2 M3.out.env.consts).mono ?_); rintro e w5 ⟨rfl, HB5⟩; replace M3 := Lib.hid (M3.out.calls HB5); clear HB5)
    | (refine wpList_store_row rfl 25 (.tmp 2) (.tmp 12) rfl w.heap.size _ rfl rfl 25 _ M3.out.re (by rw [rowOf_size]; kernel_rfl) (by rw [rowOf_size, rowOf_size]) (rowOf_one _ _ _) ?_))
  refine bodyPost_ret (results_cell_row rfl _ _ w.heap.size 25 _ (0, 0) _ rfl (setRow_heap _ _ _ _ _ _ M3.out.re) Tryd.underlying25 rfl (by rw [rowOf_size]; kernel_rfl)) rfl ?_
  exact ⟨by rfl, below_setRow M3.out.below (by omega) _⟩
end Go.Proofs.YtbppainejdphpaaDoor
