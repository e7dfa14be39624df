/- Node, split: what each call does. -/
import Derived.Test.YtbppainejdphpaaDoorShTree
import Derived.Test.YtbppainejdphpaaDoorShLen
namespace Go.Proofs.YtbppainejdphpaaDoor
open Go.RowKit
theorem slice25all (b : Nat) (w : World) : (Instr.sliceAt 25 (.pointer (some ⟨b, 0, none⟩)) none none none).run Tryd.prog w = .ok (.slice (some ⟨b, 0, none⟩) 32 32) w := by
  have ha : Tryd.prog.arrayLen 25 = 32 := by kernel_rfl
  have he : Tryd.prog.elem 25 = 5 := by kernel_rfl
  have hs : (sizeOf 5).run Tryd.prog w = .ok 1 w := by kernel_rfl
  rw [run_sliceAt_array_all w 25 ⟨b, 0, none⟩ (by rw [ha, he]; exact Tryd.underlying25), ha, he, hs]
  simp only [Result.andThen_ok, slicedAt]
  rw [if_neg (by omega), Addr.add_mid]
theorem bytesOf_length (a : Nat → Int) : (bytesOf a).length = 32 := by simp [bytesOf]
theorem RowAt.bytes {w : World} {b g : Nat} {a : Nat → Int} (h : RowAt w b .u8 32 25 a) (hne : b ≠ g) : BytesAt w g (.slice (some ⟨b, 0, none⟩) 32 32) (bytesOf a) := by
  refine ⟨_, _, by rw [bytesOf_length], by rw [bytesOf_length]; omega, by rw [bytesOf_length]; unfold maxLen; omega, .inr ⟨b, 0, rfl, hne, fun i x hi => ?_⟩⟩
  have hil : i < 32 := by have := (List.getElem?_eq_some_iff.1 hi).1; rw [bytesOf_length] at this; exact this
  rw [Nat.zero_add, h.cell i hil]
  simp [bytesOf, hil] at hi
  rw [hi]
theorem shSumM_h (g : Nat) (h : HS) (w : World) (hh : HashAt w g h.s h.b h.n) (h0 : 0 ≤ h.n ∧ h.n < 18446744073709551616) (hk : Consts w) :
    Calls Tryd.prog 9 #[.pointer (some ⟨g, 0, none⟩)] w fun e w' => e = .returned (.agg (rowOf .u8 32 (hsum h))) ∧ Below w.heap.size w w' :=
  sumM_any g h.s h.b h.n w hh h0.1 h0.2 hk
theorem shWrite_h (g : Nat) (h : HS) (xs : List Int) (v : Value) (w : World) (hh : HashAt w g h.s h.b h.n) (h0 : 0 ≤ h.n ∧ h.n < 18446744073709551616) (hx : BytesAt w g v xs) (he : Env w) (hg : 1 < g) :
    Calls Tryd.prog 7 #[.pointer (some ⟨g, 0, none⟩), v] w fun e w' => e = .returned (.tuple #[]) ∧ HashAt w' g (putF h xs).s (putF h xs).b (putF h xs).n ∧ Only g w w' :=
  shWrite_any g h.s h.b h.n xs v w hh h0.1 h0.2 hx he hg
/-- what Node knows of memory -/
structure NodeM (w w' : World) (g : Nat) (a b : Nat → Int) (h : HS) : Prop where
  ra : RowAt w' w.heap.size .u8 32 25 a
  rb : RowAt w' (w.heap.size + 1) .u8 32 25 b
  re : RowAt w' (w.heap.size + 1 + 1) .u8 32 25 (fun _ => 0)
  hash : HashAt w' g h.s h.b h.n
  gg : w.heap.size + 1 + 1 < g
  bounds : 0 ≤ h.n ∧ h.n < 18446744073709551616
  below : Below w.heap.size w w'
  env : Env w'
theorem NodeM.wrote {w w' w2 : World} {g : Nat} {a b : Nat → Int} {h : HS} (HC : 1 < w.heap.size) (m : NodeM w w' g a b h) {xs : List Int} (hh : HashAt w2 g (putF h xs).s (putF h xs).b (putF h xs).n) (ho : Only g w' w2) : NodeM w w2 g a b (putF h xs) :=
  ⟨(ho.block _ m.ra.lt (by have := m.gg; omega)).trans m.ra, (ho.block _ m.rb.lt (by have := m.gg; omega)).trans m.rb, (ho.block _ m.re.lt (by have := m.gg; omega)).trans m.re, hh, m.gg, putF_bounds h m.bounds.1 m.bounds.2 xs,
   m.below.trans (ho.below (by have := m.gg; omega) m.below.size), ho.env m.env (by have := m.gg; have := HC; omega)⟩
theorem NodeM.calls {w w' w2 : World} {g : Nat} {a b : Nat → Int} {h : HS} (m : NodeM w w' g a b h) (hb : Below w'.heap.size w' w2) : NodeM w w2 g a b h :=
  ⟨m.ra.below hb m.ra.lt, m.rb.below hb m.rb.lt, m.re.below hb m.re.lt, m.hash.below hb m.hash.lt, m.gg, m.bounds, m.below.trans (hb.mono m.below.size), m.env.below hb m.env.lt⟩
theorem node_start (w : World) (a b : Nat → Int) (he : Env w) :
    NodeM w ((((w.alloc (.cells (rowOf .u8 32 a) 25)).alloc (.cells (rowOf .u8 32 b) 25)).alloc (.cells (rowOf .u8 32 (fun _ => 0)) 25)).alloc (.cells (hashCells BT (fun _ => 0) 0) 63)) (w.heap.size + 1 + 1 + 1) a b h0 := by
  have hb : Below w.heap.size w ((((w.alloc (.cells (rowOf .u8 32 a) 25)).alloc (.cells (rowOf .u8 32 b) 25)).alloc (.cells (rowOf .u8 32 (fun _ => 0)) 25)).alloc (.cells (hashCells BT (fun _ => 0) 0) 63)) :=
    (((below_alloc w _).trans ((below_alloc _ _).mono (by simp))).trans ((below_alloc _ _).mono (by simp; omega))).trans ((below_alloc _ _).mono (by simp; omega))
  refine ⟨((RowAt.new w _ _ _ _).alloc _).alloc _ |>.alloc _, ?_, ?_, ?_, by omega, by decide, hb, he.below hb he.lt⟩
  · have := ((RowAt.new (w.alloc (.cells (rowOf .u8 32 a) 25)) .u8 32 25 b).alloc (.cells (rowOf .u8 32 (fun _ => 0)) 25)).alloc (.cells (hashCells BT (fun _ => 0) 0) 63)
    rw [shSize_alloc] at this; exact this
  · have := (RowAt.new ((w.alloc (.cells (rowOf .u8 32 a) 25)).alloc (.cells (rowOf .u8 32 b) 25)) .u8 32 25 (fun _ => 0)).alloc (.cells (hashCells BT (fun _ => 0) 0) 63)
    rw [shSize_alloc, shSize_alloc] at this; exact this
  · have := heap_alloc_new (((w.alloc (.cells (rowOf .u8 32 a) 25)).alloc (.cells (rowOf .u8 32 b) 25)).alloc (.cells (rowOf .u8 32 (fun _ => 0)) 25)) (.cells (hashCells BT (fun _ => 0) 0) 63)
    rw [shSize_alloc, shSize_alloc, shSize_alloc] at this; exact this
theorem one_inN (w : World) (g : Nat) (hg : g < w.heap.size) (x : Int) : BytesAt (w.alloc (.cells #[.int .u8 x] 5)) g (.slice (some ⟨w.heap.size, 0, none⟩) 1 1) [x] := by
  refine ⟨_, _, rfl, by simp, by simp [maxLen], .inr ⟨_, _, rfl, by omega, fun i y hi => ?_⟩⟩
  rw [Nat.zero_add, cell_of_row _ _ _ _ _ _ (heap_alloc_new w _)]
  match i, hi with
  | 0, hi => cases hi; rfl
set_option maxRecDepth 100000 in
set_option maxHeartbeats 400000 in
theorem node_any (a b : Nat → Int) (w : World) (he : Env w) :
    Calls Tryd.prog 24 #[.agg (rowOf .u8 32 a), .agg (rowOf .u8 32 b)] w fun e w' => e = .returned (.agg (rowOf .u8 32 (nodeF a b))) ∧ Below w.heap.size w w' := by
  have M := Lib.hid (node_start w a b he)
  have HE := Lib.hid (he.below (((below_alloc w (.cells (rowOf .u8 32 a) 25)).trans ((below_alloc _ (.cells (rowOf .u8 32 b) 25)).mono (by simp))).trans ((below_alloc _ (.cells (rowOf .u8 32 (fun _ => 0)) 25)).mono (by simp; omega))) he.lt)
  have HC := Lib.hid he.lt
  clear he
  go_enter Tryd.func24, Tryd.ntmps24
  go_upto_region 1 with (fail)
  rw [zeros32]
  go_upto_region 2 with (go_at_call 6; (with_reducible refine (shNew_any _ HE.out).mono ?_); rintro e w' ⟨rfl, rfl⟩)
  generalize (((w.alloc (.cells (rowOf .u8 32 a) 25)).alloc (.cells (rowOf .u8 32 b) 25)).alloc (.cells (rowOf .u8 32 (fun _ => 0)) 25)).alloc (.cells (hashCells BT (fun _ => 0) 0) 63) = w1 at *
  obtain ⟨g, hg⟩ : ∃ g, g = w.heap.size + 1 + 1 + 1 := ⟨_, rfl⟩
  rw [← hg] at M ⊢
  clear hg HE
  have M1 := Lib.hid (M.out.calls (below_alloc w1 (.cells #[.int .u8 1] 5)))
  have HX := Lib.hid (one_inN w1 g M.out.hash.lt 1)
  have HG := Lib.hid (show 1 < g from by have := M.out.gg; have := HC.out; omega)
  go_upto_region 3 with (go_at_call 7; (with_reducible refine (shWrite_h g h0 [1] _ _ M1.out.hash M1.out.bounds HX.out M1.out.env HG.out).mono ?_); rintro e w2 ⟨rfl, HH, HO⟩; replace HH := Lib.hid HH; replace HO := Lib.hid HO)
  have M2 := Lib.hid (M1.out.wrote HC.out HH.out HO.out)
  clear M M1 HX HH HO
  have hsl := slice25all w.heap.size
  have HX := Lib.hid (M2.out.ra.bytes (g := g) (by have := M2.out.gg; omega))
  go_upto_region 4 with (go_at_call 7; (with_reducible refine (shWrite_h g _ _ _ _ M2.out.hash M2.out.bounds HX.out M2.out.env HG.out).mono ?_); rintro e w3 ⟨rfl, HH, HO⟩; replace HH := Lib.hid HH; replace HO := Lib.hid HO)
  have M3 := Lib.hid (M2.out.wrote HC.out HH.out HO.out)
  clear M2 HX HH HO hsl
  have hsl := slice25all (w.heap.size + 1)
  have HX := Lib.hid (M3.out.rb.bytes (g := g) (by have := M3.out.gg; omega))
  go_upto_region 5 with (go_at_call 7; (with_reducible refine (shWrite_h g _ _ _ _ M3.out.hash M3.out.bounds HX.out M3.out.env HG.out).mono ?_); rintro e w4 ⟨rfl, HH, HO⟩; replace HH := Lib.hid HH; replace HO := Lib.hid HO)
  have M4 := Lib.hid (M3.out.wrote HC.out HH.out HO.out)
  clear M3 HX HH HO hsl
  go_wp2_with (first
    | (go_at_call 9; (with_reducible refine (shSumM_h g _ _ M4.out.hash M4.out.bounds M4.out.env.consts).mono ?_); rintro e w5 ⟨rfl, HB5⟩; replace M4 := Lib.hid (M4.out.calls HB5); clear HB5)
    | (refine wpList_store_row rfl 25 (.tmp 4) (.tmp 17) rfl (w.heap.size + 1 + 1) _ rfl rfl 25 _ M4.out.re (by rw [rowOf_size]; kernel_rfl) (by rw [rowOf_size, rowOf_size]) (rowOf_one _ _ _) ?_))
  refine bodyPost_ret (results_cell_row rfl _ _ (w.heap.size + 1 + 1) 25 _ (0, 0) _ rfl (setRow_heap _ _ _ _ _ _ M4.out.re) Tryd.underlying25 rfl (by rw [rowOf_size]; kernel_rfl)) rfl ?_
  refine ⟨?_, below_setRow M4.out.below (by omega) _⟩
  rw [← putF_append, ← putF_append]
  rfl
set_option maxRecDepth 100000 in
theorem split_any (n : Nat) (w : World) (h : 2 ≤ n) (hn : n < 9223372036854775808) : Calls Tryd.prog 40 #[.int .i64 (n : Int)] w fun e w' => e = .returned (.int .i64 (splitF n : Int)) ∧ w = w' := by
  have hs := splitF_spec n h (by omega)
  obtain ⟨L, hL⟩ : ∃ L, Lib.bitLen (n - 1) = L := ⟨_, rfl⟩
  have HS := Lib.hid (show splitF n = 2 ^ (L - 1) by unfold splitF; rw [hL])
  rw [hL] at hs
  have n0 : ((n : Int) - 1).toNat = n - 1 := by omega
  have HP := Lib.hid hs
  obtain ⟨_, _, _, hl1, hl2⟩ := hs
  have n1 : ((L : Int) - 1).toNat = L - 1 := by omega
  have n2 : 0 ≤ ((L : Int) - 1) := by omega
  replace hn := Lib.hid hn
  have HB := Lib.hid (show (0 : Int) ≤ (n : Int) - 1 ∧ (n : Int) - 1 ≤ 18446744073709551615 from ⟨by omega, by have := hn.out; omega⟩)
  replace hL := Lib.hid hL
  have hnI : n ≤ 9223372036854775807 := by have := hn.out; omega
  go_enter Tryd.func40, Tryd.ntmps40
  go_wp2_with (go_at_call 48; (with_reducible refine (Tryd.bits_Len _ _ HB.out.1 HB.out.2).mono ?_); rintro e w' ⟨rfl, rfl⟩; rw [n0, hL.out])
  go_ret
  have e : (2 : Int) ^ (L - 1) = ((splitF n : Nat) : Int) := by rw [HS.out]; simp
  refine ⟨?_, rfl⟩
  have e2 : wrap64 ((2 : Int) ^ (L - 1)) = ((splitF n : Nat) : Int) := by rw [e]; exact IntWalk.wrap64_in _ ⟨by omega, by have := HP.out.2.1; omega⟩
  exact congrArg (fun x => Ending.returned (Value.int IntKind.i64 x)) e2
end Go.Proofs.YtbppainejdphpaaDoor
