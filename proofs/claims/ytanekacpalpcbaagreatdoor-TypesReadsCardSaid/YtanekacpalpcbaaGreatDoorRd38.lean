/- Part 38 of the proof. -/
import Derived.Deep.RegionLaw
import Derived.Laws.ResultCell
import Derived.Test.YtanekacpalpcbaaGreatDoorRd1
import Derived.Test.YtanekacpalpcbaaGreatDoorRd5
import Derived.Test.YtanekacpalpcbaaGreatDoorRd23
import Derived.Test.YtanekacpalpcbaaGreatDoorRd37
namespace Go.Proofs.YtanekacpalpcbaaGreatDoor
set_option linter.unusedVariables false
set_option linter.unusedSimpArgs false
open Go.RowKit
theorem slice25all (b : Nat) (w : World) : (Instr.sliceAt 65 (.pointer (some ⟨b, 0, none⟩)) none none none).run Tryz.prog w = .ok (.slice (some ⟨b, 0, none⟩) 32 32) w := by
  have ha : Tryz.prog.arrayLen 65 = 32 := by kernel_rfl
  have he : Tryz.prog.elem 65 = 5 := by kernel_rfl
  have hs : (sizeOf 5).run Tryz.prog w = .ok 1 w := by kernel_rfl
  rw [run_sliceAt_array_all w 65 ⟨b, 0, none⟩ (by rw [ha, he]; exact Tryz.underlying65), ha, he, hs]
  simp only [Result.andThen_ok, slicedAt]
  rw [if_neg (by omega), Addr.add_mid]
theorem bytesOf_length (a : Nat → Int) : (bytesOf a).length = 32 := by simp [bytesOf]
theorem RowAt.bytes {w : World} {b g : Nat} {a : Nat → Int} (h : RowAt w b .u8 32 65 a) (hne : b ≠ g) : BytesAt w g (.slice (some ⟨b, 0, none⟩) 32 32) (bytesOf a) := by
  refine ⟨_, _, by rw [bytesOf_length], by rw [bytesOf_length]; omega, by rw [bytesOf_length]; unfold maxLen; omega, .inr ⟨b, 0, rfl, hne, fun i x hi => ?_⟩⟩
  have hil : i < 32 := by have := (List.getElem?_eq_some_iff.1 hi).1; rw [bytesOf_length] at this; exact this
  rw [Nat.zero_add, h.cell i hil]
  simp [bytesOf, hil] at hi
  rw [hi]
theorem shSumM_h (g : Nat) (h : HS) (w : World) (hh : HashAt w g h.s h.b h.n) (h0 : 0 ≤ h.n ∧ h.n < 18446744073709551616) (hk : Consts w) :
    Calls Tryz.prog 166 #[.pointer (some ⟨g, 0, none⟩)] w fun e w' => e = .returned (.agg (rowOf .u8 32 (hsum h))) ∧ Below w.heap.size w w' :=
  sumM_any g h.s h.b h.n w hh h0.1 h0.2 hk
theorem shWrite_h (g : Nat) (h : HS) (xs : List Int) (v : Value) (w : World) (hh : HashAt w g h.s h.b h.n) (h0 : 0 ≤ h.n ∧ h.n < 18446744073709551616) (hx : BytesAt w g v xs) (he : Env w) (hg : 4 < g) :
    Calls Tryz.prog 165 #[.pointer (some ⟨g, 0, none⟩), v] w fun e w' => e = .returned (.tuple #[]) ∧ HashAt w' g (putF h xs).s (putF h xs).b (putF h xs).n ∧ Only g w w' :=
  shWrite_any g h.s h.b h.n xs v w hh h0.1 h0.2 hx he hg
/-- what Node knows of memory -/
structure NodeM (w w' : World) (g : Nat) (a b : Nat → Int) (h : HS) : Prop where
  ra : RowAt w' w.heap.size .u8 32 65 a
  rb : RowAt w' (w.heap.size + 1) .u8 32 65 b
  re : RowAt w' (w.heap.size + 1 + 1) .u8 32 65 (fun _ => 0)
  hash : HashAt w' g h.s h.b h.n
  gg : w.heap.size + 1 + 1 < g
  bounds : 0 ≤ h.n ∧ h.n < 18446744073709551616
  below : Below w.heap.size w w'
  env : Env w'
theorem NodeM.wrote {w w' w2 : World} {g : Nat} {a b : Nat → Int} {h : HS} (HC : 4 < w.heap.size) (m : NodeM w w' g a b h) {xs : List Int} (hh : HashAt w2 g (putF h xs).s (putF h xs).b (putF h xs).n) (ho : Only g w' w2) : NodeM w w2 g a b (putF h xs) :=
  ⟨(ho.block _ m.ra.lt (by have := m.gg; omega)).trans m.ra, (ho.block _ m.rb.lt (by have := m.gg; omega)).trans m.rb, (ho.block _ m.re.lt (by have := m.gg; omega)).trans m.re, hh, m.gg, putF_bounds h m.bounds.1 m.bounds.2 xs,
   m.below.trans (ho.below (by have := m.gg; omega) m.below.size), ho.env m.env (by have := m.gg; have := HC; omega)⟩
theorem NodeM.calls {w w' w2 : World} {g : Nat} {a b : Nat → Int} {h : HS} (m : NodeM w w' g a b h) (hb : Below w'.heap.size w' w2) : NodeM w w2 g a b h :=
  ⟨m.ra.below hb m.ra.lt, m.rb.below hb m.rb.lt, m.re.below hb m.re.lt, m.hash.below hb m.hash.lt, m.gg, m.bounds, m.below.trans (hb.mono m.below.size), m.env.below hb m.env.lt⟩
theorem node_start (w : World) (a b : Nat → Int) (he : Env w) :
    NodeM w ((((w.alloc (.cells (rowOf .u8 32 a) 65)).alloc (.cells (rowOf .u8 32 b) 65)).alloc (.cells (rowOf .u8 32 (fun _ => 0)) 65)).alloc (.cells (hashCells BT (fun _ => 0) 0) 312)) (w.heap.size + 1 + 1 + 1) a b h0 := by
  have hb : Below w.heap.size w ((((w.alloc (.cells (rowOf .u8 32 a) 65)).alloc (.cells (rowOf .u8 32 b) 65)).alloc (.cells (rowOf .u8 32 (fun _ => 0)) 65)).alloc (.cells (hashCells BT (fun _ => 0) 0) 312)) :=
    (((below_alloc w _).trans ((below_alloc _ _).mono (by simp))).trans ((below_alloc _ _).mono (by simp; omega))).trans ((below_alloc _ _).mono (by simp; omega))
  refine ⟨((RowAt.new w _ _ _ _).alloc _).alloc _ |>.alloc _, ?_, ?_, ?_, by omega, by decide, hb, he.below hb he.lt⟩
  · have := ((RowAt.new (w.alloc (.cells (rowOf .u8 32 a) 65)) .u8 32 65 b).alloc (.cells (rowOf .u8 32 (fun _ => 0)) 65)).alloc (.cells (hashCells BT (fun _ => 0) 0) 312)
    rw [shSize_alloc] at this; exact this
  · have := (RowAt.new ((w.alloc (.cells (rowOf .u8 32 a) 65)).alloc (.cells (rowOf .u8 32 b) 65)) .u8 32 65 (fun _ => 0)).alloc (.cells (hashCells BT (fun _ => 0) 0) 312)
    rw [shSize_alloc, shSize_alloc] at this; exact this
  · have := heap_alloc_new (((w.alloc (.cells (rowOf .u8 32 a) 65)).alloc (.cells (rowOf .u8 32 b) 65)).alloc (.cells (rowOf .u8 32 (fun _ => 0)) 65)) (.cells (hashCells BT (fun _ => 0) 0) 312)
    rw [shSize_alloc, shSize_alloc, shSize_alloc] at this; exact this
theorem one_inN (w : World) (g : Nat) (hg : g < w.heap.size) (x : Int) : BytesAt (w.alloc (.cells #[.int .u8 x] 5)) g (.slice (some ⟨w.heap.size, 0, none⟩) 1 1) [x] := by
  refine ⟨_, _, rfl, by simp, by simp [maxLen], .inr ⟨_, _, rfl, by omega, fun i y hi => ?_⟩⟩
  rw [Nat.zero_add, cell_of_row _ _ _ _ _ _ (heap_alloc_new w _)]
  match i, hi with
  | 0, hi => cases hi; rfl
set_option maxRecDepth 100000 in
set_option maxHeartbeats 400000 in
theorem node_any (a b : Nat → Int) (w : World) (he : Env w) :
    Calls Tryz.prog 173 #[.agg (rowOf .u8 32 a), .agg (rowOf .u8 32 b)] w fun e w' => e = .returned (.agg (rowOf .u8 32 (nodeF a b))) ∧ Below w.heap.size w w' := by
  have M := Lib.hid (node_start w a b he)
  have HE := Lib.hid (he.below (((below_alloc w (.cells (rowOf .u8 32 a) 65)).trans ((below_alloc _ (.cells (rowOf .u8 32 b) 65)).mono (by simp))).trans ((below_alloc _ (.cells (rowOf .u8 32 (fun _ => 0)) 65)).mono (by simp; omega))) he.lt)
  have HC := Lib.hid he.lt
  clear he
  go_enter Tryz.func173, Tryz.ntmps173
  go_upto_region 1 with (fail)
  rw [zeros32]
  go_upto_region 2 with (go_at_call 164; (with_reducible refine (shNew_any _ HE.out).mono ?_); rintro e w' ⟨rfl, rfl⟩)
  generalize (((w.alloc (.cells (rowOf .u8 32 a) 65)).alloc (.cells (rowOf .u8 32 b) 65)).alloc (.cells (rowOf .u8 32 (fun _ => 0)) 65)).alloc (.cells (hashCells BT (fun _ => 0) 0) 312) = w1 at *
  obtain ⟨g, hg⟩ : ∃ g, g = w.heap.size + 1 + 1 + 1 := ⟨_, rfl⟩
  rw [← hg] at M ⊢
  clear hg HE
  have M1 := Lib.hid (M.out.calls (below_alloc w1 (.cells #[.int .u8 1] 5)))
  have HX := Lib.hid (one_inN w1 g M.out.hash.lt 1)
  have HG := Lib.hid (show 4 < g from by have := M.out.gg; have := HC.out; omega)
  go_upto_region 3 with (go_at_call 165; (with_reducible refine (shWrite_h g h0 [1] _ _ M1.out.hash M1.out.bounds HX.out M1.out.env HG.out).mono ?_); rintro e w2 ⟨rfl, HH, HO⟩; replace HH := Lib.hid HH; replace HO := Lib.hid HO)
  have M2 := Lib.hid (M1.out.wrote HC.out HH.out HO.out)
  clear M M1 HX HH HO
  have hsl := slice25all w.heap.size
  have HX := Lib.hid (M2.out.ra.bytes (g := g) (by have := M2.out.gg; omega))
  go_upto_region 4 with (go_at_call 165; (with_reducible refine (shWrite_h g _ _ _ _ M2.out.hash M2.out.bounds HX.out M2.out.env HG.out).mono ?_); rintro e w3 ⟨rfl, HH, HO⟩; replace HH := Lib.hid HH; replace HO := Lib.hid HO)
  have M3 := Lib.hid (M2.out.wrote HC.out HH.out HO.out)
  clear M2 HX HH HO hsl
  have hsl := slice25all (w.heap.size + 1)
  have HX := Lib.hid (M3.out.rb.bytes (g := g) (by have := M3.out.gg; omega))
  go_upto_region 5 with (go_at_call 165; (with_reducible refine (shWrite_h g _ _ _ _ M3.out.hash M3.out.bounds HX.out M3.out.env HG.out).mono ?_); rintro e w4 ⟨rfl, HH, HO⟩; replace HH := Lib.hid HH; replace HO := Lib.hid HO)
  have M4 := Lib.hid (M3.out.wrote HC.out HH.out HO.out)
  clear M3 HX HH HO hsl
  go_wp2_with (first
    | (go_at_call 166; (with_reducible refine (shSumM_h g _ _ M4.out.hash M4.out.bounds M4.out.env.consts).mono ?_); rintro e w5 ⟨rfl, HB5⟩; replace M4 := Lib.hid (M4.out.calls HB5); clear HB5)
    | (refine wpList_store_row rfl 65 (.tmp 4) (.tmp 17) rfl (w.heap.size + 1 + 1) _ rfl rfl 65 _ M4.out.re (by rw [rowOf_size]; kernel_rfl) (by rw [rowOf_size, rowOf_size]) (rowOf_one _ _ _) ?_))
  refine bodyPost_ret (results_cell_row rfl _ _ (w.heap.size + 1 + 1) 65 _ (0, 0) _ rfl (setRow_heap _ _ _ _ _ _ M4.out.re) Tryz.underlying65 rfl (by rw [rowOf_size]; kernel_rfl)) rfl ?_
  refine ⟨?_, below_setRow M4.out.below (by omega) _⟩
  rw [← putF_append, ← putF_append]
  rfl
set_option maxRecDepth 100000 in
theorem split_any (n : Nat) (w : World) (h : 2 ≤ n) (hn : n < 9223372036854775808) : Calls Tryz.prog 172 #[.int .i64 (n : Int)] w fun e w' => e = .returned (.int .i64 (splitF n : Int)) ∧ w = w' := by
  have hs := splitF_spec n h (by omega)
  obtain ⟨L, hL⟩ : ∃ L, Lib.bitLen (n - 1) = L := ⟨_, rfl⟩
  have HS := Lib.hid (show splitF n = 2 ^ (L - 1) by unfold splitF; rw [hL])
  rw [hL] at hs
  have n0 : ((n : Int) - 1).toNat = n - 1 := by omega
  have HP := Lib.hid hs
  obtain ⟨_, _, _, hl1, hl2⟩ := hs
  have n1 : ((L : Int) - 1).toNat = L - 1 := by omega
  have n2 : 0 ≤ ((L : Int) - 1) := by omega
  replace hn := Lib.hid hn
  have HB := Lib.hid (show (0 : Int) ≤ (n : Int) - 1 ∧ (n : Int) - 1 ≤ 18446744073709551615 from ⟨by omega, by have := hn.out; omega⟩)
  replace hL := Lib.hid hL
  have hnI : n ≤ 9223372036854775807 := by have := hn.out; omega
  go_enter Tryz.func172, Tryz.ntmps172
  go_wp2_with (go_at_call 146; (with_reducible refine (Tryz.bits_Len _ _ HB.out.1 HB.out.2).mono ?_); rintro e w' ⟨rfl, rfl⟩; rw [n0, hL.out])
  go_ret
  have e : (2 : Int) ^ (L - 1) = ((splitF n : Nat) : Int) := by rw [HS.out]; simp
  refine ⟨?_, rfl⟩
  have e2 : wrap64 ((2 : Int) ^ (L - 1)) = ((splitF n : Nat) : Int) := by rw [e]; exact IntWalk.wrap64_in _ ⟨by omega, by have := HP.out.2.1; omega⟩
  exact congrArg (fun x => Ending.returned (Value.int IntKind.i64 x)) e2
end Go.Proofs.YtanekacpalpcbaaGreatDoor
namespace Go.Proofs.YtanekacpalpcbaaGreatDoor
set_option linter.unusedVariables false
set_option linter.unusedSimpArgs false
open Go.RowKit
def zeroH : Nat → Int := fun _ => 0
/-- v is a slice of the hashes hs -/
def HashesIn (w : World) (v : Value) (hs : List (Nat → Int)) : Prop :=
  ∃ a cap, v = .slice a hs.length cap ∧ hs.length ≤ cap ∧ cap ≤ maxLen ∧ (hs = [] ∨ ∃ ab ao, a = some ⟨ab, ao, none⟩ ∧ ab < w.heap.size ∧ ∀ i, i < hs.length → w.rangeAt ab (ao + i * 32) (rowOf .u8 32 (hs.getD i zeroH)).toList)
theorem rangeAt_below {w w' : World} {B b o : Nat} {cs : List Value} (h : w.rangeAt b o cs) (hb : Below B w w') (hB : b < B) : w'.rangeAt b o cs := fun j v hv => (hb.cell (p := ⟨b, o + j, none⟩) hB).trans (h j v hv)
theorem HashesIn.below {w w' : World} {v : Value} {hs : List (Nat → Int)} (h : HashesIn w v hs) (hb : Below w.heap.size w w') : HashesIn w' v hs := by
  obtain ⟨a, cap, rfl, hc, hm, hx⟩ := h
  refine ⟨a, cap, rfl, hc, hm, ?_⟩
  rcases hx with hx | ⟨ab, ao, rfl, hl, hx⟩
  · exact .inl hx
  · exact .inr ⟨ab, ao, rfl, Nat.lt_of_lt_of_le hl hb.size, fun i hi => rangeAt_below (hx i hi) hb hl⟩
def cutH (a : Option Addr) (cap p : Nat) : Option Addr := if cap = p then a else a.map (·.add (p * 32))
theorem slice43lo (a : Option Addr) (n cap p : Nat) (hp : p ≤ n) (w : World) : (Instr.slice 161 (.slice a n cap) (some (.int .i64 (p : Int))) none none).run Tryz.prog w = .ok (.slice (cutH a cap p) (n - p) (cap - p)) w := by
  have he : Tryz.prog.elem 161 = 65 := by kernel_rfl
  have hs : (sizeOf 65).run Tryz.prog w = .ok 32 w := by kernel_rfl
  rw [run_slice_l w 161 a n cap (by rw [he]; exact Tryz.underlying161) .i64 (p : Int) (by omega) (by omega), he, hs]
  simp [Result.andThen_ok, sliced, cutH]
theorem slice43hi (a : Option Addr) (n cap q : Nat) (hq : q ≤ cap) (w : World) : (Instr.slice 161 (.slice a n cap) none (some (.int .i64 (q : Int))) none).run Tryz.prog w = .ok (.slice (cutH a cap 0) q cap) w := by
  have he : Tryz.prog.elem 161 = 65 := by kernel_rfl
  have hs : (sizeOf 65).run Tryz.prog w = .ok 32 w := by kernel_rfl
  rw [run_slice_h w 161 a n cap (by rw [he]; exact Tryz.underlying161) .i64 (q : Int) (by omega) (by omega), he, hs]
  simp [Result.andThen_ok, sliced, cutH]
theorem HashesIn.take {w : World} {a : Option Addr} {n cap : Nat} {hs : List (Nat → Int)} (h : HashesIn w (.slice a n cap) hs) (q : Nat) (hq : q ≤ n) : HashesIn w (.slice (cutH a cap 0) q cap) (hs.take q) := by
  obtain ⟨a', cap', e, hc, hm, hx⟩ := h
  injection e with e1 e2 e3
  subst e1 e2 e3
  have hl : (hs.take q).length = q := by rw [List.length_take]; omega
  refine ⟨_, _, by rw [hl], by rw [hl]; omega, hm, ?_⟩
  by_cases h0 : q = 0
  · left; subst h0; rfl
  · rcases hx with hx | ⟨ab, ao, rfl, hlt, hx⟩
    · subst hx; simp at hq; omega
    · refine .inr ⟨ab, ao, ?_, hlt, fun i hi => ?_⟩
      · unfold cutH
        rw [if_neg (by omega)]
        show some (Addr.add ⟨ab, ao, none⟩ (0 * 32)) = _
        rw [Addr.add_mid]; simp
      · rw [hl] at hi
        have := hx i (by omega)
        have e : (hs.take q).getD i zeroH = hs.getD i zeroH := by simp [List.getD, hi]
        rw [e]; exact this
theorem HashesIn.drop {w : World} {a : Option Addr} {n cap : Nat} {hs : List (Nat → Int)} (h : HashesIn w (.slice a n cap) hs) (p : Nat) (hp : p ≤ n) : HashesIn w (.slice (cutH a cap p) (n - p) (cap - p)) (hs.drop p) := by
  obtain ⟨a', cap', e, hc, hm, hx⟩ := h
  injection e with e1 e2 e3
  subst e1 e2 e3
  have hl : (hs.drop p).length = hs.length - p := by rw [List.length_drop]
  refine ⟨_, _, by rw [hl], by rw [hl]; omega, by omega, ?_⟩
  by_cases h0 : hs.length = p
  · left; exact List.drop_eq_nil_of_le (by omega)
  · rcases hx with hx | ⟨ab, ao, rfl, hlt, hx⟩
    · left; subst hx; simp
    · refine .inr ⟨ab, ao + p * 32, ?_, hlt, fun i hi => ?_⟩
      · unfold cutH
        rw [if_neg (by omega)]
        show some (Addr.add ⟨ab, ao, none⟩ (p * 32)) = _
        rw [Addr.add_mid]
      · rw [hl] at hi
        have := hx (p + i) (by omega)
        have e : (hs.drop p).getD i zeroH = hs.getD (p + i) zeroH := by simp [List.getD, List.getElem?_drop]
        rw [e, show ao + p * 32 + i * 32 = ao + (p + i) * 32 by omega]
        exact this
set_option maxRecDepth 100000 in
set_option maxHeartbeats 400000 in
theorem root_nil (a : Option Addr) (cap : Nat) (w : World) (he : Env w) :
    Calls Tryz.prog 93 #[.slice a 0 cap] w fun e w' => e = .returned (.agg (rowOf .u8 32 (rootF []))) ∧ Below w.heap.size w w' := by
  have HB := Lib.hid (below_alloc w (.cells (rowOf .u8 32 (fun _ => 0)) 65))
  have HE := Lib.hid (he.below HB.out he.lt)
  have HR := Lib.hid (RowAt.new w .u8 32 65 (fun _ => 0))
  have HN := Lib.hid (nil_in (w.alloc (.cells (rowOf .u8 32 (fun _ => 0)) 65)))
  clear he
  go_enter Tryz.func93, Tryz.ntmps93
  go_upto_region 1 with (fail)
  rw [zeros32]
  generalize w.alloc (.cells (rowOf .u8 32 (fun _ => 0)) 65) = w1 at *
  go_wp2_with (first
    | (go_at_call 103; (with_reducible refine (shSum_any _ [] _ HN.out HE.out).mono ?_); rintro e w5 ⟨rfl, HB5⟩; replace HR := Lib.hid (HR.out.below HB5 HR.out.lt); replace HB := Lib.hid (HB.out.trans (HB5.mono HB.out.size)); clear HB5)
    | (refine wpList_store_row rfl 65 (.tmp 2) (.tmp 8) rfl w.heap.size _ rfl rfl 65 _ HR.out (by rw [rowOf_size]; kernel_rfl) (by rw [rowOf_size, rowOf_size]) (rowOf_one _ _ _) ?_))
  refine bodyPost_ret (results_cell_row rfl _ _ w.heap.size 65 _ (0, 0) _ rfl (setRow_heap _ _ _ _ _ _ HR.out) Tryz.underlying65 rfl (by rw [rowOf_size]; kernel_rfl)) rfl ?_
  exact ⟨by rw [rootF_nil, sumF], below_setRow HB.out (Nat.le_refl _) _⟩
set_option maxRecDepth 100000 in
set_option maxHeartbeats 400000 in
theorem root_one (a : Option Addr) (cap : Nat) (h : Nat → Int) (w : World) (hx : HashesIn w (.slice a 1 cap) [h]) :
    Calls Tryz.prog 93 #[.slice a 1 cap] w fun e w' => e = .returned (.agg (rowOf .u8 32 h)) ∧ Below w.heap.size w w' := by
  obtain ⟨a', cap', e, hc, hm, hx⟩ := hx
  injection e with e1 e2 e3
  subst e1 e3
  obtain ⟨ab, ao, rfl, hlt, hx⟩ := hx.resolve_left (by simp)
  have HC := Lib.hid (hx 0 (by simp))
  have HB := Lib.hid (below_alloc w (.cells (rowOf .u8 32 (fun _ => 0)) 65))
  have HR := Lib.hid (RowAt.new w .u8 32 65 (fun _ => 0))
  have HC1 := Lib.hid (World.rangeAt_alloc HC.out (.cells (rowOf .u8 32 (fun _ => 0)) 65))
  clear hx e2 HC
  go_enter Tryz.func93, Tryz.ntmps93
  go_upto_region 1 with (fail)
  rw [zeros32]
  generalize w.alloc (.cells (rowOf .u8 32 (fun _ => 0)) 65) = w1 at *
  go_wp2_with (first
    | (refine wpList_load_mid rfl 65 (.tmp 12) rfl ab ao rfl _ _ (show w1.rangeAt ab ao (rowOf .u8 32 h).toList from by simpa using HC1.out) Tryz.underlying65 rfl (by rw [(rowOf_list _ _ _).2]; kernel_rfl) ?_; rw [Array.toArray_toList])
    | (refine wpList_store_row rfl 65 (.tmp 2) (.tmp 13) rfl w.heap.size _ rfl rfl 65 _ HR.out (by rw [rowOf_size]; kernel_rfl) (by rw [rowOf_size, rowOf_size]) (rowOf_one _ _ _) ?_))
  refine bodyPost_ret (results_cell_row rfl _ _ w.heap.size 65 _ (0, 0) _ rfl (setRow_heap _ _ _ _ _ _ HR.out) Tryz.underlying65 rfl (by rw [rowOf_size]; kernel_rfl)) rfl ?_
  exact ⟨rfl, below_setRow HB.out (Nat.le_refl _) _⟩
set_option maxRecDepth 100000 in
set_option maxHeartbeats 400000 in
theorem root_step (a : Option Addr) (n cap k : Nat) (hs : List (Nat → Int)) (r1 r2 : Nat → Int) (w : World) (hx : HashesIn w (.slice a n cap) hs) (he : Env w) (hn : 2 ≤ n) (hn2 : n ≤ 9223372036854775807) (hnc : n ≤ cap) (hk : k = splitF n) (hkn : k ≤ n)
    (ih1 : ∀ (v : Value) (w : World), HashesIn w v (hs.take k) → Env w → Calls Tryz.prog 93 #[v] w fun e w' => e = .returned (.agg (rowOf .u8 32 r1)) ∧ Below w.heap.size w w')
    (ih2 : ∀ (v : Value) (w : World), HashesIn w v (hs.drop k) → Env w → Calls Tryz.prog 93 #[v] w fun e w' => e = .returned (.agg (rowOf .u8 32 r2)) ∧ Below w.heap.size w w') :
    Calls Tryz.prog 93 #[.slice a n cap] w fun e w' => e = .returned (.agg (rowOf .u8 32 (nodeF r1 r2))) ∧ Below w.heap.size w w' := by
  have HB := Lib.hid (below_alloc w (.cells (rowOf .u8 32 (fun _ => 0)) 65))
  have HE := Lib.hid (he.below HB.out he.lt)
  have HR := Lib.hid (RowAt.new w .u8 32 65 (fun _ => 0))
  have HX := Lib.hid hx
  have HK := Lib.hid (show k ≤ n ∧ k ≤ cap from ⟨hkn, by omega⟩)
  have hsl1 := slice43hi a n cap k HK.out.2
  have hsl2 := slice43lo a n cap k HK.out.1
  have hsplit := split_any n
  have HS := Lib.hid (show ∀ w : World, Calls Tryz.prog 172 #[.int .i64 (n : Int)] w fun e w' => e = .returned (.int .i64 (k : Int)) ∧ w = w' from fun w => by rw [hk]; exact split_any n w hn (by omega))
  have hn0 : ((n : Int) == 0) = false := by rw [beq_eq_false_iff_ne]; omega
  have hn1 : ((n : Int) == 1) = false := by rw [beq_eq_false_iff_ne]; omega
  clear he hx hsplit hk
  go_enter Tryz.func93, Tryz.ntmps93
  go_upto_region 1 with (fail)
  rw [zeros32]
  generalize w.alloc (.cells (rowOf .u8 32 (fun _ => 0)) 65) = w1 at *
  go_upto_region 7 with (go_at_call 172; (with_reducible refine (HS.out _).mono ?_); rintro e w' ⟨rfl, rfl⟩)
  refine wp_region_any (by kernel_rfl) ?_
  change wpAny _ _ _ _ _ _ _ w1.drew
  refine wpAny_take (i := 0) (v := .slice a n cap) rfl (by kernel_rfl) (by kernel_rfl) (by kernel_rfl) (fun _ _ _ h => h) (Or.inl ⟨by rfl, by intro w; go_simp⟩) ?_
  try simp only [List.getElem_toArray, List.getElem_cons_zero, Act.put, List.setIfInBounds_toArray, List.set_cons_zero, List.set_cons_succ]
  refine wpAny_take (i := 1) (v := .int .i64 (k : Int)) rfl (by kernel_rfl) (by kernel_rfl) (by kernel_rfl) (fun _ _ _ h => h) (Or.inl ⟨by rfl, by intro w; go_simp⟩) ?_
  try simp only [List.getElem_toArray, List.getElem_cons_succ, List.getElem_cons_zero, Act.put, List.setIfInBounds_toArray, List.set_cons_zero, List.set_cons_succ]
  refine wpAny_take (i := 2) (v := .slice (cutH a cap 0) k cap) rfl (by kernel_rfl) (by kernel_rfl) (by kernel_rfl) (fun _ _ _ h => h) (Or.inl ⟨by rfl, by intro w; go_simp⟩) ?_
  try simp only [List.getElem_toArray, List.getElem_cons_succ, List.getElem_cons_zero, Act.put, List.setIfInBounds_toArray, List.set_cons_zero, List.set_cons_succ]
  refine wpAny_take (i := 4) (v := .slice a n cap) rfl (by kernel_rfl) (by kernel_rfl) (by kernel_rfl) (fun _ _ _ h => h) (Or.inl ⟨by rfl, by intro w; go_simp⟩) ?_
  try simp only [List.getElem_toArray, List.getElem_cons_succ, List.getElem_cons_zero, Act.put, List.setIfInBounds_toArray, List.set_cons_zero, List.set_cons_succ]
  refine wpAny_take (i := 5) (v := .int .i64 (k : Int)) rfl (by kernel_rfl) (by kernel_rfl) (by kernel_rfl) (fun _ _ _ h => h) (Or.inl ⟨by rfl, by intro w; go_simp⟩) ?_
  try simp only [List.getElem_toArray, List.getElem_cons_succ, List.getElem_cons_zero, Act.put, List.setIfInBounds_toArray, List.set_cons_zero, List.set_cons_succ]
  refine wpAny_take (i := 6) (v := .slice (cutH a cap k) (n - k) (cap - k)) rfl (by kernel_rfl) (by kernel_rfl) (by kernel_rfl) (fun _ _ _ h => h) (Or.inl ⟨by rfl, by intro w; go_simp⟩) ?_
  try simp only [List.getElem_toArray, List.getElem_cons_succ, List.getElem_cons_zero, Act.put, List.setIfInBounds_toArray, List.set_cons_zero, List.set_cons_succ]
  replace HE : Hid (Env w1.drew) := Lib.hid ⟨HE.out.begin, HE.out.consts⟩
  replace HR : Hid (RowAt w1.drew w.heap.size .u8 32 65 (fun _ => 0)) := HR
  replace HB : Hid (Below w.heap.size w w1.drew) := Lib.hid HB.out.drew
  generalize w1.drew = w2 at *
  refine wpAny_ready (rs := [3]) (by kernel_rfl) (by simp) ?_; refine AllReady.cons rfl (fun K hK => ?_) AllReady.nil; rw [if_pos (by rfl)]
  try simp only [List.getElem_toArray, List.getElem_cons_succ, List.getElem_cons_zero]
  go_simp
  refine (ih1 (.slice (cutH a cap 0) k cap) _ ((HX.out.take k HK.out.1).below HB.out) HE.out).mono ?_
  rintro e w3 ⟨rfl, HB3⟩
  replace HR := Lib.hid (HR.out.below HB3 HR.out.lt)
  replace HE := Lib.hid (HE.out.below HB3 HE.out.lt)
  replace HB := Lib.hid (HB.out.trans (HB3.mono HB.out.size))
  clear HB3
  refine hK _ _ ?_
  clear hK K
  try simp only [List.getElem_toArray, List.getElem_cons_succ, List.getElem_cons_zero, Act.put, List.setIfInBounds_toArray, List.set_cons_zero, List.set_cons_succ]
  refine wpAny_ready (rs := [7]) (by kernel_rfl) (by simp) ?_; refine AllReady.cons rfl (fun K hK => ?_) AllReady.nil; rw [if_pos (by rfl)]
  try simp only [List.getElem_toArray, List.getElem_cons_succ, List.getElem_cons_zero]
  go_simp
  refine (ih2 (.slice (cutH a cap k) (n - k) (cap - k)) _ ((HX.out.drop k HK.out.1).below HB.out) HE.out).mono ?_
  rintro e w4 ⟨rfl, HB3⟩
  replace HR := Lib.hid (HR.out.below HB3 HR.out.lt)
  replace HE := Lib.hid (HE.out.below HB3 HE.out.lt)
  replace HB := Lib.hid (HB.out.trans (HB3.mono HB.out.size))
  clear HB3
  refine hK _ _ ?_
  clear hK K
  try simp only [List.getElem_toArray, List.getElem_cons_succ, List.getElem_cons_zero, Act.put, List.setIfInBounds_toArray, List.set_cons_zero, List.set_cons_succ]
  refine wpAny_ready (rs := [8]) (by kernel_rfl) (by simp) ?_; refine AllReady.cons rfl (fun K hK => ?_) AllReady.nil; rw [if_pos (by rfl)]
  try simp only [List.getElem_toArray, List.getElem_cons_succ, List.getElem_cons_zero]
  go_simp
  refine (node_any _ _ _ HE.out).mono ?_
  rintro e w5 ⟨rfl, HB3⟩
  replace HR := Lib.hid (HR.out.below HB3 HR.out.lt)
  replace HB := Lib.hid (HB.out.trans (HB3.mono HB.out.size))
  clear HB3
  refine hK _ _ ?_
  clear hK K
  try simp only [List.getElem_toArray, List.getElem_cons_succ, List.getElem_cons_zero, Act.put, List.setIfInBounds_toArray, List.set_cons_zero, List.set_cons_succ]
  refine wpAny_ready (rs := [9]) (by kernel_rfl) (by simp) ?_; refine AllReady.cons rfl (fun K hK => ?_) AllReady.nil; rw [if_pos (by rfl)]
  refine wp_store_row 65 (.tmp 2) (.tmp 25) rfl w.heap.size _ rfl rfl 65 _ HR.out (by rw [rowOf_size]; kernel_rfl) (by rw [rowOf_size, rowOf_size]) (rowOf_one _ _ _) ?_
  refine hK _ _ ?_
  clear hK K
  try simp only [List.getElem_toArray, List.getElem_cons_succ, List.getElem_cons_zero, Act.put]
  refine wpAny_done (by kernel_rfl) ?_ _
  go_wp2_with (fail)
  refine bodyPost_ret (results_cell_row rfl _ _ w.heap.size 65 _ (0, 0) _ rfl (setRow_heap _ _ _ _ _ _ HR.out) Tryz.underlying65 rfl (by rw [rowOf_size]; kernel_rfl)) rfl ?_
  exact ⟨rfl, below_setRow HB.out (Nat.le_refl _) _⟩
theorem root_any : ∀ (n : Nat) (hs : List (Nat → Int)), hs.length = n → ∀ (v : Value) (w : World), HashesIn w v hs → Env w →
    Calls Tryz.prog 93 #[v] w fun e w' => e = .returned (.agg (rowOf .u8 32 (rootF hs))) ∧ Below w.heap.size w w' := by
  intro n
  induction n using Nat.strongRecOn with
  | _ n ih =>
    intro hs hl v w hx he
    have hx0 := hx
    obtain ⟨a, cap, rfl, hc, hm, _⟩ := hx
    unfold maxLen at hm
    by_cases h0 : n = 0
    · have : hs = [] := List.eq_nil_of_length_eq_zero (by omega)
      subst this
      exact root_nil a cap w he
    · by_cases h1 : n = 1
      · obtain ⟨h, rfl⟩ : ∃ h, hs = [h] := by
          match hs, hl with
          | [h], _ => exact ⟨h, rfl⟩
          | [], hl => exact absurd hl (by simp; omega)
          | _ :: _ :: _, hl => exact absurd hl (by simp; omega)
        have := root_one a cap h w hx0
        rw [rootF_one [h] rfl]
        exact this
      · have sp := splitF_spec hs.length (by omega) (by omega)
        rw [rootF_step hs (by omega) ⟨sp.1, sp.2.1⟩]
        exact root_step a hs.length cap (splitF hs.length) hs _ _ w hx0 he (by omega) (by omega) hc rfl (by omega)
          (fun v w => ih (splitF hs.length) (by omega) (hs.take (splitF hs.length)) (by rw [List.length_take]; omega) v w)
          (fun v w => ih (hs.length - splitF hs.length) (by omega) (hs.drop (splitF hs.length)) (by rw [List.length_drop]) v w)
end Go.Proofs.YtanekacpalpcbaaGreatDoor
namespace Go.Proofs.YtanekacpalpcbaaGreatDoor
set_option linter.unusedVariables false
set_option linter.unusedSimpArgs false
open Go.RowKit
def flatC (ps : List (Nat → Int)) : List Value := ps.flatMap fun h => (rowOf .u8 32 h).toList
theorem flatC_snoc (ps : List (Nat → Int)) (h : Nat → Int) : flatC (ps ++ [h]) = flatC ps ++ (rowOf .u8 32 h).toList := by simp [flatC]
theorem grown_of_below {w w' : World} (h : Below w.heap.size w w') : w.grownBy w' none := ⟨h.os, h.tape, h.output, h.size, fun k hk _ => h.block k hk⟩
theorem own_ne {w : World} {B n : Nat} {v : Value} {xs : List Value} (_h : w.ownsRow B 65 32 v n xs) : v.ownBlock = none ∨ v.ownBlock ≠ none := by
  cases v.ownBlock with
  | none => exact .inl rfl
  | some k => exact .inr (by simp)
/-- the post of siblings -/
def SibPost (ps : List (Nat → Int)) (w : World) (e : Ending) (w' : World) : Prop := ∃ r, e = .returned r ∧ w'.ownsRow w.heap.size 65 32 r ps.length (flatC ps) ∧ Below w.heap.size w w'
theorem Tryz.info25 : (Tryz.prog.info? 65).map (fun i => (i.zero, i.size, i.bytes)) = some (some (.agg (rowOf .u8 32 (fun _ => 0))), 32, 32) := by kernel_rfl
theorem build32 (f : Nat → Int) : Array.foldl (fun (cs : Array Value) (x : Value × Nat) => cs.setIfInBounds x.snd x.fst) #[Value.int IntKind.u8 0, Value.int IntKind.u8 0, Value.int IntKind.u8 0, Value.int IntKind.u8 0, Value.int IntKind.u8 0, Value.int IntKind.u8 0, Value.int IntKind.u8 0, Value.int IntKind.u8 0, Value.int IntKind.u8 0, Value.int IntKind.u8 0, Value.int IntKind.u8 0, Value.int IntKind.u8 0, Value.int IntKind.u8 0, Value.int IntKind.u8 0, Value.int IntKind.u8 0, Value.int IntKind.u8 0, Value.int IntKind.u8 0, Value.int IntKind.u8 0, Value.int IntKind.u8 0, Value.int IntKind.u8 0, Value.int IntKind.u8 0, Value.int IntKind.u8 0, Value.int IntKind.u8 0, Value.int IntKind.u8 0, Value.int IntKind.u8 0, Value.int IntKind.u8 0, Value.int IntKind.u8 0, Value.int IntKind.u8 0, Value.int IntKind.u8 0, Value.int IntKind.u8 0, Value.int IntKind.u8 0, Value.int IntKind.u8 0] ((rowOf IntKind.u8 32 f).zipIdx 0) 0 (rowOf IntKind.u8 32 f).size = rowOf .u8 32 f := by kernel_rfl
/-- the post of Path -/
def PathPost (ps : List (Nat → Int)) (w : World) (e : Ending) (w' : World) : Prop := ∃ r, e = .returned (.tuple #[r, .nilIface]) ∧ w'.ownsRow w.heap.size 65 32 r ps.length (flatC ps) ∧ Below w.heap.size w w'
end Go.Proofs.YtanekacpalpcbaaGreatDoor
namespace Go.Proofs.YtanekacpalpcbaaGreatDoor
set_option linter.unusedVariables false
set_option linter.unusedSimpArgs false
open Go.RowKit
theorem turns_len (n i : Nat) (hn : n ≤ 9223372036854775807) (hi : i < n) : (turnsF i n).length ≤ 63 := by
  have h := path_turns n (List.replicate n zeroH) i (by simp) (by omega) hi
  rw [← h]
  exact path_depth 63 _ i (by simp; omega) (by simp; omega) (by simpa using hi)
def TurnsPost (ts : List Bool) (w : World) (e : Ending) (w' : World) : Prop := ∃ r, e = .returned r ∧ w'.ownsRow w.heap.size 4 1 r ts.length (ts.map Value.bool) ∧ Below w.heap.size w w'
theorem Tryz.info4 : (Tryz.prog.info? 4).map (fun i => (i.zero, i.size, i.bytes)) = some (some (.bool false), 1, 1) := by kernel_rfl
/-- what holds at the head of each round -/
def TurnsRel (i n : Nat) (w : World) (a b v : Value) (wr : World) : Prop :=
  ∃ (j m : Nat) (ts : List Bool), a = .int .i64 (j : Int) ∧ b = .int .i64 (m : Int) ∧ j < m ∧ m ≤ n ∧ ts ++ turnsF j m = turnsF i n ∧ wr.ownsRow w.heap.size 4 1 v ts.length (ts.map Value.bool) ∧ Below w.heap.size w wr
theorem new_bool (w : World) (b : Bool) (x : Nat) (u : Value) (h : ([.bool b] : List Value)[x]? = some u) : (w.alloc (.cells #[.bool b] 4)).cell? ((⟨w.heap.size, 0, none⟩ : Addr).add x) = some u := by
  rw [Addr.add_mid, Nat.zero_add, cell_of_row _ _ _ _ _ _ (heap_alloc_new w _)]
  match x, h with
  | 0, h => cases h; rfl
end Go.Proofs.YtanekacpalpcbaaGreatDoor
namespace Go.Proofs.YtanekacpalpcbaaGreatDoor
set_option linter.unusedVariables false
set_option linter.unusedSimpArgs false
open Go.RowKit
/-- r is a slice of the turns ts, apart from block g -/
def TurnsAt (w : World) (g : Nat) (r : Value) (ts : List Bool) : Prop :=
  ∃ a cap, r = .slice a ts.length cap ∧ (ts = [] ∨ ∃ tb, a = some ⟨tb, 0, none⟩ ∧ tb ≠ g ∧ ∀ x b, ts[x]? = some b → w.cell? ⟨tb, x, none⟩ = some (.bool b))
theorem TurnsAt.of_own {w : World} {B : Nat} {r : Value} {ts : List Bool} (h : w.ownsRow B 4 1 r ts.length (ts.map Value.bool)) (g : Nat) (hg : w.heap.size ≤ g) : TurnsAt w g r ts := by
  rcases h.2 with ⟨rfl, h0⟩ | ⟨tb, cap, cur, rfl, _, hh, _⟩
  · exact ⟨none, 0, by rw [h0], .inl (List.eq_nil_of_length_eq_zero h0)⟩
  · refine ⟨_, cap, rfl, .inr ⟨tb, rfl, ?_, fun x b hx => ?_⟩⟩
    · have := (Array.getElem?_eq_some_iff.1 hh).1; omega
    · have := h.cells (g := tb) rfl x (.bool b) (by rw [List.getElem?_map, hx]; rfl)
      rw [Addr.add_mid, Nat.zero_add] at this; exact this
theorem TurnsAt.only {w w' : World} {g : Nat} {r : Value} {ts : List Bool} (h : TurnsAt w g r ts) (ho : Only g w w') : TurnsAt w' g r ts := by
  obtain ⟨a, cap, rfl, hx⟩ := h
  refine ⟨a, cap, rfl, ?_⟩
  rcases hx with hx | ⟨tb, rfl, hne, hx⟩
  · exact .inl hx
  · exact .inr ⟨tb, rfl, hne, fun x b hb => ho.cell (hx x b hb) hne⟩
/-- what Fold knows of memory -/
structure FoldM (w wr : World) (g : Nat) (r : Value) (ts : List Bool) (s : Nat → Int) : Prop where
  res : RowAt wr (w.heap.size + 1) .u8 32 65 (fun _ => 0)
  sum : RowAt wr g .u8 32 65 s
  gg : w.heap.size + 1 < g
  turns : TurnsAt wr g r ts
  below : Below w.heap.size w wr
  env : Env wr
  lo : 4 < w.heap.size
theorem FoldM.only {w wr w2 : World} {g : Nat} {r : Value} {ts : List Bool} {s s' : Nat → Int} (m : FoldM w wr g r ts s) (ho : Only g wr w2) (hs : RowAt w2 g .u8 32 65 s') : FoldM w w2 g r ts s' :=
  ⟨(ho.block _ m.res.lt (by have := m.gg; omega)).trans m.res, hs, m.gg, m.turns.only ho, m.below.trans (ho.below (by have := m.gg; omega) m.below.size), ho.env m.env (by have := m.gg; have := m.lo; omega), m.lo⟩
theorem FoldM.calls {w wr w2 : World} {g : Nat} {r : Value} {ts : List Bool} {s : Nat → Int} (m : FoldM w wr g r ts s) (hb : Below wr.heap.size wr w2) : FoldM w w2 g r ts s :=
  m.only (Only.of_below hb) (m.sum.below hb m.sum.lt)
theorem fold_next (s0 : Nat → Int) (ts : List Bool) (ps : List (Nat → Int)) (L k : Nat) (t : Bool) (p : Nat → Int) (h1 : ts.length = L) (h2 : ps.length = L) (hk : k < L) (ht : ts[L - 1 - k]? = some t) (hp : ps[k]? = some p) :
    foldT s0 ((ts.reverse.zip ps).take (k + 1)) = foldStep (foldT s0 ((ts.reverse.zip ps).take k)) (t, p) := by
  have e : (ts.reverse.zip ps)[k]? = some (t, p) := by
    rw [List.getElem?_zip_eq_some]
    refine ⟨?_, hp⟩
    rw [List.getElem?_reverse (by omega), h1]; exact ht
  have e2 : (ts.reverse.zip ps).take (k + 1) = (ts.reverse.zip ps).take k ++ [(t, p)] := by
    rw [List.take_add_one, e]; rfl
  rw [e2, foldT, List.foldl_append]; rfl
theorem path_cell {w wr : World} {a : Option Addr} {L cap : Nat} {ps : List (Nat → Int)} (h : HashesIn w (.slice a L cap) ps) (k : Nat) (p : Nat → Int) (hp : ps[k]? = some p) (hb : Below w.heap.size w wr) :
    ∃ ab ao, a = some ⟨ab, ao, none⟩ ∧ wr.rangeAt ab (ao + k * 32) (rowOf .u8 32 p).toList := by
  obtain ⟨a', cap', e, hc, hm, hx⟩ := h
  injection e with e1 e2 e3
  subst e1
  rcases hx with hx | ⟨ab, ao, rfl, hl, hx⟩
  · subst hx; simp at hp
  · have hk : k < ps.length := (List.getElem?_eq_some_iff.1 hp).1
    refine ⟨ab, ao, rfl, ?_⟩
    have := rangeAt_below (hx k hk) hb hl
    have e : ps.getD k zeroH = p := by simp [List.getD, hp]
    rw [e] at this; exact this
theorem turn_cell {w : World} {a : Option Addr} {g L cap : Nat} {ts : List Bool} (h : TurnsAt w g (.slice a L cap) ts) (k : Nat) (t : Bool) (hp : ts[k]? = some t) :
    ∃ tb, a = some ⟨tb, 0, none⟩ ∧ w.cell? ⟨tb, k, none⟩ = some (.bool t) := by
  obtain ⟨a', cap', e, hx⟩ := h
  injection e with e1 e2 e3
  subst e1
  rcases hx with hx | ⟨tb, rfl, _, hx⟩
  · subst hx; simp at hp
  · exact ⟨tb, rfl, hx k t hp⟩
end Go.Proofs.YtanekacpalpcbaaGreatDoor
