/- Part 31 of the proof. -/
import Derived.Deep.RegionLaw
import Derived.Laws.ResultCell
import Derived.Laws.IdiomCopy
import Derived.Laws.MakeOwn
import Derived.Lib.AppendStr
import Derived.Maps.AppendAt
import Derived.Laws.BitsAllLaws
import Derived.Test.YtejglhlodfhgkaaGreatDoorXv1
import Derived.Test.YtejglhlodfhgkaaGreatDoorXv3
import Derived.Test.YtejglhlodfhgkaaGreatDoorXv6
import Derived.Test.YtejglhlodfhgkaaGreatDoorXv12
import Derived.Test.YtejglhlodfhgkaaGreatDoorXv30
namespace Go.Proofs.YtejglhlodfhgkaaGreatDoor
set_option linter.unusedVariables false
set_option linter.unusedSimpArgs false
open Go.RowKit
theorem slice25all (b : Nat) (w : World) : (Instr.sliceAt 53 (.pointer (some ⟨b, 0, none⟩)) none none none).run Tryz.prog w = .ok (.slice (some ⟨b, 0, none⟩) 32 32) w := by
  have ha : Tryz.prog.arrayLen 53 = 32 := by kernel_rfl
  have he : Tryz.prog.elem 53 = 5 := by kernel_rfl
  have hs : (sizeOf 5).run Tryz.prog w = .ok 1 w := by kernel_rfl
  rw [run_sliceAt_array_all w 53 ⟨b, 0, none⟩ (by rw [ha, he]; exact Tryz.underlying53), ha, he, hs]
  simp only [Result.andThen_ok, slicedAt]
  rw [if_neg (by omega), Addr.add_mid]
theorem bytesOf_length (a : Nat → Int) : (bytesOf a).length = 32 := by simp [bytesOf]
theorem RowAt.bytes {w : World} {b g : Nat} {a : Nat → Int} (h : RowAt w b .u8 32 53 a) (hne : b ≠ g) : BytesAt w g (.slice (some ⟨b, 0, none⟩) 32 32) (bytesOf a) := by
  refine ⟨_, _, by rw [bytesOf_length], by rw [bytesOf_length]; omega, by rw [bytesOf_length]; unfold maxLen; omega, .inr ⟨b, 0, rfl, hne, fun i x hi => ?_⟩⟩
  have hil : i < 32 := by have := (List.getElem?_eq_some_iff.1 hi).1; rw [bytesOf_length] at this; exact this
  rw [Nat.zero_add, h.cell i hil]
  simp [bytesOf, hil] at hi
  rw [hi]
theorem shSumM_h (g : Nat) (h : HS) (w : World) (hh : HashAt w g h.s h.b h.n) (h0 : 0 ≤ h.n ∧ h.n < 18446744073709551616) (hk : Consts w) :
    Calls Tryz.prog 143 #[.pointer (some ⟨g, 0, none⟩)] w fun e w' => e = .returned (.agg (rowOf .u8 32 (hsum h))) ∧ Below w.heap.size w w' :=
  sumM_any g h.s h.b h.n w hh h0.1 h0.2 hk
theorem shWrite_h (g : Nat) (h : HS) (xs : List Int) (v : Value) (w : World) (hh : HashAt w g h.s h.b h.n) (h0 : 0 ≤ h.n ∧ h.n < 18446744073709551616) (hx : BytesAt w g v xs) (he : Env w) (hg : 3 < g) :
    Calls Tryz.prog 142 #[.pointer (some ⟨g, 0, none⟩), v] w fun e w' => e = .returned (.tuple #[]) ∧ HashAt w' g (putF h xs).s (putF h xs).b (putF h xs).n ∧ Only g w w' :=
  shWrite_any g h.s h.b h.n xs v w hh h0.1 h0.2 hx he hg
/-- what Node knows of memory -/
structure NodeM (w w' : World) (g : Nat) (a b : Nat → Int) (h : HS) : Prop where
  ra : RowAt w' w.heap.size .u8 32 53 a
  rb : RowAt w' (w.heap.size + 1) .u8 32 53 b
  re : RowAt w' (w.heap.size + 1 + 1) .u8 32 53 (fun _ => 0)
  hash : HashAt w' g h.s h.b h.n
  gg : w.heap.size + 1 + 1 < g
  bounds : 0 ≤ h.n ∧ h.n < 18446744073709551616
  below : Below w.heap.size w w'
  env : Env w'
theorem NodeM.wrote {w w' w2 : World} {g : Nat} {a b : Nat → Int} {h : HS} (HC : 3 < w.heap.size) (m : NodeM w w' g a b h) {xs : List Int} (hh : HashAt w2 g (putF h xs).s (putF h xs).b (putF h xs).n) (ho : Only g w' w2) : NodeM w w2 g a b (putF h xs) :=
  ⟨(ho.block _ m.ra.lt (by have := m.gg; omega)).trans m.ra, (ho.block _ m.rb.lt (by have := m.gg; omega)).trans m.rb, (ho.block _ m.re.lt (by have := m.gg; omega)).trans m.re, hh, m.gg, putF_bounds h m.bounds.1 m.bounds.2 xs,
   m.below.trans (ho.below (by have := m.gg; omega) m.below.size), ho.env m.env (by have := m.gg; have := HC; omega)⟩
theorem NodeM.calls {w w' w2 : World} {g : Nat} {a b : Nat → Int} {h : HS} (m : NodeM w w' g a b h) (hb : Below w'.heap.size w' w2) : NodeM w w2 g a b h :=
  ⟨m.ra.below hb m.ra.lt, m.rb.below hb m.rb.lt, m.re.below hb m.re.lt, m.hash.below hb m.hash.lt, m.gg, m.bounds, m.below.trans (hb.mono m.below.size), m.env.below hb m.env.lt⟩
theorem node_start (w : World) (a b : Nat → Int) (he : Env w) :
    NodeM w ((((w.alloc (.cells (rowOf .u8 32 a) 53)).alloc (.cells (rowOf .u8 32 b) 53)).alloc (.cells (rowOf .u8 32 (fun _ => 0)) 53)).alloc (.cells (hashCells BT (fun _ => 0) 0) 282)) (w.heap.size + 1 + 1 + 1) a b h0 := by
  have hb : Below w.heap.size w ((((w.alloc (.cells (rowOf .u8 32 a) 53)).alloc (.cells (rowOf .u8 32 b) 53)).alloc (.cells (rowOf .u8 32 (fun _ => 0)) 53)).alloc (.cells (hashCells BT (fun _ => 0) 0) 282)) :=
    (((below_alloc w _).trans ((below_alloc _ _).mono (by simp))).trans ((below_alloc _ _).mono (by simp; omega))).trans ((below_alloc _ _).mono (by simp; omega))
  refine ⟨((RowAt.new w _ _ _ _).alloc _).alloc _ |>.alloc _, ?_, ?_, ?_, by omega, by decide, hb, he.below hb he.lt⟩
  · have := ((RowAt.new (w.alloc (.cells (rowOf .u8 32 a) 53)) .u8 32 53 b).alloc (.cells (rowOf .u8 32 (fun _ => 0)) 53)).alloc (.cells (hashCells BT (fun _ => 0) 0) 282)
    rw [shSize_alloc] at this; exact this
  · have := (RowAt.new ((w.alloc (.cells (rowOf .u8 32 a) 53)).alloc (.cells (rowOf .u8 32 b) 53)) .u8 32 53 (fun _ => 0)).alloc (.cells (hashCells BT (fun _ => 0) 0) 282)
    rw [shSize_alloc, shSize_alloc] at this; exact this
  · have := heap_alloc_new (((w.alloc (.cells (rowOf .u8 32 a) 53)).alloc (.cells (rowOf .u8 32 b) 53)).alloc (.cells (rowOf .u8 32 (fun _ => 0)) 53)) (.cells (hashCells BT (fun _ => 0) 0) 282)
    rw [shSize_alloc, shSize_alloc, shSize_alloc] at this; exact this
theorem one_inN (w : World) (g : Nat) (hg : g < w.heap.size) (x : Int) : BytesAt (w.alloc (.cells #[.int .u8 x] 5)) g (.slice (some ⟨w.heap.size, 0, none⟩) 1 1) [x] := by
  refine ⟨_, _, rfl, by simp, by simp [maxLen], .inr ⟨_, _, rfl, by omega, fun i y hi => ?_⟩⟩
  rw [Nat.zero_add, cell_of_row _ _ _ _ _ _ (heap_alloc_new w _)]
  match i, hi with
  | 0, hi => cases hi; rfl
set_option maxRecDepth 100000 in
set_option maxHeartbeats 400000 in
theorem node_any (a b : Nat → Int) (w : World) (he : Env w) :
    Calls Tryz.prog 241 #[.agg (rowOf .u8 32 a), .agg (rowOf .u8 32 b)] w fun e w' => e = .returned (.agg (rowOf .u8 32 (nodeF a b))) ∧ Below w.heap.size w w' := by
  have M := Lib.hid (node_start w a b he)
  have HE := Lib.hid (he.below (((below_alloc w (.cells (rowOf .u8 32 a) 53)).trans ((below_alloc _ (.cells (rowOf .u8 32 b) 53)).mono (by simp))).trans ((below_alloc _ (.cells (rowOf .u8 32 (fun _ => 0)) 53)).mono (by simp; omega))) he.lt)
  have HC := Lib.hid he.lt
  clear he
  go_enter Tryz.func241, Tryz.ntmps241
  go_upto_region 1 with (fail)
  rw [zeros32]
  go_upto_region 2 with (go_at_call 141; (with_reducible refine (shNew_any _ HE.out).mono ?_); rintro e w' ⟨rfl, rfl⟩)
  generalize (((w.alloc (.cells (rowOf .u8 32 a) 53)).alloc (.cells (rowOf .u8 32 b) 53)).alloc (.cells (rowOf .u8 32 (fun _ => 0)) 53)).alloc (.cells (hashCells BT (fun _ => 0) 0) 282) = w1 at *
  obtain ⟨g, hg⟩ : ∃ g, g = w.heap.size + 1 + 1 + 1 := ⟨_, rfl⟩
  rw [← hg] at M ⊢
  clear hg HE
  have M1 := Lib.hid (M.out.calls (below_alloc w1 (.cells #[.int .u8 1] 5)))
  have HX := Lib.hid (one_inN w1 g M.out.hash.lt 1)
  have HG := Lib.hid (show 3 < g from by have := M.out.gg; have := HC.out; omega)
  go_upto_region 3 with (go_at_call 142; (with_reducible refine (shWrite_h g h0 [1] _ _ M1.out.hash M1.out.bounds HX.out M1.out.env HG.out).mono ?_); rintro e w2 ⟨rfl, HH, HO⟩; replace HH := Lib.hid HH; replace HO := Lib.hid HO)
  have M2 := Lib.hid (M1.out.wrote HC.out HH.out HO.out)
  clear M M1 HX HH HO
  have hsl := slice25all w.heap.size
  have HX := Lib.hid (M2.out.ra.bytes (g := g) (by have := M2.out.gg; omega))
  go_upto_region 4 with (go_at_call 142; (with_reducible refine (shWrite_h g _ _ _ _ M2.out.hash M2.out.bounds HX.out M2.out.env HG.out).mono ?_); rintro e w3 ⟨rfl, HH, HO⟩; replace HH := Lib.hid HH; replace HO := Lib.hid HO)
  have M3 := Lib.hid (M2.out.wrote HC.out HH.out HO.out)
  clear M2 HX HH HO hsl
  have hsl := slice25all (w.heap.size + 1)
  have HX := Lib.hid (M3.out.rb.bytes (g := g) (by have := M3.out.gg; omega))
  go_upto_region 5 with (go_at_call 142; (with_reducible refine (shWrite_h g _ _ _ _ M3.out.hash M3.out.bounds HX.out M3.out.env HG.out).mono ?_); rintro e w4 ⟨rfl, HH, HO⟩; replace HH := Lib.hid HH; replace HO := Lib.hid HO)
  have M4 := Lib.hid (M3.out.wrote HC.out HH.out HO.out)
  clear M3 HX HH HO hsl
  go_wp2_with (first
    | (go_at_call 143; (with_reducible refine (shSumM_h g _ _ M4.out.hash M4.out.bounds M4.out.env.consts).mono ?_); rintro e w5 ⟨rfl, HB5⟩; replace M4 := Lib.hid (M4.out.calls HB5); clear HB5)
    | (refine wpList_store_row rfl 53 (.tmp 4) (.tmp 17) rfl (w.heap.size + 1 + 1) _ rfl rfl 53 _ M4.out.re (by rw [rowOf_size]; kernel_rfl) (by rw [rowOf_size, rowOf_size]) (rowOf_one _ _ _) ?_))
  refine bodyPost_ret (results_cell_row rfl _ _ (w.heap.size + 1 + 1) 53 _ (0, 0) _ rfl (setRow_heap _ _ _ _ _ _ M4.out.re) Tryz.underlying53 rfl (by rw [rowOf_size]; kernel_rfl)) rfl ?_
  refine ⟨?_, below_setRow M4.out.below (by omega) _⟩
  rw [← putF_append, ← putF_append]
  rfl
set_option maxRecDepth 100000 in
theorem split_any (n : Nat) (w : World) (h : 2 ≤ n) (hn : n < 9223372036854775808) : Calls Tryz.prog 256 #[.int .i64 (n : Int)] w fun e w' => e = .returned (.int .i64 (splitF n : Int)) ∧ w = w' := by
  have hs := splitF_spec n h (by omega)
  obtain ⟨L, hL⟩ : ∃ L, Lib.bitLen (n - 1) = L := ⟨_, rfl⟩
  have HS := Lib.hid (show splitF n = 2 ^ (L - 1) by unfold splitF; rw [hL])
  rw [hL] at hs
  have n0 : ((n : Int) - 1).toNat = n - 1 := by omega
  have HP := Lib.hid hs
  obtain ⟨_, _, _, hl1, hl2⟩ := hs
  have n1 : ((L : Int) - 1).toNat = L - 1 := by omega
  have n2 : 0 ≤ ((L : Int) - 1) := by omega
  replace hn := Lib.hid hn
  have HB := Lib.hid (show (0 : Int) ≤ (n : Int) - 1 ∧ (n : Int) - 1 ≤ 18446744073709551615 from ⟨by omega, by have := hn.out; omega⟩)
  replace hL := Lib.hid hL
  have hnI : n ≤ 9223372036854775807 := by have := hn.out; omega
  go_enter Tryz.func256, Tryz.ntmps256
  go_wp2_with (go_at_call 261; (with_reducible refine (Tryz.bits_Len _ _ HB.out.1 HB.out.2).mono ?_); rintro e w' ⟨rfl, rfl⟩; rw [n0, hL.out])
  go_ret
  have e : (2 : Int) ^ (L - 1) = ((splitF n : Nat) : Int) := by rw [HS.out]; simp
  refine ⟨?_, rfl⟩
  have e2 : wrap64 ((2 : Int) ^ (L - 1)) = ((splitF n : Nat) : Int) := by rw [e]; exact IntWalk.wrap64_in _ ⟨by omega, by have := HP.out.2.1; omega⟩
  exact congrArg (fun x => Ending.returned (Value.int IntKind.i64 x)) e2
end Go.Proofs.YtejglhlodfhgkaaGreatDoor
namespace Go.Proofs.YtejglhlodfhgkaaGreatDoor
set_option linter.unusedVariables false
set_option linter.unusedSimpArgs false
open Go.RowKit
def zeroH : Nat → Int := fun _ => 0
/-- v is a slice of the hashes hs -/
def HashesIn (w : World) (v : Value) (hs : List (Nat → Int)) : Prop :=
  ∃ a cap, v = .slice a hs.length cap ∧ hs.length ≤ cap ∧ cap ≤ maxLen ∧ (hs = [] ∨ ∃ ab ao, a = some ⟨ab, ao, none⟩ ∧ ab < w.heap.size ∧ ∀ i, i < hs.length → w.rangeAt ab (ao + i * 32) (rowOf .u8 32 (hs.getD i zeroH)).toList)
theorem rangeAt_below {w w' : World} {B b o : Nat} {cs : List Value} (h : w.rangeAt b o cs) (hb : Below B w w') (hB : b < B) : w'.rangeAt b o cs := fun j v hv => (hb.cell (p := ⟨b, o + j, none⟩) hB).trans (h j v hv)
theorem HashesIn.below {w w' : World} {v : Value} {hs : List (Nat → Int)} (h : HashesIn w v hs) (hb : Below w.heap.size w w') : HashesIn w' v hs := by
  obtain ⟨a, cap, rfl, hc, hm, hx⟩ := h
  refine ⟨a, cap, rfl, hc, hm, ?_⟩
  rcases hx with hx | ⟨ab, ao, rfl, hl, hx⟩
  · exact .inl hx
  · exact .inr ⟨ab, ao, rfl, Nat.lt_of_lt_of_le hl hb.size, fun i hi => rangeAt_below (hx i hi) hb hl⟩
def cutH (a : Option Addr) (cap p : Nat) : Option Addr := if cap = p then a else a.map (·.add (p * 32))
theorem slice43lo (a : Option Addr) (n cap p : Nat) (hp : p ≤ n) (w : World) : (Instr.slice 141 (.slice a n cap) (some (.int .i64 (p : Int))) none none).run Tryz.prog w = .ok (.slice (cutH a cap p) (n - p) (cap - p)) w := by
  have he : Tryz.prog.elem 141 = 53 := by kernel_rfl
  have hs : (sizeOf 53).run Tryz.prog w = .ok 32 w := by kernel_rfl
  rw [run_slice_l w 141 a n cap (by rw [he]; exact Tryz.underlying141) .i64 (p : Int) (by omega) (by omega), he, hs]
  simp [Result.andThen_ok, sliced, cutH]
theorem slice43hi (a : Option Addr) (n cap q : Nat) (hq : q ≤ cap) (w : World) : (Instr.slice 141 (.slice a n cap) none (some (.int .i64 (q : Int))) none).run Tryz.prog w = .ok (.slice (cutH a cap 0) q cap) w := by
  have he : Tryz.prog.elem 141 = 53 := by kernel_rfl
  have hs : (sizeOf 53).run Tryz.prog w = .ok 32 w := by kernel_rfl
  rw [run_slice_h w 141 a n cap (by rw [he]; exact Tryz.underlying141) .i64 (q : Int) (by omega) (by omega), he, hs]
  simp [Result.andThen_ok, sliced, cutH]
theorem HashesIn.take {w : World} {a : Option Addr} {n cap : Nat} {hs : List (Nat → Int)} (h : HashesIn w (.slice a n cap) hs) (q : Nat) (hq : q ≤ n) : HashesIn w (.slice (cutH a cap 0) q cap) (hs.take q) := by
  obtain ⟨a', cap', e, hc, hm, hx⟩ := h
  injection e with e1 e2 e3
  subst e1 e2 e3
  have hl : (hs.take q).length = q := by rw [List.length_take]; omega
  refine ⟨_, _, by rw [hl], by rw [hl]; omega, hm, ?_⟩
  by_cases h0 : q = 0
  · left; subst h0; rfl
  · rcases hx with hx | ⟨ab, ao, rfl, hlt, hx⟩
    · subst hx; simp at hq; omega
    · refine .inr ⟨ab, ao, ?_, hlt, fun i hi => ?_⟩
      · unfold cutH
        rw [if_neg (by omega)]
        show some (Addr.add ⟨ab, ao, none⟩ (0 * 32)) = _
        rw [Addr.add_mid]; simp
      · rw [hl] at hi
        have := hx i (by omega)
        have e : (hs.take q).getD i zeroH = hs.getD i zeroH := by simp [List.getD, hi]
        rw [e]; exact this
theorem HashesIn.drop {w : World} {a : Option Addr} {n cap : Nat} {hs : List (Nat → Int)} (h : HashesIn w (.slice a n cap) hs) (p : Nat) (hp : p ≤ n) : HashesIn w (.slice (cutH a cap p) (n - p) (cap - p)) (hs.drop p) := by
  obtain ⟨a', cap', e, hc, hm, hx⟩ := h
  injection e with e1 e2 e3
  subst e1 e2 e3
  have hl : (hs.drop p).length = hs.length - p := by rw [List.length_drop]
  refine ⟨_, _, by rw [hl], by rw [hl]; omega, by omega, ?_⟩
  by_cases h0 : hs.length = p
  · left; exact List.drop_eq_nil_of_le (by omega)
  · rcases hx with hx | ⟨ab, ao, rfl, hlt, hx⟩
    · left; subst hx; simp
    · refine .inr ⟨ab, ao + p * 32, ?_, hlt, fun i hi => ?_⟩
      · unfold cutH
        rw [if_neg (by omega)]
        show some (Addr.add ⟨ab, ao, none⟩ (p * 32)) = _
        rw [Addr.add_mid]
      · rw [hl] at hi
        have := hx (p + i) (by omega)
        have e : (hs.drop p).getD i zeroH = hs.getD (p + i) zeroH := by simp [List.getD, List.getElem?_drop]
        rw [e, show ao + p * 32 + i * 32 = ao + (p + i) * 32 by omega]
        exact this
end Go.Proofs.YtejglhlodfhgkaaGreatDoor
namespace Go.Proofs.YtejglhlodfhgkaaGreatDoor
set_option linter.unusedVariables false
set_option linter.unusedSimpArgs false
open Go.RowKit
def flatC (ps : List (Nat → Int)) : List Value := ps.flatMap fun h => (rowOf .u8 32 h).toList
theorem flatC_snoc (ps : List (Nat → Int)) (h : Nat → Int) : flatC (ps ++ [h]) = flatC ps ++ (rowOf .u8 32 h).toList := by simp [flatC]
theorem grown_of_below {w w' : World} (h : Below w.heap.size w w') : w.grownBy w' none := ⟨h.os, h.tape, h.output, h.size, fun k hk _ => h.block k hk⟩
theorem own_ne {w : World} {B n : Nat} {v : Value} {xs : List Value} (_h : w.ownsRow B 53 32 v n xs) : v.ownBlock = none ∨ v.ownBlock ≠ none := by
  cases v.ownBlock with
  | none => exact .inl rfl
  | some k => exact .inr (by simp)
theorem Tryz.info25 : (Tryz.prog.info? 53).map (fun i => (i.zero, i.size, i.bytes)) = some (some (.agg (rowOf .u8 32 (fun _ => 0))), 32, 32) := by kernel_rfl
end Go.Proofs.YtejglhlodfhgkaaGreatDoor
namespace Go.Proofs.YtejglhlodfhgkaaGreatDoor
set_option linter.unusedVariables false
set_option linter.unusedSimpArgs false
open Go.RowKit
theorem turns_len (n i : Nat) (hn : n ≤ 9223372036854775807) (hi : i < n) : (turnsF i n).length ≤ 63 := by
  have h := path_turns n (List.replicate n zeroH) i (by simp) (by omega) hi
  rw [← h]
  exact path_depth 63 _ i (by simp; omega) (by simp; omega) (by simpa using hi)
def TurnsPost (ts : List Bool) (w : World) (e : Ending) (w' : World) : Prop := ∃ r, e = .returned r ∧ w'.ownsRow w.heap.size 4 1 r ts.length (ts.map Value.bool) ∧ Below w.heap.size w w'
theorem Tryz.info4 : (Tryz.prog.info? 4).map (fun i => (i.zero, i.size, i.bytes)) = some (some (.bool false), 1, 1) := by kernel_rfl
/-- what holds at the head of each round -/
def TurnsRel (i n : Nat) (w : World) (a b v : Value) (wr : World) : Prop :=
  ∃ (j m : Nat) (ts : List Bool), a = .int .i64 (j : Int) ∧ b = .int .i64 (m : Int) ∧ j < m ∧ m ≤ n ∧ ts ++ turnsF j m = turnsF i n ∧ wr.ownsRow w.heap.size 4 1 v ts.length (ts.map Value.bool) ∧ Below w.heap.size w wr
theorem new_bool (w : World) (b : Bool) (x : Nat) (u : Value) (h : ([.bool b] : List Value)[x]? = some u) : (w.alloc (.cells #[.bool b] 4)).cell? ((⟨w.heap.size, 0, none⟩ : Addr).add x) = some u := by
  rw [Addr.add_mid, Nat.zero_add, cell_of_row _ _ _ _ _ _ (heap_alloc_new w _)]
  match x, h with
  | 0, h => cases h; rfl
set_option maxRecDepth 100000 in
set_option maxHeartbeats 400000 in
theorem turns_any (i n : Nat) (w : World) (hi : i < n) (hn : n ≤ 9223372036854775807) : Calls Tryz.prog 240 #[.int .i64 (i : Int), .int .i64 (n : Int)] w (TurnsPost (turnsF i n) w) := by
  obtain ⟨i0, hi0, hz0, hz1, hz2⟩ := info_parts Tryz.info4
  have HN := Lib.hid (show i < n ∧ n ≤ 9223372036854775807 from ⟨hi, hn⟩)
  clear hi
  go_enter Tryz.func240, Tryz.ntmps240
  go_wp2_with (fail)
  go_loopw [0, 1, 5] (fun a b v wr => TurnsRel i n w a b v wr) (fun _ b _ _ => (intOf b).toNat)
  case atStart => exact ⟨i, n, [], rfl, rfl, HN.out.1, Nat.le_refl _, rfl, World.ownsRow_nil _ _ _ _, Below.refl _ _⟩
  case round =>
    obtain ⟨j, m, ts, rfl, rfl, hjm, hmn, hts, HO, HB⟩ := hrel
    replace HO := Lib.hid HO
    replace HB := Lib.hid HB
    replace hts := Lib.hid hts
    by_cases h1 : m = 1
    · subst h1
      have ht : turnsF i n = ts := by rw [← hts.out, turnsF_one, List.append_nil]
      replace ht := Lib.hid ht
      clear hts hjm hmn
      go_wp2_with (fail)
      go_ret
      exact ⟨u5, rfl, by rw [ht.out]; exact HO.out, HB.out⟩
    · have hm1 : ¬ m ≤ 1 := by omega
      obtain ⟨k, hk⟩ : ∃ k, k = splitF m := ⟨_, rfl⟩
      have sp := splitF_spec m (by omega) (by omega)
      rw [← hk] at sp
      have hkm := sp.2.1
      have hk1 := sp.1
      have HS := Lib.hid (show ∀ w : World, Calls Tryz.prog 256 #[.int .i64 (m : Int)] w fun e w' => e = .returned (.int .i64 (k : Int)) ∧ w = w' from fun w => by rw [hk]; exact split_any m w (by omega) (by omega))
      have HK := Lib.hid (show k = splitF m from hk)
      clear hk sp
      by_cases hjk : j < k
      · have hd : decide (k ≤ j) = false := by simp; omega
        have HL := Lib.hid (show ts.length + 1 ≤ 63 from by
          have h1 := turns_len n i HN.out.2 HN.out.1
          rw [← hts.out, List.length_append, turnsF_lo j m ⟨by rw [← HK.out]; omega, by rw [← HK.out]; omega⟩ (by rw [← HK.out]; omega), List.length_cons] at h1
          omega)
        have HA := Lib.hid (show w.heap.size ≤ (wr.alloc (.cells #[.bool false] 4)).heap.size from by rw [shSize_alloc]; have := HB.out.size; omega)
        go_wp2_with (first
          | (go_at_call 256; (with_reducible refine (HS.out _).mono ?_); rintro e w' ⟨rfl, rfl⟩)
          | (at_builtin; refine wpList_append_own _ rfl (.tmp 15) (.tmp 17) 312 rfl w.heap.size 4 i0 (.bool false) 1 1 Tryz.underlying312 hi0 hz0 hz1 hz2 rfl (by decide) u5 ts.length (ts.map Value.bool) rfl (HO.out.alloc _) ⟨wr.heap.size, 0, none⟩ 1 1 [.bool false] rfl rfl (fun x u hx => new_bool wr false x u hx) (fun u hu => by simp at hu; subst hu; rfl) (by unfold maxLen; have := HL.out; omega) (by have := HL.out; omega) HA.out ?_; intro v' w6 HO6 HG6 _; replace HO6 := Lib.hid HO6; have HB6 := Lib.hid ((HB.out.trans ((below_alloc wr (.cells #[.bool false] 4)).mono HB.out.size)).grown HG6 HA.out (fun x hx => (HO.out.lt x hx).1)); clear HG6))
        go_roundw
        case rel => exact ⟨j, k, ts ++ [false], rfl, rfl, by omega, by omega, by rw [List.append_assoc, List.singleton_append, ← hts.out, turnsF_lo j m ⟨by rw [← HK.out]; omega, by rw [← HK.out]; omega⟩ (by rw [← HK.out]; omega), HK.out], by rw [List.length_append, List.map_append]; exact HO6.out, HB6.out⟩
        case measure => simp [intOf]; omega
      · have hd : decide (k ≤ j) = true := by simp; omega
        have HL := Lib.hid (show ts.length + 1 ≤ 63 from by
          have h1 := turns_len n i HN.out.2 HN.out.1
          rw [← hts.out, List.length_append, turnsF_hi j m ⟨by rw [← HK.out]; omega, by rw [← HK.out]; omega⟩ (by rw [← HK.out]; omega), List.length_cons] at h1
          omega)
        have HA := Lib.hid (show w.heap.size ≤ (wr.alloc (.cells #[.bool true] 4)).heap.size from by rw [shSize_alloc]; have := HB.out.size; omega)
        go_wp2_with (first
          | (go_at_call 256; (with_reducible refine (HS.out _).mono ?_); rintro e w' ⟨rfl, rfl⟩)
          | (at_builtin; refine wpList_append_own _ rfl (.tmp 15) (.tmp 17) 312 rfl w.heap.size 4 i0 (.bool false) 1 1 Tryz.underlying312 hi0 hz0 hz1 hz2 rfl (by decide) u5 ts.length (ts.map Value.bool) rfl (HO.out.alloc _) ⟨wr.heap.size, 0, none⟩ 1 1 [.bool true] rfl rfl (fun x u hx => new_bool wr true x u hx) (fun u hu => by simp at hu; subst hu; rfl) (by unfold maxLen; have := HL.out; omega) (by have := HL.out; omega) HA.out ?_; intro v' w6 HO6 HG6 _; replace HO6 := Lib.hid HO6; have HB6 := Lib.hid ((HB.out.trans ((below_alloc wr (.cells #[.bool true] 4)).mono HB.out.size)).grown HG6 HA.out (fun x hx => (HO.out.lt x hx).1)); clear HG6))
        go_roundw
        case rel => exact ⟨j - k, m - k, ts ++ [true], by rw [Int.ofNat_sub (by omega)], by rw [Int.ofNat_sub (by omega)], by omega, by omega, by rw [List.append_assoc, List.singleton_append, ← hts.out, turnsF_hi j m ⟨by rw [← HK.out]; omega, by rw [← HK.out]; omega⟩ (by rw [← HK.out]; omega), HK.out], by rw [List.length_append, List.map_append]; exact HO6.out, HB6.out⟩
        case measure => simp [intOf]; omega
end Go.Proofs.YtejglhlodfhgkaaGreatDoor
namespace Go.Proofs.YtejglhlodfhgkaaGreatDoor
set_option linter.unusedVariables false
set_option linter.unusedSimpArgs false
open Go.RowKit
/-- r is a slice of the turns ts, apart from block g -/
def TurnsAt (w : World) (g : Nat) (r : Value) (ts : List Bool) : Prop :=
  ∃ a cap, r = .slice a ts.length cap ∧ (ts = [] ∨ ∃ tb, a = some ⟨tb, 0, none⟩ ∧ tb ≠ g ∧ ∀ x b, ts[x]? = some b → w.cell? ⟨tb, x, none⟩ = some (.bool b))
theorem TurnsAt.of_own {w : World} {B : Nat} {r : Value} {ts : List Bool} (h : w.ownsRow B 4 1 r ts.length (ts.map Value.bool)) (g : Nat) (hg : w.heap.size ≤ g) : TurnsAt w g r ts := by
  rcases h.2 with ⟨rfl, h0⟩ | ⟨tb, cap, cur, rfl, _, hh, _⟩
  · exact ⟨none, 0, by rw [h0], .inl (List.eq_nil_of_length_eq_zero h0)⟩
  · refine ⟨_, cap, rfl, .inr ⟨tb, rfl, ?_, fun x b hx => ?_⟩⟩
    · have := (Array.getElem?_eq_some_iff.1 hh).1; omega
    · have := h.cells (g := tb) rfl x (.bool b) (by rw [List.getElem?_map, hx]; rfl)
      rw [Addr.add_mid, Nat.zero_add] at this; exact this
theorem TurnsAt.only {w w' : World} {g : Nat} {r : Value} {ts : List Bool} (h : TurnsAt w g r ts) (ho : Only g w w') : TurnsAt w' g r ts := by
  obtain ⟨a, cap, rfl, hx⟩ := h
  refine ⟨a, cap, rfl, ?_⟩
  rcases hx with hx | ⟨tb, rfl, hne, hx⟩
  · exact .inl hx
  · exact .inr ⟨tb, rfl, hne, fun x b hb => ho.cell (hx x b hb) hne⟩
/-- what Fold knows of memory -/
structure FoldM (w wr : World) (g : Nat) (r : Value) (ts : List Bool) (s : Nat → Int) : Prop where
  res : RowAt wr (w.heap.size + 1) .u8 32 53 (fun _ => 0)
  sum : RowAt wr g .u8 32 53 s
  gg : w.heap.size + 1 < g
  turns : TurnsAt wr g r ts
  below : Below w.heap.size w wr
  env : Env wr
  lo : 3 < w.heap.size
theorem FoldM.only {w wr w2 : World} {g : Nat} {r : Value} {ts : List Bool} {s s' : Nat → Int} (m : FoldM w wr g r ts s) (ho : Only g wr w2) (hs : RowAt w2 g .u8 32 53 s') : FoldM w w2 g r ts s' :=
  ⟨(ho.block _ m.res.lt (by have := m.gg; omega)).trans m.res, hs, m.gg, m.turns.only ho, m.below.trans (ho.below (by have := m.gg; omega) m.below.size), ho.env m.env (by have := m.gg; have := m.lo; omega), m.lo⟩
theorem FoldM.calls {w wr w2 : World} {g : Nat} {r : Value} {ts : List Bool} {s : Nat → Int} (m : FoldM w wr g r ts s) (hb : Below wr.heap.size wr w2) : FoldM w w2 g r ts s :=
  m.only (Only.of_below hb) (m.sum.below hb m.sum.lt)
theorem fold_next (s0 : Nat → Int) (ts : List Bool) (ps : List (Nat → Int)) (L k : Nat) (t : Bool) (p : Nat → Int) (h1 : ts.length = L) (h2 : ps.length = L) (hk : k < L) (ht : ts[L - 1 - k]? = some t) (hp : ps[k]? = some p) :
    foldT s0 ((ts.reverse.zip ps).take (k + 1)) = foldStep (foldT s0 ((ts.reverse.zip ps).take k)) (t, p) := by
  have e : (ts.reverse.zip ps)[k]? = some (t, p) := by
    rw [List.getElem?_zip_eq_some]
    refine ⟨?_, hp⟩
    rw [List.getElem?_reverse (by omega), h1]; exact ht
  have e2 : (ts.reverse.zip ps).take (k + 1) = (ts.reverse.zip ps).take k ++ [(t, p)] := by
    rw [List.take_add_one, e]; rfl
  rw [e2, foldT, List.foldl_append]; rfl
theorem path_cell {w wr : World} {a : Option Addr} {L cap : Nat} {ps : List (Nat → Int)} (h : HashesIn w (.slice a L cap) ps) (k : Nat) (p : Nat → Int) (hp : ps[k]? = some p) (hb : Below w.heap.size w wr) :
    ∃ ab ao, a = some ⟨ab, ao, none⟩ ∧ wr.rangeAt ab (ao + k * 32) (rowOf .u8 32 p).toList := by
  obtain ⟨a', cap', e, hc, hm, hx⟩ := h
  injection e with e1 e2 e3
  subst e1
  rcases hx with hx | ⟨ab, ao, rfl, hl, hx⟩
  · subst hx; simp at hp
  · have hk : k < ps.length := (List.getElem?_eq_some_iff.1 hp).1
    refine ⟨ab, ao, rfl, ?_⟩
    have := rangeAt_below (hx k hk) hb hl
    have e : ps.getD k zeroH = p := by simp [List.getD, hp]
    rw [e] at this; exact this
theorem turn_cell {w : World} {a : Option Addr} {g L cap : Nat} {ts : List Bool} (h : TurnsAt w g (.slice a L cap) ts) (k : Nat) (t : Bool) (hp : ts[k]? = some t) :
    ∃ tb, a = some ⟨tb, 0, none⟩ ∧ w.cell? ⟨tb, k, none⟩ = some (.bool t) := by
  obtain ⟨a', cap', e, hx⟩ := h
  injection e with e1 e2 e3
  subst e1
  rcases hx with hx | ⟨tb, rfl, _, hx⟩
  · subst hx; simp at hp
  · exact ⟨tb, rfl, hx k t hp⟩
set_option maxRecDepth 100000 in
set_option maxHeartbeats 400000 in
theorem fold_any (s0 : Nat → Int) (i n : Nat) (v : Value) (ps : List (Nat → Int)) (w : World) (hi : i < n) (hn : n ≤ 9223372036854775807) (hp : HashesIn w v ps) (hl : ps.length = (turnsF i n).length) (he : Env w) :
    Calls Tryz.prog 207 #[.agg (rowOf .u8 32 s0), .int .i64 (i : Int), .int .i64 (n : Int), v] w fun e w' => e = .returned (.tuple #[.agg (rowOf .u8 32 (foldT s0 ((turnsF i n).reverse.zip ps))), .nilIface]) ∧ Below w.heap.size w w' := by
  have HP := Lib.hid hp
  have HI := Lib.hid (show i < n ∧ n ≤ 9223372036854775807 from ⟨hi, hn⟩)
  have hd : decide ((n : Int) ≤ (i : Int)) = false := by simp; omega
  have hd2 : decide (n ≤ i) = false := by simp; omega
  have hb1 : Below w.heap.size w ((w.alloc (.cells (rowOf .u8 32 s0) 53)).alloc (.cells (rowOf .u8 32 (fun _ => 0)) 53)) := (below_alloc w _).trans ((below_alloc _ _).mono (by simp))
  have HB1 := Lib.hid hb1
  have HE1 := Lib.hid (he.below hb1 he.lt)
  have HL := Lib.hid ((RowAt.new w .u8 32 53 s0).alloc (.cells (rowOf .u8 32 (fun _ => 0)) 53))
  have HR := Lib.hid (show RowAt ((w.alloc (.cells (rowOf .u8 32 s0) 53)).alloc (.cells (rowOf .u8 32 (fun _ => 0)) 53)) (w.heap.size + 1) .u8 32 53 (fun _ => 0) from by
    have := RowAt.new (w.alloc (.cells (rowOf .u8 32 s0) 53)) .u8 32 53 (fun _ => 0)
    rw [shSize_alloc] at this; exact this)
  obtain ⟨a, cap, rfl, hc, hm, hju0⟩ := hp
  clear hju0
  unfold maxLen at hm
  obtain ⟨ts, hts⟩ : ∃ ts, ts = turnsF i n := ⟨_, rfl⟩
  rw [← hts] at hl ⊢
  rw [hl] at hc
  have HLEN := Lib.hid hl
  obtain ⟨L, hL⟩ : ∃ L, L = ps.length := ⟨_, rfl⟩
  have HLL := Lib.hid hL
  have HLT := Lib.hid (show ts.length = L by rw [hL, hl])
  rw [← hL] at HP ⊢
  replace hts := Lib.hid hts
  have HLO := Lib.hid he.lt
  clear he hb1 hi hl hL
  go_enter Tryz.func207, Tryz.ntmps207
  go_upto_region 3 with (fail)
  rw [zeros32]
  generalize (w.alloc (.cells (rowOf .u8 32 s0) 53)).alloc (.cells (rowOf .u8 32 (fun _ => 0)) 53) = w1 at *
  go_upto_region 4 with (go_at_call 240; (with_reducible refine (turns_any i n _ HI.out.1 HI.out.2).mono ?_); rintro e w2 ⟨r, rfl, HO, HB2⟩; replace HO := Lib.hid HO; replace HB2 := Lib.hid HB2)
  have HLd := Lib.hid (HL.out.below HB2.out HL.out.lt)
  have HO' := Lib.hid (show w2.ownsRow w1.heap.size 4 1 r ts.length (ts.map Value.bool) from by rw [hts.out]; exact HO.out)
  have HT := Lib.hid (TurnsAt.of_own HO'.out w2.heap.size (Nat.le_refl _))
  have H63 : L ≤ 63 := by rw [← HLT.out, hts.out]; exact turns_len n i HI.out.2 HI.out.1
  have HB12 := Lib.hid (HB1.out.trans (HB2.out.mono HB1.out.size))
  have HE2 := Lib.hid (HE1.out.below HB2.out HE1.out.lt)
  have hb3 := below_alloc w2 (.cells (rowOf .u8 32 s0) 53)
  have M := Lib.hid (show FoldM w (w2.alloc (.cells (rowOf .u8 32 s0) 53)) w2.heap.size r ts s0 from
    ⟨(HR.out.below HB2.out HR.out.lt).below hb3 (HR.out.below HB2.out HR.out.lt).lt, RowAt.new w2 _ _ _ _, by have := (HR.out.below HB2.out HR.out.lt).lt; omega, HT.out.only (Only.of_below hb3), HB12.out.trans (hb3.mono HB12.out.size), HE2.out.below hb3 HE2.out.lt, HLO.out⟩)
  obtain ⟨ra, rcap, hr, hju⟩ := HT.out
  clear hju
  rw [HLT.out] at hr
  subst hr
  clear HO HO' HT HB12 HE2 hb3 HB1 HE1 HL HR HB2
  go_upto_region 7 with (first
    | (refine wpList_load_row rfl 53 (.tmp 4) rfl w.heap.size rfl 53 _ (0, 0) _ HLd.out Tryz.underlying53 rfl (by rw [rowOf_size]; kernel_rfl) ?_)
    | (refine wpList_store_row rfl 53 (.tmp 11) (.tmp 33) rfl w2.heap.size _ rfl rfl 53 _ (heap_alloc_new _ _) (by rw [rowOf_size]; kernel_rfl) (by rw [rowOf_size]; rfl) (rowOf_one _ _ _) ?_; rw [World.setRow_alloc_new]; simp only [Act.put]))
  generalize w2.alloc (.cells (rowOf .u8 32 s0) 53) = w3 at *
  obtain ⟨g, hg⟩ : ∃ g, g = w2.heap.size := ⟨_, rfl⟩
  rw [← hg] at M ⊢
  clear hg HLd w2
  go_wp2_with (fail)
  go_loopw [36] (fun x wr => ∃ k : Nat, k ≤ L ∧ x = .int .i64 (k : Int) ∧ Hid (FoldM w wr g (.slice ra L rcap) ts (foldT s0 ((ts.reverse.zip ps).take k)))) (fun x _ => L - (intOf x).toNat)
  case atStart => exact ⟨0, by omega, rfl, M⟩
  case round =>
    clear M
    obtain ⟨k, hk, rfl, M⟩ := hrel
    by_cases hlt : k < L
    · obtain ⟨t, ht⟩ : ∃ t, ts[L - 1 - k]? = some t := ⟨ts[L - 1 - k]'(by rw [HLT.out]; omega), List.getElem?_eq_getElem _⟩
      obtain ⟨p, hp⟩ : ∃ p, ps[k]? = some p := ⟨ps[k]'(by rw [← HLL.out]; omega), List.getElem?_eq_getElem _⟩
      have HTE := Lib.hid ht
      have HF := Lib.hid (fold_next s0 ts ps L k t p HLT.out HLL.out.symm hlt ht hp)
      have HPC := Lib.hid (path_cell HP.out k p hp M.out.below)
      obtain ⟨ab, ao, rfl, HPR⟩ := HPC.out
      replace HPR := Lib.hid HPR
      clear HPC ht hp
      have HTT := Lib.hid (show ∀ w', TurnsAt w' g (.slice ra L rcap) ts → ∃ tb, ra = some ⟨tb, 0, none⟩ ∧ w'.cell? ⟨tb, L - 1 - k, none⟩ = some (.bool t) from fun w' h => turn_cell h (L - 1 - k) t HTE.out)
      go_upto_region 10 with (first
        | (refine wpList_load_mid rfl 53 (.tmp 39) rfl ab (ao + k * 32) rfl _ _ HPR.out Tryz.underlying53 rfl (by rw [(rowOf_list _ _ _).2]; kernel_rfl) ?_; rw [Array.toArray_toList])
        | (refine wpList_store_row rfl 53 (.tmp 13) (.tmp 40) rfl wr.heap.size _ rfl rfl 53 _ (heap_alloc_new _ _) (by rw [rowOf_size]; kernel_rfl) (by rw [rowOf_size]; rfl) (rowOf_one _ _ _) ?_; rw [World.setRow_alloc_new]; simp only [Act.put]))
      have M5 := Lib.hid (M.out.calls (below_alloc wr (.cells (rowOf .u8 32 p) 53)))
      have RP := Lib.hid (RowAt.new wr .u8 32 53 p)
      have HNE := Lib.hid (show wr.heap.size ≠ g from by have := M.out.sum.lt; omega)
      generalize wr.alloc (.cells (rowOf .u8 32 p) 53) = w5 at *
      obtain ⟨g13, hg13⟩ : ∃ g13, g13 = wr.heap.size := ⟨_, rfl⟩
      rw [← hg13] at RP HNE ⊢
      clear hg13 HPR M
      obtain ⟨tb, rfl, htc⟩ := HTT.out _ M5.out.turns
      have n0 : ((L : Int) - 1 - (k : Int)).toNat = L - 1 - k := by omega
      cases t
      · go_wp2_with (first
          | (refine wpList_load_row rfl 53 (.tmp 11) rfl g rfl 53 _ (0, 0) _ M5.out.sum Tryz.underlying53 rfl (by rw [rowOf_size]; kernel_rfl) ?_)
          | (refine wpList_load_row rfl 53 (.tmp 13) rfl g13 rfl 53 _ (0, 0) _ RP.out Tryz.underlying53 rfl (by rw [rowOf_size]; kernel_rfl) ?_)
          | (go_at_call 241; (with_reducible refine (node_any (foldT s0 ((ts.reverse.zip ps).take k)) p _ M5.out.env).mono ?_); rintro e w6 ⟨rfl, HB6⟩; have M6 := Lib.hid (M5.out.calls HB6); clear HB6)
          | (refine wpList_store_row rfl 53 (.tmp 11) (.tmp 54) rfl g _ rfl rfl 53 _ M6.out.sum (by rw [rowOf_size]; kernel_rfl) (by rw [rowOf_size, rowOf_size]) (rowOf_one _ _ _) ?_))
        go_roundw
        case rel => exact ⟨k + 1, by omega, by go_num, Lib.hid (by rw [HF.out]; exact M6.out.only (Only.setRow w6 g _) (setRow_heap _ _ _ _ _ _ M6.out.sum))⟩
        case measure => simp [intOf]; omega
      · go_wp2_with (first
          | (refine wpList_load_row rfl 53 (.tmp 13) rfl g13 rfl 53 _ (0, 0) _ RP.out Tryz.underlying53 rfl (by rw [rowOf_size]; kernel_rfl) ?_)
          | (refine wpList_load_row rfl 53 (.tmp 11) rfl g rfl 53 _ (0, 0) _ M5.out.sum Tryz.underlying53 rfl (by rw [rowOf_size]; kernel_rfl) ?_)
          | (go_at_call 241; (with_reducible refine (node_any p (foldT s0 ((ts.reverse.zip ps).take k)) _ M5.out.env).mono ?_); rintro e w6 ⟨rfl, HB6⟩; have M6 := Lib.hid (M5.out.calls HB6); clear HB6)
          | (refine wpList_store_row rfl 53 (.tmp 11) (.tmp 51) rfl g _ rfl rfl 53 _ M6.out.sum (by rw [rowOf_size]; kernel_rfl) (by rw [rowOf_size, rowOf_size]) (rowOf_one _ _ _) ?_))
        go_roundw
        case rel => exact ⟨k + 1, by omega, by go_num, Lib.hid (by rw [HF.out]; exact M6.out.only (Only.setRow w6 g _) (setRow_heap _ _ _ _ _ _ M6.out.sum))⟩
        case measure => simp [intOf]; omega
    · replace M : Hid (FoldM w wr g (.slice ra L rcap) ts (foldT s0 (ts.reverse.zip ps))) := by
        have e : (ts.reverse.zip ps).take k = ts.reverse.zip ps := List.take_of_length_le (by rw [List.length_zip, List.length_reverse, HLT.out, ← HLL.out]; omega)
        rw [← e]; exact M
      go_wp2_with (first
        | (refine wpList_load_row rfl 53 (.tmp 11) rfl g rfl 53 _ (0, 0) _ M.out.sum Tryz.underlying53 rfl (by rw [rowOf_size]; kernel_rfl) ?_)
        | (refine wpList_store_row rfl 53 (.tmp 8) (.tmp 56) rfl (w.heap.size + 1) _ rfl rfl 53 _ M.out.res (by rw [rowOf_size]; kernel_rfl) (by rw [rowOf_size, rowOf_size]) (rowOf_one _ _ _) ?_))
      refine bodyPost_ret (results_cell_tmp_row rfl _ _ (w.heap.size + 1) 53 _ (0, 0) _ rfl (setRow_heap _ _ _ _ _ _ M.out.res) Tryz.underlying53 rfl (by rw [rowOf_size]; kernel_rfl)) rfl ?_
      exact ⟨rfl, below_setRow M.out.below (by omega) _⟩
end Go.Proofs.YtejglhlodfhgkaaGreatDoor
namespace Go.Proofs.YtejglhlodfhgkaaGreatDoor
set_option linter.unusedVariables false
set_option linter.unusedSimpArgs false
open Go.RowKit
set_option maxRecDepth 100000
theorem setCells_cells (g : Nat) (t : TypeId) : ∀ (vs : List Value) (o : Nat) (w : World) (cs : Array Value), w.heap[g]? = some (.cells cs t (0, 0)) → o + vs.length ≤ cs.size →
    ∃ cs' : Array Value, (w.setCells g o vs).heap[g]? = some (.cells cs' t (0, 0)) ∧ cs'.size = cs.size ∧ ∀ j, cs'[j]? = if o ≤ j ∧ j < o + vs.length then vs[j - o]? else cs[j]?
  | [], o, w, cs, h, _ => ⟨cs, h, rfl, fun j => by rw [if_neg (by simp)]⟩
  | v :: r, o, w, cs, h, hl => by
    have h1 := heap_setCell_same w g o _ t v h
    obtain ⟨cs', h2, h3, h4⟩ := setCells_cells g t r (o + 1) (w.setCell ⟨g, o, none⟩ v) _ h1 (by simp at hl ⊢; omega)
    refine ⟨cs', h2, by rw [h3]; simp, fun j => ?_⟩
    rw [h4 j]
    simp only [List.length_cons] at hl ⊢
    by_cases e : j = o
    · subst e
      rw [if_neg (by omega), if_pos (by omega)]
      have : j < cs.size := by omega
      simp [this]
    · by_cases e2 : o + 1 ≤ j ∧ j < o + 1 + r.length
      · rw [if_pos e2, if_pos (by omega), show j - o = (j - (o + 1)) + 1 by omega]; simp
      · rw [if_neg e2, if_neg (by omega), Array.getElem?_setIfInBounds_ne (by omega)]
/-- block g has room for n hashes; the first m are L -/
def Leaves (w : World) (g n m : Nat) (L : Nat → Nat → Int) : Prop := ∃ cs : Array Value, w.heap[g]? = some (.cells cs 53 (0, 0)) ∧ cs.size = n * 32 ∧ ∀ i, i < m → ∀ j, j < 32 → cs[i * 32 + j]? = some (.int .u8 (L i j))
theorem Leaves.put {w : World} {g n m : Nat} {L : Nat → Nat → Int} (h : Leaves w g n m L) (hm : m < n) : Leaves (w.setCells g (m * 32) (rowOf .u8 32 (L m)).toList) g n (m + 1) L := by
  obtain ⟨cs, h1, h2, h3⟩ := h
  have hl : (rowOf .u8 32 (L m)).toList.length = 32 := (rowOf_list _ _ _).2
  obtain ⟨cs', a, b, c⟩ := setCells_cells g 53 (rowOf .u8 32 (L m)).toList (m * 32) w cs h1 (by rw [hl, h2]; omega)
  refine ⟨cs', a, b.trans h2, fun k hk j hj => ?_⟩
  rw [c, hl]
  by_cases e : k = m
  · subst e
    rw [if_pos (by omega), show k * 32 + j - k * 32 = j by omega, Array.getElem?_toList, rowOf_get _ _ _ _ hj]
  · rw [if_neg (by omega)]
    exact h3 k (by omega) j hj
theorem Leaves.below {w w' : World} {B g n m : Nat} {L : Nat → Nat → Int} (h : Leaves w g n m L) (hb : Below B w w') (hg : g < B) : Leaves w' g n m L := by
  obtain ⟨cs, h1, h2, h3⟩ := h
  exact ⟨cs, (hb.block g hg).trans h1, h2, h3⟩
theorem Leaves.lt {w : World} {g n m : Nat} {L : Nat → Nat → Int} (h : Leaves w g n m L) : g < w.heap.size := by
  obtain ⟨cs, h1, _⟩ := h
  exact (Array.getElem?_eq_some_iff.1 h1).1
theorem Leaves.there {w : World} {g n m : Nat} {L : Nat → Nat → Int} (h : Leaves w g n m L) (i : Nat) (hi : i < n) {s : Nat} (hs : s = 32) : w.there g (i * 32) s := fun j hj => by
  obtain ⟨cs, h1, h2, h3⟩ := h
  subst hs
  have : i * 32 + j < cs.size := by rw [h2]; omega
  exact ⟨by rw [cell_of_row _ _ _ _ _ _ h1]; simp [this], frozen_of_row _ _ _ _ _ h1⟩
def leavesL (n : Nat) (L : Nat → Nat → Int) : List (Nat → Int) := (List.range n).map L
theorem Leaves.hashes {w : World} {g n : Nat} {L : Nat → Nat → Int} (h : Leaves w g n n L) (hn : n ≤ maxLen) : HashesIn w (.slice (some ⟨g, 0, none⟩) n n) (leavesL n L) := by
  have hl : (leavesL n L).length = n := by simp [leavesL]
  have hlt := h.lt
  obtain ⟨cs, h1, h2, h3⟩ := h
  refine ⟨_, n, by rw [hl], by omega, hn, .inr ⟨g, 0, rfl, hlt, fun i hi j v hv => ?_⟩⟩
  rw [hl] at hi
  have hj : j < 32 := by have := (List.getElem?_eq_some_iff.1 hv).1; rw [(rowOf_list _ _ _).2] at this; exact this
  have e : (leavesL n L).getD i zeroH = L i := by simp [leavesL, List.getD, hi]
  rw [e, Array.getElem?_toList, rowOf_get _ _ _ _ hj] at hv
  rw [cell_of_row _ _ _ _ _ _ h1, Nat.zero_add, h3 i hi j hj]; exact hv
theorem Leaves.store {w : World} {g n m : Nat} {L : Nat → Nat → Int} (h : Leaves w g n m L) (hm : m < n) (P : Nat → Int) : (storeCells ⟨g, m * 32, none⟩ (rowOf .u8 32 P).toList).run Tryz.prog w = .ok () (w.setCells g (m * 32) (rowOf .u8 32 P).toList) := by
  have ht := h.there m hm rfl
  have hl : (rowOf .u8 32 P).toList.length = 32 := (rowOf_list _ _ _).2
  exact run_storeCells_cells g (m * 32) (rowOf .u8 32 P).toList 0 w (fun j hj => (ht j (by omega)).1) (fun j hj => (ht j (by omega)).2) (fun v hv => (Array.all_eq_true_iff_forall_mem.1 (rowOf_one _ _ _)) v (by simpa using hv))
structure PubM (w wr : World) (F : Nat → Int) (D k : Nat) (g n m : Nat) : Prop where
  below : Below w.heap.size w wr
  seed : RowAt wr w.heap.size .u8 32 53 F
  par : wr.heap[w.heap.size + 1]? = some (.cells #[.int .i64 (D : Int), .int .i64 (k : Int)] 57 (0, 0))
  lv : Leaves wr g n m (fun i => pubF F (i : Int) D)
  hg : w.heap.size + 1 < g
theorem PubM.call {w wr w2 : World} {F : Nat → Int} {D k g n m : Nat} (h : PubM w wr F D k g n m) (hb : Below wr.heap.size wr w2) : PubM w w2 F D k g n m :=
  ⟨h.below.trans (hb.mono h.below.size), h.seed.below hb h.seed.lt, (hb.block _ (Array.getElem?_eq_some_iff.1 h.par).1).trans h.par, h.lv.below hb h.lv.lt, h.hg⟩
theorem PubM.put {w wr : World} {F : Nat → Int} {D k g n m : Nat} (h : PubM w wr F D k g n m) (hm : m < n) : PubM w (wr.setCells g (m * 32) (rowOf .u8 32 (pubF F (m : Int) D)).toList) F D k g n (m + 1) := by
  have ho := Only.setCells g (rowOf .u8 32 (pubF F (m : Int) D)).toList (m * 32) wr
  have hg := h.hg
  exact ⟨h.below.trans (ho.below (by omega) h.below.size), (ho.block _ h.seed.lt (by omega)).trans h.seed, (ho.block _ (Array.getElem?_eq_some_iff.1 h.par).1 (by omega)).trans h.par, h.lv.put hm, h.hg⟩
end Go.Proofs.YtejglhlodfhgkaaGreatDoor
namespace Go.Proofs.YtejglhlodfhgkaaGreatDoor
set_option linter.unusedVariables false
set_option linter.unusedSimpArgs false
open Go.RowKit
set_option maxRecDepth 100000
theorem key_start (w : World) (F : Nat → Int) (D E : Int) : Below w.heap.size w ((w.alloc (.cells (rowOf .u8 32 F) 53)).alloc (.cells #[.int .i64 D, .int .i64 E] 57)) ∧ RowAt ((w.alloc (.cells (rowOf .u8 32 F) 53)).alloc (.cells #[.int .i64 D, .int .i64 E] 57)) w.heap.size .u8 32 53 F ∧ ((w.alloc (.cells (rowOf .u8 32 F) 53)).alloc (.cells #[.int .i64 D, .int .i64 E] 57)).heap[w.heap.size + 1]? = some (.cells #[.int .i64 D, .int .i64 E] 57 (0, 0)) := by
  refine ⟨(below_alloc w _).trans ((below_alloc _ _).mono (by simp)), (RowAt.new w _ _ _ _).alloc _, ?_⟩
  have := heap_alloc_new (w.alloc (.cells (rowOf .u8 32 F) 53)) (.cells #[.int .i64 D, .int .i64 E] 57)
  rw [shSize_alloc] at this; exact this
/-- the key's leaves -/
def keyL (F : Nat → Int) (D k : Nat) : List (Nat → Int) := leavesL (2 ^ k) (fun i => pubF F (i : Int) D)
def kRootR (F : Nat → Int) (D E : Int) : (Nat → Int) × Option Nat := if kOk D E then (rootF (keyL F D.toNat E.toNat), none) else (fun _ => 0, some 20)
/-- behind Root's entry: seed, params, the result's zeros -/
theorem key_start3 (w : World) (F : Nat → Int) (D E : Int) (w1 : World) (h1 : ((w.alloc (.cells (rowOf .u8 32 F) 53)).alloc (.cells #[.int .i64 D, .int .i64 E] 57)).alloc (.cells (rowOf .u8 32 (fun _ => 0)) 53) = w1) : Below w.heap.size w w1 ∧ RowAt w1 w.heap.size .u8 32 53 F ∧ w1.heap[w.heap.size + 1]? = some (.cells #[.int .i64 D, .int .i64 E] 57 (0, 0)) ∧ RowAt w1 (w.heap.size + 1 + 1) .u8 32 53 (fun _ => 0) := by
  subst h1
  obtain ⟨hb, hf, hp⟩ := key_start w F D E
  refine ⟨hb.trans ((below_alloc _ _).mono (by simp; omega)), hf.alloc _, ((below_alloc _ _).block _ (Array.getElem?_eq_some_iff.1 hp).1).trans hp, ?_⟩
  have := RowAt.new ((w.alloc (.cells (rowOf .u8 32 F) 53)).alloc (.cells #[.int .i64 D, .int .i64 E] 57)) .u8 32 53 (fun _ => 0)
  rw [shSize_alloc, shSize_alloc] at this; exact this
end Go.Proofs.YtejglhlodfhgkaaGreatDoor
namespace Go.Proofs.YtejglhlodfhgkaaGreatDoor
set_option linter.unusedVariables false
set_option linter.unusedSimpArgs false
open Go.RowKit
set_option maxRecDepth 100000
theorem strCells_nums (s : ByteArray) : Lib.strCells s = byteVals (numsOf s) := by
  unfold Lib.strCells byteVals numsOf
  rw [List.map_map]
  rfl
theorem run_append_str (w : World) (base : Nat) (v : Value) (n : Nat) (vs : List Value) (hown : w.ownsRow base 5 1 v n vs) (s : ByteArray) (hl : n + s.size ≤ 140737488355328) (hb : base ≤ w.heap.size) :
    ∃ v' w', (Builtin.append_ #[25, 9] 25 #[v, .string s]).run Tryz.prog w = .ok v' w' ∧ w'.ownsRow base 5 1 v' (n + s.size) (vs ++ byteVals (numsOf s)) ∧ w.grownBy w' v.ownBlock := by
  obtain ⟨i0, hi, hz0, hz1, hz2⟩ := info_parts infoU8
  obtain ⟨v', w', h1, h2, h3, _⟩ := Lib.run_append_own_string (P := Tryz.prog) w base 25 9 25 5 i0 Tryz.underlying25 Tryz.underlying9 hi hz0 hz1 hz2 v n vs hown s (by unfold maxLen; omega) hl hb
  rw [strCells_nums] at h2
  exact ⟨v', w', h1, h2, h3⟩
theorem wpList_append_str {w : World} {ops : Array Oper} {rest : List Oper} {o : Oper} {a : Act} {Q : Exit → Act → World → Prop} (hgd : o.guard = none) (s x : Operand)
    (ho : o.op = .call { callee := .builtin .append, args := #[s, x], argTypes := #[25, 9] }) (hty : o.type = 25)
    (base : Nat) (v : Value) (n : Nat) (vs : List Value) (hs : a.eval s = v) (hown : w.ownsRow base 5 1 v n vs) (y : ByteArray) (hx : a.eval x = .string y) (hl : n + y.size ≤ 140737488355328) (hb : base ≤ w.heap.size)
    (h : ∀ v' w', w'.ownsRow base 5 1 v' (n + y.size) (vs ++ byteVals (numsOf y)) → w.grownBy w' v.ownBlock → wpList Tryz.prog ops Q rest (a.put o.dst v') w') : wpList Tryz.prog ops Q (o :: rest) a w := by
  refine wpList_plain hgd fun K hK => ?_
  obtain ⟨v', w', hr, h1, h2⟩ := run_append_str w base v n vs hown y hl hb
  unfold Oper.wp execOp
  simp only [ho, hty, resolve, invoke, builtin, Sem.run_bind, Sem.run_pure, Result.andThen_ok, List.map_toArray, List.map_cons, List.map_nil, hs, hx, hr]
  exact hK _ _ (h v' w' h1 h2)
theorem owns_lit1 (w : World) (x : Int) : (w.alloc (.cells #[.int .u8 x] 5)).ownsRow w.heap.size 5 1 (.slice (some ⟨w.heap.size, 0, none⟩) 1 1) 1 [.int .u8 x] :=
  ⟨rfl, .inr ⟨w.heap.size, 1, _, rfl, Nat.le_refl _, heap_alloc_new w _, by omega, by decide, rfl, rfl⟩⟩
def seedF (s : ByteArray) : Nat → Int := sumF (5 :: numsOf s)
end Go.Proofs.YtejglhlodfhgkaaGreatDoor
namespace Go.Proofs.YtejglhlodfhgkaaGreatDoor
set_option linter.unusedVariables false
set_option linter.unusedSimpArgs false
open Go.RowKit
set_option maxRecDepth 100000
/-- equal in the first 32 places -/
def E32 (p q : Nat → Int) : Prop := ∀ j, j < 32 → p j = q j
theorem E32.bytes {p q : Nat → Int} (h : E32 p q) : bytesOf p = bytesOf q := by
  unfold bytesOf
  exact List.map_congr_left fun j hj => h j (List.mem_range.1 hj)
theorem E32.rowL {p q : Nat → Int} (h : E32 p q) : rowL 32 p = rowL 32 q := rowL_congr h
theorem E32.node1 {p q s : Nat → Int} (h : E32 p q) : nodeF p s = nodeF q s := by unfold nodeF; rw [h.bytes]
theorem E32.node2 {p q s : Nat → Int} (h : E32 p q) : nodeF s p = nodeF s q := by unfold nodeF; rw [h.bytes]
theorem E32.step {p q s : Nat → Int} {b : Bool} (h : E32 p q) : foldStep s (b, p) = foldStep s (b, q) := by
  unfold foldStep
  cases b
  · exact h.node2
  · exact h.node1
inductive All32 : List (Nat → Int) → List (Nat → Int) → Prop
  | nil : All32 [] []
  | cons {p q : Nat → Int} {ps qs : List (Nat → Int)} : E32 p q → All32 ps qs → All32 (p :: ps) (q :: qs)
theorem All32.length {ps qs : List (Nat → Int)} (h : All32 ps qs) : ps.length = qs.length := by
  induction h with
  | nil => rfl
  | cons _ _ ih => simp [ih]
theorem All32.refl : ∀ ps : List (Nat → Int), All32 ps ps
  | [] => .nil
  | _ :: r => .cons (fun _ _ => rfl) (All32.refl r)
theorem All32.fold {ps qs : List (Nat → Int)} (h : All32 ps qs) : ∀ (ts : List Bool) (s : Nat → Int), foldT s (ts.zip ps) = foldT s (ts.zip qs) := by
  induction h with
  | nil => intro ts s; rfl
  | cons e _ ih =>
    intro ts s
    cases ts with
    | nil => rfl
    | cons b ts =>
      show foldT (foldStep s (b, _)) (ts.zip _) = foldT (foldStep s (b, _)) (ts.zip _)
      rw [e.step, ih]
def hashesS (s : RSt) : Nat → List (Nat → Int) × RSt
  | 0 => ([], s)
  | k + 1 => ((hashesS s k).1 ++ [(hashS (hashesS s k).2).1], (hashS (hashesS s k).2).2)
theorem hashesS_length (s : RSt) : ∀ k, (hashesS s k).1.length = k
  | 0 => rfl
  | k + 1 => by simp [hashesS, hashesS_length s k]
structure Sg where
  leaf : Nat
  once : List Int
  path : List (Nat → Int)
def zSg : Sg := ⟨0, [], []⟩
def sA (xs : List Int) := uintS (xs, none) 1023
def sB (xs : List Int) := partS (sA xs).2 4096
def sC (xs : List Int) := uintS (sB xs).2 10
def sD (xs : List Int) := hashesS (sC xs).2 (sC xs).1
/-- the parts of bytes, or the error -/
def decS (xs : List Int) : Sg × Option Nat := if doneE (sD xs).2 = none then (⟨(sA xs).1, (sB xs).1, (sD xs).1⟩, none) else (zSg, some 3)
end Go.Proofs.YtejglhlodfhgkaaGreatDoor
namespace Go.Proofs.YtejglhlodfhgkaaGreatDoor
set_option linter.unusedVariables false
set_option linter.unusedSimpArgs false
open Go.RowKit
set_option maxRecDepth 100000
theorem flatC_get : ∀ (ps : List (Nat → Int)) (i j : Nat), i < ps.length → j < 32 → (flatC ps)[i * 32 + j]? = (rowOf .u8 32 (ps.getD i zeroH)).toList[j]?
  | [], i, j, h, _ => by simp at h
  | p :: ps, 0, j, _, hj => by
    show ((rowOf .u8 32 p).toList ++ flatC ps)[0 * 32 + j]? = _
    rw [Nat.zero_mul, Nat.zero_add, List.getElem?_append_left (by rw [(rowOf_list _ _ _).2]; exact hj)]; rfl
  | p :: ps, i + 1, j, h, hj => by
    show ((rowOf .u8 32 p).toList ++ flatC ps)[(i + 1) * 32 + j]? = _
    rw [List.getElem?_append_right (by rw [(rowOf_list _ _ _).2]; omega), (rowOf_list _ _ _).2, show (i + 1) * 32 + j - 32 = i * 32 + j by omega, flatC_get ps i j (by simpa using h) hj]; rfl
theorem HashesIn.of_own {w : World} {B : Nat} {r : Value} {ps : List (Nat → Int)} (h : w.ownsRow B 53 32 r ps.length (flatC ps)) : HashesIn w r ps := by
  rcases h.2 with ⟨rfl, h0⟩ | ⟨tb, cap, cur, rfl, _, hh, hc, hm, _⟩
  · exact ⟨none, 0, by rw [h0], by omega, by simp [maxLen], .inl (List.eq_nil_of_length_eq_zero h0)⟩
  · refine ⟨_, cap, rfl, hc, hm, .inr ⟨tb, 0, rfl, (Array.getElem?_eq_some_iff.1 hh).1, fun i hi j u hj => ?_⟩⟩
    have hj32 : j < 32 := by have := (List.getElem?_eq_some_iff.1 hj).1; rw [(rowOf_list _ _ _).2] at this; exact this
    have := h.cells (g := tb) rfl (i * 32 + j) u (by rw [flatC_get ps i j hi hj32]; exact hj)
    rw [Addr.add_mid] at this
    rw [show 0 + i * 32 + j = 0 + (i * 32 + j) by omega]; exact this
theorem HashesIn.len {w : World} {r : Value} {ps : List (Nat → Int)} (h : HashesIn w r ps) : ∃ a cap, r = .slice a ps.length cap := by
  obtain ⟨a, cap, e, _⟩ := h
  exact ⟨a, cap, e⟩
theorem flatC_length (ps : List (Nat → Int)) : (flatC ps).length = ps.length * 32 := by
  induction ps with
  | nil => rfl
  | cons p ps ih =>
    show ((rowOf .u8 32 p).toList ++ flatC ps).length = _
    rw [List.length_append, (rowOf_list _ _ _).2, ih, List.length_cons]; omega
theorem flatC_one (ps : List (Nat → Int)) : ∀ u ∈ flatC ps, u.oneCell' = true := by
  intro u hu
  simp only [flatC, List.mem_flatMap] at hu
  obtain ⟨p, _, hp⟩ := hu
  exact (Array.all_eq_true_iff_forall_mem.1 (rowOf_one _ _ _)) u (by simpa using hp)
/-- append of hashes to a slice of one's own -/
theorem run_append_hashes (w : World) (base : Nat) (v : Value) (n : Nat) (vs : List Value) (hown : w.ownsRow base 53 32 v n vs) (y : Value) (ps : List (Nat → Int)) (hy : HashesIn w y ps) (hl : (n + ps.length) * 32 ≤ 140737488355328) (hb : base ≤ w.heap.size) :
    ∃ v' w', (Builtin.append_ #[141, 141] 141 #[v, y]).run Tryz.prog w = .ok v' w' ∧ w'.ownsRow base 53 32 v' (n + ps.length) (vs ++ flatC ps) ∧ w.grownBy w' v.ownBlock := by
  obtain ⟨i0, hi, hz0, hz1, hz2⟩ := info_parts Tryz.info25
  obtain ⟨a, c, rfl, hc, hm, hx⟩ := hy
  rcases a with _ | ad
  · have hn : ps = [] := by
      rcases hx with hx | ⟨_, _, h, _⟩
      · exact hx
      · cases h
    subst hn
    refine ⟨v, w, ?_, by simpa [flatC] using hown, ⟨rfl, rfl, rfl, Nat.le_refl _, fun _ _ _ => rfl⟩⟩
    rcases hown.2 with ⟨rfl, rfl⟩ | ⟨g, cap, cur, rfl, _, _, hnc, _⟩
    · simp [Builtin.append_, run_underlying Tryz.underlying141, sizeOf, typeInfo, hi, Builtin.lenOf, Builtin.firstCells]
    · simp [Builtin.append_, run_underlying Tryz.underlying141, sizeOf, typeInfo, hi, Builtin.lenOf, Builtin.firstCells, hnc, storeCells]
  · have hcells : ∀ j u, (flatC ps)[j]? = some u → w.cell? (ad.add j) = some u := fun j u hu => by
      rcases hx with rfl | ⟨ab, ao, h, _, hx⟩
      · simp [flatC] at hu
      · injection h with h; subst h
        have hj : j < ps.length * 32 := by have := (List.getElem?_eq_some_iff.1 hu).1; rw [flatC_length] at this; exact this
        have e : j = j / 32 * 32 + j % 32 := by omega
        rw [e, flatC_get ps (j / 32) (j % 32) (by omega) (by omega)] at hu
        have := hx (j / 32) (by omega) (j % 32) u hu
        rw [Addr.add_mid, e, ← Nat.add_assoc]; exact this
    obtain ⟨v', w', hr, h1, h2, _, h4⟩ := run_append_own_at w base 141 141 53 i0 (.agg (rowOf .u8 32 (fun _ => 0))) 32 32 Tryz.underlying141 hi hz0 hz1 hz2 (by simp [Value.cells, rowOf_size]) (by decide) v n vs hown ad ps.length c (flatC ps) (flatC_length ps) hcells (flatC_one ps) (by unfold maxLen; omega) hl hb
    exact ⟨v', w', hr, h1, h2⟩
theorem wpList_append_hashes {w : World} {ops : Array Oper} {rest : List Oper} {o : Oper} {a : Act} {Q : Exit → Act → World → Prop} (hgd : o.guard = none) (s x : Operand)
    (ho : o.op = .call { callee := .builtin .append, args := #[s, x], argTypes := #[141, 141] }) (hty : o.type = 141)
    (base : Nat) (v : Value) (n : Nat) (vs : List Value) (hs : a.eval s = v) (hown : w.ownsRow base 53 32 v n vs) (y : Value) (ps : List (Nat → Int)) (hx : a.eval x = y) (hy : HashesIn w y ps) (hl : (n + ps.length) * 32 ≤ 140737488355328) (hb : base ≤ w.heap.size)
    (h : ∀ v' w', w'.ownsRow base 53 32 v' (n + ps.length) (vs ++ flatC ps) → w.grownBy w' v.ownBlock → wpList Tryz.prog ops Q rest (a.put o.dst v') w') : wpList Tryz.prog ops Q (o :: rest) a w := by
  refine wpList_plain hgd fun K hK => ?_
  obtain ⟨v', w', hr, h1, h2⟩ := run_append_hashes w base v n vs hown y ps hy hl hb
  unfold Oper.wp execOp
  simp only [ho, hty, resolve, invoke, builtin, Sem.run_bind, Sem.run_pure, Result.andThen_ok, List.map_toArray, List.map_cons, List.map_nil, hs, hx, hr]
  exact hK _ _ (h v' w' h1 h2)
theorem HashesIn.at {w : World} {a : Option Addr} {n cap : Nat} {ps : List (Nat → Int)} (h : HashesIn w (.slice a n cap) ps) (k : Nat) (hk : k < ps.length) : ∃ ab ao, a = some ⟨ab, ao, none⟩ ∧ ab < w.heap.size ∧ w.rangeAt ab (ao + k * 32) (rowOf .u8 32 (ps.getD k zeroH)).toList := by
  obtain ⟨a', cap', e, hc, hm, hx⟩ := h
  injection e with e1 e2 e3
  subst e1
  rcases hx with rfl | ⟨ab, ao, rfl, hlt, hx⟩
  · simp at hk
  · exact ⟨ab, ao, rfl, hlt, hx k hk⟩
end Go.Proofs.YtejglhlodfhgkaaGreatDoor
namespace Go.Proofs.YtejglhlodfhgkaaGreatDoor
set_option linter.unusedVariables false
set_option linter.unusedSimpArgs false
open Go.RowKit
set_option maxRecDepth 100000
theorem bytes_own_lt {w : World} {y : Value} {ys : List Int} (h : BytesIn w y ys) (hn : ys ≠ []) : ∀ k, y.ownBlock = some k → k < w.heap.size := by
  obtain ⟨a, c, rfl, _, _, hx⟩ := h
  rcases hx with hx | ⟨ab, ao, rfl, hx⟩
  · exact absurd hx hn
  · intro k hk
    cases ys with
    | nil => exact absurd rfl hn
    | cons x r =>
      have := World.block_lt_of_cell? w _ (hx 0 x rfl)
      have e : ab = k := by simpa [Value.ownBlock] using hk
      show k < w.heap.size
      rw [← e]; exact this
/-- what lies in memory while a signature is encoded -/
structure EncM (w w' : World) (B : Nat) (leaf : Nat) (vo vp : Value) (once : List Int) (ps : List (Nat → Int)) : Prop where
  below : Below w.heap.size w w'
  sig : w'.heap[w.heap.size]? = some (.cells #[.int .i64 (leaf : Int), vo, vp] 226 (0, 0))
  once : BytesIn w' vo once
  path : HashesIn w' vp ps
  size : B ≤ w'.heap.size
  lo : w.heap.size < B
theorem EncM.call {w w' w2 : World} {B leaf : Nat} {vo vp : Value} {once : List Int} {ps : List (Nat → Int)} (m : EncM w w' B leaf vo vp once ps) (h : Below w'.heap.size w' w2) : EncM w w2 B leaf vo vp once ps :=
  ⟨m.below.trans (h.mono m.below.size), (h.block _ (Array.getElem?_eq_some_iff.1 m.sig).1).trans m.sig, m.once.below h, m.path.below h, Nat.le_trans m.size h.size, m.lo⟩
end Go.Proofs.YtejglhlodfhgkaaGreatDoor
namespace Go.Proofs.YtejglhlodfhgkaaGreatDoor
set_option linter.unusedVariables false
set_option linter.unusedSimpArgs false
def tabL : List Nat := [0, 498536548, 997073096, 651767980, 1994146192, 1802195444, 1303535960, 1342533948, 3988292384, 4027552580, 3604390888, 3412177804, 2607071920, 2262029012, 2685067896, 3183342108]
def tabN (i : Nat) : Nat := tabL.getD i 0
/-- four bits -/
def nib (r : Nat) : Nat := r / 16 ^^^ tabN (r % 16)
/-- a byte -/
def byteS (r x : Nat) : Nat := nib (nib (r ^^^ x))
theorem bytesOk.cons {x : Int} {xs : List Int} (h : bytesOk (x :: xs)) : (0 ≤ x ∧ x < 256) ∧ bytesOk xs := ⟨h x (by simp), fun y hy => h y (by simp [hy])⟩
theorem bytesOk.append {xs ys : List Int} (h1 : bytesOk xs) (h2 : bytesOk ys) : bytesOk (xs ++ ys) := fun x hx => by
  rcases List.mem_append.1 hx with h | h
  · exact h1 x h
  · exact h2 x h
theorem bytesOk.take {xs : List Int} (h : bytesOk xs) (n : Nat) : bytesOk (xs.take n) := fun x hx => h x (List.mem_of_mem_take hx)
theorem bytesOk.drop {xs : List Int} (h : bytesOk xs) (n : Nat) : bytesOk (xs.drop n) := fun x hx => h x (List.mem_of_mem_drop hx)
theorem bytesOk.set {xs : List Int} (h : bytesOk xs) (i : Nat) (y : Int) (hy : 0 ≤ y ∧ y < 256) : bytesOk (xs.set i y) := fun x hx => by
  rcases List.mem_or_eq_of_mem_set hx with h1 | h1
  · exact h x h1
  · rw [h1]; exact hy
/-- the register behind xs -/
def regF (r : Nat) : List Int → Nat
  | [] => r
  | x :: xs => regF (byteS r x.toNat) xs
/-- the checksum -/
def crcF (xs : List Int) : Nat := 4294967295 ^^^ regF 4294967295 xs
/-- four bytes as a number -/
def rdW (xs : List Int) : Nat := (xs.getD 0 0).toNat * 16777216 + (xs.getD 1 0).toNat * 65536 + (xs.getD 2 0).toNat * 256 + (xs.getD 3 0).toNat
/-- what bytes begin with: an error, or a payload -/
def oneF (b : List Int) : Option Nat × List Int :=
  if b.length = 0 then (some 8, [])
  else if b.length < 8 then (some 12, [])
  else if rdW (b.drop 4) ≠ crcF (b.take 4) ∨ rdW b = 0 ∨ 1048576 < rdW b then (some 11, [])
  else if b.length < rdW b + 12 then (some 12, [])
  else if rdW (b.drop (rdW b + 8)) ≠ crcF ((b.take (rdW b + 8)).drop 8) then (some 11, [])
  else (none, (b.take (rdW b + 8)).drop 8)
end Go.Proofs.YtejglhlodfhgkaaGreatDoor
namespace Go.Proofs.YtejglhlodfhgkaaGreatDoor
set_option linter.unusedVariables false
set_option linter.unusedSimpArgs false
open Go.RowKit
set_option maxRecDepth 100000
theorem BytesIn.cell {w : World} {a : Option Addr} {n cap : Nat} {xs : List Int} (h : BytesIn w (.slice a n cap) xs) : n = xs.length ∧ (xs = [] ∨ ∃ ab ao, a = some ⟨ab, ao, none⟩ ∧ ∀ i x, xs[i]? = some x → w.cell? ⟨ab, ao + i, none⟩ = some (.int .u8 x)) := by
  obtain ⟨a', c', e, _, _, hx⟩ := h
  injection e with e1 e2 e3
  subst e1 e2
  exact ⟨rfl, hx⟩
end Go.Proofs.YtejglhlodfhgkaaGreatDoor
