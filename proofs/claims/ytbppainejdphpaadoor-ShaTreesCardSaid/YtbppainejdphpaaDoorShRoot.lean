/- Root of a slice of hashes. -/
import Derived.Test.YtbppainejdphpaaDoorShNode
import Derived.Deep.RegionLaw
import Derived.Test.YtbppainejdphpaaDoorApp
namespace Go.Proofs.YtbppainejdphpaaDoor
open Go.RowKit
def zeroH : Nat → Int := fun _ => 0
/-- v is a slice of the hashes hs -/
def HashesIn (w : World) (v : Value) (hs : List (Nat → Int)) : Prop :=
  ∃ a cap, v = .slice a hs.length cap ∧ hs.length ≤ cap ∧ cap ≤ maxLen ∧ (hs = [] ∨ ∃ ab ao, a = some ⟨ab, ao, none⟩ ∧ ab < w.heap.size ∧ ∀ i, i < hs.length → w.rangeAt ab (ao + i * 32) (rowOf .u8 32 (hs.getD i zeroH)).toList)
theorem rangeAt_below {w w' : World} {B b o : Nat} {cs : List Value} (h : w.rangeAt b o cs) (hb : Below B w w') (hB : b < B) : w'.rangeAt b o cs := fun j v hv => (hb.cell (p := ⟨b, o + j, none⟩) hB).trans (h j v hv)
theorem HashesIn.below {w w' : World} {v : Value} {hs : List (Nat → Int)} (h : HashesIn w v hs) (hb : Below w.heap.size w w') : HashesIn w' v hs := by
  obtain ⟨a, cap, rfl, hc, hm, hx⟩ := h
  refine ⟨a, cap, rfl, hc, hm, ?_⟩
  rcases hx with hx | ⟨ab, ao, rfl, hl, hx⟩
  · exact .inl hx
  · exact .inr ⟨ab, ao, rfl, Nat.lt_of_lt_of_le hl hb.size, fun i hi => rangeAt_below (hx i hi) hb hl⟩
def cutH (a : Option Addr) (cap p : Nat) : Option Addr := if cap = p then a else a.map (·.add (p * 32))
theorem slice43lo (a : Option Addr) (n cap p : Nat) (hp : p ≤ n) (w : World) : (Instr.slice 43 (.slice a n cap) (some (.int .i64 (p : Int))) none none).run Tryd.prog w = .ok (.slice (cutH a cap p) (n - p) (cap - p)) w := by
  have he : Tryd.prog.elem 43 = 25 := by kernel_rfl
  have hs : (sizeOf 25).run Tryd.prog w = .ok 32 w := by kernel_rfl
  rw [run_slice_l w 43 a n cap (by rw [he]; exact Tryd.underlying43) .i64 (p : Int) (by omega) (by omega), he, hs]
  simp [Result.andThen_ok, sliced, cutH]
theorem slice43hi (a : Option Addr) (n cap q : Nat) (hq : q ≤ cap) (w : World) : (Instr.slice 43 (.slice a n cap) none (some (.int .i64 (q : Int))) none).run Tryd.prog w = .ok (.slice (cutH a cap 0) q cap) w := by
  have he : Tryd.prog.elem 43 = 25 := by kernel_rfl
  have hs : (sizeOf 25).run Tryd.prog w = .ok 32 w := by kernel_rfl
  rw [run_slice_h w 43 a n cap (by rw [he]; exact Tryd.underlying43) .i64 (q : Int) (by omega) (by omega), he, hs]
  simp [Result.andThen_ok, sliced, cutH]
theorem HashesIn.take {w : World} {a : Option Addr} {n cap : Nat} {hs : List (Nat → Int)} (h : HashesIn w (.slice a n cap) hs) (q : Nat) (hq : q ≤ n) : HashesIn w (.slice (cutH a cap 0) q cap) (hs.take q) := by
  obtain ⟨a', cap', e, hc, hm, hx⟩ := h
  injection e with e1 e2 e3
  subst e1 e2 e3
  have hl : (hs.take q).length = q := by rw [List.length_take]; omega
  refine ⟨_, _, by rw [hl], by rw [hl]; omega, hm, ?_⟩
  by_cases h0 : q = 0
  · left; subst h0; rfl
  · rcases hx with hx | ⟨ab, ao, rfl, hlt, hx⟩
    · subst hx; simp at hq; omega
    · refine .inr ⟨ab, ao, ?_, hlt, fun i hi => ?_⟩
      · unfold cutH
        rw [if_neg (by omega)]
        show some (Addr.add ⟨ab, ao, none⟩ (0 * 32)) = _
        rw [Addr.add_mid]; simp
      · rw [hl] at hi
        have := hx i (by omega)
        have e : (hs.take q).getD i zeroH = hs.getD i zeroH := by simp [List.getD, hi]
        rw [e]; exact this
theorem HashesIn.drop {w : World} {a : Option Addr} {n cap : Nat} {hs : List (Nat → Int)} (h : HashesIn w (.slice a n cap) hs) (p : Nat) (hp : p ≤ n) : HashesIn w (.slice (cutH a cap p) (n - p) (cap - p)) (hs.drop p) := by
  obtain ⟨a', cap', e, hc, hm, hx⟩ := h
  injection e with e1 e2 e3
  subst e1 e2 e3
  have hl : (hs.drop p).length = hs.length - p := by rw [List.length_drop]
  refine ⟨_, _, by rw [hl], by rw [hl]; omega, by omega, ?_⟩
  by_cases h0 : hs.length = p
  · left; exact List.drop_eq_nil_of_le (by omega)
  · rcases hx with hx | ⟨ab, ao, rfl, hlt, hx⟩
    · left; subst hx; simp
    · refine .inr ⟨ab, ao + p * 32, ?_, hlt, fun i hi => ?_⟩
      · unfold cutH
        rw [if_neg (by omega)]
        show some (Addr.add ⟨ab, ao, none⟩ (p * 32)) = _
        rw [Addr.add_mid]
      · rw [hl] at hi
        have := hx (p + i) (by omega)
        have e : (hs.drop p).getD i zeroH = hs.getD (p + i) zeroH := by simp [List.getD, List.getElem?_drop]
        rw [e, show ao + p * 32 + i * 32 = ao + (p + i) * 32 by omega]
        exact this
set_option maxRecDepth 100000 in
set_option maxHeartbeats 400000 in
theorem root_nil (a : Option Addr) (cap : Nat) (w : World) (he : Env w) :
    Calls Tryd.prog 26 #[.slice a 0 cap] w fun e w' => e = .returned (.agg (rowOf .u8 32 (rootF []))) ∧ Below w.heap.size w w' := by
  have HB := Lib.hid (below_alloc w (.cells (rowOf .u8 32 (fun _ => 0)) 25))
  have HE := Lib.hid (he.below HB.out he.lt)
  have HR := Lib.hid (RowAt.new w .u8 32 25 (fun _ => 0))
  have HN := Lib.hid (nil_in (w.alloc (.cells (rowOf .u8 32 (fun _ => 0)) 25)))
  clear he
  go_enter Tryd.func26, Tryd.ntmps26
  go_upto_region 1 with (fail)
  rw [zeros32]
  generalize w.alloc (.cells (rowOf .u8 32 (fun _ => 0)) 25) = w1 at *
  go_wp2_with (first
    | (go_at_call 13; (with_reducible refine (shSum_any _ [] _ HN.out HE.out).mono ?_); rintro e w5 ⟨rfl, HB5⟩; replace HR := Lib.hid (HR.out.below HB5 HR.out.lt); replace HB := Lib.hid (HB.out.trans (HB5.mono HB.out.size)); clear HB5)
    | (refine wpList_store_row rfl 25 (.tmp 2) (.tmp 8) rfl w.heap.size _ rfl rfl 25 _ HR.out (by rw [rowOf_size]; kernel_rfl) (by rw [rowOf_size, rowOf_size]) (rowOf_one _ _ _) ?_))
  refine bodyPost_ret (results_cell_row rfl _ _ w.heap.size 25 _ (0, 0) _ rfl (setRow_heap _ _ _ _ _ _ HR.out) Tryd.underlying25 rfl (by rw [rowOf_size]; kernel_rfl)) rfl ?_
  exact ⟨by rw [rootF_nil, sumF], below_setRow HB.out (Nat.le_refl _) _⟩
set_option maxRecDepth 100000 in
set_option maxHeartbeats 400000 in
theorem root_one (a : Option Addr) (cap : Nat) (h : Nat → Int) (w : World) (hx : HashesIn w (.slice a 1 cap) [h]) :
    Calls Tryd.prog 26 #[.slice a 1 cap] w fun e w' => e = .returned (.agg (rowOf .u8 32 h)) ∧ Below w.heap.size w w' := by
  obtain ⟨a', cap', e, hc, hm, hx⟩ := hx
  injection e with e1 e2 e3
  subst e1 e3
  obtain ⟨ab, ao, rfl, hlt, hx⟩ := hx.resolve_left (by simp)
  have HC := Lib.hid (hx 0 (by simp))
  have HB := Lib.hid (below_alloc w (.cells (rowOf .u8 32 (fun _ => 0)) 25))
  have HR := Lib.hid (RowAt.new w .u8 32 25 (fun _ => 0))
  have HC1 := Lib.hid (World.rangeAt_alloc HC.out (.cells (rowOf .u8 32 (fun _ => 0)) 25))
  clear hx e2 HC
  go_enter Tryd.func26, Tryd.ntmps26
  go_upto_region 1 with (fail)
  rw [zeros32]
  generalize w.alloc (.cells (rowOf .u8 32 (fun _ => 0)) 25) = w1 at *
  go_wp2_with (first
    | (refine wpList_load_mid rfl 25 (.tmp 12) rfl ab ao rfl _ _ (show w1.rangeAt ab ao (rowOf .u8 32 h).toList from by simpa using HC1.out) Tryd.underlying25 rfl (by rw [(rowOf_list _ _ _).2]; kernel_rfl) ?_; rw [Array.toArray_toList])
    | (refine wpList_store_row rfl 25 (.tmp 2) (.tmp 13) rfl w.heap.size _ rfl rfl 25 _ HR.out (by rw [rowOf_size]; kernel_rfl) (by rw [rowOf_size, rowOf_size]) (rowOf_one _ _ _) ?_))
  refine bodyPost_ret (results_cell_row rfl _ _ w.heap.size 25 _ (0, 0) _ rfl (setRow_heap _ _ _ _ _ _ HR.out) Tryd.underlying25 rfl (by rw [rowOf_size]; kernel_rfl)) rfl ?_
  exact ⟨rfl, below_setRow HB.out (Nat.le_refl _) _⟩
set_option maxRecDepth 100000 in
set_option maxHeartbeats 400000 in
theorem root_step (a : Option Addr) (n cap k : Nat) (hs : List (Nat → Int)) (r1 r2 : Nat → Int) (w : World) (hx : HashesIn w (.slice a n cap) hs) (he : Env w) (hn : 2 ≤ n) (hn2 : n ≤ 9223372036854775807) (hnc : n ≤ cap) (hk : k = splitF n) (hkn : k ≤ n)
    (ih1 : ∀ (v : Value) (w : World), HashesIn w v (hs.take k) → Env w → Calls Tryd.prog 26 #[v] w fun e w' => e = .returned (.agg (rowOf .u8 32 r1)) ∧ Below w.heap.size w w')
    (ih2 : ∀ (v : Value) (w : World), HashesIn w v (hs.drop k) → Env w → Calls Tryd.prog 26 #[v] w fun e w' => e = .returned (.agg (rowOf .u8 32 r2)) ∧ Below w.heap.size w w') :
    Calls Tryd.prog 26 #[.slice a n cap] w fun e w' => e = .returned (.agg (rowOf .u8 32 (nodeF r1 r2))) ∧ Below w.heap.size w w' := by
  have HB := Lib.hid (below_alloc w (.cells (rowOf .u8 32 (fun _ => 0)) 25))
  have HE := Lib.hid (he.below HB.out he.lt)
  have HR := Lib.hid (RowAt.new w .u8 32 25 (fun _ => 0))
  have HX := Lib.hid hx
  have HK := Lib.hid (show k ≤ n ∧ k ≤ cap from ⟨hkn, by omega⟩)
  have hsl1 := slice43hi a n cap k HK.out.2
  have hsl2 := slice43lo a n cap k HK.out.1
  have hsplit := split_any n
  have HS := Lib.hid (show ∀ w : World, Calls Tryd.prog 40 #[.int .i64 (n : Int)] w fun e w' => e = .returned (.int .i64 (k : Int)) ∧ w = w' from fun w => by rw [hk]; exact split_any n w hn (by omega))
  have hn0 : ((n : Int) == 0) = false := by rw [beq_eq_false_iff_ne]; omega
  have hn1 : ((n : Int) == 1) = false := by rw [beq_eq_false_iff_ne]; omega
  clear he hx hsplit hk
  go_enter Tryd.func26, Tryd.ntmps26
  go_upto_region 1 with (fail)
  rw [zeros32]
  generalize w.alloc (.cells (rowOf .u8 32 (fun _ => 0)) 25) = w1 at *
  go_upto_region 7 with (go_at_call 40; (with_reducible refine (HS.out _).mono ?_); rintro e w' ⟨rfl, rfl⟩)
  refine wp_region_any (by kernel_rfl) ?_
  change wpAny _ _ _ _ _ _ _ w1.drew
  refine wpAny_take (i := 0) (v := .slice a n cap) rfl (by kernel_rfl) (by kernel_rfl) (by kernel_rfl) (fun _ _ _ h => h) (Or.inl ⟨by rfl, by intro w; go_simp⟩) ?_
  try simp only [List.getElem_toArray, List.getElem_cons_zero, Act.put, List.setIfInBounds_toArray, List.set_cons_zero, List.set_cons_succ]
  refine wpAny_take (i := 1) (v := .int .i64 (k : Int)) rfl (by kernel_rfl) (by kernel_rfl) (by kernel_rfl) (fun _ _ _ h => h) (Or.inl ⟨by rfl, by intro w; go_simp⟩) ?_
  try simp only [List.getElem_toArray, List.getElem_cons_succ, List.getElem_cons_zero, Act.put, List.setIfInBounds_toArray, List.set_cons_zero, List.set_cons_succ]
  refine wpAny_take (i := 2) (v := .slice (cutH a cap 0) k cap) rfl (by kernel_rfl) (by kernel_rfl) (by kernel_rfl) (fun _ _ _ h => h) (Or.inl ⟨by rfl, by intro w; go_simp⟩) ?_
  try simp only [List.getElem_toArray, List.getElem_cons_succ, List.getElem_cons_zero, Act.put, List.setIfInBounds_toArray, List.set_cons_zero, List.set_cons_succ]
  refine wpAny_take (i := 4) (v := .slice a n cap) rfl (by kernel_rfl) (by kernel_rfl) (by kernel_rfl) (fun _ _ _ h => h) (Or.inl ⟨by rfl, by intro w; go_simp⟩) ?_
  try simp only [List.getElem_toArray, List.getElem_cons_succ, List.getElem_cons_zero, Act.put, List.setIfInBounds_toArray, List.set_cons_zero, List.set_cons_succ]
  refine wpAny_take (i := 5) (v := .int .i64 (k : Int)) rfl (by kernel_rfl) (by kernel_rfl) (by kernel_rfl) (fun _ _ _ h => h) (Or.inl ⟨by rfl, by intro w; go_simp⟩) ?_
  try simp only [List.getElem_toArray, List.getElem_cons_succ, List.getElem_cons_zero, Act.put, List.setIfInBounds_toArray, List.set_cons_zero, List.set_cons_succ]
  refine wpAny_take (i := 6) (v := .slice (cutH a cap k) (n - k) (cap - k)) rfl (by kernel_rfl) (by kernel_rfl) (by kernel_rfl) (fun _ _ _ h => h) (Or.inl ⟨by rfl, by intro w; go_simp⟩) ?_
  try simp only [List.getElem_toArray, List.getElem_cons_succ, List.getElem_cons_zero, Act.put, List.setIfInBounds_toArray, List.set_cons_zero, List.set_cons_succ]
  replace HE : Hid (Env w1.drew) := Lib.hid ⟨HE.out.begin, HE.out.consts⟩
  replace HR : Hid (RowAt w1.drew w.heap.size .u8 32 25 (fun _ => 0)) := HR
  replace HB : Hid (Below w.heap.size w w1.drew) := Lib.hid HB.out.drew
  generalize w1.drew = w2 at *
  refine wpAny_ready (rs := [3]) (by kernel_rfl) (by simp) ?_; refine AllReady.cons rfl (fun K hK => ?_) AllReady.nil; rw [if_pos (by rfl)]
  try simp only [List.getElem_toArray, List.getElem_cons_succ, List.getElem_cons_zero]
  go_simp
  refine (ih1 (.slice (cutH a cap 0) k cap) _ ((HX.out.take k HK.out.1).below HB.out) HE.out).mono ?_
  rintro e w3 ⟨rfl, HB3⟩
  replace HR := Lib.hid (HR.out.below HB3 HR.out.lt)
  replace HE := Lib.hid (HE.out.below HB3 HE.out.lt)
  replace HB := Lib.hid (HB.out.trans (HB3.mono HB.out.size))
  clear HB3
  refine hK _ _ ?_
  clear hK K
  try simp only [List.getElem_toArray, List.getElem_cons_succ, List.getElem_cons_zero, Act.put, List.setIfInBounds_toArray, List.set_cons_zero, List.set_cons_succ]
  refine wpAny_ready (rs := [7]) (by kernel_rfl) (by simp) ?_; refine AllReady.cons rfl (fun K hK => ?_) AllReady.nil; rw [if_pos (by rfl)]
  try simp only [List.getElem_toArray, List.getElem_cons_succ, List.getElem_cons_zero]
  go_simp
  refine (ih2 (.slice (cutH a cap k) (n - k) (cap - k)) _ ((HX.out.drop k HK.out.1).below HB.out) HE.out).mono ?_
  rintro e w4 ⟨rfl, HB3⟩
  replace HR := Lib.hid (HR.out.below HB3 HR.out.lt)
  replace HE := Lib.hid (HE.out.below HB3 HE.out.lt)
  replace HB := Lib.hid (HB.out.trans (HB3.mono HB.out.size))
  clear HB3
  refine hK _ _ ?_
  clear hK K
  try simp only [List.getElem_toArray, List.getElem_cons_succ, List.getElem_cons_zero, Act.put, List.setIfInBounds_toArray, List.set_cons_zero, List.set_cons_succ]
  refine wpAny_ready (rs := [8]) (by kernel_rfl) (by simp) ?_; refine AllReady.cons rfl (fun K hK => ?_) AllReady.nil; rw [if_pos (by rfl)]
  try simp only [List.getElem_toArray, List.getElem_cons_succ, List.getElem_cons_zero]
  go_simp
  refine (node_any _ _ _ HE.out).mono ?_
  rintro e w5 ⟨rfl, HB3⟩
  replace HR := Lib.hid (HR.out.below HB3 HR.out.lt)
  replace HB := Lib.hid (HB.out.trans (HB3.mono HB.out.size))
  clear HB3
  refine hK _ _ ?_
  clear hK K
  try simp only [List.getElem_toArray, List.getElem_cons_succ, List.getElem_cons_zero, Act.put, List.setIfInBounds_toArray, List.set_cons_zero, List.set_cons_succ]
  refine wpAny_ready (rs := [9]) (by kernel_rfl) (by simp) ?_; refine AllReady.cons rfl (fun K hK => ?_) AllReady.nil; rw [if_pos (by rfl)]
  refine wp_store_row 25 (.tmp 2) (.tmp 25) rfl w.heap.size _ rfl rfl 25 _ HR.out (by rw [rowOf_size]; kernel_rfl) (by rw [rowOf_size, rowOf_size]) (rowOf_one _ _ _) ?_
  refine hK _ _ ?_
  clear hK K
  try simp only [List.getElem_toArray, List.getElem_cons_succ, List.getElem_cons_zero, Act.put]
  refine wpAny_done (by kernel_rfl) ?_ _
  go_wp2_with (fail)
  refine bodyPost_ret (results_cell_row rfl _ _ w.heap.size 25 _ (0, 0) _ rfl (setRow_heap _ _ _ _ _ _ HR.out) Tryd.underlying25 rfl (by rw [rowOf_size]; kernel_rfl)) rfl ?_
  exact ⟨rfl, below_setRow HB.out (Nat.le_refl _) _⟩
theorem root_any : ∀ (n : Nat) (hs : List (Nat → Int)), hs.length = n → ∀ (v : Value) (w : World), HashesIn w v hs → Env w →
    Calls Tryd.prog 26 #[v] w fun e w' => e = .returned (.agg (rowOf .u8 32 (rootF hs))) ∧ Below w.heap.size w w' := by
  intro n
  induction n using Nat.strongRecOn with
  | _ n ih =>
    intro hs hl v w hx he
    have hx0 := hx
    obtain ⟨a, cap, rfl, hc, hm, _⟩ := hx
    unfold maxLen at hm
    by_cases h0 : n = 0
    · have : hs = [] := List.eq_nil_of_length_eq_zero (by omega)
      subst this
      exact root_nil a cap w he
    · by_cases h1 : n = 1
      · obtain ⟨h, rfl⟩ : ∃ h, hs = [h] := by
          match hs, hl with
          | [h], _ => exact ⟨h, rfl⟩
          | [], hl => exact absurd hl (by simp; omega)
          | _ :: _ :: _, hl => exact absurd hl (by simp; omega)
        have := root_one a cap h w hx0
        rw [rootF_one [h] rfl]
        exact this
      · have sp := splitF_spec hs.length (by omega) (by omega)
        rw [rootF_step hs (by omega) ⟨sp.1, sp.2.1⟩]
        exact root_step a hs.length cap (splitF hs.length) hs _ _ w hx0 he (by omega) (by omega) hc rfl (by omega)
          (fun v w => ih (splitF hs.length) (by omega) (hs.take (splitF hs.length)) (by rw [List.length_take]; omega) v w)
          (fun v w => ih (hs.length - splitF hs.length) (by omega) (hs.drop (splitF hs.length)) (by rw [List.length_drop]) v w)
end Go.Proofs.YtbppainejdphpaaDoor
