/- Part 20 of the proof. -/
import Derived.Deep.RegionLaw
import Derived.Test.YteokgklfljhcaaaGreatDoorSe1
import Derived.Test.YteokgklfljhcaaaGreatDoorSe8
import Derived.Test.YteokgklfljhcaaaGreatDoorSe19
namespace Go.Proofs.YteokgklfljhcaaaGreatDoor
set_option linter.unusedVariables false
set_option linter.unusedSimpArgs false
open Go.RowKit
def zeroH : Nat → Int := fun _ => 0
/-- v is a slice of the hashes hs -/
def HashesIn (w : World) (v : Value) (hs : List (Nat → Int)) : Prop :=
  ∃ a cap, v = .slice a hs.length cap ∧ hs.length ≤ cap ∧ cap ≤ maxLen ∧ (hs = [] ∨ ∃ ab ao, a = some ⟨ab, ao, none⟩ ∧ ab < w.heap.size ∧ ∀ i, i < hs.length → w.rangeAt ab (ao + i * 32) (rowOf .u8 32 (hs.getD i zeroH)).toList)
theorem rangeAt_below {w w' : World} {B b o : Nat} {cs : List Value} (h : w.rangeAt b o cs) (hb : Below B w w') (hB : b < B) : w'.rangeAt b o cs := fun j v hv => (hb.cell (p := ⟨b, o + j, none⟩) hB).trans (h j v hv)
theorem HashesIn.below {w w' : World} {v : Value} {hs : List (Nat → Int)} (h : HashesIn w v hs) (hb : Below w.heap.size w w') : HashesIn w' v hs := by
  obtain ⟨a, cap, rfl, hc, hm, hx⟩ := h
  refine ⟨a, cap, rfl, hc, hm, ?_⟩
  rcases hx with hx | ⟨ab, ao, rfl, hl, hx⟩
  · exact .inl hx
  · exact .inr ⟨ab, ao, rfl, Nat.lt_of_lt_of_le hl hb.size, fun i hi => rangeAt_below (hx i hi) hb hl⟩
def cutH (a : Option Addr) (cap p : Nat) : Option Addr := if cap = p then a else a.map (·.add (p * 32))
theorem slice43lo (a : Option Addr) (n cap p : Nat) (hp : p ≤ n) (w : World) : (Instr.slice 82 (.slice a n cap) (some (.int .i64 (p : Int))) none none).run Tryz.prog w = .ok (.slice (cutH a cap p) (n - p) (cap - p)) w := by
  have he : Tryz.prog.elem 82 = 23 := by kernel_rfl
  have hs : (sizeOf 23).run Tryz.prog w = .ok 32 w := by kernel_rfl
  rw [run_slice_l w 82 a n cap (by rw [he]; exact Tryz.underlying82) .i64 (p : Int) (by omega) (by omega), he, hs]
  simp [Result.andThen_ok, sliced, cutH]
theorem slice43hi (a : Option Addr) (n cap q : Nat) (hq : q ≤ cap) (w : World) : (Instr.slice 82 (.slice a n cap) none (some (.int .i64 (q : Int))) none).run Tryz.prog w = .ok (.slice (cutH a cap 0) q cap) w := by
  have he : Tryz.prog.elem 82 = 23 := by kernel_rfl
  have hs : (sizeOf 23).run Tryz.prog w = .ok 32 w := by kernel_rfl
  rw [run_slice_h w 82 a n cap (by rw [he]; exact Tryz.underlying82) .i64 (q : Int) (by omega) (by omega), he, hs]
  simp [Result.andThen_ok, sliced, cutH]
theorem HashesIn.take {w : World} {a : Option Addr} {n cap : Nat} {hs : List (Nat → Int)} (h : HashesIn w (.slice a n cap) hs) (q : Nat) (hq : q ≤ n) : HashesIn w (.slice (cutH a cap 0) q cap) (hs.take q) := by
  obtain ⟨a', cap', e, hc, hm, hx⟩ := h
  injection e with e1 e2 e3
  subst e1 e2 e3
  have hl : (hs.take q).length = q := by rw [List.length_take]; omega
  refine ⟨_, _, by rw [hl], by rw [hl]; omega, hm, ?_⟩
  by_cases h0 : q = 0
  · left; subst h0; rfl
  · rcases hx with hx | ⟨ab, ao, rfl, hlt, hx⟩
    · subst hx; simp at hq; omega
    · refine .inr ⟨ab, ao, ?_, hlt, fun i hi => ?_⟩
      · unfold cutH
        rw [if_neg (by omega)]
        show some (Addr.add ⟨ab, ao, none⟩ (0 * 32)) = _
        rw [Addr.add_mid]; simp
      · rw [hl] at hi
        have := hx i (by omega)
        have e : (hs.take q).getD i zeroH = hs.getD i zeroH := by simp [List.getD, hi]
        rw [e]; exact this
theorem HashesIn.drop {w : World} {a : Option Addr} {n cap : Nat} {hs : List (Nat → Int)} (h : HashesIn w (.slice a n cap) hs) (p : Nat) (hp : p ≤ n) : HashesIn w (.slice (cutH a cap p) (n - p) (cap - p)) (hs.drop p) := by
  obtain ⟨a', cap', e, hc, hm, hx⟩ := h
  injection e with e1 e2 e3
  subst e1 e2 e3
  have hl : (hs.drop p).length = hs.length - p := by rw [List.length_drop]
  refine ⟨_, _, by rw [hl], by rw [hl]; omega, by omega, ?_⟩
  by_cases h0 : hs.length = p
  · left; exact List.drop_eq_nil_of_le (by omega)
  · rcases hx with hx | ⟨ab, ao, rfl, hlt, hx⟩
    · left; subst hx; simp
    · refine .inr ⟨ab, ao + p * 32, ?_, hlt, fun i hi => ?_⟩
      · unfold cutH
        rw [if_neg (by omega)]
        show some (Addr.add ⟨ab, ao, none⟩ (p * 32)) = _
        rw [Addr.add_mid]
      · rw [hl] at hi
        have := hx (p + i) (by omega)
        have e : (hs.drop p).getD i zeroH = hs.getD (p + i) zeroH := by simp [List.getD, List.getElem?_drop]
        rw [e, show ao + p * 32 + i * 32 = ao + (p + i) * 32 by omega]
        exact this
set_option maxRecDepth 100000 in
set_option maxHeartbeats 400000 in
theorem root_nil (a : Option Addr) (cap : Nat) (w : World) (he : Env w) :
    Calls Tryz.prog 50 #[.slice a 0 cap] w fun e w' => e = .returned (.agg (rowOf .u8 32 (rootF []))) ∧ Below w.heap.size w w' := by
  have HB := Lib.hid (below_alloc w (.cells (rowOf .u8 32 (fun _ => 0)) 23))
  have HE := Lib.hid (he.below HB.out he.lt)
  have HR := Lib.hid (RowAt.new w .u8 32 23 (fun _ => 0))
  have HN := Lib.hid (nil_in (w.alloc (.cells (rowOf .u8 32 (fun _ => 0)) 23)))
  clear he
  go_enter Tryz.func50, Tryz.ntmps50
  go_upto_region 1 with (fail)
  rw [zeros32]
  generalize w.alloc (.cells (rowOf .u8 32 (fun _ => 0)) 23) = w1 at *
  go_wp2_with (first
    | (go_at_call 53; (with_reducible refine (shSum_any _ [] _ HN.out HE.out).mono ?_); rintro e w5 ⟨rfl, HB5⟩; replace HR := Lib.hid (HR.out.below HB5 HR.out.lt); replace HB := Lib.hid (HB.out.trans (HB5.mono HB.out.size)); clear HB5)
    | (refine wpList_store_row rfl 23 (.tmp 2) (.tmp 8) rfl w.heap.size _ rfl rfl 23 _ HR.out (by rw [rowOf_size]; kernel_rfl) (by rw [rowOf_size, rowOf_size]) (rowOf_one _ _ _) ?_))
  refine bodyPost_ret (results_cell_row rfl _ _ w.heap.size 23 _ (0, 0) _ rfl (setRow_heap _ _ _ _ _ _ HR.out) Tryz.underlying23 rfl (by rw [rowOf_size]; kernel_rfl)) rfl ?_
  exact ⟨by rw [rootF_nil, sumF], below_setRow HB.out (Nat.le_refl _) _⟩
set_option maxRecDepth 100000 in
set_option maxHeartbeats 400000 in
theorem root_one (a : Option Addr) (cap : Nat) (h : Nat → Int) (w : World) (hx : HashesIn w (.slice a 1 cap) [h]) :
    Calls Tryz.prog 50 #[.slice a 1 cap] w fun e w' => e = .returned (.agg (rowOf .u8 32 h)) ∧ Below w.heap.size w w' := by
  obtain ⟨a', cap', e, hc, hm, hx⟩ := hx
  injection e with e1 e2 e3
  subst e1 e3
  obtain ⟨ab, ao, rfl, hlt, hx⟩ := hx.resolve_left (by simp)
  have HC := Lib.hid (hx 0 (by simp))
  have HB := Lib.hid (below_alloc w (.cells (rowOf .u8 32 (fun _ => 0)) 23))
  have HR := Lib.hid (RowAt.new w .u8 32 23 (fun _ => 0))
  have HC1 := Lib.hid (World.rangeAt_alloc HC.out (.cells (rowOf .u8 32 (fun _ => 0)) 23))
  clear hx e2 HC
  go_enter Tryz.func50, Tryz.ntmps50
  go_upto_region 1 with (fail)
  rw [zeros32]
  generalize w.alloc (.cells (rowOf .u8 32 (fun _ => 0)) 23) = w1 at *
  go_wp2_with (first
    | (refine wpList_load_mid rfl 23 (.tmp 12) rfl ab ao rfl _ _ (show w1.rangeAt ab ao (rowOf .u8 32 h).toList from by simpa using HC1.out) Tryz.underlying23 rfl (by rw [(rowOf_list _ _ _).2]; kernel_rfl) ?_; rw [Array.toArray_toList])
    | (refine wpList_store_row rfl 23 (.tmp 2) (.tmp 13) rfl w.heap.size _ rfl rfl 23 _ HR.out (by rw [rowOf_size]; kernel_rfl) (by rw [rowOf_size, rowOf_size]) (rowOf_one _ _ _) ?_))
  refine bodyPost_ret (results_cell_row rfl _ _ w.heap.size 23 _ (0, 0) _ rfl (setRow_heap _ _ _ _ _ _ HR.out) Tryz.underlying23 rfl (by rw [rowOf_size]; kernel_rfl)) rfl ?_
  exact ⟨rfl, below_setRow HB.out (Nat.le_refl _) _⟩
set_option maxRecDepth 100000 in
set_option maxHeartbeats 400000 in
theorem root_step (a : Option Addr) (n cap k : Nat) (hs : List (Nat → Int)) (r1 r2 : Nat → Int) (w : World) (hx : HashesIn w (.slice a n cap) hs) (he : Env w) (hn : 2 ≤ n) (hn2 : n ≤ 9223372036854775807) (hnc : n ≤ cap) (hk : k = splitF n) (hkn : k ≤ n)
    (ih1 : ∀ (v : Value) (w : World), HashesIn w v (hs.take k) → Env w → Calls Tryz.prog 50 #[v] w fun e w' => e = .returned (.agg (rowOf .u8 32 r1)) ∧ Below w.heap.size w w')
    (ih2 : ∀ (v : Value) (w : World), HashesIn w v (hs.drop k) → Env w → Calls Tryz.prog 50 #[v] w fun e w' => e = .returned (.agg (rowOf .u8 32 r2)) ∧ Below w.heap.size w w') :
    Calls Tryz.prog 50 #[.slice a n cap] w fun e w' => e = .returned (.agg (rowOf .u8 32 (nodeF r1 r2))) ∧ Below w.heap.size w w' := by
  have HB := Lib.hid (below_alloc w (.cells (rowOf .u8 32 (fun _ => 0)) 23))
  have HE := Lib.hid (he.below HB.out he.lt)
  have HR := Lib.hid (RowAt.new w .u8 32 23 (fun _ => 0))
  have HX := Lib.hid hx
  have HK := Lib.hid (show k ≤ n ∧ k ≤ cap from ⟨hkn, by omega⟩)
  have hsl1 := slice43hi a n cap k HK.out.2
  have hsl2 := slice43lo a n cap k HK.out.1
  have hsplit := split_any n
  have HS := Lib.hid (show ∀ w : World, Calls Tryz.prog 101 #[.int .i64 (n : Int)] w fun e w' => e = .returned (.int .i64 (k : Int)) ∧ w = w' from fun w => by rw [hk]; exact split_any n w hn (by omega))
  have hn0 : ((n : Int) == 0) = false := by rw [beq_eq_false_iff_ne]; omega
  have hn1 : ((n : Int) == 1) = false := by rw [beq_eq_false_iff_ne]; omega
  clear he hx hsplit hk
  go_enter Tryz.func50, Tryz.ntmps50
  go_upto_region 1 with (fail)
  rw [zeros32]
  generalize w.alloc (.cells (rowOf .u8 32 (fun _ => 0)) 23) = w1 at *
  go_upto_region 7 with (go_at_call 101; (with_reducible refine (HS.out _).mono ?_); rintro e w' ⟨rfl, rfl⟩)
  refine wp_region_any (by kernel_rfl) ?_
  change wpAny _ _ _ _ _ _ _ w1.drew
  refine wpAny_take (i := 0) (v := .slice a n cap) rfl (by kernel_rfl) (by kernel_rfl) (by kernel_rfl) (fun _ _ _ h => h) (Or.inl ⟨by rfl, by intro w; go_simp⟩) ?_
  try simp only [List.getElem_toArray, List.getElem_cons_zero, Act.put, List.setIfInBounds_toArray, List.set_cons_zero, List.set_cons_succ]
  refine wpAny_take (i := 1) (v := .int .i64 (k : Int)) rfl (by kernel_rfl) (by kernel_rfl) (by kernel_rfl) (fun _ _ _ h => h) (Or.inl ⟨by rfl, by intro w; go_simp⟩) ?_
  try simp only [List.getElem_toArray, List.getElem_cons_succ, List.getElem_cons_zero, Act.put, List.setIfInBounds_toArray, List.set_cons_zero, List.set_cons_succ]
  refine wpAny_take (i := 2) (v := .slice (cutH a cap 0) k cap) rfl (by kernel_rfl) (by kernel_rfl) (by kernel_rfl) (fun _ _ _ h => h) (Or.inl ⟨by rfl, by intro w; go_simp⟩) ?_
  try simp only [List.getElem_toArray, List.getElem_cons_succ, List.getElem_cons_zero, Act.put, List.setIfInBounds_toArray, List.set_cons_zero, List.set_cons_succ]
  refine wpAny_take (i := 4) (v := .slice a n cap) rfl (by kernel_rfl) (by kernel_rfl) (by kernel_rfl) (fun _ _ _ h => h) (Or.inl ⟨by rfl, by intro w; go_simp⟩) ?_
  try simp only [List.getElem_toArray, List.getElem_cons_succ, List.getElem_cons_zero, Act.put, List.setIfInBounds_toArray, List.set_cons_zero, List.set_cons_succ]
  refine wpAny_take (i := 5) (v := .int .i64 (k : Int)) rfl (by kernel_rfl) (by kernel_rfl) (by kernel_rfl) (fun _ _ _ h => h) (Or.inl ⟨by rfl, by intro w; go_simp⟩) ?_
  try simp only [List.getElem_toArray, List.getElem_cons_succ, List.getElem_cons_zero, Act.put, List.setIfInBounds_toArray, List.set_cons_zero, List.set_cons_succ]
  refine wpAny_take (i := 6) (v := .slice (cutH a cap k) (n - k) (cap - k)) rfl (by kernel_rfl) (by kernel_rfl) (by kernel_rfl) (fun _ _ _ h => h) (Or.inl ⟨by rfl, by intro w; go_simp⟩) ?_
  try simp only [List.getElem_toArray, List.getElem_cons_succ, List.getElem_cons_zero, Act.put, List.setIfInBounds_toArray, List.set_cons_zero, List.set_cons_succ]
  replace HE : Hid (Env w1.drew) := Lib.hid ⟨HE.out.begin, HE.out.consts⟩
  replace HR : Hid (RowAt w1.drew w.heap.size .u8 32 23 (fun _ => 0)) := HR
  replace HB : Hid (Below w.heap.size w w1.drew) := Lib.hid HB.out.drew
  generalize w1.drew = w2 at *
  refine wpAny_ready (rs := [3]) (by kernel_rfl) (by simp) ?_; refine AllReady.cons rfl (fun K hK => ?_) AllReady.nil; rw [if_pos (by rfl)]
  try simp only [List.getElem_toArray, List.getElem_cons_succ, List.getElem_cons_zero]
  go_simp
  refine (ih1 (.slice (cutH a cap 0) k cap) _ ((HX.out.take k HK.out.1).below HB.out) HE.out).mono ?_
  rintro e w3 ⟨rfl, HB3⟩
  replace HR := Lib.hid (HR.out.below HB3 HR.out.lt)
  replace HE := Lib.hid (HE.out.below HB3 HE.out.lt)
  replace HB := Lib.hid (HB.out.trans (HB3.mono HB.out.size))
  clear HB3
  refine hK _ _ ?_
  clear hK K
  try simp only [List.getElem_toArray, List.getElem_cons_succ, List.getElem_cons_zero, Act.put, List.setIfInBounds_toArray, List.set_cons_zero, List.set_cons_succ]
  refine wpAny_ready (rs := [7]) (by kernel_rfl) (by simp) ?_; refine AllReady.cons rfl (fun K hK => ?_) AllReady.nil; rw [if_pos (by rfl)]
  try simp only [List.getElem_toArray, List.getElem_cons_succ, List.getElem_cons_zero]
  go_simp
  refine (ih2 (.slice (cutH a cap k) (n - k) (cap - k)) _ ((HX.out.drop k HK.out.1).below HB.out) HE.out).mono ?_
  rintro e w4 ⟨rfl, HB3⟩
  replace HR := Lib.hid (HR.out.below HB3 HR.out.lt)
  replace HE := Lib.hid (HE.out.below HB3 HE.out.lt)
  replace HB := Lib.hid (HB.out.trans (HB3.mono HB.out.size))
  clear HB3
  refine hK _ _ ?_
  clear hK K
  try simp only [List.getElem_toArray, List.getElem_cons_succ, List.getElem_cons_zero, Act.put, List.setIfInBounds_toArray, List.set_cons_zero, List.set_cons_succ]
  refine wpAny_ready (rs := [8]) (by kernel_rfl) (by simp) ?_; refine AllReady.cons rfl (fun K hK => ?_) AllReady.nil; rw [if_pos (by rfl)]
  try simp only [List.getElem_toArray, List.getElem_cons_succ, List.getElem_cons_zero]
  go_simp
  refine (node_any _ _ _ HE.out).mono ?_
  rintro e w5 ⟨rfl, HB3⟩
  replace HR := Lib.hid (HR.out.below HB3 HR.out.lt)
  replace HB := Lib.hid (HB.out.trans (HB3.mono HB.out.size))
  clear HB3
  refine hK _ _ ?_
  clear hK K
  try simp only [List.getElem_toArray, List.getElem_cons_succ, List.getElem_cons_zero, Act.put, List.setIfInBounds_toArray, List.set_cons_zero, List.set_cons_succ]
  refine wpAny_ready (rs := [9]) (by kernel_rfl) (by simp) ?_; refine AllReady.cons rfl (fun K hK => ?_) AllReady.nil; rw [if_pos (by rfl)]
  refine wp_store_row 23 (.tmp 2) (.tmp 25) rfl w.heap.size _ rfl rfl 23 _ HR.out (by rw [rowOf_size]; kernel_rfl) (by rw [rowOf_size, rowOf_size]) (rowOf_one _ _ _) ?_
  refine hK _ _ ?_
  clear hK K
  try simp only [List.getElem_toArray, List.getElem_cons_succ, List.getElem_cons_zero, Act.put]
  refine wpAny_done (by kernel_rfl) ?_ _
  go_wp2_with (fail)
  refine bodyPost_ret (results_cell_row rfl _ _ w.heap.size 23 _ (0, 0) _ rfl (setRow_heap _ _ _ _ _ _ HR.out) Tryz.underlying23 rfl (by rw [rowOf_size]; kernel_rfl)) rfl ?_
  exact ⟨rfl, below_setRow HB.out (Nat.le_refl _) _⟩
theorem root_any : ∀ (n : Nat) (hs : List (Nat → Int)), hs.length = n → ∀ (v : Value) (w : World), HashesIn w v hs → Env w →
    Calls Tryz.prog 50 #[v] w fun e w' => e = .returned (.agg (rowOf .u8 32 (rootF hs))) ∧ Below w.heap.size w w' := by
  intro n
  induction n using Nat.strongRecOn with
  | _ n ih =>
    intro hs hl v w hx he
    have hx0 := hx
    obtain ⟨a, cap, rfl, hc, hm, _⟩ := hx
    unfold maxLen at hm
    by_cases h0 : n = 0
    · have : hs = [] := List.eq_nil_of_length_eq_zero (by omega)
      subst this
      exact root_nil a cap w he
    · by_cases h1 : n = 1
      · obtain ⟨h, rfl⟩ : ∃ h, hs = [h] := by
          match hs, hl with
          | [h], _ => exact ⟨h, rfl⟩
          | [], hl => exact absurd hl (by simp; omega)
          | _ :: _ :: _, hl => exact absurd hl (by simp; omega)
        have := root_one a cap h w hx0
        rw [rootF_one [h] rfl]
        exact this
      · have sp := splitF_spec hs.length (by omega) (by omega)
        rw [rootF_step hs (by omega) ⟨sp.1, sp.2.1⟩]
        exact root_step a hs.length cap (splitF hs.length) hs _ _ w hx0 he (by omega) (by omega) hc rfl (by omega)
          (fun v w => ih (splitF hs.length) (by omega) (hs.take (splitF hs.length)) (by rw [List.length_take]; omega) v w)
          (fun v w => ih (hs.length - splitF hs.length) (by omega) (hs.drop (splitF hs.length)) (by rw [List.length_drop]) v w)
end Go.Proofs.YteokgklfljhcaaaGreatDoor
namespace Go.Proofs.YteokgklfljhcaaaGreatDoor
set_option linter.unusedVariables false
set_option linter.unusedSimpArgs false
open Go.RowKit
theorem bits_or_comm (x y : Int) : bits .or .u32 x y = bits .or .u32 y x := by
  unfold bits; simp only [BitVec.or_comm]
theorem ofInt_wrap32 (a : BitVec IntKind.u32.bits) : BitVec.ofInt IntKind.u32.bits (IntKind.u32.wrap (a.toNat : Int)) = a := by
  have hlt : a.toNat < 4294967296 := a.isLt
  have h : IntKind.u32.wrap (a.toNat : Int) = (a.toNat : Int) := by
    show ((a.toNat : Int) % 4294967296) = _
    omega
  rw [h]
  apply BitVec.eq_of_toNat_eq
  rw [BitVec.toNat_ofInt]
  show ((a.toNat : Int) % ((4294967296 : Nat) : Int)).toNat = _
  omega
theorem choose_vec (E F G : BitVec 32) : (E &&& F ||| (BitVec.allOnes 32 ^^^ E) &&& G) = (E &&& F ^^^ (BitVec.allOnes 32 ^^^ E) &&& G) := by
  ext i hi
  simp only [BitVec.getElem_or, BitVec.getElem_and, BitVec.getElem_xor, BitVec.getElem_allOnes]
  cases E[i] <;> cases F[i] <;> cases G[i] <;> rfl
theorem major_vec (A B C : BitVec 32) : (A &&& B ||| A &&& C ||| B &&& C) = (A &&& B ^^^ A &&& C ^^^ B &&& C) := by
  ext i hi
  simp only [BitVec.getElem_or, BitVec.getElem_and, BitVec.getElem_xor]
  cases A[i] <;> cases B[i] <;> cases C[i] <;> rfl
theorem or32 (x y : BitVec IntKind.u32.bits) (X Y : Int) (hx : BitVec.ofInt IntKind.u32.bits X = x) (hy : BitVec.ofInt IntKind.u32.bits Y = y) : bits .or .u32 X Y = IntKind.u32.wrap ((x ||| y).toNat : Int) := by subst hx; subst hy; rfl
theorem xor32 (x y : BitVec IntKind.u32.bits) (X Y : Int) (hx : BitVec.ofInt IntKind.u32.bits X = x) (hy : BitVec.ofInt IntKind.u32.bits Y = y) : bits .xor .u32 X Y = IntKind.u32.wrap ((x ^^^ y).toNat : Int) := by subst hx; subst hy; rfl
theorem and32 (x y : BitVec IntKind.u32.bits) (X Y : Int) (hx : BitVec.ofInt IntKind.u32.bits X = x) (hy : BitVec.ofInt IntKind.u32.bits Y = y) : bits .and .u32 X Y = IntKind.u32.wrap ((x &&& y).toNat : Int) := by subst hx; subst hy; rfl
theorem choose_bits (e f g : Int) : bits .or .u32 (bits .and .u32 e f) (bits .and .u32 (bits .xor .u32 4294967295 e) g) = bits .xor .u32 (bits .and .u32 e f) (bits .and .u32 (bits .xor .u32 IntKind.u32.max e) g) := by
  have hm : IntKind.u32.max = 4294967295 := by kernel_rfl
  rw [hm]
  obtain ⟨E, hE⟩ : ∃ E, BitVec.ofInt IntKind.u32.bits e = E := ⟨_, rfl⟩
  obtain ⟨F, hF⟩ : ∃ F, BitVec.ofInt IntKind.u32.bits f = F := ⟨_, rfl⟩
  obtain ⟨G, hG⟩ : ∃ G, BitVec.ofInt IntKind.u32.bits g = G := ⟨_, rfl⟩
  have hM : BitVec.ofInt IntKind.u32.bits 4294967295 = BitVec.allOnes 32 := by apply BitVec.eq_of_toNat_eq; kernel_rfl
  rw [and32 E F e f hE hF, xor32 _ E _ e hM hE, and32 _ G _ g (ofInt_wrap32 _) hG, or32 _ _ _ _ (ofInt_wrap32 _) (ofInt_wrap32 _), xor32 _ _ _ _ (ofInt_wrap32 _) (ofInt_wrap32 _)]
  exact congrArg (fun v : BitVec 32 => IntKind.u32.wrap (v.toNat : Int)) (choose_vec E F G)
theorem major_bits (a b c : Int) : bits .or .u32 (bits .or .u32 (bits .and .u32 a b) (bits .and .u32 a c)) (bits .and .u32 b c) = bits .xor .u32 (bits .xor .u32 (bits .and .u32 a b) (bits .and .u32 a c)) (bits .and .u32 b c) := by
  obtain ⟨A, hA⟩ : ∃ A, BitVec.ofInt IntKind.u32.bits a = A := ⟨_, rfl⟩
  obtain ⟨B, hB⟩ : ∃ B, BitVec.ofInt IntKind.u32.bits b = B := ⟨_, rfl⟩
  obtain ⟨C, hC⟩ : ∃ C, BitVec.ofInt IntKind.u32.bits c = C := ⟨_, rfl⟩
  rw [and32 A B a b hA hB, and32 A C a c hA hC, and32 B C b c hB hC, or32 _ _ _ _ (ofInt_wrap32 _) (ofInt_wrap32 _), or32 _ _ _ _ (ofInt_wrap32 _) (ofInt_wrap32 _), xor32 _ _ _ _ (ofInt_wrap32 _) (ofInt_wrap32 _), xor32 _ _ _ _ (ofInt_wrap32 _) (ofInt_wrap32 _)]
  exact congrArg (fun v : BitVec 32 => IntKind.u32.wrap (v.toNat : Int)) (major_vec A B C)
/- only the block's 64 bytes matter -/
theorem expA_congr (b b' : Nat → Int) (h : ∀ i, i < 64 → b i = b' i) : ∀ k, k ≤ 16 → expA b k = expA b' k
  | 0, _ => rfl
  | k + 1, hk => by
    have e : wordB b k = wordB b' k := by
      unfold wordB
      rw [h (4 * k) (by omega), h (4 * k + 1) (by omega), h (4 * k + 2) (by omega), h (4 * k + 3) (by omega)]
    show upd (expA b k) k (wordB b k) = upd (expA b' k) k (wordB b' k)
    rw [expA_congr b b' h k (by omega), e]
theorem expB_congr (b b' : Nat → Int) (h : ∀ i, i < 64 → b i = b' i) : ∀ k, expB b k = expB b' k
  | 0 => expA_congr b b' h 16 (by omega)
  | k + 1 => by
    show upd (expB b k) (k + 16) (nextW (expB b k) k) = upd (expB b' k) (k + 16) (nextW (expB b' k) k)
    rw [expB_congr b b' h k]
theorem mixF_congr (s b b' : Nat → Int) (h : ∀ i, i < 64 → b i = b' i) : mixF s b = mixF s b' := by
  unfold mixF; rw [expB_congr b b' h 48]
theorem lenF_get (f : Nat → Int) (n : Int) (i : Nat) (hi : i < 64) : ∀ k, k ≤ 8 → lenF f n k i = if 64 - k ≤ i then IntKind.u64.wrap (n * 8) / 2 ^ (8 * (63 - i)) % 256 else f i
  | 0, _ => by rw [if_neg (by omega)]; rfl
  | k + 1, hk => by
    show upd (lenF f n k) (63 - k) (IntKind.u64.wrap (n * 8) / 2 ^ (8 * k) % 256) i = _
    unfold upd
    by_cases h : i = 63 - k
    · rw [if_pos h, if_pos (by omega), show 63 - i = k by omega]
    · rw [if_neg h, lenF_get f n i hi k (by omega)]
      by_cases h2 : 64 - k ≤ i
      · rw [if_pos h2, if_pos (by omega)]
      · rw [if_neg h2, if_neg (by omega)]
/-- the first k of the last eight bytes -/
def lenB (n : Int) (k : Nat) : List Int := (List.range k).map fun j => IntKind.u64.wrap (n * 8) / 2 ^ (8 * (7 - j)) % 256
theorem lenB_length (n : Int) (k : Nat) : (lenB n k).length = k := by simp [lenB]
theorem lenB_succ (n : Int) (k : Nat) : lenB n (k + 1) = lenB n k ++ [IntKind.u64.wrap (n * 8) / 2 ^ (8 * (7 - k)) % 256] := by simp [lenB, List.range_succ]
theorem lenB_get (n : Int) (k j : Nat) (h : j < k) : (lenB n k).getD j 0 = IntKind.u64.wrap (n * 8) / 2 ^ (8 * (7 - j)) % 256 := by
  simp [lenB, List.getD_eq_getElem?_getD, h]
/-- noughts behind the bit 1 -/
def zN (n : Nat) : Nat := (119 - n % 64) % 64
def padL (n : Nat) : List Int := 128 :: (List.replicate (zN n) 0 ++ lenB n 8)
theorem padL_length (n : Nat) : (padL n).length = zN n + 9 := by simp [padL, lenB_length]
theorem padL_get (n i : Nat) : (padL n).getD i 0 = if i = 0 then 128 else if i < zN n + 1 then 0 else (lenB n 8).getD (i - (zN n + 1)) 0 := by
  unfold padL
  cases i with
  | zero => rfl
  | succ i =>
    rw [if_neg (by omega), List.getD_cons_succ, List.getD_eq_getElem?_getD, List.getElem?_append]
    simp only [List.length_replicate]
    by_cases h : i < zN n
    · rw [if_pos h, if_pos (by omega), List.getElem?_replicate, if_pos h]; rfl
    · rw [if_neg h, if_neg (by omega), ← List.getD_eq_getElem?_getD, show i + 1 - (zN n + 1) = i - zN n by omega]
/-- the padding put byte by byte is finish -/
theorem fin_put (s b : Nat → Int) (n : Nat) (hn : n < 18446744073709551616) : (putF ⟨s, b, n⟩ (padL n)).s = finF s b n ((n : Int) % 64).toNat := by
  obtain ⟨u, hu⟩ : ∃ u, n % 64 = u := ⟨_, rfl⟩
  have hu1 : ((n : Int) % 64).toNat = u := by omega
  have hz : zN n = (119 - u) % 64 := by unfold zN; rw [hu]
  rw [hu1]
  unfold finF
  by_cases h56 : u < 56
  · have hz' : zN n = 55 - u := by omega
    rw [if_pos h56, put_full s (padL n) b n u (by omega) (by omega) (by omega) (by rw [padL_length]; omega) (by omega)]
    refine mixF_congr _ _ _ fun i hi => ?_
    rw [lay_get, lenF_get _ _ _ hi 8 (by omega), padL_length, padL_get, hz']
    by_cases h1 : i < u
    · rw [if_neg (by omega), if_neg (by omega)]
      unfold padB clr upd
      rw [if_neg (by omega), if_neg (by omega)]
    · rw [if_pos (by omega)]
      by_cases h2 : i = u
      · rw [if_pos (by omega), if_neg (by omega)]
        unfold padB clr upd
        rw [if_neg (by omega), if_pos h2]
      · rw [if_neg (by omega)]
        by_cases h3 : i < 56
        · rw [if_pos (by omega), if_neg (by omega)]
          unfold padB clr
          rw [if_pos (by omega)]
        · rw [if_neg (by omega), if_pos (by omega), lenB_get _ _ _ (by omega), show 7 - (i - u - (55 - u + 1)) = 63 - i by omega]
  · have hz' : zN n = 119 - u := by omega
    rw [if_neg h56]
    have hsplit : padL n = (padL n).take (64 - u) ++ (padL n).drop (64 - u) := (List.take_append_drop _ _).symm
    have hl1 : ((padL n).take (64 - u)).length = 64 - u := by rw [List.length_take, padL_length]; omega
    have hl2 : ((padL n).drop (64 - u)).length = 64 := by rw [List.length_drop, padL_length]; omega
    rw [hsplit, putF_append, put_full s _ b n u (by omega) (by omega) (by omega) (by rw [hl1]; omega) (by omega)]
    rw [put_full _ _ _ _ 0 (by omega) (by omega) (by rw [hl1]; omega) (by rw [hl2]) (by omega)]
    have e1 : mixF s (lay b u ((padL n).take (64 - u))) = mixF s (padB b u) := by
      refine mixF_congr _ _ _ fun i hi => ?_
      rw [lay_get, hl1]
      by_cases h1 : i < u
      · rw [if_neg (by omega)]
        unfold padB clr upd
        rw [if_neg (by omega), if_neg (by omega)]
      · rw [if_pos (by omega), List.getD_eq_getElem?_getD, List.getElem?_take, if_pos (by omega), ← List.getD_eq_getElem?_getD, padL_get]
        by_cases h2 : i = u
        · rw [if_pos (by omega)]
          unfold padB clr upd
          rw [if_neg (by omega), if_pos h2]
        · rw [if_neg (by omega), if_pos (by omega)]
          unfold padB clr
          rw [if_pos (by omega)]
    show mixF (mixF s _) _ = _
    rw [e1]
    refine mixF_congr _ _ _ fun i hi => ?_
    rw [lay_get, hl2, if_pos (by omega), lenF_get _ _ _ hi 8 (by omega), List.getD_eq_getElem?_getD, List.getElem?_drop, ← List.getD_eq_getElem?_getD, padL_get, if_neg (by omega)]
    by_cases h3 : i < 56
    · rw [if_pos (by omega), if_neg (by omega)]
      unfold clr
      rw [if_pos (by omega)]
    · rw [if_neg (by omega), if_pos (by omega), lenB_get _ _ _ (by omega), show 7 - (64 - u + (i - 0) - (zN n + 1)) = 63 - i by omega]
theorem put_n (h : HS) : ∀ xs : List Int, 0 ≤ h.n → h.n < 18446744073709551616 → (putF h xs).n = (h.n + xs.length) % 18446744073709551616 := by
  intro xs
  induction xs generalizing h with
  | nil => intro h0 h1; show h.n = (h.n + ((0 : Nat) : Int)) % _; omega
  | cons x xs ih =>
    intro h0 h1
    have e : (put1 h x).n = (h.n + 1) % 18446744073709551616 := by unfold put1; split <;> rfl
    have := ih (put1 h x) (by rw [e]; omega) (by rw [e]; omega)
    show (putF (put1 h x) xs).n = _
    rw [this, e, List.length_cons]
    omega
/-- the whole padded message -/
def msgL (xs : List Int) : List Int := xs ++ padL xs.length
theorem msgL_length (xs : List Int) : (msgL xs).length % 64 = 0 := by
  unfold msgL
  rw [List.length_append, padL_length]
  unfold zN
  omega
theorem sum_msg (xs : List Int) (hl : xs.length < 18446744073709551616) : sumF xs = outF (putF h0 (msgL xs)).s := by
  have hn : (putF h0 xs).n = (xs.length : Nat) := by
    rw [put_n h0 xs (by decide) (by decide)]
    show ((0 : Int) + xs.length) % _ = _
    omega
  unfold sumF hsum msgL
  rw [putF_append]
  congr 1
  have := fin_put (putF h0 xs).s (putF h0 xs).b xs.length hl
  rw [← hn] at this
  exact this.symm
/-- one block of the message -/
def blkF (ms : List Int) (at_ : Nat) : Nat → Int := fun i => ms.getD (at_ + i) 0
def stF (ms : List Int) (at_ : Nat) : Nat → Int := (putF h0 (ms.take at_)).s
theorem stF_all (ms : List Int) : stF ms ms.length = (putF h0 ms).s := by unfold stF; rw [List.take_length]
theorem stF_next (ms : List Int) (p : Nat) (hp : p % 64 = 0) (hl : p + 64 ≤ ms.length) (hm : ms.length < 18446744073709551616) : stF ms (p + 64) = mixF (stF ms p) (blkF ms p) := by
  have hn : (putF h0 (ms.take p)).n = (p : Nat) := by
    rw [put_n h0 _ (by decide) (by decide), List.length_take]
    show ((0 : Int) + (min p ms.length : Nat)) % _ = _
    omega
  unfold stF
  have hs : ms.take (p + 64) = ms.take p ++ (ms.drop p).take 64 := by rw [List.take_add]
  have hl2 : ((ms.drop p).take 64).length = 64 := by rw [List.length_take, List.length_drop]; omega
  rw [hs, putF_append]
  have := put_full (putF h0 (ms.take p)).s ((ms.drop p).take 64) (putF h0 (ms.take p)).b (putF h0 (ms.take p)).n 0 (by rw [hn]; omega) (by rw [hn]; omega) (by rw [hn]; omega) (by rw [hl2]) (by omega)
  rw [show putF (putF h0 (ms.take p)) ((ms.drop p).take 64) = _ from this]
  show mixF _ _ = _
  refine mixF_congr _ _ _ fun i hi => ?_
  rw [lay_get, hl2, if_pos (by omega), List.getD_eq_getElem?_getD, List.getElem?_take, if_pos (by omega), List.getElem?_drop]
  unfold blkF
  rw [List.getD_eq_getElem?_getD, Nat.sub_zero]
end Go.Proofs.YteokgklfljhcaaaGreatDoor
namespace Go.Proofs.YteokgklfljhcaaaGreatDoor
set_option linter.unusedVariables false
set_option linter.unusedSimpArgs false
open Go.RowKit
set_option maxRecDepth 100000
theorem rturn2 (x : Int) (w : World) : Calls Tryz.prog 106 #[.int .u32 x, .int .u64 2] w fun e w' => e = .returned (.int .u32 (rotI x 30)) ∧ w = w' := by
  go_enter Tryz.func106, Tryz.ntmps106
  go_wp2
  go_ret
  refine ⟨?_, rfl⟩
  unfold rotI
  rw [bits_or_comm]
  rfl
theorem rturn6 (x : Int) (w : World) : Calls Tryz.prog 106 #[.int .u32 x, .int .u64 6] w fun e w' => e = .returned (.int .u32 (rotI x 26)) ∧ w = w' := by
  go_enter Tryz.func106, Tryz.ntmps106
  go_wp2
  go_ret
  refine ⟨?_, rfl⟩
  unfold rotI
  rw [bits_or_comm]
  rfl
theorem rturn7 (x : Int) (w : World) : Calls Tryz.prog 106 #[.int .u32 x, .int .u64 7] w fun e w' => e = .returned (.int .u32 (rotI x 25)) ∧ w = w' := by
  go_enter Tryz.func106, Tryz.ntmps106
  go_wp2
  go_ret
  refine ⟨?_, rfl⟩
  unfold rotI
  rw [bits_or_comm]
  rfl
theorem rturn11 (x : Int) (w : World) : Calls Tryz.prog 106 #[.int .u32 x, .int .u64 11] w fun e w' => e = .returned (.int .u32 (rotI x 21)) ∧ w = w' := by
  go_enter Tryz.func106, Tryz.ntmps106
  go_wp2
  go_ret
  refine ⟨?_, rfl⟩
  unfold rotI
  rw [bits_or_comm]
  rfl
theorem rturn13 (x : Int) (w : World) : Calls Tryz.prog 106 #[.int .u32 x, .int .u64 13] w fun e w' => e = .returned (.int .u32 (rotI x 19)) ∧ w = w' := by
  go_enter Tryz.func106, Tryz.ntmps106
  go_wp2
  go_ret
  refine ⟨?_, rfl⟩
  unfold rotI
  rw [bits_or_comm]
  rfl
theorem rturn17 (x : Int) (w : World) : Calls Tryz.prog 106 #[.int .u32 x, .int .u64 17] w fun e w' => e = .returned (.int .u32 (rotI x 15)) ∧ w = w' := by
  go_enter Tryz.func106, Tryz.ntmps106
  go_wp2
  go_ret
  refine ⟨?_, rfl⟩
  unfold rotI
  rw [bits_or_comm]
  rfl
theorem rturn18 (x : Int) (w : World) : Calls Tryz.prog 106 #[.int .u32 x, .int .u64 18] w fun e w' => e = .returned (.int .u32 (rotI x 14)) ∧ w = w' := by
  go_enter Tryz.func106, Tryz.ntmps106
  go_wp2
  go_ret
  refine ⟨?_, rfl⟩
  unfold rotI
  rw [bits_or_comm]
  rfl
theorem rturn19 (x : Int) (w : World) : Calls Tryz.prog 106 #[.int .u32 x, .int .u64 19] w fun e w' => e = .returned (.int .u32 (rotI x 13)) ∧ w = w' := by
  go_enter Tryz.func106, Tryz.ntmps106
  go_wp2
  go_ret
  refine ⟨?_, rfl⟩
  unfold rotI
  rw [bits_or_comm]
  rfl
theorem rturn22 (x : Int) (w : World) : Calls Tryz.prog 106 #[.int .u32 x, .int .u64 22] w fun e w' => e = .returned (.int .u32 (rotI x 10)) ∧ w = w' := by
  go_enter Tryz.func106, Tryz.ntmps106
  go_wp2
  go_ret
  refine ⟨?_, rfl⟩
  unfold rotI
  rw [bits_or_comm]
  rfl
theorem rturn25 (x : Int) (w : World) : Calls Tryz.prog 106 #[.int .u32 x, .int .u64 25] w fun e w' => e = .returned (.int .u32 (rotI x 7)) ∧ w = w' := by
  go_enter Tryz.func106, Tryz.ntmps106
  go_wp2
  go_ret
  refine ⟨?_, rfl⟩
  unfold rotI
  rw [bits_or_comm]
  rfl
theorem results_cell2 {P : Program} {fn : Func} {p q : Tmp} {ty uy : TypeId} (h : fn.results = #[.cell p ty, .cell q uy]) (tmps : Array Value) (w : World) (g g2 : Nat) (t t2 : TypeId) (cs cs2 : Array Value) (fr fr2 : Nat × Nat) (d d2 : TypeDesc)
    (hp : tmps.getD p undef = .pointer (some ⟨g, 0, none⟩)) (hg : w.heap[g]? = some (.cells cs t fr))
    (hu : P.underlying ty = some d) (hd : (match d with | .struct _ | .array _ _ => true | _ => false) = true) (hi : (P.info? ty).map (·.size) = some cs.size)
    (hp2 : tmps.getD q undef = .pointer (some ⟨g2, 0, none⟩)) (hg2 : w.heap[g2]? = some (.cells cs2 t2 fr2))
    (hu2 : P.underlying uy = some d2) (hd2 : (match d2 with | .struct _ | .array _ _ => true | _ => false) = true) (hi2 : (P.info? uy).map (·.size) = some cs2.size) :
    (results fn tmps).run P w = .ok (.tuple #[.agg cs, .agg cs2]) w := by
  have hp' : tmps[p]?.getD undef = .pointer (some ⟨g, 0, none⟩) := by simpa using hp
  have hp2' : tmps[q]?.getD undef = .pointer (some ⟨g2, 0, none⟩) := by simpa using hp2
  simp [results, h, hp', hp2', asAddr, run_loadVar_row w g t ty cs fr d hg hu hd hi, run_loadVar_row w g2 t2 uy cs2 fr2 d2 hg2 hu2 hd2 hi2]
set_option maxHeartbeats 1000000 in
theorem rconsts_any (w : World) : Calls Tryz.prog 105 #[] w fun e w' => e = .returned (.tuple #[.agg (rowOf .u32 64 KT), .agg (rowOf .u32 8 BT)]) ∧ Below w.heap.size w w' := by
  go_enter Tryz.func105, Tryz.ntmps105
  go_upto_region 1 with (fail)
  rw [zeros64, zeros8]
  have h1 := (RowAt.new w .u32 64 148 (fun _ => 0)).alloc (.cells (rowOf .u32 8 (fun _ => 0)) 149)
  have h2 := RowAt.new (w.alloc (.cells (rowOf .u32 64 (fun _ => 0)) 148)) .u32 8 149 (fun _ => 0)
  have hB := (below_alloc w (.cells (rowOf .u32 64 (fun _ => 0)) 148)).trans ((below_alloc _ (.cells (rowOf .u32 8 (fun _ => 0)) 149)).mono (by simp))
  rw [shSize_alloc] at h2
  generalize (w.alloc (.cells (rowOf .u32 64 (fun _ => 0)) 148)).alloc (.cells (rowOf .u32 8 (fun _ => 0)) 149) = w1 at *
  have H1 := Lib.hid h1
  have H2 := Lib.hid h2
  have HB := Lib.hid hB
  clear h1 h2 hB
  go_wp2_with (first
    | (refine wpList_store_row rfl 148 (.tmp 0) (.tmp 2) rfl w.heap.size (rowOf .u32 64 KT) rfl rfl 148 _ H1.out (by rw [rowOf_size]; kernel_rfl) (by rw [rowOf_size, rowOf_size]) (rowOf_one _ _ _) ?_)
    | (refine wpList_store_row rfl 149 (.tmp 1) (.tmp 3) rfl (w.heap.size + 1) (rowOf .u32 8 BT) rfl rfl 149 _ ((setRow_other _ _ _ _ (by omega)).trans H2.out) (by rw [rowOf_size]; kernel_rfl) (by rw [rowOf_size, rowOf_size]) (rowOf_one _ _ _) ?_))
  refine bodyPost_ret (results_cell2 rfl _ _ w.heap.size (w.heap.size + 1) 148 149 (rowOf .u32 64 KT) (rowOf .u32 8 BT) (0, 0) (0, 0) _ _ rfl ((setRow_other _ _ _ _ (by omega)).trans (setRow_heap _ _ _ _ _ _ H1.out)) Tryz.underlying148 rfl (by rw [rowOf_size]; kernel_rfl)
    rfl (setRow_heap _ _ _ _ _ _ ((setRow_other _ _ _ _ (by omega)).trans H2.out)) Tryz.underlying149 rfl (by rw [rowOf_size]; kernel_rfl)) rfl ?_
  exact ⟨rfl, below_setRow (below_setRow HB.out (Nat.le_refl _) _) (by omega) _⟩
end Go.Proofs.YteokgklfljhcaaaGreatDoor
