/- coin: slices.Chunk by twos over strings: what a loop over it may lean on (written by gencnh.py). -/
import Derived.RangeFuncNested
import Derived.RangeFuncBound
import Derived.RangeFuncCalls
import Derived.RangeFuncLeaves
import Derived.RangeFuncFrom
import Derived.RangeFuncBox
import Derived.Shelf.Abstract
import Derived.Shelf.RegionOpen
import Derived.WalkKit
import Derived.OwnWalkIn
import Derived.TacticsInMore
import Derived.LoopNIn
import Derived.LoopIn
import Derived.Sort.CutIn
import Derived.Test.YteokgklfljhcaaaGreatDoorCnK
import Derived.Test.YteokgklfljhcaaaGreatDoorCnG
import Derived.Test.YteokgklfljhcaaaGreatDoorTin
import Derived.Test.YteokgklfljhcaaaGreatDoorMin
namespace Go.Proofs.YteokgklfljhcaaaGreatDoor
open Go.RowKit Go.Shelf
set_option maxRecDepth 100000
set_option linter.unusedSimpArgs false
set_option linter.unusedVariables false
attribute [local go_sem] Oper.semAt_some
/-- what a round keeps: all below n₀, and these blocks -/
structure KpS (n₀ : Nat) (bs : List Nat) (W W' : World) : Prop where
  below : Below n₀ W W'
  box : ∀ B ∈ bs, ∀ o, W.heap[B]? = some o → W'.heap[B]? = some o
theorem KpS.refl (n₀ : Nat) (bs : List Nat) (W : World) : KpS n₀ bs W W := ⟨Below.refl _ _, fun _ _ _ h => h⟩
theorem KpS.trans {n₀ : Nat} {bs : List Nat} {A B C : World} (h : KpS n₀ bs A B) (k : KpS n₀ bs B C) : KpS n₀ bs A C := ⟨h.below.trans k.below, fun b hb o ho => k.box b hb o (h.box b hb o ho)⟩
theorem KpS.obj {n₀ : Nat} {bs : List Nat} {w : World} (hn : n₀ ≤ w.heap.size) (hB : ∀ B ∈ bs, B < w.heap.size) (W : World) (l : Nat) (o o' : Obj) (hl : w.heap.size ≤ l) (ho : W.heap[l]? = some o) (h1 : o.isCells = false) (h2 : o.isWalk = false) : KpS n₀ bs W (W.putObj l o') :=
  ⟨belowK_b hn W l o o' hl ho h1 h2, fun b hb x hx => (World.putObj_heap_other (by have := hB b hb; omega)).trans hx⟩
/-- the j-th pair of a list (the last one, where there is none) -/
def ckJ (L j : Nat) : Nat := min j ((L - 1) / 2)
def ckL (l : List ByteArray) (j : Nat) : List ByteArray := (l.drop (2 * ckJ l.length j)).take 2
def ckV (ab ao L j : Nat) : Value := .slice (some ⟨ab, ao + 2 * ckJ L j, none⟩) (min 2 (L - 2 * ckJ L j)) (min 2 (L - 2 * ckJ L j))
theorem ck_in {W : World} {ab ao cap : Nat} {l : List ByteArray} (h : SsIn W (.slice (some ⟨ab, ao, none⟩) l.length cap) l) (hab : ab < W.heap.size) (j : Nat) : SsIn W (ckV ab ao l.length j) (ckL l j) := by
  have hlen : (ckL l j).length = min 2 (l.length - 2 * ckJ l.length j) := by unfold ckL; rw [List.length_take, List.length_drop]
  refine ⟨_, _, by unfold ckV; rw [hlen], by rw [hlen]; exact Nat.le_refl _, by rw [hlen]; unfold maxLen; omega, .inr ⟨ab, ao + 2 * ckJ l.length j, rfl, hab, fun i s hi => ?_⟩⟩
  unfold ckL at hi
  rw [List.getElem?_take] at hi
  split at hi
  · rw [List.getElem?_drop] at hi
    obtain ⟨ab2, ao2, e, hc⟩ := h.get hi
    injection e with e
    injection e with e1 e2
    subst e1 e2
    rwa [Nat.add_assoc]
  · cases hi
theorem range_pre14 {a b : Nat} (h : a ≤ b) : List.range a <+: List.range b := by
  obtain ⟨d, rfl⟩ := Nat.exists_eq_add_of_le h
  induction d with
  | zero => exact List.prefix_rfl
  | succ d ih => exact (ih (by omega)).trans (by rw [← Nat.add_assoc, List.range_succ]; exact List.prefix_append _ _)
set_option maxHeartbeats 4000000 in
theorem chunk_in (lp n₀ : Nat) (bs : List Nat) (J Jx : List Nat → World → Prop) (L ab ao cap sB nB n : Nat) (W : World) (hS : Boxed W sB 60 (.slice (some ⟨ab, ao, none⟩) L cap)) (hN : Boxed W nB 3 (.int .i64 2)) (hJ : AbidesFrom W.heap.size J) (hc : L ≤ cap) (hl : cap ≤ 4194304) (hsb : sB ∈ bs) (hnb : nB ∈ bs)
    (hY : ∀ pre x W1, J pre W1 → pre.length < (L + 1) / 2 → YieldAt Fence.wide (n - 1) Tryz.prog lp #[ckV ab ao L x] W1 fun e W' => (e = .returned (.bool true) ∧ J (pre ++ [x]) W' ∧ KpS n₀ bs W1 W') ∨ (e = .returned (.bool false) ∧ Jx (pre ++ [x]) W')) (h0 : J [] W) :
    CallsIn Fence.wide n Tryz.prog 136 #[.func (.yield lp) #[] #[], .pointer (some ⟨sB, 0, none⟩), .pointer (some ⟨nB, 0, none⟩)] W fun e W' => (∃ v, e = .returned v) ∧ ((∃ ys, ys = List.range ((L + 1) / 2) ∧ J ys W') ∨ (∃ pre, pre <+: List.range ((L + 1) / 2) ∧ Jx pre W')) := by
  have HY := Lib.hid hY
  have HS := Lib.hid hS
  have HN := Lib.hid hN
  have HJ := Lib.hid h0
  have HAB := Lib.hid (fun s A (hs : J s A) => hJ s A A.drew none hs ⟨rfl, rfl, rfl, Nat.le_refl _, fun _ _ _ => rfl⟩ (fun r e => by cases e))
  have HSB := Lib.hid (show sB ∈ bs ∧ nB ∈ bs from ⟨hsb, hnb⟩)
  clear hY hS hN h0 hsb hnb hJ
  refine callsIn_of_wp Tryz.func136 rfl trivial ?_ rfl
  simp only [Tryz.ntmps136, List.size_toArray, List.length_cons, List.length_nil, Nat.reduceAdd, Nat.reduceSub, Array.replicate_succ, Array.replicate_zero, List.push_toArray, List.append_toArray, List.nil_append, List.cons_append]
  gi_wp2
  gi_loopw [4] (fun i wr => ∃ (k z : Nat), i = .int .i64 (z : Int) ∧ Hid (z = 2 * k ∧ k ≤ (L + 1) / 2) ∧ Hid (J (List.range k) wr) ∧ Hid (KpS n₀ bs W wr)) (fun i _ => L + 2 - (intOf i).toNat)
  case atStart => exact ⟨0, 0, rfl, Lib.hid ⟨rfl, Nat.zero_le _⟩, Lib.hid HJ.out, Lib.hid (KpS.refl _ _ _)⟩
  case round =>
    clear HJ
    obtain ⟨k, z, rfl, HZ, HJ, HK⟩ := hrel
    have HS2 := Lib.hid (show Boxed wr sB 60 (.slice (some ⟨ab, ao, none⟩) L cap) from HK.out.box sB HSB.out.1 _ HS.out)
    have HN2 := Lib.hid (show Boxed wr nB 3 (.int .i64 2) from HK.out.box nB HSB.out.2 _ HN.out)
    have c0 := HS2.out.cell
    by_cases hlt : z < L
    · have hltI : (z : Int) < (L : Int) := by omega
      have hleI : (z : Int) ≤ (L : Int) := by omega
      have h0I : (0 : Int) ≤ (z : Int) := by omega
      have hcz : ¬ cap = z := by omega
      have hk : k < (L + 1) / 2 := by have := HZ.out.1; omega
      obtain ⟨f, hf⟩ : ∃ f : Nat, L - z = f := ⟨_, rfl⟩
      obtain ⟨e, he⟩ : ∃ e : Nat, e = min 2 f := ⟨_, rfl⟩
      have HX := Lib.hid (show ckV ab ao L k = .slice (some ⟨ab, ao + z, none⟩) e e from by
        have hj : ckJ L k = k := by unfold ckJ; omega
        unfold ckV
        rw [hj, ← HZ.out.1, hf, ← he])
      have HF := Lib.hid (show z + e ≤ L ∧ 1 ≤ e ∧ (z + e = L ∨ e = 2) from ⟨by omega, by omega, by omega⟩)
      have HEE := Lib.hid he
      clear he
      gi_upto_region 3 with (fail)
      clear c0
      have HJ2 := Lib.hid (HAB.out _ _ HJ.out)
      replace HS2 := Lib.hid (show Boxed wr.drew sB 60 (.slice (some ⟨ab, ao, none⟩) L cap) from HS2.out)
      replace HN2 := Lib.hid (show Boxed wr.drew nB 3 (.int .i64 2) from HN2.out)
      have HK2 := Lib.hid (HK.out.trans (show KpS n₀ bs wr wr.drew from ⟨(Below.refl _ _).drew, fun _ _ _ h => h⟩))
      refine wpIn_wide.2 ?_
      refine wp_region_T (fun W => W.cell? ⟨sB, 0, none⟩ = some (.slice (some ⟨ab, ao, none⟩) L cap) ∧ W.cell? ⟨nB, 0, none⟩ = some (.int .i64 2)) [0, 1, 2, 3, 4, 5, 6] (by kernel_rfl) ?_
      generalize wr.drew = w5 at *
      have SX := Lib.hid (show w5.cell? ⟨sB, 0, none⟩ = some (.slice (some ⟨ab, ao, none⟩) L cap) ∧ w5.cell? ⟨nB, 0, none⟩ = some (.int .i64 2) from ⟨HS2.out.cell, HN2.out.cell⟩)
      obtain ⟨fn, tmps, assign, body, hy, hR⟩ := HY.out (List.range k) k w5 HJ2.out (by rw [List.length_range]; exact hk)
      rw [HX.out] at hy
      have c0 := HS2.out.cell
      clear HX

      by_cases h2 : f < 2
      · have hfe : e = f := by have := HEE.out; omega
        clear HEE
        subst hfe
        have h2I : (e : Int) < 2 := by omega
        have hmn : min (2 : Int) (e : Int) = (e : Int) := by omega
        refine anyT_take [] (i := 0) (v := .int .i64 2) rfl (by kernel_rfl) (by kernel_rfl) (by kernel_rfl) (fun _ _ _ h => h) (by kernel_rfl) (Or.inl ⟨by rfl, fun w' hS => by have c := hS.2; go_simp⟩) SX.out ?_
        try simp only [List.getElem_toArray, List.getElem_cons_succ, List.getElem_cons_zero, Act.put, List.setIfInBounds_toArray, List.set_cons_zero, List.set_cons_succ]
        refine anyT_take [] (i := 1) (v := .slice (some ⟨ab, ao, none⟩) L cap) rfl (by kernel_rfl) (by kernel_rfl) (by kernel_rfl) (fun _ _ _ h => h) (by kernel_rfl) (Or.inl ⟨by rfl, fun w' hS => by have c := hS.1; go_simp⟩) SX.out ?_
        try simp only [List.getElem_toArray, List.getElem_cons_succ, List.getElem_cons_zero, Act.put, List.setIfInBounds_toArray, List.set_cons_zero, List.set_cons_succ]
        refine anyT_take [] (i := 2) (v := .int .i64 (z : Int)) rfl (by kernel_rfl) (by kernel_rfl) (by kernel_rfl) (fun _ _ _ h => h) (by kernel_rfl) (Or.inl ⟨by rfl, fun w' _ => by go_simp⟩) SX.out ?_
        try simp only [List.getElem_toArray, List.getElem_cons_succ, List.getElem_cons_zero, Act.put, List.setIfInBounds_toArray, List.set_cons_zero, List.set_cons_succ]
        refine anyT_take [] (i := 3) (v := .slice (some ⟨ab, ao + z, none⟩) e (cap - z)) rfl (by kernel_rfl) (by kernel_rfl) (by kernel_rfl) (fun _ _ _ h => h) (by kernel_rfl) (Or.inl ⟨by rfl, fun w' _ => by go_simp⟩) SX.out ?_
        try simp only [List.getElem_toArray, List.getElem_cons_succ, List.getElem_cons_zero, Act.put, List.setIfInBounds_toArray, List.set_cons_zero, List.set_cons_succ]
        refine anyT_take [] (i := 4) (v := .int .i64 (e : Int)) rfl (by kernel_rfl) (by kernel_rfl) (by kernel_rfl) (fun _ _ _ h => h) (by kernel_rfl) (Or.inl ⟨by rfl, fun w' _ => by go_simp⟩) SX.out ?_
        try simp only [List.getElem_toArray, List.getElem_cons_succ, List.getElem_cons_zero, Act.put, List.setIfInBounds_toArray, List.set_cons_zero, List.set_cons_succ]
        refine anyT_take [] (i := 5) (v := .int .i64 (e : Int)) rfl (by kernel_rfl) (by kernel_rfl) (by kernel_rfl) (fun _ _ _ h => h) (by kernel_rfl) (Or.inl ⟨by rfl, fun w' _ => by go_simp⟩) SX.out ?_
        try simp only [List.getElem_toArray, List.getElem_cons_succ, List.getElem_cons_zero, Act.put, List.setIfInBounds_toArray, List.set_cons_zero, List.set_cons_succ]
        refine anyT_take [] (i := 6) (v := .int .i64 (e : Int)) rfl (by kernel_rfl) (by kernel_rfl) (by kernel_rfl) (fun _ _ _ h => h) (by kernel_rfl) (Or.inl ⟨by rfl, fun w' _ => by go_simp⟩) SX.out ?_
        try simp only [List.getElem_toArray, List.getElem_cons_succ, List.getElem_cons_zero, Act.put, List.setIfInBounds_toArray, List.set_cons_zero, List.set_cons_succ]
        refine anyT_done (by kernel_rfl) ?_ _
        clear SX h2I hmn
        have z1 : (0 : Int) ≤ (z : Int) + (e : Int) := by omega
        have z2 : (z : Int) + (e : Int) ≤ (cap : Int) := by have := HF.out.1; omega
        have z3 : (z : Int) ≤ (z : Int) + (e : Int) := by omega
        have z4 : -9223372036854775808 ≤ (z : Int) + (e : Int) ∧ (z : Int) + (e : Int) ≤ 9223372036854775807 := by have := HF.out.1; omega
        gi_wp2
        refine ⟨fun h => (by cases h), ?_⟩
        refine hR.mono ?_
        rintro e0 W3 (⟨rfl, hJ3, hk3⟩ | ⟨rfl, hJx3⟩)
        · have HJ3 := Lib.hid hJ3
          have HK3 := Lib.hid (HK2.out.trans hk3)
          have c1 := (show Boxed W3 nB 3 (.int .i64 2) from HK3.out.box nB HSB.out.2 _ HN.out).cell
          clear hJ3 hk3 hR hy c0 z1 z2 z3 z4
          gi_wp2
          go_roundw
          case rel => exact ⟨k + 1, z + 2, by go_num, Lib.hid ⟨by have := HZ.out.1; omega, by omega⟩, Lib.hid (by rw [List.range_succ]; exact HJ3.out), HK3⟩
          case measure => simp [intOf]; omega
        · have HJ3 := Lib.hid hJx3
          clear hJx3 hR hy c0 z1 z2 z3 z4
          gi_wp2
          refine bodyPost_ret (results_none rfl _ _ _) rfl ?_
          exact ⟨⟨_, rfl⟩, .inr ⟨_, by rw [← List.range_succ]; exact range_pre14 (by omega), HJ3.out⟩⟩
      · have hfe : e = 2 := by have := HEE.out; omega
        clear HEE
        subst hfe
        have h2I : ¬ (f : Int) < 2 := by omega
        have hmn : min (2 : Int) (f : Int) = 2 := by omega
        refine anyT_take [] (i := 0) (v := .int .i64 2) rfl (by kernel_rfl) (by kernel_rfl) (by kernel_rfl) (fun _ _ _ h => h) (by kernel_rfl) (Or.inl ⟨by rfl, fun w' hS => by have c := hS.2; go_simp⟩) SX.out ?_
        try simp only [List.getElem_toArray, List.getElem_cons_succ, List.getElem_cons_zero, Act.put, List.setIfInBounds_toArray, List.set_cons_zero, List.set_cons_succ]
        refine anyT_take [] (i := 1) (v := .slice (some ⟨ab, ao, none⟩) L cap) rfl (by kernel_rfl) (by kernel_rfl) (by kernel_rfl) (fun _ _ _ h => h) (by kernel_rfl) (Or.inl ⟨by rfl, fun w' hS => by have c := hS.1; go_simp⟩) SX.out ?_
        try simp only [List.getElem_toArray, List.getElem_cons_succ, List.getElem_cons_zero, Act.put, List.setIfInBounds_toArray, List.set_cons_zero, List.set_cons_succ]
        refine anyT_take [] (i := 2) (v := .int .i64 (z : Int)) rfl (by kernel_rfl) (by kernel_rfl) (by kernel_rfl) (fun _ _ _ h => h) (by kernel_rfl) (Or.inl ⟨by rfl, fun w' _ => by go_simp⟩) SX.out ?_
        try simp only [List.getElem_toArray, List.getElem_cons_succ, List.getElem_cons_zero, Act.put, List.setIfInBounds_toArray, List.set_cons_zero, List.set_cons_succ]
        refine anyT_take [] (i := 3) (v := .slice (some ⟨ab, ao + z, none⟩) f (cap - z)) rfl (by kernel_rfl) (by kernel_rfl) (by kernel_rfl) (fun _ _ _ h => h) (by kernel_rfl) (Or.inl ⟨by rfl, fun w' _ => by go_simp⟩) SX.out ?_
        try simp only [List.getElem_toArray, List.getElem_cons_succ, List.getElem_cons_zero, Act.put, List.setIfInBounds_toArray, List.set_cons_zero, List.set_cons_succ]
        refine anyT_take [] (i := 4) (v := .int .i64 (f : Int)) rfl (by kernel_rfl) (by kernel_rfl) (by kernel_rfl) (fun _ _ _ h => h) (by kernel_rfl) (Or.inl ⟨by rfl, fun w' _ => by go_simp⟩) SX.out ?_
        try simp only [List.getElem_toArray, List.getElem_cons_succ, List.getElem_cons_zero, Act.put, List.setIfInBounds_toArray, List.set_cons_zero, List.set_cons_succ]
        refine anyT_take [] (i := 5) (v := .int .i64 2) rfl (by kernel_rfl) (by kernel_rfl) (by kernel_rfl) (fun _ _ _ h => h) (by kernel_rfl) (Or.inl ⟨by rfl, fun w' _ => by go_simp⟩) SX.out ?_
        try simp only [List.getElem_toArray, List.getElem_cons_succ, List.getElem_cons_zero, Act.put, List.setIfInBounds_toArray, List.set_cons_zero, List.set_cons_succ]
        refine anyT_take [] (i := 6) (v := .int .i64 2) rfl (by kernel_rfl) (by kernel_rfl) (by kernel_rfl) (fun _ _ _ h => h) (by kernel_rfl) (Or.inl ⟨by rfl, fun w' _ => by go_simp⟩) SX.out ?_
        try simp only [List.getElem_toArray, List.getElem_cons_succ, List.getElem_cons_zero, Act.put, List.setIfInBounds_toArray, List.set_cons_zero, List.set_cons_succ]
        refine anyT_done (by kernel_rfl) ?_ _
        clear SX h2I hmn
        have z1 : (0 : Int) ≤ (z : Int) + 2 := by omega
        have z2 : (z : Int) + 2 ≤ (cap : Int) := by have := HF.out.1; omega
        have z3 : (z : Int) ≤ (z : Int) + 2 := by omega
        have z4 : -9223372036854775808 ≤ (z : Int) + 2 ∧ (z : Int) + 2 ≤ 9223372036854775807 := by have := HF.out.1; omega
        gi_wp2
        refine ⟨fun h => (by cases h), ?_⟩
        refine hR.mono ?_
        rintro e0 W3 (⟨rfl, hJ3, hk3⟩ | ⟨rfl, hJx3⟩)
        · have HJ3 := Lib.hid hJ3
          have HK3 := Lib.hid (HK2.out.trans hk3)
          have c1 := (show Boxed W3 nB 3 (.int .i64 2) from HK3.out.box nB HSB.out.2 _ HN.out).cell
          clear hJ3 hk3 hR hy c0 z1 z2 z3 z4
          gi_wp2
          go_roundw
          case rel => exact ⟨k + 1, z + 2, by go_num, Lib.hid ⟨by have := HZ.out.1; omega, by omega⟩, Lib.hid (by rw [List.range_succ]; exact HJ3.out), HK3⟩
          case measure => simp [intOf]; omega
        · have HJ3 := Lib.hid hJx3
          clear hJx3 hR hy c0 z1 z2 z3 z4
          gi_wp2
          refine bodyPost_ret (results_none rfl _ _ _) rfl ?_
          exact ⟨⟨_, rfl⟩, .inr ⟨_, by rw [← List.range_succ]; exact range_pre14 (by omega), HJ3.out⟩⟩
    · have hk : k = (L + 1) / 2 := by have := HZ.out.1; have := HZ.out.2; omega
      have hltI : ¬ (z : Int) < (L : Int) := by omega
      subst hk
      gi_wp2
      go_end0
      exact ⟨⟨_, rfl⟩, .inl HJ.out⟩
end Go.Proofs.YteokgklfljhcaaaGreatDoor
