/- Part 16 of the proof. -/
import Derived.RangeFuncNested
import Derived.RangeFuncBound
import Derived.RangeFuncCalls
import Derived.RangeFuncLeaves
import Derived.Shelf.Abstract
import Derived.Shelf.RegionOpen
import Derived.WalkKit
import Derived.OwnWalkIn
import Derived.TacticsInMore
import Derived.LoopNIn
import Derived.LoopIn
import Derived.Maps.AppendAt
import Derived.Test.YtejglhlodfhgkaaGreatDoorBs1
import Derived.Test.YtejglhlodfhgkaaGreatDoorBs3
import Derived.Test.YtejglhlodfhgkaaGreatDoorBs11
import Derived.Test.YtejglhlodfhgkaaGreatDoorBs15
namespace Go.Proofs.YtejglhlodfhgkaaGreatDoor
set_option linter.unusedVariables false
set_option linter.unusedSimpArgs false
open Go.RowKit
set_option maxRecDepth 100000
set_option linter.unusedSimpArgs false
set_option linter.unusedVariables false
theorem ckN_of {n : ByteArray} (h : bkN n = true) : ckN [n] = none := by unfold ckN; simp [h]
theorem ckN_no {n : ByteArray} (h : bkN n = false) : ckN [n] = some 42 := by unfold ckN; simp [h]
theorem ckN2_of {m n : ByteArray} (h1 : bkN m = true) (h : bkN n = true) : ckN [m, n] = none := by unfold ckN; simp [h, h1]
theorem ckN2_no {m n : ByteArray} (h : bkN n = false) : ckN [m, n] = some 42 := by unfold ckN; simp [h]
theorem chk_atD : chkD atD = none := by kernel_rfl
theorem zero_add16 {n : Int} (h : amt n) : addE 0 n = none ∧ addR 0 n = n := by
  have h1 : addE 0 n = none := addE_yes ⟨by decide, by decide⟩ h (by obtain ⟨_, _⟩ := h; omega)
  exact ⟨h1, by unfold addR; rw [if_pos h1]; omega⟩
theorem amt_i64 {n : Int} (h : amt n) : -9223372036854775808 ≤ n ∧ n ≤ 9223372036854775807 := by obtain ⟨_, _⟩ := h; omega
/-- Mint of a name that is one, out of nothing -/
theorem mint_new {n : ByteArray} (hn : bkN n = true) {a : Int} (ha : amt a) : (mintR none n atD a).e = none ∧ (mintR none n atD a).t = chgT (chgT none (supK atD) a) (balK n atD) a := by
  have h0 : ckC atD [n] = none := by unfold ckC; rw [ckN_of hn]; exact chk_atD
  have s0 : Srt (pairsO none) := List.Pairwise.nil
  have z1 : bkV none (supK atD) = 0 := bkV_nil _
  have z2 : bkV (chgT none (supK atD) (addR (bkV none (supK atD)) a)) (balK n atD) = 0 := by
    rw [bkV_other s0 _ (bal_sup n atD atD)]; exact bkV_nil _
  have he : (mintR none n atD a).e = none := stp2_yes h0 (by rw [z1]; exact (zero_add16 ha).1) (by rw [z2]; exact (zero_add16 ha).1)
  refine ⟨he, ?_⟩
  obtain ⟨-, -, -, e⟩ := stp2_ok he
  rw [show (mintR none n atD a).t = _ from e, z2, z1, (zero_add16 ha).2]
theorem srt_chg {t : Option AvT} (h : Srt (pairsO t)) (k : ByteArray) (x : Int) : Srt (pairsO (chgT t k x)) := by
  unfold chgT
  split
  · exact dropO_srt h k
  · exact setO_srt h k _
theorem srt_nil : Srt (pairsO (none : Option AvT)) := List.Pairwise.nil
/-- Send between names that are two -/
theorem send_yes {t : Option AvT} (ht : Srt (pairsO t)) {n m d : ByteArray} (hc : ckC d [n, m] = none) {a x : Int} (hx : bkV t (balK n d) = x) (ha : amt a) (hxa : amt x) (hle : a ≤ x) {y : Int} (hy : bkV (chgT t (balK n d) (x - a)) (balK m d) = y) (hya : amt y) (hs : y + a ≤ 1152921504606846976) :
    (sendR t n m d a).e = none ∧ (sendR t n m d a).t = chgT (chgT t (balK n d) (x - a)) (balK m d) (y + a) := by
  have h1 : subE (bkV t (balK n d)) a = none := by rw [hx]; exact subE_yes hxa ha hle
  have r1 : subR (bkV t (balK n d)) a = x - a := by rw [(subE_ok h1).2.2.2, hx]
  have h2 : addE (bkV (chgT t (balK n d) (subR (bkV t (balK n d)) a)) (balK m d)) a = none := by rw [r1, hy]; exact addE_yes hya ha hs
  have he : (sendR t n m d a).e = none := stp2_yes hc h1 h2
  refine ⟨he, ?_⟩
  obtain ⟨-, -, -, e⟩ := stp2_ok he
  rw [show (sendR t n m d a).t = _ from e, r1, hy, (addE_ok (by rw [r1, hy] at h2; exact h2)).2.2.2]
end Go.Proofs.YtejglhlodfhgkaaGreatDoor
namespace Go.Proofs.YtejglhlodfhgkaaGreatDoor
set_option linter.unusedVariables false
set_option linter.unusedSimpArgs false
open Go.RowKit
set_option maxRecDepth 100000
set_option linter.unusedSimpArgs false
set_option linter.unusedVariables false
def kvC (p : KV) : Array Value := #[.string p.1, .string p.2]
theorem kvC_one (p : KV) : (kvC p).all (·.oneCell') = true := by simp [kvC, Value.oneCell']
set_option maxHeartbeats 1000000 in
theorem pair_any (g : Nat) (t : AvT) (w : World) (ht : TreeAt w g t) : Calls Tryz.prog 248 #[.pointer (some ⟨g, 0, none⟩)] w fun e w' => e = .returned (.agg (kvC (t.least, t.value))) ∧ Below w.heap.size w w' := by
  have HB := Lib.hid (below_alloc w (.cells #[.string { data := #[] }, .string { data := #[] }] 70))
  have HP := Lib.hid (heap_alloc_new w (.cells #[.string { data := #[] }, .string { data := #[] }] 70))
  have HT := Lib.hid (ht.below HB.out)
  obtain ⟨k, hk⟩ : ∃ k, k = t.least := ⟨_, rfl⟩
  obtain ⟨v, hv⟩ : ∃ v, v = t.value := ⟨_, rfl⟩
  have c0 := HT.out.least
  have c1 := HT.out.value
  rw [← hk] at c0 ⊢
  rw [← hv] at c1 ⊢
  have HC := Lib.hid (show World.cell? _ ⟨g, 0, none⟩ = _ ∧ World.cell? _ ⟨g, 1, none⟩ = _ from ⟨c0, c1⟩)
  clear hk hv ht HT c0 c1
  go_enter Tryz.func248, Tryz.ntmps248
  go_upto_region 1 with (fail)
  generalize w.alloc (.cells #[.string { data := #[] }, .string { data := #[] }] 70) = w1 at *
  refine wp_region_T (fun w' => w'.cell? ⟨g, 0, none⟩ = some (.string k) ∧ w'.cell? ⟨g, 1, none⟩ = some (.string v)) [3, 7] (by kernel_rfl) ?_
  have HS := Lib.hid (show w1.drew.cell? ⟨g, 0, none⟩ = some (.string k) ∧ w1.drew.cell? ⟨g, 1, none⟩ = some (.string v) from HC.out)
  replace HB := Lib.hid (show Below w.heap.size w w1.drew from HB.out.drew)
  replace HP := Lib.hid (show w1.drew.heap[w.heap.size]? = _ from HP.out)
  generalize w1.drew = w2 at *
  refine anyT_takeY (i := 0) (v := .pointer (some ⟨g, 0, none⟩)) rfl (by kernel_rfl) (by kernel_rfl) (by kernel_rfl) (fun _ _ _ h => h) (by kernel_rfl) (Or.inl ⟨by rfl, by intro w; go_simp⟩) ?_
  try simp only [List.getElem_toArray, List.getElem_cons_succ, List.getElem_cons_zero, Act.put, List.setIfInBounds_toArray, List.set_cons_zero, List.set_cons_succ]
  refine anyT_takeY (i := 1) (v := .pointer (some ⟨g, 0, none⟩)) rfl (by kernel_rfl) (by kernel_rfl) (by kernel_rfl) (fun _ _ _ h => h) (by kernel_rfl) (Or.inl ⟨by rfl, by intro w; go_simp⟩) ?_
  try simp only [List.getElem_toArray, List.getElem_cons_succ, List.getElem_cons_zero, Act.put, List.setIfInBounds_toArray, List.set_cons_zero, List.set_cons_succ]
  refine anyT_takeY (i := 2) (v := .pointer (some ⟨g, 0, none⟩)) rfl (by kernel_rfl) (by kernel_rfl) (by kernel_rfl) (fun _ _ _ h => h) (by kernel_rfl) (Or.inl ⟨by rfl, by intro w; go_simp⟩) ?_
  try simp only [List.getElem_toArray, List.getElem_cons_succ, List.getElem_cons_zero, Act.put, List.setIfInBounds_toArray, List.set_cons_zero, List.set_cons_succ]
  refine anyT_takeY (i := 4) (v := .pointer (some ⟨g, 0, none⟩)) rfl (by kernel_rfl) (by kernel_rfl) (by kernel_rfl) (fun _ _ _ h => h) (by kernel_rfl) (Or.inl ⟨by rfl, by intro w; go_simp⟩) ?_
  try simp only [List.getElem_toArray, List.getElem_cons_succ, List.getElem_cons_zero, Act.put, List.setIfInBounds_toArray, List.set_cons_zero, List.set_cons_succ]
  refine anyT_takeY (i := 5) (v := .pointer (some ⟨g, 0, none⟩)) rfl (by kernel_rfl) (by kernel_rfl) (by kernel_rfl) (fun _ _ _ h => h) (by kernel_rfl) (Or.inl ⟨by rfl, by intro w; go_simp⟩) ?_
  try simp only [List.getElem_toArray, List.getElem_cons_succ, List.getElem_cons_zero, Act.put, List.setIfInBounds_toArray, List.set_cons_zero, List.set_cons_succ]
  refine anyT_takeY (i := 6) (v := .pointer (some ⟨g, 1, none⟩)) rfl (by kernel_rfl) (by kernel_rfl) (by kernel_rfl) (fun _ _ _ h => h) (by kernel_rfl) (Or.inl ⟨by rfl, by intro w; go_simp⟩) ?_
  try simp only [List.getElem_toArray, List.getElem_cons_succ, List.getElem_cons_zero, Act.put, List.setIfInBounds_toArray, List.set_cons_zero, List.set_cons_succ]
  refine anyT_take [8, 9] (i := 3) (v := .string k) rfl (by kernel_rfl) (by kernel_rfl) (by kernel_rfl) (fun _ _ _ h => h) (by kernel_rfl) (Or.inl ⟨by rfl, fun w' hS => by have c := hS.1; go_simp⟩) HS.out ?_
  try simp only [List.getElem_toArray, List.getElem_cons_succ, List.getElem_cons_zero, Act.put, List.setIfInBounds_toArray, List.set_cons_zero, List.set_cons_succ]
  refine anyT_take [8, 9] (i := 7) (v := .string v) rfl (by kernel_rfl) (by kernel_rfl) (by kernel_rfl) (fun _ _ _ h => h) (by kernel_rfl) (Or.inl ⟨by rfl, fun w' hS => by have c := hS.2; go_simp⟩) HS.out ?_
  try simp only [List.getElem_toArray, List.getElem_cons_succ, List.getElem_cons_zero, Act.put, List.setIfInBounds_toArray, List.set_cons_zero, List.set_cons_succ]
  refine anyT_takeY (i := 8) (v := .agg (kvC (k, v))) rfl (by kernel_rfl) (by kernel_rfl) (by kernel_rfl) (fun _ _ _ h => h) (by kernel_rfl) (Or.inl ⟨by rfl, by intro w; go_simp; rfl⟩) ?_
  try simp only [List.getElem_toArray, List.getElem_cons_succ, List.getElem_cons_zero, Act.put, List.setIfInBounds_toArray, List.set_cons_zero, List.set_cons_succ]
  refine anyT_one (i := 9) (by kernel_rfl) rfl (fun K hK => ?_)
  rw [if_pos (by rfl)]
  try simp only [List.getElem_toArray, List.getElem_cons_succ, List.getElem_cons_zero]
  (refine wp_store_row 70 (.tmp 2) (.tmp 11) rfl w.heap.size (kvC (k, v)) rfl rfl 70 _ HP.out (by kernel_rfl) rfl (kvC_one _) ?_)
  refine hK _ _ (not_mem rfl) ?_
  clear hK K
  try simp only [List.getElem_toArray, List.getElem_cons_succ, List.getElem_cons_zero, Act.put, List.setIfInBounds_toArray, List.set_cons_zero, List.set_cons_succ]
  refine anyT_done (by kernel_rfl) ?_ _
  go_wp2_with (fail)
  refine bodyPost_ret (results_cell_row rfl _ _ w.heap.size 70 (kvC (k, v)) (0, 0) _ rfl (setRow_heap _ _ _ _ _ _ HP.out) Tryz.underlying70 rfl (by kernel_rfl)) rfl ?_
  exact ⟨rfl, below_setRow HB.out (Nat.le_refl _) _⟩
def rootO (t : Option AvT) : Nat → Int := match t with
  | none => sumF []
  | some t => t.root
theorem avroot_nil (w : World) (he : Env w) : Calls Tryz.prog 32 #[.pointer none] w fun e w' => e = .returned (.agg (rowOf .u8 32 (sumF []))) ∧ Below w.heap.size w w' := by
  have HB := Lib.hid (below_alloc w (.cells (rowOf .u8 32 (fun _ => 0)) 53))
  have HR := Lib.hid (RowAt.new w .u8 32 53 (fun _ => 0))
  have HE := Lib.hid (he.below HB.out he.lt)
  clear he
  go_enter Tryz.func32, Tryz.ntmps32
  go_upto_region 1 with (fail)
  rw [zeros32]
  generalize w.alloc (.cells (rowOf .u8 32 (fun _ => 0)) 53) = w1 at *
  go_wp2_with (first
    | (go_at_call 86; (with_reducible refine (len_nil _).mono ?_); rintro e w' ⟨rfl, rfl⟩)
    | (go_at_call 74; (with_reducible refine (shSum_any _ [] _ (nil_in _) HE.out).mono ?_); rintro e w9 ⟨rfl, hb⟩; replace HR := Lib.hid (HR.out.below hb HR.out.lt); replace HB := Lib.hid (HB.out.trans (hb.mono HB.out.size)); clear hb)
    | (refine wpList_store_row rfl 53 (.tmp 2) (.tmp 6) rfl w.heap.size _ rfl rfl 53 _ HR.out (by rw [rowOf_size]; kernel_rfl) (by rw [rowOf_size, rowOf_size]) (rowOf_one _ _ _) ?_))
  refine bodyPost_ret (results_cell_row rfl _ _ w.heap.size 53 _ (0, 0) _ rfl (setRow_heap _ _ _ _ _ _ HR.out) Tryz.underlying53 rfl (by rw [rowOf_size]; kernel_rfl)) rfl ?_
  exact ⟨rfl, below_setRow HB.out (Nat.le_refl _) _⟩
theorem TreeAt.rootRange {w : World} {g : Nat} {t : AvT} (h : TreeAt w g t) : w.rangeAt g 4 (rowOf .u8 32 t.root).toList := by
  obtain ⟨p, q, h⟩ := h.cells
  exact (t_cells h).2.2.2.2.2.2
set_option maxHeartbeats 1000000 in
theorem root_some (g : Nat) (t : AvT) (w : World) (ht : TreeAt w g t) : Calls Tryz.prog 32 #[.pointer (some ⟨g, 0, none⟩)] w fun e w' => e = .returned (.agg (rowOf .u8 32 t.root)) ∧ Below w.heap.size w w' := by
  have HB := Lib.hid (below_alloc w (.cells (rowOf .u8 32 (fun _ => 0)) 53))
  have HR := Lib.hid (RowAt.new w .u8 32 53 (fun _ => 0))
  have HT := Lib.hid (ht.below HB.out)
  have HLE := Lib.hid (len_some _ HT.out)
  have HRG := Lib.hid HT.out.rootRange
  have hm := t.many_pos
  obtain ⟨m, hmm⟩ : ∃ m, m = t.many := ⟨_, rfl⟩
  rw [← hmm] at HLE hm
  have hm0 : ((m : Int) == 0) = false := by rw [beq_eq_false_iff_ne]; omega
  obtain ⟨R, hR⟩ : ∃ R, R = t.root := ⟨_, rfl⟩
  rw [← hR] at HRG ⊢
  clear ht hmm hm hR HT
  go_enter Tryz.func32, Tryz.ntmps32
  go_upto_region 1 with (fail)
  rw [zeros32]
  generalize w.alloc (.cells (rowOf .u8 32 (fun _ => 0)) 53) = w1 at *
  go_wp2_with (first
    | (go_at_call 86; (with_reducible refine HLE.out.mono ?_); rintro e w' ⟨rfl, rfl⟩)
    | (refine wpList_load_mid rfl 53 (.tmp 9) rfl g 4 rfl _ _ HRG.out Tryz.underlying53 rfl (by rw [(rowOf_list _ _ _).2]; kernel_rfl) ?_; rw [Array.toArray_toList])
    | (refine wpList_store_row rfl 53 (.tmp 2) (.tmp 10) rfl w.heap.size _ rfl rfl 53 _ HR.out (by rw [rowOf_size]; kernel_rfl) (by rw [rowOf_size, rowOf_size]) (rowOf_one _ _ _) ?_))
  refine bodyPost_ret (results_cell_row rfl _ _ w.heap.size 53 _ (0, 0) _ rfl (setRow_heap _ _ _ _ _ _ HR.out) Tryz.underlying53 rfl (by rw [rowOf_size]; kernel_rfl)) rfl ?_
  exact ⟨rfl, below_setRow HB.out (Nat.le_refl _) _⟩
theorem avroot_any (va : Value) (t : Option AvT) (w : World) (he : Env w) (ht : TreeO w va t) : Calls Tryz.prog 32 #[va] w fun e w' => e = .returned (.agg (rowOf .u8 32 (rootO t))) ∧ Below w.heap.size w w' := by
  cases t with
  | none => cases ht; exact avroot_nil w he
  | some t => obtain ⟨g, rfl, ht⟩ := ht; exact root_some g t w ht
end Go.Proofs.YtejglhlodfhgkaaGreatDoor
namespace Go.Proofs.YtejglhlodfhgkaaGreatDoor
set_option linter.unusedVariables false
set_option linter.unusedSimpArgs false
open Go.RowKit Go.Shelf
set_option maxRecDepth 100000
set_option linter.unusedSimpArgs false
set_option linter.unusedVariables false
attribute [local go_sem] Oper.semAt_some
theorem round_wide {m m' : Nat} {P : Program} {l : Nat} {args : Array Value} {W : World} {R : Ending → World → Prop} (h : YieldAt Fence.wide m P l args W R) : YieldAt Fence.wide m' P l args W R := by
  obtain ⟨fn, tmps, assign, body, hy, hF, hr⟩ := h
  exact ⟨fn, tmps, assign, body, hy, hF, fun c cs _ => hr c cs fun d hd => by cases hd⟩
theorem TreeAt.belowN {w w' : World} {N : Nat} : ∀ {t : AvT} {g : Nat}, TreeAt w g t → g < N → Below N w w' → TreeAt w' g t
  | .leaf k v, g, h, hg, hb => (hb.block g hg).trans h
  | .node a b, g, h, hg, hb => by
    obtain ⟨ga, gb, hl, h, h1, h2⟩ := h
    exact ⟨ga, gb, hl, (hb.block g hg).trans h, h1.belowN (by omega) hb, h2.belowN (by omega) hb⟩
theorem grown_of_below {w w' : World} (h : Below w.heap.size w w') : w.grownBy w' none := ⟨h.os, h.tape, h.output, h.size, fun k hk _ => h.block k hk⟩
theorem below_le {w w' : World} {A B : Nat} (h : Below A w w') (hB : B ≤ A) : Below B w w' := ⟨h.os, h.tape, h.output, h.size, fun k hk => h.block k (by omega)⟩
/-- what a round of the loop answers the iterator -/
def GoesOn (n₀ : Nat) (J Jx : List KV → World → Prop) (pre : List KV) (x : KV) (W : World) (e : Ending) (W' : World) : Prop :=
  (e = .returned (.bool true) ∧ J (pre ++ [x]) W' ∧ Below n₀ W W') ∨ (e = .returned (.bool false) ∧ Jx (pre ++ [x]) W')
/-- what visit answers -/
def Visited (n₀ : Nat) (J Jx : List KV → World → Prop) (pre xs : List KV) (W : World) (e : Ending) (W' : World) : Prop :=
  (e = .returned (.bool true) ∧ J (pre ++ xs) W' ∧ Below n₀ W W') ∨ (e = .returned (.bool false) ∧ ∃ q, q <+: xs ∧ Jx (pre ++ q) W')
theorem visit_leaf (l n₀ N B : Nat) (hB : n₀ ≤ B) (J Jx : List KV → World → Prop) (hJ : AbidesFrom B J) (k : ByteArray)
    (hY : ∀ m pre x W, J pre W → pre.length < N → YieldAt Fence.wide m Tryz.prog l #[.agg (kvC x)] W (GoesOn n₀ J Jx pre x W)) (k0 v0 : ByteArray)
    (n g : Nat) (pre : List KV) (W : World) (ht : TreeAt W g (.leaf k0 v0)) (hn : n₀ ≤ W.heap.size) (h0 : J pre W) (hN : pre.length + ((AvT.leaf k0 v0).vis k).length ≤ N) :
    CallsIn Fence.wide n Tryz.prog 224 #[.pointer (some ⟨g, 0, none⟩), .string k, .func (.yield l) #[] #[]] W (Visited n₀ J Jx pre ((AvT.leaf k0 v0).vis k) W) := by
  have HL := Lib.hid (len_some W ht)
  have c0 := ht.least
  rw [show (AvT.leaf k0 v0).least = k0 from rfl] at c0
  have HP := Lib.hid (fun m (hl : pre.length < N) => (callsIn_wide (n := m)).2 ((pair_any g _ W ht).mono (R' := fun e W1 => e = .returned (.agg (kvC (k0, v0))) ∧ Below W.heap.size W W1 ∧ YieldAt Fence.wide m Tryz.prog l #[.agg (kvC (k0, v0))] W1 (GoesOn n₀ J Jx pre (k0, v0) W1))
    fun e W1 h => ⟨h.1, h.2, hY m pre (k0, v0) W1 (hJ pre W W1 none h0 (grown_of_below h.2) (fun r e => by cases e)) hl⟩))
  cases h1 : bl k0 k with
  | true =>
    have hv : (AvT.leaf k0 v0).vis k = [] := by unfold AvT.vis; rw [if_pos h1]
    rw [hv]
    have hk : Op.bytesLess k0.toList k.toList = true := h1
    clear h1 hv HP hY hJ ht hN
    refine callsIn_of_wp Tryz.func224 rfl trivial ?_ rfl
    simp only [Tryz.ntmps224, List.size_toArray, List.length_cons, List.length_nil, Nat.reduceAdd, Nat.reduceSub, Array.replicate_succ, Array.replicate_zero, List.push_toArray, List.append_toArray, List.nil_append, List.cons_append]
    gi_wp2_with (first
      | (refine ⟨trivial, fun h => (by cases h), ?_⟩; gi_at_call 86; (with_reducible refine (callsIn_wide.2 HL.out).mono ?_); rw [show ((AvT.leaf k0 v0).many : Int) = 1 from rfl]; rintro e w' ⟨rfl, rfl⟩))
    refine ⟨trivial, ?_⟩
    gi_wp2
    refine ⟨fun _ h => (by cases h), ?_⟩
    gi_wp2
    go_ret
    exact .inl ⟨rfl, by rw [List.append_nil]; exact h0, Below.refl _ _⟩
  | false =>
    have hv : (AvT.leaf k0 v0).vis k = [(k0, v0)] := by unfold AvT.vis; rw [if_neg (by rw [h1]; simp)]
    rw [hv] at hN ⊢
    have hl : pre.length < N := by simp only [List.length_cons, List.length_nil] at hN; omega
    have hk : Op.bytesLess k0.toList k.toList = false := h1
    have HP2 := Lib.hid (fun m => HP.out m hl)
    clear h1 hv HP hY hJ ht hN hl h0
    refine callsIn_of_wp Tryz.func224 rfl trivial ?_ rfl
    simp only [Tryz.ntmps224, List.size_toArray, List.length_cons, List.length_nil, Nat.reduceAdd, Nat.reduceSub, Array.replicate_succ, Array.replicate_zero, List.push_toArray, List.append_toArray, List.nil_append, List.cons_append]
    gi_wp2_with (first
      | (refine ⟨trivial, fun h => (by cases h), ?_⟩; gi_at_call 86; (with_reducible refine (callsIn_wide.2 HL.out).mono ?_); rw [show ((AvT.leaf k0 v0).many : Int) = 1 from rfl]; rintro e w' ⟨rfl, rfl⟩)
      | (refine ⟨trivial, fun h => (by cases h), ?_⟩; gi_at_call 248; (with_reducible refine (HP2.out _).mono ?_); rintro e w1 ⟨rfl, hb, fn, tmps, assign, body, hy, hR⟩; have HB := Lib.hid hb; clear hb)
      | ((try refine ⟨fun h => (by cases h), ?_⟩); refine hR.mono ?_; rintro e w2 (⟨rfl, hJ2, hb2⟩ | ⟨rfl, hx2⟩)))
    · go_ret
      exact .inl ⟨rfl, hJ2, (below_le HB.out hn).trans hb2⟩
    · go_ret
      exact .inr ⟨rfl, _, List.prefix_rfl, hx2⟩
theorem visit_nil (l : Nat) (k : ByteArray) (n : Nat) (W : World) : CallsIn Fence.wide n Tryz.prog 224 #[.pointer none, .string k, .func (.yield l) #[] #[]] W fun e W' => e = .returned (.bool true) ∧ W = W' := by
  refine callsIn_of_wp Tryz.func224 rfl trivial ?_ rfl
  simp only [Tryz.ntmps224, List.size_toArray, List.length_cons, List.length_nil, Nat.reduceAdd, Nat.reduceSub, Array.replicate_succ, Array.replicate_zero, List.push_toArray, List.append_toArray, List.nil_append, List.cons_append]
  gi_wp2_with (first
    | (refine ⟨trivial, fun h => (by cases h), ?_⟩; gi_at_call 86; (with_reducible refine (callsIn_wide.2 (len_nil _)).mono ?_); rintro e w' ⟨rfl, rfl⟩))
  go_ret
  exact ⟨rfl, rfl⟩
set_option maxHeartbeats 2000000 in
theorem visit_in (l n₀ N B : Nat) (hB : n₀ ≤ B) (J Jx : List KV → World → Prop) (hJ : AbidesFrom B J) (k : ByteArray)
    (hY : ∀ m pre x W, J pre W → pre.length < N → YieldAt Fence.wide m Tryz.prog l #[.agg (kvC x)] W (GoesOn n₀ J Jx pre x W)) :
    ∀ (t : AvT) (n g : Nat) (pre : List KV) (W : World), TreeAt W g t → g < n₀ → n₀ ≤ W.heap.size → J pre W → pre.length + (t.vis k).length ≤ N →
    CallsIn Fence.wide n Tryz.prog 224 #[.pointer (some ⟨g, 0, none⟩), .string k, .func (.yield l) #[] #[]] W (Visited n₀ J Jx pre (t.vis k) W) := by
  intro t
  induction t with
  | leaf k0 v0 => intro n g pre W ht hg hn h0 hN; exact visit_leaf l n₀ N B hB J Jx hJ k hY k0 v0 n g pre W ht hn h0 hN
  | node a b iha ihb =>
    intro n g pre W ht hg hn h0 hN
    have HL := Lib.hid (len_some W ht)
    obtain ⟨ga, gb, l1, l2, k1, k2, ha, hb⟩ := ht.kidsL
    have c0 := hb.least
    have h2m : 2 ≤ (AvT.node a b).many := by have := a.many_pos; have := b.many_pos; simp only [AvT.many]; omega
    obtain ⟨m, hmm⟩ : ∃ m, m = (AvT.node a b).many := ⟨_, rfl⟩
    rw [← hmm] at HL h2m
    have hm0 : ((m : Int) == 0) = false := by rw [beq_eq_false_iff_ne]; omega
    have hm1 : ((m : Int) == 1) = false := by rw [beq_eq_false_iff_ne]; omega
    cases h2 : bl k b.least with
    | true =>
      have hv : (AvT.node a b).vis k = a.vis k ++ b.vis k := by rw [AvT.vis, if_pos h2]
      rw [hv] at hN ⊢
      rw [List.length_append] at hN
      have HA := Lib.hid (fun m => (iha m ga pre W ha (by omega) hn h0 (by omega)).mono (R' := fun e W1 =>
        (e = .returned (.bool true) ∧ W1.cell? ⟨g, 37, none⟩ = some (.pointer (some ⟨gb, 0, none⟩)) ∧ Hid (∀ m, CallsIn Fence.wide m Tryz.prog 224 #[.pointer (some ⟨gb, 0, none⟩), .string k, .func (.yield l) #[] #[]] W1 (Visited n₀ J Jx pre (a.vis k ++ b.vis k) W))) ∨
        (e = .returned (.bool false) ∧ Visited n₀ J Jx pre (a.vis k ++ b.vis k) W e W1)) fun e W1 h => h.elim
          (fun ⟨he, hj, hb1⟩ => .inl ⟨he, (hb1.cell (p := ⟨g, 37, none⟩) hg).trans k2, Lib.hid fun m => (ihb m gb (pre ++ a.vis k) W1 (hb.belowN (by omega) hb1) (by omega) (Nat.le_trans hn hb1.size) hj (by rw [List.length_append]; omega)).mono fun e W2 h => h.elim
            (fun ⟨he, hj2, hb2⟩ => .inl ⟨he, by rw [← List.append_assoc]; exact hj2, hb1.trans hb2⟩)
            (fun ⟨he, q, hq, hx⟩ => .inr ⟨he, a.vis k ++ q, (List.prefix_append_right_inj _).2 hq, by rw [← List.append_assoc]; exact hx⟩)⟩)
          (fun ⟨he, q, hq, hx⟩ => .inr ⟨he, .inr ⟨he, q, hq.trans (List.prefix_append _ _), hx⟩⟩))
      have hl : Op.bytesLess k.toList b.least.toList = true := h2
      clear h2 hmm hv ha hb iha ihb hY hJ h0 hN h2m ht
      refine callsIn_of_wp Tryz.func224 rfl trivial ?_ rfl
      simp only [Tryz.ntmps224, List.size_toArray, List.length_cons, List.length_nil, Nat.reduceAdd, Nat.reduceSub, Array.replicate_succ, Array.replicate_zero, List.push_toArray, List.append_toArray, List.nil_append, List.cons_append]
      gi_wp2_with (first
        | (refine ⟨trivial, fun h => (by cases h), ?_⟩; gi_at_call 86; (with_reducible refine (callsIn_wide.2 HL.out).mono ?_); rintro e w' ⟨rfl, rfl⟩)
        | (refine ⟨trivial, fun h => (by cases h), ?_⟩; gi_at_call 224; (with_reducible refine (HA.out _).mono ?_); clear HA; rintro e w1 (⟨rfl, k3, HB⟩ | ⟨rfl, hx1⟩))
        | (refine ⟨trivial, fun h => (by cases h), ?_⟩; gi_at_call 224; (with_reducible refine (HB.out _).mono ?_); clear HB; rintro e w2 hx2; have hx3 := hx2; rcases hx2 with ⟨rfl, -⟩ | ⟨rfl, -⟩))
      · go_ret
        exact hx3
      · go_ret
        exact hx3
      · go_ret
        exact hx1
    | false =>
      have hv : (AvT.node a b).vis k = b.vis k := by rw [AvT.vis, if_neg (by rw [h2]; simp)]
      rw [hv] at hN ⊢
      have HB := Lib.hid (fun m => ihb m gb pre W hb (by omega) hn h0 hN)
      have hl : Op.bytesLess k.toList b.least.toList = false := h2
      clear h2 hmm hv ha hb iha ihb hY hJ h0 hN h2m ht
      refine callsIn_of_wp Tryz.func224 rfl trivial ?_ rfl
      simp only [Tryz.ntmps224, List.size_toArray, List.length_cons, List.length_nil, Nat.reduceAdd, Nat.reduceSub, Array.replicate_succ, Array.replicate_zero, List.push_toArray, List.append_toArray, List.nil_append, List.cons_append]
      gi_wp2_with (first
        | (refine ⟨trivial, fun h => (by cases h), ?_⟩; gi_at_call 86; (with_reducible refine (callsIn_wide.2 HL.out).mono ?_); rintro e w' ⟨rfl, rfl⟩))
      refine ⟨trivial, ?_⟩
      gi_wp2_with (first
        | (refine ⟨trivial, fun h => (by cases h), ?_⟩; gi_at_call 224; (with_reducible refine (HB.out _).mono ?_); clear HB; rintro e w2 hx2; have hx3 := hx2; rcases hx2 with ⟨rfl, -⟩ | ⟨rfl, -⟩))
      · go_ret
        exact hx3
      · go_ret
        exact hx3
/-- the loop function of pairs -/
theorem pairsC_in (l n₀ : Nat) (J Jx : List KV → World → Prop) (k : ByteArray) (t : Option AvT) (n : Nat) (W : World) (hJ : AbidesFrom W.heap.size J) (hn : n₀ ≤ W.heap.size)
    (hY : ∀ pre x W, J pre W → pre.length < ((t.map (AvT.vis k)).getD []).length → YieldAt Fence.wide (n - 1) Tryz.prog l #[.agg (kvC x)] W (GoesOn n₀ J Jx pre x W))
    (va : Value) (Bt Bk : Nat) (hBt : W.cell? ⟨Bt, 0, none⟩ = some va) (hBk : W.cell? ⟨Bk, 0, none⟩ = some (.string k)) (ht : TreeO W va t) (hg : ∀ g, va = .pointer (some ⟨g, 0, none⟩) → g < n₀) (h0 : J [] W) :
    CallsIn Fence.wide n Tryz.prog 223 #[.func (.yield l) #[] #[], .pointer (some ⟨Bt, 0, none⟩), .pointer (some ⟨Bk, 0, none⟩)] W fun e W' => (∃ v, e = .returned v) ∧
      ((∃ ys, ys = (t.map (AvT.vis k)).getD [] ∧ J ys W') ∨ (∃ pre, pre <+: (t.map (AvT.vis k)).getD [] ∧ Jx pre W')) := by
  have HV : ∀ m, CallsIn Fence.wide m Tryz.prog 224 #[va, .string k, .func (.yield l) #[] #[]] W fun e W' => (∃ v, e = .returned v) ∧
      ((∃ ys, ys = (t.map (AvT.vis k)).getD [] ∧ J ys W') ∨ (∃ pre, pre <+: (t.map (AvT.vis k)).getD [] ∧ Jx pre W')) := fun m => by
    cases t with
    | none =>
      cases ht
      refine (visit_nil l k m W).mono ?_
      rintro e W' ⟨rfl, rfl⟩
      exact ⟨⟨_, rfl⟩, .inl ⟨_, rfl, h0⟩⟩
    | some t =>
      obtain ⟨g, rfl, ht⟩ := ht
      refine (visit_in l n₀ (t.vis k).length W.heap.size hn J Jx hJ k (fun m pre x W hj hl => round_wide (hY pre x W hj hl)) t m g [] W ht (hg g rfl) hn h0 (by simp)).mono ?_
      rintro e W' (⟨rfl, h, -⟩ | ⟨rfl, q, hq, h⟩)
      · exact ⟨⟨_, rfl⟩, .inl ⟨_, rfl, h⟩⟩
      · exact ⟨⟨_, rfl⟩, .inr ⟨q, hq, h⟩⟩
  have HV2 := Lib.hid HV
  clear HV hY hJ ht hg h0
  refine callsIn_of_wp Tryz.func223 rfl trivial ?_ rfl
  simp only [Tryz.ntmps223, List.size_toArray, List.length_cons, List.length_nil, Nat.reduceAdd, Nat.reduceSub, Array.replicate_succ, Array.replicate_zero, List.push_toArray, List.append_toArray, List.nil_append, List.cons_append]
  gi_wp2_with (refine ⟨trivial, fun h => (by cases h), ?_⟩; gi_at_call 224; (with_reducible refine (HV2.out _).mono ?_); clear HV2; rintro e W1 ⟨⟨v, rfl⟩, hx⟩)
  go_end0
  exact ⟨⟨_, rfl⟩, hx⟩
theorem pairs_in (p : Option Addr) (k : ByteArray) (n : Nat) (w : World) :
    CallsIn Fence.wide n Tryz.prog 174 #[.pointer p, .string k] w fun e w' => e = .returned (.func (.func 223) #[] #[.pointer (some ⟨w.heap.size, 0, none⟩), .pointer (some ⟨w.heap.size + 1, 0, none⟩)]) ∧ w' = (w.alloc (.cells #[.pointer p] 65)).alloc (.cells #[.string k] 9) := by
  refine callsIn_of_wp Tryz.func174 rfl trivial ?_ rfl
  simp only [Tryz.ntmps174, List.size_toArray, List.length_cons, List.length_nil, Nat.reduceAdd, Nat.reduceSub, Array.replicate_succ, Array.replicate_zero, List.push_toArray, List.append_toArray, List.nil_append, List.cons_append]
  gi_wp2
  go_ret
  exact ⟨rfl, rfl⟩
end Go.Proofs.YtejglhlodfhgkaaGreatDoor
namespace Go.Proofs.YtejglhlodfhgkaaGreatDoor
set_option linter.unusedVariables false
set_option linter.unusedSimpArgs false
open Go.RowKit
set_option maxRecDepth 100000
set_option linter.unusedSimpArgs false
set_option linter.unusedVariables false
def flatKV (l : List KV) : List Value := l.flatMap fun p => [Value.string p.1, Value.string p.2]
theorem flatKV_append (a b : List KV) : flatKV (a ++ b) = flatKV a ++ flatKV b := List.flatMap_append
theorem flatKV_get : ∀ (l : List KV) (i : Nat) (p : KV), l[i]? = some p → (flatKV l)[i * 2]? = some (.string p.1) ∧ (flatKV l)[i * 2 + 1]? = some (.string p.2)
  | [], i, p, h => by simp at h
  | q :: l, 0, p, h => by
    injection h with h; subst h
    exact ⟨rfl, rfl⟩
  | q :: l, i + 1, p, h => by
    obtain ⟨h1, h2⟩ := flatKV_get l i p (by simpa using h)
    show (Value.string q.1 :: Value.string q.2 :: flatKV l)[_]? = _ ∧ (Value.string q.1 :: Value.string q.2 :: flatKV l)[_]? = _
    rw [show (i + 1) * 2 = i * 2 + 1 + 1 by omega, List.getElem?_cons_succ, List.getElem?_cons_succ, List.getElem?_cons_succ, List.getElem?_cons_succ]
    exact ⟨h1, h2⟩
theorem flatKV_one (l : List KV) : ∀ u ∈ flatKV l, u.oneCell' = true := by
  intro u hu
  simp only [flatKV, List.mem_flatMap] at hu
  obtain ⟨p, _, hp⟩ := hu
  simp at hp
  rcases hp with rfl | rfl <;> rfl
theorem infoKV : (Tryz.prog.info? 70).map (fun i => (i.zero, i.size, i.bytes)) = some (some (.agg #[.string { data := #[] }, .string { data := #[] }]), 2, 32) := by kernel_rfl
/-- v is a slice of the pairs l -/
def KVIn (w : World) (v : Value) (l : List KV) : Prop :=
  ∃ a cap, v = .slice a l.length cap ∧ l.length ≤ cap ∧ l.length ≤ maxLen ∧ (l = [] ∨ ∃ ab ao, a = some ⟨ab, ao, none⟩ ∧ ab < w.heap.size ∧ ∀ i p, l[i]? = some p → w.cell? ⟨ab, ao + i * 2, none⟩ = some (.string p.1) ∧ w.cell? ⟨ab, ao + i * 2 + 1, none⟩ = some (.string p.2))
theorem KVIn.below {w w' : World} {v : Value} {l : List KV} (h : KVIn w v l) (hb : Below w.heap.size w w') : KVIn w' v l := by
  obtain ⟨a, cap, rfl, hc, hm, hx⟩ := h
  refine ⟨a, cap, rfl, hc, hm, ?_⟩
  rcases hx with hx | ⟨ab, ao, rfl, hlt, hx⟩
  · exact .inl hx
  · exact .inr ⟨ab, ao, rfl, Nat.lt_of_lt_of_le hlt hb.size, fun i p hi => ⟨(hb.cell (p := ⟨ab, ao + i * 2, none⟩) hlt).trans (hx i p hi).1, (hb.cell (p := ⟨ab, ao + i * 2 + 1, none⟩) hlt).trans (hx i p hi).2⟩⟩
theorem KVIn.of_own {w : World} {B : Nat} {v : Value} {l : List KV} (h : w.ownsRow B 70 2 v l.length (flatKV l)) : KVIn w v l := by
  rcases h.2 with ⟨rfl, h0⟩ | ⟨tb, cap, cur, rfl, _, hh, hc, hm, _⟩
  · exact ⟨none, 0, by rw [h0], by omega, by simp [maxLen]; omega, .inl (List.eq_nil_of_length_eq_zero h0)⟩
  · refine ⟨_, cap, rfl, hc, Nat.le_trans hc hm, .inr ⟨tb, 0, rfl, (Array.getElem?_eq_some_iff.1 hh).1, fun i p hi => ?_⟩⟩
    obtain ⟨h1, h2⟩ := flatKV_get l i p hi
    have e1 := h.cells (g := tb) rfl _ _ h1
    have e2 := h.cells (g := tb) rfl _ _ h2
    rw [Addr.add_mid] at e1 e2
    exact ⟨e1, by rw [Nat.add_assoc]; exact e2⟩
theorem KVIn.len {w : World} {v : Value} {l : List KV} (h : KVIn w v l) : ∃ a cap, v = .slice a l.length cap := by
  obtain ⟨a, cap, e, _⟩ := h
  exact ⟨a, cap, e⟩
theorem KVIn.at {w : World} {a : Option Addr} {n cap : Nat} {l : List KV} (h : KVIn w (.slice a n cap) l) (i : Nat) (p : KV) (hi : l[i]? = some p) :
    ∃ ab ao, a = some ⟨ab, ao, none⟩ ∧ ab < w.heap.size ∧ w.cell? ⟨ab, ao + i * 2, none⟩ = some (.string p.1) ∧ w.cell? ⟨ab, ao + i * 2 + 1, none⟩ = some (.string p.2) := by
  obtain ⟨a', cap', e, hc, hm, hx⟩ := h
  injection e with e1 e2 e3
  subst e1
  rcases hx with rfl | ⟨ab, ao, rfl, hlt, hx⟩
  · simp at hi
  · exact ⟨ab, ao, rfl, hlt, hx i p hi⟩
theorem kv_new (w : World) (p : KV) : w.alloc (.cells #[.string p.1, .string p.2] 70) |>.ownsRow w.heap.size 70 2 (.slice (some ⟨w.heap.size, 0, none⟩) 1 1) 1 (flatKV [p]) := by
  refine ⟨rfl, .inr ⟨w.heap.size, 1, #[.string p.1, .string p.2], rfl, Nat.le_refl _, heap_alloc_new _ _, by omega, by simp [maxLen], by simp, rfl⟩⟩
end Go.Proofs.YtejglhlodfhgkaaGreatDoor
