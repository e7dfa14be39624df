/- Part 16 of the proof. -/
import Derived.RangeFuncNested
import Derived.RangeFuncBound
import Derived.RangeFuncCalls
import Derived.RangeFuncLeaves
import Derived.Shelf.Abstract
import Derived.Shelf.RegionOpen
import Derived.WalkKit
import Derived.OwnWalkIn
import Derived.TacticsInMore
import Derived.LoopNIn
import Derived.LoopIn
import Derived.Maps.AppendAt
import Derived.RangeFuncBox
import Derived.Test.YtejglhlodfhgkaaGreatDoorBp1
import Derived.Test.YtejglhlodfhgkaaGreatDoorBp3
import Derived.Test.YtejglhlodfhgkaaGreatDoorBp11
import Derived.Test.YtejglhlodfhgkaaGreatDoorBp15
namespace Go.Proofs.YtejglhlodfhgkaaGreatDoor
set_option linter.unusedVariables false
set_option linter.unusedSimpArgs false
open Go.RowKit
set_option maxRecDepth 100000
set_option linter.unusedSimpArgs false
set_option linter.unusedVariables false
def kvC (p : KV) : Array Value := #[.string p.1, .string p.2]
theorem kvC_one (p : KV) : (kvC p).all (·.oneCell') = true := by simp [kvC, Value.oneCell']
set_option maxHeartbeats 1000000 in
theorem pair_any (g : Nat) (t : AvT) (w : World) (ht : TreeAt w g t) : Calls Tryz.prog 248 #[.pointer (some ⟨g, 0, none⟩)] w fun e w' => e = .returned (.agg (kvC (t.least, t.value))) ∧ Below w.heap.size w w' := by
  have HB := Lib.hid (below_alloc w (.cells #[.string { data := #[] }, .string { data := #[] }] 70))
  have HP := Lib.hid (heap_alloc_new w (.cells #[.string { data := #[] }, .string { data := #[] }] 70))
  have HT := Lib.hid (ht.below HB.out)
  obtain ⟨k, hk⟩ : ∃ k, k = t.least := ⟨_, rfl⟩
  obtain ⟨v, hv⟩ : ∃ v, v = t.value := ⟨_, rfl⟩
  have c0 := HT.out.least
  have c1 := HT.out.value
  rw [← hk] at c0 ⊢
  rw [← hv] at c1 ⊢
  have HC := Lib.hid (show World.cell? _ ⟨g, 0, none⟩ = _ ∧ World.cell? _ ⟨g, 1, none⟩ = _ from ⟨c0, c1⟩)
  clear hk hv ht HT c0 c1
  go_enter Tryz.func248, Tryz.ntmps248
  go_upto_region 1 with (fail)
  generalize w.alloc (.cells #[.string { data := #[] }, .string { data := #[] }] 70) = w1 at *
  refine wp_region_T (fun w' => w'.cell? ⟨g, 0, none⟩ = some (.string k) ∧ w'.cell? ⟨g, 1, none⟩ = some (.string v)) [3, 7] (by kernel_rfl) ?_
  have HS := Lib.hid (show w1.drew.cell? ⟨g, 0, none⟩ = some (.string k) ∧ w1.drew.cell? ⟨g, 1, none⟩ = some (.string v) from HC.out)
  replace HB := Lib.hid (show Below w.heap.size w w1.drew from HB.out.drew)
  replace HP := Lib.hid (show w1.drew.heap[w.heap.size]? = _ from HP.out)
  generalize w1.drew = w2 at *
  refine anyT_takeY (i := 0) (v := .pointer (some ⟨g, 0, none⟩)) rfl (by kernel_rfl) (by kernel_rfl) (by kernel_rfl) (fun _ _ _ h => h) (by kernel_rfl) (Or.inl ⟨by rfl, by intro w; go_simp⟩) ?_
  try simp only [List.getElem_toArray, List.getElem_cons_succ, List.getElem_cons_zero, Act.put, List.setIfInBounds_toArray, List.set_cons_zero, List.set_cons_succ]
  refine anyT_takeY (i := 1) (v := .pointer (some ⟨g, 0, none⟩)) rfl (by kernel_rfl) (by kernel_rfl) (by kernel_rfl) (fun _ _ _ h => h) (by kernel_rfl) (Or.inl ⟨by rfl, by intro w; go_simp⟩) ?_
  try simp only [List.getElem_toArray, List.getElem_cons_succ, List.getElem_cons_zero, Act.put, List.setIfInBounds_toArray, List.set_cons_zero, List.set_cons_succ]
  refine anyT_takeY (i := 2) (v := .pointer (some ⟨g, 0, none⟩)) rfl (by kernel_rfl) (by kernel_rfl) (by kernel_rfl) (fun _ _ _ h => h) (by kernel_rfl) (Or.inl ⟨by rfl, by intro w; go_simp⟩) ?_
  try simp only [List.getElem_toArray, List.getElem_cons_succ, List.getElem_cons_zero, Act.put, List.setIfInBounds_toArray, List.set_cons_zero, List.set_cons_succ]
  refine anyT_takeY (i := 4) (v := .pointer (some ⟨g, 0, none⟩)) rfl (by kernel_rfl) (by kernel_rfl) (by kernel_rfl) (fun _ _ _ h => h) (by kernel_rfl) (Or.inl ⟨by rfl, by intro w; go_simp⟩) ?_
  try simp only [List.getElem_toArray, List.getElem_cons_succ, List.getElem_cons_zero, Act.put, List.setIfInBounds_toArray, List.set_cons_zero, List.set_cons_succ]
  refine anyT_takeY (i := 5) (v := .pointer (some ⟨g, 0, none⟩)) rfl (by kernel_rfl) (by kernel_rfl) (by kernel_rfl) (fun _ _ _ h => h) (by kernel_rfl) (Or.inl ⟨by rfl, by intro w; go_simp⟩) ?_
  try simp only [List.getElem_toArray, List.getElem_cons_succ, List.getElem_cons_zero, Act.put, List.setIfInBounds_toArray, List.set_cons_zero, List.set_cons_succ]
  refine anyT_takeY (i := 6) (v := .pointer (some ⟨g, 1, none⟩)) rfl (by kernel_rfl) (by kernel_rfl) (by kernel_rfl) (fun _ _ _ h => h) (by kernel_rfl) (Or.inl ⟨by rfl, by intro w; go_simp⟩) ?_
  try simp only [List.getElem_toArray, List.getElem_cons_succ, List.getElem_cons_zero, Act.put, List.setIfInBounds_toArray, List.set_cons_zero, List.set_cons_succ]
  refine anyT_take [8, 9] (i := 3) (v := .string k) rfl (by kernel_rfl) (by kernel_rfl) (by kernel_rfl) (fun _ _ _ h => h) (by kernel_rfl) (Or.inl ⟨by rfl, fun w' hS => by have c := hS.1; go_simp⟩) HS.out ?_
  try simp only [List.getElem_toArray, List.getElem_cons_succ, List.getElem_cons_zero, Act.put, List.setIfInBounds_toArray, List.set_cons_zero, List.set_cons_succ]
  refine anyT_take [8, 9] (i := 7) (v := .string v) rfl (by kernel_rfl) (by kernel_rfl) (by kernel_rfl) (fun _ _ _ h => h) (by kernel_rfl) (Or.inl ⟨by rfl, fun w' hS => by have c := hS.2; go_simp⟩) HS.out ?_
  try simp only [List.getElem_toArray, List.getElem_cons_succ, List.getElem_cons_zero, Act.put, List.setIfInBounds_toArray, List.set_cons_zero, List.set_cons_succ]
  refine anyT_takeY (i := 8) (v := .agg (kvC (k, v))) rfl (by kernel_rfl) (by kernel_rfl) (by kernel_rfl) (fun _ _ _ h => h) (by kernel_rfl) (Or.inl ⟨by rfl, by intro w; go_simp; rfl⟩) ?_
  try simp only [List.getElem_toArray, List.getElem_cons_succ, List.getElem_cons_zero, Act.put, List.setIfInBounds_toArray, List.set_cons_zero, List.set_cons_succ]
  refine anyT_one (i := 9) (by kernel_rfl) rfl (fun K hK => ?_)
  rw [if_pos (by rfl)]
  try simp only [List.getElem_toArray, List.getElem_cons_succ, List.getElem_cons_zero]
  (refine wp_store_row 70 (.tmp 2) (.tmp 11) rfl w.heap.size (kvC (k, v)) rfl rfl 70 _ HP.out (by kernel_rfl) rfl (kvC_one _) ?_)
  refine hK _ _ (not_mem rfl) ?_
  clear hK K
  try simp only [List.getElem_toArray, List.getElem_cons_succ, List.getElem_cons_zero, Act.put, List.setIfInBounds_toArray, List.set_cons_zero, List.set_cons_succ]
  refine anyT_done (by kernel_rfl) ?_ _
  go_wp2_with (fail)
  refine bodyPost_ret (results_cell_row rfl _ _ w.heap.size 70 (kvC (k, v)) (0, 0) _ rfl (setRow_heap _ _ _ _ _ _ HP.out) Tryz.underlying70 rfl (by kernel_rfl)) rfl ?_
  exact ⟨rfl, below_setRow HB.out (Nat.le_refl _) _⟩
end Go.Proofs.YtejglhlodfhgkaaGreatDoor
namespace Go.Proofs.YtejglhlodfhgkaaGreatDoor
set_option linter.unusedVariables false
set_option linter.unusedSimpArgs false
open Go.RowKit Go.Shelf
set_option maxRecDepth 100000
set_option linter.unusedSimpArgs false
set_option linter.unusedVariables false
attribute [local go_sem] Oper.semAt_some
theorem round_wide {m m' : Nat} {P : Program} {l : Nat} {args : Array Value} {W : World} {R : Ending → World → Prop} (h : YieldAt Fence.wide m P l args W R) : YieldAt Fence.wide m' P l args W R := by
  obtain ⟨fn, tmps, assign, body, hy, hF, hr⟩ := h
  exact ⟨fn, tmps, assign, body, hy, hF, fun c cs _ => hr c cs fun d hd => by cases hd⟩
theorem TreeAt.belowN {w w' : World} {N : Nat} : ∀ {t : AvT} {g : Nat}, TreeAt w g t → g < N → Below N w w' → TreeAt w' g t
  | .leaf k v, g, h, hg, hb => (hb.block g hg).trans h
  | .node a b, g, h, hg, hb => by
    obtain ⟨ga, gb, hl, h, h1, h2⟩ := h
    exact ⟨ga, gb, hl, (hb.block g hg).trans h, h1.belowN (by omega) hb, h2.belowN (by omega) hb⟩
theorem grown_of_below {w w' : World} (h : Below w.heap.size w w') : w.grownBy w' none := ⟨h.os, h.tape, h.output, h.size, fun k hk _ => h.block k hk⟩
theorem below_le {w w' : World} {A B : Nat} (h : Below A w w') (hB : B ≤ A) : Below B w w' := ⟨h.os, h.tape, h.output, h.size, fun k hk => h.block k (by omega)⟩
/-- what a round of the loop answers the iterator -/
def GoesOn (n₀ : Nat) (J Jx : List KV → World → Prop) (pre : List KV) (x : KV) (W : World) (e : Ending) (W' : World) : Prop :=
  (e = .returned (.bool true) ∧ J (pre ++ [x]) W' ∧ Below n₀ W W') ∨ (e = .returned (.bool false) ∧ Jx (pre ++ [x]) W')
/-- what visit answers -/
def Visited (n₀ : Nat) (J Jx : List KV → World → Prop) (pre xs : List KV) (W : World) (e : Ending) (W' : World) : Prop :=
  (e = .returned (.bool true) ∧ J (pre ++ xs) W' ∧ Below n₀ W W') ∨ (e = .returned (.bool false) ∧ ∃ q, q <+: xs ∧ Jx (pre ++ q) W')
theorem visit_leaf (l n₀ N B : Nat) (hB : n₀ ≤ B) (J Jx : List KV → World → Prop) (hJ : AbidesFrom B J) (k : ByteArray)
    (hY : ∀ m pre x W, J pre W → pre.length < N → YieldAt Fence.wide m Tryz.prog l #[.agg (kvC x)] W (GoesOn n₀ J Jx pre x W)) (k0 v0 : ByteArray)
    (n g : Nat) (pre : List KV) (W : World) (ht : TreeAt W g (.leaf k0 v0)) (hn : n₀ ≤ W.heap.size) (h0 : J pre W) (hN : pre.length + ((AvT.leaf k0 v0).vis k).length ≤ N) :
    CallsIn Fence.wide n Tryz.prog 224 #[.pointer (some ⟨g, 0, none⟩), .string k, .func (.yield l) #[] #[]] W (Visited n₀ J Jx pre ((AvT.leaf k0 v0).vis k) W) := by
  have HL := Lib.hid (len_some W ht)
  have c0 := ht.least
  rw [show (AvT.leaf k0 v0).least = k0 from rfl] at c0
  have HP := Lib.hid (fun m (hl : pre.length < N) => (callsIn_wide (n := m)).2 ((pair_any g _ W ht).mono (R' := fun e W1 => e = .returned (.agg (kvC (k0, v0))) ∧ Below W.heap.size W W1 ∧ YieldAt Fence.wide m Tryz.prog l #[.agg (kvC (k0, v0))] W1 (GoesOn n₀ J Jx pre (k0, v0) W1))
    fun e W1 h => ⟨h.1, h.2, hY m pre (k0, v0) W1 (hJ pre W W1 none h0 (grown_of_below h.2) (fun r e => by cases e)) hl⟩))
  cases h1 : bl k0 k with
  | true =>
    have hv : (AvT.leaf k0 v0).vis k = [] := by unfold AvT.vis; rw [if_pos h1]
    rw [hv]
    have hk : Op.bytesLess k0.toList k.toList = true := h1
    clear h1 hv HP hY hJ ht hN
    refine callsIn_of_wp Tryz.func224 rfl trivial ?_ rfl
    simp only [Tryz.ntmps224, List.size_toArray, List.length_cons, List.length_nil, Nat.reduceAdd, Nat.reduceSub, Array.replicate_succ, Array.replicate_zero, List.push_toArray, List.append_toArray, List.nil_append, List.cons_append]
    gi_wp2_with (first
      | (refine ⟨trivial, fun h => (by cases h), ?_⟩; gi_at_call 86; (with_reducible refine (callsIn_wide.2 HL.out).mono ?_); rw [show ((AvT.leaf k0 v0).many : Int) = 1 from rfl]; rintro e w' ⟨rfl, rfl⟩))
    refine ⟨trivial, ?_⟩
    gi_wp2
    refine ⟨fun _ h => (by cases h), ?_⟩
    gi_wp2
    go_ret
    exact .inl ⟨rfl, by rw [List.append_nil]; exact h0, Below.refl _ _⟩
  | false =>
    have hv : (AvT.leaf k0 v0).vis k = [(k0, v0)] := by unfold AvT.vis; rw [if_neg (by rw [h1]; simp)]
    rw [hv] at hN ⊢
    have hl : pre.length < N := by simp only [List.length_cons, List.length_nil] at hN; omega
    have hk : Op.bytesLess k0.toList k.toList = false := h1
    have HP2 := Lib.hid (fun m => HP.out m hl)
    clear h1 hv HP hY hJ ht hN hl h0
    refine callsIn_of_wp Tryz.func224 rfl trivial ?_ rfl
    simp only [Tryz.ntmps224, List.size_toArray, List.length_cons, List.length_nil, Nat.reduceAdd, Nat.reduceSub, Array.replicate_succ, Array.replicate_zero, List.push_toArray, List.append_toArray, List.nil_append, List.cons_append]
    gi_wp2_with (first
      | (refine ⟨trivial, fun h => (by cases h), ?_⟩; gi_at_call 86; (with_reducible refine (callsIn_wide.2 HL.out).mono ?_); rw [show ((AvT.leaf k0 v0).many : Int) = 1 from rfl]; rintro e w' ⟨rfl, rfl⟩)
      | (refine ⟨trivial, fun h => (by cases h), ?_⟩; gi_at_call 248; (with_reducible refine (HP2.out _).mono ?_); rintro e w1 ⟨rfl, hb, fn, tmps, assign, body, hy, hR⟩; have HB := Lib.hid hb; clear hb)
      | ((try refine ⟨fun h => (by cases h), ?_⟩); refine hR.mono ?_; rintro e w2 (⟨rfl, hJ2, hb2⟩ | ⟨rfl, hx2⟩)))
    · go_ret
      exact .inl ⟨rfl, hJ2, (below_le HB.out hn).trans hb2⟩
    · go_ret
      exact .inr ⟨rfl, _, List.prefix_rfl, hx2⟩
theorem visit_nil (l : Nat) (k : ByteArray) (n : Nat) (W : World) : CallsIn Fence.wide n Tryz.prog 224 #[.pointer none, .string k, .func (.yield l) #[] #[]] W fun e W' => e = .returned (.bool true) ∧ W = W' := by
  refine callsIn_of_wp Tryz.func224 rfl trivial ?_ rfl
  simp only [Tryz.ntmps224, List.size_toArray, List.length_cons, List.length_nil, Nat.reduceAdd, Nat.reduceSub, Array.replicate_succ, Array.replicate_zero, List.push_toArray, List.append_toArray, List.nil_append, List.cons_append]
  gi_wp2_with (first
    | (refine ⟨trivial, fun h => (by cases h), ?_⟩; gi_at_call 86; (with_reducible refine (callsIn_wide.2 (len_nil _)).mono ?_); rintro e w' ⟨rfl, rfl⟩))
  go_ret
  exact ⟨rfl, rfl⟩
set_option maxHeartbeats 2000000 in
theorem visit_in (l n₀ N B : Nat) (hB : n₀ ≤ B) (J Jx : List KV → World → Prop) (hJ : AbidesFrom B J) (k : ByteArray)
    (hY : ∀ m pre x W, J pre W → pre.length < N → YieldAt Fence.wide m Tryz.prog l #[.agg (kvC x)] W (GoesOn n₀ J Jx pre x W)) :
    ∀ (t : AvT) (n g : Nat) (pre : List KV) (W : World), TreeAt W g t → g < n₀ → n₀ ≤ W.heap.size → J pre W → pre.length + (t.vis k).length ≤ N →
    CallsIn Fence.wide n Tryz.prog 224 #[.pointer (some ⟨g, 0, none⟩), .string k, .func (.yield l) #[] #[]] W (Visited n₀ J Jx pre (t.vis k) W) := by
  intro t
  induction t with
  | leaf k0 v0 => intro n g pre W ht hg hn h0 hN; exact visit_leaf l n₀ N B hB J Jx hJ k hY k0 v0 n g pre W ht hn h0 hN
  | node a b iha ihb =>
    intro n g pre W ht hg hn h0 hN
    have HL := Lib.hid (len_some W ht)
    obtain ⟨ga, gb, l1, l2, k1, k2, ha, hb⟩ := ht.kidsL
    have c0 := hb.least
    have h2m : 2 ≤ (AvT.node a b).many := by have := a.many_pos; have := b.many_pos; simp only [AvT.many]; omega
    obtain ⟨m, hmm⟩ : ∃ m, m = (AvT.node a b).many := ⟨_, rfl⟩
    rw [← hmm] at HL h2m
    have hm0 : ((m : Int) == 0) = false := by rw [beq_eq_false_iff_ne]; omega
    have hm1 : ((m : Int) == 1) = false := by rw [beq_eq_false_iff_ne]; omega
    cases h2 : bl k b.least with
    | true =>
      have hv : (AvT.node a b).vis k = a.vis k ++ b.vis k := by rw [AvT.vis, if_pos h2]
      rw [hv] at hN ⊢
      rw [List.length_append] at hN
      have HA := Lib.hid (fun m => (iha m ga pre W ha (by omega) hn h0 (by omega)).mono (R' := fun e W1 =>
        (e = .returned (.bool true) ∧ W1.cell? ⟨g, 37, none⟩ = some (.pointer (some ⟨gb, 0, none⟩)) ∧ Hid (∀ m, CallsIn Fence.wide m Tryz.prog 224 #[.pointer (some ⟨gb, 0, none⟩), .string k, .func (.yield l) #[] #[]] W1 (Visited n₀ J Jx pre (a.vis k ++ b.vis k) W))) ∨
        (e = .returned (.bool false) ∧ Visited n₀ J Jx pre (a.vis k ++ b.vis k) W e W1)) fun e W1 h => h.elim
          (fun ⟨he, hj, hb1⟩ => .inl ⟨he, (hb1.cell (p := ⟨g, 37, none⟩) hg).trans k2, Lib.hid fun m => (ihb m gb (pre ++ a.vis k) W1 (hb.belowN (by omega) hb1) (by omega) (Nat.le_trans hn hb1.size) hj (by rw [List.length_append]; omega)).mono fun e W2 h => h.elim
            (fun ⟨he, hj2, hb2⟩ => .inl ⟨he, by rw [← List.append_assoc]; exact hj2, hb1.trans hb2⟩)
            (fun ⟨he, q, hq, hx⟩ => .inr ⟨he, a.vis k ++ q, (List.prefix_append_right_inj _).2 hq, by rw [← List.append_assoc]; exact hx⟩)⟩)
          (fun ⟨he, q, hq, hx⟩ => .inr ⟨he, .inr ⟨he, q, hq.trans (List.prefix_append _ _), hx⟩⟩))
      have hl : Op.bytesLess k.toList b.least.toList = true := h2
      clear h2 hmm hv ha hb iha ihb hY hJ h0 hN h2m ht
      refine callsIn_of_wp Tryz.func224 rfl trivial ?_ rfl
      simp only [Tryz.ntmps224, List.size_toArray, List.length_cons, List.length_nil, Nat.reduceAdd, Nat.reduceSub, Array.replicate_succ, Array.replicate_zero, List.push_toArray, List.append_toArray, List.nil_append, List.cons_append]
      gi_wp2_with (first
        | (refine ⟨trivial, fun h => (by cases h), ?_⟩; gi_at_call 86; (with_reducible refine (callsIn_wide.2 HL.out).mono ?_); rintro e w' ⟨rfl, rfl⟩)
        | (refine ⟨trivial, fun h => (by cases h), ?_⟩; gi_at_call 224; (with_reducible refine (HA.out _).mono ?_); clear HA; rintro e w1 (⟨rfl, k3, HB⟩ | ⟨rfl, hx1⟩))
        | (refine ⟨trivial, fun h => (by cases h), ?_⟩; gi_at_call 224; (with_reducible refine (HB.out _).mono ?_); clear HB; rintro e w2 hx2; have hx3 := hx2; rcases hx2 with ⟨rfl, -⟩ | ⟨rfl, -⟩))
      · go_ret
        exact hx3
      · go_ret
        exact hx3
      · go_ret
        exact hx1
    | false =>
      have hv : (AvT.node a b).vis k = b.vis k := by rw [AvT.vis, if_neg (by rw [h2]; simp)]
      rw [hv] at hN ⊢
      have HB := Lib.hid (fun m => ihb m gb pre W hb (by omega) hn h0 hN)
      have hl : Op.bytesLess k.toList b.least.toList = false := h2
      clear h2 hmm hv ha hb iha ihb hY hJ h0 hN h2m ht
      refine callsIn_of_wp Tryz.func224 rfl trivial ?_ rfl
      simp only [Tryz.ntmps224, List.size_toArray, List.length_cons, List.length_nil, Nat.reduceAdd, Nat.reduceSub, Array.replicate_succ, Array.replicate_zero, List.push_toArray, List.append_toArray, List.nil_append, List.cons_append]
      gi_wp2_with (first
        | (refine ⟨trivial, fun h => (by cases h), ?_⟩; gi_at_call 86; (with_reducible refine (callsIn_wide.2 HL.out).mono ?_); rintro e w' ⟨rfl, rfl⟩))
      refine ⟨trivial, ?_⟩
      gi_wp2_with (first
        | (refine ⟨trivial, fun h => (by cases h), ?_⟩; gi_at_call 224; (with_reducible refine (HB.out _).mono ?_); clear HB; rintro e w2 hx2; have hx3 := hx2; rcases hx2 with ⟨rfl, -⟩ | ⟨rfl, -⟩))
      · go_ret
        exact hx3
      · go_ret
        exact hx3
/-- the loop function of pairs -/
theorem pairsC_in (l n₀ : Nat) (J Jx : List KV → World → Prop) (k : ByteArray) (t : Option AvT) (n : Nat) (W : World) (hJ : AbidesFrom W.heap.size J) (hn : n₀ ≤ W.heap.size)
    (hY : ∀ pre x W, J pre W → pre.length < ((t.map (AvT.vis k)).getD []).length → YieldAt Fence.wide (n - 1) Tryz.prog l #[.agg (kvC x)] W (GoesOn n₀ J Jx pre x W))
    (va : Value) (Bt Bk : Nat) (hBt : W.cell? ⟨Bt, 0, none⟩ = some va) (hBk : W.cell? ⟨Bk, 0, none⟩ = some (.string k)) (ht : TreeO W va t) (hg : ∀ g, va = .pointer (some ⟨g, 0, none⟩) → g < n₀) (h0 : J [] W) :
    CallsIn Fence.wide n Tryz.prog 223 #[.func (.yield l) #[] #[], .pointer (some ⟨Bt, 0, none⟩), .pointer (some ⟨Bk, 0, none⟩)] W fun e W' => (∃ v, e = .returned v) ∧
      ((∃ ys, ys = (t.map (AvT.vis k)).getD [] ∧ J ys W') ∨ (∃ pre, pre <+: (t.map (AvT.vis k)).getD [] ∧ Jx pre W')) := by
  have HV : ∀ m, CallsIn Fence.wide m Tryz.prog 224 #[va, .string k, .func (.yield l) #[] #[]] W fun e W' => (∃ v, e = .returned v) ∧
      ((∃ ys, ys = (t.map (AvT.vis k)).getD [] ∧ J ys W') ∨ (∃ pre, pre <+: (t.map (AvT.vis k)).getD [] ∧ Jx pre W')) := fun m => by
    cases t with
    | none =>
      cases ht
      refine (visit_nil l k m W).mono ?_
      rintro e W' ⟨rfl, rfl⟩
      exact ⟨⟨_, rfl⟩, .inl ⟨_, rfl, h0⟩⟩
    | some t =>
      obtain ⟨g, rfl, ht⟩ := ht
      refine (visit_in l n₀ (t.vis k).length W.heap.size hn J Jx hJ k (fun m pre x W hj hl => round_wide (hY pre x W hj hl)) t m g [] W ht (hg g rfl) hn h0 (by simp)).mono ?_
      rintro e W' (⟨rfl, h, -⟩ | ⟨rfl, q, hq, h⟩)
      · exact ⟨⟨_, rfl⟩, .inl ⟨_, rfl, h⟩⟩
      · exact ⟨⟨_, rfl⟩, .inr ⟨q, hq, h⟩⟩
  have HV2 := Lib.hid HV
  clear HV hY hJ ht hg h0
  refine callsIn_of_wp Tryz.func223 rfl trivial ?_ rfl
  simp only [Tryz.ntmps223, List.size_toArray, List.length_cons, List.length_nil, Nat.reduceAdd, Nat.reduceSub, Array.replicate_succ, Array.replicate_zero, List.push_toArray, List.append_toArray, List.nil_append, List.cons_append]
  gi_wp2_with (refine ⟨trivial, fun h => (by cases h), ?_⟩; gi_at_call 224; (with_reducible refine (HV2.out _).mono ?_); clear HV2; rintro e W1 ⟨⟨v, rfl⟩, hx⟩)
  go_end0
  exact ⟨⟨_, rfl⟩, hx⟩
theorem pairs_in (p : Option Addr) (k : ByteArray) (n : Nat) (w : World) :
    CallsIn Fence.wide n Tryz.prog 174 #[.pointer p, .string k] w fun e w' => e = .returned (.func (.func 223) #[] #[.pointer (some ⟨w.heap.size, 0, none⟩), .pointer (some ⟨w.heap.size + 1, 0, none⟩)]) ∧ w' = (w.alloc (.cells #[.pointer p] 65)).alloc (.cells #[.string k] 9) := by
  refine callsIn_of_wp Tryz.func174 rfl trivial ?_ rfl
  simp only [Tryz.ntmps174, List.size_toArray, List.length_cons, List.length_nil, Nat.reduceAdd, Nat.reduceSub, Array.replicate_succ, Array.replicate_zero, List.push_toArray, List.append_toArray, List.nil_append, List.cons_append]
  gi_wp2
  go_ret
  exact ⟨rfl, rfl⟩
end Go.Proofs.YtejglhlodfhgkaaGreatDoor
namespace Go.Proofs.YtejglhlodfhgkaaGreatDoor
set_option linter.unusedVariables false
set_option linter.unusedSimpArgs false
open Go.RowKit
set_option maxRecDepth 100000
set_option linter.unusedSimpArgs false
set_option linter.unusedVariables false
def flatKV (l : List KV) : List Value := l.flatMap fun p => [Value.string p.1, Value.string p.2]
theorem flatKV_append (a b : List KV) : flatKV (a ++ b) = flatKV a ++ flatKV b := List.flatMap_append
theorem flatKV_get : ∀ (l : List KV) (i : Nat) (p : KV), l[i]? = some p → (flatKV l)[i * 2]? = some (.string p.1) ∧ (flatKV l)[i * 2 + 1]? = some (.string p.2)
  | [], i, p, h => by simp at h
  | q :: l, 0, p, h => by
    injection h with h; subst h
    exact ⟨rfl, rfl⟩
  | q :: l, i + 1, p, h => by
    obtain ⟨h1, h2⟩ := flatKV_get l i p (by simpa using h)
    show (Value.string q.1 :: Value.string q.2 :: flatKV l)[_]? = _ ∧ (Value.string q.1 :: Value.string q.2 :: flatKV l)[_]? = _
    rw [show (i + 1) * 2 = i * 2 + 1 + 1 by omega, List.getElem?_cons_succ, List.getElem?_cons_succ, List.getElem?_cons_succ, List.getElem?_cons_succ]
    exact ⟨h1, h2⟩
theorem flatKV_one (l : List KV) : ∀ u ∈ flatKV l, u.oneCell' = true := by
  intro u hu
  simp only [flatKV, List.mem_flatMap] at hu
  obtain ⟨p, _, hp⟩ := hu
  simp at hp
  rcases hp with rfl | rfl <;> rfl
theorem infoKV : (Tryz.prog.info? 70).map (fun i => (i.zero, i.size, i.bytes)) = some (some (.agg #[.string { data := #[] }, .string { data := #[] }]), 2, 32) := by kernel_rfl
/-- v is a slice of the pairs l -/
def KVIn (w : World) (v : Value) (l : List KV) : Prop :=
  ∃ a cap, v = .slice a l.length cap ∧ l.length ≤ cap ∧ l.length ≤ maxLen ∧ (l = [] ∨ ∃ ab ao, a = some ⟨ab, ao, none⟩ ∧ ab < w.heap.size ∧ ∀ i p, l[i]? = some p → w.cell? ⟨ab, ao + i * 2, none⟩ = some (.string p.1) ∧ w.cell? ⟨ab, ao + i * 2 + 1, none⟩ = some (.string p.2))
theorem KVIn.below {w w' : World} {v : Value} {l : List KV} (h : KVIn w v l) (hb : Below w.heap.size w w') : KVIn w' v l := by
  obtain ⟨a, cap, rfl, hc, hm, hx⟩ := h
  refine ⟨a, cap, rfl, hc, hm, ?_⟩
  rcases hx with hx | ⟨ab, ao, rfl, hlt, hx⟩
  · exact .inl hx
  · exact .inr ⟨ab, ao, rfl, Nat.lt_of_lt_of_le hlt hb.size, fun i p hi => ⟨(hb.cell (p := ⟨ab, ao + i * 2, none⟩) hlt).trans (hx i p hi).1, (hb.cell (p := ⟨ab, ao + i * 2 + 1, none⟩) hlt).trans (hx i p hi).2⟩⟩
theorem KVIn.of_own {w : World} {B : Nat} {v : Value} {l : List KV} (h : w.ownsRow B 70 2 v l.length (flatKV l)) : KVIn w v l := by
  rcases h.2 with ⟨rfl, h0⟩ | ⟨tb, cap, cur, rfl, _, hh, hc, hm, _⟩
  · exact ⟨none, 0, by rw [h0], by omega, by simp [maxLen]; omega, .inl (List.eq_nil_of_length_eq_zero h0)⟩
  · refine ⟨_, cap, rfl, hc, Nat.le_trans hc hm, .inr ⟨tb, 0, rfl, (Array.getElem?_eq_some_iff.1 hh).1, fun i p hi => ?_⟩⟩
    obtain ⟨h1, h2⟩ := flatKV_get l i p hi
    have e1 := h.cells (g := tb) rfl _ _ h1
    have e2 := h.cells (g := tb) rfl _ _ h2
    rw [Addr.add_mid] at e1 e2
    exact ⟨e1, by rw [Nat.add_assoc]; exact e2⟩
theorem KVIn.len {w : World} {v : Value} {l : List KV} (h : KVIn w v l) : ∃ a cap, v = .slice a l.length cap := by
  obtain ⟨a, cap, e, _⟩ := h
  exact ⟨a, cap, e⟩
theorem KVIn.at {w : World} {a : Option Addr} {n cap : Nat} {l : List KV} (h : KVIn w (.slice a n cap) l) (i : Nat) (p : KV) (hi : l[i]? = some p) :
    ∃ ab ao, a = some ⟨ab, ao, none⟩ ∧ ab < w.heap.size ∧ w.cell? ⟨ab, ao + i * 2, none⟩ = some (.string p.1) ∧ w.cell? ⟨ab, ao + i * 2 + 1, none⟩ = some (.string p.2) := by
  obtain ⟨a', cap', e, hc, hm, hx⟩ := h
  injection e with e1 e2 e3
  subst e1
  rcases hx with rfl | ⟨ab, ao, rfl, hlt, hx⟩
  · simp at hi
  · exact ⟨ab, ao, rfl, hlt, hx i p hi⟩
theorem kv_new (w : World) (p : KV) : w.alloc (.cells #[.string p.1, .string p.2] 70) |>.ownsRow w.heap.size 70 2 (.slice (some ⟨w.heap.size, 0, none⟩) 1 1) 1 (flatKV [p]) := by
  refine ⟨rfl, .inr ⟨w.heap.size, 1, #[.string p.1, .string p.2], rfl, Nat.le_refl _, heap_alloc_new _ _, by omega, by simp [maxLen], by simp, rfl⟩⟩
end Go.Proofs.YtejglhlodfhgkaaGreatDoor
namespace Go.Proofs.YtejglhlodfhgkaaGreatDoor
set_option linter.unusedVariables false
set_option linter.unusedSimpArgs false
open Go.RowKit Go.Shelf
set_option maxRecDepth 100000
set_option linter.unusedSimpArgs false
set_option linter.unusedVariables false
attribute [local go_sem] Oper.semAt_some
/-- below the end, or no end at all -/
def upTo (hi : ByteArray) (p : KV) : Bool := hi.toList.isEmpty || bl p.1 hi
def rangeO (t : Option AvT) (k hi : ByteArray) : List KV := ((t.map (AvT.vis k)).getD []).takeWhile (upTo hi)
theorem upTo_all {hi : ByteArray} {l : List KV} (h : ∀ p ∈ l, upTo hi p = true) : l.takeWhile (upTo hi) = l := by
  induction l with
  | nil => rfl
  | cons x l ih => rw [List.takeWhile_cons, if_pos (h x (by simp)), ih fun p hp => h p (by simp [hp])]
theorem upTo_stop {hi : ByteArray} {l q : List KV} {x : KV} (h : ∀ p ∈ q, upTo hi p = true) (hx : upTo hi x = false) (hp : q ++ [x] <+: l) : l.takeWhile (upTo hi) = q := by
  obtain ⟨r, rfl⟩ := hp
  induction q with
  | nil => simp [hx]
  | cons y q ih =>
    rw [List.cons_append, List.cons_append, List.takeWhile_cons, if_pos (h y (by simp)), ih fun p hp => h p (by simp [hp])]
theorem pairs_stops (n n₀ : Nat) (Bt Bk : Nat) (p : Option Addr) (t : Option AvT) (k : ByteArray) (w : World) (hBt : Bt < w.heap.size) (hBk : Bk < w.heap.size) (hn₀ : n₀ ≤ w.heap.size)
    (hct : w.cell? ⟨Bt, 0, none⟩ = some (.pointer p)) (hck : w.cell? ⟨Bk, 0, none⟩ = some (.string k)) (ht : TreeO w (.pointer p) t) (hg : ∀ g, p = some ⟨g, 0, none⟩ → g < n₀) :
    SeqStopsK Fence.wide n Tryz.prog 223 #[.pointer (some ⟨Bt, 0, none⟩), .pointer (some ⟨Bk, 0, none⟩)] (fun x : KV => #[Value.agg (kvC x)]) (Below n₀) (fun ys => ys = (t.map (AvT.vis k)).getD []) (fun pre => pre <+: (t.map (AvT.vis k)).getD []) ((t.map (AvT.vis k)).getD []).length w := fun l J Jx W hW hJ _ hY h0 =>
  pairsC_in l n₀ J Jx k t n W hJ (Nat.le_trans hn₀ hW.size) hY (.pointer p) Bt Bk ((hW.cell (p := ⟨Bt, 0, none⟩) hBt).trans hct) ((hW.cell (p := ⟨Bk, 0, none⟩) hBk).trans hck) (ht.below hW) (fun g e => hg g (by injection e)) h0
set_option maxHeartbeats 2000000 in
theorem range_any (p : Option Addr) (t : Option AvT) (k hi : ByteArray) (w : World) (ht : TreeO w (.pointer p) t) (hm : ((t.map (AvT.vis k)).getD []).length * 32 ≤ 140737488355328) :
    Calls Tryz.prog 109 #[.pointer p, .string k, .string hi] w fun e w' => ∃ v, e = .returned v ∧ w'.ownsRow w.heap.size 70 2 v (rangeO t k hi).length (flatKV (rangeO t k hi)) ∧ Below w.heap.size w w' := by
  refine (callsIn_wide (n := 5)).1 ?_
  have hgl : ∀ g, p = some ⟨g, 0, none⟩ → g < w.heap.size := fun g e => by
    cases t with
    | none => rw [e] at ht; cases ht
    | some t =>
      obtain ⟨g', e', h⟩ := ht
      rw [e] at e'; injection e' with e'; injection e' with e'; injection e' with e'; rw [e']; exact h.lt
  obtain ⟨i0, hif, hz0, hz1, hz2⟩ := info_parts infoKV
  refine callsIn_of_wp_marks Tryz.func109 rfl trivial ?_ rfl
  simp only [Tryz.ntmps109, List.size_toArray, List.length_cons, List.length_nil, Nat.reduceAdd, Nat.reduceSub, Array.replicate_succ, Array.replicate_zero, List.push_toArray, List.append_toArray, List.nil_append, List.cons_append]
  gi_wp2_with (refine ⟨trivial, ?_⟩; gi_at_call 174; (with_reducible refine (pairs_in _ _ _ _).mono ?_); rintro e w' ⟨rfl, rfl⟩)
  have bT := (((Boxed.new w 9 (.string hi)).alloc (.cells #[.slice none 0 0] 89)).alloc (.cells #[.pointer p] 65)).alloc (.cells #[.string k] 9)
  have bL := ((Boxed.new (w.alloc (.cells #[.string hi] 9)) 89 (.slice none 0 0)).alloc (.cells #[.pointer p] 65)).alloc (.cells #[.string k] 9)
  have bP := (Boxed.new ((w.alloc (.cells #[.string hi] 9)).alloc (.cells #[.slice none 0 0] 89)) 65 (.pointer p)).alloc (.cells #[.string k] 9)
  have bK := Boxed.new (((w.alloc (.cells #[.string hi] 9)).alloc (.cells #[.slice none 0 0] 89)).alloc (.cells #[.pointer p] 65)) 9 (.string k)
  simp only [World.size_alloc] at bL bP bK
  have hB0 : Below w.heap.size w ((((w.alloc (.cells #[.string hi] 9)).alloc (.cells #[.slice none 0 0] 89)).alloc (.cells #[.pointer p] 65)).alloc (.cells #[.string k] 9)) := ((((Below.refl _ w).alloc (Nat.le_refl _) _).alloc (by simp) _).alloc (by simp; omega) _).alloc (by simp; omega) _
  have hsz : ((((w.alloc (.cells #[.string hi] 9)).alloc (.cells #[.slice none 0 0] 89)).alloc (.cells #[.pointer p] 65)).alloc (.cells #[.string k] 9)).heap.size = w.heap.size + 4 := by simp
  obtain ⟨W0, hW0⟩ : ∃ W0, (((w.alloc (.cells #[.string hi] 9)).alloc (.cells #[.slice none 0 0] 89)).alloc (.cells #[.pointer p] 65)).alloc (.cells #[.string k] 9) = W0 := ⟨_, rfl⟩
  rw [hW0] at bT bL bP bK hB0 hsz ⊢
  clear hW0
  refine wpIn_rangeFunc_ownH rfl (by omega) (gf := 223) (lb := #[.pointer (some ⟨w.heap.size + 1 + 1, 0, none⟩), .pointer (some ⟨w.heap.size + 1 + 1 + 1, 0, none⟩)]) rfl trivial (enters_of Tryz.func223 (by kernel_rfl) rfl)
    (pairs_stops _ w.heap.size _ _ p t k W0 (by omega) (by omega) (by omega) bP.cell bK.cell (ht.below hB0) hgl) belowK_t (belowK_b (by omega)) (Below.refl _ _) (fun _ => rfl)
    (fun pre W => (((∃ v, Boxed W (w.heap.size + 1) 89 v ∧ W.ownsRow w.heap.size 70 2 v pre.length (flatKV pre) ∧ True) ∧ Boxed W w.heap.size 9 (.string hi)) ∧ (∀ p ∈ pre, upTo hi p = true)) ∧ Below w.heap.size w W)
    (fun c pre W => ((∃ v, Boxed W (w.heap.size + 1) 89 v ∧ W.ownsRow w.heap.size 70 2 v pre.dropLast.length (flatKV pre.dropLast) ∧ True) ∧ (c = .exit 0 ∧ (∀ p ∈ pre.dropLast, upTo hi p = true) ∧ ∃ x, pre = pre.dropLast ++ [x] ∧ upTo hi x = false)) ∧ Below w.heap.size w W)
    (OwnFrom.and (OwnFrom.and (OwnFrom.and (Own.from (holdsRow_own w.heap.size (w.heap.size + 1) 89 70 2 (fun pre : List KV => pre.length) (fun pre => flatKV pre) (fun _ _ => True)) _) (Own.from (boxed_own _ _ _) _)) (ownFrom_pure _ _)) (ownFrom_below (Nat.le_refl _) (by omega)))
    (fun c => OwnFrom.and (OwnFrom.and (Own.from (holdsRow_own w.heap.size (w.heap.size + 1) 89 70 2 (fun pre : List KV => pre.dropLast.length) (fun pre => flatKV pre.dropLast) (fun _ _ => True)) _) (ownFrom_pure _ _)) (ownFrom_below (Nat.le_refl _) (by omega)))
    ⟨⟨⟨⟨_, bL, World.ownsRow_nil _ _ _ _, trivial⟩, bT⟩, fun _ h => by cases h⟩, hB0⟩
    (fun x a' W => ∃ Bx, w.heap.size + 1 < Bx ∧ W.heap[Bx]? = some (.cells (kvC x) 70 (0, 0)) ∧ a' = { tmps := #[.pointer p, .string k, .string hi, undef, undef, .pointer (some ⟨w.heap.size, 0, none⟩), .slice none 0 0, .pointer (some ⟨w.heap.size + 1, 0, none⟩), .pointer (some ⟨Bx, 0, none⟩), .pointer p, .string k, .func (.func 223) #[] #[.pointer (some ⟨w.heap.size + 1 + 1, 0, none⟩), .pointer (some ⟨w.heap.size + 1 + 1 + 1, 0, none⟩)], .agg (kvC x), undef, undef, undef, undef, undef, undef, undef, undef, undef, undef, undef, undef, undef], defers := [] })
    (fun x a' _ X Y row hs hg hr => by obtain ⟨Bx, h1, h2, h3⟩ := hs; exact ⟨Bx, h1, (hg.block Bx (Array.getElem?_eq_some_iff.1 h2).1 (fun e => by obtain ⟨_, o, ho, hc⟩ := hr Bx e.symm; rw [h2] at ho; cases ho; cases hc)).trans h2, h3⟩)
    ?assign ?body ?done ?stop
  case assign =>
    rintro l pre x W K ⟨⟨⟨⟨v, bL1, hrow, -⟩, bT1⟩, hall⟩, hB1⟩ hK
    gi_wp2
    rw [run_storeCells_new W 70 #[.string { data := #[] }, .string { data := #[] }] (kvC x) (by kernel_rfl) rfl (kvC_one x)]
    gi_wp2
    exact hK _ _ ((KeepsOthers.alloc _ _).from _) ((Below.refl _ W).alloc hB1.size _) ⟨⟨⟨⟨v, bL1.alloc _, hrow.alloc _, trivial⟩, bT1.alloc _⟩, hall⟩, hB1.alloc hB1.size _⟩ ⟨W.heap.size, bL1.lt, heap_alloc_new _ _, rfl⟩
  case body =>
    rintro l pre x a' W hl ⟨r, hr⟩ ⟨⟨⟨⟨v, bL1, hrow, -⟩, bT1⟩, hall⟩, hB1⟩ ⟨Bx, hBx, bX, rfl⟩ hlt
    have cT := bT1.cell
    have cL := bL1.cell
    have c0 : W.cell? ⟨Bx, 0, none⟩ = some (.string x.1) := cell_of_row W Bx 0 _ _ _ bX
    have c1 : W.cell? ⟨Bx, 1, none⟩ = some (.string x.2) := cell_of_row W Bx 1 _ _ _ bX
    have hlen : pre.length + 1 ≤ 4398046511104 := by omega
    by_cases he : hi.toList = []
    · have hux : upTo hi x = true := by unfold upTo; rw [he]; rfl
      gi_wp2_with (gi_at_builtin; refine wpListIn_append_own _ rfl _ _ 89 rfl w.heap.size 70 i0 _ 2 32 Tryz.underlying89 hif hz0 hz1 hz2 rfl (by decide) _ _ _ rfl (hrow.alloc _) ⟨W.heap.size, 0, none⟩ 1 1 (flatKV [x]) rfl rfl (fun j u hu => (kv_new W x).cells rfl j u hu) (flatKV_one [x]) (by unfold maxLen; omega) (by omega) (by have := hB1.size; simp; omega) ?_; intro v' w1 hown' hgrow _; obtain ⟨g', cap', rfl⟩ := ownsRow_succ hown'; obtain ⟨hv1, hv2, hr2, hk2, hb2⟩ := bL1.appended (by decide) hrow hB1.size (by omega) hown' hgrow; have hc1 := hv1.cell; have hf1 := hv1.frozen)
      exact ⟨hk2.from _, hb2, ⟨⟨⟨⟨_, hv2, by rw [List.length_append, flatKV_append]; exact hr2, trivial⟩, ((bT1.alloc _).kept hgrow (bT1.not_row (by decide) hrow)).other (by omega) _⟩, fun q hq => by rcases List.mem_append.1 hq with h | h; exact hall q h; rw [List.mem_singleton.1 h]; exact hux⟩, hB1.trans hb2⟩⟩
    · cases h1 : bl x.1 hi with
      | true =>
        have hux : upTo hi x = true := by unfold upTo; rw [h1, Bool.or_true]
        have hk : Op.bytesLess x.1.toList hi.toList = true := h1
        clear h1
        gi_wp2_with (gi_at_builtin; refine wpListIn_append_own _ rfl _ _ 89 rfl w.heap.size 70 i0 _ 2 32 Tryz.underlying89 hif hz0 hz1 hz2 rfl (by decide) _ _ _ rfl (hrow.alloc _) ⟨W.heap.size, 0, none⟩ 1 1 (flatKV [x]) rfl rfl (fun j u hu => (kv_new W x).cells rfl j u hu) (flatKV_one [x]) (by unfold maxLen; omega) (by omega) (by have := hB1.size; simp; omega) ?_; intro v' w1 hown' hgrow _; obtain ⟨g', cap', rfl⟩ := ownsRow_succ hown'; obtain ⟨hv1, hv2, hr2, hk2, hb2⟩ := bL1.appended (by decide) hrow hB1.size (by omega) hown' hgrow; have hc1 := hv1.cell; have hf1 := hv1.frozen)
        exact ⟨hk2.from _, hb2, ⟨⟨⟨⟨_, hv2, by rw [List.length_append, flatKV_append]; exact hr2, trivial⟩, ((bT1.alloc _).kept hgrow (bT1.not_row (by decide) hrow)).other (by omega) _⟩, fun q hq => by rcases List.mem_append.1 hq with h | h; exact hall q h; rw [List.mem_singleton.1 h]; exact hux⟩, hB1.trans hb2⟩⟩
      | false =>
        have hux : upTo hi x = false := by unfold upTo; rw [h1, Bool.or_false]; simpa using he
        have hk : Op.bytesLess x.1.toList hi.toList = false := h1
        clear h1
        have he2 : hi.toList.isEmpty = false := by simpa using he
        gi_wp2
        · exact ⟨KeepsFrom.refl _ _, ⟨⟨v, bL1, by rw [List.dropLast_concat]; exact hrow, trivial⟩, rfl, by rw [List.dropLast_concat]; exact hall, x, by rw [List.dropLast_concat], hux⟩, hB1⟩
        all_goals exact absurd (by assumption) he
  case done =>
    rintro D ys W hD rfl ⟨⟨⟨⟨v, bL1, hrow, -⟩, bT1⟩, hall⟩, hB1⟩ hK
    have hr : rangeO t k hi = (t.map (AvT.vis k)).getD [] := upTo_all hall
    rw [← hr] at hrow
    have cL := bL1.cell
    gi_wp2
    refine ⟨by simp, .inl ⟨_, _, rfl, run_takeDeferred hK, ?_⟩⟩
    exact ⟨_, results_tmp rfl _ _ _, v, rfl, ownsRow_putObj hrow _ hK rfl, hB1.trans (belowK_b (w := w) (Nat.le_refl _) W D _ _ (by omega) hK rfl rfl)⟩
  case stop =>
    rintro D c pre W hD hpre ⟨⟨⟨v, bL1, hrow, -⟩, rfl, hall, x, hx, hux⟩, hB1⟩ hK
    have hr : rangeO t k hi = pre.dropLast := upTo_stop hall hux (by rw [← hx]; exact hpre)
    rw [← hr] at hrow
    have cL := bL1.cell
    gi_wp2
    refine ⟨by simp, .inl ⟨_, _, rfl, run_takeDeferred hK, ?_⟩⟩
    exact ⟨_, results_tmp rfl _ _ _, v, rfl, ownsRow_putObj hrow _ hK rfl, hB1.trans (belowK_b (w := w) (Nat.le_refl _) W D _ _ (by omega) hK rfl rfl)⟩
end Go.Proofs.YtejglhlodfhgkaaGreatDoor
namespace Go.Proofs.YtejglhlodfhgkaaGreatDoor
set_option linter.unusedVariables false
set_option linter.unusedSimpArgs false
open Go.RowKit
set_option maxRecDepth 100000
set_option linter.unusedSimpArgs false
set_option linter.unusedVariables false
theorem visO_eq {t : Option AvT} (h : Srt (pairsO t)) (k : ByteArray) : (t.map (AvT.vis k)).getD [] = (pairsO t).filter fun p => !bl p.1 k := by
  cases t with
  | none => rfl
  | some t => exact vis_eq k t h
theorem take_srt (hi : ByteArray) : ∀ l : List KV, Srt l → l.takeWhile (upTo hi) = l.filter (upTo hi)
  | [], _ => rfl
  | p :: l, h => by
    obtain ⟨h1, h2⟩ := List.pairwise_cons.1 h
    cases e : upTo hi p with
    | true => rw [List.takeWhile_cons, if_pos e, List.filter_cons, if_pos e, take_srt hi l h2]
    | false =>
      rw [List.takeWhile_cons, if_neg (by rw [e]; simp), List.filter_cons, if_neg (by rw [e]; simp)]
      refine (filter_no fun q hq => ?_).symm
      unfold upTo at e ⊢
      simp only [Bool.or_eq_false_iff] at e ⊢
      refine ⟨e.1, Bool.eq_false_iff.2 fun hq2 => ?_⟩
      have := bl_trans (h1 q hq) hq2
      rw [e.2] at this; cases this
theorem range_eq {t : Option AvT} (h : Srt (pairsO t)) (k hi : ByteArray) : rangeO t k hi = (pairsO t).filter fun p => !bl p.1 k && upTo hi p := by
  unfold rangeO
  rw [visO_eq h, take_srt hi _ (h.filter _), List.filter_filter]
  congr 1
  funext p
  rw [Bool.and_comm]
theorem manyO_eq (t : Option AvT) : (pairsO t).length = manyO t := by
  cases t with
  | none => rfl
  | some t => exact AvT.many_eq t
/-- Range as a slice of pairs -/
theorem range_kv (p : Option Addr) (t : Option AvT) (k hi : ByteArray) (w : World) (ht : TreeO w (.pointer p) t) (hs : Srt (pairsO t)) (hm : manyO t ≤ 1048576) :
    Calls Tryz.prog 109 #[.pointer p, .string k, .string hi] w fun e w' => ∃ v, e = .returned v ∧ KVIn w' v (rangeO t k hi) ∧ Below w.heap.size w w' := by
  refine (range_any p t k hi w ht ?_).mono ?_
  · rw [visO_eq hs]
    have := List.length_filter_le (fun p : KV => !bl p.1 k) (pairsO t)
    rw [manyO_eq] at this
    omega
  · rintro e w' ⟨v, rfl, hrow, hb⟩
    exact ⟨v, rfl, KVIn.of_own hrow, hb⟩
end Go.Proofs.YtejglhlodfhgkaaGreatDoor
