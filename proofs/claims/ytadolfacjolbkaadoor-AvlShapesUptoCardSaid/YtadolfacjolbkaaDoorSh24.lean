/- Part 24 of the proof. -/
import Derived.RangeFuncNested
import Derived.RangeFuncBound
import Derived.RangeFuncCalls
import Derived.RangeFuncLeaves
import Derived.Shelf.Abstract
import Derived.Shelf.RegionOpen
import Derived.WalkKit
import Derived.OwnWalkIn
import Derived.TacticsInMore
import Derived.LoopNIn
import Derived.LoopIn
import Derived.Test.YtadolfacjolbkaaDoorSh23
namespace Go.Proofs.YtadolfacjolbkaaDoor
set_option linter.unusedVariables false
set_option linter.unusedSimpArgs false
open Go.RowKit Go.Shelf
set_option maxRecDepth 100000
set_option linter.unusedSimpArgs false
set_option linter.unusedVariables false
attribute [local go_sem] Oper.semAt_some
theorem round_wide {m m' : Nat} {P : Program} {l : Nat} {args : Array Value} {W : World} {R : Ending → World → Prop} (h : YieldAt Fence.wide m P l args W R) : YieldAt Fence.wide m' P l args W R := by
  obtain ⟨fn, tmps, assign, body, hy, hF, hr⟩ := h
  exact ⟨fn, tmps, assign, body, hy, hF, fun c cs _ => hr c cs fun d hd => by cases hd⟩
theorem TreeAt.belowN {w w' : World} {N : Nat} : ∀ {t : AvT} {g : Nat}, TreeAt w g t → g < N → Below N w w' → TreeAt w' g t
  | .leaf k v, g, h, hg, hb => (hb.block g hg).trans h
  | .node a b, g, h, hg, hb => by
    obtain ⟨ga, gb, hl, h, h1, h2⟩ := h
    exact ⟨ga, gb, hl, (hb.block g hg).trans h, h1.belowN (by omega) hb, h2.belowN (by omega) hb⟩
theorem grown_of_below {w w' : World} (h : Below w.heap.size w w') : w.grownBy w' none := ⟨h.os, h.tape, h.output, h.size, fun k hk _ => h.block k hk⟩
theorem below_le {w w' : World} {A B : Nat} (h : Below A w w') (hB : B ≤ A) : Below B w w' := ⟨h.os, h.tape, h.output, h.size, fun k hk => h.block k (by omega)⟩
/-- what a round of the loop answers the iterator -/
def GoesOn (n₀ : Nat) (J Jx : List KV → World → Prop) (pre : List KV) (x : KV) (W : World) (e : Ending) (W' : World) : Prop :=
  (e = .returned (.bool true) ∧ J (pre ++ [x]) W' ∧ Below n₀ W W') ∨ (e = .returned (.bool false) ∧ Jx (pre ++ [x]) W')
/-- what visit answers -/
def Visited (n₀ : Nat) (J Jx : List KV → World → Prop) (pre xs : List KV) (W : World) (e : Ending) (W' : World) : Prop :=
  (e = .returned (.bool true) ∧ J (pre ++ xs) W' ∧ Below n₀ W W') ∨ (e = .returned (.bool false) ∧ ∃ q, q <+: xs ∧ Jx (pre ++ q) W')
theorem visit_leaf (l n₀ N B : Nat) (hB : n₀ ≤ B) (J Jx : List KV → World → Prop) (hJ : AbidesFrom B J) (k : ByteArray)
    (hY : ∀ m pre x W, J pre W → pre.length < N → YieldAt Fence.wide m Tryd.prog l #[.agg (kvC x)] W (GoesOn n₀ J Jx pre x W)) (k0 v0 : ByteArray)
    (n g : Nat) (pre : List KV) (W : World) (ht : TreeAt W g (.leaf k0 v0)) (hn : n₀ ≤ W.heap.size) (h0 : J pre W) (hN : pre.length + ((AvT.leaf k0 v0).vis k).length ≤ N) :
    CallsIn Fence.wide n Tryd.prog 62 #[.pointer (some ⟨g, 0, none⟩), .string k, .func (.yield l) #[] #[]] W (Visited n₀ J Jx pre ((AvT.leaf k0 v0).vis k) W) := by
  have HL := Lib.hid (len_some W ht)
  have c0 := ht.least
  rw [show (AvT.leaf k0 v0).least = k0 from rfl] at c0
  have HP := Lib.hid (fun m (hl : pre.length < N) => (callsIn_wide (n := m)).2 ((pair_any g _ W ht).mono (R' := fun e W1 => e = .returned (.agg (kvC (k0, v0))) ∧ Below W.heap.size W W1 ∧ YieldAt Fence.wide m Tryd.prog l #[.agg (kvC (k0, v0))] W1 (GoesOn n₀ J Jx pre (k0, v0) W1))
    fun e W1 h => ⟨h.1, h.2, hY m pre (k0, v0) W1 (hJ pre W W1 none h0 (grown_of_below h.2) (fun r e => by cases e)) hl⟩))
  cases h1 : bl k0 k with
  | true =>
    have hv : (AvT.leaf k0 v0).vis k = [] := by unfold AvT.vis; rw [if_pos h1]
    rw [hv]
    have hk : Op.bytesLess k0.toList k.toList = true := h1
    clear h1 hv HP hY hJ ht hN
    refine callsIn_of_wp Tryd.func62 rfl trivial ?_ rfl
    simp only [Tryd.ntmps62, List.size_toArray, List.length_cons, List.length_nil, Nat.reduceAdd, Nat.reduceSub, Array.replicate_succ, Array.replicate_zero, List.push_toArray, List.append_toArray, List.nil_append, List.cons_append]
    gi_wp2_with (first
      | (refine ⟨trivial, fun h => (by cases h), ?_⟩; gi_at_call 14; (with_reducible refine (callsIn_wide.2 HL.out).mono ?_); rw [show ((AvT.leaf k0 v0).many : Int) = 1 from rfl]; rintro e w' ⟨rfl, rfl⟩))
    refine ⟨trivial, ?_⟩
    gi_wp2
    refine ⟨fun _ h => (by cases h), ?_⟩
    gi_wp2
    go_ret
    exact .inl ⟨rfl, by rw [List.append_nil]; exact h0, Below.refl _ _⟩
  | false =>
    have hv : (AvT.leaf k0 v0).vis k = [(k0, v0)] := by unfold AvT.vis; rw [if_neg (by rw [h1]; simp)]
    rw [hv] at hN ⊢
    have hl : pre.length < N := by simp only [List.length_cons, List.length_nil] at hN; omega
    have hk : Op.bytesLess k0.toList k.toList = false := h1
    have HP2 := Lib.hid (fun m => HP.out m hl)
    clear h1 hv HP hY hJ ht hN hl h0
    refine callsIn_of_wp Tryd.func62 rfl trivial ?_ rfl
    simp only [Tryd.ntmps62, List.size_toArray, List.length_cons, List.length_nil, Nat.reduceAdd, Nat.reduceSub, Array.replicate_succ, Array.replicate_zero, List.push_toArray, List.append_toArray, List.nil_append, List.cons_append]
    gi_wp2_with (first
      | (refine ⟨trivial, fun h => (by cases h), ?_⟩; gi_at_call 14; (with_reducible refine (callsIn_wide.2 HL.out).mono ?_); rw [show ((AvT.leaf k0 v0).many : Int) = 1 from rfl]; rintro e w' ⟨rfl, rfl⟩)
      | (refine ⟨trivial, fun h => (by cases h), ?_⟩; gi_at_call 86; (with_reducible refine (HP2.out _).mono ?_); rintro e w1 ⟨rfl, hb, fn, tmps, assign, body, hy, hR⟩; have HB := Lib.hid hb; clear hb)
      | ((try refine ⟨fun h => (by cases h), ?_⟩); refine hR.mono ?_; rintro e w2 (⟨rfl, hJ2, hb2⟩ | ⟨rfl, hx2⟩)))
    · go_ret
      exact .inl ⟨rfl, hJ2, (below_le HB.out hn).trans hb2⟩
    · go_ret
      exact .inr ⟨rfl, _, List.prefix_rfl, hx2⟩
theorem visit_nil (l : Nat) (k : ByteArray) (n : Nat) (W : World) : CallsIn Fence.wide n Tryd.prog 62 #[.pointer none, .string k, .func (.yield l) #[] #[]] W fun e W' => e = .returned (.bool true) ∧ W = W' := by
  refine callsIn_of_wp Tryd.func62 rfl trivial ?_ rfl
  simp only [Tryd.ntmps62, List.size_toArray, List.length_cons, List.length_nil, Nat.reduceAdd, Nat.reduceSub, Array.replicate_succ, Array.replicate_zero, List.push_toArray, List.append_toArray, List.nil_append, List.cons_append]
  gi_wp2_with (first
    | (refine ⟨trivial, fun h => (by cases h), ?_⟩; gi_at_call 14; (with_reducible refine (callsIn_wide.2 (len_nil _)).mono ?_); rintro e w' ⟨rfl, rfl⟩))
  go_ret
  exact ⟨rfl, rfl⟩
set_option maxHeartbeats 2000000 in
theorem visit_in (l n₀ N B : Nat) (hB : n₀ ≤ B) (J Jx : List KV → World → Prop) (hJ : AbidesFrom B J) (k : ByteArray)
    (hY : ∀ m pre x W, J pre W → pre.length < N → YieldAt Fence.wide m Tryd.prog l #[.agg (kvC x)] W (GoesOn n₀ J Jx pre x W)) :
    ∀ (t : AvT) (n g : Nat) (pre : List KV) (W : World), TreeAt W g t → g < n₀ → n₀ ≤ W.heap.size → J pre W → pre.length + (t.vis k).length ≤ N →
    CallsIn Fence.wide n Tryd.prog 62 #[.pointer (some ⟨g, 0, none⟩), .string k, .func (.yield l) #[] #[]] W (Visited n₀ J Jx pre (t.vis k) W) := by
  intro t
  induction t with
  | leaf k0 v0 => intro n g pre W ht hg hn h0 hN; exact visit_leaf l n₀ N B hB J Jx hJ k hY k0 v0 n g pre W ht hn h0 hN
  | node a b iha ihb =>
    intro n g pre W ht hg hn h0 hN
    have HL := Lib.hid (len_some W ht)
    obtain ⟨ga, gb, l1, l2, k1, k2, ha, hb⟩ := ht.kidsL
    have c0 := hb.least
    have h2m : 2 ≤ (AvT.node a b).many := by have := a.many_pos; have := b.many_pos; simp only [AvT.many]; omega
    obtain ⟨m, hmm⟩ : ∃ m, m = (AvT.node a b).many := ⟨_, rfl⟩
    rw [← hmm] at HL h2m
    have hm0 : ((m : Int) == 0) = false := by rw [beq_eq_false_iff_ne]; omega
    have hm1 : ((m : Int) == 1) = false := by rw [beq_eq_false_iff_ne]; omega
    cases h2 : bl k b.least with
    | true =>
      have hv : (AvT.node a b).vis k = a.vis k ++ b.vis k := by rw [AvT.vis, if_pos h2]
      rw [hv] at hN ⊢
      rw [List.length_append] at hN
      have HA := Lib.hid (fun m => (iha m ga pre W ha (by omega) hn h0 (by omega)).mono (R' := fun e W1 =>
        (e = .returned (.bool true) ∧ W1.cell? ⟨g, 37, none⟩ = some (.pointer (some ⟨gb, 0, none⟩)) ∧ Hid (∀ m, CallsIn Fence.wide m Tryd.prog 62 #[.pointer (some ⟨gb, 0, none⟩), .string k, .func (.yield l) #[] #[]] W1 (Visited n₀ J Jx pre (a.vis k ++ b.vis k) W))) ∨
        (e = .returned (.bool false) ∧ Visited n₀ J Jx pre (a.vis k ++ b.vis k) W e W1)) fun e W1 h => h.elim
          (fun ⟨he, hj, hb1⟩ => .inl ⟨he, (hb1.cell (p := ⟨g, 37, none⟩) hg).trans k2, Lib.hid fun m => (ihb m gb (pre ++ a.vis k) W1 (hb.belowN (by omega) hb1) (by omega) (Nat.le_trans hn hb1.size) hj (by rw [List.length_append]; omega)).mono fun e W2 h => h.elim
            (fun ⟨he, hj2, hb2⟩ => .inl ⟨he, by rw [← List.append_assoc]; exact hj2, hb1.trans hb2⟩)
            (fun ⟨he, q, hq, hx⟩ => .inr ⟨he, a.vis k ++ q, (List.prefix_append_right_inj _).2 hq, by rw [← List.append_assoc]; exact hx⟩)⟩)
          (fun ⟨he, q, hq, hx⟩ => .inr ⟨he, .inr ⟨he, q, hq.trans (List.prefix_append _ _), hx⟩⟩))
      have hl : Op.bytesLess k.toList b.least.toList = true := h2
      clear h2 hmm hv ha hb iha ihb hY hJ h0 hN h2m ht
      refine callsIn_of_wp Tryd.func62 rfl trivial ?_ rfl
      simp only [Tryd.ntmps62, List.size_toArray, List.length_cons, List.length_nil, Nat.reduceAdd, Nat.reduceSub, Array.replicate_succ, Array.replicate_zero, List.push_toArray, List.append_toArray, List.nil_append, List.cons_append]
      gi_wp2_with (first
        | (refine ⟨trivial, fun h => (by cases h), ?_⟩; gi_at_call 14; (with_reducible refine (callsIn_wide.2 HL.out).mono ?_); rintro e w' ⟨rfl, rfl⟩)
        | (refine ⟨trivial, fun h => (by cases h), ?_⟩; gi_at_call 62; (with_reducible refine (HA.out _).mono ?_); clear HA; rintro e w1 (⟨rfl, k3, HB⟩ | ⟨rfl, hx1⟩))
        | (refine ⟨trivial, fun h => (by cases h), ?_⟩; gi_at_call 62; (with_reducible refine (HB.out _).mono ?_); clear HB; rintro e w2 hx2; have hx3 := hx2; rcases hx2 with ⟨rfl, -⟩ | ⟨rfl, -⟩))
      · go_ret
        exact hx3
      · go_ret
        exact hx3
      · go_ret
        exact hx1
    | false =>
      have hv : (AvT.node a b).vis k = b.vis k := by rw [AvT.vis, if_neg (by rw [h2]; simp)]
      rw [hv] at hN ⊢
      have HB := Lib.hid (fun m => ihb m gb pre W hb (by omega) hn h0 hN)
      have hl : Op.bytesLess k.toList b.least.toList = false := h2
      clear h2 hmm hv ha hb iha ihb hY hJ h0 hN h2m ht
      refine callsIn_of_wp Tryd.func62 rfl trivial ?_ rfl
      simp only [Tryd.ntmps62, List.size_toArray, List.length_cons, List.length_nil, Nat.reduceAdd, Nat.reduceSub, Array.replicate_succ, Array.replicate_zero, List.push_toArray, List.append_toArray, List.nil_append, List.cons_append]
      gi_wp2_with (first
        | (refine ⟨trivial, fun h => (by cases h), ?_⟩; gi_at_call 14; (with_reducible refine (callsIn_wide.2 HL.out).mono ?_); rintro e w' ⟨rfl, rfl⟩))
      refine ⟨trivial, ?_⟩
      gi_wp2_with (first
        | (refine ⟨trivial, fun h => (by cases h), ?_⟩; gi_at_call 62; (with_reducible refine (HB.out _).mono ?_); clear HB; rintro e w2 hx2; have hx3 := hx2; rcases hx2 with ⟨rfl, -⟩ | ⟨rfl, -⟩))
      · go_ret
        exact hx3
      · go_ret
        exact hx3
/-- the loop function of pairs -/
theorem pairsC_in (l n₀ : Nat) (J Jx : List KV → World → Prop) (k : ByteArray) (t : Option AvT) (n : Nat) (W : World) (hJ : AbidesFrom W.heap.size J) (hn : n₀ ≤ W.heap.size)
    (hY : ∀ pre x W, J pre W → pre.length < ((t.map (AvT.vis k)).getD []).length → YieldAt Fence.wide (n - 1) Tryd.prog l #[.agg (kvC x)] W (GoesOn n₀ J Jx pre x W))
    (va : Value) (Bt Bk : Nat) (hBt : W.cell? ⟨Bt, 0, none⟩ = some va) (hBk : W.cell? ⟨Bk, 0, none⟩ = some (.string k)) (ht : TreeO W va t) (hg : ∀ g, va = .pointer (some ⟨g, 0, none⟩) → g < n₀) (h0 : J [] W) :
    CallsIn Fence.wide n Tryd.prog 61 #[.func (.yield l) #[] #[], .pointer (some ⟨Bt, 0, none⟩), .pointer (some ⟨Bk, 0, none⟩)] W fun e W' => (∃ v, e = .returned v) ∧
      ((∃ ys, ys = (t.map (AvT.vis k)).getD [] ∧ J ys W') ∨ (∃ pre, pre <+: (t.map (AvT.vis k)).getD [] ∧ Jx pre W')) := by
  have HV : ∀ m, CallsIn Fence.wide m Tryd.prog 62 #[va, .string k, .func (.yield l) #[] #[]] W fun e W' => (∃ v, e = .returned v) ∧
      ((∃ ys, ys = (t.map (AvT.vis k)).getD [] ∧ J ys W') ∨ (∃ pre, pre <+: (t.map (AvT.vis k)).getD [] ∧ Jx pre W')) := fun m => by
    cases t with
    | none =>
      cases ht
      refine (visit_nil l k m W).mono ?_
      rintro e W' ⟨rfl, rfl⟩
      exact ⟨⟨_, rfl⟩, .inl ⟨_, rfl, h0⟩⟩
    | some t =>
      obtain ⟨g, rfl, ht⟩ := ht
      refine (visit_in l n₀ (t.vis k).length W.heap.size hn J Jx hJ k (fun m pre x W hj hl => round_wide (hY pre x W hj hl)) t m g [] W ht (hg g rfl) hn h0 (by simp)).mono ?_
      rintro e W' (⟨rfl, h, -⟩ | ⟨rfl, q, hq, h⟩)
      · exact ⟨⟨_, rfl⟩, .inl ⟨_, rfl, h⟩⟩
      · exact ⟨⟨_, rfl⟩, .inr ⟨q, hq, h⟩⟩
  have HV2 := Lib.hid HV
  clear HV hY hJ ht hg h0
  refine callsIn_of_wp Tryd.func61 rfl trivial ?_ rfl
  simp only [Tryd.ntmps61, List.size_toArray, List.length_cons, List.length_nil, Nat.reduceAdd, Nat.reduceSub, Array.replicate_succ, Array.replicate_zero, List.push_toArray, List.append_toArray, List.nil_append, List.cons_append]
  gi_wp2_with (refine ⟨trivial, fun h => (by cases h), ?_⟩; gi_at_call 62; (with_reducible refine (HV2.out _).mono ?_); clear HV2; rintro e W1 ⟨⟨v, rfl⟩, hx⟩)
  go_end0
  exact ⟨⟨_, rfl⟩, hx⟩
theorem pairs_in (p : Option Addr) (k : ByteArray) (n : Nat) (w : World) :
    CallsIn Fence.wide n Tryd.prog 37 #[.pointer p, .string k] w fun e w' => e = .returned (.func (.func 61) #[] #[.pointer (some ⟨w.heap.size, 0, none⟩), .pointer (some ⟨w.heap.size + 1, 0, none⟩)]) ∧ w' = (w.alloc (.cells #[.pointer p] 26)).alloc (.cells #[.string k] 9) := by
  refine callsIn_of_wp Tryd.func37 rfl trivial ?_ rfl
  simp only [Tryd.ntmps37, List.size_toArray, List.length_cons, List.length_nil, Nat.reduceAdd, Nat.reduceSub, Array.replicate_succ, Array.replicate_zero, List.push_toArray, List.append_toArray, List.nil_append, List.cons_append]
  gi_wp2
  go_ret
  exact ⟨rfl, rfl⟩
end Go.Proofs.YtadolfacjolbkaaDoor
