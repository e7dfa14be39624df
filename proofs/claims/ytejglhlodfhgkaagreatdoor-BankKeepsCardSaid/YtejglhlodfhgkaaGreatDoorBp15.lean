/- Part 15 of the proof. -/
import Derived.Maps.OwnSet
import Derived.DeepKeys5
import Derived.ChangeKeysEq
import Derived.Test.YtejglhlodfhgkaaGreatDoorBp1
import Derived.Test.YtejglhlodfhgkaaGreatDoorBp2
import Derived.Test.YtejglhlodfhgkaaGreatDoorBp5
import Derived.Test.YtejglhlodfhgkaaGreatDoorBp6
import Derived.Test.YtejglhlodfhgkaaGreatDoorBp7
import Derived.Test.YtejglhlodfhgkaaGreatDoorBp11
import Derived.Test.YtejglhlodfhgkaaGreatDoorBp14
namespace Go.Proofs.YtejglhlodfhgkaaGreatDoor
set_option linter.unusedVariables false
set_option linter.unusedSimpArgs false
open Go.RowKit
set_option maxRecDepth 100000
/-- Hash -/
def hashS (s : RSt) : (Nat → Int) × RSt :=
  match s.2 with
  | some _ => (fun _ => 0, s)
  | none => if s.1.length < 32 then (fun _ => 0, s.1, some 12) else (fun i => s.1.getD i 0, s.1.drop 32, none)
theorem hashS_err (ys : List Int) (x : Nat) : hashS (ys, some x) = (fun _ => 0, ys, some x) := rfl
theorem hashS_short {ys : List Int} (h : ys.length < 32) : hashS (ys, none) = (fun _ => 0, ys, some 12) := by unfold hashS; simp only [if_pos h]
theorem hashS_long {ys : List Int} (h : ¬ ys.length < 32) : hashS (ys, none) = (fun i => ys.getD i 0, ys.drop 32, none) := by unfold hashS; simp only [if_neg h]
theorem Only.behind {p g : Nat} {w w' : World} (h : Only p w w') (hg : w.heap.size ≤ g) (cs : Array Value) : Only p w (w'.setRow g cs) :=
  ⟨h.os, h.tape, h.output, by simp [World.setRow]; exact h.size, fun k hk hp => (setRow_other w' g k cs (by omega)).trans (h.block k hk hp)⟩
theorem wp_copy_at {P : Program} (w : World) {o : Oper} {a : Act} {K : Act → World → Prop} {Q : Exit → Act → World → Prop} (d s : Operand) (t t' : TypeId) {ty : TypeId}
    (ho : o.op = .call { callee := .builtin .copy, args := #[d, s], argTypes := #[t, t'] }) (hty : o.type = ty) (v u : Value) (hd : a.eval d = v) (hs : a.eval s = u) {v' : Value} {w' : World}
    (hr : (Builtin.copy_ #[t, t'] ty #[v, u]).run P w = .ok v' w') (h : K (a.put o.dst v') w') : o.wp P a w K Q := by
  unfold Oper.wp execOp
  simp only [ho, hty, resolve, invoke, builtin, Sem.run_bind, Sem.run_pure, Result.andThen_ok, List.map_toArray, List.map_cons, List.map_nil, hd, hs, hr]
  exact h
theorem copied32 (f : Nat → Int) (ys : List Int) (h : ¬ ys.length < 32) :
    ((rowOf .u8 32 f).toList.take 0 ++ byteVals (ys.take 32) ++ (rowOf .u8 32 f).toList.drop (0 + (byteVals (ys.take 32)).length)).toArray = rowOf .u8 32 (fun i => ys.getD i 0) := by
  have hl : (ys.take 32).length = 32 := by rw [List.length_take]; omega
  have hd : (rowOf .u8 32 f).toList.drop (0 + (byteVals (ys.take 32)).length) = [] := by
    apply List.drop_eq_nil_of_le
    rw [byteVals_length, hl, Array.length_toList, rowOf_size]; omega
  rw [hd, List.take_zero, List.nil_append, List.append_nil]
  unfold rowOf byteVals
  congr 1
  apply List.ext_getElem
  · simp only [List.length_map, List.length_range, hl]
  · intro i h1 h2
    simp only [List.length_map, hl] at h1
    have h3 : i < ys.length := by omega
    simp [List.getD, List.getElem?_eq_getElem h3]
theorem zerosPk : (#[Value.int IntKind.u8 0, Value.int IntKind.u8 0, Value.int IntKind.u8 0, Value.int IntKind.u8 0, Value.int IntKind.u8 0, Value.int IntKind.u8 0, Value.int IntKind.u8 0, Value.int IntKind.u8 0, Value.int IntKind.u8 0, Value.int IntKind.u8 0, Value.int IntKind.u8 0, Value.int IntKind.u8 0, Value.int IntKind.u8 0, Value.int IntKind.u8 0, Value.int IntKind.u8 0, Value.int IntKind.u8 0, Value.int IntKind.u8 0, Value.int IntKind.u8 0, Value.int IntKind.u8 0, Value.int IntKind.u8 0, Value.int IntKind.u8 0, Value.int IntKind.u8 0, Value.int IntKind.u8 0, Value.int IntKind.u8 0, Value.int IntKind.u8 0, Value.int IntKind.u8 0, Value.int IntKind.u8 0, Value.int IntKind.u8 0, Value.int IntKind.u8 0, Value.int IntKind.u8 0, Value.int IntKind.u8 0, Value.int IntKind.u8 0] : Array Value) = rowOf .u8 32 (fun _ => 0) := by rfl
set_option maxRecDepth 100000 in
set_option maxHeartbeats 1000000 in
theorem rhash_any (p : Nat) (s : RSt) (w : World) (h : RS w p s) :
    Calls Tryz.prog 92 #[.pointer (some ⟨p, 0, none⟩)] w fun r w' => r = .returned (.agg (rowOf .u8 32 (hashS s).1)) ∧ RS w' p (hashS s).2 ∧ Only p w w' := by
  obtain ⟨ys, e⟩ := s
  obtain ⟨y, h⟩ := h
  change RAt w p y ys e at h
  have HB := Lib.hid ((below_alloc w (.cells (rowOf .u8 32 (fun _ => 0)) 53)).trans ((below_alloc (w.alloc (.cells (rowOf .u8 32 (fun _ => 0)) 53)) (.cells (rowOf .u8 32 (fun _ => 0)) 53)).mono (by simp)))
  have HR := h.below HB.out
  have HQ1 := (RowAt.new w .u8 32 53 (fun _ => 0)).alloc (.cells (rowOf .u8 32 (fun _ => 0)) 53)
  have HQ2 := RowAt.new (w.alloc (.cells (rowOf .u8 32 (fun _ => 0)) 53)) .u8 32 53 (fun _ => 0)
  rw [size_alloc] at HQ2
  have HP : p < w.heap.size := h.lt
  have H0 := Lib.hid h
  replace HR := Lib.hid HR
  replace HQ1 := Lib.hid HQ1
  replace HQ2 := Lib.hid HQ2
  clear h
  go_enter Tryz.func92, Tryz.ntmps92
  go_upto_region 2 with (fail)
  rw [zerosPk]
  generalize (w.alloc (.cells (rowOf .u8 32 (fun _ => 0)) 53)).alloc (.cells (rowOf .u8 32 (fun _ => 0)) 53) = w1 at *
  have HE := Lib.hid (err_any p y ys e w1 HR.out)
  have hc0 := HR.out.cell0
  have hc1 := HR.out.cell1
  have hf := HR.out.free 1
  obtain ⟨a, c, rfl, hle⟩ := HR.out.wide
  have HLE := Lib.hid hle
  clear hle
  cases e with
  | some x =>
    simp only [errV] at HE hc1
    go_wp2_with (first
      | (go_at_call 137; (with_reducible refine HE.out.mono ?_); rintro e w2 ⟨rfl, rfl⟩)
      | (refine wpList_load_row rfl 53 (.tmp 3) rfl (w.heap.size + 1) rfl 53 _ (0, 0) _ HQ2.out Tryz.underlying53 rfl (by rw [rowOf_size]; kernel_rfl) ?_)
      | (refine wpList_store_row rfl 53 (.tmp 2) (.tmp 7) rfl w.heap.size _ rfl rfl 53 _ HQ1.out (by rw [rowOf_size]; kernel_rfl) (by simp only [rowOf_size]) (rowOf_one _ _ _) ?_))
    refine bodyPost_ret (results_cell_row rfl _ _ w.heap.size 53 (rowOf .u8 32 (fun _ => 0)) (0, 0) _ rfl (setRow_heap _ _ _ _ _ _ HQ1.out) Tryz.underlying53 rfl (by rw [rowOf_size]; kernel_rfl)) rfl ?_
    rw [hashS_err]
    exact ⟨rfl, ⟨_, H0.out.below (below_setRow HB.out (Nat.le_refl _) _)⟩, Only.of_below (below_setRow HB.out (Nat.le_refl _) _)⟩
  | none =>
    simp only [errV] at HE hc1
    by_cases hs : ys.length < 32
    · have HS := Lib.hid (hashS_short hs)
      have hs1 : (ys.length : Int) < 32 := by omega
      have HW := Lib.hid (HR.out.err (some 12))
      have HQ2' := Lib.hid (HQ2.out.other ⟨p, 1, none⟩ (errV (some 12)) (show w.heap.size + 1 ≠ p by omega))
      have HQ1' := Lib.hid (HQ1.out.other ⟨p, 1, none⟩ (errV (some 12)) (show w.heap.size ≠ p by omega))
      have HO := Lib.hid ((Only.of_below HB.out).trans (Only.setCell w1 ⟨p, 1, none⟩ (errV (some 12))))
      simp only [errV] at HW HQ1' HQ2' HO
      clear HQ1 HQ2
      go_wp2_with (first
        | (go_at_call 137; (with_reducible refine HE.out.mono ?_); rintro e w2 ⟨rfl, rfl⟩)
        | (refine wpList_load_row rfl 53 (.tmp 3) rfl (w.heap.size + 1) rfl 53 _ (0, 0) _ HQ2'.out Tryz.underlying53 rfl (by rw [rowOf_size]; kernel_rfl) ?_)
        | (refine wpList_store_row rfl 53 (.tmp 2) (.tmp 18) rfl w.heap.size _ rfl rfl 53 _ HQ1'.out (by rw [rowOf_size]; kernel_rfl) (by simp only [rowOf_size]) (rowOf_one _ _ _) ?_))
      refine bodyPost_ret (results_cell_row rfl _ _ w.heap.size 53 (rowOf .u8 32 (fun _ => 0)) (0, 0) _ rfl (setRow_heap _ _ _ _ _ _ HQ1'.out) Tryz.underlying53 rfl (by rw [rowOf_size]; kernel_rfl)) rfl ?_
      rw [HS.out]
      refine ⟨rfl, ⟨_, HW.out.keep (setRow_other _ _ _ _ (by omega)) fun hn k hk => setRow_other _ _ _ _ ?_⟩, HO.out.behind (Nat.le_refl _) _⟩
      have := H0.out.own_lt hn k hk; omega
    · have hs1 : ¬ (ys.length : Int) < 32 := by omega
      have HS := Lib.hid (hashS_long hs)
      go_upto_region 7 with (go_at_call 137; (with_reducible refine HE.out.mono ?_); rintro e w2 ⟨rfl, rfl⟩)
      obtain ⟨w3, hw3⟩ : ∃ w3, w3 = w2.drew := ⟨_, rfl⟩
      have HR3 := Lib.hid (show RAt w3 p (.slice a ys.length c) ys none by rw [hw3]; exact HR.out.keep rfl fun _ _ _ => rfl)
      have HQ13 := Lib.hid (show RowAt w3 w.heap.size .u8 32 53 (fun _ => 0) by rw [hw3]; exact HQ1.out)
      have HQ23 := Lib.hid (show RowAt w3 (w.heap.size + 1) .u8 32 53 (fun _ => 0) by rw [hw3]; exact HQ2.out)
      have HO3 := Lib.hid (show Only p w w3 by rw [hw3]; exact (Only.of_below HB.out).trans (Only.drew _ _))
      refine wp_region_any (by kernel_rfl) ?_
      change wpAny _ _ _ _ _ _ _ w2.drew
      rw [← hw3]
      clear hw3
      refine wpAny_take (i := 0) (v := .slice (some ⟨w.heap.size + 1, 0, none⟩) 32 32) rfl (by kernel_rfl) (by kernel_rfl) (by kernel_rfl) (fun _ _ _ h => h) (Or.inl ⟨by rfl, by intro w; go_simp⟩) ?_
      try simp only [List.getElem_toArray, List.getElem_cons_zero, Act.put, List.setIfInBounds_toArray, List.set_cons_zero, List.set_cons_succ]
      refine wpAny_take (i := 1) (v := .pointer (some ⟨p, 0, none⟩)) rfl (by kernel_rfl) (by kernel_rfl) (by kernel_rfl) (fun _ _ _ h => h) (Or.inl ⟨by rfl, by intro w; go_simp⟩) ?_
      try simp only [List.getElem_toArray, List.getElem_cons_succ, List.getElem_cons_zero, Act.put, List.setIfInBounds_toArray, List.set_cons_zero, List.set_cons_succ]
      refine wpAny_ready (rs := [2]) (by kernel_rfl) (by simp) ?_; refine AllReady.cons rfl (fun K hK => ?_) AllReady.nil; rw [if_pos (by rfl)]
      try simp only [List.getElem_toArray, List.getElem_cons_succ, List.getElem_cons_zero]
      go_simp
      have ht := take_any p _ ys none 32 w3 HR3.out (by omega)
      rw [show ((32 : Nat) : Int) = 32 from rfl] at ht
      refine ht.mono ?_
      rintro e w4 ⟨a1, c1, y1, rfl, hi1, hn1, hr1, ho1, hy1⟩
      have hl32 : (ys.take 32).length = 32 := by rw [List.length_take]; omega
      obtain ⟨a1', c1', e1, _, _, hx1⟩ := hi1
      rw [hl32] at e1
      injection e1 with e1 _ e3
      subst e1 e3
      obtain ⟨ab, ao, rfl, hx2⟩ := hx1.resolve_left (by intro h0; rw [h0] at hl32; simp at hl32)
      clear hx1 hn1
      refine hK _ _ ?_
      clear hK K
      try simp only [List.getElem_toArray, List.getElem_cons_succ, List.getElem_cons_zero, Act.put, List.setIfInBounds_toArray, List.set_cons_zero, List.set_cons_succ]
      refine wpAny_ready (rs := [3]) (by kernel_rfl) (by simp) ?_; refine AllReady.cons rfl (fun K hK => ?_) AllReady.nil; rw [if_pos (by rfl)]
      try simp only [List.getElem_toArray, List.getElem_cons_succ, List.getElem_cons_zero]
      have hq4 : RowAt w4 (w.heap.size + 1) .u8 32 53 (fun _ => 0) := (ho1.block _ HQ23.out.lt (by omega)).trans HQ23.out
      have hq5 : RowAt w4 w.heap.size .u8 32 53 (fun _ => 0) := (ho1.block _ HQ13.out.lt (by omega)).trans HQ13.out
      have hcp := run_copy_row (P := Tryz.prog) w4 25 25 3 5 (w.heap.size + 1) 0 32 32 ⟨ab, ao, none⟩ 32 c1 _ 53 (byteVals (ys.take 32)) Tryz.underlying25 (by kernel_rfl) hq4 (by rw [byteVals_length, hl32]; rfl) (fun j v hv => by
          rw [Addr.add_mid]
          simp only [byteVals, List.getElem?_map] at hv
          cases hj : (ys.take 32)[j]? with
          | none => rw [hj] at hv; cases hv
          | some x => rw [hj] at hv; cases hv; exact hx2 j x hj) (by rw [byteVals_length, hl32, rowOf_size]; omega) (byteVals_one _)
      rw [copied32 _ ys hs] at hcp
      have HQ2 : Hid (RowAt (w4.setRow (w.heap.size + 1) (rowOf .u8 32 (fun i => ys.getD i 0))) (w.heap.size + 1) .u8 32 53 (fun i => ys.getD i 0)) := Lib.hid (setRow_heap _ _ _ _ _ _ hq4)
      have HQ1 : Hid (RowAt (w4.setRow (w.heap.size + 1) (rowOf .u8 32 (fun i => ys.getD i 0))) w.heap.size .u8 32 53 (fun _ => 0)) := Lib.hid ((setRow_other _ _ _ _ (by omega)).trans hq5)
      have hne : ∀ g, w.heap.size ≤ g → ys.drop 32 ≠ [] → ∀ k, y1.ownBlock = some k → k ≠ g := fun g hg hn k hk => by
        rw [hy1] at hk
        have := H0.out.own_lt (by rintro rfl; simp at hn) k hk
        omega
      have HW := Lib.hid (show RAt (w4.setRow (w.heap.size + 1) (rowOf .u8 32 (fun i => ys.getD i 0))) p y1 (ys.drop 32) none from
        hr1.keep (setRow_other _ _ _ _ (by omega)) fun hn k hk => setRow_other _ _ _ _ (hne _ (Nat.le_succ _) hn k hk))
      have HO := Lib.hid ((HO3.out.trans ho1).behind (g := w.heap.size + 1) (Nat.le_succ _) (rowOf .u8 32 (fun i => ys.getD i 0)))
      refine wp_copy_at w4 (.tmp 19) (.tmp 21) 25 25 rfl rfl _ _ rfl rfl hcp ?_
      clear hcp hq4 hq5 hr1 ho1 hx2 HQ13 HQ23 HR3 HO3 ht
      generalize w4.setRow (w.heap.size + 1) (rowOf .u8 32 (fun i => ys.getD i 0)) = w5 at *
      refine hK _ _ ?_
      clear hK K
      try simp only [Act.put, List.setIfInBounds_toArray, List.set_cons_zero, List.set_cons_succ]
      refine wpAny_done (by kernel_rfl) ?_ _
      go_wp2_with (first
        | (refine wpList_load_row rfl 53 (.tmp 3) rfl (w.heap.size + 1) rfl 53 _ (0, 0) _ HQ2.out Tryz.underlying53 rfl (by rw [rowOf_size]; kernel_rfl) ?_)
        | (refine wpList_store_row rfl 53 (.tmp 2) (.tmp 23) rfl w.heap.size _ rfl rfl 53 _ HQ1.out (by rw [rowOf_size]; kernel_rfl) (by simp only [rowOf_size]) (rowOf_one _ _ _) ?_))
      refine bodyPost_ret (results_cell_row rfl _ _ w.heap.size 53 (rowOf .u8 32 (fun i => ys.getD i 0)) (0, 0) _ rfl (setRow_heap _ _ _ _ _ _ HQ1.out) Tryz.underlying53 rfl (by rw [rowOf_size]; kernel_rfl)) rfl ?_
      rw [HS.out]
      exact ⟨rfl, ⟨_, HW.out.keep (setRow_other _ _ _ _ (by omega)) fun hn k hk => setRow_other _ _ _ _ (hne _ (Nat.le_refl _) hn k hk)⟩, HO.out.behind (Nat.le_refl _) _⟩
#print axioms rhash_any
end Go.Proofs.YtejglhlodfhgkaaGreatDoor
namespace Go.Proofs.YtejglhlodfhgkaaGreatDoor
set_option linter.unusedVariables false
set_option linter.unusedSimpArgs false
open Go.RowKit
set_option maxRecDepth 100000
set_option linter.unusedSimpArgs false
set_option linter.unusedVariables false
end Go.Proofs.YtejglhlodfhgkaaGreatDoor
namespace Go.Proofs.YtejglhlodfhgkaaGreatDoor
set_option linter.unusedVariables false
set_option linter.unusedSimpArgs false
open Go.RowKit
open Go.Maps (Keyed setOf)
set_option maxRecDepth 100000
set_option linter.unusedSimpArgs false
set_option linter.unusedVariables false
/-- a vote -/
structure Vo where
  kind : Int
  height : Int
  round : Int
  blk : Nat → Int
  val : Int
  sv : Value
  sign : List Int
end Go.Proofs.YtejglhlodfhgkaaGreatDoor
namespace Go.Proofs.YtejglhlodfhgkaaGreatDoor
set_option linter.unusedVariables false
set_option linter.unusedSimpArgs false
open Go.RowKit
open Go.Maps (Keyed setOf)
set_option maxRecDepth 100000
set_option linter.unusedSimpArgs false
set_option linter.unusedVariables false
/-- a commit -/
structure Cm where
  height : Int
  round : Int
  blk : Nat → Int
end Go.Proofs.YtejglhlodfhgkaaGreatDoor
namespace Go.Proofs.YtejglhlodfhgkaaGreatDoor
set_option linter.unusedVariables false
set_option linter.unusedSimpArgs false
open Go.RowKit
set_option maxRecDepth 100000
/-- v is a slice of the numbers l -/
def IntsIn (w : World) (v : Value) (l : List Int) : Prop :=
  ∃ a cap, v = .slice a l.length cap ∧ l.length ≤ cap ∧ l.length ≤ maxLen ∧ (l = [] ∨ ∃ ab ao, a = some ⟨ab, ao, none⟩ ∧ ∀ i x, l[i]? = some x → w.cell? ⟨ab, ao + i, none⟩ = some (.int .i64 x))
theorem IntsIn.below {w w' : World} {v : Value} {l : List Int} (h : IntsIn w v l) (hb : Below w.heap.size w w') : IntsIn w' v l := by
  obtain ⟨a, cap, rfl, hc, hm, hx⟩ := h
  refine ⟨a, cap, rfl, hc, hm, ?_⟩
  rcases hx with hx | ⟨ab, ao, rfl, hx⟩
  · exact .inl hx
  · exact .inr ⟨ab, ao, rfl, fun i y hi => (hb.cell (p := ⟨ab, ao + i, none⟩) (World.block_lt_of_cell? w _ (hx i y hi))).trans (hx i y hi)⟩
end Go.Proofs.YtejglhlodfhgkaaGreatDoor
namespace Go.Proofs.YtejglhlodfhgkaaGreatDoor
set_option linter.unusedVariables false
set_option linter.unusedSimpArgs false
open Go.RowKit
set_option maxRecDepth 100000
end Go.Proofs.YtejglhlodfhgkaaGreatDoor
namespace Go.Proofs.YtejglhlodfhgkaaGreatDoor
set_option linter.unusedVariables false
set_option linter.unusedSimpArgs false
open Go.RowKit
set_option maxRecDepth 100000
set_option linter.unusedSimpArgs false
set_option linter.unusedVariables false
end Go.Proofs.YtejglhlodfhgkaaGreatDoor
namespace Go.Proofs.YtejglhlodfhgkaaGreatDoor
set_option linter.unusedVariables false
set_option linter.unusedSimpArgs false
open Go.RowKit
set_option maxRecDepth 100000
/-- are the params valid? -/
def kOk (D E : Int) : Prop := 1 ≤ D ∧ D ≤ 32 ∧ 0 ≤ E ∧ E ≤ 10
instance (D E : Int) : Decidable (kOk D E) := by unfold kOk; infer_instance
end Go.Proofs.YtejglhlodfhgkaaGreatDoor
namespace Go.Proofs.YtejglhlodfhgkaaGreatDoor
set_option linter.unusedVariables false
set_option linter.unusedSimpArgs false
open Go.RowKit
set_option maxRecDepth 100000
set_option linter.unusedSimpArgs false
set_option linter.unusedVariables false
structure VoOk (v : Vo) : Prop where
  k : -9223372036854775808 ≤ v.kind ∧ v.kind ≤ 9223372036854775807
  h : -9223372036854775808 ≤ v.height ∧ v.height ≤ 9223372036854775807
  r : -9223372036854775808 ≤ v.round ∧ v.round ≤ 9223372036854775807
end Go.Proofs.YtejglhlodfhgkaaGreatDoor
namespace Go.Proofs.YtejglhlodfhgkaaGreatDoor
set_option linter.unusedVariables false
set_option linter.unusedSimpArgs false
open Go.RowKit
set_option maxRecDepth 100000
set_option linter.unusedSimpArgs false
set_option linter.unusedVariables false
structure AcR where
  k : Nat → Int
  s : Int
  e : Option Nat
/-- the account's block -/
structure AcM (w : World) (q : Nat) (CV : Array Value) (va : Value) (t : Option AvT) (wr : World) : Prop where
  b : Below w.heap.size w wr
  r : wr.heap[q]? = some (.cells CV 78 (0, 0))
  t : TreeO wr va t
  e : Env wr
theorem AcM.call {w : World} {q : Nat} {CV : Array Value} {va : Value} {t : Option AvT} {wr w' : World} (m : AcM w q CV va t wr) (h : Below wr.heap.size wr w') : AcM w q CV va t w' := ⟨m.b.trans (h.mono m.b.size), (h.block q (bkT_lt m.r)).trans m.r, m.t.below h, m.e.below h m.e.lt⟩

end Go.Proofs.YtejglhlodfhgkaaGreatDoor
namespace Go.Proofs.YtejglhlodfhgkaaGreatDoor
set_option linter.unusedVariables false
set_option linter.unusedSimpArgs false
open Go.RowKit
set_option maxRecDepth 100000
set_option linter.unusedSimpArgs false
set_option linter.unusedVariables false
end Go.Proofs.YtejglhlodfhgkaaGreatDoor
namespace Go.Proofs.YtejglhlodfhgkaaGreatDoor
set_option linter.unusedVariables false
set_option linter.unusedSimpArgs false
theorem getD_varint (n i : Nat) (r : List Int) (h : i < glen n) : (varint n ++ r).getD i 0 = ((gby n i : Nat) : Int) := by
  simp [List.getD, List.getElem?_append_left (by rw [varint_length]; exact h : i < (varint n).length), varint_get h]
theorem rdFrom_varint (n most : Nat) (r : List Int) (hn : n < 18446744073709551616) : ∀ (d i k : Nat), i + d + 1 = glen n → d < k →
    rdFrom (varint n ++ r) most k i = if most < n then (0, 0, some 4) else (n, glen n, none) := by
  intro d
  induction d with
  | zero =>
    intro i k h hk
    obtain ⟨k, rfl⟩ : ∃ j, k = j + 1 := ⟨k - 1, by omega⟩
    have hl := gby_last (by omega : i + 1 = glen n)
    rw [rdFrom, getD_varint n i r (by omega), if_pos (by omega), Int.toNat_natCast, show i + 1 = glen n by omega, accF_varint n r hn (glen n) (Nat.le_refl _), mod_glen]
    unfold chk
    rw [if_neg]
    rintro (⟨h1, h2⟩ | ⟨h1, h2⟩)
    · rw [hl.1] at h2
      have h3 := glen_lo n (i - 1) (by omega)
      obtain ⟨j, rfl⟩ : ∃ j, i = j + 1 := ⟨i - 1, by omega⟩
      rw [Nat.add_sub_cancel] at h3
      rw [div_pow_step] at h2
      omega
    · rw [hl.1, show i = 9 by omega] at h2
      have e : (128 : Nat) ^ 9 = 9223372036854775808 := by decide
      rw [e] at h2
      omega
  | succ d ih =>
    intro i k h hk
    obtain ⟨k, rfl⟩ : ∃ j, k = j + 1 := ⟨k - 1, by omega⟩
    have hm := gby_more (by omega : i + 1 < glen n)
    rw [rdFrom, getD_varint n i r (by omega), if_neg (by omega)]
    exact ih (i + 1) k (by omega) (by omega)
theorem rdF_varint (n most : Nat) (r : List Int) (hn : n < 18446744073709551616) : rdF (varint n ++ r) most = if most < n then (0, 0, some 4) else (n, glen n, none) := by
  have h1 := glen_pos n
  have h2 := glen_le hn
  unfold rdF
  exact rdFrom_varint n most r hn (glen n - 1) 0 _ (by omega) (by rw [List.length_append, varint_length]; omega)
theorem drop_varint (n : Nat) (r : List Int) : (varint n ++ r).drop (glen n) = r := by rw [← varint_length n]; exact List.drop_left
theorem uintS_varint (n most : Nat) (r : List Int) (hn : n < 18446744073709551616) (hm : n ≤ most) : uintS (varint n ++ r, none) most = (n, r, none) := by
  have h := rdF_varint n most r hn
  rw [if_neg (by omega)] at h
  rw [uintS_good (by rw [h]), h]
  show (n, (varint n ++ r).drop (glen n), none) = _
  rw [drop_varint]
theorem intS_varint (i : Int) (r : List Int) (h0 : -9223372036854775808 ≤ i) (h1 : i ≤ 9223372036854775807) : intS (varint (zig i) ++ r, none) = (i, r, none) := by
  have hz := zig_lt h0 h1
  unfold intS
  rw [uintS_varint (zig i) 18446744073709551615 r hz (by omega)]
  simp only [unzig_zig]
end Go.Proofs.YtejglhlodfhgkaaGreatDoor
namespace Go.Proofs.YtejglhlodfhgkaaGreatDoor
set_option linter.unusedVariables false
set_option linter.unusedSimpArgs false
open Go.RowKit
set_option maxRecDepth 100000
set_option linter.unusedSimpArgs false
set_option linter.unusedVariables false
theorem getO_mem {t : Option AvT} (h : Srt (pairsO t)) (k v : ByteArray) : getO t k = some v ↔ (k, v) ∈ pairsO t := by
  cases t with
  | none => constructor <;> intro h2 <;> cases h2
  | some t => exact get_mem k t h v
theorem setO_pairs {t : Option AvT} (h : Srt (pairsO t)) (k v : ByteArray) : (setO t k v).pairs = insL k v (pairsO t) := by
  cases t with
  | none => rfl
  | some t => exact set_pairs k v t h
theorem insL_mem {k v : ByteArray} {l : List KV} {p : KV} : p ∈ insL k v l ↔ p = (k, v) ∨ (p ∈ l ∧ p.1 ≠ k) := by
  unfold insL
  rw [List.mem_append, List.mem_cons, List.mem_filter, List.mem_filter]
  constructor
  · rintro (⟨h1, h2⟩ | h | ⟨h1, h2⟩)
    · exact .inr ⟨h1, bl_ne h2⟩
    · exact .inl h
    · exact .inr ⟨h1, fun e => bl_ne h2 e.symm⟩
  · rintro (h | ⟨h1, h2⟩)
    · exact .inr (.inl h)
    · by_cases hb : bl p.1 k = true
      · exact .inl ⟨h1, hb⟩
      · by_cases hb2 : bl k p.1 = true
        · exact .inr (.inr ⟨h1, hb2⟩)
        · exact absurd (bl_total (by simpa using hb) (by simpa using hb2)) h2
theorem opt_ext {α : Type} {a b : Option α} (h : ∀ v, a = some v ↔ b = some v) : a = b := by
  cases a with
  | none => cases b with
    | none => rfl
    | some y => exact ((h y).2 rfl)
  | some x => exact ((h x).1 rfl).symm
theorem getO_set_same {t : Option AvT} (h : Srt (pairsO t)) (k v : ByteArray) : getO (some (setO t k v)) k = some v := by
  rw [getO_mem (t := some (setO t k v)) (setO_srt h k v)]
  show (k, v) ∈ (setO t k v).pairs
  rw [setO_pairs h, insL_mem]
  exact .inl rfl
theorem getO_set_other {t : Option AvT} (h : Srt (pairsO t)) {k k' : ByteArray} (v : ByteArray) (hk : k' ≠ k) : getO (some (setO t k v)) k' = getO t k' := by
  apply opt_ext
  intro x
  rw [getO_mem (t := some (setO t k v)) (setO_srt h k v), getO_mem h]
  show (k', x) ∈ (setO t k v).pairs ↔ _
  rw [setO_pairs h, insL_mem]
  constructor
  · rintro (h2 | h2)
    · injection h2 with h2 _; exact absurd h2 hk
    · exact h2.1
  · intro h2; exact .inr ⟨h2, hk⟩
theorem getO_drop_same {t : Option AvT} (h : Srt (pairsO t)) (k : ByteArray) : getO (dropO t k) k = none := by
  apply opt_ext
  intro x
  rw [getO_mem (dropO_srt h k), dropO_pairs h, List.mem_filter]
  simp
theorem getO_drop_other {t : Option AvT} (h : Srt (pairsO t)) {k k' : ByteArray} (hk : k' ≠ k) : getO (dropO t k) k' = getO t k' := by
  apply opt_ext
  intro x
  rw [getO_mem (dropO_srt h k), getO_mem h, dropO_pairs h, List.mem_filter]
  simp [hk]
theorem bkDec_enc {x : Int} (h : -9223372036854775808 ≤ x ∧ x ≤ 9223372036854775807) : bkDec (encI x) = x := by
  have e : numsOf (encI x) = varint (zig x) ++ [] := by rw [List.append_nil]; exact numsOf_str _ (varint_ok _)
  unfold bkDec
  rw [e, intS_varint x [] h.1 h.2]
  rfl
theorem bkDec_none : bkDec (strO none) = 0 := by kernel_rfl
theorem bkV_none {t : Option AvT} {k : ByteArray} (h : getO t k = none) : bkV t k = 0 := by unfold bkV; rw [h]; exact bkDec_none
theorem bkV_same {t : Option AvT} (h : Srt (pairsO t)) (k : ByteArray) {x : Int} (hx : -9223372036854775808 ≤ x ∧ x ≤ 9223372036854775807) : bkV (chgT t k x) k = x := by
  unfold chgT
  by_cases h0 : x = 0
  · rw [if_pos h0, bkV_none (getO_drop_same h k), h0]
  · rw [if_neg h0]
    unfold bkV
    rw [getO_set_same h]
    exact bkDec_enc hx
theorem bkV_other {t : Option AvT} (h : Srt (pairsO t)) {k k' : ByteArray} (x : Int) (hk : k' ≠ k) : bkV (chgT t k x) k' = bkV t k' := by
  unfold chgT bkV
  by_cases h0 : x = 0
  · rw [if_pos h0, getO_drop_other h hk]
  · rw [if_neg h0, getO_set_other h _ hk]
theorem bkV_nil (k : ByteArray) : bkV none k = 0 := bkV_none rfl
theorem addE_ok {a b : Int} (h : addE a b = none) : amt a ∧ amt b ∧ a + b ≤ 1152921504606846976 ∧ addR a b = a + b := by
  have h0 := h
  unfold addE at h
  by_cases h1 : amt a ∧ amt b
  · rw [if_pos h1] at h
    by_cases h2 : a + b ≤ 1152921504606846976
    · exact ⟨h1.1, h1.2, h2, if_pos h0⟩
    · rw [if_neg h2] at h; cases h
  · rw [if_neg h1] at h; cases h
theorem addE_yes {a b : Int} (ha : amt a) (hb : amt b) (h : a + b ≤ 1152921504606846976) : addE a b = none := by
  unfold addE
  rw [if_pos ⟨ha, hb⟩, if_pos h]
theorem subE_ok {a b : Int} (h : subE a b = none) : amt a ∧ amt b ∧ b ≤ a ∧ subR a b = a - b := by
  have h0 := h
  unfold subE at h
  by_cases h1 : amt a ∧ amt b
  · rw [if_pos h1] at h
    by_cases h2 : b ≤ a
    · exact ⟨h1.1, h1.2, h2, if_pos h0⟩
    · rw [if_neg h2] at h; cases h
  · rw [if_neg h1] at h; cases h
/-- keys -/
theorem supK_get0 (d : ByteArray) : (supK d).data.toList[0]? = some 115 := by
  unfold supK
  rw [ByteArray.data_append, Array.toList_append]; rfl
theorem balK_get0 (n d : ByteArray) : (balK n d).data.toList[0]? = some 98 := by
  unfold balK
  rw [ByteArray.data_append, ByteArray.data_append, ByteArray.data_append]
  simp only [Array.toList_append]; rfl
theorem bal_sup (n d d' : ByteArray) : balK n d ≠ supK d' := fun e => by
  have h1 := balK_get0 n d
  rw [e, supK_get0] at h1
  cases h1
theorem sup_bal (n d d' : ByteArray) : supK d' ≠ balK n d := fun e => bal_sup n d d' e.symm
theorem stp2_ok {c : Option Nat} {t : Option AvT} {k1 k2 : ByteArray} {E1 E2 : Int → Int → Option Nat} {R1 R2 : Int → Int → Int} {a : Int} (h : (stp2 c t k1 k2 E1 E2 R1 R2 a).e = none) :
    c = none ∧ E1 (bkV t k1) a = none ∧ E2 (bkV (chgT t k1 (R1 (bkV t k1) a)) k2) a = none ∧ (stp2 c t k1 k2 E1 E2 R1 R2 a).t = chgT (chgT t k1 (R1 (bkV t k1) a)) k2 (R2 (bkV (chgT t k1 (R1 (bkV t k1) a)) k2) a) := by
  unfold stp2 st2E at h
  simp only at h
  cases c with
  | some e => cases h
  | none =>
    simp only at h
    cases h1 : E1 (bkV t k1) a with
    | some e => rw [h1] at h; cases h
    | none =>
      rw [h1] at h
      simp only at h
      refine ⟨rfl, rfl, h, ?_⟩
      unfold stp2 st2T chgO
      simp only [h1, h]
theorem mint_GT {N g : Nat} {t : Option AvT} (h : GT N g t) {n d : ByteArray} {a : Int} (he : (mintR t n d a).e = none) (hz : n.size + d.size + 20 ≤ N) : GT N (g + 2) (mintR t n d a).t := by
  obtain ⟨-, -, -, e⟩ := stp2_ok he
  rw [show (mintR t n d a).t = _ from e]
  exact (h.chg _ addR_amt (by rw [supK_size]; omega)).chg _ addR_amt (by rw [balK_size]; omega)
theorem burn_GT {N g : Nat} {t : Option AvT} (h : GT N g t) {n d : ByteArray} {a : Int} (he : (burnR t n d a).e = none) (hz : n.size + d.size + 20 ≤ N) : GT N (g + 2) (burnR t n d a).t := by
  obtain ⟨-, -, -, e⟩ := stp2_ok he
  rw [show (burnR t n d a).t = _ from e]
  exact (h.chg _ subR_amt (by rw [balK_size]; omega)).chg _ subR_amt (by rw [supK_size]; omega)
theorem send_GT {N g : Nat} {t : Option AvT} (h : GT N g t) {n m d : ByteArray} {a : Int} (he : (sendR t n m d a).e = none) (hz : n.size + m.size + d.size + 20 ≤ N) : GT N (g + 2) (sendR t n m d a).t := by
  obtain ⟨-, -, -, e⟩ := stp2_ok he
  rw [show (sendR t n m d a).t = _ from e]
  exact (h.chg _ subR_amt (by rw [balK_size]; omega)).chg _ addR_amt (by rw [balK_size]; omega)
end Go.Proofs.YtejglhlodfhgkaaGreatDoor
namespace Go.Proofs.YtejglhlodfhgkaaGreatDoor
set_option linter.unusedVariables false
set_option linter.unusedSimpArgs false
open Go.RowKit Go.Extern.Stop Go.Stop Go.Extern
set_option maxRecDepth 100000
set_option linter.unusedSimpArgs false
set_option linter.unusedVariables false
theorem num16_any (e : Option Nat) (w : World) (hg : ErrType w) :
    Calls Tryz.prog 31 #[errV e] w fun r w' => r = .returned (.int .i64 (numE e)) ∧ Below w.heap.size w w' := by
  cases e with
  | none =>
    show Calls Tryz.prog 31 #[.nilIface] w _
    go_enter Tryz.func31, Tryz.ntmps31
    go_wp2
    go_ret
    exact ⟨rfl, below_alloc w _⟩
  | some n =>
    show Calls Tryz.prog 31 #[.iface 107 (.int .i64 n)] w _
    have HB := Lib.hid (below_alloc w (.cells #[.int .i64 0] 107))
    have HE := Lib.hid (hg.below HB.out)
    have HA := Lib.hid (as_hit n ⟨w.heap.size, 0, none⟩ (.int .i64 0) (w.alloc (.cells #[.int .i64 0] 107)) HE.out (by rw [cell_of_row _ _ _ _ _ _ (heap_alloc_new w _)]; rfl) (frozen_of_row _ _ _ _ _ (heap_alloc_new w _)))
    have hb2 := asW_below (w.alloc (.cells #[.int .i64 0] 107)) ⟨w.heap.size, 0, none⟩ n
    have hh : (asW (w.alloc (.cells #[.int .i64 0] 107)) ⟨w.heap.size, 0, none⟩ n).heap[w.heap.size]? = some (.cells #[.int .i64 0] 107 (0, 0)) := (hb2.block _ (by simp)).trans (heap_alloc_new w _)
    have hc : ((asW (w.alloc (.cells #[.int .i64 0] 107)) ⟨w.heap.size, 0, none⟩ n).setCell ⟨w.heap.size, 0, none⟩ (.int .i64 n)).cell? ⟨w.heap.size, 0, none⟩ = some (.int .i64 n) := by
      have := heap_setCell_same _ w.heap.size 0 _ _ (.int .i64 n) hh
      rw [cell_of_row _ _ _ _ _ _ this]; rfl
    have HF := Lib.hid ((HB.out.trans (hb2.mono (by simp))).setCell (p := ⟨w.heap.size, 0, none⟩) (Nat.le_refl _) (.int .i64 (n : Int)))
    clear hb2 hh
    generalize (asW (w.alloc (.cells #[.int .i64 0] 107)) ⟨w.heap.size, 0, none⟩ n).setCell ⟨w.heap.size, 0, none⟩ (.int .i64 n) = w2 at *
    go_enter Tryz.func31, Tryz.ntmps31
    go_wp2_with (go_at_call 57; (with_reducible refine HA.out.mono ?_); rintro ev w3 ⟨rfl, rfl⟩)
    go_ret
    exact ⟨rfl, HF.out⟩
end Go.Proofs.YtejglhlodfhgkaaGreatDoor
namespace Go.Proofs.YtejglhlodfhgkaaGreatDoor
set_option linter.unusedVariables false
set_option linter.unusedSimpArgs false
open Go.RowKit
set_option maxRecDepth 100000
set_option linter.unusedSimpArgs false
set_option linter.unusedVariables false
abbrev anN : ByteArray := { data := #[97, 110, 110] }
abbrev boN : ByteArray := { data := #[98, 111, 98] }
abbrev atD : ByteArray := { data := #[97, 116, 111, 109] }
def suT : Option AvT := (mintR none anN atD 5).t
def suU : Option AvT := (sendR suT anN boN atD 2).t
theorem su_e1 : (mintR none anN atD 5).e = none := by kernel_rfl
theorem su_e2 : (sendR suT anN boN atD 2).e = none := by kernel_rfl
theorem su_e3 : (sendR suU anN boN atD 4).e = some 41 := by kernel_rfl
theorem su_b : bkV suU (balK anN atD) = 3 := by kernel_rfl
theorem su_s : bkV suU (supK atD) = 5 := by kernel_rfl
theorem suT_GT : GT 140737488351232 2 suT := mint_GT (GT.none _) su_e1 (by decide)
theorem suU_GT : GT 140737488351232 4 suU := send_GT suT_GT su_e2 (by decide)
set_option maxHeartbeats 4000000 in
theorem bksure_any (w : World) (he : Env w) (hg : ErrType w) : Calls Tryz.prog 45 #[] w fun e w' => e = .returned (.bool true) ∧ Below w.heap.size w w' := by
  have HE := Lib.hid he
  have HEL := Lib.hid he.lt
  have HGE := Lib.hid hg
  have HM := Lib.hid (fun (W : World) (h : Env W) => show Calls Tryz.prog 46 #[.pointer none, .string anN, .agg #[.string atD, .int .i64 5]] W (fun e w' => ∃ v, e = .returned (.tuple #[v, .nilIface]) ∧ TreeO w' v suT ∧ Below W.heap.size W w') from by
    have h2 := bkmint_any (.pointer none) none anN atD 5 W 0 h rfl (GT.none _) (by decide) (by decide) (by decide)
    unfold ChgPost at h2
    rw [su_e1] at h2
    exact h2)
  have HS1 := Lib.hid (fun (W : World) (v : Value) (h : Env W) (k : TreeO W v suT) => show Calls Tryz.prog 48 #[v, .string anN, .string boN, .agg #[.string atD, .int .i64 2]] W (fun e w' => ∃ v, e = .returned (.tuple #[v, .nilIface]) ∧ TreeO w' v suU ∧ Below W.heap.size W w') from by
    have h2 := bksend_any v suT anN boN atD 2 W 2 h k suT_GT (by decide) (by decide) (by decide)
    unfold ChgPost at h2
    rw [su_e2] at h2
    exact h2)
  have HS2 := Lib.hid (fun (W : World) (v : Value) (h : Env W) (k : TreeO W v suU) => show Calls Tryz.prog 48 #[v, .string anN, .string boN, .agg #[.string atD, .int .i64 4]] W (fun e w' => ∃ v, e = .returned (.tuple #[v, errV (some 41)]) ∧ TreeO w' v ((sendR suU anN boN atD 4).t) ∧ Below W.heap.size W w') from by
    have h2 := bksend_any v suU anN boN atD 4 W 4 h k suU_GT (by decide) (by decide) (by decide)
    unfold ChgPost at h2
    rw [su_e3] at h2
    exact h2)
  have HB := Lib.hid (fun (W : World) (v : Value) (k : TreeO W v suU) => show Calls Tryz.prog 36 #[v, .string anN, .string atD] W (fun e w' => e = .returned (.int .i64 3) ∧ Below W.heap.size W w') from by
    have h2 := bkbalance_any v suU anN atD W k (suU_GT.val _) (by decide)
    rw [su_b] at h2
    exact h2)
  have HP := Lib.hid (fun (W : World) (v : Value) (k : TreeO W v suU) => show Calls Tryz.prog 38 #[v, .string atD] W (fun e w' => e = .returned (.int .i64 5) ∧ Below W.heap.size W w') from by
    have h2 := bksupply_any v suU atD W k (suU_GT.val _) (by decide)
    rw [su_s] at h2
    exact h2)
  have HN := Lib.hid (fun (W : World) (h : ErrType W) => show Calls Tryz.prog 31 #[errV (some 41)] W (fun e w' => e = .returned (.int .i64 41) ∧ Below W.heap.size W w') from num16_any (some 41) W h)
  obtain ⟨T, hT⟩ : ∃ z, z = suT := ⟨_, rfl⟩
  obtain ⟨U, hU⟩ : ∃ z, z = suU := ⟨_, rfl⟩
  obtain ⟨V, hV⟩ : ∃ z, z = errV (some 41) := ⟨_, rfl⟩
  rw [← hT] at HM HS1
  rw [← hU] at HS1 HS2 HB HP
  rw [← hV] at HS2 HN
  clear he hg hT hU hV
  have HB0 := Lib.hid (Below.refl w.heap.size w)
  go_enter Tryz.func45, Tryz.ntmps45
  go_wp2_with (first
    | (refine wpList_buildTo rfl 23 #[(0, .const (.string atD)), (1, .const (.int .i64 5))] rfl (some 8) rfl #[.string atD, .int .i64 5] (by kernel_rfl) ?_)
    | (refine wpList_buildTo rfl 23 #[(0, .const (.string atD)), (1, .const (.int .i64 2))] rfl (some 14) rfl #[.string atD, .int .i64 2] (by kernel_rfl) ?_)
    | (refine wpList_buildTo rfl 23 #[(0, .const (.string atD)), (1, .const (.int .i64 4))] rfl (some 20) rfl #[.string atD, .int .i64 4] (by kernel_rfl) ?_)
    | (go_at_call 46; (with_reducible refine (HM.out _ (HE.out.below HB0.out HEL.out)).mono ?_); rintro e w1 ⟨v1, rfl, ht, hb⟩; have HT := Lib.hid ht; replace HB0 := Lib.hid (HB0.out.trans (hb.mono HB0.out.size)); clear ht hb)
    | (go_at_call 48; (with_reducible refine (HS1.out _ _ (HE.out.below HB0.out HEL.out) HT.out).mono ?_); rintro e w2 ⟨v2, rfl, ht, hb⟩; have HU := Lib.hid ht; replace HB0 := Lib.hid (HB0.out.trans (hb.mono HB0.out.size)); clear ht hb)
    | (go_at_call 48; (with_reducible refine (HS2.out _ _ (HE.out.below HB0.out HEL.out) HU.out).mono ?_); rintro e w3 ⟨v3, rfl, ht, hb⟩; replace HU := Lib.hid (HU.out.below hb); replace HB0 := Lib.hid (HB0.out.trans (hb.mono HB0.out.size)); clear ht hb)
    | (go_at_call 31; (with_reducible refine (HN.out _ (HGE.out.below HB0.out)).mono ?_); rintro e w4 ⟨rfl, hb⟩; replace HU := Lib.hid (HU.out.below hb); replace HB0 := Lib.hid (HB0.out.trans (hb.mono HB0.out.size)); clear hb)
    | (go_at_call 36; (with_reducible refine (HB.out _ _ HU.out).mono ?_); rintro e w5 ⟨rfl, hb⟩; replace HU := Lib.hid (HU.out.below hb); replace HB0 := Lib.hid (HB0.out.trans (hb.mono HB0.out.size)); clear hb)
    | (go_at_call 38; (with_reducible refine (HP.out _ _ HU.out).mono ?_); rintro e w6 ⟨rfl, hb⟩; replace HB0 := Lib.hid (HB0.out.trans (hb.mono HB0.out.size)); clear hb))
  go_ret
  exact ⟨rfl, HB0.out⟩
end Go.Proofs.YtejglhlodfhgkaaGreatDoor
namespace Go.Proofs.YtejglhlodfhgkaaGreatDoor
set_option linter.unusedVariables false
set_option linter.unusedSimpArgs false
open Go.RowKit
set_option maxRecDepth 100000
set_option linter.unusedSimpArgs false
set_option linter.unusedVariables false
theorem amt_i64 {n : Int} (h : amt n) : -9223372036854775808 ≤ n ∧ n ≤ 9223372036854775807 := by obtain ⟨_, _⟩ := h; omega
theorem srt_chg {t : Option AvT} (h : Srt (pairsO t)) (k : ByteArray) (x : Int) : Srt (pairsO (chgT t k x)) := by
  unfold chgT
  split
  · exact dropO_srt h k
  · exact setO_srt h k _
theorem srt_nil : Srt (pairsO (none : Option AvT)) := List.Pairwise.nil
end Go.Proofs.YtejglhlodfhgkaaGreatDoor
