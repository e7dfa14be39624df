/- Part 15 of the proof. -/
import Derived.Maps.OwnSet
import Derived.DeepKeys5
import Derived.ChangeKeysEq
import Derived.Test.YtejglhlodfhgkaaGreatDoorBn1
import Derived.Test.YtejglhlodfhgkaaGreatDoorBn2
import Derived.Test.YtejglhlodfhgkaaGreatDoorBn5
import Derived.Test.YtejglhlodfhgkaaGreatDoorBn6
import Derived.Test.YtejglhlodfhgkaaGreatDoorBn7
import Derived.Test.YtejglhlodfhgkaaGreatDoorBn11
namespace Go.Proofs.YtejglhlodfhgkaaGreatDoor
set_option linter.unusedVariables false
set_option linter.unusedSimpArgs false
open Go.RowKit
set_option maxRecDepth 100000
/-- Hash -/
def hashS (s : RSt) : (Nat → Int) × RSt :=
  match s.2 with
  | some _ => (fun _ => 0, s)
  | none => if s.1.length < 32 then (fun _ => 0, s.1, some 12) else (fun i => s.1.getD i 0, s.1.drop 32, none)
theorem hashS_err (ys : List Int) (x : Nat) : hashS (ys, some x) = (fun _ => 0, ys, some x) := rfl
theorem hashS_short {ys : List Int} (h : ys.length < 32) : hashS (ys, none) = (fun _ => 0, ys, some 12) := by unfold hashS; simp only [if_pos h]
theorem hashS_long {ys : List Int} (h : ¬ ys.length < 32) : hashS (ys, none) = (fun i => ys.getD i 0, ys.drop 32, none) := by unfold hashS; simp only [if_neg h]
theorem Only.behind {p g : Nat} {w w' : World} (h : Only p w w') (hg : w.heap.size ≤ g) (cs : Array Value) : Only p w (w'.setRow g cs) :=
  ⟨h.os, h.tape, h.output, by simp [World.setRow]; exact h.size, fun k hk hp => (setRow_other w' g k cs (by omega)).trans (h.block k hk hp)⟩
theorem wp_copy_at {P : Program} (w : World) {o : Oper} {a : Act} {K : Act → World → Prop} {Q : Exit → Act → World → Prop} (d s : Operand) (t t' : TypeId) {ty : TypeId}
    (ho : o.op = .call { callee := .builtin .copy, args := #[d, s], argTypes := #[t, t'] }) (hty : o.type = ty) (v u : Value) (hd : a.eval d = v) (hs : a.eval s = u) {v' : Value} {w' : World}
    (hr : (Builtin.copy_ #[t, t'] ty #[v, u]).run P w = .ok v' w') (h : K (a.put o.dst v') w') : o.wp P a w K Q := by
  unfold Oper.wp execOp
  simp only [ho, hty, resolve, invoke, builtin, Sem.run_bind, Sem.run_pure, Result.andThen_ok, List.map_toArray, List.map_cons, List.map_nil, hd, hs, hr]
  exact h
theorem copied32 (f : Nat → Int) (ys : List Int) (h : ¬ ys.length < 32) :
    ((rowOf .u8 32 f).toList.take 0 ++ byteVals (ys.take 32) ++ (rowOf .u8 32 f).toList.drop (0 + (byteVals (ys.take 32)).length)).toArray = rowOf .u8 32 (fun i => ys.getD i 0) := by
  have hl : (ys.take 32).length = 32 := by rw [List.length_take]; omega
  have hd : (rowOf .u8 32 f).toList.drop (0 + (byteVals (ys.take 32)).length) = [] := by
    apply List.drop_eq_nil_of_le
    rw [byteVals_length, hl, Array.length_toList, rowOf_size]; omega
  rw [hd, List.take_zero, List.nil_append, List.append_nil]
  unfold rowOf byteVals
  congr 1
  apply List.ext_getElem
  · simp only [List.length_map, List.length_range, hl]
  · intro i h1 h2
    simp only [List.length_map, hl] at h1
    have h3 : i < ys.length := by omega
    simp [List.getD, List.getElem?_eq_getElem h3]
theorem zerosPk : (#[Value.int IntKind.u8 0, Value.int IntKind.u8 0, Value.int IntKind.u8 0, Value.int IntKind.u8 0, Value.int IntKind.u8 0, Value.int IntKind.u8 0, Value.int IntKind.u8 0, Value.int IntKind.u8 0, Value.int IntKind.u8 0, Value.int IntKind.u8 0, Value.int IntKind.u8 0, Value.int IntKind.u8 0, Value.int IntKind.u8 0, Value.int IntKind.u8 0, Value.int IntKind.u8 0, Value.int IntKind.u8 0, Value.int IntKind.u8 0, Value.int IntKind.u8 0, Value.int IntKind.u8 0, Value.int IntKind.u8 0, Value.int IntKind.u8 0, Value.int IntKind.u8 0, Value.int IntKind.u8 0, Value.int IntKind.u8 0, Value.int IntKind.u8 0, Value.int IntKind.u8 0, Value.int IntKind.u8 0, Value.int IntKind.u8 0, Value.int IntKind.u8 0, Value.int IntKind.u8 0, Value.int IntKind.u8 0, Value.int IntKind.u8 0] : Array Value) = rowOf .u8 32 (fun _ => 0) := by rfl
set_option maxRecDepth 100000 in
set_option maxHeartbeats 1000000 in
theorem rhash_any (p : Nat) (s : RSt) (w : World) (h : RS w p s) :
    Calls Tryz.prog 92 #[.pointer (some ⟨p, 0, none⟩)] w fun r w' => r = .returned (.agg (rowOf .u8 32 (hashS s).1)) ∧ RS w' p (hashS s).2 ∧ Only p w w' := by
  obtain ⟨ys, e⟩ := s
  obtain ⟨y, h⟩ := h
  change RAt w p y ys e at h
  have HB := Lib.hid ((below_alloc w (.cells (rowOf .u8 32 (fun _ => 0)) 53)).trans ((below_alloc (w.alloc (.cells (rowOf .u8 32 (fun _ => 0)) 53)) (.cells (rowOf .u8 32 (fun _ => 0)) 53)).mono (by simp)))
  have HR := h.below HB.out
  have HQ1 := (RowAt.new w .u8 32 53 (fun _ => 0)).alloc (.cells (rowOf .u8 32 (fun _ => 0)) 53)
  have HQ2 := RowAt.new (w.alloc (.cells (rowOf .u8 32 (fun _ => 0)) 53)) .u8 32 53 (fun _ => 0)
  rw [size_alloc] at HQ2
  have HP : p < w.heap.size := h.lt
  have H0 := Lib.hid h
  replace HR := Lib.hid HR
  replace HQ1 := Lib.hid HQ1
  replace HQ2 := Lib.hid HQ2
  clear h
  go_enter Tryz.func92, Tryz.ntmps92
  go_upto_region 2 with (fail)
  rw [zerosPk]
  generalize (w.alloc (.cells (rowOf .u8 32 (fun _ => 0)) 53)).alloc (.cells (rowOf .u8 32 (fun _ => 0)) 53) = w1 at *
  have HE := Lib.hid (err_any p y ys e w1 HR.out)
  have hc0 := HR.out.cell0
  have hc1 := HR.out.cell1
  have hf := HR.out.free 1
  obtain ⟨a, c, rfl, hle⟩ := HR.out.wide
  have HLE := Lib.hid hle
  clear hle
  cases e with
  | some x =>
    simp only [errV] at HE hc1
    go_wp2_with (first
      | (go_at_call 137; (with_reducible refine HE.out.mono ?_); rintro e w2 ⟨rfl, rfl⟩)
      | (refine wpList_load_row rfl 53 (.tmp 3) rfl (w.heap.size + 1) rfl 53 _ (0, 0) _ HQ2.out Tryz.underlying53 rfl (by rw [rowOf_size]; kernel_rfl) ?_)
      | (refine wpList_store_row rfl 53 (.tmp 2) (.tmp 7) rfl w.heap.size _ rfl rfl 53 _ HQ1.out (by rw [rowOf_size]; kernel_rfl) (by simp only [rowOf_size]) (rowOf_one _ _ _) ?_))
    refine bodyPost_ret (results_cell_row rfl _ _ w.heap.size 53 (rowOf .u8 32 (fun _ => 0)) (0, 0) _ rfl (setRow_heap _ _ _ _ _ _ HQ1.out) Tryz.underlying53 rfl (by rw [rowOf_size]; kernel_rfl)) rfl ?_
    rw [hashS_err]
    exact ⟨rfl, ⟨_, H0.out.below (below_setRow HB.out (Nat.le_refl _) _)⟩, Only.of_below (below_setRow HB.out (Nat.le_refl _) _)⟩
  | none =>
    simp only [errV] at HE hc1
    by_cases hs : ys.length < 32
    · have HS := Lib.hid (hashS_short hs)
      have hs1 : (ys.length : Int) < 32 := by omega
      have HW := Lib.hid (HR.out.err (some 12))
      have HQ2' := Lib.hid (HQ2.out.other ⟨p, 1, none⟩ (errV (some 12)) (show w.heap.size + 1 ≠ p by omega))
      have HQ1' := Lib.hid (HQ1.out.other ⟨p, 1, none⟩ (errV (some 12)) (show w.heap.size ≠ p by omega))
      have HO := Lib.hid ((Only.of_below HB.out).trans (Only.setCell w1 ⟨p, 1, none⟩ (errV (some 12))))
      simp only [errV] at HW HQ1' HQ2' HO
      clear HQ1 HQ2
      go_wp2_with (first
        | (go_at_call 137; (with_reducible refine HE.out.mono ?_); rintro e w2 ⟨rfl, rfl⟩)
        | (refine wpList_load_row rfl 53 (.tmp 3) rfl (w.heap.size + 1) rfl 53 _ (0, 0) _ HQ2'.out Tryz.underlying53 rfl (by rw [rowOf_size]; kernel_rfl) ?_)
        | (refine wpList_store_row rfl 53 (.tmp 2) (.tmp 18) rfl w.heap.size _ rfl rfl 53 _ HQ1'.out (by rw [rowOf_size]; kernel_rfl) (by simp only [rowOf_size]) (rowOf_one _ _ _) ?_))
      refine bodyPost_ret (results_cell_row rfl _ _ w.heap.size 53 (rowOf .u8 32 (fun _ => 0)) (0, 0) _ rfl (setRow_heap _ _ _ _ _ _ HQ1'.out) Tryz.underlying53 rfl (by rw [rowOf_size]; kernel_rfl)) rfl ?_
      rw [HS.out]
      refine ⟨rfl, ⟨_, HW.out.keep (setRow_other _ _ _ _ (by omega)) fun hn k hk => setRow_other _ _ _ _ ?_⟩, HO.out.behind (Nat.le_refl _) _⟩
      have := H0.out.own_lt hn k hk; omega
    · have hs1 : ¬ (ys.length : Int) < 32 := by omega
      have HS := Lib.hid (hashS_long hs)
      go_upto_region 7 with (go_at_call 137; (with_reducible refine HE.out.mono ?_); rintro e w2 ⟨rfl, rfl⟩)
      obtain ⟨w3, hw3⟩ : ∃ w3, w3 = w2.drew := ⟨_, rfl⟩
      have HR3 := Lib.hid (show RAt w3 p (.slice a ys.length c) ys none by rw [hw3]; exact HR.out.keep rfl fun _ _ _ => rfl)
      have HQ13 := Lib.hid (show RowAt w3 w.heap.size .u8 32 53 (fun _ => 0) by rw [hw3]; exact HQ1.out)
      have HQ23 := Lib.hid (show RowAt w3 (w.heap.size + 1) .u8 32 53 (fun _ => 0) by rw [hw3]; exact HQ2.out)
      have HO3 := Lib.hid (show Only p w w3 by rw [hw3]; exact (Only.of_below HB.out).trans (Only.drew _ _))
      refine wp_region_any (by kernel_rfl) ?_
      change wpAny _ _ _ _ _ _ _ w2.drew
      rw [← hw3]
      clear hw3
      refine wpAny_take (i := 0) (v := .slice (some ⟨w.heap.size + 1, 0, none⟩) 32 32) rfl (by kernel_rfl) (by kernel_rfl) (by kernel_rfl) (fun _ _ _ h => h) (Or.inl ⟨by rfl, by intro w; go_simp⟩) ?_
      try simp only [List.getElem_toArray, List.getElem_cons_zero, Act.put, List.setIfInBounds_toArray, List.set_cons_zero, List.set_cons_succ]
      refine wpAny_take (i := 1) (v := .pointer (some ⟨p, 0, none⟩)) rfl (by kernel_rfl) (by kernel_rfl) (by kernel_rfl) (fun _ _ _ h => h) (Or.inl ⟨by rfl, by intro w; go_simp⟩) ?_
      try simp only [List.getElem_toArray, List.getElem_cons_succ, List.getElem_cons_zero, Act.put, List.setIfInBounds_toArray, List.set_cons_zero, List.set_cons_succ]
      refine wpAny_ready (rs := [2]) (by kernel_rfl) (by simp) ?_; refine AllReady.cons rfl (fun K hK => ?_) AllReady.nil; rw [if_pos (by rfl)]
      try simp only [List.getElem_toArray, List.getElem_cons_succ, List.getElem_cons_zero]
      go_simp
      have ht := take_any p _ ys none 32 w3 HR3.out (by omega)
      rw [show ((32 : Nat) : Int) = 32 from rfl] at ht
      refine ht.mono ?_
      rintro e w4 ⟨a1, c1, y1, rfl, hi1, hn1, hr1, ho1, hy1⟩
      have hl32 : (ys.take 32).length = 32 := by rw [List.length_take]; omega
      obtain ⟨a1', c1', e1, _, _, hx1⟩ := hi1
      rw [hl32] at e1
      injection e1 with e1 _ e3
      subst e1 e3
      obtain ⟨ab, ao, rfl, hx2⟩ := hx1.resolve_left (by intro h0; rw [h0] at hl32; simp at hl32)
      clear hx1 hn1
      refine hK _ _ ?_
      clear hK K
      try simp only [List.getElem_toArray, List.getElem_cons_succ, List.getElem_cons_zero, Act.put, List.setIfInBounds_toArray, List.set_cons_zero, List.set_cons_succ]
      refine wpAny_ready (rs := [3]) (by kernel_rfl) (by simp) ?_; refine AllReady.cons rfl (fun K hK => ?_) AllReady.nil; rw [if_pos (by rfl)]
      try simp only [List.getElem_toArray, List.getElem_cons_succ, List.getElem_cons_zero]
      have hq4 : RowAt w4 (w.heap.size + 1) .u8 32 53 (fun _ => 0) := (ho1.block _ HQ23.out.lt (by omega)).trans HQ23.out
      have hq5 : RowAt w4 w.heap.size .u8 32 53 (fun _ => 0) := (ho1.block _ HQ13.out.lt (by omega)).trans HQ13.out
      have hcp := run_copy_row (P := Tryz.prog) w4 25 25 3 5 (w.heap.size + 1) 0 32 32 ⟨ab, ao, none⟩ 32 c1 _ 53 (byteVals (ys.take 32)) Tryz.underlying25 (by kernel_rfl) hq4 (by rw [byteVals_length, hl32]; rfl) (fun j v hv => by
          rw [Addr.add_mid]
          simp only [byteVals, List.getElem?_map] at hv
          cases hj : (ys.take 32)[j]? with
          | none => rw [hj] at hv; cases hv
          | some x => rw [hj] at hv; cases hv; exact hx2 j x hj) (by rw [byteVals_length, hl32, rowOf_size]; omega) (byteVals_one _)
      rw [copied32 _ ys hs] at hcp
      have HQ2 : Hid (RowAt (w4.setRow (w.heap.size + 1) (rowOf .u8 32 (fun i => ys.getD i 0))) (w.heap.size + 1) .u8 32 53 (fun i => ys.getD i 0)) := Lib.hid (setRow_heap _ _ _ _ _ _ hq4)
      have HQ1 : Hid (RowAt (w4.setRow (w.heap.size + 1) (rowOf .u8 32 (fun i => ys.getD i 0))) w.heap.size .u8 32 53 (fun _ => 0)) := Lib.hid ((setRow_other _ _ _ _ (by omega)).trans hq5)
      have hne : ∀ g, w.heap.size ≤ g → ys.drop 32 ≠ [] → ∀ k, y1.ownBlock = some k → k ≠ g := fun g hg hn k hk => by
        rw [hy1] at hk
        have := H0.out.own_lt (by rintro rfl; simp at hn) k hk
        omega
      have HW := Lib.hid (show RAt (w4.setRow (w.heap.size + 1) (rowOf .u8 32 (fun i => ys.getD i 0))) p y1 (ys.drop 32) none from
        hr1.keep (setRow_other _ _ _ _ (by omega)) fun hn k hk => setRow_other _ _ _ _ (hne _ (Nat.le_succ _) hn k hk))
      have HO := Lib.hid ((HO3.out.trans ho1).behind (g := w.heap.size + 1) (Nat.le_succ _) (rowOf .u8 32 (fun i => ys.getD i 0)))
      refine wp_copy_at w4 (.tmp 19) (.tmp 21) 25 25 rfl rfl _ _ rfl rfl hcp ?_
      clear hcp hq4 hq5 hr1 ho1 hx2 HQ13 HQ23 HR3 HO3 ht
      generalize w4.setRow (w.heap.size + 1) (rowOf .u8 32 (fun i => ys.getD i 0)) = w5 at *
      refine hK _ _ ?_
      clear hK K
      try simp only [Act.put, List.setIfInBounds_toArray, List.set_cons_zero, List.set_cons_succ]
      refine wpAny_done (by kernel_rfl) ?_ _
      go_wp2_with (first
        | (refine wpList_load_row rfl 53 (.tmp 3) rfl (w.heap.size + 1) rfl 53 _ (0, 0) _ HQ2.out Tryz.underlying53 rfl (by rw [rowOf_size]; kernel_rfl) ?_)
        | (refine wpList_store_row rfl 53 (.tmp 2) (.tmp 23) rfl w.heap.size _ rfl rfl 53 _ HQ1.out (by rw [rowOf_size]; kernel_rfl) (by simp only [rowOf_size]) (rowOf_one _ _ _) ?_))
      refine bodyPost_ret (results_cell_row rfl _ _ w.heap.size 53 (rowOf .u8 32 (fun i => ys.getD i 0)) (0, 0) _ rfl (setRow_heap _ _ _ _ _ _ HQ1.out) Tryz.underlying53 rfl (by rw [rowOf_size]; kernel_rfl)) rfl ?_
      rw [HS.out]
      exact ⟨rfl, ⟨_, HW.out.keep (setRow_other _ _ _ _ (by omega)) fun hn k hk => setRow_other _ _ _ _ (hne _ (Nat.le_refl _) hn k hk)⟩, HO.out.behind (Nat.le_refl _) _⟩
#print axioms rhash_any
end Go.Proofs.YtejglhlodfhgkaaGreatDoor
namespace Go.Proofs.YtejglhlodfhgkaaGreatDoor
set_option linter.unusedVariables false
set_option linter.unusedSimpArgs false
open Go.RowKit
set_option maxRecDepth 100000
set_option linter.unusedSimpArgs false
set_option linter.unusedVariables false
end Go.Proofs.YtejglhlodfhgkaaGreatDoor
namespace Go.Proofs.YtejglhlodfhgkaaGreatDoor
set_option linter.unusedVariables false
set_option linter.unusedSimpArgs false
open Go.RowKit
open Go.Maps (Keyed setOf)
set_option maxRecDepth 100000
set_option linter.unusedSimpArgs false
set_option linter.unusedVariables false
/-- a vote -/
structure Vo where
  kind : Int
  height : Int
  round : Int
  blk : Nat → Int
  val : Int
  sv : Value
  sign : List Int
end Go.Proofs.YtejglhlodfhgkaaGreatDoor
namespace Go.Proofs.YtejglhlodfhgkaaGreatDoor
set_option linter.unusedVariables false
set_option linter.unusedSimpArgs false
open Go.RowKit
open Go.Maps (Keyed setOf)
set_option maxRecDepth 100000
set_option linter.unusedSimpArgs false
set_option linter.unusedVariables false
/-- a commit -/
structure Cm where
  height : Int
  round : Int
  blk : Nat → Int
end Go.Proofs.YtejglhlodfhgkaaGreatDoor
namespace Go.Proofs.YtejglhlodfhgkaaGreatDoor
set_option linter.unusedVariables false
set_option linter.unusedSimpArgs false
open Go.RowKit
set_option maxRecDepth 100000
/-- v is a slice of the numbers l -/
def IntsIn (w : World) (v : Value) (l : List Int) : Prop :=
  ∃ a cap, v = .slice a l.length cap ∧ l.length ≤ cap ∧ l.length ≤ maxLen ∧ (l = [] ∨ ∃ ab ao, a = some ⟨ab, ao, none⟩ ∧ ∀ i x, l[i]? = some x → w.cell? ⟨ab, ao + i, none⟩ = some (.int .i64 x))
theorem IntsIn.below {w w' : World} {v : Value} {l : List Int} (h : IntsIn w v l) (hb : Below w.heap.size w w') : IntsIn w' v l := by
  obtain ⟨a, cap, rfl, hc, hm, hx⟩ := h
  refine ⟨a, cap, rfl, hc, hm, ?_⟩
  rcases hx with hx | ⟨ab, ao, rfl, hx⟩
  · exact .inl hx
  · exact .inr ⟨ab, ao, rfl, fun i y hi => (hb.cell (p := ⟨ab, ao + i, none⟩) (World.block_lt_of_cell? w _ (hx i y hi))).trans (hx i y hi)⟩
end Go.Proofs.YtejglhlodfhgkaaGreatDoor
namespace Go.Proofs.YtejglhlodfhgkaaGreatDoor
set_option linter.unusedVariables false
set_option linter.unusedSimpArgs false
open Go.RowKit
set_option maxRecDepth 100000
/-- are the first 32 numbers the same? -/
def eqB (f g : Nat → Int) : Bool := (List.range 32).all fun i => f i == g i
theorem eqB_self (f : Nat → Int) : eqB f f = true := by simp [eqB]
theorem eqItems32 (f g : Nat → Int) (w : World) : ∀ is : List Nat, (∀ i ∈ is, i < 32) → (Op.eqItems 9999 5 1 (rowOf .u8 32 f) (rowOf .u8 32 g) is).run Tryz.prog w = .ok (is.all fun i => f i == g i) w
  | [], _ => by simp [Op.eqItems]
  | i :: is, h => by
    have hi : i < 32 := h i (by simp)
    have ha : (isAgg 5).run Tryz.prog w = .ok false w := by kernel_rfl
    have hp : ∀ f : Nat → Int, (part 5 (rowOf .u8 32 f) (i * 1)).run Tryz.prog w = .ok (.int .u8 (f i)) w := fun f => by
      simp [part, Sem.run_bind, ha, rowOf_get .u8 32 f i hi]
    have ih := eqItems32 f g w is (fun j hj => h j (by simp [hj]))
    have pe : (Op.equalIn 9999 5 (.int .u8 (f i)) (.int .u8 (g i))).run Tryz.prog w = .ok (f i == g i) w := run_equalIn_int w 9998 5 .u8 .u8 _ _ Tryz.underlying5
    simp only [Op.eqItems, Sem.run_bind, hp, pe, Result.andThen_ok, List.all_cons]
    cases hb : (f i == g i)
    · simp
    · simpa using ih
theorem eq32 (f g : Nat → Int) (w : World) : (binOp .eql 53 (.agg (rowOf .u8 32 f)) (.agg (rowOf .u8 32 g))).run Tryz.prog w = .ok (.bool (eqB f g)) w := by
  rw [run_eql_struct, run_equalIn_array w 9999 (i := (Tryz.prog.info? 5).getD default) _ _ Tryz.underlying53 (by kernel_rfl), show Tryz.prog.cellsOf 5 = 1 by kernel_rfl, eqItems32 f g w _ (fun i hi => by simpa using hi)]
  rfl
theorem eq32_self (f : Nat → Int) (w : World) : (binOp .eql 53 (.agg (rowOf .u8 32 f)) (.agg (rowOf .u8 32 f))).run Tryz.prog w = .ok (.bool true) w := by rw [eq32, eqB_self]
end Go.Proofs.YtejglhlodfhgkaaGreatDoor
namespace Go.Proofs.YtejglhlodfhgkaaGreatDoor
set_option linter.unusedVariables false
set_option linter.unusedSimpArgs false
open Go.RowKit
set_option maxRecDepth 100000
set_option linter.unusedSimpArgs false
set_option linter.unusedVariables false
end Go.Proofs.YtejglhlodfhgkaaGreatDoor
namespace Go.Proofs.YtejglhlodfhgkaaGreatDoor
set_option linter.unusedVariables false
set_option linter.unusedSimpArgs false
open Go.RowKit
set_option maxRecDepth 100000
/-- are the params valid? -/
def kOk (D E : Int) : Prop := 1 ≤ D ∧ D ≤ 32 ∧ 0 ≤ E ∧ E ≤ 10
instance (D E : Int) : Decidable (kOk D E) := by unfold kOk; infer_instance
end Go.Proofs.YtejglhlodfhgkaaGreatDoor
namespace Go.Proofs.YtejglhlodfhgkaaGreatDoor
set_option linter.unusedVariables false
set_option linter.unusedSimpArgs false
open Go.RowKit
set_option maxRecDepth 100000
set_option linter.unusedSimpArgs false
set_option linter.unusedVariables false
structure VoOk (v : Vo) : Prop where
  k : -9223372036854775808 ≤ v.kind ∧ v.kind ≤ 9223372036854775807
  h : -9223372036854775808 ≤ v.height ∧ v.height ≤ 9223372036854775807
  r : -9223372036854775808 ≤ v.round ∧ v.round ≤ 9223372036854775807
theorem rowT_yields {ops : Array Oper} {S : World → Prop} {op : Oper} {a : Act} (hw : Region.wanted op (yielded ops a.tmps) = true) (ty : TypeId) (x : Operand) (ho : op.op = .load ty x)
    (b o : Nat) (hx : a.eval x = .pointer (some ⟨b, o, none⟩)) (cs : Array Value) (d : TypeDesc) (hS : ∀ w, S w → w.rangeAt b o cs.toList)
    (hu : Tryz.prog.underlying ty = some d) (hd : d.isRow = true) (hi : (Tryz.prog.info? ty).map (·.size) = some cs.size) : YieldsIf Tryz.prog ops S op (.agg cs) a := by
  have h := yieldsIf_load_mid (P := Tryz.prog) (S := S) hw ty x ho b o hx cs.toList d hS hu hd (by rw [hi, Array.length_toList])
  simpa using h
end Go.Proofs.YtejglhlodfhgkaaGreatDoor
