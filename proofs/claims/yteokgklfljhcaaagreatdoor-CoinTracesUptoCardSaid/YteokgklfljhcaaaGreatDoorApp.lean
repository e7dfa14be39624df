/- Slices of bytes that a call makes: append to one's own; bytes.Clone; an error's value. -/
import Derived.Test.YteokgklfljhcaaaGreatDoorBase
namespace Go.Proofs.YteokgklfljhcaaaGreatDoor
open Go.RowKit
set_option maxRecDepth 100000
/-- where the array of a slice lies, if it is old, it is that of the elder slice -/
def OwnOf (v v' : Value) (w : World) : Prop := v'.ownBlock = v.ownBlock ∨ ∃ k, v'.ownBlock = some k ∧ w.heap.size ≤ k
theorem owns_wide {w : World} {base n : Nat} {v : Value} {vs : List Value} (h : w.ownsRow base 5 1 v n vs) : ∃ a c, v = .slice a n c := by
  rcases h.2 with ⟨rfl, h0⟩ | ⟨g, c, _, rfl, _⟩
  · exact ⟨none, 0, by rw [h0]⟩
  · exact ⟨_, c, rfl⟩
/-- append of bytes to a slice of one's own -/
theorem run_append_bytes (w : World) (base : Nat) (v : Value) (n : Nat) (vs : List Value) (hown : w.ownsRow base 5 1 v n vs) (y : Value) (ys : List Int) (hy : BytesIn w y ys) (hl : n + ys.length ≤ 140737488355328) (hb : base ≤ w.heap.size) :
    ∃ v' w', (Builtin.append_ #[39, 39] 39 #[v, y]).run Tryz.prog w = .ok v' w' ∧ w'.ownsRow base 5 1 v' (n + ys.length) (vs ++ byteVals ys) ∧ w.grownBy w' v.ownBlock ∧ OwnOf v v' w := by
  obtain ⟨i0, hi, hz0, hz1, hz2⟩ := info_parts infoU8
  obtain ⟨a, c, rfl, hc, hm, hx⟩ := hy
  rcases a with _ | ad
  · have hn : ys = [] := by
      rcases hx with hx | ⟨_, _, h, _⟩
      · exact hx
      · cases h
    subst hn
    refine ⟨v, w, ?_, by simpa [byteVals] using hown, ⟨rfl, rfl, rfl, Nat.le_refl _, fun _ _ _ => rfl⟩, .inl rfl⟩
    rcases hown.2 with ⟨rfl, rfl⟩ | ⟨g, cap, cur, rfl, _, _, hnc, _⟩
    · simp [Builtin.append_, run_underlying Tryz.underlying39, sizeOf, typeInfo, hi, Builtin.lenOf, Builtin.firstCells]
    · simp [Builtin.append_, run_underlying Tryz.underlying39, sizeOf, typeInfo, hi, Builtin.lenOf, Builtin.firstCells, hnc, storeCells]
  · have hcells : ∀ j u, (byteVals ys)[j]? = some u → w.cell? (ad.add j) = some u := fun j u hu => by
      rcases hx with rfl | ⟨ab, ao, h, hx⟩
      · simp [byteVals] at hu
      · injection h with h; subst h
        rw [Addr.add_mid]
        simp only [byteVals, List.getElem?_map] at hu
        cases hj : ys[j]? with
        | none => rw [hj] at hu; cases hu
        | some x => rw [hj] at hu; cases hu; exact hx j x hj
    obtain ⟨v', w', hr, h1, h2, _, h4⟩ := run_append_own_at w base 39 39 5 i0 (.int .u8 0) 1 1 Tryz.underlying39 hi hz0 hz1 hz2 rfl (by decide) v n vs hown ad ys.length c (byteVals ys) (by rw [byteVals_length, Nat.mul_one]) hcells (byteVals_one ys) (by unfold maxLen; omega) (by omega) hb
    exact ⟨v', w', hr, h1, h2, h4.imp id fun h => ⟨_, h, Nat.le_refl _⟩⟩
theorem wpList_append_bytes {w : World} {ops : Array Oper} {rest : List Oper} {o : Oper} {a : Act} {Q : Exit → Act → World → Prop} (hgd : o.guard = none) (s x : Operand)
    (ho : o.op = .call { callee := .builtin .append, args := #[s, x], argTypes := #[39, 39] }) (hty : o.type = 39)
    (base : Nat) (v : Value) (n : Nat) (vs : List Value) (hs : a.eval s = v) (hown : w.ownsRow base 5 1 v n vs) (y : Value) (ys : List Int) (hx : a.eval x = y) (hy : BytesIn w y ys) (hl : n + ys.length ≤ 140737488355328) (hb : base ≤ w.heap.size)
    (h : ∀ v' w', w'.ownsRow base 5 1 v' (n + ys.length) (vs ++ byteVals ys) → w.grownBy w' v.ownBlock → OwnOf v v' w → wpList Tryz.prog ops Q rest (a.put o.dst v') w') : wpList Tryz.prog ops Q (o :: rest) a w := by
  refine wpList_plain hgd fun K hK => ?_
  obtain ⟨v', w', hr, h1, h2, h3⟩ := run_append_bytes w base v n vs hown y ys hy hl hb
  unfold Oper.wp execOp
  simp only [ho, hty, resolve, invoke, builtin, Sem.run_bind, Sem.run_pure, Result.andThen_ok, List.map_toArray, List.map_cons, List.map_nil, hs, hx, hr]
  exact hK _ _ (h v' w' h1 h2 h3)
theorem owns_in {w : World} {base : Nat} {v : Value} {xs : List Int} (h : w.ownsRow base 5 1 v xs.length (byteVals xs)) (hl : xs.length ≤ maxLen) : BytesIn w v xs := by
  rcases h.2 with ⟨rfl, h0⟩ | ⟨g, c, cur, rfl, hb, hg, hc, hm, hs, ht⟩
  · obtain rfl := List.eq_nil_of_length_eq_zero h0
    exact ⟨none, 0, rfl, Nat.le_refl _, hl, .inl rfl⟩
  · refine ⟨_, c, rfl, hc, hl, .inr ⟨g, 0, rfl, fun i x hi => ?_⟩⟩
    have := h.cells (g := g) rfl i (.int .u8 x) (by simp [byteVals, hi])
    rw [Addr.add_mid] at this
    exact this
theorem eqNil_some (ad : Addr) (n c : Nat) (w : World) : (binOp .eql 39 (.slice (some ad) n c) (.slice none 0 0)).run Tryz.prog w = .ok (.bool false) w := by kernel_rfl
theorem eqNil_none (n c : Nat) (w : World) : (binOp .eql 39 (.slice none n c) (.slice none 0 0)).run Tryz.prog w = .ok (.bool true) w := by kernel_rfl
set_option maxRecDepth 100000 in
set_option maxHeartbeats 400000 in
theorem clone_any (y : Value) (ys : List Int) (w : World) (hy : BytesIn w y ys) (hl : ys.length ≤ 140737488355328) :
    Calls Tryz.prog 147 #[y] w fun e w' => ∃ v', e = .returned v' ∧ w'.ownsRow w.heap.size 5 1 v' ys.length (byteVals ys) ∧ Below w.heap.size w w' := by
  have HY := Lib.hid hy
  have HL := Lib.hid hl
  obtain ⟨a, c, rfl, hc, hm, hx⟩ := hy
  clear hl
  cases a with
  | none =>
    have hn : ys = [] := by
      rcases hx with hx | ⟨_, _, h, _⟩
      · exact hx
      · cases h
    subst hn
    clear hc hm hx
    have h1 := eqNil_none 0 c
    go_enter Tryz.func147, Tryz.ntmps147
    go_wp2_with (fail)
    go_ret
    exact ⟨_, rfl, World.ownsRow_nil _ _ _ _, Below.refl _ _⟩
  | some ad =>
    clear hc hm hx
    have h1 := eqNil_some ad ys.length c
    go_enter Tryz.func147, Tryz.ntmps147
    have HO := Lib.hid (World.ownsRow_lit (w := w) (base := w.heap.size) (e := 5) (size := 1) #[] 0 (Nat.le_refl _) (by simp [maxLen]) rfl)
    have HB := Lib.hid (below_alloc w (.cells #[] 5))
    go_wp2_with (at_builtin; refine wpList_append_bytes rfl (.tmp 5) (.tmp 6) rfl rfl w.heap.size _ 0 [] rfl HO.out (.slice (some ad) ys.length c) ys rfl (HY.out.below HB.out) (by have := HL.out; omega) (by simp) ?_; intro v' w1 ho hg _; have H := Lib.hid ho; have HB1 := Lib.hid (HB.out.grown hg (by simp) (fun k hk => (HO.out.lt k hk).1)); clear ho hg)
    go_ret
    refine ⟨_, rfl, ?_, HB1.out⟩
    have := H.out
    rw [Nat.zero_add, List.nil_append] at this
    exact this
/-- an error, by its number -/
def errV : Option Nat → Value
  | none => .nilIface
  | some n => .iface 78 (.int .i64 n)
theorem nil_in (w : World) : BytesIn w (.slice none 0 0) [] := ⟨_, _, rfl, by simp, by simp [maxLen], .inl rfl⟩
end Go.Proofs.YteokgklfljhcaaaGreatDoor
