/- Part 44 of the proof. -/
import Derived.Test.YtejglhlodfhgkaaGreatDoorXv1
import Derived.Test.YtejglhlodfhgkaaGreatDoorXv41
import Derived.Test.YtejglhlodfhgkaaGreatDoorXv43
namespace Go.Proofs.YtejglhlodfhgkaaGreatDoor
set_option linter.unusedVariables false
set_option linter.unusedSimpArgs false
open Go.RowKit
set_option maxRecDepth 100000
set_option linter.unusedSimpArgs false
set_option linter.unusedVariables false
theorem wp_append_bytes15 {w : World} {o : Oper} {a : Act} {K : Act → World → Prop} {Q : Exit → Act → World → Prop} (s x : Operand)
    (ho : o.op = .call { callee := .builtin .append, args := #[s, x], argTypes := #[25, 25] }) (hty : o.type = 25)
    (base : Nat) (v : Value) (n : Nat) (vs : List Value) (hs : a.eval s = v) (hown : w.ownsRow base 5 1 v n vs) (y : Value) (ys : List Int) (hx : a.eval x = y) (hy : BytesIn w y ys) (hl : n + ys.length ≤ 140737488355328) (hb : base ≤ w.heap.size)
    (h : ∀ v' w', w'.ownsRow base 5 1 v' (n + ys.length) (vs ++ byteVals ys) → w.grownBy w' v.ownBlock → OwnOf v v' w → K (a.put o.dst v') w') : o.wp Tryz.prog a w K Q := by
  obtain ⟨v', w', hr, h1, h2, h3⟩ := run_append_bytes w base v n vs hown y ys hy hl hb
  unfold Oper.wp execOp
  simp only [ho, hty, resolve, invoke, builtin, Sem.run_bind, Sem.run_pure, Result.andThen_ok, List.map_toArray, List.map_cons, List.map_nil, hs, hx, hr]
  exact h v' w' h1 h2 h3
theorem wp_one15D {w : World} {o : Oper} {a : Act} {K : Act → World → Prop} {Q : Exit → Act → World → Prop} (y : Operand) (ho : o.op = .buildSlice 110 1 #[(0, y)]) (x : Tb) (hok : ∃ a n c, x.bv = .slice a n c) (hx : a.eval y = x.bv)
    (h : K (a.put o.dst (.slice (some ⟨w.heap.size, 0, none⟩) 1 1)) (w.alloc (.cells (tdL x).toArray 25))) : o.wp Tryz.prog a w K Q := by
  obtain ⟨i0, hi, hz0, hz1, hz2⟩ := info_parts info15D
  refine wp_buildSlice 110 25 1 #[(0, y)] ho (tdL x).toArray i0 _ Tryz.underlying110 hi hz0 (by rw [hz1]; decide) (by rw [hz1]; decide) ?_ h
  rw [hz1]
  simpa [hx] using fill15D x hok
theorem gb_below15 {w w' : World} (h : w.grownBy w' none) : Below w.heap.size w w' := ⟨h.os, h.tape, h.output, h.size, fun k hk => h.block k hk (fun e => by cases e)⟩
theorem own_base15 {w : World} {B B' n m : Nat} {ty : TypeId} {v : Value} {vs : List Value} (h : w.ownsRow B ty n v m vs) (hb : B' ≤ B) : w.ownsRow B' ty n v m vs :=
  ⟨h.1, h.2.imp id fun ⟨g, cap, cur, e, hg, r⟩ => ⟨g, cap, cur, e, Nat.le_trans hb hg, r⟩⟩
theorem gvi_data {w1 wl wm : World} {q g0 : Nat} {k : Int} {tv iv dv v8 : Value} {ts : List ByteArray} {is : List Int} {ds : List Tb} {t : Tb} (m : GvI w1 q k tv iv dv ts is ds wl) (hg : wl.grownBy wm dv.ownBlock) (ho : wm.ownsRow (q + 1) 25 1 v8 (ds ++ [t]).length ((ds ++ [t]).flatMap tdL)) (hno : v8.ownBlock = dv.ownBlock ∨ v8.ownBlock = some wl.heap.size)
    (hb : wl.ownsRow g0 5 1 t.bv t.bs.length (byteVals t.bs)) (hbi : BytesIn wl t.bv t.bs) (hd : ∀ i, dv.ownBlock = some i → i < g0) (hq : q + 1 ≤ g0) : GvI w1 q k tv iv v8 ts is (ds ++ [t]) (wm.setCell ⟨q, 3, none⟩ v8) := by
  have hv8 : ∀ j, v8.ownBlock = some j → dv.ownBlock = some j ∨ j = wl.heap.size := fun j hj => by
    rcases hno with h | h
    · exact .inl (h ▸ hj)
    · rw [h] at hj; cases hj; exact .inr rfl
  have key : ∀ t' : Tb, BytesIn wl t'.bv t'.bs → (∀ j, t'.bv.ownBlock = some j → q + 1 ≤ j ∧ j < wl.heap.size ∧ dv.ownBlock ≠ some j) → BytesIn wm t'.bv t'.bs ∧ ∀ j, t'.bv.ownBlock = some j → q + 1 ≤ j ∧ j < wm.heap.size ∧ v8.ownBlock ≠ some j := fun t' h1 h2 =>
    ⟨bytes_blk15 h1 fun _ j hj => hg.block j (h2 j hj).2.1 (fun e => (h2 j hj).2.2 e.symm), fun j hj => by
      have h3 := h2 j hj
      refine ⟨h3.1, Nat.lt_of_lt_of_le h3.2.1 hg.size, fun e => ?_⟩
      rcases hv8 j e with h | h
      · exact h3.2.2 h
      · omega⟩
  refine m.grow (o := 3) hg (fun j e => (m.d.lt j e).1) rfl (own_stay11 m.t fun j hj => hg.block j (m.t.lt j hj).2 (fun e => own_ne15' m.d m.t (by decide) j hj e.symm)) (own_stay11 m.i fun j hj => hg.block j (m.i.lt j hj).2 (fun e => own_ne15' m.d m.i (by decide) j hj e.symm)) ho fun t' ht' => ?_
  rcases List.mem_append.1 ht' with h | h
  · exact key t' (m.e t' h).1 (m.e t' h).2
  · rw [List.mem_singleton.1 h]
    refine key t hbi fun j hj => ?_
    have h3 := hb.lt j hj
    refine ⟨by omega, h3.2, fun e => ?_⟩
    have := hd j e
    omega
end Go.Proofs.YtejglhlodfhgkaaGreatDoor
