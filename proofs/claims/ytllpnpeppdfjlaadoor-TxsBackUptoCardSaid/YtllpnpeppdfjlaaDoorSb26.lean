/- Part 26 of the proof. -/
import Derived.Test.YtllpnpeppdfjlaaDoorSb2
import Derived.Test.YtllpnpeppdfjlaaDoorSb20
namespace Go.Proofs.YtllpnpeppdfjlaaDoor
set_option linter.unusedVariables false
set_option linter.unusedSimpArgs false
open Go.RowKit
set_option maxRecDepth 100000
set_option linter.unusedSimpArgs false
set_option linter.unusedVariables false
theorem eqFields_self15 (D : Nat) (A : Array Value) (w : World) : ∀ l : List Field, (∀ f ∈ l, f.name ≠ "_" ∧ ∃ u, (part f.type A f.offset).run Tryd.prog w = .ok u w ∧ (Op.equalIn D f.type u u).run Tryd.prog w = .ok true w) → (Op.eqFields D A A l).run Tryd.prog w = .ok true w
  | [], _ => by simp [Op.eqFields]
  | f :: l, h => by
    obtain ⟨n, u, hp, he⟩ := h f List.mem_cons_self
    have ih := eqFields_self15 D A w l fun g hg => h g (List.mem_cons_of_mem _ hg)
    rw [Op.eqFields, if_pos n]
    simp only [Sem.run_bind, hp, he, Result.andThen_ok, Bool.not_true, Bool.false_eq_true, if_false, ih]
theorem coinFields15 : (Tryd.prog.fieldsOf 23).toList.map (fun f => (f.type, f.offset, f.name != "_")) = [(9, 0, true), (3, 1, true)] := by kernel_rfl
theorem eqInCoin_self (dn : ByteArray) (am : Int) (w : World) : (Op.equalIn 10000 23 (.agg #[.string dn, .int .i64 am]) (.agg #[.string dn, .int .i64 am])).run Tryd.prog w = .ok true w := by
  rw [run_equalIn_struct w 9999 23 _ _ (by kernel_rfl) (by kernel_rfl)]
  have eS : (Op.equalIn 9999 9 (.string dn) (.string dn)).run Tryd.prog w = .ok true w := by
    have h := run_equalIn_string (P := Tryd.prog) w 9998 9 dn dn Tryd.underlying9
    rw [beq_self_eq_true] at h; exact h
  have eI : (Op.equalIn 9999 3 (.int .i64 am) (.int .i64 am)).run Tryd.prog w = .ok true w := by
    have h := run_equalIn_int (P := Tryd.prog) w 9998 3 .i64 .i64 am am Tryd.underlying3
    rw [beq_self_eq_true] at h; exact h
  have hf := coinFields15
  refine eqFields_self15 _ _ w _ fun f hm => ?_
  have hk : (f.type, f.offset, f.name != "_") ∈ (Tryd.prog.fieldsOf 23).toList.map (fun f => (f.type, f.offset, f.name != "_")) := List.mem_map.2 ⟨f, hm, rfl⟩
  rw [hf] at hk
  have hn : ∀ {t : TypeId} {o : Nat}, (f.type, f.offset, f.name != "_") = (t, o, true) → f.name ≠ "_" ∧ f.type = t ∧ f.offset = o := fun h => by
    simp only [Prod.mk.injEq, bne_iff_ne] at h
    exact ⟨h.2.2, h.1, h.2.1⟩
  simp only [List.mem_cons, List.not_mem_nil, or_false] at hk
  rcases hk with h | h <;> obtain ⟨h1, h2, h3⟩ := hn h <;> refine ⟨h1, ?_⟩ <;> rw [h2, h3]
  · exact ⟨.string dn, by kernel_rfl, eS⟩
  · exact ⟨.int .i64 am, by kernel_rfl, eI⟩
theorem neqCoin_self (dn : ByteArray) (am : Int) (w : World) : (binOp .neq 23 (.agg #[.string dn, .int .i64 am]) (.agg #[.string dn, .int .i64 am])).run Tryd.prog w = .ok (.bool false) w := by
  rw [run_neq_struct, eqInCoin_self]
  rfl
theorem guardCoin15 (x y : Operand) (u v : Array Value) (w : World) : (eqGuard .neq 23 x y (.agg u) (.agg v)).run Tryd.prog w = .ok () w := by
  have h1 : Tryd.prog.eqGuardType Tryd.prog.depth 23 = false := by kernel_rfl
  unfold eqGuard
  go_simp
theorem wpList_neqCoin {w : World} {ops : Array Oper} {rest : List Oper} {o : Oper} {a : Act} {Q : Exit → Act → World → Prop} (hgd : Region.wanted o (yielded ops a.tmps) = true) (x y : Operand) (ho : o.op = .binOp .neq 23 x y 23) (dn : ByteArray) (am : Int)
    (hx : a.eval x = .agg #[.string dn, .int .i64 am]) (hy : a.eval y = .agg #[.string dn, .int .i64 am]) (h : wpList Tryd.prog ops Q rest (a.put o.dst (.bool false)) w) : wpList Tryd.prog ops Q (o :: rest) a w := by
  refine BigFrame.wpList_want hgd fun K hK => ?_
  have hg := guardCoin15 x y #[.string dn, .int .i64 am] #[.string dn, .int .i64 am] w
  unfold Oper.wp execOp
  simp only [ho, hx, hy, Sem.run_bind, hg, neqCoin_self dn am w, Result.andThen_ok, Sem.run_pure]
  exact hK _ _ h
theorem row_yields15 {ops : Array Oper} {S : World → Prop} {op : Oper} {a : Act} (hw : Region.wanted op (yielded ops a.tmps) = true) (ty : TypeId) (x : Operand) (ho : op.op = .load ty x)
    (b o : Nat) (hx : a.eval x = .pointer (some ⟨b, o, none⟩)) (cs : Array Value) (d : TypeDesc) (hS : ∀ w, S w → w.rangeAt b o cs.toList)
    (hu : Tryd.prog.underlying ty = some d) (hd : d.isRow = true) (hi : (Tryd.prog.info? ty).map (·.size) = some cs.size) : YieldsIf Tryd.prog ops S op (.agg cs) a := by
  have h := yieldsIf_load_mid (P := Tryd.prog) (S := S) hw ty x ho b o hx cs.toList d hS hu hd (by rw [hi, Array.length_toList])
  simpa using h
end Go.Proofs.YtllpnpeppdfjlaaDoor
