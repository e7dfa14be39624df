/- Part 40 of the proof. -/
import Derived.Test.YtejglhlodfhgkaaGreatDoorXv6
namespace Go.Proofs.YtejglhlodfhgkaaGreatDoor
set_option linter.unusedVariables false
set_option linter.unusedSimpArgs false
open Go.RowKit
set_option maxRecDepth 100000
set_option linter.unusedSimpArgs false
set_option linter.unusedVariables false
theorem run_append_rows {α : Type} {n bytes : Nat} {C : α → List Value} (hC : ∀ t, (C t).length = n) (T E : TypeId) (z : Value) (hT : Tryz.prog.underlying T = some (.slice E)) (hI : (Tryz.prog.info? E).map (fun i => (i.zero, i.size, i.bytes)) = some (some z, n, bytes)) (hz : z.cells.size = n) (hn : 0 < n)
    (w : World) (B : Nat) (v : Value) (l : List α) (hown : w.ownsRow B E n v l.length (l.flatMap C)) (y : Value) (m : List α) (hy : RowsIn n C w y m) (h1 : ∀ x ∈ m, ∀ u ∈ C x, u.oneCell' = true) (hl : (l.length + m.length) * bytes ≤ 140737488355328) (hlm : l.length + m.length ≤ maxLen) (hb : B ≤ w.heap.size) :
    ∃ v' w', (Builtin.append_ #[T, T] T #[v, y]).run Tryz.prog w = .ok v' w' ∧ w'.ownsRow B E n v' (l ++ m).length ((l ++ m).flatMap C) ∧ w.grownBy w' v.ownBlock ∧ (v'.ownBlock = v.ownBlock ∨ v'.ownBlock = some w.heap.size) := by
  obtain ⟨i0, hi, hz0, hz1, hz2⟩ := info_parts hI
  obtain ⟨a, c, rfl, hc, -, hx⟩ := hy
  rcases a with _ | ad
  · have hnil : m = [] := by
      rcases hx with hx | ⟨_, _, h, _⟩
      · exact hx
      · cases h
    subst hnil
    refine ⟨v, w, ?_, by simpa using hown, ⟨rfl, rfl, rfl, Nat.le_refl _, fun _ _ _ => rfl⟩, .inl rfl⟩
    rcases hown.2 with ⟨rfl, h0⟩ | ⟨g, cap, cur, rfl, _, _, hnc, _⟩
    · simp [Builtin.append_, run_underlying hT, sizeOf, typeInfo, hi, Builtin.lenOf, Builtin.firstCells]
    · simp [Builtin.append_, run_underlying hT, sizeOf, typeInfo, hi, Builtin.lenOf, Builtin.firstCells, hnc, storeCells]
  · have hcells : ∀ j u, (m.flatMap C)[j]? = some u → w.cell? (ad.add j) = some u := fun j u hu => by
      rcases hx with rfl | ⟨b, off, h, _, hx⟩
      · simp at hu
      · injection h with h; subst h
        have hjl : j < m.length * n := by rw [← flat_len hC m]; exact (List.getElem?_eq_some_iff.1 hu).1
        have hjm : j / n < m.length := Nat.div_lt_of_lt_mul (by rw [Nat.mul_comm]; exact hjl)
        have hm := List.getElem?_eq_getElem hjm
        have e := flat_get hC m (j / n) _ hm (j % n) (Nat.mod_lt _ hn)
        have hdm : j / n * n + j % n = j := by rw [Nat.mul_comm]; exact Nat.div_add_mod j n
        rw [hdm, hu] at e
        have := hx (j / n) _ hm (j % n) u e.symm
        rw [Nat.add_assoc, hdm] at this
        rw [Addr.add_mid]; exact this
    obtain ⟨v', w', hr, h3, h4, _, h5⟩ := run_append_own_at w B T T E i0 z n bytes hT hi hz0 hz1 hz2 hz hn v l.length (l.flatMap C) hown ad m.length c (m.flatMap C) (flat_len hC m) hcells (fun u hu => by
      obtain ⟨x, hx, hux⟩ := List.mem_flatMap.1 hu
      exact h1 x hx u hux) hlm hl hb
    exact ⟨v', w', hr, by rw [List.length_append, List.flatMap_append]; exact h3, h4, h5⟩
theorem wp_append_rows {α : Type} {n bytes : Nat} {C : α → List Value} (hC : ∀ t, (C t).length = n) (T E : TypeId) (z : Value) (hT : Tryz.prog.underlying T = some (.slice E)) (hI : (Tryz.prog.info? E).map (fun i => (i.zero, i.size, i.bytes)) = some (some z, n, bytes)) (hz : z.cells.size = n) (hn : 0 < n)
    {w : World} {o : Oper} {a : Act} {K : Act → World → Prop} {Q : Exit → Act → World → Prop} (s x : Operand) (ho : o.op = .call { callee := .builtin .append, args := #[s, x], argTypes := #[T, T] }) (hty : o.type = T)
    (B : Nat) (v : Value) (l : List α) (hs : a.eval s = v) (hown : w.ownsRow B E n v l.length (l.flatMap C)) (y : Value) (m : List α) (hx : a.eval x = y) (hy : RowsIn n C w y m) (h1 : ∀ x ∈ m, ∀ u ∈ C x, u.oneCell' = true) (hl : (l.length + m.length) * bytes ≤ 140737488355328) (hlm : l.length + m.length ≤ maxLen) (hb : B ≤ w.heap.size)
    (h : ∀ v' w', w'.ownsRow B E n v' (l ++ m).length ((l ++ m).flatMap C) → w.grownBy w' v.ownBlock → (v'.ownBlock = v.ownBlock ∨ v'.ownBlock = some w.heap.size) → K (a.put o.dst v') w') : o.wp Tryz.prog a w K Q := by
  obtain ⟨v', w', hr, h2, h3, h4⟩ := run_append_rows hC T E z hT hI hz hn w B v l hown y m hy h1 hl hlm hb
  unfold Oper.wp execOp
  simp only [ho, hty, resolve, invoke, builtin, Sem.run_bind, Sem.run_pure, Result.andThen_ok, List.map_toArray, List.map_cons, List.map_nil, hs, hx, hr]
  exact h v' w' h2 h3 h4
end Go.Proofs.YtejglhlodfhgkaaGreatDoor
