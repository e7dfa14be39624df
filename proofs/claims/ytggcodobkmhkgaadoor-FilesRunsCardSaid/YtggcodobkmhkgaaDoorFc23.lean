/- Part 23 of the proof. -/
import Derived.Test.YtggcodobkmhkgaaDoorFc22
namespace Go.Proofs.YtggcodobkmhkgaaDoor
set_option linter.unusedVariables false
set_option linter.unusedSimpArgs false
open Go.RowKit Go.Maps Go.Proofs
set_option maxRecDepth 100000
theorem infoF4 : (Tryd.prog.info? 111).map (fun i => (i.zero, i.size, i.bytes)) = some (some noRF.v, 3, 48) := by kernel_rfl
/-- files that lie anywhere -/
def FilesAt (w : World) (v : Value) (L : List RF) : Prop := ∃ a cap, v = .slice a L.length cap ∧ (L = [] ∨ ∃ b off, a = some ⟨b, off, none⟩ ∧ b < w.heap.size ∧ ∀ i f, L[i]? = some f → w.rangeAt b (off + i * 3) f.cells)
theorem FilesAt.below {w w' : World} {v : Value} {L : List RF} (h : FilesAt w v L) (hb : Below w.heap.size w w') : FilesAt w' v L := by
  obtain ⟨a, cap, rfl, h⟩ := h
  refine ⟨a, cap, rfl, ?_⟩
  rcases h with h | ⟨b, off, rfl, hbl, h⟩
  · exact .inl h
  · exact .inr ⟨b, off, rfl, Nat.lt_of_lt_of_le hbl hb.size, fun i f hi j v hv => (hb.cell (p := ⟨b, off + i * 3 + j, none⟩) hbl).trans (h i f hi j v hv)⟩
theorem RF.cells_length (f : RF) : f.cells.length = 3 := rfl
theorem filesL_mem {L : List RF} {i : Nat} {v : Value} (h : (filesL L)[i]? = some v) : ∃ k f j, i = k * 3 + j ∧ L[k]? = some f ∧ f.cells[j]? = some v := by
  have hi : i < L.length * 3 := by rw [← filesL_length]; exact (List.getElem?_eq_some_iff.1 h).1
  have hk : i / 3 < L.length := by omega
  have hj : i % 3 < 3 := Nat.mod_lt _ (by omega)
  have e : i = i / 3 * 3 + i % 3 := by omega
  obtain ⟨u, hu⟩ : ∃ u, (L[i / 3]).cells[i % 3]? = some u := ⟨(L[i / 3]).cells[i % 3]'(by rw [RF.cells_length]; omega), List.getElem?_eq_getElem _⟩
  have := filesL_at (List.getElem?_eq_getElem hk) (i % 3) u hu
  rw [← e, h] at this
  injection this with this
  subst this
  exact ⟨_, _, _, e, List.getElem?_eq_getElem hk, hu⟩
theorem filesL_one (L : List RF) : ∀ u ∈ filesL L, u.oneCell' = true := fun u hu => by
  unfold filesL at hu
  obtain ⟨f, _, hf⟩ := List.mem_flatMap.1 hu
  simp [RF.cells] at hf
  rcases hf with rfl | rfl | rfl <;> rfl
/-- append of files to a slice of one's own -/
theorem run_append_files (w : World) (base : Nat) (v : Value) (A : List RF) (hown : w.ownsRow base 111 3 v A.length (filesL A)) (y : Value) (B : List RF) (hy : FilesAt w y B) (hl : A.length + B.length ≤ 2000) (hb : base ≤ w.heap.size) :
    ∃ v' w', (Builtin.append_ #[25, 25] 25 #[v, y]).run Tryd.prog w = .ok v' w' ∧ w'.ownsRow base 111 3 v' (A ++ B).length (filesL (A ++ B)) ∧ w.grownBy w' v.ownBlock ∧ OwnOf v v' w := by
  obtain ⟨i0, hi, hz0, hz1, hz2⟩ := info_parts infoF4
  obtain ⟨a, c, rfl, hx⟩ := hy
  rcases a with _ | ad
  · have hn : B = [] := by
      rcases hx with hx | ⟨_, _, h, _⟩
      · exact hx
      · cases h
    subst hn
    refine ⟨v, w, ?_, by simpa using hown, ⟨rfl, rfl, rfl, Nat.le_refl _, fun _ _ _ => rfl⟩, .inl rfl⟩
    rcases hown.2 with ⟨rfl, h0⟩ | ⟨g, cap, cur, rfl, _, _, hnc, _⟩
    · simp [Builtin.append_, run_underlying Tryd.underlying25, sizeOf, typeInfo, hi, Builtin.lenOf, Builtin.firstCells]
    · simp [Builtin.append_, run_underlying Tryd.underlying25, sizeOf, typeInfo, hi, Builtin.lenOf, Builtin.firstCells, hnc, storeCells]
  · have hcells : ∀ j u, (filesL B)[j]? = some u → w.cell? (ad.add j) = some u := fun j u hu => by
      rcases hx with rfl | ⟨b, off, h, _, hx⟩
      · simp [filesL] at hu
      · injection h with h; subst h
        obtain ⟨k, f, i, rfl, hk, hv⟩ := filesL_mem hu
        rw [Addr.add_mid, ← Nat.add_assoc]
        exact hx k f hk i u hv
    obtain ⟨v', w', hr, h1, h2, _, h4⟩ := run_append_own_at w base 25 25 111 i0 noRF.v 3 48 Tryd.underlying25 hi hz0 hz1 hz2 rfl (by decide) v A.length (filesL A) hown ad B.length c (filesL B) (filesL_length B) hcells (filesL_one B) (by unfold maxLen; omega) (by omega) hb
    exact ⟨v', w', hr, by rw [List.length_append, filesL_append]; exact h1, h2, h4.imp id fun h => ⟨_, h, Nat.le_refl _⟩⟩
theorem step_append_files {ops : Array Oper} {o : Oper} {a : Act} {w : World} {K : Act → World → Prop} {Q : Exit → Act → World → Prop} {E : Prop} (hw : Region.wanted o (yielded ops a.tmps) = true) (s x : Operand)
    (ho : o.op = .call { callee := .builtin .append, args := #[s, x], argTypes := #[25, 25] }) (hty : o.type = 25)
    (base : Nat) (v y : Value) (A B : List RF) (hs : a.eval s = v) (hown : w.ownsRow base 111 3 v A.length (filesL A)) (hx : a.eval x = y) (hy : FilesAt w y B) (hl : A.length + B.length ≤ 2000) (hb : base ≤ w.heap.size)
    (h : ∀ v' w', w'.ownsRow base 111 3 v' (A ++ B).length (filesL (A ++ B)) → w.grownBy w' v.ownBlock → OwnOf v v' w → K (a.put o.dst v') w') :
    if Region.wanted o (yielded ops a.tmps) = true then Oper.wp Tryd.prog o a w K Q else E := by
  rw [if_pos hw]
  obtain ⟨v', w', hr, h1, h2, h3⟩ := run_append_files w base v A hown y B hy hl hb
  unfold Oper.wp execOp
  simp only [ho, hty, resolve, invoke, builtin, Sem.run_bind, Sem.run_pure, Result.andThen_ok, List.map_toArray, List.map_cons, List.map_nil, hs, hx, hr]
  exact h v' w' h1 h2 h3
theorem wpList_append_files {w : World} {ops : Array Oper} {rest : List Oper} {o : Oper} {a : Act} {Q : Exit → Act → World → Prop} (hgd : o.guard = none) (s x : Operand)
    (ho : o.op = .call { callee := .builtin .append, args := #[s, x], argTypes := #[25, 25] }) (hty : o.type = 25)
    (base : Nat) (v y : Value) (A B : List RF) (hs : a.eval s = v) (hown : w.ownsRow base 111 3 v A.length (filesL A)) (hx : a.eval x = y) (hy : FilesAt w y B) (hl : A.length + B.length ≤ 2000) (hb : base ≤ w.heap.size)
    (h : ∀ v' w', w'.ownsRow base 111 3 v' (A ++ B).length (filesL (A ++ B)) → w.grownBy w' v.ownBlock → OwnOf v v' w → wpList Tryd.prog ops Q rest (a.put o.dst v') w') : wpList Tryd.prog ops Q (o :: rest) a w := by
  refine wpList_plain hgd fun K hK => ?_
  obtain ⟨v', w', hr, h1, h2, h3⟩ := run_append_files w base v A hown y B hy hl hb
  unfold Oper.wp execOp
  simp only [ho, hty, resolve, invoke, builtin, Sem.run_bind, Sem.run_pure, Result.andThen_ok, List.map_toArray, List.map_cons, List.map_nil, hs, hx, hr]
  exact hK _ _ (h v' w' h1 h2 h3)
end Go.Proofs.YtggcodobkmhkgaaDoor
