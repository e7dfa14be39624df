/- A Writer in memory; New, add, Done; bytes.Clone. -/
import Derived.Test.YtikpcfcadddplaaVar
namespace Go.Proofs.Ytikpcfcadddplaa
open Go.RowKit
set_option maxRecDepth 100000
/-- where the array of a slice lies, if it is old, it is that of the elder slice -/
def OwnOf (v v' : Value) (w : World) : Prop := v'.ownBlock = v.ownBlock ∨ ∃ k, v'.ownBlock = some k ∧ w.heap.size ≤ k
/-- block p is a Writer: its slice v is its own and holds xs -/
def WAt (w : World) (p : Nat) (v : Value) (xs : List Int) : Prop :=
  w.heap[p]? = some (.cells #[v] 54 (0, 0)) ∧ w.ownsRow (p + 1) 5 1 v xs.length (byteVals xs)
/-- of the blocks that there are, only p and the array of v may have turned; the array of v' is that of v or new -/
structure WStep (p : Nat) (v v' : Value) (w w' : World) : Prop where
  os : w'.os = w.os
  tape : w'.tape = w.tape
  output : w'.output = w.output
  size : w.heap.size ≤ w'.heap.size
  block : ∀ k, k < w.heap.size → k ≠ p → some k ≠ v.ownBlock → w'.heap[k]? = w.heap[k]?
  own : OwnOf v v' w
theorem WStep.refl (p : Nat) (v : Value) (w : World) : WStep p v v w w := ⟨rfl, rfl, rfl, Nat.le_refl _, fun _ _ _ _ => rfl, .inl rfl⟩
theorem WStep.trans {p : Nat} {v v' v'' : Value} {a b c : World} (h : WStep p v v' a b) (k : WStep p v' v'' b c) : WStep p v v'' a c := by
  refine ⟨k.os.trans h.os, k.tape.trans h.tape, k.output.trans h.output, Nat.le_trans h.size k.size, fun i hi hp hv => ?_, ?_⟩
  · refine (k.block i (Nat.lt_of_lt_of_le hi h.size) hp fun e => ?_).trans (h.block i hi hp hv)
    rcases h.own with ho | ⟨j, ho, hj⟩
    · exact hv (e.trans ho)
    · rw [ho] at e; injection e; omega
  · rcases k.own with ho | ⟨j, ho, hj⟩
    · rcases h.own with ho2 | ⟨j, ho2, hj⟩
      · exact .inl (ho.trans ho2)
      · exact .inr ⟨j, ho.trans ho2, hj⟩
    · exact .inr ⟨j, ho, Nat.le_trans h.size hj⟩
theorem WStep.of_below {p : Nat} {v : Value} {w w' : World} (h : Below w.heap.size w w') : WStep p v v w w' :=
  ⟨h.os, h.tape, h.output, h.size, fun k hk _ _ => h.block k hk, .inl rfl⟩
theorem WAt.lt {w : World} {p : Nat} {v : Value} {xs : List Int} (h : WAt w p v xs) : p < w.heap.size := (Array.getElem?_eq_some_iff.1 h.1).1
theorem WAt.ne {w : World} {p : Nat} {v : Value} {xs : List Int} (h : WAt w p v xs) : ∀ k, v.ownBlock = some k → p < k ∧ k < w.heap.size := fun k hk => by
  have := h.2.lt k hk; omega
theorem WAt.below {w w' : World} {p : Nat} {v : Value} {xs : List Int} (h : WAt w p v xs) (hb : Below w.heap.size w w') : WAt w' p v xs := by
  refine ⟨(hb.block p h.lt).trans h.1, h.2.kept (row := none) ⟨hb.os, hb.tape, hb.output, hb.size, fun k hk _ => hb.block k hk⟩ ?_⟩
  cases v.ownBlock <;> simp
/-- what lies below the Writer is as it was -/
theorem WStep.below {p B : Nat} {v v' : Value} {xs : List Int} {w w' : World} (h : WStep p v v' w w') (hw : WAt w p v xs) (hB : B ≤ p) : Below B w w' :=
  ⟨h.os, h.tape, h.output, h.size, fun k hk => h.block k (by have := hw.lt; omega) (by omega) fun e => by have := hw.ne k e.symm; omega⟩
theorem WAt.cell {w : World} {p : Nat} {v : Value} {xs : List Int} (h : WAt w p v xs) : w.cell? ⟨p, 0, none⟩ = some v := by
  rw [cell_of_row w p 0 _ _ _ h.1]; rfl
theorem WAt.free {w : World} {p : Nat} {v : Value} {xs : List Int} (h : WAt w p v xs) : w.frozen? ⟨p, 0, none⟩ = false := frozen_of_row w p 0 _ _ h.1
theorem WAt.wide {w : World} {p : Nat} {v : Value} {xs : List Int} (h : WAt w p v xs) : ∃ a c, v = .slice a xs.length c := by
  rcases h.2.2 with ⟨rfl, h0⟩ | ⟨g, c, _, rfl, _⟩
  · exact ⟨none, 0, by rw [h0]⟩
  · exact ⟨_, c, rfl⟩
theorem owns_wide {w : World} {base n : Nat} {v : Value} {vs : List Value} (h : w.ownsRow base 5 1 v n vs) : ∃ a c, v = .slice a n c := by
  rcases h.2 with ⟨rfl, h0⟩ | ⟨g, c, _, rfl, _⟩
  · exact ⟨none, 0, by rw [h0]⟩
  · exact ⟨_, c, rfl⟩
theorem WAt.grown {w w' : World} {p : Nat} {v : Value} {xs : List Int} (h : WAt w p v xs) (hg : w.grownBy w' v.ownBlock) : w'.heap[p]? = some (.cells #[v] 54 (0, 0)) :=
  (hg.block p h.lt fun e => by have := h.ne p e.symm; omega).trans h.1
/-- the appended slice is stored -/
theorem WAt.stored {w w1 : World} {p : Nat} {v v' : Value} {xs ys : List Int} (h : WAt w p v xs) (hg : w.grownBy w1 v.ownBlock) (ho : w1.ownsRow (p + 1) 5 1 v' (xs.length + ys.length) (byteVals xs ++ byteVals ys)) (hof : OwnOf v v' w) :
    WAt (w1.setCell ⟨p, 0, none⟩ v') p v' (xs ++ ys) ∧ WStep p v v' w (w1.setCell ⟨p, 0, none⟩ v') := by
  have h1 := h.grown hg
  refine ⟨⟨?_, ?_⟩, hg.os, hg.tape, hg.output, ?_, fun k hk hp hv => ?_, hof⟩
  · rw [heap_setCell_same w1 p 0 _ _ _ h1]; rfl
  · rw [List.length_append, byteVals_append]
    refine ho.kept (row := some p) ⟨rfl, rfl, rfl, by simp [World.setCell], fun k _ hk => Below.heap_setCell _ _ _ _ fun e => hk (by rw [e])⟩ ?_
    cases hb : v'.ownBlock with
    | none => exact .inl rfl
    | some k => right; intro e; injection e with e; have := ho.lt k hb; omega
  · exact Nat.le_trans hg.size (by simp [World.setCell])
  · rw [Below.heap_setCell _ _ _ _ (by exact hp)]; exact hg.block k hk hv
/-- append of bytes to a slice of one's own -/
theorem run_append_bytes (w : World) (base : Nat) (v : Value) (n : Nat) (vs : List Value) (hown : w.ownsRow base 5 1 v n vs) (y : Value) (ys : List Int) (hy : BytesIn w y ys) (hl : n + ys.length ≤ 140737488355328) (hb : base ≤ w.heap.size) :
    ∃ v' w', (Builtin.append_ #[25, 25] 25 #[v, y]).run Try.prog w = .ok v' w' ∧ w'.ownsRow base 5 1 v' (n + ys.length) (vs ++ byteVals ys) ∧ w.grownBy w' v.ownBlock ∧ OwnOf v v' w := by
  obtain ⟨i0, hi, hz0, hz1, hz2⟩ := info_parts infoU8
  obtain ⟨a, c, rfl, hc, hm, hx⟩ := hy
  rcases a with _ | ad
  · have hn : ys = [] := by
      rcases hx with hx | ⟨_, _, h, _⟩
      · exact hx
      · cases h
    subst hn
    refine ⟨v, w, ?_, by simpa [byteVals] using hown, ⟨rfl, rfl, rfl, Nat.le_refl _, fun _ _ _ => rfl⟩, .inl rfl⟩
    rcases hown.2 with ⟨rfl, rfl⟩ | ⟨g, cap, cur, rfl, _, _, hnc, _⟩
    · simp [Builtin.append_, run_underlying Try.underlying25, sizeOf, typeInfo, hi, Builtin.lenOf, Builtin.firstCells]
    · simp [Builtin.append_, run_underlying Try.underlying25, sizeOf, typeInfo, hi, Builtin.lenOf, Builtin.firstCells, hnc, storeCells]
  · have hcells : ∀ j u, (byteVals ys)[j]? = some u → w.cell? (ad.add j) = some u := fun j u hu => by
      rcases hx with rfl | ⟨ab, ao, h, hx⟩
      · simp [byteVals] at hu
      · injection h with h; subst h
        rw [Addr.add_mid]
        simp only [byteVals, List.getElem?_map] at hu
        cases hj : ys[j]? with
        | none => rw [hj] at hu; cases hu
        | some x => rw [hj] at hu; cases hu; exact hx j x hj
    obtain ⟨v', w', hr, h1, h2, _, h4⟩ := run_append_own_at w base 25 25 5 i0 (.int .u8 0) 1 1 Try.underlying25 hi hz0 hz1 hz2 rfl (by decide) v n vs hown ad ys.length c (byteVals ys) (by rw [byteVals_length, Nat.mul_one]) hcells (byteVals_one ys) (by unfold maxLen; omega) (by omega) hb
    exact ⟨v', w', hr, h1, h2, h4.imp id fun h => ⟨_, h, Nat.le_refl _⟩⟩
theorem wpList_append_bytes {w : World} {ops : Array Oper} {rest : List Oper} {o : Oper} {a : Act} {Q : Exit → Act → World → Prop} (hgd : o.guard = none) (s x : Operand)
    (ho : o.op = .call { callee := .builtin .append, args := #[s, x], argTypes := #[25, 25] }) (hty : o.type = 25)
    (base : Nat) (v : Value) (n : Nat) (vs : List Value) (hs : a.eval s = v) (hown : w.ownsRow base 5 1 v n vs) (y : Value) (ys : List Int) (hx : a.eval x = y) (hy : BytesIn w y ys) (hl : n + ys.length ≤ 140737488355328) (hb : base ≤ w.heap.size)
    (h : ∀ v' w', w'.ownsRow base 5 1 v' (n + ys.length) (vs ++ byteVals ys) → w.grownBy w' v.ownBlock → OwnOf v v' w → wpList Try.prog ops Q rest (a.put o.dst v') w') : wpList Try.prog ops Q (o :: rest) a w := by
  refine wpList_plain hgd fun K hK => ?_
  obtain ⟨v', w', hr, h1, h2, h3⟩ := run_append_bytes w base v n vs hown y ys hy hl hb
  unfold Oper.wp execOp
  simp only [ho, hty, resolve, invoke, builtin, Sem.run_bind, Sem.run_pure, Result.andThen_ok, List.map_toArray, List.map_cons, List.map_nil, hs, hx, hr]
  exact hK _ _ (h v' w' h1 h2 h3)
theorem new_any (w : World) : Calls Try.prog 6 #[] w fun e w' => e = .returned (.pointer (some ⟨w.heap.size, 0, none⟩)) ∧ WAt w' w.heap.size (.slice none 0 0) [] ∧ Below w.heap.size w w' := by
  go_enter Try.func6, Try.ntmps6
  go_wp2
  go_ret
  exact ⟨rfl, ⟨heap_alloc_new w _, World.ownsRow_nil _ _ _ _⟩, below_alloc w _⟩
set_option maxRecDepth 100000 in
set_option maxHeartbeats 400000 in
theorem add_any (p : Nat) (v y : Value) (xs ys : List Int) (w : World) (hw : WAt w p v xs) (hy : BytesIn w y ys) (hl : xs.length + ys.length ≤ 140737488355328) :
    Calls Try.prog 31 #[.pointer (some ⟨p, 0, none⟩), y] w fun e w' => e = .returned (.pointer (some ⟨p, 0, none⟩)) ∧ ∃ v', WAt w' p v' (xs ++ ys) ∧ WStep p v v' w w' := by
  have HW := Lib.hid hw
  have HY := Lib.hid hy
  have HL := Lib.hid hl
  have hc := hw.cell
  clear hw hy hl
  go_enter Try.func31, Try.ntmps31
  go_upto_region 2 with (fail)
  go_wp2_with (at_builtin; refine wpList_append_bytes rfl (.tmp 11) (.tmp 12) rfl rfl (p + 1) v xs.length (byteVals xs) rfl HW.out.2 y ys rfl HY.out HL.out (by have := HW.out.lt; omega) ?_; intro v' w1 ho hg hof; obtain ⟨a1, c1, rfl⟩ := owns_wide ho; have H := Lib.hid (HW.out.stored hg ho hof); have h1 := HW.out.grown hg; have hc1 := cell_of_row w1 p 0 _ _ _ h1; have hf1 := frozen_of_row w1 p 0 _ _ h1; clear hc hg ho hof h1)
  go_ret
  exact ⟨rfl, _, H.out.1, H.out.2⟩
end Go.Proofs.Ytikpcfcadddplaa
