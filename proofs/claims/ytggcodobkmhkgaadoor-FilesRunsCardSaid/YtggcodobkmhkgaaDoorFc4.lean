/- Part 4 of the proof. -/
import Derived.Test.YtggcodobkmhkgaaDoorFc2
import Derived.Test.YtggcodobkmhkgaaDoorFc3
namespace Go.Proofs.YtggcodobkmhkgaaDoor
set_option linter.unusedVariables false
set_option linter.unusedSimpArgs false
open Go.RowKit Go.Maps
set_option maxRecDepth 100000
/-- of the cells that there are those of F alone may turn; new blocks may come -/
structure Keep (F : Nat → Nat → Prop) (w w' : World) : Prop where
  os : w'.os = w.os
  tape : w'.tape = w.tape
  output : w'.output = w.output
  size : w.heap.size ≤ w'.heap.size
  block : ∀ k, k < w.heap.size → (∀ o, ¬ F k o) → w'.heap[k]? = w.heap[k]?
  row : ∀ k cur T, w.heap[k]? = some (.cells cur T (0, 0)) → ∃ cur', w'.heap[k]? = some (.cells cur' T (0, 0)) ∧ cur'.size = cur.size ∧ ∀ o, ¬ F k o → cur'[o]? = cur[o]?
theorem Keep.of_below {F : Nat → Nat → Prop} {w w' : World} (h : Below w.heap.size w w') : Keep F w w' :=
  ⟨h.os, h.tape, h.output, h.size, fun k hk _ => h.block k hk, fun k cur T hc => ⟨cur, (h.block k (Array.getElem?_eq_some_iff.1 hc).1).trans hc, rfl, fun _ _ => rfl⟩⟩
theorem Keep.refl (F : Nat → Nat → Prop) (w : World) : Keep F w w := .of_below (Below.refl _ _)
theorem Keep.trans {F G : Nat → Nat → Prop} {a b c : World} (h : Keep F a b) (k : Keep G b c) (hG : ∀ i o, i < a.heap.size → G i o → F i o) : Keep F a c := by
  refine ⟨k.os.trans h.os, k.tape.trans h.tape, k.output.trans h.output, Nat.le_trans h.size k.size, fun i hi hF => ?_, fun i cur T hc => ?_⟩
  · exact (k.block i (Nat.lt_of_lt_of_le hi h.size) fun o ho => hF o (hG i o hi ho)).trans (h.block i hi hF)
  · have hi := (Array.getElem?_eq_some_iff.1 hc).1
    obtain ⟨c1, h1, s1, e1⟩ := h.row i cur T hc
    obtain ⟨c2, h2, s2, e2⟩ := k.row i c1 T h1
    exact ⟨c2, h2, s2.trans s1, fun o ho => (e2 o fun hg => ho (hG i o hi hg)).trans (e1 o ho)⟩
theorem Keep.mono {F G : Nat → Nat → Prop} {a b : World} (h : Keep F a b) (hG : ∀ i o, i < a.heap.size → F i o → G i o) : Keep G a b :=
  ⟨h.os, h.tape, h.output, h.size, fun k hk hn => h.block k hk fun o ho => hn o (hG k o hk ho), fun k cur T hc => by
    obtain ⟨c, h1, h2, h3⟩ := h.row k cur T hc
    exact ⟨c, h1, h2, fun o ho => h3 o fun hf => ho (hG k o (Array.getElem?_eq_some_iff.1 hc).1 hf)⟩⟩
theorem Keep.below {F : Nat → Nat → Prop} {a b : World} {B : Nat} (h : Keep F a b) (hB : ∀ i o, i < B → ¬ F i o) (hs : B ≤ a.heap.size) : Below B a b :=
  ⟨h.os, h.tape, h.output, h.size, fun k hk => h.block k (by omega) fun o => hB k o hk⟩
theorem Keep.setCell {F : Nat → Nat → Prop} (w : World) (g i : Nat) (cs : Array Value) (T : TypeId) (v : Value) (hg : w.heap[g]? = some (.cells cs T (0, 0))) (hF : F g i) : Keep F w (w.setCell ⟨g, i, none⟩ v) := by
  refine ⟨rfl, rfl, rfl, by simp [World.setCell], fun k _ hn => Below.heap_setCell _ _ _ _ fun e => ?_, fun k cur T' hc => ?_⟩
  · exact hn i (by subst e; exact hF)
  · by_cases e : k = g
    · subst e
      rw [hg] at hc; injection hc with hc; injection hc with h1 h2; subst h1 h2
      refine ⟨_, heap_setCell_same w k i _ _ _ hg, by simp, fun o ho => ?_⟩
      rw [Array.getElem?_setIfInBounds]
      split
      · rename_i h; subst h; exact absurd hF ho
      · rfl
    · exact ⟨cur, (heap_setCell_other w _ k v e).trans hc, rfl, fun _ _ => rfl⟩
theorem Keep.map {F : Nat → Nat → Prop} {w w' : World} {b : Nat} (h : w.mapTurned w' b) (hF : F b 0) : Keep F w w' := by
  have hg := h.grown
  refine ⟨hg.os, hg.tape, hg.output, hg.size, fun k hk hn => hg.block k hk fun e => ?_, fun k cur T hc => ?_⟩
  · injection e with e; subst e; exact hn 0 hF
  · have hne : some k ≠ some b := fun e => by
      injection e with e; subst e
      obtain ⟨es, cl, _, _, hb, _⟩ := h
      rw [hb] at hc; cases hc
    exact ⟨cur, (hg.block k (Array.getElem?_eq_some_iff.1 hc).1 hne).trans hc, rfl, fun _ _ => rfl⟩
/-- the cells behind a slice's length -/
def Spare (v : Value) (k o : Nat) : Prop := ∃ a n cap, v = .slice (some a) n cap ∧ k = a.block ∧ n ≤ o ∧ o < cap
def Used (v : Value) (k o : Nat) : Prop := ∃ a n cap, v = .slice (some a) n cap ∧ k = a.block ∧ o < cap
theorem Spare.used {v : Value} {k o : Nat} (h : Spare v k o) : Used v k o := by obtain ⟨a, n, cap, h1, h2, _, h4⟩ := h; exact ⟨a, n, cap, h1, h2, h4⟩
/-- v is a slice of a file's bytes xs, its array a block's begin -/
def ViewAt (w : World) (v : Value) (xs : List Int) : Prop :=
  (v = .slice none 0 0 ∧ xs = []) ∨ ∃ g cap cur, v = .slice (some ⟨g, 0, none⟩) xs.length cap ∧ w.heap[g]? = some (.cells cur 5 (0, 0)) ∧ xs.length ≤ cap ∧ cap ≤ maxLen ∧ cap ≤ cur.size ∧ cur.toList.take xs.length = byteVals xs
theorem ViewAt.lt {w : World} {v : Value} {xs : List Int} (h : ViewAt w v xs) : ∀ k o, Used v k o → k < w.heap.size := by
  rintro k o ⟨a, n, cap, rfl, rfl, _⟩
  rcases h with ⟨h, _⟩ | ⟨g, c, cur, h, hg, _⟩
  · cases h
  · injection h with h; injection h with h; subst h
    exact (Array.getElem?_eq_some_iff.1 hg).1
theorem ViewAt.isU8 {w : World} {v : Value} {xs : List Int} (h : ViewAt w v xs) : ∀ k o, Used v k o → ∃ cur, w.heap[k]? = some (.cells cur 5 (0, 0)) := by
  rintro k o ⟨a, n, cap, rfl, rfl, _⟩
  rcases h with ⟨h, _⟩ | ⟨g, c, cur, h, hg, _⟩
  · cases h
  · injection h with h; injection h with h; subst h
    exact ⟨cur, hg⟩
theorem take_congr {α} {n : Nat} {a b : Array α} (hs : a.size = b.size) (h : ∀ o, o < n → a[o]? = b[o]?) : a.toList.take n = b.toList.take n := by
  apply List.ext_getElem?
  intro i
  rw [List.getElem?_take, List.getElem?_take]
  split
  · rename_i hi
    have := h i hi
    simpa using this
  · rfl
theorem ViewAt.keep {F : Nat → Nat → Prop} {w w' : World} {v : Value} {xs : List Int} (h : ViewAt w v xs) (hk : Keep F w w') (hF : ∀ k o, F k o → Used v k o → Spare v k o) : ViewAt w' v xs := by
  rcases h with h | ⟨g, cap, cur, rfl, hg, h1, h2, h3, h4⟩
  · exact .inl h
  · obtain ⟨cur', hg', hs, he⟩ := hk.row g cur _ hg
    refine .inr ⟨g, cap, cur', rfl, hg', h1, h2, by omega, ?_⟩
    rw [← h4]
    refine take_congr hs fun o ho => he o fun hf => ?_
    obtain ⟨a, n, c, hv, _, hn, _⟩ := hF g o hf ⟨_, _, _, rfl, rfl, by omega⟩
    injection hv with _ hv _
    omega
theorem ViewAt.below {w w' : World} {v : Value} {xs : List Int} (h : ViewAt w v xs) (hb : Below w.heap.size w w') : ViewAt w' v xs :=
  h.keep (F := fun _ _ => False) (.of_below hb) fun _ _ hf => hf.elim
theorem ViewAt.cells {w : World} {g n cap : Nat} {xs : List Int} (h : ViewAt w (.slice (some ⟨g, 0, none⟩) n cap) xs) : ∀ j u, (byteVals xs)[j]? = some u → w.cell? ((⟨g, 0, none⟩ : Addr).add j) = some u := by
  rcases h with ⟨h, _⟩ | ⟨g', c, cur, h, hg, h1, h2, h3, h4⟩
  · cases h
  · injection h with h; injection h with h; injection h with h _ _; subst h
    intro j u hu
    have hj : j < xs.length := by rw [← byteVals_length]; exact (List.getElem?_eq_some_iff.1 hu).1
    rw [Addr.add_mid, cell_of_row w g (0 + j) _ _ _ hg, Nat.zero_add]
    rw [← h4, List.getElem?_take, if_pos hj] at hu
    simpa using hu
theorem ViewAt.bytes {w : World} {v : Value} {xs : List Int} (h : ViewAt w v xs) (hl : xs.length ≤ maxLen) : BytesIn w v xs := by
  have h' := h
  rcases h with ⟨rfl, rfl⟩ | ⟨g, cap, cur, rfl, hg, h1, h2, h3, h4⟩
  · exact nil_in w
  · refine ⟨_, cap, rfl, h1, hl, .inr ⟨g, 0, rfl, fun i x hx => ?_⟩⟩
    have := h'.cells i (.int .u8 x) (by simp [byteVals, hx])
    rwa [Addr.add_mid] at this
theorem ViewAt.len {w : World} {v : Value} {xs : List Int} (h : ViewAt w v xs) : ∃ a cap, v = .slice a xs.length cap := by
  rcases h with ⟨rfl, rfl⟩ | ⟨g, cap, cur, rfl, _⟩
  · exact ⟨_, _, rfl⟩
  · exact ⟨_, _, rfl⟩
/-- append of bytes to a file's -/
theorem run_append_view (w : World) (v : Value) (xs : List Int) (hv : ViewAt w v xs) (y : Value) (ys : List Int) (hy : BytesIn w y ys) (hl : xs.length + ys.length ≤ 140737488355328) :
    ∃ v' w', (Builtin.append_ #[30, 30] 30 #[v, y]).run Tryd.prog w = .ok v' w' ∧ ViewAt w' v' (xs ++ ys) ∧ Keep (Spare v) w w' ∧ (∀ k o, Used v' k o → Used v k o ∨ w.heap.size ≤ k) ∧ (∀ k o, Spare v' k o → Spare v k o ∨ w.heap.size ≤ k) := by
  obtain ⟨i0, hi, hz0, hz1, hz2⟩ := info_parts infoU8
  obtain ⟨a, c, rfl, hc, hm, hx⟩ := hy
  rcases a with _ | ad
  · have hn : ys = [] := by
      rcases hx with hx | ⟨_, _, h, _⟩
      · exact hx
      · cases h
    subst hn
    refine ⟨v, w, ?_, by simpa using hv, Keep.refl _ _, fun k o h => .inl h, fun k o h => .inl h⟩
    rcases hv with ⟨rfl, rfl⟩ | ⟨g, cap, cur, rfl, hg, h1, h2, h3, h4⟩
    · simp [Builtin.append_, run_underlying Tryd.underlying30, sizeOf, typeInfo, hi, Builtin.lenOf, Builtin.firstCells]
    · simp [Builtin.append_, run_underlying Tryd.underlying30, sizeOf, typeInfo, hi, Builtin.lenOf, Builtin.firstCells, h1, storeCells]
  · have hcells : ∀ j u, (byteVals ys)[j]? = some u → w.cell? (ad.add j) = some u := fun j u hu => by
      rcases hx with rfl | ⟨ab, ao, h, hx⟩
      · simp [byteVals] at hu
      · injection h with h; subst h
        rw [Addr.add_mid]
        simp only [byteVals, List.getElem?_map] at hu
        cases hj : ys[j]? with
        | none => rw [hj] at hu; cases hu
        | some x => rw [hj] at hu; cases hu; exact hx j x hj
    rcases hv with ⟨rfl, rfl⟩ | ⟨g, cap, cur, rfl, hg, h1, h2, h3, h4⟩
    · obtain ⟨v', w', hr, ho, hgr, _, hat⟩ := run_append_own_at w w.heap.size 30 30 5 i0 (.int .u8 0) 1 1 Tryd.underlying30 hi hz0 hz1 hz2 rfl (by decide) (.slice none 0 0) 0 [] (World.ownsRow_nil _ _ _ _) ad ys.length c (byteVals ys) (by rw [byteVals_length, Nat.mul_one]) hcells (byteVals_one ys) (by unfold maxLen; omega) (by omega) (Nat.le_refl _)
      rw [Nat.zero_add, List.nil_append] at ho
      have hnew : ∀ k o, Used v' k o → w.heap.size ≤ k := by
        rintro k o ⟨a', n', c', rfl, rfl, _⟩
        rcases ho.2 with ⟨h, _⟩ | ⟨g', _, _, h, hb, _⟩
        · cases h
        · injection h with h; injection h with h; subst h; exact hb
      refine ⟨v', w', hr, ?_, .of_below ⟨hgr.os, hgr.tape, hgr.output, hgr.size, fun k hk => hgr.block k hk (by simp [Value.ownBlock])⟩, fun k o h => .inr (hnew k o h), fun k o h => .inr (hnew k o h.used)⟩
      rw [List.nil_append]
      rcases ho.2 with ⟨h, h0⟩ | ⟨g', cp, cur, h, hb, hh, a1, a2, a3, a4⟩
      · exact .inl ⟨h, List.eq_nil_of_length_eq_zero h0⟩
      · exact .inr ⟨g', cp, cur, h, hh, a1, a2, by omega, by rw [Nat.mul_one] at a4; exact a4⟩
    · by_cases hroom : xs.length + ys.length ≤ cap
      · have hr := run_append_room (P := Tryd.prog) w 30 30 5 i0 Tryd.underlying30 hi g xs.length cap cur hg ad ys.length c (byteVals ys) (by rw [hz1, byteVals_length, Nat.mul_one]) hcells (byteVals_one ys) hroom (by rw [hz1, byteVals_length]; omega)
        rw [hz1, Nat.mul_one, byteVals_length] at hr
        have hl1 : (cur.toList.take xs.length).length = xs.length := by rw [List.length_take]; simp only [Array.length_toList]; omega
        have hsz : (cur.toList.take xs.length ++ byteVals ys ++ cur.toList.drop (xs.length + ys.length)).length = cur.size := by
          rw [List.length_append, List.length_append, hl1, byteVals_length, List.length_drop]; simp only [Array.length_toList]; omega
        refine ⟨_, _, hr, .inr ⟨g, cap, _, by rw [List.length_append], setRow_heap w g cur _ _ _ hg, by rw [List.length_append]; omega, h2, ?_, ?_⟩, ⟨rfl, rfl, rfl, by simp [World.setRow], fun k _ hn => ?_, fun k cs T hcs => ?_⟩, fun k o h => .inl ?_, fun k o h => .inl ?_⟩
        · simp only [List.size_toArray]; omega
        · simp only
          rw [h4, List.length_append, ← byteVals_length xs, ← byteVals_length ys, ← List.length_append, List.take_left]
          simp [byteVals]
        · by_cases e : k = g
          · subst e
            rcases Nat.eq_zero_or_pos ys.length with h0 | h0
            · rw [setRow_heap w k cur _ _ _ hg, hg]
              have : (cur.toList.take xs.length ++ byteVals ys ++ cur.toList.drop (xs.length + ys.length)).toArray = cur := by
                have hy0 : ys = [] := List.eq_nil_of_length_eq_zero h0
                subst hy0
                simp [byteVals]
              rw [this]
            · exact absurd ⟨_, _, _, rfl, rfl, Nat.le_refl _, by omega⟩ (hn xs.length)
          · exact setRow_other w g k _ e
        · by_cases e : k = g
          · subst e
            rw [hg] at hcs; injection hcs with hcs; injection hcs with h1' h2'; subst h1' h2'
            refine ⟨_, setRow_heap w k cur _ _ _ hg, by rw [List.size_toArray]; exact hsz, fun o ho => ?_⟩
            rw [List.getElem?_toArray]
            rcases Nat.lt_or_ge o xs.length with h | h
            · rw [List.append_assoc, List.getElem?_append_left (by omega), List.getElem?_take, if_pos h, Array.getElem?_toList]
            · have hoc : cap ≤ o := by
                rcases Nat.lt_or_ge o cap with h' | h'
                · exact absurd ⟨_, _, _, rfl, rfl, h, h'⟩ ho
                · exact h'
              rw [List.getElem?_append_right (by rw [List.length_append, hl1, byteVals_length]; omega), List.length_append, hl1, byteVals_length, List.getElem?_drop, Array.getElem?_toList]
              congr 1; omega
          · exact ⟨cs, (setRow_other w g k _ e).trans hcs, rfl, fun _ _ => rfl⟩
        · obtain ⟨a', n', c', hv, rfl, hlt⟩ := h
          injection hv with e1 e2 e3; injection e1 with e1; subst e1 e2 e3
          exact ⟨_, _, _, rfl, rfl, hlt⟩
        · obtain ⟨a', n', c', hv, rfl, hle, hlt⟩ := h
          injection hv with e1 e2 e3; injection e1 with e1; subst e1 e2 e3
          exact ⟨_, _, _, rfl, rfl, by omega, hlt⟩
      · have hv' : ViewAt w (.slice (some ⟨g, 0, none⟩) xs.length cap) xs := .inr ⟨g, cap, cur, rfl, hg, h1, h2, h3, h4⟩
        have hr := run_append_grow (P := Tryd.prog) w 30 30 5 i0 (.int .u8 0) Tryd.underlying30 hi hz0 ⟨g, 0, none⟩ xs.length cap (byteVals xs) (by rw [hz1, byteVals_length, Nat.mul_one]) hv'.cells ad ys.length c (byteVals ys) (by rw [hz1, byteVals_length, Nat.mul_one]) hcells (by omega) (by omega) (by rw [hz2]; exact growslice_fits (by omega) (by omega))
        refine ⟨_, _, hr, .inr ⟨w.heap.size, _, _, by rw [List.length_append], heap_alloc_new w.drew _, by rw [List.length_append]; exact grownCap_ge _ _ _ _, grownCap_le_maxLen _ _ _ _ (by unfold maxLen; omega), ?_, ?_⟩, .of_below (((Below.refl _ w).drew).alloc (Nat.le_refl _) _), fun k o h => .inr ?_, fun k o h => .inr ?_⟩
        · have hge := grownCap_ge w (xs.length + ys.length) cap 5
          simp only [Array.size_append, List.size_toArray, byteVals_length, size_zeroCells, Value.cells]
          simp; omega
        · simp only [Array.toList_append]
          rw [List.length_append, ← byteVals_length xs, ← byteVals_length ys, ← List.length_append, List.take_left]
          simp [byteVals]
        · obtain ⟨a', n', c', hv, rfl, hlt⟩ := h
          injection hv with e1 e2 e3; injection e1 with e1; subst e1
          exact Nat.le_refl _
        · obtain ⟨a', n', c', hv, rfl, _, hlt⟩ := h
          injection hv with e1 e2 e3; injection e1 with e1; subst e1
          exact Nat.le_refl _
end Go.Proofs.YtggcodobkmhkgaaDoor
