/- Part 2 of the proof. -/
import Derived.ProofKit
import Derived.OpenShut
import Derived.Deep.Slices
import Derived.SizedLaws
import Derived.Test.YtilpohdidekenaaGreatDoorKl1
namespace Go.Proofs.YtilpohdidekenaaGreatDoor
set_option linter.unusedVariables false
set_option linter.unusedSimpArgs false
open Go.RowKit Go.Maps
set_option maxRecDepth 100000
/-- of the cells that there are those of F alone may turn; new blocks may come -/
structure Keep (F : Nat → Nat → Prop) (w w' : World) : Prop where
  os : w'.os = w.os
  tape : w'.tape = w.tape
  output : w'.output = w.output
  size : w.heap.size ≤ w'.heap.size
  block : ∀ k, k < w.heap.size → (∀ o, ¬ F k o) → w'.heap[k]? = w.heap[k]?
  row : ∀ k cur T, w.heap[k]? = some (.cells cur T (0, 0)) → ∃ cur', w'.heap[k]? = some (.cells cur' T (0, 0)) ∧ cur'.size = cur.size ∧ ∀ o, ¬ F k o → cur'[o]? = cur[o]?
theorem Keep.of_below {F : Nat → Nat → Prop} {w w' : World} (h : Below w.heap.size w w') : Keep F w w' :=
  ⟨h.os, h.tape, h.output, h.size, fun k hk _ => h.block k hk, fun k cur T hc => ⟨cur, (h.block k (Array.getElem?_eq_some_iff.1 hc).1).trans hc, rfl, fun _ _ => rfl⟩⟩
theorem Keep.refl (F : Nat → Nat → Prop) (w : World) : Keep F w w := .of_below (Below.refl _ _)
theorem Keep.trans {F G : Nat → Nat → Prop} {a b c : World} (h : Keep F a b) (k : Keep G b c) (hG : ∀ i o, i < a.heap.size → G i o → F i o) : Keep F a c := by
  refine ⟨k.os.trans h.os, k.tape.trans h.tape, k.output.trans h.output, Nat.le_trans h.size k.size, fun i hi hF => ?_, fun i cur T hc => ?_⟩
  · exact (k.block i (Nat.lt_of_lt_of_le hi h.size) fun o ho => hF o (hG i o hi ho)).trans (h.block i hi hF)
  · have hi := (Array.getElem?_eq_some_iff.1 hc).1
    obtain ⟨c1, h1, s1, e1⟩ := h.row i cur T hc
    obtain ⟨c2, h2, s2, e2⟩ := k.row i c1 T h1
    exact ⟨c2, h2, s2.trans s1, fun o ho => (e2 o fun hg => ho (hG i o hi hg)).trans (e1 o ho)⟩
theorem Keep.mono {F G : Nat → Nat → Prop} {a b : World} (h : Keep F a b) (hG : ∀ i o, i < a.heap.size → F i o → G i o) : Keep G a b :=
  ⟨h.os, h.tape, h.output, h.size, fun k hk hn => h.block k hk fun o ho => hn o (hG k o hk ho), fun k cur T hc => by
    obtain ⟨c, h1, h2, h3⟩ := h.row k cur T hc
    exact ⟨c, h1, h2, fun o ho => h3 o fun hf => ho (hG k o (Array.getElem?_eq_some_iff.1 hc).1 hf)⟩⟩
theorem Keep.below {F : Nat → Nat → Prop} {a b : World} {B : Nat} (h : Keep F a b) (hB : ∀ i o, i < B → ¬ F i o) (hs : B ≤ a.heap.size) : Below B a b :=
  ⟨h.os, h.tape, h.output, h.size, fun k hk => h.block k (by omega) fun o => hB k o hk⟩
theorem Keep.setCell {F : Nat → Nat → Prop} (w : World) (g i : Nat) (cs : Array Value) (T : TypeId) (v : Value) (hg : w.heap[g]? = some (.cells cs T (0, 0))) (hF : F g i) : Keep F w (w.setCell ⟨g, i, none⟩ v) := by
  refine ⟨rfl, rfl, rfl, by simp [World.setCell], fun k _ hn => Below.heap_setCell _ _ _ _ fun e => ?_, fun k cur T' hc => ?_⟩
  · exact hn i (by subst e; exact hF)
  · by_cases e : k = g
    · subst e
      rw [hg] at hc; injection hc with hc; injection hc with h1 h2; subst h1 h2
      refine ⟨_, heap_setCell_same w k i _ _ _ hg, by simp, fun o ho => ?_⟩
      rw [Array.getElem?_setIfInBounds]
      split
      · rename_i h; subst h; exact absurd hF ho
      · rfl
    · exact ⟨cur, (heap_setCell_other w _ k v e).trans hc, rfl, fun _ _ => rfl⟩
theorem Keep.map {F : Nat → Nat → Prop} {w w' : World} {b : Nat} (h : w.mapTurned w' b) (hF : F b 0) : Keep F w w' := by
  have hg := h.grown
  refine ⟨hg.os, hg.tape, hg.output, hg.size, fun k hk hn => hg.block k hk fun e => ?_, fun k cur T hc => ?_⟩
  · injection e with e; subst e; exact hn 0 hF
  · have hne : some k ≠ some b := fun e => by
      injection e with e; subst e
      obtain ⟨es, cl, _, _, hb, _⟩ := h
      rw [hb] at hc; cases hc
    exact ⟨cur, (hg.block k (Array.getElem?_eq_some_iff.1 hc).1 hne).trans hc, rfl, fun _ _ => rfl⟩
/-- the cells behind a slice's length -/
def Spare (v : Value) (k o : Nat) : Prop := ∃ a n cap, v = .slice (some a) n cap ∧ k = a.block ∧ n ≤ o ∧ o < cap
def Used (v : Value) (k o : Nat) : Prop := ∃ a n cap, v = .slice (some a) n cap ∧ k = a.block ∧ o < cap
theorem Spare.used {v : Value} {k o : Nat} (h : Spare v k o) : Used v k o := by obtain ⟨a, n, cap, h1, h2, _, h4⟩ := h; exact ⟨a, n, cap, h1, h2, h4⟩
/-- v is a slice of a file's bytes xs, its array a block's begin -/
def ViewAt (w : World) (v : Value) (xs : List Int) : Prop :=
  (v = .slice none 0 0 ∧ xs = []) ∨ ∃ g cap cur, v = .slice (some ⟨g, 0, none⟩) xs.length cap ∧ w.heap[g]? = some (.cells cur 5 (0, 0)) ∧ xs.length ≤ cap ∧ cap ≤ maxLen ∧ cap ≤ cur.size ∧ cur.toList.take xs.length = byteVals xs
theorem ViewAt.lt {w : World} {v : Value} {xs : List Int} (h : ViewAt w v xs) : ∀ k o, Used v k o → k < w.heap.size := by
  rintro k o ⟨a, n, cap, rfl, rfl, _⟩
  rcases h with ⟨h, _⟩ | ⟨g, c, cur, h, hg, _⟩
  · cases h
  · injection h with h; injection h with h; subst h
    exact (Array.getElem?_eq_some_iff.1 hg).1
theorem ViewAt.isU8 {w : World} {v : Value} {xs : List Int} (h : ViewAt w v xs) : ∀ k o, Used v k o → ∃ cur, w.heap[k]? = some (.cells cur 5 (0, 0)) := by
  rintro k o ⟨a, n, cap, rfl, rfl, _⟩
  rcases h with ⟨h, _⟩ | ⟨g, c, cur, h, hg, _⟩
  · cases h
  · injection h with h; injection h with h; subst h
    exact ⟨cur, hg⟩
theorem take_congr {α} {n : Nat} {a b : Array α} (hs : a.size = b.size) (h : ∀ o, o < n → a[o]? = b[o]?) : a.toList.take n = b.toList.take n := by
  apply List.ext_getElem?
  intro i
  rw [List.getElem?_take, List.getElem?_take]
  split
  · rename_i hi
    have := h i hi
    simpa using this
  · rfl
theorem ViewAt.keep {F : Nat → Nat → Prop} {w w' : World} {v : Value} {xs : List Int} (h : ViewAt w v xs) (hk : Keep F w w') (hF : ∀ k o, F k o → Used v k o → Spare v k o) : ViewAt w' v xs := by
  rcases h with h | ⟨g, cap, cur, rfl, hg, h1, h2, h3, h4⟩
  · exact .inl h
  · obtain ⟨cur', hg', hs, he⟩ := hk.row g cur _ hg
    refine .inr ⟨g, cap, cur', rfl, hg', h1, h2, by omega, ?_⟩
    rw [← h4]
    refine take_congr hs fun o ho => he o fun hf => ?_
    obtain ⟨a, n, c, hv, _, hn, _⟩ := hF g o hf ⟨_, _, _, rfl, rfl, by omega⟩
    injection hv with _ hv _
    omega
theorem ViewAt.below {w w' : World} {v : Value} {xs : List Int} (h : ViewAt w v xs) (hb : Below w.heap.size w w') : ViewAt w' v xs :=
  h.keep (F := fun _ _ => False) (.of_below hb) fun _ _ hf => hf.elim
theorem ViewAt.cells {w : World} {g n cap : Nat} {xs : List Int} (h : ViewAt w (.slice (some ⟨g, 0, none⟩) n cap) xs) : ∀ j u, (byteVals xs)[j]? = some u → w.cell? ((⟨g, 0, none⟩ : Addr).add j) = some u := by
  rcases h with ⟨h, _⟩ | ⟨g', c, cur, h, hg, h1, h2, h3, h4⟩
  · cases h
  · injection h with h; injection h with h; injection h with h _ _; subst h
    intro j u hu
    have hj : j < xs.length := by rw [← byteVals_length]; exact (List.getElem?_eq_some_iff.1 hu).1
    rw [Addr.add_mid, cell_of_row w g (0 + j) _ _ _ hg, Nat.zero_add]
    rw [← h4, List.getElem?_take, if_pos hj] at hu
    simpa using hu
theorem ViewAt.bytes {w : World} {v : Value} {xs : List Int} (h : ViewAt w v xs) (hl : xs.length ≤ maxLen) : BytesIn w v xs := by
  have h' := h
  rcases h with ⟨rfl, rfl⟩ | ⟨g, cap, cur, rfl, hg, h1, h2, h3, h4⟩
  · exact nil_in w
  · refine ⟨_, cap, rfl, h1, hl, .inr ⟨g, 0, rfl, fun i x hx => ?_⟩⟩
    have := h'.cells i (.int .u8 x) (by simp [byteVals, hx])
    rwa [Addr.add_mid] at this
theorem ViewAt.len {w : World} {v : Value} {xs : List Int} (h : ViewAt w v xs) : ∃ a cap, v = .slice a xs.length cap := by
  rcases h with ⟨rfl, rfl⟩ | ⟨g, cap, cur, rfl, _⟩
  · exact ⟨_, _, rfl⟩
  · exact ⟨_, _, rfl⟩
/-- append of bytes to a file's -/
theorem run_append_view (w : World) (v : Value) (xs : List Int) (hv : ViewAt w v xs) (y : Value) (ys : List Int) (hy : BytesIn w y ys) (hl : xs.length + ys.length ≤ 140737488355328) :
    ∃ v' w', (Builtin.append_ #[26, 26] 26 #[v, y]).run Tryz.prog w = .ok v' w' ∧ ViewAt w' v' (xs ++ ys) ∧ Keep (Spare v) w w' ∧ (∀ k o, Used v' k o → Used v k o ∨ w.heap.size ≤ k) ∧ (∀ k o, Spare v' k o → Spare v k o ∨ w.heap.size ≤ k) := by
  obtain ⟨i0, hi, hz0, hz1, hz2⟩ := info_parts infoU8
  obtain ⟨a, c, rfl, hc, hm, hx⟩ := hy
  rcases a with _ | ad
  · have hn : ys = [] := by
      rcases hx with hx | ⟨_, _, h, _⟩
      · exact hx
      · cases h
    subst hn
    refine ⟨v, w, ?_, by simpa using hv, Keep.refl _ _, fun k o h => .inl h, fun k o h => .inl h⟩
    rcases hv with ⟨rfl, rfl⟩ | ⟨g, cap, cur, rfl, hg, h1, h2, h3, h4⟩
    · simp [Builtin.append_, run_underlying Tryz.underlying26, sizeOf, typeInfo, hi, Builtin.lenOf, Builtin.firstCells]
    · simp [Builtin.append_, run_underlying Tryz.underlying26, sizeOf, typeInfo, hi, Builtin.lenOf, Builtin.firstCells, h1, storeCells]
  · have hcells : ∀ j u, (byteVals ys)[j]? = some u → w.cell? (ad.add j) = some u := fun j u hu => by
      rcases hx with rfl | ⟨ab, ao, h, hx⟩
      · simp [byteVals] at hu
      · injection h with h; subst h
        rw [Addr.add_mid]
        simp only [byteVals, List.getElem?_map] at hu
        cases hj : ys[j]? with
        | none => rw [hj] at hu; cases hu
        | some x => rw [hj] at hu; cases hu; exact hx j x hj
    rcases hv with ⟨rfl, rfl⟩ | ⟨g, cap, cur, rfl, hg, h1, h2, h3, h4⟩
    · obtain ⟨v', w', hr, ho, hgr, _, hat⟩ := run_append_own_at w w.heap.size 26 26 5 i0 (.int .u8 0) 1 1 Tryz.underlying26 hi hz0 hz1 hz2 rfl (by decide) (.slice none 0 0) 0 [] (World.ownsRow_nil _ _ _ _) ad ys.length c (byteVals ys) (by rw [byteVals_length, Nat.mul_one]) hcells (byteVals_one ys) (by unfold maxLen; omega) (by omega) (Nat.le_refl _)
      rw [Nat.zero_add, List.nil_append] at ho
      have hnew : ∀ k o, Used v' k o → w.heap.size ≤ k := by
        rintro k o ⟨a', n', c', rfl, rfl, _⟩
        rcases ho.2 with ⟨h, _⟩ | ⟨g', _, _, h, hb, _⟩
        · cases h
        · injection h with h; injection h with h; subst h; exact hb
      refine ⟨v', w', hr, ?_, .of_below ⟨hgr.os, hgr.tape, hgr.output, hgr.size, fun k hk => hgr.block k hk (by simp [Value.ownBlock])⟩, fun k o h => .inr (hnew k o h), fun k o h => .inr (hnew k o h.used)⟩
      rw [List.nil_append]
      rcases ho.2 with ⟨h, h0⟩ | ⟨g', cp, cur, h, hb, hh, a1, a2, a3, a4⟩
      · exact .inl ⟨h, List.eq_nil_of_length_eq_zero h0⟩
      · exact .inr ⟨g', cp, cur, h, hh, a1, a2, by omega, by rw [Nat.mul_one] at a4; exact a4⟩
    · by_cases hroom : xs.length + ys.length ≤ cap
      · have hr := run_append_room (P := Tryz.prog) w 26 26 5 i0 Tryz.underlying26 hi g xs.length cap cur hg ad ys.length c (byteVals ys) (by rw [hz1, byteVals_length, Nat.mul_one]) hcells (byteVals_one ys) hroom (by rw [hz1, byteVals_length]; omega)
        rw [hz1, Nat.mul_one, byteVals_length] at hr
        have hl1 : (cur.toList.take xs.length).length = xs.length := by rw [List.length_take]; simp only [Array.length_toList]; omega
        have hsz : (cur.toList.take xs.length ++ byteVals ys ++ cur.toList.drop (xs.length + ys.length)).length = cur.size := by
          rw [List.length_append, List.length_append, hl1, byteVals_length, List.length_drop]; simp only [Array.length_toList]; omega
        refine ⟨_, _, hr, .inr ⟨g, cap, _, by rw [List.length_append], setRow_heap w g cur _ _ _ hg, by rw [List.length_append]; omega, h2, ?_, ?_⟩, ⟨rfl, rfl, rfl, by simp [World.setRow], fun k _ hn => ?_, fun k cs T hcs => ?_⟩, fun k o h => .inl ?_, fun k o h => .inl ?_⟩
        · simp only [List.size_toArray]; omega
        · simp only
          rw [h4, List.length_append, ← byteVals_length xs, ← byteVals_length ys, ← List.length_append, List.take_left]
          simp [byteVals]
        · by_cases e : k = g
          · subst e
            rcases Nat.eq_zero_or_pos ys.length with h0 | h0
            · rw [setRow_heap w k cur _ _ _ hg, hg]
              have : (cur.toList.take xs.length ++ byteVals ys ++ cur.toList.drop (xs.length + ys.length)).toArray = cur := by
                have hy0 : ys = [] := List.eq_nil_of_length_eq_zero h0
                subst hy0
                simp [byteVals]
              rw [this]
            · exact absurd ⟨_, _, _, rfl, rfl, Nat.le_refl _, by omega⟩ (hn xs.length)
          · exact setRow_other w g k _ e
        · by_cases e : k = g
          · subst e
            rw [hg] at hcs; injection hcs with hcs; injection hcs with h1' h2'; subst h1' h2'
            refine ⟨_, setRow_heap w k cur _ _ _ hg, by rw [List.size_toArray]; exact hsz, fun o ho => ?_⟩
            rw [List.getElem?_toArray]
            rcases Nat.lt_or_ge o xs.length with h | h
            · rw [List.append_assoc, List.getElem?_append_left (by omega), List.getElem?_take, if_pos h, Array.getElem?_toList]
            · have hoc : cap ≤ o := by
                rcases Nat.lt_or_ge o cap with h' | h'
                · exact absurd ⟨_, _, _, rfl, rfl, h, h'⟩ ho
                · exact h'
              rw [List.getElem?_append_right (by rw [List.length_append, hl1, byteVals_length]; omega), List.length_append, hl1, byteVals_length, List.getElem?_drop, Array.getElem?_toList]
              congr 1; omega
          · exact ⟨cs, (setRow_other w g k _ e).trans hcs, rfl, fun _ _ => rfl⟩
        · obtain ⟨a', n', c', hv, rfl, hlt⟩ := h
          injection hv with e1 e2 e3; injection e1 with e1; subst e1 e2 e3
          exact ⟨_, _, _, rfl, rfl, hlt⟩
        · obtain ⟨a', n', c', hv, rfl, hle, hlt⟩ := h
          injection hv with e1 e2 e3; injection e1 with e1; subst e1 e2 e3
          exact ⟨_, _, _, rfl, rfl, by omega, hlt⟩
      · have hv' : ViewAt w (.slice (some ⟨g, 0, none⟩) xs.length cap) xs := .inr ⟨g, cap, cur, rfl, hg, h1, h2, h3, h4⟩
        have hr := run_append_grow (P := Tryz.prog) w 26 26 5 i0 (.int .u8 0) Tryz.underlying26 hi hz0 ⟨g, 0, none⟩ xs.length cap (byteVals xs) (by rw [hz1, byteVals_length, Nat.mul_one]) hv'.cells ad ys.length c (byteVals ys) (by rw [hz1, byteVals_length, Nat.mul_one]) hcells (by omega) (by omega) (by rw [hz2]; exact growslice_fits (by omega) (by omega))
        refine ⟨_, _, hr, .inr ⟨w.heap.size, _, _, by rw [List.length_append], heap_alloc_new w.drew _, by rw [List.length_append]; exact grownCap_ge _ _ _ _, grownCap_le_maxLen _ _ _ _ (by unfold maxLen; omega), ?_, ?_⟩, .of_below (((Below.refl _ w).drew).alloc (Nat.le_refl _) _), fun k o h => .inr ?_, fun k o h => .inr ?_⟩
        · have hge := grownCap_ge w (xs.length + ys.length) cap 5
          simp only [Array.size_append, List.size_toArray, byteVals_length, size_zeroCells, Value.cells]
          simp; omega
        · simp only [Array.toList_append]
          rw [List.length_append, ← byteVals_length xs, ← byteVals_length ys, ← List.length_append, List.take_left]
          simp [byteVals]
        · obtain ⟨a', n', c', hv, rfl, hlt⟩ := h
          injection hv with e1 e2 e3; injection e1 with e1; subst e1
          exact Nat.le_refl _
        · obtain ⟨a', n', c', hv, rfl, _, hlt⟩ := h
          injection hv with e1 e2 e3; injection e1 with e1; subst e1
          exact Nat.le_refl _
end Go.Proofs.YtilpohdidekenaaGreatDoor
namespace Go.Proofs.YtilpohdidekenaaGreatDoor
set_option linter.unusedVariables false
set_option linter.unusedSimpArgs false
open Go.ChangeShapes Go.WideShapes Go.ChangeAt Go.RowKit
theorem cellsU8 : Tryz.prog.cellsOf 5 = 1 := by kernel_rfl
theorem bytesOfU8 : Tryz.prog.bytesOf 5 = 1 := by kernel_rfl
/-- each value counts one at least -/
theorem bulk_one {H : Type} (d : DataW H) : 1 ≤ Rows.uptoBulk d := by
  cases d with
  | lit l => cases l <;> simp [Rows.uptoBulk]
  | _ => simp [Rows.uptoBulk]
theorem bulk_len {H : Type} : ∀ l : List (DataW H), l.length ≤ Rows.uptoBulkAll l
  | [] => by simp
  | d :: r => by
    have h1 := bulk_one d
    have h2 := bulk_len r
    simp only [Rows.uptoBulkAll, List.length_cons]
    omega
theorem bulk_mem {H : Type} {d : DataW H} : ∀ {l : List (DataW H)}, d ∈ l → Rows.uptoBulk d ≤ Rows.uptoBulkAll l
  | e :: r, h => by
    simp only [Rows.uptoBulkAll]
    rcases List.mem_cons.1 h with rfl | h
    · omega
    · have := bulk_mem h; omega
/-- a slice of bytes that came in -/
theorem bytes_raw {H : Type} {enc : TypeId × Value → H} {W : World} {fuel : Nat} {cs : List Value} {x : DataW H × List MemPlace} (h : DataW.trod enc Tryz.prog W 0 (fun _ => true) true fuel 26 cs = some x) :
    ∃ v xs, cs = [v] ∧ BytesIn W v xs ∧ bytesOk xs ∧ (∃ a c, v = .slice a xs.length c) ∧ xs.length ≤ Rows.uptoBulk x.1 ∧ (x.1 = .nil ∧ xs = [] ∨ ∃ elems spare, x.1 = .slice elems spare ∧ elems.length = xs.length) := by
  rcases open_ints Tryz.underlying26 Tryz.underlying5 (by kernel_rfl) h with ⟨hcs, hx⟩ | ⟨a, l, c, zs, hcs, _, hl, hm, hz, hx, hcell, hwz⟩
  · exact ⟨_, [], hcs, ⟨_, _, rfl, by simp, by simp [maxLen], .inl rfl⟩, (by intro x hx; cases hx), ⟨_, _, rfl⟩, by simp, .inl ⟨by rw [hx], rfl⟩⟩
  · simp only [if_true] at hz
    have hlen : (zs.take l).length = l := by rw [List.length_take]; omega
    refine ⟨_, zs.take l, hcs, ⟨some a, c, by rw [hlen], by rw [hlen]; exact hl, by rw [hlen]; omega, ?_⟩, fun y hy => ?_, ⟨some a, c, by rw [hlen]⟩, ?_, ?_⟩
    · by_cases hl0 : l = 0
      · left; subst hl0; simp
      · right
        obtain ⟨b, off, spot⟩ := a
        have hspot : spot = none := by simpa [Addr.add] using World.cell?_spot (hcell 0 (by omega))
        subst hspot
        refine ⟨b, off, rfl, fun i y hi => ?_⟩
        have hil : i < l := by have := (List.getElem?_eq_some_iff.1 hi).1; omega
        rw [List.getElem?_take, if_pos hil] at hi
        have := hcell i (by omega)
        rw [Addr.add_mid] at this
        rw [this]
        simp [List.getD, hi]
    · have h2 := bounds_u8 (hwz y (List.mem_of_mem_take hy))
      omega
    · rw [hx]
      have h1 := bulk_len (lits (H := H) IntKind.u8 (zs.take l))
      simp only [lits, List.length_map] at h1
      simp only [Rows.uptoBulk, lits]
      omega
    · rw [hx]
      exact .inr ⟨_, _, rfl, by simp [lits]⟩
/-- a slice of bytes that came in -/
theorem bytes_arg {H : Type} {enc : TypeId × Value → H} {W : World} {a : Option Addr} {len cap : Nat} {d : DataW H} {p : List MemPlace} (h : DataW.Trod enc Tryz.prog W 0 (fun _ => true) true 26 (.slice a len cap) d p) :
    ∃ xs : List Int, xs.length = len ∧ BytesIn W (.slice a len cap) xs ∧ bytesOk xs ∧ (∀ ts ds : List _, ∀ j : Nat, ts[j]? = some 26 → ds[j]? = some d → (DataW.weightsEach Tryz.prog ts ds).all (· ≤ reachBytes) = true → len ≤ 140737488351232) := by
  obtain ⟨fuel, hf⟩ := h
  obtain ⟨v, xs, hcs, hin, hok, ⟨a', c', hv⟩, _, hd⟩ := bytes_raw hf
  simp only [Value.cells] at hcs
  obtain rfl : Value.slice a len cap = v := by simpa using hcs
  injection hv with e1 e2 e3
  refine ⟨xs, e2.symm, hin, hok, fun ts ds j ht hdj hw => ?_⟩
  rcases hd with ⟨_, rfl⟩ | ⟨elems, spare, he, hel⟩
  · simp at e2; omega
  · simp only at he
    rw [he] at hdj
    have := sized_slice hw (j := j) (t := 26) (e := 5) ht hdj Tryz.underlying26
    rw [bytesOfU8] at this
    simp only [reachBytes] at this
    omega
theorem bytes_argB {H : Type} {enc : TypeId × Value → H} {W : World} {a : Option Addr} {len cap : Nat} {d : DataW H} {p : List MemPlace} (h : DataW.Trod enc Tryz.prog W 0 (fun _ => true) true 26 (.slice a len cap) d p) :
    ∃ xs : List Int, xs.length = len ∧ BytesIn W (.slice a len cap) xs ∧ bytesOk xs ∧ len ≤ Rows.uptoBulk d := by
  obtain ⟨fuel, hf⟩ := h
  obtain ⟨v, xs, hcs, hin, hok, ⟨a', c', hv⟩, hbulk, hd⟩ := bytes_raw hf
  simp only [Value.cells] at hcs
  obtain rfl : Value.slice a len cap = v := by simpa using hcs
  injection hv with e1 e2 e3
  exact ⟨xs, e2.symm, hin, hok, by rw [e2]; exact hbulk⟩
/-- a slice of slices of bytes -/
def BssIn (w : World) (v : Value) (ps : List (List Int)) : Prop :=
  ∃ a c, v = .slice a ps.length c ∧ ps.length ≤ c ∧ ps.length ≤ maxLen ∧ (ps = [] ∨ ∃ ab ao, a = some ⟨ab, ao, none⟩ ∧ ∀ i p, ps[i]? = some p → ∃ u, w.cell? ⟨ab, ao + i, none⟩ = some u ∧ BytesIn w u p)
theorem BssIn.below {w w' : World} {v : Value} {ps : List (List Int)} (h : BssIn w v ps) (hb : Below w.heap.size w w') : BssIn w' v ps := by
  obtain ⟨a, c, rfl, hc, hm, hx⟩ := h
  refine ⟨a, c, rfl, hc, hm, ?_⟩
  rcases hx with hx | ⟨ab, ao, rfl, hx⟩
  · exact .inl hx
  · refine .inr ⟨ab, ao, rfl, fun i p hi => ?_⟩
    obtain ⟨u, hu, hp⟩ := hx i p hi
    exact ⟨u, (hb.cell (p := ⟨ab, ao + i, none⟩) (World.block_lt_of_cell? w _ hu)).trans hu, hp.below hb⟩
theorem cellsBs : Tryz.prog.cellsOf 26 = 1 := by kernel_rfl
theorem weights_all_mem {H : Type} {P : Program} {e : TypeId} : ∀ {l : List (DataW H)} {d : DataW H}, d ∈ l → ∀ n ∈ d.weights P e, n ∈ DataW.weightsAll P e l
  | x :: r, d, h, n, hn => by
    simp only [DataW.weightsAll]
    rcases List.mem_cons.1 h with rfl | h
    · exact List.mem_append_left _ hn
    · exact List.mem_append_right _ (weights_all_mem h n hn)
/-- a slice of slices of bytes that came in -/
theorem bytess_arg {H : Type} {enc : TypeId × Value → H} {W : World} {a : Option Addr} {len cap : Nat} {d : DataW H} {p : List MemPlace} (h : DataW.Trod enc Tryz.prog W 0 (fun _ => true) true 142 (.slice a len cap) d p) :
    ∃ ps : List (List Int), ps.length = len ∧ BssIn W (.slice a len cap) ps ∧ (∀ p ∈ ps, bytesOk p) ∧ (∀ p ∈ ps, p.length ≤ Rows.uptoBulk d) ∧
      (∀ ts ds : List _, ∀ j : Nat, ts[j]? = some 142 → ds[j]? = some d → (DataW.weightsEach Tryz.prog ts ds).all (· ≤ reachBytes) = true → ∀ p ∈ ps, p.length ≤ 140737488351232) := by
  obtain ⟨fuel, hf⟩ := h
  rcases Deep.open_slice Tryz.underlying142 hf with ⟨hcs, hx⟩ | ⟨x, l, c, m, n, D, Pl, hcs, _, hl, hm, hmm, hx, hel⟩
  · simp [Value.cells] at hcs
    obtain ⟨rfl, rfl, rfl⟩ := hcs
    exact ⟨[], rfl, ⟨_, _, rfl, by simp, by simp [maxLen], .inl rfl⟩, by simp, by simp, fun _ _ _ _ _ _ => by simp⟩
  · simp [Value.cells] at hcs
    obtain ⟨rfl, rfl, rfl⟩ := hcs
    simp only [if_true] at hmm
    simp only [Prod.mk.injEq] at hx
    obtain ⟨rfl, _⟩ := hx
    have key : ∀ i, i < len → ∃ t : Value × List Int, W.cell? (x.add i) = some t.1 ∧ BytesIn W t.1 t.2 ∧ bytesOk t.2 ∧ t.2.length ≤ Rows.uptoBulk (D i) ∧ (D i = .nil ∧ t.2 = [] ∨ ∃ elems spare, D i = .slice elems spare ∧ elems.length = t.2.length) := by
      intro i hi
      obtain ⟨cs', h1, h2⟩ := hel i (by omega)
      rw [cellsBs] at h1
      obtain ⟨_, hlen, hcell⟩ := World.cells?_some h1
      obtain ⟨v, xs, rfl, hin, hok, _, hbulk, hd⟩ := bytes_raw h2
      refine ⟨(v, xs), ?_, hin, hok, hbulk, hd⟩
      have := hcell 0 (by omega)
      rw [Nat.mul_one] at this
      simpa [Addr.add] using this
    obtain ⟨F, hF⟩ := Deep.choose_lt key
    have hget : ∀ (i : Nat) (t : List Int), ((List.range len).map fun i => (F i).2)[i]? = some t → i < len ∧ (F i).2 = t := fun i t hi => by
      have hil : i < len := by have := (List.getElem?_eq_some_iff.1 hi).1; simpa using this
      rw [List.getElem?_map, List.getElem?_range hil] at hi
      cases hi; exact ⟨hil, rfl⟩
    have hDm : ∀ i, i < len → D i ∈ (List.range len).map D := fun i hi => List.mem_map.2 ⟨i, List.mem_range.2 hi, rfl⟩
    refine ⟨(List.range len).map fun i => (F i).2, by simp, ⟨some x, cap, by simp, by simp; omega, by simp; omega, ?_⟩, fun t ht => ?_, fun t ht => ?_, fun ts ds j htj hdj hw t ht => ?_⟩
    · by_cases hl0 : len = 0
      · left; subst hl0; rfl
      · right
        obtain ⟨b, off, spot⟩ := x
        have h0 := (hF 0 (by omega)).1
        have hspot : spot = none := by simpa [Addr.add] using World.cell?_spot h0
        subst hspot
        refine ⟨b, off, rfl, fun i t hi => ?_⟩
        obtain ⟨hil, rfl⟩ := hget i t hi
        have := (hF i hil).1
        rw [Addr.add_mid] at this
        exact ⟨_, this, (hF i hil).2.1⟩
    · obtain ⟨i, hi, rfl⟩ := List.mem_map.1 ht
      exact (hF i (List.mem_range.1 hi)).2.2.1
    · obtain ⟨i, hi, rfl⟩ := List.mem_map.1 ht
      have h1 := (hF i (List.mem_range.1 hi)).2.2.2.1
      have h2 := bulk_mem (hDm i (List.mem_range.1 hi))
      simp only [Rows.uptoBulk]
      omega
    · obtain ⟨i, hi, rfl⟩ := List.mem_map.1 ht
      rcases (hF i (List.mem_range.1 hi)).2.2.2.2 with ⟨_, h2⟩ | ⟨elems, spare, h2, h3⟩
      · simp only [h2, List.length_nil]; omega
      · have h4 : (elems.length + spare.length) * Tryz.prog.bytesOf 5 ∈ (D i).weights Tryz.prog 26 := by
          rw [h2]; simp [DataW.weights, Tryz.underlying26]
        have h5 := weights_all_mem (hDm i (List.mem_range.1 hi)) _ h4
        have h6 : (elems.length + spare.length) * Tryz.prog.bytesOf 5 ∈ DataW.weightsEach Tryz.prog ts ds :=
          DataW.weights_mem_each htj hdj _ (by simp only [DataW.weights, Tryz.underlying142]; exact List.mem_cons_of_mem _ (List.mem_append_left _ h5))
        have h7 := of_decide_eq_true (List.all_eq_true.1 hw _ h6)
        rw [bytesOfU8, Nat.mul_one, show reachBytes = 140737488351232 from rfl] at h7
        omega
end Go.Proofs.YtilpohdidekenaaGreatDoor
namespace Go.Proofs.YtilpohdidekenaaGreatDoor
set_option linter.unusedVariables false
set_option linter.unusedSimpArgs false
open Go.RowKit Go.Maps
set_option maxRecDepth 100000
/-- can a file have this name? -/
def nmOk (l : List UInt8) : Bool := decide (0 < l.length) && decide (l.length ≤ 64) && l.all fun b => decide (33 ≤ b.toNat) && decide (b.toNat ≤ 126)
structure FsR where
  pb : Nat
  mb : Nat
  es : List Ent
  steps : Nat
  armed : Bool
  left : Nat
  down : Bool
def fsCells (R : FsR) : Array Value := #[.map (some R.mb), .int .i64 R.steps, .bool R.armed, .int .i64 R.left, .bool R.down]
def ApartE (a b : Ent) : Prop := ∀ k o, (Spare a.v k o → ¬ Used b.v k o) ∧ (Spare b.v k o → ¬ Used a.v k o)
def EntOk (w : World) (e : Ent) : Prop := ViewAt w e.v e.xs ∧ e.safe ≤ e.xs.length ∧ e.xs.length ≤ 16777216 ∧ nmOk e.nm = true ∧ bytesOk e.xs
/-- the file system at block R.pb -/
structure FsAt (w : World) (R : FsR) : Prop where
  own : w.heap[R.pb]? = some (.cells (fsCells R) 98 (0, 0))
  map : w.ownsMap Tryz.prog 9 heldE R.mb R.es.length (entD R.es)
  ents : ∀ e ∈ R.es, EntOk w e
  sorted : SortedE R.es
  apart : R.es.Pairwise ApartE
  many : R.es.length ≤ 64
  leftOk : (R.left : Int) ≤ 9223372036854775807
/-- the cells that a call may turn -/
def Foot (R : FsR) (k o : Nat) : Prop := k = R.pb ∨ k = R.mb ∨ ∃ e ∈ R.es, Spare e.v k o
/-- the cells that it reads -/
def Reads (R : FsR) (k o : Nat) : Prop := k = R.pb ∨ k = R.mb ∨ ∃ e ∈ R.es, Used e.v k o
theorem FsAt.pb_lt {w : World} {R : FsR} (h : FsAt w R) : R.pb < w.heap.size := (Array.getElem?_eq_some_iff.1 h.own).1
theorem FsAt.mb_lt {w : World} {R : FsR} (h : FsAt w R) : R.mb < w.heap.size := h.map.lt
theorem FsAt.ne {w : World} {R : FsR} (h : FsAt w R) : R.pb ≠ R.mb := fun e => by
  obtain ⟨es, cl, hb, _⟩ := h.map
  rw [← e, h.own] at hb; cases hb
theorem ownsMap_keep {F : Nat → Nat → Prop} {w w' : World} {b n : Nat} {D : DataW Value} (h : w.ownsMap Tryz.prog 9 heldE b n D) (hk : Keep F w w') (hF : ∀ o, ¬ F b o) : w'.ownsMap Tryz.prog 9 heldE b n D := by
  have hlt := h.lt
  obtain ⟨es, cl, hb, r⟩ := h
  exact ⟨es, cl, (hk.block b hlt hF).trans hb, r⟩
theorem FsAt.keep {F : Nat → Nat → Prop} {w w' : World} {R : FsR} (h : FsAt w R) (hk : Keep F w w') (hF : ∀ k o, F k o → ¬ Reads R k o) : FsAt w' R where
  own := (hk.block _ h.pb_lt fun o ho => hF _ o ho (.inl rfl)).trans h.own
  map := ownsMap_keep h.map hk fun o ho => hF _ o ho (.inr (.inl rfl))
  ents e he := ⟨(h.ents e he).1.keep hk fun k o hf hu => absurd (.inr (.inr ⟨e, he, hu⟩)) (hF k o hf), (h.ents e he).2⟩
  sorted := h.sorted
  apart := h.apart
  many := h.many
  leftOk := h.leftOk
theorem FsAt.below {w w' : World} {R : FsR} (h : FsAt w R) (hb : Below w.heap.size w w') : FsAt w' R := h.keep (F := fun _ _ => False) (.of_below hb) fun _ _ hf => hf.elim
theorem FsAt.drew {w : World} {R : FsR} (h : FsAt w R) : FsAt w.drew R := h.below ((Below.refl _ w).drew)
theorem FsAt.reads_lt {w : World} {R : FsR} (h : FsAt w R) : ∀ k o, Reads R k o → k < w.heap.size := by
  rintro k o (rfl | rfl | ⟨e, he, hu⟩)
  · exact h.pb_lt
  · exact h.mb_lt
  · exact (h.ents e he).1.lt k o hu
theorem Foot.reads {R : FsR} {k o : Nat} (h : Foot R k o) : Reads R k o := by
  rcases h with h | h | ⟨e, he, hs⟩
  · exact .inl h
  · exact .inr (.inl h)
  · exact .inr (.inr ⟨e, he, hs.used⟩)
theorem FsAt.pb_u8 {w : World} {R : FsR} (h : FsAt w R) {e : Ent} (he : EntOk w e) : ∀ o, ¬ Used e.v R.pb o := fun o hu => by
  obtain ⟨cur, hc⟩ := he.1.isU8 _ _ hu
  rw [h.own] at hc; injection hc with hc; injection hc with _ hc; exact absurd hc (by decide)
theorem FsAt.mb_u8 {w : World} {R : FsR} (h : FsAt w R) {e : Ent} (he : EntOk w e) : ∀ o, ¬ Used e.v R.mb o := fun o hu => by
  obtain ⟨cur, hc⟩ := he.1.isU8 _ _ hu
  obtain ⟨es, cl, hb, _⟩ := h.map
  rw [hc] at hb; cases hb
theorem FsAt.cell {w : World} {R : FsR} (h : FsAt w R) (i : Nat) : w.cell? ⟨R.pb, i, none⟩ = (fsCells R)[i]? := cell_of_row w R.pb i _ _ _ h.own
theorem FsAt.free {w : World} {R : FsR} (h : FsAt w R) (i : Nat) : w.frozen? ⟨R.pb, i, none⟩ = false := frozen_of_row w R.pb i _ _ h.own
/-- a field is written -/
theorem FsAt.set {w : World} {R R' : FsR} (h : FsAt w R) (i : Nat) (v : Value) (hpb : R'.pb = R.pb) (hmb : R'.mb = R.mb) (hes : R'.es = R.es) (hl : (R'.left : Int) ≤ 9223372036854775807) (hc : (fsCells R).setIfInBounds i v = fsCells R') : FsAt (w.setCell ⟨R.pb, i, none⟩ v) R' := by
  have hk : Keep (fun k _ => k = R.pb) w (w.setCell ⟨R.pb, i, none⟩ v) := .setCell w R.pb i _ _ v h.own rfl
  refine ⟨by rw [hpb, heap_setCell_same w R.pb i _ _ _ h.own, hc], by rw [hmb, hes]; exact ownsMap_keep h.map hk fun o ho => h.ne ho.symm, by rw [hes]; exact fun e he => ⟨(h.ents e he).1.keep hk fun k o hf hu => absurd hu (by subst hf; exact h.pb_u8 (h.ents e he) o), (h.ents e he).2⟩, by rw [hes]; exact h.sorted, by rw [hes]; exact h.apart, by rw [hes]; exact h.many, hl⟩
theorem FsAt.setKeep {w : World} {R : FsR} (h : FsAt w R) (i : Nat) (v : Value) : Keep (Foot R) w (w.setCell ⟨R.pb, i, none⟩ v) := .setCell w R.pb i _ _ v h.own (.inl rfl)
theorem strLaw : Keyed Tryz.prog 9 := string_keyed Tryz.underlying9
theorem zeroFile (w : World) : (zeroValue 107).run Tryz.prog w = .ok (.agg #[.slice none 0 0, .int .i64 0]) w := by kernel_rfl
def fileV : Option Ent → Value
  | some e => entV e
  | none => .agg #[.slice none 0 0, .int .i64 0]
theorem keyStr (s : ByteArray) (h : s.size ≤ maxLen) : keyOf Tryz.prog 9 (.string s) = some (.string s.data.toList) := Go.WideMaps.keyOf_string_mk Tryz.underlying9 h
/-- v, ok := files[name] -/
theorem FsAt.look {w : World} {R : FsR} (h : FsAt w R) (s : ByteArray) (hs : s.size ≤ maxLen) : (Instr.lookup 96 (.map (some R.mb)) (.string s) true).run Tryz.prog w = .ok (.tuple #[fileV (getE s.data.toList R.es), .bool (getE s.data.toList R.es).isSome]) w := by
  obtain ⟨v, ps, hr, hv⟩ := h.map.look_ok strLaw Tryz.underlying96 (zeroFile w) (zd := .held (.agg #[.slice none 0 0, .int .i64 0])) (zp := []) rfl (keyStr s hs)
  rw [hr, entD_has]
  rw [entD_at] at hv
  unfold heldE at hv
  injection hv with hv; injection hv with hv _
  cases hg : getE s.data.toList R.es with
  | none => rw [hg] at hv; injection hv with hv; subst hv; rfl
  | some e => rw [hg] at hv; injection hv with hv; subst hv; rfl
theorem FsAt.look1 {w : World} {R : FsR} (h : FsAt w R) (s : ByteArray) (hs : s.size ≤ maxLen) : (Instr.lookup 96 (.map (some R.mb)) (.string s) false).run Tryz.prog w = .ok (fileV (getE s.data.toList R.es)) w := by
  obtain ⟨v, ps, hr, hv⟩ := h.map.lookup strLaw Tryz.underlying96 (zeroFile w) (zd := .held (.agg #[.slice none 0 0, .int .i64 0])) (zp := []) rfl (keyStr s hs)
  rw [hr]
  rw [entD_at] at hv
  unfold heldE at hv
  injection hv with hv; injection hv with hv _
  cases hg : getE s.data.toList R.es with
  | none => rw [hg] at hv; injection hv with hv; subst hv; rfl
  | some e => rw [hg] at hv; injection hv with hv; subst hv; rfl
theorem tight {w : World} {b n : Nat} {es : List Ent} (h : w.ownsMap Tryz.prog 9 heldE b n (entD es)) : w.ownsMap Tryz.prog 9 heldE b es.length (entD es) := by
  obtain ⟨es', cl, hb, F, hs, hD⟩ := h
  refine ⟨es', cl, hb, F, ?_, hD⟩
  have := entD_size es
  rw [hD] at this
  simp only [Maps.size, length_sorted, List.length_map, Array.length_toList] at this
  omega
/-- files[name] = x, where x is a file's new value -/
theorem FsAt.put {w : World} {R : FsR} (h : FsAt w R) (s : ByteArray) (hs : s.size ≤ maxLen) (e : Ent) (hn : e.nm = s.data.toList) (he : EntOk w e) (hap : ∀ x ∈ R.es, x.nm ≠ e.nm → ApartE e x) (hm : (putE e R.es).length ≤ 64) :
    ∃ w', (Instr.mapUpdate 96 (.map (some R.mb)) (.string s) (entV e)).run Tryz.prog w = .ok () w' ∧ FsAt w' { R with es := putE e R.es } ∧ Keep (fun k _ => k = R.mb) w w' := by
  obtain ⟨w', hr, ho, ht⟩ := h.map.store strLaw Tryz.underlying96 (by have := h.many; unfold maxLen; omega) (keyStr s hs) (d := .held (entV e)) (ps := []) rfl
  have hk : Keep (fun k _ => k = R.mb) w w' := .map ht rfl
  rw [← hn, entD_put] at ho
  have hmem : ∀ x ∈ putE e R.es, EntOk w x := fun x hx => by
    rcases mem_putE.1 hx with rfl | ⟨hx, _⟩
    · exact he
    · exact h.ents x hx
  refine ⟨w', hr, ⟨(hk.block _ h.pb_lt fun o ho => h.ne ho).trans h.own, tight ho, fun x hx => ⟨(hmem x hx).1.keep hk fun k o hf hu => absurd hu (by subst hf; exact h.mb_u8 (hmem x hx) o), (hmem x hx).2⟩, sorted_put h.sorted, ?_, hm, h.leftOk⟩, hk⟩
  show (putE e R.es).Pairwise ApartE
  unfold putE
  have hd : (delE e.nm R.es).Pairwise ApartE := h.apart.filter _
  have hap' : ∀ x ∈ delE e.nm R.es, ApartE e x := fun x hx => hap x (mem_delE.1 hx).1 (mem_delE.1 hx).2
  generalize delE e.nm R.es = l at hd hap'
  induction l with
  | nil => simp [insE]
  | cons y r ih =>
    unfold insE
    split
    · exact List.pairwise_cons.2 ⟨hap', hd⟩
    · obtain ⟨h1, h2⟩ := List.pairwise_cons.1 hd
      refine List.pairwise_cons.2 ⟨fun q hq => ?_, ih h2 fun x hx => hap' x (List.mem_cons_of_mem _ hx)⟩
      rcases mem_insE.1 hq with rfl | hq
      · exact fun k o => ⟨(hap' y (by simp) k o).2, (hap' y (by simp) k o).1⟩
      · exact h1 q hq
/-- delete(files, name) -/
theorem FsAt.drop {w : World} {R : FsR} (h : FsAt w R) (s : ByteArray) (hs : s.size ≤ maxLen) (ty : TypeId) :
    ∃ w', (Builtin.delete_ #[96, 9] ty #[.map (some R.mb), .string s]).run Tryz.prog w = .ok (.tuple #[]) w' ∧ FsAt w' { R with es := delE s.data.toList R.es } ∧ Keep (fun k _ => k = R.mb) w w' := by
  obtain ⟨w', hr, ho, ht⟩ := h.map.drop strLaw Tryz.underlying96 (keyStr s hs) ty
  have hk : Keep (fun k _ => k = R.mb) w w' := .map ht rfl
  rw [entD_del] at ho
  have hmem : ∀ x ∈ delE s.data.toList R.es, EntOk w x := fun x hx => h.ents x (mem_delE.1 hx).1
  exact ⟨w', hr, ⟨(hk.block _ h.pb_lt fun o ho => h.ne ho).trans h.own, tight ho, fun x hx => ⟨(hmem x hx).1.keep hk fun k o hf hu => absurd hu (by subst hf; exact h.mb_u8 (hmem x hx) o), (hmem x hx).2⟩, sorted_del _ h.sorted, h.apart.filter _, Nat.le_trans (List.length_filter_le _ _) h.many, h.leftOk⟩, hk⟩
end Go.Proofs.YtilpohdidekenaaGreatDoor
