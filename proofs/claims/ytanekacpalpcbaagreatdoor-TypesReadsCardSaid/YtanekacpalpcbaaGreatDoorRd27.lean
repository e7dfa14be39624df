/- Part 27 of the proof. -/
import Derived.Test.YtanekacpalpcbaaGreatDoorRd16
import Derived.Test.YtanekacpalpcbaaGreatDoorRd24
import Derived.Test.YtanekacpalpcbaaGreatDoorRd26
namespace Go.Proofs.YtanekacpalpcbaaGreatDoor
set_option linter.unusedVariables false
set_option linter.unusedSimpArgs false
open Go.RowKit
set_option maxRecDepth 100000
set_option linter.unusedSimpArgs false
set_option linter.unusedVariables false
def okR11 (s : RSt) : Prop := bytesOk s.1 ∧ s.1.length ≤ 140737488351232 ∧ s.2 ≠ some 0
theorem intS_k11 {s : RSt} (h : okR11 s) : okR11 (intS s).2 := ⟨(uintS_ok s _ h.1).1, Nat.le_trans (uintS_ok s _ h.1).2 h.2.1, uintS_no0 s _ h.2.2⟩
theorem hashS_k11 {s : RSt} (h : okR11 s) : okR11 (hashS s).2 := by
  obtain ⟨ys, e⟩ := s
  obtain ⟨h1, h2, h3⟩ := h
  cases e with
  | some x => exact ⟨h1, h2, h3⟩
  | none =>
    by_cases hs : ys.length < 32
    · rw [hashS_short hs]; exact ⟨h1, h2, by simp⟩
    · rw [hashS_long hs]; exact ⟨bytesOk_drop h1 32, by rw [List.length_drop]; simp only at h2; omega, by simp⟩
theorem partS_k11 {s : RSt} {most : Int} (h : okR11 s) : okR11 (partS s most).2 := by
  obtain ⟨ys, e⟩ := s
  obtain ⟨h1, h2, h3⟩ := h
  cases e with
  | some x => exact ⟨h1, h2, h3⟩
  | none =>
    unfold partS
    simp only
    split
    · exact ⟨h1, h2, by simp⟩
    · split
      · rename_i x hx
        exact ⟨h1, h2, fun e => by simp only [Option.some.injEq] at e; subst e; exact rdF_no0 _ _ hx⟩
      · split
        · exact ⟨h1, h2, by simp⟩
        · split
          · exact ⟨h1, h2, by simp⟩
          · refine ⟨bytesOk_drop (bytesOk_drop h1 _) _, ?_, by simp⟩
            simp only [List.length_drop]; simp only at h2; omega
theorem countS_k11 {s : RSt} {most : Nat} (h : okR11 s) : okR11 (countS s most).2 := by
  unfold countS
  split
  · rename_i x hx
    exact ⟨h.1, h.2.1, fun e => by
      have := uintS_no0 s most h.2.2
      simp only [Option.some.injEq] at e
      subst e
      exact this hx⟩
  · split
    · exact ⟨h.1, h.2.1, by simp⟩
    · exact ⟨(uintS_ok s _ h.1).1, Nat.le_trans (uintS_ok s _ h.1).2 h.2.1, uintS_no0 s _ h.2.2⟩
theorem setCells11 (g : Nat) (t : TypeId) : ∀ (vs : List Value) (o : Nat) (w : World) (cs : Array Value), w.heap[g]? = some (.cells cs t (0, 0)) → o + vs.length ≤ cs.size →
    ∃ cs' : Array Value, (w.setCells g o vs).heap[g]? = some (.cells cs' t (0, 0)) ∧ cs'.size = cs.size ∧ ∀ j, cs'[j]? = if o ≤ j ∧ j < o + vs.length then vs[j - o]? else cs[j]?
  | [], o, w, cs, h, _ => ⟨cs, h, rfl, fun j => by rw [if_neg (by simp)]⟩
  | v :: r, o, w, cs, h, hl => by
    have h1 := heap_setCell_same w g o _ t v h
    obtain ⟨cs', h2, h3, h4⟩ := setCells11 g t r (o + 1) (w.setCell ⟨g, o, none⟩ v) _ h1 (by simp at hl ⊢; omega)
    refine ⟨cs', h2, by rw [h3]; simp, fun j => ?_⟩
    rw [h4 j]
    simp only [List.length_cons] at hl ⊢
    by_cases e : j = o
    · subst e
      rw [if_neg (by omega), if_pos (by omega)]
      have : j < cs.size := by omega
      simp [this]
    · by_cases e2 : o + 1 ≤ j ∧ j < o + 1 + r.length
      · rw [if_pos e2, if_pos (by omega), show j - o = (j - (o + 1)) + 1 by omega]; simp
      · rw [if_neg e2, if_neg (by omega), Array.getElem?_setIfInBounds_ne (by omega)]
theorem only_cells11 (g : Nat) : ∀ (vs : List Value) (o : Nat) (w : World), Only g w (w.setCells g o vs)
  | [], _, w => Only.refl _ _
  | v :: r, o, w => (Only.setCell w ⟨g, o, none⟩ v).trans (only_cells11 g r (o + 1) _)
/-- a part of a row is written -/
theorem setT_app {w : World} {g : Nat} {D D' A B B' C : Array Value} {T : TypeId} {n : Nat} (h : w.heap[g]? = some (.cells D T (0, 0))) (e : D = A ++ (B ++ C)) (e' : D' = A ++ (B' ++ C)) (hn : A.size = n) (hs : B'.size = B.size) : (w.setCells g n B'.toList).heap[g]? = some (.cells D' T (0, 0)) := by
  obtain ⟨cs', h1, h2, h3⟩ := setCells11 g T B'.toList n w _ h (by rw [e]; simp; omega)
  rw [h1]
  have : cs' = D' := by
    apply Array.ext_getElem?
    intro j
    rw [h3 j, e, e']
    simp only [Array.length_toList]
    by_cases hj : n ≤ j ∧ j < n + B'.size
    · rw [if_pos hj, Array.getElem?_append_right (by omega), Array.getElem?_append_left (by omega), hn]
      simp
    · rw [if_neg hj]
      rcases (by omega : j < n ∨ n + B'.size ≤ j) with h4 | h4
      · rw [Array.getElem?_append_left (by omega), Array.getElem?_append_left (by omega)]
      · rw [Array.getElem?_append_right (by omega), Array.getElem?_append_right (by omega), Array.getElem?_append_right (by omega), Array.getElem?_append_right (by omega), hs]
  rw [this]
theorem setT_one {w : World} {g : Nat} {D D' A C : Array Value} {x y : Value} {T : TypeId} {n : Nat} (h : w.heap[g]? = some (.cells D T (0, 0))) (e : D = A ++ (#[x] ++ C)) (e' : D' = A ++ (#[y] ++ C)) (hn : A.size = n) : (w.setCell ⟨g, n, none⟩ y).heap[g]? = some (.cells D' T (0, 0)) :=
  setT_app (B := #[x]) (B' := #[y]) h e e' hn rfl
theorem thereT {w : World} {g n : Nat} {D A B C : Array Value} {T : TypeId} (h : w.heap[g]? = some (.cells D T (0, 0))) (e : D = A ++ (B ++ C)) (hn : A.size = n) : w.there g n B.size := fun j hj => by
  refine ⟨?_, frozen_of_row _ _ _ _ _ h⟩
  rw [cell_of_row _ _ _ _ _ _ h, Array.getElem?_eq_getElem (by rw [e]; simp; omega)]
  rfl
theorem bytes_blk11 {w w' : World} {y : Value} {xs : List Int} (h : BytesIn w y xs) (hk : xs ≠ [] → ∀ k, y.ownBlock = some k → w'.heap[k]? = w.heap[k]?) : BytesIn w' y xs := by
  obtain ⟨a, c, rfl, h1, h2, h3⟩ := h
  refine ⟨a, c, rfl, h1, h2, ?_⟩
  by_cases hn : xs = []
  · exact .inl hn
  · rcases h3 with h3 | ⟨ab, ao, rfl, h3⟩
    · exact .inl h3
    · refine .inr ⟨ab, ao, rfl, fun i x hi => ?_⟩
      have h4 := h3 i x hi
      have h5 := hk hn ab rfl
      unfold World.cell? at h4 ⊢
      rw [h5]
      exact h4
theorem BytesIn.only11 {w w' : World} {y : Value} {ys : List Int} {p : Nat} (h : BytesIn w y ys) (ho : Only p w w') (hn : ys ≠ [] → ∀ k, y.ownBlock = some k → k ≠ p) : BytesIn w' y ys :=
  bytes_blk11 h fun hne k hk => ho.block k (bytes_own11 h hne k hk) (hn hne k hk)
/-- while a record is read: the Reader's block N, the results' blocks, the record's block q -/
structure RrM (w : World) (N q : Nat) (T : TypeId) (Z : Array Value) (ob : Option Nat) (s : RSt) (cs : Array Value) (wr : World) : Prop where
  eN : N = w.heap.size
  below : Below N w wr
  rd : ∃ ra rn rc, wr.heap[N]? = some (.cells (rdC (.slice ra rn rc) (numE s.2)) 152 (0, 0)) ∧ BytesIn wr (.slice ra rn rc) s.1 ∧ (Value.slice ra rn rc).ownBlock = ob
  res : wr.heap[N + 1]? = some (.cells (rdC (.slice none 0 0) 0) 152 (0, 0))
  zer : wr.heap[N + 1 + 1]? = some (.cells Z T (0, 0))
  at_ : wr.heap[q]? = some (.cells cs T (0, 0))
  obN : s.1 ≠ [] → ∀ k, ob = some k → k < N
  q3 : N + 1 + 1 < q
theorem RrM.call {w : World} {N q : Nat} {T : TypeId} {Z : Array Value} {ob : Option Nat} {s : RSt} {cs : Array Value} {wr wr' : World} (m : RrM w N q T Z ob s cs wr) (hb : Below wr.heap.size wr wr') : RrM w N q T Z ob s cs wr' := by
  obtain ⟨ra, rn, rc, h5, hin, ho⟩ := m.rd
  exact ⟨m.eN, m.below.trans (hb.mono (by rw [m.eN]; exact m.below.size)), ⟨ra, rn, rc, (hb.block _ (bkT_lt h5)).trans h5, hin.below hb, ho⟩, (hb.block _ (bkT_lt m.res)).trans m.res, (hb.block _ (bkT_lt m.zer)).trans m.zer, (hb.block _ (bkT_lt m.at_)).trans m.at_, m.obN, m.q3⟩
theorem RrM.read {w : World} {N q : Nat} {T : TypeId} {Z : Array Value} {ob : Option Nat} {s s' : RSt} {cs : Array Value} {wr : World} (m : RrM w N q T Z ob s cs wr) {a : Option Addr} {n c : Nat} (hx : BytesIn wr (.slice a n c) s'.1) (ho : (Value.slice a n c).ownBlock = ob) (hs : s.1 = [] → s'.1 = []) : RrM w N q T Z ob s' cs (wr.setRow N (rdC (.slice a n c) (numE s'.2))) := by
  have h3 := m.q3
  obtain ⟨ra, rn, rc, h5, hin, _⟩ := m.rd
  exact ⟨m.eN, below_setRow m.below (Nat.le_refl _) _, ⟨a, n, c, setRow_heap _ _ _ _ _ _ h5, bytes_row hx h5 _, ho⟩, (setRow_other _ _ _ _ (by omega)).trans m.res, (setRow_other _ _ _ _ (by omega)).trans m.zer, (setRow_other _ _ _ _ (by omega)).trans m.at_, fun hn => m.obN fun e => hn (hs e), h3⟩
/-- what the row of the Reader being written leaves as it was -/
theorem RrM.row {w : World} {N q : Nat} {T : TypeId} {Z : Array Value} {ob : Option Nat} {s : RSt} {cs : Array Value} {wr : World} (m : RrM w N q T Z ob s cs wr) (C : Array Value) {v : Value} {ys : List Int} (h : BytesIn wr v ys) : BytesIn (wr.setRow N C) v ys := by
  obtain ⟨ra, rn, rc, h5, hin, _⟩ := m.rd
  exact bytes_row h h5 _
theorem RrM.put {w : World} {N q : Nat} {T : TypeId} {Z : Array Value} {ob : Option Nat} {s : RSt} {cs cs' : Array Value} {wr wr' : World} (m : RrM w N q T Z ob s cs wr) (ho : Only q wr wr') (h : wr'.heap[q]? = some (.cells cs' T (0, 0))) : RrM w N q T Z ob s cs' wr' := by
  have h3 := m.q3
  obtain ⟨ra, rn, rc, h5, hin, hob⟩ := m.rd
  exact ⟨m.eN, m.below.trans (ho.below (by omega) (by rw [m.eN]; exact m.below.size)), ⟨ra, rn, rc, (ho.block _ (bkT_lt h5) (by omega)).trans h5, hin.only11 ho (fun hn k hk => by have := m.obN hn k (hob ▸ hk); omega), hob⟩, (ho.block _ (bkT_lt m.res) (by omega)).trans m.res, (ho.block _ (bkT_lt m.zer) (by omega)).trans m.zer, h, m.obN, h3⟩
theorem RrM.grow {w : World} {N q : Nat} {T : TypeId} {Z : Array Value} {ob : Option Nat} {s : RSt} {cs : Array Value} {wr wr' : World} (m : RrM w N q T Z ob s cs wr) {own : Option Nat} (hg : wr.grownBy wr' own) (ho : ∀ k, own = some k → q < k) : RrM w N q T Z ob s cs wr' := by
  have h3 := m.q3
  have hne : ∀ k, k ≤ q → some k ≠ own := fun k hk e => by have := ho k e.symm; omega
  obtain ⟨ra, rn, rc, h5, hin, hob⟩ := m.rd
  have blk : ∀ {k : Nat} {o : Obj}, wr.heap[k]? = some o → k ≤ q → wr'.heap[k]? = some o := fun {k o} h hk => (hg.block k (bkT_lt h) (hne k hk)).trans h
  refine ⟨m.eN, m.below.trans ⟨hg.os, hg.tape, hg.output, hg.size, fun k hk => hg.block k (Nat.lt_of_lt_of_le hk (by rw [m.eN]; exact m.below.size)) (hne k (by omega))⟩, ⟨ra, rn, rc, blk h5 (by omega), ?_, hob⟩, blk m.res (by omega), blk m.zer (by omega), blk m.at_ (Nat.le_refl _), m.obN, h3⟩
  obtain ⟨a', c', e', x1, x2, x3⟩ := id hin
  refine ⟨a', c', e', x1, x2, ?_⟩
  by_cases hn : s.1 = []
  · exact .inl hn
  · rcases x3 with x3 | ⟨ab, ao, rfl, h4⟩
    · exact .inl x3
    · injection e' with e1 _ _
      subst e1
      refine .inr ⟨ab, ao, rfl, fun i x hi => ?_⟩
      have h6 := h4 i x hi
      have h7 := m.obN hn ab (by rw [← hob]; rfl)
      unfold World.cell? at h6 ⊢
      have h8 : ab < wr.heap.size := by have := World.block_lt_of_cell? wr _ (h4 i x hi); exact this
      rw [hg.block ab h8 (hne ab (by omega))]
      exact h6
theorem RrM.side {w : World} {N q : Nat} {T : TypeId} {Z : Array Value} {ob : Option Nat} {s : RSt} {cs : Array Value} {wr wr' : World} (m : RrM w N q T Z ob s cs wr) {g : Nat} (ho : Only g wr wr') (hg : q < g) : RrM w N q T Z ob s cs wr' := by
  have h3 := m.q3
  obtain ⟨ra, rn, rc, h5, hin, hob⟩ := m.rd
  exact ⟨m.eN, m.below.trans (ho.below (by omega) (by rw [m.eN]; exact m.below.size)), ⟨ra, rn, rc, (ho.block _ (bkT_lt h5) (by omega)).trans h5, hin.only11 ho (fun hn k hk => by have := m.obN hn k (hob ▸ hk); omega), hob⟩, (ho.block _ (bkT_lt m.res) (by omega)).trans m.res, (ho.block _ (bkT_lt m.zer) (by omega)).trans m.zer, (ho.block _ (bkT_lt m.at_) (by omega)).trans m.at_, m.obN, h3⟩
/-- three blocks laid: the fourth is the record's -/
theorem rr_start {w w1 : World} {v : Value} {s : RSt} {n : Nat} {T : TypeId} {Z : Array Value} (hin : BytesIn w v s.1) (hZ : Z.size = n) (hA : ((w.alloc (.cells (rdC v (numE s.2)) 152)).alloc (.cells (rdC (.slice none 0 0) 0) 152)).alloc (.cells Z T) = w1) :
    ∃ Z : Array Value, Z.size = n ∧ ∀ C, RrM w w.heap.size w1.heap.size T Z v.ownBlock s C (w1.alloc (.cells C T)) := by
  obtain ⟨a, c, rfl, -⟩ := id hin
  have b1 := below_alloc w (.cells (rdC (.slice a s.1.length c) (numE s.2)) 152)
  have b2 := below_alloc (w.alloc (.cells (rdC (.slice a s.1.length c) (numE s.2)) 152)) (.cells (rdC (.slice none 0 0) 0) 152)
  have b3 := below_alloc ((w.alloc (.cells (rdC (.slice a s.1.length c) (numE s.2)) 152)).alloc (.cells (rdC (.slice none 0 0) 0) 152)) (.cells Z T)
  have h1 := heap_alloc_new w (.cells (rdC (.slice a s.1.length c) (numE s.2)) 152)
  have h2 := heap_alloc_new (w.alloc (.cells (rdC (.slice a s.1.length c) (numE s.2)) 152)) (.cells (rdC (.slice none 0 0) 0) 152)
  have h3 := heap_alloc_new ((w.alloc (.cells (rdC (.slice a s.1.length c) (numE s.2)) 152)).alloc (.cells (rdC (.slice none 0 0) 0) 152)) (.cells Z T)
  simp only [size_alloc] at h2 h3
  have bb := (b1.trans (b2.mono (by simp))).trans (b3.mono (by simp; omega))
  have g1 := (b3.block w.heap.size (by simp; omega)).trans ((b2.block w.heap.size (by simp)).trans h1)
  have g2 := (b3.block (w.heap.size + 1) (by simp)).trans h2
  rw [hA] at bb g1 g2 h3
  have hs : w1.heap.size = w.heap.size + 1 + 1 + 1 := by rw [← hA]; simp
  refine ⟨Z, hZ, fun C => ?_⟩
  have b4 := below_alloc w1 (.cells C T)
  have bz := bb.trans (b4.mono (by omega))
  exact ⟨rfl, bz, ⟨a, _, c, (b4.block _ (by omega)).trans g1, hin.below bz, rfl⟩, (b4.block _ (by omega)).trans g2, (b4.block _ (by omega)).trans h3, heap_alloc_new _ _, fun hn k hk => bytes_own11 hin hn k hk, by omega⟩
/-- the results are stored -/
structure RrF (w wr : World) (N q : Nat) (T : TypeId) (R cs Z : Array Value) : Prop where
  r0 : wr.heap[N + 1]? = some (.cells (rdC (.slice none 0 0) 0) 152 (0, 0))
  s1 : (wr.setRow (N + 1) R).heap[N]? = some (.cells R 152 (0, 0)) ∧ (wr.setRow (N + 1) R).heap[q]? = some (.cells cs T (0, 0))
  r1 : (wr.setRow (N + 1) R).heap[N + 1 + 1]? = some (.cells Z T (0, 0))
  s2 : ((wr.setRow (N + 1) R).setRow (N + 1 + 1) cs).heap[N]? = some (.cells R 152 (0, 0)) ∧ ((wr.setRow (N + 1) R).setRow (N + 1 + 1) cs).heap[q]? = some (.cells cs T (0, 0))
  a : ((wr.setRow (N + 1) R).setRow (N + 1 + 1) cs).heap[N + 1]? = some (.cells R 152 (0, 0))
  b : ((wr.setRow (N + 1) R).setRow (N + 1 + 1) cs).heap[N + 1 + 1]? = some (.cells cs T (0, 0))
  end_ : Below N w ((wr.setRow (N + 1) R).setRow (N + 1 + 1) cs) ∧ ((wr.setRow (N + 1) R).setRow (N + 1 + 1) cs).heap.size = wr.heap.size ∧ ∀ k, k ≠ N + 1 → k ≠ N + 1 + 1 → ((wr.setRow (N + 1) R).setRow (N + 1 + 1) cs).heap[k]? = wr.heap[k]?
theorem RrM.fin {w : World} {N q : Nat} {T : TypeId} {Z : Array Value} {ob : Option Nat} {s : RSt} {cs : Array Value} {wr : World} (m : RrM w N q T Z ob s cs wr) {R : Array Value} (h5 : wr.heap[N]? = some (.cells R 152 (0, 0))) : RrF w wr N q T R cs Z := by
  have h3 := m.q3
  have e1 := setRow_heap wr (N + 1) _ R _ _ m.res
  have e2 := (setRow_other wr (N + 1) (N + 1 + 1) R (by omega)).trans m.zer
  have e3 := (setRow_other wr (N + 1) N R (by omega)).trans h5
  have e4 := (setRow_other wr (N + 1) q R (by omega)).trans m.at_
  refine ⟨m.res, ⟨e3, e4⟩, e2, ⟨(setRow_other _ _ _ _ (by omega)).trans e3, (setRow_other _ _ _ _ (by omega)).trans e4⟩, (setRow_other _ _ _ _ (by omega)).trans e1, setRow_heap _ _ _ _ _ _ e2, below_setRow (below_setRow m.below (by omega) _) (by omega) _, by simp [World.setRow], fun k h1 h2 => (setRow_other _ _ _ _ h2).trans (setRow_other _ _ _ _ h1)⟩
/-- the readers' contracts, their answers by letters -/
theorem ri_let {s s1 : RSt} {x : Int} (h : intS s = (x, s1)) (ok : okR11 s) (v : Value) (X : World) (hb : BytesIn X v s.1) : Calls Tryz.prog 158 #[.agg (rdC v (numE s.2))] X fun e w' => ∃ v', e = .returned (.tuple #[.agg (rdC v' (numE s1.2)), .int .i64 x]) ∧ BytesIn w' v' s1.1 ∧ v'.ownBlock = v.ownBlock ∧ Below X.heap.size X w' := by
  have := rrintO_any v s.1 s.2 ok.2.2 X hb ok.1 ok.2.1
  rw [show (s.1, s.2) = s from rfl, h] at this
  exact this
theorem rh_let {s s1 : RSt} {F : Nat → Int} (h : hashS s = (F, s1)) (ok : okR11 s) (v : Value) (X : World) (hb : BytesIn X v s.1) : Calls Tryz.prog 157 #[.agg (rdC v (numE s.2))] X fun e w' => ∃ v', e = .returned (.tuple #[.agg (rdC v' (numE s1.2)), .agg (rowOf .u8 32 F)]) ∧ BytesIn w' v' s1.1 ∧ v'.ownBlock = v.ownBlock ∧ Below X.heap.size X w' := by
  have := rhash2_any v s.1 s.2 ok.2.2 X hb
  rw [show (s.1, s.2) = s from rfl, h] at this
  exact this
theorem rp_let {s s1 : RSt} {most : Nat} {m : Int} {xs : List Int} (hm : most ≤ 1048576) (hmI : m = (most : Int)) (h : partS s m = (xs, s1)) (ok : okR11 s) (v : Value) (X : World) (hb : BytesIn X v s.1) : Calls Tryz.prog 156 #[.agg (rdC v (numE s.2)), .int .i64 m] X fun e w' => ∃ v' vb, e = .returned (.tuple #[.agg (rdC v' (numE s1.2)), vb]) ∧ BytesIn w' v' s1.1 ∧ BytesIn w' vb xs ∧ v'.ownBlock = v.ownBlock ∧ (∀ j, vb.ownBlock = some j → X.heap.size ≤ j ∧ j < w'.heap.size) ∧ Below X.heap.size X w' := by
  subst hmI
  have := rrbytesO_any v s.1 s.2 ok.2.2 most hm X hb ok.1 ok.2.1
  rw [show (s.1, s.2) = s from rfl, h] at this
  exact this
theorem rc_let {s s1 : RSt} {most n : Nat} {m : Int} (hm : most ≤ 9223372036854775807) (hmI : m = (most : Int)) (h : countS s most = (n, s1)) (ok : okR11 s) (v : Value) (X : World) (hb : BytesIn X v s.1) : Calls Tryz.prog 155 #[.agg (rdC v (numE s.2)), .int .i64 m] X fun e w' => ∃ v', e = .returned (.tuple #[.agg (rdC v' (numE s1.2)), .int .i64 (n : Int)]) ∧ BytesIn w' v' s1.1 ∧ v'.ownBlock = v.ownBlock ∧ Below X.heap.size X w' := by
  subst hmI
  have := rrcountO_any v s.1 s.2 ok.2.2 most hm X hb ok.1 ok.2.1
  rw [show (s.1, s.2) = s from rfl, h] at this
  exact this
end Go.Proofs.YtanekacpalpcbaaGreatDoor
