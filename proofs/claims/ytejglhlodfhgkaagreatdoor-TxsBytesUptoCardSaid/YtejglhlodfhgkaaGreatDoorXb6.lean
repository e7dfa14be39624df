/- Part 6 of the proof. -/
import Derived.Great.BuildSlice
import Derived.Test.YtejglhlodfhgkaaGreatDoorXb1
import Derived.Test.YtejglhlodfhgkaaGreatDoorXb5
namespace Go.Proofs.YtejglhlodfhgkaaGreatDoor
set_option linter.unusedVariables false
set_option linter.unusedSimpArgs false
open Go.RowKit
set_option maxRecDepth 100000
set_option linter.unusedSimpArgs false
set_option linter.unusedVariables false
theorem intE11 {s : RSt} (h : s.1 = []) : (intS s).2.1 = [] := by
  obtain ⟨ys, e⟩ := s
  simp only at h
  subst h
  unfold intS
  cases e with
  | some x => rfl
  | none =>
    cases hr : (rdF [] 18446744073709551615).2.2 with
    | some x => rw [uintS_bad hr]
    | none => rw [uintS_good hr]; simp
theorem partE11 {s : RSt} {most : Int} (h : s.1 = []) : (partS s most).2.1 = [] := by
  obtain ⟨ys, e⟩ := s
  simp only at h
  subst h
  unfold partS
  cases e with
  | some x => rfl
  | none =>
    simp only
    split
    · rfl
    · split
      · rfl
      · split
        · rfl
        · split
          · rfl
          · simp
theorem cntE11 {s : RSt} {most : Nat} (h : s.1 = []) : (countS s most).2.1 = [] := by
  obtain ⟨ys, e⟩ := s
  simp only at h
  subst h
  cases e with
  | some x => rw [countS_bad (x := x) rfl]
  | none =>
    cases hr : (rdF [] most).2.2 with
    | some x => rw [countS_bad (x := x) (by rw [uintS_bad hr])]
    | none =>
      have hu := uintS_good hr
      by_cases hl : (uintS ([], none) most).2.1.length < (uintS ([], none) most).1
      · rw [countS_long (by rw [hu]) hl]
      · rw [countS_good (by rw [hu]) hl, hu]; simp
/-- k slices of bytes on -/
def txN : Nat → RSt → RSt
  | 0, s => s
  | k + 1, s => (partS (txN k s) 65536).2
def txsF : Nat → RSt → List Value → List Tb
  | _, _, [] => []
  | k, s, v :: r => ⟨v, (partS (txN k s) 65536).1⟩ :: txsF (k + 1) s r
def txs (s : RSt) (l : List Value) : List Tb := txsF 0 s l
/-- a slice of rows of one's own -/
theorem flat_len {α : Type} {n : Nat} {C : α → List Value} (hC : ∀ t, (C t).length = n) : ∀ l : List α, (l.flatMap C).length = l.length * n
  | [] => by simp
  | x :: r => by rw [List.flatMap_cons, List.length_append, hC, flat_len hC r, List.length_cons, Nat.add_mul, Nat.one_mul, Nat.add_comm]
theorem flat_get {α : Type} {n : Nat} {C : α → List Value} (hC : ∀ t, (C t).length = n) : ∀ (l : List α) (i : Nat) (t : α), l[i]? = some t → ∀ j, j < n → (l.flatMap C)[i * n + j]? = (C t)[j]?
  | [], i, t, h, j, hj => by simp at h
  | x :: l, 0, t, h, j, hj => by
    injection h with h; subst h
    rw [List.flatMap_cons, Nat.zero_mul, Nat.zero_add, List.getElem?_append_left (by rw [hC]; exact hj)]
  | x :: l, i + 1, t, h, j, hj => by
    rw [List.flatMap_cons, List.getElem?_append_right (by rw [hC, Nat.add_mul]; omega), hC, show (i + 1) * n + j - n = i * n + j from by rw [Nat.add_mul]; omega]
    exact flat_get hC l i t (by simpa using h) j hj
theorem rows_of_own {α : Type} {n : Nat} {C : α → List Value} (hC : ∀ t, (C t).length = n) {w : World} {B : Nat} {E : TypeId} {v : Value} {l : List α} (h : w.ownsRow B E n v l.length (l.flatMap C)) (hm : l.length ≤ maxLen) : RowsIn n C w v l := by
  rcases h.2 with ⟨rfl, h0⟩ | ⟨tb, cap, cur, rfl, _, hh, hc, hm2, _⟩
  · obtain rfl := List.eq_nil_of_length_eq_zero h0
    exact ⟨none, 0, rfl, by simp, hm, .inl rfl⟩
  · refine ⟨_, cap, rfl, hc, hm, .inr ⟨tb, 0, rfl, (Array.getElem?_eq_some_iff.1 hh).1, fun i p hi j u hu => ?_⟩⟩
    have hj : j < n := by have := (List.getElem?_eq_some_iff.1 hu).1; rw [hC] at this; exact this
    have e := h.cells (g := tb) rfl (i * n + j) u ((flat_get hC l i p hi j hj).trans hu)
    rw [Addr.add_mid] at e
    rw [Nat.add_assoc]; exact e
theorem own_slice11 {w : World} {base n m : Nat} {ty : TypeId} {v : Value} {vs : List Value} (h : w.ownsRow base ty n v m vs) : ∃ a c, v = .slice a m c := by
  rcases h.2 with ⟨rfl, h0⟩ | ⟨g, c, _, rfl, _⟩
  · exact ⟨none, 0, by rw [h0]⟩
  · exact ⟨_, c, rfl⟩
theorem own_stay11 {w w' : World} {base n m : Nat} {ty : TypeId} {v : Value} {vs : List Value} (h : w.ownsRow base ty n v m vs) (hw : ∀ k, v.ownBlock = some k → w'.heap[k]? = w.heap[k]?) : w'.ownsRow base ty n v m vs := by
  refine ⟨h.1, h.2.imp id ?_⟩
  rintro ⟨g, cap, cur, rfl, hg, hh, h2⟩
  exact ⟨g, cap, cur, rfl, hg, (hw g rfl).trans hh, h2⟩
theorem wpList_append_row11 {α : Type} {n bytes : Nat} {C : α → List Value} (hC : ∀ t, (C t).length = n) (T E : TypeId) (z : Value) (hT : Tryz.prog.underlying T = some (.slice E)) (hI : (Tryz.prog.info? E).map (fun i => (i.zero, i.size, i.bytes)) = some (some z, n, bytes)) (hz : z.cells.size = n) (hn : 0 < n)
    {w : World} {ops : Array Oper} {rest : List Oper} {o : Oper} {a : Act} {Q : Exit → Act → World → Prop} (hgd : o.guard = none) (s y : Operand)
    (ho : o.op = .call { callee := .builtin .append, args := #[s, y], argTypes := #[T, T] }) (hty : o.type = T)
    (base : Nat) (v : Value) (l : List α) (hs : a.eval s = v) (hown : w.ownsRow base E n v l.length (l.flatMap C)) (b : Nat) (x : α) (h1 : ∀ u ∈ C x, u.oneCell' = true) (hy : a.eval y = .slice (some ⟨b, 0, none⟩) 1 1) (hyb : w.heap[b]? = some (.cells (C x).toArray E (0, 0))) (hl : (l.length + 1) * bytes ≤ 140737488355328) (hl2 : l.length < 1048576) (hb : base ≤ w.heap.size)
    (h : ∀ v' w', w'.ownsRow base E n v' (l ++ [x]).length ((l ++ [x]).flatMap C) → w.grownBy w' v.ownBlock → (v'.ownBlock = v.ownBlock ∨ v'.ownBlock = some w.heap.size) → wpList Tryz.prog ops Q rest (a.put o.dst v') w') : wpList Tryz.prog ops Q (o :: rest) a w := by
  refine wpList_plain hgd fun K hK => ?_
  obtain ⟨i0, hi, hz0, hz1, hz2⟩ := info_parts hI
  obtain ⟨v', w', hr, h2, h3, _, h4⟩ := run_append_own_at w base T T E i0 z n bytes hT hi hz0 hz1 hz2 hz hn v l.length (l.flatMap C) hown ⟨b, 0, none⟩ 1 1 (C x) (by rw [hC]; omega)
    (fun j u hj => by rw [Addr.add_mid, Nat.zero_add, cell_of_row w b j _ _ _ hyb]; simpa using hj) h1 (by unfold maxLen; omega) hl hb
  unfold Oper.wp execOp
  simp only [ho, hty, resolve, invoke, builtin, Sem.run_bind, Sem.run_pure, Result.andThen_ok, List.map_toArray, List.map_cons, List.map_nil, hs, hy, hr]
  refine hK _ _ (h v' w' ?_ h3 h4)
  rw [List.length_append, List.flatMap_append, show [x].flatMap C = C x from by simp]
  exact h2
theorem only_setRow11 (w : World) (q : Nat) (cs : Array Value) : Only q w (w.setRow q cs) := ⟨rfl, rfl, rfl, by simp [World.setRow], fun k hk hg => setRow_other _ _ _ _ hg⟩
theorem RowsIn.only {α : Type} {n : Nat} {C : α → List Value} {w w' : World} {v : Value} {l : List α} {p : Nat} (h : RowsIn n C w v l) (ho : Only p w w') (hn : ∀ k, v.ownBlock = some k → k ≠ p) : RowsIn n C w' v l := by
  obtain ⟨a, cap, rfl, hc, hm, hx⟩ := h
  refine ⟨a, cap, rfl, hc, hm, hx.imp id ?_⟩
  rintro ⟨ab, ao, rfl, hlt, hx⟩
  exact ⟨ab, ao, rfl, Nat.lt_of_lt_of_le hlt ho.size, fun i p hi j u hu => (World.cell?_of_block (ho.block ab hlt (hn ab rfl))).trans (hx i p hi j u hu)⟩
/-- a list of votes, all new from block N on -/
structure VL (w : World) (N : Nat) (vv : Value) (l : List Vo) : Prop where
  rows : VoIn w vv l
  own : ∀ j, vv.ownBlock = some j → N ≤ j
  el : ∀ t ∈ l, BytesIn w t.sv t.sign ∧ ∀ j, t.sv.ownBlock = some j → N ≤ j
theorem VL.only {w w' : World} {N p : Nat} {vv : Value} {l : List Vo} (h : VL w N vv l) (ho : Only p w w') (hp : p < N) : VL w' N vv l :=
  ⟨h.rows.only ho fun k hk => by have := h.own k hk; omega, h.own, fun t ht => ⟨(h.el t ht).1.only ho fun k hk => by have := (h.el t ht).2 k hk; omega, (h.el t ht).2⟩⟩
theorem VL.mono {w : World} {N M : Nat} {vv : Value} {l : List Vo} (h : VL w N vv l) (hm : M ≤ N) : VL w M vv l :=
  ⟨h.rows, fun j hj => Nat.le_trans hm (h.own j hj), fun t ht => ⟨(h.el t ht).1, fun j hj => Nat.le_trans hm ((h.el t ht).2 j hj)⟩⟩
structure TL (w : World) (N : Nat) (vv : Value) (l : List Tb) : Prop where
  rows : TbIn w vv l
  own : ∀ j, vv.ownBlock = some j → N ≤ j
  el : ∀ t ∈ l, BytesIn w t.bv t.bs ∧ ∀ j, t.bv.ownBlock = some j → N ≤ j
theorem TL.only {w w' : World} {N p : Nat} {vv : Value} {l : List Tb} (h : TL w N vv l) (ho : Only p w w') (hp : p < N) : TL w' N vv l :=
  ⟨h.rows.only ho fun k hk => by have := h.own k hk; omega, h.own, fun t ht => ⟨(h.el t ht).1.only ho fun k hk => by have := (h.el t ht).2 k hk; omega, (h.el t ht).2⟩⟩
theorem TL.mono {w : World} {N M : Nat} {vv : Value} {l : List Tb} (h : TL w N vv l) (hm : M ≤ N) : TL w M vv l :=
  ⟨h.rows, fun j hj => Nat.le_trans hm (h.own j hj), fun t ht => ⟨(h.el t ht).1, fun j hj => Nat.le_trans hm ((h.el t ht).2 j hj)⟩⟩
theorem VL.below {w w' : World} {N : Nat} {vv : Value} {l : List Vo} (h : VL w N vv l) (hb : Below w.heap.size w w') : VL w' N vv l :=
  ⟨h.rows.below hb, h.own, fun t ht => ⟨(h.el t ht).1.below hb, (h.el t ht).2⟩⟩
theorem TL.below {w w' : World} {N : Nat} {vv : Value} {l : List Tb} (h : TL w N vv l) (hb : Below w.heap.size w w') : TL w' N vv l :=
  ⟨h.rows.below hb, h.own, fun t ht => ⟨(h.el t ht).1.below hb, (h.el t ht).2⟩⟩
theorem RO.below11 {w w' : World} {p : Nat} {ob : Option Nat} {s : RSt} (h : RO w p ob s) (hb : Below w.heap.size w w') : RO w' p ob s := by
  obtain ⟨y, hy, ho⟩ := h
  exact ⟨y, hy.below hb, ho⟩
theorem RS.below11 {w w' : World} {p : Nat} {s : RSt} (h : RS w p s) (hb : Below w.heap.size w w') : RS w' p s := by
  obtain ⟨y, hy⟩ := h
  exact ⟨y, hy.below hb⟩
theorem RO.own11 {w : World} {p : Nat} {ob : Option Nat} {s : RSt} (h : RO w p ob s) (hn : s.1 ≠ []) : ∀ k, ob = some k → k < w.heap.size := by
  obtain ⟨y, hy, rfl⟩ := h
  exact hy.own_lt hn
theorem RO.lt11 {w : World} {p : Nat} {ob : Option Nat} {s : RSt} (h : RO w p ob s) : p < w.heap.size := by obtain ⟨y, hy, _⟩ := h; exact hy.lt
theorem RS.lt11 {w : World} {p : Nat} {s : RSt} (h : RS w p s) : p < w.heap.size := by obtain ⟨y, hy⟩ := h; exact hy.lt
theorem RO.stay11 {w w' : World} {p q : Nat} {ob : Option Nat} {s : RSt} (h : RO w p ob s) (ho : Only q w w') (hpq : p ≠ q) (hob : s.1 ≠ [] → ∀ k, ob = some k → k ≠ q) : RO w' p ob s := by
  obtain ⟨y, hy, rfl⟩ := h
  exact ⟨y, hy.keep (ho.block p hy.lt hpq) fun hn k hk => ho.block k (hy.own_lt hn k hk) (hob hn k hk), rfl⟩
end Go.Proofs.YtejglhlodfhgkaaGreatDoor
