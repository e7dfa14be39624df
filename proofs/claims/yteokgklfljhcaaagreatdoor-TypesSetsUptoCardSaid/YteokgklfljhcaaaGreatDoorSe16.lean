/- Part 16 of the proof. -/
import Derived.Great.BuildSlice
import Derived.Test.YteokgklfljhcaaaGreatDoorSe3
import Derived.Test.YteokgklfljhcaaaGreatDoorSe4
import Derived.Test.YteokgklfljhcaaaGreatDoorSe9
import Derived.Test.YteokgklfljhcaaaGreatDoorSe11
import Derived.Test.YteokgklfljhcaaaGreatDoorSe12
import Derived.Test.YteokgklfljhcaaaGreatDoorSe15
namespace Go.Proofs.YteokgklfljhcaaaGreatDoor
set_option linter.unusedVariables false
set_option linter.unusedSimpArgs false
open Go.RowKit
set_option maxRecDepth 100000
set_option linter.unusedSimpArgs false
set_option linter.unusedVariables false
theorem hashO11 (p : Nat) (ob : Option Nat) (s : RSt) (w : World) (h : RO w p ob s) :
    Calls Tryz.prog 157 #[.pointer (some ⟨p, 0, none⟩)] w fun r w' => r = .returned (.agg (rowOf .u8 32 (hashS s).1)) ∧ RO w' p ob (hashS s).2 ∧ Only p w w' := by
  obtain ⟨ys, e⟩ := s
  obtain ⟨y, hy, rfl⟩ := h
  exact rhash_own p y ys e w hy
theorem intE11 {s : RSt} (h : s.1 = []) : (intS s).2.1 = [] := by
  obtain ⟨ys, e⟩ := s
  simp only at h
  subst h
  unfold intS
  cases e with
  | some x => rfl
  | none =>
    cases hr : (rdF [] 18446744073709551615).2.2 with
    | some x => rw [uintS_bad hr]
    | none => rw [uintS_good hr]; simp
theorem hashE11 {s : RSt} (h : s.1 = []) : (hashS s).2.1 = [] := by
  obtain ⟨ys, e⟩ := s
  simp only at h
  subst h
  cases e <;> rfl
theorem partE11 {s : RSt} {most : Int} (h : s.1 = []) : (partS s most).2.1 = [] := by
  obtain ⟨ys, e⟩ := s
  simp only at h
  subst h
  unfold partS
  cases e with
  | some x => rfl
  | none =>
    simp only
    split
    · rfl
    · split
      · rfl
      · split
        · rfl
        · split
          · rfl
          · simp
theorem cntE11 {s : RSt} {most : Nat} (h : s.1 = []) : (countS s most).2.1 = [] := by
  obtain ⟨ys, e⟩ := s
  simp only at h
  subst h
  cases e with
  | some x => rw [countS_bad (x := x) rfl]
  | none =>
    cases hr : (rdF [] most).2.2 with
    | some x => rw [countS_bad (x := x) (by rw [uintS_bad hr])]
    | none =>
      have hu := uintS_good hr
      by_cases hl : (uintS ([], none) most).2.1.length < (uintS ([], none) most).1
      · rw [countS_long (by rw [hu]) hl]
      · rw [countS_good (by rw [hu]) hl, hu]; simp
/-- behind a vote -/
def vt5 (s : RSt) : RSt := (intS (hashS (intS (intS (intS s).2).2).2).2).2
def vtR (s : RSt) : RSt := (partS (vt5 s) 65536).2
def vtG (s : RSt) : List Int := (partS (vt5 s) 65536).1
def vtV (s : RSt) (sv : Value) : Vo := ⟨(intS s).1, (intS (intS s).2).1, (intS (intS (intS s).2).2).1, (hashS (intS (intS (intS s).2).2).2).1, (intS (hashS (intS (intS (intS s).2).2).2).2).1, sv, vtG s⟩
/-- k votes on -/
def vtN : Nat → RSt → RSt
  | 0, s => s
  | k + 1, s => vtR (vtN k s)
def vtsF : Nat → RSt → List Value → List Vo
  | _, _, [] => []
  | k, s, v :: r => vtV (vtN k s) v :: vtsF (k + 1) s r
/-- the votes read, whose signatures are these slices -/
def vts (s : RSt) (l : List Value) : List Vo := vtsF 0 s l
/-- k slices of bytes on -/
def txN : Nat → RSt → RSt
  | 0, s => s
  | k + 1, s => (partS (txN k s) 65536).2
def txsF : Nat → RSt → List Value → List Tb
  | _, _, [] => []
  | k, s, v :: r => ⟨v, (partS (txN k s) 65536).1⟩ :: txsF (k + 1) s r
def txs (s : RSt) (l : List Value) : List Tb := txsF 0 s l
theorem flat_get {α : Type} {n : Nat} {C : α → List Value} (hC : ∀ t, (C t).length = n) : ∀ (l : List α) (i : Nat) (t : α), l[i]? = some t → ∀ j, j < n → (l.flatMap C)[i * n + j]? = (C t)[j]?
  | [], i, t, h, j, hj => by simp at h
  | x :: l, 0, t, h, j, hj => by
    injection h with h; subst h
    rw [List.flatMap_cons, Nat.zero_mul, Nat.zero_add, List.getElem?_append_left (by rw [hC]; exact hj)]
  | x :: l, i + 1, t, h, j, hj => by
    rw [List.flatMap_cons, List.getElem?_append_right (by rw [hC, Nat.add_mul]; omega), hC, show (i + 1) * n + j - n = i * n + j from by rw [Nat.add_mul]; omega]
    exact flat_get hC l i t (by simpa using h) j hj
theorem rows_of_own {α : Type} {n : Nat} {C : α → List Value} (hC : ∀ t, (C t).length = n) {w : World} {B : Nat} {E : TypeId} {v : Value} {l : List α} (h : w.ownsRow B E n v l.length (l.flatMap C)) (hm : l.length ≤ maxLen) : RowsIn n C w v l := by
  rcases h.2 with ⟨rfl, h0⟩ | ⟨tb, cap, cur, rfl, _, hh, hc, hm2, _⟩
  · obtain rfl := List.eq_nil_of_length_eq_zero h0
    exact ⟨none, 0, rfl, by simp, hm, .inl rfl⟩
  · refine ⟨_, cap, rfl, hc, hm, .inr ⟨tb, 0, rfl, (Array.getElem?_eq_some_iff.1 hh).1, fun i p hi j u hu => ?_⟩⟩
    have hj : j < n := by have := (List.getElem?_eq_some_iff.1 hu).1; rw [hC] at this; exact this
    have e := h.cells (g := tb) rfl (i * n + j) u ((flat_get hC l i p hi j hj).trans hu)
    rw [Addr.add_mid] at e
    rw [Nat.add_assoc]; exact e
theorem own_slice11 {w : World} {base n m : Nat} {ty : TypeId} {v : Value} {vs : List Value} (h : w.ownsRow base ty n v m vs) : ∃ a c, v = .slice a m c := by
  rcases h.2 with ⟨rfl, h0⟩ | ⟨g, c, _, rfl, _⟩
  · exact ⟨none, 0, by rw [h0]⟩
  · exact ⟨_, c, rfl⟩
theorem own_stay11 {w w' : World} {base n m : Nat} {ty : TypeId} {v : Value} {vs : List Value} (h : w.ownsRow base ty n v m vs) (hw : ∀ k, v.ownBlock = some k → w'.heap[k]? = w.heap[k]?) : w'.ownsRow base ty n v m vs := by
  refine ⟨h.1, h.2.imp id ?_⟩
  rintro ⟨g, cap, cur, rfl, hg, hh, h2⟩
  exact ⟨g, cap, cur, rfl, hg, (hw g rfl).trans hh, h2⟩
theorem wpList_append_row11 {α : Type} {n bytes : Nat} {C : α → List Value} (hC : ∀ t, (C t).length = n) (T E : TypeId) (z : Value) (hT : Tryz.prog.underlying T = some (.slice E)) (hI : (Tryz.prog.info? E).map (fun i => (i.zero, i.size, i.bytes)) = some (some z, n, bytes)) (hz : z.cells.size = n) (hn : 0 < n)
    {w : World} {ops : Array Oper} {rest : List Oper} {o : Oper} {a : Act} {Q : Exit → Act → World → Prop} (hgd : o.guard = none) (s y : Operand)
    (ho : o.op = .call { callee := .builtin .append, args := #[s, y], argTypes := #[T, T] }) (hty : o.type = T)
    (base : Nat) (v : Value) (l : List α) (hs : a.eval s = v) (hown : w.ownsRow base E n v l.length (l.flatMap C)) (b : Nat) (x : α) (h1 : ∀ u ∈ C x, u.oneCell' = true) (hy : a.eval y = .slice (some ⟨b, 0, none⟩) 1 1) (hyb : w.heap[b]? = some (.cells (C x).toArray E (0, 0))) (hl : (l.length + 1) * bytes ≤ 140737488355328) (hl2 : l.length < 1048576) (hb : base ≤ w.heap.size)
    (h : ∀ v' w', w'.ownsRow base E n v' (l ++ [x]).length ((l ++ [x]).flatMap C) → w.grownBy w' v.ownBlock → (v'.ownBlock = v.ownBlock ∨ v'.ownBlock = some w.heap.size) → wpList Tryz.prog ops Q rest (a.put o.dst v') w') : wpList Tryz.prog ops Q (o :: rest) a w := by
  refine wpList_plain hgd fun K hK => ?_
  obtain ⟨i0, hi, hz0, hz1, hz2⟩ := info_parts hI
  obtain ⟨v', w', hr, h2, h3, _, h4⟩ := run_append_own_at w base T T E i0 z n bytes hT hi hz0 hz1 hz2 hz hn v l.length (l.flatMap C) hown ⟨b, 0, none⟩ 1 1 (C x) (by rw [hC]; omega)
    (fun j u hj => by rw [Addr.add_mid, Nat.zero_add, cell_of_row w b j _ _ _ hyb]; simpa using hj) h1 (by unfold maxLen; omega) hl hb
  unfold Oper.wp execOp
  simp only [ho, hty, resolve, invoke, builtin, Sem.run_bind, Sem.run_pure, Result.andThen_ok, List.map_toArray, List.map_cons, List.map_nil, hs, hy, hr]
  refine hK _ _ (h v' w' ?_ h3 h4)
  rw [List.length_append, List.flatMap_append, show [x].flatMap C = C x from by simp]
  exact h2
theorem only_setRow11 (w : World) (q : Nat) (cs : Array Value) : Only q w (w.setRow q cs) := ⟨rfl, rfl, rfl, by simp [World.setRow], fun k hk hg => setRow_other _ _ _ _ hg⟩
theorem RowsIn.only {α : Type} {n : Nat} {C : α → List Value} {w w' : World} {v : Value} {l : List α} {p : Nat} (h : RowsIn n C w v l) (ho : Only p w w') (hn : ∀ k, v.ownBlock = some k → k ≠ p) : RowsIn n C w' v l := by
  obtain ⟨a, cap, rfl, hc, hm, hx⟩ := h
  refine ⟨a, cap, rfl, hc, hm, hx.imp id ?_⟩
  rintro ⟨ab, ao, rfl, hlt, hx⟩
  exact ⟨ab, ao, rfl, Nat.lt_of_lt_of_le hlt ho.size, fun i p hi j u hu => (World.cell?_of_block (ho.block ab hlt (hn ab rfl))).trans (hx i p hi j u hu)⟩
/-- a list of votes, all new from block N on -/
structure VL (w : World) (N : Nat) (vv : Value) (l : List Vo) : Prop where
  rows : VoIn w vv l
  own : ∀ j, vv.ownBlock = some j → N ≤ j
  el : ∀ t ∈ l, BytesIn w t.sv t.sign ∧ ∀ j, t.sv.ownBlock = some j → N ≤ j
theorem VL.only {w w' : World} {N p : Nat} {vv : Value} {l : List Vo} (h : VL w N vv l) (ho : Only p w w') (hp : p < N) : VL w' N vv l :=
  ⟨h.rows.only ho fun k hk => by have := h.own k hk; omega, h.own, fun t ht => ⟨(h.el t ht).1.only ho fun k hk => by have := (h.el t ht).2 k hk; omega, (h.el t ht).2⟩⟩
theorem VL.mono {w : World} {N M : Nat} {vv : Value} {l : List Vo} (h : VL w N vv l) (hm : M ≤ N) : VL w M vv l :=
  ⟨h.rows, fun j hj => Nat.le_trans hm (h.own j hj), fun t ht => ⟨(h.el t ht).1, fun j hj => Nat.le_trans hm ((h.el t ht).2 j hj)⟩⟩
structure TL (w : World) (N : Nat) (vv : Value) (l : List Tb) : Prop where
  rows : TbIn w vv l
  own : ∀ j, vv.ownBlock = some j → N ≤ j
  el : ∀ t ∈ l, BytesIn w t.bv t.bs ∧ ∀ j, t.bv.ownBlock = some j → N ≤ j
theorem TL.only {w w' : World} {N p : Nat} {vv : Value} {l : List Tb} (h : TL w N vv l) (ho : Only p w w') (hp : p < N) : TL w' N vv l :=
  ⟨h.rows.only ho fun k hk => by have := h.own k hk; omega, h.own, fun t ht => ⟨(h.el t ht).1.only ho fun k hk => by have := (h.el t ht).2 k hk; omega, (h.el t ht).2⟩⟩
theorem TL.mono {w : World} {N M : Nat} {vv : Value} {l : List Tb} (h : TL w N vv l) (hm : M ≤ N) : TL w M vv l :=
  ⟨h.rows, fun j hj => Nat.le_trans hm (h.own j hj), fun t ht => ⟨(h.el t ht).1, fun j hj => Nat.le_trans hm ((h.el t ht).2 j hj)⟩⟩
theorem VL.below {w w' : World} {N : Nat} {vv : Value} {l : List Vo} (h : VL w N vv l) (hb : Below w.heap.size w w') : VL w' N vv l :=
  ⟨h.rows.below hb, h.own, fun t ht => ⟨(h.el t ht).1.below hb, (h.el t ht).2⟩⟩
theorem TL.below {w w' : World} {N : Nat} {vv : Value} {l : List Tb} (h : TL w N vv l) (hb : Below w.heap.size w w') : TL w' N vv l :=
  ⟨h.rows.below hb, h.own, fun t ht => ⟨(h.el t ht).1.below hb, (h.el t ht).2⟩⟩
theorem RO.below11 {w w' : World} {p : Nat} {ob : Option Nat} {s : RSt} (h : RO w p ob s) (hb : Below w.heap.size w w') : RO w' p ob s := by
  obtain ⟨y, hy, ho⟩ := h
  exact ⟨y, hy.below hb, ho⟩
theorem RS.below11 {w w' : World} {p : Nat} {s : RSt} (h : RS w p s) (hb : Below w.heap.size w w') : RS w' p s := by
  obtain ⟨y, hy⟩ := h
  exact ⟨y, hy.below hb⟩
theorem RO.own11 {w : World} {p : Nat} {ob : Option Nat} {s : RSt} (h : RO w p ob s) (hn : s.1 ≠ []) : ∀ k, ob = some k → k < w.heap.size := by
  obtain ⟨y, hy, rfl⟩ := h
  exact hy.own_lt hn
theorem RO.lt11 {w : World} {p : Nat} {ob : Option Nat} {s : RSt} (h : RO w p ob s) : p < w.heap.size := by obtain ⟨y, hy, _⟩ := h; exact hy.lt
theorem RS.lt11 {w : World} {p : Nat} {s : RSt} (h : RS w p s) : p < w.heap.size := by obtain ⟨y, hy⟩ := h; exact hy.lt
theorem RO.stay11 {w w' : World} {p q : Nat} {ob : Option Nat} {s : RSt} (h : RO w p ob s) (ho : Only q w w') (hpq : p ≠ q) (hob : s.1 ≠ [] → ∀ k, ob = some k → k ≠ q) : RO w' p ob s := by
  obtain ⟨y, hy, rfl⟩ := h
  exact ⟨y, hy.keep (ho.block p hy.lt hpq) fun hn k hk => ho.block k (hy.own_lt hn k hk) (hob hn k hk), rfl⟩
end Go.Proofs.YteokgklfljhcaaaGreatDoor
namespace Go.Proofs.YteokgklfljhcaaaGreatDoor
set_option linter.unusedVariables false
set_option linter.unusedSimpArgs false
open Go.RowKit
set_option maxRecDepth 100000
set_option linter.unusedSimpArgs false
set_option linter.unusedVariables false
theorem one_mem11 {A : Array Value} (h : A.all (·.oneCell') = true) : ∀ u ∈ A.toList, u.oneCell' = true := by
  rw [← Array.all_toList] at h
  exact List.all_eq_true.1 h
/-- a block's cells -/
def bkD (H : Array Value) (tv : Value) (C : Array Value) : Array Value := H ++ (#[tv] ++ C)
abbrev voTL (t : Vo) : List Value := (voC t).toList
abbrev tbTL (t : Tb) : List Value := [t.bv]
theorem cnt_le11 (s : RSt) (most : Nat) : (countS s most).1 ≤ most := by
  unfold countS
  split
  · exact Nat.zero_le _
  · split
    · exact Nat.zero_le _
    · obtain ⟨ys, e⟩ := s
      cases e with
      | some x => exact Nat.zero_le _
      | none =>
        cases h : (rdF ys most).2.2 with
        | some x => rw [uintS_bad h]; exact Nat.zero_le _
        | none => rw [uintS_good h]; exact (rdF_ok h).2.2
structure LVM (w : World) (p : Nat) (ob : Option Nat) (s1 : RSt) (B : Nat) (vv : Value) (svs : List Value) (wr : World) : Prop where
  row : wr.ownsRow B 99 37 vv svs.length ((vts s1 svs).flatMap voTL)
  el : ∀ t ∈ vts s1 svs, BytesIn wr t.sv t.sign ∧ (∀ j, t.sv.ownBlock = some j → B ≤ j ∧ j < wr.heap.size ∧ vv.ownBlock ≠ some j)
  rd : RO wr p ob (vtN svs.length s1)
  only : Only p w wr
  B0 : w.heap.size ≤ B
  B1 : B ≤ wr.heap.size
  pB : p < B
  ob : s1.1 ≠ [] → ∀ k, ob = some k → k < B
theorem LVM.new {w : World} {p : Nat} {ob : Option Nat} {s1 : RSt} {B : Nat} {vv : Value} {svs : List Value} {wr : World} (m : LVM w p ob s1 B vv svs wr) {k : Nat} (h : vv.ownBlock = some k) : B ≤ k ∧ k < wr.heap.size := m.row.lt k h
structure LTM (w : World) (p : Nat) (ob : Option Nat) (s1 : RSt) (B : Nat) (vv : Value) (svs : List Value) (wr : World) : Prop where
  row : wr.ownsRow B 39 1 vv svs.length ((txs s1 svs).flatMap tbTL)
  el : ∀ t ∈ txs s1 svs, BytesIn wr t.bv t.bs ∧ (∀ j, t.bv.ownBlock = some j → B ≤ j ∧ j < wr.heap.size ∧ vv.ownBlock ≠ some j)
  rd : RO wr p ob (txN svs.length s1)
  only : Only p w wr
  B0 : w.heap.size ≤ B
  B1 : B ≤ wr.heap.size
  pB : p < B
  ob : s1.1 ≠ [] → ∀ k, ob = some k → k < B
theorem LTM.new {w : World} {p : Nat} {ob : Option Nat} {s1 : RSt} {B : Nat} {vv : Value} {svs : List Value} {wr : World} (m : LTM w p ob s1 B vv svs wr) {k : Nat} (h : vv.ownBlock = some k) : B ≤ k ∧ k < wr.heap.size := m.row.lt k h
end Go.Proofs.YteokgklfljhcaaaGreatDoor
namespace Go.Proofs.YteokgklfljhcaaaGreatDoor
set_option linter.unusedVariables false
set_option linter.unusedSimpArgs false
open Go.RowKit
set_option maxRecDepth 100000
set_option linter.unusedSimpArgs false
set_option linter.unusedVariables false
def okR11 (s : RSt) : Prop := bytesOk s.1 ∧ s.1.length ≤ 140737488351232 ∧ s.2 ≠ some 0
theorem intS_k11 {s : RSt} (h : okR11 s) : okR11 (intS s).2 := ⟨(uintS_ok s _ h.1).1, Nat.le_trans (uintS_ok s _ h.1).2 h.2.1, uintS_no0 s _ h.2.2⟩
theorem hashS_k11 {s : RSt} (h : okR11 s) : okR11 (hashS s).2 := by
  obtain ⟨ys, e⟩ := s
  obtain ⟨h1, h2, h3⟩ := h
  cases e with
  | some x => exact ⟨h1, h2, h3⟩
  | none =>
    by_cases hs : ys.length < 32
    · rw [hashS_short hs]; exact ⟨h1, h2, by simp⟩
    · rw [hashS_long hs]; exact ⟨bytesOk_drop h1 32, by rw [List.length_drop]; simp only at h2; omega, by simp⟩
theorem partS_k11 {s : RSt} {most : Int} (h : okR11 s) : okR11 (partS s most).2 := by
  obtain ⟨ys, e⟩ := s
  obtain ⟨h1, h2, h3⟩ := h
  cases e with
  | some x => exact ⟨h1, h2, h3⟩
  | none =>
    unfold partS
    simp only
    split
    · exact ⟨h1, h2, by simp⟩
    · split
      · rename_i x hx
        exact ⟨h1, h2, fun e => by simp only [Option.some.injEq] at e; subst e; exact rdF_no0 _ _ hx⟩
      · split
        · exact ⟨h1, h2, by simp⟩
        · split
          · exact ⟨h1, h2, by simp⟩
          · refine ⟨bytesOk_drop (bytesOk_drop h1 _) _, ?_, by simp⟩
            simp only [List.length_drop]; simp only at h2; omega
theorem countS_k11 {s : RSt} {most : Nat} (h : okR11 s) : okR11 (countS s most).2 := by
  unfold countS
  split
  · rename_i x hx
    exact ⟨h.1, h.2.1, fun e => by
      have := uintS_no0 s most h.2.2
      simp only [Option.some.injEq] at e
      subst e
      exact this hx⟩
  · split
    · exact ⟨h.1, h.2.1, by simp⟩
    · exact ⟨(uintS_ok s _ h.1).1, Nat.le_trans (uintS_ok s _ h.1).2 h.2.1, uintS_no0 s _ h.2.2⟩
theorem setCells11 (g : Nat) (t : TypeId) : ∀ (vs : List Value) (o : Nat) (w : World) (cs : Array Value), w.heap[g]? = some (.cells cs t (0, 0)) → o + vs.length ≤ cs.size →
    ∃ cs' : Array Value, (w.setCells g o vs).heap[g]? = some (.cells cs' t (0, 0)) ∧ cs'.size = cs.size ∧ ∀ j, cs'[j]? = if o ≤ j ∧ j < o + vs.length then vs[j - o]? else cs[j]?
  | [], o, w, cs, h, _ => ⟨cs, h, rfl, fun j => by rw [if_neg (by simp)]⟩
  | v :: r, o, w, cs, h, hl => by
    have h1 := heap_setCell_same w g o _ t v h
    obtain ⟨cs', h2, h3, h4⟩ := setCells11 g t r (o + 1) (w.setCell ⟨g, o, none⟩ v) _ h1 (by simp at hl ⊢; omega)
    refine ⟨cs', h2, by rw [h3]; simp, fun j => ?_⟩
    rw [h4 j]
    simp only [List.length_cons] at hl ⊢
    by_cases e : j = o
    · subst e
      rw [if_neg (by omega), if_pos (by omega)]
      have : j < cs.size := by omega
      simp [this]
    · by_cases e2 : o + 1 ≤ j ∧ j < o + 1 + r.length
      · rw [if_pos e2, if_pos (by omega), show j - o = (j - (o + 1)) + 1 by omega]; simp
      · rw [if_neg e2, if_neg (by omega), Array.getElem?_setIfInBounds_ne (by omega)]
theorem only_cells11 (g : Nat) : ∀ (vs : List Value) (o : Nat) (w : World), Only g w (w.setCells g o vs)
  | [], _, w => Only.refl _ _
  | v :: r, o, w => (Only.setCell w ⟨g, o, none⟩ v).trans (only_cells11 g r (o + 1) _)
/-- a part of a row is written -/
theorem setT_app {w : World} {g : Nat} {D D' A B B' C : Array Value} {T : TypeId} {n : Nat} (h : w.heap[g]? = some (.cells D T (0, 0))) (e : D = A ++ (B ++ C)) (e' : D' = A ++ (B' ++ C)) (hn : A.size = n) (hs : B'.size = B.size) : (w.setCells g n B'.toList).heap[g]? = some (.cells D' T (0, 0)) := by
  obtain ⟨cs', h1, h2, h3⟩ := setCells11 g T B'.toList n w _ h (by rw [e]; simp; omega)
  rw [h1]
  have : cs' = D' := by
    apply Array.ext_getElem?
    intro j
    rw [h3 j, e, e']
    simp only [Array.length_toList]
    by_cases hj : n ≤ j ∧ j < n + B'.size
    · rw [if_pos hj, Array.getElem?_append_right (by omega), Array.getElem?_append_left (by omega), hn]
      simp
    · rw [if_neg hj]
      rcases (by omega : j < n ∨ n + B'.size ≤ j) with h4 | h4
      · rw [Array.getElem?_append_left (by omega), Array.getElem?_append_left (by omega)]
      · rw [Array.getElem?_append_right (by omega), Array.getElem?_append_right (by omega), Array.getElem?_append_right (by omega), Array.getElem?_append_right (by omega), hs]
  rw [this]
theorem setT_one {w : World} {g : Nat} {D D' A C : Array Value} {x y : Value} {T : TypeId} {n : Nat} (h : w.heap[g]? = some (.cells D T (0, 0))) (e : D = A ++ (#[x] ++ C)) (e' : D' = A ++ (#[y] ++ C)) (hn : A.size = n) : (w.setCell ⟨g, n, none⟩ y).heap[g]? = some (.cells D' T (0, 0)) :=
  setT_app (B := #[x]) (B' := #[y]) h e e' hn rfl
theorem thereT {w : World} {g n : Nat} {D A B C : Array Value} {T : TypeId} (h : w.heap[g]? = some (.cells D T (0, 0))) (e : D = A ++ (B ++ C)) (hn : A.size = n) : w.there g n B.size := fun j hj => by
  refine ⟨?_, frozen_of_row _ _ _ _ _ h⟩
  rw [cell_of_row _ _ _ _ _ _ h, Array.getElem?_eq_getElem (by rw [e]; simp; omega)]
  rfl
theorem bytes_blk11 {w w' : World} {y : Value} {xs : List Int} (h : BytesIn w y xs) (hk : xs ≠ [] → ∀ k, y.ownBlock = some k → w'.heap[k]? = w.heap[k]?) : BytesIn w' y xs := by
  obtain ⟨a, c, rfl, h1, h2, h3⟩ := h
  refine ⟨a, c, rfl, h1, h2, ?_⟩
  by_cases hn : xs = []
  · exact .inl hn
  · rcases h3 with h3 | ⟨ab, ao, rfl, h3⟩
    · exact .inl h3
    · refine .inr ⟨ab, ao, rfl, fun i x hi => ?_⟩
      have h4 := h3 i x hi
      have h5 := hk hn ab rfl
      unfold World.cell? at h4 ⊢
      rw [h5]
      exact h4
theorem BytesIn.only11 {w w' : World} {y : Value} {ys : List Int} {p : Nat} (h : BytesIn w y ys) (ho : Only p w w') (hn : ys ≠ [] → ∀ k, y.ownBlock = some k → k ≠ p) : BytesIn w' y ys :=
  bytes_blk11 h fun hne k hk => ho.block k (bytes_own11 h hne k hk) (hn hne k hk)
/-- while a record is read: the Reader's block N, the results' blocks, the record's block q -/
structure RrM (w : World) (N q : Nat) (T : TypeId) (Z : Array Value) (ob : Option Nat) (s : RSt) (cs : Array Value) (wr : World) : Prop where
  eN : N = w.heap.size
  below : Below N w wr
  rd : ∃ ra rn rc, wr.heap[N]? = some (.cells (rdC (.slice ra rn rc) (numE s.2)) 104 (0, 0)) ∧ BytesIn wr (.slice ra rn rc) s.1 ∧ (Value.slice ra rn rc).ownBlock = ob
  res : wr.heap[N + 1]? = some (.cells (rdC (.slice none 0 0) 0) 104 (0, 0))
  zer : wr.heap[N + 1 + 1]? = some (.cells Z T (0, 0))
  at_ : wr.heap[q]? = some (.cells cs T (0, 0))
  obN : s.1 ≠ [] → ∀ k, ob = some k → k < N
  q3 : N + 1 + 1 < q
theorem RrM.call {w : World} {N q : Nat} {T : TypeId} {Z : Array Value} {ob : Option Nat} {s : RSt} {cs : Array Value} {wr wr' : World} (m : RrM w N q T Z ob s cs wr) (hb : Below wr.heap.size wr wr') : RrM w N q T Z ob s cs wr' := by
  obtain ⟨ra, rn, rc, h5, hin, ho⟩ := m.rd
  exact ⟨m.eN, m.below.trans (hb.mono (by rw [m.eN]; exact m.below.size)), ⟨ra, rn, rc, (hb.block _ (bkT_lt h5)).trans h5, hin.below hb, ho⟩, (hb.block _ (bkT_lt m.res)).trans m.res, (hb.block _ (bkT_lt m.zer)).trans m.zer, (hb.block _ (bkT_lt m.at_)).trans m.at_, m.obN, m.q3⟩
theorem RrM.read {w : World} {N q : Nat} {T : TypeId} {Z : Array Value} {ob : Option Nat} {s s' : RSt} {cs : Array Value} {wr : World} (m : RrM w N q T Z ob s cs wr) {a : Option Addr} {n c : Nat} (hx : BytesIn wr (.slice a n c) s'.1) (ho : (Value.slice a n c).ownBlock = ob) (hs : s.1 = [] → s'.1 = []) : RrM w N q T Z ob s' cs (wr.setRow N (rdC (.slice a n c) (numE s'.2))) := by
  have h3 := m.q3
  obtain ⟨ra, rn, rc, h5, hin, _⟩ := m.rd
  exact ⟨m.eN, below_setRow m.below (Nat.le_refl _) _, ⟨a, n, c, setRow_heap _ _ _ _ _ _ h5, bytes_row hx h5 _, ho⟩, (setRow_other _ _ _ _ (by omega)).trans m.res, (setRow_other _ _ _ _ (by omega)).trans m.zer, (setRow_other _ _ _ _ (by omega)).trans m.at_, fun hn => m.obN fun e => hn (hs e), h3⟩
/-- what the row of the Reader being written leaves as it was -/
theorem RrM.row {w : World} {N q : Nat} {T : TypeId} {Z : Array Value} {ob : Option Nat} {s : RSt} {cs : Array Value} {wr : World} (m : RrM w N q T Z ob s cs wr) (C : Array Value) {v : Value} {ys : List Int} (h : BytesIn wr v ys) : BytesIn (wr.setRow N C) v ys := by
  obtain ⟨ra, rn, rc, h5, hin, _⟩ := m.rd
  exact bytes_row h h5 _
theorem RrM.put {w : World} {N q : Nat} {T : TypeId} {Z : Array Value} {ob : Option Nat} {s : RSt} {cs cs' : Array Value} {wr wr' : World} (m : RrM w N q T Z ob s cs wr) (ho : Only q wr wr') (h : wr'.heap[q]? = some (.cells cs' T (0, 0))) : RrM w N q T Z ob s cs' wr' := by
  have h3 := m.q3
  obtain ⟨ra, rn, rc, h5, hin, hob⟩ := m.rd
  exact ⟨m.eN, m.below.trans (ho.below (by omega) (by rw [m.eN]; exact m.below.size)), ⟨ra, rn, rc, (ho.block _ (bkT_lt h5) (by omega)).trans h5, hin.only11 ho (fun hn k hk => by have := m.obN hn k (hob ▸ hk); omega), hob⟩, (ho.block _ (bkT_lt m.res) (by omega)).trans m.res, (ho.block _ (bkT_lt m.zer) (by omega)).trans m.zer, h, m.obN, h3⟩
theorem RrM.grow {w : World} {N q : Nat} {T : TypeId} {Z : Array Value} {ob : Option Nat} {s : RSt} {cs : Array Value} {wr wr' : World} (m : RrM w N q T Z ob s cs wr) {own : Option Nat} (hg : wr.grownBy wr' own) (ho : ∀ k, own = some k → q < k) : RrM w N q T Z ob s cs wr' := by
  have h3 := m.q3
  have hne : ∀ k, k ≤ q → some k ≠ own := fun k hk e => by have := ho k e.symm; omega
  obtain ⟨ra, rn, rc, h5, hin, hob⟩ := m.rd
  have blk : ∀ {k : Nat} {o : Obj}, wr.heap[k]? = some o → k ≤ q → wr'.heap[k]? = some o := fun {k o} h hk => (hg.block k (bkT_lt h) (hne k hk)).trans h
  refine ⟨m.eN, m.below.trans ⟨hg.os, hg.tape, hg.output, hg.size, fun k hk => hg.block k (Nat.lt_of_lt_of_le hk (by rw [m.eN]; exact m.below.size)) (hne k (by omega))⟩, ⟨ra, rn, rc, blk h5 (by omega), ?_, hob⟩, blk m.res (by omega), blk m.zer (by omega), blk m.at_ (Nat.le_refl _), m.obN, h3⟩
  obtain ⟨a', c', e', x1, x2, x3⟩ := id hin
  refine ⟨a', c', e', x1, x2, ?_⟩
  by_cases hn : s.1 = []
  · exact .inl hn
  · rcases x3 with x3 | ⟨ab, ao, rfl, h4⟩
    · exact .inl x3
    · injection e' with e1 _ _
      subst e1
      refine .inr ⟨ab, ao, rfl, fun i x hi => ?_⟩
      have h6 := h4 i x hi
      have h7 := m.obN hn ab (by rw [← hob]; rfl)
      unfold World.cell? at h6 ⊢
      have h8 : ab < wr.heap.size := by have := World.block_lt_of_cell? wr _ (h4 i x hi); exact this
      rw [hg.block ab h8 (hne ab (by omega))]
      exact h6
theorem RrM.side {w : World} {N q : Nat} {T : TypeId} {Z : Array Value} {ob : Option Nat} {s : RSt} {cs : Array Value} {wr wr' : World} (m : RrM w N q T Z ob s cs wr) {g : Nat} (ho : Only g wr wr') (hg : q < g) : RrM w N q T Z ob s cs wr' := by
  have h3 := m.q3
  obtain ⟨ra, rn, rc, h5, hin, hob⟩ := m.rd
  exact ⟨m.eN, m.below.trans (ho.below (by omega) (by rw [m.eN]; exact m.below.size)), ⟨ra, rn, rc, (ho.block _ (bkT_lt h5) (by omega)).trans h5, hin.only11 ho (fun hn k hk => by have := m.obN hn k (hob ▸ hk); omega), hob⟩, (ho.block _ (bkT_lt m.res) (by omega)).trans m.res, (ho.block _ (bkT_lt m.zer) (by omega)).trans m.zer, (ho.block _ (bkT_lt m.at_) (by omega)).trans m.at_, m.obN, h3⟩
/-- the results are stored -/
structure RrF (w wr : World) (N q : Nat) (T : TypeId) (R cs Z : Array Value) : Prop where
  r0 : wr.heap[N + 1]? = some (.cells (rdC (.slice none 0 0) 0) 104 (0, 0))
  s1 : (wr.setRow (N + 1) R).heap[N]? = some (.cells R 104 (0, 0)) ∧ (wr.setRow (N + 1) R).heap[q]? = some (.cells cs T (0, 0))
  r1 : (wr.setRow (N + 1) R).heap[N + 1 + 1]? = some (.cells Z T (0, 0))
  s2 : ((wr.setRow (N + 1) R).setRow (N + 1 + 1) cs).heap[N]? = some (.cells R 104 (0, 0)) ∧ ((wr.setRow (N + 1) R).setRow (N + 1 + 1) cs).heap[q]? = some (.cells cs T (0, 0))
  a : ((wr.setRow (N + 1) R).setRow (N + 1 + 1) cs).heap[N + 1]? = some (.cells R 104 (0, 0))
  b : ((wr.setRow (N + 1) R).setRow (N + 1 + 1) cs).heap[N + 1 + 1]? = some (.cells cs T (0, 0))
  end_ : Below N w ((wr.setRow (N + 1) R).setRow (N + 1 + 1) cs) ∧ ((wr.setRow (N + 1) R).setRow (N + 1 + 1) cs).heap.size = wr.heap.size ∧ ∀ k, k ≠ N + 1 → k ≠ N + 1 + 1 → ((wr.setRow (N + 1) R).setRow (N + 1 + 1) cs).heap[k]? = wr.heap[k]?
theorem RrM.fin {w : World} {N q : Nat} {T : TypeId} {Z : Array Value} {ob : Option Nat} {s : RSt} {cs : Array Value} {wr : World} (m : RrM w N q T Z ob s cs wr) {R : Array Value} (h5 : wr.heap[N]? = some (.cells R 104 (0, 0))) : RrF w wr N q T R cs Z := by
  have h3 := m.q3
  have e1 := setRow_heap wr (N + 1) _ R _ _ m.res
  have e2 := (setRow_other wr (N + 1) (N + 1 + 1) R (by omega)).trans m.zer
  have e3 := (setRow_other wr (N + 1) N R (by omega)).trans h5
  have e4 := (setRow_other wr (N + 1) q R (by omega)).trans m.at_
  refine ⟨m.res, ⟨e3, e4⟩, e2, ⟨(setRow_other _ _ _ _ (by omega)).trans e3, (setRow_other _ _ _ _ (by omega)).trans e4⟩, (setRow_other _ _ _ _ (by omega)).trans e1, setRow_heap _ _ _ _ _ _ e2, below_setRow (below_setRow m.below (by omega) _) (by omega) _, by simp [World.setRow], fun k h1 h2 => (setRow_other _ _ _ _ h2).trans (setRow_other _ _ _ _ h1)⟩
/-- the readers' contracts, their answers by letters -/
theorem ri_let {s s1 : RSt} {x : Int} (h : intS s = (x, s1)) (ok : okR11 s) (v : Value) (X : World) (hb : BytesIn X v s.1) : Calls Tryz.prog 125 #[.agg (rdC v (numE s.2))] X fun e w' => ∃ v', e = .returned (.tuple #[.agg (rdC v' (numE s1.2)), .int .i64 x]) ∧ BytesIn w' v' s1.1 ∧ v'.ownBlock = v.ownBlock ∧ Below X.heap.size X w' := by
  have := rrintO_any v s.1 s.2 ok.2.2 X hb ok.1 ok.2.1
  rw [show (s.1, s.2) = s from rfl, h] at this
  exact this
theorem rh_let {s s1 : RSt} {F : Nat → Int} (h : hashS s = (F, s1)) (ok : okR11 s) (v : Value) (X : World) (hb : BytesIn X v s.1) : Calls Tryz.prog 124 #[.agg (rdC v (numE s.2))] X fun e w' => ∃ v', e = .returned (.tuple #[.agg (rdC v' (numE s1.2)), .agg (rowOf .u8 32 F)]) ∧ BytesIn w' v' s1.1 ∧ v'.ownBlock = v.ownBlock ∧ Below X.heap.size X w' := by
  have := rhash2_any v s.1 s.2 ok.2.2 X hb
  rw [show (s.1, s.2) = s from rfl, h] at this
  exact this
theorem rp_let {s s1 : RSt} {most : Nat} {m : Int} {xs : List Int} (hm : most ≤ 1048576) (hmI : m = (most : Int)) (h : partS s m = (xs, s1)) (ok : okR11 s) (v : Value) (X : World) (hb : BytesIn X v s.1) : Calls Tryz.prog 123 #[.agg (rdC v (numE s.2)), .int .i64 m] X fun e w' => ∃ v' vb, e = .returned (.tuple #[.agg (rdC v' (numE s1.2)), vb]) ∧ BytesIn w' v' s1.1 ∧ BytesIn w' vb xs ∧ v'.ownBlock = v.ownBlock ∧ (∀ j, vb.ownBlock = some j → X.heap.size ≤ j ∧ j < w'.heap.size) ∧ Below X.heap.size X w' := by
  subst hmI
  have := rrbytesO_any v s.1 s.2 ok.2.2 most hm X hb ok.1 ok.2.1
  rw [show (s.1, s.2) = s from rfl, h] at this
  exact this
theorem rc_let {s s1 : RSt} {most n : Nat} {m : Int} (hm : most ≤ 9223372036854775807) (hmI : m = (most : Int)) (h : countS s most = (n, s1)) (ok : okR11 s) (v : Value) (X : World) (hb : BytesIn X v s.1) : Calls Tryz.prog 122 #[.agg (rdC v (numE s.2)), .int .i64 m] X fun e w' => ∃ v', e = .returned (.tuple #[.agg (rdC v' (numE s1.2)), .int .i64 (n : Int)]) ∧ BytesIn w' v' s1.1 ∧ v'.ownBlock = v.ownBlock ∧ Below X.heap.size X w' := by
  subst hmI
  have := rrcountO_any v s.1 s.2 ok.2.2 most hm X hb ok.1 ok.2.1
  rw [show (s.1, s.2) = s from rfl, h] at this
  exact this
end Go.Proofs.YteokgklfljhcaaaGreatDoor
namespace Go.Proofs.YteokgklfljhcaaaGreatDoor
set_option linter.unusedVariables false
set_option linter.unusedSimpArgs false
open Go.RowKit
set_option maxRecDepth 100000
set_option linter.unusedSimpArgs false
set_option linter.unusedVariables false
end Go.Proofs.YteokgklfljhcaaaGreatDoor
namespace Go.Proofs.YteokgklfljhcaaaGreatDoor
set_option linter.unusedVariables false
set_option linter.unusedSimpArgs false
open Go.RowKit
set_option maxRecDepth 100000
set_option linter.unusedSimpArgs false
set_option linter.unusedVariables false
/-- a list of one's own whose elements bear slices: all from block B on -/
structure LsM {α : Type} (n : Nat) (C : α → List Value) (E : TypeId) (bv : α → Value) (bs : α → List Int) (B : Nat) (vv : Value) (l : List α) (w : World) : Prop where
  row : w.ownsRow B E n vv l.length (l.flatMap C)
  el : ∀ t ∈ l, BytesIn w (bv t) (bs t) ∧ ∀ j, (bv t).ownBlock = some j → B ≤ j ∧ j < w.heap.size ∧ vv.ownBlock ≠ some j
section
variable {α : Type} {n : Nat} {C : α → List Value} {E : TypeId} {bv : α → Value} {bs : α → List Int} {B : Nat} {vv v' : Value} {l : List α} {w w' : World} {x : α}
theorem LsM.keep (h : LsM n C E bv bs B vv l w) (hk : ∀ j, B ≤ j → j < w.heap.size → w'.heap[j]? = w.heap[j]?) (hs : w.heap.size ≤ w'.heap.size) : LsM n C E bv bs B vv l w' :=
  ⟨own_stay11 h.row fun j hj => hk j (h.row.lt j hj).1 (h.row.lt j hj).2, fun t ht => ⟨bytes_blk11 (h.el t ht).1 fun _ j hj => hk j ((h.el t ht).2 j hj).1 ((h.el t ht).2 j hj).2.1, fun j hj => ⟨((h.el t ht).2 j hj).1, Nat.lt_of_lt_of_le ((h.el t ht).2 j hj).2.1 hs, ((h.el t ht).2 j hj).2.2⟩⟩⟩
theorem LsM.call (h : LsM n C E bv bs B vv l w) (hb : Below w.heap.size w w') : LsM n C E bv bs B vv l w' := h.keep (fun j _ hj => hb.block j hj) hb.size
theorem LsM.only (h : LsM n C E bv bs B vv l w) {g : Nat} (ho : Only g w w') (hg : g < B) : LsM n C E bv bs B vv l w' := h.keep (fun j hB hj => ho.block j hj (by omega)) ho.size
theorem LsM.side (h : LsM n C E bv bs B vv l w) {g : Nat} (ho : Only g w w') (hv : vv.ownBlock ≠ some g) (he : ∀ t ∈ l, (bv t).ownBlock ≠ some g) : LsM n C E bv bs B vv l w' :=
  ⟨own_stay11 h.row fun j hj => ho.block j (h.row.lt j hj).2 (fun e => hv (e ▸ hj)), fun t ht => ⟨bytes_blk11 (h.el t ht).1 fun _ j hj => ho.block j ((h.el t ht).2 j hj).2.1 (fun e => he t ht (e ▸ hj)), fun j hj => ⟨((h.el t ht).2 j hj).1, Nat.lt_of_lt_of_le ((h.el t ht).2 j hj).2.1 ho.size, ((h.el t ht).2 j hj).2.2⟩⟩⟩
theorem LsM.grow (h : LsM n C E bv bs B vv l w) (hx : BytesIn w (bv x) (bs x)) (hn : ∀ j, (bv x).ownBlock = some j → B ≤ j ∧ j < w.heap.size ∧ vv.ownBlock ≠ some j) (ho : w'.ownsRow B E n v' (l ++ [x]).length ((l ++ [x]).flatMap C)) (hg : w.grownBy w' vv.ownBlock) (hv : v'.ownBlock = vv.ownBlock ∨ v'.ownBlock = some w.heap.size) : LsM n C E bv bs B v' (l ++ [x]) w' := by
  have hsz := hg.size
  have one : ∀ t, BytesIn w (bv t) (bs t) → (∀ j, (bv t).ownBlock = some j → B ≤ j ∧ j < w.heap.size ∧ vv.ownBlock ≠ some j) → BytesIn w' (bv t) (bs t) ∧ ∀ j, (bv t).ownBlock = some j → B ≤ j ∧ j < w'.heap.size ∧ v'.ownBlock ≠ some j := fun t h1 h2 =>
    ⟨bytes_blk11 h1 fun _ j hj => hg.block j (h2 j hj).2.1 (fun e => (h2 j hj).2.2 e.symm), fun j hj => ⟨(h2 j hj).1, by have := (h2 j hj).2.1; omega, fun e => by
      rcases hv with hv | hv
      · exact (h2 j hj).2.2 (hv ▸ e)
      · rw [hv] at e
        injection e with e
        have := (h2 j hj).2.1
        omega⟩⟩
  refine ⟨ho, fun t ht => ?_⟩
  rcases List.mem_append.1 ht with ht | ht
  · exact one t (h.el t ht).1 (h.el t ht).2
  · obtain rfl := List.mem_singleton.1 ht
    exact one t hx hn
end
end Go.Proofs.YteokgklfljhcaaaGreatDoor
