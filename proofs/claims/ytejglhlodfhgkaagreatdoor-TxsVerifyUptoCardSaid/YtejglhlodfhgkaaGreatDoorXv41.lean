/- Part 41 of the proof. -/
import Derived.Test.YtejglhlodfhgkaaGreatDoorXv29
import Derived.Test.YtejglhlodfhgkaaGreatDoorXv40
namespace Go.Proofs.YtejglhlodfhgkaaGreatDoor
set_option linter.unusedVariables false
set_option linter.unusedSimpArgs false
open Go.RowKit
set_option maxRecDepth 100000
set_option linter.unusedSimpArgs false
set_option linter.unusedVariables false
theorem bytes_blk15 {w w' : World} {y : Value} {xs : List Int} (h : BytesIn w y xs) (hk : xs ≠ [] → ∀ k, y.ownBlock = some k → w'.heap[k]? = w.heap[k]?) : BytesIn w' y xs := by
  obtain ⟨a, c, rfl, h1, h2, h3⟩ := h
  refine ⟨a, c, rfl, h1, h2, ?_⟩
  by_cases hn : xs = []
  · exact .inl hn
  · rcases h3 with h3 | ⟨ab, ao, rfl, h3⟩
    · exact .inl h3
    · refine .inr ⟨ab, ao, rfl, fun i x hi => ?_⟩
      have h4 := h3 i x hi
      have h5 := hk hn ab rfl
      unfold World.cell? at h4 ⊢
      rw [h5]
      exact h4
/-- the message being made at block q -/
structure GvI (w1 : World) (q : Nat) (k : Int) (tv iv dv : Value) (ts : List ByteArray) (is : List Int) (ds : List Tb) (wr : World) : Prop where
  below : Below w1.heap.size w1 wr
  r : wr.heap[q]? = some (.cells #[.int .i64 k, tv, iv, dv] 113 (0, 0))
  t : wr.ownsRow (q + 1) 9 1 tv ts.length (ts.flatMap stL)
  i : wr.ownsRow (q + 1) 3 1 iv is.length (is.flatMap itL)
  d : wr.ownsRow (q + 1) 25 1 dv ds.length (ds.flatMap tdL)
  e : ∀ t ∈ ds, BytesIn wr t.bv t.bs ∧ ∀ j, t.bv.ownBlock = some j → q + 1 ≤ j ∧ j < wr.heap.size ∧ dv.ownBlock ≠ some j
  q0 : w1.heap.size ≤ q
theorem GvI.q1 {w1 : World} {q : Nat} {k : Int} {tv iv dv : Value} {ts : List ByteArray} {is : List Int} {ds : List Tb} {wr : World} (m : GvI w1 q k tv iv dv ts is ds wr) : q + 1 ≤ wr.heap.size := (Array.getElem?_eq_some_iff.1 m.r).1
theorem GvI.call {w1 : World} {q : Nat} {k : Int} {tv iv dv : Value} {ts : List ByteArray} {is : List Int} {ds : List Tb} {wr w' : World} (m : GvI w1 q k tv iv dv ts is ds wr) (h : Below wr.heap.size wr w') : GvI w1 q k tv iv dv ts is ds w' :=
  ⟨m.below.trans (h.mono m.below.size), (h.block q m.q1).trans m.r, own_stay11 m.t fun j hj => h.block j (m.t.lt j hj).2, own_stay11 m.i fun j hj => h.block j (m.i.lt j hj).2, own_stay11 m.d fun j hj => h.block j (m.d.lt j hj).2, fun t ht => ⟨(m.e t ht).1.below h, fun j hj => ⟨((m.e t ht).2 j hj).1, Nat.lt_of_lt_of_le ((m.e t ht).2 j hj).2.1 h.size, ((m.e t ht).2 j hj).2.2⟩⟩, m.q0⟩
theorem GvI.grow {w1 : World} {q : Nat} {k : Int} {tv iv dv : Value} {ts : List ByteArray} {is : List Int} {ds : List Tb} {wr w' : World} {own : Option Nat} {o : Nat} {v : Value} (m : GvI w1 q k tv iv dv ts is ds wr) (hg : wr.grownBy w' own) (ho : ∀ j, own = some j → q + 1 ≤ j)
    {tv' iv' dv' : Value} {ts' : List ByteArray} {is' : List Int} {ds' : List Tb} (hs : (#[.int .i64 k, tv, iv, dv] : Array Value).setIfInBounds o v = #[.int .i64 k, tv', iv', dv']) (ht : w'.ownsRow (q + 1) 9 1 tv' ts'.length (ts'.flatMap stL)) (hi : w'.ownsRow (q + 1) 3 1 iv' is'.length (is'.flatMap itL)) (hd : w'.ownsRow (q + 1) 25 1 dv' ds'.length (ds'.flatMap tdL))
    (he : ∀ t ∈ ds', BytesIn w' t.bv t.bs ∧ ∀ j, t.bv.ownBlock = some j → q + 1 ≤ j ∧ j < w'.heap.size ∧ dv'.ownBlock ≠ some j) : GvI w1 q k tv' iv' dv' ts' is' ds' (w'.setCell ⟨q, o, none⟩ v) := by
  have q0 := m.q0
  have q1 := m.q1
  have hst : ∀ j, j < q + 1 → w'.heap[j]? = wr.heap[j]? := fun j hj => hg.block j (by omega) (fun e => by have := ho j e.symm; omega)
  have hsz := hg.size
  have hO := Only.setCell w' ⟨q, o, none⟩ v
  have hb0 : Below w1.heap.size w1 w' := ⟨hg.os.trans m.below.os, hg.tape.trans m.below.tape, hg.output.trans m.below.output, Nat.le_trans m.below.size hsz, fun j hj => (hst j (by omega)).trans (m.below.block j hj)⟩
  have hb : Below w1.heap.size w1 (w'.setCell ⟨q, o, none⟩ v) := ⟨hO.os.trans hb0.os, hO.tape.trans hb0.tape, hO.output.trans hb0.output, Nat.le_trans hb0.size hO.size, fun j hj => (hO.block j (Nat.lt_of_lt_of_le hj hb0.size) (by show j ≠ q; omega)).trans (hb0.block j hj)⟩
  have hr : w'.heap[q]? = some (.cells #[.int .i64 k, tv, iv, dv] 113 (0, 0)) := (hst q (by omega)).trans m.r
  have kp : ∀ j, q + 1 ≤ j → j < w'.heap.size → (w'.setCell ⟨q, o, none⟩ v).heap[j]? = w'.heap[j]? := fun j hj hl => hO.block j hl (by show j ≠ q; omega)
  exact ⟨hb, by rw [heap_setCell_same w' q o _ _ v hr, hs], own_stay11 ht fun j hj => kp j (ht.lt j hj).1 (ht.lt j hj).2, own_stay11 hi fun j hj => kp j (hi.lt j hj).1 (hi.lt j hj).2, own_stay11 hd fun j hj => kp j (hd.lt j hj).1 (hd.lt j hj).2, fun t ht' => ⟨bytes_blk15 (he t ht').1 fun _ j hj => kp j ((he t ht').2 j hj).1 ((he t ht').2 j hj).2.1, fun j hj => ⟨((he t ht').2 j hj).1, Nat.lt_of_lt_of_le ((he t ht').2 j hj).2.1 hO.size, ((he t ht').2 j hj).2.2⟩⟩, q0⟩
theorem own_ne15' {w : World} {B1 B2 n1 n2 m1 m2 : Nat} {T1 T2 : TypeId} {v1 v2 : Value} {l1 l2 : List Value} (h1 : w.ownsRow B1 T1 n1 v1 m1 l1) (h2 : w.ownsRow B2 T2 n2 v2 m2 l2) (hT : T1 ≠ T2) : ∀ k, v2.ownBlock = some k → v1.ownBlock ≠ some k := fun k e2 e1 => by
  rcases h1.2 with ⟨rfl, -⟩ | ⟨g1, c1, u1, rfl, -, hh1, -⟩
  · cases e1
  · rcases h2.2 with ⟨rfl, -⟩ | ⟨g2, c2, u2, rfl, -, hh2, -⟩
    · cases e2
    · cases e1; cases e2
      rw [hh1] at hh2
      injection hh2 with hh2
      injection hh2 with _ hh2
      exact hT hh2
/-- the transaction being made at block y -/
structure GvO (w0 : World) (p0 p2 y B : Nat) (cz : Array Value) (x : Tr) (sv mv : Value) (ms : List Mg) (k : Nat) (wr : World) : Prop where
  below : Below w0.heap.size w0 wr
  r1 : wr.heap[p0]? = some (.cells (trC15 x) 27 (0, 0))
  r2 : wr.heap[p2]? = some (.cells cz 34 (0, 0))
  ry : wr.heap[y]? = some (.cells #[.string x.acc, .int .i64 x.seq, .string x.den, .int .i64 x.amt, mv, sv] 34 (0, 0))
  s : wr.ownsRow B 5 1 sv x.sg.length (byteVals x.sg)
  m : wr.ownsRow B 113 4 mv ms.length (ms.flatMap mgL)
  e : ∀ t ∈ ms, MgE wr t ∧ MgFl t ∧ ∀ j, mgF t j → B ≤ j ∧ j < wr.heap.size ∧ mv.ownBlock ≠ some j ∧ sv.ownBlock ≠ some j
  p : ms.map mgP = (x.ms.take k).map mgP
  q0 : w0.heap.size ≤ p0
  q2 : p0 < p2
  qy : p2 < y
  qB : y < B
  B1 : B ≤ wr.heap.size
theorem GvO.call {w0 : World} {p0 p2 y B : Nat} {cz : Array Value} {x : Tr} {sv mv : Value} {ms : List Mg} {k : Nat} {wr w' : World} (m : GvO w0 p0 p2 y B cz x sv mv ms k wr) (h : Below wr.heap.size wr w') : GvO w0 p0 p2 y B cz x sv mv ms k w' :=
  ⟨m.below.trans (h.mono m.below.size), (h.block p0 (bkT_lt m.r1)).trans m.r1, (h.block p2 (bkT_lt m.r2)).trans m.r2, (h.block y (bkT_lt m.ry)).trans m.ry, own_stay11 m.s fun j hj => h.block j (m.s.lt j hj).2, own_stay11 m.m fun j hj => h.block j (m.m.lt j hj).2, fun t ht => ⟨(m.e t ht).1.below h, (m.e t ht).2.1, fun j hj => by have := (m.e t ht).2.2 j hj; exact ⟨this.1, Nat.lt_of_lt_of_le this.2.1 h.size, this.2.2⟩⟩, m.p, m.q0, m.q2, m.qy, m.qB, Nat.le_trans m.B1 h.size⟩
theorem GvO.next {w0 : World} {p0 p2 y B : Nat} {cz : Array Value} {x : Tr} {sv mv v4 : Value} {ms : List Mg} {k : Nat} {wr w' : World} {t u : Mg} (m : GvO w0 p0 p2 y B cz x sv mv ms k wr) (he : MgE wr t) (hf : MgFl t) (hu : x.ms[k]? = some u) (hp : mgP t = mgP u) (hF : ∀ j, mgF t j → B ≤ j ∧ j < wr.heap.size ∧ mv.ownBlock ≠ some j ∧ sv.ownBlock ≠ some j)
    (hg : wr.grownBy w' mv.ownBlock) (ho : w'.ownsRow B 113 4 v4 (ms ++ [t]).length ((ms ++ [t]).flatMap mgL)) (hw : v4.ownBlock = mv.ownBlock ∨ v4.ownBlock = some wr.heap.size) : GvO w0 p0 p2 y B cz x sv v4 (ms ++ [t]) (k + 1) (w'.setCell ⟨y, 4, none⟩ v4) := by
  have q0 := m.q0
  have q2 := m.q2
  have qy := m.qy
  have qB := m.qB
  have B1 := m.B1
  have hsz := hg.size
  have hmv : ∀ j, mv.ownBlock = some j → B ≤ j := fun j hj => (m.m.lt j hj).1
  have hst : ∀ j, j < wr.heap.size → mv.ownBlock ≠ some j → w'.heap[j]? = wr.heap[j]? := fun j hj hne => hg.block j hj (fun e => hne e.symm)
  have hlow : ∀ j, j < B → w'.heap[j]? = wr.heap[j]? := fun j hj => hst j (by omega) fun e => by have := hmv j e; omega
  have hO := Only.setCell w' ⟨y, 4, none⟩ v4
  have hb0 : Below w0.heap.size w0 w' := ⟨hg.os.trans m.below.os, hg.tape.trans m.below.tape, hg.output.trans m.below.output, Nat.le_trans m.below.size hsz, fun j hj => (hlow j (by omega)).trans (m.below.block j hj)⟩
  have hb : Below w0.heap.size w0 (w'.setCell ⟨y, 4, none⟩ v4) := ⟨hO.os.trans hb0.os, hO.tape.trans hb0.tape, hO.output.trans hb0.output, Nat.le_trans hb0.size hO.size, fun j hj => (hO.block j (Nat.lt_of_lt_of_le hj hb0.size) (by show j ≠ y; omega)).trans (hb0.block j hj)⟩
  have kp : ∀ j, j < w'.heap.size → j ≠ y → (w'.setCell ⟨y, 4, none⟩ v4).heap[j]? = w'.heap[j]? := fun j hl hne => hO.block j hl hne
  have hv4 : ∀ j, v4.ownBlock = some j → mv.ownBlock = some j ∨ j = wr.heap.size := fun j hj => by
    rcases hw with h | h
    · exact .inl (h ▸ hj)
    · rw [h] at hj; cases hj; exact .inr rfl
  have ksv : ∀ j, sv.ownBlock = some j → mv.ownBlock ≠ some j := own_ne15' m.m m.s (by decide)
  have kold : ∀ t' : Mg, MgE wr t' → (∀ j, mgF t' j → B ≤ j ∧ j < wr.heap.size ∧ mv.ownBlock ≠ some j ∧ sv.ownBlock ≠ some j) → MgE (w'.setCell ⟨y, 4, none⟩ v4) t' ∧ ∀ j, mgF t' j → B ≤ j ∧ j < (w'.setCell ⟨y, 4, none⟩ v4).heap.size ∧ v4.ownBlock ≠ some j ∧ sv.ownBlock ≠ some j := fun t' h1 h2 =>
    ⟨h1.keep (Nat.le_trans hsz hO.size) fun j hj => by have h3 := h2 j hj; rw [kp j (by omega) (by omega), hst j h3.2.1 h3.2.2.1], fun j hj => by
      have h3 := h2 j hj
      refine ⟨h3.1, Nat.lt_of_lt_of_le h3.2.1 (Nat.le_trans hsz hO.size), fun e => ?_, h3.2.2.2⟩
      rcases hv4 j e with h | h
      · exact h3.2.2.1 h
      · omega⟩
  have hk : k < x.ms.length := (List.getElem?_eq_some_iff.1 hu).1
  refine ⟨hb, (kp p0 (by have := bkT_lt m.r1; omega) (by omega)).trans ((hlow p0 (by omega)).trans m.r1), (kp p2 (by have := bkT_lt m.r2; omega) (by omega)).trans ((hlow p2 (by omega)).trans m.r2), ?_, own_stay11 m.s fun j hj => ?_, own_stay11 ho fun j hj => kp j (ho.lt j hj).2 (by have := (ho.lt j hj).1; omega), fun t' ht' => ?_, ?_, q0, q2, qy, qB, by have := hO.size; omega⟩
  · rw [heap_setCell_same w' y 4 _ _ v4 ((hlow y qB).trans m.ry)]; rfl
  · have h3 := m.s.lt j hj
    rw [kp j (by omega) (by omega), hst j h3.2 (ksv j hj)]
  · rcases List.mem_append.1 ht' with h | h
    · have h1 := m.e t' h
      have h2 := kold t' h1.1 h1.2.2
      exact ⟨h2.1, h1.2.1, h2.2⟩
    · rw [List.mem_singleton.1 h]
      have h2 := kold t he hF
      exact ⟨h2.1, hf, h2.2⟩
  · rw [List.map_append, m.p, List.take_add_one, hu, List.map_append, List.map_cons, List.map_nil, hp]; rfl
end Go.Proofs.YtejglhlodfhgkaaGreatDoor
