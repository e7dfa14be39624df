/- Part 32 of the proof. -/
import Derived.LaidEql
import Derived.Stop.Asserts
import Derived.RowKitTokens
import Derived.Lib.IfaceEq
import Derived.Maps.AppendAt
import Derived.Deep.RegionHeld3
import Derived.Test.YtejglhlodfhgkaaGreatDoorXv1
import Derived.Test.YtejglhlodfhgkaaGreatDoorXv6
import Derived.Test.YtejglhlodfhgkaaGreatDoorXv23
import Derived.Test.YtejglhlodfhgkaaGreatDoorXv31
namespace Go.Proofs.YtejglhlodfhgkaaGreatDoor
set_option linter.unusedVariables false
set_option linter.unusedSimpArgs false
open Go.RowKit
set_option maxRecDepth 100000
theorem OwnOf.alloc {v v' : Value} {w : World} {o : Obj} (h : OwnOf v v' (w.alloc o)) : OwnOf v v' w := by
  rcases h with h | ⟨k, h1, h2⟩
  · exact .inl h
  · exact .inr ⟨k, h1, by simp at h2; omega⟩
end Go.Proofs.YtejglhlodfhgkaaGreatDoor
namespace Go.Proofs.YtejglhlodfhgkaaGreatDoor
set_option linter.unusedVariables false
set_option linter.unusedSimpArgs false
open Go.RowKit
set_option maxRecDepth 100000
end Go.Proofs.YtejglhlodfhgkaaGreatDoor
namespace Go.Proofs.YtejglhlodfhgkaaGreatDoor
set_option linter.unusedVariables false
set_option linter.unusedSimpArgs false
open Go.RowKit
set_option maxRecDepth 100000
theorem BytesIn.drewN {w : World} {y : Value} {ys : List Int} (h : BytesIn w y ys) (n : Nat) : BytesIn (w.drewN n) y ys := h
theorem BytesIn.from {w : World} {a : Option Addr} {n cap : Nat} {xs : List Int} (h : BytesIn w (.slice a n cap) xs) (p : Nat) (hp : p ≤ n) : BytesIn w (.slice (cutA a cap p) (n - p) (cap - p)) (xs.drop p) := by
  have h1 := h.cut p n hp (Nat.le_refl _)
  rw [List.take_of_length_le (by have := h.cell.1; omega)] at h1
  exact h1
theorem BytesIn.upto {w : World} {a : Option Addr} {n cap : Nat} {xs : List Int} (h : BytesIn w (.slice a n cap) xs) (q : Nat) (hq : q ≤ n) : BytesIn w (.slice (cutA a cap 0) q cap) (xs.take q) := h.cut 0 q (Nat.zero_le _) hq
end Go.Proofs.YtejglhlodfhgkaaGreatDoor
namespace Go.Proofs.YtejglhlodfhgkaaGreatDoor
set_option linter.unusedVariables false
set_option linter.unusedSimpArgs false
open Go.RowKit Go.Extern.Stop Go.Stop Go.Extern
set_option maxRecDepth 100000
end Go.Proofs.YtejglhlodfhgkaaGreatDoor
namespace Go.Proofs.YtejglhlodfhgkaaGreatDoor
set_option linter.unusedVariables false
set_option linter.unusedSimpArgs false
open Go.RowKit
set_option maxRecDepth 100000
/-- what bytes hold: payloads, how many bytes, why no more -/
def scanG : Nat → List Int → List (List Int) × Nat × Option Nat
  | 0, _ => ([], 0, none)
  | f + 1, b => match oneF b with
    | (none, p) => (p :: (scanG f (b.drop (p.length + 12))).1, p.length + 12 + (scanG f (b.drop (p.length + 12))).2.1, (scanG f (b.drop (p.length + 12))).2.2)
    | (some k, _) => ([], 0, if k = 8 then none else some k)
def scanF (b : List Int) : List (List Int) × Nat × Option Nat := scanG b.length b
theorem oneF_cases (b : List Int) : (∃ k, oneF b = (some k, []) ∧ (k = 8 ↔ b.length = 0) ∧ (k = 8 ∨ k = 11 ∨ k = 12)) ∨ (∃ p, oneF b = (none, p) ∧ p.length + 12 ≤ b.length ∧ 0 < p.length ∧ p.length ≤ 1048576) := by
  unfold oneF
  split
  · next h => exact .inl ⟨8, rfl, by simp [h], by simp⟩
  · next h =>
    split
    · exact .inl ⟨12, rfl, by simp [h], by simp⟩
    · split
      · exact .inl ⟨11, rfl, by simp [h], by simp⟩
      · next h1 =>
        split
        · exact .inl ⟨12, rfl, by simp [h], by simp⟩
        · split
          · exact .inl ⟨11, rfl, by simp [h], by simp⟩
          · refine .inr ⟨_, rfl, ?_, ?_, ?_⟩ <;> rw [List.length_drop, List.length_take] <;> omega
/-- a slice of slices of bytes, each in a block of its own -/
def ListsIn (w : World) (B : Nat) (own : Option Nat) (vs : List Value) (ps : List (List Int)) : Prop :=
  vs.length = ps.length ∧ ∀ (i : Nat) (v : Value) (p : List Int), vs[i]? = some v → ps[i]? = some p → BytesIn w v p ∧ ∀ k, v.ownBlock = some k → B ≤ k ∧ some k ≠ own ∧ k < w.heap.size
theorem ListsIn.nil (w : World) (B : Nat) (own : Option Nat) : ListsIn w B own [] [] := ⟨rfl, fun i v p h => by simp at h⟩
theorem BytesIn.grown {w w' : World} {own : Option Nat} {v : Value} {p : List Int} (h : BytesIn w v p) (hg : w.grownBy w' own) (hne : ∀ k, v.ownBlock = some k → some k ≠ own) : BytesIn w' v p := by
  obtain ⟨a, c, rfl, hc, hm, hx⟩ := h
  refine ⟨a, c, rfl, hc, hm, ?_⟩
  rcases hx with hx | ⟨ab, ao, rfl, hx⟩
  · exact .inl hx
  · exact .inr ⟨ab, ao, rfl, fun i y hi => (World.cell?_of_block (hg.block ab (World.block_lt_of_cell? w _ (hx i y hi)) (hne ab rfl))).trans (hx i y hi)⟩
theorem ListsIn.below {w w' : World} {B : Nat} {own : Option Nat} {vs : List Value} {ps : List (List Int)} (h : ListsIn w B own vs ps) (hb : Below w.heap.size w w') : ListsIn w' B own vs ps :=
  ⟨h.1, fun i v p hv hp => ⟨(h.2 i v p hv hp).1.below hb, fun k hk => ⟨((h.2 i v p hv hp).2 k hk).1, ((h.2 i v p hv hp).2 k hk).2.1, Nat.lt_of_lt_of_le ((h.2 i v p hv hp).2 k hk).2.2 hb.size⟩⟩⟩
structure ScanSt (b : List Int) (w : World) (v : Value) (k : Nat) (f : Nat) (vs : List Value) (ps : List (List Int)) (wr : World) : Prop where
  fuel : b.length - k ≤ f
  le : k ≤ b.length
  eq : scanF b = (ps ++ (scanG f (b.drop k)).1, k + (scanG f (b.drop k)).2.1, (scanG f (b.drop k)).2.2)
  own : wr.ownsRow w.heap.size 25 1 v vs.length vs
  lists : ListsIn wr w.heap.size v.ownBlock vs ps
  few : vs.length ≤ k
  below : Below w.heap.size w wr
def ScanAt (b : List Int) (w : World) (v : Value) (k : Nat) (wr : World) : Prop := ∃ f vs ps, ScanSt b w v k f vs ps wr
/-- one record more -/
theorem ScanAt.next {b : List Int} {w wr w1 w2 w3 : World} {v y v' : Value} {k : Nat} {p : List Int} {vs : List Value} {f : Nat} {ps : List (List Int)} (h : ScanSt b w v k f vs ps wr) (hx : oneF (b.drop k) = (none, p)) (hb : Below wr.heap.size wr w1) (hy : w1.ownsRow wr.heap.size 5 1 y p.length (byteVals p))
    (hb2 : Below w1.heap.size w1 w2) (hg : w2.grownBy w3 v.ownBlock) (hof : v'.ownBlock = v.ownBlock ∨ v'.ownBlock = some w2.heap.size) (ho : w3.ownsRow w.heap.size 25 1 v' (vs ++ [y]).length (vs ++ [y])) : ScanAt b w v' (k + (p.length + 12)) w3 := by
  obtain ⟨hl12, hl0, hlm⟩ : p.length + 12 ≤ (b.drop k).length ∧ 0 < p.length ∧ p.length ≤ 1048576 := by
    rcases oneF_cases (b.drop k) with ⟨x, h1, _⟩ | ⟨q, h1, h2⟩
    · rw [hx] at h1; simp at h1
    · rw [hx] at h1
      obtain rfl : p = q := by simpa using h1
      exact h2
  rw [List.length_drop] at hl12
  have hfu := h.fuel
  obtain ⟨f, rfl⟩ : ∃ g, f = g + 1 := ⟨f - 1, by omega⟩
  have he := h.eq
  have hs : scanG (f + 1) (b.drop k) = (p :: (scanG f (b.drop (k + (p.length + 12)))).1, p.length + 12 + (scanG f (b.drop (k + (p.length + 12)))).2.1, (scanG f (b.drop (k + (p.length + 12)))).2.2) := by
    simp only [scanG, hx, List.drop_drop]
  rw [hs] at he
  have hw12 : Below wr.heap.size wr w2 := hb.trans (hb2.mono hb.size)
  have hle := h.below.size
  refine ⟨f, vs ++ [y], ps ++ [p], by omega, by omega, ?_, ho, ⟨by simp [h.lists.1], fun i u q hu hq => ?_⟩, by have := h.few; simp; omega, (h.below.trans (hw12.mono h.below.size)).grown hg (Nat.le_trans h.below.size hw12.size) (fun j hj => (h.own.lt j hj).1)⟩
  · rw [he]
    refine Prod.ext (by simp) (Prod.ext ?_ rfl)
    show k + (p.length + 12 + _) = k + (p.length + 12) + _
    omega
  · rcases Nat.lt_or_ge i vs.length with hi | hi
    · rw [List.getElem?_append_left hi] at hu
      rw [List.getElem?_append_left (by rw [← h.lists.1]; exact hi)] at hq
      obtain ⟨h1, h2⟩ := h.lists.2 i u q hu hq
      refine ⟨(h1.below hw12).grown hg fun j hj => (h2 j hj).2.1, fun j hj => ⟨(h2 j hj).1, ?_, Nat.lt_of_lt_of_le (h2 j hj).2.2 (Nat.le_trans hw12.size hg.size)⟩⟩
      rcases hof with e | e
      · rw [e]; exact (h2 j hj).2.1
      · rw [e]; intro e; injection e with e; have := (h2 j hj).2.2; have := hw12.size; omega
    · rw [List.getElem?_append_right hi] at hu
      rw [List.getElem?_append_right (by rw [← h.lists.1]; exact hi), ← h.lists.1] at hq
      obtain ⟨rfl, h0⟩ : u = y ∧ i - vs.length = 0 := by
        rcases Nat.eq_zero_or_pos (i - vs.length) with e | e
        · rw [e] at hu; simp at hu; exact ⟨hu.symm, e⟩
        · rw [List.getElem?_eq_none (by simp; omega)] at hu; cases hu
      rw [h0] at hq
      obtain rfl : p = q := by simpa using hq
      have hlt := fun j hj => hy.lt j hj
      have hne : ∀ j, u.ownBlock = some j → some j ≠ v.ownBlock := fun j hj e => by
        have h1 := h.own.lt j e.symm
        have h2 := hlt j hj
        omega
      refine ⟨((owns_in hy (by unfold maxLen; omega)).below hb2).grown hg hne, fun j hj => ⟨Nat.le_trans hle (hlt j hj).1, ?_, Nat.lt_of_lt_of_le (hlt j hj).2 (Nat.le_trans hb2.size hg.size)⟩⟩
      rcases hof with e | e
      · rw [e]; exact hne j hj
      · rw [e]; intro e; injection e with e; have := (hlt j hj).2; have := hb2.size; omega
end Go.Proofs.YtejglhlodfhgkaaGreatDoor
namespace Go.Proofs.YtejglhlodfhgkaaGreatDoor
set_option linter.unusedVariables false
set_option linter.unusedSimpArgs false
open Go.RowKit
set_option maxRecDepth 100000
theorem wp_append_hashes {w : World} {o : Oper} {a : Act} {K : Act → World → Prop} {Q : Exit → Act → World → Prop} (s x : Operand)
    (ho : o.op = .call { callee := .builtin .append, args := #[s, x], argTypes := #[141, 141] }) (hty : o.type = 141)
    (base : Nat) (v : Value) (n : Nat) (vs : List Value) (hs : a.eval s = v) (hown : w.ownsRow base 53 32 v n vs) (y : Value) (ps : List (Nat → Int)) (hx : a.eval x = y) (hy : HashesIn w y ps) (hl : (n + ps.length) * 32 ≤ 140737488355328) (hb : base ≤ w.heap.size)
    (h : ∀ v' w', w'.ownsRow base 53 32 v' (n + ps.length) (vs ++ flatC ps) → w.grownBy w' v.ownBlock → K (a.put o.dst v') w') : o.wp Tryz.prog a w K Q := by
  obtain ⟨v', w', hr, h1, h2⟩ := run_append_hashes w base v n vs hown y ps hy hl hb
  unfold Oper.wp execOp
  simp only [ho, hty, resolve, invoke, builtin, Sem.run_bind, Sem.run_pure, Result.andThen_ok, List.map_toArray, List.map_cons, List.map_nil, hs, hx, hr]
  exact h v' w' h1 h2
theorem one_hash {w : World} {g : Nat} {f : Nat → Int} (h : RowAt w g .u8 32 53 f) : HashesIn w (.slice (some ⟨g, 0, none⟩) 1 1) [f] := by
  refine ⟨_, _, rfl, Nat.le_refl _, by unfold maxLen; decide, .inr ⟨g, 0, rfl, h.lt, fun i hi j v hv => ?_⟩⟩
  have hi0 : i = 0 := by simpa using hi
  subst hi0
  have := h.range j v hv
  rw [Nat.zero_mul, Nat.zero_add]
  rw [Nat.zero_add] at this
  exact this
def sgC (leaf : Nat) (vo vp : Value) : Array Value := #[.int .i64 (leaf : Int), vo, vp]
/-- a Reader's bytes don't lie in a signature's cells -/
theorem RAt.off {w : World} {p q : Nat} {y : Value} {ys : List Int} {e : Option Nat} {leaf : Nat} {a b : Option Addr} {n c m d : Nat} (h : RAt w p y ys e) (hq : w.heap[q]? = some (.cells (sgC leaf (.slice a n c) (.slice b m d)) 226 (0, 0))) (hn : ys ≠ []) : ∀ k, y.ownBlock = some k → k ≠ q := by
  rintro k hk rfl
  obtain ⟨a', c', rfl, _, _, hx⟩ := h.in_
  obtain ⟨ab, ao, rfl, hx2⟩ := hx.resolve_left hn
  have hk2 : ab = k := by simpa [Value.ownBlock] using hk
  subst hk2
  cases ys with
  | nil => exact absurd rfl hn
  | cons x r =>
    have := hx2 0 x rfl
    rw [cell_of_row _ _ _ _ _ _ hq] at this
    unfold sgC at this
    rw [Nat.add_zero] at this
    match ao, this with
    | 0, h => simp at h
    | 1, h => simp at h
    | 2, h => simp at h
    | n + 3, h => simp at h
/-- what lies in memory while a signature is decoded: the result's zeros, the Reader p, the signature q, all else behind B -/
structure DecM (w w' : World) (p q B : Nat) (leaf : Nat) (vo vp : Value) (once : List Int) (s : RSt) (ps : List (Nat → Int)) : Prop where
  below : Below w.heap.size w w'
  res : w'.heap[w.heap.size]? = some (.cells (sgC 0 (.slice none 0 0) (.slice none 0 0)) 226 (0, 0))
  sig : w'.heap[q]? = some (.cells (sgC leaf vo vp) 226 (0, 0))
  rd : ∃ y, RAt w' p y s.1 s.2 ∧ (s.1 ≠ [] → ∀ k, y.ownBlock = some k → k ≠ q ∧ k < B)
  oin : BytesIn w' vo once
  oown : once ≠ [] → ∀ k, vo.ownBlock = some k → q < k ∧ k < B
  path : w'.ownsRow B 53 32 vp ps.length (flatC ps)
  hp : w.heap.size < p
  hq : p < q
  hB : q < B
  size : B ≤ w'.heap.size
theorem BytesIn.only0 {w w' : World} {y : Value} {ys : List Int} {p : Nat} (h : BytesIn w y ys) (ho : Only p w w') (hn : ys ≠ [] → ∀ k, y.ownBlock = some k → k ≠ p) : BytesIn w' y ys := by
  by_cases he : ys = []
  · subst he
    obtain ⟨a, c, rfl, h1, h2, _⟩ := h
    exact ⟨a, c, rfl, h1, h2, .inl rfl⟩
  · exact h.only ho (hn he)
theorem Only.grown {p : Nat} {w w' : World} (h : Only p w w') : w.grownBy w' (some p) := ⟨h.os, h.tape, h.output, h.size, fun k hk hne => h.block k hk fun e => hne (by rw [e])⟩
theorem uintS_le (s : RSt) (most : Nat) : (uintS s most).1 ≤ most := by
  obtain ⟨ys, e⟩ := s
  cases e with
  | some x => rw [uintS_err]; exact Nat.zero_le _
  | none =>
    cases h : (rdF ys most).2.2 with
    | some x => rw [uintS_bad h]; exact Nat.zero_le _
    | none => rw [uintS_good h]; exact (rdF_ok h).2.2
theorem DecM.call {w w' w2 : World} {p q B leaf : Nat} {vo vp : Value} {once : List Int} {s : RSt} {ps : List (Nat → Int)} (m : DecM w w' p q B leaf vo vp once s ps) (h : Below w'.heap.size w' w2) : DecM w w2 p q B leaf vo vp once s ps := by
  obtain ⟨y, hy, hn⟩ := m.rd
  exact ⟨m.below.trans (h.mono m.below.size), (h.block _ (Array.getElem?_eq_some_iff.1 m.res).1).trans m.res, (h.block _ (Array.getElem?_eq_some_iff.1 m.sig).1).trans m.sig, ⟨y, hy.below h, hn⟩, m.oin.below h, m.oown, m.path.kept (grown_of_below h) (own_ne m.path), m.hp, m.hq, m.hB, Nat.le_trans m.size h.size⟩
theorem DecM.hash {w w' w2 : World} {p q B leaf : Nat} {vo vp : Value} {once : List Int} {s s2 : RSt} {ps : List (Nat → Int)} {y y2 : Value} (m : DecM w w' p q B leaf vo vp once s ps) (hy : s.1 ≠ [] → ∀ k, y.ownBlock = some k → k ≠ q ∧ k < B) (hs : s2.1 ≠ [] → s.1 ≠ []) (hr : RAt w2 p y2 s2.1 s2.2) (ho2 : y2.ownBlock = y.ownBlock) (h : Only p w' w2) : DecM w w2 p q B leaf vo vp once s2 ps :=
  ⟨m.below.trans (h.below (Nat.le_of_lt m.hp) m.below.size), (h.block _ (Array.getElem?_eq_some_iff.1 m.res).1 (by have := m.hp; omega)).trans m.res, (h.block _ (Array.getElem?_eq_some_iff.1 m.sig).1 (by have := m.hq; omega)).trans m.sig,
    ⟨y2, hr, fun hn k hk => hy (hs hn) k (ho2 ▸ hk)⟩, m.oin.only0 h fun hn k hk => (by have h1 := (m.oown hn k hk).1; have h2 := m.hq; omega), m.oown, m.path.kept h.grown (.inr fun e => by have h1 := (m.path.lt p e).1; have := m.hq; have := m.hB; omega), m.hp, m.hq, m.hB, Nat.le_trans m.size h.size⟩
theorem sgC_set (leaf : Nat) (vo vp vp' : Value) : (sgC leaf vo vp).setIfInBounds 2 vp' = sgC leaf vo vp' := rfl
theorem sgC_set1 (leaf : Nat) (vo vo' vp : Value) : (sgC leaf vo vp).setIfInBounds 1 vo' = sgC leaf vo' vp := rfl
theorem flatC_app1 (ps : List (Nat → Int)) (f : Nat → Int) : flatC ps ++ flatC [f] = flatC (ps ++ [f]) := by
  rw [flatC_snoc]; show flatC ps ++ ((rowOf .u8 32 f).toList ++ []) = _; rw [List.append_nil]
/-- one hash more -/
theorem DecM.more {w w' w3 : World} {p q B leaf : Nat} {vo vp vp' : Value} {once : List Int} {s : RSt} {ps : List (Nat → Int)} {f : Nat → Int} (m : DecM w w' p q B leaf vo vp once s ps) (hg : w'.grownBy w3 vp.ownBlock) (ho : w3.ownsRow B 53 32 vp' (ps.length + [f].length) (flatC ps ++ flatC [f])) :
    w3.heap[q]? = some (.cells (sgC leaf vo vp) 226 (0, 0)) ∧ DecM w (w3.setCell ⟨q, 2, none⟩ vp') p q B leaf vo vp' once s (ps ++ [f]) := by
  have hB := m.hB
  have hq := m.hq
  have hp := m.hp
  have hsz := m.size
  have hne : ∀ k, k < B → vp.ownBlock ≠ some k := fun k hk e => by have := (m.path.lt k e).1; omega
  have hs3 : w'.heap.size ≤ w3.heap.size := hg.size
  have hO := Only.setCell w3 ⟨q, 2, none⟩ vp'
  have hb : ∀ k, k < B → k ≠ q → (w3.setCell ⟨q, 2, none⟩ vp').heap[k]? = w'.heap[k]? := fun k hk hkq => (hO.block k (by omega) hkq).trans (hg.block k (by omega) (fun e => hne k hk e.symm))
  have hsig : w3.heap[q]? = some (.cells (sgC leaf vo vp) 226 (0, 0)) := (hg.block q (by omega) (fun e => hne q hB e.symm)).trans m.sig
  obtain ⟨y, hy, hn⟩ := m.rd
  refine ⟨hsig, ⟨?_, (hb _ (by omega) (by omega)).trans m.res, ?_, ⟨y, hy.keep (hb p (by omega) (by omega)) fun h0 k hk => hb k (hn h0 k hk).2 (hn h0 k hk).1, hn⟩, ?_, m.oown, ?_, hp, hq, hB, Nat.le_trans (Nat.le_trans hsz hs3) hO.size⟩⟩
  · exact ⟨hO.os.trans (hg.os.trans m.below.os), hO.tape.trans (hg.tape.trans m.below.tape), hO.output.trans (hg.output.trans m.below.output), Nat.le_trans m.below.size (Nat.le_trans hs3 hO.size), fun k hk => (hb k (by omega) (by omega)).trans (m.below.block k hk)⟩
  · rw [heap_setCell_same w3 q 2 _ _ _ hsig, sgC_set]
  · by_cases he : once = []
    · subst he
      obtain ⟨a, c, rfl, h1, h2, _⟩ := m.oin
      exact ⟨a, c, rfl, h1, h2, .inl rfl⟩
    · refine (m.oin.grown hg fun k hk e => hne k (m.oown he k hk).2 e.symm).only0 hO fun _ k hk => (by show k ≠ q; have h1 := (m.oown he k hk).1; omega)
  · have := ho.kept hO.grown (.inr fun e => by have := (ho.lt q e).1; omega)
    rw [List.length_append]
    rw [flatC_app1] at this
    exact this
end Go.Proofs.YtejglhlodfhgkaaGreatDoor
namespace Go.Proofs.YtejglhlodfhgkaaGreatDoor
set_option linter.unusedVariables false
set_option linter.unusedSimpArgs false
open Go.RowKit
set_option maxRecDepth 100000
theorem pow_sep (a b n : Nat) (h1 : 2 ^ a < n) (h2 : n ≤ 2 * 2 ^ a) (h3 : 2 ^ b < n) (h4 : n ≤ 2 * 2 ^ b) : a = b := by
  have e1 : 2 ^ a < 2 ^ (b + 1) := by rw [Nat.pow_succ]; omega
  have e2 : 2 ^ b < 2 ^ (a + 1) := by rw [Nat.pow_succ]; omega
  have := (Nat.pow_lt_pow_iff_right (a := 2) (by omega)).1 e1
  have := (Nat.pow_lt_pow_iff_right (a := 2) (by omega)).1 e2
  omega
theorem split_unique (n j : Nat) (h2 : 2 ≤ n) (hn : n < 18446744073709551616) (h1 : 2 ^ j < n) (h3 : n ≤ 2 * 2 ^ j) : 2 ^ j = splitF n := by
  have sp := splitF_spec n h2 hn
  unfold splitF at sp ⊢
  rw [pow_sep j (Lib.bitLen (n - 1) - 1) n h1 h3 sp.2.1 sp.2.2.1]
theorem rsplit_any (n : Nat) (w : World) (h2 : 2 ≤ n) (hn : n ≤ 9223372036854775807) : Calls Tryz.prog 146 #[.int .i64 (n : Int)] w fun e w' => e = .returned (.int .i64 (splitF n : Int)) ∧ w = w' := by
  have H2 := Lib.hid h2
  go_enter Tryz.func146, Tryz.ntmps146
  go_wp2_with (fail)
  go_loop [3] (fun v => ∃ j k : Nat, Hid (k = 2 ^ j) ∧ k < n ∧ 1 ≤ k ∧ v = .int .i64 (k : Int)) (fun v => n - (intOf v).toNat)
  case atStart => exact ⟨0, 1, Lib.hid rfl, by omega, by omega, rfl⟩
  case round =>
    obtain ⟨j, k, hk, hkn, hk1, rfl⟩ := hrel
    by_cases hlt : (k : Int) < (n : Int) - k
    · go_wp2_with (fail)
      go_round
      case rel => exact ⟨j + 1, 2 * k, Lib.hid (by rw [hk.out, Nat.pow_succ, Nat.mul_comm]), by omega, by omega, by go_num⟩
      case measure => simp [intOf]; omega
    · have hs := Lib.hid (show k = splitF n by
        have := hk.out
        rw [← split_unique n j H2.out (by omega) (by omega) (by omega)]; exact this)
      go_wp2_with (fail)
      go_ret
      exact ⟨by rw [← hs.out]; rfl, rfl⟩
theorem RowAt.bytesIn {w : World} {b : Nat} {a : Nat → Int} (h : RowAt w b .u8 32 53 a) : BytesIn w (.slice (some ⟨b, 0, none⟩) 32 32) (bytesOf a) := by
  refine ⟨_, _, by rw [bytesOf_length], by rw [bytesOf_length]; omega, by rw [bytesOf_length]; unfold maxLen; omega, .inr ⟨b, 0, rfl, fun i x hi => ?_⟩⟩
  have hil : i < 32 := by have := (List.getElem?_eq_some_iff.1 hi).1; rw [bytesOf_length] at this; exact this
  rw [Nat.zero_add, h.cell i hil]
  simp [bytesOf, hil] at hi
  rw [hi]
theorem own_cat {w : World} {g : Nat} {v : Value} {a b : Nat → Int} (h : w.ownsRow g 5 1 v (33 + (bytesOf b).length) (byteVals (1 :: bytesOf a) ++ byteVals (bytesOf b))) : w.ownsRow g 5 1 v (1 :: (bytesOf a ++ bytesOf b)).length (byteVals (1 :: (bytesOf a ++ bytesOf b))) := by
  rw [← byteVals_append] at h
  have e : 33 + (bytesOf b).length = (1 :: (bytesOf a ++ bytesOf b)).length := by simp [bytesOf_length]
  rw [e] at h; exact h
set_option maxHeartbeats 1000000 in
theorem rnode_any (a b : Nat → Int) (w : World) :
    Calls Tryz.prog 147 #[.agg (rowOf .u8 32 a), .agg (rowOf .u8 32 b)] w fun e w' => e = .returned (.agg (rowOf .u8 32 (nodeF a b))) ∧ Below w.heap.size w w' := by
  obtain ⟨w1, hw1⟩ : ∃ w1, w1 = ((w.alloc (.cells (rowOf .u8 32 a) 53)).alloc (.cells (rowOf .u8 32 b) 53)).alloc (.cells (rowOf .u8 32 (fun _ => 0)) 53) := ⟨_, rfl⟩
  have HB := Lib.hid (show Below w.heap.size w w1 by rw [hw1]; exact ((below_alloc w _).trans ((below_alloc _ _).mono (by simp))).trans ((below_alloc _ _).mono (by simp; omega)))
  have HA := Lib.hid (show RowAt w1 w.heap.size .u8 32 53 a by rw [hw1]; exact ((RowAt.new w _ _ _ _).alloc _).alloc _)
  have HBB := Lib.hid (show RowAt w1 (w.heap.size + 1) .u8 32 53 b by
    rw [hw1]
    have := (RowAt.new (w.alloc (.cells (rowOf .u8 32 a) 53)) .u8 32 53 b).alloc (.cells (rowOf .u8 32 (fun _ => 0)) 53)
    rw [shSize_alloc] at this; exact this)
  have HR := Lib.hid (show RowAt w1 (w.heap.size + 1 + 1) .u8 32 53 (fun _ => 0) by
    rw [hw1]
    have := RowAt.new ((w.alloc (.cells (rowOf .u8 32 a) 53)).alloc (.cells (rowOf .u8 32 b) 53)) .u8 32 53 (fun _ => 0)
    rw [shSize_alloc, shSize_alloc] at this; exact this)
  have hsl := slice25all w.heap.size
  have hsl2 := slice25all (w.heap.size + 1)
  replace hw1 := Lib.hid hw1.symm
  go_enter Tryz.func147, Tryz.ntmps147
  go_upto_region 1 with (fail)
  rw [zeros32, hw1.out]
  go_upto_region 2 with (fail)
  have HO := Lib.hid (show (w1.alloc (.cells #[.int .u8 1] 5)).ownsRow w1.heap.size 5 1 (.slice (some ⟨w1.heap.size, 0, none⟩) 1 1) 1 [.int .u8 1] from World.ownsRow_lit (w := w1) (base := w1.heap.size) (e := 5) (size := 1) #[.int .u8 1] 1 (by simp) (by simp [maxLen]) rfl)
  replace HA := Lib.hid (HA.out.alloc (.cells #[.int .u8 1] 5))
  replace HBB := Lib.hid (HBB.out.alloc (.cells #[.int .u8 1] 5))
  replace HR := Lib.hid (HR.out.alloc (.cells #[.int .u8 1] 5))
  have HS1 := Lib.hid HB.out.size
  have HL1 := Lib.hid HR.out.lt
  have HZ := Lib.hid (show w.heap.size + 1 + 1 < w1.heap.size by rw [← hw1.out]; simp)
  replace HB := Lib.hid (HB.out.trans ((below_alloc w1 (.cells #[.int .u8 1] 5)).mono HB.out.size))
  have HSZ := Lib.hid (show w1.heap.size ≤ (w1.alloc (.cells #[.int .u8 1] 5)).heap.size by simp)
  clear hw1
  generalize w1.alloc (.cells #[.int .u8 1] 5) = w2 at *
  obtain ⟨g, hg⟩ : ∃ g, g = w1.heap.size := ⟨_, rfl⟩
  rw [← hg] at HO HZ HSZ ⊢
  clear hg
  go_upto_region 3 with (at_builtin; refine wpList_append_bytes rfl (.tmp 7) (.tmp 8) rfl rfl g _ 1 [.int .u8 1] rfl HO.out _ (bytesOf a) rfl HA.out.bytesIn (by rw [bytesOf_length]; omega) HSZ.out ?_; intro v' w3 ho hg3 _; replace HBB := Lib.hid (show RowAt w3 (w.heap.size + 1) .u8 32 53 b from (hg3.block _ HBB.out.lt (fun e => by have := (HO.out.lt _ e.symm).1; have := HZ.out; omega)).trans HBB.out); replace HR := Lib.hid (show RowAt w3 (w.heap.size + 1 + 1) .u8 32 53 (fun _ => 0) from (hg3.block _ HR.out.lt (fun e => by have := (HO.out.lt _ e.symm).1; have := HZ.out; omega)).trans HR.out); replace HB := Lib.hid (HB.out.grown hg3 HB.out.size (fun k hk => by have := (HO.out.lt k hk).1; have := HZ.out; omega)); have HO3 := Lib.hid (show w3.ownsRow g 5 1 v' 33 (byteVals (1 :: bytesOf a)) by have h := ho; rw [bytesOf_length] at h; exact h); have HSZ3 := Lib.hid (Nat.le_trans HSZ.out hg3.size); clear ho hg3)
  clear HA HO
  go_wp2_with (first
    | (at_builtin; refine wpList_append_bytes rfl (.tmp 10) (.tmp 11) rfl rfl g _ 33 (byteVals (1 :: bytesOf a)) rfl HO3.out _ (bytesOf b) rfl HBB.out.bytesIn (by rw [bytesOf_length]; omega) HSZ3.out ?_; intro v' w4 ho hg4 _; have HO4 := Lib.hid (owns_in (xs := 1 :: (bytesOf a ++ bytesOf b)) (own_cat ho) (by simp [bytesOf_length, maxLen])); replace HR := Lib.hid (show RowAt w4 (w.heap.size + 1 + 1) .u8 32 53 (fun _ => 0) from (hg4.block _ HR.out.lt (fun e => by have := (HO3.out.lt _ e.symm).1; have := HZ.out; omega)).trans HR.out); replace HB := Lib.hid (HB.out.grown hg4 HB.out.size (fun k hk => by have := (HO3.out.lt k hk).1; have := HZ.out; omega)); clear ho hg4)
    | (go_at_call 75; (with_reducible refine (rsum_any _ _ _ HO4.out (by simp [bytesOf_length])).mono ?_); rintro e w5 ⟨rfl, hb⟩; replace HR := Lib.hid (HR.out.below hb HR.out.lt); replace HB := Lib.hid (HB.out.trans (hb.mono HB.out.size)); clear hb)
    | (refine wpList_store_row rfl 53 (.tmp 4) (.tmp 13) rfl (w.heap.size + 1 + 1) _ rfl rfl 53 _ HR.out (by rw [rowOf_size]; kernel_rfl) (by rw [rowOf_size, rowOf_size]) (rowOf_one _ _ _) ?_))
  refine bodyPost_ret (results_cell_row rfl _ _ (w.heap.size + 1 + 1) 53 _ (0, 0) _ rfl (setRow_heap _ _ _ _ _ _ HR.out) Tryz.underlying53 rfl (by rw [rowOf_size]; kernel_rfl)) rfl ?_
  exact ⟨rfl, below_setRow HB.out (by omega) _⟩
set_option maxRecDepth 100000 in
set_option maxHeartbeats 400000 in
theorem rroot_nil (a : Option Addr) (cap : Nat) (w : World) :
    Calls Tryz.prog 77 #[.slice a 0 cap] w fun e w' => e = .returned (.agg (rowOf .u8 32 (rootF []))) ∧ Below w.heap.size w w' := by
  have HB := Lib.hid (below_alloc w (.cells (rowOf .u8 32 (fun _ => 0)) 53))
  have HR := Lib.hid (RowAt.new w .u8 32 53 (fun _ => 0))
  have HN := Lib.hid (nil_in (w.alloc (.cells (rowOf .u8 32 (fun _ => 0)) 53)))
  go_enter Tryz.func77, Tryz.ntmps77
  go_upto_region 1 with (fail)
  rw [zeros32]
  generalize w.alloc (.cells (rowOf .u8 32 (fun _ => 0)) 53) = w1 at *
  go_wp2_with (first
    | (go_at_call 75; (with_reducible refine (rsum_any _ [] _ HN.out (by simp)).mono ?_); rintro e w5 ⟨rfl, HB5⟩; replace HR := Lib.hid (HR.out.below HB5 HR.out.lt); replace HB := Lib.hid (HB.out.trans (HB5.mono HB.out.size)); clear HB5)
    | (refine wpList_store_row rfl 53 (.tmp 2) (.tmp 7) rfl w.heap.size _ rfl rfl 53 _ HR.out (by rw [rowOf_size]; kernel_rfl) (by rw [rowOf_size, rowOf_size]) (rowOf_one _ _ _) ?_))
  refine bodyPost_ret (results_cell_row rfl _ _ w.heap.size 53 _ (0, 0) _ rfl (setRow_heap _ _ _ _ _ _ HR.out) Tryz.underlying53 rfl (by rw [rowOf_size]; kernel_rfl)) rfl ?_
  exact ⟨by rw [rootF_nil, sumF], below_setRow HB.out (Nat.le_refl _) _⟩
set_option maxRecDepth 100000 in
set_option maxHeartbeats 400000 in
theorem rroot_one (a : Option Addr) (cap : Nat) (h : Nat → Int) (w : World) (hx : HashesIn w (.slice a 1 cap) [h]) :
    Calls Tryz.prog 77 #[.slice a 1 cap] w fun e w' => e = .returned (.agg (rowOf .u8 32 h)) ∧ Below w.heap.size w w' := by
  obtain ⟨a', cap', e, hc, hm, hx⟩ := hx
  injection e with e1 e2 e3
  subst e1 e3
  obtain ⟨ab, ao, rfl, hlt, hx⟩ := hx.resolve_left (by simp)
  have HC := Lib.hid (hx 0 (by simp))
  have HB := Lib.hid (below_alloc w (.cells (rowOf .u8 32 (fun _ => 0)) 53))
  have HR := Lib.hid (RowAt.new w .u8 32 53 (fun _ => 0))
  have HC1 := Lib.hid (World.rangeAt_alloc HC.out (.cells (rowOf .u8 32 (fun _ => 0)) 53))
  clear hx e2 HC
  go_enter Tryz.func77, Tryz.ntmps77
  go_upto_region 1 with (fail)
  rw [zeros32]
  generalize w.alloc (.cells (rowOf .u8 32 (fun _ => 0)) 53) = w1 at *
  go_wp2_with (first
    | (refine wpList_load_mid rfl 53 (.tmp 12) rfl ab ao rfl _ _ (show w1.rangeAt ab ao (rowOf .u8 32 h).toList from by simpa using HC1.out) Tryz.underlying53 rfl (by rw [(rowOf_list _ _ _).2]; kernel_rfl) ?_; rw [Array.toArray_toList])
    | (refine wpList_store_row rfl 53 (.tmp 2) (.tmp 13) rfl w.heap.size _ rfl rfl 53 _ HR.out (by rw [rowOf_size]; kernel_rfl) (by rw [rowOf_size, rowOf_size]) (rowOf_one _ _ _) ?_))
  refine bodyPost_ret (results_cell_row rfl _ _ w.heap.size 53 _ (0, 0) _ rfl (setRow_heap _ _ _ _ _ _ HR.out) Tryz.underlying53 rfl (by rw [rowOf_size]; kernel_rfl)) rfl ?_
  exact ⟨rfl, below_setRow HB.out (Nat.le_refl _) _⟩
set_option maxRecDepth 100000 in
set_option maxHeartbeats 400000 in
theorem rroot_step (a : Option Addr) (n cap k : Nat) (hs : List (Nat → Int)) (r1 r2 : Nat → Int) (w : World) (hx : HashesIn w (.slice a n cap) hs) (hn : 2 ≤ n) (hn2 : n ≤ 9223372036854775807) (hnc : n ≤ cap) (hk : k = splitF n) (hkn : k ≤ n)
    (ih1 : ∀ (v : Value) (w : World), HashesIn w v (hs.take k) → Calls Tryz.prog 77 #[v] w fun e w' => e = .returned (.agg (rowOf .u8 32 r1)) ∧ Below w.heap.size w w')
    (ih2 : ∀ (v : Value) (w : World), HashesIn w v (hs.drop k) → Calls Tryz.prog 77 #[v] w fun e w' => e = .returned (.agg (rowOf .u8 32 r2)) ∧ Below w.heap.size w w') :
    Calls Tryz.prog 77 #[.slice a n cap] w fun e w' => e = .returned (.agg (rowOf .u8 32 (nodeF r1 r2))) ∧ Below w.heap.size w w' := by
  have HB := Lib.hid (below_alloc w (.cells (rowOf .u8 32 (fun _ => 0)) 53))
  have HR := Lib.hid (RowAt.new w .u8 32 53 (fun _ => 0))
  have HX := Lib.hid hx
  have HK := Lib.hid (show k ≤ n ∧ k ≤ cap from ⟨hkn, by omega⟩)
  have hsl1 := slice43hi a n cap k HK.out.2
  have hsl2 := slice43lo a n cap k HK.out.1
  have HS := Lib.hid (show ∀ w : World, Calls Tryz.prog 146 #[.int .i64 (n : Int)] w fun e w' => e = .returned (.int .i64 (k : Int)) ∧ w = w' from fun w => by rw [hk]; exact rsplit_any n w hn hn2)
  have hn0 : ((n : Int) == 0) = false := by rw [beq_eq_false_iff_ne]; omega
  have hn1 : ((n : Int) == 1) = false := by rw [beq_eq_false_iff_ne]; omega
  clear hx hk
  go_enter Tryz.func77, Tryz.ntmps77
  go_upto_region 1 with (fail)
  rw [zeros32]
  generalize w.alloc (.cells (rowOf .u8 32 (fun _ => 0)) 53) = w1 at *
  go_upto_region 6 with (go_at_call 146; (with_reducible refine (HS.out _).mono ?_); rintro e w' ⟨rfl, rfl⟩)
  refine wp_region_any (by kernel_rfl) ?_
  change wpAny _ _ _ _ _ _ _ w1.drew
  refine wpAny_take (i := 0) (v := .slice a n cap) rfl (by kernel_rfl) (by kernel_rfl) (by kernel_rfl) (fun _ _ _ h => h) (Or.inl ⟨by rfl, by intro w; go_simp⟩) ?_
  try simp only [List.getElem_toArray, List.getElem_cons_zero, Act.put, List.setIfInBounds_toArray, List.set_cons_zero, List.set_cons_succ]
  refine wpAny_take (i := 1) (v := .int .i64 (k : Int)) rfl (by kernel_rfl) (by kernel_rfl) (by kernel_rfl) (fun _ _ _ h => h) (Or.inl ⟨by rfl, by intro w; go_simp⟩) ?_
  try simp only [List.getElem_toArray, List.getElem_cons_succ, List.getElem_cons_zero, Act.put, List.setIfInBounds_toArray, List.set_cons_zero, List.set_cons_succ]
  refine wpAny_take (i := 2) (v := .slice (cutH a cap 0) k cap) rfl (by kernel_rfl) (by kernel_rfl) (by kernel_rfl) (fun _ _ _ h => h) (Or.inl ⟨by rfl, by intro w; go_simp⟩) ?_
  try simp only [List.getElem_toArray, List.getElem_cons_succ, List.getElem_cons_zero, Act.put, List.setIfInBounds_toArray, List.set_cons_zero, List.set_cons_succ]
  refine wpAny_take (i := 4) (v := .slice a n cap) rfl (by kernel_rfl) (by kernel_rfl) (by kernel_rfl) (fun _ _ _ h => h) (Or.inl ⟨by rfl, by intro w; go_simp⟩) ?_
  try simp only [List.getElem_toArray, List.getElem_cons_succ, List.getElem_cons_zero, Act.put, List.setIfInBounds_toArray, List.set_cons_zero, List.set_cons_succ]
  refine wpAny_take (i := 5) (v := .int .i64 (k : Int)) rfl (by kernel_rfl) (by kernel_rfl) (by kernel_rfl) (fun _ _ _ h => h) (Or.inl ⟨by rfl, by intro w; go_simp⟩) ?_
  try simp only [List.getElem_toArray, List.getElem_cons_succ, List.getElem_cons_zero, Act.put, List.setIfInBounds_toArray, List.set_cons_zero, List.set_cons_succ]
  refine wpAny_take (i := 6) (v := .slice (cutH a cap k) (n - k) (cap - k)) rfl (by kernel_rfl) (by kernel_rfl) (by kernel_rfl) (fun _ _ _ h => h) (Or.inl ⟨by rfl, by intro w; go_simp⟩) ?_
  try simp only [List.getElem_toArray, List.getElem_cons_succ, List.getElem_cons_zero, Act.put, List.setIfInBounds_toArray, List.set_cons_zero, List.set_cons_succ]
  replace HR : Hid (RowAt w1.drew w.heap.size .u8 32 53 (fun _ => 0)) := HR
  replace HB : Hid (Below w.heap.size w w1.drew) := Lib.hid HB.out.drew
  generalize w1.drew = w2 at *
  refine wpAny_ready (rs := [3]) (by kernel_rfl) (by simp) ?_; refine AllReady.cons rfl (fun K hK => ?_) AllReady.nil; rw [if_pos (by rfl)]
  try simp only [List.getElem_toArray, List.getElem_cons_succ, List.getElem_cons_zero]
  go_simp
  refine (ih1 (.slice (cutH a cap 0) k cap) _ ((HX.out.take k HK.out.1).below HB.out)).mono ?_
  rintro e w3 ⟨rfl, HB3⟩
  replace HR := Lib.hid (HR.out.below HB3 HR.out.lt)
  replace HB := Lib.hid (HB.out.trans (HB3.mono HB.out.size))
  clear HB3
  refine hK _ _ ?_
  clear hK K
  try simp only [List.getElem_toArray, List.getElem_cons_succ, List.getElem_cons_zero, Act.put, List.setIfInBounds_toArray, List.set_cons_zero, List.set_cons_succ]
  refine wpAny_ready (rs := [7]) (by kernel_rfl) (by simp) ?_; refine AllReady.cons rfl (fun K hK => ?_) AllReady.nil; rw [if_pos (by rfl)]
  try simp only [List.getElem_toArray, List.getElem_cons_succ, List.getElem_cons_zero]
  go_simp
  refine (ih2 (.slice (cutH a cap k) (n - k) (cap - k)) _ ((HX.out.drop k HK.out.1).below HB.out)).mono ?_
  rintro e w4 ⟨rfl, HB3⟩
  replace HR := Lib.hid (HR.out.below HB3 HR.out.lt)
  replace HB := Lib.hid (HB.out.trans (HB3.mono HB.out.size))
  clear HB3
  refine hK _ _ ?_
  clear hK K
  try simp only [List.getElem_toArray, List.getElem_cons_succ, List.getElem_cons_zero, Act.put, List.setIfInBounds_toArray, List.set_cons_zero, List.set_cons_succ]
  refine wpAny_ready (rs := [8]) (by kernel_rfl) (by simp) ?_; refine AllReady.cons rfl (fun K hK => ?_) AllReady.nil; rw [if_pos (by rfl)]
  try simp only [List.getElem_toArray, List.getElem_cons_succ, List.getElem_cons_zero]
  go_simp
  refine (rnode_any _ _ _).mono ?_
  rintro e w5 ⟨rfl, HB3⟩
  replace HR := Lib.hid (HR.out.below HB3 HR.out.lt)
  replace HB := Lib.hid (HB.out.trans (HB3.mono HB.out.size))
  clear HB3
  refine hK _ _ ?_
  clear hK K
  try simp only [List.getElem_toArray, List.getElem_cons_succ, List.getElem_cons_zero, Act.put, List.setIfInBounds_toArray, List.set_cons_zero, List.set_cons_succ]
  refine wpAny_ready (rs := [9]) (by kernel_rfl) (by simp) ?_; refine AllReady.cons rfl (fun K hK => ?_) AllReady.nil; rw [if_pos (by rfl)]
  refine wp_store_row 53 (.tmp 2) (.tmp 25) rfl w.heap.size _ rfl rfl 53 _ HR.out (by rw [rowOf_size]; kernel_rfl) (by rw [rowOf_size, rowOf_size]) (rowOf_one _ _ _) ?_
  refine hK _ _ ?_
  clear hK K
  try simp only [List.getElem_toArray, List.getElem_cons_succ, List.getElem_cons_zero, Act.put]
  refine wpAny_done (by kernel_rfl) ?_ _
  go_wp2_with (fail)
  refine bodyPost_ret (results_cell_row rfl _ _ w.heap.size 53 _ (0, 0) _ rfl (setRow_heap _ _ _ _ _ _ HR.out) Tryz.underlying53 rfl (by rw [rowOf_size]; kernel_rfl)) rfl ?_
  exact ⟨rfl, below_setRow HB.out (Nat.le_refl _) _⟩
theorem rroot_any : ∀ (n : Nat) (hs : List (Nat → Int)), hs.length = n → ∀ (v : Value) (w : World), HashesIn w v hs →
    Calls Tryz.prog 77 #[v] w fun e w' => e = .returned (.agg (rowOf .u8 32 (rootF hs))) ∧ Below w.heap.size w w' := by
  intro n
  induction n using Nat.strongRecOn with
  | _ n ih =>
    intro hs hl v w hx
    have hx0 := hx
    obtain ⟨a, cap, rfl, hc, hm, _⟩ := hx
    unfold maxLen at hm
    by_cases h0 : n = 0
    · have : hs = [] := List.eq_nil_of_length_eq_zero (by omega)
      subst this
      exact rroot_nil a cap w
    · by_cases h1 : n = 1
      · obtain ⟨h, rfl⟩ : ∃ h, hs = [h] := by
          match hs, hl with
          | [h], _ => exact ⟨h, rfl⟩
          | [], hl => exact absurd hl (by simp; omega)
          | _ :: _ :: _, hl => exact absurd hl (by simp; omega)
        have := rroot_one a cap h w hx0
        rw [rootF_one [h] rfl]
        exact this
      · have sp := splitF_spec hs.length (by omega) (by omega)
        rw [rootF_step hs (by omega) ⟨sp.1, sp.2.1⟩]
        exact rroot_step a hs.length cap (splitF hs.length) hs _ _ w hx0 (by omega) (by omega) hc rfl (by omega)
          (fun v w => ih (splitF hs.length) (by omega) (hs.take (splitF hs.length)) (by rw [List.length_take]; omega) v w)
          (fun v w => ih (hs.length - splitF hs.length) (by omega) (hs.drop (splitF hs.length)) (by rw [List.length_drop]) v w)
end Go.Proofs.YtejglhlodfhgkaaGreatDoor
namespace Go.Proofs.YtejglhlodfhgkaaGreatDoor
set_option linter.unusedVariables false
set_option linter.unusedSimpArgs false
open Go.RowKit
set_option maxRecDepth 100000
theorem build32s (f : Nat → Int) : Array.foldl (fun (cs : Array Value) (x : Value × Nat) => cs.setIfInBounds x.snd x.fst) #[Value.int IntKind.u8 0, Value.int IntKind.u8 0, Value.int IntKind.u8 0, Value.int IntKind.u8 0, Value.int IntKind.u8 0, Value.int IntKind.u8 0, Value.int IntKind.u8 0, Value.int IntKind.u8 0, Value.int IntKind.u8 0, Value.int IntKind.u8 0, Value.int IntKind.u8 0, Value.int IntKind.u8 0, Value.int IntKind.u8 0, Value.int IntKind.u8 0, Value.int IntKind.u8 0, Value.int IntKind.u8 0, Value.int IntKind.u8 0, Value.int IntKind.u8 0, Value.int IntKind.u8 0, Value.int IntKind.u8 0, Value.int IntKind.u8 0, Value.int IntKind.u8 0, Value.int IntKind.u8 0, Value.int IntKind.u8 0, Value.int IntKind.u8 0, Value.int IntKind.u8 0, Value.int IntKind.u8 0, Value.int IntKind.u8 0, Value.int IntKind.u8 0, Value.int IntKind.u8 0, Value.int IntKind.u8 0, Value.int IntKind.u8 0] ((rowOf IntKind.u8 32 f).zipIdx 0) 0 32 = rowOf .u8 32 f := by kernel_rfl
end Go.Proofs.YtejglhlodfhgkaaGreatDoor
namespace Go.Proofs.YtejglhlodfhgkaaGreatDoor
set_option linter.unusedVariables false
set_option linter.unusedSimpArgs false
open Go.RowKit
set_option maxRecDepth 100000
theorem sig_cells (w : World) (q leaf : Nat) (vo vp : Value) (h : w.heap[q]? = some (.cells (sgC leaf vo vp) 226 (0, 0))) : w.cell? ⟨q, 0, none⟩ = some (.int .i64 (leaf : Int)) ∧ w.cell? ⟨q, 1, none⟩ = some vo ∧ w.cell? ⟨q, 2, none⟩ = some vp ∧ ∀ i, w.frozen? ⟨q, i, none⟩ = false :=
  ⟨by rw [cell_of_row _ _ _ _ _ _ h]; rfl, by rw [cell_of_row _ _ _ _ _ _ h]; rfl, by rw [cell_of_row _ _ _ _ _ _ h]; rfl, fun i => frozen_of_row _ _ _ _ _ h⟩
theorem hashS_ne (s : RSt) (h : (hashS s).2.1 ≠ []) : s.1 ≠ [] := by
  rintro e
  obtain ⟨ys, x⟩ := s
  subst e
  cases x with
  | some x => exact h rfl
  | none => exact h rfl
/-- ahead of the loop -/
theorem dec_start {w w' : World} {p q leaf : Nat} {vo : Value} {once : List Int} {s : RSt} (hb : Below w.heap.size w w') (hres : w'.heap[w.heap.size]? = some (.cells (sgC 0 (.slice none 0 0) (.slice none 0 0)) 226 (0, 0)))
    (hsig : w'.heap[q]? = some (.cells (sgC leaf vo (.slice none 0 0)) 226 (0, 0))) (hvo : ∃ a n c, vo = .slice a n c) (hrd : RS w' p s) (ho : BytesIn w' vo once) (hoq : once ≠ [] → ∀ k, vo.ownBlock = some k → q < k) (hp : w.heap.size < p) (hq : p < q) :
    DecM w w' p q w'.heap.size leaf vo (.slice none 0 0) once s [] := by
  obtain ⟨y, hy⟩ := hrd
  obtain ⟨a, n, c, rfl⟩ := hvo
  exact ⟨hb, hres, hsig, ⟨y, hy, fun hn k hk => ⟨hy.off hsig hn k hk, hy.own_lt hn k hk⟩⟩, ho, fun hn k hk => ⟨hoq hn k hk, bytes_own_lt ho hn k hk⟩, World.ownsRow_nil _ _ _ _, hp, hq, (Array.getElem?_eq_some_iff.1 hsig).1, Nat.le_refl _⟩
theorem RS.store {w : World} {p q leaf i : Nat} {s : RSt} {v : Value} {a b : Option Addr} {n c m d : Nat} (h : RS w p s) (hq : w.heap[q]? = some (.cells (sgC leaf (.slice a n c) (.slice b m d)) 226 (0, 0))) (hne : p ≠ q) : RS (w.setCell ⟨q, i, none⟩ v) p s := by
  obtain ⟨y, hy⟩ := h
  have hO := Only.setCell w ⟨q, i, none⟩ v
  exact ⟨y, hy.keep (hO.block p hy.lt hne) fun hn k hk => hO.block k (hy.own_lt hn k hk) (hy.off hq hn k hk)⟩
theorem sgz_one (leaf : Nat) : (sgC leaf (.slice none 0 0) (.slice none 0 0)).all (·.oneCell') = true := by simp [sgC, Value.oneCell']
theorem sg_one (leaf : Nat) (a b : Option Addr) (n c m d : Nat) : (sgC leaf (.slice a n c) (.slice b m d)).all (·.oneCell') = true := by simp [sgC, Value.oneCell']
theorem flat_wide {w : World} {B n : Nat} {v : Value} {vs : List Value} (h : w.ownsRow B 53 32 v n vs) : ∃ a c, v = .slice a n c := by
  rcases h.2 with ⟨rfl, h0⟩ | ⟨g, c, _, rfl, _⟩
  · exact ⟨none, 0, by rw [h0]⟩
  · exact ⟨_, c, rfl⟩
set_option maxHeartbeats 4000000 in
theorem kdecode_any (v : Value) (xs : List Int) (w : World) (hx : BytesIn w v xs) (hb : bytesOk xs) (hl : xs.length ≤ 140737488355328) :
    Calls Tryz.prog 150 #[v] w fun e w' => ∃ vo vp, e = .returned (.tuple #[.agg (sgC (decS xs).1.leaf vo vp), errV (decS xs).2]) ∧ BytesIn w' vo (decS xs).1.once ∧ HashesIn w' vp (decS xs).1.path ∧ Below w.heap.size w w' := by
  have HX := Lib.hid hx
  have HXB := Lib.hid hb
  have HXL := Lib.hid hl
  obtain ⟨a, s1, h1⟩ : ∃ a s1, uintS (xs, none) 1023 = (a, s1) := ⟨_, _, rfl⟩
  obtain ⟨on, s2, h2⟩ : ∃ on s2, partS s1 4096 = (on, s2) := ⟨_, _, rfl⟩
  obtain ⟨c, s3, h3⟩ : ∃ c s3, uintS s2 10 = (c, s3) := ⟨_, _, rfl⟩
  have ha : a ≤ 1023 := by have := uintS_le (xs, none) 1023; rw [h1] at this; exact this
  have hc : c ≤ 10 := by have := uintS_le s2 10; rw [h3] at this; exact this
  have U1 := Lib.hid (show ∀ w p, RS w p (xs, none) → Calls Tryz.prog 168 #[.pointer (some ⟨p, 0, none⟩), .int .u64 1023] w fun r w' => r = .returned (.int .u64 (a : Int)) ∧ RS w' p s1 ∧ Only p w w' from fun w p h => by
    have := uint_any p (xs, none) 1023 w h; rw [h1] at this; exact this)
  have U2 := Lib.hid (show ∀ w p, RS w p s1 → Calls Tryz.prog 136 #[.pointer (some ⟨p, 0, none⟩), .int .i64 4096] w fun r w' => ∃ v, r = .returned v ∧ BytesIn w' v on ∧ (∀ j, v.ownBlock = some j → w.heap.size ≤ j) ∧ RS w' p s2 ∧ Only p w w' from fun w p h => by
    have := rbytes_any p s1 4096 w h (by omega) (by omega); rw [h2] at this; exact this)
  have U3 := Lib.hid (show ∀ w p, RS w p s2 → Calls Tryz.prog 168 #[.pointer (some ⟨p, 0, none⟩), .int .u64 10] w fun r w' => r = .returned (.int .u64 (c : Int)) ∧ RS w' p s3 ∧ Only p w w' from fun w p h => by
    have := uint_any p s2 10 w h; rw [h3] at this; exact this)
  have HD := Lib.hid (show decS xs = if doneE (hashesS s3 c).2 = none then (⟨a, on, (hashesS s3 c).1⟩, none) else (zSg, some 3) by
    unfold decS sD sC sB sA; rw [h1]; simp only; rw [h2]; simp only; rw [h3])
  clear hx hb hl h1 h2 h3
  have HB := Lib.hid (below_alloc w (.cells (sgC 0 (.slice none 0 0) (.slice none 0 0)) 226))
  have HRES := Lib.hid (heap_alloc_new w (.cells (sgC 0 (.slice none 0 0) (.slice none 0 0)) 226))
  unfold sgC at HB HRES
  go_enter Tryz.func150, Tryz.ntmps150
  go_upto_region 1 with (fail)
  rw [show ((0 : Nat) : Int) = 0 from rfl] at HB HRES
  generalize w.alloc (.cells #[.int .i64 0, .slice none 0 0, .slice none 0 0] 226) = w1 at *
  have HW1 := Lib.hid (Array.getElem?_eq_some_iff.1 HRES.out).1
  go_upto_region 3 with (first
    | (go_at_call 66; (with_reducible refine (read_any v xs _ (HX.out.below HB.out) HXB.out HXL.out).mono ?_); rintro e w2 ⟨p, y, rfl, hp, hr, hb2⟩; have HP := Lib.hid hp; have RS0 := Lib.hid (show RS w2 p (xs, none) from ⟨y, hr⟩); replace HRES := Lib.hid ((hb2.block _ HW1.out).trans HRES.out); replace HB := Lib.hid (HB.out.trans (hb2.mono HB.out.size)); clear hp hr hb2)
    | (go_at_call 168; (with_reducible refine (U1.out _ p RS0.out).mono ?_); rintro e w3 ⟨rfl, hrs, ho⟩; replace RS0 := Lib.hid hrs; replace HRES := Lib.hid ((ho.block _ (Array.getElem?_eq_some_iff.1 HRES.out).1 (by have := HP.out; have := HW1.out; omega)).trans HRES.out); replace HB := Lib.hid (HB.out.trans (ho.below (by have := HP.out; have := HW1.out; omega) HB.out.size)); clear hrs ho)
    | (refine wpList_store_row rfl 226 (.tmp 5) (.tmp 11) rfl w3.heap.size (sgC a (.slice none 0 0) (.slice none 0 0)) rfl rfl 226 _ (heap_alloc_new _ _) (by kernel_rfl) (by rfl) (sgz_one a) ?_; rw [World.setRow_alloc_new]))
  obtain ⟨q, hq⟩ : ∃ q, q = w3.heap.size := ⟨_, rfl⟩
  have HPQ := Lib.hid (show p < q by obtain ⟨y, hy⟩ := RS0.out; rw [hq]; exact hy.lt)
  have SIG := Lib.hid (heap_alloc_new w3 (.cells (sgC a (.slice none 0 0) (.slice none 0 0)) 226))
  replace RS0 := Lib.hid (show RS (w3.alloc (.cells (sgC a (.slice none 0 0) (.slice none 0 0)) 226)) p s1 by obtain ⟨y, hy⟩ := RS0.out; exact ⟨y, hy.below (below_alloc _ _)⟩)
  replace HRES := Lib.hid (((below_alloc w3 (.cells (sgC a (.slice none 0 0) (.slice none 0 0)) 226)).block _ (Array.getElem?_eq_some_iff.1 HRES.out).1).trans HRES.out)
  replace HB := Lib.hid (HB.out.trans ((below_alloc w3 (.cells (sgC a (.slice none 0 0) (.slice none 0 0)) 226)).mono HB.out.size))
  rw [← hq] at SIG ⊢
  replace hq := Lib.hid hq
  generalize w3.alloc (.cells (sgC a (.slice none 0 0) (.slice none 0 0)) 226) = w4 at *
  go_upto_region 4 with (go_at_call 136; (with_reducible refine (U2.out _ p RS0.out).mono ?_); rintro e w5 ⟨vo, rfl, hxo, hown, hrs, ho⟩; obtain ⟨av, cv, rfl, -⟩ := id hxo; have HXO := Lib.hid hxo; have HOWN := Lib.hid hown; replace RS0 := Lib.hid hrs; replace HRES := Lib.hid ((ho.block _ (Array.getElem?_eq_some_iff.1 HRES.out).1 (by have := HP.out; have := HW1.out; omega)).trans HRES.out); replace HB := Lib.hid (HB.out.trans (ho.below (by have := HP.out; have := HW1.out; omega) HB.out.size)); have HQ4 := Lib.hid (Array.getElem?_eq_some_iff.1 SIG.out).1; replace SIG := Lib.hid ((ho.block _ HQ4.out (by have := HPQ.out; omega)).trans SIG.out); obtain ⟨-, cc1, -, ff⟩ := sig_cells _ _ _ _ _ SIG.out; have ff1 := ff 1; clear hxo hown hrs ho ff)
  clear cc1 ff1
  have HO5 := Lib.hid (Only.setCell w5 ⟨q, 1, none⟩ (.slice av on.length cv))
  replace RS0 := Lib.hid (RS0.out.store (i := 1) (v := (.slice av on.length cv)) SIG.out (by have := HPQ.out; omega))
  have HOQ := Lib.hid (show on ≠ [] → ∀ k, (Value.slice av on.length cv).ownBlock = some k → q < k from fun _ k hk => by have := HOWN.out k hk; have := HQ4.out; omega)
  replace HXO := Lib.hid (HXO.out.only0 HO5.out fun hn k hk => by show k ≠ q; have := HOQ.out hn k hk; omega)
  replace HRES := Lib.hid ((HO5.out.block _ (Array.getElem?_eq_some_iff.1 HRES.out).1 (by show _ ≠ q; have := HP.out; have := HW1.out; have := HPQ.out; omega)).trans HRES.out)
  replace SIG := Lib.hid ((heap_setCell_same w5 q 1 _ _ (.slice av on.length cv) SIG.out))
  replace HB := Lib.hid (HB.out.trans (HO5.out.below (by show _ ≤ q; have := HP.out; have := HW1.out; have := HPQ.out; omega) HB.out.size))
  rw [sgC_set1] at SIG
  clear HOWN HQ4 HO5
  generalize w5.setCell ⟨q, 1, none⟩ (.slice av on.length cv) = w6 at *
  generalize hvo : Value.slice av on.length cv = vo at *
  go_wp2_with (go_at_call 168; (with_reducible refine (U3.out _ p RS0.out).mono ?_); rintro e w7 ⟨rfl, hrs, ho⟩; replace RS0 := Lib.hid hrs; replace HRES := Lib.hid ((ho.block _ (Array.getElem?_eq_some_iff.1 HRES.out).1 (by have := HP.out; have := HW1.out; omega)).trans HRES.out); replace HB := Lib.hid (HB.out.trans (ho.below (by have := HP.out; have := HW1.out; omega) HB.out.size)); replace SIG := Lib.hid ((ho.block _ (Array.getElem?_eq_some_iff.1 SIG.out).1 (by have := HPQ.out; omega)).trans SIG.out); replace HXO := Lib.hid (HXO.out.only0 ho fun hn k hk => by have := HOQ.out hn k hk; have := HPQ.out; omega); clear hrs ho)
  have M := Lib.hid (dec_start HB.out HRES.out SIG.out ⟨av, _, cv, hvo.symm⟩ RS0.out HXO.out HOQ.out (by have := HP.out; have := HW1.out; omega) HPQ.out)
  clear RS0 HXO SIG HRES HB
  obtain ⟨B, hB⟩ : ∃ B, B = w7.heap.size := ⟨_, rfl⟩
  rw [← hB] at M
  replace hB := Lib.hid hB
  go_loopw [17] (fun i wr => ∃ k : Nat, k ≤ c ∧ i = .int .u64 (k : Int) ∧ Hid (∃ vp, DecM w wr p q B a vo vp on (hashesS s3 k).2 (hashesS s3 k).1)) (fun i _ => c - (intOf i).toNat)
  case atStart => exact ⟨0, Nat.zero_le _, rfl, Lib.hid ⟨_, M.out⟩⟩
  case round =>
    clear M
    obtain ⟨k, hk, rfl, M⟩ := hrel
    obtain ⟨vp, M⟩ := M.out
    replace M := Lib.hid M
    by_cases hlt : k < c
    · have hkI : (k : Int) < (c : Int) := by omega
      obtain ⟨ap, cp, hvp⟩ := flat_wide M.out.path
      have HVO := Lib.hid hvo
      have HVP := Lib.hid hvp
      subst hvp
      go_upto_region 6 with (fail)
      refine wp_region_T (fun w' => w'.heap[q]? = some (.cells (sgC a vo (.slice ap (hashesS s3 k).1.length cp)) 226 (0, 0))) [3, 4] (by kernel_rfl) ?_
      replace M := Lib.hid (M.out.call ((Below.refl _ wr).drew))
      generalize wr.drew = w8 at *
      obtain ⟨f, hf⟩ : ∃ f, f = (hashS (hashesS s3 k).2).1 := ⟨_, rfl⟩
      have HF := Lib.hid hf
      have RH := Lib.hid (show ∀ w y, RAt w p y (hashesS s3 k).2.1 (hashesS s3 k).2.2 → Calls Tryz.prog 92 #[.pointer (some ⟨p, 0, none⟩)] w fun r w' => r = .returned (.agg (rowOf .u8 32 f)) ∧ (∃ y', RAt w' p y' (hashS (hashesS s3 k).2).2.1 (hashS (hashesS s3 k).2).2.2 ∧ y'.ownBlock = y.ownBlock) ∧ Only p w w' from fun w y h => by
        rw [HF.out]; exact rhash_own p y _ _ w h)
      clear hf
      refine anyT_takeY (i := 0) (v := .pointer (some ⟨q, 2, none⟩)) rfl (by kernel_rfl) (by kernel_rfl) (by kernel_rfl) (fun _ _ _ h => h) (by kernel_rfl) (Or.inl ⟨by rfl, by intro w; go_simp⟩) ?_
      try simp only [List.getElem_toArray, List.getElem_cons_succ, List.getElem_cons_zero, Act.put, List.setIfInBounds_toArray, List.set_cons_zero, List.set_cons_succ]
      refine anyT_takeY (i := 2) (v := .pointer (some ⟨p, 0, none⟩)) rfl (by kernel_rfl) (by kernel_rfl) (by kernel_rfl) (fun _ _ _ h => h) (by kernel_rfl) (Or.inl ⟨by rfl, by intro w; go_simp⟩) ?_
      try simp only [List.getElem_toArray, List.getElem_cons_succ, List.getElem_cons_zero, Act.put, List.setIfInBounds_toArray, List.set_cons_zero, List.set_cons_succ]
      refine anyT_take [5, 6, 7] (i := 1) (v := .slice ap (hashesS s3 k).1.length cp) rfl (by kernel_rfl) (by kernel_rfl) (by kernel_rfl) (fun _ _ _ h => h) (by kernel_rfl) (Or.inl ⟨by rfl, fun w' hS => by have c1 := (sig_cells w' _ _ _ _ hS).2.2.1; go_simp⟩) M.out.sig ?_
      try simp only [List.getElem_toArray, List.getElem_cons_succ, List.getElem_cons_zero, Act.put, List.setIfInBounds_toArray, List.set_cons_zero, List.set_cons_succ]
      refine anyT_one (i := 3) (by kernel_rfl) rfl (fun K hK => ?_)
      rw [if_pos (by rfl)]
      try simp only [List.getElem_toArray, List.getElem_cons_succ, List.getElem_cons_zero]
      (go_simp; obtain ⟨y, hy, hn⟩ := M.out.rd; refine (RH.out _ y hy).mono ?_; rintro e w9 ⟨rfl, ⟨y2, hy2, ho2⟩, ho⟩; replace M := Lib.hid (M.out.hash hn (hashS_ne _) hy2 ho2 ho); clear hy hn hy2 ho2 ho)
      refine hK _ _ (fun _ => M.out.sig) ?_
      clear hK K
      try simp only [List.getElem_toArray, List.getElem_cons_succ, List.getElem_cons_zero, Act.put, List.setIfInBounds_toArray, List.set_cons_zero, List.set_cons_succ]
      refine anyT_one (i := 4) (by kernel_rfl) rfl (fun K hK => ?_)
      rw [if_pos (by rfl)]
      try simp only [List.getElem_toArray, List.getElem_cons_succ, List.getElem_cons_zero]
      (have hsz32 := rowOf_size .u8 32 f; go_simp; rw [build32s]; have HR := Lib.hid (RowAt.new w9 .u8 32 53 f); replace M := Lib.hid (M.out.call (below_alloc w9 (.cells (rowOf .u8 32 f) 53))); have HG9 := Lib.hid (below_alloc w9 (.cells (rowOf .u8 32 f) 53)); generalize w9.alloc (.cells (rowOf .u8 32 f) 53) = w10 at *)
      refine hK _ _ (fun _ => M.out.sig) ?_
      clear hK K
      try simp only [List.getElem_toArray, List.getElem_cons_succ, List.getElem_cons_zero, Act.put, List.setIfInBounds_toArray, List.set_cons_zero, List.set_cons_succ]
      refine anyT_one (i := 5) (by kernel_rfl) rfl (fun K hK => ?_)
      rw [if_pos (by rfl)]
      try simp only [List.getElem_toArray, List.getElem_cons_succ, List.getElem_cons_zero]
      (refine wp_append_hashes (.tmp 20) (.tmp 23) rfl rfl B _ (hashesS s3 k).1.length _ rfl M.out.path _ [f] rfl (one_hash HR.out) (by rw [hashesS_length]; show (k + 1) * 32 ≤ _; omega) M.out.size ?_; intro v' w11 ho hg; obtain ⟨hsig, hm⟩ := M.out.more hg ho; obtain ⟨av', cv', rfl⟩ := flat_wide ho; have M2 := Lib.hid hm; have SG := Lib.hid hsig; clear ho hg hm hsig)
      refine hK _ _ (not_mem rfl) ?_
      clear hK K
      try simp only [List.getElem_toArray, List.getElem_cons_succ, List.getElem_cons_zero, Act.put, List.setIfInBounds_toArray, List.set_cons_zero, List.set_cons_succ]
      refine anyT_takeY (i := 6) (v := .pointer (some ⟨q, 2, none⟩)) rfl (by kernel_rfl) (by kernel_rfl) (by kernel_rfl) (fun _ _ _ h => h) (by kernel_rfl) (Or.inl ⟨by rfl, by intro w; go_simp⟩) ?_
      try simp only [List.getElem_toArray, List.getElem_cons_succ, List.getElem_cons_zero, Act.put, List.setIfInBounds_toArray, List.set_cons_zero, List.set_cons_succ]
      refine anyT_one (i := 7) (by kernel_rfl) rfl (fun K hK => ?_)
      rw [if_pos (by rfl)]
      try simp only [List.getElem_toArray, List.getElem_cons_succ, List.getElem_cons_zero]
      (obtain ⟨-, -, cc2, ff⟩ := sig_cells _ _ _ _ _ SG.out; have ff2 := ff 2; go_simp; clear cc2 ff ff2)
      refine hK _ _ (not_mem rfl) ?_
      clear hK K
      try simp only [List.getElem_toArray, List.getElem_cons_succ, List.getElem_cons_zero, Act.put, List.setIfInBounds_toArray, List.set_cons_zero, List.set_cons_succ]
      refine anyT_done (by kernel_rfl) ?_ _
      clear HR HG9 SG RH M
      generalize w11.setCell ⟨q, 2, none⟩ _ = w12 at *
      go_wp2_with (fail)
      go_roundw
      case rel => exact ⟨k + 1, by omega, by go_num, Lib.hid ⟨_, by have h := M2.out; rw [HF.out] at h; exact h⟩⟩
      case measure => simp [intOf]; omega
    · obtain rfl : k = c := by omega
      have hkI : ¬ (k : Int) < (k : Int) := by omega
      obtain ⟨y, hy, -⟩ := M.out.rd
      have HRD := Lib.hid (show RS wr p (hashesS s3 k).2 from ⟨y, hy⟩)
      clear hy
      obtain ⟨ap, cp, hvp⟩ := flat_wide M.out.path
      have HVW := Lib.hid (show (sgC a vo vp).all (·.oneCell') = true by rw [hvp, ← hvo]; exact sg_one _ _ _ _ _ _ _)
      clear hvp
      have HVP := Lib.hid (show HashesIn wr vp (hashesS s3 k).1 from HashesIn.of_own M.out.path)
      have HSG := Lib.hid M.out.sig
      have HRS := Lib.hid M.out.res
      by_cases hd : doneE (hashesS s3 k).2 = none
      · have HDO := Lib.hid (show ∀ w, RS w p (hashesS s3 k).2 → Calls Tryz.prog 68 #[.pointer (some ⟨p, 0, none⟩)] w fun r w' => r = .returned .nilIface ∧ w' = w from fun w h => by have := rdone_any p _ w h; rw [hd] at this; exact this)
        have HDD := Lib.hid (show decS xs = (⟨a, on, (hashesS s3 k).1⟩, none) by rw [HD.out, if_pos hd])
        clear hd
        go_wp2_with (first
          | (go_at_call 68; (with_reducible refine (HDO.out _ HRD.out).mono ?_); rintro e w9 ⟨rfl, rfl⟩)
          | (refine wpList_load_row rfl 226 (.tmp 5) rfl q rfl 226 _ (0, 0) _ HSG.out Tryz.underlying226 rfl (by kernel_rfl) ?_)
          | (refine wpList_store_row rfl 226 (.tmp 2) (.tmp 32) rfl w.heap.size (sgC a vo vp) rfl rfl 226 _ HRS.out (by kernel_rfl) (by rfl) HVW.out ?_))
        refine bodyPost_ret (results_cell_tmp_row rfl _ _ w.heap.size 226 (sgC a vo vp) (0, 0) _ rfl (setRow_heap _ _ _ _ _ _ HRS.out) Tryz.underlying226 rfl (by kernel_rfl)) rfl ?_
        rw [HDD.out]
        have HO := Only.setRow w9 w.heap.size (sgC a vo vp)
        refine ⟨vo, vp, rfl, M.out.oin.only0 HO fun hn k hk => ?_, ?_, below_setRow M.out.below (by omega) _⟩
        · have h1 := (M.out.oown hn k hk).1; have h2 := M.out.hp; have h3 := M.out.hq; omega
        · exact HashesIn.of_own (M.out.path.kept HO.grown (.inr fun e => by have h1 := (M.out.path.lt _ e).1; have h2 := M.out.hp; have h3 := M.out.hq; have h4 := M.out.hB; omega))
      · have hde : ∃ x, doneE (hashesS s3 k).2 = some x := by cases h : doneE (hashesS s3 k).2 with
          | none => exact absurd h hd
          | some x => exact ⟨x, rfl⟩
        obtain ⟨x, hx⟩ := hde
        have HDO := Lib.hid (show ∀ w, RS w p (hashesS s3 k).2 → Calls Tryz.prog 68 #[.pointer (some ⟨p, 0, none⟩)] w fun r w' => r = .returned (.iface 107 (.int .i64 (x : Int))) ∧ w' = w from fun w h => by have := rdone_any p _ w h; rw [hx] at this; exact this)
        have HDD := Lib.hid (show decS xs = (zSg, some 3) by rw [HD.out, if_neg hd])
        clear hd hx
        go_wp2_with (first
          | (go_at_call 68; (with_reducible refine (HDO.out _ HRD.out).mono ?_); rintro e w9 ⟨rfl, rfl⟩)
          | (refine wpList_store_row rfl 226 (.tmp 2) (.tmp 30) rfl w.heap.size (sgC 0 (.slice none 0 0) (.slice none 0 0)) rfl rfl 226 _ HRS.out (by kernel_rfl) (by rfl) (sgz_one 0) ?_))
        refine bodyPost_ret (results_cell_tmp_row rfl _ _ w.heap.size 226 (sgC 0 (.slice none 0 0) (.slice none 0 0)) (0, 0) _ rfl (setRow_heap _ _ _ _ _ _ HRS.out) Tryz.underlying226 rfl (by kernel_rfl)) rfl ?_
        rw [HDD.out]
        exact ⟨_, _, rfl, ⟨_, _, rfl, Nat.le_refl _, by unfold maxLen; decide, .inl rfl⟩, ⟨_, _, rfl, Nat.le_refl _, by unfold maxLen; decide, .inl rfl⟩, below_setRow M.out.below (by omega) _⟩
theorem sg_all {w w2 : World} {vo vp : Value} {on : List Int} {ps : List (Nat → Int)} (lf : Nat) (ho : BytesIn w vo on) (hp : HashesIn w2 vp ps) : (sgC lf vo vp).all (·.oneCell') = true := by
  obtain ⟨a, c, rfl, -⟩ := ho
  obtain ⟨b, d, rfl, -⟩ := hp
  exact sg_one _ _ _ _ _ _ _
end Go.Proofs.YtejglhlodfhgkaaGreatDoor
