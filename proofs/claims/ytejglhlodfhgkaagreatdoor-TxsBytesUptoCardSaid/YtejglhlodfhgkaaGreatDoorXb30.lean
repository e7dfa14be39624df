/- Part 30 of the proof. -/
import Derived.Maps.AppendAt
import Derived.Deep.RegionHeld3
import Derived.BigFrame
import Derived.ProofKit
import Derived.OpenShut
import Derived.Deep.Slices
import Derived.SizedLaws
import Derived.Deep.DeepCutAuto
import Derived.Test.YtejglhlodfhgkaaGreatDoorXb1
import Derived.Test.YtejglhlodfhgkaaGreatDoorXb3
import Derived.Test.YtejglhlodfhgkaaGreatDoorXb5
import Derived.Test.YtejglhlodfhgkaaGreatDoorXb22
import Derived.Test.YtejglhlodfhgkaaGreatDoorXb26
import Derived.Test.YtejglhlodfhgkaaGreatDoorXb29
namespace Go.Proofs.YtejglhlodfhgkaaGreatDoor
set_option linter.unusedVariables false
set_option linter.unusedSimpArgs false
open Go.RowKit
set_option maxRecDepth 100000
/-- what bytes hold: payloads, how many bytes, why no more -/
def scanG : Nat → List Int → List (List Int) × Nat × Option Nat
  | 0, _ => ([], 0, none)
  | f + 1, b => match oneF b with
    | (none, p) => (p :: (scanG f (b.drop (p.length + 12))).1, p.length + 12 + (scanG f (b.drop (p.length + 12))).2.1, (scanG f (b.drop (p.length + 12))).2.2)
    | (some k, _) => ([], 0, if k = 8 then none else some k)
def scanF (b : List Int) : List (List Int) × Nat × Option Nat := scanG b.length b
theorem oneF_cases (b : List Int) : (∃ k, oneF b = (some k, []) ∧ (k = 8 ↔ b.length = 0) ∧ (k = 8 ∨ k = 11 ∨ k = 12)) ∨ (∃ p, oneF b = (none, p) ∧ p.length + 12 ≤ b.length ∧ 0 < p.length ∧ p.length ≤ 1048576) := by
  unfold oneF
  split
  · next h => exact .inl ⟨8, rfl, by simp [h], by simp⟩
  · next h =>
    split
    · exact .inl ⟨12, rfl, by simp [h], by simp⟩
    · split
      · exact .inl ⟨11, rfl, by simp [h], by simp⟩
      · next h1 =>
        split
        · exact .inl ⟨12, rfl, by simp [h], by simp⟩
        · split
          · exact .inl ⟨11, rfl, by simp [h], by simp⟩
          · refine .inr ⟨_, rfl, ?_, ?_, ?_⟩ <;> rw [List.length_drop, List.length_take] <;> omega
/-- a slice of slices of bytes, each in a block of its own -/
def ListsIn (w : World) (B : Nat) (own : Option Nat) (vs : List Value) (ps : List (List Int)) : Prop :=
  vs.length = ps.length ∧ ∀ (i : Nat) (v : Value) (p : List Int), vs[i]? = some v → ps[i]? = some p → BytesIn w v p ∧ ∀ k, v.ownBlock = some k → B ≤ k ∧ some k ≠ own ∧ k < w.heap.size
theorem ListsIn.nil (w : World) (B : Nat) (own : Option Nat) : ListsIn w B own [] [] := ⟨rfl, fun i v p h => by simp at h⟩
theorem BytesIn.grown {w w' : World} {own : Option Nat} {v : Value} {p : List Int} (h : BytesIn w v p) (hg : w.grownBy w' own) (hne : ∀ k, v.ownBlock = some k → some k ≠ own) : BytesIn w' v p := by
  obtain ⟨a, c, rfl, hc, hm, hx⟩ := h
  refine ⟨a, c, rfl, hc, hm, ?_⟩
  rcases hx with hx | ⟨ab, ao, rfl, hx⟩
  · exact .inl hx
  · exact .inr ⟨ab, ao, rfl, fun i y hi => (World.cell?_of_block (hg.block ab (World.block_lt_of_cell? w _ (hx i y hi)) (hne ab rfl))).trans (hx i y hi)⟩
theorem ListsIn.below {w w' : World} {B : Nat} {own : Option Nat} {vs : List Value} {ps : List (List Int)} (h : ListsIn w B own vs ps) (hb : Below w.heap.size w w') : ListsIn w' B own vs ps :=
  ⟨h.1, fun i v p hv hp => ⟨(h.2 i v p hv hp).1.below hb, fun k hk => ⟨((h.2 i v p hv hp).2 k hk).1, ((h.2 i v p hv hp).2 k hk).2.1, Nat.lt_of_lt_of_le ((h.2 i v p hv hp).2 k hk).2.2 hb.size⟩⟩⟩
structure ScanSt (b : List Int) (w : World) (v : Value) (k : Nat) (f : Nat) (vs : List Value) (ps : List (List Int)) (wr : World) : Prop where
  fuel : b.length - k ≤ f
  le : k ≤ b.length
  eq : scanF b = (ps ++ (scanG f (b.drop k)).1, k + (scanG f (b.drop k)).2.1, (scanG f (b.drop k)).2.2)
  own : wr.ownsRow w.heap.size 25 1 v vs.length vs
  lists : ListsIn wr w.heap.size v.ownBlock vs ps
  few : vs.length ≤ k
  below : Below w.heap.size w wr
def ScanAt (b : List Int) (w : World) (v : Value) (k : Nat) (wr : World) : Prop := ∃ f vs ps, ScanSt b w v k f vs ps wr
/-- one record more -/
theorem ScanAt.next {b : List Int} {w wr w1 w2 w3 : World} {v y v' : Value} {k : Nat} {p : List Int} {vs : List Value} {f : Nat} {ps : List (List Int)} (h : ScanSt b w v k f vs ps wr) (hx : oneF (b.drop k) = (none, p)) (hb : Below wr.heap.size wr w1) (hy : w1.ownsRow wr.heap.size 5 1 y p.length (byteVals p))
    (hb2 : Below w1.heap.size w1 w2) (hg : w2.grownBy w3 v.ownBlock) (hof : v'.ownBlock = v.ownBlock ∨ v'.ownBlock = some w2.heap.size) (ho : w3.ownsRow w.heap.size 25 1 v' (vs ++ [y]).length (vs ++ [y])) : ScanAt b w v' (k + (p.length + 12)) w3 := by
  obtain ⟨hl12, hl0, hlm⟩ : p.length + 12 ≤ (b.drop k).length ∧ 0 < p.length ∧ p.length ≤ 1048576 := by
    rcases oneF_cases (b.drop k) with ⟨x, h1, _⟩ | ⟨q, h1, h2⟩
    · rw [hx] at h1; simp at h1
    · rw [hx] at h1
      obtain rfl : p = q := by simpa using h1
      exact h2
  rw [List.length_drop] at hl12
  have hfu := h.fuel
  obtain ⟨f, rfl⟩ : ∃ g, f = g + 1 := ⟨f - 1, by omega⟩
  have he := h.eq
  have hs : scanG (f + 1) (b.drop k) = (p :: (scanG f (b.drop (k + (p.length + 12)))).1, p.length + 12 + (scanG f (b.drop (k + (p.length + 12)))).2.1, (scanG f (b.drop (k + (p.length + 12)))).2.2) := by
    simp only [scanG, hx, List.drop_drop]
  rw [hs] at he
  have hw12 : Below wr.heap.size wr w2 := hb.trans (hb2.mono hb.size)
  have hle := h.below.size
  refine ⟨f, vs ++ [y], ps ++ [p], by omega, by omega, ?_, ho, ⟨by simp [h.lists.1], fun i u q hu hq => ?_⟩, by have := h.few; simp; omega, (h.below.trans (hw12.mono h.below.size)).grown hg (Nat.le_trans h.below.size hw12.size) (fun j hj => (h.own.lt j hj).1)⟩
  · rw [he]
    refine Prod.ext (by simp) (Prod.ext ?_ rfl)
    show k + (p.length + 12 + _) = k + (p.length + 12) + _
    omega
  · rcases Nat.lt_or_ge i vs.length with hi | hi
    · rw [List.getElem?_append_left hi] at hu
      rw [List.getElem?_append_left (by rw [← h.lists.1]; exact hi)] at hq
      obtain ⟨h1, h2⟩ := h.lists.2 i u q hu hq
      refine ⟨(h1.below hw12).grown hg fun j hj => (h2 j hj).2.1, fun j hj => ⟨(h2 j hj).1, ?_, Nat.lt_of_lt_of_le (h2 j hj).2.2 (Nat.le_trans hw12.size hg.size)⟩⟩
      rcases hof with e | e
      · rw [e]; exact (h2 j hj).2.1
      · rw [e]; intro e; injection e with e; have := (h2 j hj).2.2; have := hw12.size; omega
    · rw [List.getElem?_append_right hi] at hu
      rw [List.getElem?_append_right (by rw [← h.lists.1]; exact hi), ← h.lists.1] at hq
      obtain ⟨rfl, h0⟩ : u = y ∧ i - vs.length = 0 := by
        rcases Nat.eq_zero_or_pos (i - vs.length) with e | e
        · rw [e] at hu; simp at hu; exact ⟨hu.symm, e⟩
        · rw [List.getElem?_eq_none (by simp; omega)] at hu; cases hu
      rw [h0] at hq
      obtain rfl : p = q := by simpa using hq
      have hlt := fun j hj => hy.lt j hj
      have hne : ∀ j, u.ownBlock = some j → some j ≠ v.ownBlock := fun j hj e => by
        have h1 := h.own.lt j e.symm
        have h2 := hlt j hj
        omega
      refine ⟨((owns_in hy (by unfold maxLen; omega)).below hb2).grown hg hne, fun j hj => ⟨Nat.le_trans hle (hlt j hj).1, ?_, Nat.lt_of_lt_of_le (hlt j hj).2 (Nat.le_trans hb2.size hg.size)⟩⟩
      rcases hof with e | e
      · rw [e]; exact hne j hj
      · rw [e]; intro e; injection e with e; have := (hlt j hj).2; have := hb2.size; omega
end Go.Proofs.YtejglhlodfhgkaaGreatDoor
namespace Go.Proofs.YtejglhlodfhgkaaGreatDoor
set_option linter.unusedVariables false
set_option linter.unusedSimpArgs false
open Go.RowKit
set_option maxRecDepth 100000
def sgC (leaf : Nat) (vo vp : Value) : Array Value := #[.int .i64 (leaf : Int), vo, vp]
/-- a Reader's bytes don't lie in a signature's cells -/
theorem RAt.off {w : World} {p q : Nat} {y : Value} {ys : List Int} {e : Option Nat} {leaf : Nat} {a b : Option Addr} {n c m d : Nat} (h : RAt w p y ys e) (hq : w.heap[q]? = some (.cells (sgC leaf (.slice a n c) (.slice b m d)) 226 (0, 0))) (hn : ys ≠ []) : ∀ k, y.ownBlock = some k → k ≠ q := by
  rintro k hk rfl
  obtain ⟨a', c', rfl, _, _, hx⟩ := h.in_
  obtain ⟨ab, ao, rfl, hx2⟩ := hx.resolve_left hn
  have hk2 : ab = k := by simpa [Value.ownBlock] using hk
  subst hk2
  cases ys with
  | nil => exact absurd rfl hn
  | cons x r =>
    have := hx2 0 x rfl
    rw [cell_of_row _ _ _ _ _ _ hq] at this
    unfold sgC at this
    rw [Nat.add_zero] at this
    match ao, this with
    | 0, h => simp at h
    | 1, h => simp at h
    | 2, h => simp at h
    | n + 3, h => simp at h
/-- what lies in memory while a signature is decoded: the result's zeros, the Reader p, the signature q, all else behind B -/
structure DecM (w w' : World) (p q B : Nat) (leaf : Nat) (vo vp : Value) (once : List Int) (s : RSt) (ps : List (Nat → Int)) : Prop where
  below : Below w.heap.size w w'
  res : w'.heap[w.heap.size]? = some (.cells (sgC 0 (.slice none 0 0) (.slice none 0 0)) 226 (0, 0))
  sig : w'.heap[q]? = some (.cells (sgC leaf vo vp) 226 (0, 0))
  rd : ∃ y, RAt w' p y s.1 s.2 ∧ (s.1 ≠ [] → ∀ k, y.ownBlock = some k → k ≠ q ∧ k < B)
  oin : BytesIn w' vo once
  oown : once ≠ [] → ∀ k, vo.ownBlock = some k → q < k ∧ k < B
  path : w'.ownsRow B 53 32 vp ps.length (flatC ps)
  hp : w.heap.size < p
  hq : p < q
  hB : q < B
  size : B ≤ w'.heap.size
theorem BytesIn.only0 {w w' : World} {y : Value} {ys : List Int} {p : Nat} (h : BytesIn w y ys) (ho : Only p w w') (hn : ys ≠ [] → ∀ k, y.ownBlock = some k → k ≠ p) : BytesIn w' y ys := by
  by_cases he : ys = []
  · subst he
    obtain ⟨a, c, rfl, h1, h2, _⟩ := h
    exact ⟨a, c, rfl, h1, h2, .inl rfl⟩
  · exact h.only ho (hn he)
theorem Only.grown {p : Nat} {w w' : World} (h : Only p w w') : w.grownBy w' (some p) := ⟨h.os, h.tape, h.output, h.size, fun k hk hne => h.block k hk fun e => hne (by rw [e])⟩
theorem DecM.call {w w' w2 : World} {p q B leaf : Nat} {vo vp : Value} {once : List Int} {s : RSt} {ps : List (Nat → Int)} (m : DecM w w' p q B leaf vo vp once s ps) (h : Below w'.heap.size w' w2) : DecM w w2 p q B leaf vo vp once s ps := by
  obtain ⟨y, hy, hn⟩ := m.rd
  exact ⟨m.below.trans (h.mono m.below.size), (h.block _ (Array.getElem?_eq_some_iff.1 m.res).1).trans m.res, (h.block _ (Array.getElem?_eq_some_iff.1 m.sig).1).trans m.sig, ⟨y, hy.below h, hn⟩, m.oin.below h, m.oown, m.path.kept (grown_of_below h) (own_ne m.path), m.hp, m.hq, m.hB, Nat.le_trans m.size h.size⟩
theorem DecM.hash {w w' w2 : World} {p q B leaf : Nat} {vo vp : Value} {once : List Int} {s s2 : RSt} {ps : List (Nat → Int)} {y y2 : Value} (m : DecM w w' p q B leaf vo vp once s ps) (hy : s.1 ≠ [] → ∀ k, y.ownBlock = some k → k ≠ q ∧ k < B) (hs : s2.1 ≠ [] → s.1 ≠ []) (hr : RAt w2 p y2 s2.1 s2.2) (ho2 : y2.ownBlock = y.ownBlock) (h : Only p w' w2) : DecM w w2 p q B leaf vo vp once s2 ps :=
  ⟨m.below.trans (h.below (Nat.le_of_lt m.hp) m.below.size), (h.block _ (Array.getElem?_eq_some_iff.1 m.res).1 (by have := m.hp; omega)).trans m.res, (h.block _ (Array.getElem?_eq_some_iff.1 m.sig).1 (by have := m.hq; omega)).trans m.sig,
    ⟨y2, hr, fun hn k hk => hy (hs hn) k (ho2 ▸ hk)⟩, m.oin.only0 h fun hn k hk => (by have h1 := (m.oown hn k hk).1; have h2 := m.hq; omega), m.oown, m.path.kept h.grown (.inr fun e => by have h1 := (m.path.lt p e).1; have := m.hq; have := m.hB; omega), m.hp, m.hq, m.hB, Nat.le_trans m.size h.size⟩
theorem sgC_set (leaf : Nat) (vo vp vp' : Value) : (sgC leaf vo vp).setIfInBounds 2 vp' = sgC leaf vo vp' := rfl
theorem flatC_app1 (ps : List (Nat → Int)) (f : Nat → Int) : flatC ps ++ flatC [f] = flatC (ps ++ [f]) := by
  rw [flatC_snoc]; show flatC ps ++ ((rowOf .u8 32 f).toList ++ []) = _; rw [List.append_nil]
/-- one hash more -/
theorem DecM.more {w w' w3 : World} {p q B leaf : Nat} {vo vp vp' : Value} {once : List Int} {s : RSt} {ps : List (Nat → Int)} {f : Nat → Int} (m : DecM w w' p q B leaf vo vp once s ps) (hg : w'.grownBy w3 vp.ownBlock) (ho : w3.ownsRow B 53 32 vp' (ps.length + [f].length) (flatC ps ++ flatC [f])) :
    w3.heap[q]? = some (.cells (sgC leaf vo vp) 226 (0, 0)) ∧ DecM w (w3.setCell ⟨q, 2, none⟩ vp') p q B leaf vo vp' once s (ps ++ [f]) := by
  have hB := m.hB
  have hq := m.hq
  have hp := m.hp
  have hsz := m.size
  have hne : ∀ k, k < B → vp.ownBlock ≠ some k := fun k hk e => by have := (m.path.lt k e).1; omega
  have hs3 : w'.heap.size ≤ w3.heap.size := hg.size
  have hO := Only.setCell w3 ⟨q, 2, none⟩ vp'
  have hb : ∀ k, k < B → k ≠ q → (w3.setCell ⟨q, 2, none⟩ vp').heap[k]? = w'.heap[k]? := fun k hk hkq => (hO.block k (by omega) hkq).trans (hg.block k (by omega) (fun e => hne k hk e.symm))
  have hsig : w3.heap[q]? = some (.cells (sgC leaf vo vp) 226 (0, 0)) := (hg.block q (by omega) (fun e => hne q hB e.symm)).trans m.sig
  obtain ⟨y, hy, hn⟩ := m.rd
  refine ⟨hsig, ⟨?_, (hb _ (by omega) (by omega)).trans m.res, ?_, ⟨y, hy.keep (hb p (by omega) (by omega)) fun h0 k hk => hb k (hn h0 k hk).2 (hn h0 k hk).1, hn⟩, ?_, m.oown, ?_, hp, hq, hB, Nat.le_trans (Nat.le_trans hsz hs3) hO.size⟩⟩
  · exact ⟨hO.os.trans (hg.os.trans m.below.os), hO.tape.trans (hg.tape.trans m.below.tape), hO.output.trans (hg.output.trans m.below.output), Nat.le_trans m.below.size (Nat.le_trans hs3 hO.size), fun k hk => (hb k (by omega) (by omega)).trans (m.below.block k hk)⟩
  · rw [heap_setCell_same w3 q 2 _ _ _ hsig, sgC_set]
  · by_cases he : once = []
    · subst he
      obtain ⟨a, c, rfl, h1, h2, _⟩ := m.oin
      exact ⟨a, c, rfl, h1, h2, .inl rfl⟩
    · refine (m.oin.grown hg fun k hk e => hne k (m.oown he k hk).2 e.symm).only0 hO fun _ k hk => (by show k ≠ q; have h1 := (m.oown he k hk).1; omega)
  · have := ho.kept hO.grown (.inr fun e => by have := (ho.lt q e).1; omega)
    rw [List.length_append]
    rw [flatC_app1] at this
    exact this
end Go.Proofs.YtejglhlodfhgkaaGreatDoor
namespace Go.Proofs.YtejglhlodfhgkaaGreatDoor
set_option linter.unusedVariables false
set_option linter.unusedSimpArgs false
open Go.RowKit
set_option maxRecDepth 100000
end Go.Proofs.YtejglhlodfhgkaaGreatDoor
namespace Go.Proofs.YtejglhlodfhgkaaGreatDoor
set_option linter.unusedVariables false
set_option linter.unusedSimpArgs false
open Go.RowKit
set_option maxRecDepth 100000
end Go.Proofs.YtejglhlodfhgkaaGreatDoor
namespace Go.Proofs.YtejglhlodfhgkaaGreatDoor
set_option linter.unusedVariables false
set_option linter.unusedSimpArgs false
open Go.RowKit
set_option maxRecDepth 100000
theorem sig_cells (w : World) (q leaf : Nat) (vo vp : Value) (h : w.heap[q]? = some (.cells (sgC leaf vo vp) 226 (0, 0))) : w.cell? ⟨q, 0, none⟩ = some (.int .i64 (leaf : Int)) ∧ w.cell? ⟨q, 1, none⟩ = some vo ∧ w.cell? ⟨q, 2, none⟩ = some vp ∧ ∀ i, w.frozen? ⟨q, i, none⟩ = false :=
  ⟨by rw [cell_of_row _ _ _ _ _ _ h]; rfl, by rw [cell_of_row _ _ _ _ _ _ h]; rfl, by rw [cell_of_row _ _ _ _ _ _ h]; rfl, fun i => frozen_of_row _ _ _ _ _ h⟩
theorem RS.store {w : World} {p q leaf i : Nat} {s : RSt} {v : Value} {a b : Option Addr} {n c m d : Nat} (h : RS w p s) (hq : w.heap[q]? = some (.cells (sgC leaf (.slice a n c) (.slice b m d)) 226 (0, 0))) (hne : p ≠ q) : RS (w.setCell ⟨q, i, none⟩ v) p s := by
  obtain ⟨y, hy⟩ := h
  have hO := Only.setCell w ⟨q, i, none⟩ v
  exact ⟨y, hy.keep (hO.block p hy.lt hne) fun hn k hk => hO.block k (hy.own_lt hn k hk) (hy.off hq hn k hk)⟩
end Go.Proofs.YtejglhlodfhgkaaGreatDoor
namespace Go.Proofs.YtejglhlodfhgkaaGreatDoor
set_option linter.unusedVariables false
set_option linter.unusedSimpArgs false
open Go.RowKit
set_option maxRecDepth 100000
end Go.Proofs.YtejglhlodfhgkaaGreatDoor
namespace Go.Proofs.YtejglhlodfhgkaaGreatDoor
set_option linter.unusedVariables false
set_option linter.unusedSimpArgs false
open Go.RowKit
set_option maxRecDepth 100000
/-- rows of 32 bytes below a mark -/
structure Has2 (w w' : World) (b r B : Nat) (v : Nat → Int) : Prop where
  below : Below w.heap.size w w'
  val : RowAt w' b .u8 32 53 v
  res : RowAt w' r .u8 32 53 (fun _ => 0)
  size : B ≤ w'.heap.size
  hb : b < B
  hr : r < B
  wB : w.heap.size ≤ B
theorem Has2.calls {w w' w2 : World} {b r B : Nat} {v : Nat → Int} (m : Has2 w w' b r B v) (h : Below B w' w2) : Has2 w w2 b r B v :=
  ⟨m.below.trans (h.mono m.wB), m.val.below h m.hb, m.res.below h m.hr, Nat.le_trans m.size h.size, m.hb, m.hr, m.wB⟩
theorem Has2.call {w w' w2 : World} {b r B : Nat} {v : Nat → Int} (m : Has2 w w' b r B v) (h : Below w'.heap.size w' w2) : Has2 w w2 b r B v := m.calls (h.mono m.size)
theorem Has2.put {w w' : World} {b r B : Nat} {v : Nat → Int} (m : Has2 w w' b r B v) (h : w.heap.size ≤ b) (hbr : b ≠ r) (v' : Nat → Int) : Has2 w (w'.setRow b (rowOf .u8 32 v')) b r B v' :=
  ⟨below_setRow m.below h _, setRow_heap _ _ _ _ _ _ m.val, (setRow_other _ _ _ _ (Ne.symm hbr)).trans m.res, by simpa [World.setRow] using m.size, m.hb, m.hr, m.wB⟩
end Go.Proofs.YtejglhlodfhgkaaGreatDoor
namespace Go.Proofs.YtejglhlodfhgkaaGreatDoor
set_option linter.unusedVariables false
set_option linter.unusedSimpArgs false
open Go.RowKit
set_option maxRecDepth 100000
theorem HasR.mark {w w' : World} {B : Nat} {rows : List (Nat × (Nat → Int))} (m : HasR w w' B rows) : HasR w' w' w'.heap.size rows :=
  ⟨Below.refl _ _, fun p hp => ⟨(m.row p hp).1, (m.row p hp).1.lt⟩, m.env, Nat.le_refl _, m.env.lt, Nat.le_refl _⟩
end Go.Proofs.YtejglhlodfhgkaaGreatDoor
namespace Go.Proofs.YtejglhlodfhgkaaGreatDoor
set_option linter.unusedVariables false
set_option linter.unusedSimpArgs false
open Go.RowKit
set_option maxRecDepth 100000
end Go.Proofs.YtejglhlodfhgkaaGreatDoor
namespace Go.Proofs.YtejglhlodfhgkaaGreatDoor
set_option linter.unusedVariables false
set_option linter.unusedSimpArgs false
open Go.RowKit
set_option maxRecDepth 100000
end Go.Proofs.YtejglhlodfhgkaaGreatDoor
namespace Go.Proofs.YtejglhlodfhgkaaGreatDoor
set_option linter.unusedVariables false
set_option linter.unusedSimpArgs false
open Go.RowKit
set_option maxRecDepth 100000
structure SgM (w2 w' : World) (b : Nat) (f : Nat → Int) (gb go : Nat) (L : List Nat) (s : Value) (l : List Int) : Prop where
  below : Below w2.heap.size w2 w'
  val : RowAt w' b .u8 32 53 f
  hb : b < w2.heap.size
  hg : gb < w2.heap.size
  cells : ∀ i x, (natInts L)[i]? = some x → w'.cell? ⟨gb, go + i, none⟩ = some (.int .i64 x)
  bytes : BytesIn w' s l
theorem SgM.calls {w2 w' w3 : World} {b : Nat} {f : Nat → Int} {gb go : Nat} {L : List Nat} {s : Value} {l : List Int} (m : SgM w2 w' b f gb go L s l) (h : Below w'.heap.size w' w3) : SgM w2 w3 b f gb go L s l :=
  ⟨m.below.trans (h.mono m.below.size), m.val.below h m.val.lt, m.hb, m.hg, fun i x hi => (h.cell (p := ⟨gb, go + i, none⟩) (World.block_lt_of_cell? w' _ (m.cells i x hi))).trans (m.cells i x hi), m.bytes.below h⟩
theorem SgM.with {w2 w' : World} {b : Nat} {f : Nat → Int} {gb go : Nat} {L : List Nat} {s s' : Value} {l l' : List Int} (m : SgM w2 w' b f gb go L s l) (h : BytesIn w' s' l') : SgM w2 w' b f gb go L s' l' := ⟨m.below, m.val, m.hb, m.hg, m.cells, h⟩
end Go.Proofs.YtejglhlodfhgkaaGreatDoor
namespace Go.Proofs.YtejglhlodfhgkaaGreatDoor
set_option linter.unusedVariables false
set_option linter.unusedSimpArgs false
open Go.RowKit
set_option maxRecDepth 100000
end Go.Proofs.YtejglhlodfhgkaaGreatDoor
namespace Go.Proofs.YtejglhlodfhgkaaGreatDoor
set_option linter.unusedVariables false
set_option linter.unusedSimpArgs false
open Go.RowKit
set_option maxRecDepth 100000
structure FrM (w2 w' : World) (b : Nat) (gb go : Nat) (L : List Nat) (s : Value) (l : List Int) (gv : Nat) (F : Nat → Int) : Prop where
  m : SgM w2 w' b zF gb go L s l
  v : RowAt w' gv .u8 32 53 F
theorem FrM.calls {w2 w' w3 : World} {b gb go gv : Nat} {L : List Nat} {s : Value} {l : List Int} {F : Nat → Int} (m : FrM w2 w' b gb go L s l gv F) (h : Below w'.heap.size w' w3) : FrM w2 w3 b gb go L s l gv F := ⟨m.m.calls h, m.v.below h m.v.lt⟩
end Go.Proofs.YtejglhlodfhgkaaGreatDoor
namespace Go.Proofs.YtejglhlodfhgkaaGreatDoor
set_option linter.unusedVariables false
set_option linter.unusedSimpArgs false
open Go.RowKit
set_option maxRecDepth 100000
end Go.Proofs.YtejglhlodfhgkaaGreatDoor
namespace Go.Proofs.YtejglhlodfhgkaaGreatDoor
set_option linter.unusedVariables false
set_option linter.unusedSimpArgs false
open Go.RowKit
set_option maxRecDepth 100000
end Go.Proofs.YtejglhlodfhgkaaGreatDoor
namespace Go.Proofs.YtejglhlodfhgkaaGreatDoor
set_option linter.unusedVariables false
set_option linter.unusedSimpArgs false
open Go.ChangeShapes Go.WideShapes Go.ChangeAt Go.RowKit
/-- each value counts one at least -/
theorem bulk_one {H : Type} (d : DataW H) : 1 ≤ Rows.uptoBulk d := by
  cases d with
  | lit l => cases l <;> simp [Rows.uptoBulk]
  | _ => simp [Rows.uptoBulk]
theorem bulk_len {H : Type} : ∀ l : List (DataW H), l.length ≤ Rows.uptoBulkAll l
  | [] => by simp
  | d :: r => by
    have h1 := bulk_one d
    have h2 := bulk_len r
    simp only [Rows.uptoBulkAll, List.length_cons]
    omega
theorem bulk_mem {H : Type} {d : DataW H} : ∀ {l : List (DataW H)}, d ∈ l → Rows.uptoBulk d ≤ Rows.uptoBulkAll l
  | e :: r, h => by
    simp only [Rows.uptoBulkAll]
    rcases List.mem_cons.1 h with rfl | h
    · omega
    · have := bulk_mem h; omega
/-- a slice of bytes that came in -/
theorem bytes_raw {H : Type} {enc : TypeId × Value → H} {W : World} {fuel : Nat} {cs : List Value} {x : DataW H × List MemPlace} (h : DataW.trod enc Tryz.prog W 0 (fun _ => true) true fuel 25 cs = some x) :
    ∃ v xs, cs = [v] ∧ BytesIn W v xs ∧ bytesOk xs ∧ (∃ a c, v = .slice a xs.length c) ∧ xs.length ≤ Rows.uptoBulk x.1 ∧ (x.1 = .nil ∧ xs = [] ∨ ∃ elems spare, x.1 = .slice elems spare ∧ elems.length = xs.length) := by
  rcases open_ints Tryz.underlying25 Tryz.underlying5 (by kernel_rfl) h with ⟨hcs, hx⟩ | ⟨a, l, c, zs, hcs, _, hl, hm, hz, hx, hcell, hwz⟩
  · exact ⟨_, [], hcs, ⟨_, _, rfl, by simp, by simp [maxLen], .inl rfl⟩, (by intro x hx; cases hx), ⟨_, _, rfl⟩, by simp, .inl ⟨by rw [hx], rfl⟩⟩
  · simp only [if_true] at hz
    have hlen : (zs.take l).length = l := by rw [List.length_take]; omega
    refine ⟨_, zs.take l, hcs, ⟨some a, c, by rw [hlen], by rw [hlen]; exact hl, by rw [hlen]; omega, ?_⟩, fun y hy => ?_, ⟨some a, c, by rw [hlen]⟩, ?_, ?_⟩
    · by_cases hl0 : l = 0
      · left; subst hl0; simp
      · right
        obtain ⟨b, off, spot⟩ := a
        have hspot : spot = none := by simpa [Addr.add] using World.cell?_spot (hcell 0 (by omega))
        subst hspot
        refine ⟨b, off, rfl, fun i y hi => ?_⟩
        have hil : i < l := by have := (List.getElem?_eq_some_iff.1 hi).1; omega
        rw [List.getElem?_take, if_pos hil] at hi
        have := hcell i (by omega)
        rw [Addr.add_mid] at this
        rw [this]
        simp [List.getD, hi]
    · have h2 := bounds_u8 (hwz y (List.mem_of_mem_take hy))
      omega
    · rw [hx]
      have h1 := bulk_len (lits (H := H) IntKind.u8 (zs.take l))
      simp only [lits, List.length_map] at h1
      simp only [Rows.uptoBulk, lits]
      omega
    · rw [hx]
      exact .inr ⟨_, _, rfl, by simp [lits]⟩
/-- a slice of slices of bytes -/
def BssIn (w : World) (v : Value) (ps : List (List Int)) : Prop :=
  ∃ a c, v = .slice a ps.length c ∧ ps.length ≤ c ∧ ps.length ≤ maxLen ∧ (ps = [] ∨ ∃ ab ao, a = some ⟨ab, ao, none⟩ ∧ ∀ i p, ps[i]? = some p → ∃ u, w.cell? ⟨ab, ao + i, none⟩ = some u ∧ BytesIn w u p)
theorem BssIn.below {w w' : World} {v : Value} {ps : List (List Int)} (h : BssIn w v ps) (hb : Below w.heap.size w w') : BssIn w' v ps := by
  obtain ⟨a, c, rfl, hc, hm, hx⟩ := h
  refine ⟨a, c, rfl, hc, hm, ?_⟩
  rcases hx with hx | ⟨ab, ao, rfl, hx⟩
  · exact .inl hx
  · refine .inr ⟨ab, ao, rfl, fun i p hi => ?_⟩
    obtain ⟨u, hu, hp⟩ := hx i p hi
    exact ⟨u, (hb.cell (p := ⟨ab, ao + i, none⟩) (World.block_lt_of_cell? w _ hu)).trans hu, hp.below hb⟩
end Go.Proofs.YtejglhlodfhgkaaGreatDoor
namespace Go.Proofs.YtejglhlodfhgkaaGreatDoor
set_option linter.unusedVariables false
set_option linter.unusedSimpArgs false
open Go.ChangeShapes Go.WideShapes Go.ChangeAt Go.RowKit
end Go.Proofs.YtejglhlodfhgkaaGreatDoor
namespace Go.Proofs.YtejglhlodfhgkaaGreatDoor
set_option linter.unusedVariables false
set_option linter.unusedSimpArgs false
open Go.RowKit
set_option maxRecDepth 100000
end Go.Proofs.YtejglhlodfhgkaaGreatDoor
namespace Go.Proofs.YtejglhlodfhgkaaGreatDoor
set_option linter.unusedVariables false
set_option linter.unusedSimpArgs false
open Go.RowKit
set_option maxRecDepth 100000
variable {w w' : World} {F : Nat → Int} {leaf : Int} {v vo : Value} {xs ys : List Int}
end Go.Proofs.YtejglhlodfhgkaaGreatDoor
namespace Go.Proofs.YtejglhlodfhgkaaGreatDoor
set_option linter.unusedVariables false
set_option linter.unusedSimpArgs false
open Go.RowKit
set_option maxRecDepth 100000
variable {w w' : World} {F : Nat → Int} {leaf : Int} {v vo : Value} {xs ys : List Int} {bs : List (Value × List Int)} {rs : List (Nat × (Nat → Int))}
end Go.Proofs.YtejglhlodfhgkaaGreatDoor
namespace Go.Proofs.YtejglhlodfhgkaaGreatDoor
set_option linter.unusedVariables false
set_option linter.unusedSimpArgs false
open Go.RowKit
set_option maxRecDepth 100000
variable {w w' : World} {F : Nat → Int} {leaf s0 s1 s2 : Int} {v vo : Value} {xs ys : List Int}
end Go.Proofs.YtejglhlodfhgkaaGreatDoor
namespace Go.Proofs.YtejglhlodfhgkaaGreatDoor
set_option linter.unusedVariables false
set_option linter.unusedSimpArgs false
open Go.RowKit
set_option maxRecDepth 100000
/-- Fold in all cases -/
def foldR (s0 : Nat → Int) (i : Int) (n : Nat) (ps : List (Nat → Int)) : (Nat → Int) × Option Nat :=
  if 0 ≤ i ∧ i < n then (if ps.length = (turnsF i.toNat n).length then (foldT s0 ((turnsF i.toNat n).reverse.zip ps), none) else (fun _ => 0, some 2)) else (fun _ => 0, some 1)
end Go.Proofs.YtejglhlodfhgkaaGreatDoor
namespace Go.Proofs.YtejglhlodfhgkaaGreatDoor
set_option linter.unusedVariables false
set_option linter.unusedSimpArgs false
open Go.RowKit
set_option maxRecDepth 100000
theorem All32.foldR {ps qs : List (Nat → Int)} (h : All32 ps qs) (s : Nat → Int) (i : Int) (n : Nat) : foldR s i n ps = foldR s i n qs := by
  unfold Go.Proofs.YtejglhlodfhgkaaGreatDoor.foldR
  rw [h.length, h.fold]
end Go.Proofs.YtejglhlodfhgkaaGreatDoor
namespace Go.Proofs.YtejglhlodfhgkaaGreatDoor
set_option linter.unusedVariables false
set_option linter.unusedSimpArgs false
open Go.RowKit
set_option maxRecDepth 100000
structure KgM (w w' : World) (leaf : Nat) (vo vp : Value) (on : List Int) (ps : List (Nat → Int)) (D E : Int) : Prop where
  below : Below w.heap.size w w'
  sig : w'.heap[w.heap.size]? = some (.cells (sgC leaf vo vp) 226 (0, 0))
  par : w'.heap[w.heap.size + 1]? = some (.cells (parC D E) 57 (0, 0))
  res : RowAt w' (w.heap.size + 1 + 1) .u8 32 53 (fun _ => 0)
  oin : BytesIn w' vo on
  pin : HashesIn w' vp ps
  env : Env w'
theorem heap_lt' {w : World} {g : Nat} {o : Obj} (h : w.heap[g]? = some o) : g < w.heap.size := (Array.getElem?_eq_some_iff.1 h).1
theorem KgM.call {w w' w2 : World} {leaf : Nat} {vo vp : Value} {on : List Int} {ps : List (Nat → Int)} {D E : Int} (m : KgM w w' leaf vo vp on ps D E) (h : Below w'.heap.size w' w2) : KgM w w2 leaf vo vp on ps D E :=
  ⟨m.below.trans (h.mono m.below.size), (h.block _ (heap_lt' m.sig)).trans m.sig, (h.block _ (heap_lt' m.par)).trans m.par, m.res.below h m.res.lt, m.oin.below h, m.pin.below h, m.env.below h m.env.lt⟩
theorem KgM.cell {w w' : World} {leaf : Nat} {vo vp : Value} {on : List Int} {ps : List (Nat → Int)} {D E : Int} (m : KgM w w' leaf vo vp on ps D E) : w'.cell? ⟨w.heap.size, 0, none⟩ = some (.int .i64 (leaf : Int)) ∧ w'.cell? ⟨w.heap.size, 1, none⟩ = some vo ∧ w'.cell? ⟨w.heap.size, 2, none⟩ = some vp ∧ w'.cell? ⟨w.heap.size + 1, 0, none⟩ = some (.int .i64 D) :=
  ⟨(sig_cells _ _ _ _ _ m.sig).1, (sig_cells _ _ _ _ _ m.sig).2.1, (sig_cells _ _ _ _ _ m.sig).2.2.1, by rw [cell_of_row _ _ _ _ _ _ m.par]; rfl⟩
end Go.Proofs.YtejglhlodfhgkaaGreatDoor
namespace Go.Proofs.YtejglhlodfhgkaaGreatDoor
set_option linter.unusedVariables false
set_option linter.unusedSimpArgs false
open Go.RowKit
set_option maxRecDepth 100000
structure KvM (w w' : World) (F : Nat → Int) (D E : Int) : Prop where
  below : Below w.heap.size w w'
  row : RowAt w' w.heap.size .u8 32 53 F
  par : w'.heap[w.heap.size + 1]? = some (.cells (parC D E) 57 (0, 0))
  env : Env w'
theorem KvM.call {w w' w2 : World} {F : Nat → Int} {D E : Int} (m : KvM w w' F D E) (h : Below w'.heap.size w' w2) : KvM w w2 F D E :=
  ⟨m.below.trans (h.mono m.below.size), m.row.below h m.row.lt, (h.block _ (heap_lt' m.par)).trans m.par, m.env.below h m.env.lt⟩
end Go.Proofs.YtejglhlodfhgkaaGreatDoor
namespace Go.Proofs.YtejglhlodfhgkaaGreatDoor
set_option linter.unusedVariables false
set_option linter.unusedSimpArgs false
open Go.RowKit
set_option maxRecDepth 100000
def dgt (xs : List Int) (i : Nat) : Nat := (xs.getD i 0).toNat % 128
/-- what m groups from place j on add up to, the first the least -/
def hor (xs : List Int) : Nat → Nat → Nat
  | 0, _ => 0
  | m + 1, j => dgt xs j + 128 * hor xs m (j + 1)
end Go.Proofs.YtejglhlodfhgkaaGreatDoor
namespace Go.Proofs.YtejglhlodfhgkaaGreatDoor
set_option linter.unusedVariables false
set_option linter.unusedSimpArgs false
open Go.RowKit
set_option maxRecDepth 100000
def rdC (v : Value) (e : Int) : Array Value := #[v, .int .i64 e]
/-- two Readers: the argument's and the result's -/
structure R2M (w w' : World) (v : Value) (e : Int) : Prop where
  below : Below w.heap.size w w'
  arg : w'.heap[w.heap.size]? = some (.cells (rdC v e) 129 (0, 0))
  res : w'.heap[w.heap.size + 1]? = some (.cells (rdC (.slice none 0 0) 0) 129 (0, 0))
theorem R2M.call {w w' w2 : World} {v : Value} {e : Int} (m : R2M w w' v e) (h : Below w'.heap.size w' w2) : R2M w w2 v e :=
  ⟨m.below.trans (h.mono m.below.size), (h.block _ (Array.getElem?_eq_some_iff.1 m.arg).1).trans m.arg, (h.block _ (Array.getElem?_eq_some_iff.1 m.res).1).trans m.res⟩
/-- the argument's error or its slice is written -/
theorem R2M.set {w w' : World} {v v' : Value} {e e' : Int} (m : R2M w w' v e) (i : Nat) (x : Value) (hx : (rdC v e).setIfInBounds i x = rdC v' e') : R2M w (w'.setCell ⟨w.heap.size, i, none⟩ x) v' e' := by
  have hO := Only.setCell w' ⟨w.heap.size, i, none⟩ x
  exact ⟨m.below.trans (hO.below (Nat.le_refl _) m.below.size), by rw [heap_setCell_same w' _ i _ _ _ m.arg, hx], (hO.block _ (Array.getElem?_eq_some_iff.1 m.res).1 (by show _ ≠ w.heap.size; omega)).trans m.res⟩
end Go.Proofs.YtejglhlodfhgkaaGreatDoor
namespace Go.Proofs.YtejglhlodfhgkaaGreatDoor
set_option linter.unusedVariables false
set_option linter.unusedSimpArgs false
open Go.RowKit
set_option maxRecDepth 100000
end Go.Proofs.YtejglhlodfhgkaaGreatDoor
namespace Go.Proofs.YtejglhlodfhgkaaGreatDoor
set_option linter.unusedVariables false
set_option linter.unusedSimpArgs false
open Go.RowKit
set_option maxRecDepth 100000
theorem R2M.only {w w' w2 : World} {v : Value} {e : Int} {q : Nat} (m : R2M w w' v e) (h : Only q w' w2) (hq : w.heap.size + 2 ≤ q) : R2M w w2 v e :=
  ⟨m.below.trans (h.below (by omega) m.below.size), (h.block _ (Array.getElem?_eq_some_iff.1 m.arg).1 (by omega)).trans m.arg, (h.block _ (Array.getElem?_eq_some_iff.1 m.res).1 (by omega)).trans m.res⟩
end Go.Proofs.YtejglhlodfhgkaaGreatDoor
namespace Go.Proofs.YtejglhlodfhgkaaGreatDoor
set_option linter.unusedVariables false
set_option linter.unusedSimpArgs false
open Go.RowKit
set_option maxRecDepth 100000
structure RhM (w w' : World) (v : Value) (e : Int) (f : Nat → Int) : Prop where
  below : Below w.heap.size w w'
  arg : w'.heap[w.heap.size]? = some (.cells (rdC v e) 129 (0, 0))
  res : w'.heap[w.heap.size + 1]? = some (.cells (rdC (.slice none 0 0) 0) 129 (0, 0))
  rh : RowAt w' (w.heap.size + 1 + 1) .u8 32 53 (fun _ => 0)
  hh : RowAt w' (w.heap.size + 1 + 1 + 1) .u8 32 53 f
theorem RhM.call {w w' w2 : World} {v : Value} {e : Int} {f : Nat → Int} (m : RhM w w' v e f) (h : Below w'.heap.size w' w2) : RhM w w2 v e f :=
  ⟨m.below.trans (h.mono m.below.size), (h.block _ (Array.getElem?_eq_some_iff.1 m.arg).1).trans m.arg, (h.block _ (Array.getElem?_eq_some_iff.1 m.res).1).trans m.res, m.rh.below h m.rh.lt, m.hh.below h m.hh.lt⟩
theorem RhM.put {w w' : World} {v : Value} {e : Int} {f : Nat → Int} (m : RhM w w' v e f) (cs : Array Value) : Below w.heap.size w (w'.setRow (w.heap.size + 1) cs) ∧ (w'.setRow (w.heap.size + 1) cs).heap[w.heap.size]? = some (.cells (rdC v e) 129 (0, 0)) ∧ RowAt (w'.setRow (w.heap.size + 1) cs) (w.heap.size + 1 + 1 + 1) .u8 32 53 f ∧ RowAt (w'.setRow (w.heap.size + 1) cs) (w.heap.size + 1 + 1) .u8 32 53 (fun _ => 0) ∧ (w'.setRow (w.heap.size + 1) cs).heap[w.heap.size + 1]? = some (.cells cs 129 (0, 0)) :=
  ⟨below_setRow m.below (by omega) _, (setRow_other _ _ _ _ (by omega)).trans m.arg, (setRow_other _ _ _ _ (by omega)).trans m.hh, (setRow_other _ _ _ _ (by omega)).trans m.rh, setRow_heap _ _ _ _ _ _ m.res⟩
theorem RhM.copied {w w' : World} {v : Value} {e : Int} {f : Nat → Int} (m : RhM w w' v e f) (f2 : Nat → Int) : RhM w (w'.setRow (w.heap.size + 1 + 1 + 1) (rowOf .u8 32 f2)) v e f2 :=
  ⟨below_setRow m.below (by omega) _, (setRow_other _ _ _ _ (by omega)).trans m.arg, (setRow_other _ _ _ _ (by omega)).trans m.res, (setRow_other _ _ _ _ (by omega)).trans m.rh, setRow_heap _ _ _ _ _ _ m.hh⟩
theorem RhM.set {w w' : World} {v v' : Value} {e : Int} {f : Nat → Int} (m : RhM w w' v e f) : RhM w (w'.setCell ⟨w.heap.size, 0, none⟩ v') v' e f := by
  have hO := Only.setCell w' ⟨w.heap.size, 0, none⟩ v'
  exact ⟨m.below.trans (hO.below (Nat.le_refl _) m.below.size), by rw [heap_setCell_same w' _ 0 _ _ _ m.arg]; rfl, (hO.block _ (Array.getElem?_eq_some_iff.1 m.res).1 (by show _ ≠ w.heap.size; omega)).trans m.res, (hO.block _ m.rh.lt (by show _ ≠ w.heap.size; omega)).trans m.rh, (hO.block _ m.hh.lt (by show _ ≠ w.heap.size; omega)).trans m.hh⟩
end Go.Proofs.YtejglhlodfhgkaaGreatDoor
namespace Go.Proofs.YtejglhlodfhgkaaGreatDoor
set_option linter.unusedVariables false
set_option linter.unusedSimpArgs false
open Go.RowKit
set_option maxRecDepth 100000
end Go.Proofs.YtejglhlodfhgkaaGreatDoor
namespace Go.Proofs.YtejglhlodfhgkaaGreatDoor
set_option linter.unusedVariables false
set_option linter.unusedSimpArgs false
open Go.RowKit
set_option maxRecDepth 100000
theorem bytes_setCellR {w : World} {v : Value} {xs : List Int} (h : BytesIn w v xs) {g i : Nat} {x y : Value} (hc : w.cell? ⟨g, i, none⟩ = some x) (hx : ∀ n, x ≠ .int .u8 n) : BytesIn (w.setCell ⟨g, i, none⟩ y) v xs := by
  obtain ⟨a, c, rfl, h1, h2, h3⟩ := h
  refine ⟨a, c, rfl, h1, h2, ?_⟩
  rcases h3 with h3 | ⟨ab, ao, rfl, h3⟩
  · exact .inl h3
  · right
    refine ⟨ab, ao, rfl, fun j z hz => ?_⟩
    have h4 := h3 j z hz
    rw [World.cell?_setCell_other _ _ _ _ (fun e => by rw [← e, hc] at h4; injection h4 with h4; exact hx z h4)]
    exact h4
theorem bytes_rowG {w : World} {v : Value} {xs : List Int} (h : BytesIn w v xs) {g : Nat} {old : Array Value} {T : TypeId} (hg : w.heap[g]? = some (.cells old T (0, 0))) (hno : ∀ (i : Nat) (n : Int), old[i]? ≠ some (.int .u8 n)) (cs : Array Value) : BytesIn (w.setRow g cs) v xs := by
  obtain ⟨a, c, rfl, h1, h2, h3⟩ := h
  refine ⟨a, c, rfl, h1, h2, ?_⟩
  rcases h3 with h3 | ⟨ab, ao, rfl, h3⟩
  · exact .inl h3
  · right
    refine ⟨ab, ao, rfl, fun i y hi => ?_⟩
    have h4 := h3 i y hi
    have hne : ab ≠ g := fun e => by
      subst e
      rw [cell_of_row _ _ _ _ _ _ hg] at h4
      exact hno _ _ h4
    unfold World.cell? at h4 ⊢
    rw [setRow_other w g ab cs hne]
    exact h4
theorem rdC_no (a : Option Addr) (n c : Nat) (e : Int) (i : Nat) (m : Int) : (rdC (.slice a n c) e)[i]? ≠ some (.int .u8 m) := by
  unfold rdC
  match i with
  | 0 => simp
  | 1 => simp
  | n + 2 => simp
theorem sig6_cells {w : World} {q leaf : Nat} {vo vp : Value} (h : w.heap[q]? = some (.cells (sgC leaf vo vp) 232 (0, 0))) : w.cell? ⟨q, 0, none⟩ = some (.int .i64 (leaf : Int)) ∧ w.cell? ⟨q, 1, none⟩ = some vo ∧ w.cell? ⟨q, 2, none⟩ = some vp ∧ ∀ i, w.frozen? ⟨q, i, none⟩ = false :=
  ⟨by rw [cell_of_row _ _ _ _ _ _ h]; rfl, by rw [cell_of_row _ _ _ _ _ _ h]; rfl, by rw [cell_of_row _ _ _ _ _ _ h]; rfl, fun i => frozen_of_row _ _ _ _ _ h⟩
/-- what lies in memory while the reference takes a signature apart -/
structure PaM (w w' : World) (q B leaf : Nat) (v vo vp : Value) (once : List Int) (s : RSt) (ps : List (Nat → Int)) : Prop where
  below : Below w.heap.size w w'
  res : w'.heap[w.heap.size]? = some (.cells (sgC 0 (.slice none 0 0) (.slice none 0 0)) 232 (0, 0))
  sig : w'.heap[w.heap.size + 1]? = some (.cells (sgC leaf vo vp) 232 (0, 0))
  rd : w'.heap[q]? = some (.cells (rdC v (numE s.2)) 129 (0, 0))
  vin : BytesIn w' v s.1
  vown : s.1 ≠ [] → ∀ k, v.ownBlock = some k → k < B
  oin : BytesIn w' vo once
  oown : once ≠ [] → ∀ k, vo.ownBlock = some k → k < B
  path : w'.ownsRow B 53 32 vp ps.length (flatC ps)
  hq : w.heap.size + 1 < q
  hB : q < B
  size : B ≤ w'.heap.size
section
variable {w w' w2 : World} {q B leaf : Nat} {v v2 vo vp : Value} {once : List Int} {s s2 : RSt} {ps : List (Nat → Int)}
theorem PaM.call (m : PaM w w' q B leaf v vo vp once s ps) (h : Below w'.heap.size w' w2) : PaM w w2 q B leaf v vo vp once s ps :=
  ⟨m.below.trans (h.mono m.below.size), (h.block _ (heap_lt' m.res)).trans m.res, (h.block _ (heap_lt' m.sig)).trans m.sig, (h.block _ (heap_lt' m.rd)).trans m.rd, m.vin.below h, m.vown, m.oin.below h, m.oown, m.path.kept (grown_of_below h) (own_ne m.path), m.hq, m.hB, Nat.le_trans m.size h.size⟩
/-- the Reader is written -/
theorem PaM.read {a : Option Addr} {n c : Nat} (m : PaM w w' q B leaf v vo vp once s ps) (hv : v = .slice a n c) (h2 : BytesIn w' v2 s2.1) (h3 : s2.1 ≠ [] → ∀ k, v2.ownBlock = some k → k < B) : PaM w (w'.setRow q (rdC v2 (numE s2.2))) q B leaf v2 vo vp once s2 ps := by
  subst hv
  have hO := Only.setRow w' q (rdC v2 (numE s2.2))
  have hq := m.hq
  exact ⟨m.below.trans (hO.below (by omega) m.below.size), (hO.block _ (heap_lt' m.res) (by omega)).trans m.res, (hO.block _ (heap_lt' m.sig) (by omega)).trans m.sig, setRow_heap _ _ _ _ _ _ m.rd, bytes_rowG h2 m.rd (rdC_no _ _ _ _) _, h3, bytes_rowG m.oin m.rd (rdC_no _ _ _ _) _, m.oown, m.path.kept hO.grown (.inr fun e => by have := (m.path.lt _ e).1; have := m.hB; omega), m.hq, m.hB, Nat.le_trans m.size hO.size⟩
/-- one hash more -/
theorem PaM.more {w3 : World} {vp' : Value} {f : Nat → Int} {b : Option Addr} {k d : Nat} (m : PaM w w' q B leaf v vo (.slice b k d) once s ps) (hg : w'.grownBy w3 (Value.slice b k d).ownBlock) (ho : w3.ownsRow B 53 32 vp' (ps.length + [f].length) (flatC ps ++ flatC [f])) :
    w3.heap[w.heap.size + 1]? = some (.cells (sgC leaf vo (.slice b k d)) 232 (0, 0)) ∧ PaM w (w3.setCell ⟨w.heap.size + 1, 2, none⟩ vp') q B leaf v vo vp' once s (ps ++ [f]) := by
  have hq := m.hq
  have hB := m.hB
  have hsz := m.size
  have hne : ∀ j, j < B → (Value.slice b k d).ownBlock ≠ some j := fun j hj e => by have := (m.path.lt j e).1; omega
  have hO := Only.setCell w3 ⟨w.heap.size + 1, 2, none⟩ vp'
  have hb3 : ∀ j, j < B → w3.heap[j]? = w'.heap[j]? := fun j hj => hg.block j (by omega) (fun e => hne j hj e.symm)
  have hsig := (hb3 (w.heap.size + 1) (by omega)).trans m.sig
  have hb : ∀ j, j < B → j ≠ w.heap.size + 1 → (w3.setCell ⟨w.heap.size + 1, 2, none⟩ vp').heap[j]? = w'.heap[j]? := fun j hj hn => (hO.block j (by have := hg.size; omega) (show j ≠ w.heap.size + 1 from hn)).trans (hb3 j hj)
  have c2 := (sig6_cells hsig).2.2.1
  have keep : ∀ {u : Value} {xs : List Int}, BytesIn w' u xs → (xs ≠ [] → ∀ j, u.ownBlock = some j → j < B) → BytesIn (w3.setCell ⟨w.heap.size + 1, 2, none⟩ vp') u xs := fun {u xs} hu hl => by
    have h3 : BytesIn w3 u xs := by
      by_cases he : xs = []
      · subst he
        obtain ⟨a, c, rfl, h1, h2, _⟩ := hu
        exact ⟨a, c, rfl, h1, h2, .inl rfl⟩
      · exact hu.grown hg fun j hj e => hne j (hl he j hj) e.symm
    exact bytes_setCellR h3 c2 (by simp)
  refine ⟨hsig, ⟨⟨hO.os.trans (hg.os.trans m.below.os), hO.tape.trans (hg.tape.trans m.below.tape), hO.output.trans (hg.output.trans m.below.output), Nat.le_trans m.below.size (Nat.le_trans hg.size hO.size), fun j hj => (hb j (by omega) (by omega)).trans (m.below.block j hj)⟩,
    (hb _ (by omega) (by omega)).trans m.res, ?_, (hb _ hB (by omega)).trans m.rd, keep m.vin m.vown, m.vown, keep m.oin m.oown, m.oown, ?_, m.hq, m.hB, Nat.le_trans hsz (Nat.le_trans hg.size hO.size)⟩⟩
  · rw [heap_setCell_same w3 _ 2 _ _ _ hsig]; rfl
  · have := ho.kept hO.grown (.inr fun e => by have h : B ≤ w.heap.size + 1 := (ho.lt _ e).1; omega)
    rw [List.length_append]
    rw [flatC_app1] at this
    exact this
end
end Go.Proofs.YtejglhlodfhgkaaGreatDoor
namespace Go.Proofs.YtejglhlodfhgkaaGreatDoor
set_option linter.unusedVariables false
set_option linter.unusedSimpArgs false
open Go.RowKit
set_option maxRecDepth 100000
section
variable {w w' : World} {q B leaf leaf' i : Nat} {v v2 vo vo' x old : Value} {once once' : List Int} {s s2 : RSt} {ps : List (Nat → Int)}
theorem PaM.put (m : PaM w w' q B leaf v vo (.slice none 0 0) once s []) (hi : w'.cell? ⟨w.heap.size + 1, i, none⟩ = some old) (hno : ∀ n, old ≠ .int .u8 n)
    (hset : (sgC leaf vo (.slice none 0 0)).setIfInBounds i x = sgC leaf' vo' (.slice none 0 0)) (h2 : BytesIn w' vo' once') : PaM w (w'.setCell ⟨w.heap.size + 1, i, none⟩ x) q w'.heap.size leaf' v vo' (.slice none 0 0) once' s [] := by
  have hq := m.hq
  have hB := m.hB
  have hsz := m.size
  have hO := Only.setCell w' ⟨w.heap.size + 1, i, none⟩ x
  have hb : ∀ j, j < w'.heap.size → j ≠ w.heap.size + 1 → (w'.setCell ⟨w.heap.size + 1, i, none⟩ x).heap[j]? = w'.heap[j]? := fun j hj hn => hO.block j hj (show j ≠ w.heap.size + 1 from hn)
  exact ⟨m.below.trans (hO.below (show w.heap.size ≤ w.heap.size + 1 by omega) m.below.size), (hb _ (by omega) (by omega)).trans m.res, by rw [heap_setCell_same w' _ i _ _ _ m.sig, hset], (hb _ (by omega) (by omega)).trans m.rd,
    bytes_setCellR m.vin hi hno, fun hn k hk => bytes_own_lt m.vin hn k hk, bytes_setCellR h2 hi hno, fun hn k hk => bytes_own_lt h2 hn k hk, World.ownsRow_nil _ _ _ _, hq, by omega, hO.size⟩
theorem PaM.off {w2 : World} {g : Nat} {vp : Value} (m : PaM w w' q B leaf v vo vp once s ps) (h : Only g w' w2) (hg : B ≤ g) (hv : vp.ownBlock ≠ some g) : PaM w w2 q B leaf v vo vp once s ps := by
  have hq := m.hq
  have hB := m.hB
  exact ⟨m.below.trans (h.below (by omega) m.below.size), (h.block _ (heap_lt' m.res) (by omega)).trans m.res, (h.block _ (heap_lt' m.sig) (by omega)).trans m.sig, (h.block _ (heap_lt' m.rd) (by omega)).trans m.rd,
    m.vin.only0 h fun hn k hk => (by have := m.vown hn k hk; omega), m.vown, m.oin.only0 h fun hn k hk => (by have := m.oown hn k hk; omega), m.oown, m.path.kept h.grown (.inr hv), hq, hB, Nat.le_trans m.size h.size⟩
end
end Go.Proofs.YtejglhlodfhgkaaGreatDoor
namespace Go.Proofs.YtejglhlodfhgkaaGreatDoor
set_option linter.unusedVariables false
set_option linter.unusedSimpArgs false
open Go.RowKit
set_option maxRecDepth 100000
/-- what lies in memory while the reference lays the leaves -/
structure LvM (w w' : World) (F : Nat → Int) (D k : Nat) (v : Value) (ps : List (Nat → Int)) : Prop where
  below : Below w.heap.size w w'
  row : RowAt w' w.heap.size .u8 32 53 F
  par : w'.heap[w.heap.size + 1]? = some (.cells (parC D k) 57 (0, 0))
  own : w'.ownsRow (w.heap.size + 2) 53 32 v ps.length (flatC ps)
  size : w.heap.size + 2 ≤ w'.heap.size
section
variable {w w' w2 : World} {F : Nat → Int} {D k : Nat} {v v' : Value} {ps : List (Nat → Int)} {f : Nat → Int}
theorem LvM.call (m : LvM w w' F D k v ps) (h : Below w'.heap.size w' w2) : LvM w w2 F D k v ps :=
  ⟨m.below.trans (h.mono m.below.size), m.row.below h m.row.lt, (h.block _ (heap_lt' m.par)).trans m.par, m.own.kept (grown_of_below h) (own_ne m.own), Nat.le_trans m.size h.size⟩
theorem LvM.more (m : LvM w w' F D k v ps) (hg : w'.grownBy w2 v.ownBlock) (ho : w2.ownsRow (w.heap.size + 2) 53 32 v' (ps.length + [f].length) (flatC ps ++ flatC [f])) : LvM w w2 F D k v' (ps ++ [f]) := by
  have hsz := m.size
  have hne : ∀ j, j < w.heap.size + 2 → v.ownBlock ≠ some j := fun j hj e => by have := (m.own.lt j e).1; omega
  have hb : ∀ j, j < w.heap.size + 2 → w2.heap[j]? = w'.heap[j]? := fun j hj => hg.block j (by omega) (fun e => hne j hj e.symm)
  refine ⟨⟨hg.os.trans m.below.os, hg.tape.trans m.below.tape, hg.output.trans m.below.output, Nat.le_trans m.below.size hg.size, fun j hj => (hb j (by omega)).trans (m.below.block j hj)⟩, (hb _ (by omega)).trans m.row, (hb _ (by omega)).trans m.par, ?_, Nat.le_trans hsz hg.size⟩
  rw [List.length_append]
  rw [flatC_app1] at ho
  exact ho
end
end Go.Proofs.YtejglhlodfhgkaaGreatDoor
namespace Go.Proofs.YtejglhlodfhgkaaGreatDoor
set_option linter.unusedVariables false
set_option linter.unusedSimpArgs false
open Go.RowKit
set_option maxRecDepth 100000
structure RvM (w w' : World) (F : Nat → Int) (D E : Int) : Prop where
  below : Below w.heap.size w w'
  row : RowAt w' w.heap.size .u8 32 53 F
  par : w'.heap[w.heap.size + 1]? = some (.cells (parC D E) 57 (0, 0))
theorem RvM.call {w w' w2 : World} {F : Nat → Int} {D E : Int} (m : RvM w w' F D E) (h : Below w'.heap.size w' w2) : RvM w w2 F D E :=
  ⟨m.below.trans (h.mono m.below.size), m.row.below h m.row.lt, (h.block _ (heap_lt' m.par)).trans m.par⟩
end Go.Proofs.YtejglhlodfhgkaaGreatDoor
