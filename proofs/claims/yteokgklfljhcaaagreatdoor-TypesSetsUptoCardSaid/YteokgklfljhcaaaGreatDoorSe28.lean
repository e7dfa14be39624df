/- Part 28 of the proof. -/
import Derived.ProofKit
import Derived.OpenShut
import Derived.Deep.Slices
import Derived.SizedLaws
import Derived.Lib.SmallJoins
import Derived.Deep.Fields
import Derived.ChangeSame
import Derived.Laws.IdiomCopy
import Derived.Laws.MakeOwn
import Derived.Lib.AppendStr
import Derived.LaidEql
import Derived.Stop.Asserts
import Derived.RowKitTokens
import Derived.Lib.IfaceEq
import Derived.Deep.RegionHeld3
import Derived.Test.YteokgklfljhcaaaGreatDoorSe1
import Derived.Test.YteokgklfljhcaaaGreatDoorSe2
import Derived.Test.YteokgklfljhcaaaGreatDoorSe3
import Derived.Test.YteokgklfljhcaaaGreatDoorSe4
import Derived.Test.YteokgklfljhcaaaGreatDoorSe8
import Derived.Test.YteokgklfljhcaaaGreatDoorSe14
import Derived.Test.YteokgklfljhcaaaGreatDoorSe15
import Derived.Test.YteokgklfljhcaaaGreatDoorSe19
import Derived.Test.YteokgklfljhcaaaGreatDoorSe21
import Derived.Test.YteokgklfljhcaaaGreatDoorSe22
import Derived.Test.YteokgklfljhcaaaGreatDoorSe23
namespace Go.Proofs.YteokgklfljhcaaaGreatDoor
set_option linter.unusedVariables false
set_option linter.unusedSimpArgs false
open Go.ChangeShapes Go.WideShapes Go.ChangeAt Go.RowKit
/-- each value counts one at least -/
theorem bulk_one {H : Type} (d : DataW H) : 1 ≤ Rows.uptoBulk d := by
  cases d with
  | lit l => cases l <;> simp [Rows.uptoBulk]
  | _ => simp [Rows.uptoBulk]
theorem bulk_len {H : Type} : ∀ l : List (DataW H), l.length ≤ Rows.uptoBulkAll l
  | [] => by simp
  | d :: r => by
    have h1 := bulk_one d
    have h2 := bulk_len r
    simp only [Rows.uptoBulkAll, List.length_cons]
    omega
theorem bulk_mem {H : Type} {d : DataW H} : ∀ {l : List (DataW H)}, d ∈ l → Rows.uptoBulk d ≤ Rows.uptoBulkAll l
  | e :: r, h => by
    simp only [Rows.uptoBulkAll]
    rcases List.mem_cons.1 h with rfl | h
    · omega
    · have := bulk_mem h; omega
/-- a slice of bytes that came in -/
theorem bytes_raw {H : Type} {enc : TypeId × Value → H} {W : World} {fuel : Nat} {cs : List Value} {x : DataW H × List MemPlace} (h : DataW.trod enc Tryz.prog W 0 (fun _ => true) true fuel 39 cs = some x) :
    ∃ v xs, cs = [v] ∧ BytesIn W v xs ∧ bytesOk xs ∧ (∃ a c, v = .slice a xs.length c) ∧ xs.length ≤ Rows.uptoBulk x.1 ∧ (x.1 = .nil ∧ xs = [] ∨ ∃ elems spare, x.1 = .slice elems spare ∧ elems.length = xs.length) := by
  rcases open_ints Tryz.underlying39 Tryz.underlying5 (by kernel_rfl) h with ⟨hcs, hx⟩ | ⟨a, l, c, zs, hcs, _, hl, hm, hz, hx, hcell, hwz⟩
  · exact ⟨_, [], hcs, ⟨_, _, rfl, by simp, by simp [maxLen], .inl rfl⟩, (by intro x hx; cases hx), ⟨_, _, rfl⟩, by simp, .inl ⟨by rw [hx], rfl⟩⟩
  · simp only [if_true] at hz
    have hlen : (zs.take l).length = l := by rw [List.length_take]; omega
    refine ⟨_, zs.take l, hcs, ⟨some a, c, by rw [hlen], by rw [hlen]; exact hl, by rw [hlen]; omega, ?_⟩, fun y hy => ?_, ⟨some a, c, by rw [hlen]⟩, ?_, ?_⟩
    · by_cases hl0 : l = 0
      · left; subst hl0; simp
      · right
        obtain ⟨b, off, spot⟩ := a
        have hspot : spot = none := by simpa [Addr.add] using World.cell?_spot (hcell 0 (by omega))
        subst hspot
        refine ⟨b, off, rfl, fun i y hi => ?_⟩
        have hil : i < l := by have := (List.getElem?_eq_some_iff.1 hi).1; omega
        rw [List.getElem?_take, if_pos hil] at hi
        have := hcell i (by omega)
        rw [Addr.add_mid] at this
        rw [this]
        simp [List.getD, hi]
    · have h2 := bounds_u8 (hwz y (List.mem_of_mem_take hy))
      omega
    · rw [hx]
      have h1 := bulk_len (lits (H := H) IntKind.u8 (zs.take l))
      simp only [lits, List.length_map] at h1
      simp only [Rows.uptoBulk, lits]
      omega
    · rw [hx]
      exact .inr ⟨_, _, rfl, by simp [lits]⟩
theorem bytes_argB {H : Type} {enc : TypeId × Value → H} {W : World} {a : Option Addr} {len cap : Nat} {d : DataW H} {p : List MemPlace} (h : DataW.Trod enc Tryz.prog W 0 (fun _ => true) true 39 (.slice a len cap) d p) :
    ∃ xs : List Int, xs.length = len ∧ BytesIn W (.slice a len cap) xs ∧ bytesOk xs ∧ len ≤ Rows.uptoBulk d := by
  obtain ⟨fuel, hf⟩ := h
  obtain ⟨v, xs, hcs, hin, hok, ⟨a', c', hv⟩, hbulk, hd⟩ := bytes_raw hf
  simp only [Value.cells] at hcs
  obtain rfl : Value.slice a len cap = v := by simpa using hcs
  injection hv with e1 e2 e3
  exact ⟨xs, e2.symm, hin, hok, by rw [e2]; exact hbulk⟩
/-- a slice of slices of bytes -/
def BssIn (w : World) (v : Value) (ps : List (List Int)) : Prop :=
  ∃ a c, v = .slice a ps.length c ∧ ps.length ≤ c ∧ ps.length ≤ maxLen ∧ (ps = [] ∨ ∃ ab ao, a = some ⟨ab, ao, none⟩ ∧ ∀ i p, ps[i]? = some p → ∃ u, w.cell? ⟨ab, ao + i, none⟩ = some u ∧ BytesIn w u p)
theorem BssIn.below {w w' : World} {v : Value} {ps : List (List Int)} (h : BssIn w v ps) (hb : Below w.heap.size w w') : BssIn w' v ps := by
  obtain ⟨a, c, rfl, hc, hm, hx⟩ := h
  refine ⟨a, c, rfl, hc, hm, ?_⟩
  rcases hx with hx | ⟨ab, ao, rfl, hx⟩
  · exact .inl hx
  · refine .inr ⟨ab, ao, rfl, fun i p hi => ?_⟩
    obtain ⟨u, hu, hp⟩ := hx i p hi
    exact ⟨u, (hb.cell (p := ⟨ab, ao + i, none⟩) (World.block_lt_of_cell? w _ hu)).trans hu, hp.below hb⟩
end Go.Proofs.YteokgklfljhcaaaGreatDoor
namespace Go.Proofs.YteokgklfljhcaaaGreatDoor
set_option linter.unusedVariables false
set_option linter.unusedSimpArgs false
open Go.ChangeShapes Go.WideShapes Go.ChangeAt Go.RowKit
theorem one_take {α : Type} {l : List α} {k : Nat} {v : α} (h : (l.drop k).take 1 = [v]) : l[k]? = some v := by
  have h1 : ((l.drop k).take 1)[0]? = some v := by rw [h]; rfl
  rw [List.getElem?_take, if_pos (by omega), List.getElem?_drop, Nat.add_zero] at h1
  exact h1
theorem arr_raw {H : Type} {enc : TypeId × Value → H} {W : World} {t e : TypeId} {k : IntKind} {n fuel : Nat} {cs : List Value} {x : DataW H × List MemPlace} (ht : Tryz.prog.underlying t = some (.array n e)) (he : Tryz.prog.underlying e = some (.int k)) (hc : Tryz.prog.cellsOf e = 1) (hct : Tryz.prog.cellsOf t = n)
    (h : DataW.trod enc Tryz.prog W 0 (fun _ => true) true fuel t cs = some x) : ∃ F : Nat → Int, cs = (rowOf k n F).toList ∧ ∀ i, i < n → (Lit.int k (F i)).wf = true := by
  obtain ⟨zs, m', _, _, hl, hzl, hzs⟩ := DataW.trod_array ht h
  have key : ∃ F : Nat → Int, ∀ j, j < n → cs[j]? = some (.int k (F j)) ∧ (Lit.int k (F j)).wf = true := by
    refine Deep.choose_lt (p := fun j v => cs[j]? = some (.int k v) ∧ (Lit.int k v).wf = true) fun j hj => ?_
    have h3 := hzs j hj
    rw [hc, Nat.mul_one, List.getElem?_eq_getElem (by omega)] at h3
    obtain ⟨v, hv, _, hw⟩ := DataW.trod_int he h3
    exact ⟨v, one_take hv, hw⟩
  obtain ⟨F, hF⟩ := key
  refine ⟨F, ?_, fun i hi => (hF i hi).2⟩
  apply List.ext_getElem?
  intro i
  rcases Nat.lt_or_ge i n with h1 | h1
  · rw [(hF i h1).1]; simp [rowOf, h1]
  · rw [List.getElem?_eq_none (by rw [hl, hct]; exact h1), List.getElem?_eq_none (by simpa [rowOf] using h1)]
end Go.Proofs.YteokgklfljhcaaaGreatDoor
namespace Go.Proofs.YteokgklfljhcaaaGreatDoor
set_option linter.unusedVariables false
set_option linter.unusedSimpArgs false
open Go.ChangeShapes Go.WideShapes Go.ChangeAt Go.RowKit
set_option maxRecDepth 100000
end Go.Proofs.YteokgklfljhcaaaGreatDoor
namespace Go.Proofs.YteokgklfljhcaaaGreatDoor
set_option linter.unusedVariables false
set_option linter.unusedSimpArgs false
open Go.ChangeShapes Go.WideShapes Go.ChangeAt Go.RowKit Go.Proofs
set_option maxRecDepth 100000
set_option linter.unusedSimpArgs false
set_option linter.unusedVariables false
/-- a slice of rows that came in: each row's cells are C t -/
theorem rows_raw {H α : Type} {enc : TypeId × Value → H} {W : World} {T E : TypeId} {n : Nat} (hT : Tryz.prog.underlying T = some (.slice E)) (hn : Tryz.prog.cellsOf E = n) (hn0 : 0 < n) (C : α → List Value) (hC : ∀ t, (C t).length = n) (Ok : α → Nat → Prop)
    (hel : ∀ (f : Nat) (cs : List Value) (x : DataW H × List MemPlace), DataW.trod enc Tryz.prog W 0 (fun _ => true) true f E cs = some x → ∃ t, cs = C t ∧ Ok t (Rows.uptoBulk x.1))
    {fuel : Nat} {cs : List Value} {x : DataW H × List MemPlace} (h : DataW.trod enc Tryz.prog W 0 (fun _ => true) true fuel T cs = some x) :
    ∃ (ts : List α) (a : Option Addr) (cap : Nat), cs = [.slice a ts.length cap] ∧ ts.length ≤ cap ∧ ts.length ≤ maxLen ∧ ts.length ≤ Rows.uptoBulk x.1 ∧
      (ts = [] ∨ ∃ b off, a = some ⟨b, off, none⟩ ∧ b < W.heap.size ∧ ∀ i t, ts[i]? = some t → W.rangeAt b (off + i * n) (C t)) ∧ ∀ t ∈ ts, ∃ k, Ok t k ∧ k ≤ Rows.uptoBulk x.1 := by
  rcases Deep.open_slice hT h with ⟨hcs, hx⟩ | ⟨ad, l, c, m, f, D, Pl, hcs, _, hl, hm, hmm, hx, hel2⟩
  · exact ⟨[], none, 0, hcs, by simp, by simp [maxLen], by simp, .inl rfl, by simp⟩
  · simp only [if_true] at hmm
    subst hx
    rw [hn] at hel2
    have key : ∀ i, i < l → ∃ t : α, (∀ j v, (C t)[j]? = some v → W.cell? (ad.add (i * n + j)) = some v) ∧ Ok t (Rows.uptoBulk (D i)) := by
      intro i hi
      obtain ⟨cs', h1, h2⟩ := hel2 i (by omega)
      obtain ⟨_, hlen, hcell⟩ := World.cells?_some h1
      obtain ⟨t, rfl, hok⟩ := hel f _ _ h2
      refine ⟨t, fun j v hv => ?_, hok⟩
      have hj : j < n := by have := (List.getElem?_eq_some_iff.1 hv).1; rw [hC] at this; exact this
      rw [← hv, ← hcell j hj]
      by_cases hj0 : j = 0 <;> by_cases hi0 : i * n = 0 <;> simp [hj0, hi0, Addr.add, Nat.add_assoc]
    have hnone : ∀ (i : Nat), l ≤ i → True := fun _ _ => trivial
    by_cases hl0 : l = 0
    · subst hl0
      exact ⟨[], some ad, c, hcs, by simp, by simp [maxLen], by simp, .inl rfl, by simp⟩
    · obtain ⟨t0, _⟩ := key 0 (by omega)
      have hinh : Nonempty α := ⟨t0⟩
      have key2 : ∀ i, ∃ t : α, i < l → (∀ j v, (C t)[j]? = some v → W.cell? (ad.add (i * n + j)) = some v) ∧ Ok t (Rows.uptoBulk (D i)) := fun i => by
        by_cases hi : i < l
        · obtain ⟨t, ht⟩ := key i hi; exact ⟨t, fun _ => ht⟩
        · exact ⟨t0, fun h => absurd h hi⟩
      obtain ⟨F, hF⟩ : ∃ F : Nat → α, ∀ i, i < l → (∀ j v, (C (F i))[j]? = some v → W.cell? (ad.add (i * n + j)) = some v) ∧ Ok (F i) (Rows.uptoBulk (D i)) := ⟨fun i => (key2 i).choose, fun i => (key2 i).choose_spec⟩
      have hget : ∀ i t, ((List.range l).map F)[i]? = some t → i < l ∧ F i = t := fun i t hi => by
        have hil : i < l := by have := (List.getElem?_eq_some_iff.1 hi).1; simpa using this
        rw [List.getElem?_map, List.getElem?_range hil] at hi
        cases hi; exact ⟨hil, rfl⟩
      have hblk := bulk_len ((List.range l).map D)
      simp only [List.length_map, List.length_range] at hblk
      refine ⟨(List.range l).map F, some ad, c, by simpa using hcs, by simpa using hl, by simp; omega, ?_, .inr ?_, fun t ht => ?_⟩
      · simp only [Rows.uptoBulk, List.length_map, List.length_range]; omega
      · obtain ⟨b, off, spot⟩ := ad
        have h1 : (C (F 0))[0]? = some (C (F 0))[0]! := by rw [List.getElem?_eq_getElem (by rw [hC]; exact hn0)]; simp [hC, hn0]
        have h0 := (hF 0 (by omega)).1 0 _ h1
        have hspot : spot = none := by simpa [Addr.add] using World.cell?_spot h0
        subst hspot
        refine ⟨b, off, rfl, by simpa [Addr.add] using World.block_lt_of_cell? _ _ h0, fun i t hi => ?_⟩
        obtain ⟨hil, rfl⟩ := hget i t hi
        intro j v hv
        have := (hF i hil).1 j v hv
        rw [Addr.add_mid] at this
        rw [Nat.add_assoc]; exact this
      · obtain ⟨i, hi, rfl⟩ := List.mem_map.1 ht
        have h2 := bulk_mem (d := D i) (l := (List.range l).map D) (List.mem_map.2 ⟨i, hi, rfl⟩)
        exact ⟨_, (hF i (List.mem_range.1 hi)).2, by simp only [Rows.uptoBulk]; omega⟩
theorem bulkAt {H : Type} {d : DataW H} {l : List (DataW H)} {i : Nat} (h : l[i]? = some d) : Rows.uptoBulk d ≤ Rows.uptoBulkAll l := bulk_mem (List.mem_of_getElem? h)
end Go.Proofs.YteokgklfljhcaaaGreatDoor
namespace Go.Proofs.YteokgklfljhcaaaGreatDoor
set_option linter.unusedVariables false
set_option linter.unusedSimpArgs false
theorem rowL_congr {n : Nat} {f g : Nat → Int} (h : ∀ i, i < n → f i = g i) : rowL n f = rowL n g := by
  unfold rowL
  exact List.map_congr_left fun i hi => h i (by simpa using hi)
end Go.Proofs.YteokgklfljhcaaaGreatDoor
namespace Go.Proofs.YteokgklfljhcaaaGreatDoor
set_option linter.unusedVariables false
set_option linter.unusedSimpArgs false
open Go.RowKit
end Go.Proofs.YteokgklfljhcaaaGreatDoor
namespace Go.Proofs.YteokgklfljhcaaaGreatDoor
set_option linter.unusedVariables false
set_option linter.unusedSimpArgs false
open Go.RowKit
set_option maxRecDepth 100000
end Go.Proofs.YteokgklfljhcaaaGreatDoor
namespace Go.Proofs.YteokgklfljhcaaaGreatDoor
set_option linter.unusedVariables false
set_option linter.unusedSimpArgs false
open Go.RowKit
set_option maxRecDepth 100000
/-- what lies in memory while a chain's value is made: the value v in block b, the result's zeros in block r, all above the mark m -/
structure HaveM (w w' : World) (b r B : Nat) (v : Nat → Int) : Prop where
  below : Below w.heap.size w w'
  val : RowAt w' b .u8 32 23 v
  res : RowAt w' r .u8 32 23 (fun _ => 0)
  env : Env w'
  size : B ≤ w'.heap.size
  lo : 2 < B
  hb : b < B
  hr : r < B
theorem HaveM.calls {w w' w2 : World} {b r B : Nat} {v : Nat → Int} (m : HaveM w w' b r B v) (hw : w.heap.size ≤ B) (h : Below B w' w2) : HaveM w w2 b r B v :=
  ⟨m.below.trans (h.mono hw), m.val.below h m.hb, m.res.below h m.hr, m.env.below h m.lo, Nat.le_trans m.size h.size, m.lo, m.hb, m.hr⟩
theorem HaveM.put {w w' : World} {b r B : Nat} {v : Nat → Int} (m : HaveM w w' b r B v) (h : w.heap.size ≤ b ∧ b ≠ r ∧ 2 < b) (v' : Nat → Int) : HaveM w (w'.setRow b (rowOf .u8 32 v')) b r B v' :=
  ⟨below_setRow m.below h.1 _, setRow_heap _ _ _ _ _ _ m.val, (setRow_other _ _ _ _ (Ne.symm h.2.1)).trans m.res, m.env.below (B := b) (below_setRow (Below.refl _ _) (Nat.le_refl _) _) h.2.2, by simpa [World.setRow] using m.size, m.lo, m.hb, m.hr⟩
end Go.Proofs.YteokgklfljhcaaaGreatDoor
namespace Go.Proofs.YteokgklfljhcaaaGreatDoor
set_option linter.unusedVariables false
set_option linter.unusedSimpArgs false
open Go.RowKit
set_option maxRecDepth 100000
def natInts (l : List Nat) : List Int := l.map fun d : Nat => (d : Int)
theorem natInts_append (a b : List Nat) : natInts (a ++ b) = natInts a ++ natInts b := by simp [natInts]
structure DigM (w wr : World) (v : Value) (xs : List Int) (v' : Value) (l : List Nat) : Prop where
  arg : BytesIn wr v xs
  row : wr.ownsRow w.heap.size 3 1 v' (natInts l).length (intVals (natInts l))
  below : Below w.heap.size w wr
theorem DigM.grow {w wr w2 w3 : World} {v v' v2 : Value} {xs : List Int} {l m : List Nat} (h : DigM w wr v xs v' l) (hb : Below wr.heap.size wr w2) (hg : w2.grownBy w3 v'.ownBlock)
    (ho : w3.ownsRow w.heap.size 3 1 v2 (natInts l ++ natInts m).length (intVals (natInts l ++ natInts m))) (hx : BytesIn w v xs) : DigM w w3 v xs v2 (l ++ m) := by
  have h1 := (h.below.trans (hb.mono h.below.size)).grown hg (Nat.le_trans h.below.size hb.size) (fun k hk => (h.row.lt k hk).1)
  exact ⟨hx.below h1, by rw [natInts_append]; exact ho, h1⟩
end Go.Proofs.YteokgklfljhcaaaGreatDoor
namespace Go.Proofs.YteokgklfljhcaaaGreatDoor
set_option linter.unusedVariables false
set_option linter.unusedSimpArgs false
open Go.RowKit
set_option maxRecDepth 100000
/-- rows of 32 bytes in memory, below the mark B; above it what calls make -/
structure HasR (w w' : World) (B : Nat) (rows : List (Nat × (Nat → Int))) : Prop where
  below : Below w.heap.size w w'
  row : ∀ p ∈ rows, RowAt w' p.1 .u8 32 23 p.2 ∧ p.1 < B
  env : Env w'
  size : B ≤ w'.heap.size
  lo : 2 < B
  wB : w.heap.size ≤ B
theorem HasR.calls {w w' w2 : World} {B : Nat} {rows : List (Nat × (Nat → Int))} (m : HasR w w' B rows) (h : Below B w' w2) : HasR w w2 B rows :=
  ⟨m.below.trans (h.mono m.wB), fun p hp => ⟨(m.row p hp).1.below h (m.row p hp).2, (m.row p hp).2⟩, m.env.below h m.lo, Nat.le_trans m.size h.size, m.lo, m.wB⟩
theorem HasR.call {w w' w2 : World} {B : Nat} {rows : List (Nat × (Nat → Int))} (m : HasR w w' B rows) (h : Below w'.heap.size w' w2) : HasR w w2 B rows := m.calls (h.mono m.size)
theorem HasR.grown {w w' w2 : World} {B n : Nat} {v : Value} {vs : List Value} {rows : List (Nat × (Nat → Int))} (m : HasR w w' B rows) (hg : w'.grownBy w2 v.ownBlock) (ho : w'.ownsRow B 5 1 v n vs) : HasR w w2 B rows :=
  m.calls ((Below.refl _ _).grown hg m.size (fun k hk => (ho.lt k hk).1))
def zF : Nat → Int := fun _ => 0
end Go.Proofs.YteokgklfljhcaaaGreatDoor
namespace Go.Proofs.YteokgklfljhcaaaGreatDoor
set_option linter.unusedVariables false
set_option linter.unusedSimpArgs false
open Go.RowKit
set_option maxRecDepth 100000
theorem setCells_cells (g : Nat) (t : TypeId) : ∀ (vs : List Value) (o : Nat) (w : World) (cs : Array Value), w.heap[g]? = some (.cells cs t (0, 0)) → o + vs.length ≤ cs.size →
    ∃ cs' : Array Value, (w.setCells g o vs).heap[g]? = some (.cells cs' t (0, 0)) ∧ cs'.size = cs.size ∧ ∀ j, cs'[j]? = if o ≤ j ∧ j < o + vs.length then vs[j - o]? else cs[j]?
  | [], o, w, cs, h, _ => ⟨cs, h, rfl, fun j => by rw [if_neg (by simp)]⟩
  | v :: r, o, w, cs, h, hl => by
    have h1 := heap_setCell_same w g o _ t v h
    obtain ⟨cs', h2, h3, h4⟩ := setCells_cells g t r (o + 1) (w.setCell ⟨g, o, none⟩ v) _ h1 (by simp at hl ⊢; omega)
    refine ⟨cs', h2, by rw [h3]; simp, fun j => ?_⟩
    rw [h4 j]
    simp only [List.length_cons] at hl ⊢
    by_cases e : j = o
    · subst e
      rw [if_neg (by omega), if_pos (by omega)]
      have : j < cs.size := by omega
      simp [this]
    · by_cases e2 : o + 1 ≤ j ∧ j < o + 1 + r.length
      · rw [if_pos e2, if_pos (by omega), show j - o = (j - (o + 1)) + 1 by omega]; simp
      · rw [if_neg e2, if_neg (by omega), Array.getElem?_setIfInBounds_ne (by omega)]
/-- block g has room for n hashes; the first m are L -/
def Leaves (w : World) (g n m : Nat) (L : Nat → Nat → Int) : Prop := ∃ cs : Array Value, w.heap[g]? = some (.cells cs 23 (0, 0)) ∧ cs.size = n * 32 ∧ ∀ i, i < m → ∀ j, j < 32 → cs[i * 32 + j]? = some (.int .u8 (L i j))
theorem Leaves.put {w : World} {g n m : Nat} {L : Nat → Nat → Int} (h : Leaves w g n m L) (hm : m < n) : Leaves (w.setCells g (m * 32) (rowOf .u8 32 (L m)).toList) g n (m + 1) L := by
  obtain ⟨cs, h1, h2, h3⟩ := h
  have hl : (rowOf .u8 32 (L m)).toList.length = 32 := (rowOf_list _ _ _).2
  obtain ⟨cs', a, b, c⟩ := setCells_cells g 23 (rowOf .u8 32 (L m)).toList (m * 32) w cs h1 (by rw [hl, h2]; omega)
  refine ⟨cs', a, b.trans h2, fun k hk j hj => ?_⟩
  rw [c, hl]
  by_cases e : k = m
  · subst e
    rw [if_pos (by omega), show k * 32 + j - k * 32 = j by omega, Array.getElem?_toList, rowOf_get _ _ _ _ hj]
  · rw [if_neg (by omega)]
    exact h3 k (by omega) j hj
theorem Leaves.below {w w' : World} {B g n m : Nat} {L : Nat → Nat → Int} (h : Leaves w g n m L) (hb : Below B w w') (hg : g < B) : Leaves w' g n m L := by
  obtain ⟨cs, h1, h2, h3⟩ := h
  exact ⟨cs, (hb.block g hg).trans h1, h2, h3⟩
theorem Leaves.lt {w : World} {g n m : Nat} {L : Nat → Nat → Int} (h : Leaves w g n m L) : g < w.heap.size := by
  obtain ⟨cs, h1, _⟩ := h
  exact (Array.getElem?_eq_some_iff.1 h1).1
theorem Leaves.there {w : World} {g n m : Nat} {L : Nat → Nat → Int} (h : Leaves w g n m L) (i : Nat) (hi : i < n) {s : Nat} (hs : s = 32) : w.there g (i * 32) s := fun j hj => by
  obtain ⟨cs, h1, h2, h3⟩ := h
  subst hs
  have : i * 32 + j < cs.size := by rw [h2]; omega
  exact ⟨by rw [cell_of_row _ _ _ _ _ _ h1]; simp [this], frozen_of_row _ _ _ _ _ h1⟩
def leavesL (n : Nat) (L : Nat → Nat → Int) : List (Nat → Int) := (List.range n).map L
theorem Leaves.hashes {w : World} {g n : Nat} {L : Nat → Nat → Int} (h : Leaves w g n n L) (hn : n ≤ maxLen) : HashesIn w (.slice (some ⟨g, 0, none⟩) n n) (leavesL n L) := by
  have hl : (leavesL n L).length = n := by simp [leavesL]
  have hlt := h.lt
  obtain ⟨cs, h1, h2, h3⟩ := h
  refine ⟨_, n, by rw [hl], by omega, hn, .inr ⟨g, 0, rfl, hlt, fun i hi j v hv => ?_⟩⟩
  rw [hl] at hi
  have hj : j < 32 := by have := (List.getElem?_eq_some_iff.1 hv).1; rw [(rowOf_list _ _ _).2] at this; exact this
  have e : (leavesL n L).getD i zeroH = L i := by simp [leavesL, List.getD, hi]
  rw [e, Array.getElem?_toList, rowOf_get _ _ _ _ hj] at hv
  rw [cell_of_row _ _ _ _ _ _ h1, Nat.zero_add, h3 i hi j hj]; exact hv
end Go.Proofs.YteokgklfljhcaaaGreatDoor
namespace Go.Proofs.YteokgklfljhcaaaGreatDoor
set_option linter.unusedVariables false
set_option linter.unusedSimpArgs false
open Go.RowKit
set_option maxRecDepth 100000
end Go.Proofs.YteokgklfljhcaaaGreatDoor
namespace Go.Proofs.YteokgklfljhcaaaGreatDoor
set_option linter.unusedVariables false
set_option linter.unusedSimpArgs false
open Go.RowKit
set_option maxRecDepth 100000
end Go.Proofs.YteokgklfljhcaaaGreatDoor
namespace Go.Proofs.YteokgklfljhcaaaGreatDoor
set_option linter.unusedVariables false
set_option linter.unusedSimpArgs false
end Go.Proofs.YteokgklfljhcaaaGreatDoor
namespace Go.Proofs.YteokgklfljhcaaaGreatDoor
set_option linter.unusedVariables false
set_option linter.unusedSimpArgs false
open Go.RowKit
set_option maxRecDepth 100000
/-- equal in the first 32 places -/
def E32 (p q : Nat → Int) : Prop := ∀ j, j < 32 → p j = q j
theorem E32.bytes {p q : Nat → Int} (h : E32 p q) : bytesOf p = bytesOf q := by
  unfold bytesOf
  exact List.map_congr_left fun j hj => h j (List.mem_range.1 hj)
theorem E32.rowL {p q : Nat → Int} (h : E32 p q) : rowL 32 p = rowL 32 q := rowL_congr h
theorem E32.node1 {p q s : Nat → Int} (h : E32 p q) : nodeF p s = nodeF q s := by unfold nodeF; rw [h.bytes]
theorem E32.node2 {p q s : Nat → Int} (h : E32 p q) : nodeF s p = nodeF s q := by unfold nodeF; rw [h.bytes]
theorem E32.step {p q s : Nat → Int} {b : Bool} (h : E32 p q) : foldStep s (b, p) = foldStep s (b, q) := by
  unfold foldStep
  cases b
  · exact h.node2
  · exact h.node1
inductive All32 : List (Nat → Int) → List (Nat → Int) → Prop
  | nil : All32 [] []
  | cons {p q : Nat → Int} {ps qs : List (Nat → Int)} : E32 p q → All32 ps qs → All32 (p :: ps) (q :: qs)
theorem All32.length {ps qs : List (Nat → Int)} (h : All32 ps qs) : ps.length = qs.length := by
  induction h with
  | nil => rfl
  | cons _ _ ih => simp [ih]
theorem All32.refl : ∀ ps : List (Nat → Int), All32 ps ps
  | [] => .nil
  | _ :: r => .cons (fun _ _ => rfl) (All32.refl r)
theorem All32.fold {ps qs : List (Nat → Int)} (h : All32 ps qs) : ∀ (ts : List Bool) (s : Nat → Int), foldT s (ts.zip ps) = foldT s (ts.zip qs) := by
  induction h with
  | nil => intro ts s; rfl
  | cons e _ ih =>
    intro ts s
    cases ts with
    | nil => rfl
    | cons b ts =>
      show foldT (foldStep s (b, _)) (ts.zip _) = foldT (foldStep s (b, _)) (ts.zip _)
      rw [e.step, ih]
structure Sg where
  leaf : Nat
  once : List Int
  path : List (Nat → Int)
end Go.Proofs.YteokgklfljhcaaaGreatDoor
namespace Go.Proofs.YteokgklfljhcaaaGreatDoor
set_option linter.unusedVariables false
set_option linter.unusedSimpArgs false
open Go.RowKit
set_option maxRecDepth 100000
end Go.Proofs.YteokgklfljhcaaaGreatDoor
namespace Go.Proofs.YteokgklfljhcaaaGreatDoor
set_option linter.unusedVariables false
set_option linter.unusedSimpArgs false
open Go.RowKit Go.Extern.Stop Go.Stop Go.Extern
set_option maxRecDepth 100000
end Go.Proofs.YteokgklfljhcaaaGreatDoor
namespace Go.Proofs.YteokgklfljhcaaaGreatDoor
set_option linter.unusedVariables false
set_option linter.unusedSimpArgs false
open Go.RowKit
set_option maxRecDepth 100000
/-- what bytes hold: payloads, how many bytes, why no more -/
def scanG : Nat → List Int → List (List Int) × Nat × Option Nat
  | 0, _ => ([], 0, none)
  | f + 1, b => match oneF b with
    | (none, p) => (p :: (scanG f (b.drop (p.length + 12))).1, p.length + 12 + (scanG f (b.drop (p.length + 12))).2.1, (scanG f (b.drop (p.length + 12))).2.2)
    | (some k, _) => ([], 0, if k = 8 then none else some k)
def scanF (b : List Int) : List (List Int) × Nat × Option Nat := scanG b.length b
theorem oneF_cases (b : List Int) : (∃ k, oneF b = (some k, []) ∧ (k = 8 ↔ b.length = 0) ∧ (k = 8 ∨ k = 11 ∨ k = 12)) ∨ (∃ p, oneF b = (none, p) ∧ p.length + 12 ≤ b.length ∧ 0 < p.length ∧ p.length ≤ 1048576) := by
  unfold oneF
  split
  · next h => exact .inl ⟨8, rfl, by simp [h], by simp⟩
  · next h =>
    split
    · exact .inl ⟨12, rfl, by simp [h], by simp⟩
    · split
      · exact .inl ⟨11, rfl, by simp [h], by simp⟩
      · next h1 =>
        split
        · exact .inl ⟨12, rfl, by simp [h], by simp⟩
        · split
          · exact .inl ⟨11, rfl, by simp [h], by simp⟩
          · refine .inr ⟨_, rfl, ?_, ?_, ?_⟩ <;> rw [List.length_drop, List.length_take] <;> omega
/-- a slice of slices of bytes, each in a block of its own -/
def ListsIn (w : World) (B : Nat) (own : Option Nat) (vs : List Value) (ps : List (List Int)) : Prop :=
  vs.length = ps.length ∧ ∀ (i : Nat) (v : Value) (p : List Int), vs[i]? = some v → ps[i]? = some p → BytesIn w v p ∧ ∀ k, v.ownBlock = some k → B ≤ k ∧ some k ≠ own ∧ k < w.heap.size
theorem ListsIn.nil (w : World) (B : Nat) (own : Option Nat) : ListsIn w B own [] [] := ⟨rfl, fun i v p h => by simp at h⟩
theorem BytesIn.grown {w w' : World} {own : Option Nat} {v : Value} {p : List Int} (h : BytesIn w v p) (hg : w.grownBy w' own) (hne : ∀ k, v.ownBlock = some k → some k ≠ own) : BytesIn w' v p := by
  obtain ⟨a, c, rfl, hc, hm, hx⟩ := h
  refine ⟨a, c, rfl, hc, hm, ?_⟩
  rcases hx with hx | ⟨ab, ao, rfl, hx⟩
  · exact .inl hx
  · exact .inr ⟨ab, ao, rfl, fun i y hi => (World.cell?_of_block (hg.block ab (World.block_lt_of_cell? w _ (hx i y hi)) (hne ab rfl))).trans (hx i y hi)⟩
theorem ListsIn.below {w w' : World} {B : Nat} {own : Option Nat} {vs : List Value} {ps : List (List Int)} (h : ListsIn w B own vs ps) (hb : Below w.heap.size w w') : ListsIn w' B own vs ps :=
  ⟨h.1, fun i v p hv hp => ⟨(h.2 i v p hv hp).1.below hb, fun k hk => ⟨((h.2 i v p hv hp).2 k hk).1, ((h.2 i v p hv hp).2 k hk).2.1, Nat.lt_of_lt_of_le ((h.2 i v p hv hp).2 k hk).2.2 hb.size⟩⟩⟩
structure ScanSt (b : List Int) (w : World) (v : Value) (k : Nat) (f : Nat) (vs : List Value) (ps : List (List Int)) (wr : World) : Prop where
  fuel : b.length - k ≤ f
  le : k ≤ b.length
  eq : scanF b = (ps ++ (scanG f (b.drop k)).1, k + (scanG f (b.drop k)).2.1, (scanG f (b.drop k)).2.2)
  own : wr.ownsRow w.heap.size 39 1 v vs.length vs
  lists : ListsIn wr w.heap.size v.ownBlock vs ps
  few : vs.length ≤ k
  below : Below w.heap.size w wr
def ScanAt (b : List Int) (w : World) (v : Value) (k : Nat) (wr : World) : Prop := ∃ f vs ps, ScanSt b w v k f vs ps wr
/-- one record more -/
theorem ScanAt.next {b : List Int} {w wr w1 w2 w3 : World} {v y v' : Value} {k : Nat} {p : List Int} {vs : List Value} {f : Nat} {ps : List (List Int)} (h : ScanSt b w v k f vs ps wr) (hx : oneF (b.drop k) = (none, p)) (hb : Below wr.heap.size wr w1) (hy : w1.ownsRow wr.heap.size 5 1 y p.length (byteVals p))
    (hb2 : Below w1.heap.size w1 w2) (hg : w2.grownBy w3 v.ownBlock) (hof : v'.ownBlock = v.ownBlock ∨ v'.ownBlock = some w2.heap.size) (ho : w3.ownsRow w.heap.size 39 1 v' (vs ++ [y]).length (vs ++ [y])) : ScanAt b w v' (k + (p.length + 12)) w3 := by
  obtain ⟨hl12, hl0, hlm⟩ : p.length + 12 ≤ (b.drop k).length ∧ 0 < p.length ∧ p.length ≤ 1048576 := by
    rcases oneF_cases (b.drop k) with ⟨x, h1, _⟩ | ⟨q, h1, h2⟩
    · rw [hx] at h1; simp at h1
    · rw [hx] at h1
      obtain rfl : p = q := by simpa using h1
      exact h2
  rw [List.length_drop] at hl12
  have hfu := h.fuel
  obtain ⟨f, rfl⟩ : ∃ g, f = g + 1 := ⟨f - 1, by omega⟩
  have he := h.eq
  have hs : scanG (f + 1) (b.drop k) = (p :: (scanG f (b.drop (k + (p.length + 12)))).1, p.length + 12 + (scanG f (b.drop (k + (p.length + 12)))).2.1, (scanG f (b.drop (k + (p.length + 12)))).2.2) := by
    simp only [scanG, hx, List.drop_drop]
  rw [hs] at he
  have hw12 : Below wr.heap.size wr w2 := hb.trans (hb2.mono hb.size)
  have hle := h.below.size
  refine ⟨f, vs ++ [y], ps ++ [p], by omega, by omega, ?_, ho, ⟨by simp [h.lists.1], fun i u q hu hq => ?_⟩, by have := h.few; simp; omega, (h.below.trans (hw12.mono h.below.size)).grown hg (Nat.le_trans h.below.size hw12.size) (fun j hj => (h.own.lt j hj).1)⟩
  · rw [he]
    refine Prod.ext (by simp) (Prod.ext ?_ rfl)
    show k + (p.length + 12 + _) = k + (p.length + 12) + _
    omega
  · rcases Nat.lt_or_ge i vs.length with hi | hi
    · rw [List.getElem?_append_left hi] at hu
      rw [List.getElem?_append_left (by rw [← h.lists.1]; exact hi)] at hq
      obtain ⟨h1, h2⟩ := h.lists.2 i u q hu hq
      refine ⟨(h1.below hw12).grown hg fun j hj => (h2 j hj).2.1, fun j hj => ⟨(h2 j hj).1, ?_, Nat.lt_of_lt_of_le (h2 j hj).2.2 (Nat.le_trans hw12.size hg.size)⟩⟩
      rcases hof with e | e
      · rw [e]; exact (h2 j hj).2.1
      · rw [e]; intro e; injection e with e; have := (h2 j hj).2.2; have := hw12.size; omega
    · rw [List.getElem?_append_right hi] at hu
      rw [List.getElem?_append_right (by rw [← h.lists.1]; exact hi), ← h.lists.1] at hq
      obtain ⟨rfl, h0⟩ : u = y ∧ i - vs.length = 0 := by
        rcases Nat.eq_zero_or_pos (i - vs.length) with e | e
        · rw [e] at hu; simp at hu; exact ⟨hu.symm, e⟩
        · rw [List.getElem?_eq_none (by simp; omega)] at hu; cases hu
      rw [h0] at hq
      obtain rfl : p = q := by simpa using hq
      have hlt := fun j hj => hy.lt j hj
      have hne : ∀ j, u.ownBlock = some j → some j ≠ v.ownBlock := fun j hj e => by
        have h1 := h.own.lt j e.symm
        have h2 := hlt j hj
        omega
      refine ⟨((owns_in hy (by unfold maxLen; omega)).below hb2).grown hg hne, fun j hj => ⟨Nat.le_trans hle (hlt j hj).1, ?_, Nat.lt_of_lt_of_le (hlt j hj).2 (Nat.le_trans hb2.size hg.size)⟩⟩
      rcases hof with e | e
      · rw [e]; exact hne j hj
      · rw [e]; intro e; injection e with e; have := (hlt j hj).2; have := hb2.size; omega
end Go.Proofs.YteokgklfljhcaaaGreatDoor
namespace Go.Proofs.YteokgklfljhcaaaGreatDoor
set_option linter.unusedVariables false
set_option linter.unusedSimpArgs false
open Go.RowKit
set_option maxRecDepth 100000
theorem Only.grown {p : Nat} {w w' : World} (h : Only p w w') : w.grownBy w' (some p) := ⟨h.os, h.tape, h.output, h.size, fun k hk hne => h.block k hk fun e => hne (by rw [e])⟩
end Go.Proofs.YteokgklfljhcaaaGreatDoor
namespace Go.Proofs.YteokgklfljhcaaaGreatDoor
set_option linter.unusedVariables false
set_option linter.unusedSimpArgs false
open Go.RowKit
set_option maxRecDepth 100000
end Go.Proofs.YteokgklfljhcaaaGreatDoor
namespace Go.Proofs.YteokgklfljhcaaaGreatDoor
set_option linter.unusedVariables false
set_option linter.unusedSimpArgs false
open Go.RowKit
set_option maxRecDepth 100000
/-- rows of 32 bytes below a mark -/
structure Has2 (w w' : World) (b r B : Nat) (v : Nat → Int) : Prop where
  below : Below w.heap.size w w'
  val : RowAt w' b .u8 32 23 v
  res : RowAt w' r .u8 32 23 (fun _ => 0)
  size : B ≤ w'.heap.size
  hb : b < B
  hr : r < B
  wB : w.heap.size ≤ B
theorem Has2.calls {w w' w2 : World} {b r B : Nat} {v : Nat → Int} (m : Has2 w w' b r B v) (h : Below B w' w2) : Has2 w w2 b r B v :=
  ⟨m.below.trans (h.mono m.wB), m.val.below h m.hb, m.res.below h m.hr, Nat.le_trans m.size h.size, m.hb, m.hr, m.wB⟩
theorem Has2.call {w w' w2 : World} {b r B : Nat} {v : Nat → Int} (m : Has2 w w' b r B v) (h : Below w'.heap.size w' w2) : Has2 w w2 b r B v := m.calls (h.mono m.size)
theorem Has2.put {w w' : World} {b r B : Nat} {v : Nat → Int} (m : Has2 w w' b r B v) (h : w.heap.size ≤ b) (hbr : b ≠ r) (v' : Nat → Int) : Has2 w (w'.setRow b (rowOf .u8 32 v')) b r B v' :=
  ⟨below_setRow m.below h _, setRow_heap _ _ _ _ _ _ m.val, (setRow_other _ _ _ _ (Ne.symm hbr)).trans m.res, by simpa [World.setRow] using m.size, m.hb, m.hr, m.wB⟩
end Go.Proofs.YteokgklfljhcaaaGreatDoor
namespace Go.Proofs.YteokgklfljhcaaaGreatDoor
set_option linter.unusedVariables false
set_option linter.unusedSimpArgs false
open Go.RowKit
set_option maxRecDepth 100000
theorem HasR.mark {w w' : World} {B : Nat} {rows : List (Nat × (Nat → Int))} (m : HasR w w' B rows) : HasR w' w' w'.heap.size rows :=
  ⟨Below.refl _ _, fun p hp => ⟨(m.row p hp).1, (m.row p hp).1.lt⟩, m.env, Nat.le_refl _, m.env.lt, Nat.le_refl _⟩
end Go.Proofs.YteokgklfljhcaaaGreatDoor
namespace Go.Proofs.YteokgklfljhcaaaGreatDoor
set_option linter.unusedVariables false
set_option linter.unusedSimpArgs false
open Go.RowKit
set_option maxRecDepth 100000
end Go.Proofs.YteokgklfljhcaaaGreatDoor
namespace Go.Proofs.YteokgklfljhcaaaGreatDoor
set_option linter.unusedVariables false
set_option linter.unusedSimpArgs false
open Go.RowKit
set_option maxRecDepth 100000
end Go.Proofs.YteokgklfljhcaaaGreatDoor
namespace Go.Proofs.YteokgklfljhcaaaGreatDoor
set_option linter.unusedVariables false
set_option linter.unusedSimpArgs false
open Go.RowKit
set_option maxRecDepth 100000
structure SgM (w2 w' : World) (b : Nat) (f : Nat → Int) (gb go : Nat) (L : List Nat) (s : Value) (l : List Int) : Prop where
  below : Below w2.heap.size w2 w'
  val : RowAt w' b .u8 32 23 f
  hb : b < w2.heap.size
  hg : gb < w2.heap.size
  cells : ∀ i x, (natInts L)[i]? = some x → w'.cell? ⟨gb, go + i, none⟩ = some (.int .i64 x)
  bytes : BytesIn w' s l
theorem SgM.calls {w2 w' w3 : World} {b : Nat} {f : Nat → Int} {gb go : Nat} {L : List Nat} {s : Value} {l : List Int} (m : SgM w2 w' b f gb go L s l) (h : Below w'.heap.size w' w3) : SgM w2 w3 b f gb go L s l :=
  ⟨m.below.trans (h.mono m.below.size), m.val.below h m.val.lt, m.hb, m.hg, fun i x hi => (h.cell (p := ⟨gb, go + i, none⟩) (World.block_lt_of_cell? w' _ (m.cells i x hi))).trans (m.cells i x hi), m.bytes.below h⟩
theorem SgM.with {w2 w' : World} {b : Nat} {f : Nat → Int} {gb go : Nat} {L : List Nat} {s s' : Value} {l l' : List Int} (m : SgM w2 w' b f gb go L s l) (h : BytesIn w' s' l') : SgM w2 w' b f gb go L s' l' := ⟨m.below, m.val, m.hb, m.hg, m.cells, h⟩
end Go.Proofs.YteokgklfljhcaaaGreatDoor
