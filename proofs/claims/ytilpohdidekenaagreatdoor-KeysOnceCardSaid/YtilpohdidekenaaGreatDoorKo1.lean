/- Part 1 of the proof. -/
import Derived.Lib.SmallJoins
import Derived.Deep.Fields
import Derived.ChangeSame
import Derived.Test.YtilpohdidekenaaGreatDoorKl36
import Derived.Test.YtilpohdidekenaaGreatDoorKl8
import Derived.Test.YtilpohdidekenaaGreatDoorKl2
namespace Go.Proofs.YtilpohdidekenaaGreatDoor
set_option linter.unusedVariables false
set_option linter.unusedSimpArgs false
open Go.ChangeShapes Go.WideShapes Go.ChangeAt Go.RowKit Go.Proofs
set_option maxRecDepth 100000
/-- an Act -/
structure OT where
  kind : Int
  n : Int
  dv : Value
  data : List Int
  kv : Value
  keep : List Int
instance : Inhabited OT := ⟨⟨0, 0, .slice none 0 0, [], .slice none 0 0, []⟩⟩
def OT.cells (t : OT) : List Value := [.int .i64 t.kind, .int .i64 t.n, t.dv, t.kv]
structure KOk (W : World) (t : OT) : Prop where
  kind : -9223372036854775808 ≤ t.kind ∧ t.kind ≤ 9223372036854775807
  n : -9223372036854775808 ≤ t.n ∧ t.n ≤ 9223372036854775807
  data : BytesIn W t.dv t.data
  dataOk : bytesOk t.data
  keep : NumsIn W.heap.size W t.kv t.keep
theorem kcellsI : Tryz.prog.cellsOf 3 = 1 := by kernel_rfl
theorem kcellsB : Tryz.prog.cellsOf 26 = 1 := by kernel_rfl
theorem kcellsK : Tryz.prog.cellsOf 58 = 1 := by kernel_rfl
theorem kcellsA : Tryz.prog.cellsOf 60 = 4 := by kernel_rfl
theorem kone_of_take {α : Type} {l : List α} {k : Nat} {v : α} (h : (l.drop k).take 1 = [v]) : l[k]? = some v := by
  have h1 : ((l.drop k).take 1)[0]? = some v := by rw [h]; rfl
  rw [List.getElem?_take, if_pos (by omega), List.getElem?_drop, Nat.add_zero] at h1
  exact h1
theorem knums_raw {H : Type} {enc : TypeId × Value → H} {W : World} {fuel : Nat} {cs : List Value} {x : DataW H × List MemPlace} (h : DataW.trod enc Tryz.prog W 0 (fun _ => true) true fuel 58 cs = some x) :
    ∃ v ks, cs = [v] ∧ NumsIn W.heap.size W v ks := by
  rcases open_ints Tryz.underlying58 Tryz.underlying3 (by kernel_rfl) h with ⟨hcs, hx⟩ | ⟨a, l, c, zs, hcs, _, hl, hm, hz, hx, hcell, hwz⟩
  · exact ⟨_, [], hcs, ⟨_, _, rfl, by simp, by simp [maxLen], .inl rfl⟩⟩
  · simp only [if_true] at hz
    have hlen : (zs.take l).length = l := by rw [List.length_take]; omega
    refine ⟨_, zs.take l, hcs, ⟨some a, c, by rw [hlen], by rw [hlen]; exact hl, hm, ?_⟩⟩
    by_cases hl0 : l = 0
    · left; subst hl0; simp
    · right
      obtain ⟨b, off, spot⟩ := a
      have h0 := hcell 0 (by omega)
      have hspot : spot = none := by simpa [Addr.add] using World.cell?_spot h0
      subst hspot
      refine ⟨b, off, rfl, .inl ?_, fun i y hi => ?_⟩
      · have := World.block_lt_of_cell? W _ h0
        simpa [Addr.add] using this
      · have hil : i < l := by have := (List.getElem?_eq_some_iff.1 hi).1; omega
        rw [List.getElem?_take, if_pos hil] at hi
        have := hcell i (by omega)
        rw [Addr.add_mid] at this
        rw [this]
        simp [List.getD, hi]
theorem kact_raw {H : Type} {enc : TypeId × Value → H} {W : World} {fuel : Nat} {cs : List Value} {x : DataW H × List MemPlace} (h : DataW.trod enc Tryz.prog W 0 (fun _ => true) true fuel 60 cs = some x) :
    ∃ t : OT, cs = t.cells ∧ KOk W t := by
  obtain ⟨xs, m, _, rfl, hlen, hxl, hf⟩ := DataW.trod_struct Tryz.underlying60 h
  rw [kcellsA] at hlen
  simp only [List.size_toArray, List.length_cons, List.length_nil] at hxl
  have g : ∀ i, i < 4 → ∃ y, xs[i]? = some y := fun i hi => ⟨xs[i], List.getElem?_eq_getElem (by omega)⟩
  obtain ⟨y0, e0⟩ := g 0 (by omega)
  obtain ⟨y1, e1⟩ := g 1 (by omega)
  obtain ⟨y2, e2⟩ := g 2 (by omega)
  obtain ⟨y3, e3⟩ := g 3 (by omega)
  have f0 : DataW.trod enc Tryz.prog W 0 (fun _ => true) true m 3 ((cs.drop 0).take (Tryz.prog.cellsOf 3)) = xs[0]? := hf 0 _ rfl
  have f1 : DataW.trod enc Tryz.prog W 0 (fun _ => true) true m 3 ((cs.drop 1).take (Tryz.prog.cellsOf 3)) = xs[1]? := hf 1 _ rfl
  have f2 : DataW.trod enc Tryz.prog W 0 (fun _ => true) true m 26 ((cs.drop 2).take (Tryz.prog.cellsOf 26)) = xs[2]? := hf 2 _ rfl
  have f3 : DataW.trod enc Tryz.prog W 0 (fun _ => true) true m 58 ((cs.drop 3).take (Tryz.prog.cellsOf 58)) = xs[3]? := hf 3 _ rfl
  rw [e0, kcellsI] at f0
  rw [e1, kcellsI] at f1
  rw [e2, kcellsB] at f2
  rw [e3, kcellsK] at f3
  obtain ⟨kd, hk, _, wk⟩ := DataW.trod_int Tryz.underlying3 f0
  obtain ⟨nn, hn, _, wn⟩ := DataW.trod_int Tryz.underlying3 f1
  obtain ⟨bv, bs, hb, hbin, hbok, _, _, _⟩ := bytes_raw f2
  obtain ⟨kv, ks, hkv, hkin⟩ := knums_raw f3
  have hk0 := kone_of_take hk
  have hn0 := kone_of_take hn
  have hb0 := kone_of_take hb
  have hkv0 := kone_of_take hkv
  refine ⟨⟨kd, nn, bv, bs, kv, ks⟩, ?_, ⟨bounds_i64 wk, bounds_i64 wn, hbin, hbok, hkin⟩⟩
  apply List.ext_getElem?
  intro i
  rcases (by omega : i = 0 ∨ i = 1 ∨ i = 2 ∨ i = 3 ∨ 4 ≤ i) with rfl | rfl | rfl | rfl | h3
  · rw [hk0]; rfl
  · rw [hn0]; rfl
  · rw [hb0]; rfl
  · rw [hkv0]; rfl
  · rw [List.getElem?_eq_none (by omega), List.getElem?_eq_none (by simp [OT.cells]; omega)]
structure KActAt (W : World) (b o : Nat) (t : OT) : Prop where
  cells : W.rangeAt b o t.cells
  ok : KOk W t
def KActsIn (W : World) (v : Value) (ts : List OT) : Prop :=
  ∃ a cap, v = .slice a ts.length cap ∧ ts.length ≤ cap ∧ ts.length ≤ maxLen ∧ (ts = [] ∨ ∃ b off, a = some ⟨b, off, none⟩ ∧ b < W.heap.size ∧ ∀ i t, ts[i]? = some t → KActAt W b (off + i * 4) t)
theorem kacts_arg {H : Type} {enc : TypeId × Value → H} {W : World} {a : Option Addr} {len cap : Nat} {d : DataW H} {p : List MemPlace} (h : DataW.Trod enc Tryz.prog W 0 (fun _ => true) true 49 (.slice a len cap) d p) :
    ∃ ts : List OT, ts.length = len ∧ KActsIn W (.slice a len cap) ts := by
  obtain ⟨fuel, hf⟩ := h
  rcases Deep.open_slice Tryz.underlying49 hf with ⟨hcs, hx⟩ | ⟨x, l, c, m, n, D, Pl, hcs, _, hl, hm, hmm, hx, hel⟩
  · simp [Value.cells] at hcs
    obtain ⟨rfl, rfl, rfl⟩ := hcs
    exact ⟨[], rfl, ⟨_, _, rfl, by simp, by simp [maxLen], .inl rfl⟩⟩
  · simp [Value.cells] at hcs
    obtain ⟨rfl, rfl, rfl⟩ := hcs
    simp only [if_true] at hmm
    simp only [Prod.mk.injEq] at hx
    obtain ⟨rfl, _⟩ := hx
    have key : ∀ i, i < len → ∃ t : OT, (∀ j v, t.cells[j]? = some v → W.cell? (x.add (i * 4 + j)) = some v) ∧ KOk W t := by
      intro i hi
      obtain ⟨cs', h1, h2⟩ := hel i (by omega)
      rw [kcellsA] at h1
      obtain ⟨_, hlen, hcell⟩ := World.cells?_some h1
      obtain ⟨t, rfl, hok⟩ := kact_raw h2
      refine ⟨t, fun j v hv => ?_, hok⟩
      have hj : j < 4 := by have := (List.getElem?_eq_some_iff.1 hv).1; exact this
      rw [← hv, ← hcell j hj]
      by_cases hj0 : j = 0 <;> by_cases hi0 : i * 4 = 0 <;> simp [hj0, hi0, Addr.add, Nat.add_assoc]
    obtain ⟨F, hF⟩ := Deep.choose_lt key
    have hget : ∀ i t, ((List.range len).map F)[i]? = some t → i < len ∧ F i = t := fun i t hi => by
      have hil : i < len := by have := (List.getElem?_eq_some_iff.1 hi).1; simpa using this
      rw [List.getElem?_map, List.getElem?_range hil] at hi
      cases hi; exact ⟨hil, rfl⟩
    refine ⟨(List.range len).map F, by simp, ⟨some x, cap, by simp, by simp; omega, by simp; omega, ?_⟩⟩
    by_cases hl0 : len = 0
    · left; subst hl0; rfl
    · right
      obtain ⟨b, off, spot⟩ := x
      have h0 := (hF 0 (by omega)).1 0 _ rfl
      have hspot : spot = none := by simpa [Addr.add] using World.cell?_spot h0
      subst hspot
      refine ⟨b, off, rfl, World.block_lt_of_cell? _ _ h0, fun i t hi => ?_⟩
      obtain ⟨hil, rfl⟩ := hget i t hi
      refine ⟨fun j v hv => ?_, (hF i hil).2⟩
      have := (hF i hil).1 j v hv
      rw [Addr.add_mid] at this
      rw [Nat.add_assoc]; exact this
end Go.Proofs.YtilpohdidekenaaGreatDoor
namespace Go.Proofs.YtilpohdidekenaaGreatDoor
set_option linter.unusedVariables false
set_option linter.unusedSimpArgs false
open Go.RowKit Go.Maps Go.Proofs
set_option maxRecDepth 100000
section
variable {B : Nat} {w : World} {p : Nat} {st st' : St} {nm : ByteArray} {bs : List (Value × List Int)}
theorem aFind_cases (st : St) (s : ByteArray) : (∃ x, x ≠ 8 ∧ aFind st s = (some x, none)) ∨ aFind st s = (some 8, none) ∨ ∃ f, aFind st s = (none, some f) := by
  unfold aFind
  cases hc : checkE st.down [s] with
  | some x =>
    by_cases h : x = 8
    · subst h; exact .inr (.inl rfl)
    · exact .inl ⟨x, h, rfl⟩
  | none =>
    simp only
    cases aget s.data.toList st.L with
    | some f => exact .inr (.inr ⟨f, rfl⟩)
    | none => exact .inr (.inl rfl)
theorem kcounted_of (h : FsX B w p st bs) (he : KEnv B w) (hn : nm.size ≤ maxLen) (k : Nat) (hk : k ≤ 1048576) (hsp : st.steps < 4611686018427387904) (hf : ∀ f, aFind st nm = (none, some f) → bytesOk f.xs ∧ f.xs.length ≤ 16777216) (v : Nat) (hc : countedS st nm k = ((v, none), st')) :
    Calls Tryz.prog 41 #[.pointer (some ⟨p, 0, none⟩), .string nm, .int .i64 (k : Int)] w (CountedPost B p bs v st' w) := by
  unfold countedS at hc
  rcases aFind_cases st nm with ⟨x, hx, e⟩ | e | ⟨f, e⟩
  · rw [e] at hc
    simp only at hc
    rw [if_neg hx] at hc
    cases hc
  · rw [e] at hc
    simp only [if_true] at hc
    cases hc
    exact kcounted_none h hn k e
  · rw [e] at hc
    simp only [afXs] at hc
    obtain ⟨hb, hl⟩ := hf f e
    obtain ⟨ps, n, g, hs⟩ : ∃ ps n g, scanF f.xs = (ps, n, g) := ⟨_, _, _, rfl⟩
    rw [hs] at hc
    obtain ⟨u, x, hls⟩ : ∃ u x, lastS k ps = (u, x) := ⟨_, _, rfl⟩
    cases g with
    | none =>
      simp only [hls] at hc
      cases hc
      exact kcounted_whole h he hn k hk f e hb hl ps n hs v hls
    | some y =>
      simp only at hc
      by_cases hy : y = 12
      · subst hy
        simp only [if_true, hls] at hc
        cases x with
        | some z => simp only at hc; cases hc
        | none =>
          simp only at hc
          obtain ⟨ec, sc, hcut⟩ : ∃ ec sc, aCut st nm (n : Int) = (ec, sc) := ⟨_, _, rfl⟩
          rw [hcut] at hc
          cases hc
          exact kcounted_torn h he hn k hk f e hb hl ps n hs _ hls _ hcut hsp
      · rw [if_neg hy] at hc; cases hc
end
/-- sixteen truths -/
def usedC (U : Nat → Bool) : Array Value := ((List.range 16).map fun i => Value.bool (U i)).toArray
theorem usedC_get (U : Nat → Bool) (i : Nat) (h : i < 16) : (usedC U)[i]? = some (.bool (U i)) := by simp [usedC, h]
theorem usedC_set (U : Nat → Bool) (j : Nat) : (usedC U).setIfInBounds j (.bool true) = usedC (fun i => if i = j then true else U i) := by
  unfold usedC
  apply Array.ext'
  rw [List.setIfInBounds_toArray]
  apply List.ext_getElem?
  intro i
  rw [List.getElem?_set]
  by_cases h : j = i
  · subst h
    by_cases hj : j < 16
    · simp [hj]
    · simp [hj]
  · rw [if_neg h]
    by_cases hi : i < 16
    · simp [hi, Ne.symm h]
    · simp [hi]
def nmC : ByteArray := { data := #[99, 111, 117, 110, 116] }
/-- what lies in memory in KeysOnce: seed, params, root, the truths, the Signer -/
structure OnM (w w1 w' : World) (p h b : Nat) (F R : Nat → Int) (D k : Nat) (g gl : Nat) (st : St) (u : Nat) (fail : Option Nat) (U : Nat → Bool) (bs : List (Value × List Int)) : Prop where
  m : SgX w1.heap.size w' g p st nmC F D k gl u fail bs
  seed : RowAt w' w.heap.size .u8 32 23 F
  par : w'.heap[w.heap.size + 1]? = some (.cells (parC (D : Int) (k : Int)) 25 (0, 0))
  root : RowAt w' h .u8 32 23 R
  used : w'.heap[b]? = some (.cells (usedC U) 4 (0, 0))
  below : Below w1.heap.size w1 w'
  lt : w.heap.size + 1 < w1.heap.size
section
variable {w w1 w' w2 : World} {p h b : Nat} {F R : Nat → Int} {D k : Nat} {g gl : Nat} {st st' : St} {u u' : Nat} {fail fail' : Option Nat} {U : Nat → Bool} {bs cs : List (Value × List Int)}
theorem OnM.call (x : OnM w w1 w' p h b F R D k g gl st u fail U bs) (hb : Below w'.heap.size w' w2) : OnM w w1 w2 p h b F R D k g gl st u fail U bs :=
  ⟨x.m.below hb, x.seed.below hb x.seed.lt, (hb.block _ (heap_lt' x.par)).trans x.par, x.root.below hb x.root.lt, (hb.block _ (heap_lt' x.used)).trans x.used, x.below.trans (hb.mono x.m.fs.le), x.lt⟩
theorem OnM.turn {g' gl' : Nat} (x : OnM w w1 w' p h b F R D k g gl st u fail U bs) (m : SgX w1.heap.size w2 g' p st' nmC F D k gl' u' fail' cs) (hb : Below w1.heap.size w' w2) (hk : KeepS w' w2) : OnM w w1 w2 p h b F R D k g' gl' st' u' fail' U cs :=
  ⟨m, (hb.block _ (by have := x.lt; omega)).trans x.seed, (hb.block _ x.lt).trans x.par, hk _ _ _ x.root (by decide) (by decide) (by decide), hk _ _ _ x.used (by decide) (by decide) (by decide), x.below.trans hb, x.lt⟩
theorem OnM.cell (x : OnM w w1 w' p h b F R D k g gl st u fail U bs) (i : Nat) (hi : i < 16) : w'.cell? ⟨b, i, none⟩ = some (.bool (U i)) := by rw [cell_of_row _ _ _ _ _ _ x.used]; exact usedC_get U i hi
theorem OnM.free (x : OnM w w1 w' p h b F R D k g gl st u fail U bs) (i : Nat) : w'.frozen? ⟨b, i, none⟩ = false := frozen_of_row w' b i _ _ x.used
theorem OnM.depth (x : OnM w w1 w' p h b F R D k g gl st u fail U bs) : w'.cell? ⟨w.heap.size + 1, 1, none⟩ = some (.int .i64 (k : Int)) := by rw [cell_of_row _ _ _ _ _ _ x.par]; rfl
/-- bytes that came in are beside the files -/
theorem OnM.arg {v : Value} {xs : List Int} (x : OnM w w1 w' p h b F R D k g gl st u fail U bs) (hx : BytesIn w v xs) (hb : Below w.heap.size w w') : OnM w w1 w' p h b F R D k g gl st u fail U ((v, xs) :: bs) :=
  ⟨⟨x.m.env, x.m.fs.add (Below.refl _ _) (hx.below hb) (fun hn j hj => .inl (by have := bytes_own_lt hx hn j hj; have := x.lt; omega)), x.m.cells, x.m.leaves, x.m.gB, x.m.nmS, x.m.dOk, x.m.kOk, x.m.uOk⟩, x.seed, x.par, x.root, x.used, x.below, x.lt⟩
theorem OnM.bare (x : OnM w w1 w' p h b F R D k g gl st u fail U bs) : OnM w w1 w' p h b F R D k g gl st u fail U [] :=
  ⟨x.m.sub (fun _ hb => by cases hb), x.seed, x.par, x.root, x.used, x.below, x.lt⟩
/-- a truth is set -/
theorem OnM.mark (x : OnM w w1 w' p h b F R D k g gl st u fail U []) (hb : w1.heap.size ≤ b) (i : Nat) : OnM w w1 (w'.setCell ⟨b, i, none⟩ (.bool true)) p h b F R D k g gl st u fail (fun j => if j = i then true else U j) [] := by
  have hO := Only.setCell w' ⟨b, i, none⟩ (.bool true)
  have hbl : Below w1.heap.size w' (w'.setCell ⟨b, i, none⟩ (.bool true)) := hO.below hb x.m.fs.le
  have hne : ∀ {q : Nat} {c : Array Value} {T : TypeId}, w'.heap[q]? = some (.cells c T (0, 0)) → T ≠ 4 → q ≠ b := fun hq hT e => by
    subst e
    have := x.used
    rw [hq] at this; injection this with this; injection this with _ this; exact hT this
  obtain ⟨Rf, h1, h2, h3, _⟩ := x.m.fs
  have hrd : ∀ o, ¬ Reads Rf b o := h1.fs.typed x.used (by decide) (by decide)
  have hk : Keep (fun k _ => k = b) w' (w'.setCell ⟨b, i, none⟩ (.bool true)) := .setCell w' b i _ _ _ x.used rfl
  obtain ⟨cs, e1, e2, e3⟩ := x.m.leaves
  refine ⟨⟨x.m.env.below hbl, ⟨Rf, ⟨h1.fs.keep hk fun k o hf => by subst hf; exact hrd o, h1.reads, Nat.le_trans h1.le hk.size⟩, h2, h3, fun b hb => by cases hb⟩, (hO.block _ (heap_lt' x.m.cells) (hne x.m.cells (by decide))).trans x.m.cells, ⟨cs, (hO.block _ (heap_lt' e1) (hne e1 (by decide))).trans e1, e2, e3⟩, x.m.gB, x.m.nmS, x.m.dOk, x.m.kOk, x.m.uOk⟩, (hO.block _ x.seed.lt (hne x.seed (by decide))).trans x.seed, (hO.block _ (heap_lt' x.par) (hne x.par (by decide))).trans x.par, (hO.block _ x.root.lt (hne x.root (by decide))).trans x.root, ?_, x.below.trans hbl, x.lt⟩
  rw [heap_setCell_same w' b i _ _ _ x.used, usedC_set]
end
theorem KEnv.up {B B' : Nat} {w : World} (h : KEnv B w) (hB : B ≤ B') : KEnv B' w := ⟨h.env, h.nib, h.err, Nat.lt_of_lt_of_le h.c1 hB, Nat.lt_of_lt_of_le h.c2 hB, Nat.lt_of_lt_of_le h.c3 hB⟩
theorem onums_up {B B' : Nat} {w w' : World} {v : Value} {ks : List Int} (h : NumsIn B w v ks) (hb : Below w.heap.size w w') (hB : w.heap.size ≤ B') : NumsIn B' w' v ks := by
  obtain ⟨a, cap, rfl, h1, h2, h3⟩ := h
  refine ⟨a, cap, rfl, h1, h2, ?_⟩
  cases ks with
  | nil => exact .inl rfl
  | cons k t =>
    right
    rcases h3 with h3 | ⟨ab, ao, rfl, _, hc⟩
    · cases h3
    · have hlt := World.block_lt_of_cell? w _ (hc 0 k rfl)
      exact ⟨ab, ao, rfl, .inl (by simp only at hlt; omega), fun i x hi => (hb.cell (p := ⟨ab, ao + i, none⟩) hlt).trans (hc i x hi)⟩
/-- a start of the files beside a Signer -/
theorem start_x {B p : Nat} {w : World} {st : St} {bs : List (Value × List Int)} (h : FsX B w p st bs) (kv : Value) (ks : List Int) (hk : NumsIn B w kv ks) :
    Calls Tryz.prog 23 #[.pointer (some ⟨p, 0, none⟩), kv] w fun r w' => r = .returned (.tuple #[]) ∧ FsX B w' p (aStart st ks) bs ∧ Below B w w' ∧ KeepT w w' := by
  obtain ⟨R, h1, h2, h3, h4⟩ := h
  subst h2
  refine (start_abs R w h1.fs kv ks (hk.keep h1)).mono ?_
  rintro e w' ⟨he, R', hs, ha⟩
  have hx := FsX.step h1 h4 hs
  rw [ha, h3] at hx
  exact ⟨he, hx, (h1.step hs).2, hs.typed h1.fs⟩
/-- the counter of one that lives: how many leaves are counted, in how many steps at most -/
structure Lives (st : St) (u i : Nat) : Prop where
  inv : CInv nmC st u
  steps : st.steps ≤ 3 * i
theorem Lives.arm {st : St} {u i : Nat} (h : Lives st u i) (n : Int) : Lives (aArm st n).2 u (i + 1) := by
  unfold aArm
  have h2 := h.steps
  split
  · exact ⟨h.inv, by simp only; omega⟩
  · split
    · exact ⟨h.inv, by simp only; omega⟩
    · exact ⟨h.inv, by simp only; omega⟩
theorem Lives.up {st : St} {u i j : Nat} (h : Lives st u i) (hj : i ≤ j) : Lives st u j := ⟨h.inv, by have := h.steps; omega⟩
theorem oact_cells {w : World} {a : Nat} {x y z v : Value} (h : w.heap[a]? = some (.cells #[x, y, z, v] 60 (0, 0))) : w.cell? ⟨a, 0, none⟩ = some x ∧ w.cell? ⟨a, 1, none⟩ = some y ∧ w.cell? ⟨a, 2, none⟩ = some z ∧ w.cell? ⟨a, 3, none⟩ = some v :=
  ⟨by rw [cell_of_row _ _ _ _ _ _ h]; rfl, by rw [cell_of_row _ _ _ _ _ _ h]; rfl, by rw [cell_of_row _ _ _ _ _ _ h]; rfl, by rw [cell_of_row _ _ _ _ _ _ h]; rfl⟩
end Go.Proofs.YtilpohdidekenaaGreatDoor
