/- For every Case and two commits, TypesThird returns true and leaves its arguments as they were. Conditions: errors.errorType and the two tables of package sha read as the program's text lays them, which the card ties to that text; no piece of what came in is larger than the reach. -/
import Derived.ProofKit
import Derived.LaidMore
import Derived.OpenShut
import Derived.Stop.Joined
import Derived.Stop.LaidErr
import Derived.Lib.LaidTab
import Derived.LaidHandle
import Derived.SizedLaws
import Derived.Carry
import Derived.Test.YtabflppnecemkaaDoorTie
import Derived.Test.YtabflppnecemkaaDoorCards
import Derived.SevenTiedAt
import Derived.Test.YtabflppnecemkaaDoorTh5
import Derived.Test.YtabflppnecemkaaDoorTh9
import Derived.Test.YtabflppnecemkaaDoorTh21
import Derived.Test.YtabflppnecemkaaDoorTh26
namespace Go.Proofs.YtabflppnecemkaaDoor
set_option linter.unusedVariables false
set_option linter.unusedSimpArgs false
open Go.ChangeShapes Go.WideShapes Go.ChangeAt Go.RowKit Go.Proofs
set_option maxRecDepth 100000
set_option linter.unusedSimpArgs false
set_option linter.unusedVariables false
theorem dcut {α : Type} (cs : List α) (o k m : Nat) (h : m = o + k) : cs.drop o = (cs.drop o).take k ++ cs.drop m := by rw [h, ← List.drop_drop, List.take_append_drop]
theorem dend {α : Type} (cs : List α) (m : Nat) (h : cs.length = m) : cs.drop m = [] := List.drop_of_length_le (by omega)
theorem weights_allT {H : Type} {P : Program} {e : TypeId} : ∀ {l : List (DataW H)} {d : DataW H}, d ∈ l → ∀ n ∈ d.weights P e, n ∈ DataW.weightsAll P e l
  | x :: r, d, h, n, hn => by
    simp only [DataW.weightsAll]
    rcases List.mem_cons.1 h with rfl | h
    · exact List.mem_append_left _ hn
    · exact List.mem_append_right _ (weights_allT h n hn)
/-- a slice of rows that came in, with what each weighs -/
theorem rows_rawW {H α : Type} {enc : TypeId × Value → H} {W : World} {T E : TypeId} {n : Nat} (hT : Tryd.prog.underlying T = some (.slice E)) (hn : Tryd.prog.cellsOf E = n) (hn0 : 0 < n) (C : α → List Value) (hC : ∀ t, (C t).length = n) (Ok : α → DataW H → Prop)
    (hel : ∀ (f : Nat) (cs : List Value) (x : DataW H × List MemPlace), DataW.trod enc Tryd.prog W 0 (fun _ => true) true f E cs = some x → ∃ t, cs = C t ∧ Ok t x.1)
    {fuel : Nat} {cs : List Value} {x : DataW H × List MemPlace} (h : DataW.trod enc Tryd.prog W 0 (fun _ => true) true fuel T cs = some x) :
    ∃ (ts : List α) (v : Value), cs = [v] ∧ RowsIn n C W v ts ∧ ∀ t ∈ ts, ∃ d, Ok t d ∧ ∀ m ∈ d.weights Tryd.prog E, m ∈ x.1.weights Tryd.prog T := by
  rcases Deep.open_slice hT h with ⟨hcs, hx⟩ | ⟨ad, l, c, m, f, D, Pl, hcs, _, hl, hm, hmm, hx, hel2⟩
  · exact ⟨[], _, hcs, ⟨none, 0, rfl, by simp, by simp [maxLen], .inl rfl⟩, by simp⟩
  · simp only [if_true] at hmm
    subst hx
    rw [hn] at hel2
    have key : ∀ i, i < l → ∃ t : α, (∀ j v, (C t)[j]? = some v → W.cell? (ad.add (i * n + j)) = some v) ∧ Ok t (D i) := by
      intro i hi
      obtain ⟨cs', h1, h2⟩ := hel2 i (by omega)
      obtain ⟨_, hlen, hcell⟩ := World.cells?_some h1
      obtain ⟨t, rfl, hok⟩ := hel f _ _ h2
      refine ⟨t, fun j v hv => ?_, hok⟩
      have hj : j < n := by have := (List.getElem?_eq_some_iff.1 hv).1; rw [hC] at this; exact this
      rw [← hv, ← hcell j hj]
      by_cases hj0 : j = 0 <;> by_cases hi0 : i * n = 0 <;> simp [hj0, hi0, Addr.add, Nat.add_assoc]
    by_cases hl0 : l = 0
    · subst hl0
      exact ⟨[], _, hcs, ⟨some ad, c, rfl, by simp, by simp [maxLen], .inl rfl⟩, by simp⟩
    · obtain ⟨t0, _⟩ := key 0 (by omega)
      have key2 : ∀ i, ∃ t : α, i < l → (∀ j v, (C t)[j]? = some v → W.cell? (ad.add (i * n + j)) = some v) ∧ Ok t (D i) := fun i => by
        by_cases hi : i < l
        · obtain ⟨t, ht⟩ := key i hi; exact ⟨t, fun _ => ht⟩
        · exact ⟨t0, fun h => absurd h hi⟩
      obtain ⟨F, hF⟩ : ∃ F : Nat → α, ∀ i, i < l → (∀ j v, (C (F i))[j]? = some v → W.cell? (ad.add (i * n + j)) = some v) ∧ Ok (F i) (D i) := ⟨fun i => (key2 i).choose, fun i => (key2 i).choose_spec⟩
      have hget : ∀ i t, ((List.range l).map F)[i]? = some t → i < l ∧ F i = t := fun i t hi => by
        have hil : i < l := by have := (List.getElem?_eq_some_iff.1 hi).1; simpa using this
        rw [List.getElem?_map, List.getElem?_range hil] at hi
        cases hi; exact ⟨hil, rfl⟩
      refine ⟨(List.range l).map F, _, hcs, ⟨some ad, c, by simp, by simpa using hl, by simp; omega, .inr ?_⟩, fun t ht => ?_⟩
      · obtain ⟨b, off, spot⟩ := ad
        have h1 : (C (F 0))[0]? = some (C (F 0))[0]! := by rw [List.getElem?_eq_getElem (by rw [hC]; exact hn0)]; simp [hC, hn0]
        have h0 := (hF 0 (by omega)).1 0 _ h1
        have hspot : spot = none := by simpa [Addr.add] using World.cell?_spot h0
        subst hspot
        refine ⟨b, off, rfl, by simpa [Addr.add] using World.block_lt_of_cell? _ _ h0, fun i t hi => ?_⟩
        obtain ⟨hil, rfl⟩ := hget i t hi
        intro j v hv
        have := (hF i hil).1 j v hv
        rw [Addr.add_mid] at this
        rw [Nat.add_assoc]; exact this
      · obtain ⟨i, hi, rfl⟩ := List.mem_map.1 ht
        refine ⟨D i, (hF i (List.mem_range.1 hi)).2, fun q hq => ?_⟩
        simp only [DataW.weights, hT]
        exact List.mem_cons_of_mem _ (List.mem_append_left _ (weights_allT (List.mem_map.2 ⟨i, hi, rfl⟩) _ hq))
theorem val_raw {H : Type} {enc : TypeId × Value → H} {W : World} (f : Nat) (cs : List Value) (x : DataW H × List MemPlace) (h : DataW.trod enc Tryd.prog W 0 (fun _ => true) true f 41 cs = some x) :
    ∃ t : Va, cs = (vaC t).toList ∧ ∀ b, (∀ n ∈ x.1.weights Tryd.prog 41, n ≤ b) → t.name.size ≤ b := by
  obtain ⟨xs, m, _, rfl, hlen, hxl, hf⟩ := DataW.trod_struct Tryd.underlying41 h
  rw [show Tryd.prog.cellsOf 41 = 34 by kernel_rfl] at hlen
  simp only [List.size_toArray, List.length_cons, List.length_nil] at hxl
  have g : ∀ i, i < 3 → ∃ y, xs[i]? = some y := fun i hi => ⟨xs[i], List.getElem?_eq_getElem (by omega)⟩
  obtain ⟨y0, e0⟩ := g 0 (by omega)
  obtain ⟨y1, e1⟩ := g 1 (by omega)
  obtain ⟨y2, e2⟩ := g 2 (by omega)
  have f0 : DataW.trod enc Tryd.prog W 0 (fun _ => true) true m 9 ((cs.drop 0).take (Tryd.prog.cellsOf 9)) = xs[0]? := hf 0 _ rfl
  have f1 : DataW.trod enc Tryd.prog W 0 (fun _ => true) true m 28 ((cs.drop 1).take (Tryd.prog.cellsOf 28)) = xs[1]? := hf 1 _ rfl
  have f2 : DataW.trod enc Tryd.prog W 0 (fun _ => true) true m 3 ((cs.drop 33).take (Tryd.prog.cellsOf 3)) = xs[2]? := hf 2 _ rfl
  rw [e0, show Tryd.prog.cellsOf 9 = 1 by kernel_rfl] at f0
  rw [e1, show Tryd.prog.cellsOf 28 = 32 by kernel_rfl] at f1
  rw [e2, show Tryd.prog.cellsOf 3 = 1 by kernel_rfl] at f2
  obtain ⟨s, h0, x0, _⟩ := DataW.trod_string Tryd.underlying9 f0
  obtain ⟨F, h1, _⟩ := arr_raw Tryd.underlying28 Tryd.underlying5 (by kernel_rfl) (by kernel_rfl) f1
  obtain ⟨p, h2, _, _⟩ := DataW.trod_int Tryd.underlying3 f2
  refine ⟨⟨s, F, p⟩, ?_, fun b hw => ?_⟩
  · show cs.drop 0 = _
    rw [dcut cs 0 1 1 rfl, dcut cs 1 32 33 rfl, dcut cs 33 1 34 rfl, dend cs 34 hlen, h0, h1, h2]
    simp [vaC]
  · have h4 : s.data.toList.length ∈ y0.1.weights Tryd.prog 9 := by rw [x0]; simp [DataW.weights]
    have h6 := hw _ (by simp only [DataW.weights, Tryd.underlying41]; exact DataW.weights_mem_each (j := 0) (t := 9) rfl (by rw [List.getElem?_map, e0]; rfl) _ h4)
    rw [Array.length_toList] at h6
    exact h6
theorem vote_raw {H : Type} {enc : TypeId × Value → H} {W : World} (f : Nat) (cs : List Value) (x : DataW H × List MemPlace) (h : DataW.trod enc Tryd.prog W 0 (fun _ => true) true f 39 cs = some x) :
    ∃ t : Vo, cs = (voC t).toList ∧ (VoOk t ∧ bytesOk t.sign ∧ BytesIn W t.sv t.sign ∧ ∀ b, (∀ n ∈ x.1.weights Tryd.prog 39, n ≤ b) → t.sign.length ≤ b) := by
  obtain ⟨xs, m, _, rfl, hlen, hxl, hf⟩ := DataW.trod_struct Tryd.underlying39 h
  rw [show Tryd.prog.cellsOf 39 = 37 by kernel_rfl] at hlen
  simp only [List.size_toArray, List.length_cons, List.length_nil] at hxl
  have g : ∀ i, i < 6 → ∃ y, xs[i]? = some y := fun i hi => ⟨xs[i], List.getElem?_eq_getElem (by omega)⟩
  obtain ⟨y0, e0⟩ := g 0 (by omega)
  obtain ⟨y1, e1⟩ := g 1 (by omega)
  obtain ⟨y2, e2⟩ := g 2 (by omega)
  obtain ⟨y3, e3⟩ := g 3 (by omega)
  obtain ⟨y4, e4⟩ := g 4 (by omega)
  obtain ⟨y5, e5⟩ := g 5 (by omega)
  have f0 : DataW.trod enc Tryd.prog W 0 (fun _ => true) true m 3 ((cs.drop 0).take (Tryd.prog.cellsOf 3)) = xs[0]? := hf 0 _ rfl
  have f1 : DataW.trod enc Tryd.prog W 0 (fun _ => true) true m 3 ((cs.drop 1).take (Tryd.prog.cellsOf 3)) = xs[1]? := hf 1 _ rfl
  have f2 : DataW.trod enc Tryd.prog W 0 (fun _ => true) true m 3 ((cs.drop 2).take (Tryd.prog.cellsOf 3)) = xs[2]? := hf 2 _ rfl
  have f3 : DataW.trod enc Tryd.prog W 0 (fun _ => true) true m 28 ((cs.drop 3).take (Tryd.prog.cellsOf 28)) = xs[3]? := hf 3 _ rfl
  have f4 : DataW.trod enc Tryd.prog W 0 (fun _ => true) true m 3 ((cs.drop 35).take (Tryd.prog.cellsOf 3)) = xs[4]? := hf 4 _ rfl
  have f5 : DataW.trod enc Tryd.prog W 0 (fun _ => true) true m 37 ((cs.drop 36).take (Tryd.prog.cellsOf 37)) = xs[5]? := hf 5 _ rfl
  rw [e0, show Tryd.prog.cellsOf 3 = 1 by kernel_rfl] at f0
  rw [e1, show Tryd.prog.cellsOf 3 = 1 by kernel_rfl] at f1
  rw [e2, show Tryd.prog.cellsOf 3 = 1 by kernel_rfl] at f2
  rw [e3, show Tryd.prog.cellsOf 28 = 32 by kernel_rfl] at f3
  rw [e4, show Tryd.prog.cellsOf 3 = 1 by kernel_rfl] at f4
  rw [e5, show Tryd.prog.cellsOf 37 = 1 by kernel_rfl] at f5
  obtain ⟨kd, h0, _, w0⟩ := DataW.trod_int Tryd.underlying3 f0
  obtain ⟨ht, h1, _, w1⟩ := DataW.trod_int Tryd.underlying3 f1
  obtain ⟨rd, h2, _, w2⟩ := DataW.trod_int Tryd.underlying3 f2
  obtain ⟨F, h3, _⟩ := arr_raw Tryd.underlying28 Tryd.underlying5 (by kernel_rfl) (by kernel_rfl) f3
  obtain ⟨vl, h4, _, _⟩ := DataW.trod_int Tryd.underlying3 f4
  obtain ⟨bv, bs, h5, hbin, hbok, _, _, hbd⟩ := bytes_raw f5
  refine ⟨⟨kd, ht, rd, F, vl, bv, bs⟩, ?_, ⟨bounds_i64 w0, bounds_i64 w1, bounds_i64 w2⟩, hbok, hbin, fun b hw => ?_⟩
  · show cs.drop 0 = _
    rw [dcut cs 0 1 1 rfl, dcut cs 1 1 2 rfl, dcut cs 2 1 3 rfl, dcut cs 3 32 35 rfl, dcut cs 35 1 36 rfl, dcut cs 36 1 37 rfl, dend cs 37 hlen, h0, h1, h2, h3, h4, h5]
    simp [voC]
  · rcases hbd with ⟨_, h7⟩ | ⟨elems, spare, h7, h8⟩
    · rw [h7]; exact Nat.zero_le _
    · have h9 : (elems.length + spare.length) * Tryd.prog.bytesOf 5 ∈ y5.1.weights Tryd.prog 37 := by rw [h7]; simp [DataW.weights, Tryd.underlying37]
      have h6 := hw _ (by simp only [DataW.weights, Tryd.underlying39]; exact DataW.weights_mem_each (j := 5) (t := 37) rfl (by rw [List.getElem?_map, e5]; rfl) _ h9)
      rw [bytesOfU8, Nat.mul_one] at h6
      show bs.length ≤ b
      omega
theorem commit_raw {H : Type} {enc : TypeId × Value → H} {W : World} (f : Nat) (cs : List Value) (x : DataW H × List MemPlace) (h : DataW.trod enc Tryd.prog W 0 (fun _ => true) true f 31 cs = some x) :
    ∃ (c : Cm) (v : Value) (ts : List Vo), cs = (cmC c v).toList ∧ VoIn W v ts ∧ (∀ t ∈ ts, BytesIn W t.sv t.sign) ∧ ((∀ n ∈ x.1.weights Tryd.prog 31, n ≤ 140737488351232) → ∀ t ∈ ts, VoIs t) := by
  obtain ⟨xs, m, _, rfl, hlen, hxl, hf⟩ := DataW.trod_struct Tryd.underlying31 h
  rw [show Tryd.prog.cellsOf 31 = 35 by kernel_rfl] at hlen
  simp only [List.size_toArray, List.length_cons, List.length_nil] at hxl
  have g : ∀ i, i < 4 → ∃ y, xs[i]? = some y := fun i hi => ⟨xs[i], List.getElem?_eq_getElem (by omega)⟩
  obtain ⟨y0, e0⟩ := g 0 (by omega)
  obtain ⟨y1, e1⟩ := g 1 (by omega)
  obtain ⟨y2, e2⟩ := g 2 (by omega)
  obtain ⟨y3, e3⟩ := g 3 (by omega)
  have f0 : DataW.trod enc Tryd.prog W 0 (fun _ => true) true m 3 ((cs.drop 0).take (Tryd.prog.cellsOf 3)) = xs[0]? := hf 0 _ rfl
  have f1 : DataW.trod enc Tryd.prog W 0 (fun _ => true) true m 3 ((cs.drop 1).take (Tryd.prog.cellsOf 3)) = xs[1]? := hf 1 _ rfl
  have f2 : DataW.trod enc Tryd.prog W 0 (fun _ => true) true m 28 ((cs.drop 2).take (Tryd.prog.cellsOf 28)) = xs[2]? := hf 2 _ rfl
  have f3 : DataW.trod enc Tryd.prog W 0 (fun _ => true) true m 29 ((cs.drop 34).take (Tryd.prog.cellsOf 29)) = xs[3]? := hf 3 _ rfl
  rw [e0, show Tryd.prog.cellsOf 3 = 1 by kernel_rfl] at f0
  rw [e1, show Tryd.prog.cellsOf 3 = 1 by kernel_rfl] at f1
  rw [e2, show Tryd.prog.cellsOf 28 = 32 by kernel_rfl] at f2
  rw [e3, show Tryd.prog.cellsOf 29 = 1 by kernel_rfl] at f3
  obtain ⟨ht, h0, _, _⟩ := DataW.trod_int Tryd.underlying3 f0
  obtain ⟨rd, h1, _, _⟩ := DataW.trod_int Tryd.underlying3 f1
  obtain ⟨F, h2, _⟩ := arr_raw Tryd.underlying28 Tryd.underlying5 (by kernel_rfl) (by kernel_rfl) f2
  obtain ⟨ts, v, h3, hin, hts⟩ := rows_rawW (n := 37) Tryd.underlying29 (by kernel_rfl) (by omega) (fun t => (voC t).toList) (fun t => by rw [Array.length_toList, voC_size]) (fun t d => VoOk t ∧ bytesOk t.sign ∧ BytesIn W t.sv t.sign ∧ ∀ b, (∀ n ∈ d.weights Tryd.prog 39, n ≤ b) → t.sign.length ≤ b) vote_raw f3
  refine ⟨⟨ht, rd, F⟩, v, ts, ?_, hin, fun t h => ?_, fun hw t h => ?_⟩
  · show cs.drop 0 = _
    rw [dcut cs 0 1 1 rfl, dcut cs 1 1 2 rfl, dcut cs 2 32 34 rfl, dcut cs 34 1 35 rfl, dend cs 35 hlen, h0, h1, h2, h3]
    simp [cmC]
  · obtain ⟨d, ⟨_, _, hb, _⟩, _⟩ := hts t h
    exact hb
  · obtain ⟨d, ⟨h4, h5, _, h6⟩, h7⟩ := hts t h
    refine ⟨h4, h5, Nat.le_trans (h6 140737488351232 fun n hn => hw _ ?_) (by omega)⟩
    simp only [DataW.weights, Tryd.underlying31]
    exact DataW.weights_mem_each (j := 3) (t := 29) rfl (by rw [List.getElem?_map, e3]; rfl) _ (h7 n hn)
theorem commit_arg {H : Type} {enc : TypeId × Value → H} {W : World} {cs : Array Value} {d : DataW H} {p : List MemPlace} (h : DataW.Trod enc Tryd.prog W 0 (fun _ => true) true 31 (.agg cs) d p) :
    ∃ (c : Cm) (v : Value) (ts : List Vo), cs = cmC c v ∧ VoIn W v ts ∧ (∀ t ∈ ts, BytesIn W t.sv t.sign) ∧ (∀ us ds : List _, ∀ j : Nat, us[j]? = some 31 → ds[j]? = some d → (DataW.weightsEach Tryd.prog us ds).all (· ≤ reachBytes) = true → ∀ t ∈ ts, VoIs t) := by
  obtain ⟨fuel, hf⟩ := h
  have hf' : DataW.trod enc Tryd.prog W 0 (fun _ => true) true fuel 31 cs.toList = some (d, p) := by simpa [Value.cells] using hf
  obtain ⟨c, v, ts, h1, h2, h3, h4⟩ := commit_raw _ _ _ hf'
  exact ⟨c, v, ts, Array.toList_inj.1 h1, h2, h3, fun us ds j htj hdj hw => h4 fun n hn => of_decide_eq_true (List.all_eq_true.1 hw _ (DataW.weights_mem_each htj hdj _ hn))⟩
theorem caset_arg {H : Type} {enc : TypeId × Value → H} {W : World} {cs : Array Value} {d : DataW H} {p : List MemPlace} (h : DataW.Trod enc Tryd.prog W 0 (fun _ => true) true 26 (.agg cs) d p) :
    ∃ (s : ByteArray) (v : Value) (l : List Va) (D E : Int), cs = csC s v D E ∧ VaIn W v l ∧ (∀ us ds : List _, ∀ j : Nat, us[j]? = some 26 → ds[j]? = some d → (DataW.weightsEach Tryd.prog us ds).all (· ≤ reachBytes) = true → s.size ≤ 140737488351232 ∧ ∀ t ∈ l, t.name.size ≤ 140737488351232) := by
  obtain ⟨fuel, hf⟩ := h
  have hf' : DataW.trod enc Tryd.prog W 0 (fun _ => true) true fuel 26 cs.toList = some (d, p) := by simpa [Value.cells] using hf
  obtain ⟨xs, m, _, hx, hlen, hxl, hff⟩ := DataW.trod_struct Tryd.underlying26 hf'
  rw [show Tryd.prog.cellsOf 26 = 4 by kernel_rfl] at hlen
  simp only [List.size_toArray, List.length_cons, List.length_nil] at hxl
  have g : ∀ i, i < 3 → ∃ y, xs[i]? = some y := fun i hi => ⟨xs[i], List.getElem?_eq_getElem (by omega)⟩
  obtain ⟨y0, e0⟩ := g 0 (by omega)
  obtain ⟨y1, e1⟩ := g 1 (by omega)
  obtain ⟨y2, e2⟩ := g 2 (by omega)
  have f0 : DataW.trod enc Tryd.prog W 0 (fun _ => true) true m 9 ((cs.toList.drop 0).take (Tryd.prog.cellsOf 9)) = xs[0]? := hff 0 _ rfl
  have f1 : DataW.trod enc Tryd.prog W 0 (fun _ => true) true m 22 ((cs.toList.drop 1).take (Tryd.prog.cellsOf 22)) = xs[1]? := hff 1 _ rfl
  have f2 : DataW.trod enc Tryd.prog W 0 (fun _ => true) true m 24 ((cs.toList.drop 2).take (Tryd.prog.cellsOf 24)) = xs[2]? := hff 2 _ rfl
  rw [e0, show Tryd.prog.cellsOf 9 = 1 by kernel_rfl] at f0
  rw [e1, show Tryd.prog.cellsOf 22 = 1 by kernel_rfl] at f1
  rw [e2, show Tryd.prog.cellsOf 24 = 2 by kernel_rfl] at f2
  obtain ⟨s, h0, x0, _⟩ := DataW.trod_string Tryd.underlying9 f0
  obtain ⟨l, v, h1, hin, hl⟩ := rows_rawW (n := 34) Tryd.underlying22 (by kernel_rfl) (by omega) (fun t => (vaC t).toList) (fun t => by rw [Array.length_toList, vaC_size]) (fun t d => ∀ b, (∀ n ∈ d.weights Tryd.prog 41, n ≤ b) → t.name.size ≤ b) val_raw f1
  obtain ⟨D, E, h2⟩ := par_arg (cs := ((cs.toList.drop 2).take 2).toArray) ⟨m, by simpa [Value.cells] using f2⟩
  have h2 := congrArg Array.toList h2
  rw [List.toList_toArray] at h2
  simp only [Prod.mk.injEq] at hx
  refine ⟨s, v, l, D, E, ?_, hin, fun us ds j htj hdj hw => ?_⟩
  · apply Array.toList_inj.1
    show cs.toList.drop 0 = _
    rw [dcut cs.toList 0 1 1 rfl, dcut cs.toList 1 1 2 rfl, dcut cs.toList 2 2 4 rfl, dend cs.toList 4 hlen, h0, h1, h2]
    simp [csC, parC]
  · have all : ∀ n ∈ d.weights Tryd.prog 26, n ≤ 140737488351232 := fun n hn => of_decide_eq_true (List.all_eq_true.1 hw _ (DataW.weights_mem_each htj hdj _ hn))
    rw [hx.1] at all
    simp only [DataW.weights, Tryd.underlying26] at all
    refine ⟨?_, fun t ht => ?_⟩
    · have h4 : s.data.toList.length ∈ y0.1.weights Tryd.prog 9 := by rw [x0]; simp [DataW.weights]
      have h6 := all _ (DataW.weights_mem_each (j := 0) (t := 9) rfl (by rw [List.getElem?_map, e0]; rfl) _ h4)
      rw [Array.length_toList] at h6
      exact h6
    · obtain ⟨e, h6, h7⟩ := hl t ht
      exact h6 _ fun n hn => all _ (DataW.weights_mem_each (j := 1) (t := 22) rfl (by rw [List.getElem?_map, e1]; rfl) _ (h7 n hn))
end Go.Proofs.YtabflppnecemkaaDoor
namespace Go.Proofs.YtabflppnecemkaaDoor
set_option linter.unusedVariables false
set_option linter.unusedSimpArgs false
open Go.ChangeShapes Go.WideShapes Go.ChangeAt Go.RowKit
set_option maxRecDepth 100000
theorem doorOwn : ownKnob Tryd.prog.godebug = none := by kernel_rfl
theorem doorLaidOut : laidOutB Tryd.prog = true := by kernel_rfl
theorem nBegin : Tryd.prog.globalNamed "isthmus/sha.begin" = some 1 := by kernel_rfl
theorem nConst : Tryd.prog.globalNamed "isthmus/sha.constants" = some 2 := by kernel_rfl
theorem tyBegin : (Tryd.prog.globals[1]?).map (·.type) = some 188 := by kernel_rfl
theorem tyConst : (Tryd.prog.globals[2]?).map (·.type) = some 194 := by kernel_rfl
def laidSha : List (String × DataW Unit) := [("isthmus/sha.begin", Rows.laid_isthmus_sha_begin), ("isthmus/sha.constants", Rows.laid_isthmus_sha_constants)]
theorem toList_getD (f : Nat → Int) (n i : Nat) (h : i < n) : ((List.range n).map f).getD i 0 = f i := by simp [List.getD, h]
theorem dBegin {H : Type} : (Rows.laid_isthmus_sha_begin : DataW H) = Lib.tabData .u32 ((List.range 8).map BT) := by rfl
theorem dConst {H : Type} : (Rows.laid_isthmus_sha_constants : DataW H) = Lib.tabData .u32 ((List.range 64).map KT) := by rfl
theorem env_of_tabs {W : World} (hb : Lib.TabIs Tryd.prog W "isthmus/sha.begin" .u32 ((List.range 8).map BT)) (hc : Lib.TabIs Tryd.prog W "isthmus/sha.constants" .u32 ((List.range 64).map KT)) : Env W :=
  ⟨fun i hi => by
    have := hb.cell nBegin i (by simpa using hi)
    rw [toList_getD _ _ _ hi] at this; exact this,
   fun i hi => by
    have := hc.cell nConst i (by simpa using hi)
    rw [toList_getD _ _ _ hi] at this; exact this⟩
theorem env_of_met {W : World} (h : laidMet Tryd.prog laidSha W) : Env W := by
  unfold laidSha at h
  rw [dBegin, dConst] at h
  exact env_of_tabs (Lib.tabIs_of_head nBegin tyBegin Tryd.underlying188 Tryd.underlying187 (by kernel_rfl) (by kernel_rfl) h)
    (Lib.tabIs_of_head nConst tyConst Tryd.underlying194 Tryd.underlying187 (by kernel_rfl) (by kernel_rfl) h.tail)
theorem env_of_laid {W : World} (h : laidMetH Tryd.prog laidSha W) : Env W := by
  rw [MakeChecks.laidMetH_plain _ _ _ (by kernel_rfl)] at h
  exact env_of_met h
theorem met_sha (os : Os) (args : Array Value) : laidMetH Tryd.prog laidSha ((World.doorLaid Tryd.prog 400 os).forCall (fun _ _ => 0) ⟨#[], args, []⟩).memory :=
  laidMetH_of_parts3 (fuel := 8) (laidMet_of_run' 8 (by kernel_rfl) (by kernel_rfl)) (by kernel_rfl) (by kernel_rfl)
def laidShaErr : List (String × DataW Unit) := [("errors.errorType", Rows.laid_errors_errorType), ("isthmus/sha.begin", Rows.laid_isthmus_sha_begin), ("isthmus/sha.constants", Rows.laid_isthmus_sha_constants)]
def laidErrS : List (String × DataW Unit) := [("errors.errorType", Rows.laid_errors_errorType)]
theorem doorEt : Tryd.prog.globalNamed "errors.errorType" = some 0 := by kernel_rfl
theorem doorRt : (Tryd.prog.cutTypes.find? (·.1 == "internal/reflectlite.rtype")).map (·.2) = some 155 := by kernel_rfl
theorem doorOneRow : ((List.range Tryd.prog.types.size).filter fun t => Tryd.prog.rowNamed t [101, 114, 114, 111, 114]) = [35] := by kernel_rfl
theorem err_of_met {W : World} {l : List (String × DataW Unit)} (hm : ("errors.errorType", Rows.laid_errors_errorType) ∈ l) (h : handlesMet Tryd.prog l W) : ErrType W := by
  obtain ⟨name, u, ty, e1, e2, e3, e4, e5⟩ := h _ hm
  have en : name = [101, 114, 114, 111, 114] := (Option.some.inj e1).symm
  subst en
  obtain rfl := Option.some.inj (doorRt.symm.trans e2)
  have hm : ty ∈ (List.range Tryd.prog.types.size).filter fun t => Tryd.prog.rowNamed t [101, 114, 114, 111, 114] := List.mem_filter.2 ⟨List.mem_range.2 e3, e4⟩
  rw [doorOneRow] at hm
  obtain rfl := List.mem_singleton.1 hm
  have hh : typeHandle Tryd.prog 35 = .pointer (some ⟨3, 35, none⟩) := by kernel_rfl
  rw [hh] at e5
  unfold ErrType
  simpa using World.var?_cell doorEt e5 0
theorem shaErr_of_laid {W : World} (h : laidMetH Tryd.prog laidShaErr W) : Env W ∧ ErrType W := by
  have h' : laidMet Tryd.prog laidSha W ∧ handlesMet Tryd.prog laidErrS W := h
  exact ⟨env_of_met h'.1, err_of_met (by simp [laidErrS]) h'.2⟩
theorem met_shaErr (os : Os) (args : Array Value) : laidMetH Tryd.prog laidShaErr ((World.doorLaid Tryd.prog 400 os).forCall (fun _ _ => 0) ⟨#[], args, []⟩).memory :=
  laidMetH_of_parts3 (fuel := 8) (laidMet_of_run' 8 (by kernel_rfl) (by kernel_rfl)) (by kernel_rfl) (by kernel_rfl)
end Go.Proofs.YtabflppnecemkaaDoor
namespace Go.Proofs.YtabflppnecemkaaDoor
set_option linter.unusedVariables false
set_option linter.unusedSimpArgs false
open Go.ChangeShapes Go.WideShapes Go.ChangeAt Go.RowKit
set_option maxRecDepth 100000
theorem tythird_lifted (os : Os) (started : os.Started) (H : Type) (enc : TypeId × Value → H) :
    ReturnsInHanded {} Tryd.checked os 3 .any (fun w args => (Rows.typesThirdSpec.pre enc Tryd.prog Tryd.f3 [] false w args ∧ laidMetH Tryd.prog laidShaErr w) ∧ sizedMet enc Tryd.prog Tryd.f3 (OpenSpec.ofChange Rows.typesThirdSpec) false w args)
      (Rows.typesThirdSpec.post enc Tryd.prog Tryd.f3 false true false false) := by
  refine returnsInHanded_of_change_and (C := Tryd.checked) (X := fun w _ => laidMetH Tryd.prog laidShaErr w) (fun _ _ _ hh h => h.of_heap hh) doorOwn started (by kernel_rfl) Tryd.func3
    (ChangeSpec.witness_shaped (enc := enc) (C := Tryd.checked) (os := os) (X := fun w _ => laidMetH Tryd.prog laidShaErr w) false (World.doorLaid Tryd.prog 400 os) #[.agg #[.string { data := #[] }, .slice none 0 0, .int .i64 0, .int .i64 0], .agg (#[.int .i64 0, .int .i64 0] ++ Array.replicate 32 (.int .u8 0) ++ #[.slice none 0 0]), .agg (#[.int .i64 0, .int .i64 0] ++ Array.replicate 32 (.int .u8 0) ++ #[.slice none 0 0])] 8 rfl (World.shaped_of_RefB (by kernel_rfl) (by kernel_rfl)) (by kernel_rfl) (by kernel_rfl) (by kernel_rfl) (met_shaErr os _)) ?_
  intro W base args ds gs before hval0 hW _ hsz0 hL _
  have hsz : (DataW.weightsEach Tryd.prog (Tryd.f3.params.toList ++ Rows.typesThirdSpec.plain.varTypes Tryd.prog) (ds ++ gs)).all (· ≤ reachBytes) = true := hsz0
  clear hsz0
  have hval : ∀ (j : Nat) t v, Tryd.f3.params[j]? = some t → args[j]? = some v → Value.okWide Tryd.prog W .any base t v := hval0
  have hW' := hW
  obtain ⟨p, q, hA0, hV, rfl, hfz, hnd⟩ := hW
  have hA : DataW.TrodAll enc Tryd.prog W 0 (fun _ => true) true Tryd.f3.params.toList args.toList ds p := hA0
  rw [Tryd.params3] at hA hval hsz
  obtain ⟨v0, vs0, d0, ds0, p0, q0, hargs, rfl, rfl, h0, r0⟩ := trodAll_cons hA
  obtain ⟨v1, vs1, d1, ds1, p1, q1, rfl, rfl, rfl, h1, r1⟩ := trodAll_cons r0
  obtain ⟨v2, vs2, d2, ds2, p2, q2, rfl, rfl, rfl, h2, r2⟩ := trodAll_cons r1
  obtain ⟨rfl, rfl, rfl⟩ := trodAll_nil r2
  obtain rfl : args = #[v0, v1, v2] := by cases args; simp_all
  obtain ⟨rfl, rfl⟩ := trodVars_none hV
  obtain ⟨cs0, rfl, -⟩ := okWide_struct Tryd.underlying26 (hval 0 26 v0 rfl rfl)
  have k0 := h0
  have lt0 : ∀ x ∈ p0, x.block < W.heap.size := by obtain ⟨m, hm⟩ := k0; exact DataW.trod_lt m _ _ _ hm
  obtain ⟨s0, sv0, l0, D0, E0, rfl, hx0, hxs0⟩ := caset_arg h0
  have hlen0 := hxs0 _ _ 0 (by rfl) (by rfl) hsz
  obtain ⟨cs1, rfl, -⟩ := okWide_struct Tryd.underlying31 (hval 1 31 v1 rfl rfl)
  have k1 := h1
  have lt1 : ∀ x ∈ p1, x.block < W.heap.size := by obtain ⟨m, hm⟩ := k1; exact DataW.trod_lt m _ _ _ hm
  obtain ⟨c1, sv1, ts1, rfl, hx1, hs1, hxs1⟩ := commit_arg h1
  have hlen1 := hxs1 _ _ 1 (by rfl) (by rfl) hsz
  obtain ⟨cs2, rfl, -⟩ := okWide_struct Tryd.underlying31 (hval 2 31 v2 rfl rfl)
  have k2 := h2
  have lt2 : ∀ x ∈ p2, x.block < W.heap.size := by obtain ⟨m, hm⟩ := k2; exact DataW.trod_lt m _ _ _ hm
  obtain ⟨c2, sv2, ts2, rfl, hx2, hs2, hxs2⟩ := commit_arg h2
  have hlen2 := hxs2 _ _ 2 (by rfl) (by rfl) hsz
  clear hA0 hval0
  refine (lthird_any s0 l0 sv0 D0 E0 c1 c2 ts1 ts2 sv1 sv2 W (shaErr_of_laid hL).1 (shaErr_of_laid hL).2 hx0 hx1 hx2 hs1 hs2 hlen0.1 hlen0.2 hlen1 hlen2).mono fun e W' ⟨he, bel⟩ => ?_
  subst he
  exact ⟨_, rfl, _, _, _, [], _, [], hW', trodAll_mk1 (shut_bool Tryd.underlying4 _), (trodAll_cons_mk (Below.trod doorLaidOut (by kernel_rfl) (of_decide_eq_true (by kernel_rfl)) k0 bel lt0) (trodAll_cons_mk (Below.trod doorLaidOut (by kernel_rfl) (of_decide_eq_true (by kernel_rfl)) k1 bel lt1) (trodAll_cons_mk (Below.trod doorLaidOut (by kernel_rfl) (of_decide_eq_true (by kernel_rfl)) k2 bel lt2) trodAll_mk0))), rfl, bel.frame _, fun h => by cases h⟩
theorem tythird_holds : Rows.TypesThirdSaid :=
  OpenClaim.holds_of_wide 3 Tryd.f3 rfl rfl rfl rfl rfl rfl rfl ⟨rfl, rfl, rfl, rfl, rfl⟩ rfl rfl rfl rfl rfl (by kernel_rfl) Tryd.func3 (by kernel_rfl)
    (of_decide_eq_true (by kernel_rfl)) (by unfold Func.isWrapper; first | (rw [if_pos (by decide +kernel)]; kernel_rfl) | (rw [if_neg (by decide +kernel)]; exact ⟨rfl, rfl⟩))
    (fun os started H enc _ => tythird_lifted os started H enc)
theorem tythird_card : Rows.TypesThirdCardSaid :=
  Claim7.holds_tied_plain_at .later [] [.handle, .data, .data] true _ true
    tythird_holds (fun _ h => by cases h) (by kernel_rfl) (fun _ h => by cases h) typesThird_row_tie rfl ⟨rfl, rfl⟩ (by kernel_rfl) rfl
    (fun f fn hf hfn => by
      obtain rfl : f = 3 := Option.some.inj ((show Tryd.prog.funcNamed "isthmus/isthmuslaw11.TypesThird" = some 3 by kernel_rfl).symm.trans hf) |>.symm
      obtain rfl : fn = Tryd.f3 := (Option.some.inj (Tryd.func3.symm.trans hfn)).symm
      exact ⟨by kernel_rfl, fun j t ht => by
        rw [Tryd.params3] at ht
        have hm : t ∈ [26, 31, 31] := by simpa using Array.mem_of_getElem? ht
        have hall : ([26, 31, 31].all fun u => !Tryd.prog.wantsStandIn u) = true := by kernel_rfl
        exact (show Tryd.prog.wantsStandIn t = false by simpa using List.all_eq_true.1 hall t hm)⟩)
    (by kernel_rfl)
#print axioms tythird_card
end Go.Proofs.YtabflppnecemkaaDoor
