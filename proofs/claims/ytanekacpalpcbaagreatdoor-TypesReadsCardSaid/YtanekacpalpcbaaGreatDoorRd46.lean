/- Part 46 of the proof. -/
import Derived.Lib.Zigzag
import Derived.Test.YtanekacpalpcbaaGreatDoorRd13
import Derived.Test.YtanekacpalpcbaaGreatDoorRd17
import Derived.Test.YtanekacpalpcbaaGreatDoorRd36
import Derived.Test.YtanekacpalpcbaaGreatDoorRd44
import Derived.Test.YtanekacpalpcbaaGreatDoorRd45
namespace Go.Proofs.YtanekacpalpcbaaGreatDoor
set_option linter.unusedVariables false
set_option linter.unusedSimpArgs false
open Go.ChangeShapes Go.WideShapes Go.ChangeAt Go.RowKit Go.Proofs
set_option maxRecDepth 100000
set_option linter.unusedSimpArgs false
set_option linter.unusedVariables false
theorem dcut {α : Type} (cs : List α) (o k m : Nat) (h : m = o + k) : cs.drop o = (cs.drop o).take k ++ cs.drop m := by rw [h, ← List.drop_drop, List.take_append_drop]
theorem dend {α : Type} (cs : List α) (m : Nat) (h : cs.length = m) : cs.drop m = [] := List.drop_of_length_le (by omega)
theorem weights_allT {H : Type} {P : Program} {e : TypeId} : ∀ {l : List (DataW H)} {d : DataW H}, d ∈ l → ∀ n ∈ d.weights P e, n ∈ DataW.weightsAll P e l
  | x :: r, d, h, n, hn => by
    simp only [DataW.weightsAll]
    rcases List.mem_cons.1 h with rfl | h
    · exact List.mem_append_left _ hn
    · exact List.mem_append_right _ (weights_allT h n hn)
/-- a slice of rows that came in, with what each weighs -/
theorem rows_rawW {H α : Type} {enc : TypeId × Value → H} {W : World} {T E : TypeId} {n : Nat} (hT : Tryz.prog.underlying T = some (.slice E)) (hn : Tryz.prog.cellsOf E = n) (hn0 : 0 < n) (C : α → List Value) (hC : ∀ t, (C t).length = n) (Ok : α → DataW H → Prop)
    (hel : ∀ (f : Nat) (cs : List Value) (x : DataW H × List MemPlace), DataW.trod enc Tryz.prog W 0 (fun _ => true) true f E cs = some x → ∃ t, cs = C t ∧ Ok t x.1)
    {fuel : Nat} {cs : List Value} {x : DataW H × List MemPlace} (h : DataW.trod enc Tryz.prog W 0 (fun _ => true) true fuel T cs = some x) :
    ∃ (ts : List α) (v : Value), cs = [v] ∧ RowsIn n C W v ts ∧ ∀ t ∈ ts, ∃ d, Ok t d ∧ ∀ m ∈ d.weights Tryz.prog E, m ∈ x.1.weights Tryz.prog T := by
  rcases Deep.open_slice hT h with ⟨hcs, hx⟩ | ⟨ad, l, c, m, f, D, Pl, hcs, _, hl, hm, hmm, hx, hel2⟩
  · exact ⟨[], _, hcs, ⟨none, 0, rfl, by simp, by simp [maxLen], .inl rfl⟩, by simp⟩
  · simp only [if_true] at hmm
    subst hx
    rw [hn] at hel2
    have key : ∀ i, i < l → ∃ t : α, (∀ j v, (C t)[j]? = some v → W.cell? (ad.add (i * n + j)) = some v) ∧ Ok t (D i) := by
      intro i hi
      obtain ⟨cs', h1, h2⟩ := hel2 i (by omega)
      obtain ⟨_, hlen, hcell⟩ := World.cells?_some h1
      obtain ⟨t, rfl, hok⟩ := hel f _ _ h2
      refine ⟨t, fun j v hv => ?_, hok⟩
      have hj : j < n := by have := (List.getElem?_eq_some_iff.1 hv).1; rw [hC] at this; exact this
      rw [← hv, ← hcell j hj]
      by_cases hj0 : j = 0 <;> by_cases hi0 : i * n = 0 <;> simp [hj0, hi0, Addr.add, Nat.add_assoc]
    by_cases hl0 : l = 0
    · subst hl0
      exact ⟨[], _, hcs, ⟨some ad, c, rfl, by simp, by simp [maxLen], .inl rfl⟩, by simp⟩
    · obtain ⟨t0, _⟩ := key 0 (by omega)
      have key2 : ∀ i, ∃ t : α, i < l → (∀ j v, (C t)[j]? = some v → W.cell? (ad.add (i * n + j)) = some v) ∧ Ok t (D i) := fun i => by
        by_cases hi : i < l
        · obtain ⟨t, ht⟩ := key i hi; exact ⟨t, fun _ => ht⟩
        · exact ⟨t0, fun h => absurd h hi⟩
      obtain ⟨F, hF⟩ : ∃ F : Nat → α, ∀ i, i < l → (∀ j v, (C (F i))[j]? = some v → W.cell? (ad.add (i * n + j)) = some v) ∧ Ok (F i) (D i) := ⟨fun i => (key2 i).choose, fun i => (key2 i).choose_spec⟩
      have hget : ∀ i t, ((List.range l).map F)[i]? = some t → i < l ∧ F i = t := fun i t hi => by
        have hil : i < l := by have := (List.getElem?_eq_some_iff.1 hi).1; simpa using this
        rw [List.getElem?_map, List.getElem?_range hil] at hi
        cases hi; exact ⟨hil, rfl⟩
      refine ⟨(List.range l).map F, _, hcs, ⟨some ad, c, by simp, by simpa using hl, by simp; omega, .inr ?_⟩, fun t ht => ?_⟩
      · obtain ⟨b, off, spot⟩ := ad
        have h1 : (C (F 0))[0]? = some (C (F 0))[0]! := by rw [List.getElem?_eq_getElem (by rw [hC]; exact hn0)]; simp [hC, hn0]
        have h0 := (hF 0 (by omega)).1 0 _ h1
        have hspot : spot = none := by simpa [Addr.add] using World.cell?_spot h0
        subst hspot
        refine ⟨b, off, rfl, by simpa [Addr.add] using World.block_lt_of_cell? _ _ h0, fun i t hi => ?_⟩
        obtain ⟨hil, rfl⟩ := hget i t hi
        intro j v hv
        have := (hF i hil).1 j v hv
        rw [Addr.add_mid] at this
        rw [Nat.add_assoc]; exact this
      · obtain ⟨i, hi, rfl⟩ := List.mem_map.1 ht
        refine ⟨D i, (hF i (List.mem_range.1 hi)).2, fun q hq => ?_⟩
        simp only [DataW.weights, hT]
        exact List.mem_cons_of_mem _ (List.mem_append_left _ (weights_allT (List.mem_map.2 ⟨i, hi, rfl⟩) _ hq))
theorem val_raw {H : Type} {enc : TypeId × Value → H} {W : World} (f : Nat) (cs : List Value) (x : DataW H × List MemPlace) (h : DataW.trod enc Tryz.prog W 0 (fun _ => true) true f 67 cs = some x) :
    ∃ t : Va, cs = (vaC t).toList ∧ ∀ b, (∀ n ∈ x.1.weights Tryz.prog 67, n ≤ b) → t.name.size ≤ b := by
  obtain ⟨xs, m, _, rfl, hlen, hxl, hf⟩ := DataW.trod_struct Tryz.underlying67 h
  rw [show Tryz.prog.cellsOf 67 = 34 by kernel_rfl] at hlen
  simp only [List.size_toArray, List.length_cons, List.length_nil] at hxl
  have g : ∀ i, i < 3 → ∃ y, xs[i]? = some y := fun i hi => ⟨xs[i], List.getElem?_eq_getElem (by omega)⟩
  obtain ⟨y0, e0⟩ := g 0 (by omega)
  obtain ⟨y1, e1⟩ := g 1 (by omega)
  obtain ⟨y2, e2⟩ := g 2 (by omega)
  have f0 : DataW.trod enc Tryz.prog W 0 (fun _ => true) true m 9 ((cs.drop 0).take (Tryz.prog.cellsOf 9)) = xs[0]? := hf 0 _ rfl
  have f1 : DataW.trod enc Tryz.prog W 0 (fun _ => true) true m 65 ((cs.drop 1).take (Tryz.prog.cellsOf 65)) = xs[1]? := hf 1 _ rfl
  have f2 : DataW.trod enc Tryz.prog W 0 (fun _ => true) true m 3 ((cs.drop 33).take (Tryz.prog.cellsOf 3)) = xs[2]? := hf 2 _ rfl
  rw [e0, show Tryz.prog.cellsOf 9 = 1 by kernel_rfl] at f0
  rw [e1, show Tryz.prog.cellsOf 65 = 32 by kernel_rfl] at f1
  rw [e2, show Tryz.prog.cellsOf 3 = 1 by kernel_rfl] at f2
  obtain ⟨s, h0, x0, _⟩ := DataW.trod_string Tryz.underlying9 f0
  obtain ⟨F, h1, _⟩ := arr_raw Tryz.underlying65 Tryz.underlying5 (by kernel_rfl) (by kernel_rfl) f1
  obtain ⟨p, h2, _, _⟩ := DataW.trod_int Tryz.underlying3 f2
  refine ⟨⟨s, F, p⟩, ?_, fun b hw => ?_⟩
  · show cs.drop 0 = _
    rw [dcut cs 0 1 1 rfl, dcut cs 1 32 33 rfl, dcut cs 33 1 34 rfl, dend cs 34 hlen, h0, h1, h2]
    simp [vaC]
  · have h4 : s.data.toList.length ∈ y0.1.weights Tryz.prog 9 := by rw [x0]; simp [DataW.weights]
    have h6 := hw _ (by simp only [DataW.weights, Tryz.underlying67]; exact DataW.weights_mem_each (j := 0) (t := 9) rfl (by rw [List.getElem?_map, e0]; rfl) _ h4)
    rw [Array.length_toList] at h6
    exact h6
theorem vote_raw {H : Type} {enc : TypeId × Value → H} {W : World} (f : Nat) (cs : List Value) (x : DataW H × List MemPlace) (h : DataW.trod enc Tryz.prog W 0 (fun _ => true) true f 93 cs = some x) :
    ∃ t : Vo, cs = (voC t).toList ∧ (VoOk t ∧ bytesOk t.sign ∧ BytesIn W t.sv t.sign ∧ ∀ b, (∀ n ∈ x.1.weights Tryz.prog 93, n ≤ b) → t.sign.length ≤ b) := by
  obtain ⟨xs, m, _, rfl, hlen, hxl, hf⟩ := DataW.trod_struct Tryz.underlying93 h
  rw [show Tryz.prog.cellsOf 93 = 37 by kernel_rfl] at hlen
  simp only [List.size_toArray, List.length_cons, List.length_nil] at hxl
  have g : ∀ i, i < 6 → ∃ y, xs[i]? = some y := fun i hi => ⟨xs[i], List.getElem?_eq_getElem (by omega)⟩
  obtain ⟨y0, e0⟩ := g 0 (by omega)
  obtain ⟨y1, e1⟩ := g 1 (by omega)
  obtain ⟨y2, e2⟩ := g 2 (by omega)
  obtain ⟨y3, e3⟩ := g 3 (by omega)
  obtain ⟨y4, e4⟩ := g 4 (by omega)
  obtain ⟨y5, e5⟩ := g 5 (by omega)
  have f0 : DataW.trod enc Tryz.prog W 0 (fun _ => true) true m 3 ((cs.drop 0).take (Tryz.prog.cellsOf 3)) = xs[0]? := hf 0 _ rfl
  have f1 : DataW.trod enc Tryz.prog W 0 (fun _ => true) true m 3 ((cs.drop 1).take (Tryz.prog.cellsOf 3)) = xs[1]? := hf 1 _ rfl
  have f2 : DataW.trod enc Tryz.prog W 0 (fun _ => true) true m 3 ((cs.drop 2).take (Tryz.prog.cellsOf 3)) = xs[2]? := hf 2 _ rfl
  have f3 : DataW.trod enc Tryz.prog W 0 (fun _ => true) true m 65 ((cs.drop 3).take (Tryz.prog.cellsOf 65)) = xs[3]? := hf 3 _ rfl
  have f4 : DataW.trod enc Tryz.prog W 0 (fun _ => true) true m 3 ((cs.drop 35).take (Tryz.prog.cellsOf 3)) = xs[4]? := hf 4 _ rfl
  have f5 : DataW.trod enc Tryz.prog W 0 (fun _ => true) true m 34 ((cs.drop 36).take (Tryz.prog.cellsOf 34)) = xs[5]? := hf 5 _ rfl
  rw [e0, show Tryz.prog.cellsOf 3 = 1 by kernel_rfl] at f0
  rw [e1, show Tryz.prog.cellsOf 3 = 1 by kernel_rfl] at f1
  rw [e2, show Tryz.prog.cellsOf 3 = 1 by kernel_rfl] at f2
  rw [e3, show Tryz.prog.cellsOf 65 = 32 by kernel_rfl] at f3
  rw [e4, show Tryz.prog.cellsOf 3 = 1 by kernel_rfl] at f4
  rw [e5, show Tryz.prog.cellsOf 34 = 1 by kernel_rfl] at f5
  obtain ⟨kd, h0, _, w0⟩ := DataW.trod_int Tryz.underlying3 f0
  obtain ⟨ht, h1, _, w1⟩ := DataW.trod_int Tryz.underlying3 f1
  obtain ⟨rd, h2, _, w2⟩ := DataW.trod_int Tryz.underlying3 f2
  obtain ⟨F, h3, _⟩ := arr_raw Tryz.underlying65 Tryz.underlying5 (by kernel_rfl) (by kernel_rfl) f3
  obtain ⟨vl, h4, _, _⟩ := DataW.trod_int Tryz.underlying3 f4
  obtain ⟨bv, bs, h5, hbin, hbok, _, _, hbd⟩ := bytes_raw f5
  refine ⟨⟨kd, ht, rd, F, vl, bv, bs⟩, ?_, ⟨bounds_i64 w0, bounds_i64 w1, bounds_i64 w2⟩, hbok, hbin, fun b hw => ?_⟩
  · show cs.drop 0 = _
    rw [dcut cs 0 1 1 rfl, dcut cs 1 1 2 rfl, dcut cs 2 1 3 rfl, dcut cs 3 32 35 rfl, dcut cs 35 1 36 rfl, dcut cs 36 1 37 rfl, dend cs 37 hlen, h0, h1, h2, h3, h4, h5]
    simp [voC]
  · rcases hbd with ⟨_, h7⟩ | ⟨elems, spare, h7, h8⟩
    · rw [h7]; exact Nat.zero_le _
    · have h9 : (elems.length + spare.length) * Tryz.prog.bytesOf 5 ∈ y5.1.weights Tryz.prog 34 := by rw [h7]; simp [DataW.weights, Tryz.underlying34]
      have h6 := hw _ (by simp only [DataW.weights, Tryz.underlying93]; exact DataW.weights_mem_each (j := 5) (t := 34) rfl (by rw [List.getElem?_map, e5]; rfl) _ h9)
      rw [bytesOfU8, Nat.mul_one] at h6
      show bs.length ≤ b
      omega
theorem commit_raw {H : Type} {enc : TypeId × Value → H} {W : World} (f : Nat) (cs : List Value) (x : DataW H × List MemPlace) (h : DataW.trod enc Tryz.prog W 0 (fun _ => true) true f 78 cs = some x) :
    ∃ (c : Cm) (v : Value) (ts : List Vo), cs = (cmC c v).toList ∧ VoIn W v ts ∧ (∀ t ∈ ts, BytesIn W t.sv t.sign) ∧ ((∀ n ∈ x.1.weights Tryz.prog 78, n ≤ 140737488351232) → ∀ t ∈ ts, VoIs t) := by
  obtain ⟨xs, m, _, rfl, hlen, hxl, hf⟩ := DataW.trod_struct Tryz.underlying78 h
  rw [show Tryz.prog.cellsOf 78 = 35 by kernel_rfl] at hlen
  simp only [List.size_toArray, List.length_cons, List.length_nil] at hxl
  have g : ∀ i, i < 4 → ∃ y, xs[i]? = some y := fun i hi => ⟨xs[i], List.getElem?_eq_getElem (by omega)⟩
  obtain ⟨y0, e0⟩ := g 0 (by omega)
  obtain ⟨y1, e1⟩ := g 1 (by omega)
  obtain ⟨y2, e2⟩ := g 2 (by omega)
  obtain ⟨y3, e3⟩ := g 3 (by omega)
  have f0 : DataW.trod enc Tryz.prog W 0 (fun _ => true) true m 3 ((cs.drop 0).take (Tryz.prog.cellsOf 3)) = xs[0]? := hf 0 _ rfl
  have f1 : DataW.trod enc Tryz.prog W 0 (fun _ => true) true m 3 ((cs.drop 1).take (Tryz.prog.cellsOf 3)) = xs[1]? := hf 1 _ rfl
  have f2 : DataW.trod enc Tryz.prog W 0 (fun _ => true) true m 65 ((cs.drop 2).take (Tryz.prog.cellsOf 65)) = xs[2]? := hf 2 _ rfl
  have f3 : DataW.trod enc Tryz.prog W 0 (fun _ => true) true m 76 ((cs.drop 34).take (Tryz.prog.cellsOf 76)) = xs[3]? := hf 3 _ rfl
  rw [e0, show Tryz.prog.cellsOf 3 = 1 by kernel_rfl] at f0
  rw [e1, show Tryz.prog.cellsOf 3 = 1 by kernel_rfl] at f1
  rw [e2, show Tryz.prog.cellsOf 65 = 32 by kernel_rfl] at f2
  rw [e3, show Tryz.prog.cellsOf 76 = 1 by kernel_rfl] at f3
  obtain ⟨ht, h0, _, _⟩ := DataW.trod_int Tryz.underlying3 f0
  obtain ⟨rd, h1, _, _⟩ := DataW.trod_int Tryz.underlying3 f1
  obtain ⟨F, h2, _⟩ := arr_raw Tryz.underlying65 Tryz.underlying5 (by kernel_rfl) (by kernel_rfl) f2
  obtain ⟨ts, v, h3, hin, hts⟩ := rows_rawW (n := 37) Tryz.underlying76 (by kernel_rfl) (by omega) (fun t => (voC t).toList) (fun t => by rw [Array.length_toList, voC_size]) (fun t d => VoOk t ∧ bytesOk t.sign ∧ BytesIn W t.sv t.sign ∧ ∀ b, (∀ n ∈ d.weights Tryz.prog 93, n ≤ b) → t.sign.length ≤ b) vote_raw f3
  refine ⟨⟨ht, rd, F⟩, v, ts, ?_, hin, fun t h => ?_, fun hw t h => ?_⟩
  · show cs.drop 0 = _
    rw [dcut cs 0 1 1 rfl, dcut cs 1 1 2 rfl, dcut cs 2 32 34 rfl, dcut cs 34 1 35 rfl, dend cs 35 hlen, h0, h1, h2, h3]
    simp [cmC]
  · obtain ⟨d, ⟨_, _, hb, _⟩, _⟩ := hts t h
    exact hb
  · obtain ⟨d, ⟨h4, h5, _, h6⟩, h7⟩ := hts t h
    refine ⟨h4, h5, Nat.le_trans (h6 140737488351232 fun n hn => hw _ ?_) (by omega)⟩
    simp only [DataW.weights, Tryz.underlying78]
    exact DataW.weights_mem_each (j := 3) (t := 76) rfl (by rw [List.getElem?_map, e3]; rfl) _ (h7 n hn)
theorem commit_arg {H : Type} {enc : TypeId × Value → H} {W : World} {cs : Array Value} {d : DataW H} {p : List MemPlace} (h : DataW.Trod enc Tryz.prog W 0 (fun _ => true) true 78 (.agg cs) d p) :
    ∃ (c : Cm) (v : Value) (ts : List Vo), cs = cmC c v ∧ VoIn W v ts ∧ (∀ t ∈ ts, BytesIn W t.sv t.sign) ∧ (∀ us ds : List _, ∀ j : Nat, us[j]? = some 78 → ds[j]? = some d → (DataW.weightsEach Tryz.prog us ds).all (· ≤ reachBytes) = true → ∀ t ∈ ts, VoIs t) := by
  obtain ⟨fuel, hf⟩ := h
  have hf' : DataW.trod enc Tryz.prog W 0 (fun _ => true) true fuel 78 cs.toList = some (d, p) := by simpa [Value.cells] using hf
  obtain ⟨c, v, ts, h1, h2, h3, h4⟩ := commit_raw _ _ _ hf'
  exact ⟨c, v, ts, Array.toList_inj.1 h1, h2, h3, fun us ds j htj hdj hw => h4 fun n hn => of_decide_eq_true (List.all_eq_true.1 hw _ (DataW.weights_mem_each htj hdj _ hn))⟩
end Go.Proofs.YtanekacpalpcbaaGreatDoor
namespace Go.Proofs.YtanekacpalpcbaaGreatDoor
set_option linter.unusedVariables false
set_option linter.unusedSimpArgs false
open Go.ChangeShapes Go.WideShapes Go.ChangeAt Go.RowKit Go.Proofs
set_option maxRecDepth 100000
set_option linter.unusedSimpArgs false
set_option linter.unusedVariables false
theorem valK_raw {H : Type} {enc : TypeId × Value → H} {W : World} (f : Nat) (cs : List Value) (x : DataW H × List MemPlace) (h : DataW.trod enc Tryz.prog W 0 (fun _ => true) true f 67 cs = some x) :
    ∃ t : Va, cs = (vaC t).toList ∧ (∀ i, i < 32 → 0 ≤ t.key i ∧ t.key i < 256) ∧ ∀ b, (∀ n ∈ x.1.weights Tryz.prog 67, n ≤ b) → t.name.size ≤ b := by
  obtain ⟨xs, m, _, rfl, hlen, hxl, hf⟩ := DataW.trod_struct Tryz.underlying67 h
  rw [show Tryz.prog.cellsOf 67 = 34 by kernel_rfl] at hlen
  simp only [List.size_toArray, List.length_cons, List.length_nil] at hxl
  have g : ∀ i, i < 3 → ∃ y, xs[i]? = some y := fun i hi => ⟨xs[i], List.getElem?_eq_getElem (by omega)⟩
  obtain ⟨y0, e0⟩ := g 0 (by omega)
  obtain ⟨y1, e1⟩ := g 1 (by omega)
  obtain ⟨y2, e2⟩ := g 2 (by omega)
  have f0 : DataW.trod enc Tryz.prog W 0 (fun _ => true) true m 9 ((cs.drop 0).take (Tryz.prog.cellsOf 9)) = xs[0]? := hf 0 _ rfl
  have f1 : DataW.trod enc Tryz.prog W 0 (fun _ => true) true m 65 ((cs.drop 1).take (Tryz.prog.cellsOf 65)) = xs[1]? := hf 1 _ rfl
  have f2 : DataW.trod enc Tryz.prog W 0 (fun _ => true) true m 3 ((cs.drop 33).take (Tryz.prog.cellsOf 3)) = xs[2]? := hf 2 _ rfl
  rw [e0, show Tryz.prog.cellsOf 9 = 1 by kernel_rfl] at f0
  rw [e1, show Tryz.prog.cellsOf 65 = 32 by kernel_rfl] at f1
  rw [e2, show Tryz.prog.cellsOf 3 = 1 by kernel_rfl] at f2
  obtain ⟨s, h0, x0, _⟩ := DataW.trod_string Tryz.underlying9 f0
  obtain ⟨F, h1, wF⟩ := arr_raw Tryz.underlying65 Tryz.underlying5 (by kernel_rfl) (by kernel_rfl) f1
  obtain ⟨p, h2, _, _⟩ := DataW.trod_int Tryz.underlying3 f2
  refine ⟨⟨s, F, p⟩, ?_, fun i hi => by have := bounds_u8 (wF i hi); show 0 ≤ F i ∧ F i < 256; omega, fun b hw => ?_⟩
  · show cs.drop 0 = _
    rw [dcut cs 0 1 1 rfl, dcut cs 1 32 33 rfl, dcut cs 33 1 34 rfl, dend cs 34 hlen, h0, h1, h2]
    simp [vaC]
  · have h4 : s.data.toList.length ∈ y0.1.weights Tryz.prog 9 := by rw [x0]; simp [DataW.weights]
    have h6 := hw _ (by simp only [DataW.weights, Tryz.underlying67]; exact DataW.weights_mem_each (j := 0) (t := 9) rfl (by rw [List.getElem?_map, e0]; rfl) _ h4)
    rw [Array.length_toList] at h6
    exact h6
def byOk (f : Nat → Int) : Prop := ∀ i, i < 32 → 0 ≤ f i ∧ f i < 256
theorem header_arg {H : Type} {enc : TypeId × Value → H} {W : World} {cs : Array Value} {d : DataW H} {p : List MemPlace} (h : DataW.Trod enc Tryz.prog W 0 (fun _ => true) true 74 (.agg cs) d p) :
    ∃ (CH : ByteArray) (HT TM : Int) (LA AP TX VA NX : Nat → Int) (PR : Int), cs = hdD CH HT TM LA AP TX VA NX PR ∧ ((-9223372036854775808 ≤ HT ∧ HT ≤ 9223372036854775807) ∧ (-9223372036854775808 ≤ TM ∧ TM ≤ 9223372036854775807) ∧ (-9223372036854775808 ≤ PR ∧ PR ≤ 9223372036854775807)) ∧ (byOk LA ∧ byOk AP ∧ byOk TX ∧ byOk VA ∧ byOk NX) ∧ (∀ us ds : List _, ∀ j : Nat, us[j]? = some 74 → ds[j]? = some d → (DataW.weightsEach Tryz.prog us ds).all (· ≤ reachBytes) = true → CH.size ≤ 140737488351232) := by
  obtain ⟨fuel, hf⟩ := h
  have hf' : DataW.trod enc Tryz.prog W 0 (fun _ => true) true fuel 74 cs.toList = some (d, p) := by simpa [Value.cells] using hf
  obtain ⟨xs, m, _, hx, hlen, hxl, hff⟩ := DataW.trod_struct Tryz.underlying74 hf'
  rw [show Tryz.prog.cellsOf 74 = 164 by kernel_rfl] at hlen
  simp only [List.size_toArray, List.length_cons, List.length_nil] at hxl
  have g : ∀ i, i < 9 → ∃ y, xs[i]? = some y := fun i hi => ⟨xs[i], List.getElem?_eq_getElem (by omega)⟩
  obtain ⟨y0, e0⟩ := g 0 (by omega)
  obtain ⟨y1, e1⟩ := g 1 (by omega)
  obtain ⟨y2, e2⟩ := g 2 (by omega)
  obtain ⟨y3, e3⟩ := g 3 (by omega)
  obtain ⟨y4, e4⟩ := g 4 (by omega)
  obtain ⟨y5, e5⟩ := g 5 (by omega)
  obtain ⟨y6, e6⟩ := g 6 (by omega)
  obtain ⟨y7, e7⟩ := g 7 (by omega)
  obtain ⟨y8, e8⟩ := g 8 (by omega)
  have f0 : DataW.trod enc Tryz.prog W 0 (fun _ => true) true m 9 ((cs.toList.drop 0).take (Tryz.prog.cellsOf 9)) = xs[0]? := hff 0 _ rfl
  have f1 : DataW.trod enc Tryz.prog W 0 (fun _ => true) true m 3 ((cs.toList.drop 1).take (Tryz.prog.cellsOf 3)) = xs[1]? := hff 1 _ rfl
  have f2 : DataW.trod enc Tryz.prog W 0 (fun _ => true) true m 3 ((cs.toList.drop 2).take (Tryz.prog.cellsOf 3)) = xs[2]? := hff 2 _ rfl
  have f3 : DataW.trod enc Tryz.prog W 0 (fun _ => true) true m 65 ((cs.toList.drop 3).take (Tryz.prog.cellsOf 65)) = xs[3]? := hff 3 _ rfl
  have f4 : DataW.trod enc Tryz.prog W 0 (fun _ => true) true m 65 ((cs.toList.drop 35).take (Tryz.prog.cellsOf 65)) = xs[4]? := hff 4 _ rfl
  have f5 : DataW.trod enc Tryz.prog W 0 (fun _ => true) true m 65 ((cs.toList.drop 67).take (Tryz.prog.cellsOf 65)) = xs[5]? := hff 5 _ rfl
  have f6 : DataW.trod enc Tryz.prog W 0 (fun _ => true) true m 65 ((cs.toList.drop 99).take (Tryz.prog.cellsOf 65)) = xs[6]? := hff 6 _ rfl
  have f7 : DataW.trod enc Tryz.prog W 0 (fun _ => true) true m 65 ((cs.toList.drop 131).take (Tryz.prog.cellsOf 65)) = xs[7]? := hff 7 _ rfl
  have f8 : DataW.trod enc Tryz.prog W 0 (fun _ => true) true m 3 ((cs.toList.drop 163).take (Tryz.prog.cellsOf 3)) = xs[8]? := hff 8 _ rfl
  rw [e0, show Tryz.prog.cellsOf 9 = 1 by kernel_rfl] at f0
  rw [e1, show Tryz.prog.cellsOf 3 = 1 by kernel_rfl] at f1
  rw [e2, show Tryz.prog.cellsOf 3 = 1 by kernel_rfl] at f2
  rw [e3, show Tryz.prog.cellsOf 65 = 32 by kernel_rfl] at f3
  rw [e4, show Tryz.prog.cellsOf 65 = 32 by kernel_rfl] at f4
  rw [e5, show Tryz.prog.cellsOf 65 = 32 by kernel_rfl] at f5
  rw [e6, show Tryz.prog.cellsOf 65 = 32 by kernel_rfl] at f6
  rw [e7, show Tryz.prog.cellsOf 65 = 32 by kernel_rfl] at f7
  rw [e8, show Tryz.prog.cellsOf 3 = 1 by kernel_rfl] at f8
  obtain ⟨CH, h0, x0, _⟩ := DataW.trod_string Tryz.underlying9 f0
  obtain ⟨HT, h1, _, w1⟩ := DataW.trod_int Tryz.underlying3 f1
  obtain ⟨TM, h2, _, w2⟩ := DataW.trod_int Tryz.underlying3 f2
  obtain ⟨LA, h3, w3⟩ := arr_raw Tryz.underlying65 Tryz.underlying5 (by kernel_rfl) (by kernel_rfl) f3
  obtain ⟨AP, h4, w4⟩ := arr_raw Tryz.underlying65 Tryz.underlying5 (by kernel_rfl) (by kernel_rfl) f4
  obtain ⟨TX, h5, w5⟩ := arr_raw Tryz.underlying65 Tryz.underlying5 (by kernel_rfl) (by kernel_rfl) f5
  obtain ⟨VA, h6, w6⟩ := arr_raw Tryz.underlying65 Tryz.underlying5 (by kernel_rfl) (by kernel_rfl) f6
  obtain ⟨NX, h7, w7⟩ := arr_raw Tryz.underlying65 Tryz.underlying5 (by kernel_rfl) (by kernel_rfl) f7
  obtain ⟨PR, h8, _, w8⟩ := DataW.trod_int Tryz.underlying3 f8
  have by8 : ∀ {F : Nat → Int}, (∀ i, i < 32 → (Lit.int .u8 (F i)).wf = true) → byOk F := fun w i hi => by have := bounds_u8 (w i hi); exact ⟨by omega, by omega⟩
  simp only [Prod.mk.injEq] at hx
  refine ⟨CH, HT, TM, LA, AP, TX, VA, NX, PR, ?_, ⟨bounds_i64 w1, bounds_i64 w2, bounds_i64 w8⟩, ⟨by8 w3, by8 w4, by8 w5, by8 w6, by8 w7⟩, fun us ds j htj hdj hw => ?_⟩
  · apply Array.toList_inj.1
    show cs.toList.drop 0 = _
    rw [dcut cs.toList 0 1 1 rfl, dcut cs.toList 1 1 2 rfl, dcut cs.toList 2 1 3 rfl, dcut cs.toList 3 32 35 rfl, dcut cs.toList 35 32 67 rfl, dcut cs.toList 67 32 99 rfl, dcut cs.toList 99 32 131 rfl, dcut cs.toList 131 32 163 rfl, dcut cs.toList 163 1 164 rfl, dend cs.toList 164 hlen, h0, h1, h2, h3, h4, h5, h6, h7, h8]
    simp [hdD]
  · have all : ∀ n ∈ d.weights Tryz.prog 74, n ≤ 140737488351232 := fun n hn => of_decide_eq_true (List.all_eq_true.1 hw _ (DataW.weights_mem_each htj hdj _ hn))
    rw [hx.1] at all
    simp only [DataW.weights, Tryz.underlying74] at all
    have h4 : CH.data.toList.length ∈ y0.1.weights Tryz.prog 9 := by rw [x0]; simp [DataW.weights]
    have h6 := all _ (DataW.weights_mem_each (j := 0) (t := 9) rfl (by rw [List.getElem?_map, e0]; rfl) _ h4)
    rw [Array.length_toList] at h6
    exact h6
end Go.Proofs.YtanekacpalpcbaaGreatDoor
namespace Go.Proofs.YtanekacpalpcbaaGreatDoor
set_option linter.unusedVariables false
set_option linter.unusedSimpArgs false
open Go.RowKit
set_option maxRecDepth 100000
theorem bok_app {xs ys : List Int} (h1 : bytesOk xs) (h2 : bytesOk ys) : bytesOk (xs ++ ys) := fun x hx => by
  rcases List.mem_append.1 hx with h | h
  · exact h1 x h
  · exact h2 x h
theorem bok_nums (s : ByteArray) : bytesOk (numsOf s) := fun x hx => by
  unfold numsOf at hx
  obtain ⟨b, _, rfl⟩ := List.mem_map.1 hx
  have := b.toBitVec.isLt
  constructor
  · omega
  · have : b.toNat < 256 := this
    omega
theorem bok_varint (n : Nat) : bytesOk (varint n) := fun x hx => by
  unfold varint at hx
  obtain ⟨i, hi, rfl⟩ := List.mem_map.1 hx
  have := gby_lt (List.mem_range.1 hi)
  omega
theorem bok_row {f : Nat → Int} (h : byOk f) : bytesOk (rowL 32 f) := fun x hx => by
  unfold rowL at hx
  obtain ⟨i, hi, rfl⟩ := List.mem_map.1 hx
  exact h i (List.mem_range.1 hi)
theorem hd_bok {CH : ByteArray} {HT TM : Int} {LA AP TX VA NX : Nat → Int} {PR : Int} (h1 : byOk LA) (h2 : byOk AP) (h3 : byOk TX) (h4 : byOk VA) (h5 : byOk NX) : bytesOk (hdL CH HT TM LA AP TX VA NX PR) := by
  unfold hdL
  exact bok_app (bok_app (bok_app (bok_app (bok_app (bok_app (bok_app (bok_app (bok_app (bok_varint _) (bok_nums _)) (bok_varint _)) (bok_varint _)) (bok_row h1)) (bok_row h2)) (bok_row h3)) (bok_row h4)) (bok_row h5)) (bok_varint _)
theorem hd_sTime {CH : ByteArray} {HT TM TN : Int} {LA AP TX VA NX : Nat → Int} {PR : Int} (h1 : byOk LA) (h2 : byOk AP) (h3 : byOk TX) (h4 : byOk VA) (h5 : byOk NX) (ha : -9223372036854775808 ≤ TM ∧ TM ≤ 9223372036854775807) (hb : -9223372036854775808 ≤ TN ∧ TN ≤ 9223372036854775807) (hn : TN ≠ TM) :
    strOfNums (hdL CH HT TN LA AP TX VA NX PR) ≠ strOfNums (hdL CH HT TM LA AP TX VA NX PR) := fun e => by
  have e2 := congrArg numsOf e
  rw [numsOf_str _ (hd_bok h1 h2 h3 h4 h5), numsOf_str _ (hd_bok h1 h2 h3 h4 h5)] at e2
  exact hn (hd_time hb ha e2)
theorem hd_sApp {CH : ByteArray} {HT TM : Int} {LA AP AQ TX VA NX : Nat → Int} {PR : Int} (h1 : byOk LA) (h2 : byOk AP) (hq : byOk AQ) (h3 : byOk TX) (h4 : byOk VA) (h5 : byOk NX) (hn : AQ 0 ≠ AP 0) :
    strOfNums (hdL CH HT TM LA AQ TX VA NX PR) ≠ strOfNums (hdL CH HT TM LA AP TX VA NX PR) := fun e => by
  have e2 := congrArg numsOf e
  rw [numsOf_str _ (hd_bok h1 hq h3 h4 h5), numsOf_str _ (hd_bok h1 h2 h3 h4 h5)] at e2
  exact hn (hd_app e2)
theorem xor1_i64 {x : Int} (h : -9223372036854775808 ≤ x ∧ x ≤ 9223372036854775807) : (-9223372036854775808 ≤ bits .xor .i64 x 1 ∧ bits .xor .i64 x 1 ≤ 9223372036854775807) ∧ bits .xor .i64 x 1 ≠ x := by
  obtain ⟨y, hy⟩ : ∃ y, y = BitVec.ofInt 64 x ^^^ BitVec.ofInt 64 1 := ⟨_, rfl⟩
  have e : bits .xor .i64 x 1 = IntKind.i64.wrap (y.toNat : Int) := by rw [hy]; rfl
  have hlt : y.toNat < 2 ^ 64 := y.isLt
  rw [e, IntKind.wrap_i64]
  refine ⟨by omega, fun e2 => ?_⟩
  have e3 : y = BitVec.ofInt 64 x := by
    apply BitVec.eq_of_toNat_eq
    rw [BitVec.toNat_ofInt]
    omega
  rw [hy] at e3
  have e4 : BitVec.ofInt 64 x ^^^ (BitVec.ofInt 64 x ^^^ BitVec.ofInt 64 1) = BitVec.ofInt 64 x ^^^ BitVec.ofInt 64 x := by rw [e3]
  rw [← BitVec.xor_assoc, BitVec.xor_self, BitVec.zero_xor] at e4
  exact absurd e4 (by decide)
theorem xor1_u8 {x : Int} (h : 0 ≤ x ∧ x < 256) : (0 ≤ bits .xor .u8 x 1 ∧ bits .xor .u8 x 1 < 256) ∧ bits .xor .u8 x 1 ≠ x := by
  obtain ⟨y, hy⟩ : ∃ y, y = BitVec.ofInt 8 x ^^^ BitVec.ofInt 8 1 := ⟨_, rfl⟩
  have e : bits .xor .u8 x 1 = IntKind.u8.wrap (y.toNat : Int) := by rw [hy]; rfl
  have hlt : y.toNat < 2 ^ 8 := y.isLt
  rw [e, IntKind.wrap_u8]
  refine ⟨by omega, fun e2 => ?_⟩
  have e3 : y = BitVec.ofInt 8 x := by
    apply BitVec.eq_of_toNat_eq
    rw [BitVec.toNat_ofInt]
    omega
  rw [hy] at e3
  have e4 : BitVec.ofInt 8 x ^^^ (BitVec.ofInt 8 x ^^^ BitVec.ofInt 8 1) = BitVec.ofInt 8 x ^^^ BitVec.ofInt 8 x := by rw [e3]
  rw [← BitVec.xor_assoc, BitVec.xor_self, BitVec.zero_xor] at e4
  exact absurd e4 (by decide)
end Go.Proofs.YtanekacpalpcbaaGreatDoor
namespace Go.Proofs.YtanekacpalpcbaaGreatDoor
set_option linter.unusedVariables false
set_option linter.unusedSimpArgs false
open Go.RowKit
set_option maxRecDepth 100000
set_option linter.unusedSimpArgs false
set_option linter.unusedVariables false
structure VoBy (t : Vo) : Prop where
  f : VoFl t
  b : byOk t.blk
  s : bytesOk t.sign
structure HdBy (h : Hd) : Prop where
  f : HdFl h
  b : byOk h.LA ∧ byOk h.AP ∧ byOk h.TX ∧ byOk h.VA ∧ byOk h.NX
structure CmBy (c : Cm) : Prop where
  f : CmFl c
  b : byOk c.blk
theorem bok_vo1 {t : Vo} (h : VoBy t) : bytesOk (vo1 t) := by
  unfold vo1 voL
  exact bok_app (bok_app (bok_app (bok_app (bok_app (bok_varint _) (bok_varint _)) (bok_varint _)) (bok_row h.b)) (bok_varint _)) (bok_app (bok_varint _) h.s)
theorem bok_tb1 {t : Tb} (h : bytesOk t.bs) : bytesOk (tb1 t) := bok_app (bok_varint _) h
theorem bok_catL {α : Type} (f : α → List Int) : ∀ l : List α, (∀ t ∈ l, bytesOk (f t)) → bytesOk (catL f l)
  | [], _ => by intro x hx; cases hx
  | t :: l, h => bok_app (h t List.mem_cons_self) (bok_catL f l fun u hu => h u (List.mem_cons_of_mem _ hu))
theorem bok_cmL {c : Cm} {l : List Vo} (hc : CmBy c) (hl : ∀ t ∈ l, VoBy t) : bytesOk (cmL c l) := by
  unfold cmL listL
  exact bok_app (bok_app (bok_app (bok_varint _) (bok_varint _)) (bok_row hc.b)) (bok_app (bok_varint _) (bok_catL vo1 l fun t h => bok_vo1 (hl t h)))
theorem bok_bkL {h : Hd} {ts : List Tb} {c : Cm} {l : List Vo} (hh : HdBy h) (ht : ∀ t ∈ ts, bytesOk t.bs) (hc : CmBy c) (hl : ∀ t ∈ l, VoBy t) : bytesOk (bkL h ts c l) := by
  unfold bkL listL
  exact bok_app (hd_bok hh.b.1 hh.b.2.1 hh.b.2.2.1 hh.b.2.2.2.1 hh.b.2.2.2.2) (bok_app (bok_app (bok_varint _) (bok_catL tb1 ts fun t h => bok_tb1 (ht t h))) (bok_cmL hc hl))
theorem vo1_len {t : Vo} (h : VoFl t) (hz : t.sign.length ≤ 65536) : (vo1 t).length ≤ 65700 := by
  have a1 := glenT (zig_lt h.k.1 h.k.2)
  have a2 := glenT (zig_lt h.h.1 h.h.2)
  have a3 := glenT (zig_lt h.r.1 h.r.2)
  have a4 := glenT (zig_lt h.vl.1 h.vl.2)
  have a5 := glenT (n := t.sign.length) (by omega)
  simp only [vo1, voL, List.length_append, rowL32]; omega
theorem tb1_len {t : Tb} (hz : t.bs.length ≤ 65536) : (tb1 t).length ≤ 65700 := by
  have a5 := glenT (n := t.bs.length) (by omega)
  simp only [tb1, List.length_append]; omega
theorem catL_le {α : Type} (f : α → List Int) (m : Nat) : ∀ l : List α, (∀ t ∈ l, (f t).length ≤ m) → (catL f l).length ≤ l.length * m
  | [], _ => by simp [catL]
  | t :: l, h => by
    have h1 := h t List.mem_cons_self
    have h2 := catL_le f m l fun u hu => h u (List.mem_cons_of_mem _ hu)
    rw [catL, List.length_append, List.length_cons, Nat.add_mul]; omega
theorem bkL_len {h : Hd} {ts : List Tb} {c : Cm} {l : List Vo} (hh : HdFl h) (hn : h.CH.size ≤ 64) (ht : ts.length ≤ 64) (hts : ∀ t ∈ ts, t.bs.length ≤ 65536) (hc : CmFl c) (hl : l.length ≤ 32) (hls : ∀ t ∈ l, VoSm t) : (bkL h ts c l).length ≤ 10000000 := by
  have a0 := hdL_len h.CH h.HT h.TM h.LA h.AP h.TX h.VA h.NX h.PR hh.ht hh.tm hh.pr (by omega)
  have a1 := catL_le tb1 65700 ts fun t m => tb1_len (hts t m)
  have a2 := catL_le vo1 65700 l fun t m => vo1_len (hls t m).f (hls t m).z
  have a3 := glenT (n := ts.length) (by omega)
  have a4 := glenT (n := l.length) (by omega)
  have a5 := glenT (zig_lt hc.h.1 hc.h.2)
  have a6 := glenT (zig_lt hc.r.1 hc.r.2)
  simp only [bkL, cmL, listL, List.length_append, rowL32]; omega
theorem dvote_back {t : Vo} (h : VoBy t) (hz : t.sign.length ≤ 65536) (vb : Value) (w : World) (hy : BytesIn w vb (vo1 t)) :
    Calls Tryz.prog 51 #[vb] w fun e w' => ∃ T : Vo, e = .returned (.tuple #[.agg (voC T), .nilIface]) ∧ BytesIn w' T.sv T.sign ∧ vo1 T = vo1 t ∧ VoFl T ∧ (vo1 T).length + 400 ≤ 140737488355328 ∧ Below w.heap.size w w' := by
  obtain ⟨b1, b2, b3⟩ := vt_back h.f hz []
  rw [List.append_nil] at b1 b2 b3
  have hl := vo1_len h.f hz
  refine (dV_ok vb (vo1 t) w hy (bok_vo1 h) (by omega) (by rw [b1]; rfl)).mono ?_
  rintro e w' ⟨sa, sc, rfl, hb, -, hB⟩
  obtain ⟨c1, c2, c3⟩ := b3 (.slice sa (vtG (vo1 t, none)).length sc)
  exact ⟨_, rfl, hb, c1, c2, by rw [c1]; omega, hB⟩
theorem dheader_back {h : Hd} (hh : HdBy h) (hn : h.CH.size ≤ 64) (vb : Value) (w : World) (hy : BytesIn w vb (hdL h.CH h.HT h.TM h.LA h.AP h.TX h.VA h.NX h.PR)) :
    Calls Tryz.prog 55 #[vb] w fun e w' => e = .returned (.tuple #[.agg (hdD h.CH h.HT h.TM h.LA h.AP h.TX h.VA h.NX h.PR), .nilIface]) ∧ Below w.heap.size w w' := by
  obtain ⟨b1, b2⟩ := hd_back h hh.f hn []
  rw [List.append_nil] at b1 b2
  have hl := hdL_len h.CH h.HT h.TM h.LA h.AP h.TX h.VA h.NX h.PR hh.f.ht hh.f.tm hh.f.pr (by omega)
  have := dH_ok vb _ w hy (hd_bok hh.b.1 hh.b.2.1 hh.b.2.2.1 hh.b.2.2.2.1 hh.b.2.2.2.2) (by omega) (by rw [b1]; rfl)
  rwa [b2] at this
theorem dblock_back {h : Hd} {ts : List Tb} {c : Cm} {l : List Vo} (hh : HdBy h) (hn : h.CH.size ≤ 64) (ht : ts.length ≤ 64) (hts : ∀ t ∈ ts, t.bs.length ≤ 65536 ∧ bytesOk t.bs) (hc : CmBy c) (hl : l.length ≤ 32) (hls : ∀ t ∈ l, VoBy t ∧ t.sign.length ≤ 65536) (vb : Value) (w : World) (hy : BytesIn w vb (bkL h ts c l)) :
    Calls Tryz.prog 57 #[vb] w fun e w' => ∃ (tv2 : Value) (ts2 : List Tb) (vv2 : Value) (l2 : List Vo), e = .returned (.tuple #[.agg (bkD (hdD h.CH h.HT h.TM h.LA h.AP h.TX h.VA h.NX h.PR) tv2 (cmC c vv2)), .nilIface]) ∧ (TbIn w' tv2 ts2 ∧ (∀ t ∈ ts2, BytesIn w' t.bv t.bs)) ∧ (VoIn w' vv2 l2 ∧ (∀ t ∈ l2, BytesIn w' t.sv t.sign)) ∧ SameT ts2 ts ∧ SameV l2 l ∧ (∀ t ∈ l2, VoFl t ∧ (vo1 t).length + 400 ≤ 140737488355328) ∧ Below w.heap.size w w' := by
  obtain ⟨b1, b2, b3, b4, b5, b6⟩ := bk_back h hh.f hn ts c hc.f l ht (fun t m => (hts t m).1) hl (fun t m => ⟨(hls t m).1.f, (hls t m).2⟩)
  have hlen := bkL_len hh.f hn ht (fun t m => (hts t m).1) hc.f hl (fun t m => ⟨(hls t m).1.f, (hls t m).2⟩)
  refine (dB_ok vb (bkL h ts c l) w hy (bok_bkL hh (fun t m => (hts t m).2) hc (fun t m => (hls t m).1)) (by omega) (by show doneE (cmR (bkT (bkL h ts c l, none))) = none; rw [b3, b6]; rfl)).mono ?_
  rintro e w' ⟨ta, tc, tvs, va, vc, svs, rfl, h1, h2, h3, h4, hB⟩
  rw [b2] at h1 h3
  rw [b3, b5] at h2 h4
  have hT := (txs_back ts (fun t m => (hts t m).1) (cmL c l)).2 tvs h1
  have hV := (vts_back l (fun t m => ⟨(hls t m).1.f, (hls t m).2⟩) []).2 svs h2
  refine ⟨_, _, _, _, by rw [b1, b2, b3, b4, b5], ⟨h3.rows, fun t m => (h3.el t m).1⟩, ⟨h4.rows, fun t m => (h4.el t m).1⟩, ⟨by rw [txs_len]; exact h1, hT⟩, ⟨by rw [vts_len]; exact h2, fun i x y e1 e2 => (hV i x y e1 e2).1⟩, fun x m => ?_, hB⟩
  obtain ⟨i, hi, e1⟩ := List.mem_iff_getElem.1 m
  have hil : i < l.length := by rw [vts_len, h2] at hi; exact hi
  obtain ⟨c1, c2, c3⟩ := hV i x l[i] (by rw [← e1]; exact List.getElem?_eq_getElem hi) (List.getElem?_eq_getElem hil)
  have hm : l[i] ∈ l := List.getElem_mem hil
  have := vo1_len (hls _ hm).1.f (hls _ hm).2
  exact ⟨c2, by rw [c1]; omega⟩
end Go.Proofs.YtanekacpalpcbaaGreatDoor
