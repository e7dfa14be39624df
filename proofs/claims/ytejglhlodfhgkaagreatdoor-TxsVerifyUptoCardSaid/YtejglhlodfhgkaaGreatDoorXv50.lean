/- Part 50 of the proof. -/
import Derived.Test.YtejglhlodfhgkaaGreatDoorXv13
import Derived.Test.YtejglhlodfhgkaaGreatDoorXv49
namespace Go.Proofs.YtejglhlodfhgkaaGreatDoor
set_option linter.unusedVariables false
set_option linter.unusedSimpArgs false
open Go.ChangeShapes Go.WideShapes Go.ChangeAt Go.RowKit Go.Proofs
set_option maxRecDepth 100000
set_option linter.unusedSimpArgs false
set_option linter.unusedVariables false
theorem bulk_sum15 {H : Type} {f : Nat → Nat} {D : Nat → DataW H} : ∀ is : List Nat, (∀ i ∈ is, f i ≤ Rows.uptoBulk (D i)) → (is.map f).sum ≤ Rows.uptoBulkAll (is.map D)
  | [], _ => by simp
  | i :: is, h => by
    have h1 := h i List.mem_cons_self
    have h2 := bulk_sum15 (f := f) (D := D) is (fun j hj => h j (List.mem_cons_of_mem _ hj))
    simp only [List.map_cons, List.sum_cons, Rows.uptoBulkAll]
    omega
/-- a slice of rows that came in, with what all together weigh -/
theorem rows_rawS {H α : Type} {enc : TypeId × Value → H} {W : World} {T E : TypeId} {n : Nat} (hT : Tryz.prog.underlying T = some (.slice E)) (hn : Tryz.prog.cellsOf E = n) (hn0 : 0 < n) (C : α → List Value) (hC : ∀ t, (C t).length = n) (Ok : α → Nat → Prop)
    (hel : ∀ (f : Nat) (cs : List Value) (x : DataW H × List MemPlace), DataW.trod enc Tryz.prog W 0 (fun _ => true) true f E cs = some x → ∃ t, cs = C t ∧ Ok t (Rows.uptoBulk x.1))
    {fuel : Nat} {cs : List Value} {x : DataW H × List MemPlace} (h : DataW.trod enc Tryz.prog W 0 (fun _ => true) true fuel T cs = some x) :
    ∃ (ts : List α) (v : Value), cs = [v] ∧ RowsIn n C W v ts ∧ ts.length ≤ Rows.uptoBulk x.1 ∧ (∀ t ∈ ts, ∃ k, Ok t k ∧ k ≤ Rows.uptoBulk x.1) ∧ ∀ f : α → Nat, (∀ t k, Ok t k → f t ≤ k) → (ts.map f).sum ≤ Rows.uptoBulk x.1 := by
  rcases Deep.open_slice hT h with ⟨hcs, hx⟩ | ⟨ad, l, c, m, f, D, Pl, hcs, _, hl, hm, hmm, hx, hel2⟩
  · exact ⟨[], _, hcs, ⟨none, 0, rfl, by simp, by simp [maxLen], .inl rfl⟩, by simp, by simp, by simp⟩
  · simp only [if_true] at hmm
    subst hx
    rw [hn] at hel2
    have key : ∀ i, i < l → ∃ t : α, (∀ j v, (C t)[j]? = some v → W.cell? (ad.add (i * n + j)) = some v) ∧ Ok t (Rows.uptoBulk (D i)) := by
      intro i hi
      obtain ⟨cs', h1, h2⟩ := hel2 i (by omega)
      obtain ⟨_, hlen, hcell⟩ := World.cells?_some h1
      obtain ⟨t, rfl, hok⟩ := hel f _ _ h2
      refine ⟨t, fun j v hv => ?_, hok⟩
      have hj : j < n := by have := (List.getElem?_eq_some_iff.1 hv).1; rw [hC] at this; exact this
      rw [← hv, ← hcell j hj]
      by_cases hj0 : j = 0 <;> by_cases hi0 : i * n = 0 <;> simp [hj0, hi0, Addr.add, Nat.add_assoc]
    by_cases hl0 : l = 0
    · subst hl0
      exact ⟨[], _, hcs, ⟨some ad, c, rfl, by simp, by simp [maxLen], .inl rfl⟩, by simp, by simp, by simp⟩
    · obtain ⟨t0, _⟩ := key 0 (by omega)
      have hinh : Nonempty α := ⟨t0⟩
      have key2 : ∀ i, ∃ t : α, i < l → (∀ j v, (C t)[j]? = some v → W.cell? (ad.add (i * n + j)) = some v) ∧ Ok t (Rows.uptoBulk (D i)) := fun i => by
        by_cases hi : i < l
        · obtain ⟨t, ht⟩ := key i hi; exact ⟨t, fun _ => ht⟩
        · exact ⟨t0, fun h => absurd h hi⟩
      obtain ⟨F, hF⟩ : ∃ F : Nat → α, ∀ i, i < l → (∀ j v, (C (F i))[j]? = some v → W.cell? (ad.add (i * n + j)) = some v) ∧ Ok (F i) (Rows.uptoBulk (D i)) := ⟨fun i => (key2 i).choose, fun i => (key2 i).choose_spec⟩
      have hget : ∀ i t, ((List.range l).map F)[i]? = some t → i < l ∧ F i = t := fun i t hi => by
        have hil : i < l := by have := (List.getElem?_eq_some_iff.1 hi).1; simpa using this
        rw [List.getElem?_map, List.getElem?_range hil] at hi
        cases hi; exact ⟨hil, rfl⟩
      have hblk := bulk_len ((List.range l).map D)
      simp only [List.length_map, List.length_range] at hblk
      refine ⟨(List.range l).map F, _, hcs, ⟨some ad, c, by simp, by simpa using hl, by simp; omega, .inr ?_⟩, ?_, fun t ht => ?_, fun f hf => ?_⟩
      · obtain ⟨b, off, spot⟩ := ad
        have h1 : (C (F 0))[0]? = some (C (F 0))[0]! := by rw [List.getElem?_eq_getElem (by rw [hC]; exact hn0)]; simp [hC, hn0]
        have h0 := (hF 0 (by omega)).1 0 _ h1
        have hspot : spot = none := by simpa [Addr.add] using World.cell?_spot h0
        subst hspot
        refine ⟨b, off, rfl, by simpa [Addr.add] using World.block_lt_of_cell? _ _ h0, fun i t hi => ?_⟩
        obtain ⟨hil, rfl⟩ := hget i t hi
        intro j v hv
        have := (hF i hil).1 j v hv
        rw [Addr.add_mid] at this
        rw [Nat.add_assoc]; exact this
      · simp only [Rows.uptoBulk, List.length_map, List.length_range]; omega
      · obtain ⟨i, hi, rfl⟩ := List.mem_map.1 ht
        have h2 := bulk_mem (d := D i) (l := (List.range l).map D) (List.mem_map.2 ⟨i, hi, rfl⟩)
        exact ⟨_, (hF i (List.mem_range.1 hi)).2, by simp only [Rows.uptoBulk]; omega⟩
      · have h2 := bulk_sum15 (f := fun i => f (F i)) (D := D) (List.range l) (fun i hi => hf _ _ (hF i (List.mem_range.1 hi)).2)
        rw [List.map_map]
        simp only [Rows.uptoBulk]
        exact Nat.le_trans h2 (by omega)
theorem str15_raw {H : Type} {enc : TypeId × Value → H} {W : World} (f : Nat) (cs : List Value) (x : DataW H × List MemPlace) (h : DataW.trod enc Tryz.prog W 0 (fun _ => true) true f 9 cs = some x) :
    ∃ s : ByteArray, cs = [.string s] ∧ s.size ≤ Rows.uptoBulk x.1 := by
  obtain ⟨s, h0, x0, _⟩ := DataW.trod_string Tryz.underlying9 h
  refine ⟨s, h0, ?_⟩
  rw [x0]
  simp only [Rows.uptoBulk, Array.length_toList]
  show s.data.size ≤ _
  omega
theorem int15_raw {H : Type} {enc : TypeId × Value → H} {W : World} (f : Nat) (cs : List Value) (x : DataW H × List MemPlace) (h : DataW.trod enc Tryz.prog W 0 (fun _ => true) true f 3 cs = some x) :
    ∃ i : Int, cs = [.int .i64 i] ∧ i64b i := by
  obtain ⟨i, h0, _, w⟩ := DataW.trod_int Tryz.underlying3 h
  exact ⟨i, h0, bounds_i64 w⟩
theorem tb15_raw {H : Type} {enc : TypeId × Value → H} {W : World} (f : Nat) (cs : List Value) (x : DataW H × List MemPlace) (h : DataW.trod enc Tryz.prog W 0 (fun _ => true) true f 25 cs = some x) :
    ∃ t : Tb, cs = [t.bv] ∧ (bytesOk t.bs ∧ BytesIn W t.bv t.bs ∧ t.bs.length ≤ Rows.uptoBulk x.1) := by
  obtain ⟨bv, bs, h5, hbin, hbok, _, hbl, _⟩ := bytes_raw h
  exact ⟨⟨bv, bs⟩, h5, hbok, hbin, hbl⟩
/-- a message that came in, in a bulk of B -/
structure MgB (W : World) (B : Nat) (m : Mg) : Prop where
  e : MgE W m
  f : MgFl m
  ok : ∀ t ∈ m.ds, bytesOk t.bs
  nt : m.ts.length ≤ B
  ni : m.is.length ≤ B
  nd : m.ds.length ≤ B
  st : (m.ts.map ByteArray.size).sum ≤ B
  sd : (m.ds.map fun t => t.bs.length).sum ≤ B
theorem MgB.mono {W : World} {B C : Nat} {m : Mg} (h : MgB W B m) (hb : B ≤ C) : MgB W C m := ⟨h.e, h.f, h.ok, Nat.le_trans h.nt hb, Nat.le_trans h.ni hb, Nat.le_trans h.nd hb, Nat.le_trans h.st hb, Nat.le_trans h.sd hb⟩
theorem dcut15 {α : Type} (cs : List α) (o k m : Nat) (h : m = o + k) : cs.drop o = (cs.drop o).take k ++ cs.drop m := by rw [h, ← List.drop_drop, List.take_append_drop]
theorem dend15 {α : Type} (cs : List α) (m : Nat) (h : cs.length = m) : cs.drop m = [] := List.drop_of_length_le (by omega)
theorem mg_raw {H : Type} {enc : TypeId × Value → H} {W : World} (f : Nat) (cs : List Value) (x : DataW H × List MemPlace) (h : DataW.trod enc Tryz.prog W 0 (fun _ => true) true f 112 cs = some x) :
    ∃ m : Mg, cs = mgL m ∧ MgB W (Rows.uptoBulk x.1) m := by
  obtain ⟨xs, m, _, hxe, hlen, hxl, hf⟩ := DataW.trod_struct Tryz.underlying112 h
  rw [show Tryz.prog.cellsOf 112 = 4 by kernel_rfl] at hlen
  simp only [List.size_toArray, List.length_cons, List.length_nil] at hxl
  have g : ∀ i, i < 4 → ∃ y, xs[i]? = some y := fun i hi => ⟨xs[i], List.getElem?_eq_getElem (by omega)⟩
  obtain ⟨y0, e0⟩ := g 0 (by omega)
  obtain ⟨y1, e1⟩ := g 1 (by omega)
  obtain ⟨y2, e2⟩ := g 2 (by omega)
  obtain ⟨y3, e3⟩ := g 3 (by omega)
  have f0 : DataW.trod enc Tryz.prog W 0 (fun _ => true) true m 3 ((cs.drop 0).take (Tryz.prog.cellsOf 3)) = xs[0]? := hf 0 _ rfl
  have f1 : DataW.trod enc Tryz.prog W 0 (fun _ => true) true m 108 ((cs.drop 1).take (Tryz.prog.cellsOf 108)) = xs[1]? := hf 1 _ rfl
  have f2 : DataW.trod enc Tryz.prog W 0 (fun _ => true) true m 109 ((cs.drop 2).take (Tryz.prog.cellsOf 109)) = xs[2]? := hf 2 _ rfl
  have f3 : DataW.trod enc Tryz.prog W 0 (fun _ => true) true m 110 ((cs.drop 3).take (Tryz.prog.cellsOf 110)) = xs[3]? := hf 3 _ rfl
  rw [e0, show Tryz.prog.cellsOf 3 = 1 by kernel_rfl] at f0
  rw [e1, show Tryz.prog.cellsOf 108 = 1 by kernel_rfl] at f1
  rw [e2, show Tryz.prog.cellsOf 109 = 1 by kernel_rfl] at f2
  rw [e3, show Tryz.prog.cellsOf 110 = 1 by kernel_rfl] at f3
  obtain ⟨k, h0, hk⟩ := int15_raw _ _ _ f0
  obtain ⟨ts, tv, h1, ht, htl, -, hts⟩ := rows_rawS (n := 1) Tryz.underlying108 (by kernel_rfl) (by omega) (fun s : ByteArray => [Value.string s]) (fun _ => rfl) (fun s k => s.size ≤ k) str15_raw f1
  obtain ⟨is, iv, h2, hi, hil, hio, -⟩ := rows_rawS (n := 1) Tryz.underlying109 (by kernel_rfl) (by omega) (fun s : Int => [Value.int .i64 s]) (fun _ => rfl) (fun s k => i64b s) int15_raw f2
  obtain ⟨ds, dv, h3, hd, hdl, hdo, hds⟩ := rows_rawS (n := 1) Tryz.underlying110 (by kernel_rfl) (by omega) (fun t : Tb => [t.bv]) (fun _ => rfl) (fun t k => bytesOk t.bs ∧ BytesIn W t.bv t.bs ∧ t.bs.length ≤ k) tb15_raw f3
  have b1 := bulkAt (l := xs.map (·.1)) (i := 1) (d := y1.1) (by rw [List.getElem?_map, e1]; rfl)
  have b2 := bulkAt (l := xs.map (·.1)) (i := 2) (d := y2.1) (by rw [List.getElem?_map, e2]; rfl)
  have b3 := bulkAt (l := xs.map (·.1)) (i := 3) (d := y3.1) (by rw [List.getElem?_map, e3]; rfl)
  have hB : Rows.uptoBulkAll (xs.map (·.1)) ≤ Rows.uptoBulk x.1 := by rw [hxe]; simp only [Rows.uptoBulk]; omega
  refine ⟨⟨k, tv, ts, iv, is, dv, ds⟩, ?_, ⟨⟨ht, hi, hd, fun t m => (hdo t m).elim fun _ q => q.1.2.1⟩, ⟨hk, fun i m => (hio i m).elim fun _ q => q.1⟩, fun t m => (hdo t m).elim fun _ q => q.1.1, by show ts.length ≤ _; omega, by show is.length ≤ _; omega, by show ds.length ≤ _; omega, Nat.le_trans (hts ByteArray.size fun t k q => q) (by omega), Nat.le_trans (hds (fun t => t.bs.length) fun t k q => q.2.2) (by omega)⟩⟩
  show cs.drop 0 = _
  rw [dcut15 cs 0 1 1 rfl, dcut15 cs 1 1 2 rfl, dcut15 cs 2 1 3 rfl, dcut15 cs 3 1 4 rfl, dend15 cs 4 hlen, h0, h1, h2, h3]
  simp [mgL]
/-- a transaction that came in, in a bulk of B -/
structure TrBk (W : World) (B : Nat) (x : Tr) : Prop where
  e : TrE W x
  f : TrFl x
  so : bytesOk x.sg
  ok : ∀ m ∈ x.ms, MgB W B m
  na : x.acc.size ≤ B
  nd : x.den.size ≤ B
  nm : x.ms.length ≤ B
  ns : x.sg.length ≤ B
theorem tr_argB {H : Type} {enc : TypeId × Value → H} {W : World} {cs : Array Value} {d : DataW H} {p : List MemPlace} (h : DataW.Trod enc Tryz.prog W 0 (fun _ => true) true 27 (.agg cs) d p) :
    ∃ x : Tr, cs = trC15 x ∧ TrBk W (Rows.uptoBulk d) x := by
  obtain ⟨fuel, hf⟩ := h
  have hf' : DataW.trod enc Tryz.prog W 0 (fun _ => true) true fuel 27 cs.toList = some (d, p) := by simpa [Value.cells] using hf
  obtain ⟨xs, m, _, hxe, hlen, hxl, hf2⟩ := DataW.trod_struct Tryz.underlying27 hf'
  rw [show Tryz.prog.cellsOf 27 = 6 by kernel_rfl] at hlen
  simp only [List.size_toArray, List.length_cons, List.length_nil] at hxl
  have g : ∀ i, i < 5 → ∃ y, xs[i]? = some y := fun i hi => ⟨xs[i], List.getElem?_eq_getElem (by omega)⟩
  obtain ⟨y0, e0⟩ := g 0 (by omega)
  obtain ⟨y1, e1⟩ := g 1 (by omega)
  obtain ⟨y2, e2⟩ := g 2 (by omega)
  obtain ⟨y3, e3⟩ := g 3 (by omega)
  obtain ⟨y4, e4⟩ := g 4 (by omega)
  have f0 : DataW.trod enc Tryz.prog W 0 (fun _ => true) true m 9 ((cs.toList.drop 0).take (Tryz.prog.cellsOf 9)) = xs[0]? := hf2 0 _ rfl
  have f1 : DataW.trod enc Tryz.prog W 0 (fun _ => true) true m 3 ((cs.toList.drop 1).take (Tryz.prog.cellsOf 3)) = xs[1]? := hf2 1 _ rfl
  have f2 : DataW.trod enc Tryz.prog W 0 (fun _ => true) true m 23 ((cs.toList.drop 2).take (Tryz.prog.cellsOf 23)) = xs[2]? := hf2 2 _ rfl
  have f3 : DataW.trod enc Tryz.prog W 0 (fun _ => true) true m 24 ((cs.toList.drop 4).take (Tryz.prog.cellsOf 24)) = xs[3]? := hf2 3 _ rfl
  have f4 : DataW.trod enc Tryz.prog W 0 (fun _ => true) true m 25 ((cs.toList.drop 5).take (Tryz.prog.cellsOf 25)) = xs[4]? := hf2 4 _ rfl
  rw [e0, show Tryz.prog.cellsOf 9 = 1 by kernel_rfl] at f0
  rw [e1, show Tryz.prog.cellsOf 3 = 1 by kernel_rfl] at f1
  rw [e2, show Tryz.prog.cellsOf 23 = 2 by kernel_rfl] at f2
  rw [e3, show Tryz.prog.cellsOf 24 = 1 by kernel_rfl] at f3
  rw [e4, show Tryz.prog.cellsOf 25 = 1 by kernel_rfl] at f4
  have b0 := bulkAt (l := xs.map (·.1)) (i := 0) (d := y0.1) (by rw [List.getElem?_map, e0]; rfl)
  have b2 := bulkAt (l := xs.map (·.1)) (i := 2) (d := y2.1) (by rw [List.getElem?_map, e2]; rfl)
  have b3 := bulkAt (l := xs.map (·.1)) (i := 3) (d := y3.1) (by rw [List.getElem?_map, e3]; rfl)
  have b4 := bulkAt (l := xs.map (·.1)) (i := 4) (d := y4.1) (by rw [List.getElem?_map, e4]; rfl)
  have hB : Rows.uptoBulkAll (xs.map (·.1)) ≤ Rows.uptoBulk d := by
    have hd : d = _ := (Prod.mk.inj hxe).1
    rw [hd]; simp only [Rows.uptoBulk]; omega
  obtain ⟨acc, h0, ha⟩ := str15_raw _ _ _ f0
  obtain ⟨seq, h1, hs⟩ := int15_raw _ _ _ f1
  obtain ⟨zs, m2, _, hze, hzlen, hzl, hz2⟩ := DataW.trod_struct Tryz.underlying23 f2
  rw [show Tryz.prog.cellsOf 23 = 2 by kernel_rfl] at hzlen
  simp only [List.size_toArray, List.length_cons, List.length_nil] at hzl
  have gz : ∀ i, i < 2 → ∃ y, zs[i]? = some y := fun i hi => ⟨zs[i], List.getElem?_eq_getElem (by omega)⟩
  obtain ⟨u0, v0⟩ := gz 0 (by omega)
  obtain ⟨u1, v1⟩ := gz 1 (by omega)
  have k0 : DataW.trod enc Tryz.prog W 0 (fun _ => true) true m2 9 ((((cs.toList.drop 2).take 2).drop 0).take (Tryz.prog.cellsOf 9)) = zs[0]? := hz2 0 _ rfl
  have k1 : DataW.trod enc Tryz.prog W 0 (fun _ => true) true m2 3 ((((cs.toList.drop 2).take 2).drop 1).take (Tryz.prog.cellsOf 3)) = zs[1]? := hz2 1 _ rfl
  rw [v0, show Tryz.prog.cellsOf 9 = 1 by kernel_rfl] at k0
  rw [v1, show Tryz.prog.cellsOf 3 = 1 by kernel_rfl] at k1
  obtain ⟨den, h2, hdn⟩ := str15_raw _ _ _ k0
  obtain ⟨amt, h3, ham⟩ := int15_raw _ _ _ k1
  have bz := bulkAt (l := zs.map (·.1)) (i := 0) (d := u0.1) (by rw [List.getElem?_map, v0]; rfl)
  have hZ : Rows.uptoBulkAll (zs.map (·.1)) ≤ Rows.uptoBulk y2.1 := by rw [hze]; simp only [Rows.uptoBulk]; omega
  obtain ⟨ms, mv, h4, hm, hml, hmo, -⟩ := rows_rawS (n := 4) Tryz.underlying24 (by kernel_rfl) (by omega) mgL (fun _ => rfl) (fun m k => MgB W k m) mg_raw f3
  obtain ⟨sv, sg, h5, hsin, hsok, _, hsl, _⟩ := bytes_raw f4
  refine ⟨⟨acc, seq, den, amt, mv, ms, sv, sg⟩, ?_, ⟨hm, fun t q => (hmo t q).elim fun _ z => z.1.e, hsin⟩, ⟨hs, ham, fun t q => (hmo t q).elim fun _ z => z.1.f⟩, hsok, fun t q => (hmo t q).elim fun _ z => z.1.mono (by omega), by show acc.size ≤ _; omega, by show den.size ≤ _; omega, by show ms.length ≤ _; omega, by show sg.length ≤ _; omega⟩
  apply Array.toList_inj.1
  have hc : (cs.toList.drop 2).take 2 = [.string den, .int .i64 amt] := by
    have e := dcut15 ((cs.toList.drop 2).take 2) 0 1 1 rfl
    rw [dcut15 ((cs.toList.drop 2).take 2) 1 1 2 rfl, dend15 _ 2 hzlen, h2, h3] at e
    simpa using e
  show cs.toList.drop 0 = _
  rw [dcut15 cs.toList 0 1 1 rfl, dcut15 cs.toList 1 1 2 rfl, dcut15 cs.toList 2 2 4 rfl, dcut15 cs.toList 4 1 5 rfl, dcut15 cs.toList 5 1 6 rfl, dend15 cs.toList 6 hlen, h0, h1, hc, h4, h5]
  simp [trC15]
/-- how long all bytes are -/
theorem catL_le {α : Type} (f : α → List Int) (c : Nat) : ∀ l : List α, (∀ t ∈ l, (f t).length ≤ c) → (catL f l).length ≤ l.length * c
  | [], _ => Nat.zero_le _
  | t :: l, h => by
    have := h t List.mem_cons_self
    have := catL_le f c l (fun u hu => h u (List.mem_cons_of_mem _ hu))
    rw [catL, List.length_append, List.length_cons, Nat.add_mul]; omega
theorem catL_sum {α : Type} (f : α → List Int) (g : α → Nat) : ∀ l : List α, (∀ t ∈ l, (f t).length ≤ 10 + g t) → (catL f l).length ≤ 10 * l.length + (l.map g).sum
  | [], _ => Nat.zero_le _
  | t :: l, h => by
    have := h t List.mem_cons_self
    have := catL_sum f g l (fun u hu => h u (List.mem_cons_of_mem _ hu))
    rw [catL, List.length_append, List.length_cons, List.map_cons, List.sum_cons]; omega
theorem varint_le {n : Nat} (h : n < 18446744073709551616) : (varint n).length ≤ 10 := glenT h
theorem mem_sum_le {l : List Nat} {n : Nat} (h : n ∈ l) : n ≤ l.sum := by
  induction l with
  | nil => cases h
  | cons x l ih =>
    rw [List.sum_cons]
    rcases List.mem_cons.1 h with rfl | h
    · omega
    · have := ih h; omega
theorem MgB.len {W : World} {B : Nat} {m : Mg} (h : MgB W B m) (hB : B ≤ 1048576) : (mg1 m).length ≤ 40 + 32 * B := by
  have h1 := catL_sum st1 ByteArray.size m.ts (fun s hs => by
    have := mem_sum_le (List.mem_map.2 ⟨s, hs, rfl⟩ : s.size ∈ m.ts.map ByteArray.size)
    have := h.st
    rw [st1_len]
    have := varint_le (n := s.size) (by omega)
    omega)
  have h2 := catL_sum it1 (fun _ => 0) m.is (fun i hi => by have := it1_len (h.f.i i hi); omega)
  have h3 := catL_sum tb1 (fun t => t.bs.length) m.ds (fun t ht => by
    have := mem_sum_le (List.mem_map.2 ⟨t, ht, rfl⟩ : t.bs.length ∈ m.ds.map fun t => t.bs.length)
    have := h.sd
    unfold tb1
    rw [List.length_append]
    have := varint_le (n := t.bs.length) (by omega)
    omega)
  have h4 : (m.is.map (fun _ => 0)).sum = 0 := by
    have : ∀ l : List Int, (l.map (fun _ => 0)).sum = 0 := fun l => by induction l with
      | nil => rfl
      | cons x l ih => rw [List.map_cons, List.sum_cons, ih]
    exact this _
  have k1 := varint_le (n := m.ts.length) (by have := h.nt; omega)
  have k2 := varint_le (n := m.is.length) (by have := h.ni; omega)
  have k3 := varint_le (n := m.ds.length) (by have := h.nd; omega)
  have k0 := it1_len h.f.k
  have := h.nt; have := h.ni; have := h.nd; have := h.st; have := h.sd
  simp only [mg1, listL, List.length_append]
  omega
theorem TrBk.len {W : World} {B : Nat} {x : Tr} (h : TrBk W B x) (hB : B ≤ 1048576) : (tr1 x).length + x.sg.length ≤ 70368744177664 := by
  have h1 := catL_le mg1 (40 + 32 * B) x.ms (fun m hm => (h.ok m hm).len hB)
  have h2 : x.ms.length * (40 + 32 * B) ≤ 1048576 * (40 + 32 * 1048576) := Nat.mul_le_mul (Nat.le_trans h.nm hB) (by omega)
  have k1 := varint_le (n := x.ms.length) (by have := h.nm; omega)
  have k2 := varint_le (n := x.acc.size) (by have := h.na; omega)
  have k3 := varint_le (n := x.den.size) (by have := h.nd; omega)
  have k4 := it1_len h.f.s
  have k5 := it1_len h.f.a
  have := h.na; have := h.nd; have := h.nm; have := h.ns
  simp only [tr1, listL, List.length_append, st1_len]
  omega
end Go.Proofs.YtejglhlodfhgkaaGreatDoor
