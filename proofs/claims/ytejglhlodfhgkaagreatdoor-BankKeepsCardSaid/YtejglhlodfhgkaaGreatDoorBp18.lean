/- Part 18 of the proof. -/
import Derived.Test.YtejglhlodfhgkaaGreatDoorBp1
import Derived.Test.YtejglhlodfhgkaaGreatDoorBp17
namespace Go.Proofs.YtejglhlodfhgkaaGreatDoor
set_option linter.unusedVariables false
set_option linter.unusedSimpArgs false
open Go.ChangeShapes Go.WideShapes Go.ChangeAt Go.RowKit Go.Proofs
set_option maxRecDepth 100000
set_option linter.unusedSimpArgs false
set_option linter.unusedVariables false
theorem dcutV {α : Type} (cs : List α) (o k m : Nat) (h : m = o + k) : cs.drop o = (cs.drop o).take k ++ cs.drop m := by rw [h, ← List.drop_drop, List.take_append_drop]
theorem dendV {α : Type} (cs : List α) (m : Nat) (h : cs.length = m) : cs.drop m = [] := List.drop_of_length_le (by omega)
theorem weights_allV {H : Type} {P : Program} {e : TypeId} : ∀ {l : List (DataW H)} {d : DataW H}, d ∈ l → ∀ n ∈ d.weights P e, n ∈ DataW.weightsAll P e l
  | x :: r, d, h, n, hn => by
    simp only [DataW.weightsAll]
    rcases List.mem_cons.1 h with rfl | h
    · exact List.mem_append_left _ hn
    · exact List.mem_append_right _ (weights_allV h n hn)
/-- a slice of rows that came in, with what each weighs -/
theorem rows_rawV {H α : Type} {enc : TypeId × Value → H} {W : World} {T E : TypeId} {n : Nat} (hT : Tryz.prog.underlying T = some (.slice E)) (hn : Tryz.prog.cellsOf E = n) (hn0 : 0 < n) (C : α → List Value) (hC : ∀ t, (C t).length = n) (Ok : α → DataW H → Prop)
    (hel : ∀ (f : Nat) (cs : List Value) (x : DataW H × List MemPlace), DataW.trod enc Tryz.prog W 0 (fun _ => true) true f E cs = some x → ∃ t, cs = C t ∧ Ok t x.1)
    {fuel : Nat} {cs : List Value} {x : DataW H × List MemPlace} (h : DataW.trod enc Tryz.prog W 0 (fun _ => true) true fuel T cs = some x) :
    ∃ (ts : List α) (v : Value), cs = [v] ∧ RowsIn n C W v ts ∧ ∀ t ∈ ts, ∃ d, Ok t d ∧ ∀ m ∈ d.weights Tryz.prog E, m ∈ x.1.weights Tryz.prog T := by
  rcases Deep.open_slice hT h with ⟨hcs, hx⟩ | ⟨ad, l, c, m, f, D, Pl, hcs, _, hl, hm, hmm, hx, hel2⟩
  · exact ⟨[], _, hcs, ⟨none, 0, rfl, by simp, by simp [maxLen], .inl rfl⟩, by simp⟩
  · simp only [if_true] at hmm
    subst hx
    rw [hn] at hel2
    have key : ∀ i, i < l → ∃ t : α, (∀ j v, (C t)[j]? = some v → W.cell? (ad.add (i * n + j)) = some v) ∧ Ok t (D i) := by
      intro i hi
      obtain ⟨cs', h1, h2⟩ := hel2 i (by omega)
      obtain ⟨_, hlen, hcell⟩ := World.cells?_some h1
      obtain ⟨t, rfl, hok⟩ := hel f _ _ h2
      refine ⟨t, fun j v hv => ?_, hok⟩
      have hj : j < n := by have := (List.getElem?_eq_some_iff.1 hv).1; rw [hC] at this; exact this
      rw [← hv, ← hcell j hj]
      by_cases hj0 : j = 0 <;> by_cases hi0 : i * n = 0 <;> simp [hj0, hi0, Addr.add, Nat.add_assoc]
    by_cases hl0 : l = 0
    · subst hl0
      exact ⟨[], _, hcs, ⟨some ad, c, rfl, by simp, by simp [maxLen], .inl rfl⟩, by simp⟩
    · obtain ⟨t0, _⟩ := key 0 (by omega)
      have key2 : ∀ i, ∃ t : α, i < l → (∀ j v, (C t)[j]? = some v → W.cell? (ad.add (i * n + j)) = some v) ∧ Ok t (D i) := fun i => by
        by_cases hi : i < l
        · obtain ⟨t, ht⟩ := key i hi; exact ⟨t, fun _ => ht⟩
        · exact ⟨t0, fun h => absurd h hi⟩
      obtain ⟨F, hF⟩ : ∃ F : Nat → α, ∀ i, i < l → (∀ j v, (C (F i))[j]? = some v → W.cell? (ad.add (i * n + j)) = some v) ∧ Ok (F i) (D i) := ⟨fun i => (key2 i).choose, fun i => (key2 i).choose_spec⟩
      have hget : ∀ i t, ((List.range l).map F)[i]? = some t → i < l ∧ F i = t := fun i t hi => by
        have hil : i < l := by have := (List.getElem?_eq_some_iff.1 hi).1; simpa using this
        rw [List.getElem?_map, List.getElem?_range hil] at hi
        cases hi; exact ⟨hil, rfl⟩
      refine ⟨(List.range l).map F, _, hcs, ⟨some ad, c, by simp, by simpa using hl, by simp; omega, .inr ?_⟩, fun t ht => ?_⟩
      · obtain ⟨b, off, spot⟩ := ad
        have h1 : (C (F 0))[0]? = some (C (F 0))[0]! := by rw [List.getElem?_eq_getElem (by rw [hC]; exact hn0)]; simp [hC, hn0]
        have h0 := (hF 0 (by omega)).1 0 _ h1
        have hspot : spot = none := by simpa [Addr.add] using World.cell?_spot h0
        subst hspot
        refine ⟨b, off, rfl, by simpa [Addr.add] using World.block_lt_of_cell? _ _ h0, fun i t hi => ?_⟩
        obtain ⟨hil, rfl⟩ := hget i t hi
        intro j v hv
        have := (hF i hil).1 j v hv
        rw [Addr.add_mid] at this
        rw [Nat.add_assoc]; exact this
      · obtain ⟨i, hi, rfl⟩ := List.mem_map.1 ht
        refine ⟨D i, (hF i (List.mem_range.1 hi)).2, fun q hq => ?_⟩
        simp only [DataW.weights, hT]
        exact List.mem_cons_of_mem _ (List.mem_append_left _ (weights_allV (List.mem_map.2 ⟨i, hi, rfl⟩) _ hq))
end Go.Proofs.YtejglhlodfhgkaaGreatDoor
namespace Go.Proofs.YtejglhlodfhgkaaGreatDoor
set_option linter.unusedVariables false
set_option linter.unusedSimpArgs false
open Go.ChangeShapes Go.WideShapes Go.ChangeAt Go.RowKit Go.Proofs
set_option maxRecDepth 100000
set_option linter.unusedSimpArgs false
set_option linter.unusedVariables false
/-- an Act of bank's laws -/
structure BkAc where
  kind : Int
  src : ByteArray
  dst : ByteArray
  den : ByteArray
  amt : Int
  key : ByteArray
  val : ByteArray
def bkAcC (t : BkAc) : List Value := [.int .i64 t.kind, .string t.src, .string t.dst, .string t.den, .int .i64 t.amt, .string t.key, .string t.val]
theorem bkAcC_length (t : BkAc) : (bkAcC t).length = 7 := rfl
abbrev AcIn (w : World) (v : Value) (l : List BkAc) : Prop := RowsIn 7 bkAcC w v l
/-- what an Act that came in keeps to -/
def bkAcOk {H : Type} (t : BkAc) (d : DataW H) : Prop :=
  (-9223372036854775808 ≤ t.kind ∧ t.kind ≤ 9223372036854775807) ∧ (-9223372036854775808 ≤ t.amt ∧ t.amt ≤ 9223372036854775807) ∧
  (∀ b, (∀ n ∈ d.weights Tryz.prog 72, n ≤ b) → t.src.size ≤ b ∧ t.dst.size ≤ b ∧ t.den.size ≤ b ∧ t.key.size ≤ b ∧ t.val.size ≤ b) ∧
  t.src.size + t.dst.size + t.den.size + t.key.size + t.val.size ≤ Rows.uptoBulk d
theorem bulk5 {H : Type} {d0 d1 d2 d3 d4 : DataW H} : Rows.uptoBulkAll [d0, d1, d2, d3, d4] = Rows.uptoBulk d0 + Rows.uptoBulk d1 + Rows.uptoBulk d2 + Rows.uptoBulk d3 + Rows.uptoBulk d4 := by
  simp only [Rows.uptoBulkAll]; omega
theorem five_of {α : Type} {l : List α} (h : l.length = 5) {a b c d e : α} (h0 : l[0]? = some a) (h1 : l[1]? = some b) (h2 : l[2]? = some c) (h3 : l[3]? = some d) (h4 : l[4]? = some e) : l = [a, b, c, d, e] := by
  match l, h with
  | [x0, x1, x2, x3, x4], _ => simp at h0 h1 h2 h3 h4; rw [h0, h1, h2, h3, h4]
theorem two_of {α : Type} {l : List α} (h : l.length = 2) {a b : α} (h0 : l[0]? = some a) (h1 : l[1]? = some b) : l = [a, b] := by
  match l, h with
  | [x0, x1], _ => simp at h0 h1; rw [h0, h1]
theorem coin_raw {H : Type} {enc : TypeId × Value → H} {W : World} {f : Nat} {cs : List Value} {x : DataW H × List MemPlace} (h : DataW.trod enc Tryz.prog W 0 (fun _ => true) true f 23 cs = some x) :
    ∃ (s : ByteArray) (a : Int), cs = [.string s, .int .i64 a] ∧ (-9223372036854775808 ≤ a ∧ a ≤ 9223372036854775807) ∧ (∀ b, (∀ n ∈ x.1.weights Tryz.prog 23, n ≤ b) → s.size ≤ b) ∧ s.size ≤ Rows.uptoBulk x.1 := by
  obtain ⟨xs, m, _, rfl, hlen, hxl, hf⟩ := DataW.trod_struct Tryz.underlying23 h
  rw [show Tryz.prog.cellsOf 23 = 2 by kernel_rfl] at hlen
  simp only [List.size_toArray, List.length_cons, List.length_nil] at hxl
  have g : ∀ i, i < 2 → ∃ y, xs[i]? = some y := fun i hi => ⟨xs[i], List.getElem?_eq_getElem (by omega)⟩
  obtain ⟨y0, e0⟩ := g 0 (by omega)
  obtain ⟨y1, e1⟩ := g 1 (by omega)
  have f0 : DataW.trod enc Tryz.prog W 0 (fun _ => true) true m 9 ((cs.drop 0).take (Tryz.prog.cellsOf 9)) = xs[0]? := hf 0 _ rfl
  have f1 : DataW.trod enc Tryz.prog W 0 (fun _ => true) true m 3 ((cs.drop 1).take (Tryz.prog.cellsOf 3)) = xs[1]? := hf 1 _ rfl
  rw [e0, show Tryz.prog.cellsOf 9 = 1 by kernel_rfl] at f0
  rw [e1, show Tryz.prog.cellsOf 3 = 1 by kernel_rfl] at f1
  obtain ⟨s, h0, x0, _⟩ := DataW.trod_string Tryz.underlying9 f0
  obtain ⟨a, h1, x1, wa⟩ := DataW.trod_int Tryz.underlying3 f1
  refine ⟨s, a, ?_, bounds_i64 wa, fun b hw => ?_, ?_⟩
  · show cs.drop 0 = _
    rw [dcutV cs 0 1 1 rfl, dcutV cs 1 1 2 rfl, dendV cs 2 hlen, h0, h1]
    rfl
  · have h4 : s.data.toList.length ∈ y0.1.weights Tryz.prog 9 := by rw [x0]; simp [DataW.weights]
    have h6 := hw _ (by simp only [DataW.weights, Tryz.underlying23]; exact DataW.weights_mem_each (j := 0) (t := 9) rfl (by rw [List.getElem?_map, e0]; rfl) _ h4)
    rw [Array.length_toList] at h6
    exact h6
  · have hm : (xs.map (·.1)) = [y0.1, y1.1] := two_of (by simpa using hxl) (by rw [List.getElem?_map, e0]; rfl) (by rw [List.getElem?_map, e1]; rfl)
    show _ ≤ Rows.uptoBulk (.agg (xs.map (·.1)))
    rw [hm, x0]
    simp only [Rows.uptoBulk, Rows.uptoBulkAll, Array.length_toList]
    show s.data.size ≤ _
    omega
theorem pair_raw16 {H : Type} {enc : TypeId × Value → H} {W : World} {f : Nat} {cs : List Value} {x : DataW H × List MemPlace} (h : DataW.trod enc Tryz.prog W 0 (fun _ => true) true f 70 cs = some x) :
    ∃ s t : ByteArray, cs = [.string s, .string t] ∧ (∀ b, (∀ n ∈ x.1.weights Tryz.prog 70, n ≤ b) → s.size ≤ b ∧ t.size ≤ b) ∧ s.size + t.size ≤ Rows.uptoBulk x.1 := by
  obtain ⟨xs, m, _, rfl, hlen, hxl, hf⟩ := DataW.trod_struct Tryz.underlying70 h
  rw [show Tryz.prog.cellsOf 70 = 2 by kernel_rfl] at hlen
  simp only [List.size_toArray, List.length_cons, List.length_nil] at hxl
  have g : ∀ i, i < 2 → ∃ y, xs[i]? = some y := fun i hi => ⟨xs[i], List.getElem?_eq_getElem (by omega)⟩
  obtain ⟨y0, e0⟩ := g 0 (by omega)
  obtain ⟨y1, e1⟩ := g 1 (by omega)
  have f0 : DataW.trod enc Tryz.prog W 0 (fun _ => true) true m 9 ((cs.drop 0).take (Tryz.prog.cellsOf 9)) = xs[0]? := hf 0 _ rfl
  have f1 : DataW.trod enc Tryz.prog W 0 (fun _ => true) true m 9 ((cs.drop 1).take (Tryz.prog.cellsOf 9)) = xs[1]? := hf 1 _ rfl
  rw [e0, show Tryz.prog.cellsOf 9 = 1 by kernel_rfl] at f0
  rw [e1, show Tryz.prog.cellsOf 9 = 1 by kernel_rfl] at f1
  obtain ⟨s, h0, x0, _⟩ := DataW.trod_string Tryz.underlying9 f0
  obtain ⟨t, h1, x1, _⟩ := DataW.trod_string Tryz.underlying9 f1
  refine ⟨s, t, ?_, fun b hw => ⟨?_, ?_⟩, ?_⟩
  · show cs.drop 0 = _
    rw [dcutV cs 0 1 1 rfl, dcutV cs 1 1 2 rfl, dendV cs 2 hlen, h0, h1]
    rfl
  · have h4 : s.data.toList.length ∈ y0.1.weights Tryz.prog 9 := by rw [x0]; simp [DataW.weights]
    have h6 := hw _ (by simp only [DataW.weights, Tryz.underlying70]; exact DataW.weights_mem_each (j := 0) (t := 9) rfl (by rw [List.getElem?_map, e0]; rfl) _ h4)
    rw [Array.length_toList] at h6
    exact h6
  · have h4 : t.data.toList.length ∈ y1.1.weights Tryz.prog 9 := by rw [x1]; simp [DataW.weights]
    have h6 := hw _ (by simp only [DataW.weights, Tryz.underlying70]; exact DataW.weights_mem_each (j := 1) (t := 9) rfl (by rw [List.getElem?_map, e1]; rfl) _ h4)
    rw [Array.length_toList] at h6
    exact h6
  · have hm : (xs.map (·.1)) = [y0.1, y1.1] := two_of (by simpa using hxl) (by rw [List.getElem?_map, e0]; rfl) (by rw [List.getElem?_map, e1]; rfl)
    show _ ≤ Rows.uptoBulk (.agg (xs.map (·.1)))
    rw [hm, x0, x1]
    simp only [Rows.uptoBulk, Rows.uptoBulkAll, Array.length_toList]
    show s.data.size + t.data.size ≤ _
    omega
theorem bkact_raw {H : Type} {enc : TypeId × Value → H} {W : World} (f : Nat) (cs : List Value) (x : DataW H × List MemPlace) (h : DataW.trod enc Tryz.prog W 0 (fun _ => true) true f 72 cs = some x) :
    ∃ t : BkAc, cs = bkAcC t ∧ bkAcOk t x.1 := by
  obtain ⟨xs, m, _, rfl, hlen, hxl, hf⟩ := DataW.trod_struct Tryz.underlying72 h
  rw [show Tryz.prog.cellsOf 72 = 7 by kernel_rfl] at hlen
  simp only [List.size_toArray, List.length_cons, List.length_nil] at hxl
  have g : ∀ i, i < 5 → ∃ y, xs[i]? = some y := fun i hi => ⟨xs[i], List.getElem?_eq_getElem (by omega)⟩
  obtain ⟨y0, e0⟩ := g 0 (by omega)
  obtain ⟨y1, e1⟩ := g 1 (by omega)
  obtain ⟨y2, e2⟩ := g 2 (by omega)
  obtain ⟨y3, e3⟩ := g 3 (by omega)
  obtain ⟨y4, e4⟩ := g 4 (by omega)
  have f0 : DataW.trod enc Tryz.prog W 0 (fun _ => true) true m 3 ((cs.drop 0).take (Tryz.prog.cellsOf 3)) = xs[0]? := hf 0 _ rfl
  have f1 : DataW.trod enc Tryz.prog W 0 (fun _ => true) true m 9 ((cs.drop 1).take (Tryz.prog.cellsOf 9)) = xs[1]? := hf 1 _ rfl
  have f2 : DataW.trod enc Tryz.prog W 0 (fun _ => true) true m 9 ((cs.drop 2).take (Tryz.prog.cellsOf 9)) = xs[2]? := hf 2 _ rfl
  have f3 : DataW.trod enc Tryz.prog W 0 (fun _ => true) true m 23 ((cs.drop 3).take (Tryz.prog.cellsOf 23)) = xs[3]? := hf 3 _ rfl
  have f4 : DataW.trod enc Tryz.prog W 0 (fun _ => true) true m 70 ((cs.drop 5).take (Tryz.prog.cellsOf 70)) = xs[4]? := hf 4 _ rfl
  rw [e0, show Tryz.prog.cellsOf 3 = 1 by kernel_rfl] at f0
  rw [e1, show Tryz.prog.cellsOf 9 = 1 by kernel_rfl] at f1
  rw [e2, show Tryz.prog.cellsOf 9 = 1 by kernel_rfl] at f2
  rw [e3, show Tryz.prog.cellsOf 23 = 2 by kernel_rfl] at f3
  rw [e4, show Tryz.prog.cellsOf 70 = 2 by kernel_rfl] at f4
  obtain ⟨k, h0, x0, wk⟩ := DataW.trod_int Tryz.underlying3 f0
  obtain ⟨s, h1, x1, _⟩ := DataW.trod_string Tryz.underlying9 f1
  obtain ⟨t, h2, x2, _⟩ := DataW.trod_string Tryz.underlying9 f2
  obtain ⟨d, a, h3, wa, wd, bd⟩ := coin_raw f3
  obtain ⟨u, v, h4, wp, bp⟩ := pair_raw16 f4
  have each : ∀ {b : Nat}, (∀ n ∈ (DataW.agg (xs.map (·.1))).weights Tryz.prog 72, n ≤ b) → ∀ (j : Nat) (T : TypeId) (y : DataW H × List MemPlace), [3, 9, 9, 23, 70][j]? = some T → xs[j]? = some y → ∀ n ∈ y.1.weights Tryz.prog T, n ≤ b := fun hw j T y hT hy n hn =>
    hw n (by simp only [DataW.weights, Tryz.underlying72]; exact DataW.weights_mem_each (j := j) (t := T) hT (by rw [List.getElem?_map, hy]; rfl) _ hn)
  have hs : ∀ (z : ByteArray) (y : DataW H), y = .lit (.string z.data.toList) → z.data.toList.length ∈ y.weights Tryz.prog 9 := fun z y e => by rw [e]; simp [DataW.weights]
  refine ⟨⟨k, s, t, d, a, u, v⟩, ?_, bounds_i64 wk, wa, fun b hw => ⟨?_, ?_, ?_, ?_, ?_⟩, ?_⟩
  · show cs.drop 0 = _
    rw [dcutV cs 0 1 1 rfl, dcutV cs 1 1 2 rfl, dcutV cs 2 1 3 rfl, dcutV cs 3 2 5 rfl, dcutV cs 5 2 7 rfl, dendV cs 7 hlen, h0, h1, h2, h3, h4]
    rfl
  · have := each hw 1 9 y1 rfl e1 _ (hs s _ (Prod.mk.inj x1).1)
    rw [Array.length_toList] at this; exact this
  · have := each hw 2 9 y2 rfl e2 _ (hs t _ (Prod.mk.inj x2).1)
    rw [Array.length_toList] at this; exact this
  · exact wd b (each hw 3 23 y3 rfl e3)
  · exact (wp b (each hw 4 70 y4 rfl e4)).1
  · exact (wp b (each hw 4 70 y4 rfl e4)).2
  · have hm : (xs.map (·.1)) = [y0.1, y1.1, y2.1, y3.1, y4.1] := five_of (by simpa using hxl) (by rw [List.getElem?_map, e0]; rfl) (by rw [List.getElem?_map, e1]; rfl) (by rw [List.getElem?_map, e2]; rfl) (by rw [List.getElem?_map, e3]; rfl) (by rw [List.getElem?_map, e4]; rfl)
    show _ ≤ Rows.uptoBulk (.agg (xs.map (·.1)))
    rw [hm]
    simp only [Rows.uptoBulk]
    rw [bulk5]
    have q1 : s.size ≤ Rows.uptoBulk y1.1 := by rw [x1]; simp only [Rows.uptoBulk, Array.length_toList]; show s.data.size ≤ _; omega
    have q2 : t.size ≤ Rows.uptoBulk y2.1 := by rw [x2]; simp only [Rows.uptoBulk, Array.length_toList]; show t.data.size ≤ _; omega
    show s.size + t.size + d.size + u.size + v.size ≤ _
    omega
theorem bkacts_arg {H : Type} {enc : TypeId × Value → H} {W : World} {a : Option Addr} {len cap : Nat} {d : DataW H} {p : List MemPlace} (h : DataW.Trod enc Tryz.prog W 0 (fun _ => true) true 64 (.slice a len cap) d p) :
    ∃ l : List BkAc, l.length = len ∧ AcIn W (.slice a len cap) l ∧ (∀ t ∈ l, (-9223372036854775808 ≤ t.kind ∧ t.kind ≤ 9223372036854775807) ∧ -9223372036854775808 ≤ t.amt ∧ t.amt ≤ 9223372036854775807) ∧
      (∀ us ds : List _, ∀ j : Nat, us[j]? = some 64 → ds[j]? = some d → (DataW.weightsEach Tryz.prog us ds).all (· ≤ reachBytes) = true → ∀ t ∈ l, t.src.size ≤ 140737488351232 ∧ t.dst.size ≤ 140737488351232 ∧ t.den.size ≤ 140737488351232 ∧ t.key.size ≤ 140737488351232 ∧ t.val.size ≤ 140737488351232) := by
  obtain ⟨fuel, hf⟩ := h
  have hf' : DataW.trod enc Tryz.prog W 0 (fun _ => true) true fuel 64 [.slice a len cap] = some (d, p) := by simpa [Value.cells] using hf
  obtain ⟨l, v, hv, hin, hw⟩ := rows_rawV (n := 7) Tryz.underlying64 (by kernel_rfl) (by omega) bkAcC bkAcC_length bkAcOk bkact_raw hf'
  obtain rfl : v = .slice a len cap := by injection hv with h1 h2; exact h1.symm
  have hl : l.length = len := by obtain ⟨_, _, e, _⟩ := hin.len; injection e with _ e2 _; exact e2.symm
  refine ⟨l, hl, hin, fun t ht => ?_, fun us ds j htj hdj hwt t ht => ?_⟩
  · obtain ⟨d', hk, _⟩ := hw t ht
    exact ⟨hk.1, hk.2.1⟩
  · obtain ⟨d', hk, hm⟩ := hw t ht
    exact hk.2.2.1 140737488351232 fun n hn => of_decide_eq_true (List.all_eq_true.1 hwt _ (DataW.weights_mem_each htj hdj _ (hm n hn)))
end Go.Proofs.YtejglhlodfhgkaaGreatDoor
