/- Part 20 of the proof. -/
import Derived.Lib.SmallJoins
import Derived.Deep.Fields
import Derived.ChangeSame
import Derived.Test.YtggcodobkmhkgaaDoorFc19
namespace Go.Proofs.YtggcodobkmhkgaaDoor
set_option linter.unusedVariables false
set_option linter.unusedSimpArgs false
open Go.ChangeShapes Go.WideShapes Go.ChangeAt Go.RowKit Go.Proofs
set_option maxRecDepth 100000
/-- an Act -/
structure AT where
  kind : Int
  n : Int
  name : ByteArray
  now : ByteArray
  dv : Value
  data : List Int
  kv : Value
  keep : List Int
instance : Inhabited AT := ⟨⟨0, 0, ⟨#[]⟩, ⟨#[]⟩, .slice none 0 0, [], .slice none 0 0, []⟩⟩
def AT.cells (t : AT) : List Value := [.int .i64 t.kind, .int .i64 t.n, .string t.name, .string t.now, t.dv, t.kv]
structure AOk (W : World) (t : AT) : Prop where
  kind : -9223372036854775808 ≤ t.kind ∧ t.kind ≤ 9223372036854775807
  n : -9223372036854775808 ≤ t.n ∧ t.n ≤ 9223372036854775807
  name : t.name.size ≤ maxLen
  now : t.now.size ≤ maxLen
  data : BytesIn W t.dv t.data
  dataOk : bytesOk t.data
  keep : NumsIn W.heap.size W t.kv t.keep
theorem cellsI' : Tryd.prog.cellsOf 3 = 1 := by kernel_rfl
theorem cellsS' : Tryd.prog.cellsOf 9 = 1 := by kernel_rfl
theorem cellsB' : Tryd.prog.cellsOf 30 = 1 := by kernel_rfl
theorem cellsK' : Tryd.prog.cellsOf 31 = 1 := by kernel_rfl
theorem cellsA' : Tryd.prog.cellsOf 33 = 6 := by kernel_rfl
theorem one_of_take {α : Type} {l : List α} {k : Nat} {v : α} (h : (l.drop k).take 1 = [v]) : l[k]? = some v := by
  have h1 : ((l.drop k).take 1)[0]? = some v := by rw [h]; rfl
  rw [List.getElem?_take, if_pos (by omega), List.getElem?_drop, Nat.add_zero] at h1
  exact h1
theorem nums_raw {H : Type} {enc : TypeId × Value → H} {W : World} {fuel : Nat} {cs : List Value} {x : DataW H × List MemPlace} (h : DataW.trod enc Tryd.prog W 0 (fun _ => true) true fuel 31 cs = some x) :
    ∃ v ks, cs = [v] ∧ NumsIn W.heap.size W v ks ∧ (∀ k ∈ ks, -9223372036854775808 ≤ k ∧ k ≤ 9223372036854775807) ∧ ks.length ≤ Rows.uptoBulk x.1 ∧ (x.1 = .nil ∧ ks = [] ∨ ∃ elems spare, x.1 = .slice elems spare ∧ elems.length = ks.length) := by
  rcases open_ints Tryd.underlying31 Tryd.underlying3 (by kernel_rfl) h with ⟨hcs, hx⟩ | ⟨a, l, c, zs, hcs, _, hl, hm, hz, hx, hcell, hwz⟩
  · exact ⟨_, [], hcs, ⟨_, _, rfl, by simp, by simp [maxLen], .inl rfl⟩, by simp, by simp, .inl ⟨by rw [hx], rfl⟩⟩
  · simp only [if_true] at hz
    have hlen : (zs.take l).length = l := by rw [List.length_take]; omega
    refine ⟨_, zs.take l, hcs, ⟨some a, c, by rw [hlen], by rw [hlen]; exact hl, hm, ?_⟩, fun k hk => bounds_i64 (hwz k (List.mem_of_mem_take hk)), ?_, .inr ⟨_, _, by rw [hx], by simp [lits]⟩⟩
    · by_cases hl0 : l = 0
      · left; subst hl0; simp
      · right
        obtain ⟨b, off, spot⟩ := a
        have h0 := hcell 0 (by omega)
        have hspot : spot = none := by simpa [Addr.add] using World.cell?_spot h0
        subst hspot
        refine ⟨b, off, rfl, .inl ?_, fun i y hi => ?_⟩
        · have := World.block_lt_of_cell? W _ h0
          simpa [Addr.add] using this
        · have hil : i < l := by have := (List.getElem?_eq_some_iff.1 hi).1; omega
          rw [List.getElem?_take, if_pos hil] at hi
          have := hcell i (by omega)
          rw [Addr.add_mid] at this
          rw [this]
          simp [List.getD, hi]
    · rw [hx]
      have h1 := bulk_len (lits (H := H) IntKind.i64 (zs.take l))
      simp only [lits, List.length_map] at h1
      simp only [Rows.uptoBulk, lits]
      omega
/-- an Act that came in -/
theorem act_raw {H : Type} {enc : TypeId × Value → H} {W : World} {fuel : Nat} {cs : List Value} {x : DataW H × List MemPlace} (h : DataW.trod enc Tryd.prog W 0 (fun _ => true) true fuel 33 cs = some x) :
    ∃ t : AT, cs = t.cells ∧ AOk W t ∧ (t.data.length ≤ Rows.uptoBulk x.1 ∧ t.keep.length ≤ Rows.uptoBulk x.1) ∧ ∀ b, (∀ n ∈ x.1.weights Tryd.prog 33, n ≤ b) → t.data.length ≤ b ∧ t.keep.length * 8 ≤ b := by
  obtain ⟨xs, m, _, rfl, hlen, hxl, hf⟩ := DataW.trod_struct Tryd.underlying33 h
  rw [cellsA'] at hlen
  simp only [List.size_toArray, List.length_cons, List.length_nil] at hxl
  have g : ∀ i, i < 6 → ∃ y, xs[i]? = some y := fun i hi => ⟨xs[i], List.getElem?_eq_getElem (by omega)⟩
  obtain ⟨y0, e0⟩ := g 0 (by omega)
  obtain ⟨y1, e1⟩ := g 1 (by omega)
  obtain ⟨y2, e2⟩ := g 2 (by omega)
  obtain ⟨y3, e3⟩ := g 3 (by omega)
  obtain ⟨y4, e4⟩ := g 4 (by omega)
  obtain ⟨y5, e5⟩ := g 5 (by omega)
  have f0 : DataW.trod enc Tryd.prog W 0 (fun _ => true) true m 3 ((cs.drop 0).take (Tryd.prog.cellsOf 3)) = xs[0]? := hf 0 _ rfl
  have f1 : DataW.trod enc Tryd.prog W 0 (fun _ => true) true m 3 ((cs.drop 1).take (Tryd.prog.cellsOf 3)) = xs[1]? := hf 1 _ rfl
  have f2 : DataW.trod enc Tryd.prog W 0 (fun _ => true) true m 9 ((cs.drop 2).take (Tryd.prog.cellsOf 9)) = xs[2]? := hf 2 _ rfl
  have f3 : DataW.trod enc Tryd.prog W 0 (fun _ => true) true m 9 ((cs.drop 3).take (Tryd.prog.cellsOf 9)) = xs[3]? := hf 3 _ rfl
  have f4 : DataW.trod enc Tryd.prog W 0 (fun _ => true) true m 30 ((cs.drop 4).take (Tryd.prog.cellsOf 30)) = xs[4]? := hf 4 _ rfl
  have f5 : DataW.trod enc Tryd.prog W 0 (fun _ => true) true m 31 ((cs.drop 5).take (Tryd.prog.cellsOf 31)) = xs[5]? := hf 5 _ rfl
  rw [e0, cellsI'] at f0
  rw [e1, cellsI'] at f1
  rw [e2, cellsS'] at f2
  rw [e3, cellsS'] at f3
  rw [e4, cellsB'] at f4
  rw [e5, cellsK'] at f5
  obtain ⟨kd, hk, _, wk⟩ := DataW.trod_int Tryd.underlying3 f0
  obtain ⟨nn, hn, _, wn⟩ := DataW.trod_int Tryd.underlying3 f1
  obtain ⟨s2, h2, _, w2⟩ := DataW.trod_string Tryd.underlying9 f2
  obtain ⟨s3, h3, _, w3⟩ := DataW.trod_string Tryd.underlying9 f3
  obtain ⟨bv, bs, hb, hbin, hbok, _, hbulk, hbd⟩ := bytes_raw f4
  obtain ⟨kv, ks, hkv, hkin, hkok, hkb, hkd⟩ := nums_raw f5
  have hk0 := one_of_take hk
  have hn0 := one_of_take hn
  have h20 := one_of_take h2
  have h30 := one_of_take h3
  have hb0 := one_of_take hb
  have hkv0 := one_of_take hkv
  have m4 := bulk_mem (d := y4.1) (l := xs.map (·.1)) (List.mem_map.2 ⟨y4, List.mem_of_getElem? e4, rfl⟩)
  have m5 := bulk_mem (d := y5.1) (l := xs.map (·.1)) (List.mem_map.2 ⟨y5, List.mem_of_getElem? e5, rfl⟩)
  refine ⟨⟨kd, nn, s2, s3, bv, bs, kv, ks⟩, ?_, ⟨bounds_i64 wk, bounds_i64 wn, w2, w3, hbin, hbok, hkin⟩, ⟨?_, ?_⟩, fun b hw => ⟨?_, ?_⟩⟩
  · apply List.ext_getElem?
    intro i
    rcases (by omega : i = 0 ∨ i = 1 ∨ i = 2 ∨ i = 3 ∨ i = 4 ∨ i = 5 ∨ 6 ≤ i) with rfl | rfl | rfl | rfl | rfl | rfl | h3
    · rw [hk0]; rfl
    · rw [hn0]; rfl
    · rw [h20]; rfl
    · rw [h30]; rfl
    · rw [hb0]; rfl
    · rw [hkv0]; rfl
    · rw [List.getElem?_eq_none (by omega), List.getElem?_eq_none (by simp [AT.cells]; omega)]
  · simp only [Rows.uptoBulk]
    show bs.length ≤ _
    omega
  · simp only [Rows.uptoBulk]
    show ks.length ≤ _
    omega
  · rcases hbd with ⟨_, h2⟩ | ⟨elems, spare, h2, h3⟩
    · rw [h2]; exact Nat.zero_le _
    · have h4 : (elems.length + spare.length) * Tryd.prog.bytesOf 5 ∈ y4.1.weights Tryd.prog 30 := by rw [h2]; simp [DataW.weights, Tryd.underlying30]
      have h6 := hw _ (by simp only [DataW.weights, Tryd.underlying33]; exact DataW.weights_mem_each (j := 4) (t := 30) rfl (by rw [List.getElem?_map, e4]; rfl) _ h4)
      rw [bytesOfU8, Nat.mul_one] at h6
      show bs.length ≤ b
      omega
  · rcases hkd with ⟨_, h2⟩ | ⟨elems, spare, h2, h3⟩
    · rw [h2]; exact Nat.zero_le _
    · have h4 : (elems.length + spare.length) * Tryd.prog.bytesOf 3 ∈ y5.1.weights Tryd.prog 31 := by rw [h2]; simp [DataW.weights, Tryd.underlying31]
      have h6 := hw _ (by simp only [DataW.weights, Tryd.underlying33]; exact DataW.weights_mem_each (j := 5) (t := 31) rfl (by rw [List.getElem?_map, e5]; rfl) _ h4)
      rw [show Tryd.prog.bytesOf 3 = 8 from by kernel_rfl] at h6
      show ks.length * 8 ≤ b
      omega
/-- .. by value -/
theorem act_arg {H : Type} {enc : TypeId × Value → H} {W : World} {r : Reach} {b0 : Nat} {v : Value} {d : DataW H} {p : List MemPlace} (hv : Value.okWide Tryd.prog W r b0 33 v) (h : DataW.Trod enc Tryd.prog W 0 (fun _ => true) true 33 v d p) :
    ∃ t : AT, v = .agg t.cells.toArray ∧ AOk W t := by
  obtain ⟨cs, rfl, hsz⟩ := okWide_struct Tryd.underlying33 hv
  obtain ⟨fuel, hf⟩ := h
  obtain ⟨t, hcs, hok, _⟩ := act_raw hf
  refine ⟨t, ?_, hok⟩
  congr 1
  apply Array.ext'
  simpa [Value.cells] using hcs
end Go.Proofs.YtggcodobkmhkgaaDoor
namespace Go.Proofs.YtggcodobkmhkgaaDoor
set_option linter.unusedVariables false
set_option linter.unusedSimpArgs false
open Go.ChangeShapes Go.WideShapes Go.ChangeAt Go.RowKit Go.Proofs
set_option maxRecDepth 100000
structure ActAt (W : World) (b o : Nat) (t : AT) : Prop where
  cells : W.rangeAt b o t.cells
  ok : AOk W t
def ActsIn (W : World) (v : Value) (ts : List AT) : Prop :=
  ∃ a cap, v = .slice a ts.length cap ∧ ts.length ≤ cap ∧ ts.length ≤ maxLen ∧ (ts = [] ∨ ∃ b off, a = some ⟨b, off, none⟩ ∧ b < W.heap.size ∧ ∀ i t, ts[i]? = some t → ActAt W b (off + i * 6) t)
theorem AT.cells_length (t : AT) : t.cells.length = 6 := rfl
theorem weights_all_mem4 {H : Type} {P : Program} {e : TypeId} : ∀ {l : List (DataW H)} {d : DataW H}, d ∈ l → ∀ n ∈ d.weights P e, n ∈ DataW.weightsAll P e l
  | x :: r, d, h, n, hn => by
    simp only [DataW.weightsAll]
    rcases List.mem_cons.1 h with rfl | h
    · exact List.mem_append_left _ hn
    · exact List.mem_append_right _ (weights_all_mem4 h n hn)
theorem acts_arg {H : Type} {enc : TypeId × Value → H} {W : World} {a : Option Addr} {len cap : Nat} {d : DataW H} {p : List MemPlace} (h : DataW.Trod enc Tryd.prog W 0 (fun _ => true) true 22 (.slice a len cap) d p) :
    ∃ ts : List AT, ts.length = len ∧ ActsIn W (.slice a len cap) ts ∧ (∀ t ∈ ts, AOk W t) ∧ (∀ t ∈ ts, t.data.length ≤ Rows.uptoBulk d ∧ t.keep.length ≤ Rows.uptoBulk d) ∧
      (∀ us ds : List _, ∀ j : Nat, us[j]? = some 22 → ds[j]? = some d → (DataW.weightsEach Tryd.prog us ds).all (· ≤ reachBytes) = true → ∀ t ∈ ts, t.data.length ≤ 140737488351232 ∧ t.keep.length ≤ 17592186043904) := by
  obtain ⟨fuel, hf⟩ := h
  rcases Deep.open_slice Tryd.underlying22 hf with ⟨hcs, hx⟩ | ⟨x, l, c, m, n, D, Pl, hcs, _, hl, hm, hmm, hx, hel⟩
  · simp [Value.cells] at hcs
    obtain ⟨rfl, rfl, rfl⟩ := hcs
    exact ⟨[], rfl, ⟨_, _, rfl, by simp, by simp [maxLen], .inl rfl⟩, by simp, by simp, fun _ _ _ _ _ _ => by simp⟩
  · simp [Value.cells] at hcs
    obtain ⟨rfl, rfl, rfl⟩ := hcs
    simp only [if_true] at hmm
    simp only [Prod.mk.injEq] at hx
    obtain ⟨rfl, _⟩ := hx
    have key : ∀ i, i < len → ∃ t : AT, (∀ j v, t.cells[j]? = some v → W.cell? (x.add (i * 6 + j)) = some v) ∧ AOk W t ∧ (t.data.length ≤ Rows.uptoBulk (D i) ∧ t.keep.length ≤ Rows.uptoBulk (D i)) ∧ ∀ b, (∀ n ∈ (D i).weights Tryd.prog 33, n ≤ b) → t.data.length ≤ b ∧ t.keep.length * 8 ≤ b := by
      intro i hi
      obtain ⟨cs', h1, h2⟩ := hel i (by omega)
      rw [cellsA'] at h1
      obtain ⟨_, hlen, hcell⟩ := World.cells?_some h1
      obtain ⟨t, rfl, hok, hbulk⟩ := act_raw h2
      refine ⟨t, fun j v hv => ?_, hok, hbulk⟩
      have hj : j < 6 := by have := (List.getElem?_eq_some_iff.1 hv).1; rw [AT.cells_length] at this; exact this
      rw [← hv, ← hcell j hj]
      by_cases hj0 : j = 0 <;> by_cases hi0 : i * 6 = 0 <;> simp [hj0, hi0, Addr.add, Nat.add_assoc]
    obtain ⟨F, hF⟩ := Deep.choose_lt key
    have hget : ∀ i t, ((List.range len).map F)[i]? = some t → i < len ∧ F i = t := fun i t hi => by
      have hil : i < len := by have := (List.getElem?_eq_some_iff.1 hi).1; simpa using this
      rw [List.getElem?_map, List.getElem?_range hil] at hi
      cases hi; exact ⟨hil, rfl⟩
    refine ⟨(List.range len).map F, by simp, ⟨some x, cap, by simp, by simp; omega, by simp; omega, ?_⟩, fun t ht => ?_, fun t ht => ?_, fun us ds j htj hdj hw t ht => ?_⟩
    · by_cases hl0 : len = 0
      · left; subst hl0; rfl
      · right
        obtain ⟨b, off, spot⟩ := x
        have h0 := (hF 0 (by omega)).1 0 _ rfl
        have hspot : spot = none := by simpa [Addr.add] using World.cell?_spot h0
        subst hspot
        refine ⟨b, off, rfl, World.block_lt_of_cell? _ _ h0, fun i t hi => ?_⟩
        obtain ⟨hil, rfl⟩ := hget i t hi
        refine ⟨fun j v hv => ?_, (hF i hil).2.1⟩
        have := (hF i hil).1 j v hv
        rw [Addr.add_mid] at this
        rw [Nat.add_assoc]; exact this
    · obtain ⟨i, hi, rfl⟩ := List.mem_map.1 ht
      exact (hF i (List.mem_range.1 hi)).2.1
    · obtain ⟨i, hi, rfl⟩ := List.mem_map.1 ht
      have h1 := (hF i (List.mem_range.1 hi)).2.2.1
      have h2 := bulk_mem (d := D i) (l := (List.range len).map D) (List.mem_map.2 ⟨i, hi, rfl⟩)
      simp only [Rows.uptoBulk]
      omega
    · obtain ⟨i, hi, rfl⟩ := List.mem_map.1 ht
      have h5 := (hF i (List.mem_range.1 hi)).2.2.2 140737488351232 fun n hn => by
        have h6 : n ∈ DataW.weightsEach Tryd.prog us ds :=
          DataW.weights_mem_each htj hdj _ (by simp only [DataW.weights, Tryd.underlying22]; exact List.mem_cons_of_mem _ (List.mem_append_left _ (weights_all_mem4 (List.mem_map.2 ⟨i, hi, rfl⟩) _ hn)))
        exact of_decide_eq_true (List.all_eq_true.1 hw _ h6)
      exact ⟨h5.1, by have := h5.2; omega⟩
end Go.Proofs.YtggcodobkmhkgaaDoor
