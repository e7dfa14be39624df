/- An Act that came in as an argument. -/
import Derived.Test.YtbnflhdioohfeaaFiSure
import Derived.Lib.SmallJoins
import Derived.Deep.Fields
import Derived.ChangeSame
namespace Go.Proofs.Ytbnflhdioohfeaa
open Go.ChangeShapes Go.WideShapes Go.ChangeAt Go.RowKit Go.Proofs
set_option maxRecDepth 100000
/-- an Act -/
structure AT where
  kind : Int
  n : Int
  name : ByteArray
  now : ByteArray
  dv : Value
  data : List Int
  kv : Value
  keep : List Int
instance : Inhabited AT := ⟨⟨0, 0, ⟨#[]⟩, ⟨#[]⟩, .slice none 0 0, [], .slice none 0 0, []⟩⟩
def AT.cells (t : AT) : List Value := [.int .i64 t.kind, .int .i64 t.n, .string t.name, .string t.now, t.dv, t.kv]
structure AOk (W : World) (t : AT) : Prop where
  kind : -9223372036854775808 ≤ t.kind ∧ t.kind ≤ 9223372036854775807
  n : -9223372036854775808 ≤ t.n ∧ t.n ≤ 9223372036854775807
  name : t.name.size ≤ maxLen
  now : t.now.size ≤ maxLen
  data : BytesIn W t.dv t.data
  dataOk : bytesOk t.data
  keep : NumsIn W.heap.size W t.kv t.keep
theorem cellsI' : Try.prog.cellsOf 3 = 1 := by kernel_rfl
theorem cellsS' : Try.prog.cellsOf 9 = 1 := by kernel_rfl
theorem cellsB' : Try.prog.cellsOf 22 = 1 := by kernel_rfl
theorem cellsK' : Try.prog.cellsOf 23 = 1 := by kernel_rfl
theorem cellsA' : Try.prog.cellsOf 25 = 6 := by kernel_rfl
theorem one_of_take {α : Type} {l : List α} {k : Nat} {v : α} (h : (l.drop k).take 1 = [v]) : l[k]? = some v := by
  have h1 : ((l.drop k).take 1)[0]? = some v := by rw [h]; rfl
  rw [List.getElem?_take, if_pos (by omega), List.getElem?_drop, Nat.add_zero] at h1
  exact h1
theorem nums_raw {H : Type} {enc : TypeId × Value → H} {W : World} {fuel : Nat} {cs : List Value} {x : DataW H × List MemPlace} (h : DataW.trod enc Try.prog W 0 (fun _ => true) true fuel 23 cs = some x) :
    ∃ v ks, cs = [v] ∧ NumsIn W.heap.size W v ks ∧ (∀ k ∈ ks, -9223372036854775808 ≤ k ∧ k ≤ 9223372036854775807) ∧ ks.length ≤ Rows.uptoBulk x.1 := by
  rcases open_ints Try.underlying23 Try.underlying3 (by kernel_rfl) h with ⟨hcs, hx⟩ | ⟨a, l, c, zs, hcs, _, hl, hm, hz, hx, hcell, hwz⟩
  · exact ⟨_, [], hcs, ⟨_, _, rfl, by simp, by simp [maxLen], .inl rfl⟩, by simp, by simp⟩
  · simp only [if_true] at hz
    have hlen : (zs.take l).length = l := by rw [List.length_take]; omega
    refine ⟨_, zs.take l, hcs, ⟨some a, c, by rw [hlen], by rw [hlen]; exact hl, hm, ?_⟩, fun k hk => bounds_i64 (hwz k (List.mem_of_mem_take hk)), ?_⟩
    · by_cases hl0 : l = 0
      · left; subst hl0; simp
      · right
        obtain ⟨b, off, spot⟩ := a
        have h0 := hcell 0 (by omega)
        have hspot : spot = none := by simpa [Addr.add] using World.cell?_spot h0
        subst hspot
        refine ⟨b, off, rfl, .inl ?_, fun i y hi => ?_⟩
        · have := World.block_lt_of_cell? W _ h0
          simpa [Addr.add] using this
        · have hil : i < l := by have := (List.getElem?_eq_some_iff.1 hi).1; omega
          rw [List.getElem?_take, if_pos hil] at hi
          have := hcell i (by omega)
          rw [Addr.add_mid] at this
          rw [this]
          simp [List.getD, hi]
    · rw [hx]
      have h1 := bulk_len (lits (H := H) IntKind.i64 (zs.take l))
      simp only [lits, List.length_map] at h1
      simp only [Rows.uptoBulk, lits]
      omega
/-- an Act that came in -/
theorem act_raw {H : Type} {enc : TypeId × Value → H} {W : World} {fuel : Nat} {cs : List Value} {x : DataW H × List MemPlace} (h : DataW.trod enc Try.prog W 0 (fun _ => true) true fuel 25 cs = some x) :
    ∃ t : AT, cs = t.cells ∧ AOk W t ∧ t.data.length ≤ Rows.uptoBulk x.1 ∧ t.keep.length ≤ Rows.uptoBulk x.1 := by
  obtain ⟨xs, m, _, rfl, hlen, hxl, hf⟩ := DataW.trod_struct Try.underlying25 h
  rw [cellsA'] at hlen
  simp only [List.size_toArray, List.length_cons, List.length_nil] at hxl
  have g : ∀ i, i < 6 → ∃ y, xs[i]? = some y := fun i hi => ⟨xs[i], List.getElem?_eq_getElem (by omega)⟩
  obtain ⟨y0, e0⟩ := g 0 (by omega)
  obtain ⟨y1, e1⟩ := g 1 (by omega)
  obtain ⟨y2, e2⟩ := g 2 (by omega)
  obtain ⟨y3, e3⟩ := g 3 (by omega)
  obtain ⟨y4, e4⟩ := g 4 (by omega)
  obtain ⟨y5, e5⟩ := g 5 (by omega)
  have f0 : DataW.trod enc Try.prog W 0 (fun _ => true) true m 3 ((cs.drop 0).take (Try.prog.cellsOf 3)) = xs[0]? := hf 0 _ rfl
  have f1 : DataW.trod enc Try.prog W 0 (fun _ => true) true m 3 ((cs.drop 1).take (Try.prog.cellsOf 3)) = xs[1]? := hf 1 _ rfl
  have f2 : DataW.trod enc Try.prog W 0 (fun _ => true) true m 9 ((cs.drop 2).take (Try.prog.cellsOf 9)) = xs[2]? := hf 2 _ rfl
  have f3 : DataW.trod enc Try.prog W 0 (fun _ => true) true m 9 ((cs.drop 3).take (Try.prog.cellsOf 9)) = xs[3]? := hf 3 _ rfl
  have f4 : DataW.trod enc Try.prog W 0 (fun _ => true) true m 22 ((cs.drop 4).take (Try.prog.cellsOf 22)) = xs[4]? := hf 4 _ rfl
  have f5 : DataW.trod enc Try.prog W 0 (fun _ => true) true m 23 ((cs.drop 5).take (Try.prog.cellsOf 23)) = xs[5]? := hf 5 _ rfl
  rw [e0, cellsI'] at f0
  rw [e1, cellsI'] at f1
  rw [e2, cellsS'] at f2
  rw [e3, cellsS'] at f3
  rw [e4, cellsB'] at f4
  rw [e5, cellsK'] at f5
  obtain ⟨kd, hk, _, wk⟩ := DataW.trod_int Try.underlying3 f0
  obtain ⟨nn, hn, _, wn⟩ := DataW.trod_int Try.underlying3 f1
  obtain ⟨s2, h2, _, w2⟩ := DataW.trod_string Try.underlying9 f2
  obtain ⟨s3, h3, _, w3⟩ := DataW.trod_string Try.underlying9 f3
  obtain ⟨bv, bs, hb, hbin, hbok, _, hbulk, _⟩ := bytes_raw f4
  obtain ⟨kv, ks, hkv, hkin, hkok, hkb⟩ := nums_raw f5
  have hk0 := one_of_take hk
  have hn0 := one_of_take hn
  have h20 := one_of_take h2
  have h30 := one_of_take h3
  have hb0 := one_of_take hb
  have hkv0 := one_of_take hkv
  have m4 := bulk_mem (d := y4.1) (l := xs.map (·.1)) (List.mem_map.2 ⟨y4, List.mem_of_getElem? e4, rfl⟩)
  have m5 := bulk_mem (d := y5.1) (l := xs.map (·.1)) (List.mem_map.2 ⟨y5, List.mem_of_getElem? e5, rfl⟩)
  refine ⟨⟨kd, nn, s2, s3, bv, bs, kv, ks⟩, ?_, ⟨bounds_i64 wk, bounds_i64 wn, w2, w3, hbin, hbok, hkin⟩, ?_, ?_⟩
  · apply List.ext_getElem?
    intro i
    rcases (by omega : i = 0 ∨ i = 1 ∨ i = 2 ∨ i = 3 ∨ i = 4 ∨ i = 5 ∨ 6 ≤ i) with rfl | rfl | rfl | rfl | rfl | rfl | h3
    · rw [hk0]; rfl
    · rw [hn0]; rfl
    · rw [h20]; rfl
    · rw [h30]; rfl
    · rw [hb0]; rfl
    · rw [hkv0]; rfl
    · rw [List.getElem?_eq_none (by omega), List.getElem?_eq_none (by simp [AT.cells]; omega)]
  · simp only [Rows.uptoBulk]
    show bs.length ≤ _
    omega
  · simp only [Rows.uptoBulk]
    show ks.length ≤ _
    omega
/-- .. by value -/
theorem act_arg {H : Type} {enc : TypeId × Value → H} {W : World} {r : Reach} {b0 : Nat} {v : Value} {d : DataW H} {p : List MemPlace} (hv : Value.okWide Try.prog W r b0 25 v) (h : DataW.Trod enc Try.prog W 0 (fun _ => true) true 25 v d p) :
    ∃ t : AT, v = .agg t.cells.toArray ∧ AOk W t := by
  obtain ⟨cs, rfl, hsz⟩ := okWide_struct Try.underlying25 hv
  obtain ⟨fuel, hf⟩ := h
  obtain ⟨t, hcs, hok, _⟩ := act_raw hf
  refine ⟨t, ?_, hok⟩
  congr 1
  apply Array.ext'
  simpa [Value.cells] using hcs
end Go.Proofs.Ytbnflhdioohfeaa
