/- A slice of Things that came in as an argument. -/
import Derived.Test.YtikpcfcadddplaaPart
import Derived.ProofKit
import Derived.OpenShut
import Derived.Deep.Slices
import Derived.SizedLaws
namespace Go.Proofs.Ytikpcfcadddplaa
open Go.ChangeShapes Go.WideShapes Go.ChangeAt Go.RowKit
/-- a Thing -/
structure TH where
  kind : Int
  int : Int
  bv : Value
  bytes : List Int
  hash : Nat → Int
instance : Inhabited TH := ⟨⟨0, 0, .slice none 0 0, [], fun _ => 0⟩⟩
/-- its cells -/
def TH.cells (t : TH) : List Value := [.int .i64 t.kind, .int .i64 t.int, t.bv] ++ (rowOf .u8 32 t.hash).toList
theorem TH.cells_length (t : TH) : t.cells.length = 35 := by simp [TH.cells, rowOf]
theorem TH.cells_hash (t : TH) (j : Nat) (hj : j < 32) : t.cells[3 + j]? = some (.int .u8 (t.hash j)) := by
  unfold TH.cells
  rw [List.getElem?_append_right (by simp)]
  simp [rowOf, hj]
structure ThingAt (W : World) (b o : Nat) (t : TH) : Prop where
  cells : W.rangeAt b o t.cells
  bytes : BytesIn W t.bv t.bytes
structure THok (t : TH) : Prop where
  kind : -9223372036854775808 ≤ t.kind ∧ t.kind ≤ 9223372036854775807
  int : -9223372036854775808 ≤ t.int ∧ t.int ≤ 9223372036854775807
  bytes : bytesOk t.bytes
  hash : ∀ j, j < 32 → 0 ≤ t.hash j ∧ t.hash j < 256
def ThingsIn (W : World) (v : Value) (ts : List TH) : Prop :=
  ∃ a cap, v = .slice a ts.length cap ∧ ts.length ≤ cap ∧ ts.length ≤ maxLen ∧ (ts = [] ∨ ∃ b off, a = some ⟨b, off, none⟩ ∧ b < W.heap.size ∧ ∀ i t, ts[i]? = some t → ThingAt W b (off + i * 35) t)
theorem cellsB : Try.prog.cellsOf 25 = 1 := by kernel_rfl
theorem cellsI : Try.prog.cellsOf 3 = 1 := by kernel_rfl
theorem cellsH : Try.prog.cellsOf 28 = 32 := by kernel_rfl
theorem cellsU8 : Try.prog.cellsOf 5 = 1 := by kernel_rfl
theorem cellsT : Try.prog.cellsOf 30 = 35 := by kernel_rfl
theorem bytesOfU8 : Try.prog.bytesOf 5 = 1 := by kernel_rfl
/-- each value counts one at least -/
theorem bulk_one {H : Type} (d : DataW H) : 1 ≤ Rows.uptoBulk d := by
  cases d with
  | lit l => cases l <;> simp [Rows.uptoBulk]
  | _ => simp [Rows.uptoBulk]
theorem bulk_len {H : Type} : ∀ l : List (DataW H), l.length ≤ Rows.uptoBulkAll l
  | [] => by simp
  | d :: r => by
    have h1 := bulk_one d
    have h2 := bulk_len r
    simp only [Rows.uptoBulkAll, List.length_cons]
    omega
theorem bulk_mem {H : Type} {d : DataW H} : ∀ {l : List (DataW H)}, d ∈ l → Rows.uptoBulk d ≤ Rows.uptoBulkAll l
  | e :: r, h => by
    simp only [Rows.uptoBulkAll]
    rcases List.mem_cons.1 h with rfl | h
    · omega
    · have := bulk_mem h; omega
/-- a slice of bytes that came in -/
theorem bytes_raw {H : Type} {enc : TypeId × Value → H} {W : World} {fuel : Nat} {cs : List Value} {x : DataW H × List MemPlace} (h : DataW.trod enc Try.prog W 0 (fun _ => true) true fuel 25 cs = some x) :
    ∃ v xs, cs = [v] ∧ BytesIn W v xs ∧ bytesOk xs ∧ (∃ a c, v = .slice a xs.length c) ∧ xs.length ≤ Rows.uptoBulk x.1 ∧ (x.1 = .nil ∧ xs = [] ∨ ∃ elems spare, x.1 = .slice elems spare ∧ elems.length = xs.length) := by
  rcases open_ints Try.underlying25 Try.underlying5 (by kernel_rfl) h with ⟨hcs, hx⟩ | ⟨a, l, c, zs, hcs, _, hl, hm, hz, hx, hcell, hwz⟩
  · exact ⟨_, [], hcs, ⟨_, _, rfl, by simp, by simp [maxLen], .inl rfl⟩, (by intro x hx; cases hx), ⟨_, _, rfl⟩, by simp, .inl ⟨by rw [hx], rfl⟩⟩
  · simp only [if_true] at hz
    have hlen : (zs.take l).length = l := by rw [List.length_take]; omega
    refine ⟨_, zs.take l, hcs, ⟨some a, c, by rw [hlen], by rw [hlen]; exact hl, by rw [hlen]; omega, ?_⟩, fun y hy => ?_, ⟨some a, c, by rw [hlen]⟩, ?_, ?_⟩
    · by_cases hl0 : l = 0
      · left; subst hl0; simp
      · right
        obtain ⟨b, off, spot⟩ := a
        have hspot : spot = none := by simpa [Addr.add] using World.cell?_spot (hcell 0 (by omega))
        subst hspot
        refine ⟨b, off, rfl, fun i y hi => ?_⟩
        have hil : i < l := by have := (List.getElem?_eq_some_iff.1 hi).1; omega
        rw [List.getElem?_take, if_pos hil] at hi
        have := hcell i (by omega)
        rw [Addr.add_mid] at this
        rw [this]
        simp [List.getD, hi]
    · have h2 := bounds_u8 (hwz y (List.mem_of_mem_take hy))
      omega
    · rw [hx]
      have h1 := bulk_len (lits (H := H) IntKind.u8 (zs.take l))
      simp only [lits, List.length_map] at h1
      simp only [Rows.uptoBulk, lits]
      omega
    · rw [hx]
      exact .inr ⟨_, _, rfl, by simp [lits]⟩
theorem one_of_take {α : Type} {l : List α} {k : Nat} {v : α} (h : (l.drop k).take 1 = [v]) : l[k]? = some v := by
  have h1 : ((l.drop k).take 1)[0]? = some v := by rw [h]; rfl
  rw [List.getElem?_take, if_pos (by omega), List.getElem?_drop, Nat.add_zero] at h1
  exact h1
/-- a Thing that came in -/
theorem thing_raw {H : Type} {enc : TypeId × Value → H} {W : World} {fuel : Nat} {cs : List Value} {x : DataW H × List MemPlace} (h : DataW.trod enc Try.prog W 0 (fun _ => true) true fuel 30 cs = some x) :
    ∃ t : TH, cs = t.cells ∧ BytesIn W t.bv t.bytes ∧ THok t ∧ t.bytes.length ≤ Rows.uptoBulk x.1 := by
  obtain ⟨xs, m, _, rfl, hlen, hxl, hf⟩ := DataW.trod_struct Try.underlying30 h
  rw [cellsT] at hlen
  simp only [List.size_toArray, List.length_cons, List.length_nil] at hxl
  have g : ∀ i, i < 4 → ∃ y, xs[i]? = some y := fun i hi => ⟨xs[i], List.getElem?_eq_getElem (by omega)⟩
  obtain ⟨y0, e0⟩ := g 0 (by omega)
  obtain ⟨y1, e1⟩ := g 1 (by omega)
  obtain ⟨y2, e2⟩ := g 2 (by omega)
  obtain ⟨y3, e3⟩ := g 3 (by omega)
  have f0 : DataW.trod enc Try.prog W 0 (fun _ => true) true m 3 ((cs.drop 0).take (Try.prog.cellsOf 3)) = xs[0]? := hf 0 _ rfl
  have f1 : DataW.trod enc Try.prog W 0 (fun _ => true) true m 3 ((cs.drop 1).take (Try.prog.cellsOf 3)) = xs[1]? := hf 1 _ rfl
  have f2 : DataW.trod enc Try.prog W 0 (fun _ => true) true m 25 ((cs.drop 2).take (Try.prog.cellsOf 25)) = xs[2]? := hf 2 _ rfl
  have f3 : DataW.trod enc Try.prog W 0 (fun _ => true) true m 28 ((cs.drop 3).take (Try.prog.cellsOf 28)) = xs[3]? := hf 3 _ rfl
  rw [e0, cellsI] at f0
  rw [e1, cellsI] at f1
  rw [e2, cellsB] at f2
  rw [e3, cellsH] at f3
  obtain ⟨kd, hk, _, wk⟩ := DataW.trod_int Try.underlying3 f0
  obtain ⟨it, hi, _, wi⟩ := DataW.trod_int Try.underlying3 f1
  obtain ⟨bv, bs, hb, hbin, hbok, _, hbulk, _⟩ := bytes_raw f2
  obtain ⟨zs, m', _, _, _, hzl, hzs⟩ := DataW.trod_array Try.underlying28 f3
  have key : ∃ F : Nat → Int, ∀ j, j < 32 → cs[3 + j]? = some (.int .u8 (F j)) ∧ 0 ≤ F j ∧ F j < 256 := by
    refine Deep.choose_lt (p := fun j v => cs[3 + j]? = some (.int .u8 v) ∧ 0 ≤ v ∧ v < 256) fun j hj => ?_
    have h3 := hzs j hj
    rw [cellsU8, Nat.mul_one, List.getElem?_eq_getElem (by omega)] at h3
    obtain ⟨v, hv, _, hw⟩ := DataW.trod_int Try.underlying5 h3
    have h5 := one_of_take hv
    rw [List.getElem?_take, if_pos hj, List.getElem?_drop] at h5
    have h6 := bounds_u8 hw
    exact ⟨v, h5, by omega, by omega⟩
  obtain ⟨F, hF⟩ := key
  have hk0 := one_of_take hk
  have hi0 := one_of_take hi
  have hb0 := one_of_take hb
  refine ⟨⟨kd, it, bv, bs, F⟩, ?_, hbin, ⟨bounds_i64 wk, bounds_i64 wi, hbok, fun j hj => (hF j hj).2⟩, Nat.le_trans hbulk ?_⟩
  · apply List.ext_getElem?
    intro i
    rcases (by omega : i = 0 ∨ i = 1 ∨ i = 2 ∨ (3 ≤ i ∧ i < 35) ∨ 35 ≤ i) with rfl | rfl | rfl | ⟨h3, h4⟩ | h3
    · rw [hk0]; rfl
    · rw [hi0]; rfl
    · rw [hb0]; rfl
    · obtain ⟨j, rfl⟩ : ∃ j, i = 3 + j := ⟨i - 3, by omega⟩
      rw [(hF j (by omega)).1, TH.cells_hash _ j (by omega)]
    · rw [List.getElem?_eq_none (by omega), List.getElem?_eq_none (by rw [TH.cells_length]; omega)]
  · have := bulk_mem (d := y2.1) (l := xs.map (·.1)) (List.mem_map.2 ⟨y2, List.mem_of_getElem? e2, rfl⟩)
    simp only [Rows.uptoBulk]
    omega
theorem things_arg {H : Type} {enc : TypeId × Value → H} {W : World} {a : Option Addr} {len cap : Nat} {d : DataW H} {p : List MemPlace} (h : DataW.Trod enc Try.prog W 0 (fun _ => true) true 22 (.slice a len cap) d p) :
    ∃ ts : List TH, ts.length = len ∧ ThingsIn W (.slice a len cap) ts ∧ (∀ t ∈ ts, THok t) ∧ (∀ t ∈ ts, t.bytes.length ≤ Rows.uptoBulk d) := by
  obtain ⟨fuel, hf⟩ := h
  rcases Deep.open_slice Try.underlying22 hf with ⟨hcs, hx⟩ | ⟨x, l, c, m, n, D, Pl, hcs, _, hl, hm, hmm, hx, hel⟩
  · simp [Value.cells] at hcs
    obtain ⟨rfl, rfl, rfl⟩ := hcs
    exact ⟨[], rfl, ⟨_, _, rfl, by simp, by simp [maxLen], .inl rfl⟩, by simp, by simp⟩
  · simp [Value.cells] at hcs
    obtain ⟨rfl, rfl, rfl⟩ := hcs
    simp only [if_true] at hmm
    simp only [Prod.mk.injEq] at hx
    obtain ⟨rfl, _⟩ := hx
    have key : ∀ i, i < len → ∃ t : TH, (∀ j v, t.cells[j]? = some v → W.cell? (x.add (i * 35 + j)) = some v) ∧ BytesIn W t.bv t.bytes ∧ THok t ∧ t.bytes.length ≤ Rows.uptoBulk (D i) := by
      intro i hi
      obtain ⟨cs', h1, h2⟩ := hel i (by omega)
      rw [cellsT] at h1
      obtain ⟨_, hlen, hcell⟩ := World.cells?_some h1
      obtain ⟨t, rfl, hb, hok, hbulk⟩ := thing_raw h2
      refine ⟨t, fun j v hv => ?_, hb, hok, hbulk⟩
      have hj : j < 35 := by have := (List.getElem?_eq_some_iff.1 hv).1; rw [TH.cells_length] at this; exact this
      rw [← hv, ← hcell j hj]
      by_cases hj0 : j = 0 <;> by_cases hi0 : i * 35 = 0 <;> simp [hj0, hi0, Addr.add, Nat.add_assoc]
    obtain ⟨F, hF⟩ := Deep.choose_lt key
    have hget : ∀ i t, ((List.range len).map F)[i]? = some t → i < len ∧ F i = t := fun i t hi => by
      have hil : i < len := by have := (List.getElem?_eq_some_iff.1 hi).1; simpa using this
      rw [List.getElem?_map, List.getElem?_range hil] at hi
      cases hi; exact ⟨hil, rfl⟩
    refine ⟨(List.range len).map F, by simp, ⟨some x, cap, by simp, by simp; omega, by simp; omega, ?_⟩, fun t ht => ?_, fun t ht => ?_⟩
    · by_cases hl0 : len = 0
      · left; subst hl0; rfl
      · right
        obtain ⟨b, off, spot⟩ := x
        have h0 := (hF 0 (by omega)).1 0 _ rfl
        have hspot : spot = none := by simpa [Addr.add] using World.cell?_spot h0
        subst hspot
        refine ⟨b, off, rfl, World.block_lt_of_cell? _ _ h0, fun i t hi => ?_⟩
        obtain ⟨hil, rfl⟩ := hget i t hi
        refine ⟨fun j v hv => ?_, (hF i hil).2.1⟩
        have := (hF i hil).1 j v hv
        rw [Addr.add_mid] at this
        rw [Nat.add_assoc]; exact this
    · obtain ⟨i, hi, rfl⟩ := List.mem_map.1 ht
      exact (hF i (List.mem_range.1 hi)).2.2.1
    · obtain ⟨i, hi, rfl⟩ := List.mem_map.1 ht
      have h1 := (hF i (List.mem_range.1 hi)).2.2.2
      have h2 := bulk_mem (d := D i) (l := (List.range len).map D) (List.mem_map.2 ⟨i, hi, rfl⟩)
      simp only [Rows.uptoBulk]
      omega
end Go.Proofs.Ytikpcfcadddplaa
