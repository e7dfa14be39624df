/- Part 45 of the proof. -/
import Derived.ProofKit
import Derived.OpenShut
import Derived.Deep.Slices
import Derived.SizedLaws
import Derived.Lib.SmallJoins
import Derived.Deep.Fields
import Derived.ChangeSame
import Derived.Test.YtfmfemmknccfmaaDoorPa1
import Derived.Test.YtfmfemmknccfmaaDoorPa21
namespace Go.Proofs.YtfmfemmknccfmaaDoor
set_option linter.unusedVariables false
set_option linter.unusedSimpArgs false
open Go.ChangeShapes Go.WideShapes Go.ChangeAt Go.RowKit
theorem cellsU8 : Tryd.prog.cellsOf 5 = 1 := by kernel_rfl
theorem bytesOfU8 : Tryd.prog.bytesOf 5 = 1 := by kernel_rfl
/-- each value counts one at least -/
theorem bulk_one {H : Type} (d : DataW H) : 1 ≤ Rows.uptoBulk d := by
  cases d with
  | lit l => cases l <;> simp [Rows.uptoBulk]
  | _ => simp [Rows.uptoBulk]
theorem bulk_len {H : Type} : ∀ l : List (DataW H), l.length ≤ Rows.uptoBulkAll l
  | [] => by simp
  | d :: r => by
    have h1 := bulk_one d
    have h2 := bulk_len r
    simp only [Rows.uptoBulkAll, List.length_cons]
    omega
theorem bulk_mem {H : Type} {d : DataW H} : ∀ {l : List (DataW H)}, d ∈ l → Rows.uptoBulk d ≤ Rows.uptoBulkAll l
  | e :: r, h => by
    simp only [Rows.uptoBulkAll]
    rcases List.mem_cons.1 h with rfl | h
    · omega
    · have := bulk_mem h; omega
/-- a slice of bytes that came in -/
theorem bytes_raw {H : Type} {enc : TypeId × Value → H} {W : World} {fuel : Nat} {cs : List Value} {x : DataW H × List MemPlace} (h : DataW.trod enc Tryd.prog W 0 (fun _ => true) true fuel 138 cs = some x) :
    ∃ v xs, cs = [v] ∧ BytesIn W v xs ∧ bytesOk xs ∧ (∃ a c, v = .slice a xs.length c) ∧ xs.length ≤ Rows.uptoBulk x.1 ∧ (x.1 = .nil ∧ xs = [] ∨ ∃ elems spare, x.1 = .slice elems spare ∧ elems.length = xs.length) := by
  rcases open_ints Tryd.underlying138 Tryd.underlying5 (by kernel_rfl) h with ⟨hcs, hx⟩ | ⟨a, l, c, zs, hcs, _, hl, hm, hz, hx, hcell, hwz⟩
  · exact ⟨_, [], hcs, ⟨_, _, rfl, by simp, by simp [maxLen], .inl rfl⟩, (by intro x hx; cases hx), ⟨_, _, rfl⟩, by simp, .inl ⟨by rw [hx], rfl⟩⟩
  · simp only [if_true] at hz
    have hlen : (zs.take l).length = l := by rw [List.length_take]; omega
    refine ⟨_, zs.take l, hcs, ⟨some a, c, by rw [hlen], by rw [hlen]; exact hl, by rw [hlen]; omega, ?_⟩, fun y hy => ?_, ⟨some a, c, by rw [hlen]⟩, ?_, ?_⟩
    · by_cases hl0 : l = 0
      · left; subst hl0; simp
      · right
        obtain ⟨b, off, spot⟩ := a
        have hspot : spot = none := by simpa [Addr.add] using World.cell?_spot (hcell 0 (by omega))
        subst hspot
        refine ⟨b, off, rfl, fun i y hi => ?_⟩
        have hil : i < l := by have := (List.getElem?_eq_some_iff.1 hi).1; omega
        rw [List.getElem?_take, if_pos hil] at hi
        have := hcell i (by omega)
        rw [Addr.add_mid] at this
        rw [this]
        simp [List.getD, hi]
    · have h2 := bounds_u8 (hwz y (List.mem_of_mem_take hy))
      omega
    · rw [hx]
      have h1 := bulk_len (lits (H := H) IntKind.u8 (zs.take l))
      simp only [lits, List.length_map] at h1
      simp only [Rows.uptoBulk, lits]
      omega
    · rw [hx]
      exact .inr ⟨_, _, rfl, by simp [lits]⟩
/-- a slice of bytes that came in -/
theorem bytes_arg {H : Type} {enc : TypeId × Value → H} {W : World} {a : Option Addr} {len cap : Nat} {d : DataW H} {p : List MemPlace} (h : DataW.Trod enc Tryd.prog W 0 (fun _ => true) true 138 (.slice a len cap) d p) :
    ∃ xs : List Int, xs.length = len ∧ BytesIn W (.slice a len cap) xs ∧ bytesOk xs ∧ (∀ ts ds : List _, ∀ j : Nat, ts[j]? = some 138 → ds[j]? = some d → (DataW.weightsEach Tryd.prog ts ds).all (· ≤ reachBytes) = true → len ≤ 140737488351232) := by
  obtain ⟨fuel, hf⟩ := h
  obtain ⟨v, xs, hcs, hin, hok, ⟨a', c', hv⟩, _, hd⟩ := bytes_raw hf
  simp only [Value.cells] at hcs
  obtain rfl : Value.slice a len cap = v := by simpa using hcs
  injection hv with e1 e2 e3
  refine ⟨xs, e2.symm, hin, hok, fun ts ds j ht hdj hw => ?_⟩
  rcases hd with ⟨_, rfl⟩ | ⟨elems, spare, he, hel⟩
  · simp at e2; omega
  · simp only at he
    rw [he] at hdj
    have := sized_slice hw (j := j) (t := 138) (e := 5) ht hdj Tryd.underlying138
    rw [bytesOfU8] at this
    simp only [reachBytes] at this
    omega
theorem bytes_argB {H : Type} {enc : TypeId × Value → H} {W : World} {a : Option Addr} {len cap : Nat} {d : DataW H} {p : List MemPlace} (h : DataW.Trod enc Tryd.prog W 0 (fun _ => true) true 138 (.slice a len cap) d p) :
    ∃ xs : List Int, xs.length = len ∧ BytesIn W (.slice a len cap) xs ∧ bytesOk xs ∧ len ≤ Rows.uptoBulk d := by
  obtain ⟨fuel, hf⟩ := h
  obtain ⟨v, xs, hcs, hin, hok, ⟨a', c', hv⟩, hbulk, hd⟩ := bytes_raw hf
  simp only [Value.cells] at hcs
  obtain rfl : Value.slice a len cap = v := by simpa using hcs
  injection hv with e1 e2 e3
  exact ⟨xs, e2.symm, hin, hok, by rw [e2]; exact hbulk⟩
/-- a slice of slices of bytes -/
def BssIn (w : World) (v : Value) (ps : List (List Int)) : Prop :=
  ∃ a c, v = .slice a ps.length c ∧ ps.length ≤ c ∧ ps.length ≤ maxLen ∧ (ps = [] ∨ ∃ ab ao, a = some ⟨ab, ao, none⟩ ∧ ∀ i p, ps[i]? = some p → ∃ u, w.cell? ⟨ab, ao + i, none⟩ = some u ∧ BytesIn w u p)
theorem BssIn.below {w w' : World} {v : Value} {ps : List (List Int)} (h : BssIn w v ps) (hb : Below w.heap.size w w') : BssIn w' v ps := by
  obtain ⟨a, c, rfl, hc, hm, hx⟩ := h
  refine ⟨a, c, rfl, hc, hm, ?_⟩
  rcases hx with hx | ⟨ab, ao, rfl, hx⟩
  · exact .inl hx
  · refine .inr ⟨ab, ao, rfl, fun i p hi => ?_⟩
    obtain ⟨u, hu, hp⟩ := hx i p hi
    exact ⟨u, (hb.cell (p := ⟨ab, ao + i, none⟩) (World.block_lt_of_cell? w _ hu)).trans hu, hp.below hb⟩
end Go.Proofs.YtfmfemmknccfmaaDoor
namespace Go.Proofs.YtfmfemmknccfmaaDoor
set_option linter.unusedVariables false
set_option linter.unusedSimpArgs false
open Go.ChangeShapes Go.WideShapes Go.ChangeAt Go.RowKit Go.Proofs
set_option maxRecDepth 100000
set_option linter.unusedSimpArgs false
set_option linter.unusedVariables false
theorem kvcellsS : Tryd.prog.cellsOf 9 = 1 := by kernel_rfl
theorem kvcellsP : Tryd.prog.cellsOf 81 = 2 := by kernel_rfl
theorem kvone_of_take {α : Type} {l : List α} {k : Nat} {v : α} (h : (l.drop k).take 1 = [v]) : l[k]? = some v := by
  have h1 : ((l.drop k).take 1)[0]? = some v := by rw [h]; rfl
  rw [List.getElem?_take, if_pos (by omega), List.getElem?_drop, Nat.add_zero] at h1
  exact h1
theorem kvbulk_two {H : Type} {d e : DataW H} {l : List (DataW H)} (h0 : l[0]? = some d) (h1 : l[1]? = some e) : Rows.uptoBulk d + Rows.uptoBulk e ≤ Rows.uptoBulkAll l := by
  cases l with
  | nil => simp at h0
  | cons x r =>
    simp at h0
    subst h0
    have := bulk_mem (List.mem_of_getElem? (by simpa using h1 : r[0]? = some e))
    simp only [Rows.uptoBulkAll]; omega
theorem kv_raw {H : Type} {enc : TypeId × Value → H} {W : World} {fuel : Nat} {cs : List Value} {x : DataW H × List MemPlace} (h : DataW.trod enc Tryd.prog W 0 (fun _ => true) true fuel 81 cs = some x) :
    ∃ p : KV, cs = [.string p.1, .string p.2] ∧ p.1.size + p.2.size ≤ Rows.uptoBulk x.1 := by
  obtain ⟨xs, m, _, rfl, hlen, hxl, hf⟩ := DataW.trod_struct Tryd.underlying81 h
  rw [kvcellsP] at hlen
  simp only [List.size_toArray, List.length_cons, List.length_nil] at hxl
  have g : ∀ i, i < 2 → ∃ y, xs[i]? = some y := fun i hi => ⟨xs[i], List.getElem?_eq_getElem (by omega)⟩
  obtain ⟨y0, e0⟩ := g 0 (by omega)
  obtain ⟨y1, e1⟩ := g 1 (by omega)
  have f0 : DataW.trod enc Tryd.prog W 0 (fun _ => true) true m 9 ((cs.drop 0).take (Tryd.prog.cellsOf 9)) = xs[0]? := hf 0 _ rfl
  have f1 : DataW.trod enc Tryd.prog W 0 (fun _ => true) true m 9 ((cs.drop 1).take (Tryd.prog.cellsOf 9)) = xs[1]? := hf 1 _ rfl
  rw [e0, kvcellsS] at f0
  rw [e1, kvcellsS] at f1
  obtain ⟨s0, h0, x0, _⟩ := DataW.trod_string Tryd.underlying9 f0
  obtain ⟨s1, h1, x1, _⟩ := DataW.trod_string Tryd.underlying9 f1
  have h00 := kvone_of_take h0
  have h10 := kvone_of_take h1
  refine ⟨(s0, s1), ?_, ?_⟩
  · apply List.ext_getElem?
    intro i
    rcases (by omega : i = 0 ∨ i = 1 ∨ 2 ≤ i) with rfl | rfl | h3
    · rw [h00]; rfl
    · rw [h10]; rfl
    · rw [List.getElem?_eq_none (by omega), List.getElem?_eq_none (by simp; omega)]
  · have m0 : (xs.map (·.1))[0]? = some y0.1 := by rw [List.getElem?_map, e0]; rfl
    have m1 : (xs.map (·.1))[1]? = some y1.1 := by rw [List.getElem?_map, e1]; rfl
    have := kvbulk_two m0 m1
    rw [x0, x1] at this
    simp only [Rows.uptoBulk, Array.length_toList] at this ⊢
    show s0.data.size + s1.data.size ≤ _
    omega
theorem kvs_arg {H : Type} {enc : TypeId × Value → H} {W : World} {a : Option Addr} {len cap : Nat} {d : DataW H} {p : List MemPlace} (h : DataW.Trod enc Tryd.prog W 0 (fun _ => true) true 24 (.slice a len cap) d p) :
    ∃ ts : List KV, ts.length = len ∧ KVIn W (.slice a len cap) ts ∧ (∀ t ∈ ts, t.1.size + t.2.size ≤ Rows.uptoBulk d) := by
  obtain ⟨fuel, hf⟩ := h
  rcases Deep.open_slice Tryd.underlying24 hf with ⟨hcs, hx⟩ | ⟨x, l, c, m, n, D, Pl, hcs, _, hl, hm, hmm, hx, hel⟩
  · simp [Value.cells] at hcs
    obtain ⟨rfl, rfl, rfl⟩ := hcs
    exact ⟨[], rfl, ⟨_, _, rfl, by simp, by simp [maxLen], .inl rfl⟩, by simp⟩
  · simp [Value.cells] at hcs
    obtain ⟨rfl, rfl, rfl⟩ := hcs
    simp only [if_true] at hmm
    simp only [Prod.mk.injEq] at hx
    obtain ⟨rfl, _⟩ := hx
    have key : ∀ i, i < len → ∃ t : KV, (∀ j v, ([Value.string t.1, .string t.2] : List Value)[j]? = some v → W.cell? (x.add (i * 2 + j)) = some v) ∧ t.1.size + t.2.size ≤ Rows.uptoBulk (D i) := by
      intro i hi
      obtain ⟨cs', h1, h2⟩ := hel i (by omega)
      rw [kvcellsP] at h1
      obtain ⟨_, hlen, hcell⟩ := World.cells?_some h1
      obtain ⟨t, rfl, hbulk⟩ := kv_raw h2
      refine ⟨t, fun j v hv => ?_, hbulk⟩
      have hj : j < 2 := by have := (List.getElem?_eq_some_iff.1 hv).1; exact this
      rw [← hv, ← hcell j hj]
      by_cases hj0 : j = 0 <;> by_cases hi0 : i * 2 = 0 <;> simp [hj0, hi0, Addr.add, Nat.add_assoc]
    obtain ⟨F, hF⟩ := Deep.choose_lt key
    have hget : ∀ i t, ((List.range len).map F)[i]? = some t → i < len ∧ F i = t := fun i t hi => by
      have hil : i < len := by have := (List.getElem?_eq_some_iff.1 hi).1; simpa using this
      rw [List.getElem?_map, List.getElem?_range hil] at hi
      cases hi; exact ⟨hil, rfl⟩
    refine ⟨(List.range len).map F, by simp, ⟨some x, cap, by simp, by simp; omega, by simp; omega, ?_⟩, fun t ht => ?_⟩
    · by_cases hl0 : len = 0
      · left; subst hl0; rfl
      · right
        obtain ⟨b, off, spot⟩ := x
        have h0 := (hF 0 (by omega)).1 0 _ rfl
        have hspot : spot = none := by simpa [Addr.add] using World.cell?_spot h0
        subst hspot
        refine ⟨b, off, rfl, World.block_lt_of_cell? _ _ h0, fun i t hi => ?_⟩
        obtain ⟨hil, rfl⟩ := hget i t hi
        have g0 := (hF i hil).1 0 _ rfl
        have g1 := (hF i hil).1 1 _ rfl
        rw [Addr.add_mid] at g0 g1
        exact ⟨g0, by rw [Nat.add_assoc]; exact g1⟩
    · obtain ⟨i, hi, rfl⟩ := List.mem_map.1 ht
      have h1 := (hF i (List.mem_range.1 hi)).2
      have h2 := bulk_mem (d := D i) (l := (List.range len).map D) (List.mem_map.2 ⟨i, hi, rfl⟩)
      simp only [Rows.uptoBulk]
      omega
end Go.Proofs.YtfmfemmknccfmaaDoor
