/- Part 43 of the proof. -/
import Derived.ProofKit
import Derived.OpenShut
import Derived.Deep.Slices
import Derived.SizedLaws
import Derived.Lib.SmallJoins
import Derived.Deep.Fields
import Derived.ChangeSame
import Derived.LaidMore
import Derived.Stop.Joined
import Derived.Stop.LaidErr
import Derived.Lib.LaidTab
import Derived.LaidHandle
import Derived.Carry
import Derived.Test.YtabflppnecemkaaGreatDoorPb1
import Derived.Test.YtabflppnecemkaaGreatDoorPb6
import Derived.Test.YtabflppnecemkaaGreatDoorPb11
import Derived.Test.YtabflppnecemkaaGreatDoorPb15
import Derived.Test.YtabflppnecemkaaGreatDoorPb28
namespace Go.Proofs.YtabflppnecemkaaGreatDoor
set_option linter.unusedVariables false
set_option linter.unusedSimpArgs false
open Go.ChangeShapes Go.WideShapes Go.ChangeAt Go.RowKit
theorem cellsU8 : Tryz.prog.cellsOf 5 = 1 := by kernel_rfl
theorem bytesOfU8 : Tryz.prog.bytesOf 5 = 1 := by kernel_rfl
/-- each value counts one at least -/
theorem bulk_one {H : Type} (d : DataW H) : 1 ≤ Rows.uptoBulk d := by
  cases d with
  | lit l => cases l <;> simp [Rows.uptoBulk]
  | _ => simp [Rows.uptoBulk]
theorem bulk_len {H : Type} : ∀ l : List (DataW H), l.length ≤ Rows.uptoBulkAll l
  | [] => by simp
  | d :: r => by
    have h1 := bulk_one d
    have h2 := bulk_len r
    simp only [Rows.uptoBulkAll, List.length_cons]
    omega
theorem bulk_mem {H : Type} {d : DataW H} : ∀ {l : List (DataW H)}, d ∈ l → Rows.uptoBulk d ≤ Rows.uptoBulkAll l
  | e :: r, h => by
    simp only [Rows.uptoBulkAll]
    rcases List.mem_cons.1 h with rfl | h
    · omega
    · have := bulk_mem h; omega
/-- a slice of bytes that came in -/
theorem bytes_raw {H : Type} {enc : TypeId × Value → H} {W : World} {fuel : Nat} {cs : List Value} {x : DataW H × List MemPlace} (h : DataW.trod enc Tryz.prog W 0 (fun _ => true) true fuel 28 cs = some x) :
    ∃ v xs, cs = [v] ∧ BytesIn W v xs ∧ bytesOk xs ∧ (∃ a c, v = .slice a xs.length c) ∧ xs.length ≤ Rows.uptoBulk x.1 ∧ (x.1 = .nil ∧ xs = [] ∨ ∃ elems spare, x.1 = .slice elems spare ∧ elems.length = xs.length) := by
  rcases open_ints Tryz.underlying28 Tryz.underlying5 (by kernel_rfl) h with ⟨hcs, hx⟩ | ⟨a, l, c, zs, hcs, _, hl, hm, hz, hx, hcell, hwz⟩
  · exact ⟨_, [], hcs, ⟨_, _, rfl, by simp, by simp [maxLen], .inl rfl⟩, (by intro x hx; cases hx), ⟨_, _, rfl⟩, by simp, .inl ⟨by rw [hx], rfl⟩⟩
  · simp only [if_true] at hz
    have hlen : (zs.take l).length = l := by rw [List.length_take]; omega
    refine ⟨_, zs.take l, hcs, ⟨some a, c, by rw [hlen], by rw [hlen]; exact hl, by rw [hlen]; omega, ?_⟩, fun y hy => ?_, ⟨some a, c, by rw [hlen]⟩, ?_, ?_⟩
    · by_cases hl0 : l = 0
      · left; subst hl0; simp
      · right
        obtain ⟨b, off, spot⟩ := a
        have hspot : spot = none := by simpa [Addr.add] using World.cell?_spot (hcell 0 (by omega))
        subst hspot
        refine ⟨b, off, rfl, fun i y hi => ?_⟩
        have hil : i < l := by have := (List.getElem?_eq_some_iff.1 hi).1; omega
        rw [List.getElem?_take, if_pos hil] at hi
        have := hcell i (by omega)
        rw [Addr.add_mid] at this
        rw [this]
        simp [List.getD, hi]
    · have h2 := bounds_u8 (hwz y (List.mem_of_mem_take hy))
      omega
    · rw [hx]
      have h1 := bulk_len (lits (H := H) IntKind.u8 (zs.take l))
      simp only [lits, List.length_map] at h1
      simp only [Rows.uptoBulk, lits]
      omega
    · rw [hx]
      exact .inr ⟨_, _, rfl, by simp [lits]⟩
/-- a slice of bytes that came in -/
theorem bytes_arg {H : Type} {enc : TypeId × Value → H} {W : World} {a : Option Addr} {len cap : Nat} {d : DataW H} {p : List MemPlace} (h : DataW.Trod enc Tryz.prog W 0 (fun _ => true) true 28 (.slice a len cap) d p) :
    ∃ xs : List Int, xs.length = len ∧ BytesIn W (.slice a len cap) xs ∧ bytesOk xs ∧ (∀ ts ds : List _, ∀ j : Nat, ts[j]? = some 28 → ds[j]? = some d → (DataW.weightsEach Tryz.prog ts ds).all (· ≤ reachBytes) = true → len ≤ 140737488351232) := by
  obtain ⟨fuel, hf⟩ := h
  obtain ⟨v, xs, hcs, hin, hok, ⟨a', c', hv⟩, _, hd⟩ := bytes_raw hf
  simp only [Value.cells] at hcs
  obtain rfl : Value.slice a len cap = v := by simpa using hcs
  injection hv with e1 e2 e3
  refine ⟨xs, e2.symm, hin, hok, fun ts ds j ht hdj hw => ?_⟩
  rcases hd with ⟨_, rfl⟩ | ⟨elems, spare, he, hel⟩
  · simp at e2; omega
  · simp only at he
    rw [he] at hdj
    have := sized_slice hw (j := j) (t := 28) (e := 5) ht hdj Tryz.underlying28
    rw [bytesOfU8] at this
    simp only [reachBytes] at this
    omega
theorem bytes_argB {H : Type} {enc : TypeId × Value → H} {W : World} {a : Option Addr} {len cap : Nat} {d : DataW H} {p : List MemPlace} (h : DataW.Trod enc Tryz.prog W 0 (fun _ => true) true 28 (.slice a len cap) d p) :
    ∃ xs : List Int, xs.length = len ∧ BytesIn W (.slice a len cap) xs ∧ bytesOk xs ∧ len ≤ Rows.uptoBulk d := by
  obtain ⟨fuel, hf⟩ := h
  obtain ⟨v, xs, hcs, hin, hok, ⟨a', c', hv⟩, hbulk, hd⟩ := bytes_raw hf
  simp only [Value.cells] at hcs
  obtain rfl : Value.slice a len cap = v := by simpa using hcs
  injection hv with e1 e2 e3
  exact ⟨xs, e2.symm, hin, hok, by rw [e2]; exact hbulk⟩
/-- a slice of slices of bytes -/
def BssIn (w : World) (v : Value) (ps : List (List Int)) : Prop :=
  ∃ a c, v = .slice a ps.length c ∧ ps.length ≤ c ∧ ps.length ≤ maxLen ∧ (ps = [] ∨ ∃ ab ao, a = some ⟨ab, ao, none⟩ ∧ ∀ i p, ps[i]? = some p → ∃ u, w.cell? ⟨ab, ao + i, none⟩ = some u ∧ BytesIn w u p)
theorem BssIn.below {w w' : World} {v : Value} {ps : List (List Int)} (h : BssIn w v ps) (hb : Below w.heap.size w w') : BssIn w' v ps := by
  obtain ⟨a, c, rfl, hc, hm, hx⟩ := h
  refine ⟨a, c, rfl, hc, hm, ?_⟩
  rcases hx with hx | ⟨ab, ao, rfl, hx⟩
  · exact .inl hx
  · refine .inr ⟨ab, ao, rfl, fun i p hi => ?_⟩
    obtain ⟨u, hu, hp⟩ := hx i p hi
    exact ⟨u, (hb.cell (p := ⟨ab, ao + i, none⟩) (World.block_lt_of_cell? w _ hu)).trans hu, hp.below hb⟩
end Go.Proofs.YtabflppnecemkaaGreatDoor
namespace Go.Proofs.YtabflppnecemkaaGreatDoor
set_option linter.unusedVariables false
set_option linter.unusedSimpArgs false
open Go.ChangeShapes Go.WideShapes Go.ChangeAt Go.RowKit
theorem okWide_arr {P : Program} {w : World} {r : Reach} {base : Nat} {t e : TypeId} {n : Nat} {v : Value} (ht : P.underlying t = some (.array n e)) (h : Value.okWide P w r base t v) : ∃ cs, v = .agg cs ∧ cs.size = P.cellsOf t := by
  simp only [Value.okWide, ht] at h
  obtain ⟨cs, h1, h2, _⟩ := h
  exact ⟨cs, h1, h2⟩
theorem one_take {α : Type} {l : List α} {k : Nat} {v : α} (h : (l.drop k).take 1 = [v]) : l[k]? = some v := by
  have h1 : ((l.drop k).take 1)[0]? = some v := by rw [h]; rfl
  rw [List.getElem?_take, if_pos (by omega), List.getElem?_drop, Nat.add_zero] at h1
  exact h1
theorem arr_raw {H : Type} {enc : TypeId × Value → H} {W : World} {t e : TypeId} {k : IntKind} {n fuel : Nat} {cs : List Value} {x : DataW H × List MemPlace} (ht : Tryz.prog.underlying t = some (.array n e)) (he : Tryz.prog.underlying e = some (.int k)) (hc : Tryz.prog.cellsOf e = 1) (hct : Tryz.prog.cellsOf t = n)
    (h : DataW.trod enc Tryz.prog W 0 (fun _ => true) true fuel t cs = some x) : ∃ F : Nat → Int, cs = (rowOf k n F).toList ∧ ∀ i, i < n → (Lit.int k (F i)).wf = true := by
  obtain ⟨zs, m', _, _, hl, hzl, hzs⟩ := DataW.trod_array ht h
  have key : ∃ F : Nat → Int, ∀ j, j < n → cs[j]? = some (.int k (F j)) ∧ (Lit.int k (F j)).wf = true := by
    refine Deep.choose_lt (p := fun j v => cs[j]? = some (.int k v) ∧ (Lit.int k v).wf = true) fun j hj => ?_
    have h3 := hzs j hj
    rw [hc, Nat.mul_one, List.getElem?_eq_getElem (by omega)] at h3
    obtain ⟨v, hv, _, hw⟩ := DataW.trod_int he h3
    exact ⟨v, one_take hv, hw⟩
  obtain ⟨F, hF⟩ := key
  refine ⟨F, ?_, fun i hi => (hF i hi).2⟩
  apply List.ext_getElem?
  intro i
  rcases Nat.lt_or_ge i n with h1 | h1
  · rw [(hF i h1).1]; simp [rowOf, h1]
  · rw [List.getElem?_eq_none (by rw [hl, hct]; exact h1), List.getElem?_eq_none (by simpa [rowOf] using h1)]
theorem arr_arg {H : Type} {enc : TypeId × Value → H} {W : World} {t e : TypeId} {k : IntKind} {n : Nat} {cs : Array Value} {d : DataW H} {p : List MemPlace} (ht : Tryz.prog.underlying t = some (.array n e)) (he : Tryz.prog.underlying e = some (.int k)) (hc : Tryz.prog.cellsOf e = 1) (hct : Tryz.prog.cellsOf t = n)
    (h : DataW.Trod enc Tryz.prog W 0 (fun _ => true) true t (.agg cs) d p) : ∃ F : Nat → Int, cs = rowOf k n F ∧ ∀ i, i < n → (Lit.int k (F i)).wf = true := by
  obtain ⟨fuel, hf⟩ := h
  obtain ⟨F, h1, h2⟩ := arr_raw ht he hc hct hf
  refine ⟨F, ?_, h2⟩
  have h3 : cs.toList = (rowOf k n F).toList := by simpa [Value.cells] using h1
  exact Array.toList_inj.1 h3
end Go.Proofs.YtabflppnecemkaaGreatDoor
namespace Go.Proofs.YtabflppnecemkaaGreatDoor
set_option linter.unusedVariables false
set_option linter.unusedSimpArgs false
open Go.ChangeShapes Go.WideShapes Go.ChangeAt Go.RowKit Go.Proofs
set_option maxRecDepth 100000
set_option linter.unusedSimpArgs false
set_option linter.unusedVariables false
theorem kvcellsS : Tryz.prog.cellsOf 9 = 1 := by kernel_rfl
theorem kvcellsP : Tryz.prog.cellsOf 169 = 2 := by kernel_rfl
theorem kvone_of_take {α : Type} {l : List α} {k : Nat} {v : α} (h : (l.drop k).take 1 = [v]) : l[k]? = some v := by
  have h1 : ((l.drop k).take 1)[0]? = some v := by rw [h]; rfl
  rw [List.getElem?_take, if_pos (by omega), List.getElem?_drop, Nat.add_zero] at h1
  exact h1
theorem kvbulk_two {H : Type} {d e : DataW H} {l : List (DataW H)} (h0 : l[0]? = some d) (h1 : l[1]? = some e) : Rows.uptoBulk d + Rows.uptoBulk e ≤ Rows.uptoBulkAll l := by
  cases l with
  | nil => simp at h0
  | cons x r =>
    simp at h0
    subst h0
    have := bulk_mem (List.mem_of_getElem? (by simpa using h1 : r[0]? = some e))
    simp only [Rows.uptoBulkAll]; omega
theorem kv_raw {H : Type} {enc : TypeId × Value → H} {W : World} {fuel : Nat} {cs : List Value} {x : DataW H × List MemPlace} (h : DataW.trod enc Tryz.prog W 0 (fun _ => true) true fuel 169 cs = some x) :
    ∃ p : KV, cs = [.string p.1, .string p.2] ∧ p.1.size + p.2.size ≤ Rows.uptoBulk x.1 := by
  obtain ⟨xs, m, _, rfl, hlen, hxl, hf⟩ := DataW.trod_struct Tryz.underlying169 h
  rw [kvcellsP] at hlen
  simp only [List.size_toArray, List.length_cons, List.length_nil] at hxl
  have g : ∀ i, i < 2 → ∃ y, xs[i]? = some y := fun i hi => ⟨xs[i], List.getElem?_eq_getElem (by omega)⟩
  obtain ⟨y0, e0⟩ := g 0 (by omega)
  obtain ⟨y1, e1⟩ := g 1 (by omega)
  have f0 : DataW.trod enc Tryz.prog W 0 (fun _ => true) true m 9 ((cs.drop 0).take (Tryz.prog.cellsOf 9)) = xs[0]? := hf 0 _ rfl
  have f1 : DataW.trod enc Tryz.prog W 0 (fun _ => true) true m 9 ((cs.drop 1).take (Tryz.prog.cellsOf 9)) = xs[1]? := hf 1 _ rfl
  rw [e0, kvcellsS] at f0
  rw [e1, kvcellsS] at f1
  obtain ⟨s0, h0, x0, _⟩ := DataW.trod_string Tryz.underlying9 f0
  obtain ⟨s1, h1, x1, _⟩ := DataW.trod_string Tryz.underlying9 f1
  have h00 := kvone_of_take h0
  have h10 := kvone_of_take h1
  refine ⟨(s0, s1), ?_, ?_⟩
  · apply List.ext_getElem?
    intro i
    rcases (by omega : i = 0 ∨ i = 1 ∨ 2 ≤ i) with rfl | rfl | h3
    · rw [h00]; rfl
    · rw [h10]; rfl
    · rw [List.getElem?_eq_none (by omega), List.getElem?_eq_none (by simp; omega)]
  · have m0 : (xs.map (·.1))[0]? = some y0.1 := by rw [List.getElem?_map, e0]; rfl
    have m1 : (xs.map (·.1))[1]? = some y1.1 := by rw [List.getElem?_map, e1]; rfl
    have := kvbulk_two m0 m1
    rw [x0, x1] at this
    simp only [Rows.uptoBulk, Array.length_toList] at this ⊢
    show s0.data.size + s1.data.size ≤ _
    omega
end Go.Proofs.YtabflppnecemkaaGreatDoor
namespace Go.Proofs.YtabflppnecemkaaGreatDoor
set_option linter.unusedVariables false
set_option linter.unusedSimpArgs false
open Go.ChangeShapes Go.WideShapes Go.ChangeAt Go.RowKit Go.Proofs
set_option maxRecDepth 100000
set_option linter.unusedSimpArgs false
set_option linter.unusedVariables false
/-- a slice of rows that came in: each row's cells are C t -/
theorem rows_raw {H α : Type} {enc : TypeId × Value → H} {W : World} {T E : TypeId} {n : Nat} (hT : Tryz.prog.underlying T = some (.slice E)) (hn : Tryz.prog.cellsOf E = n) (hn0 : 0 < n) (C : α → List Value) (hC : ∀ t, (C t).length = n) (Ok : α → Nat → Prop)
    (hel : ∀ (f : Nat) (cs : List Value) (x : DataW H × List MemPlace), DataW.trod enc Tryz.prog W 0 (fun _ => true) true f E cs = some x → ∃ t, cs = C t ∧ Ok t (Rows.uptoBulk x.1))
    {fuel : Nat} {cs : List Value} {x : DataW H × List MemPlace} (h : DataW.trod enc Tryz.prog W 0 (fun _ => true) true fuel T cs = some x) :
    ∃ (ts : List α) (a : Option Addr) (cap : Nat), cs = [.slice a ts.length cap] ∧ ts.length ≤ cap ∧ ts.length ≤ maxLen ∧ ts.length ≤ Rows.uptoBulk x.1 ∧
      (ts = [] ∨ ∃ b off, a = some ⟨b, off, none⟩ ∧ b < W.heap.size ∧ ∀ i t, ts[i]? = some t → W.rangeAt b (off + i * n) (C t)) ∧ ∀ t ∈ ts, ∃ k, Ok t k ∧ k ≤ Rows.uptoBulk x.1 := by
  rcases Deep.open_slice hT h with ⟨hcs, hx⟩ | ⟨ad, l, c, m, f, D, Pl, hcs, _, hl, hm, hmm, hx, hel2⟩
  · exact ⟨[], none, 0, hcs, by simp, by simp [maxLen], by simp, .inl rfl, by simp⟩
  · simp only [if_true] at hmm
    subst hx
    rw [hn] at hel2
    have key : ∀ i, i < l → ∃ t : α, (∀ j v, (C t)[j]? = some v → W.cell? (ad.add (i * n + j)) = some v) ∧ Ok t (Rows.uptoBulk (D i)) := by
      intro i hi
      obtain ⟨cs', h1, h2⟩ := hel2 i (by omega)
      obtain ⟨_, hlen, hcell⟩ := World.cells?_some h1
      obtain ⟨t, rfl, hok⟩ := hel f _ _ h2
      refine ⟨t, fun j v hv => ?_, hok⟩
      have hj : j < n := by have := (List.getElem?_eq_some_iff.1 hv).1; rw [hC] at this; exact this
      rw [← hv, ← hcell j hj]
      by_cases hj0 : j = 0 <;> by_cases hi0 : i * n = 0 <;> simp [hj0, hi0, Addr.add, Nat.add_assoc]
    have hnone : ∀ (i : Nat), l ≤ i → True := fun _ _ => trivial
    by_cases hl0 : l = 0
    · subst hl0
      exact ⟨[], some ad, c, hcs, by simp, by simp [maxLen], by simp, .inl rfl, by simp⟩
    · obtain ⟨t0, _⟩ := key 0 (by omega)
      have hinh : Nonempty α := ⟨t0⟩
      have key2 : ∀ i, ∃ t : α, i < l → (∀ j v, (C t)[j]? = some v → W.cell? (ad.add (i * n + j)) = some v) ∧ Ok t (Rows.uptoBulk (D i)) := fun i => by
        by_cases hi : i < l
        · obtain ⟨t, ht⟩ := key i hi; exact ⟨t, fun _ => ht⟩
        · exact ⟨t0, fun h => absurd h hi⟩
      obtain ⟨F, hF⟩ : ∃ F : Nat → α, ∀ i, i < l → (∀ j v, (C (F i))[j]? = some v → W.cell? (ad.add (i * n + j)) = some v) ∧ Ok (F i) (Rows.uptoBulk (D i)) := ⟨fun i => (key2 i).choose, fun i => (key2 i).choose_spec⟩
      have hget : ∀ i t, ((List.range l).map F)[i]? = some t → i < l ∧ F i = t := fun i t hi => by
        have hil : i < l := by have := (List.getElem?_eq_some_iff.1 hi).1; simpa using this
        rw [List.getElem?_map, List.getElem?_range hil] at hi
        cases hi; exact ⟨hil, rfl⟩
      have hblk := bulk_len ((List.range l).map D)
      simp only [List.length_map, List.length_range] at hblk
      refine ⟨(List.range l).map F, some ad, c, by simpa using hcs, by simpa using hl, by simp; omega, ?_, .inr ?_, fun t ht => ?_⟩
      · simp only [Rows.uptoBulk, List.length_map, List.length_range]; omega
      · obtain ⟨b, off, spot⟩ := ad
        have h1 : (C (F 0))[0]? = some (C (F 0))[0]! := by rw [List.getElem?_eq_getElem (by rw [hC]; exact hn0)]; simp [hC, hn0]
        have h0 := (hF 0 (by omega)).1 0 _ h1
        have hspot : spot = none := by simpa [Addr.add] using World.cell?_spot h0
        subst hspot
        refine ⟨b, off, rfl, by simpa [Addr.add] using World.block_lt_of_cell? _ _ h0, fun i t hi => ?_⟩
        obtain ⟨hil, rfl⟩ := hget i t hi
        intro j v hv
        have := (hF i hil).1 j v hv
        rw [Addr.add_mid] at this
        rw [Nat.add_assoc]; exact this
      · obtain ⟨i, hi, rfl⟩ := List.mem_map.1 ht
        have h2 := bulk_mem (d := D i) (l := (List.range l).map D) (List.mem_map.2 ⟨i, hi, rfl⟩)
        exact ⟨_, (hF i (List.mem_range.1 hi)).2, by simp only [Rows.uptoBulk]; omega⟩
theorem pvone {α : Type} {l : List α} {k : Nat} {v : α} (h : (l.drop k).take 1 = [v]) : l[k]? = some v := by
  have h1 : ((l.drop k).take 1)[0]? = some v := by rw [h]; rfl
  rw [List.getElem?_take, if_pos (by omega), List.getElem?_drop, Nat.add_zero] at h1
  exact h1
theorem bulkAt {H : Type} {d : DataW H} {l : List (DataW H)} {i : Nat} (h : l[i]? = some d) : Rows.uptoBulk d ≤ Rows.uptoBulkAll l := bulk_mem (List.mem_of_getElem? h)
end Go.Proofs.YtabflppnecemkaaGreatDoor
namespace Go.Proofs.YtabflppnecemkaaGreatDoor
set_option linter.unusedVariables false
set_option linter.unusedSimpArgs false
open Go.ChangeShapes Go.WideShapes Go.ChangeAt Go.RowKit Go.Proofs
set_option maxRecDepth 100000
set_option linter.unusedSimpArgs false
set_option linter.unusedVariables false
/-- what a step that came in keeps to -/
def stOk (s : AvS) (_ : Nat) : Prop := (-9223372036854775808 ≤ s.many ∧ s.many ≤ 9223372036854775807) ∧ ∀ j, j < 32 → 0 ≤ s.oth j ∧ s.oth j < 256
theorem step_raw {H : Type} {enc : TypeId × Value → H} {W : World} (f : Nat) (cs : List Value) (x : DataW H × List MemPlace) (h : DataW.trod enc Tryz.prog W 0 (fun _ => true) true f 74 cs = some x) : ∃ s : AvS, cs = s.cells ∧ stOk s (Rows.uptoBulk x.1) := by
  obtain ⟨xs, m, _, rfl, hlen, hxl, hf⟩ := DataW.trod_struct Tryz.underlying74 h
  rw [show Tryz.prog.cellsOf 74 = 34 by kernel_rfl] at hlen
  simp only [List.size_toArray, List.length_cons, List.length_nil] at hxl
  have g : ∀ i, i < 3 → ∃ y, xs[i]? = some y := fun i hi => ⟨xs[i], List.getElem?_eq_getElem (by omega)⟩
  obtain ⟨y0, e0⟩ := g 0 (by omega)
  obtain ⟨y1, e1⟩ := g 1 (by omega)
  obtain ⟨y2, e2⟩ := g 2 (by omega)
  have f0 : DataW.trod enc Tryz.prog W 0 (fun _ => true) true m 4 ((cs.drop 0).take (Tryz.prog.cellsOf 4)) = xs[0]? := hf 0 _ rfl
  have f1 : DataW.trod enc Tryz.prog W 0 (fun _ => true) true m 3 ((cs.drop 1).take (Tryz.prog.cellsOf 3)) = xs[1]? := hf 1 _ rfl
  have f2 : DataW.trod enc Tryz.prog W 0 (fun _ => true) true m 62 ((cs.drop 2).take (Tryz.prog.cellsOf 62)) = xs[2]? := hf 2 _ rfl
  rw [e0, show Tryz.prog.cellsOf 4 = 1 by kernel_rfl] at f0
  rw [e1, show Tryz.prog.cellsOf 3 = 1 by kernel_rfl] at f1
  rw [e2, show Tryz.prog.cellsOf 62 = 32 by kernel_rfl] at f2
  obtain ⟨bb, hb, _⟩ := DataW.trod_bool Tryz.underlying4 f0
  obtain ⟨kd, hk, _, wk⟩ := DataW.trod_int Tryz.underlying3 f1
  obtain ⟨F, hF, wF⟩ := arr_raw Tryz.underlying62 Tryz.underlying5 (by kernel_rfl) (by kernel_rfl) f2
  refine ⟨⟨bb, kd, F⟩, ?_, bounds_i64 wk, fun j hj => by have := bounds_u8 (wF j hj); show 0 ≤ F j ∧ F j < 256; omega⟩
  have hb0 := pvone hb
  have hk0 := pvone hk
  apply List.ext_getElem?
  intro i
  unfold AvS.cells stC
  rw [Array.toList_append]
  rcases (by omega : i = 0 ∨ i = 1 ∨ (2 ≤ i ∧ i < 34) ∨ 34 ≤ i) with rfl | rfl | ⟨h3, h4⟩ | h3
  · rw [hb0]; rfl
  · rw [hk0]; rfl
  · rw [List.getElem?_append_right (by simpa using h3)]
    have h5 : ((cs.drop 2).take 32)[i - 2]? = (rowOf .u8 32 F).toList[i - 2]? := by rw [hF]
    rw [List.getElem?_take, if_pos (by omega), List.getElem?_drop, show 2 + (i - 2) = i by omega] at h5
    rw [h5]; rfl
  · rw [List.getElem?_eq_none (by omega), List.getElem?_eq_none (by simp [rowOf_size]; omega)]
/-- a slice of steps that came in -/
theorem steps_raw {H : Type} {enc : TypeId × Value → H} {W : World} {fuel : Nat} {cs : List Value} {x : DataW H × List MemPlace} (h : DataW.trod enc Tryz.prog W 0 (fun _ => true) true fuel 22 cs = some x) :
    ∃ l v, cs = [v] ∧ StIn W v l ∧ (∀ s ∈ l, stOk s 0) ∧ l.length ≤ Rows.uptoBulk x.1 := by
  obtain ⟨l, a, cap, h1, h2, h3, h4, h5, h6⟩ := rows_raw (n := 34) Tryz.underlying22 (by kernel_rfl) (by omega) AvS.cells AvS.cells_length stOk step_raw h
  refine ⟨l, _, h1, ⟨a, cap, rfl, h2, h3, h5⟩, fun s hs => ?_, h4⟩
  obtain ⟨k, hk, _⟩ := h6 s hs
  exact hk
/-- a proof that came in: itself, and its steps' slice -/
abbrev PvV := PvP × Value
def PvV.cells (t : PvV) : List Value := [.string t.1.key, .string t.1.val, t.2]
def pvOk (W : World) (t : PvV) (k : Nat) : Prop := StIn W t.2 t.1.steps ∧ (∀ s ∈ t.1.steps, stOk s 0) ∧ t.1.key.size + t.1.val.size ≤ k ∧ t.1.steps.length ≤ k
theorem proof_raw {H : Type} {enc : TypeId × Value → H} {W : World} (f : Nat) (cs : List Value) (x : DataW H × List MemPlace) (h : DataW.trod enc Tryz.prog W 0 (fun _ => true) true f 24 cs = some x) : ∃ t : PvV, cs = t.cells ∧ pvOk W t (Rows.uptoBulk x.1) := by
  obtain ⟨xs, m, _, rfl, hlen, hxl, hf⟩ := DataW.trod_struct Tryz.underlying24 h
  rw [show Tryz.prog.cellsOf 24 = 3 by kernel_rfl] at hlen
  simp only [List.size_toArray, List.length_cons, List.length_nil] at hxl
  have g : ∀ i, i < 3 → ∃ y, xs[i]? = some y := fun i hi => ⟨xs[i], List.getElem?_eq_getElem (by omega)⟩
  obtain ⟨y0, e0⟩ := g 0 (by omega)
  obtain ⟨y1, e1⟩ := g 1 (by omega)
  obtain ⟨y2, e2⟩ := g 2 (by omega)
  have f0 : DataW.trod enc Tryz.prog W 0 (fun _ => true) true m 9 ((cs.drop 0).take (Tryz.prog.cellsOf 9)) = xs[0]? := hf 0 _ rfl
  have f1 : DataW.trod enc Tryz.prog W 0 (fun _ => true) true m 9 ((cs.drop 1).take (Tryz.prog.cellsOf 9)) = xs[1]? := hf 1 _ rfl
  have f2 : DataW.trod enc Tryz.prog W 0 (fun _ => true) true m 22 ((cs.drop 2).take (Tryz.prog.cellsOf 22)) = xs[2]? := hf 2 _ rfl
  rw [e0, show Tryz.prog.cellsOf 9 = 1 by kernel_rfl] at f0
  rw [e1, show Tryz.prog.cellsOf 9 = 1 by kernel_rfl] at f1
  rw [e2, show Tryz.prog.cellsOf 22 = 1 by kernel_rfl] at f2
  obtain ⟨s0, h0, x0, _⟩ := DataW.trod_string Tryz.underlying9 f0
  obtain ⟨s1, h1, x1, _⟩ := DataW.trod_string Tryz.underlying9 f1
  obtain ⟨l, v, h2, hst, hok, hlb⟩ := steps_raw f2
  have h00 := pvone h0
  have h10 := pvone h1
  have h20 := pvone h2
  have b0 := kvbulk_two (l := xs.map (·.1)) (d := y0.1) (e := y1.1) (by rw [List.getElem?_map, e0]; rfl) (by rw [List.getElem?_map, e1]; rfl)
  have b2 := bulkAt (l := xs.map (·.1)) (i := 2) (d := y2.1) (by rw [List.getElem?_map, e2]; rfl)
  rw [x0, x1] at b0
  refine ⟨(⟨s0, s1, l⟩, v), ?_, hst, hok, ?_, ?_⟩
  · apply List.ext_getElem?
    intro i
    rcases (by omega : i = 0 ∨ i = 1 ∨ i = 2 ∨ 3 ≤ i) with rfl | rfl | rfl | h3
    · rw [h00]; rfl
    · rw [h10]; rfl
    · rw [h20]; rfl
    · rw [List.getElem?_eq_none (by omega), List.getElem?_eq_none (by simp [PvV.cells]; omega)]
  · simp only [Rows.uptoBulk, Array.length_toList] at b0 ⊢; show s0.data.size + s1.data.size ≤ _; omega
  · simp only [Rows.uptoBulk] at b2 ⊢; show l.length ≤ _; omega
/-- what a proof keeps to: its sizes -/
def pOk (N : Nat) (p : PvP) : Prop := (∀ s ∈ p.steps, stOk s 0) ∧ p.key.size + p.val.size ≤ N ∧ p.steps.length ≤ N
theorem proofs_raw {H : Type} {enc : TypeId × Value → H} {W : World} {fuel : Nat} {cs : List Value} {x : DataW H × List MemPlace} (h : DataW.trod enc Tryz.prog W 0 (fun _ => true) true fuel 25 cs = some x) :
    ∃ ps v, cs = [v] ∧ PrsIn W v ps ∧ (∀ p ∈ ps, pOk (Rows.uptoBulk x.1) p) ∧ ps.length ≤ Rows.uptoBulk x.1 := by
  obtain ⟨l, a, cap, h1, h2, h3, h4, h5, h6⟩ := rows_raw (n := 3) Tryz.underlying25 (by kernel_rfl) (by omega) PvV.cells (fun _ => rfl) (pvOk W) proof_raw h
  refine ⟨l.map (·.1), .slice a l.length cap, h1, ⟨a, cap, by simp, by simpa using h3, ?_⟩, fun p hp => ?_, by simpa using h4⟩
  · rcases h5 with rfl | ⟨b, off, rfl, hlt, hr⟩
    · exact .inl rfl
    · refine .inr ⟨b, off, rfl, hlt, fun i p hi => ?_⟩
      rw [List.getElem?_map] at hi
      cases hl : l[i]? with
      | none => rw [hl] at hi; cases hi
      | some t =>
        rw [hl] at hi
        injection hi with hi
        subst hi
        obtain ⟨k, hk, _⟩ := h6 t (List.mem_of_getElem? hl)
        exact ⟨t.2, hr i t hl, hk.1⟩
  · obtain ⟨t, ht, rfl⟩ := List.mem_map.1 hp
    obtain ⟨k, ⟨_, q1, q2, q4⟩, hk⟩ := h6 t ht
    exact ⟨q1, by omega, by omega⟩
theorem proof_arg {H : Type} {enc : TypeId × Value → H} {W : World} {cs : Array Value} {d : DataW H} {q : List MemPlace} (h : DataW.Trod enc Tryz.prog W 0 (fun _ => true) true 24 (.agg cs) d q) :
    ∃ (p : PvP) (v : Value), cs = prC p v ∧ StIn W v p.steps ∧ pOk (Rows.uptoBulk d) p := by
  obtain ⟨fuel, hf⟩ := h
  have hf' : DataW.trod enc Tryz.prog W 0 (fun _ => true) true fuel 24 cs.toList = some (d, q) := by simpa [Value.cells] using hf
  obtain ⟨t, h1, h2, h3, h4, h6⟩ := proof_raw _ _ _ hf'
  exact ⟨t.1, t.2, Array.toList_inj.1 h1, h2, h3, h4, h6⟩
theorem absent_arg {H : Type} {enc : TypeId × Value → H} {W : World} {cs : Array Value} {d : DataW H} {q : List MemPlace} (h : DataW.Trod enc Tryz.prog W 0 (fun _ => true) true 27 (.agg cs) d q) :
    ∃ (L R : List PvP) (vl vr : Value), cs = #[vl, vr] ∧ PrsIn W vl L ∧ PrsIn W vr R ∧ (∀ p ∈ L, pOk (Rows.uptoBulk d) p) ∧ (∀ p ∈ R, pOk (Rows.uptoBulk d) p) ∧ L.length ≤ Rows.uptoBulk d ∧ R.length ≤ Rows.uptoBulk d := by
  obtain ⟨fuel, hf⟩ := h
  have hf' : DataW.trod enc Tryz.prog W 0 (fun _ => true) true fuel 27 cs.toList = some (d, q) := by simpa [Value.cells] using hf
  obtain ⟨xs, m, _, hx, hlen, hxl, hff⟩ := DataW.trod_struct Tryz.underlying27 hf'
  rw [show Tryz.prog.cellsOf 27 = 2 by kernel_rfl] at hlen
  simp only [List.size_toArray, List.length_cons, List.length_nil] at hxl
  have g : ∀ i, i < 2 → ∃ y, xs[i]? = some y := fun i hi => ⟨xs[i], List.getElem?_eq_getElem (by omega)⟩
  obtain ⟨y0, e0⟩ := g 0 (by omega)
  obtain ⟨y1, e1⟩ := g 1 (by omega)
  have f0 : DataW.trod enc Tryz.prog W 0 (fun _ => true) true m 25 ((cs.toList.drop 0).take (Tryz.prog.cellsOf 25)) = xs[0]? := hff 0 _ rfl
  have f1 : DataW.trod enc Tryz.prog W 0 (fun _ => true) true m 25 ((cs.toList.drop 1).take (Tryz.prog.cellsOf 25)) = xs[1]? := hff 1 _ rfl
  rw [e0, show Tryz.prog.cellsOf 25 = 1 by kernel_rfl] at f0
  rw [e1, show Tryz.prog.cellsOf 25 = 1 by kernel_rfl] at f1
  obtain ⟨L, vl, h0, hl, okl, bl0⟩ := proofs_raw f0
  obtain ⟨R, vr, h1, hr, okr, br0⟩ := proofs_raw f1
  have h00 := pvone h0
  have h10 := pvone h1
  have b0 := bulkAt (l := xs.map (·.1)) (i := 0) (d := y0.1) (by rw [List.getElem?_map, e0]; rfl)
  have b1 := bulkAt (l := xs.map (·.1)) (i := 1) (d := y1.1) (by rw [List.getElem?_map, e1]; rfl)
  simp only [Prod.mk.injEq] at hx
  have e : Rows.uptoBulkAll (xs.map (·.1)) ≤ Rows.uptoBulk d := by rw [hx.1]; simp only [Rows.uptoBulk]; omega
  refine ⟨L, R, vl, vr, ?_, hl, hr, fun p hp => ?_, fun p hp => ?_, by omega, by omega⟩
  · apply Array.toList_inj.1
    apply List.ext_getElem?
    intro i
    rcases (by omega : i = 0 ∨ i = 1 ∨ 2 ≤ i) with rfl | rfl | h3
    · rw [h00]; rfl
    · rw [h10]; rfl
    · rw [List.getElem?_eq_none (by omega), List.getElem?_eq_none (by simpa using h3)]
  · obtain ⟨q1, q2, q4⟩ := okl p hp; exact ⟨q1, by omega, by omega⟩
  · obtain ⟨q1, q2, q4⟩ := okr p hp; exact ⟨q1, by omega, by omega⟩
end Go.Proofs.YtabflppnecemkaaGreatDoor
namespace Go.Proofs.YtabflppnecemkaaGreatDoor
set_option linter.unusedVariables false
set_option linter.unusedSimpArgs false
open Go.ChangeShapes Go.WideShapes Go.ChangeAt Go.RowKit
set_option maxRecDepth 100000
theorem doorOwn : ownKnob Tryz.prog.godebug = none := by kernel_rfl
theorem doorLaidOut : laidOutB Tryz.prog = true := by kernel_rfl
theorem nBegin : Tryz.prog.globalNamed "isthmus/sha.begin" = some 1 := by kernel_rfl
theorem nConst : Tryz.prog.globalNamed "isthmus/sha.constants" = some 2 := by kernel_rfl
theorem tyBegin : (Tryz.prog.globals[1]?).map (·.type) = some 181 := by kernel_rfl
theorem tyConst : (Tryz.prog.globals[2]?).map (·.type) = some 187 := by kernel_rfl
def laidSha : List (String × DataW Unit) := [("isthmus/sha.begin", Rows.laid_isthmus_sha_begin), ("isthmus/sha.constants", Rows.laid_isthmus_sha_constants)]
theorem toList_getD (f : Nat → Int) (n i : Nat) (h : i < n) : ((List.range n).map f).getD i 0 = f i := by simp [List.getD, h]
theorem dBegin {H : Type} : (Rows.laid_isthmus_sha_begin : DataW H) = Lib.tabData .u32 ((List.range 8).map BT) := by rfl
theorem dConst {H : Type} : (Rows.laid_isthmus_sha_constants : DataW H) = Lib.tabData .u32 ((List.range 64).map KT) := by rfl
theorem env_of_tabs {W : World} (hb : Lib.TabIs Tryz.prog W "isthmus/sha.begin" .u32 ((List.range 8).map BT)) (hc : Lib.TabIs Tryz.prog W "isthmus/sha.constants" .u32 ((List.range 64).map KT)) : Env W :=
  ⟨fun i hi => by
    have := hb.cell nBegin i (by simpa using hi)
    rw [toList_getD _ _ _ hi] at this; exact this,
   fun i hi => by
    have := hc.cell nConst i (by simpa using hi)
    rw [toList_getD _ _ _ hi] at this; exact this⟩
theorem env_of_met {W : World} (h : laidMet Tryz.prog laidSha W) : Env W := by
  unfold laidSha at h
  rw [dBegin, dConst] at h
  exact env_of_tabs (Lib.tabIs_of_head nBegin tyBegin Tryz.underlying181 Tryz.underlying180 (by kernel_rfl) (by kernel_rfl) h)
    (Lib.tabIs_of_head nConst tyConst Tryz.underlying187 Tryz.underlying180 (by kernel_rfl) (by kernel_rfl) h.tail)
theorem env_of_laid {W : World} (h : laidMetH Tryz.prog laidSha W) : Env W := by
  rw [MakeChecks.laidMetH_plain _ _ _ (by kernel_rfl)] at h
  exact env_of_met h
theorem met_sha (os : Os) (args : Array Value) : laidMetH Tryz.prog laidSha ((World.doorLaid Tryz.prog 400 os).forCall (fun _ _ => 0) ⟨#[], args, []⟩).memory :=
  laidMetH_of_parts3 (fuel := 8) (laidMet_of_run' 8 (by kernel_rfl) (by kernel_rfl)) (by kernel_rfl) (by kernel_rfl)
def laidShaErr : List (String × DataW Unit) := [("errors.errorType", Rows.laid_errors_errorType), ("isthmus/sha.begin", Rows.laid_isthmus_sha_begin), ("isthmus/sha.constants", Rows.laid_isthmus_sha_constants)]
def laidErrS : List (String × DataW Unit) := [("errors.errorType", Rows.laid_errors_errorType)]
theorem doorEt : Tryz.prog.globalNamed "errors.errorType" = some 0 := by kernel_rfl
theorem doorRt : (Tryz.prog.cutTypes.find? (·.1 == "internal/reflectlite.rtype")).map (·.2) = some 153 := by kernel_rfl
theorem doorOneRow : ((List.range Tryz.prog.types.size).filter fun t => Tryz.prog.rowNamed t [101, 114, 114, 111, 114]) = [33] := by kernel_rfl
theorem err_of_met {W : World} {l : List (String × DataW Unit)} (hm : ("errors.errorType", Rows.laid_errors_errorType) ∈ l) (h : handlesMet Tryz.prog l W) : ErrType W := by
  obtain ⟨name, u, ty, e1, e2, e3, e4, e5⟩ := h _ hm
  have en : name = [101, 114, 114, 111, 114] := (Option.some.inj e1).symm
  subst en
  obtain rfl := Option.some.inj (doorRt.symm.trans e2)
  have hm : ty ∈ (List.range Tryz.prog.types.size).filter fun t => Tryz.prog.rowNamed t [101, 114, 114, 111, 114] := List.mem_filter.2 ⟨List.mem_range.2 e3, e4⟩
  rw [doorOneRow] at hm
  obtain rfl := List.mem_singleton.1 hm
  have hh : typeHandle Tryz.prog 33 = .pointer (some ⟨3, 33, none⟩) := by kernel_rfl
  rw [hh] at e5
  unfold ErrType
  simpa using World.var?_cell doorEt e5 0
theorem shaErr_of_laid {W : World} (h : laidMetH Tryz.prog laidShaErr W) : Env W ∧ ErrType W := by
  have h' : laidMet Tryz.prog laidSha W ∧ handlesMet Tryz.prog laidErrS W := h
  exact ⟨env_of_met h'.1, err_of_met (by simp [laidErrS]) h'.2⟩
theorem met_shaErr (os : Os) (args : Array Value) : laidMetH Tryz.prog laidShaErr ((World.doorLaid Tryz.prog 400 os).forCall (fun _ _ => 0) ⟨#[], args, []⟩).memory :=
  laidMetH_of_parts3 (fuel := 8) (laidMet_of_run' 8 (by kernel_rfl) (by kernel_rfl)) (by kernel_rfl) (by kernel_rfl)
end Go.Proofs.YtabflppnecemkaaGreatDoor
