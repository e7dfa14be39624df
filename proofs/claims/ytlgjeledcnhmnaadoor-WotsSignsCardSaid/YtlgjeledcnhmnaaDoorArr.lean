/- Arrays of numbers, and a Case, that came in as arguments. -/
import Derived.Test.YtlgjeledcnhmnaaDoorArg
namespace Go.Proofs.YtlgjeledcnhmnaaDoor
open Go.ChangeShapes Go.WideShapes Go.ChangeAt Go.RowKit
theorem okWide_arr {P : Program} {w : World} {r : Reach} {base : Nat} {t e : TypeId} {n : Nat} {v : Value} (ht : P.underlying t = some (.array n e)) (h : Value.okWide P w r base t v) : ∃ cs, v = .agg cs ∧ cs.size = P.cellsOf t := by
  simp only [Value.okWide, ht] at h
  obtain ⟨cs, h1, h2, _⟩ := h
  exact ⟨cs, h1, h2⟩
theorem one_take {α : Type} {l : List α} {k : Nat} {v : α} (h : (l.drop k).take 1 = [v]) : l[k]? = some v := by
  have h1 : ((l.drop k).take 1)[0]? = some v := by rw [h]; rfl
  rw [List.getElem?_take, if_pos (by omega), List.getElem?_drop, Nat.add_zero] at h1
  exact h1
theorem arr_raw {H : Type} {enc : TypeId × Value → H} {W : World} {t e : TypeId} {k : IntKind} {n fuel : Nat} {cs : List Value} {x : DataW H × List MemPlace} (ht : Tryd.prog.underlying t = some (.array n e)) (he : Tryd.prog.underlying e = some (.int k)) (hc : Tryd.prog.cellsOf e = 1) (hct : Tryd.prog.cellsOf t = n)
    (h : DataW.trod enc Tryd.prog W 0 (fun _ => true) true fuel t cs = some x) : ∃ F : Nat → Int, cs = (rowOf k n F).toList ∧ ∀ i, i < n → (Lit.int k (F i)).wf = true := by
  obtain ⟨zs, m', _, _, hl, hzl, hzs⟩ := DataW.trod_array ht h
  have key : ∃ F : Nat → Int, ∀ j, j < n → cs[j]? = some (.int k (F j)) ∧ (Lit.int k (F j)).wf = true := by
    refine Deep.choose_lt (p := fun j v => cs[j]? = some (.int k v) ∧ (Lit.int k v).wf = true) fun j hj => ?_
    have h3 := hzs j hj
    rw [hc, Nat.mul_one, List.getElem?_eq_getElem (by omega)] at h3
    obtain ⟨v, hv, _, hw⟩ := DataW.trod_int he h3
    exact ⟨v, one_take hv, hw⟩
  obtain ⟨F, hF⟩ := key
  refine ⟨F, ?_, fun i hi => (hF i hi).2⟩
  apply List.ext_getElem?
  intro i
  rcases Nat.lt_or_ge i n with h1 | h1
  · rw [(hF i h1).1]; simp [rowOf, h1]
  · rw [List.getElem?_eq_none (by rw [hl, hct]; exact h1), List.getElem?_eq_none (by simpa [rowOf] using h1)]
theorem arr_arg {H : Type} {enc : TypeId × Value → H} {W : World} {t e : TypeId} {k : IntKind} {n : Nat} {cs : Array Value} {d : DataW H} {p : List MemPlace} (ht : Tryd.prog.underlying t = some (.array n e)) (he : Tryd.prog.underlying e = some (.int k)) (hc : Tryd.prog.cellsOf e = 1) (hct : Tryd.prog.cellsOf t = n)
    (h : DataW.Trod enc Tryd.prog W 0 (fun _ => true) true t (.agg cs) d p) : ∃ F : Nat → Int, cs = rowOf k n F ∧ ∀ i, i < n → (Lit.int k (F i)).wf = true := by
  obtain ⟨fuel, hf⟩ := h
  obtain ⟨F, h1, h2⟩ := arr_raw ht he hc hct hf
  refine ⟨F, ?_, h2⟩
  have h3 : cs.toList = (rowOf k n F).toList := by simpa [Value.cells] using h1
  exact Array.toList_inj.1 h3
/-- a Case: its cells, and its digest in memory -/
def caseC (F : Nat → Int) (leaf : Int) (v : Value) : Array Value := rowOf .u8 32 F ++ #[.int .i64 leaf, v]
theorem caseC_size (F : Nat → Int) (leaf : Int) (v : Value) : (caseC F leaf v).size = 34 := by simp [caseC, rowOf]
theorem case_arg {H : Type} {enc : TypeId × Value → H} {W : World} {cs : Array Value} {d : DataW H} {p : List MemPlace} (h : DataW.Trod enc Tryd.prog W 0 (fun _ => true) true 26 (.agg cs) d p) :
    ∃ F leaf v xs, cs = caseC F leaf v ∧ (∀ i, i < 32 → 0 ≤ F i ∧ F i < 256) ∧ (-9223372036854775808 ≤ leaf ∧ leaf ≤ 9223372036854775807) ∧ BytesIn W v xs ∧ bytesOk xs ∧ (∃ a c, v = .slice a xs.length c) ∧ xs.length ≤ Rows.uptoBulk d ∧
      (∀ ts ds : List _, ∀ j : Nat, ts[j]? = some 26 → ds[j]? = some d → (DataW.weightsEach Tryd.prog ts ds).all (· ≤ reachBytes) = true → xs.length ≤ 140737488351232) := by
  obtain ⟨fuel, hf⟩ := h
  have hf' : DataW.trod enc Tryd.prog W 0 (fun _ => true) true fuel 26 cs.toList = some (d, p) := by simpa [Value.cells] using hf
  obtain ⟨xs, m, _, hx, hlen, hxl, hff⟩ := DataW.trod_struct Tryd.underlying26 hf'
  rw [show Tryd.prog.cellsOf 26 = 34 by kernel_rfl] at hlen
  simp only [List.size_toArray, List.length_cons, List.length_nil] at hxl
  have g : ∀ i, i < 3 → ∃ y, xs[i]? = some y := fun i hi => ⟨xs[i], List.getElem?_eq_getElem (by omega)⟩
  obtain ⟨y0, e0⟩ := g 0 (by omega)
  obtain ⟨y1, e1⟩ := g 1 (by omega)
  obtain ⟨y2, e2⟩ := g 2 (by omega)
  have f0 : DataW.trod enc Tryd.prog W 0 (fun _ => true) true m 23 ((cs.toList.drop 0).take (Tryd.prog.cellsOf 23)) = xs[0]? := hff 0 _ rfl
  have f1 : DataW.trod enc Tryd.prog W 0 (fun _ => true) true m 3 ((cs.toList.drop 32).take (Tryd.prog.cellsOf 3)) = xs[1]? := hff 1 _ rfl
  have f2 : DataW.trod enc Tryd.prog W 0 (fun _ => true) true m 24 ((cs.toList.drop 33).take (Tryd.prog.cellsOf 24)) = xs[2]? := hff 2 _ rfl
  rw [e0, show Tryd.prog.cellsOf 23 = 32 by kernel_rfl] at f0
  rw [e1, show Tryd.prog.cellsOf 3 = 1 by kernel_rfl] at f1
  rw [e2, show Tryd.prog.cellsOf 24 = 1 by kernel_rfl] at f2
  obtain ⟨F, hF, wF⟩ := arr_raw Tryd.underlying23 Tryd.underlying5 (by kernel_rfl) (by kernel_rfl) f0
  obtain ⟨kd, hk, _, wk⟩ := DataW.trod_int Tryd.underlying3 f1
  obtain ⟨bv, bs, hb, hbin, hbok, hbw, hbulk, hdd⟩ := bytes_raw f2
  refine ⟨F, kd, bv, bs, ?_, fun i hi => by have := bounds_u8 (wF i hi); omega, bounds_i64 wk, hbin, hbok, hbw, Nat.le_trans hbulk ?_, fun ts ds j htj hdj hw => ?_⟩
  · apply Array.toList_inj.1
    apply List.ext_getElem?
    intro i
    have hk0 := one_take hk
    have hb0 := one_take hb
    rcases (by omega : i < 32 ∨ i = 32 ∨ i = 33 ∨ 34 ≤ i) with h3 | rfl | rfl | h3
    · have h4 : ((cs.toList.drop 0).take 32)[i]? = (rowOf .u8 32 F).toList[i]? := by rw [hF]
      rw [List.getElem?_take, if_pos h3, List.drop_zero] at h4
      rw [h4]
      unfold caseC
      rw [Array.toList_append, List.getElem?_append_left (by simpa [rowOf] using h3)]
    · rw [hk0]; unfold caseC; rw [Array.toList_append, List.getElem?_append_right (by simp [rowOf])]; simp [rowOf]
    · rw [hb0]; unfold caseC; rw [Array.toList_append, List.getElem?_append_right (by simp [rowOf])]; simp [rowOf]
    · rw [List.getElem?_eq_none (by omega), List.getElem?_eq_none (by rw [Array.length_toList, caseC_size]; omega)]
  · simp only [Prod.mk.injEq] at hx
    rw [hx.1]
    have := bulk_mem (d := y2.1) (l := xs.map (·.1)) (List.mem_map.2 ⟨y2, List.mem_of_getElem? e2, rfl⟩)
    simp only [Rows.uptoBulk]
    omega
  · simp only [Prod.mk.injEq] at hx
    rcases hdd with ⟨_, rfl⟩ | ⟨elems, spare, he, hel⟩
    · simp
    · have h4 : (elems.length + spare.length) * Tryd.prog.bytesOf 5 ∈ y2.1.weights Tryd.prog 24 := by
        rw [he]; simp [DataW.weights, Tryd.underlying24]
      have h5 : (elems.length + spare.length) * Tryd.prog.bytesOf 5 ∈ DataW.weightsEach Tryd.prog [23, 3, 24] (xs.map (·.1)) :=
        DataW.weights_mem_each (j := 2) rfl (by rw [List.getElem?_map, e2]; rfl) _ h4
      have h6 : (elems.length + spare.length) * Tryd.prog.bytesOf 5 ∈ DataW.weightsEach Tryd.prog ts ds :=
        DataW.weights_mem_each htj hdj _ (by rw [hx.1]; simpa [DataW.weights, Tryd.underlying26] using h5)
      have h7 := of_decide_eq_true (List.all_eq_true.1 hw _ h6)
      rw [bytesOfU8, Nat.mul_one, show reachBytes = 140737488351232 from rfl] at h7
      omega
end Go.Proofs.YtlgjeledcnhmnaaDoor
