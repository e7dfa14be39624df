/- coin: a trace that came in as an argument, with bounds out of the bulk. -/
import Derived.Test.YteokgklfljhcaaaGreatDoorRowsArg
import Derived.Test.YteokgklfljhcaaaGreatDoorCnI
namespace Go.Proofs.YteokgklfljhcaaaGreatDoor
open Go.ChangeShapes Go.WideShapes Go.ChangeAt Go.RowKit Go.Proofs
set_option maxRecDepth 100000
set_option linter.unusedSimpArgs false
set_option linter.unusedVariables false
theorem str14_raw {H : Type} {enc : TypeId × Value → H} {W : World} (f : Nat) (cs : List Value) (x : DataW H × List MemPlace) (h : DataW.trod enc Tryz.prog W 0 (fun _ => true) true f 9 cs = some x) :
    ∃ s : ByteArray, cs = [.string s] ∧ s.size ≤ Rows.uptoBulk x.1 := by
  obtain ⟨s, h0, x0, _⟩ := DataW.trod_string Tryz.underlying9 h
  refine ⟨s, h0, ?_⟩
  rw [x0]
  simp only [Rows.uptoBulk, Array.length_toList]
  show s.data.size ≤ _
  omega
theorem strs14_raw {H : Type} {enc : TypeId × Value → H} {W : World} {fuel : Nat} {cs : List Value} {x : DataW H × List MemPlace} (h : DataW.trod enc Tryz.prog W 0 (fun _ => true) true fuel 60 cs = some x) :
    ∃ (ts : List ByteArray) (v : Value), cs = [v] ∧ SsIn W v ts ∧ ts.length ≤ Rows.uptoBulk x.1 ∧ ∀ t ∈ ts, t.size ≤ Rows.uptoBulk x.1 := by
  obtain ⟨ts, a, cap, h1, h2, h3, h4, h5, h6⟩ := rows_raw (n := 1) Tryz.underlying60 (by kernel_rfl) (by omega) (fun s : ByteArray => [Value.string s]) (fun _ => rfl) (fun s k => s.size ≤ k) str14_raw h
  refine ⟨ts, _, h1, ⟨a, cap, rfl, h2, h3, h5.imp id ?_⟩, h4, fun t m => (h6 t m).elim fun k q => Nat.le_trans q.1 q.2⟩
  rintro ⟨ab, ao, rfl, hlt, hx⟩
  exact ⟨ab, ao, rfl, hlt, fun i s hi => by have := hx i s hi 0 (.string s) rfl; simpa using this⟩
theorem trace_argB {H : Type} {enc : TypeId × Value → H} {W : World} {cs : Array Value} {d : DataW H} {p : List MemPlace} (h : DataW.Trod enc Tryz.prog W 0 (fun _ => true) true 62 (.agg cs) d p) :
    ∃ (pv : Value) (b : ByteArray) (t : List ByteArray), cs = trC pv b ∧ SsIn W pv t ∧ t.length ≤ Rows.uptoBulk d ∧ (∀ s ∈ t, s.size ≤ Rows.uptoBulk d) ∧ b.size ≤ Rows.uptoBulk d := by
  obtain ⟨fuel, hf⟩ := h
  have hf' : DataW.trod enc Tryz.prog W 0 (fun _ => true) true fuel 62 cs.toList = some (d, p) := by simpa [Value.cells] using hf
  obtain ⟨xs, m, _, hxe, hlen, hxl, hf2⟩ := DataW.trod_struct Tryz.underlying62 hf'
  rw [show Tryz.prog.cellsOf 62 = 2 by kernel_rfl] at hlen
  simp only [List.size_toArray, List.length_cons, List.length_nil] at hxl
  have g : ∀ i, i < 2 → ∃ y, xs[i]? = some y := fun i hi => ⟨xs[i], List.getElem?_eq_getElem (by omega)⟩
  obtain ⟨y0, e0⟩ := g 0 (by omega)
  obtain ⟨y1, e1⟩ := g 1 (by omega)
  have f0 : DataW.trod enc Tryz.prog W 0 (fun _ => true) true m 60 ((cs.toList.drop 0).take (Tryz.prog.cellsOf 60)) = xs[0]? := hf2 0 _ rfl
  have f1 : DataW.trod enc Tryz.prog W 0 (fun _ => true) true m 9 ((cs.toList.drop 1).take (Tryz.prog.cellsOf 9)) = xs[1]? := hf2 1 _ rfl
  rw [e0, show Tryz.prog.cellsOf 60 = 1 by kernel_rfl] at f0
  rw [e1, show Tryz.prog.cellsOf 9 = 1 by kernel_rfl] at f1
  obtain ⟨t, v, h0, hin, hl, hz⟩ := strs14_raw f0
  obtain ⟨b, h1, hb⟩ := str14_raw _ _ _ f1
  have b0 := bulkAt (l := xs.map (·.1)) (i := 0) (d := y0.1) (by rw [List.getElem?_map, e0]; rfl)
  have b1 := bulkAt (l := xs.map (·.1)) (i := 1) (d := y1.1) (by rw [List.getElem?_map, e1]; rfl)
  have hd : Rows.uptoBulk d = Rows.uptoBulkAll (xs.map (·.1)) + 1 := by
    have : d = .agg (xs.map (·.1)) := (Prod.mk.inj hxe).1
    rw [this]
    simp only [Rows.uptoBulk]
  refine ⟨v, b, t, ?_, hin, by omega, fun s m => by have := hz s m; omega, by omega⟩
  apply Array.toList_inj.1
  have a0 := pvone h0
  have a1 := pvone h1
  show cs.toList = [v, .string b]
  have hl2 : cs.toList.length = 2 := hlen
  match hcs : cs.toList, hl2 with
  | [x, y], _ =>
    rw [hcs] at a0 a1
    simp only [List.getElem?_cons_zero, List.getElem?_cons_succ, Option.some.injEq] at a0 a1
    rw [a0, a1]
theorem strs14_rawW {H : Type} {enc : TypeId × Value → H} {W : World} {fuel : Nat} {cs : List Value} {x : DataW H × List MemPlace} (h : DataW.trod enc Tryz.prog W 0 (fun _ => true) true fuel 60 cs = some x) :
    ∃ (ts : List ByteArray) (v : Value), cs = [v] ∧ SsIn W v ts ∧ ∀ b, (∀ n ∈ x.1.weights Tryz.prog 60, n ≤ b) → ts.length * 16 ≤ b ∧ ∀ s ∈ ts, s.size ≤ b := by
  rcases Deep.open_slice Tryz.underlying60 h with ⟨hcs, hx⟩ | ⟨ad, l, c, m, f, D, Pl, hcs, _, hl, hm, hmm, hx, hel⟩
  · exact ⟨[], _, hcs, ss_nil W, fun b _ => ⟨by simp, by simp⟩⟩
  · simp only [if_true] at hmm
    subst hx
    rw [show Tryz.prog.cellsOf 9 = 1 by kernel_rfl] at hel
    have key : ∀ i, i < l → ∃ s : ByteArray, W.cell? (ad.add i) = some (.string s) ∧ D i = .lit (.string s.data.toList) := by
      intro i hi
      obtain ⟨cs', h1, h2⟩ := hel i (by omega)
      obtain ⟨_, hlen, hcell⟩ := World.cells?_some h1
      obtain ⟨s, h0, x0, _⟩ := DataW.trod_string Tryz.underlying9 h2
      subst h0
      refine ⟨s, ?_, (Prod.mk.inj x0).1⟩
      have := hcell 0 (by omega)
      rw [Nat.mul_one] at this
      simpa [Addr.add] using this
    obtain ⟨F, hF⟩ := Deep.choose_lt key
    have hget : ∀ (i : Nat) (t : ByteArray), ((List.range l).map F)[i]? = some t → i < l ∧ F i = t := fun i t hi => by
      have hil : i < l := by have := (List.getElem?_eq_some_iff.1 hi).1; simpa using this
      rw [List.getElem?_map, List.getElem?_range hil] at hi
      cases hi; exact ⟨hil, rfl⟩
    refine ⟨(List.range l).map F, _, hcs, ⟨some ad, c, by simp, by simpa using hl, by simp; omega, ?_⟩, fun b hb => ?_⟩
    · by_cases hl0 : l = 0
      · left; subst hl0; rfl
      · right
        obtain ⟨bk, off, spot⟩ := ad
        have h0 := (hF 0 (by omega)).1
        have hspot : spot = none := by simpa [Addr.add] using World.cell?_spot h0
        subst hspot
        refine ⟨bk, off, rfl, by simpa [Addr.add] using World.block_lt_of_cell? _ _ h0, fun i t hi => ?_⟩
        obtain ⟨hil, rfl⟩ := hget i t hi
        have := (hF i hil).1
        rwa [Addr.add_mid] at this
    · simp only [DataW.weights, Tryz.underlying60] at hb
      rw [show Tryz.prog.bytesOf 9 = 16 by kernel_rfl] at hb
      refine ⟨?_, fun s hs => ?_⟩
      · have := hb _ List.mem_cons_self
        simp only [List.length_map, List.length_range] at this ⊢
        omega
      · obtain ⟨i, hi, rfl⟩ := List.mem_map.1 hs
        have hil := List.mem_range.1 hi
        have hm : (F i).data.toList.length ∈ DataW.weightsAll Tryz.prog 9 ((List.range l).map D) := by
          have hD : D i ∈ (List.range l).map D := List.mem_map.2 ⟨i, hi, rfl⟩
          have hw : ∀ {L : List (DataW H)} {d : DataW H}, d ∈ L → ∀ n ∈ d.weights Tryz.prog 9, n ∈ DataW.weightsAll Tryz.prog 9 L := by
            intro L
            induction L with
            | nil => intro d hd; cases hd
            | cons x r ih =>
              intro d hd n hn
              simp only [DataW.weightsAll]
              rcases List.mem_cons.1 hd with rfl | hd
              · exact List.mem_append_left _ hn
              · exact List.mem_append_right _ (ih hd n hn)
          exact hw hD _ (by rw [(hF i hil).2]; simp [DataW.weights])
        have := hb _ (List.mem_cons_of_mem _ (List.mem_append_left _ hm))
        rw [size14] at this
        exact this
theorem trace_arg {H : Type} {enc : TypeId × Value → H} {W : World} {cs : Array Value} {d : DataW H} {p : List MemPlace} (h : DataW.Trod enc Tryz.prog W 0 (fun _ => true) true 62 (.agg cs) d p) :
    ∃ (pv : Value) (b : ByteArray) (t : List ByteArray), cs = trC pv b ∧ SsIn W pv t ∧ (∀ us ds : List _, ∀ j : Nat, us[j]? = some 62 → ds[j]? = some d → (DataW.weightsEach Tryz.prog us ds).all (· ≤ reachBytes) = true → t.length * 16 ≤ 140737488351232 ∧ (∀ s ∈ t, s.size ≤ 140737488351232) ∧ b.size ≤ 140737488351232) := by
  obtain ⟨fuel, hf⟩ := h
  have hf' : DataW.trod enc Tryz.prog W 0 (fun _ => true) true fuel 62 cs.toList = some (d, p) := by simpa [Value.cells] using hf
  obtain ⟨xs, m, _, hxe, hlen, hxl, hf2⟩ := DataW.trod_struct Tryz.underlying62 hf'
  rw [show Tryz.prog.cellsOf 62 = 2 by kernel_rfl] at hlen
  simp only [List.size_toArray, List.length_cons, List.length_nil] at hxl
  have g : ∀ i, i < 2 → ∃ y, xs[i]? = some y := fun i hi => ⟨xs[i], List.getElem?_eq_getElem (by omega)⟩
  obtain ⟨y0, e0⟩ := g 0 (by omega)
  obtain ⟨y1, e1⟩ := g 1 (by omega)
  have f0 : DataW.trod enc Tryz.prog W 0 (fun _ => true) true m 60 ((cs.toList.drop 0).take (Tryz.prog.cellsOf 60)) = xs[0]? := hf2 0 _ rfl
  have f1 : DataW.trod enc Tryz.prog W 0 (fun _ => true) true m 9 ((cs.toList.drop 1).take (Tryz.prog.cellsOf 9)) = xs[1]? := hf2 1 _ rfl
  rw [e0, show Tryz.prog.cellsOf 60 = 1 by kernel_rfl] at f0
  rw [e1, show Tryz.prog.cellsOf 9 = 1 by kernel_rfl] at f1
  obtain ⟨t, v, h0, hin, hw⟩ := strs14_rawW f0
  obtain ⟨b, h1, x1, _⟩ := DataW.trod_string Tryz.underlying9 f1
  have hx := Prod.mk.inj hxe
  refine ⟨v, b, t, ?_, hin, fun us ds j htj hdj hwt => ?_⟩
  · apply Array.toList_inj.1
    have a0 := pvone h0
    have a1 := pvone h1
    show cs.toList = [v, .string b]
    have hl2 : cs.toList.length = 2 := hlen
    match hcs : cs.toList, hl2 with
    | [x, y], _ =>
      rw [hcs] at a0 a1
      simp only [List.getElem?_cons_zero, List.getElem?_cons_succ, Option.some.injEq] at a0 a1
      rw [a0, a1]
  · have all : ∀ n ∈ d.weights Tryz.prog 62, n ≤ 140737488351232 := fun n hn => of_decide_eq_true (List.all_eq_true.1 hwt _ (DataW.weights_mem_each htj hdj _ hn))
    rw [hx.1] at all
    simp only [DataW.weights, Tryz.underlying62] at all
    obtain ⟨h2, h3⟩ := hw 140737488351232 fun n hn => all _ (DataW.weights_mem_each (j := 0) (t := 60) rfl (by rw [List.getElem?_map, e0]; rfl) _ hn)
    refine ⟨h2, h3, ?_⟩
    have h4 : b.data.toList.length ∈ y1.1.weights Tryz.prog 9 := by rw [x1]; simp [DataW.weights]
    have h6 := all _ (DataW.weights_mem_each (j := 1) (t := 9) rfl (by rw [List.getElem?_map, e1]; rfl) _ h4)
    rw [size14] at h6
    exact h6
end Go.Proofs.YteokgklfljhcaaaGreatDoor
