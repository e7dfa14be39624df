/- Part 26 of the proof. -/
import Derived.ProofKit
import Derived.OpenShut
import Derived.Deep.Slices
import Derived.SizedLaws
import Derived.Deep.DeepCutAuto
import Derived.Test.YtjnpcmfpiejmjaaGreatDoorVo1
import Derived.Test.YtjnpcmfpiejmjaaGreatDoorVo5
import Derived.Test.YtjnpcmfpiejmjaaGreatDoorVo25
namespace Go.Proofs.YtjnpcmfpiejmjaaGreatDoor
set_option linter.unusedVariables false
set_option linter.unusedSimpArgs false
open Go.ChangeShapes Go.WideShapes Go.ChangeAt Go.RowKit
theorem cellsU8 : Tryz.prog.cellsOf 5 = 1 := by kernel_rfl
theorem bytesOfU8 : Tryz.prog.bytesOf 5 = 1 := by kernel_rfl
/-- each value counts one at least -/
theorem bulk_one {H : Type} (d : DataW H) : 1 ≤ Rows.uptoBulk d := by
  cases d with
  | lit l => cases l <;> simp [Rows.uptoBulk]
  | _ => simp [Rows.uptoBulk]
theorem bulk_len {H : Type} : ∀ l : List (DataW H), l.length ≤ Rows.uptoBulkAll l
  | [] => by simp
  | d :: r => by
    have h1 := bulk_one d
    have h2 := bulk_len r
    simp only [Rows.uptoBulkAll, List.length_cons]
    omega
theorem bulk_mem {H : Type} {d : DataW H} : ∀ {l : List (DataW H)}, d ∈ l → Rows.uptoBulk d ≤ Rows.uptoBulkAll l
  | e :: r, h => by
    simp only [Rows.uptoBulkAll]
    rcases List.mem_cons.1 h with rfl | h
    · omega
    · have := bulk_mem h; omega
/-- a slice of bytes that came in -/
theorem bytes_raw {H : Type} {enc : TypeId × Value → H} {W : World} {fuel : Nat} {cs : List Value} {x : DataW H × List MemPlace} (h : DataW.trod enc Tryz.prog W 0 (fun _ => true) true fuel 23 cs = some x) :
    ∃ v xs, cs = [v] ∧ BytesIn W v xs ∧ bytesOk xs ∧ (∃ a c, v = .slice a xs.length c) ∧ xs.length ≤ Rows.uptoBulk x.1 ∧ (x.1 = .nil ∧ xs = [] ∨ ∃ elems spare, x.1 = .slice elems spare ∧ elems.length = xs.length) := by
  rcases open_ints Tryz.underlying23 Tryz.underlying5 (by kernel_rfl) h with ⟨hcs, hx⟩ | ⟨a, l, c, zs, hcs, _, hl, hm, hz, hx, hcell, hwz⟩
  · exact ⟨_, [], hcs, ⟨_, _, rfl, by simp, by simp [maxLen], .inl rfl⟩, (by intro x hx; cases hx), ⟨_, _, rfl⟩, by simp, .inl ⟨by rw [hx], rfl⟩⟩
  · simp only [if_true] at hz
    have hlen : (zs.take l).length = l := by rw [List.length_take]; omega
    refine ⟨_, zs.take l, hcs, ⟨some a, c, by rw [hlen], by rw [hlen]; exact hl, by rw [hlen]; omega, ?_⟩, fun y hy => ?_, ⟨some a, c, by rw [hlen]⟩, ?_, ?_⟩
    · by_cases hl0 : l = 0
      · left; subst hl0; simp
      · right
        obtain ⟨b, off, spot⟩ := a
        have hspot : spot = none := by simpa [Addr.add] using World.cell?_spot (hcell 0 (by omega))
        subst hspot
        refine ⟨b, off, rfl, fun i y hi => ?_⟩
        have hil : i < l := by have := (List.getElem?_eq_some_iff.1 hi).1; omega
        rw [List.getElem?_take, if_pos hil] at hi
        have := hcell i (by omega)
        rw [Addr.add_mid] at this
        rw [this]
        simp [List.getD, hi]
    · have h2 := bounds_u8 (hwz y (List.mem_of_mem_take hy))
      omega
    · rw [hx]
      have h1 := bulk_len (lits (H := H) IntKind.u8 (zs.take l))
      simp only [lits, List.length_map] at h1
      simp only [Rows.uptoBulk, lits]
      omega
    · rw [hx]
      exact .inr ⟨_, _, rfl, by simp [lits]⟩
/-- a slice of bytes that came in -/
theorem bytes_arg {H : Type} {enc : TypeId × Value → H} {W : World} {a : Option Addr} {len cap : Nat} {d : DataW H} {p : List MemPlace} (h : DataW.Trod enc Tryz.prog W 0 (fun _ => true) true 23 (.slice a len cap) d p) :
    ∃ xs : List Int, xs.length = len ∧ BytesIn W (.slice a len cap) xs ∧ bytesOk xs ∧ (∀ ts ds : List _, ∀ j : Nat, ts[j]? = some 23 → ds[j]? = some d → (DataW.weightsEach Tryz.prog ts ds).all (· ≤ reachBytes) = true → len ≤ 140737488351232) := by
  obtain ⟨fuel, hf⟩ := h
  obtain ⟨v, xs, hcs, hin, hok, ⟨a', c', hv⟩, _, hd⟩ := bytes_raw hf
  simp only [Value.cells] at hcs
  obtain rfl : Value.slice a len cap = v := by simpa using hcs
  injection hv with e1 e2 e3
  refine ⟨xs, e2.symm, hin, hok, fun ts ds j ht hdj hw => ?_⟩
  rcases hd with ⟨_, rfl⟩ | ⟨elems, spare, he, hel⟩
  · simp at e2; omega
  · simp only at he
    rw [he] at hdj
    have := sized_slice hw (j := j) (t := 23) (e := 5) ht hdj Tryz.underlying23
    rw [bytesOfU8] at this
    simp only [reachBytes] at this
    omega
theorem bytes_argB {H : Type} {enc : TypeId × Value → H} {W : World} {a : Option Addr} {len cap : Nat} {d : DataW H} {p : List MemPlace} (h : DataW.Trod enc Tryz.prog W 0 (fun _ => true) true 23 (.slice a len cap) d p) :
    ∃ xs : List Int, xs.length = len ∧ BytesIn W (.slice a len cap) xs ∧ bytesOk xs ∧ len ≤ Rows.uptoBulk d := by
  obtain ⟨fuel, hf⟩ := h
  obtain ⟨v, xs, hcs, hin, hok, ⟨a', c', hv⟩, hbulk, hd⟩ := bytes_raw hf
  simp only [Value.cells] at hcs
  obtain rfl : Value.slice a len cap = v := by simpa using hcs
  injection hv with e1 e2 e3
  exact ⟨xs, e2.symm, hin, hok, by rw [e2]; exact hbulk⟩
/-- a slice of slices of bytes -/
def BssIn (w : World) (v : Value) (ps : List (List Int)) : Prop :=
  ∃ a c, v = .slice a ps.length c ∧ ps.length ≤ c ∧ ps.length ≤ maxLen ∧ (ps = [] ∨ ∃ ab ao, a = some ⟨ab, ao, none⟩ ∧ ∀ i p, ps[i]? = some p → ∃ u, w.cell? ⟨ab, ao + i, none⟩ = some u ∧ BytesIn w u p)
theorem BssIn.below {w w' : World} {v : Value} {ps : List (List Int)} (h : BssIn w v ps) (hb : Below w.heap.size w w') : BssIn w' v ps := by
  obtain ⟨a, c, rfl, hc, hm, hx⟩ := h
  refine ⟨a, c, rfl, hc, hm, ?_⟩
  rcases hx with hx | ⟨ab, ao, rfl, hx⟩
  · exact .inl hx
  · refine .inr ⟨ab, ao, rfl, fun i p hi => ?_⟩
    obtain ⟨u, hu, hp⟩ := hx i p hi
    exact ⟨u, (hb.cell (p := ⟨ab, ao + i, none⟩) (World.block_lt_of_cell? w _ hu)).trans hu, hp.below hb⟩
theorem cellsBs : Tryz.prog.cellsOf 23 = 1 := by kernel_rfl
theorem weights_all_mem {H : Type} {P : Program} {e : TypeId} : ∀ {l : List (DataW H)} {d : DataW H}, d ∈ l → ∀ n ∈ d.weights P e, n ∈ DataW.weightsAll P e l
  | x :: r, d, h, n, hn => by
    simp only [DataW.weightsAll]
    rcases List.mem_cons.1 h with rfl | h
    · exact List.mem_append_left _ hn
    · exact List.mem_append_right _ (weights_all_mem h n hn)
/-- a slice of slices of bytes that came in -/
theorem bytess_arg {H : Type} {enc : TypeId × Value → H} {W : World} {a : Option Addr} {len cap : Nat} {d : DataW H} {p : List MemPlace} (h : DataW.Trod enc Tryz.prog W 0 (fun _ => true) true 56 (.slice a len cap) d p) :
    ∃ ps : List (List Int), ps.length = len ∧ BssIn W (.slice a len cap) ps ∧ (∀ p ∈ ps, bytesOk p) ∧ (∀ p ∈ ps, p.length ≤ Rows.uptoBulk d) ∧
      (∀ ts ds : List _, ∀ j : Nat, ts[j]? = some 56 → ds[j]? = some d → (DataW.weightsEach Tryz.prog ts ds).all (· ≤ reachBytes) = true → ∀ p ∈ ps, p.length ≤ 140737488351232) := by
  obtain ⟨fuel, hf⟩ := h
  rcases Deep.open_slice Tryz.underlying56 hf with ⟨hcs, hx⟩ | ⟨x, l, c, m, n, D, Pl, hcs, _, hl, hm, hmm, hx, hel⟩
  · simp [Value.cells] at hcs
    obtain ⟨rfl, rfl, rfl⟩ := hcs
    exact ⟨[], rfl, ⟨_, _, rfl, by simp, by simp [maxLen], .inl rfl⟩, by simp, by simp, fun _ _ _ _ _ _ => by simp⟩
  · simp [Value.cells] at hcs
    obtain ⟨rfl, rfl, rfl⟩ := hcs
    simp only [if_true] at hmm
    simp only [Prod.mk.injEq] at hx
    obtain ⟨rfl, _⟩ := hx
    have key : ∀ i, i < len → ∃ t : Value × List Int, W.cell? (x.add i) = some t.1 ∧ BytesIn W t.1 t.2 ∧ bytesOk t.2 ∧ t.2.length ≤ Rows.uptoBulk (D i) ∧ (D i = .nil ∧ t.2 = [] ∨ ∃ elems spare, D i = .slice elems spare ∧ elems.length = t.2.length) := by
      intro i hi
      obtain ⟨cs', h1, h2⟩ := hel i (by omega)
      rw [cellsBs] at h1
      obtain ⟨_, hlen, hcell⟩ := World.cells?_some h1
      obtain ⟨v, xs, rfl, hin, hok, _, hbulk, hd⟩ := bytes_raw h2
      refine ⟨(v, xs), ?_, hin, hok, hbulk, hd⟩
      have := hcell 0 (by omega)
      rw [Nat.mul_one] at this
      simpa [Addr.add] using this
    obtain ⟨F, hF⟩ := Deep.choose_lt key
    have hget : ∀ (i : Nat) (t : List Int), ((List.range len).map fun i => (F i).2)[i]? = some t → i < len ∧ (F i).2 = t := fun i t hi => by
      have hil : i < len := by have := (List.getElem?_eq_some_iff.1 hi).1; simpa using this
      rw [List.getElem?_map, List.getElem?_range hil] at hi
      cases hi; exact ⟨hil, rfl⟩
    have hDm : ∀ i, i < len → D i ∈ (List.range len).map D := fun i hi => List.mem_map.2 ⟨i, List.mem_range.2 hi, rfl⟩
    refine ⟨(List.range len).map fun i => (F i).2, by simp, ⟨some x, cap, by simp, by simp; omega, by simp; omega, ?_⟩, fun t ht => ?_, fun t ht => ?_, fun ts ds j htj hdj hw t ht => ?_⟩
    · by_cases hl0 : len = 0
      · left; subst hl0; rfl
      · right
        obtain ⟨b, off, spot⟩ := x
        have h0 := (hF 0 (by omega)).1
        have hspot : spot = none := by simpa [Addr.add] using World.cell?_spot h0
        subst hspot
        refine ⟨b, off, rfl, fun i t hi => ?_⟩
        obtain ⟨hil, rfl⟩ := hget i t hi
        have := (hF i hil).1
        rw [Addr.add_mid] at this
        exact ⟨_, this, (hF i hil).2.1⟩
    · obtain ⟨i, hi, rfl⟩ := List.mem_map.1 ht
      exact (hF i (List.mem_range.1 hi)).2.2.1
    · obtain ⟨i, hi, rfl⟩ := List.mem_map.1 ht
      have h1 := (hF i (List.mem_range.1 hi)).2.2.2.1
      have h2 := bulk_mem (hDm i (List.mem_range.1 hi))
      simp only [Rows.uptoBulk]
      omega
    · obtain ⟨i, hi, rfl⟩ := List.mem_map.1 ht
      rcases (hF i (List.mem_range.1 hi)).2.2.2.2 with ⟨_, h2⟩ | ⟨elems, spare, h2, h3⟩
      · simp only [h2, List.length_nil]; omega
      · have h4 : (elems.length + spare.length) * Tryz.prog.bytesOf 5 ∈ (D i).weights Tryz.prog 23 := by
          rw [h2]; simp [DataW.weights, Tryz.underlying23]
        have h5 := weights_all_mem (hDm i (List.mem_range.1 hi)) _ h4
        have h6 : (elems.length + spare.length) * Tryz.prog.bytesOf 5 ∈ DataW.weightsEach Tryz.prog ts ds :=
          DataW.weights_mem_each htj hdj _ (by simp only [DataW.weights, Tryz.underlying56]; exact List.mem_cons_of_mem _ (List.mem_append_left _ h5))
        have h7 := of_decide_eq_true (List.all_eq_true.1 hw _ h6)
        rw [bytesOfU8, Nat.mul_one, show reachBytes = 140737488351232 from rfl] at h7
        omega
end Go.Proofs.YtjnpcmfpiejmjaaGreatDoor
namespace Go.Proofs.YtjnpcmfpiejmjaaGreatDoor
set_option linter.unusedVariables false
set_option linter.unusedSimpArgs false
open Go.ChangeShapes Go.WideShapes Go.ChangeAt Go.RowKit
theorem okWide_arr {P : Program} {w : World} {r : Reach} {base : Nat} {t e : TypeId} {n : Nat} {v : Value} (ht : P.underlying t = some (.array n e)) (h : Value.okWide P w r base t v) : ∃ cs, v = .agg cs ∧ cs.size = P.cellsOf t := by
  simp only [Value.okWide, ht] at h
  obtain ⟨cs, h1, h2, _⟩ := h
  exact ⟨cs, h1, h2⟩
theorem one_take {α : Type} {l : List α} {k : Nat} {v : α} (h : (l.drop k).take 1 = [v]) : l[k]? = some v := by
  have h1 : ((l.drop k).take 1)[0]? = some v := by rw [h]; rfl
  rw [List.getElem?_take, if_pos (by omega), List.getElem?_drop, Nat.add_zero] at h1
  exact h1
theorem arr_raw {H : Type} {enc : TypeId × Value → H} {W : World} {t e : TypeId} {k : IntKind} {n fuel : Nat} {cs : List Value} {x : DataW H × List MemPlace} (ht : Tryz.prog.underlying t = some (.array n e)) (he : Tryz.prog.underlying e = some (.int k)) (hc : Tryz.prog.cellsOf e = 1) (hct : Tryz.prog.cellsOf t = n)
    (h : DataW.trod enc Tryz.prog W 0 (fun _ => true) true fuel t cs = some x) : ∃ F : Nat → Int, cs = (rowOf k n F).toList ∧ ∀ i, i < n → (Lit.int k (F i)).wf = true := by
  obtain ⟨zs, m', _, _, hl, hzl, hzs⟩ := DataW.trod_array ht h
  have key : ∃ F : Nat → Int, ∀ j, j < n → cs[j]? = some (.int k (F j)) ∧ (Lit.int k (F j)).wf = true := by
    refine Deep.choose_lt (p := fun j v => cs[j]? = some (.int k v) ∧ (Lit.int k v).wf = true) fun j hj => ?_
    have h3 := hzs j hj
    rw [hc, Nat.mul_one, List.getElem?_eq_getElem (by omega)] at h3
    obtain ⟨v, hv, _, hw⟩ := DataW.trod_int he h3
    exact ⟨v, one_take hv, hw⟩
  obtain ⟨F, hF⟩ := key
  refine ⟨F, ?_, fun i hi => (hF i hi).2⟩
  apply List.ext_getElem?
  intro i
  rcases Nat.lt_or_ge i n with h1 | h1
  · rw [(hF i h1).1]; simp [rowOf, h1]
  · rw [List.getElem?_eq_none (by rw [hl, hct]; exact h1), List.getElem?_eq_none (by simpa [rowOf] using h1)]
theorem arr_arg {H : Type} {enc : TypeId × Value → H} {W : World} {t e : TypeId} {k : IntKind} {n : Nat} {cs : Array Value} {d : DataW H} {p : List MemPlace} (ht : Tryz.prog.underlying t = some (.array n e)) (he : Tryz.prog.underlying e = some (.int k)) (hc : Tryz.prog.cellsOf e = 1) (hct : Tryz.prog.cellsOf t = n)
    (h : DataW.Trod enc Tryz.prog W 0 (fun _ => true) true t (.agg cs) d p) : ∃ F : Nat → Int, cs = rowOf k n F ∧ ∀ i, i < n → (Lit.int k (F i)).wf = true := by
  obtain ⟨fuel, hf⟩ := h
  obtain ⟨F, h1, h2⟩ := arr_raw ht he hc hct hf
  refine ⟨F, ?_, h2⟩
  have h3 : cs.toList = (rowOf k n F).toList := by simpa [Value.cells] using h1
  exact Array.toList_inj.1 h3
end Go.Proofs.YtjnpcmfpiejmjaaGreatDoor
namespace Go.Proofs.YtjnpcmfpiejmjaaGreatDoor
set_option linter.unusedVariables false
set_option linter.unusedSimpArgs false
open Go.RowKit
set_option maxRecDepth 100000
end Go.Proofs.YtjnpcmfpiejmjaaGreatDoor
namespace Go.Proofs.YtjnpcmfpiejmjaaGreatDoor
set_option linter.unusedVariables false
set_option linter.unusedSimpArgs false
open Go.RowKit
set_option maxRecDepth 100000
variable {w w' : World} {F : Nat → Int} {leaf : Int} {v vo : Value} {xs ys : List Int}
theorem wpList_load_rowmid {ops : Array Oper} {rest : List Oper} {op : Oper} {a : Act} {w : World} {Q : Exit → Act → World → Prop} (hgd : op.guard = none) (ty : TypeId) (x : Operand) (ho : op.op = .load ty x)
    (b o : Nat) (hx : a.eval x = .pointer (some ⟨b, o, none⟩)) (k : IntKind) (n : Nat) (f : Nat → Int) (d : TypeDesc) (hc : w.rangeAt b o (rowOf k n f).toList)
    (hu : Tryz.prog.underlying ty = some d) (hd : d.isRow = true) (hi : (Tryz.prog.info? ty).map (·.size) = some n)
    (h : wpList Tryz.prog ops Q rest (a.put op.dst (.agg (rowOf k n f))) w) : wpList Tryz.prog ops Q (op :: rest) a w :=
  wpList_load_mid hgd ty x ho b o hx (rowOf k n f).toList d hc hu hd (by rw [hi]; simp [rowOf]) (by simpa using h)
end Go.Proofs.YtjnpcmfpiejmjaaGreatDoor
namespace Go.Proofs.YtjnpcmfpiejmjaaGreatDoor
set_option linter.unusedVariables false
set_option linter.unusedSimpArgs false
open Go.RowKit
set_option maxRecDepth 100000
def digR (text : List Int) (n : Int) : List Int × Option Nat := if 1 ≤ n ∧ n ≤ 32 then (digestF text n.toNat, none) else ([], some 1)
theorem wdigest_any (v : Value) (xs : List Int) (n : Int) (w : World) (hx : BytesIn w v xs) (he : Env w) :
    Calls Tryz.prog 174 #[v, .int .i64 n] w fun e w' => ∃ v', e = .returned (.tuple #[v', errV (digR xs n).2]) ∧ BytesIn w' v' (digR xs n).1 ∧ Below w.heap.size w w' := by
  unfold digR
  by_cases h : 1 ≤ n ∧ n ≤ 32
  · rw [if_pos h]
    obtain ⟨k, rfl⟩ : ∃ k : Nat, n = (k : Int) := ⟨n.toNat, by omega⟩
    exact wdigest_ok v xs k w hx he (by omega)
  · rw [if_neg h]
    exact (wdigest_no v n w (by omega)).mono fun _ _ ⟨h1, h2⟩ => ⟨_, h1, nil_in _, by subst h2; exact Below.refl _ _⟩
theorem rdigest_any (v : Value) (xs : List Int) (n : Int) (w : World) (hx : BytesIn w v xs) (hl : xs.length + 81 ≤ 140737488355328) :
    Calls Tryz.prog 140 #[v, .int .i64 n] w fun e w' => ∃ v', e = .returned (.tuple #[v', .int .i64 (numE (digR xs n).2)]) ∧ BytesIn w' v' (digR xs n).1 ∧ Below w.heap.size w w' := by
  unfold digR
  by_cases h : 1 ≤ n ∧ n ≤ 32
  · rw [if_pos h]
    obtain ⟨k, rfl⟩ : ∃ k : Nat, n = (k : Int) := ⟨n.toNat, by omega⟩
    exact rdigest_ok v xs k w hx hl (by omega)
  · rw [if_neg h]
    exact (rdigest_no v n w (by omega)).mono fun _ _ ⟨h1, h2⟩ => ⟨_, h1, nil_in _, by subst h2; exact Below.refl _ _⟩
def pubR (seed : Nat → Int) (leaf : Int) (n : Nat) : (Nat → Int) × Option Nat := if 0 ≤ leaf ∧ leaf < 1024 ∧ 1 ≤ n ∧ n ≤ 32 then (pubF seed leaf n, none) else (zF, some 1)
def signR (seed : Nat → Int) (leaf : Int) (xs : List Int) : List Int × Option Nat := if 0 ≤ leaf ∧ leaf < 1024 ∧ 1 ≤ xs.length ∧ xs.length ≤ 32 then (signF seed leaf xs, none) else ([], some 1)
def dR (xs : List Int) : List Nat := if 1 ≤ xs.length ∧ xs.length ≤ 32 then digF xs else []
theorem dR_length (xs : List Int) : (dR xs).length ≤ 67 := by
  unfold dR
  split
  · rw [digF_length]; omega
  · simp
theorem wdigits_any (v : Value) (xs : List Int) (w : World) (hx : BytesIn w v xs) (hb : bytesOk xs) :
    Calls Tryz.prog 192 #[v] w fun e w' => ∃ v', e = .returned v' ∧ IntsIn w' v' (natInts (dR xs)) ∧ Below w.heap.size w w' := by
  unfold dR
  by_cases h : 1 ≤ xs.length ∧ xs.length ≤ 32
  · rw [if_pos h]
    exact (wdigits_ok v xs w hx hb h.1 h.2).mono fun _ _ ⟨v', h1, h2, h3⟩ => ⟨v', h1, owns_ints h2 (by rw [natInts_length, digF_length]; unfold maxLen; omega), h3⟩
  · rw [if_neg h]
    obtain ⟨a, c, rfl, -⟩ := hx
    exact (wdigits_no a xs.length c w (by omega)).mono fun _ _ ⟨h1, h2⟩ => ⟨_, h1, ints_nil _, by subst h2; exact Below.refl _ _⟩
theorem rdigits_any (v : Value) (xs : List Int) (w : World) (hx : BytesIn w v xs) (hb : bytesOk xs) :
    Calls Tryz.prog 179 #[v] w fun e w' => ∃ v', e = .returned v' ∧ IntsIn w' v' (natInts (dR xs)) ∧ Below w.heap.size w w' := by
  unfold dR
  by_cases h : 1 ≤ xs.length ∧ xs.length ≤ 32
  · rw [if_pos h]
    exact (rdigits_ok v xs w hx hb h.1 h.2).mono fun _ _ ⟨v', h1, h2, h3⟩ => ⟨v', h1, owns_ints h2 (by rw [natInts_length, digF_length]; unfold maxLen; omega), h3⟩
  · rw [if_neg h]
    obtain ⟨a, c, rfl, -⟩ := hx
    exact (rdigits_no a xs.length c w (by omega)).mono fun _ _ ⟨h1, h2⟩ => ⟨_, h1, ints_nil _, by subst h2; exact Below.refl _ _⟩
theorem wlen_any (xs : List Int) (n : Nat) (hn : n = xs.length) (w : World) : Calls Tryz.prog 190 #[.int .i64 (n : Int)] w fun e w' => e = .returned (.int .i64 (((dR xs).length : Nat) : Int)) ∧ w = w' := by
  subst hn
  unfold dR
  by_cases h : 1 ≤ xs.length ∧ xs.length ≤ 32
  · rw [if_pos h]
    refine (wlen_ok xs.length w h.1 h.2).mono fun _ _ ⟨h1, h2⟩ => ⟨?_, h2⟩
    rw [h1, digF_length, show ((2 * xs.length + 3 : Nat) : Int) = 2 * (xs.length : Int) + 3 by omega]
  · rw [if_neg h]
    exact (wlen_no (xs.length : Int) w (by omega)).mono fun _ _ ⟨h1, h2⟩ => ⟨h1, h2⟩
variable {w w' : World} {F : Nat → Int} {leaf : Int} {v vo : Value} {xs ys : List Int} {bs : List (Value × List Int)} {rs : List (Nat × (Nat → Int))}
end Go.Proofs.YtjnpcmfpiejmjaaGreatDoor
namespace Go.Proofs.YtjnpcmfpiejmjaaGreatDoor
set_option linter.unusedVariables false
set_option linter.unusedSimpArgs false
open Go.RowKit
set_option maxRecDepth 100000
def fromR (ss : List Int) (leaf : Int) (xs : List Int) : (Nat → Int) × Option Nat :=
  if 0 ≤ leaf ∧ leaf < 1024 ∧ 1 ≤ xs.length ∧ xs.length ≤ 32 then (if ss.length = 32 * (2 * xs.length + 3) then (fromF ss leaf xs, none) else (zF, some 2)) else (zF, some 1)
theorem wfrom_any (vs : Value) (ss : List Int) (leaf : Int) (v : Value) (xs : List Int) (w : World) (he : Env w) (hs : BytesIn w vs ss) (hx : BytesIn w v xs) (hb : bytesOk xs) :
    Calls Tryz.prog 175 #[vs, .int .i64 leaf, v] w fun e w' => e = .returned (.tuple #[.agg (rowOf .u8 32 (fromR ss leaf xs).1), errV (fromR ss leaf xs).2]) ∧ Below w.heap.size w w' := by
  unfold fromR
  by_cases h : 0 ≤ leaf ∧ leaf < 1024 ∧ 1 ≤ xs.length ∧ xs.length ≤ 32
  · rw [if_pos h]
    by_cases h2 : ss.length = 32 * (2 * xs.length + 3)
    · rw [if_pos h2]
      exact wfrom_ok vs ss leaf v xs w he ⟨h.1, h.2.1⟩ hs hx hb h.2.2 h2
    · rw [if_neg h2]
      obtain ⟨a, c, rfl, -⟩ := hx
      obtain ⟨a', c', rfl, -⟩ := hs
      exact wfrom_long a' ss.length c' leaf a xs.length c w ⟨h.1, h.2.1⟩ h.2.2 h2
  · rw [if_neg h]
    obtain ⟨a, c, rfl, -⟩ := hx
    exact wfrom_no vs leaf a xs.length c w h
theorem rfrom_any (vs : Value) (ss : List Int) (leaf : Int) (v : Value) (xs : List Int) (w : World) (hs : BytesIn w vs ss) (hx : BytesIn w v xs) (hb : bytesOk xs) :
    Calls Tryz.prog 141 #[vs, .int .i64 leaf, v] w fun e w' => e = .returned (.tuple #[.agg (rowOf .u8 32 (fromR ss leaf xs).1), .int .i64 (numE (fromR ss leaf xs).2)]) ∧ Below w.heap.size w w' := by
  unfold fromR
  by_cases h : 0 ≤ leaf ∧ leaf < 1024 ∧ 1 ≤ xs.length ∧ xs.length ≤ 32
  · rw [if_pos h]
    by_cases h2 : ss.length = 32 * (2 * xs.length + 3)
    · rw [if_pos h2]
      exact rfrom_ok vs ss leaf v xs w ⟨h.1, h.2.1⟩ hs hx hb h.2.2 h2
    · rw [if_neg h2]
      obtain ⟨a', c', rfl, -⟩ := hs
      exact rfrom_long a' ss.length c' leaf v xs w ⟨h.1, h.2.1⟩ hx hb h.2.2 h2
  · rw [if_neg h]
    obtain ⟨a, c, rfl, -⟩ := hx
    exact rfrom_no vs leaf a xs.length c w h
variable {w w' : World} {F : Nat → Int} {leaf s0 s1 s2 : Int} {v vo : Value} {xs ys : List Int}
end Go.Proofs.YtjnpcmfpiejmjaaGreatDoor
