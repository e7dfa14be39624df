/- Part 33 of the proof. -/
import Derived.Test.YtfmfemmknccfmaaDoorPa20
import Derived.Test.YtfmfemmknccfmaaDoorPa23
import Derived.Test.YtfmfemmknccfmaaDoorPa32
namespace Go.Proofs.YtfmfemmknccfmaaDoor
set_option linter.unusedVariables false
set_option linter.unusedSimpArgs false
open Go.RowKit
set_option maxRecDepth 100000
set_option linter.unusedSimpArgs false
set_option linter.unusedVariables false
/-- the proof of the pair at a place, or none -/
def atP (t : Option AvT) (i : Int) : List PvP := if 0 ≤ i ∧ i < manyO t then [⟨(atO t i).1.1, (atO t i).1.2, (pathO t i).1⟩] else []
theorem atO_in {t : Option AvT} {i : Int} (h : 0 ≤ i ∧ i < manyO t) : (atO t i).2 = none ∧ (pathO t i).2 = none := by
  cases t with
  | none => exact absurd h.2 (by show ¬ i < ((0 : Nat) : Int); omega)
  | some t =>
    have h' : 0 ≤ i ∧ i < (t.many : Int) := h
    unfold atO pathO
    dsimp only
    rw [if_pos h', if_pos h']
    exact ⟨rfl, rfl⟩
theorem atO_out {t : Option AvT} {i : Int} (h : ¬ (0 ≤ i ∧ i < manyO t)) : (atO t i).2 = some 1 := by
  cases t with
  | none => rfl
  | some t =>
    have h' : ¬ (0 ≤ i ∧ i < (t.many : Int)) := h
    unfold atO
    dsimp only
    rw [if_neg h']
theorem pr_built (k v : ByteArray) (a : Option Addr) (n c : Nat) : Tryd.prog.built 52 [(0, .string k), (1, .string v), (2, .slice a n c)] = some #[.string k, .string v, .slice a n c] := by kernel_rfl
theorem infoPr : (Tryd.prog.info? 52).map (fun i => (i.zero, i.size, i.bytes)) = some (some (.agg #[.string { data := #[] }, .string { data := #[] }, .slice none 0 0]), 3, 56) := by kernel_rfl
theorem pr_fill (k v : ByteArray) (a : Option Addr) (n c : Nat) : Instr.fill (fun i => some (i * 3, 3)) ((Array.range (1 * 3)).map ((Value.agg #[.string { data := #[] }, .string { data := #[] }, .slice none 0 0]).cells[· % (Value.agg #[.string { data := #[] }, .string { data := #[] }, .slice none 0 0]).cells.size]!)) [(0, .agg #[.string k, .string v, .slice a n c])] = some #[.string k, .string v, .slice a n c] := by kernel_rfl
theorem wpList_pr1 {w : World} {ops : Array Oper} {rest : List Oper} {o : Oper} {a : Act} {Q : Exit → Act → World → Prop} (hgd : o.guard = none) (x : Operand) (ho : o.op = .buildSlice 60 1 #[(0, x)]) (k v : ByteArray) (sa : Option Addr) (n c : Nat) (hx : a.eval x = .agg #[.string k, .string v, .slice sa n c])
    (h : wpList Tryd.prog ops Q rest (a.put o.dst (.slice (some ⟨w.heap.size, 0, none⟩) 1 1)) (w.alloc (.cells #[.string k, .string v, .slice sa n c] 52))) : wpList Tryd.prog ops Q (o :: rest) a w := by
  refine wpList_plain hgd fun K hK => ?_
  obtain ⟨i0, hi, hz0, hz1, hz2⟩ := info_parts infoPr
  refine wp_buildSlice 60 52 1 #[(0, x)] ho #[.string k, .string v, .slice sa n c] i0 _ Tryd.underlying60 hi hz0 (by rw [hz1]; decide) (by rw [hz1]; decide) ?_ (hK _ _ h)
  rw [hz1]
  simpa [hx] using pr_fill k v sa n c
set_option maxHeartbeats 4000000 in
theorem at8_any (va : Value) (t : Option AvT) (i : Int) (w : World) (ht : TreeO w va t) (hm : manyO t ≤ 1099511627776) :
    Calls Tryd.prog 54 #[va, .int .i64 i] w fun e w' => ∃ v, e = .returned v ∧ PrsIn w' v (atP t i) ∧ Below w.heap.size w w' := by
  have HAT := Lib.hid (fun w h => at_any va t i w h (by omega))
  have HPA := Lib.hid (fun w h => path_any7 va t i w h hm)
  unfold AtPost at HAT
  unfold PathPost at HPA
  have HT := Lib.hid ht
  obtain ⟨p, rfl⟩ : ∃ p, va = .pointer p := by
    cases t with
    | none => exact ⟨_, ht⟩
    | some t => obtain ⟨g, e, _⟩ := ht; exact ⟨_, e⟩
  clear ht hm
  obtain ⟨pa, hpa⟩ : ∃ q, q = (atO t i).1 := ⟨_, rfl⟩
  obtain ⟨ea, hea⟩ : ∃ q, q = (atO t i).2 := ⟨_, rfl⟩
  obtain ⟨S, hS⟩ : ∃ q, q = (pathO t i).1 := ⟨_, rfl⟩
  obtain ⟨ec, hec⟩ : ∃ q, q = (pathO t i).2 := ⟨_, rfl⟩
  rw [← hpa, ← hea] at HAT
  rw [← hS, ← hec] at HPA
  by_cases hin : 0 ≤ i ∧ i < manyO t
  · have h2 := atO_in hin
    rw [← hea, ← hec] at h2
    obtain ⟨rfl, rfl⟩ := h2
    have HAP := Lib.hid (show atP t i = [⟨pa.1, pa.2, S⟩] from by unfold atP; rw [if_pos hin, hpa, hS])
    simp only [errV] at HAT HPA
    clear hin hpa hea hS hec
    go_enter Tryd.func54, Tryd.ntmps54
    go_upto_region 2 with (first
      | (go_at_call 87; (with_reducible refine (HAT.out _ HT.out).mono ?_); rintro e w2 ⟨rfl, hb⟩; have HB := Lib.hid hb; clear hb)
      | (refine wpList_store_row rfl 81 (.tmp 5) (.tmp 12) rfl w2.heap.size (kvC pa) rfl rfl 81 _ (heap_alloc_new _ _) (by kernel_rfl) rfl (kvC_one _) ?_; rw [World.setRow_alloc_new]))
    have H5 := Lib.hid (heap_alloc_new w2 (.cells (kvC pa) 81))
    replace HB := Lib.hid (HB.out.trans ((below_alloc w2 (.cells (kvC pa) 81)).mono HB.out.size))
    obtain ⟨g, hg⟩ : ∃ g, g = w2.heap.size := ⟨_, rfl⟩
    rw [← hg] at H5 ⊢
    clear hg
    generalize w2.alloc (.cells (kvC pa) 81) = w3 at *
    go_upto_region 7 with (go_at_call 88; (with_reducible refine (HPA.out _ (HT.out.below HB.out)).mono ?_); rintro e w4 ⟨sv, rfl, hst, hb⟩; replace H5 := Lib.hid ((hb.block _ (bk_lt H5.out)).trans H5.out); replace HB := Lib.hid (HB.out.trans (hb.mono HB.out.size)); have HST := Lib.hid hst; clear hb hst)
    obtain ⟨sa, sc, rfl⟩ := HST.out.len
    have c0 : w4.cell? ⟨g, 0, none⟩ = some (.string pa.1) := cell_of_row w4 g 0 _ _ _ H5.out
    have c1 : w4.cell? ⟨g, 1, none⟩ = some (.string pa.2) := cell_of_row w4 g 1 _ _ _ H5.out
    have hbu := pr_built pa.1 pa.2 sa S.length sc
    go_wp2_with (first
      | (refine wpList_pr1 rfl (.tmp 29) rfl pa.1 pa.2 sa S.length sc rfl ?_))
    go_ret
    refine ⟨_, rfl, ?_, HB.out.trans ((below_alloc w4 _).mono HB.out.size)⟩
    rw [HAP.out]
    refine ⟨_, _, rfl, by simp [maxLen], .inr ⟨w4.heap.size, 0, rfl, by simp, fun k p hk => ?_⟩⟩
    cases k with
    | zero =>
      injection hk with hk
      subst hk
      refine ⟨.slice sa S.length sc, fun j v hv => ?_, HST.out.below (below_alloc w4 _)⟩
      rw [cell_of_row _ w4.heap.size _ _ _ _ (heap_alloc_new w4 _)]
      simpa using hv
    | succ k => cases hk
  · have h2 := atO_out hin
    rw [← hea] at h2
    subst h2
    have HAP := Lib.hid (show atP t i = [] from by unfold atP; rw [if_neg hin])
    simp only [errV] at HAT
    clear hin hpa hea hS hec
    go_enter Tryd.func54, Tryd.ntmps54
    go_wp2_with (first
      | (go_at_call 87; (with_reducible refine (HAT.out _ HT.out).mono ?_); rintro e w2 ⟨rfl, hb⟩; have HB := Lib.hid hb; clear hb)
      | (refine wpList_store_row rfl 81 (.tmp 5) (.tmp 12) rfl w2.heap.size (kvC pa) rfl rfl 81 _ (heap_alloc_new _ _) (by kernel_rfl) rfl (kvC_one _) ?_; rw [World.setRow_alloc_new]))
    go_ret
    exact ⟨_, rfl, by rw [HAP.out]; exact ⟨none, 0, rfl, by simp, .inl rfl⟩, HB.out.trans ((below_alloc w2 _).mono HB.out.size)⟩
end Go.Proofs.YtfmfemmknccfmaaDoor
namespace Go.Proofs.YtfmfemmknccfmaaDoor
set_option linter.unusedVariables false
set_option linter.unusedSimpArgs false
open Go.RowKit
set_option maxRecDepth 100000
set_option linter.unusedSimpArgs false
set_option linter.unusedVariables false
def eP : PvP := ⟨eBA, eBA, []⟩
def exQ (key : ByteArray) : List PvP → Option PvP
  | p :: _ => if p.key = key then some p else none
  | [] => none
/-- the proof that a key is there, or none -/
def exP (t : Option AvT) (key : ByteArray) : Option PvP := exQ key (atP t (findO t key : Int))
def e8 (o : Option PvP) : Option Nat := if o.isSome then none else some 8
def ExPost (o : Option PvP) (w : World) (e : Ending) (w' : World) : Prop :=
  ∃ sa n c, e = .returned (.tuple #[.agg (prC (o.getD eP) (.slice sa n c)), errV (e8 o)]) ∧ StIn w' (.slice sa n c) (o.getD eP).steps ∧ Below w.heap.size w w'
/-- steps stay where a block of another type is written -/
theorem st_row {w : World} {v : Value} {l : List AvS} {q : Nat} {old new : Array Value} (h : StIn w v l) (hq : w.heap[q]? = some (.cells old 52 (0, 0))) (hno : ∀ (k : Nat) (b : Bool), old[k]? ≠ some (Value.bool b)) : StIn (w.setRow q new) v l := by
  obtain ⟨a, cap, rfl, hc, hm, hx⟩ := h
  refine ⟨a, cap, rfl, hc, hm, hx.imp id ?_⟩
  rintro ⟨ab, ao, rfl, hl, hr⟩
  refine ⟨ab, ao, rfl, by simpa [World.setRow] using hl, fun i s hi => ?_⟩
  have hne : ab ≠ q := fun e => by
    subst e
    have h0 := hr i s hi 0 (.bool s.sec) (by simp [AvS.cells, stC])
    rw [cell_of_row _ _ _ _ _ _ hq] at h0
    exact hno _ _ h0
  exact fun j v hv => (World.cell?_of_block (setRow_other _ _ _ _ hne)).trans (hr i s hi j v hv)
theorem no_bool (a b : ByteArray) (x : Option Addr) (n c : Nat) : ∀ (k : Nat) (t : Bool), (#[Value.string a, .string b, .slice x n c] : Array Value)[k]? ≠ some (Value.bool t) := by
  intro k t h
  rcases k with _ | _ | _ | k
  · cases h
  · cases h
  · cases h
  · simp at h
set_option maxHeartbeats 4000000 in
theorem exist_any (va : Value) (t : Option AvT) (key : ByteArray) (w : World) (ht : TreeO w va t) (hm : manyO t ≤ 1099511627776) :
    Calls Tryd.prog 20 #[va, .string key] w (ExPost (exP t key) w) := by
  have HFI := Lib.hid (fun w h => find_any va key t w h (by omega))
  have HAT := Lib.hid (fun w h => at8_any va t (findO t key : Int) w h hm)
  have hb0 := below_alloc w (.cells #[.string { data := #[] }, .string { data := #[] }, .slice none 0 0] 52)
  have H4 := Lib.hid (heap_alloc_new w (.cells #[.string { data := #[] }, .string { data := #[] }, .slice none 0 0] 52))
  have HT := Lib.hid (ht.below hb0)
  have HB := Lib.hid hb0
  obtain ⟨p, rfl⟩ : ∃ p, va = .pointer p := by
    cases t with
    | none => exact ⟨_, ht⟩
    | some t => obtain ⟨g, e, _⟩ := ht; exact ⟨_, e⟩
  have hle : atP t (findO t key : Int) = [] ∨ ∃ x, atP t (findO t key : Int) = [x] := by
    unfold atP; split
    · exact .inr ⟨_, rfl⟩
    · exact .inl rfl
  obtain ⟨ps, hps⟩ : ∃ l, l = atP t (findO t key : Int) := ⟨_, rfl⟩
  obtain ⟨o, ho⟩ : ∃ o, o = exP t key := ⟨_, rfl⟩
  have HO := Lib.hid (show o = exQ key ps from by rw [ho, hps]; rfl)
  rw [← hps] at HAT hle
  rw [← ho]
  obtain ⟨FN, hFN⟩ : ∃ n, n = findO t key := ⟨_, rfl⟩
  rw [← hFN] at HFI HAT
  unfold ExPost
  clear ht hm hb0 hps ho hFN
  go_enter Tryd.func20, Tryd.ntmps20
  go_upto_region 1 with (fail)
  generalize w.alloc (.cells #[.string { data := #[] }, .string { data := #[] }, .slice none 0 0] 52) = w1 at *
  obtain ⟨q, hq⟩ : ∃ q, q = w.heap.size := ⟨_, rfl⟩
  rw [← hq] at H4 ⊢
  have HQ := Lib.hid hq
  clear hq
  go_upto_region 2 with (first
    | (go_at_call 55; (with_reducible refine (HFI.out _ HT.out).mono ?_); rintro e w' ⟨rfl, rfl⟩)
    | (go_at_call 54; (with_reducible refine (HAT.out _ HT.out).mono ?_); rintro e w2 ⟨v, rfl, hp, hb⟩; have HP := Lib.hid hp; replace H4 := Lib.hid ((hb.block _ (bk_lt H4.out)).trans H4.out); replace HB := Lib.hid (HB.out.trans (hb.mono HB.out.size)); clear hp hb))
  rcases hle with rfl | ⟨x, rfl⟩
  · obtain ⟨va, vc, rfl, _⟩ := HP.out.len
    have HN := Lib.hid (show o = none from HO.out)
    go_wp2_with (first
      | (refine wpList_store_row rfl 52 (.tmp 4) (.tmp 23) rfl q #[.string { data := #[] }, .string { data := #[] }, .slice none 0 0] rfl rfl 52 _ H4.out (by kernel_rfl) rfl (by simp [Value.oneCell']) ?_))
    refine bodyPost_ret (results_cell_tmp_row rfl _ _ q 52 #[.string { data := #[] }, .string { data := #[] }, .slice none 0 0] (0, 0) _ rfl (setRow_heap _ _ _ _ _ _ H4.out) Tryd.underlying52 rfl (by kernel_rfl)) rfl ?_
    exact ⟨none, 0, 0, by rw [HN.out]; rfl, by rw [HN.out]; exact StIn.nil _, below_setRow HB.out (Nat.le_of_eq HQ.out.symm) _⟩
  · obtain ⟨vv, vc, rfl, _⟩ := HP.out.len
    obtain ⟨b, off, rfl, sv, hrg, hst⟩ := HP.out.at (i := 0) (p := x) rfl
    obtain ⟨sa, sc, rfl⟩ := hst.len
    rw [Nat.zero_mul, Nat.add_zero] at hrg
    have HRG := Lib.hid hrg
    have HST := Lib.hid hst
    have c0 : w2.cell? ⟨b, off, none⟩ = some (.string x.key) := by have := hrg 0 (.string x.key) rfl; rwa [Nat.add_zero] at this
    clear hrg hst
    by_cases hk : x.key = key
    · have hk1 : (x.key.toList == key.toList) = true := by rw [hk]; exact sbeq_self _
      have HN := Lib.hid (show o = some x from by rw [HO.out]; exact if_pos hk)
      clear hk
      go_wp2_with (first
        | (refine wpList_load_rowsz (by rfl) 52 (.tmp 26) rfl b off rfl (prC x (.slice sa x.steps.length sc)) _ HRG.out Tryd.underlying52 rfl (by kernel_rfl) ?_)
        | (refine wpList_store_row rfl 52 (.tmp 4) (.tmp 27) rfl q (prC x (.slice sa x.steps.length sc)) rfl rfl 52 _ H4.out (by kernel_rfl) rfl (prC_one _ _ _ _) ?_))
      refine bodyPost_ret (results_cell_tmp_row rfl _ _ q 52 (prC x (.slice sa x.steps.length sc)) (0, 0) _ rfl (setRow_heap _ _ _ _ _ _ H4.out) Tryd.underlying52 rfl (by kernel_rfl)) rfl ?_
      exact ⟨sa, x.steps.length, sc, by rw [HN.out]; rfl, by rw [HN.out]; exact st_row HST.out H4.out (no_bool _ _ _ _ _), below_setRow HB.out (Nat.le_of_eq HQ.out.symm) _⟩
    · have hk1 : (x.key.toList == key.toList) = false := sbeq_ne hk
      have HN := Lib.hid (show o = none from by rw [HO.out]; exact if_neg hk)
      clear hk
      go_wp2_with (first
        | (refine wpList_store_row rfl 52 (.tmp 4) (.tmp 23) rfl q #[.string { data := #[] }, .string { data := #[] }, .slice none 0 0] rfl rfl 52 _ H4.out (by kernel_rfl) rfl (by simp [Value.oneCell']) ?_))
      refine bodyPost_ret (results_cell_tmp_row rfl _ _ q 52 #[.string { data := #[] }, .string { data := #[] }, .slice none 0 0] (0, 0) _ rfl (setRow_heap _ _ _ _ _ _ H4.out) Tryd.underlying52 rfl (by kernel_rfl)) rfl ?_
      exact ⟨none, 0, 0, by rw [HN.out]; rfl, by rw [HN.out]; exact StIn.nil _, below_setRow HB.out (Nat.le_of_eq HQ.out.symm) _⟩
end Go.Proofs.YtfmfemmknccfmaaDoor
