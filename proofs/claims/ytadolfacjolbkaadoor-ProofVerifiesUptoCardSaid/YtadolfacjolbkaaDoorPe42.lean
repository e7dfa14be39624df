/- Part 42 of the proof. -/
import Derived.Test.YtadolfacjolbkaaDoorPe18
import Derived.Test.YtadolfacjolbkaaDoorPe22
namespace Go.Proofs.YtadolfacjolbkaaDoor
set_option linter.unusedVariables false
set_option linter.unusedSimpArgs false
open Go.RowKit
set_option maxRecDepth 100000
set_option linter.unusedSimpArgs false
set_option linter.unusedVariables false
def eP : PvP := ⟨eBA, eBA, []⟩
def exQ (key : ByteArray) : List PvP → Option PvP
  | p :: _ => if p.key = key then some p else none
  | [] => none
/-- the proof that a key is there, or none -/
def exP (t : Option AvT) (key : ByteArray) : Option PvP := exQ key (atP t (findO t key : Int))
def e8 (o : Option PvP) : Option Nat := if o.isSome then none else some 8
def ExPost (o : Option PvP) (w : World) (e : Ending) (w' : World) : Prop :=
  ∃ sa n c, e = .returned (.tuple #[.agg (prC (o.getD eP) (.slice sa n c)), errV (e8 o)]) ∧ StIn w' (.slice sa n c) (o.getD eP).steps ∧ Below w.heap.size w w'
/-- steps stay where a block of another type is written -/
theorem st_row {w : World} {v : Value} {l : List AvS} {q : Nat} {old new : Array Value} (h : StIn w v l) (hq : w.heap[q]? = some (.cells old 58 (0, 0))) (hno : ∀ (k : Nat) (b : Bool), old[k]? ≠ some (Value.bool b)) : StIn (w.setRow q new) v l := by
  obtain ⟨a, cap, rfl, hc, hm, hx⟩ := h
  refine ⟨a, cap, rfl, hc, hm, hx.imp id ?_⟩
  rintro ⟨ab, ao, rfl, hl, hr⟩
  refine ⟨ab, ao, rfl, by simpa [World.setRow] using hl, fun i s hi => ?_⟩
  have hne : ab ≠ q := fun e => by
    subst e
    have h0 := hr i s hi 0 (.bool s.sec) (by simp [AvS.cells, stC])
    rw [cell_of_row _ _ _ _ _ _ hq] at h0
    exact hno _ _ h0
  exact fun j v hv => (World.cell?_of_block (setRow_other _ _ _ _ hne)).trans (hr i s hi j v hv)
theorem no_bool (a b : ByteArray) (x : Option Addr) (n c : Nat) : ∀ (k : Nat) (t : Bool), (#[Value.string a, .string b, .slice x n c] : Array Value)[k]? ≠ some (Value.bool t) := by
  intro k t h
  rcases k with _ | _ | _ | k
  · cases h
  · cases h
  · cases h
  · simp at h
set_option maxHeartbeats 4000000 in
theorem exist_any (va : Value) (t : Option AvT) (key : ByteArray) (w : World) (ht : TreeO w va t) (hm : manyO t ≤ 1099511627776) :
    Calls Tryd.prog 45 #[va, .string key] w (ExPost (exP t key) w) := by
  have HFI := Lib.hid (fun w h => find_any va key t w h (by omega))
  have HAT := Lib.hid (fun w h => at8_any va t (findO t key : Int) w h hm)
  have hb0 := below_alloc w (.cells #[.string { data := #[] }, .string { data := #[] }, .slice none 0 0] 58)
  have H4 := Lib.hid (heap_alloc_new w (.cells #[.string { data := #[] }, .string { data := #[] }, .slice none 0 0] 58))
  have HT := Lib.hid (ht.below hb0)
  have HB := Lib.hid hb0
  obtain ⟨p, rfl⟩ : ∃ p, va = .pointer p := by
    cases t with
    | none => exact ⟨_, ht⟩
    | some t => obtain ⟨g, e, _⟩ := ht; exact ⟨_, e⟩
  have hle : atP t (findO t key : Int) = [] ∨ ∃ x, atP t (findO t key : Int) = [x] := by
    unfold atP; split
    · exact .inr ⟨_, rfl⟩
    · exact .inl rfl
  obtain ⟨ps, hps⟩ : ∃ l, l = atP t (findO t key : Int) := ⟨_, rfl⟩
  obtain ⟨o, ho⟩ : ∃ o, o = exP t key := ⟨_, rfl⟩
  have HO := Lib.hid (show o = exQ key ps from by rw [ho, hps]; rfl)
  rw [← hps] at HAT hle
  rw [← ho]
  obtain ⟨FN, hFN⟩ : ∃ n, n = findO t key := ⟨_, rfl⟩
  rw [← hFN] at HFI HAT
  unfold ExPost
  clear ht hm hb0 hps ho hFN
  go_enter Tryd.func45, Tryd.ntmps45
  go_upto_region 1 with (fail)
  generalize w.alloc (.cells #[.string { data := #[] }, .string { data := #[] }, .slice none 0 0] 58) = w1 at *
  obtain ⟨q, hq⟩ : ∃ q, q = w.heap.size := ⟨_, rfl⟩
  rw [← hq] at H4 ⊢
  have HQ := Lib.hid hq
  clear hq
  go_upto_region 2 with (first
    | (go_at_call 77; (with_reducible refine (HFI.out _ HT.out).mono ?_); rintro e w' ⟨rfl, rfl⟩)
    | (go_at_call 76; (with_reducible refine (HAT.out _ HT.out).mono ?_); rintro e w2 ⟨v, rfl, hp, hb⟩; have HP := Lib.hid hp; replace H4 := Lib.hid ((hb.block _ (bk_lt H4.out)).trans H4.out); replace HB := Lib.hid (HB.out.trans (hb.mono HB.out.size)); clear hp hb))
  rcases hle with rfl | ⟨x, rfl⟩
  · obtain ⟨va, vc, rfl, _⟩ := HP.out.len
    have HN := Lib.hid (show o = none from HO.out)
    go_wp2_with (first
      | (refine wpList_store_row rfl 58 (.tmp 4) (.tmp 23) rfl q #[.string { data := #[] }, .string { data := #[] }, .slice none 0 0] rfl rfl 58 _ H4.out (by kernel_rfl) rfl (by simp [Value.oneCell']) ?_))
    refine bodyPost_ret (results_cell_tmp_row rfl _ _ q 58 #[.string { data := #[] }, .string { data := #[] }, .slice none 0 0] (0, 0) _ rfl (setRow_heap _ _ _ _ _ _ H4.out) Tryd.underlying58 rfl (by kernel_rfl)) rfl ?_
    exact ⟨none, 0, 0, by rw [HN.out]; rfl, by rw [HN.out]; exact StIn.nil _, below_setRow HB.out (Nat.le_of_eq HQ.out.symm) _⟩
  · obtain ⟨vv, vc, rfl, _⟩ := HP.out.len
    obtain ⟨b, off, rfl, sv, hrg, hst⟩ := HP.out.at (i := 0) (p := x) rfl
    obtain ⟨sa, sc, rfl⟩ := hst.len
    rw [Nat.zero_mul, Nat.add_zero] at hrg
    have HRG := Lib.hid hrg
    have HST := Lib.hid hst
    have c0 : w2.cell? ⟨b, off, none⟩ = some (.string x.key) := by have := hrg 0 (.string x.key) rfl; rwa [Nat.add_zero] at this
    clear hrg hst
    by_cases hk : x.key = key
    · have hk1 : (x.key.toList == key.toList) = true := by rw [hk]; exact sbeq_self _
      have HN := Lib.hid (show o = some x from by rw [HO.out]; exact if_pos hk)
      clear hk
      go_wp2_with (first
        | (refine wpList_load_rowsz (by rfl) 58 (.tmp 26) rfl b off rfl (prC x (.slice sa x.steps.length sc)) _ HRG.out Tryd.underlying58 rfl (by kernel_rfl) ?_)
        | (refine wpList_store_row rfl 58 (.tmp 4) (.tmp 27) rfl q (prC x (.slice sa x.steps.length sc)) rfl rfl 58 _ H4.out (by kernel_rfl) rfl (prC_one _ _ _ _) ?_))
      refine bodyPost_ret (results_cell_tmp_row rfl _ _ q 58 (prC x (.slice sa x.steps.length sc)) (0, 0) _ rfl (setRow_heap _ _ _ _ _ _ H4.out) Tryd.underlying58 rfl (by kernel_rfl)) rfl ?_
      exact ⟨sa, x.steps.length, sc, by rw [HN.out]; rfl, by rw [HN.out]; exact st_row HST.out H4.out (no_bool _ _ _ _ _), below_setRow HB.out (Nat.le_of_eq HQ.out.symm) _⟩
    · have hk1 : (x.key.toList == key.toList) = false := sbeq_ne hk
      have HN := Lib.hid (show o = none from by rw [HO.out]; exact if_neg hk)
      clear hk
      go_wp2_with (first
        | (refine wpList_store_row rfl 58 (.tmp 4) (.tmp 23) rfl q #[.string { data := #[] }, .string { data := #[] }, .slice none 0 0] rfl rfl 58 _ H4.out (by kernel_rfl) rfl (by simp [Value.oneCell']) ?_))
      refine bodyPost_ret (results_cell_tmp_row rfl _ _ q 58 #[.string { data := #[] }, .string { data := #[] }, .slice none 0 0] (0, 0) _ rfl (setRow_heap _ _ _ _ _ _ H4.out) Tryd.underlying58 rfl (by kernel_rfl)) rfl ?_
      exact ⟨none, 0, 0, by rw [HN.out]; rfl, by rw [HN.out]; exact StIn.nil _, below_setRow HB.out (Nat.le_of_eq HQ.out.symm) _⟩
end Go.Proofs.YtadolfacjolbkaaDoor
namespace Go.Proofs.YtadolfacjolbkaaDoor
set_option linter.unusedVariables false
set_option linter.unusedSimpArgs false
open Go.RowKit
set_option maxRecDepth 100000
set_option linter.unusedSimpArgs false
set_option linter.unusedVariables false
/-- the proofs of a key's neighbours; none where it is there -/
def noL (t : Option AvT) (key : ByteArray) : List PvP := if (getO t key).isSome then [] else atP t ((findO t key : Int) - 1)
def noR (t : Option AvT) (key : ByteArray) : List PvP := if (getO t key).isSome then [] else atP t (findO t key : Int)
def e9 (b : Bool) : Option Nat := if b then some 9 else none
def NoPost (t : Option AvT) (key : ByteArray) (w : World) (e : Ending) (w' : World) : Prop :=
  ∃ vl vr, e = .returned (.tuple #[.agg #[vl, vr], errV (e9 (getO t key).isSome)]) ∧ PrsIn w' vl (noL t key) ∧ PrsIn w' vr (noR t key) ∧ Below w.heap.size w w'
theorem prs_nil (w : World) : PrsIn w (.slice none 0 0) [] := ⟨none, 0, rfl, by simp, .inl rfl⟩
theorem prAt_row {w : World} {b o q : Nat} {p : PvP} {v1 v2 : Value} {new : Array Value} (h : PrAt w b o p) (hq : w.heap[q]? = some (.cells #[v1, v2] 64 (0, 0))) (h1 : ∃ a n c, v1 = .slice a n c) (h2 : ∃ a n c, v2 = .slice a n c) : PrAt (w.setRow q new) b o p := by
  obtain ⟨a1, n1, c1, rfl⟩ := h1
  obtain ⟨a2, n2, c2, rfl⟩ := h2
  have hno : ∀ (k : Nat) (x : Value), (∀ a n c, x ≠ .slice a n c) → (#[Value.slice a1 n1 c1, .slice a2 n2 c2] : Array Value)[k]? ≠ some x := by
    intro k x hx h
    rcases k with _ | _ | k
    · injection h with h; exact hx _ _ _ h.symm
    · injection h with h; exact hx _ _ _ h.symm
    · simp at h
  obtain ⟨sv, hr, hst⟩ := h
  have hbq : b ≠ q := fun e => by
    subst e
    have h0 := hr 0 (.string p.key) rfl
    rw [cell_of_row _ _ _ _ _ _ hq] at h0
    exact hno _ _ (fun _ _ _ => by simp) h0
  refine ⟨sv, fun j v hv => (World.cell?_of_block (setRow_other _ _ _ _ hbq)).trans (hr j v hv), ?_⟩
  obtain ⟨a, cap, rfl, hc, hm, hx⟩ := hst
  refine ⟨a, cap, rfl, hc, hm, hx.imp id ?_⟩
  rintro ⟨ab, ao, rfl, hl, hr⟩
  refine ⟨ab, ao, rfl, by simpa [World.setRow] using hl, fun i s hi => ?_⟩
  have hne : ab ≠ q := fun e => by
    subst e
    have h0 := hr i s hi 0 (.bool s.sec) (by simp [AvS.cells, stC])
    rw [cell_of_row _ _ _ _ _ _ hq] at h0
    exact hno _ _ (fun _ _ _ => by simp) h0
  exact fun j v hv => (World.cell?_of_block (setRow_other _ _ _ _ hne)).trans (hr i s hi j v hv)
theorem prs_row {w : World} {v : Value} {ps : List PvP} {q : Nat} {v1 v2 : Value} {new : Array Value} (h : PrsIn w v ps) (hq : w.heap[q]? = some (.cells #[v1, v2] 64 (0, 0))) (h1 : ∃ a n c, v1 = .slice a n c) (h2 : ∃ a n c, v2 = .slice a n c) : PrsIn (w.setRow q new) v ps := by
  obtain ⟨a, cap, rfl, hm, hx⟩ := h
  exact ⟨a, cap, rfl, hm, hx.imp id fun ⟨b, off, e, hl, hh⟩ => ⟨b, off, e, by simpa [World.setRow] using hl, fun i p hi => prAt_row (hh i p hi) hq h1 h2⟩⟩
set_option maxHeartbeats 4000000 in
theorem none8_any (va : Value) (t : Option AvT) (key : ByteArray) (w : World) (ht : TreeO w va t) (hm : manyO t ≤ 1099511627776) (hf : (findO t key : Int) ≤ 1099511627776) :
    Calls Tryd.prog 46 #[va, .string key] w (NoPost t key w) := by
  have HGE := Lib.hid (fun w h => get_any va key t w h)
  have HFI := Lib.hid (fun w h => find_any va key t w h (by omega))
  have HA1 := Lib.hid (fun w h => at8_any va t ((findO t key : Int) - 1) w h hm)
  have HA2 := Lib.hid (fun w h => at8_any va t (findO t key : Int) w h hm)
  have hb0 := below_alloc w (.cells #[.slice none 0 0, .slice none 0 0] 64)
  have H4 := Lib.hid (heap_alloc_new w (.cells #[.slice none 0 0, .slice none 0 0] 64))
  have HT := Lib.hid (ht.below hb0)
  have HB := Lib.hid hb0
  obtain ⟨p, rfl⟩ : ∃ p, va = .pointer p := by
    cases t with
    | none => exact ⟨_, ht⟩
    | some t => obtain ⟨g, e, _⟩ := ht; exact ⟨_, e⟩
  obtain ⟨gb, hgb⟩ : ∃ b, b = (getO t key).isSome := ⟨_, rfl⟩
  obtain ⟨gs, hgs⟩ : ∃ b, b = strO (getO t key) := ⟨_, rfl⟩
  have HNL := Lib.hid (show noL t key = if gb then [] else atP t ((findO t key : Int) - 1) from by rw [hgb]; rfl)
  have HNR := Lib.hid (show noR t key = if gb then [] else atP t (findO t key : Int) from by rw [hgb]; rfl)
  rw [← hgb, ← hgs] at HGE
  unfold NoPost
  rw [← hgb]
  obtain ⟨FN, hFN⟩ : ∃ n, n = findO t key := ⟨_, rfl⟩
  rw [← hFN] at HFI HA1 HA2 HNL HNR hf
  clear ht hm hb0 hgb hgs hFN
  go_enter Tryd.func46, Tryd.ntmps46
  go_upto_region 1 with (fail)
  generalize w.alloc (.cells #[.slice none 0 0, .slice none 0 0] 64) = w1 at *
  obtain ⟨q, hq⟩ : ∃ q, q = w.heap.size := ⟨_, rfl⟩
  rw [← hq] at H4 ⊢
  have HQ := Lib.hid hq
  clear hq
  cases gb with
  | true =>
    have hNL := HNL.out
    have hNR := HNR.out
    go_wp2_with (first
      | (go_at_call 26; (with_reducible refine (HGE.out _ HT.out).mono ?_); rintro e w' ⟨rfl, rfl⟩)
      | (refine wpList_store_row rfl 64 (.tmp 4) (.tmp 16) rfl q #[.slice none 0 0, .slice none 0 0] rfl rfl 64 _ H4.out (by kernel_rfl) rfl (by simp [Value.oneCell']) ?_))
    refine bodyPost_ret (results_cell_tmp_row rfl _ _ q 64 #[.slice none 0 0, .slice none 0 0] (0, 0) _ rfl (setRow_heap _ _ _ _ _ _ H4.out) Tryd.underlying64 rfl (by kernel_rfl)) rfl ?_
    exact ⟨_, _, rfl, by rw [HNL.out]; exact prs_nil _, by rw [HNR.out]; exact prs_nil _, below_setRow HB.out (Nat.le_of_eq HQ.out.symm) _⟩
  | false =>
    have hf0 : (0 : Int) ≤ FN := by omega
    go_upto_region 5 with (first
      | (go_at_call 26; (with_reducible refine (HGE.out _ HT.out).mono ?_); rintro e w' ⟨rfl, rfl⟩)
      | (go_at_call 77; (with_reducible refine (HFI.out _ HT.out).mono ?_); rintro e w' ⟨rfl, rfl⟩))
    go_wp2_with (first
      | (go_at_call 76; (with_reducible refine (HA1.out _ HT.out).mono ?_); rintro e w2 ⟨v1, rfl, hp, hb⟩; have HP1 := Lib.hid hp; obtain ⟨a1, c1, rfl, _⟩ := hp.len; replace HT := Lib.hid (HT.out.below hb); replace H4 := Lib.hid ((hb.block _ (bk_lt H4.out)).trans H4.out); replace HB := Lib.hid (HB.out.trans (hb.mono HB.out.size)); clear hp hb HA1)
      | (go_at_call 76; (with_reducible refine (HA2.out _ HT.out).mono ?_); rintro e w3 ⟨v2, rfl, hp, hb⟩; have HP2 := Lib.hid hp; obtain ⟨a2, c2, rfl, _⟩ := hp.len; replace HP1 := Lib.hid (HP1.out.below hb); replace H4 := Lib.hid ((hb.block _ (bk_lt H4.out)).trans H4.out); replace HB := Lib.hid (HB.out.trans (hb.mono HB.out.size)); clear hp hb)
      | (refine wpList_store_row rfl 64 (.tmp 4) (.tmp 28) rfl q #[.slice a1 _ c1, .slice a2 _ c2] rfl rfl 64 _ H4.out (by kernel_rfl) rfl (by simp [Value.oneCell']) ?_))
    refine bodyPost_ret (results_cell_tmp_row rfl _ _ q 64 #[.slice a1 _ c1, .slice a2 _ c2] (0, 0) _ rfl (setRow_heap _ _ _ _ _ _ H4.out) Tryd.underlying64 rfl (by kernel_rfl)) rfl ?_
    exact ⟨_, _, rfl, by rw [HNL.out]; exact prs_row HP1.out H4.out ⟨_, _, _, rfl⟩ ⟨_, _, _, rfl⟩, by rw [HNR.out]; exact prs_row HP2.out H4.out ⟨_, _, _, rfl⟩ ⟨_, _, _, rfl⟩, below_setRow HB.out (Nat.le_of_eq HQ.out.symm) _⟩
end Go.Proofs.YtadolfacjolbkaaDoor
namespace Go.Proofs.YtadolfacjolbkaaDoor
set_option linter.unusedVariables false
set_option linter.unusedSimpArgs false
open Go.RowKit
set_option maxRecDepth 100000
set_option linter.unusedSimpArgs false
set_option linter.unusedVariables false
theorem path_foldP : ∀ (t : AvT) (i : Nat), i < t.many → t.many ≤ 4611686018427387904 → (t.path i).foldl upP (avLeafF (t.at? i).1 (t.at? i).2, 0, 1) = (t.root, (i : Int), (t.many : Int))
  | .leaf k v, i, h, _ => by
    simp only [AvT.many] at h
    obtain rfl : i = 0 := by omega
    rfl
  | .node a b, i, h, hm => by
    simp only [AvT.many] at h hm
    unfold AvT.path AvT.at?
    split
    · rename_i hi
      rw [List.foldl_append, path_foldP a i hi (by omega)]
      simp only [List.foldl_cons, List.foldl_nil, upP, AvT.root, AvT.many]
      rw [uN_nat _ (by omega), uN_nat _ (by omega)]
      simp
    · rename_i hi
      rw [List.foldl_append, path_foldP b (i - a.many) (by omega) (by omega)]
      simp only [List.foldl_cons, List.foldl_nil, upP, AvT.root, AvT.many]
      rw [uN_nat _ (by omega), uN_nat _ (by omega)]
      simp only [if_true]
      congr 2 <;> omega
theorem path_len8 : ∀ (t : AvT) (i : Nat), (t.path i).length + 1 ≤ t.many
  | .leaf k v, i => by simp [AvT.path, AvT.many]
  | .node a b, i => by
    have ha := path_len8 a i
    have hb := path_len8 b (i - a.many)
    have pa := a.many_pos
    have pb := b.many_pos
    unfold AvT.path
    simp only [AvT.many]
    split <;> rw [List.length_append, List.length_singleton] <;> omega
theorem path_ok : ∀ (t : AvT) (i : Nat), t.many ≤ 4294967296 → ∀ s ∈ t.path i, okS s = true
  | .leaf k v, i, _, s, h => by simp [AvT.path] at h
  | .node a b, i, hm, s, h => by
    have pa := a.many_pos
    have pb := b.many_pos
    unfold AvT.path at h
    simp only [AvT.many] at hm
    split at h
    · rcases List.mem_append.1 h with h | h
      · exact path_ok a i (by omega) s h
      · rw [List.mem_singleton.1 h]; unfold okS; simp only [Bool.and_eq_true, decide_eq_true_eq]; omega
    · rcases List.mem_append.1 h with h | h
      · exact path_ok b _ (by omega) s h
      · rw [List.mem_singleton.1 h]; unfold okS; simp only [Bool.and_eq_true, decide_eq_true_eq]; omega
theorem follow_at {t : AvT} {i : Nat} (hi : i < t.many) (hm : t.many ≤ 64) : followF t.root ⟨(t.at? i).1, (t.at? i).2, t.path i⟩ = some (t.root, (i : Int), (t.many : Int)) := by
  unfold followF showF
  have h1 := path_len8 t i
  rw [if_pos ⟨by show (t.path i).length ≤ 64; omega, List.all_eq_true.2 (path_ok t i (by omega))⟩]
  show (if eqB ((t.path i).foldl upP (avLeafF (t.at? i).1 (t.at? i).2, 0, 1)).1 t.root = true then some ((t.path i).foldl upP (avLeafF (t.at? i).1 (t.at? i).2, 0, 1)) else none) = _
  rw [path_foldP t i hi (by omega)]
  rw [if_pos (eqB_self _)]
theorem atP_in {t : Option AvT} {i : Nat} {p : KV} (h : (pairsO t)[i]? = some p) (hm : manyO t ≤ 64) :
    ∃ s, atP t (i : Int) = [⟨p.1, p.2, s⟩] ∧ followF (rootO t) ⟨p.1, p.2, s⟩ = some (rootO t, (i : Int), (manyO t : Int)) := by
  cases t with
  | none => simp [pairsO] at h
  | some t =>
    have hi : i < t.many := by rw [← AvT.many_eq]; exact (List.getElem?_eq_some_iff.1 h).1
    have he : t.at? i = p := Option.some.inj ((at_eq t i hi).symm.trans h)
    subst he
    refine ⟨t.path i, ?_, follow_at hi hm⟩
    have hc : (0 : Int) ≤ (i : Int) ∧ (i : Int) < (t.many : Int) := by omega
    unfold atP atO pathO
    show (if 0 ≤ (i : Int) ∧ (i : Int) < (t.many : Int) then _ else _) = _
    rw [if_pos hc]
    dsimp only
    rw [if_pos hc, if_pos hc]
    simp
theorem atP_out {t : Option AvT} {i : Int} (h : i < 0 ∨ (manyO t : Int) ≤ i) : atP t i = [] := by
  unfold atP
  rw [if_neg (by omega)]
theorem exist_at {t : Option AvT} {i : Nat} {p : KV} (hs : Srt (pairsO t)) (h : (pairsO t)[i]? = some p) (hm : manyO t ≤ 64) :
    ∃ s, exP t p.1 = some ⟨p.1, p.2, s⟩ ∧ verF (rootO t) p.1 p.2 ⟨p.1, p.2, s⟩ = none := by
  obtain ⟨s, h1, h2⟩ := atP_in h hm
  refine ⟨s, ?_, ?_⟩
  · unfold exP
    rw [(find_place hs h).1, h1]
    simp [exQ]
  · unfold verF
    rw [if_pos ⟨rfl, rfl⟩, h2]
    rfl
/-- of keys in order those below k come first -/
theorem srt_below (k : ByteArray) : ∀ (l : List KV), Srt l → ∀ i p, l[i]? = some p → (bl p.1 k = true ↔ i < (l.filter fun q => bl q.1 k).length)
  | [], _, i, p, h => by simp at h
  | q :: l, hs, i, p, h => by
    obtain ⟨h1, h2⟩ := List.pairwise_cons.1 hs
    cases i with
    | zero =>
      injection h with h; subst h
      constructor
      · intro hq; rw [List.filter_cons, if_pos hq]; simp
      · intro hq
        cases hb : bl q.1 k with
        | true => rfl
        | false =>
          rw [List.filter_cons, if_neg (by simpa using hb), filter_no (fun r hr => by
            cases hr2 : bl r.1 k with
            | false => rfl
            | true => rw [bl_trans (h1 r hr) hr2] at hb; cases hb)] at hq
          simp at hq
    | succ i =>
      have hp : l[i]? = some p := by simpa using h
      have ih := srt_below k l h2 i p hp
      cases hb : bl q.1 k with
      | true => rw [List.filter_cons, if_pos hb, List.length_cons, ih]; omega
      | false =>
        have hn : ∀ r ∈ l, bl r.1 k = false := fun r hr => by
          cases hr2 : bl r.1 k with
          | false => rfl
          | true => rw [bl_trans (h1 r hr) hr2] at hb; cases hb
        rw [List.filter_cons, if_neg (by simpa using hb), filter_no (fun r hr => hn r hr), hn p (List.mem_of_getElem? hp)]
        simp
theorem find_below {t : Option AvT} (hs : Srt (pairsO t)) {i : Nat} {p : KV} (h : (pairsO t)[i]? = some p) (k : ByteArray) : bl p.1 k = true ↔ i < findO t k := by
  cases t with
  | none => simp [pairsO] at h
  | some t =>
    show _ ↔ i < t.find k
    rw [find_eq k t hs]
    exact srt_below k _ hs i p h
theorem findO_le (t : Option AvT) (hs : Srt (pairsO t)) (k : ByteArray) : findO t k ≤ manyO t := by
  cases t with
  | none => exact Nat.le_refl _
  | some t =>
    show t.find k ≤ t.many
    rw [find_eq k t hs, ← AvT.many_eq]
    exact List.length_filter_le _ _
theorem place_of {t : Option AvT} {i : Nat} (h : i < manyO t) : ∃ p, (pairsO t)[i]? = some p := by
  rw [← manyO_eq] at h
  exact ⟨_, List.getElem?_eq_getElem h⟩
/-- the left neighbour of a key that is not there -/
theorem noL_at {t : Option AvT} {k : ByteArray} (hs : Srt (pairsO t)) (hm : manyO t ≤ 64) (hk : getO t k = none) (h0 : 0 < findO t k) :
    ∃ p s, (pairsO t)[findO t k - 1]? = some p ∧ noL t k = [⟨p.1, p.2, s⟩] ∧ bl p.1 k = true ∧ followF (rootO t) ⟨p.1, p.2, s⟩ = some (rootO t, (findO t k : Int) - 1, (manyO t : Int)) := by
  have hl := findO_le t hs k
  obtain ⟨p, hp⟩ := place_of (t := t) (i := findO t k - 1) (by omega)
  obtain ⟨s, h1, h2⟩ := atP_in hp hm
  have e : ((findO t k - 1 : Nat) : Int) = (findO t k : Int) - 1 := by omega
  rw [e] at h1 h2
  refine ⟨p, s, hp, ?_, (find_below hs hp k).2 (by omega), h2⟩
  unfold noL
  rw [hk, ← h1]
  rfl
theorem noL_none {t : Option AvT} {k : ByteArray} (hk : getO t k = none) (h0 : findO t k = 0) : noL t k = [] := by
  unfold noL
  rw [hk, h0]
  show atP t (((0 : Nat) : Int) - 1) = []
  exact atP_out (.inl (by omega))
theorem noR_at {t : Option AvT} {k : ByteArray} (hs : Srt (pairsO t)) (hm : manyO t ≤ 64) (hk : getO t k = none) (h0 : findO t k < manyO t) :
    ∃ (p : KV) (s : List AvS), noR t k = [⟨p.1, p.2, s⟩] ∧ bl p.1 k = false ∧ p.1 ≠ k ∧ followF (rootO t) ⟨p.1, p.2, s⟩ = some (rootO t, (findO t k : Int), (manyO t : Int)) := by
  obtain ⟨p, hp⟩ := place_of h0
  obtain ⟨s, h1, h2⟩ := atP_in hp hm
  refine ⟨p, s, ?_, ?_, ?_, h2⟩
  · unfold noR
    rw [hk, ← h1]
    rfl
  · cases hb : bl p.1 k with
    | false => rfl
    | true => have := (find_below hs hp k).1 hb; omega
  · rintro rfl
    rw [(find_place hs hp).2] at hk
    cases hk
theorem noR_none {t : Option AvT} {k : ByteArray} (hk : getO t k = none) (h0 : manyO t ≤ findO t k) : noR t k = [] := by
  unfold noR
  rw [hk]
  show atP t (findO t k : Int) = []
  exact atP_out (.inr (by omega))
theorem bl_def (a b : ByteArray) : Op.bytesLess a.toList b.toList = bl a b := rfl
theorem absent_ok {t : Option AvT} {k : ByteArray} (hs : Srt (pairsO t)) (hm : manyO t ≤ 64) (hk : getO t k = none) : verNF (rootO t) (sumF []) k (noL t k) (noR t k) = none := by
  have hl := findO_le t hs k
  unfold verNF
  by_cases h0 : findO t k = 0
  · rw [noL_none hk h0]
    by_cases h1 : manyO t = 0
    · rw [noR_none hk (by omega)]
      cases t with
      | some t => have := t.many_pos; simp only [manyO] at h1; omega
      | none =>
        rw [if_neg (by simp [betF])]
        simp only [folAllF, adjF]
        rw [show rootO none = sumF [] from rfl]; simp [eqB_self]
    · obtain ⟨p, s, e, a1, a2, a3⟩ := noR_at hs hm hk (by omega)
      rw [e, if_neg (by simp [betF, bl_def, a1]; exact fun h => a2 (ba_eq h))]
      simp only [folAllF, a3, adjF]
      rw [h0]; simp
  · obtain ⟨p, s, hp, e, a1, a3⟩ := noL_at hs hm hk (by omega)
    rw [e]
    by_cases h1 : findO t k = manyO t
    · rw [noR_none hk (by omega), if_neg (by simp [betF, bl_def, a1])]
      simp only [folAllF, a3, adjF]
      rw [h1]; simp
    · obtain ⟨p', s', e', b1, b2, b3⟩ := noR_at hs hm hk (by omega)
      rw [e', if_neg (by simp [betF, bl_def, a1, b1]; exact fun h => b2 (ba_eq h))]
      simp only [folAllF, a3, b3, adjF]
      have : ((findO t k : Int) == (findO t k : Int) - 1 + 1) = true := by rw [beq_iff_eq]; omega
      simp [this]
/-- the proof that a greater key is not there does not show that a key that is there is not -/
theorem absent_no {t : Option AvT} {k : ByteArray} {i : Nat} {p : KV} (hs : Srt (pairsO t)) (hm : manyO t ≤ 64) (hp : (pairsO t)[i]? = some p) (hk : getO t k = none) (hb : bl p.1 k = true) : verNF (rootO t) (sumF []) p.1 (noL t k) (noR t k) = some 23 := by
  have hi := (find_below hs hp k).1 hb
  obtain ⟨q, s, hq, e, _, _⟩ := noL_at hs hm hk (by omega)
  have hqp : bl q.1 p.1 = false := by
    cases hc : bl q.1 p.1 with
    | false => rfl
    | true =>
      have := (find_below hs hq p.1).1 hc
      rw [(find_place hs hp).1] at this
      omega
  unfold verNF
  rw [e, if_pos (.inr (.inr (by simp [betF, bl_def, hqp])))]
def nulB : ByteArray := { data := #[0] }
theorem bl_nul (k : ByteArray) : bl k (k ++ nulB) = true := by
  rw [bl_lt, ByteArray.toList_eq, ByteArray.toList_eq, ByteArray.data_append, Array.toList_append]
  show k.data.toList < k.data.toList ++ [0]
  induction k.data.toList with
  | nil => exact List.Lex.nil
  | cons a l ih => exact List.Lex.cons ih
end Go.Proofs.YtadolfacjolbkaaDoor
namespace Go.Proofs.YtadolfacjolbkaaDoor
set_option linter.unusedVariables false
set_option linter.unusedSimpArgs false
open Go.RowKit
set_option maxRecDepth 100000
set_option linter.unusedSimpArgs false
set_option linter.unusedVariables false
theorem StIn.lenN {w : World} {a : Option Addr} {n c : Nat} {l : List AvS} (h : StIn w (.slice a n c) l) : n = l.length := by
  obtain ⟨a', c', e⟩ := h.len
  injection e
def ExOk (P : PvP) (w : World) (e : Ending) (w' : World) : Prop := ∃ sa c, e = .returned (.tuple #[.agg (prC P (.slice sa P.steps.length c)), .nilIface]) ∧ StIn w' (.slice sa P.steps.length c) P.steps ∧ Below w.heap.size w w'
theorem exist_ok (va : Value) (t : Option AvT) (key : ByteArray) (P : PvP) (hP : exP t key = some P) (hm : manyO t ≤ 1099511627776) (w : World) (ht : TreeO w va t) : Calls Tryd.prog 45 #[va, .string key] w (ExOk P w) := by
  refine (exist_any va t key w ht hm).mono ?_
  rw [hP]
  rintro e w' ⟨sa, n, c, rfl, hst, hb⟩
  obtain rfl := hst.lenN
  exact ⟨sa, c, rfl, hst, hb⟩
def NoIn (w : World) (e : Ending) (w' : World) : Prop := ∃ a1 c1 a2 c2, e = .returned (.tuple #[.agg #[.slice a1 0 c1, .slice a2 0 c2], .iface 81 (.int .i64 9)]) ∧ Below w.heap.size w w'
theorem none_in (va : Value) (t : Option AvT) (key : ByteArray) (hP : (getO t key).isSome = true) (hm : manyO t ≤ 1099511627776) (hf : (findO t key : Int) ≤ 1099511627776) (w : World) (ht : TreeO w va t) : Calls Tryd.prog 46 #[va, .string key] w (NoIn w) := by
  refine (none8_any va t key w ht hm hf).mono ?_
  rintro e w' ⟨vl, vr, rfl, hl, hr, hb⟩
  have h1 : noL t key = [] := by unfold noL; rw [if_pos hP]
  have h2 : noR t key = [] := by unfold noR; rw [if_pos hP]
  rw [h1] at hl
  rw [h2] at hr
  obtain ⟨a1, c1, rfl, _⟩ := hl.len
  obtain ⟨a2, c2, rfl, _⟩ := hr.len
  rw [hP]
  exact ⟨a1, c1, a2, c2, rfl, hb⟩
def NoOut (L R : List PvP) (w : World) (e : Ending) (w' : World) : Prop := ∃ a1 c1 a2 c2, e = .returned (.tuple #[.agg #[.slice a1 L.length c1, .slice a2 R.length c2], .nilIface]) ∧ PrsIn w' (.slice a1 L.length c1) L ∧ PrsIn w' (.slice a2 R.length c2) R ∧ Below w.heap.size w w'
theorem none_out (va : Value) (t : Option AvT) (key : ByteArray) (hP : getO t key = none) (hm : manyO t ≤ 1099511627776) (hf : (findO t key : Int) ≤ 1099511627776) (w : World) (ht : TreeO w va t) : Calls Tryd.prog 46 #[va, .string key] w (NoOut (noL t key) (noR t key) w) := by
  refine (none8_any va t key w ht hm hf).mono ?_
  rintro e w' ⟨vl, vr, rfl, hl, hr, hb⟩
  obtain ⟨a1, c1, rfl, _⟩ := hl.len
  obtain ⟨a2, c2, rfl, _⟩ := hr.len
  rw [hP]
  exact ⟨a1, c1, a2, c2, rfl, hl, hr, hb⟩
def VeOk (o : Option Nat) (w : World) (e : Ending) (w' : World) : Prop := e = .returned (errV o) ∧ Below w.heap.size w w'
theorem verify_ok (R : Nat → Int) (key val : ByteArray) (p : PvP) (o : Option Nat) (ho : verF R key val p = o) (hz : p.key.size + p.val.size ≤ 140737488351232) (v : Value) (w : World) (he : Env w) (hst : StIn w v p.steps) :
    Calls Tryd.prog 19 #[.agg (rowOf .u8 32 R), .string key, .string val, .agg (prC p v)] w (VeOk o w) := by
  subst ho
  exact verify_any R key val p v w he hst hz
theorem verNone_ok (R : Nat → Int) (key : ByteArray) (L Rt : List PvP) (o : Option Nat) (ho : verNF R (sumF []) key L Rt = o) (hzl : ∀ p ∈ L, p.key.size + p.val.size ≤ 140737488351232) (hzr : ∀ p ∈ Rt, p.key.size + p.val.size ≤ 140737488351232) (vl vr : Value) (w : World) (he : Env w) (hl : PrsIn w vl L) (hr : PrsIn w vr Rt) :
    Calls Tryd.prog 22 #[.agg (rowOf .u8 32 R), .string key, .agg #[vl, vr]] w (VeOk o w) := by
  subst ho
  exact verNone_any R key vl vr L Rt w he hl hr hzl hzr
/-- a proof's pair is one of the tree's -/
theorem atP_mem {t : Option AvT} {i : Int} {p : PvP} (h : p ∈ atP t i) : (p.key, p.val) ∈ pairsO t := by
  unfold atP at h
  split at h
  · rename_i hc
    rw [List.mem_singleton.1 h]
    cases t with
    | none => have := hc.2; simp only [manyO] at this; omega
    | some t =>
      have hc' : 0 ≤ i ∧ i < (t.many : Int) := hc
      unfold atO
      dsimp only
      rw [if_pos hc']
      exact List.mem_of_getElem? (at_eq t i.toNat (by omega))
  · cases h
theorem noL_mem {t : Option AvT} {k : ByteArray} {p : PvP} (h : p ∈ noL t k) : (p.key, p.val) ∈ pairsO t := by
  unfold noL at h
  split at h
  · cases h
  · exact atP_mem h
theorem noR_mem {t : Option AvT} {k : ByteArray} {p : PvP} (h : p ∈ noR t k) : (p.key, p.val) ∈ pairsO t := by
  unfold noR at h
  split at h
  · cases h
  · exact atP_mem h
theorem prf_range {w : World} {g : Nat} {P : PvP} {v : Value} (h : w.heap[g]? = some (.cells (prC P v) 58 (0, 0))) : w.rangeAt g 0 (prC P v).toList := row_range h
end Go.Proofs.YtadolfacjolbkaaDoor
namespace Go.Proofs.YtadolfacjolbkaaDoor
set_option linter.unusedVariables false
set_option linter.unusedSimpArgs false
open Go.RowKit Go.Extern.Stop Go.Stop Go.Extern
set_option maxRecDepth 100000
set_option linter.unusedSimpArgs false
set_option linter.unusedVariables false
theorem num8_any (e : Option Nat) (w : World) (hg : ErrType w) :
    Calls Tryd.prog 18 #[errV e] w fun r w' => r = .returned (.int .i64 (numE e)) ∧ Below w.heap.size w w' := by
  cases e with
  | none =>
    show Calls Tryd.prog 18 #[.nilIface] w _
    go_enter Tryd.func18, Tryd.ntmps18
    go_wp2
    go_ret
    exact ⟨rfl, below_alloc w _⟩
  | some n =>
    show Calls Tryd.prog 18 #[.iface 81 (.int .i64 n)] w _
    have HB := Lib.hid (below_alloc w (.cells #[.int .i64 0] 81))
    have HE := Lib.hid (hg.below HB.out)
    have HA := Lib.hid (as_hit n ⟨w.heap.size, 0, none⟩ (.int .i64 0) (w.alloc (.cells #[.int .i64 0] 81)) HE.out (by rw [cell_of_row _ _ _ _ _ _ (heap_alloc_new w _)]; rfl) (frozen_of_row _ _ _ _ _ (heap_alloc_new w _)))
    have hb2 := asW_below (w.alloc (.cells #[.int .i64 0] 81)) ⟨w.heap.size, 0, none⟩ n
    have hh : (asW (w.alloc (.cells #[.int .i64 0] 81)) ⟨w.heap.size, 0, none⟩ n).heap[w.heap.size]? = some (.cells #[.int .i64 0] 81 (0, 0)) := (hb2.block _ (by simp)).trans (heap_alloc_new w _)
    have hc : ((asW (w.alloc (.cells #[.int .i64 0] 81)) ⟨w.heap.size, 0, none⟩ n).setCell ⟨w.heap.size, 0, none⟩ (.int .i64 n)).cell? ⟨w.heap.size, 0, none⟩ = some (.int .i64 n) := by
      have := heap_setCell_same _ w.heap.size 0 _ _ (.int .i64 n) hh
      rw [cell_of_row _ _ _ _ _ _ this]; rfl
    have HF := Lib.hid ((HB.out.trans (hb2.mono (by simp))).setCell (p := ⟨w.heap.size, 0, none⟩) (Nat.le_refl _) (.int .i64 (n : Int)))
    clear hb2 hh
    generalize (asW (w.alloc (.cells #[.int .i64 0] 81)) ⟨w.heap.size, 0, none⟩ n).setCell ⟨w.heap.size, 0, none⟩ (.int .i64 n) = w2 at *
    go_enter Tryd.func18, Tryd.ntmps18
    go_wp2_with (go_at_call 40; (with_reducible refine HA.out.mono ?_); rintro ev w3 ⟨rfl, rfl⟩)
    go_ret
    exact ⟨rfl, HF.out⟩
end Go.Proofs.YtadolfacjolbkaaDoor
