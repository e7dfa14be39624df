/- Part 6 of the proof. -/
import Derived.Test.YtfmfemmknccfmaaDoorPa35
import Derived.Test.YtfmfemmknccfmaaDoorPb4
import Derived.Test.YtfmfemmknccfmaaDoorPb5
namespace Go.Proofs.YtfmfemmknccfmaaDoor
set_option linter.unusedVariables false
set_option linter.unusedSimpArgs false
open Go.RowKit
set_option maxRecDepth 100000
set_option linter.unusedSimpArgs false
set_option linter.unusedVariables false
theorem gl8_hitmem (k v : ByteArray) : ∀ l : List KV, Srt l → (getL l k = some v ↔ (k, v) ∈ l)
  | [], _ => by simp [getL]
  | p :: l, h => by
    obtain ⟨h1, h2⟩ := List.pairwise_cons.1 h
    have ih := gl8_hitmem k v l h2
    unfold getL
    by_cases e : p.1 = k
    · rw [if_pos e]
      constructor
      · intro hv
        injection hv with hv
        obtain ⟨k', v'⟩ := p
        simp only at e hv
        subst e hv
        exact List.mem_cons_self
      · intro hm
        rcases List.mem_cons.1 hm with hm | hm
        · rw [← hm]
        · have := bl_ne (h1 _ hm)
          exact absurd e this
    · rw [if_neg e, ih, List.mem_cons]
      constructor
      · exact .inr
      · rintro (hm | hm)
        · exact absurd (by rw [← hm]) e
        · exact hm
theorem gl8_eq {t : Option AvT} (h : Srt (pairsO t)) (k : ByteArray) : getL (pairsO t) k = getO t k := by
  cases e : getO t k with
  | some v => exact (gl8_hitmem k v _ h).2 ((getO_mem h k v).1 e)
  | none =>
    cases e2 : getL (pairsO t) k with
    | none => rfl
    | some v =>
      have := (getO_mem h k v).2 ((gl8_hitmem k v _ h).1 e2)
      rw [e] at this; cases this
theorem pathO_in {t : Option AvT} {i : Nat} {p : KV} (h : (pairsO t)[i]? = some p) : pathO t (i : Int) = ((pathO t (i : Int)).1, none) ∧ atP t (i : Int) = [⟨p.1, p.2, (pathO t (i : Int)).1⟩] := by
  cases t with
  | none => simp [pairsO] at h
  | some t =>
    have hi : i < t.many := by rw [← AvT.many_eq]; exact (List.getElem?_eq_some_iff.1 h).1
    have he : t.at? i = p := Option.some.inj ((at_eq t i hi).symm.trans h)
    subst he
    have hc : (0 : Int) ≤ (i : Int) ∧ (i : Int) < (t.many : Int) := by omega
    constructor
    · unfold pathO; dsimp only; rw [if_pos hc]
    · unfold atP atO
      show (if 0 ≤ (i : Int) ∧ (i : Int) < (t.many : Int) then _ else _) = _
      rw [if_pos hc]
      dsimp only
      rw [if_pos hc]
      simp
/-- a key that is there: its place, its proof -/
theorem exP_in {t : Option AvT} (hs : Srt (pairsO t)) {k v : ByteArray} (h : getO t k = some v) : ∃ i, (pairsO t)[i]? = some (k, v) ∧ findO t k = i ∧ exP t k = some ⟨k, v, (pathO t (i : Int)).1⟩ := by
  obtain ⟨i, hi⟩ := List.mem_iff_getElem?.1 ((getO_mem hs k v).1 h)
  have hf := (find_place hs hi).1
  simp only at hf
  refine ⟨i, hi, hf, ?_⟩
  unfold exP
  rw [hf, (pathO_in hi).2]
  simp [exQ]
theorem atP_mem8 {t : Option AvT} {i : Int} {p : PvP} (h : p ∈ atP t i) : (p.key, p.val) ∈ pairsO t := by
  unfold atP at h
  split at h
  · rename_i hc
    rw [List.mem_singleton.1 h]
    cases t with
    | none => have := hc.2; simp only [manyO] at this; omega
    | some t =>
      have hc' : 0 ≤ i ∧ i < (t.many : Int) := hc
      unfold atO
      dsimp only
      rw [if_pos hc']
      exact List.mem_of_getElem? (at_eq t i.toNat (by omega))
  · cases h
theorem exP_out {t : Option AvT} (hs : Srt (pairsO t)) {k : ByteArray} (h : getO t k = none) : exP t k = none := by
  unfold exP
  cases hl : atP t (findO t k : Int) with
  | nil => rfl
  | cons p r =>
    show (if p.key = k then some p else none) = none
    rw [if_neg]
    rintro rfl
    have := (getO_mem hs p.key p.val).2 (atP_mem8 (i := (findO t p.key : Int)) (by rw [hl]; exact List.mem_cons_self))
    rw [h] at this
    cases this
/-- what lies in memory: a reference's tree in a variable, and the variable of the result -/
structure RfM (w0 w : World) (cs zs : Array Value) (T : TypeId) (t : Option AvT) : Prop where
  below : Below w0.heap.size w0 w
  h2 : w.heap[w0.heap.size]? = some (.cells cs 29 (0, 0))
  h4 : w.heap[w0.heap.size + 1]? = some (.cells zs T (0, 0))
  ro : RO w cs t
theorem RfM.call {w0 w w' : World} {cs zs : Array Value} {T : TypeId} {t : Option AvT} (m : RfM w0 w cs zs T t) (h : Below w.heap.size w w') : RfM w0 w' cs zs T t :=
  ⟨m.below.trans (h.mono m.below.size), (h.block _ (bk_lt m.h2)).trans m.h2, (h.block _ (bk_lt m.h4)).trans m.h4, m.ro.below h⟩
theorem rfM_start {w : World} {cs zs : Array Value} {T : TypeId} {t : Option AvT} (h : RO w cs t) : RfM w ((w.alloc (.cells cs 29)).alloc (.cells zs T)) cs zs T t := by
  have hb : Below w.heap.size w ((w.alloc (.cells cs 29)).alloc (.cells zs T)) := ((Below.refl _ w).alloc (Nat.le_refl _) _).alloc (by simp) _
  refine ⟨hb, ?_, ?_, h.below hb⟩
  · rw [heap_alloc_old _ _ (by simp), heap_alloc_new]
  · have := heap_alloc_new (w.alloc (.cells cs 29)) (.cells zs T)
    rw [size_alloc] at this; exact this
def prZ : Array Value := #[.string { data := #[] }, .string { data := #[] }, .slice none 0 0]
theorem kv_range {w : World} {b o : Nat} {p : KV} (h0 : w.cell? ⟨b, o, none⟩ = some (.string p.1)) (h1 : w.cell? ⟨b, o + 1, none⟩ = some (.string p.2)) : w.rangeAt b o (kvC p).toList := by
  intro j v hv
  rcases j with _ | _ | j
  · simp [kvC] at hv; subst hv; exact h0
  · simp [kvC] at hv; subst hv; exact h1
  · simp [kvC] at hv
theorem pr8_built (k v : ByteArray) (a : Option Addr) (n c : Nat) : Tryd.prog.built 57 [(0, .string k), (1, .string v), (2, .slice a n c)] = some #[.string k, .string v, .slice a n c] := by kernel_rfl
theorem st_stay {w : World} {v : Value} {l : List AvS} {q : Nat} {old new : Array Value} {T : TypeId} (h : StIn w v l) (hq : w.heap[q]? = some (.cells old T (0, 0))) (hno : ∀ (k : Nat) (b : Bool), old[k]? ≠ some (Value.bool b)) : StIn (w.setRow q new) v l := by
  obtain ⟨a, cap, rfl, hc, hm, hx⟩ := h
  refine ⟨a, cap, rfl, hc, hm, hx.imp id ?_⟩
  rintro ⟨ab, ao, rfl, hl, hr⟩
  refine ⟨ab, ao, rfl, by simpa [World.setRow] using hl, fun i s hi => ?_⟩
  have hne : ab ≠ q := fun e => by
    subst e
    have h0 := hr i s hi 0 (.bool s.sec) (by simp [AvS.cells, stC])
    rw [cell_of_row _ _ _ _ _ _ hq] at h0
    exact hno _ _ h0
  exact fun j v hv => (World.cell?_of_block (setRow_other _ _ _ _ hne)).trans (hr i s hi j v hv)
def At8Post (P : PvP) (w : World) (e : Ending) (w' : World) : Prop := ∃ sa c, e = .returned (.agg (prC P (.slice sa P.steps.length c))) ∧ StIn w' (.slice sa P.steps.length c) P.steps ∧ Below w.heap.size w w'
set_option maxHeartbeats 4000000 in
theorem rat8_any (t : Option AvT) (cs : Array Value) (i : Nat) (x : KV) (S : List AvS) (w : World) (he : Env w) (h : RO w cs t) (hp : (pairsO t)[i]? = some x) (hS : pathO t (i : Int) = (S, none)) (hm : manyO t ≤ 1048576) (hz : ∀ p ∈ pairsO t, p.1.size + p.2.size ≤ 1048576) :
    Calls Tryd.prog 57 #[.agg cs, .int .i64 (i : Int)] w (At8Post ⟨x.1, x.2, S⟩ w) := by
  have csZ := Lib.hid h.size
  have M := Lib.hid (rfM_start (zs := prZ) (T := 57) h)
  have HPA := Lib.hid (fun w h => rpairs_any t cs w h (by omega))
  have HPT := Lib.hid (fun w he h => rPath_any t cs (i : Int) w he h hm hz)
  rw [hS] at HPT
  obtain ⟨L, hL⟩ : ∃ L, L = pairsO t := ⟨_, rfl⟩
  rw [← hL] at HPA hp
  have hiI : (i : Int) < (L.length : Int) := by have := (List.getElem?_eq_some_iff.1 hp).1; omega
  have HP := Lib.hid hp
  have HE := Lib.hid he
  unfold PsPost at HPA
  unfold P7Post at HPT
  unfold At8Post
  clear h he hp hS hm hz hL
  go_enter Tryd.func57, Tryd.ntmps57
  go_upto_region 1 with (fail)
  have e0 : (w.alloc (.cells cs 29)).alloc (.cells #[.string { data := #[] }, .string { data := #[] }, .slice none 0 0] 57) = (w.alloc (.cells cs 29)).alloc (.cells prZ 57) := rfl
  rw [e0]
  clear e0
  generalize (w.alloc (.cells cs 29)).alloc (.cells prZ 57) = w1 at *
  go_upto_region 2 with (first
    | (refine wpList_load_row rfl 29 (.tmp 2) rfl w.heap.size rfl 29 _ (0, 0) _ M.out.h2 Tryd.underlying29 rfl (by rw [csZ.out]; kernel_rfl) ?_)
    | (go_at_call 53; (with_reducible refine (HPA.out _ M.out.ro).mono ?_); rintro e w2 ⟨r, rfl, ho, hb⟩; have HK := Lib.hid (KVIn.of_own ho); obtain ⟨ra, rc, rfl⟩ := HK.out.len; obtain ⟨b, off, rfl, hbl, q0, q1⟩ := HK.out.at i x HP.out; have HRG := Lib.hid (kv_range q0 q1); replace M := Lib.hid (M.out.call hb); clear ho hb q0 q1 hbl)
    | (refine wpList_load_rowsz (by rfl) 81 (.tmp 11) rfl b (off + i * 2) rfl (kvC x) _ HRG.out Tryd.underlying81 rfl (by kernel_rfl) ?_)
    | (refine wpList_store_row rfl 81 (.tmp 5) (.tmp 12) rfl w2.heap.size (kvC x) rfl rfl 81 _ (heap_alloc_new _ _) (by kernel_rfl) rfl (kvC_one _) ?_; rw [World.setRow_alloc_new]))
  have H5 := Lib.hid (heap_alloc_new w2 (.cells (kvC x) 81))
  replace M := Lib.hid (M.out.call (below_alloc w2 (.cells (kvC x) 81)))
  obtain ⟨g5, hg5⟩ : ∃ g, g = w2.heap.size := ⟨_, rfl⟩
  rw [← hg5] at H5 ⊢
  clear hg5 HK HRG
  generalize w2.alloc (.cells (kvC x) 81) = w3 at *
  go_upto_region 3 with (first
    | (refine wpList_load_row rfl 29 (.tmp 2) rfl w.heap.size rfl 29 _ (0, 0) _ M.out.h2 Tryd.underlying29 rfl (by rw [csZ.out]; kernel_rfl) ?_)
    | (go_at_call 89; (with_reducible refine (HPT.out _ (HE.out.below M.out.below HE.out.lt) M.out.ro).mono ?_); rintro e w4 ⟨v, rfl, ho, hb⟩; have HST := Lib.hid (StIn.of_own7 ho); replace H5 := Lib.hid ((hb.block _ (bk_lt H5.out)).trans H5.out); replace M := Lib.hid (M.out.call hb); clear ho hb))
  obtain ⟨sa, sc, rfl⟩ := HST.out.len
  have c0 : w4.cell? ⟨g5, 0, none⟩ = some (.string x.1) := cell_of_row w4 g5 0 _ _ _ H5.out
  have c1 : w4.cell? ⟨g5, 1, none⟩ = some (.string x.2) := cell_of_row w4 g5 1 _ _ _ H5.out
  have hbu := pr8_built x.1 x.2 sa S.length sc
  go_wp2_with (first
    | (refine wpList_store_row rfl 57 (.tmp 4) (.tmp 24) rfl (w.heap.size + 1) #[.string x.1, .string x.2, .slice sa S.length sc] rfl rfl 57 _ M.out.h4 (by kernel_rfl) rfl (by simp [Value.oneCell']) ?_))
  refine bodyPost_ret (results_cell_row rfl _ _ (w.heap.size + 1) 57 #[.string x.1, .string x.2, .slice sa S.length sc] (0, 0) _ rfl (setRow_heap _ _ _ _ _ _ M.out.h4) Tryd.underlying57 rfl (by kernel_rfl)) rfl ?_
  exact ⟨sa, sc, rfl, st_stay HST.out M.out.h4 (no_bool _ _ _ _ _), below_setRow M.out.below (by omega) _⟩
def REx (o : Option PvP) (w : World) (e : Ending) (w' : World) : Prop :=
  ∃ sa c, e = .returned (.tuple #[.agg (prC (o.getD eP) (.slice sa (o.getD eP).steps.length c)), .int .i64 (if o.isSome then 0 else 8)]) ∧ StIn w' (.slice sa (o.getD eP).steps.length c) (o.getD eP).steps ∧ Below w.heap.size w w'
set_option maxHeartbeats 4000000 in
theorem rexist_any (t : Option AvT) (cs : Array Value) (key : ByteArray) (w : World) (he : Env w) (h : RO w cs t) (hs : Srt (pairsO t)) (hm : manyO t ≤ 1048576) (hz : ∀ p ∈ pairsO t, p.1.size + p.2.size ≤ 1048576) :
    Calls Tryd.prog 21 #[.agg cs, .string key] w (REx (exP t key) w) := by
  have csZ := Lib.hid h.size
  have M := Lib.hid (rfM_start (zs := prZ) (T := 57) h)
  have HGE := Lib.hid (fun w h => rget_any t cs key w h (by omega))
  have HFI := Lib.hid (fun w h => rfind_any t cs key w h (by omega))
  have HE := Lib.hid he
  rw [gl8_eq hs] at HGE
  rw [← findO_lead hs] at HFI
  cases hg : getO t key with
  | none =>
    rw [exP_out hs hg]
    rw [hg] at HGE
    unfold REx
    clear hs hm hz h he hg
    go_enter Tryd.func21, Tryd.ntmps21
    go_upto_region 1 with (fail)
    have e0 : (w.alloc (.cells cs 29)).alloc (.cells #[.string { data := #[] }, .string { data := #[] }, .slice none 0 0] 57) = (w.alloc (.cells cs 29)).alloc (.cells prZ 57) := rfl
    rw [e0]
    clear e0
    generalize (w.alloc (.cells cs 29)).alloc (.cells prZ 57) = w1 at *
    go_wp2_with (first
      | (refine wpList_load_row rfl 29 (.tmp 2) rfl w.heap.size rfl 29 _ (0, 0) _ M.out.h2 Tryd.underlying29 rfl (by rw [csZ.out]; kernel_rfl) ?_)
      | (go_at_call 56; (with_reducible refine (HGE.out _ M.out.ro).mono ?_); rintro e w2 ⟨rfl, hb⟩; replace M := Lib.hid (M.out.call hb); clear hb)
      | (refine wpList_store_row rfl 57 (.tmp 4) (.tmp 16) rfl (w.heap.size + 1) prZ rfl rfl 57 _ M.out.h4 (by kernel_rfl) rfl (by simp [prZ, Value.oneCell']) ?_))
    refine bodyPost_ret (results_cell_tmp_row rfl _ _ (w.heap.size + 1) 57 prZ (0, 0) _ rfl (setRow_heap _ _ _ _ _ _ M.out.h4) Tryd.underlying57 rfl (by kernel_rfl)) rfl ?_
    exact ⟨none, 0, rfl, StIn.nil _, below_setRow M.out.below (by omega) _⟩
  | some v =>
    obtain ⟨i, hi, hf, hx⟩ := exP_in hs hg
    rw [hx]
    rw [hg] at HGE
    rw [hf] at HFI
    have HAT := Lib.hid (fun w he h => rat8_any t cs i (key, v) (pathO t (i : Int)).1 w he h hi (pathO_in hi).1 hm hz)
    obtain ⟨P, hP⟩ : ∃ P : PvP, P = ⟨key, v, (pathO t (i : Int)).1⟩ := ⟨_, rfl⟩
    rw [← hP] at HAT ⊢
    obtain ⟨G, hG⟩ : ∃ G, G = strO2 (some v) := ⟨_, rfl⟩
    rw [← hG] at HGE
    simp only [Option.isSome_some] at HGE
    unfold At8Post at HAT
    unfold REx
    simp only [Option.getD_some, Option.isSome_some, if_true]
    clear hs hm hz h he hg hi hf hx hP hG
    go_enter Tryd.func21, Tryd.ntmps21
    go_upto_region 1 with (fail)
    have e0 : (w.alloc (.cells cs 29)).alloc (.cells #[.string { data := #[] }, .string { data := #[] }, .slice none 0 0] 57) = (w.alloc (.cells cs 29)).alloc (.cells prZ 57) := rfl
    rw [e0]
    clear e0
    generalize (w.alloc (.cells cs 29)).alloc (.cells prZ 57) = w1 at *
    go_upto_region 4 with (first
      | (refine wpList_load_row rfl 29 (.tmp 2) rfl w.heap.size rfl 29 _ (0, 0) _ M.out.h2 Tryd.underlying29 rfl (by rw [csZ.out]; kernel_rfl) ?_)
      | (go_at_call 56; (with_reducible refine (HGE.out _ M.out.ro).mono ?_); rintro e w2 ⟨rfl, hb⟩; replace M := Lib.hid (M.out.call hb); clear hb))
    refine wp_region_T (fun w' => w'.rangeAt w.heap.size 0 cs.toList) [0, 1, 3, 4] (by kernel_rfl) ?_
    replace M := Lib.hid (M.out.call (Below.refl _ _).drew)
    generalize w2.drew = w3 at *
    refine anyT_takeY (i := 2) (v := .string key) rfl (by kernel_rfl) (by kernel_rfl) (by kernel_rfl) (fun _ _ _ h => h) (by kernel_rfl) (Or.inl ⟨by rfl, by intro w; go_simp⟩) ?_
    try simp only [List.getElem_toArray, List.getElem_cons_succ, List.getElem_cons_zero, Act.put, List.setIfInBounds_toArray, List.set_cons_zero, List.set_cons_succ]
    refine anyT_take [4, 5, 6] (i := 0) (v := .agg cs) rfl (by kernel_rfl) (by kernel_rfl) (by kernel_rfl) (fun _ _ _ h => h) (by kernel_rfl) (agg_mid (by rfl) 29 (.tmp 2) rfl w.heap.size 0 rfl _ _ (fun _ h => h) Tryd.underlying29 rfl (by rw [csZ.out]; kernel_rfl)) (row_range M.out.h2) ?_
    try simp only [List.getElem_toArray, List.getElem_cons_succ, List.getElem_cons_zero, Act.put, List.setIfInBounds_toArray, List.set_cons_zero, List.set_cons_succ]
    refine anyT_take [3, 4, 5, 6] (i := 1) (v := .agg cs) rfl (by kernel_rfl) (by kernel_rfl) (by kernel_rfl) (fun _ _ _ h => h) (by kernel_rfl) (agg_mid (by rfl) 29 (.tmp 2) rfl w.heap.size 0 rfl _ _ (fun _ h => h) Tryd.underlying29 rfl (by rw [csZ.out]; kernel_rfl)) (row_range M.out.h2) ?_
    try simp only [List.getElem_toArray, List.getElem_cons_succ, List.getElem_cons_zero, Act.put, List.setIfInBounds_toArray, List.set_cons_zero, List.set_cons_succ]
    refine anyT_one (i := 3) (by kernel_rfl) rfl (fun K hK => ?_)
    rw [if_pos (by rfl)]
    try simp only [List.getElem_toArray, List.getElem_cons_succ, List.getElem_cons_zero]
    (go_simp; refine (HFI.out _ M.out.ro).mono ?_; rintro e w4 ⟨rfl, hb⟩; replace M := Lib.hid (M.out.call hb); clear hb)
    refine hK _ _ (fun _ => row_range M.out.h2) ?_
    clear hK K
    try simp only [List.getElem_toArray, List.getElem_cons_succ, List.getElem_cons_zero, Act.put, List.setIfInBounds_toArray, List.set_cons_zero, List.set_cons_succ]
    refine anyT_one (i := 4) (by kernel_rfl) rfl (fun K hK => ?_)
    rw [if_pos (by rfl)]
    try simp only [List.getElem_toArray, List.getElem_cons_succ, List.getElem_cons_zero]
    (go_simp; refine (HAT.out _ (HE.out.below M.out.below HE.out.lt) M.out.ro).mono ?_; rintro e w5 ⟨sa, sc, rfl, hst, hb⟩; have HST := Lib.hid hst; replace M := Lib.hid (M.out.call hb); clear hst hb)
    refine hK _ _ (fun _ => row_range M.out.h2) ?_
    clear hK K
    try simp only [List.getElem_toArray, List.getElem_cons_succ, List.getElem_cons_zero, Act.put, List.setIfInBounds_toArray, List.set_cons_zero, List.set_cons_succ]
    refine anyT_one (i := 5) (by kernel_rfl) rfl (fun K hK => ?_)
    rw [if_pos (by rfl)]
    try simp only [List.getElem_toArray, List.getElem_cons_succ, List.getElem_cons_zero]
    (refine wp_store_row 57 (.tmp 4) (.tmp 21) rfl (w.heap.size + 1) (prC P (.slice sa P.steps.length sc)) rfl rfl 57 _ M.out.h4 (by kernel_rfl) rfl (prC_one _ _ _ _) ?_)
    refine hK _ _ (not_mem rfl) ?_
    clear hK K
    try simp only [List.getElem_toArray, List.getElem_cons_succ, List.getElem_cons_zero, Act.put, List.setIfInBounds_toArray, List.set_cons_zero, List.set_cons_succ]
    refine anyT_takeY (i := 6) (v := .int .i64 0) rfl (by kernel_rfl) (by kernel_rfl) (by kernel_rfl) (fun _ _ _ h => h) (by kernel_rfl) (Or.inl ⟨by rfl, by intro w; go_simp⟩) ?_
    try simp only [List.getElem_toArray, List.getElem_cons_succ, List.getElem_cons_zero, Act.put, List.setIfInBounds_toArray, List.set_cons_zero, List.set_cons_succ]
    refine anyT_done (by kernel_rfl) ?_ _
    go_wp2_with (fail)
    refine bodyPost_ret (results_cell_tmp_row rfl _ _ (w.heap.size + 1) 57 (prC P (.slice sa P.steps.length sc)) (0, 0) _ rfl (setRow_heap _ _ _ _ _ _ M.out.h4) Tryd.underlying57 rfl (by kernel_rfl)) rfl ?_
    exact ⟨sa, sc, rfl, st_stay HST.out M.out.h4 (no_bool _ _ _ _ _), below_setRow M.out.below (by omega) _⟩
end Go.Proofs.YtfmfemmknccfmaaDoor
