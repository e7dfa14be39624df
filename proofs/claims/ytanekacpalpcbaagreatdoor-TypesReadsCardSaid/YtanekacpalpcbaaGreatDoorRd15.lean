/- Part 15 of the proof. -/
import Derived.Great.BuildSlice
import Derived.Test.YtanekacpalpcbaaGreatDoorRd4
import Derived.Test.YtanekacpalpcbaaGreatDoorRd5
import Derived.Test.YtanekacpalpcbaaGreatDoorRd14
namespace Go.Proofs.YtanekacpalpcbaaGreatDoor
set_option linter.unusedVariables false
set_option linter.unusedSimpArgs false
open Go.RowKit
set_option maxRecDepth 100000
set_option maxRecDepth 100000 in
set_option maxHeartbeats 1000000 in
theorem rhash_own (p : Nat) (y : Value) (ys : List Int) (e : Option Nat) (w : World) (h : RAt w p y ys e) :
    Calls Tryz.prog 186 #[.pointer (some ⟨p, 0, none⟩)] w fun r w' => r = .returned (.agg (rowOf .u8 32 (hashS (ys, e)).1)) ∧ (∃ y', RAt w' p y' (hashS (ys, e)).2.1 (hashS (ys, e)).2.2 ∧ y'.ownBlock = y.ownBlock) ∧ Only p w w' := by
  have HB := Lib.hid ((below_alloc w (.cells (rowOf .u8 32 (fun _ => 0)) 65)).trans ((below_alloc (w.alloc (.cells (rowOf .u8 32 (fun _ => 0)) 65)) (.cells (rowOf .u8 32 (fun _ => 0)) 65)).mono (by simp)))
  have HR := h.below HB.out
  have HQ1 := (RowAt.new w .u8 32 65 (fun _ => 0)).alloc (.cells (rowOf .u8 32 (fun _ => 0)) 65)
  have HQ2 := RowAt.new (w.alloc (.cells (rowOf .u8 32 (fun _ => 0)) 65)) .u8 32 65 (fun _ => 0)
  rw [size_alloc] at HQ2
  have HP : p < w.heap.size := h.lt
  have H0 := Lib.hid h
  replace HR := Lib.hid HR
  replace HQ1 := Lib.hid HQ1
  replace HQ2 := Lib.hid HQ2
  clear h
  go_enter Tryz.func186, Tryz.ntmps186
  go_upto_region 2 with (fail)
  rw [zerosPk]
  generalize (w.alloc (.cells (rowOf .u8 32 (fun _ => 0)) 65)).alloc (.cells (rowOf .u8 32 (fun _ => 0)) 65) = w1 at *
  have HE := Lib.hid (err_any p y ys e w1 HR.out)
  have hc0 := HR.out.cell0
  have hc1 := HR.out.cell1
  have hf := HR.out.free 1
  obtain ⟨a, c, rfl, hle⟩ := HR.out.wide
  have HLE := Lib.hid hle
  clear hle
  cases e with
  | some x =>
    simp only [errV] at HE hc1
    go_wp2_with (first
      | (go_at_call 198; (with_reducible refine HE.out.mono ?_); rintro e w2 ⟨rfl, rfl⟩)
      | (refine wpList_load_row rfl 65 (.tmp 3) rfl (w.heap.size + 1) rfl 65 _ (0, 0) _ HQ2.out Tryz.underlying65 rfl (by rw [rowOf_size]; kernel_rfl) ?_)
      | (refine wpList_store_row rfl 65 (.tmp 2) (.tmp 7) rfl w.heap.size _ rfl rfl 65 _ HQ1.out (by rw [rowOf_size]; kernel_rfl) (by simp only [rowOf_size]) (rowOf_one _ _ _) ?_))
    refine bodyPost_ret (results_cell_row rfl _ _ w.heap.size 65 (rowOf .u8 32 (fun _ => 0)) (0, 0) _ rfl (setRow_heap _ _ _ _ _ _ HQ1.out) Tryz.underlying65 rfl (by rw [rowOf_size]; kernel_rfl)) rfl ?_
    rw [hashS_err]
    exact ⟨rfl, ⟨_, H0.out.below (below_setRow HB.out (Nat.le_refl _) _), rfl⟩, Only.of_below (below_setRow HB.out (Nat.le_refl _) _)⟩
  | none =>
    simp only [errV] at HE hc1
    by_cases hs : ys.length < 32
    · have HS := Lib.hid (hashS_short hs)
      have hs1 : (ys.length : Int) < 32 := by omega
      have HW := Lib.hid (HR.out.err (some 12))
      have HQ2' := Lib.hid (HQ2.out.other ⟨p, 1, none⟩ (errV (some 12)) (show w.heap.size + 1 ≠ p by omega))
      have HQ1' := Lib.hid (HQ1.out.other ⟨p, 1, none⟩ (errV (some 12)) (show w.heap.size ≠ p by omega))
      have HO := Lib.hid ((Only.of_below HB.out).trans (Only.setCell w1 ⟨p, 1, none⟩ (errV (some 12))))
      simp only [errV] at HW HQ1' HQ2' HO
      clear HQ1 HQ2
      go_wp2_with (first
        | (go_at_call 198; (with_reducible refine HE.out.mono ?_); rintro e w2 ⟨rfl, rfl⟩)
        | (refine wpList_load_row rfl 65 (.tmp 3) rfl (w.heap.size + 1) rfl 65 _ (0, 0) _ HQ2'.out Tryz.underlying65 rfl (by rw [rowOf_size]; kernel_rfl) ?_)
        | (refine wpList_store_row rfl 65 (.tmp 2) (.tmp 18) rfl w.heap.size _ rfl rfl 65 _ HQ1'.out (by rw [rowOf_size]; kernel_rfl) (by simp only [rowOf_size]) (rowOf_one _ _ _) ?_))
      refine bodyPost_ret (results_cell_row rfl _ _ w.heap.size 65 (rowOf .u8 32 (fun _ => 0)) (0, 0) _ rfl (setRow_heap _ _ _ _ _ _ HQ1'.out) Tryz.underlying65 rfl (by rw [rowOf_size]; kernel_rfl)) rfl ?_
      rw [HS.out]
      refine ⟨rfl, ⟨_, HW.out.keep (setRow_other _ _ _ _ (by omega)) fun hn k hk => setRow_other _ _ _ _ ?_, rfl⟩, HO.out.behind (Nat.le_refl _) _⟩
      have := H0.out.own_lt hn k hk; omega
    · have hs1 : ¬ (ys.length : Int) < 32 := by omega
      have HS := Lib.hid (hashS_long hs)
      go_upto_region 7 with (go_at_call 198; (with_reducible refine HE.out.mono ?_); rintro e w2 ⟨rfl, rfl⟩)
      obtain ⟨w3, hw3⟩ : ∃ w3, w3 = w2.drew := ⟨_, rfl⟩
      have HR3 := Lib.hid (show RAt w3 p (.slice a ys.length c) ys none by rw [hw3]; exact HR.out.keep rfl fun _ _ _ => rfl)
      have HQ13 := Lib.hid (show RowAt w3 w.heap.size .u8 32 65 (fun _ => 0) by rw [hw3]; exact HQ1.out)
      have HQ23 := Lib.hid (show RowAt w3 (w.heap.size + 1) .u8 32 65 (fun _ => 0) by rw [hw3]; exact HQ2.out)
      have HO3 := Lib.hid (show Only p w w3 by rw [hw3]; exact (Only.of_below HB.out).trans (Only.drew _ _))
      refine wp_region_any (by kernel_rfl) ?_
      change wpAny _ _ _ _ _ _ _ w2.drew
      rw [← hw3]
      clear hw3
      refine wpAny_take (i := 0) (v := .slice (some ⟨w.heap.size + 1, 0, none⟩) 32 32) rfl (by kernel_rfl) (by kernel_rfl) (by kernel_rfl) (fun _ _ _ h => h) (Or.inl ⟨by rfl, by intro w; go_simp⟩) ?_
      try simp only [List.getElem_toArray, List.getElem_cons_zero, Act.put, List.setIfInBounds_toArray, List.set_cons_zero, List.set_cons_succ]
      refine wpAny_take (i := 1) (v := .pointer (some ⟨p, 0, none⟩)) rfl (by kernel_rfl) (by kernel_rfl) (by kernel_rfl) (fun _ _ _ h => h) (Or.inl ⟨by rfl, by intro w; go_simp⟩) ?_
      try simp only [List.getElem_toArray, List.getElem_cons_succ, List.getElem_cons_zero, Act.put, List.setIfInBounds_toArray, List.set_cons_zero, List.set_cons_succ]
      refine wpAny_ready (rs := [2]) (by kernel_rfl) (by simp) ?_; refine AllReady.cons rfl (fun K hK => ?_) AllReady.nil; rw [if_pos (by rfl)]
      try simp only [List.getElem_toArray, List.getElem_cons_succ, List.getElem_cons_zero]
      go_simp
      have ht := take_any p _ ys none 32 w3 HR3.out (by omega)
      rw [show ((32 : Nat) : Int) = 32 from rfl] at ht
      refine ht.mono ?_
      rintro e w4 ⟨a1, c1, y1, rfl, hi1, hn1, hr1, ho1, hy1⟩
      have hl32 : (ys.take 32).length = 32 := by rw [List.length_take]; omega
      obtain ⟨a1', c1', e1, _, _, hx1⟩ := hi1
      rw [hl32] at e1
      injection e1 with e1 _ e3
      subst e1 e3
      obtain ⟨ab, ao, rfl, hx2⟩ := hx1.resolve_left (by intro h0; rw [h0] at hl32; simp at hl32)
      clear hx1 hn1
      refine hK _ _ ?_
      clear hK K
      try simp only [List.getElem_toArray, List.getElem_cons_succ, List.getElem_cons_zero, Act.put, List.setIfInBounds_toArray, List.set_cons_zero, List.set_cons_succ]
      refine wpAny_ready (rs := [3]) (by kernel_rfl) (by simp) ?_; refine AllReady.cons rfl (fun K hK => ?_) AllReady.nil; rw [if_pos (by rfl)]
      try simp only [List.getElem_toArray, List.getElem_cons_succ, List.getElem_cons_zero]
      have hq4 : RowAt w4 (w.heap.size + 1) .u8 32 65 (fun _ => 0) := (ho1.block _ HQ23.out.lt (by omega)).trans HQ23.out
      have hq5 : RowAt w4 w.heap.size .u8 32 65 (fun _ => 0) := (ho1.block _ HQ13.out.lt (by omega)).trans HQ13.out
      have hcp := run_copy_row (P := Tryz.prog) w4 34 34 3 5 (w.heap.size + 1) 0 32 32 ⟨ab, ao, none⟩ 32 c1 _ 65 (byteVals (ys.take 32)) Tryz.underlying34 (by kernel_rfl) hq4 (by rw [byteVals_length, hl32]; rfl) (fun j v hv => by
          rw [Addr.add_mid]
          simp only [byteVals, List.getElem?_map] at hv
          cases hj : (ys.take 32)[j]? with
          | none => rw [hj] at hv; cases hv
          | some x => rw [hj] at hv; cases hv; exact hx2 j x hj) (by rw [byteVals_length, hl32, rowOf_size]; omega) (byteVals_one _)
      rw [copied32 _ ys hs] at hcp
      have HQ2 : Hid (RowAt (w4.setRow (w.heap.size + 1) (rowOf .u8 32 (fun i => ys.getD i 0))) (w.heap.size + 1) .u8 32 65 (fun i => ys.getD i 0)) := Lib.hid (setRow_heap _ _ _ _ _ _ hq4)
      have HQ1 : Hid (RowAt (w4.setRow (w.heap.size + 1) (rowOf .u8 32 (fun i => ys.getD i 0))) w.heap.size .u8 32 65 (fun _ => 0)) := Lib.hid ((setRow_other _ _ _ _ (by omega)).trans hq5)
      have hne : ∀ g, w.heap.size ≤ g → ys.drop 32 ≠ [] → ∀ k, y1.ownBlock = some k → k ≠ g := fun g hg hn k hk => by
        rw [hy1] at hk
        have := H0.out.own_lt (by rintro rfl; simp at hn) k hk
        omega
      have HW := Lib.hid (show RAt (w4.setRow (w.heap.size + 1) (rowOf .u8 32 (fun i => ys.getD i 0))) p y1 (ys.drop 32) none from
        hr1.keep (setRow_other _ _ _ _ (by omega)) fun hn k hk => setRow_other _ _ _ _ (hne _ (Nat.le_succ _) hn k hk))
      have HO := Lib.hid ((HO3.out.trans ho1).behind (g := w.heap.size + 1) (Nat.le_succ _) (rowOf .u8 32 (fun i => ys.getD i 0)))
      refine wp_copy_at w4 (.tmp 19) (.tmp 21) 34 34 rfl rfl _ _ rfl rfl hcp ?_
      clear hcp hq4 hq5 hr1 ho1 hx2 HQ13 HQ23 HR3 HO3 ht
      generalize w4.setRow (w.heap.size + 1) (rowOf .u8 32 (fun i => ys.getD i 0)) = w5 at *
      refine hK _ _ ?_
      clear hK K
      try simp only [Act.put, List.setIfInBounds_toArray, List.set_cons_zero, List.set_cons_succ]
      refine wpAny_done (by kernel_rfl) ?_ _
      go_wp2_with (first
        | (refine wpList_load_row rfl 65 (.tmp 3) rfl (w.heap.size + 1) rfl 65 _ (0, 0) _ HQ2.out Tryz.underlying65 rfl (by rw [rowOf_size]; kernel_rfl) ?_)
        | (refine wpList_store_row rfl 65 (.tmp 2) (.tmp 23) rfl w.heap.size _ rfl rfl 65 _ HQ1.out (by rw [rowOf_size]; kernel_rfl) (by simp only [rowOf_size]) (rowOf_one _ _ _) ?_))
      refine bodyPost_ret (results_cell_row rfl _ _ w.heap.size 65 (rowOf .u8 32 (fun i => ys.getD i 0)) (0, 0) _ rfl (setRow_heap _ _ _ _ _ _ HQ1.out) Tryz.underlying65 rfl (by rw [rowOf_size]; kernel_rfl)) rfl ?_
      rw [HS.out]
      exact ⟨rfl, ⟨_, HW.out.keep (setRow_other _ _ _ _ (by omega)) fun hn k hk => setRow_other _ _ _ _ (hne _ (Nat.le_refl _) hn k hk), hy1⟩, HO.out.behind (Nat.le_refl _) _⟩
end Go.Proofs.YtanekacpalpcbaaGreatDoor
namespace Go.Proofs.YtanekacpalpcbaaGreatDoor
set_option linter.unusedVariables false
set_option linter.unusedSimpArgs false
open Go.RowKit
set_option maxRecDepth 100000
set_option linter.unusedSimpArgs false
set_option linter.unusedVariables false
theorem hashO11 (p : Nat) (ob : Option Nat) (s : RSt) (w : World) (h : RO w p ob s) :
    Calls Tryz.prog 186 #[.pointer (some ⟨p, 0, none⟩)] w fun r w' => r = .returned (.agg (rowOf .u8 32 (hashS s).1)) ∧ RO w' p ob (hashS s).2 ∧ Only p w w' := by
  obtain ⟨ys, e⟩ := s
  obtain ⟨y, hy, rfl⟩ := h
  exact rhash_own p y ys e w hy
theorem intE11 {s : RSt} (h : s.1 = []) : (intS s).2.1 = [] := by
  obtain ⟨ys, e⟩ := s
  simp only at h
  subst h
  unfold intS
  cases e with
  | some x => rfl
  | none =>
    cases hr : (rdF [] 18446744073709551615).2.2 with
    | some x => rw [uintS_bad hr]
    | none => rw [uintS_good hr]; simp
theorem hashE11 {s : RSt} (h : s.1 = []) : (hashS s).2.1 = [] := by
  obtain ⟨ys, e⟩ := s
  simp only at h
  subst h
  cases e <;> rfl
theorem partE11 {s : RSt} {most : Int} (h : s.1 = []) : (partS s most).2.1 = [] := by
  obtain ⟨ys, e⟩ := s
  simp only at h
  subst h
  unfold partS
  cases e with
  | some x => rfl
  | none =>
    simp only
    split
    · rfl
    · split
      · rfl
      · split
        · rfl
        · split
          · rfl
          · simp
theorem cntE11 {s : RSt} {most : Nat} (h : s.1 = []) : (countS s most).2.1 = [] := by
  obtain ⟨ys, e⟩ := s
  simp only at h
  subst h
  cases e with
  | some x => rw [countS_bad (x := x) rfl]
  | none =>
    cases hr : (rdF [] most).2.2 with
    | some x => rw [countS_bad (x := x) (by rw [uintS_bad hr])]
    | none =>
      have hu := uintS_good hr
      by_cases hl : (uintS ([], none) most).2.1.length < (uintS ([], none) most).1
      · rw [countS_long (by rw [hu]) hl]
      · rw [countS_good (by rw [hu]) hl, hu]; simp
/-- behind a vote -/
def vt5 (s : RSt) : RSt := (intS (hashS (intS (intS (intS s).2).2).2).2).2
def vtR (s : RSt) : RSt := (partS (vt5 s) 65536).2
def vtG (s : RSt) : List Int := (partS (vt5 s) 65536).1
def vtV (s : RSt) (sv : Value) : Vo := ⟨(intS s).1, (intS (intS s).2).1, (intS (intS (intS s).2).2).1, (hashS (intS (intS (intS s).2).2).2).1, (intS (hashS (intS (intS (intS s).2).2).2).2).1, sv, vtG s⟩
theorem vtE11 {s : RSt} (h : s.1 = []) : (vtR s).1 = [] := partE11 (intE11 (hashE11 (intE11 (intE11 (intE11 h)))))
/-- k votes on -/
def vtN : Nat → RSt → RSt
  | 0, s => s
  | k + 1, s => vtR (vtN k s)
theorem vtNE11 {s : RSt} (h : s.1 = []) : ∀ k, (vtN k s).1 = []
  | 0 => h
  | k + 1 => vtE11 (vtNE11 h k)
def vtsF : Nat → RSt → List Value → List Vo
  | _, _, [] => []
  | k, s, v :: r => vtV (vtN k s) v :: vtsF (k + 1) s r
/-- the votes read, whose signatures are these slices -/
def vts (s : RSt) (l : List Value) : List Vo := vtsF 0 s l
theorem vtsF_snoc (s : RSt) (v : Value) : ∀ (l : List Value) (k : Nat), vtsF k s (l ++ [v]) = vtsF k s l ++ [vtV (vtN (k + l.length) s) v]
  | [], k => rfl
  | x :: r, k => by
    have := vtsF_snoc s v r (k + 1)
    rw [List.cons_append, vtsF, this, List.length_cons, show k + 1 + r.length = k + (r.length + 1) by omega]; rfl
theorem vts_snoc (s : RSt) (v : Value) (l : List Value) : vts s (l ++ [v]) = vts s l ++ [vtV (vtN l.length s) v] := by
  have := vtsF_snoc s v l 0
  rwa [Nat.zero_add] at this
theorem vtsF_len (s : RSt) : ∀ (l : List Value) (k : Nat), (vtsF k s l).length = l.length
  | [], k => rfl
  | x :: r, k => by rw [vtsF, List.length_cons, List.length_cons, vtsF_len s r]
theorem vts_len (s : RSt) (l : List Value) : (vts s l).length = l.length := vtsF_len s l 0
/-- k slices of bytes on -/
def txN : Nat → RSt → RSt
  | 0, s => s
  | k + 1, s => (partS (txN k s) 65536).2
theorem txNE11 {s : RSt} (h : s.1 = []) : ∀ k, (txN k s).1 = []
  | 0 => h
  | k + 1 => partE11 (txNE11 h k)
def txsF : Nat → RSt → List Value → List Tb
  | _, _, [] => []
  | k, s, v :: r => ⟨v, (partS (txN k s) 65536).1⟩ :: txsF (k + 1) s r
def txs (s : RSt) (l : List Value) : List Tb := txsF 0 s l
theorem txsF_snoc (s : RSt) (v : Value) : ∀ (l : List Value) (k : Nat), txsF k s (l ++ [v]) = txsF k s l ++ [⟨v, (partS (txN (k + l.length) s) 65536).1⟩]
  | [], k => rfl
  | x :: r, k => by
    have := txsF_snoc s v r (k + 1)
    rw [List.cons_append, txsF, this, List.length_cons, show k + 1 + r.length = k + (r.length + 1) by omega]; rfl
theorem txs_snoc (s : RSt) (v : Value) (l : List Value) : txs s (l ++ [v]) = txs s l ++ [⟨v, (partS (txN l.length s) 65536).1⟩] := by
  have := txsF_snoc s v l 0
  rwa [Nat.zero_add] at this
theorem txsF_len (s : RSt) : ∀ (l : List Value) (k : Nat), (txsF k s l).length = l.length
  | [], k => rfl
  | x :: r, k => by rw [txsF, List.length_cons, List.length_cons, txsF_len s r]
theorem txs_len (s : RSt) (l : List Value) : (txs s l).length = l.length := txsF_len s l 0
/-- a slice of rows of one's own -/
theorem flat_len {α : Type} {n : Nat} {C : α → List Value} (hC : ∀ t, (C t).length = n) : ∀ l : List α, (l.flatMap C).length = l.length * n
  | [] => by simp
  | x :: r => by rw [List.flatMap_cons, List.length_append, hC, flat_len hC r, List.length_cons, Nat.add_mul, Nat.one_mul, Nat.add_comm]
theorem flat_get {α : Type} {n : Nat} {C : α → List Value} (hC : ∀ t, (C t).length = n) : ∀ (l : List α) (i : Nat) (t : α), l[i]? = some t → ∀ j, j < n → (l.flatMap C)[i * n + j]? = (C t)[j]?
  | [], i, t, h, j, hj => by simp at h
  | x :: l, 0, t, h, j, hj => by
    injection h with h; subst h
    rw [List.flatMap_cons, Nat.zero_mul, Nat.zero_add, List.getElem?_append_left (by rw [hC]; exact hj)]
  | x :: l, i + 1, t, h, j, hj => by
    rw [List.flatMap_cons, List.getElem?_append_right (by rw [hC, Nat.add_mul]; omega), hC, show (i + 1) * n + j - n = i * n + j from by rw [Nat.add_mul]; omega]
    exact flat_get hC l i t (by simpa using h) j hj
theorem rows_of_own {α : Type} {n : Nat} {C : α → List Value} (hC : ∀ t, (C t).length = n) {w : World} {B : Nat} {E : TypeId} {v : Value} {l : List α} (h : w.ownsRow B E n v l.length (l.flatMap C)) (hm : l.length ≤ maxLen) : RowsIn n C w v l := by
  rcases h.2 with ⟨rfl, h0⟩ | ⟨tb, cap, cur, rfl, _, hh, hc, hm2, _⟩
  · obtain rfl := List.eq_nil_of_length_eq_zero h0
    exact ⟨none, 0, rfl, by simp, hm, .inl rfl⟩
  · refine ⟨_, cap, rfl, hc, hm, .inr ⟨tb, 0, rfl, (Array.getElem?_eq_some_iff.1 hh).1, fun i p hi j u hu => ?_⟩⟩
    have hj : j < n := by have := (List.getElem?_eq_some_iff.1 hu).1; rw [hC] at this; exact this
    have e := h.cells (g := tb) rfl (i * n + j) u ((flat_get hC l i p hi j hj).trans hu)
    rw [Addr.add_mid] at e
    rw [Nat.add_assoc]; exact e
theorem own_slice11 {w : World} {base n m : Nat} {ty : TypeId} {v : Value} {vs : List Value} (h : w.ownsRow base ty n v m vs) : ∃ a c, v = .slice a m c := by
  rcases h.2 with ⟨rfl, h0⟩ | ⟨g, c, _, rfl, _⟩
  · exact ⟨none, 0, by rw [h0]⟩
  · exact ⟨_, c, rfl⟩
theorem own_stay11 {w w' : World} {base n m : Nat} {ty : TypeId} {v : Value} {vs : List Value} (h : w.ownsRow base ty n v m vs) (hw : ∀ k, v.ownBlock = some k → w'.heap[k]? = w.heap[k]?) : w'.ownsRow base ty n v m vs := by
  refine ⟨h.1, h.2.imp id ?_⟩
  rintro ⟨g, cap, cur, rfl, hg, hh, h2⟩
  exact ⟨g, cap, cur, rfl, hg, (hw g rfl).trans hh, h2⟩
theorem wpList_append_row11 {α : Type} {n bytes : Nat} {C : α → List Value} (hC : ∀ t, (C t).length = n) (T E : TypeId) (z : Value) (hT : Tryz.prog.underlying T = some (.slice E)) (hI : (Tryz.prog.info? E).map (fun i => (i.zero, i.size, i.bytes)) = some (some z, n, bytes)) (hz : z.cells.size = n) (hn : 0 < n)
    {w : World} {ops : Array Oper} {rest : List Oper} {o : Oper} {a : Act} {Q : Exit → Act → World → Prop} (hgd : o.guard = none) (s y : Operand)
    (ho : o.op = .call { callee := .builtin .append, args := #[s, y], argTypes := #[T, T] }) (hty : o.type = T)
    (base : Nat) (v : Value) (l : List α) (hs : a.eval s = v) (hown : w.ownsRow base E n v l.length (l.flatMap C)) (b : Nat) (x : α) (h1 : ∀ u ∈ C x, u.oneCell' = true) (hy : a.eval y = .slice (some ⟨b, 0, none⟩) 1 1) (hyb : w.heap[b]? = some (.cells (C x).toArray E (0, 0))) (hl : (l.length + 1) * bytes ≤ 140737488355328) (hl2 : l.length < 1048576) (hb : base ≤ w.heap.size)
    (h : ∀ v' w', w'.ownsRow base E n v' (l ++ [x]).length ((l ++ [x]).flatMap C) → w.grownBy w' v.ownBlock → (v'.ownBlock = v.ownBlock ∨ v'.ownBlock = some w.heap.size) → wpList Tryz.prog ops Q rest (a.put o.dst v') w') : wpList Tryz.prog ops Q (o :: rest) a w := by
  refine wpList_plain hgd fun K hK => ?_
  obtain ⟨i0, hi, hz0, hz1, hz2⟩ := info_parts hI
  obtain ⟨v', w', hr, h2, h3, _, h4⟩ := run_append_own_at w base T T E i0 z n bytes hT hi hz0 hz1 hz2 hz hn v l.length (l.flatMap C) hown ⟨b, 0, none⟩ 1 1 (C x) (by rw [hC]; omega)
    (fun j u hj => by rw [Addr.add_mid, Nat.zero_add, cell_of_row w b j _ _ _ hyb]; simpa using hj) h1 (by unfold maxLen; omega) hl hb
  unfold Oper.wp execOp
  simp only [ho, hty, resolve, invoke, builtin, Sem.run_bind, Sem.run_pure, Result.andThen_ok, List.map_toArray, List.map_cons, List.map_nil, hs, hy, hr]
  refine hK _ _ (h v' w' ?_ h3 h4)
  rw [List.length_append, List.flatMap_append, show [x].flatMap C = C x from by simp]
  exact h2
theorem only_setRow11 (w : World) (q : Nat) (cs : Array Value) : Only q w (w.setRow q cs) := ⟨rfl, rfl, rfl, by simp [World.setRow], fun k hk hg => setRow_other _ _ _ _ hg⟩
theorem RowsIn.only {α : Type} {n : Nat} {C : α → List Value} {w w' : World} {v : Value} {l : List α} {p : Nat} (h : RowsIn n C w v l) (ho : Only p w w') (hn : ∀ k, v.ownBlock = some k → k ≠ p) : RowsIn n C w' v l := by
  obtain ⟨a, cap, rfl, hc, hm, hx⟩ := h
  refine ⟨a, cap, rfl, hc, hm, hx.imp id ?_⟩
  rintro ⟨ab, ao, rfl, hlt, hx⟩
  exact ⟨ab, ao, rfl, Nat.lt_of_lt_of_le hlt ho.size, fun i p hi j u hu => (World.cell?_of_block (ho.block ab hlt (hn ab rfl))).trans (hx i p hi j u hu)⟩
/-- a list of votes, all new from block N on -/
structure VL (w : World) (N : Nat) (vv : Value) (l : List Vo) : Prop where
  rows : VoIn w vv l
  own : ∀ j, vv.ownBlock = some j → N ≤ j
  el : ∀ t ∈ l, BytesIn w t.sv t.sign ∧ ∀ j, t.sv.ownBlock = some j → N ≤ j
theorem VL.only {w w' : World} {N p : Nat} {vv : Value} {l : List Vo} (h : VL w N vv l) (ho : Only p w w') (hp : p < N) : VL w' N vv l :=
  ⟨h.rows.only ho fun k hk => by have := h.own k hk; omega, h.own, fun t ht => ⟨(h.el t ht).1.only ho fun k hk => by have := (h.el t ht).2 k hk; omega, (h.el t ht).2⟩⟩
theorem VL.mono {w : World} {N M : Nat} {vv : Value} {l : List Vo} (h : VL w N vv l) (hm : M ≤ N) : VL w M vv l :=
  ⟨h.rows, fun j hj => Nat.le_trans hm (h.own j hj), fun t ht => ⟨(h.el t ht).1, fun j hj => Nat.le_trans hm ((h.el t ht).2 j hj)⟩⟩
structure TL (w : World) (N : Nat) (vv : Value) (l : List Tb) : Prop where
  rows : TbIn w vv l
  own : ∀ j, vv.ownBlock = some j → N ≤ j
  el : ∀ t ∈ l, BytesIn w t.bv t.bs ∧ ∀ j, t.bv.ownBlock = some j → N ≤ j
theorem TL.only {w w' : World} {N p : Nat} {vv : Value} {l : List Tb} (h : TL w N vv l) (ho : Only p w w') (hp : p < N) : TL w' N vv l :=
  ⟨h.rows.only ho fun k hk => by have := h.own k hk; omega, h.own, fun t ht => ⟨(h.el t ht).1.only ho fun k hk => by have := (h.el t ht).2 k hk; omega, (h.el t ht).2⟩⟩
theorem TL.mono {w : World} {N M : Nat} {vv : Value} {l : List Tb} (h : TL w N vv l) (hm : M ≤ N) : TL w M vv l :=
  ⟨h.rows, fun j hj => Nat.le_trans hm (h.own j hj), fun t ht => ⟨(h.el t ht).1, fun j hj => Nat.le_trans hm ((h.el t ht).2 j hj)⟩⟩
theorem VL.below {w w' : World} {N : Nat} {vv : Value} {l : List Vo} (h : VL w N vv l) (hb : Below w.heap.size w w') : VL w' N vv l :=
  ⟨h.rows.below hb, h.own, fun t ht => ⟨(h.el t ht).1.below hb, (h.el t ht).2⟩⟩
theorem TL.below {w w' : World} {N : Nat} {vv : Value} {l : List Tb} (h : TL w N vv l) (hb : Below w.heap.size w w') : TL w' N vv l :=
  ⟨h.rows.below hb, h.own, fun t ht => ⟨(h.el t ht).1.below hb, (h.el t ht).2⟩⟩
theorem RO.below11 {w w' : World} {p : Nat} {ob : Option Nat} {s : RSt} (h : RO w p ob s) (hb : Below w.heap.size w w') : RO w' p ob s := by
  obtain ⟨y, hy, ho⟩ := h
  exact ⟨y, hy.below hb, ho⟩
theorem RS.below11 {w w' : World} {p : Nat} {s : RSt} (h : RS w p s) (hb : Below w.heap.size w w') : RS w' p s := by
  obtain ⟨y, hy⟩ := h
  exact ⟨y, hy.below hb⟩
theorem RO.own11 {w : World} {p : Nat} {ob : Option Nat} {s : RSt} (h : RO w p ob s) (hn : s.1 ≠ []) : ∀ k, ob = some k → k < w.heap.size := by
  obtain ⟨y, hy, rfl⟩ := h
  exact hy.own_lt hn
theorem RO.lt11 {w : World} {p : Nat} {ob : Option Nat} {s : RSt} (h : RO w p ob s) : p < w.heap.size := by obtain ⟨y, hy, _⟩ := h; exact hy.lt
theorem RS.lt11 {w : World} {p : Nat} {s : RSt} (h : RS w p s) : p < w.heap.size := by obtain ⟨y, hy⟩ := h; exact hy.lt
theorem RO.stay11 {w w' : World} {p q : Nat} {ob : Option Nat} {s : RSt} (h : RO w p ob s) (ho : Only q w w') (hpq : p ≠ q) (hob : s.1 ≠ [] → ∀ k, ob = some k → k ≠ q) : RO w' p ob s := by
  obtain ⟨y, hy, rfl⟩ := h
  exact ⟨y, hy.keep (ho.block p hy.lt hpq) fun hn k hk => ho.block k (hy.own_lt hn k hk) (hob hn k hk), rfl⟩
theorem RS.ro11 {w : World} {p : Nat} {s : RSt} (h : RS w p s) : ∃ ob, RO w p ob s := by obtain ⟨y, hy⟩ := h; exact ⟨_, y, hy, rfl⟩
end Go.Proofs.YtanekacpalpcbaaGreatDoor
