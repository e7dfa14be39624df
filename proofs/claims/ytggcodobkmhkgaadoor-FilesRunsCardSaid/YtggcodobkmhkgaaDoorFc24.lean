/- Part 24 of the proof. -/
import Derived.Handy
import Derived.Test.YtggcodobkmhkgaaDoorFc23
namespace Go.Proofs.YtggcodobkmhkgaaDoor
set_option linter.unusedVariables false
set_option linter.unusedSimpArgs false
open Go.RowKit Go.Maps Go.Proofs
set_option maxRecDepth 100000
def cut3 (a : Option Addr) (cap p : Nat) : Option Addr := if cap = p then a else a.map (·.add (p * 3))
theorem elemF4 : Tryd.prog.elem 25 = 111 := by kernel_rfl
theorem sizeF4 (w : World) : (sizeOf 111).run Tryd.prog w = .ok 3 w := by kernel_rfl
theorem sliceFlo (a : Option Addr) (n cap p : Nat) (hp : p ≤ n) (w : World) : (Instr.slice 25 (.slice a n cap) (some (.int .i64 (p : Int))) none none).run Tryd.prog w = .ok (.slice (cut3 a cap p) (n - p) (cap - p)) w := by
  rw [run_slice_l w 25 a n cap (by rw [elemF4]; exact Tryd.underlying25) .i64 (p : Int) (by omega) (by omega), elemF4, sizeF4]
  simp [Result.andThen_ok, sliced, cut3]
theorem sliceFhi (a : Option Addr) (n cap q : Nat) (hq : q ≤ cap) (w : World) : (Instr.slice 25 (.slice a n cap) none (some (.int .i64 (q : Int))) none).run Tryd.prog w = .ok (.slice (cut3 a cap 0) q cap) w := by
  rw [run_slice_h w 25 a n cap (by rw [elemF4]; exact Tryd.underlying25) .i64 (q : Int) (by omega) (by omega), elemF4, sizeF4]
  simp [Result.andThen_ok, sliced, cut3]
theorem FilesIn.take {w : World} {a : Option Addr} {n cap : Nat} {L : List RF} (h : FilesIn w (.slice a n cap) L) (k : Nat) (hk : k ≤ L.length) : FilesAt w (.slice (cut3 a cap 0) k cap) (L.take k) := by
  obtain ⟨a', cap', e, hc, hm, hx⟩ := h.lies
  injection e with e1 e2 e3
  subst e1 e2 e3
  refine ⟨_, _, by rw [List.length_take, Nat.min_eq_left hk], ?_⟩
  rcases hx with ⟨h, _⟩ | ⟨g, rfl, hg, hx⟩
  · left; rw [h]; simp
  · right
    refine ⟨g, 0, by unfold cut3; split <;> simp [Addr.add], hg, fun i f hi => ?_⟩
    rw [Nat.zero_add]
    refine hx i f ?_
    rw [List.getElem?_take] at hi
    split at hi
    · exact hi
    · cases hi
theorem FilesIn.drop {w : World} {a : Option Addr} {n cap : Nat} {L : List RF} (h : FilesIn w (.slice a n cap) L) (k : Nat) (hk : k ≤ L.length) : FilesAt w (.slice (cut3 a cap k) (n - k) (cap - k)) (L.drop k) := by
  obtain ⟨a', cap', e, hc, hm, hx⟩ := h.lies
  injection e with e1 e2 e3
  subst e1 e2 e3
  refine ⟨_, _, by rw [List.length_drop], ?_⟩
  rcases hx with ⟨h, _⟩ | ⟨g, rfl, hg, hx⟩
  · left; rw [h]; simp
  · by_cases hkc : cap = k
    · left; rw [List.drop_eq_nil_of_le (by omega)]
    · right
      refine ⟨g, k * 3, by unfold cut3; rw [if_neg hkc]; simp [Addr.add]; omega, hg, fun i f hi => ?_⟩
      rw [← Nat.add_mul]
      refine hx (k + i) f ?_
      rwa [List.getElem?_drop] at hi
def cutN (L : List RF) (n : List UInt8) : Nat := if isN n L = true then findN n L + 1 else findN n L
def setN (L : List RF) (x : RF) : List RF := L.take (findN x.nm.data.toList L) ++ [x] ++ L.drop (cutN L x.nm.data.toList)
theorem findN_le (n : List UInt8) (L : List RF) : findN n L ≤ L.length := (List.takeWhile_sublist _).length_le
theorem cutN_le (n : List UInt8) (L : List RF) : cutN L n ≤ L.length := by
  unfold cutN
  split
  · rename_i h
    obtain ⟨f, hf⟩ := isN_some h
    exact (List.getElem?_eq_some_iff.1 hf).1
  · exact findN_le _ _
theorem setN_length (L : List RF) (x : RF) : (setN L x).length ≤ L.length + 1 := by
  have h1 := findN_le x.nm.data.toList L
  have h2 : findN x.nm.data.toList L ≤ cutN L x.nm.data.toList := by unfold cutN; split <;> omega
  have h3 := cutN_le x.nm.data.toList L
  unfold setN
  simp only [List.length_append, List.length_take, List.length_drop, List.length_singleton]
  omega
theorem far3 {w w2 : World} {A B C : Obj} (h : Below (((w.alloc A).alloc B).alloc C).heap.size (((w.alloc A).alloc B).alloc C) w2) : w2.heap[w.heap.size]? = some A ∧ w2.heap[w.heap.size + 1]? = some B ∧ w2.heap[w.heap.size + 2]? = some C ∧ w.heap.size + 2 < w2.heap.size ∧ Below w.heap.size w w2 := by
  have h1 := (below_alloc ((w.alloc A).alloc B) C).trans (h.mono (by simp))
  obtain ⟨a, b, _, d⟩ := far2 h1
  refine ⟨a, b, ?_, by have := h.size; simp at this; omega, d⟩
  rw [h.block _ (by simp)]
  have := heap_alloc_new ((w.alloc A).alloc B) C
  rw [size_alloc, size_alloc] at this; exact this
theorem one_file (w : World) (f : RF) : FilesAt (w.alloc (.cells #[.string f.nm, .string f.sf, .string f.ls] 111)) (.slice (some ⟨w.heap.size, 0, none⟩) 1 1) [f] :=
  ⟨_, 1, rfl, .inr ⟨w.heap.size, 0, rfl, by simp, fun i g hi j v hv => by
    obtain rfl : i = 0 := by have := (List.getElem?_eq_some_iff.1 hi).1; simp at this; omega
    obtain rfl : f = g := by simpa using hi
    rw [cell_of_row _ _ _ _ _ _ (heap_alloc_new w _)]
    simpa [RF.cells] using hv⟩⟩
theorem FilesAt.grown {w w' : World} {v : Value} {L : List RF} {b : Option Nat} (h : FilesAt w v L) (hg : w.grownBy w' b) (hb : ∀ a n c, v = .slice (some a) n c → some a.block ≠ b) : FilesAt w' v L := by
  obtain ⟨a, cap, rfl, h⟩ := h
  refine ⟨a, cap, rfl, ?_⟩
  rcases h with h | ⟨b, off, rfl, hbl, h⟩
  · exact .inl h
  · exact .inr ⟨b, off, rfl, Nat.lt_of_lt_of_le hbl hg.size, fun i f hi j v hv => (World.cell?_of_block (w := w) (hg.block b hbl (hb _ _ _ rfl))).trans (h i f hi j v hv)⟩
theorem ownsF_wide {w : World} {base n : Nat} {v : Value} {vs : List Value} (h : w.ownsRow base 111 3 v n vs) : ∃ a m c, v = .slice a m c := by
  rcases h.2 with ⟨rfl, h0⟩ | ⟨g, c, _, rfl, _⟩
  · exact ⟨none, 0, 0, rfl⟩
  · exact ⟨_, _, c, rfl⟩
theorem owns_turn {w w' : World} {base n : Nat} {v : Value} {vs : List Value} (h : w.ownsRow base 111 3 v n vs) (hk : ∀ k, base ≤ k → w'.heap[k]? = w.heap[k]?) : w'.ownsRow base 111 3 v n vs :=
  ⟨h.1, h.2.imp id fun ⟨g, cap, cur, e, hb, hg, r⟩ => ⟨g, cap, cur, e, hb, (hk g hb).trans hg, r⟩⟩
theorem rs_one (a : Option Addr) (n c : Nat) (r : RSt) : (rsC (.slice a n c) r).all (·.oneCell') = true := by simp [rsC, Value.oneCell']
theorem owns_files {w : World} {base : Nat} {v : Value} {L : List RF} (h : w.ownsRow base 111 3 v L.length (filesL L)) (hl : L.length ≤ 1000) : FilesIn w v L := ⟨⟨h.1, h.2.imp id fun ⟨g, cap, cur, e, _, r⟩ => ⟨g, cap, cur, e, Nat.zero_le _, r⟩⟩, hl⟩
set_option maxHeartbeats 4000000 in
theorem set4_any (lv : Value) (r : RSt) (x : RF) (w : World) (hL : FilesIn w lv r.L) (hx : x.nm.size ≤ maxLen) (hl : r.L.length < 1000) :
    Calls Tryd.prog 77 #[rsV lv r, x.v] w fun e w' => ∃ lv', e = .returned (rsV lv' { r with L := setN r.L x }) ∧ FilesIn w' lv' (setN r.L x) ∧ Below w.heap.size w w' := by
  have HF := Lib.hid (fun w (h : FilesIn w lv r.L) => find4_any lv r x.nm w h hx)
  obtain ⟨L, st, ar, lf, dn⟩ := r
  simp only at hL HF hl
  obtain ⟨a, cap, rfl, hc, hm, _⟩ := hL.lies
  have HL := Lib.hid hL
  obtain ⟨k, hk⟩ : ∃ k, findN x.nm.data.toList L = k := ⟨_, rfl⟩
  have hkl := findN_le x.nm.data.toList L
  rw [hk] at HF hkl
  have HK := Lib.hid hk
  have HKL := Lib.hid hkl
  have HLL := Lib.hid hl
  have HHI := Lib.hid (sliceFhi a L.length cap k (by omega))
  obtain ⟨xn, xs, xl⟩ := x
  unfold rsV rsC RF.v at *
  clear hL hc hx hk hm hkl hl
  go_enter Tryd.func77, Tryd.ntmps77
  go_upto_region 3 with (first | (go_at_call 111; (with_reducible refine (HF.out _ (HL.out.below (Below.alloc0 (Below.alloc0 (Below.alloc0 (Below.refl _ _) _) _) _))).mono ?_); rintro e w2 ⟨rfl, hb2⟩; obtain ⟨hp, hq, ho, hsz, hb⟩ := far3 hb2; have HP := Lib.hid hp; have HQ := Lib.hid hq; have HO := Lib.hid ho; have HB2 := Lib.hid hb; clear hb2 hb hp hq ho))
  have hSX : ∀ w', Below w2.heap.size w2 w' → w'.cell? ⟨w.heap.size, 0, none⟩ = some (.slice a L.length cap) ∧ w'.cell? ⟨w.heap.size + 1, 0, none⟩ = some (.string xn) ∧ w'.cell? ⟨w.heap.size + 1, 1, none⟩ = some (.string xs) ∧ w'.cell? ⟨w.heap.size + 1, 2, none⟩ = some (.string xl) := fun w' hb => by
    refine ⟨?_, ?_, ?_, ?_⟩
    · rw [hb.cell (p := ⟨w.heap.size, 0, none⟩) (by show w.heap.size < _; omega)]; exact (rs_cells HP.out).1
    · rw [hb.cell (p := ⟨w.heap.size + 1, 0, none⟩) (by show w.heap.size + 1 < _; omega)]; exact (rf_fields HQ.out).1
    · rw [hb.cell (p := ⟨w.heap.size + 1, 1, none⟩) (by show w.heap.size + 1 < _; omega)]; exact (rf_fields HQ.out).2.1
    · rw [hb.cell (p := ⟨w.heap.size + 1, 2, none⟩) (by show w.heap.size + 1 < _; omega)]; exact (rf_fields HQ.out).2.2.1
  have HSX := Lib.hid hSX
  have hhi := HHI.out
  have HT := Lib.hid (((HL.out.below HB2.out).take k HKL.out))
  have HD := Lib.hid ((Below.refl w2.heap.size w2).drew)
  clear hSX
  have hS0 := HSX.out _ HD.out
  go_region_held3 (fun w' => w'.cell? ⟨w.heap.size, 0, none⟩ = some (.slice a L.length cap) ∧ w'.cell? ⟨w.heap.size + 1, 0, none⟩ = some (.string xn) ∧ w'.cell? ⟨w.heap.size + 1, 1, none⟩ = some (.string xs) ∧ w'.cell? ⟨w.heap.size + 1, 2, none⟩ = some (.string xl))
    (first | (with_reducible exact hS0) | exact HSX.out _ (Below.alloc0 HD.out _) | exact HSX.out _ HD3.out | exact HSX.out _ (Below.alloc0 HD3.out _) | exact HSX.out _ HD4.out)
    (first
      | (refine step_append_files (by rfl) (.tmp 15) (.tmp 19) rfl rfl w2.heap.size (.slice none 0 0) (.slice (cut3 a cap 0) k cap) [] (L.take k) rfl (World.ownsRow_nil _ _ _ _) rfl (HT.out.below HD.out) (by have := HLL.out; simp; omega) (Nat.le_refl _) ?_; intro v1 w3 ho1 hg1 _; have HD3 := Lib.hid (HD.out.grown hg1 (Nat.le_refl _) (fun k hk => by cases hk)); have HO1 := Lib.hid ho1; clear ho1 hg1)
      | (refine step_append_files (by rfl) (.tmp 15) (.tmp 19) rfl rfl w2.heap.size (.slice none 0 0) (.slice (cut3 a cap 0) k cap) [] (L.take k) rfl (World.ownsRow_nil _ _ _ _) rfl (HT.out.below (Below.alloc0 HD.out _)) (by have := HLL.out; simp; omega) (by simp) ?_; intro v1 w3 ho1 hg1 _; have HD3 := Lib.hid ((Below.alloc0 HD.out _).grown hg1 (by simp) (fun k hk => by cases hk)); have HO1 := Lib.hid ho1; have HX1 := Lib.hid ((one_file w2.drew ⟨xn, xs, xl⟩).grown hg1 (fun _ _ _ _ h => by cases h)); clear ho1 hg1)
      | (refine step_append_files (by rfl) (.tmp 20) (.tmp 22) rfl rfl w2.heap.size v1 _ ([] ++ L.take k) [⟨xn, xs, xl⟩] rfl HO1.out rfl HX1.out (by have := HLL.out; simp; omega) HD3.out.size ?_; intro v2 w4 ho2 hg2 _; have HD4 := Lib.hid (HD3.out.grown hg2 HD3.out.size (fun k hk => (HO1.out.lt k hk).1)); have HO2 := Lib.hid ho2; clear ho2 hg2)
      | (refine step_append_files (by rfl) (.tmp 20) (.tmp 22) rfl rfl w2.heap.size v1 _ ([] ++ L.take k) [⟨xn, xs, xl⟩] rfl (HO1.out.alloc _) rfl (one_file w3 ⟨xn, xs, xl⟩) (by have := HLL.out; simp; omega) (by have := HD3.out.size; simp; omega) ?_; intro v2 w4 ho2 hg2 _; have HD4 := Lib.hid ((HD3.out.alloc HD3.out.size _).grown hg2 (by have := HD3.out.size; simp; omega) (fun k hk => (HO1.out.lt k hk).1)); have HO2 := Lib.hid ho2; clear ho2 hg2))
  all_goals
    (have hp4 := (HD4.out.block w.heap.size (by omega)).trans HP.out
     have ho4 := (HD4.out.block (w.heap.size + 2) (by omega)).trans HO.out
     have hs4 := HD4.out.size
     have hd4 := HB2.out.trans (HD4.out.mono HB2.out.size)
     replace HP := Lib.hid hp4
     replace HO := Lib.hid ho4
     replace HD4 := Lib.hid hd4
     clear hp4 ho4 hd4
     cases hi : isN xn.data.toList L)
  · have HLO := Lib.hid (sliceFlo a L.length cap k HKL.out)
    have hlo := HLO.out
    have HTD := Lib.hid ((HL.out.below HD4.out).drop k HKL.out)
    have hcu : cutN L xn.data.toList = k := by unfold cutN; rw [hi, HK.out]; simp
    have hlen5 : (setN L ⟨xn, xs, xl⟩).length ≤ 1000 := Nat.le_trans (setN_length _ _) HLL.out
    have HE : Hid (setN L ⟨xn, xs, xl⟩ = [] ++ L.take k ++ [⟨xn, xs, xl⟩] ++ L.drop (k)) := Lib.hid (by unfold setN; simp only; rw [HK.out, hcu, List.nil_append])
    rw [HE.out] at hlen5
    have HL5 := Lib.hid hlen5
    clear hcu hlen5
    go_wp2_with (first
      | (at_builtin; refine wpList_append_files rfl (.tmp 27) (.tmp 31) rfl rfl w2.heap.size v2 _ _ (L.drop k) rfl HO2.out rfl HTD.out (by have := HLL.out; simp; omega) hs4 ?_; intro v3 w5 ho3 hg3 _; obtain ⟨a3, n3, c3, hv3⟩ := ownsF_wide ho3; subst hv3; have hf5 : ∀ j, j < w2.heap.size → w5.heap[j]? = w4.heap[j]? := (fun j hj => hg3.block j (Nat.lt_of_lt_of_le hj hs4) (fun e => by have := (HO2.out.lt j e.symm).1; omega)); have hp5 := (hf5 w.heap.size (by omega)).trans HP.out; have ho5 := (hf5 (w.heap.size + 2) (by omega)).trans HO.out; have HD5 := Lib.hid (HD4.out.grown hg3 HD4.out.size (fun j hj => by have := (HO2.out.lt j hj).1; omega)); obtain ⟨p0, -, -, -, -, q0, -, -, -, -⟩ := rs_cells hp5; have HP5 := Lib.hid hp5; have HO5 := Lib.hid ho5; have HO3 := Lib.hid ho3; have hsz5 : w2.heap.size ≤ w5.heap.size := Nat.le_trans hs4 hg3.size; clear hp5 ho5 ho3 hg3 hf5)
      | (refine wpList_load_row rfl 27 (.tmp 2) rfl w.heap.size rfl 27 #[.slice a3 n3 c3, .int .i64 st, .bool ar, .int .i64 lf, .bool dn] (0, 0) _ (by rw [heap_setCell_same _ _ _ _ _ _ HP5.out]; rfl) Tryd.underlying27 rfl (by kernel_rfl) ?_)
      | (refine wpList_store_row rfl 27 (.tmp 4) (.tmp 34) rfl (w.heap.size + 2) #[.slice a3 n3 c3, .int .i64 st, .bool ar, .int .i64 lf, .bool dn] rfl rfl 27 _ ((heap_setCell_other _ _ _ _ (by show w.heap.size + 2 ≠ w.heap.size; omega)).trans HO5.out) (by kernel_rfl) rfl (rs_one a3 n3 c3 ⟨L, st, ar, lf, dn⟩) ?_))
    all_goals
      (refine bodyPost_ret (results_cell_row rfl _ _ (w.heap.size + 2) 27 #[.slice a3 n3 c3, .int .i64 st, .bool ar, .int .i64 lf, .bool dn] (0, 0) _ rfl (setRow_heap _ _ _ _ _ _ ((heap_setCell_other _ _ _ _ (by show w.heap.size + 2 ≠ w.heap.size; omega)).trans HO5.out)) Tryd.underlying27 rfl (by kernel_rfl)) rfl ?_
       refine ⟨.slice a3 n3 c3, rfl, ?_, ?_⟩
       · rw [HE.out]
         exact owns_files (owns_turn HO3.out fun j hj => (setRow_other _ _ _ _ (by omega)).trans (heap_setCell_other _ _ _ _ (by show j ≠ w.heap.size; omega))) HL5.out
       · exact below_setRow (Below.setCell HD5.out (Nat.le_refl _) _) (by omega) _)
  · have HK1 : Hid (k + 1 ≤ L.length) := Lib.hid (by have h := cutN_le xn.data.toList L; unfold cutN at h; rw [hi, HK.out] at h; simpa using h)
    have HLO := Lib.hid (sliceFlo a L.length cap (k + 1) HK1.out)
    have hlo : ∀ w, (Instr.slice 25 (.slice a L.length cap) (some (.int .i64 ((k : Int) + 1))) none none).run Tryd.prog w = .ok (.slice (cut3 a cap (k + 1)) (L.length - (k + 1)) (cap - (k + 1))) w := HLO.out
    have hki : (k : Int) ≤ 1000 := by have := HKL.out; have := HLL.out; omega
    have HTD := Lib.hid ((HL.out.below HD4.out).drop (k + 1) HK1.out)
    have hcu : cutN L xn.data.toList = k + 1 := by unfold cutN; rw [hi, HK.out]; simp
    have hlen5 : (setN L ⟨xn, xs, xl⟩).length ≤ 1000 := Nat.le_trans (setN_length _ _) HLL.out
    have HE : Hid (setN L ⟨xn, xs, xl⟩ = [] ++ L.take k ++ [⟨xn, xs, xl⟩] ++ L.drop (k + 1)) := Lib.hid (by unfold setN; simp only; rw [HK.out, hcu, List.nil_append])
    rw [HE.out] at hlen5
    have HL5 := Lib.hid hlen5
    clear hcu hlen5
    go_wp2_with (first
      | (at_builtin; refine wpList_append_files rfl (.tmp 27) (.tmp 31) rfl rfl w2.heap.size v2 _ _ (L.drop (k + 1)) rfl HO2.out rfl HTD.out (by have := HLL.out; simp; omega) hs4 ?_; intro v3 w5 ho3 hg3 _; obtain ⟨a3, n3, c3, hv3⟩ := ownsF_wide ho3; subst hv3; have hf5 : ∀ j, j < w2.heap.size → w5.heap[j]? = w4.heap[j]? := (fun j hj => hg3.block j (Nat.lt_of_lt_of_le hj hs4) (fun e => by have := (HO2.out.lt j e.symm).1; omega)); have hp5 := (hf5 w.heap.size (by omega)).trans HP.out; have ho5 := (hf5 (w.heap.size + 2) (by omega)).trans HO.out; have HD5 := Lib.hid (HD4.out.grown hg3 HD4.out.size (fun j hj => by have := (HO2.out.lt j hj).1; omega)); obtain ⟨p0, -, -, -, -, q0, -, -, -, -⟩ := rs_cells hp5; have HP5 := Lib.hid hp5; have HO5 := Lib.hid ho5; have HO3 := Lib.hid ho3; have hsz5 : w2.heap.size ≤ w5.heap.size := Nat.le_trans hs4 hg3.size; clear hp5 ho5 ho3 hg3 hf5)
      | (refine wpList_load_row rfl 27 (.tmp 2) rfl w.heap.size rfl 27 #[.slice a3 n3 c3, .int .i64 st, .bool ar, .int .i64 lf, .bool dn] (0, 0) _ (by rw [heap_setCell_same _ _ _ _ _ _ HP5.out]; rfl) Tryd.underlying27 rfl (by kernel_rfl) ?_)
      | (refine wpList_store_row rfl 27 (.tmp 4) (.tmp 34) rfl (w.heap.size + 2) #[.slice a3 n3 c3, .int .i64 st, .bool ar, .int .i64 lf, .bool dn] rfl rfl 27 _ ((heap_setCell_other _ _ _ _ (by show w.heap.size + 2 ≠ w.heap.size; omega)).trans HO5.out) (by kernel_rfl) rfl (rs_one a3 n3 c3 ⟨L, st, ar, lf, dn⟩) ?_))
    all_goals
      (refine bodyPost_ret (results_cell_row rfl _ _ (w.heap.size + 2) 27 #[.slice a3 n3 c3, .int .i64 st, .bool ar, .int .i64 lf, .bool dn] (0, 0) _ rfl (setRow_heap _ _ _ _ _ _ ((heap_setCell_other _ _ _ _ (by show w.heap.size + 2 ≠ w.heap.size; omega)).trans HO5.out)) Tryd.underlying27 rfl (by kernel_rfl)) rfl ?_
       refine ⟨.slice a3 n3 c3, rfl, ?_, ?_⟩
       · rw [HE.out]
         exact owns_files (owns_turn HO3.out fun j hj => (setRow_other _ _ _ _ (by omega)).trans (heap_setCell_other _ _ _ _ (by show j ≠ w.heap.size; omega))) HL5.out
       · exact below_setRow (Below.setCell HD5.out (Nat.le_refl _) _) (by omega) _)
  · have HLO := Lib.hid (sliceFlo a L.length cap k HKL.out)
    have hlo := HLO.out
    have HTD := Lib.hid ((HL.out.below HD4.out).drop k HKL.out)
    have hcu : cutN L xn.data.toList = k := by unfold cutN; rw [hi, HK.out]; simp
    have hlen5 : (setN L ⟨xn, xs, xl⟩).length ≤ 1000 := Nat.le_trans (setN_length _ _) HLL.out
    have HE : Hid (setN L ⟨xn, xs, xl⟩ = [] ++ L.take k ++ [⟨xn, xs, xl⟩] ++ L.drop (k)) := Lib.hid (by unfold setN; simp only; rw [HK.out, hcu, List.nil_append])
    rw [HE.out] at hlen5
    have HL5 := Lib.hid hlen5
    clear hcu hlen5
    go_wp2_with (first
      | (at_builtin; refine wpList_append_files rfl (.tmp 27) (.tmp 31) rfl rfl w2.heap.size v2 _ _ (L.drop k) rfl HO2.out rfl HTD.out (by have := HLL.out; simp; omega) hs4 ?_; intro v3 w5 ho3 hg3 _; obtain ⟨a3, n3, c3, hv3⟩ := ownsF_wide ho3; subst hv3; have hf5 : ∀ j, j < w2.heap.size → w5.heap[j]? = w4.heap[j]? := (fun j hj => hg3.block j (Nat.lt_of_lt_of_le hj hs4) (fun e => by have := (HO2.out.lt j e.symm).1; omega)); have hp5 := (hf5 w.heap.size (by omega)).trans HP.out; have ho5 := (hf5 (w.heap.size + 2) (by omega)).trans HO.out; have HD5 := Lib.hid (HD4.out.grown hg3 HD4.out.size (fun j hj => by have := (HO2.out.lt j hj).1; omega)); obtain ⟨p0, -, -, -, -, q0, -, -, -, -⟩ := rs_cells hp5; have HP5 := Lib.hid hp5; have HO5 := Lib.hid ho5; have HO3 := Lib.hid ho3; have hsz5 : w2.heap.size ≤ w5.heap.size := Nat.le_trans hs4 hg3.size; clear hp5 ho5 ho3 hg3 hf5)
      | (refine wpList_load_row rfl 27 (.tmp 2) rfl w.heap.size rfl 27 #[.slice a3 n3 c3, .int .i64 st, .bool ar, .int .i64 lf, .bool dn] (0, 0) _ (by rw [heap_setCell_same _ _ _ _ _ _ HP5.out]; rfl) Tryd.underlying27 rfl (by kernel_rfl) ?_)
      | (refine wpList_store_row rfl 27 (.tmp 4) (.tmp 34) rfl (w.heap.size + 2) #[.slice a3 n3 c3, .int .i64 st, .bool ar, .int .i64 lf, .bool dn] rfl rfl 27 _ ((heap_setCell_other _ _ _ _ (by show w.heap.size + 2 ≠ w.heap.size; omega)).trans HO5.out) (by kernel_rfl) rfl (rs_one a3 n3 c3 ⟨L, st, ar, lf, dn⟩) ?_))
    all_goals
      (refine bodyPost_ret (results_cell_row rfl _ _ (w.heap.size + 2) 27 #[.slice a3 n3 c3, .int .i64 st, .bool ar, .int .i64 lf, .bool dn] (0, 0) _ rfl (setRow_heap _ _ _ _ _ _ ((heap_setCell_other _ _ _ _ (by show w.heap.size + 2 ≠ w.heap.size; omega)).trans HO5.out)) Tryd.underlying27 rfl (by kernel_rfl)) rfl ?_
       refine ⟨.slice a3 n3 c3, rfl, ?_, ?_⟩
       · rw [HE.out]
         exact owns_files (owns_turn HO3.out fun j hj => (setRow_other _ _ _ _ (by omega)).trans (heap_setCell_other _ _ _ _ (by show j ≠ w.heap.size; omega))) HL5.out
       · exact below_setRow (Below.setCell HD5.out (Nat.le_refl _) _) (by omega) _)
  · have HK1 : Hid (k + 1 ≤ L.length) := Lib.hid (by have h := cutN_le xn.data.toList L; unfold cutN at h; rw [hi, HK.out] at h; simpa using h)
    have HLO := Lib.hid (sliceFlo a L.length cap (k + 1) HK1.out)
    have hlo : ∀ w, (Instr.slice 25 (.slice a L.length cap) (some (.int .i64 ((k : Int) + 1))) none none).run Tryd.prog w = .ok (.slice (cut3 a cap (k + 1)) (L.length - (k + 1)) (cap - (k + 1))) w := HLO.out
    have hki : (k : Int) ≤ 1000 := by have := HKL.out; have := HLL.out; omega
    have HTD := Lib.hid ((HL.out.below HD4.out).drop (k + 1) HK1.out)
    have hcu : cutN L xn.data.toList = k + 1 := by unfold cutN; rw [hi, HK.out]; simp
    have hlen5 : (setN L ⟨xn, xs, xl⟩).length ≤ 1000 := Nat.le_trans (setN_length _ _) HLL.out
    have HE : Hid (setN L ⟨xn, xs, xl⟩ = [] ++ L.take k ++ [⟨xn, xs, xl⟩] ++ L.drop (k + 1)) := Lib.hid (by unfold setN; simp only; rw [HK.out, hcu, List.nil_append])
    rw [HE.out] at hlen5
    have HL5 := Lib.hid hlen5
    clear hcu hlen5
    go_wp2_with (first
      | (at_builtin; refine wpList_append_files rfl (.tmp 27) (.tmp 31) rfl rfl w2.heap.size v2 _ _ (L.drop (k + 1)) rfl HO2.out rfl HTD.out (by have := HLL.out; simp; omega) hs4 ?_; intro v3 w5 ho3 hg3 _; obtain ⟨a3, n3, c3, hv3⟩ := ownsF_wide ho3; subst hv3; have hf5 : ∀ j, j < w2.heap.size → w5.heap[j]? = w4.heap[j]? := (fun j hj => hg3.block j (Nat.lt_of_lt_of_le hj hs4) (fun e => by have := (HO2.out.lt j e.symm).1; omega)); have hp5 := (hf5 w.heap.size (by omega)).trans HP.out; have ho5 := (hf5 (w.heap.size + 2) (by omega)).trans HO.out; have HD5 := Lib.hid (HD4.out.grown hg3 HD4.out.size (fun j hj => by have := (HO2.out.lt j hj).1; omega)); obtain ⟨p0, -, -, -, -, q0, -, -, -, -⟩ := rs_cells hp5; have HP5 := Lib.hid hp5; have HO5 := Lib.hid ho5; have HO3 := Lib.hid ho3; have hsz5 : w2.heap.size ≤ w5.heap.size := Nat.le_trans hs4 hg3.size; clear hp5 ho5 ho3 hg3 hf5)
      | (refine wpList_load_row rfl 27 (.tmp 2) rfl w.heap.size rfl 27 #[.slice a3 n3 c3, .int .i64 st, .bool ar, .int .i64 lf, .bool dn] (0, 0) _ (by rw [heap_setCell_same _ _ _ _ _ _ HP5.out]; rfl) Tryd.underlying27 rfl (by kernel_rfl) ?_)
      | (refine wpList_store_row rfl 27 (.tmp 4) (.tmp 34) rfl (w.heap.size + 2) #[.slice a3 n3 c3, .int .i64 st, .bool ar, .int .i64 lf, .bool dn] rfl rfl 27 _ ((heap_setCell_other _ _ _ _ (by show w.heap.size + 2 ≠ w.heap.size; omega)).trans HO5.out) (by kernel_rfl) rfl (rs_one a3 n3 c3 ⟨L, st, ar, lf, dn⟩) ?_))
    all_goals
      (refine bodyPost_ret (results_cell_row rfl _ _ (w.heap.size + 2) 27 #[.slice a3 n3 c3, .int .i64 st, .bool ar, .int .i64 lf, .bool dn] (0, 0) _ rfl (setRow_heap _ _ _ _ _ _ ((heap_setCell_other _ _ _ _ (by show w.heap.size + 2 ≠ w.heap.size; omega)).trans HO5.out)) Tryd.underlying27 rfl (by kernel_rfl)) rfl ?_
       refine ⟨.slice a3 n3 c3, rfl, ?_, ?_⟩
       · rw [HE.out]
         exact owns_files (owns_turn HO3.out fun j hj => (setRow_other _ _ _ _ (by omega)).trans (heap_setCell_other _ _ _ _ (by show j ≠ w.heap.size; omega))) HL5.out
       · exact below_setRow (Below.setCell HD5.out (Nat.le_refl _) _) (by omega) _)
end Go.Proofs.YtggcodobkmhkgaaDoor
