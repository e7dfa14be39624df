/- Part 36 of the proof. -/
import Derived.Test.YtabflppnecemkaaGreatDoorPb9
import Derived.Test.YtabflppnecemkaaGreatDoorPb35
namespace Go.Proofs.YtabflppnecemkaaGreatDoor
set_option linter.unusedVariables false
set_option linter.unusedSimpArgs false
open Go.RowKit
set_option maxRecDepth 100000
set_option linter.unusedSimpArgs false
set_option linter.unusedVariables false
def okR (s : RSt) : Prop := bytesOk s.1 ∧ s.1.length ≤ 140737488351232 ∧ s.2 ≠ some 0
theorem partS_k {s : RSt} {most : Int} (h : okR s) : okR (partS s most).2 := by
  obtain ⟨ys, e⟩ := s
  obtain ⟨h1, h2, h3⟩ := h
  cases e with
  | some x => exact ⟨h1, h2, h3⟩
  | none =>
    unfold partS
    simp only
    split
    · exact ⟨h1, h2, by simp⟩
    · split
      · rename_i x hx
        exact ⟨h1, h2, fun e => by simp only [Option.some.injEq] at e; subst e; exact rdF_no0 _ _ hx⟩
      · split
        · exact ⟨h1, h2, by simp⟩
        · split
          · exact ⟨h1, h2, by simp⟩
          · refine ⟨bytesOk_drop (bytesOk_drop h1 _) _, ?_, by simp⟩
            simp only [List.length_drop]; simp only at h2; omega
theorem countS_k {s : RSt} {most : Nat} (h : okR s) : okR (countS s most).2 := by
  unfold countS
  split
  · rename_i x hx
    exact ⟨h.1, h.2.1, fun e => by
      have := uintS_no0 s most h.2.2
      simp only [Option.some.injEq] at e
      subst e
      exact this hx⟩
  · split
    · exact ⟨h.1, h.2.1, by simp⟩
    · exact ⟨(uintS_ok s _ h.1).1, Nat.le_trans (uintS_ok s _ h.1).2 h.2.1, uintS_no0 s _ h.2.2⟩
theorem decS_k {s : RSt} (h : okR s) : ∀ k, okR (decS k s).2
  | 0 => h
  | k + 1 => hashS_k (intS_k (boolS_k (decS_k h k)))
theorem pr8_zero_built : Tryz.prog.built 24 [] = some #[.string { data := #[] }, .string { data := #[] }, .slice none 0 0] := by kernel_rfl
theorem rd_built (a : Option Addr) (n c : Nat) : Tryz.prog.built 69 [(0, .slice a n c)] = some (rdC (.slice a n c) 0) := by kernel_rfl
theorem st7_zero_built : Tryz.prog.built 74 [] = some (stC ⟨false, 0, fun _ => 0⟩) := by kernel_rfl
theorem st_c0 (s : AvS) : (stC s)[0]? = some (.bool s.sec) := by
  unfold stC
  rw [Array.getElem?_append_left (by simp)]
  rfl
theorem st_c1 (s : AvS) : (stC s)[1]? = some (.int .i64 s.many) := by
  unfold stC
  rw [Array.getElem?_append_left (by simp)]
  rfl
theorem st_there {w : World} {q : Nat} {s : AvS} {t : TypeId} {F : Nat → Int} (h : w.heap[q]? = some (.cells (stC s) t (0, 0))) : w.there q 2 (rowOf .u8 32 F).size := fun j hj => by
  rw [rowOf_size] at hj
  refine ⟨?_, frozen_of_row _ _ _ _ _ h⟩
  rw [cell_of_row _ _ _ _ _ _ h, Array.getElem?_eq_getElem (by rw [stC_size]; omega)]
  rfl
theorem st_set0 (b b' : Bool) (m : Int) (f : Nat → Int) : (stC ⟨b, m, f⟩).setIfInBounds 0 (.bool b') = stC ⟨b', m, f⟩ := by
  unfold stC
  rw [Array.setIfInBounds_append_left (by simp)]
  rfl
theorem st_set1 (b : Bool) (m m' : Int) (f : Nat → Int) : (stC ⟨b, m, f⟩).setIfInBounds 1 (.int .i64 m') = stC ⟨b, m', f⟩ := by
  unfold stC
  rw [Array.setIfInBounds_append_left (by simp)]
  rfl
/-- ahead of the loop -/
structure DdP (w : World) (p4 p5 : Nat) (s : RSt) (wr : World) : Prop where
  below : Below w.heap.size w wr
  res : wr.heap[w.heap.size]? = some (.cells prZ 24 (0, 0))
  at4 : wr.heap[p4]? = some (.cells prZ 24 (0, 0))
  rd : ∃ ra rn rc, wr.heap[p5]? = some (.cells (rdC (.slice ra rn rc) (numE s.2)) 69 (0, 0)) ∧ BytesIn wr (.slice ra rn rc) s.1
  r4 : w.heap.size < p4
  p45 : p4 < p5
theorem DdP.call {w : World} {p4 p5 : Nat} {s : RSt} {wr wr' : World} (m : DdP w p4 p5 s wr) (hb : Below wr.heap.size wr wr') : DdP w p4 p5 s wr' := by
  obtain ⟨ra, rn, rc, h5, hin⟩ := m.rd
  exact ⟨m.below.trans (hb.mono m.below.size), (hb.block _ (bk_lt m.res)).trans m.res, (hb.block _ (bk_lt m.at4)).trans m.at4, ⟨ra, rn, rc, (hb.block _ (bk_lt h5)).trans h5, hin.below hb⟩, m.r4, m.p45⟩
theorem DdP.read {w : World} {p4 p5 : Nat} {s s' : RSt} {wr : World} (m : DdP w p4 p5 s wr) {a : Option Addr} {n c : Nat} (hx : BytesIn wr (.slice a n c) s'.1) : DdP w p4 p5 s' (wr.setRow p5 (rdC (.slice a n c) (numE s'.2))) ∧ ∀ v ys, BytesIn wr v ys → BytesIn (wr.setRow p5 (rdC (.slice a n c) (numE s'.2))) v ys := by
  have h1 := m.r4; have h2 := m.p45
  obtain ⟨ra, rn, rc, h5, hin⟩ := m.rd
  exact ⟨⟨below_setRow m.below (by omega) _, (setRow_other _ _ _ _ (by omega)).trans m.res, (setRow_other _ _ _ _ (by omega)).trans m.at4, ⟨a, n, c, setRow_heap _ _ _ _ _ _ h5, bytes_row hx h5 _⟩, h1, h2⟩, fun v ys h => bytes_row h h5 _⟩
/-- the texts are stored: the loop begins -/
theorem DdP.start {w : World} {p4 p5 : Nat} {s : RSt} {wr : World} (m : DdP w p4 p5 s wr) (hok : okR s) (K V : ByteArray) : ∃ ob, DdM w wr.heap.size p4 p5 K V ob s (.slice none 0 0) (.slice none 0 0) [] ((wr.setCell ⟨p4, 0, none⟩ (.string K)).setCell ⟨p4, 1, none⟩ (.string V)) := by
  have h1 := m.r4; have h2 := m.p45
  obtain ⟨ra, rn, rc, h5, hin⟩ := m.rd
  have o1 := Only.setCell wr ⟨p4, 0, none⟩ (.string K)
  have o2 := Only.setCell (wr.setCell ⟨p4, 0, none⟩ (.string K)) ⟨p4, 1, none⟩ (.string V)
  have o := o1.trans o2
  have a1 := heap_setCell_same wr p4 0 _ _ (.string K) m.at4
  have a2 := heap_setCell_same _ p4 1 _ _ (.string V) a1
  have i1 := bytes_setCell3 (x := .string { data := #[] }) (y := .string K) hin (by rw [cell_of_row _ _ 0 _ _ _ m.at4]; rfl) (fun n => by simp)
  have i2 := bytes_setCell3 (x := .string { data := #[] }) (y := .string V) i1 (by rw [cell_of_row _ _ 1 _ _ _ a1]; rfl) (fun n => by simp)
  refine ⟨(Value.slice ra rn rc).ownBlock, m.below.trans (o.below (by show _ ≤ p4; omega) m.below.size), (o.block _ (bk_lt m.res) (by show _ ≠ p4; omega)).trans m.res, by rw [a2]; rfl, ⟨ra, rn, rc, (o.block _ (bk_lt h5) (by show _ ≠ p4; omega)).trans h5, i2, rfl⟩, hok, World.ownsRow_nil _ _ _ _, fun hn k hk => ?_, o.size, h1, h2, bk_lt h5⟩
  obtain ⟨a', c', e', _, _, h3⟩ := hin
  obtain ⟨ab, ao, rfl, h4⟩ := h3.resolve_left hn
  obtain ⟨b, r, hbr⟩ := List.exists_cons_of_ne_nil hn
  injection e' with e1 _ _
  subst e1
  simp only [Value.ownBlock, Option.some.injEq] at hk
  subst hk
  exact World.block_lt_of_cell? wr _ (h4 0 b (by rw [hbr]; rfl))
def DdPost (P : PvP) (E : Option Nat) (w : World) (e : Ending) (w' : World) : Prop :=
  ∃ sa c, e = .returned (.tuple #[.agg (prC P (.slice sa P.steps.length c)), .int .i64 (numE E)]) ∧ w'.ownsRow w.heap.size 74 34 (.slice sa P.steps.length c) P.steps.length (flatSt P.steps) ∧ Below w.heap.size w w'
def DdRel (w : World) (B p4 p5 : Nat) (KK V : ByteArray) (ob : Option Nat) (s0 : RSt) (k : Nat) (wr : World) : Prop := ∃ v, DdM w B p4 p5 KK V ob (decS k s0).2 v v (decS k s0).1 wr
set_option maxHeartbeats 8000000 in
theorem ddecode_any (vb : Value) (xs : List Int) (w : World) (hy : BytesIn w vb xs) (hok : bytesOk xs) (hl : xs.length ≤ 140737488351232) :
    Calls Tryz.prog 5 #[vb] w (DdPost (decP xs) (decE xs) w) := by
  obtain ⟨va, vc, rfl, -⟩ := id hy
  obtain ⟨vn, hvn⟩ : ∃ n, n = xs.length := ⟨_, rfl⟩
  rw [← hvn] at hy ⊢
  have HOK := Lib.hid (show okR (xs, none) from ⟨hok, hl, by simp⟩)
  have HKK := Lib.hid (show okR (decK xs).2 from partS_k HOK.out)
  have HKV := Lib.hid (show okR (decV xs).2 from partS_k HKK.out)
  have HKC := Lib.hid (show okR (decC xs).2 from countS_k HKV.out)
  have HC1 := Lib.hid (show ((w.alloc (.cells prZ 24)).alloc (.cells prZ 24)).heap[w.heap.size]? = some (.cells prZ 24 (0, 0)) from two_start.1)
  have HC2 := Lib.hid (show ((w.alloc (.cells prZ 24)).alloc (.cells prZ 24)).heap[w.heap.size + 1]? = some (.cells prZ 24 (0, 0)) from by have := heap_alloc_new (w.alloc (.cells prZ 24)) (.cells prZ 24); rw [size_alloc] at this; exact this)
  have HB1 := Lib.hid (show Below w.heap.size w ((w.alloc (.cells prZ 24)).alloc (.cells prZ 24)) from ((Below.refl _ w).alloc (Nat.le_refl _) _).alloc (by simp) _)
  have HY0 := Lib.hid hy
  have HCK := Lib.hid (show ∀ X, BytesIn X (.slice va vn vc) xs → Calls Tryz.prog 25 #[.agg #[.slice va vn vc, .int .i64 0], .int .i64 1048576] X (RpPost (decK xs) X) from fun X h => rrbytes_any _ xs none (by simp) 1048576 (by omega) X h hok hl)
  have HCV := Lib.hid (show ∀ v X, BytesIn X v (decK xs).2.1 → Calls Tryz.prog 25 #[.agg (rdC v (numE (decK xs).2.2)), .int .i64 1048576] X (RpPost (decV xs) X) from fun v X h => rrbytes_any v _ _ HKK.out.2.2 1048576 (by omega) X h HKK.out.1 HKK.out.2.1)
  have HCC := Lib.hid (show ∀ v X, BytesIn X v (decV xs).2.1 → Calls Tryz.prog 26 #[.agg (rdC v (numE (decV xs).2.2)), .int .i64 64] X (RcPost (decC xs) X) from fun v X h => rrcount_any v _ _ HKV.out.2.2 64 (by omega) X h HKV.out.1 HKV.out.2.1)
  obtain ⟨KT, hK⟩ : ∃ x, x = strOfNums (decK xs).1 := ⟨_, rfl⟩
  obtain ⟨VT, hV⟩ : ∃ x, x = strOfNums (decV xs).1 := ⟨_, rfl⟩
  have HK := Lib.hid hK
  have HV := Lib.hid hV
  have hbz := pr8_zero_built
  have hbr := rd_built va vn vc
  have HN := Lib.hid (countS_le (decV xs).2 64)
  obtain ⟨n, hn⟩ : ∃ n, n = (decC xs).1 := ⟨_, rfl⟩
  have HNN := Lib.hid hn
  have hn64 : n ≤ 64 := by rw [hn]; exact HN.out
  clear hK hV hn HN hvn hy hok hl
  unfold DdPost
  unfold RpPost at HCK HCV
  unfold RcPost at HCC
  rw [← HNN.out] at HCC
  go_enter Tryz.func5, Tryz.ntmps5
  go_upto_region 2 with (refine wpList_store_row rfl 24 (.tmp 4) (.tmp 11) rfl (w.heap.size + 1) _ rfl rfl 24 _ HC2.out (by kernel_rfl) rfl (by simp [Value.oneCell']) ?_)
  obtain ⟨w1, hw1⟩ : ∃ w1, w1 = (((w.alloc (.cells #[.string { data := #[] }, .string { data := #[] }, .slice none 0 0] 24)).alloc (.cells #[.string { data := #[] }, .string { data := #[] }, .slice none 0 0] 24)).setRow (w.heap.size + 1) #[.string { data := #[] }, .string { data := #[] }, .slice none 0 0]) := ⟨_, rfl⟩
  replace HB1 := Lib.hid (show Below w.heap.size w w1 by rw [hw1]; exact below_setRow HB1.out (Nat.le_succ _) _)
  replace HC1 := Lib.hid (show w1.heap[w.heap.size]? = some (.cells prZ 24 (0, 0)) by rw [hw1]; exact (setRow_other _ _ _ _ (by omega)).trans HC1.out)
  replace HC2 := Lib.hid (show w1.heap[w.heap.size + 1]? = some (.cells prZ 24 (0, 0)) by rw [hw1]; exact setRow_heap _ _ _ _ _ _ HC2.out)
  have HY := Lib.hid (HY0.out.below HB1.out)
  have HL1 := Lib.hid (bk_lt HC2.out)
  rw [← hw1]
  clear hw1 hbz HY0
  go_upto_region 3 with (first
    | (go_at_call 25; (with_reducible refine (HCK.out w1 HY.out).mono ?_); rintro e w2 ⟨v2, vk, rfl, hx, hk, hb⟩; obtain ⟨a2, c2, rfl, -⟩ := id hx; have HX2 := Lib.hid hx; have HVK := Lib.hid hk; have HB2 := Lib.hid hb; clear hx hk hb)
    | (refine wpList_store_row rfl 69 (.tmp 5) (.tmp 16) rfl w2.heap.size (rdC (.slice a2 (decK xs).2.1.length c2) (numE (decK xs).2.2)) rfl rfl 69 _ (heap_alloc_new _ _) (by kernel_rfl) (by rfl) (rd_one _ _ _ _) ?_; rw [World.setRow_alloc_new]))
  clear hbr HCK
  obtain ⟨p5, hp5⟩ : ∃ p5, p5 = w2.heap.size := ⟨_, rfl⟩
  obtain ⟨p4, hp4⟩ : ∃ p4, p4 = w.heap.size + 1 := ⟨_, rfl⟩
  have M := Lib.hid (show DdP w p4 p5 (decK xs).2 (w2.alloc (.cells (rdC (.slice a2 (decK xs).2.1.length c2) (numE (decK xs).2.2)) 69)) from by
    have hba := below_alloc w2 (.cells (rdC (.slice a2 (decK xs).2.1.length c2) (numE (decK xs).2.2)) 69)
    have b12 := HB2.out
    have b13 := b12.trans (hba.mono b12.size)
    have hl1 := HL1.out
    exact ⟨HB1.out.trans (b13.mono HB1.out.size), (b13.block _ (by omega)).trans HC1.out, by rw [hp4]; exact (b13.block _ hl1).trans HC2.out, ⟨_, _, _, by rw [hp5]; exact heap_alloc_new w2 _, HX2.out.below hba⟩, by omega, by have := b12.size; omega⟩)
  replace HVK := Lib.hid (HVK.out.below (below_alloc w2 (.cells (rdC (.slice a2 (decK xs).2.1.length c2) (numE (decK xs).2.2)) 69)))
  rw [← hp5, ← hp4]
  clear hp4 hp5 HX2 HB2 HY HB1 HC1 HC2 HL1
  generalize w2.alloc (.cells (rdC (.slice a2 (decK xs).2.1.length c2) (numE (decK xs).2.2)) 69) = w3 at *
  obtain ⟨ra, rn, rc, h5, hin⟩ := M.out.rd
  have H5 := Lib.hid h5
  have HIN := Lib.hid hin
  clear h5 hin
  go_upto_region 4 with (first
    | (refine wpList_load_row rfl 69 (.tmp 5) rfl p5 rfl 69 _ (0, 0) _ H5.out Tryz.underlying69 rfl (by kernel_rfl) ?_)
    | (go_at_call 25; (with_reducible refine (HCV.out _ w3 HIN.out).mono ?_); rintro e w4 ⟨v4, vv, rfl, hx, hk, hb⟩; obtain ⟨a4, c4, rfl, -⟩ := id hx; have HX4 := Lib.hid hx; have HVV := Lib.hid hk; replace HVK := Lib.hid (HVK.out.below hb); replace M := Lib.hid (M.out.call hb); obtain ⟨qa, qn, qc, h5, -⟩ := M.out.rd; replace H5 := Lib.hid h5; clear hx hk hb h5)
    | (refine wpList_store_row rfl 69 (.tmp 5) (.tmp 21) rfl p5 _ rfl rfl 69 _ H5.out (by kernel_rfl) (by rfl) (rd_one _ _ _ _) ?_))
  obtain ⟨hm, hby⟩ := M.out.read (s' := (decV xs).2) HX4.out
  replace M := Lib.hid hm
  replace HVK := Lib.hid (hby _ _ HVK.out)
  replace HVV := Lib.hid (hby _ _ HVV.out)
  clear hm hby HX4 HIN H5 HCV
  generalize w4.setRow p5 _ = w5 at *
  obtain ⟨sa, sn, sc, h5, hin⟩ := M.out.rd
  have H5 := Lib.hid h5
  have HIN := Lib.hid hin
  clear h5 hin
  go_upto_region 5 with (first
    | (refine wpList_load_row rfl 69 (.tmp 5) rfl p5 rfl 69 _ (0, 0) _ H5.out Tryz.underlying69 rfl (by kernel_rfl) ?_)
    | (go_at_call 26; (with_reducible refine (HCC.out _ w5 HIN.out).mono ?_); rintro e w6 ⟨v6, rfl, hx, hb⟩; obtain ⟨a6, c6, rfl, -⟩ := id hx; have HX6 := Lib.hid hx; replace HVV := Lib.hid (HVV.out.below hb); replace HVK := Lib.hid (HVK.out.below hb); replace M := Lib.hid (M.out.call hb); obtain ⟨qa, qn, qc, h5, -⟩ := M.out.rd; replace H5 := Lib.hid h5; clear hx hb h5)
    | (refine wpList_store_row rfl 69 (.tmp 5) (.tmp 26) rfl p5 _ rfl rfl 69 _ H5.out (by kernel_rfl) (by rfl) (rd_one _ _ _ _) ?_))
  obtain ⟨hm, hby⟩ := M.out.read (s' := (decC xs).2) HX6.out
  replace M := Lib.hid hm
  replace HVK := Lib.hid (hby _ _ HVK.out)
  replace HVV := Lib.hid (hby _ _ HVV.out)
  clear hm hby HX6 HIN H5 HCC
  generalize w6.setRow p5 _ = w7 at *
  refine wp_region_T (fun X => BytesIn X vk (decK xs).1 ∧ BytesIn X vv (decV xs).1) [1, 3, 5] (by kernel_rfl) ?_
  replace M := Lib.hid (M.out.call (Below.refl _ _).drew)
  replace HVK := Lib.hid (HVK.out.below (Below.refl _ _).drew)
  replace HVV := Lib.hid (HVV.out.below (Below.refl _ _).drew)
  generalize w7.drew = w8 at *
  refine anyT_takeY (i := 0) (v := vk) rfl (by kernel_rfl) (by kernel_rfl) (by kernel_rfl) (fun _ _ _ h => h) (by kernel_rfl) (Or.inl ⟨by rfl, by intro w; go_simp⟩) ?_
  try simp only [List.getElem_toArray, List.getElem_cons_succ, List.getElem_cons_zero, Act.put, List.setIfInBounds_toArray, List.set_cons_zero, List.set_cons_succ]
  refine anyT_takeY (i := 2) (v := vv) rfl (by kernel_rfl) (by kernel_rfl) (by kernel_rfl) (fun _ _ _ h => h) (by kernel_rfl) (Or.inl ⟨by rfl, by intro w; go_simp⟩) ?_
  try simp only [List.getElem_toArray, List.getElem_cons_succ, List.getElem_cons_zero, Act.put, List.setIfInBounds_toArray, List.set_cons_zero, List.set_cons_succ]
  refine anyT_take [4, 6, 7] (i := 1) (v := .string KT) rfl (by kernel_rfl) (by kernel_rfl) (by kernel_rfl) (fun _ _ _ h => h) (by kernel_rfl) (Or.inl ⟨by rfl, fun w' hS => by have c := conv_bytes w' vk _ hS.1; rw [← HK.out] at c; go_simp⟩) ⟨HVK.out, HVV.out⟩ ?_
  try simp only [List.getElem_toArray, List.getElem_cons_succ, List.getElem_cons_zero, Act.put, List.setIfInBounds_toArray, List.set_cons_zero, List.set_cons_succ]
  refine anyT_takeY (i := 4) (v := .pointer (some ⟨p4, 0, none⟩)) rfl (by kernel_rfl) (by kernel_rfl) (by kernel_rfl) (fun _ _ _ h => h) (by kernel_rfl) (Or.inl ⟨by rfl, by intro w; go_simp⟩) ?_
  try simp only [List.getElem_toArray, List.getElem_cons_succ, List.getElem_cons_zero, Act.put, List.setIfInBounds_toArray, List.set_cons_zero, List.set_cons_succ]
  refine anyT_take [6, 7] (i := 3) (v := .string VT) rfl (by kernel_rfl) (by kernel_rfl) (by kernel_rfl) (fun _ _ _ h => h) (by kernel_rfl) (Or.inl ⟨by rfl, fun w' hS => by have c := conv_bytes w' vv _ hS.2; rw [← HV.out] at c; go_simp⟩) ⟨HVK.out, HVV.out⟩ ?_
  try simp only [List.getElem_toArray, List.getElem_cons_succ, List.getElem_cons_zero, Act.put, List.setIfInBounds_toArray, List.set_cons_zero, List.set_cons_succ]
  refine anyT_one (i := 5) (by kernel_rfl) rfl (fun K hK => ?_)
  rw [if_pos (by rfl)]
  try simp only [List.getElem_toArray, List.getElem_cons_succ, List.getElem_cons_zero]
  (have k1 : w8.cell? ⟨p4, 0, none⟩ = some (.string { data := #[] }) := by { rw [cell_of_row _ _ 0 _ _ _ M.out.at4]; rfl }; have k2 : w8.frozen? ⟨p4, 0, none⟩ = false := frozen_of_row _ _ _ _ _ M.out.at4; go_simp; clear k1 k2)
  refine hK _ _ (fun _ => ⟨bytes_setCell3 (x := .string { data := #[] }) HVK.out (by rw [cell_of_row _ _ 0 _ _ _ M.out.at4]; rfl) (fun n => by simp), bytes_setCell3 (x := .string { data := #[] }) HVV.out (by rw [cell_of_row _ _ 0 _ _ _ M.out.at4]; rfl) (fun n => by simp)⟩) ?_
  clear hK K
  try simp only [List.getElem_toArray, List.getElem_cons_succ, List.getElem_cons_zero, Act.put, List.setIfInBounds_toArray, List.set_cons_zero, List.set_cons_succ]
  refine anyT_takeY (i := 6) (v := .pointer (some ⟨p4, 1, none⟩)) rfl (by kernel_rfl) (by kernel_rfl) (by kernel_rfl) (fun _ _ _ h => h) (by kernel_rfl) (Or.inl ⟨by rfl, by intro w; go_simp⟩) ?_
  try simp only [List.getElem_toArray, List.getElem_cons_succ, List.getElem_cons_zero, Act.put, List.setIfInBounds_toArray, List.set_cons_zero, List.set_cons_succ]
  refine anyT_one (i := 7) (by kernel_rfl) rfl (fun K hK => ?_)
  rw [if_pos (by rfl)]
  try simp only [List.getElem_toArray, List.getElem_cons_succ, List.getElem_cons_zero]
  (have a1 := heap_setCell_same w8 p4 0 _ _ (.string KT) M.out.at4; have k1 : (w8.setCell ⟨p4, 0, none⟩ (.string KT)).cell? ⟨p4, 1, none⟩ = some (.string { data := #[] }) := by { rw [cell_of_row _ _ 1 _ _ _ a1]; rfl }; have k2 : (w8.setCell ⟨p4, 0, none⟩ (.string KT)).frozen? ⟨p4, 1, none⟩ = false := frozen_of_row _ _ _ _ _ a1; go_simp; clear k1 k2 a1)
  refine hK _ _ (not_mem rfl) ?_
  clear hK K
  try simp only [List.getElem_toArray, List.getElem_cons_succ, List.getElem_cons_zero, Act.put, List.setIfInBounds_toArray, List.set_cons_zero, List.set_cons_succ]
  refine anyT_done (by kernel_rfl) ?_ _
  obtain ⟨ob, hm⟩ := M.out.start HKC.out KT VT
  obtain ⟨B, hB⟩ : ∃ B, B = w8.heap.size := ⟨_, rfl⟩
  rw [← hB] at hm
  have HM0 := Lib.hid (show DdRel w B p4 p5 KT VT ob (decC xs).2 0 _ from ⟨_, hm⟩)
  clear hm hB M HVK HVV
  generalize (w8.setCell ⟨p4, 0, none⟩ (.string KT)).setCell ⟨p4, 1, none⟩ (.string VT) = w9 at *
  go_wp2_with (fail)
  go_loopw [9] (fun x wr => ∃ k : Nat, k ≤ n ∧ x = .int .i64 (k : Int) ∧ Hid (DdRel w B p4 p5 KT VT ob (decC xs).2 k wr)) (fun x _ => n - (intOf x).toNat)
  case atStart => exact ⟨0, Nat.zero_le _, rfl, HM0⟩
  case round =>
    clear HM0
    obtain ⟨k, hkn, rfl, HM⟩ := hrel
    obtain ⟨v, hm⟩ := HM.out
    have M := Lib.hid hm
    obtain ⟨ua, uc, rfl⟩ := own_slice hm.own
    clear hm HM
    have HSK := Lib.hid (show decS (k + 1) (decC xs).2 = ((decS k (decC xs).2).1 ++ [(stpS (decS k (decC xs).2).2).1], (stpS (decS k (decC xs).2).2).2) from rfl)
    have HLK := Lib.hid (decS_len k (decC xs).2)
    by_cases hlt : k < n
    · have hltI : (k : Int) < (n : Int) := by omega
      obtain ⟨s, hs⟩ : ∃ s, s = (decS k (decC xs).2).2 := ⟨_, rfl⟩
      obtain ⟨l, hll⟩ : ∃ l, l = (decS k (decC xs).2).1 := ⟨_, rfl⟩
      rw [← hs, ← hll] at HSK
      rw [← hll] at HLK
      rw [← hs, ← hll] at M
      clear hs hll
      have hbz := st7_zero_built
      go_upto_region 10 with (refine wpList_store_row rfl 74 (.tmp 10) (.tmp 39) rfl wr.heap.size (stC ⟨false, 0, fun _ => 0⟩) rfl rfl 74 _ (heap_alloc_new _ _) (by rw [stC_size]; kernel_rfl) (by rw [stC_size]; rfl) (stC_one _) ?_; rw [World.setRow_alloc_new])
      clear hbz
      have HQ := Lib.hid (heap_alloc_new wr (.cells (stC ⟨false, 0, fun _ => 0⟩) 74))
      have HBA := below_alloc wr (.cells (stC ⟨false, 0, fun _ => 0⟩) 74)
      have HOV := Lib.hid (show ∀ k, (Value.slice ua l.length uc).ownBlock = some k → k ≠ wr.heap.size from fun k hk => by have := own_lt M.out.own hk; omega)
      have HQB := Lib.hid M.out.le
      replace M := Lib.hid (M.out.call HBA)
      clear HBA
      obtain ⟨q, hq⟩ : ∃ q, q = wr.heap.size := ⟨_, rfl⟩
      rw [← hq] at HQ HOV HQB ⊢
      clear hq
      generalize wr.alloc (.cells (stC ⟨false, 0, fun _ => 0⟩) 74) = w10 at *
      have HCB := Lib.hid (show ∀ v X, BytesIn X v s.1 → Calls Tryz.prog 27 #[.agg (rdC v (numE s.2))] X (RbPostO v (boolS s) X) from fun v X h => rrboolO_any v s.1 s.2 M.out.ok.2.2 X h M.out.ok.1)
      have HOK2 := Lib.hid (boolS_k M.out.ok)
      have HOK3 := Lib.hid (intS_k HOK2.out)
      have HCI := Lib.hid (show ∀ v X, BytesIn X v (boolS s).2.1 → Calls Tryz.prog 28 #[.agg (rdC v (numE (boolS s).2.2))] X (RiPostO v (intS (boolS s).2) X) from fun v X h => rrintO_any v _ _ HOK2.out.2.2 X h HOK2.out.1 HOK2.out.2.1)
      have HCH := Lib.hid (show ∀ v X, BytesIn X v (intS (boolS s).2).2.1 → Calls Tryz.prog 29 #[.agg (rdC v (numE (intS (boolS s).2).2.2))] X (RhPost v (hashS (intS (boolS s).2).2) X) from fun v X h => rhash2_any v _ _ HOK3.out.2.2 X h)
      unfold RbPostO at HCB
      unfold RiPostO at HCI
      unfold RhPost at HCH
      obtain ⟨ra', rn', rc', h5, hin, hob⟩ := M.out.rd
      have H5 := Lib.hid h5
      have HIN := Lib.hid hin
      have HOB := Lib.hid hob
      clear h5 hin hob
      go_upto_region 11 with (first
        | (refine wpList_load_row rfl 69 (.tmp 5) rfl p5 rfl 69 _ (0, 0) _ H5.out Tryz.underlying69 rfl (by kernel_rfl) ?_)
        | (go_at_call 27; (with_reducible refine (HCB.out _ w10 HIN.out).mono ?_); rintro e w11 ⟨vx, rfl, hx, ho, hb⟩; obtain ⟨ax, cx, rfl, -⟩ := id hx; have HX := Lib.hid hx; have HO := Lib.hid (ho.trans HOB.out); replace M := Lib.hid (M.out.call hb); replace HQ := Lib.hid ((hb.block _ (bk_lt HQ.out)).trans HQ.out); obtain ⟨_, _, _, h5, -⟩ := M.out.rd; replace H5 := Lib.hid h5; clear hx ho hb h5)
        | (refine wpList_store_row rfl 69 (.tmp 5) (.tmp 43) rfl p5 (rdC (.slice ax (boolS s).2.1.length cx) (numE (boolS s).2.2)) rfl rfl 69 _ H5.out (by kernel_rfl) (by rfl) (rd_one _ _ _ _) ?_; go_loud (replace HQ := Lib.hid ((setRow_other w11 p5 q (rdC (.slice ax (boolS s).2.1.length cx) (numE (boolS s).2.2)) (by have := M.out.p5B; have := HQB.out; omega)).trans HQ.out); replace M := Lib.hid (M.out.read (s' := (boolS s).2) (Below.refl _ _) HX.out HO.out (boolS_k M.out.ok) boolS_e); generalize w11.setRow p5 (rdC (.slice ax (boolS s).2.1.length cx) (numE (boolS s).2.2)) = w12 at *; have k0 : w12.cell? ⟨q, 0, none⟩ = some (.bool false) := (cell_of_row _ _ 0 _ _ _ HQ.out).trans (st_c0 _); have k1 : w12.frozen? ⟨q, 0, none⟩ = false := frozen_of_row _ _ _ _ _ HQ.out)))
      clear k0 k1
      replace HQ := Lib.hid (show (w12.setCell ⟨q, 0, none⟩ (.bool (boolS s).1)).heap[q]? = some (.cells (stC ⟨(boolS s).1, 0, fun _ => 0⟩) 74 (0, 0)) by rw [heap_setCell_same _ q 0 _ _ _ HQ.out, st_set0])
      replace M := Lib.hid (M.out.side (Only.setCell w12 ⟨q, 0, none⟩ (.bool (boolS s).1)) HQB.out HOV.out (fun k hk => Nat.lt_of_lt_of_le hk M.out.le))
      clear HX HO H5 HIN HOB HCB
      generalize w12.setCell ⟨q, 0, none⟩ (.bool (boolS s).1) = w13 at *
      obtain ⟨ra', rn', rc', h5, hin, hob⟩ := M.out.rd
      have H5 := Lib.hid h5
      have HIN := Lib.hid hin
      have HOB := Lib.hid hob
      clear h5 hin hob
      go_upto_region 12 with (first
        | (refine wpList_load_row rfl 69 (.tmp 5) rfl p5 rfl 69 _ (0, 0) _ H5.out Tryz.underlying69 rfl (by kernel_rfl) ?_)
        | (go_at_call 28; (with_reducible refine (HCI.out _ w13 HIN.out).mono ?_); rintro e w14 ⟨vx, rfl, hx, ho, hb⟩; obtain ⟨ax, cx, rfl, -⟩ := id hx; have HX := Lib.hid hx; have HO := Lib.hid (ho.trans HOB.out); replace M := Lib.hid (M.out.call hb); replace HQ := Lib.hid ((hb.block _ (bk_lt HQ.out)).trans HQ.out); obtain ⟨_, _, _, h5, -⟩ := M.out.rd; replace H5 := Lib.hid h5; clear hx ho hb h5)
        | (refine wpList_store_row rfl 69 (.tmp 5) (.tmp 49) rfl p5 (rdC (.slice ax (intS (boolS s).2).2.1.length cx) (numE (intS (boolS s).2).2.2)) rfl rfl 69 _ H5.out (by kernel_rfl) (by rfl) (rd_one _ _ _ _) ?_; go_loud (replace HQ := Lib.hid ((setRow_other w14 p5 q (rdC (.slice ax (intS (boolS s).2).2.1.length cx) (numE (intS (boolS s).2).2.2)) (by have := M.out.p5B; have := HQB.out; omega)).trans HQ.out); replace M := Lib.hid (M.out.read (s' := (intS (boolS s).2).2) (Below.refl _ _) HX.out HO.out (intS_k M.out.ok) intS_e); generalize w14.setRow p5 (rdC (.slice ax (intS (boolS s).2).2.1.length cx) (numE (intS (boolS s).2).2.2)) = w15 at *; have k0 : w15.cell? ⟨q, 1, none⟩ = some (.int .i64 0) := (cell_of_row _ _ 1 _ _ _ HQ.out).trans (st_c1 _); have k1 : w15.frozen? ⟨q, 1, none⟩ = false := frozen_of_row _ _ _ _ _ HQ.out)))
      clear k0 k1
      replace HQ := Lib.hid (show (w15.setCell ⟨q, 1, none⟩ (.int .i64 (intS (boolS s).2).1)).heap[q]? = some (.cells (stC ⟨(boolS s).1, (intS (boolS s).2).1, fun _ => 0⟩) 74 (0, 0)) by rw [heap_setCell_same _ q 1 _ _ _ HQ.out, st_set1])
      replace M := Lib.hid (M.out.side (Only.setCell w15 ⟨q, 1, none⟩ (.int .i64 (intS (boolS s).2).1)) HQB.out HOV.out (fun k hk => Nat.lt_of_lt_of_le hk M.out.le))
      clear HX HO H5 HIN HOB HCI
      generalize w15.setCell ⟨q, 1, none⟩ (.int .i64 (intS (boolS s).2).1) = w16 at *
      obtain ⟨ra', rn', rc', h5, hin, hob⟩ := M.out.rd
      have H5 := Lib.hid h5
      have HIN := Lib.hid hin
      have HOB := Lib.hid hob
      clear h5 hin hob
      go_upto_region 13 with (first
        | (refine wpList_load_row rfl 69 (.tmp 5) rfl p5 rfl 69 _ (0, 0) _ H5.out Tryz.underlying69 rfl (by kernel_rfl) ?_)
        | (go_at_call 29; (with_reducible refine (HCH.out _ w16 HIN.out).mono ?_); rintro e w17 ⟨vx, rfl, hx, ho, hb⟩; obtain ⟨ax, cx, rfl, -⟩ := id hx; have HX := Lib.hid hx; have HO := Lib.hid (ho.trans HOB.out); replace M := Lib.hid (M.out.call hb); replace HQ := Lib.hid ((hb.block _ (bk_lt HQ.out)).trans HQ.out); obtain ⟨_, _, _, h5, -⟩ := M.out.rd; replace H5 := Lib.hid h5; clear hx ho hb h5)
        | (refine wpList_store_row rfl 69 (.tmp 5) (.tmp 55) rfl p5 (rdC (.slice ax (hashS (intS (boolS s).2).2).2.1.length cx) (numE (hashS (intS (boolS s).2).2).2.2)) rfl rfl 69 _ H5.out (by kernel_rfl) (by rfl) (rd_one _ _ _ _) ?_; go_loud (replace HQ := Lib.hid ((setRow_other w17 p5 q (rdC (.slice ax (hashS (intS (boolS s).2).2).2.1.length cx) (numE (hashS (intS (boolS s).2).2).2.2)) (by have := M.out.p5B; have := HQB.out; omega)).trans HQ.out); replace M := Lib.hid (M.out.read (s' := (hashS (intS (boolS s).2).2).2) (Below.refl _ _) HX.out HO.out (hashS_k M.out.ok) hashS_e); generalize w17.setRow p5 (rdC (.slice ax (hashS (intS (boolS s).2).2).2.1.length cx) (numE (hashS (intS (boolS s).2).2).2.2)) = w18 at *; skip))
        | (refine wpList_store_mid rfl 62 (.tmp 57) (.tmp 56) rfl q 2 (rowOf .u8 32 (hashS (intS (boolS s).2).2).1) rfl rfl (st_there HQ.out) (by rw [rowOf_size]; kernel_rfl) (rowOf_one _ _ _) ?_))
      replace HQ := Lib.hid (show (w18.setCells q 2 (rowOf .u8 32 (hashS (intS (boolS s).2).2).1).toList).heap[q]? = some (.cells (stC (stpS s).1) 74 (0, 0)) from st_hash HQ.out)
      replace M := Lib.hid (M.out.side (only_cells q (rowOf .u8 32 (hashS (intS (boolS s).2).2).1).toList 2 w18) HQB.out HOV.out (fun k hk => Nat.lt_of_lt_of_le hk M.out.le))
      clear HX HO H5 HIN HOB HCH
      generalize w18.setCells q 2 (rowOf .u8 32 (hashS (intS (boolS s).2).2).1).toList = w19 at *
      have c2 : w19.cell? ⟨p4, 2, none⟩ = some (.slice ua l.length uc) := cell_of_row _ _ 2 _ _ _ M.out.at4
      go_upto_region 8 with (first
        | (refine wpList_load_row rfl 74 (.tmp 10) rfl q rfl 74 _ (0, 0) _ HQ.out Tryz.underlying74 rfl (by rw [stC_size]; kernel_rfl) ?_)
        | (refine wpList_step7D rfl (.tmp 60) rfl (stpS s).1 rfl ?_; have HA := Lib.hid (heap_alloc_new w19 (.cells (stC (stpS s).1) 74)); replace M := Lib.hid (M.out.call (below_alloc w19 (.cells (stC (stpS s).1) 74))); obtain ⟨qa, hqa⟩ : ∃ x, x = w19.heap.size := ⟨_, rfl⟩; rw [← hqa] at HA ⊢; clear hqa; generalize w19.alloc (.cells (stC (stpS s).1) 74) = w20 at *)
        | (refine wpList_append7D rfl (.tmp 59) (.tmp 61) rfl rfl B (.slice ua l.length uc) l rfl M.out.own qa (stpS s).1 rfl HA.out (by rw [HLK.out]; omega) M.out.le ?_; intro v21 w21 ho hg; obtain ⟨xa, xc, hxe⟩ := own_slice ho; rw [show (l ++ [(stpS s).1]).length = l.length + 1 from by simp] at hxe; subst hxe; replace M := Lib.hid (M.out.grow ho hg); have k0 : w21.cell? ⟨p4, 2, none⟩ = some (.slice ua l.length uc) := cell_of_row _ _ 2 _ _ _ M.out.at4; have k1 : w21.frozen? ⟨p4, 2, none⟩ = false := frozen_of_row _ _ _ _ _ M.out.at4; clear ho hg))
      clear c2 k0 k1
      replace M := Lib.hid (M.out.set (fun n => by simp))
      generalize w21.setCell ⟨p4, 2, none⟩ (.slice xa (l.length + 1) xc) = w22 at *
      go_wp2_with (fail)
      go_roundw
      case rel => exact ⟨k + 1, by omega, by go_num, Lib.hid ⟨_, by rw [HSK.out]; exact M.out⟩⟩
      case measure => simp [intOf]; omega
    · obtain rfl : k = n := by omega
      obtain ⟨ra', rn', rc', h5, hin, -⟩ := M.out.rd
      have HE := Lib.hid (show Calls Tryz.prog 30 #[.agg (rdC (.slice ra' rn' rc') (numE (decS k (decC xs).2).2.2))] wr fun r w' => r = .returned (.int .i64 (numE (doneE (decS k (decC xs).2).2))) ∧ Below wr.heap.size wr w' from rdone2_any _ _ _ M.out.ok.2.2 wr hin (Nat.le_trans M.out.ok.2.1 (by omega)))
      have H5 := Lib.hid h5
      have HDN := Lib.hid (show numE (doneE (decS k (decC xs).2).2) = 0 ↔ doneE (decS k (decC xs).2).2 = none from by
        have h := M.out.ok.2.2
        unfold doneE
        cases he : (decS k (decC xs).2).2.2 with
        | none => simp only; split <;> simp [numE]
        | some x => simp only [numE]; rw [he] at h; constructor
                    · intro h2; exact absurd (by rw [show x = 0 by omega]) h
                    · intro h2; cases h2)
      clear h5 hin
      rw [HNN.out] at M HE HDN HLK H5
      obtain ⟨l, hll⟩ : ∃ l, l = (decS (decC xs).1 (decC xs).2).1 := ⟨_, rfl⟩
      obtain ⟨dn, hdn⟩ : ∃ d, d = numE (doneE (decS (decC xs).1 (decC xs).2).2) := ⟨_, rfl⟩
      have HLL := Lib.hid hll
      rw [← hdn] at HE HDN
      rw [← hll] at M HLK
      clear hll hdn hkn hlt
      by_cases hd : doneE (decL xs).2 = none
      · have hz : dn = 0 := HDN.out.2 hd
        have HP := Lib.hid (show decP xs = ⟨KT, VT, l⟩ ∧ decE xs = none from ⟨by unfold decP; rw [hd, HK.out, HV.out, HLL.out]; rfl, by unfold decE; rw [hd]; rfl⟩)
        subst hz
        clear hd HDN HLL
        go_wp2_with (first
          | (refine wpList_load_row rfl 69 (.tmp 5) rfl p5 rfl 69 _ (0, 0) _ H5.out Tryz.underlying69 rfl (by kernel_rfl) ?_)
          | (go_at_call 30; (with_reducible refine HE.out.mono ?_); rintro e w7 ⟨rfl, hb⟩; replace M := Lib.hid (M.out.call hb); clear hb)
          | (refine wpList_load_row rfl 24 (.tmp 4) rfl p4 rfl 24 _ (0, 0) _ M.out.at4 Tryz.underlying24 rfl (by kernel_rfl) ?_)
          | (refine wpList_store_row rfl 24 (.tmp 2) (.tmp 68) rfl w.heap.size _ rfl rfl 24 _ M.out.res (by kernel_rfl) rfl (by simp [Value.oneCell']) ?_))
        refine bodyPost_ret (results_cell_tmp_row rfl _ _ w.heap.size 24 #[.string KT, .string VT, .slice ua l.length uc] (0, 0) _ rfl (setRow_heap _ _ _ _ _ _ M.out.res) Tryz.underlying24 rfl (by kernel_rfl)) rfl ?_
        rw [HP.out.1, HP.out.2]
        have h1 := M.out.r4; have h2 := M.out.p45; have h3 := M.out.p5B
        exact ⟨ua, uc, rfl, own_base (own_stay M.out.own fun k hk => setRow_other _ _ _ _ (by have := own_ge M.out.own hk; omega)) (by omega), below_setRow M.out.below (Nat.le_refl _) _⟩
      · have hz : (dn != 0) = true := by
          have : ¬ dn = 0 := fun h => hd (HDN.out.1 h)
          simpa using this
        have HP := Lib.hid (show decP xs = zP ∧ decE xs = some 3 from by
          obtain ⟨x, hx⟩ := Option.ne_none_iff_exists'.1 hd
          exact ⟨by unfold decP; rw [hx]; rfl, by unfold decE; rw [hx]; rfl⟩)
        have hbz := pr8_zero_built
        clear hd HDN HLL
        go_wp2_with (first
          | (refine wpList_load_row rfl 69 (.tmp 5) rfl p5 rfl 69 _ (0, 0) _ H5.out Tryz.underlying69 rfl (by kernel_rfl) ?_)
          | (go_at_call 30; (with_reducible refine HE.out.mono ?_); rintro e w7 ⟨rfl, hb⟩; replace M := Lib.hid (M.out.call hb); clear hb)
          | (refine wpList_store_row rfl 24 (.tmp 2) (.tmp 67) rfl w.heap.size _ rfl rfl 24 _ M.out.res (by kernel_rfl) rfl (by simp [Value.oneCell']) ?_))
        refine bodyPost_ret (results_cell_tmp_row rfl _ _ w.heap.size 24 prZ (0, 0) _ rfl (setRow_heap _ _ _ _ _ _ M.out.res) Tryz.underlying24 rfl (by kernel_rfl)) rfl ?_
        rw [HP.out.1, HP.out.2]
        exact ⟨none, 0, rfl, World.ownsRow_nil _ _ _ _, below_setRow M.out.below (Nat.le_refl _) _⟩
end Go.Proofs.YtabflppnecemkaaGreatDoor
