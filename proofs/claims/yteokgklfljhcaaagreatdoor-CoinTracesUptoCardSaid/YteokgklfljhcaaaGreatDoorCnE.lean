/- coin: the reference's way to read a text, and the program's: they agree. -/
import Derived.Test.YteokgklfljhcaaaGreatDoorCnM
namespace Go.Proofs.YteokgklfljhcaaaGreatDoor
open Go.RowKit
set_option maxRecDepth 100000
set_option linter.unusedSimpArgs false
set_option linter.unusedVariables false
/-- path, from, marks in front of the k-th byte -/
def rS (s : ByteArray) : Nat → List ByteArray × Nat × Nat
  | 0 => ([], 0, 0)
  | k + 1 => if s.data.toList[k]? = some 47 then (if ((rS s k).2.2 + 1) % 2 = 0 then ((rS s k).1 ++ [s.extract (rS s k).2.1 k], k + 1, (rS s k).2.2 + 1) else ((rS s k).1, (rS s k).2.1, (rS s k).2.2 + 1)) else rS s k
theorem rS_bounds (s : ByteArray) : ∀ k, (rS s k).2.1 ≤ k ∧ (rS s k).2.2 ≤ k ∧ (rS s k).1.length ≤ k
  | 0 => ⟨Nat.le_refl _, Nat.le_refl _, Nat.le_refl _⟩
  | k + 1 => by
    have := rS_bounds s k
    unfold rS
    split
    · split
      · simp only [List.length_append, List.length_singleton]; omega
      · simp only; omega
    · omega
theorem rS_scan (s : ByteArray) (k : Nat) : ∀ d, (∀ i, i < d → s.data.toList[k + i]? ≠ some 47) → rS s (k + d) = rS s k
  | 0, _ => rfl
  | d + 1, h => by
    rw [← rS_scan s k d (fun i hi => h i (by omega))]
    show rS s (k + d + 1) = _
    conv => lhs; unfold rS
    rw [if_neg (h d (by omega))]
theorem rS_end (s : ByteArray) (A x y B : List UInt8) (q : List ByteArray) (m : Nat) (hs : s.data.toList = A ++ (x ++ 47 :: (y ++ 47 :: B))) (hx : 47 ∉ x) (hy : 47 ∉ y) (hm : m % 2 = 0) (hr : rS s A.length = (q, A.length, m)) :
    rS s (A.length + x.length + 1 + y.length + 1) = (q ++ [⟨(x ++ 47 :: y).toArray⟩], A.length + x.length + 1 + y.length + 1, m + 2) := by
  have e1 : rS s (A.length + x.length) = (q, A.length, m) := by
    rw [rS_scan s A.length x.length (fun i hi e => hx ?_), hr]
    rw [hs, List.getElem?_append_right (by omega), Nat.add_sub_cancel_left, List.getElem?_append_left hi] at e
    exact List.mem_of_getElem? e
  have g1 : s.data.toList[A.length + x.length]? = some 47 := by
    rw [hs, List.getElem?_append_right (by omega), Nat.add_sub_cancel_left, List.getElem?_append_right (Nat.le_refl _), Nat.sub_self]
    rfl
  have e2 : rS s (A.length + x.length + 1) = (q, A.length, m + 1) := by
    conv => lhs; unfold rS
    rw [if_pos g1, e1, if_neg (by simp only; omega)]
  have e3 : rS s (A.length + x.length + 1 + y.length) = (q, A.length, m + 1) := by
    rw [rS_scan s _ y.length (fun i hi e => hy ?_), e2]
    rw [hs, List.getElem?_append_right (by omega), show A.length + x.length + 1 + i - A.length = x.length + (1 + i) from by omega, List.getElem?_append_right (by omega), show x.length + (1 + i) - x.length = i + 1 from by omega, List.getElem?_cons_succ, List.getElem?_append_left hi] at e
    exact List.mem_of_getElem? e
  have g2 : s.data.toList[A.length + x.length + 1 + y.length]? = some 47 := by
    rw [hs, List.getElem?_append_right (by omega), show A.length + x.length + 1 + y.length - A.length = x.length + (1 + y.length) from by omega, List.getElem?_append_right (by omega), show x.length + (1 + y.length) - x.length = y.length + 1 from by omega, List.getElem?_cons_succ, List.getElem?_append_right (Nat.le_refl _), Nat.sub_self]
    rfl
  conv => lhs; unfold rS
  rw [if_pos g2, e3, if_pos (by simp only; omega)]
  have hex : s.extract A.length (A.length + x.length + 1 + y.length) = ⟨(x ++ 47 :: y).toArray⟩ := bytes_ext14 (by
    rw [ext_data14, hs]
    have : A ++ (x ++ 47 :: (y ++ 47 :: B)) = (A ++ (x ++ 47 :: y)) ++ 47 :: B := by simp
    rw [this, List.take_left' (by simp; omega), List.drop_left])
  simp only [hex]
theorem rS_full (s b : ByteArray) (hb : 47 ∉ b.data.toList) : ∀ (p : List ByteArray) (A : List UInt8) (q : List ByteArray) (m : Nat), (∀ e ∈ p, endB e = true) → s.data.toList = A ++ (joinS (p ++ [b])).data.toList → m % 2 = 0 → rS s A.length = (q, A.length, m) →
    (rS s s.size).1 = q ++ p ∧ s.extract (rS s s.size).2.1 s.size = b
  | [], A, q, m, _, hs, hm, hr => by
    rw [List.nil_append, joinS_one] at hs
    have hsz : s.size = A.length + b.data.toList.length := by rw [← size14, hs, List.length_append]
    have h1 : rS s s.size = (q, A.length, m) := by
      rw [hsz, rS_scan s A.length _ (fun i hi e => hb ?_), hr]
      rw [hs, List.getElem?_append_right (by omega), Nat.add_sub_cancel_left] at e
      exact List.mem_of_getElem? e
    rw [h1]
    refine ⟨by simp, bytes_ext14 ?_⟩
    rw [ext_data14, ← size14, List.take_length, hs, List.drop_left]
  | e :: p, A, q, m, he, hs, hm, hr => by
    obtain ⟨h1, h2, h3⟩ := end_parts (he e (List.mem_cons_self ..))
    have hd : e.data.toList = (portS e).data.toList ++ 47 :: (chanS e).data.toList := by
      conv => lhs; rw [h1]
      rw [app_data14, app_data14, slash_data, List.append_assoc]; rfl
    have hj : (joinS (e :: p ++ [b])).data.toList = (portS e).data.toList ++ 47 :: ((chanS e).data.toList ++ 47 :: (joinS (p ++ [b])).data.toList) := by
      rw [List.cons_append, joinS_cons _ _ (by simp), app_data14, app_data14, slash_data, hd]; simp
    rw [hj] at hs
    have hk := rS_end s A _ _ _ q m hs (name_no h2) (name_no h3) hm hr
    have hee : (⟨((portS e).data.toList ++ 47 :: (chanS e).data.toList).toArray⟩ : ByteArray) = e := bytes_ext14 (by rw [hd])
    rw [hee] at hk
    have hlen : (A ++ ((portS e).data.toList ++ 47 :: ((chanS e).data.toList ++ [47]))).length = A.length + (portS e).data.toList.length + 1 + (chanS e).data.toList.length + 1 := by simp; omega
    have := rS_full s b hb p (A ++ ((portS e).data.toList ++ 47 :: ((chanS e).data.toList ++ [47]))) (q ++ [e]) (m + 2) (fun x hx => he x (List.mem_cons_of_mem _ hx)) (by rw [hs]; simp) (by omega) (by rw [hlen]; exact hk)
    rwa [List.append_assoc] at this
def refP (s : ByteArray) : List ByteArray := (rS s s.size).1
def refB (s : ByteArray) : ByteArray := s.extract (rS s s.size).2.1 s.size
theorem ref_full {p : List ByteArray} {b : ByteArray} (h : trE p b = none) : refP (joinS (p ++ [b])) = p ∧ refB (joinS (p ++ [b])) = b := by
  obtain ⟨h1, h2, h3⟩ := trE_ok h
  exact rS_full (joinS (p ++ [b])) b (base_no h3) p [] [] 0 h2 rfl rfl rfl
theorem split_ne (k : Nat) (s : ByteArray) : Lib.splitB slash 0 k s ≠ [] := by
  cases k with
  | zero => simp [Lib.splitB]
  | succ k => unfold Lib.splitB; split <;> simp
theorem ix_first (l : List UInt8) : ∀ (i : Nat), Lib.indexByte l 47 = i → 47 ∉ l.take i := by
  induction l with
  | nil => intro i h hm; simp at hm
  | cons b l ih =>
    intro i h hm
    unfold Lib.indexByte at h
    by_cases hb : b = 47
    · subst hb
      rw [if_pos (by rfl)] at h
      obtain rfl : i = 0 := by omega
      simp at hm
    · rw [if_neg (by rwa [beq_iff_eq])] at h
      split at h
      · omega
      · obtain ⟨j, rfl⟩ : ∃ j, i = j + 1 := ⟨i - 1, by have := Lib.indexByte_ge l 47; rename_i h2; have h3 : ¬ Lib.indexByte l 47 = -1 := fun e => h2 (beq_iff_eq.2 e); omega⟩
        rw [List.take_succ_cons] at hm
        rcases List.mem_cons.1 hm with e | e
        · exact hb e.symm
        · exact ih j (by omega) e
theorem join_split : ∀ (k : Nat) (s : ByteArray), joinS (Lib.splitB slash 0 k s) = s ∧ ∀ x ∈ (Lib.splitB slash 0 k s).dropLast, 47 ∉ x.data.toList
  | 0, s => ⟨joinS_one s, fun x hx => by simp [Lib.splitB] at hx⟩
  | k + 1, s => by
    have hge : -1 ≤ Lib.indexB s slash := by show -1 ≤ Lib.index _ [47]; rw [Lib.index_one]; exact Lib.indexByte_ge _ _
    by_cases hm : Lib.indexB s slash = -1
    · rw [Lib.splitB_miss _ _ _ _ hm]
      exact ⟨joinS_one s, fun x hx => by simp at hx⟩
    · obtain ⟨i, hi⟩ : ∃ i : Nat, Lib.indexB s slash = i := ⟨(Lib.indexB s slash).toNat, by omega⟩
      have hi2 : Lib.indexByte s.data.toList 47 = i := by rw [← Lib.index_one]; exact hi
      obtain ⟨h1, h2⟩ := join_split k (s.extract (i + slash.size) s.size)
      rw [Lib.splitB_hit _ _ _ _ _ hi, joinS_cons _ _ (split_ne _ _), h1]
      refine ⟨bytes_ext14 ?_, fun x hx => ?_⟩
      · rw [app_data14, app_data14, ext_data14, ext_data14, slash_data, ← size14 s, List.take_length, List.drop_zero, List.append_assoc]
        exact (ix_split _ i hi2).symm
      · rw [List.dropLast_cons_of_ne_nil (split_ne _ _)] at hx
        rcases List.mem_cons.1 hx with rfl | hx
        · rw [ext_data14, List.drop_zero]; exact ix_first _ i hi2
        · exact h2 x hx
/-- pairs of a list joined (the last one alone, where there is none beside it) -/
def pairsL : List ByteArray → List ByteArray
  | [] => []
  | [x] => [joinS [x]]
  | x :: y :: l => joinS [x, y] :: pairsL l
theorem pairs_ck : ∀ l : List ByteArray, (List.range ((l.length + 1) / 2)).map (fun j => joinS (ckL l j)) = pairsL l
  | [] => rfl
  | [x] => by simp [ckL, ckJ, pairsL, List.range_succ]
  | x :: y :: l => by
    rw [show ((x :: y :: l).length + 1) / 2 = (l.length + 1) / 2 + 1 from by simp only [List.length_cons]; omega, List.range_succ_eq_map, List.map_cons, List.map_map]
    show _ = joinS [x, y] :: pairsL l
    rw [← pairs_ck l]
    congr 1
    apply List.map_congr_left
    intro j hj
    have hj2 := List.mem_range.1 hj
    show joinS (ckL (x :: y :: l) (j + 1)) = _
    congr 1
    unfold ckL
    have h1 : ckJ (x :: y :: l).length (j + 1) = j + 1 := by unfold ckJ; simp only [List.length_cons]; omega
    have h2 : ckJ l.length j = j := by unfold ckJ; omega
    rw [h1, h2, show 2 * (j + 1) = 2 * j + 1 + 1 from by omega]
    rfl
theorem pairs_join (b : ByteArray) : ∀ l : List ByteArray, l.length % 2 = 0 → joinS (pairsL l ++ [b]) = joinS (l ++ [b])
  | [], _ => rfl
  | [x], h => by simp at h
  | x :: y :: l, h => by
    have ih := pairs_join b l (by simp only [List.length_cons] at h; omega)
    show joinS (joinS [x, y] :: (pairsL l ++ [b])) = joinS (x :: y :: (l ++ [b]))
    rw [joinS_cons (joinS [x, y]) _ (by simp), joinS_cons x [y] (by simp), joinS_one, ih, joinS_cons x (y :: (l ++ [b])) (by simp), joinS_cons y (l ++ [b]) (by simp), app_assoc14 _ _ _ x]
theorem pairs_odd : ∀ l : List ByteArray, l.length % 2 = 1 → ∃ x ∈ l, x ∈ pairsL l
  | [], h => by simp at h
  | [x], _ => ⟨x, List.mem_cons_self .., by unfold pairsL; rw [joinS_one]; exact List.mem_cons_self ..⟩
  | x :: y :: l, h => by
    obtain ⟨z, h1, h2⟩ := pairs_odd l (by simp only [List.length_cons] at h; omega)
    exact ⟨z, List.mem_cons_of_mem _ (List.mem_cons_of_mem _ h1), by unfold pairsL; exact List.mem_cons_of_mem _ h2⟩
theorem end_no {x : ByteArray} (h : 47 ∉ x.data.toList) : endB x = false := by
  have hx : ixB x = -1 := ix_miss14 _ h
  unfold endB chanS
  rw [if_pos hx]
  rw [show nameB { data := #[] } = false from by decide, Bool.and_false]
theorem parse_full {s : ByteArray} (h : parE s = none) : s = joinS (parPath s ++ [parBase s]) := by
  obtain ⟨hj, hno⟩ := join_split (min 17 (s.size + 1) - 1) s
  change joinS (partsS s) = s at hj
  change ∀ x ∈ (partsS s).dropLast, _ at hno
  have hpos := parts_pos s
  have hbase : parBase s = (partsS s).getLast (by intro e; rw [e] at hpos; simp at hpos) := by
    unfold parBase
    rw [List.getLast_eq_getElem, List.getElem?_eq_getElem (by omega)]
    rfl
  have htake : (partsS s).take ((partsS s).length - 1) = (partsS s).dropLast := (List.dropLast_eq_take ..).symm
  have hpath : parPath s = pairsL (partsS s).dropLast := by
    unfold parPath
    rw [htake, ← pairs_ck, List.length_dropLast, show (partsS s).length - 1 + 1 = (partsS s).length from by omega]
  have hall : (partsS s).dropLast ++ [parBase s] = partsS s := by rw [hbase]; exact List.dropLast_concat_getLast _
  unfold parE at h
  by_cases hodd : (partsS s).dropLast.length % 2 = 0
  · rw [hpath, pairs_join _ _ hodd, hall, hj]
  · obtain ⟨x, h1, h2⟩ := pairs_odd (partsS s).dropLast (by omega)
    have h3 := (trE_ok h).2.1 x (by rw [hpath]; exact h2)
    rw [end_no (hno x h1)] at h3
    cases h3
theorem parE_cases (s : ByteArray) : parE s = none ∨ parE s = some 40 := by
  have hl : (parPath s).length ≤ 8 := by unfold parPath; rw [List.length_map, List.length_range]; have := parts_le s; omega
  unfold parE trE
  rw [if_neg (by omega)]
  split
  · exact .inr rfl
  · exact .inl rfl
/-- the reference's own answer -/
def refOk (s : ByteArray) : Prop := trE (refP s) (refB s) = none ∧ fullR (refP s) (refB s) = s
theorem ref_par (s : ByteArray) : (refOk s ↔ parE s = none) ∧ (refOk s → refP s = parP s ∧ refB s = parB s) := by
  have h1 : parE s = none → refOk s ∧ refP s = parP s ∧ refB s = parB s := fun h => by
    have hs := parse_full h
    have ht : trE (parPath s) (parBase s) = none := h
    obtain ⟨e1, e2⟩ := ref_full ht
    rw [← hs] at e1 e2
    refine ⟨⟨by rw [e1, e2]; exact ht, by rw [e1, e2, full_eq ht]; exact hs.symm⟩, ?_, ?_⟩
    · unfold parP; rw [if_pos h, e1]
    · unfold parB; rw [if_pos h, e2]
  have h2 : refOk s → parE s = none := fun ⟨h, e⟩ => by
    rw [full_eq h] at e
    have := (par_full h).1
    rwa [e] at this
  exact ⟨⟨h2, fun h => (h1 h).1⟩, fun h => (h1 (h2 h)).2⟩
end Go.Proofs.YteokgklfljhcaaaGreatDoor
