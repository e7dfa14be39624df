/- coin: what a trace's text is split into, and what Parse makes of it; what came in goes back; a denomination passes. -/
import Derived.Test.YteokgklfljhcaaaGreatDoorCnB
import Derived.Test.YteokgklfljhcaaaGreatDoorCnD
import Derived.Test.YteokgklfljhcaaaGreatDoorCnQ
namespace Go.Proofs.YteokgklfljhcaaaGreatDoor
open Go.RowKit
set_option maxRecDepth 100000
set_option linter.unusedSimpArgs false
set_option linter.unusedVariables false
theorem bytes_ext14 {a b : ByteArray} (h : a.data.toList = b.data.toList) : a = b := by
  cases a; cases b; congr; exact Array.toList_inj.1 h
theorem app_data14 (a b : ByteArray) : (a ++ b).data.toList = a.data.toList ++ b.data.toList := by
  rw [ByteArray.data_append, Array.toList_append]
theorem ext_data14 (s : ByteArray) (i j : Nat) : (s.extract i j).data.toList = (s.data.toList.take j).drop i := by
  rw [ByteArray.data_extract, Array.toList_extract, List.extract_eq_take_drop, List.drop_take]
theorem slash_data : slash.data.toList = [47] := rfl
theorem ix_miss14 : ∀ l : List UInt8, 47 ∉ l → Lib.indexByte l 47 = -1
  | [], _ => rfl
  | b :: l, h => by
    unfold Lib.indexByte
    have h1 : (b == 47) = false := by rw [beq_eq_false_iff_ne]; intro e; exact h (by rw [e]; exact List.mem_cons_self ..)
    rw [h1, ix_miss14 l (fun e => h (List.mem_cons_of_mem _ e))]
    rfl
theorem ix_hit14 : ∀ (x r : List UInt8), 47 ∉ x → Lib.indexByte (x ++ 47 :: r) 47 = x.length
  | [], r, _ => by rw [List.nil_append]; unfold Lib.indexByte; rfl
  | b :: x, r, h => by
    rw [List.cons_append]
    unfold Lib.indexByte
    have h1 : (b == 47) = false := by rw [beq_eq_false_iff_ne]; intro e; exact h (by rw [e]; exact List.mem_cons_self ..)
    rw [h1, ix_hit14 x r (fun e => h (List.mem_cons_of_mem _ e))]
    have h2 : ((x.length : Int) == -1) = false := by rw [beq_eq_false_iff_ne]; omega
    rw [h2]
    simp
theorem split_end (k : Nat) (b : ByteArray) (h : 47 ∉ b.data.toList) : Lib.splitB slash 0 k b = [b] :=
  Lib.splitB_miss _ _ _ _ (by show Lib.index _ [47] = _; rw [Lib.index_one]; exact ix_miss14 _ h)
theorem split_cut (k : Nat) (x r : ByteArray) (h : 47 ∉ x.data.toList) : Lib.splitB slash 0 (k + 1) (x ++ slash ++ r) = x :: Lib.splitB slash 0 k r := by
  have hd : (x ++ slash ++ r).data.toList = x.data.toList ++ 47 :: r.data.toList := by rw [app_data14, app_data14, slash_data, List.append_assoc]; rfl
  have hi : Lib.indexB (x ++ slash ++ r) slash = (x.size : Nat) := by
    show Lib.index _ [47] = _
    rw [Lib.index_one, hd, ix_hit14 _ _ h, size14]
  rw [Lib.splitB_hit _ _ _ _ _ hi]
  have e1 : (x ++ slash ++ r).extract 0 (x.size + 0) = x := bytes_ext14 (by
    rw [ext_data14, hd, Nat.add_zero, ← size14, List.take_left' rfl, List.drop_zero])
  have e2 : (x ++ slash ++ r).extract (x.size + slash.size) (x ++ slash ++ r).size = r := bytes_ext14 (by
    rw [ext_data14, ← size14 (x ++ slash ++ r), List.take_length, hd, show x.size + slash.size = x.data.toList.length + 1 from by rw [size14]; rfl]; simp [List.drop_append])
  rw [e1, e2]
theorem name_no {s : ByteArray} (h : nameB s = true) : 47 ∉ s.data.toList := fun hm => by
  unfold nameB at h
  rw [Bool.and_eq_true] at h
  have := List.all_eq_true.1 h.2 47 hm
  revert this; decide
theorem base_no {s : ByteArray} (h : baseB s = true) : 47 ∉ s.data.toList := fun hm => by
  unfold baseB at h
  rw [Bool.and_eq_true, Bool.and_eq_true] at h
  have := List.all_eq_true.1 h.2.2 47 hm
  revert this; decide
theorem base_size {s : ByteArray} (h : baseB s = true) : s.size ≤ 16 := by
  unfold baseB at h
  rw [Bool.and_eq_true, decide_eq_true_eq] at h
  exact h.1.2
theorem ix_split (l : List UInt8) : ∀ (i : Nat), Lib.indexByte l 47 = i → l = l.take i ++ 47 :: l.drop (i + 1) := by
  induction l with
  | nil => intro i h; exact absurd h (by unfold Lib.indexByte; omega)
  | cons b l ih =>
    intro i h
    unfold Lib.indexByte at h
    by_cases hb : b = 47
    · subst hb
      rw [if_pos (by rfl)] at h
      obtain rfl : i = 0 := by omega
      rfl
    · rw [if_neg (by rwa [beq_iff_eq])] at h
      split at h
      · omega
      · obtain ⟨j, rfl⟩ : ∃ j, i = j + 1 := ⟨i - 1, by have := Lib.indexByte_ge l 47; rename_i h2; have h3 : ¬ Lib.indexByte l 47 = -1 := fun e => h2 (beq_iff_eq.2 e); omega⟩
        rw [List.take_succ_cons, List.drop_succ_cons, List.cons_append, ← ih j (by omega)]
theorem end_parts {e : ByteArray} (h : endB e = true) : e = portS e ++ slash ++ chanS e ∧ nameB (portS e) = true ∧ nameB (chanS e) = true := by
  unfold endB at h
  rw [Bool.and_eq_true] at h
  refine ⟨?_, h.1, h.2⟩
  by_cases hx : ixB e = -1
  · have h2 := h.2
    unfold chanS at h2
    rw [if_pos hx] at h2
    exact absurd h2 (by decide)
  · have hge : -1 ≤ ixB e := Lib.indexByte_ge _ _
    obtain ⟨i, hi⟩ : ∃ i : Nat, ixB e = i := ⟨(ixB e).toNat, by omega⟩
    have hs := ix_split _ i hi
    unfold portS chanS
    rw [if_neg hx, if_neg hx, hi]
    apply bytes_ext14
    rw [app_data14, app_data14, ext_data14, ext_data14, slash_data, List.append_assoc, ← size14, List.take_length, List.drop_zero]
    exact hs
def endsL (p : List ByteArray) : List ByteArray := p.flatMap fun e => [portS e, chanS e]
theorem joinS_one (b : ByteArray) : joinS [b] = b := bytes_ext14 (by unfold joinS; rw [List.map_singleton, Lib.join_one])
theorem joinS_cons (e : ByteArray) (l : List ByteArray) (h : l ≠ []) : joinS (e :: l) = e ++ slash ++ joinS l := bytes_ext14 (by
  cases l with
  | nil => exact absurd rfl h
  | cons y l =>
    rw [app_data14, app_data14, slash_data]
    unfold joinS
    show Lib.join _ _ = _ ++ [47] ++ Lib.join _ _
    rw [List.map_cons, List.map_cons, Lib.join_cons, Lib.join_cons, List.append_assoc]
    rfl)
theorem app_assoc14 (a b c d : ByteArray) : a ++ slash ++ b ++ slash ++ c = a ++ slash ++ (b ++ slash ++ c) := bytes_ext14 (by simp only [app_data14, List.append_assoc])
theorem split_full (b : ByteArray) (hb : 47 ∉ b.data.toList) : ∀ (p : List ByteArray) (k : Nat), (∀ e ∈ p, endB e = true) → 2 * p.length ≤ k → Lib.splitB slash 0 k (joinS (p ++ [b])) = endsL p ++ [b]
  | [], k, _, _ => by rw [List.nil_append, joinS_one]; exact split_end k b hb
  | e :: p, k, he, hk => by
    obtain ⟨h1, h2, h3⟩ := end_parts (he e (List.mem_cons_self ..))
    rw [List.length_cons] at hk
    obtain ⟨j, rfl⟩ : ∃ j, k = j + 1 + 1 := ⟨k - 2, by omega⟩
    rw [List.cons_append, joinS_cons _ _ (by simp), h1, app_assoc14 _ _ _ e, split_cut _ _ _ (name_no h2), split_cut _ _ _ (name_no h3), split_full b hb p j (fun x hx => he x (List.mem_cons_of_mem _ hx)) (by omega), ← h1]
    rfl
theorem end_size14 {e : ByteArray} (h : endB e = true) : 3 ≤ e.size ∧ e.size ≤ 41 := by
  obtain ⟨h1, h2, h3⟩ := end_parts h
  have := name_size h2
  have := name_size h3
  have h4 : e.size = (portS e).size + 1 + (chanS e).size := by
    conv => lhs; rw [h1]
    rw [ByteArray.size_append, ByteArray.size_append]; rfl
  omega
theorem full_size (b : ByteArray) : ∀ (p : List ByteArray), (∀ e ∈ p, endB e = true) → 4 * p.length ≤ (joinS (p ++ [b])).size ∧ (joinS (p ++ [b])).size ≤ 42 * p.length + b.size
  | [], _ => by rw [List.nil_append, joinS_one]; simp
  | e :: p, he => by
    have h1 := end_size14 (he e (List.mem_cons_self ..))
    have h2 := full_size b p (fun x hx => he x (List.mem_cons_of_mem _ hx))
    rw [List.cons_append, joinS_cons _ _ (by simp), ByteArray.size_append, ByteArray.size_append, show slash.size = 1 from rfl, List.length_cons]
    omega
theorem trE_ok {p : List ByteArray} {b : ByteArray} (h : trE p b = none) : p.length ≤ 8 ∧ (∀ e ∈ p, endB e = true) ∧ baseB b = true := by
  unfold trE at h
  split at h
  · cases h
  · split at h
    · cases h
    · rename_i h1 h2
      rw [Bool.or_eq_true, not_or, Bool.not_eq_true, Bool.not_eq_true, Bool.not_eq_false'] at h2
      refine ⟨by omega, fun e he => ?_, h2.2⟩
      have := List.any_eq_false.1 h2.1 e he
      unfold noEnd at this
      simpa using this
theorem full_small {p : List ByteArray} {b : ByteArray} (h : trE p b = none) : (joinS (p ++ [b])).size ≤ 352 := by
  obtain ⟨h1, h2, h3⟩ := trE_ok h
  have := full_size b p h2
  have := base_size h3
  omega
theorem parts_full {p : List ByteArray} {b : ByteArray} (h : trE p b = none) : partsS (joinS (p ++ [b])) = endsL p ++ [b] := by
  obtain ⟨h1, h2, h3⟩ := trE_ok h
  have := full_size b p h2
  unfold partsS
  exact split_full b (base_no h3) p _ h2 (by omega)
theorem ends_len : ∀ p : List ByteArray, (endsL p).length = 2 * p.length
  | [] => rfl
  | e :: p => by unfold endsL at *; rw [List.flatMap_cons, List.length_append, List.length_cons, show (p.flatMap fun e => [portS e, chanS e]).length = _ from ends_len p]; simp; omega
theorem ends_drop : ∀ (p : List ByteArray) (j : Nat), (endsL p).drop (2 * j) = endsL (p.drop j)
  | p, 0 => rfl
  | [], j + 1 => by simp [endsL]
  | e :: p, j + 1 => by
    rw [List.drop_succ_cons, ← ends_drop p j]
    rfl
theorem par_full {p : List ByteArray} {b : ByteArray} (h : trE p b = none) : parE (joinS (p ++ [b])) = none ∧ parP (joinS (p ++ [b])) = p ∧ parB (joinS (p ++ [b])) = b := by
  obtain ⟨h1, h2, h3⟩ := trE_ok h
  have hp := parts_full h
  have hl : (partsS (joinS (p ++ [b]))).length = 2 * p.length + 1 := by rw [hp, List.length_append, ends_len]; rfl
  have e1 : parBase (joinS (p ++ [b])) = b := by
    unfold parBase
    rw [hl, hp, Nat.add_sub_cancel, List.getElem?_append_right (by rw [ends_len]; exact Nat.le_refl _), ends_len, Nat.sub_self]
    rfl
  have e2 : parPath (joinS (p ++ [b])) = p := by
    unfold parPath
    rw [hl, hp, Nat.add_sub_cancel, show (2 * p.length + 1) / 2 = p.length by omega, List.take_left' (ends_len p)]
    apply List.ext_getElem?
    intro j
    rw [List.getElem?_map]
    by_cases hj : j < p.length
    · rw [List.getElem?_range hj, List.getElem?_eq_getElem hj]
      have hc : ckL (endsL p) j = [portS p[j], chanS p[j]] := by
        have h5 : ckJ (endsL p).length j = j := by unfold ckJ; rw [ends_len]; omega
        unfold ckL
        rw [h5, ends_drop, List.drop_eq_getElem_cons hj]
        rfl
      show some (joinS (ckL (endsL p) j)) = _
      rw [hc, joinS_cons _ _ (by simp), joinS_one, ← (end_parts (h2 _ (List.getElem_mem hj))).1]
    · rw [List.getElem?_eq_none (by rw [List.length_range]; omega), List.getElem?_eq_none (by omega)]
      rfl
  have e3 : parE (joinS (p ++ [b])) = none := by unfold parE; rw [e1, e2]; exact h
  refine ⟨e3, ?_, ?_⟩
  · unfold parP; rw [if_pos e3, e2]
  · unfold parB; rw [if_pos e3, e1]
theorem full_eq {p : List ByteArray} {b : ByteArray} (h : trE p b = none) : fullR p b = joinS (p ++ [b]) := by unfold fullR; rw [if_pos h]
theorem back_into {t : List ByteArray} {b p c : ByteArray} (h : intoE t b p c = none) : cameB (intoP t b p c) p c = true ∧ fromP (intoP t b p c) p c = t ∧ intoB t b p c = b ∧ (intoP t b p c).length = t.length + 1 := by
  have hp : intoP t b p c = portR p c :: t := by unfold intoP; rw [if_pos h]
  have hb : intoB t b p c = b := by unfold intoB; rw [if_pos h]
  have ho : okP p c = true := by
    unfold intoE at h
    split at h
    · assumption
    · cases h
  have hc : cameB (portR p c :: t) p c = true := by
    unfold cameB
    rw [ho]
    simp
  rw [hp]
  refine ⟨hc, ?_, hb, rfl⟩
  unfold fromP
  rw [if_pos hc]
  rfl
theorem sumF_byte14 (xs : List Int) (i : Nat) : 0 ≤ sumF xs i ∧ sumF xs i < 256 := by unfold sumF hsum outF; omega
theorem hexd14 (n : Int) (h0 : 0 ≤ n) (h1 : n < 16) : hexc (hexd n) = true := by
  unfold hexc hexd
  split <;> simp <;> omega
theorem tx_len (h : Nat → Int) : (textL h).length = 64 := by simp [textL]
theorem tx_hex (h : Nat → Int) (hb : ∀ i, 0 ≤ h i ∧ h i < 256) : (textL h).all hexc = true := by
  rw [List.all_eq_true]
  intro c hc
  simp only [textL, List.mem_map, List.mem_range] at hc
  obtain ⟨i, _, rfl⟩ := hc
  unfold textF
  have := hb (i / 2)
  split <;> exact hexd14 _ (by omega) (by omega)
theorem hexc_cases {c : Int} (h : hexc c = true) : (0 ≤ c ∧ c < 256) ∧ c ≠ 47 := by
  unfold hexc at h
  simp only [Bool.or_eq_true, decide_eq_true_eq] at h
  omega
theorem tx_nums (xs : List Int) : numsOf (strOfNums (textL (sumF xs))) = textL (sumF xs) := numsOf_str _ fun c hc => (hexc_cases (List.all_eq_true.1 (tx_hex _ (sumF_byte14 xs)) c hc)).1
theorem tx_no (xs : List Int) : 47 ∉ (strOfNums (textL (sumF xs))).data.toList := fun hm => by
  have h1 : ((47 : UInt8).toNat : Int) ∈ numsOf (strOfNums (textL (sumF xs))) := List.mem_map.2 ⟨47, hm, rfl⟩
  rw [tx_nums] at h1
  exact (hexc_cases (List.all_eq_true.1 (tx_hex _ (sumF_byte14 xs)) _ h1)).2 rfl
theorem vou_ok (s : ByteArray) : vouB (vouS s) = true := by
  have hd : (vouS s).data.toList = [105, 98, 99, 47] ++ (strOfNums (textL (sumF (numsOf s)))).data.toList := by unfold vouS; rw [app_data14]
  have h1 : hasPre (vouS s) = true := by
    unfold hasPre Lib.hasPrefix
    rw [hd]
    simp
  have h2 : restS (vouS s) = strOfNums (textL (sumF (numsOf s))) := bytes_ext14 (by
    unfold restS Lib.trimPrefix
    rw [if_pos (show Lib.hasPrefix (vouS s).data.toList [105, 98, 99, 47] = true from h1), hd]
    rfl)
  unfold vouB
  rw [h1, h2, tx_nums]
  unfold parR
  rw [if_pos ⟨tx_len _, tx_hex _ (sumF_byte14 _)⟩]
  rfl
theorem den_chk {p : List ByteArray} {b : ByteArray} (h : trE p b = none) : chkD (denR p b) = none := by
  have hx : baseB (denR p b) = true ∨ vouB (denR p b) = true := by
    unfold denR
    by_cases hp : p = []
    · subst hp
      left
      rw [if_neg (by simp), full_eq h, List.nil_append, joinS_one]
      exact (trE_ok h).2.2
    · right
      rw [if_pos ⟨h, hp⟩]
      exact vou_ok _
  unfold chkD
  rw [if_pos (Bool.or_eq_true _ _ ▸ hx)]
theorem den_ne {p : List ByteArray} {b : ByteArray} (h : trE p b = none) : denR p b = fullR p b ↔ p = [] := by
  unfold denR
  by_cases hp : p = []
  · subst hp
    rw [if_neg (by simp)]
    simp
  · rw [if_pos ⟨h, hp⟩]
    refine ⟨fun e => ?_, fun e => absurd e hp⟩
    exfalso
    obtain ⟨x, q, rfl⟩ : ∃ x q, p = x :: q := by cases p with
      | nil => exact absurd rfl hp
      | cons x q => exact ⟨x, q, rfl⟩
    have h1 : (vouS (fullR (x :: q) b)).data.toList.count 47 = 1 := by
      unfold vouS
      rw [app_data14, List.count_append, List.count_eq_zero.2 (tx_no _)]
      rfl
    rw [e, full_eq h, List.cons_append, joinS_cons _ _ (by simp), (end_parts ((trE_ok h).2.1 x (List.mem_cons_self ..))).1] at h1
    simp only [app_data14, slash_data, List.count_append, List.count_singleton_self] at h1
    omega
theorem den_size {p : List ByteArray} {b : ByteArray} (h : trE p b = none) : (denR p b).size ≤ 352 := by
  unfold denR
  split
  · unfold vouS
    rw [ByteArray.size_append]
    have := tx_len (sumF (numsOf (fullR p b)))
    have h2 := numsOf_length (strOfNums (textL (sumF (numsOf (fullR p b)))))
    rw [tx_nums, this] at h2
    rw [← h2, show (ByteArray.size { data := #[105, 98, 99, 47] }) = 4 from rfl]
    omega
  · rw [full_eq h]; exact full_small h
end Go.Proofs.YteokgklfljhcaaaGreatDoor
