/- Part 30 of the proof. -/
import Derived.Test.YtggcodobkmhkgaaDoorFc19
import Derived.Test.YtggcodobkmhkgaaDoorFc25
import Derived.Test.YtggcodobkmhkgaaDoorFc29
namespace Go.Proofs.YtggcodobkmhkgaaDoor
set_option linter.unusedVariables false
set_option linter.unusedSimpArgs false
open Go.RowKit Go.Maps Go.Proofs
set_option maxRecDepth 100000
theorem bf_irrefl (a : List UInt8) : bytesBefore a a = false := by
  cases h : bytesBefore a a with
  | false => rfl
  | true => exact absurd ((before_lt a a).1 h) (List.lt_irrefl a)
theorem bf_trans {a b c : List UInt8} (h : bytesBefore a b = true) (k : bytesBefore b c = true) : bytesBefore a c = true :=
  (before_lt a c).2 (List.lt_trans ((before_lt a b).1 h) ((before_lt b c).1 k))
theorem bf_tri {a b : List UInt8} (h : bytesBefore a b = false) (hne : (a == b) = false) : bytesBefore b a = true := by
  have h1 : ¬ a < b := fun hl => by rw [(before_lt a b).2 hl] at h; cases h
  have h2 : a ≠ b := by simpa using hne
  rw [before_lt]
  exact (Std.not_le.1 fun hle => h2 (Std.le_antisymm hle (List.not_lt.1 h1) |> fun e => e))
/-- a file of the reference as it is seen -/
def abs4 (f : RF) : AF := ⟨f.nm.data.toList, numsOf (f.sf ++ f.ls), f.sf.size⟩
def Srt4 (L : List RF) : Prop := L.Pairwise fun a b => bytesBefore a.nm.data.toList b.nm.data.toList = true
theorem findN_cons (n : List UInt8) (x : RF) (r : List RF) : findN n (x :: r) = if bytesBefore x.nm.data.toList n = true then findN n r + 1 else 0 := by
  unfold findN
  rw [List.takeWhile_cons]
  split <;> rfl
theorem isN_cons (n : List UInt8) (x : RF) (r : List RF) : isN n (x :: r) = if bytesBefore x.nm.data.toList n = true then isN n r else (x.nm.data.toList == n) := by
  unfold isN
  rw [findN_cons]
  by_cases hb : bytesBefore x.nm.data.toList n = true
  · rw [if_pos hb, if_pos hb, List.getElem?_cons_succ]
  · rw [if_neg hb, if_neg hb]; rfl
theorem aget_none {n : List UInt8} {L : List RF} (h : ∀ y ∈ L, bytesBefore n y.nm.data.toList = true) : aget n (L.map abs4) = none := by
  unfold aget
  rw [List.find?_eq_none]
  intro a ha
  obtain ⟨y, hy, rfl⟩ := List.mem_map.1 ha
  intro he
  have e1 : y.nm.data.toList = n := by simpa [abs4] using he
  have := h y hy
  rw [e1, bf_irrefl] at this; cases this
theorem find_spec (n : List UInt8) : ∀ {L : List RF}, Srt4 L → (isN n L = true ∧ ∃ f, L[findN n L]? = some f ∧ f ∈ L ∧ f.nm.data.toList = n ∧ aget n (L.map abs4) = some (abs4 f)) ∨ (isN n L = false ∧ aget n (L.map abs4) = none)
  | [], _ => .inr ⟨rfl, rfl⟩
  | x :: r, h => by
    obtain ⟨hx, hr⟩ := List.pairwise_cons.1 h
    rw [isN_cons, findN_cons]
    by_cases hb : bytesBefore x.nm.data.toList n = true
    · rw [if_pos hb, if_pos hb]
      have hne : ((abs4 x).nm == n) = false := by
        cases he : ((abs4 x).nm == n) with
        | false => rfl
        | true => rw [show x.nm.data.toList = n by simpa [abs4] using he, bf_irrefl] at hb; cases hb
      have hag : aget n ((x :: r).map abs4) = aget n (r.map abs4) := by
        unfold aget
        rw [List.map_cons, List.find?_cons_of_neg (by rw [hne]; simp)]
      rw [hag]
      rcases find_spec n hr with ⟨h1, f, h2, h3, h4, h5⟩ | ⟨h1, h2⟩
      · exact .inl ⟨h1, f, by simpa using h2, .tail _ h3, h4, h5⟩
      · exact .inr ⟨h1, h2⟩
    · rw [if_neg hb, if_neg hb]
      cases he : (x.nm.data.toList == n) with
      | true =>
        refine .inl ⟨rfl, x, rfl, .head _, by simpa using he, ?_⟩
        unfold aget
        rw [List.map_cons, List.find?_cons_of_pos (by exact he)]
      | false =>
        refine .inr ⟨rfl, ?_⟩
        have hn := bf_tri (by simpa using hb) he
        refine aget_none fun y hy => ?_
        rcases List.mem_cons.1 hy with rfl | hy
        · exact hn
        · exact bf_trans hn (hx y hy)
theorem adel_none {n : List UInt8} {L : List RF} (h : ∀ y ∈ L, bytesBefore n y.nm.data.toList = true) : adel n (L.map abs4) = L.map abs4 := by
  unfold adel
  rw [List.filter_eq_self]
  intro a ha
  obtain ⟨y, hy, rfl⟩ := List.mem_map.1 ha
  have := h y hy
  cases he : ((abs4 y).nm == n) with
  | false => rfl
  | true => rw [show y.nm.data.toList = n by simpa [abs4] using he, bf_irrefl] at this; cases this
theorem ains_first {x : RF} {L : List RF} (h : ∀ y ∈ L, bytesBefore x.nm.data.toList y.nm.data.toList = true) : ains (abs4 x) (L.map abs4) = abs4 x :: L.map abs4 := by
  cases L with
  | nil => rfl
  | cons y r =>
    show (if bytesBefore x.nm.data.toList y.nm.data.toList then _ else _) = _
    rw [if_pos (h y (.head _))]; rfl
theorem cutN_cons (n : List UInt8) (x : RF) (r : List RF) : cutN (x :: r) n = if bytesBefore x.nm.data.toList n = true then cutN r n + 1 else if (x.nm.data.toList == n) = true then 1 else 0 := by
  unfold cutN
  rw [isN_cons, findN_cons]
  by_cases hb : bytesBefore x.nm.data.toList n = true
  · simp only [if_pos hb]
    split <;> rfl
  · simp only [if_neg hb]
theorem setN_spec (x : RF) : ∀ {L : List RF}, Srt4 L → (setN L x).map abs4 = aput (abs4 x) (L.map abs4)
  | [], _ => rfl
  | y :: r, h => by
    obtain ⟨hy, hr⟩ := List.pairwise_cons.1 h
    have ih := setN_spec x hr
    unfold setN at ih ⊢
    rw [findN_cons, cutN_cons]
    unfold aput at ih ⊢
    by_cases hb : bytesBefore y.nm.data.toList x.nm.data.toList = true
    · rw [if_pos hb, if_pos hb]
      have hne : ((abs4 y).nm == (abs4 x).nm) = false := by
        cases he : ((abs4 y).nm == (abs4 x).nm) with
        | false => rfl
        | true => rw [show y.nm.data.toList = x.nm.data.toList by simpa [abs4] using he, bf_irrefl] at hb; cases hb
      have h1 : adel (abs4 x).nm ((y :: r).map abs4) = abs4 y :: adel (abs4 x).nm (r.map abs4) := by
        unfold adel
        rw [List.map_cons, List.filter_cons_of_pos (by rw [hne]; rfl)]
      rw [h1]
      have h2 : ains (abs4 x) (abs4 y :: adel (abs4 x).nm (r.map abs4)) = abs4 y :: ains (abs4 x) (adel (abs4 x).nm (r.map abs4)) := by
        show (if bytesBefore x.nm.data.toList y.nm.data.toList then _ else _) = _
        rw [if_neg]
        intro hc
        have := bf_trans hb hc
        rw [bf_irrefl] at this; cases this
      rw [h2, ← ih]
      simp
    · rw [if_neg hb, if_neg hb]
      cases he : (y.nm.data.toList == x.nm.data.toList) with
      | true =>
        have he' : y.nm.data.toList = x.nm.data.toList := by simpa using he
        have h1 : adel (abs4 x).nm ((y :: r).map abs4) = r.map abs4 := by
          have h2 : ((abs4 y).nm == (abs4 x).nm) = true := he
          have h3 := adel_none (n := (abs4 x).nm) (L := r) (fun z hz => by rw [show (abs4 x).nm = y.nm.data.toList from he'.symm]; exact hy z hz)
          unfold adel at h3 ⊢
          rw [List.map_cons, List.filter_cons_of_neg (by rw [h2]; simp), h3]
        rw [h1, ains_first (fun z hz => by rw [← he']; exact hy z hz)]
        simp
      | false =>
        have hn := bf_tri (by simpa using hb) he
        have ha : ∀ z ∈ y :: r, bytesBefore x.nm.data.toList z.nm.data.toList = true := fun z hz => by
          rcases List.mem_cons.1 hz with rfl | hz
          · exact hn
          · exact bf_trans hn (hy z hz)
        rw [show adel (abs4 x).nm ((y :: r).map abs4) = (y :: r).map abs4 from adel_none ha, ains_first ha]
        simp
theorem dropN_spec (n : List UInt8) : ∀ {L : List RF}, Srt4 L → (dropN L n).map abs4 = adel n (L.map abs4)
  | [], _ => rfl
  | y :: r, h => by
    obtain ⟨hy, hr⟩ := List.pairwise_cons.1 h
    have ih := dropN_spec n hr
    unfold dropN at ih ⊢
    rw [findN_cons, isN_cons]
    by_cases hb : bytesBefore y.nm.data.toList n = true
    · rw [if_pos hb, if_pos hb]
      have hne : ((abs4 y).nm == n) = false := by
        cases he : ((abs4 y).nm == n) with
        | false => rfl
        | true => rw [show y.nm.data.toList = n by simpa [abs4] using he, bf_irrefl] at hb; cases hb
      have h1 : adel n ((y :: r).map abs4) = abs4 y :: adel n (r.map abs4) := by
        unfold adel
        rw [List.map_cons, List.filter_cons_of_pos (by rw [hne]; rfl)]
      rw [h1, ← ih]
      split <;> simp
    · rw [if_neg hb, if_neg hb]
      cases he : (y.nm.data.toList == n) with
      | true =>
        have he' : y.nm.data.toList = n := by simpa using he
        have h2 : ((abs4 y).nm == n) = true := he
        have h3 := adel_none (n := n) (L := r) (fun z hz => by rw [← he']; exact hy z hz)
        rw [if_pos rfl]
        unfold adel at h3 ⊢
        rw [List.map_cons, List.filter_cons_of_neg (by rw [h2]; simp), h3]
        simp
      | false =>
        have hn := bf_tri (by simpa using hb) he
        rw [if_neg (by simp)]
        refine (adel_none fun z hz => ?_).symm
        rcases List.mem_cons.1 hz with rfl | hz
        · exact hn
        · exact bf_trans hn (hy z hz)
theorem sorted_of_map : ∀ {L : List RF}, (L.map abs4).Pairwise (fun a b => bytesBefore a.nm b.nm = true) → Srt4 L := fun h => List.pairwise_map.1 h
theorem nums_size (s : ByteArray) : (numsOf s).length = s.size := numsOf_length s
theorem cat_size (a b : ByteArray) : (a ++ b).size = a.size + b.size := ByteArray.size_append
theorem nums_cat (a b : ByteArray) : numsOf (a ++ b) = numsOf a ++ numsOf b := by
  unfold numsOf; rw [cat_list, List.map_append]
theorem nums_first (s : ByteArray) (n : Nat) : numsOf (firstB s n) = (numsOf s).take n := by
  unfold numsOf; rw [firstB_list, List.map_take]
theorem cat_nil (a : ByteArray) : a ++ ({ data := #[] } : ByteArray) = a := by
  apply ByteArray.ext; apply Array.ext'; rw [cat_list]; simp
theorem first_size (s : ByteArray) (n : Nat) (h : n ≤ s.size) : (firstB s n).size = n := by
  rw [← nums_size, nums_first, List.length_take, nums_size]; omega
theorem abs4_cut (f : RF) (n : Nat) (h : n ≤ f.ls.size) : abs4 (stF4 f n) = aCutF (abs4 f) (f.sf.size + n) := by
  unfold stF4 abs4 aCutF
  dsimp only
  rw [cat_nil, nums_cat, nums_first, nums_cat, cat_size, first_size _ _ h, List.take_append, nums_size, List.take_of_length_le (l := numsOf f.sf) (by rw [nums_size]; omega), Nat.add_sub_cancel_left]
theorem start_spec : ∀ (L : List RF) (ks : List Int), (startN L ks).map abs4 = aStartL (L.map abs4) ks
  | [], _ => rfl
  | f :: r, ks => by
    have hl : (abs4 f).xs.length = f.sf.size + f.ls.size := by show (numsOf (f.sf ++ f.ls)).length = _; rw [nums_size, cat_size]
    rw [startN_cons]
    show _ = (if (abs4 f).xs.length = (abs4 f).safe then _ else _)
    by_cases h0 : f.ls.size = 0
    · rw [if_pos h0, if_pos (by rw [hl]; show _ = f.sf.size; omega), List.map_cons, start_spec r ks]
    · rw [if_neg h0, if_neg (by rw [hl]; show ¬ _ = f.sf.size; omega)]
      cases ks with
      | nil =>
        show abs4 (stF4 f 0) :: (startN r []).map abs4 = _
        rw [start_spec r [], abs4_cut f 0 (by omega)]; rfl
      | cons k t =>
        show abs4 (stF4 f (keptB f.ls k)) :: (startN r t).map abs4 = _
        have hk : keptB f.ls k ≤ f.ls.size := by unfold keptB; omega
        rw [start_spec r t, abs4_cut f _ hk]
        show _ = aCutF (abs4 f) (aKept (abs4 f) k) :: _
        have : aKept (abs4 f) k = f.sf.size + keptB f.ls k := by
          unfold aKept keptB
          rw [hl]
          show f.sf.size + _ = _
          congr 1
          show (min (max k 0) (((f.sf.size + f.ls.size : Nat) : Int) - f.sf.size)).toNat = _
          omega
        rw [this]
/-- what holds of every file system that lies in memory -/
structure StOk (st : St) : Prop where
  sorted : st.L.Pairwise fun a b => bytesBefore a.nm b.nm = true
  many : st.L.length ≤ 64
  size : ∀ f ∈ st.L, f.xs.length ≤ 16777216 ∧ f.safe ≤ f.xs.length ∧ nmOk f.nm = true ∧ bytesOk f.xs
theorem OwnP.ok {B p : Nat} {w : World} {st : St} (h : OwnP B w p st) : StOk st := by
  obtain ⟨R, h, _, rfl⟩ := h
  refine ⟨?_, by show (R.es.map absE).length ≤ 64; rw [List.length_map]; exact h.fs.many, fun f hf => ?_⟩
  · show (R.es.map absE).Pairwise _
    exact List.pairwise_map.2 h.fs.sorted
  · obtain ⟨e, he, rfl⟩ := List.mem_map.1 hf
    obtain ⟨_, h1, h2, h3, h4⟩ := h.fs.ents e he
    exact ⟨h2, h1, h3, h4⟩
/-- both are the same -/
structure Rel4 (st : St) (r : RSt) : Prop where
  L : st.L = r.L.map abs4
  steps : (st.steps : Int) = r.steps
  armed : st.armed = r.armed
  left : st.armed = true → (st.left : Int) = r.left
  down : st.down = r.down
theorem Rel4.srt {st : St} {r : RSt} (h : Rel4 st r) (ho : StOk st) : Srt4 r.L := sorted_of_map (by rw [← h.L]; exact ho.sorted)
theorem Rel4.many {st : St} {r : RSt} (h : Rel4 st r) (ho : StOk st) : r.L.length ≤ 64 := by have := ho.many; rw [h.L, List.length_map] at this; exact this
theorem Rel4.size {st : St} {r : RSt} (h : Rel4 st r) (ho : StOk st) : ∀ f ∈ r.L, f.sf.size + f.ls.size ≤ 16777216 ∧ nmOk f.nm.data.toList = true := fun f hf => by
  obtain ⟨h1, _, h3, _⟩ := ho.size (abs4 f) (by rw [h.L]; exact List.mem_map_of_mem hf)
  refine ⟨?_, h3⟩
  have : (abs4 f).xs.length = f.sf.size + f.ls.size := by show (numsOf (f.sf ++ f.ls)).length = _; rw [nums_size, cat_size]
  omega
/-- get, on both sides -/
theorem rel_get {st : St} {r : RSt} (h : Rel4 st r) (ho : StOk st) (s : ByteArray) :
    ((getN r s).2 = 0 ∧ nmOk s.data.toList = true ∧ st.down = false ∧ (getN r s).1 ∈ r.L ∧ (getN r s).1.nm.data.toList = s.data.toList ∧ aget s.data.toList st.L = some (abs4 (getN r s).1) ∧ aFind st s = (none, some (abs4 (getN r s).1)))
    ∨ ((getN r s).1 = noRF ∧ ((getN r s).2 = 8 ∧ nmOk s.data.toList = true ∧ st.down = false ∧ aget s.data.toList st.L = none ∧ aFind st s = (some 8, none))
    ∨ ((getN r s).1 = noRF ∧ ((getN r s).2 = 1 ∧ nmOk s.data.toList = false ∨ (getN r s).2 = 13 ∧ nmOk s.data.toList = true ∧ st.down = true) ∧ aFind st s = (some (getN r s).2, none) ∧ checkE st.down [s] = some (getN r s).2)) := by
  unfold getN aFind
  by_cases hn : nmOk s.data.toList = false
  · rw [if_pos hn, checkE_bad (.head _) hn]
    exact .inr (.inr ⟨rfl, .inl ⟨rfl, hn⟩, rfl, rfl⟩)
  · have hn' : nmOk s.data.toList = true := by simpa using hn
    rw [if_neg hn, checkE_ok (fun t ht => by rw [List.mem_singleton.1 ht]; exact hn'), h.down]
    by_cases hd : r.down = true
    · rw [if_pos hd, if_pos hd]
      exact .inr (.inr ⟨rfl, .inr ⟨rfl, hn', hd⟩, rfl, rfl⟩)
    · rw [if_neg hd, if_neg hd, h.L]
      have hd' : r.down = false := by simpa using hd
      rcases find_spec s.data.toList (h.srt ho) with ⟨h1, f, h2, h3, h4, h5⟩ | ⟨h1, h2⟩
      · rw [h1, h2, h5]
        exact .inl ⟨rfl, hn', hd', h3, h4, rfl, rfl⟩
      · rw [h1, h2]
        exact .inr (.inl ⟨rfl, rfl, hn', hd', rfl, rfl⟩)
end Go.Proofs.YtggcodobkmhkgaaDoor
