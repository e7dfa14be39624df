/- Part 13 of the proof. -/
import Derived.Test.YtejglhlodfhgkaaGreatDoorXv8
import Derived.Test.YtejglhlodfhgkaaGreatDoorXv11
import Derived.Test.YtejglhlodfhgkaaGreatDoorXv12
namespace Go.Proofs.YtejglhlodfhgkaaGreatDoor
set_option linter.unusedVariables false
set_option linter.unusedSimpArgs false
open Go.RowKit
set_option maxRecDepth 100000
set_option linter.unusedSimpArgs false
set_option linter.unusedVariables false
def by1 (b : List Int) : List Int := varint b.length ++ b
def pm1 (m : Pm) : List Int := it1 m.kind ++ (listL st1 m.ts ++ (listL it1 m.is ++ listL by1 m.ds))
def px1 (x : Px) : List Int := (((st1 x.acc ++ it1 x.seq) ++ st1 x.den) ++ it1 x.amt) ++ listL pm1 x.ms
def pxB (x : Px) : List Int := px1 x ++ by1 x.sg
def pxS (chain : ByteArray) (x : Px) : List Int := (st1 { data := #[116, 120] } ++ st1 chain) ++ px1 x
theorem catL_map {α β : Type} (f : β → List Int) (g : α → β) : ∀ l : List α, catL f (l.map g) = catL (fun x => f (g x)) l
  | [] => rfl
  | x :: r => by rw [List.map_cons, catL, catL, catL_map f g r]
theorem listL_map {α β : Type} (f : β → List Int) (g : α → β) (l : List α) : listL f (l.map g) = listL (fun x => f (g x)) l := by unfold listL; rw [catL_map, List.length_map]
theorem mg1_P (m : Mg) : mg1 m = pm1 (mgP m) := by
  unfold mg1 pm1 mgP
  simp only
  rw [listL_map]; rfl
theorem tr1_P (x : Tr) : tr1 x = px1 (pxP x) := by
  unfold tr1 px1 pxP
  simp only
  rw [listL_map, show (fun m => pm1 (mgP m)) = mg1 from funext fun m => (mg1_P m).symm]
theorem trB_P (x : Tr) : trB x = pxB (pxP x) := by unfold trB pxB; rw [tr1_P]; rfl
theorem trS_P (c : ByteArray) (x : Tr) : trS c x = pxS c (pxP x) := by unfold trS pxS; rw [tr1_P]
/-- reading a transaction -/
def tx4 (s : RSt) : RSt := iR15 (pR15 (iR15 (pR15 s)))
def txV15 (s : RSt) : Px := ⟨sV15 s, iV15 (pR15 s), sV15 (iR15 (pR15 s)), iV15 (pR15 (iR15 (pR15 s))), lstV mgV15 mgR15 65536 (tx4 s), dV15 (lstR mgR15 65536 (tx4 s))⟩
def txR15 (s : RSt) : RSt := pR15 (lstR mgR15 65536 (tx4 s))
theorem txE15 {s : RSt} (h : s.1 = []) : (txR15 s).1 = [] := pE15 _ (lstE mgE15 (iE15 _ (pE15 _ (iE15 _ (pE15 _ h)))))
/-- what Decode and Encode answer -/
def decOk (xs : List Int) : Bool := decide (xs.length ≤ 65536) && ((doneE (txR15 (xs, none))).isNone && (chkX (txV15 (xs, none))).isNone)
def encE (x : Px) : Option Nat := match chkX x with
  | some e => some e
  | none => if 65536 < (pxB x).length then some 2 else none
/-- reading back -/
theorem st_back (s : ByteArray) (h : s.size ≤ 65536) (r : List Int) : sV15 (st1 s ++ r, none) = s ∧ pR15 (st1 s ++ r, none) = (r, none) := by
  have h1 := partS_bytes (numsOf s) r 65536 (by rw [numsOf_length]; omega) (by omega) (by rw [numsOf_length]; omega)
  rw [numsOf_length] at h1
  have e : st1 s ++ r = varint s.size ++ (numsOf s ++ r) := by unfold st1; rw [List.append_assoc]
  unfold sV15 pR15
  rw [e, h1]
  exact ⟨str_numsOf s, rfl⟩
theorem it_back (i : Int) (h : i64b i) (r : List Int) : iV15 (it1 i ++ r, none) = i ∧ iR15 (it1 i ++ r, none) = (r, none) := by
  unfold iV15 iR15 it1
  rw [intS_varint i r h.1 h.2]
  exact ⟨rfl, rfl⟩
theorem by_back (b : List Int) (h : b.length ≤ 65536) (r : List Int) : dV15 (by1 b ++ r, none) = b ∧ pR15 (by1 b ++ r, none) = (r, none) := by
  have h1 := partS_bytes b r 65536 (by omega) (by omega) (by omega)
  have e : by1 b ++ r = varint b.length ++ (b ++ r) := by unfold by1; rw [List.append_assoc]
  unfold dV15 pR15
  rw [e, h1]
  exact ⟨rfl, rfl⟩
theorem catL_ge15 {α : Type} (f : α → List Int) : ∀ l : List α, (∀ t ∈ l, 1 ≤ (f t).length) → l.length ≤ (catL f l).length
  | [], _ => Nat.le_refl _
  | t :: l, h => by
    have := h t List.mem_cons_self
    have := catL_ge15 f l (fun u hu => h u (List.mem_cons_of_mem _ hu))
    rw [catL, List.length_append, List.length_cons]; omega
theorem catL_mem {α : Type} (f : α → List Int) : ∀ (l : List α) (t : α), t ∈ l → (f t).length ≤ (catL f l).length
  | x :: l, t, h => by
    rw [catL, List.length_append]
    rcases List.mem_cons.1 h with rfl | h
    · omega
    · have := catL_mem f l t h; omega
theorem cnt_back15 {α : Type} (f : α → List Int) (l : List α) (most : Nat) (r : List Int) (h1 : ∀ t ∈ l, 1 ≤ (f t).length) (hm : l.length ≤ most) (hl : l.length ≤ 1048576) : countS (listL f l ++ r, none) most = (l.length, catL f l ++ r, none) := by
  have e : listL f l ++ r = varint l.length ++ (catL f l ++ r) := by simp only [listL, List.append_assoc]
  have u := uintS_varint l.length most (catL f l ++ r) (by omega) hm
  rw [e, countS_good (by rw [u]) (by rw [u]; have := catL_ge15 f l h1; simp only [List.length_append]; omega), u]
theorem rdk_back {β : Type} (f : β → List Int) (V : RSt → β) (R : RSt → RSt) : ∀ (l : List β), (∀ x ∈ l, ∀ r, V (f x ++ r, none) = x ∧ R (f x ++ r, none) = (r, none)) → ∀ r, rL V R l.length (catL f l ++ r, none) = l ∧ rN R l.length (catL f l ++ r, none) = (r, none)
  | [], _, r => ⟨rfl, rfl⟩
  | x :: l, h, r => by
    obtain ⟨h1, h2⟩ := h x List.mem_cons_self (catL f l ++ r)
    obtain ⟨h3, h4⟩ := rdk_back f V R l (fun y hy => h y (List.mem_cons_of_mem _ hy)) r
    have e : catL f (x :: l) ++ r = f x ++ (catL f l ++ r) := by rw [catL, List.append_assoc]
    rw [List.length_cons, rL_front, rN_front, e, h1, h2, h3, h4]
    exact ⟨rfl, rfl⟩
theorem lst_back {β : Type} (f : β → List Int) (V : RSt → β) (R : RSt → RSt) (l : List β) (h : ∀ x ∈ l, ∀ r, V (f x ++ r, none) = x ∧ R (f x ++ r, none) = (r, none)) (h1 : ∀ t ∈ l, 1 ≤ (f t).length) (hm : l.length ≤ 65536) (r : List Int) : lstV V R 65536 (listL f l ++ r, none) = l ∧ lstR R 65536 (listL f l ++ r, none) = (r, none) := by
  unfold lstV lstR
  rw [cnt_back15 f l 65536 r h1 hm (by omega)]
  exact rdk_back f V R l h r
theorem varint_ge (n : Nat) : 1 ≤ (varint n).length := by rw [varint_length]; exact glen_pos _
theorem st1_ge (s : ByteArray) : 1 ≤ (st1 s).length := by have := varint_ge s.size; rw [st1_len]; omega
theorem it1_ge (i : Int) : 1 ≤ (it1 i).length := varint_ge _
theorem by1_ge (b : List Int) : 1 ≤ (by1 b).length := by have := varint_ge b.length; unfold by1; rw [List.length_append]; omega
theorem pm1_ge (m : Pm) : 1 ≤ (pm1 m).length := by have := it1_ge m.kind; unfold pm1; rw [List.length_append]; omega
theorem listL_ge {α : Type} (f : α → List Int) (l : List α) (h : ∀ t ∈ l, 1 ≤ (f t).length) : l.length ≤ (listL f l).length := by have := catL_ge15 f l h; unfold listL; rw [List.length_append]; omega
theorem listL_mem {α : Type} (f : α → List Int) (l : List α) (t : α) (h : t ∈ l) : (f t).length ≤ (listL f l).length := by have := catL_mem f l t h; unfold listL; rw [List.length_append]; omega
structure PmFl (m : Pm) : Prop where
  k : i64b m.kind
  i : ∀ i ∈ m.is, i64b i
theorem mg_back (m : Pm) (hf : PmFl m) (hl : (pm1 m).length ≤ 65536) (r : List Int) : mgV15 (pm1 m ++ r, none) = m ∧ mgR15 (pm1 m ++ r, none) = (r, none) := by
  have hL : (pm1 m).length = (it1 m.kind).length + ((listL st1 m.ts).length + ((listL it1 m.is).length + (listL by1 m.ds).length)) := by simp only [pm1, List.length_append]
  have e : pm1 m ++ r = it1 m.kind ++ (listL st1 m.ts ++ (listL it1 m.is ++ (listL by1 m.ds ++ r))) := by simp only [pm1, List.append_assoc]
  have a1 := it_back m.kind hf.k (listL st1 m.ts ++ (listL it1 m.is ++ (listL by1 m.ds ++ r)))
  have g1 := listL_ge st1 m.ts (fun t _ => st1_ge t)
  have g2 := listL_ge it1 m.is (fun t _ => it1_ge t)
  have g3 := listL_ge by1 m.ds (fun t _ => by1_ge t)
  have a2 := lst_back st1 sV15 pR15 m.ts (fun s hs r => st_back s (by have := listL_mem st1 m.ts s hs; rw [st1_len] at this; omega) r) (fun t _ => st1_ge t) (by omega) (listL it1 m.is ++ (listL by1 m.ds ++ r))
  have a3 := lst_back it1 iV15 iR15 m.is (fun s hs r => it_back s (hf.i s hs) r) (fun t _ => it1_ge t) (by omega) (listL by1 m.ds ++ r)
  have a4 := lst_back by1 dV15 pR15 m.ds (fun s hs r => by_back s (by have := listL_mem by1 m.ds s hs; unfold by1 at this; rw [List.length_append] at this; unfold by1 at hL; omega) r) (fun t _ => by1_ge t) (by omega) r
  unfold iV15 iR15 at a1
  unfold mgV15 mgR15
  rw [e, a1.1, a1.2, a2.1, a2.2, a3.1, a3.2, a4.1, a4.2]
  exact ⟨rfl, rfl⟩
structure PxFl (x : Px) : Prop where
  s : i64b x.seq
  a : i64b x.amt
  m : ∀ m ∈ x.ms, PmFl m
theorem tx_back (x : Px) (hf : PxFl x) (hl : (pxB x).length ≤ 65536) : txV15 (pxB x, none) = x ∧ txR15 (pxB x, none) = ([], none) := by
  have hL : (pxB x).length = (st1 x.acc).length + (it1 x.seq).length + (st1 x.den).length + (it1 x.amt).length + (listL pm1 x.ms).length + (by1 x.sg).length := by simp only [pxB, px1, List.length_append]
  have e : pxB x = st1 x.acc ++ (it1 x.seq ++ (st1 x.den ++ (it1 x.amt ++ (listL pm1 x.ms ++ (by1 x.sg ++ []))))) := by simp only [pxB, px1, List.append_assoc, List.append_nil]
  have a1 := st_back x.acc (by rw [st1_len] at hL; omega) (it1 x.seq ++ (st1 x.den ++ (it1 x.amt ++ (listL pm1 x.ms ++ (by1 x.sg ++ [])))))
  have a2 := it_back x.seq hf.s (st1 x.den ++ (it1 x.amt ++ (listL pm1 x.ms ++ (by1 x.sg ++ []))))
  have a3 := st_back x.den (by have := st1_len x.den; omega) (it1 x.amt ++ (listL pm1 x.ms ++ (by1 x.sg ++ [])))
  have a4 := it_back x.amt hf.a (listL pm1 x.ms ++ (by1 x.sg ++ []))
  have g := listL_ge pm1 x.ms (fun t _ => pm1_ge t)
  have a5 := lst_back pm1 mgV15 mgR15 x.ms (fun m hm r => mg_back m (hf.m m hm) (by have := listL_mem pm1 x.ms m hm; omega) r) (fun t _ => pm1_ge t) (by omega) (by1 x.sg ++ [])
  have a6 := by_back x.sg (by have : (by1 x.sg).length = (varint x.sg.length).length + x.sg.length := by unfold by1; rw [List.length_append]
                              omega) []
  unfold txV15 txR15 tx4
  rw [e, a1.1, a1.2, a2.1, a2.2, a3.1, a3.2, a4.1, a4.2, a5.1, a5.2, a6.1, a6.2]
  exact ⟨rfl, rfl⟩
theorem dec_enc (x : Px) (hf : PxFl x) (h : encE x = none) : decOk (pxB x) = true ∧ txV15 (pxB x, none) = x := by
  have hc : chkX x = none := by
    unfold encE at h
    cases hx : chkX x with
    | none => rfl
    | some e => rw [hx] at h; cases h
  have hl : (pxB x).length ≤ 65536 := by
    unfold encE at h
    rw [hc] at h
    simp only at h
    split at h
    · cases h
    · omega
  obtain ⟨h1, h2⟩ := tx_back x hf hl
  refine ⟨?_, h1⟩
  unfold decOk
  rw [h1, h2, hc, decide_eq_true hl]
  rfl
end Go.Proofs.YtejglhlodfhgkaaGreatDoor
