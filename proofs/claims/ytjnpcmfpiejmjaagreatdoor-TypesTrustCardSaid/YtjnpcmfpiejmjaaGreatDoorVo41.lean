/- Part 41 of the proof. -/
import Derived.Lib.SmallJoins
import Derived.Deep.Fields
import Derived.ChangeSame
import Derived.Test.YtjnpcmfpiejmjaaGreatDoorVo9
import Derived.Test.YtjnpcmfpiejmjaaGreatDoorVo16
import Derived.Test.YtjnpcmfpiejmjaaGreatDoorVo26
import Derived.Test.YtjnpcmfpiejmjaaGreatDoorVo38
import Derived.Test.YtjnpcmfpiejmjaaGreatDoorVo39
import Derived.Test.YtjnpcmfpiejmjaaGreatDoorVo40
namespace Go.Proofs.YtjnpcmfpiejmjaaGreatDoor
set_option linter.unusedVariables false
set_option linter.unusedSimpArgs false
open Go.RowKit
set_option maxRecDepth 100000
set_option linter.unusedSimpArgs false
set_option linter.unusedVariables false
theorem sumI_snoc : ∀ (r : List Va) (x : Va) (P : Nat → Bool) (i : Nat), sumI (r ++ [x]) P i = sumI r P i + if P (i + r.length) then x.pow else 0
  | [], x, P, i => by simp [sumI]
  | y :: r, x, P, i => by
    simp only [List.cons_append, sumI, List.length_cons]
    rw [sumI_snoc r x P (i + 1), show i + 1 + r.length = i + (r.length + 1) by omega]
    omega
theorem sumI_mono : ∀ (l : List Va) (P Q : Nat → Bool) (i : Nat), Pos l → (∀ j x, l[j]? = some x → P (i + j) = true → Q (i + j) = true) → sumI l P i ≤ sumI l Q i
  | [], _, _, _, _, _ => Int.le_refl _
  | x :: l, P, Q, i, hp, h => by
    have h1 := sumI_mono l P Q (i + 1) (fun y hy => hp y (by simp [hy])) fun j y hj hP => by
      rw [show i + 1 + j = i + (j + 1) by omega] at hP ⊢
      exact h (j + 1) y (by simpa using hj) hP
    have h2 := hp x (by simp)
    have h3 := h 0 x rfl
    rw [Nat.add_zero] at h3
    simp only [sumI]
    cases hP : P i with
    | true => rw [h3 hP]; simp; omega
    | false => cases hQ : Q i <;> simp <;> omega
theorem sameW_refl (x : Va) : sameW x x = true := by simp [sameW]
theorem found_self {l : List Va} {f : Nat → Bool} {j : Nat} {x : Va} (h : l[j]? = some x) (hf : f j = true) : foundB l f l.length x = true := by
  unfold foundB
  rw [List.any_eq_true]
  exact ⟨j, List.mem_range.2 (List.getElem?_eq_some_iff.1 h).1, by rw [hf, h]; simp [sameW_refl]⟩
/-- who of the set is known again -/
def fnd (l : List Va) (f : Nat → Bool) (j : Nat) : Bool := (l[j]?.map (foundB l f l.length)).getD false
theorem trP_sum {l : List Va} (hc : ckE l = none) (f : Nat → Bool) : ∀ k, k ≤ l.length → trP l f (l.take k) 0 = sumI (l.take k) (fnd l f) 0 := fun k => by
  obtain ⟨h1, h2, h3⟩ := ck_sum hc
  induction k with
  | zero => intro _; rfl
  | succ k ih =>
    intro hk
    obtain ⟨x, hx⟩ : ∃ x, l[k]? = some x := ⟨l[k]'(by omega), List.getElem?_eq_getElem _⟩
    have hl : (l.take k).length = k := by rw [List.length_take]; omega
    have e1 : sumI (l.take (k + 1)) (fnd l f) 0 = sumI (l.take k) (fnd l f) 0 + if foundB l f l.length x then x.pow else 0 := by
      rw [List.take_add_one, hx]
      have := sumI_snoc (l.take k) x (fnd l f) 0
      rw [hl, Nat.zero_add] at this
      rw [show (some x).toList = [x] from rfl, this]
      unfold fnd; rw [hx]; rfl
    have p1 : Pos (l.take (k + 1)) := fun y hy => h1 y (List.mem_of_mem_take hy)
    have b1 := sumI_nonneg _ (fnd l f) 0 p1
    have b2 := sumI_le _ (fnd l f) 0 p1
    have b3 : sumV (l.take (k + 1)) ≤ sumV l := by
      conv => rhs; rw [← List.take_append_drop (k + 1) l]
      rw [sumV_append]
      have : 0 ≤ sumV (l.drop (k + 1)) := by rw [← sumI_all _ 0]; exact sumI_nonneg _ _ _ fun y hy => h1 y (List.mem_of_mem_drop hy)
      omega
    rw [trP_take hx, ih (by omega)]
    cases hf : foundB l f l.length x with
    | false => rw [hf] at e1; rw [e1]; simp
    | true =>
      rw [hf] at e1
      rw [if_pos rfl] at e1 ⊢
      rw [e1] at b1 b2 ⊢
      exact IntWalk.wrap64_in _ (by omega)
theorem trust_of {chain : ByteArray} {l : List Va} {D E : Int} {c : Cm} {vs : List Vo} (h : vcE chain l D E c vs = none) : vtE l l vs = none := by
  obtain ⟨hc, x1, x2⟩ := vc_spec h
  have gx := good_of x1
  obtain ⟨h1, h2, h3⟩ := ck_sum hc
  have px := pow_sum hc gx vs.length (Nat.le_refl _)
  rw [List.take_length] at px
  rw [px, tot_sum hc] at x2
  have bx := sumI_nonneg l (hasV vs) 0 h1
  have bx2 := sumI_le l (hasV vs) 0 h1
  have tx := two_lt x2 (by omega) (by omega)
  have ts := trP_sum hc (votedF vs) l.length (Nat.le_refl _)
  rw [List.take_length] at ts
  have b1 := sumI_nonneg l (fnd l (votedF vs)) 0 h1
  have b2 := sumI_le l (fnd l (votedF vs)) 0 h1
  have b3 := sumI_mono l (hasV vs) (fnd l (votedF vs)) 0 h1 fun j x hj hp => by
    rw [Nat.zero_add] at hp ⊢
    unfold fnd; rw [hj]
    exact found_self hj hp
  unfold vtE thirdB
  rw [ts, tot_sum hc, IntWalk.wrap64_in _ (by omega), if_pos]
  exact decide_eq_true (by omega)
theorem vc_set {chain : ByteArray} {l : List Va} {D E : Int} {c : Cm} {vs : List Vo} (h : vcE chain l D E c vs = none) : l.length ≤ 1048576 := by
  obtain ⟨hc, -, -⟩ := vc_spec h
  have := (ck_spec hc).2.1
  omega
theorem zint_inj {a b : Int} (ha : -9223372036854775808 ≤ a ∧ a ≤ 9223372036854775807) (hb : -9223372036854775808 ≤ b ∧ b ≤ 9223372036854775807) (h : varint (zig a) = varint (zig b)) : a = b := by
  have e1 := intS_varint a [] ha.1 ha.2
  rw [h, intS_varint b [] hb.1 hb.2] at e1
  exact (Prod.mk.inj e1).1.symm
theorem hd_time {CH : ByteArray} {HT TM TN : Int} {LA AP TX VA NX : Nat → Int} {PR : Int} (ha : -9223372036854775808 ≤ TM ∧ TM ≤ 9223372036854775807) (hb : -9223372036854775808 ≤ TN ∧ TN ≤ 9223372036854775807) (h : hdL CH HT TM LA AP TX VA NX PR = hdL CH HT TN LA AP TX VA NX PR) : TM = TN := by
  unfold hdL at h
  exact zint_inj ha hb (List.append_cancel_left (List.append_cancel_right (List.append_cancel_right (List.append_cancel_right (List.append_cancel_right (List.append_cancel_right (List.append_cancel_right h)))))))
theorem rowL_zero {f g : Nat → Int} (h : rowL 32 f = rowL 32 g) : f 0 = g 0 := by
  have := congrArg (fun l : List Int => l[0]?) h
  simpa [rowL] using this
theorem hd_app {CH : ByteArray} {HT TM : Int} {LA AP AQ TX VA NX : Nat → Int} {PR : Int} (h : hdL CH HT TM LA AP TX VA NX PR = hdL CH HT TM LA AQ TX VA NX PR) : AP 0 = AQ 0 := by
  unfold hdL at h
  exact rowL_zero (List.append_cancel_left (List.append_cancel_right (List.append_cancel_right (List.append_cancel_right (List.append_cancel_right h)))))
end Go.Proofs.YtjnpcmfpiejmjaaGreatDoor
namespace Go.Proofs.YtjnpcmfpiejmjaaGreatDoor
set_option linter.unusedVariables false
set_option linter.unusedSimpArgs false
open Go.ChangeShapes Go.WideShapes Go.ChangeAt Go.RowKit
set_option maxRecDepth 100000
theorem par_arg {H : Type} {enc : TypeId × Value → H} {W : World} {cs : Array Value} {d : DataW H} {p : List MemPlace} (h : DataW.Trod enc Tryz.prog W 0 (fun _ => true) true 42 (.agg cs) d p) : ∃ D E, cs = parC D E := by
  obtain ⟨fuel, hf⟩ := h
  have hf' : DataW.trod enc Tryz.prog W 0 (fun _ => true) true fuel 42 cs.toList = some (d, p) := by simpa [Value.cells] using hf
  obtain ⟨xs, m, _, hx, hlen, hxl, hff⟩ := DataW.trod_struct Tryz.underlying42 hf'
  rw [show Tryz.prog.cellsOf 42 = 2 by kernel_rfl] at hlen
  simp only [List.size_toArray, List.length_cons, List.length_nil] at hxl
  have g : ∀ i, i < 2 → ∃ y, xs[i]? = some y := fun i hi => ⟨xs[i], List.getElem?_eq_getElem (by omega)⟩
  obtain ⟨y0, e0⟩ := g 0 (by omega)
  obtain ⟨y1, e1⟩ := g 1 (by omega)
  have f0 : DataW.trod enc Tryz.prog W 0 (fun _ => true) true m 3 ((cs.toList.drop 0).take (Tryz.prog.cellsOf 3)) = xs[0]? := hff 0 _ rfl
  have f1 : DataW.trod enc Tryz.prog W 0 (fun _ => true) true m 3 ((cs.toList.drop 1).take (Tryz.prog.cellsOf 3)) = xs[1]? := hff 1 _ rfl
  rw [e0, show Tryz.prog.cellsOf 3 = 1 by kernel_rfl] at f0
  rw [e1, show Tryz.prog.cellsOf 3 = 1 by kernel_rfl] at f1
  obtain ⟨D, hD, _, _⟩ := DataW.trod_int Tryz.underlying3 f0
  obtain ⟨E, hE, _, _⟩ := DataW.trod_int Tryz.underlying3 f1
  refine ⟨D, E, ?_⟩
  apply Array.toList_inj.1
  apply List.ext_getElem?
  intro i
  match i with
  | 0 => rw [one_take hD]; rfl
  | 1 => rw [one_take hE]; rfl
  | n + 2 => rw [List.getElem?_eq_none (by omega), List.getElem?_eq_none (by show 2 ≤ n + 2; omega)]
end Go.Proofs.YtjnpcmfpiejmjaaGreatDoor
namespace Go.Proofs.YtjnpcmfpiejmjaaGreatDoor
set_option linter.unusedVariables false
set_option linter.unusedSimpArgs false
open Go.ChangeShapes Go.WideShapes Go.ChangeAt Go.RowKit Go.Proofs
set_option maxRecDepth 100000
set_option linter.unusedSimpArgs false
set_option linter.unusedVariables false
/-- a slice of rows that came in: each row's cells are C t -/
theorem rows_raw {H α : Type} {enc : TypeId × Value → H} {W : World} {T E : TypeId} {n : Nat} (hT : Tryz.prog.underlying T = some (.slice E)) (hn : Tryz.prog.cellsOf E = n) (hn0 : 0 < n) (C : α → List Value) (hC : ∀ t, (C t).length = n) (Ok : α → Nat → Prop)
    (hel : ∀ (f : Nat) (cs : List Value) (x : DataW H × List MemPlace), DataW.trod enc Tryz.prog W 0 (fun _ => true) true f E cs = some x → ∃ t, cs = C t ∧ Ok t (Rows.uptoBulk x.1))
    {fuel : Nat} {cs : List Value} {x : DataW H × List MemPlace} (h : DataW.trod enc Tryz.prog W 0 (fun _ => true) true fuel T cs = some x) :
    ∃ (ts : List α) (a : Option Addr) (cap : Nat), cs = [.slice a ts.length cap] ∧ ts.length ≤ cap ∧ ts.length ≤ maxLen ∧ ts.length ≤ Rows.uptoBulk x.1 ∧
      (ts = [] ∨ ∃ b off, a = some ⟨b, off, none⟩ ∧ b < W.heap.size ∧ ∀ i t, ts[i]? = some t → W.rangeAt b (off + i * n) (C t)) ∧ ∀ t ∈ ts, ∃ k, Ok t k ∧ k ≤ Rows.uptoBulk x.1 := by
  rcases Deep.open_slice hT h with ⟨hcs, hx⟩ | ⟨ad, l, c, m, f, D, Pl, hcs, _, hl, hm, hmm, hx, hel2⟩
  · exact ⟨[], none, 0, hcs, by simp, by simp [maxLen], by simp, .inl rfl, by simp⟩
  · simp only [if_true] at hmm
    subst hx
    rw [hn] at hel2
    have key : ∀ i, i < l → ∃ t : α, (∀ j v, (C t)[j]? = some v → W.cell? (ad.add (i * n + j)) = some v) ∧ Ok t (Rows.uptoBulk (D i)) := by
      intro i hi
      obtain ⟨cs', h1, h2⟩ := hel2 i (by omega)
      obtain ⟨_, hlen, hcell⟩ := World.cells?_some h1
      obtain ⟨t, rfl, hok⟩ := hel f _ _ h2
      refine ⟨t, fun j v hv => ?_, hok⟩
      have hj : j < n := by have := (List.getElem?_eq_some_iff.1 hv).1; rw [hC] at this; exact this
      rw [← hv, ← hcell j hj]
      by_cases hj0 : j = 0 <;> by_cases hi0 : i * n = 0 <;> simp [hj0, hi0, Addr.add, Nat.add_assoc]
    have hnone : ∀ (i : Nat), l ≤ i → True := fun _ _ => trivial
    by_cases hl0 : l = 0
    · subst hl0
      exact ⟨[], some ad, c, hcs, by simp, by simp [maxLen], by simp, .inl rfl, by simp⟩
    · obtain ⟨t0, _⟩ := key 0 (by omega)
      have hinh : Nonempty α := ⟨t0⟩
      have key2 : ∀ i, ∃ t : α, i < l → (∀ j v, (C t)[j]? = some v → W.cell? (ad.add (i * n + j)) = some v) ∧ Ok t (Rows.uptoBulk (D i)) := fun i => by
        by_cases hi : i < l
        · obtain ⟨t, ht⟩ := key i hi; exact ⟨t, fun _ => ht⟩
        · exact ⟨t0, fun h => absurd h hi⟩
      obtain ⟨F, hF⟩ : ∃ F : Nat → α, ∀ i, i < l → (∀ j v, (C (F i))[j]? = some v → W.cell? (ad.add (i * n + j)) = some v) ∧ Ok (F i) (Rows.uptoBulk (D i)) := ⟨fun i => (key2 i).choose, fun i => (key2 i).choose_spec⟩
      have hget : ∀ i t, ((List.range l).map F)[i]? = some t → i < l ∧ F i = t := fun i t hi => by
        have hil : i < l := by have := (List.getElem?_eq_some_iff.1 hi).1; simpa using this
        rw [List.getElem?_map, List.getElem?_range hil] at hi
        cases hi; exact ⟨hil, rfl⟩
      have hblk := bulk_len ((List.range l).map D)
      simp only [List.length_map, List.length_range] at hblk
      refine ⟨(List.range l).map F, some ad, c, by simpa using hcs, by simpa using hl, by simp; omega, ?_, .inr ?_, fun t ht => ?_⟩
      · simp only [Rows.uptoBulk, List.length_map, List.length_range]; omega
      · obtain ⟨b, off, spot⟩ := ad
        have h1 : (C (F 0))[0]? = some (C (F 0))[0]! := by rw [List.getElem?_eq_getElem (by rw [hC]; exact hn0)]; simp [hC, hn0]
        have h0 := (hF 0 (by omega)).1 0 _ h1
        have hspot : spot = none := by simpa [Addr.add] using World.cell?_spot h0
        subst hspot
        refine ⟨b, off, rfl, by simpa [Addr.add] using World.block_lt_of_cell? _ _ h0, fun i t hi => ?_⟩
        obtain ⟨hil, rfl⟩ := hget i t hi
        intro j v hv
        have := (hF i hil).1 j v hv
        rw [Addr.add_mid] at this
        rw [Nat.add_assoc]; exact this
      · obtain ⟨i, hi, rfl⟩ := List.mem_map.1 ht
        have h2 := bulk_mem (d := D i) (l := (List.range l).map D) (List.mem_map.2 ⟨i, hi, rfl⟩)
        exact ⟨_, (hF i (List.mem_range.1 hi)).2, by simp only [Rows.uptoBulk]; omega⟩
theorem pvone {α : Type} {l : List α} {k : Nat} {v : α} (h : (l.drop k).take 1 = [v]) : l[k]? = some v := by
  have h1 : ((l.drop k).take 1)[0]? = some v := by rw [h]; rfl
  rw [List.getElem?_take, if_pos (by omega), List.getElem?_drop, Nat.add_zero] at h1
  exact h1
theorem bulkAt {H : Type} {d : DataW H} {l : List (DataW H)} {i : Nat} (h : l[i]? = some d) : Rows.uptoBulk d ≤ Rows.uptoBulkAll l := bulk_mem (List.mem_of_getElem? h)
end Go.Proofs.YtjnpcmfpiejmjaaGreatDoor
namespace Go.Proofs.YtjnpcmfpiejmjaaGreatDoor
set_option linter.unusedVariables false
set_option linter.unusedSimpArgs false
open Go.RowKit
set_option maxRecDepth 100000
/-- a Case -/
def csC (chain : ByteArray) (lv : Value) (D E : Int) : Array Value := #[.string chain, lv, .int .i64 D, .int .i64 E]
theorem cs_cells {w : World} {g : Nat} {chain : ByteArray} {lv : Value} {D E : Int} {T : TypeId} (h : w.heap[g]? = some (.cells (csC chain lv D E) T (0, 0))) :
    w.cell? ⟨g, 0, none⟩ = some (.string chain) ∧ w.cell? ⟨g, 1, none⟩ = some lv ∧ w.rangeAt g 2 (parC D E).toList := by
  refine ⟨by rw [cell_of_row w g 0 _ _ _ h]; rfl, by rw [cell_of_row w g 1 _ _ _ h]; rfl, fun j u hu => ?_⟩
  rw [cell_of_row w g (2 + j) _ _ _ h]
  match j, hu with
  | 0, hu => exact hu
  | 1, hu => exact hu
end Go.Proofs.YtjnpcmfpiejmjaaGreatDoor
namespace Go.Proofs.YtjnpcmfpiejmjaaGreatDoor
set_option linter.unusedVariables false
set_option linter.unusedSimpArgs false
open Go.ChangeShapes Go.WideShapes Go.ChangeAt Go.RowKit Go.Proofs
set_option maxRecDepth 100000
set_option linter.unusedSimpArgs false
set_option linter.unusedVariables false
theorem dcut {α : Type} (cs : List α) (o k m : Nat) (h : m = o + k) : cs.drop o = (cs.drop o).take k ++ cs.drop m := by rw [h, ← List.drop_drop, List.take_append_drop]
theorem dend {α : Type} (cs : List α) (m : Nat) (h : cs.length = m) : cs.drop m = [] := List.drop_of_length_le (by omega)
theorem weights_allT {H : Type} {P : Program} {e : TypeId} : ∀ {l : List (DataW H)} {d : DataW H}, d ∈ l → ∀ n ∈ d.weights P e, n ∈ DataW.weightsAll P e l
  | x :: r, d, h, n, hn => by
    simp only [DataW.weightsAll]
    rcases List.mem_cons.1 h with rfl | h
    · exact List.mem_append_left _ hn
    · exact List.mem_append_right _ (weights_allT h n hn)
/-- a slice of rows that came in, with what each weighs -/
theorem rows_rawW {H α : Type} {enc : TypeId × Value → H} {W : World} {T E : TypeId} {n : Nat} (hT : Tryz.prog.underlying T = some (.slice E)) (hn : Tryz.prog.cellsOf E = n) (hn0 : 0 < n) (C : α → List Value) (hC : ∀ t, (C t).length = n) (Ok : α → DataW H → Prop)
    (hel : ∀ (f : Nat) (cs : List Value) (x : DataW H × List MemPlace), DataW.trod enc Tryz.prog W 0 (fun _ => true) true f E cs = some x → ∃ t, cs = C t ∧ Ok t x.1)
    {fuel : Nat} {cs : List Value} {x : DataW H × List MemPlace} (h : DataW.trod enc Tryz.prog W 0 (fun _ => true) true fuel T cs = some x) :
    ∃ (ts : List α) (v : Value), cs = [v] ∧ RowsIn n C W v ts ∧ ∀ t ∈ ts, ∃ d, Ok t d ∧ ∀ m ∈ d.weights Tryz.prog E, m ∈ x.1.weights Tryz.prog T := by
  rcases Deep.open_slice hT h with ⟨hcs, hx⟩ | ⟨ad, l, c, m, f, D, Pl, hcs, _, hl, hm, hmm, hx, hel2⟩
  · exact ⟨[], _, hcs, ⟨none, 0, rfl, by simp, by simp [maxLen], .inl rfl⟩, by simp⟩
  · simp only [if_true] at hmm
    subst hx
    rw [hn] at hel2
    have key : ∀ i, i < l → ∃ t : α, (∀ j v, (C t)[j]? = some v → W.cell? (ad.add (i * n + j)) = some v) ∧ Ok t (D i) := by
      intro i hi
      obtain ⟨cs', h1, h2⟩ := hel2 i (by omega)
      obtain ⟨_, hlen, hcell⟩ := World.cells?_some h1
      obtain ⟨t, rfl, hok⟩ := hel f _ _ h2
      refine ⟨t, fun j v hv => ?_, hok⟩
      have hj : j < n := by have := (List.getElem?_eq_some_iff.1 hv).1; rw [hC] at this; exact this
      rw [← hv, ← hcell j hj]
      by_cases hj0 : j = 0 <;> by_cases hi0 : i * n = 0 <;> simp [hj0, hi0, Addr.add, Nat.add_assoc]
    by_cases hl0 : l = 0
    · subst hl0
      exact ⟨[], _, hcs, ⟨some ad, c, rfl, by simp, by simp [maxLen], .inl rfl⟩, by simp⟩
    · obtain ⟨t0, _⟩ := key 0 (by omega)
      have key2 : ∀ i, ∃ t : α, i < l → (∀ j v, (C t)[j]? = some v → W.cell? (ad.add (i * n + j)) = some v) ∧ Ok t (D i) := fun i => by
        by_cases hi : i < l
        · obtain ⟨t, ht⟩ := key i hi; exact ⟨t, fun _ => ht⟩
        · exact ⟨t0, fun h => absurd h hi⟩
      obtain ⟨F, hF⟩ : ∃ F : Nat → α, ∀ i, i < l → (∀ j v, (C (F i))[j]? = some v → W.cell? (ad.add (i * n + j)) = some v) ∧ Ok (F i) (D i) := ⟨fun i => (key2 i).choose, fun i => (key2 i).choose_spec⟩
      have hget : ∀ i t, ((List.range l).map F)[i]? = some t → i < l ∧ F i = t := fun i t hi => by
        have hil : i < l := by have := (List.getElem?_eq_some_iff.1 hi).1; simpa using this
        rw [List.getElem?_map, List.getElem?_range hil] at hi
        cases hi; exact ⟨hil, rfl⟩
      refine ⟨(List.range l).map F, _, hcs, ⟨some ad, c, by simp, by simpa using hl, by simp; omega, .inr ?_⟩, fun t ht => ?_⟩
      · obtain ⟨b, off, spot⟩ := ad
        have h1 : (C (F 0))[0]? = some (C (F 0))[0]! := by rw [List.getElem?_eq_getElem (by rw [hC]; exact hn0)]; simp [hC, hn0]
        have h0 := (hF 0 (by omega)).1 0 _ h1
        have hspot : spot = none := by simpa [Addr.add] using World.cell?_spot h0
        subst hspot
        refine ⟨b, off, rfl, by simpa [Addr.add] using World.block_lt_of_cell? _ _ h0, fun i t hi => ?_⟩
        obtain ⟨hil, rfl⟩ := hget i t hi
        intro j v hv
        have := (hF i hil).1 j v hv
        rw [Addr.add_mid] at this
        rw [Nat.add_assoc]; exact this
      · obtain ⟨i, hi, rfl⟩ := List.mem_map.1 ht
        refine ⟨D i, (hF i (List.mem_range.1 hi)).2, fun q hq => ?_⟩
        simp only [DataW.weights, hT]
        exact List.mem_cons_of_mem _ (List.mem_append_left _ (weights_allT (List.mem_map.2 ⟨i, hi, rfl⟩) _ hq))
theorem val_raw {H : Type} {enc : TypeId × Value → H} {W : World} (f : Nat) (cs : List Value) (x : DataW H × List MemPlace) (h : DataW.trod enc Tryz.prog W 0 (fun _ => true) true f 34 cs = some x) :
    ∃ t : Va, cs = (vaC t).toList ∧ ∀ b, (∀ n ∈ x.1.weights Tryz.prog 34, n ≤ b) → t.name.size ≤ b := by
  obtain ⟨xs, m, _, rfl, hlen, hxl, hf⟩ := DataW.trod_struct Tryz.underlying34 h
  rw [show Tryz.prog.cellsOf 34 = 34 by kernel_rfl] at hlen
  simp only [List.size_toArray, List.length_cons, List.length_nil] at hxl
  have g : ∀ i, i < 3 → ∃ y, xs[i]? = some y := fun i hi => ⟨xs[i], List.getElem?_eq_getElem (by omega)⟩
  obtain ⟨y0, e0⟩ := g 0 (by omega)
  obtain ⟨y1, e1⟩ := g 1 (by omega)
  obtain ⟨y2, e2⟩ := g 2 (by omega)
  have f0 : DataW.trod enc Tryz.prog W 0 (fun _ => true) true m 9 ((cs.drop 0).take (Tryz.prog.cellsOf 9)) = xs[0]? := hf 0 _ rfl
  have f1 : DataW.trod enc Tryz.prog W 0 (fun _ => true) true m 32 ((cs.drop 1).take (Tryz.prog.cellsOf 32)) = xs[1]? := hf 1 _ rfl
  have f2 : DataW.trod enc Tryz.prog W 0 (fun _ => true) true m 3 ((cs.drop 33).take (Tryz.prog.cellsOf 3)) = xs[2]? := hf 2 _ rfl
  rw [e0, show Tryz.prog.cellsOf 9 = 1 by kernel_rfl] at f0
  rw [e1, show Tryz.prog.cellsOf 32 = 32 by kernel_rfl] at f1
  rw [e2, show Tryz.prog.cellsOf 3 = 1 by kernel_rfl] at f2
  obtain ⟨s, h0, x0, _⟩ := DataW.trod_string Tryz.underlying9 f0
  obtain ⟨F, h1, _⟩ := arr_raw Tryz.underlying32 Tryz.underlying5 (by kernel_rfl) (by kernel_rfl) f1
  obtain ⟨p, h2, _, _⟩ := DataW.trod_int Tryz.underlying3 f2
  refine ⟨⟨s, F, p⟩, ?_, fun b hw => ?_⟩
  · show cs.drop 0 = _
    rw [dcut cs 0 1 1 rfl, dcut cs 1 32 33 rfl, dcut cs 33 1 34 rfl, dend cs 34 hlen, h0, h1, h2]
    simp [vaC]
  · have h4 : s.data.toList.length ∈ y0.1.weights Tryz.prog 9 := by rw [x0]; simp [DataW.weights]
    have h6 := hw _ (by simp only [DataW.weights, Tryz.underlying34]; exact DataW.weights_mem_each (j := 0) (t := 9) rfl (by rw [List.getElem?_map, e0]; rfl) _ h4)
    rw [Array.length_toList] at h6
    exact h6
theorem vote_raw {H : Type} {enc : TypeId × Value → H} {W : World} (f : Nat) (cs : List Value) (x : DataW H × List MemPlace) (h : DataW.trod enc Tryz.prog W 0 (fun _ => true) true f 46 cs = some x) :
    ∃ t : Vo, cs = (voC t).toList ∧ (VoOk t ∧ bytesOk t.sign ∧ BytesIn W t.sv t.sign ∧ ∀ b, (∀ n ∈ x.1.weights Tryz.prog 46, n ≤ b) → t.sign.length ≤ b) := by
  obtain ⟨xs, m, _, rfl, hlen, hxl, hf⟩ := DataW.trod_struct Tryz.underlying46 h
  rw [show Tryz.prog.cellsOf 46 = 37 by kernel_rfl] at hlen
  simp only [List.size_toArray, List.length_cons, List.length_nil] at hxl
  have g : ∀ i, i < 6 → ∃ y, xs[i]? = some y := fun i hi => ⟨xs[i], List.getElem?_eq_getElem (by omega)⟩
  obtain ⟨y0, e0⟩ := g 0 (by omega)
  obtain ⟨y1, e1⟩ := g 1 (by omega)
  obtain ⟨y2, e2⟩ := g 2 (by omega)
  obtain ⟨y3, e3⟩ := g 3 (by omega)
  obtain ⟨y4, e4⟩ := g 4 (by omega)
  obtain ⟨y5, e5⟩ := g 5 (by omega)
  have f0 : DataW.trod enc Tryz.prog W 0 (fun _ => true) true m 3 ((cs.drop 0).take (Tryz.prog.cellsOf 3)) = xs[0]? := hf 0 _ rfl
  have f1 : DataW.trod enc Tryz.prog W 0 (fun _ => true) true m 3 ((cs.drop 1).take (Tryz.prog.cellsOf 3)) = xs[1]? := hf 1 _ rfl
  have f2 : DataW.trod enc Tryz.prog W 0 (fun _ => true) true m 3 ((cs.drop 2).take (Tryz.prog.cellsOf 3)) = xs[2]? := hf 2 _ rfl
  have f3 : DataW.trod enc Tryz.prog W 0 (fun _ => true) true m 32 ((cs.drop 3).take (Tryz.prog.cellsOf 32)) = xs[3]? := hf 3 _ rfl
  have f4 : DataW.trod enc Tryz.prog W 0 (fun _ => true) true m 3 ((cs.drop 35).take (Tryz.prog.cellsOf 3)) = xs[4]? := hf 4 _ rfl
  have f5 : DataW.trod enc Tryz.prog W 0 (fun _ => true) true m 23 ((cs.drop 36).take (Tryz.prog.cellsOf 23)) = xs[5]? := hf 5 _ rfl
  rw [e0, show Tryz.prog.cellsOf 3 = 1 by kernel_rfl] at f0
  rw [e1, show Tryz.prog.cellsOf 3 = 1 by kernel_rfl] at f1
  rw [e2, show Tryz.prog.cellsOf 3 = 1 by kernel_rfl] at f2
  rw [e3, show Tryz.prog.cellsOf 32 = 32 by kernel_rfl] at f3
  rw [e4, show Tryz.prog.cellsOf 3 = 1 by kernel_rfl] at f4
  rw [e5, show Tryz.prog.cellsOf 23 = 1 by kernel_rfl] at f5
  obtain ⟨kd, h0, _, w0⟩ := DataW.trod_int Tryz.underlying3 f0
  obtain ⟨ht, h1, _, w1⟩ := DataW.trod_int Tryz.underlying3 f1
  obtain ⟨rd, h2, _, w2⟩ := DataW.trod_int Tryz.underlying3 f2
  obtain ⟨F, h3, _⟩ := arr_raw Tryz.underlying32 Tryz.underlying5 (by kernel_rfl) (by kernel_rfl) f3
  obtain ⟨vl, h4, _, _⟩ := DataW.trod_int Tryz.underlying3 f4
  obtain ⟨bv, bs, h5, hbin, hbok, _, _, hbd⟩ := bytes_raw f5
  refine ⟨⟨kd, ht, rd, F, vl, bv, bs⟩, ?_, ⟨bounds_i64 w0, bounds_i64 w1, bounds_i64 w2⟩, hbok, hbin, fun b hw => ?_⟩
  · show cs.drop 0 = _
    rw [dcut cs 0 1 1 rfl, dcut cs 1 1 2 rfl, dcut cs 2 1 3 rfl, dcut cs 3 32 35 rfl, dcut cs 35 1 36 rfl, dcut cs 36 1 37 rfl, dend cs 37 hlen, h0, h1, h2, h3, h4, h5]
    simp [voC]
  · rcases hbd with ⟨_, h7⟩ | ⟨elems, spare, h7, h8⟩
    · rw [h7]; exact Nat.zero_le _
    · have h9 : (elems.length + spare.length) * Tryz.prog.bytesOf 5 ∈ y5.1.weights Tryz.prog 23 := by rw [h7]; simp [DataW.weights, Tryz.underlying23]
      have h6 := hw _ (by simp only [DataW.weights, Tryz.underlying46]; exact DataW.weights_mem_each (j := 5) (t := 23) rfl (by rw [List.getElem?_map, e5]; rfl) _ h9)
      rw [bytesOfU8, Nat.mul_one] at h6
      show bs.length ≤ b
      omega
theorem commit_raw {H : Type} {enc : TypeId × Value → H} {W : World} (f : Nat) (cs : List Value) (x : DataW H × List MemPlace) (h : DataW.trod enc Tryz.prog W 0 (fun _ => true) true f 59 cs = some x) :
    ∃ (c : Cm) (v : Value) (ts : List Vo), cs = (cmC c v).toList ∧ VoIn W v ts ∧ (∀ t ∈ ts, BytesIn W t.sv t.sign) ∧ ((∀ n ∈ x.1.weights Tryz.prog 59, n ≤ 140737488351232) → ∀ t ∈ ts, VoIs t) := by
  obtain ⟨xs, m, _, rfl, hlen, hxl, hf⟩ := DataW.trod_struct Tryz.underlying59 h
  rw [show Tryz.prog.cellsOf 59 = 35 by kernel_rfl] at hlen
  simp only [List.size_toArray, List.length_cons, List.length_nil] at hxl
  have g : ∀ i, i < 4 → ∃ y, xs[i]? = some y := fun i hi => ⟨xs[i], List.getElem?_eq_getElem (by omega)⟩
  obtain ⟨y0, e0⟩ := g 0 (by omega)
  obtain ⟨y1, e1⟩ := g 1 (by omega)
  obtain ⟨y2, e2⟩ := g 2 (by omega)
  obtain ⟨y3, e3⟩ := g 3 (by omega)
  have f0 : DataW.trod enc Tryz.prog W 0 (fun _ => true) true m 3 ((cs.drop 0).take (Tryz.prog.cellsOf 3)) = xs[0]? := hf 0 _ rfl
  have f1 : DataW.trod enc Tryz.prog W 0 (fun _ => true) true m 3 ((cs.drop 1).take (Tryz.prog.cellsOf 3)) = xs[1]? := hf 1 _ rfl
  have f2 : DataW.trod enc Tryz.prog W 0 (fun _ => true) true m 32 ((cs.drop 2).take (Tryz.prog.cellsOf 32)) = xs[2]? := hf 2 _ rfl
  have f3 : DataW.trod enc Tryz.prog W 0 (fun _ => true) true m 57 ((cs.drop 34).take (Tryz.prog.cellsOf 57)) = xs[3]? := hf 3 _ rfl
  rw [e0, show Tryz.prog.cellsOf 3 = 1 by kernel_rfl] at f0
  rw [e1, show Tryz.prog.cellsOf 3 = 1 by kernel_rfl] at f1
  rw [e2, show Tryz.prog.cellsOf 32 = 32 by kernel_rfl] at f2
  rw [e3, show Tryz.prog.cellsOf 57 = 1 by kernel_rfl] at f3
  obtain ⟨ht, h0, _, _⟩ := DataW.trod_int Tryz.underlying3 f0
  obtain ⟨rd, h1, _, _⟩ := DataW.trod_int Tryz.underlying3 f1
  obtain ⟨F, h2, _⟩ := arr_raw Tryz.underlying32 Tryz.underlying5 (by kernel_rfl) (by kernel_rfl) f2
  obtain ⟨ts, v, h3, hin, hts⟩ := rows_rawW (n := 37) Tryz.underlying57 (by kernel_rfl) (by omega) (fun t => (voC t).toList) (fun t => by rw [Array.length_toList, voC_size]) (fun t d => VoOk t ∧ bytesOk t.sign ∧ BytesIn W t.sv t.sign ∧ ∀ b, (∀ n ∈ d.weights Tryz.prog 46, n ≤ b) → t.sign.length ≤ b) vote_raw f3
  refine ⟨⟨ht, rd, F⟩, v, ts, ?_, hin, fun t h => ?_, fun hw t h => ?_⟩
  · show cs.drop 0 = _
    rw [dcut cs 0 1 1 rfl, dcut cs 1 1 2 rfl, dcut cs 2 32 34 rfl, dcut cs 34 1 35 rfl, dend cs 35 hlen, h0, h1, h2, h3]
    simp [cmC]
  · obtain ⟨d, ⟨_, _, hb, _⟩, _⟩ := hts t h
    exact hb
  · obtain ⟨d, ⟨h4, h5, _, h6⟩, h7⟩ := hts t h
    refine ⟨h4, h5, Nat.le_trans (h6 140737488351232 fun n hn => hw _ ?_) (by omega)⟩
    simp only [DataW.weights, Tryz.underlying59]
    exact DataW.weights_mem_each (j := 3) (t := 57) rfl (by rw [List.getElem?_map, e3]; rfl) _ (h7 n hn)
theorem commit_arg {H : Type} {enc : TypeId × Value → H} {W : World} {cs : Array Value} {d : DataW H} {p : List MemPlace} (h : DataW.Trod enc Tryz.prog W 0 (fun _ => true) true 59 (.agg cs) d p) :
    ∃ (c : Cm) (v : Value) (ts : List Vo), cs = cmC c v ∧ VoIn W v ts ∧ (∀ t ∈ ts, BytesIn W t.sv t.sign) ∧ (∀ us ds : List _, ∀ j : Nat, us[j]? = some 59 → ds[j]? = some d → (DataW.weightsEach Tryz.prog us ds).all (· ≤ reachBytes) = true → ∀ t ∈ ts, VoIs t) := by
  obtain ⟨fuel, hf⟩ := h
  have hf' : DataW.trod enc Tryz.prog W 0 (fun _ => true) true fuel 59 cs.toList = some (d, p) := by simpa [Value.cells] using hf
  obtain ⟨c, v, ts, h1, h2, h3, h4⟩ := commit_raw _ _ _ hf'
  exact ⟨c, v, ts, Array.toList_inj.1 h1, h2, h3, fun us ds j htj hdj hw => h4 fun n hn => of_decide_eq_true (List.all_eq_true.1 hw _ (DataW.weights_mem_each htj hdj _ hn))⟩
theorem caset_arg {H : Type} {enc : TypeId × Value → H} {W : World} {cs : Array Value} {d : DataW H} {p : List MemPlace} (h : DataW.Trod enc Tryz.prog W 0 (fun _ => true) true 44 (.agg cs) d p) :
    ∃ (s : ByteArray) (v : Value) (l : List Va) (D E : Int), cs = csC s v D E ∧ VaIn W v l ∧ (∀ us ds : List _, ∀ j : Nat, us[j]? = some 44 → ds[j]? = some d → (DataW.weightsEach Tryz.prog us ds).all (· ≤ reachBytes) = true → s.size ≤ 140737488351232 ∧ ∀ t ∈ l, t.name.size ≤ 140737488351232) := by
  obtain ⟨fuel, hf⟩ := h
  have hf' : DataW.trod enc Tryz.prog W 0 (fun _ => true) true fuel 44 cs.toList = some (d, p) := by simpa [Value.cells] using hf
  obtain ⟨xs, m, _, hx, hlen, hxl, hff⟩ := DataW.trod_struct Tryz.underlying44 hf'
  rw [show Tryz.prog.cellsOf 44 = 4 by kernel_rfl] at hlen
  simp only [List.size_toArray, List.length_cons, List.length_nil] at hxl
  have g : ∀ i, i < 3 → ∃ y, xs[i]? = some y := fun i hi => ⟨xs[i], List.getElem?_eq_getElem (by omega)⟩
  obtain ⟨y0, e0⟩ := g 0 (by omega)
  obtain ⟨y1, e1⟩ := g 1 (by omega)
  obtain ⟨y2, e2⟩ := g 2 (by omega)
  have f0 : DataW.trod enc Tryz.prog W 0 (fun _ => true) true m 9 ((cs.toList.drop 0).take (Tryz.prog.cellsOf 9)) = xs[0]? := hff 0 _ rfl
  have f1 : DataW.trod enc Tryz.prog W 0 (fun _ => true) true m 22 ((cs.toList.drop 1).take (Tryz.prog.cellsOf 22)) = xs[1]? := hff 1 _ rfl
  have f2 : DataW.trod enc Tryz.prog W 0 (fun _ => true) true m 42 ((cs.toList.drop 2).take (Tryz.prog.cellsOf 42)) = xs[2]? := hff 2 _ rfl
  rw [e0, show Tryz.prog.cellsOf 9 = 1 by kernel_rfl] at f0
  rw [e1, show Tryz.prog.cellsOf 22 = 1 by kernel_rfl] at f1
  rw [e2, show Tryz.prog.cellsOf 42 = 2 by kernel_rfl] at f2
  obtain ⟨s, h0, x0, _⟩ := DataW.trod_string Tryz.underlying9 f0
  obtain ⟨l, v, h1, hin, hl⟩ := rows_rawW (n := 34) Tryz.underlying22 (by kernel_rfl) (by omega) (fun t => (vaC t).toList) (fun t => by rw [Array.length_toList, vaC_size]) (fun t d => ∀ b, (∀ n ∈ d.weights Tryz.prog 34, n ≤ b) → t.name.size ≤ b) val_raw f1
  obtain ⟨D, E, h2⟩ := par_arg (cs := ((cs.toList.drop 2).take 2).toArray) ⟨m, by simpa [Value.cells] using f2⟩
  have h2 := congrArg Array.toList h2
  rw [List.toList_toArray] at h2
  simp only [Prod.mk.injEq] at hx
  refine ⟨s, v, l, D, E, ?_, hin, fun us ds j htj hdj hw => ?_⟩
  · apply Array.toList_inj.1
    show cs.toList.drop 0 = _
    rw [dcut cs.toList 0 1 1 rfl, dcut cs.toList 1 1 2 rfl, dcut cs.toList 2 2 4 rfl, dend cs.toList 4 hlen, h0, h1, h2]
    simp [csC, parC]
  · have all : ∀ n ∈ d.weights Tryz.prog 44, n ≤ 140737488351232 := fun n hn => of_decide_eq_true (List.all_eq_true.1 hw _ (DataW.weights_mem_each htj hdj _ hn))
    rw [hx.1] at all
    simp only [DataW.weights, Tryz.underlying44] at all
    refine ⟨?_, fun t ht => ?_⟩
    · have h4 : s.data.toList.length ∈ y0.1.weights Tryz.prog 9 := by rw [x0]; simp [DataW.weights]
      have h6 := all _ (DataW.weights_mem_each (j := 0) (t := 9) rfl (by rw [List.getElem?_map, e0]; rfl) _ h4)
      rw [Array.length_toList] at h6
      exact h6
    · obtain ⟨e, h6, h7⟩ := hl t ht
      exact h6 _ fun n hn => all _ (DataW.weights_mem_each (j := 1) (t := 22) rfl (by rw [List.getElem?_map, e1]; rfl) _ (h7 n hn))
end Go.Proofs.YtjnpcmfpiejmjaaGreatDoor
