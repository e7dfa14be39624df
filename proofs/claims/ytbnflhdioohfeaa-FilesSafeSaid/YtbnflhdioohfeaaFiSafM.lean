/- FilesSafe: what becomes of the file log. -/
import Derived.Test.YtbnflhdioohfeaaFiAct
namespace Go.Proofs.Ytbnflhdioohfeaa
open Go.RowKit Go.Maps Go.Proofs
set_option maxRecDepth 100000
theorem aget_ains_ne {n : List UInt8} {f : AF} (h : f.nm ≠ n) : ∀ L : List AF, aget n (ains f L) = aget n L
  | [] => by unfold ains aget; rw [List.find?_cons_of_neg (by simpa using h)]
  | y :: r => by
    unfold ains
    split
    · unfold aget; rw [List.find?_cons_of_neg (by simpa using h)]
    · unfold aget
      by_cases hy : (y.nm == n) = true
      · rw [List.find?_cons_of_pos (by simpa using hy), List.find?_cons_of_pos (by simpa using hy)]
      · rw [List.find?_cons_of_neg (by simpa using hy), List.find?_cons_of_neg (by simpa using hy)]
        exact aget_ains_ne h r
theorem aget_adel_ne {n m : List UInt8} (h : n ≠ m) : ∀ L : List AF, aget n (adel m L) = aget n L
  | [] => rfl
  | y :: r => by
    unfold adel aget
    by_cases hm : y.nm = m
    · rw [List.filter_cons_of_neg (by simpa using hm), List.find?_cons_of_neg (by intro h'; exact h ((by simpa using h' : y.nm = n) ▸ hm))]
      exact aget_adel_ne h r
    · rw [List.filter_cons_of_pos (by simpa using hm)]
      by_cases hy : y.nm = n
      · rw [List.find?_cons_of_pos (by simpa using hy), List.find?_cons_of_pos (by simpa using hy)]
      · rw [List.find?_cons_of_neg (by simpa using hy), List.find?_cons_of_neg (by simpa using hy)]
        exact aget_adel_ne h r
theorem aget_ains_eq {f : AF} : ∀ L : List AF, (∀ y ∈ L, y.nm ≠ f.nm) → aget f.nm (ains f L) = some f
  | [], _ => by unfold ains aget; rw [List.find?_cons_of_pos (by simp)]
  | y :: r, h => by
    unfold ains
    split
    · unfold aget; rw [List.find?_cons_of_pos (by simp)]
    · unfold aget
      rw [List.find?_cons_of_neg (by simpa using h y (by simp))]
      exact aget_ains_eq r fun y hy => h y (List.mem_cons_of_mem _ hy)
theorem aget_put_eq (f : AF) (L : List AF) : aget f.nm (aput f L) = some f :=
  aget_ains_eq _ fun y hy => by unfold adel at hy; have := (List.mem_filter.1 hy).2; simpa using this
theorem aget_put_ne {n : List UInt8} (f : AF) (L : List AF) (h : f.nm ≠ n) : aget n (aput f L) = aget n L := by
  unfold aput
  rw [aget_ains_ne h, aget_adel_ne (Ne.symm h)]
theorem aStartL_cons (y : AF) (r : List AF) (ks : List Int) : aStartL (y :: r) ks = if y.xs.length = y.safe then y :: aStartL r ks else match ks with | [] => aCutF y y.safe :: aStartL r [] | k :: t => aCutF y (aKept y k) :: aStartL r t := by cases ks <;> rfl
/-- Start leaves a file's begin, at least what was safe -/
theorem aget_start (n : List UInt8) : ∀ (L : List AF) (ks : List Int) (f : AF), aget n L = some f → f.safe ≤ f.xs.length → ∃ m, f.safe ≤ m ∧ m ≤ f.xs.length ∧ aget n (aStartL L ks) = some ⟨n, f.xs.take m, m⟩
  | [], _, _, h, _ => by cases h
  | y :: r, ks, f, h, hs => by
    by_cases hy : y.nm = n
    · have hyf : y = f := by unfold aget at h; rw [List.find?_cons_of_pos (by simpa using hy)] at h; exact Option.some.inj h
      subst hyf hy
      rw [aStartL_cons]
      by_cases he : y.xs.length = y.safe
      · rw [if_pos he]
        refine ⟨y.safe, Nat.le_refl _, hs, ?_⟩
        unfold aget
        rw [List.find?_cons_of_pos (by simp), ← he, List.take_length, he]
      · rw [if_neg he]
        cases ks with
        | nil => exact ⟨y.safe, Nat.le_refl _, hs, by unfold aget; rw [List.find?_cons_of_pos (by simp [aCutF])]; rfl⟩
        | cons k t =>
          refine ⟨aKept y k, by unfold aKept; omega, by unfold aKept; omega, by unfold aget; rw [List.find?_cons_of_pos (by simp [aCutF])]; rfl⟩
    · have hr : aget n r = some f := by unfold aget at h ⊢; rwa [List.find?_cons_of_neg (by simpa using hy)] at h
      rw [aStartL_cons]
      split
      · obtain ⟨m, h1, h2, h3⟩ := aget_start n r ks f hr hs
        exact ⟨m, h1, h2, by unfold aget at h3 ⊢; rwa [List.find?_cons_of_neg (by simpa using hy)]⟩
      · cases ks with
        | nil =>
          obtain ⟨m, h1, h2, h3⟩ := aget_start n r [] f hr hs
          exact ⟨m, h1, h2, by unfold aget at h3 ⊢; rwa [List.find?_cons_of_neg (by simpa [aCutF] using hy)]⟩
        | cons k t =>
          obtain ⟨m, h1, h2, h3⟩ := aget_start n r t f hr hs
          exact ⟨m, h1, h2, by unfold aget at h3 ⊢; rwa [List.find?_cons_of_neg (by simpa [aCutF] using hy)]⟩
def nmL : ByteArray := { data := #[108, 111, 103] }
def nmZ : ByteArray := { data := #[122] }
def catN : Nat → List Int → List Int
  | 0, _ => []
  | j + 1, b => catN j b ++ b
theorem catN_length (b : List Int) : ∀ j, (catN j b).length = j * b.length
  | 0 => by simp [catN]
  | j + 1 => by rw [catN, List.length_append, catN_length b j, Nat.add_mul, Nat.one_mul]
theorem catN_ok {b : List Int} (h : bytesOk b) : ∀ j, bytesOk (catN j b)
  | 0 => fun x hx => by cases hx
  | j + 1 => fun x hx => by
    rcases List.mem_append.1 hx with hx | hx
    · exact catN_ok h j x hx
    · exact h x hx
theorem chkL (d : Bool) : checkE d [nmL] = if d then some 13 else none := by cases d <;> decide +kernel
theorem chkZ (d : Bool) : checkE d [nmZ] = if d then some 13 else none := by cases d <;> decide +kernel
theorem apE_gen (st : St) (s : ByteArray) (m : Nat) (hc : checkE st.down [s] = none) (h64 : st.L.length < 64) (hl : (afXs (aget s.data.toList st.L)).length + m ≤ 16777216) : aApE st s m = none := by
  unfold aApE
  rw [hc]
  show (if _ then some 10 else if 16777216 < (afXs (aget s.data.toList st.L)).length + m then some 2 else none) = none
  rw [if_neg (fun h => by have := h.2; omega), if_neg (by omega)]
/-- behind at most i appends to log -/
def SInv (a b : List Int) (i : Nat) (st : St) : Prop := (∃ j, j ≤ i ∧ aget [108, 111, 103] st.L = some ⟨[108, 111, 103], a ++ catN j b, a.length⟩) ∧ st.steps ≤ 2 + 2 * i
theorem app_same {st : St} {s : ByteArray} {ys : List Int} {n : Nat} (h : aApE st s ys.length = some n) : aAppend st s ys = (some n, st) := by unfold aAppend; rw [h]
theorem app_some {st : St} {s : ByteArray} {ys : List Int} (h : aApE st s ys.length = none) : ∃ e st', aAppend st s ys = (e, st') ∧ st'.L = aput ⟨s.data.toList, afXs (aget s.data.toList st.L) ++ ys, afSafe (aget s.data.toList st.L)⟩ st.L ∧ st'.steps ≤ st.steps + 1 := by
  unfold aAppend
  rw [h]
  simp only
  by_cases hd : st.armed = true ∧ st.left = 0
  · rw [if_pos hd]; exact ⟨_, _, rfl, rfl, Nat.le_succ _⟩
  · rw [if_neg hd]; exact ⟨_, _, rfl, rfl, Nat.le_refl _⟩
theorem sinv_log {a b : List Int} {i : Nat} {st : St} (h : SInv a b i st) : ∃ e st', aAppend st nmL b = (e, st') ∧ SInv a b (i + 1) { st' with steps := st'.steps + 1 } := by
  obtain ⟨⟨j, hj, hg⟩, hs⟩ := h
  cases he : aApE st nmL b.length with
  | some n => exact ⟨_, _, app_same he, ⟨j, by omega, hg⟩, by show st.steps + 1 ≤ _; omega⟩
  | none =>
    obtain ⟨e, st', h1, h2, h3⟩ := app_some he
    refine ⟨e, st', h1, ⟨j + 1, by omega, ?_⟩, by show st'.steps + 1 ≤ _; omega⟩
    show aget _ st'.L = _
    rw [h2, show nmL.data.toList = [108, 111, 103] from rfl, hg]
    rw [aget_put_eq ⟨[108, 111, 103], afXs (some ⟨[108, 111, 103], a ++ catN j b, a.length⟩) ++ b, afSafe (some ⟨[108, 111, 103], a ++ catN j b, a.length⟩)⟩ st.L]
    show some (AF.mk _ ((a ++ catN j b) ++ b) a.length) = _
    rw [List.append_assoc]; rfl
theorem sinv_z {a b : List Int} {i : Nat} {st : St} (h : SInv a b i { st with steps := st.steps + 1 }) : ∃ e st', aAppend st nmZ b = (e, st') ∧ SInv a b i st' := by
  obtain ⟨⟨j, hj, hg⟩, hs⟩ := h
  have hs : st.steps + 1 ≤ 2 + 2 * i := hs
  have hg : aget [108, 111, 103] st.L = _ := hg
  cases he : aApE st nmZ b.length with
  | some n => exact ⟨_, _, app_same he, ⟨j, hj, hg⟩, by omega⟩
  | none =>
    obtain ⟨e, st', h1, h2, h3⟩ := app_some he
    refine ⟨e, st', h1, ⟨j, hj, ?_⟩, by omega⟩
    rw [h2, aget_put_ne _ _ (by show ([122] : List UInt8) ≠ [108, 111, 103]; decide)]
    exact hg
end Go.Proofs.Ytbnflhdioohfeaa
