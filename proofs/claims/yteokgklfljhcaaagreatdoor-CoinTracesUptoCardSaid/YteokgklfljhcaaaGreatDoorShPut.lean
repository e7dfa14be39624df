/- A Hash as plain data: bytes put one by one; what a copy into its block does. -/
import Derived.Test.YteokgklfljhcaaaGreatDoorShHash
import Derived.Laws.CopyRow
namespace Go.Proofs.YteokgklfljhcaaaGreatDoor
open Go.RowKit
structure HS where
  s : Nat → Int
  b : Nat → Int
  n : Int
def put1 (h : HS) (x : Int) : HS :=
  if (h.n + 1) % 18446744073709551616 % 64 = 0 then ⟨mixF h.s (upd h.b (h.n % 64).toNat x), upd h.b (h.n % 64).toNat x, (h.n + 1) % 18446744073709551616⟩
  else ⟨h.s, upd h.b (h.n % 64).toNat x, (h.n + 1) % 18446744073709551616⟩
/-- all bytes of a list, one behind the other -/
def putF (h : HS) (xs : List Int) : HS := xs.foldl put1 h
theorem putF_append (h : HS) (xs ys : List Int) : putF h (xs ++ ys) = putF (putF h xs) ys := by unfold putF; rw [List.foldl_append]
/-- a list laid over a block from place u on -/
def lay (b : Nat → Int) : Nat → List Int → Nat → Int
  | _, [] => b
  | u, y :: ys => lay (upd b u y) (u + 1) ys
theorem lay_get : ∀ (ys : List Int) (b : Nat → Int) (u i : Nat), lay b u ys i = if u ≤ i ∧ i < u + ys.length then ys.getD (i - u) 0 else b i
  | [], b, u, i => by rw [if_neg (by simp)]; rfl
  | y :: ys, b, u, i => by
    rw [lay, lay_get ys]
    unfold upd
    by_cases h : i = u
    · subst h
      rw [if_neg (by omega), if_pos rfl, if_pos (by simp)]
      simp
    · by_cases h2 : u + 1 ≤ i ∧ i < u + 1 + ys.length
      · rw [if_pos h2, if_pos (by simp; omega), show i - u = (i - (u + 1)) + 1 by omega]
        simp
      · rw [if_neg h2, if_neg h, if_neg (by simp; omega)]
theorem put_run (s : Nat → Int) : ∀ (ys : List Int) (b : Nat → Int) (n : Int) (u : Nat), 0 ≤ n → n < 18446744073709551616 → n % 64 = u → u + ys.length < 64 →
    putF ⟨s, b, n⟩ ys = ⟨s, lay b u ys, (n + ys.length) % 18446744073709551616⟩
  | [], b, n, u, h0, h1, _, _ => by
    have : n % 18446744073709551616 = n := by omega
    simp [putF, lay, this]
  | y :: ys, b, n, u, h0, h1, hu, hl => by
    simp only [List.length_cons] at hl
    have e : put1 ⟨s, b, n⟩ y = ⟨s, upd b u y, (n + 1) % 18446744073709551616⟩ := by
      unfold put1
      rw [if_neg (by show ¬ (n + 1) % 18446744073709551616 % 64 = 0; omega)]
      show (⟨s, upd b (n % 64).toNat y, _⟩ : HS) = _
      rw [show (n % 64).toNat = u by omega]
    have ih := put_run s ys (upd b u y) ((n + 1) % 18446744073709551616) (u + 1) (by omega) (by omega) (by omega) (by omega)
    unfold putF at ih ⊢
    rw [List.foldl_cons, e, ih, lay]
    congr 1
    simp only [List.length_cons]
    omega
theorem put_full (s : Nat → Int) : ∀ (ys : List Int) (b : Nat → Int) (n : Int) (u : Nat), 0 ≤ n → n < 18446744073709551616 → n % 64 = u → u + ys.length = 64 → u < 64 →
    putF ⟨s, b, n⟩ ys = ⟨mixF s (lay b u ys), lay b u ys, (n + ys.length) % 18446744073709551616⟩
  | [], b, n, u, h0, h1, hu, hl, hlt => by simp at hl; omega
  | y :: ys, b, n, u, h0, h1, hu, hl, hlt => by
    simp only [List.length_cons] at hl
    by_cases hn : ys = []
    · subst hn
      simp at hl
      have e : put1 ⟨s, b, n⟩ y = ⟨mixF s (upd b u y), upd b u y, (n + 1) % 18446744073709551616⟩ := by
        unfold put1
        rw [if_pos (by show (n + 1) % 18446744073709551616 % 64 = 0; omega)]
        show (⟨mixF s (upd b (n % 64).toNat y), upd b (n % 64).toNat y, _⟩ : HS) = _
        rw [show (n % 64).toNat = u by omega]
      unfold putF
      rw [List.foldl_cons, e]
      rfl
    · have hpos : 0 < ys.length := List.length_pos_iff.2 hn
      have e : put1 ⟨s, b, n⟩ y = ⟨s, upd b u y, (n + 1) % 18446744073709551616⟩ := by
        unfold put1
        rw [if_neg (by show ¬ (n + 1) % 18446744073709551616 % 64 = 0; omega)]
        show (⟨s, upd b (n % 64).toNat y, _⟩ : HS) = _
        rw [show (n % 64).toNat = u by omega]
      have ih := put_full s ys (upd b u y) ((n + 1) % 18446744073709551616) (u + 1) (by omega) (by omega) (by omega) (by omega) (by omega)
      unfold putF at ih ⊢
      rw [List.foldl_cons, e, ih, lay]
      congr 1
      simp only [List.length_cons]
      omega
theorem putF_bounds (h : HS) (h0 : 0 ≤ h.n) (h1 : h.n < 18446744073709551616) : ∀ xs : List Int, 0 ≤ (putF h xs).n ∧ (putF h xs).n < 18446744073709551616 := by
  intro xs
  induction xs generalizing h with
  | nil => exact ⟨h0, h1⟩
  | cons x xs ih =>
    unfold putF at *
    rw [List.foldl_cons]
    have e : (put1 h x).n = (h.n + 1) % 18446744073709551616 := by unfold put1; split <;> rfl
    exact ih _ (by rw [e]; omega) (by rw [e]; omega)
/-- a copy into the block of a Hash -/
theorem hashCells_copy (s b : Nat → Int) (n : Int) (u : Nat) (ys : List Int) (h : u + ys.length ≤ 64) :
    ((hashCells s b n).toList.take (8 + u) ++ (byteVals ys ++ (hashCells s b n).toList.drop (8 + u + (byteVals ys).length))).toArray = hashCells s (lay b u ys) n := by
  apply Array.ext_getElem?
  intro i
  have hsz := hashCells_size s b n
  rw [byteVals_length, List.getElem?_toArray, List.getElem?_append, List.getElem?_take, List.getElem?_append, List.getElem?_drop]
  simp only [List.length_take, Array.length_toList, hsz, byteVals_length, Array.getElem?_toList]
  by_cases h1 : i < 8
  · rw [if_pos (by omega), if_pos (by omega), hashCells_state _ _ _ _ h1, hashCells_state _ _ _ _ h1]
  · by_cases h2 : i < 72
    · obtain ⟨j, rfl⟩ : ∃ j, i = 8 + j := ⟨i - 8, by omega⟩
      have hj : j < 64 := by omega
      rw [hashCells_block s (lay b u ys) n j hj, lay_get]
      by_cases h3 : j < u
      · rw [if_pos (by omega), if_pos (by omega), hashCells_block _ _ _ _ hj, if_neg (by omega)]
      · rw [if_neg (by omega)]
        by_cases h4 : j < u + ys.length
        · rw [if_pos (by omega), if_pos (by omega), show 8 + j - min (8 + u) 73 = j - u by omega]
          simp [byteVals, List.getD, (by omega : j - u < ys.length)]
        · rw [if_neg (by omega), if_neg (by omega), show 8 + u + ys.length + (8 + j - min (8 + u) 73 - ys.length) = 8 + j by omega, hashCells_block _ _ _ _ hj]
    · have e : ∀ f : Nat → Int, (hashCells s f n)[i]? = if i = 72 then some (.int .u64 n) else none := fun f => by
        by_cases h3 : i = 72
        · subst h3; rw [if_pos rfl, hashCells_count]
        · rw [if_neg h3, Array.getElem?_eq_none]; rw [hashCells_size]; omega
      rw [if_neg (by omega), if_neg (by omega), show 8 + u + ys.length + (i - min (8 + u) 73 - ys.length) = i by omega, e, e]
theorem HashAt.copy {w : World} {g : Nat} {s b : Nat → Int} {n : Int} (h : HashAt w g s b n) (u : Nat) (ys : List Int) (hl : u + ys.length ≤ 64) :
    HashAt (w.setRow g ((hashCells s b n).toList.take (8 + u) ++ (byteVals ys ++ (hashCells s b n).toList.drop (8 + u + (byteVals ys).length))).toArray) g s (lay b u ys) n := by
  rw [hashCells_copy _ _ _ _ _ hl]
  exact setRow_heap w g _ _ _ _ h
end Go.Proofs.YteokgklfljhcaaaGreatDoor
