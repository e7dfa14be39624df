/- Merkle trees of hashes, as plain data: the root, the path, the turns; each path leads to the root. -/
import Derived.Test.YtbppainejdphpaaDoorShSumM
import Derived.Lib.ItoaNum
namespace Go.Proofs.YtbppainejdphpaaDoor
open Go.RowKit
def bytesOf (h : Nat → Int) : List Int := (List.range 32).map h
/-- the hash of a node -/
def nodeF (a b : Nat → Int) : Nat → Int := sumF (1 :: (bytesOf a ++ bytesOf b))
/-- how many leaves stand in the first part -/
def splitF (n : Nat) : Nat := 2 ^ (Lib.bitLen (n - 1) - 1)
theorem splitF_spec (n : Nat) (h : 2 ≤ n) (hn : n < 18446744073709551616) : 1 ≤ splitF n ∧ splitF n < n ∧ n ≤ 2 * splitF n ∧ 1 ≤ Lib.bitLen (n - 1) ∧ Lib.bitLen (n - 1) ≤ 64 := by
  have hb := Lib.bitLenAux_bounds 64 (n - 1) (by omega) (by omega)
  have h64 : Lib.bitLenAux 64 (n - 1) ≤ 64 := Lib.bitLenAux_le 64 (n - 1) 64 (by omega)
  unfold splitF Lib.bitLen
  obtain ⟨e, he⟩ : ∃ e, Lib.bitLenAux 64 (n - 1) = e + 1 := ⟨Lib.bitLenAux 64 (n - 1) - 1, by omega⟩
  rw [he] at hb h64 ⊢
  simp only [Nat.add_sub_cancel] at hb ⊢
  have hp : 1 ≤ 2 ^ e := Nat.one_le_two_pow
  have hs : 2 ^ (e + 1) = 2 * 2 ^ e := by rw [Nat.pow_succ, Nat.mul_comm]
  omega
def rootF (l : List (Nat → Int)) : Nat → Int :=
  if l.length = 1 then l.getD 0 (fun _ => 0)
  else if _h : 1 ≤ splitF l.length ∧ splitF l.length < l.length then nodeF (rootF (l.take (splitF l.length))) (rootF (l.drop (splitF l.length)))
  else sumF []
termination_by l.length
decreasing_by
  · rw [List.length_take]; omega
  · rw [List.length_drop]; omega
def pathF (l : List (Nat → Int)) (i : Nat) : List (Nat → Int) :=
  if _h : 1 ≤ splitF l.length ∧ splitF l.length < l.length then
    if i < splitF l.length then pathF (l.take (splitF l.length)) i ++ [rootF (l.drop (splitF l.length))] else pathF (l.drop (splitF l.length)) (i - splitF l.length) ++ [rootF (l.take (splitF l.length))]
  else []
termination_by l.length
decreasing_by
  · rw [List.length_take]; omega
  · rw [List.length_drop]; omega
def turnsF (i n : Nat) : List Bool :=
  if _h : 1 ≤ splitF n ∧ splitF n < n then
    if i < splitF n then false :: turnsF i (splitF n) else true :: turnsF (i - splitF n) (n - splitF n)
  else []
termination_by n
decreasing_by
  · omega
  · omega
theorem splitF_one : splitF 1 = 1 := by decide
theorem splitF_zero : splitF 0 = 1 := by decide
theorem rootF_nil : rootF [] = sumF [] := by
  rw [rootF, if_neg (by simp), dif_neg (by simp)]
theorem rootF_one (l : List (Nat → Int)) (h : l.length = 1) : rootF l = l.getD 0 (fun _ => 0) := by rw [rootF, if_pos h]
theorem rootF_step (l : List (Nat → Int)) (h : 2 ≤ l.length) (hs : 1 ≤ splitF l.length ∧ splitF l.length < l.length) :
    rootF l = nodeF (rootF (l.take (splitF l.length))) (rootF (l.drop (splitF l.length))) := by rw [rootF, if_neg (by omega), dif_pos hs]
theorem pathF_one (l : List (Nat → Int)) (h : l.length = 1) (i : Nat) : pathF l i = [] := by
  rw [pathF, dif_neg]
  rw [h, splitF_one]; omega
theorem pathF_lo (l : List (Nat → Int)) (hs : 1 ≤ splitF l.length ∧ splitF l.length < l.length) (i : Nat) (h : i < splitF l.length) : pathF l i = pathF (l.take (splitF l.length)) i ++ [rootF (l.drop (splitF l.length))] := by
  rw [pathF, dif_pos hs, if_pos h]
theorem pathF_hi (l : List (Nat → Int)) (hs : 1 ≤ splitF l.length ∧ splitF l.length < l.length) (i : Nat) (h : ¬ i < splitF l.length) : pathF l i = pathF (l.drop (splitF l.length)) (i - splitF l.length) ++ [rootF (l.take (splitF l.length))] := by
  rw [pathF, dif_pos hs, if_neg h]
theorem turnsF_one (i : Nat) : turnsF i 1 = [] := by rw [turnsF, dif_neg]; rw [splitF_one]; omega
theorem turnsF_lo (i n : Nat) (hs : 1 ≤ splitF n ∧ splitF n < n) (h : i < splitF n) : turnsF i n = false :: turnsF i (splitF n) := by rw [turnsF, dif_pos hs, if_pos h]
theorem turnsF_hi (i n : Nat) (hs : 1 ≤ splitF n ∧ splitF n < n) (h : ¬ i < splitF n) : turnsF i n = true :: turnsF (i - splitF n) (n - splitF n) := by rw [turnsF, dif_pos hs, if_neg h]
def foldStep (s : Nat → Int) (x : Bool × (Nat → Int)) : Nat → Int := if x.1 then nodeF x.2 s else nodeF s x.2
def foldT (s : Nat → Int) (l : List (Bool × (Nat → Int))) : Nat → Int := l.foldl foldStep s
theorem path_turns : ∀ (n : Nat) (l : List (Nat → Int)) (i : Nat), l.length = n → n < 18446744073709551616 → i < n → (pathF l i).length = (turnsF i n).length := by
  intro n
  induction n using Nat.strongRecOn with
  | _ n ih =>
    intro l i hl hn hi
    by_cases h1 : n = 1
    · subst h1; rw [pathF_one l hl, turnsF_one]; rfl
    · have hs := splitF_spec n (by omega) hn
      have hs2 : 1 ≤ splitF l.length ∧ splitF l.length < l.length := by rw [hl]; exact ⟨hs.1, hs.2.1⟩
      by_cases hlt : i < splitF n
      · rw [pathF_lo l hs2 i (by rw [hl]; exact hlt), turnsF_lo i n ⟨hs.1, hs.2.1⟩ hlt, List.length_append, List.length_cons, hl, ih (splitF n) hs.2.1 _ i (by rw [List.length_take]; omega) (by omega) hlt]
        rfl
      · rw [pathF_hi l hs2 i (by rw [hl]; exact hlt), turnsF_hi i n ⟨hs.1, hs.2.1⟩ hlt, List.length_append, List.length_cons, hl, ih (n - splitF n) (by omega) _ (i - splitF n) (by rw [List.length_drop]; omega) (by omega) (by omega)]
        rfl
theorem path_root : ∀ (n : Nat) (l : List (Nat → Int)) (i : Nat), l.length = n → n < 18446744073709551616 → i < n → foldT (l.getD i (fun _ => 0)) ((turnsF i n).reverse.zip (pathF l i)) = rootF l := by
  intro n
  induction n using Nat.strongRecOn with
  | _ n ih =>
    intro l i hl hn hi
    by_cases h1 : n = 1
    · subst h1
      obtain rfl : i = 0 := by omega
      rw [pathF_one l hl, turnsF_one, rootF_one l hl]; rfl
    · have hs := splitF_spec n (by omega) hn
      have hs2 : 1 ≤ splitF l.length ∧ splitF l.length < l.length := by rw [hl]; exact ⟨hs.1, hs.2.1⟩
      by_cases hlt : i < splitF n
      · have hlk : (l.take (splitF n)).length = splitF n := by rw [List.length_take]; omega
        have ih1 := ih (splitF n) hs.2.1 (l.take (splitF n)) i hlk (by omega) hlt
        have pt := path_turns (splitF n) (l.take (splitF n)) i hlk (by omega) hlt
        rw [pathF_lo l hs2 i (by rw [hl]; exact hlt), turnsF_lo i n ⟨hs.1, hs.2.1⟩ hlt, rootF_step l (by omega) hs2, hl, List.reverse_cons, List.zip_append (by rw [List.length_reverse, pt]), foldT, List.foldl_append]
        have e : l.getD i (fun _ => 0) = (l.take (splitF n)).getD i (fun _ => 0) := by
          simp only [List.getD, List.getElem?_take, if_pos hlt]
        unfold foldT at ih1
        rw [e, ih1]
        rfl
      · have hlk : (l.drop (splitF n)).length = n - splitF n := by rw [List.length_drop]; omega
        have ih1 := ih (n - splitF n) (by omega) (l.drop (splitF n)) (i - splitF n) hlk (by omega) (by omega)
        have pt := path_turns (n - splitF n) (l.drop (splitF n)) (i - splitF n) hlk (by omega) (by omega)
        rw [pathF_hi l hs2 i (by rw [hl]; exact hlt), turnsF_hi i n ⟨hs.1, hs.2.1⟩ hlt, rootF_step l (by omega) hs2, hl, List.reverse_cons, List.zip_append (by rw [List.length_reverse, pt]), foldT, List.foldl_append]
        have e : l.getD i (fun _ => 0) = (l.drop (splitF n)).getD (i - splitF n) (fun _ => 0) := by
          simp only [List.getD, List.getElem?_drop, show splitF n + (i - splitF n) = i by omega]
        unfold foldT at ih1
        rw [e, ih1]
        rfl
theorem path_depth : ∀ (m : Nat) (l : List (Nat → Int)) (i : Nat), l.length ≤ 2 ^ m → l.length < 18446744073709551616 → i < l.length → (pathF l i).length ≤ m := by
  intro m
  induction m with
  | zero =>
    intro l i hl _ hi
    rw [pathF_one l (by omega)]; simp
  | succ m ih =>
    intro l i hl hn hi
    by_cases h1 : l.length = 1
    · rw [pathF_one l h1]; simp
    · have hs := splitF_spec l.length (by omega) hn
      have hk : splitF l.length ≤ 2 ^ m := by
        have h2 : splitF l.length < 2 ^ (m + 1) := by omega
        unfold splitF at h2 ⊢
        have h3 := (Nat.pow_lt_pow_iff_right (a := 2) (by omega)).1 h2
        exact Nat.pow_le_pow_right (by omega) (by omega)
      by_cases hlt : i < splitF l.length
      · have hlk : (l.take (splitF l.length)).length = splitF l.length := by rw [List.length_take]; omega
        rw [pathF_lo l ⟨hs.1, hs.2.1⟩ i hlt, List.length_append]
        have := ih (l.take (splitF l.length)) i (by omega) (by omega) (by omega)
        simp only [List.length_cons, List.length_nil]; omega
      · have hlk : (l.drop (splitF l.length)).length = l.length - splitF l.length := by rw [List.length_drop]
        rw [pathF_hi l ⟨hs.1, hs.2.1⟩ i hlt, List.length_append]
        have := ih (l.drop (splitF l.length)) (i - splitF l.length) (by omega) (by omega) (by omega)
        simp only [List.length_cons, List.length_nil]; omega
end Go.Proofs.YtbppainejdphpaaDoor
