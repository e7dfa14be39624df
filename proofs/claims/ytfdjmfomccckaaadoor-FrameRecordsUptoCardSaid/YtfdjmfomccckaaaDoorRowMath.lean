/- Records in a row, cut anywhere. Nothing here speaks of the program. -/
import Derived.Test.YtfdjmfomccckaaaDoorSpMath
import Derived.Test.YtfdjmfomccckaaaDoorScan
namespace Go.Proofs.YtfdjmfomccckaaaDoor
/-- what can be framed -/
def okP (p : List Int) : Bool := decide (p.length ≠ 0) && decide (p.length ≤ 1048576)
theorem okP_iff (p : List Int) : okP p = true ↔ p.length ≠ 0 ∧ p.length ≤ 1048576 := by simp [okP]
def good (l : List (List Int)) : List (List Int) := l.filter okP
def catR : List (List Int) → List Int
  | [] => []
  | p :: G => recF p ++ catR G
theorem catR_append : ∀ G H : List (List Int), catR (G ++ H) = catR G ++ catR H
  | [], _ => rfl
  | p :: G, H => by simp [catR, catR_append G H]
theorem catR_ok : ∀ G : List (List Int), (∀ p ∈ G, bytesOk p) → bytesOk (catR G)
  | [], _ => bytesOk_nil
  | p :: G, h => (recF_ok (h p (by simp))).append (catR_ok G fun q hq => h q (by simp [hq]))
theorem catR_le : ∀ (G : List (List Int)), (∀ p ∈ G, p.length ≤ 1048576) → (catR G).length ≤ G.length * 1048588
  | [], _ => by simp [catR]
  | p :: G, h => by
    have := catR_le G fun q hq => h q (by simp [hq])
    have h1 := h p (by simp)
    simp only [catR, List.length_append, recF_length, List.length_cons]
    omega
/-- where the records end -/
def endsF (G : List (List Int)) : List Int := (List.range G.length).map fun i => (((catR (G.take (i + 1))).length : Nat) : Int)
theorem endsF_length (G : List (List Int)) : (endsF G).length = G.length := by simp [endsF]
theorem endsF_get (G : List (List Int)) (i : Nat) (h : i < G.length) : (endsF G)[i]? = some (((catR (G.take (i + 1))).length : Nat) : Int) := by simp [endsF, h]
theorem endsF_snoc (G : List (List Int)) (p : List Int) : endsF (G ++ [p]) = endsF G ++ [(((catR (G ++ [p])).length : Nat) : Int)] := by
  unfold endsF
  rw [List.length_append, List.length_singleton, List.range_succ, List.map_append, List.map_singleton]
  congr 1
  · apply List.map_congr_left
    intro i hi
    have hi' : i < G.length := by simpa using hi
    rw [List.take_append_of_le_length (by omega)]
  · rw [List.take_of_length_le (by simp)]
/-- how many records end at or ahead of the cut -/
def cutJ : List (List Int) → Nat → Nat
  | [], _ => 0
  | p :: G, k => if p.length + 12 ≤ k then cutJ G (k - (p.length + 12)) + 1 else 0
theorem cutJ_le : ∀ (G : List (List Int)) (k : Nat), cutJ G k ≤ G.length
  | [], _ => Nat.le_refl _
  | p :: G, k => by
    unfold cutJ
    split
    · have := cutJ_le G (k - (p.length + 12)); simp; omega
    · omega
theorem cutJ_iff : ∀ (G : List (List Int)) (k i : Nat), i < G.length → ((catR (G.take (i + 1))).length ≤ k ↔ i < cutJ G k)
  | [], _, _, h => by simp at h
  | p :: G, k, i, h => by
    simp only [List.take_succ_cons, catR, List.length_append, recF_length]
    unfold cutJ
    cases i with
    | zero =>
      simp only [List.take_zero, catR, List.length_nil, Nat.add_zero]
      split
      · simp; omega
      · simp; omega
    | succ i =>
      have ih := cutJ_iff G (k - (p.length + 12)) i (by simpa using h)
      split
      · constructor
        · intro h1; have := ih.1 (by omega); omega
        · intro h1; have := ih.2 (by omega); omega
      · constructor
        · intro h1; omega
        · intro h1; omega
theorem oneF_cut (p r : List Int) (m : Nat) (h1 : p.length ≠ 0) (h2 : p.length ≤ 1048576) (h0 : m ≠ 0) (hm : m < p.length + 12) : oneF ((recF p ++ r).take m) = (some 12, []) := by
  have hl : ((recF p ++ r).take m).length = m := by rw [List.length_take, List.length_append, recF_length]; omega
  have hc1 := crcF_lt (wordL_ok p.length)
  have e0 : recF p ++ r = wordL p.length ++ (wordL (crcF (wordL p.length)) ++ (p ++ (wordL (crcF p) ++ r))) := by simp [recF]
  unfold oneF
  rw [if_neg (by omega), hl]
  split
  · rfl
  · next h8 =>
    have t4 : ((recF p ++ r).take m).take 4 = wordL p.length := by rw [List.take_take, Nat.min_eq_left (by omega), e0, take_len _ _ 4 rfl]
    have d4 : rdW (((recF p ++ r).take m).drop 4) = crcF (wordL p.length) := by
      rw [List.drop_take, e0, drop_len _ _ 4 rfl, List.take_append, rdW_app _ _ (by rw [List.length_take, wordL_length]; omega), List.take_of_length_le (by rw [wordL_length]; omega), rdW_word _ hc1]
    have d0 : rdW ((recF p ++ r).take m) = p.length := by
      rw [e0, List.take_append, rdW_app _ _ (by rw [List.length_take, wordL_length]; omega), List.take_of_length_le (by rw [wordL_length]; omega), rdW_word _ (by omega)]
    rw [t4, d4, d0, if_neg (by omega), if_pos hm]
theorem take_app_ge {α : Type} (A r : List α) (m : Nat) (h : A.length ≤ m) : (A ++ r).take m = A ++ r.take (m - A.length) := by rw [List.take_append, List.take_of_length_le h]
theorem oneF_nil : oneF [] = (some 8, []) := rfl
theorem scanG_nil (f : Nat) : scanG f [] = ([], 0, none) := by
  cases f with
  | zero => rfl
  | succ f => simp only [scanG, oneF_nil]; rfl
theorem scanG_bad (f : Nat) (b : List Int) (k : Nat) (h : oneF b = (some k, [])) (h8 : k ≠ 8) : scanG (f + 1) b = ([], 0, some k) := by
  simp only [scanG, h]; rw [if_neg h8]
theorem scanG_ok (f : Nat) (b p : List Int) (h : oneF b = (none, p)) : scanG (f + 1) b = (p :: (scanG f (b.drop (p.length + 12))).1, p.length + 12 + (scanG f (b.drop (p.length + 12))).2.1, (scanG f (b.drop (p.length + 12))).2.2) := by
  simp only [scanG, h]
/-- records that are cut somewhere -/
theorem scan_cut (G : List (List Int)) : ∀ (k f : Nat), (∀ p ∈ G, bytesOk p ∧ p.length ≠ 0 ∧ p.length ≤ 1048576) → k ≤ (catR G).length → k ≤ f →
    scanG f ((catR G).take k) = (G.take (cutJ G k), (catR (G.take (cutJ G k))).length, if (catR (G.take (cutJ G k))).length = k then none else some 12) := by
  induction G with
  | nil =>
    intro k f _ hk _
    have hk0 : k = 0 := by simpa [catR] using hk
    subst hk0
    rw [show (catR []).take 0 = [] from rfl, scanG_nil]; rfl
  | cons p G ih =>
    intro k f hG hk hf
    obtain ⟨ho, h1, h2⟩ := hG p (by simp)
    rcases Nat.eq_zero_or_pos k with h0 | h0
    · subst h0
      have hj : cutJ (p :: G) 0 = 0 := by simp only [cutJ]; rw [if_neg (by omega)]
      rw [List.take_zero, scanG_nil, hj]; rfl
    · obtain ⟨f, rfl⟩ : ∃ g, f = g + 1 := ⟨f - 1, by omega⟩
      have hcat : catR (p :: G) = recF p ++ catR G := rfl
      rw [hcat]
      by_cases hc : p.length + 12 ≤ k
      · have ht : (recF p ++ catR G).take k = recF p ++ (catR G).take (k - (p.length + 12)) := by rw [take_app_ge _ _ _ (by rw [recF_length]; exact hc), recF_length]
        have hone := oneF_rec p ((catR G).take (k - (p.length + 12))) ho h1 h2
        have ih' := ih (k - (p.length + 12)) f (fun q hq => hG q (by simp [hq])) (by rw [hcat, List.length_append, recF_length] at hk; omega) (by omega)
        have hj : cutJ (p :: G) k = cutJ G (k - (p.length + 12)) + 1 := by simp only [cutJ]; rw [if_pos hc]
        rw [ht, hj, scanG_ok f _ p hone, drop_len _ _ _ (recF_length p), ih', List.take_succ_cons, show catR (p :: G.take (cutJ G (k - (p.length + 12)))) = recF p ++ catR (G.take (cutJ G (k - (p.length + 12)))) from rfl, List.length_append, recF_length]
        refine Prod.ext rfl (Prod.ext rfl ?_)
        show (if _ then none else some 12) = (if _ then none else some 12)
        by_cases he : (catR (G.take (cutJ G (k - (p.length + 12))))).length = k - (p.length + 12)
        · rw [if_pos he, if_pos (by omega)]
        · rw [if_neg he, if_neg (by omega)]
      · have hone := oneF_cut p (catR G) k h1 h2 (by omega) (by omega)
        have hj : cutJ (p :: G) k = 0 := by simp only [cutJ]; rw [if_neg hc]
        rw [hj, scanG_bad f _ 12 hone (by decide), List.take_zero, show (catR []).length = 0 from rfl, if_neg (show ¬ 0 = k by omega)]
theorem cutJ_all : ∀ G : List (List Int), cutJ G (catR G).length = G.length
  | [] => rfl
  | p :: G => by
    simp only [cutJ, catR, List.length_append, recF_length]
    rw [if_pos (by omega), show p.length + 12 + (catR G).length - (p.length + 12) = (catR G).length by omega, cutJ_all G]
    rfl
theorem scanF_cut (G : List (List Int)) (k : Nat) (hG : ∀ p ∈ G, bytesOk p ∧ p.length ≠ 0 ∧ p.length ≤ 1048576) (hk : k ≤ (catR G).length) :
    scanF ((catR G).take k) = (G.take (cutJ G k), (catR (G.take (cutJ G k))).length, if (catR (G.take (cutJ G k))).length = k then none else some 12) :=
  scan_cut G k _ hG hk (by rw [List.length_take]; omega)
theorem scanF_all (G : List (List Int)) (hG : ∀ p ∈ G, bytesOk p ∧ p.length ≠ 0 ∧ p.length ≤ 1048576) : scanF (catR G) = (G, (catR G).length, none) := by
  have h := scanF_cut G (catR G).length hG (Nat.le_refl _)
  rw [List.take_length, cutJ_all, List.take_length, if_pos rfl] at h
  exact h
end Go.Proofs.YtfdjmfomccckaaaDoor
