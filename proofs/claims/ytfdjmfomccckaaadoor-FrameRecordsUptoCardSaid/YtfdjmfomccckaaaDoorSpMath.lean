/- A record of which one byte is another one is told to be spoilt. Nothing here speaks of the program. -/
import Derived.Test.YtfdjmfomccckaaaDoorCrc
namespace Go.Proofs.YtfdjmfomccckaaaDoor
theorem getD_app (B r : List Int) (i : Nat) (h : i < B.length) : (B ++ r).getD i 0 = B.getD i 0 := by
  simp [List.getD, List.getElem?_append_left h]
theorem rdW_app (B r : List Int) (h : B.length = 4) : rdW (B ++ r) = rdW B := by
  unfold rdW
  rw [getD_app B r 0 (by omega), getD_app B r 1 (by omega), getD_app B r 2 (by omega), getD_app B r 3 (by omega)]
theorem rdW_word (n : Nat) (h : n < 4294967296) : rdW (wordL n) = n := by
  have := rdW_wordL n h []
  rwa [List.append_nil] at this
theorem drop_len {α : Type} (A r : List α) (n : Nat) (h : A.length = n) : (A ++ r).drop n = r := by
  rw [List.drop_append, List.drop_of_length_le (by omega), h, Nat.sub_self]; rfl
theorem take_len {α : Type} (A r : List α) (n : Nat) (h : A.length = n) : (A ++ r).take n = A := by
  rw [List.take_append_of_le_length (by omega), List.take_of_length_le (by omega)]
theorem oneF_head (A B r : List Int) (hA : A.length = 4) (hB : B.length = 4) (h : rdW B ≠ crcF A) : oneF (A ++ (B ++ r)) = (some 11, []) := by
  have hl : (A ++ (B ++ r)).length = 8 + r.length := by simp [hA, hB]; omega
  unfold oneF
  rw [if_neg (by omega), if_neg (by omega), drop_len A _ 4 hA, take_len A _ 4 hA, rdW_app B r hB, if_pos (.inl h)]
theorem oneF_body (A B C D : List Int) (hA : A.length = 4) (hB : B.length = 4) (hD : D.length = 4) (h : rdW B = crcF A) (hn : rdW A = C.length) (h0 : C.length ≠ 0) (h1 : C.length ≤ 1048576) (hd : rdW D ≠ crcF C) :
    oneF (A ++ (B ++ (C ++ D))) = (some 11, []) := by
  have hl : (A ++ (B ++ (C ++ D))).length = C.length + 12 := by simp [hA, hB, hD]; omega
  have e8 : (A ++ (B ++ (C ++ D))).drop 8 = C ++ D := by
    rw [show 8 = 4 + 4 from rfl, ← List.drop_drop, drop_len A _ 4 hA, drop_len B _ 4 hB]
  unfold oneF
  rw [if_neg (by omega), if_neg (by omega), drop_len A _ 4 hA, take_len A _ 4 hA, rdW_app B _ hB, rdW_app A _ hA, hn, if_neg (by omega), if_neg (by omega), List.drop_take, e8, Nat.add_sub_cancel, take_len C _ _ rfl, Nat.add_comm, ← List.drop_drop, e8, drop_len C _ _ rfl, if_pos hd]
theorem rdW_set (n i : Nat) (x y : Int) (hn : n < 4294967296) (hx : (wordL n)[i]? = some x) (hy : 0 ≤ y ∧ y < 256) (hne : x ≠ y) : rdW ((wordL n).set i y) ≠ n := by
  intro h
  have h2 := rdW_inj ((wordL_ok n).set i y hy) (wordL_ok n) (by rw [List.length_set]; rfl) rfl (h.trans (rdW_word n hn).symm)
  have hi := (List.getElem?_eq_some_iff.1 hx).1
  have h3 : ((wordL n).set i y)[i]? = some y := by rw [List.getElem?_set_self hi]
  rw [h2, hx] at h3
  exact hne (by simpa using h3)
theorem oneF_spoilt (p : List Int) (i : Nat) (x y : Int) (hp : bytesOk p) (h0 : p.length ≠ 0) (h1 : p.length ≤ 1048576) (hx : (recF p)[i]? = some x) (hy : 0 ≤ y ∧ y < 256) (hne : x ≠ y) : oneF ((recF p).set i y) = (some 11, []) := by
  have hc1 := crcF_lt (wordL_ok p.length)
  have hc2 := crcF_lt hp
  have e0 : recF p = wordL p.length ++ (wordL (crcF (wordL p.length)) ++ (p ++ wordL (crcF p))) := by simp [recF]
  rw [e0] at hx ⊢
  rw [List.set_append]
  rw [List.getElem?_append] at hx
  split
  · next h4 =>
    rw [if_pos h4] at hx
    refine oneF_head _ _ _ (by rw [List.length_set]; rfl) rfl ?_
    rw [rdW_word _ hc1]
    exact fun h => crcF_set (wordL_ok _) i x y hx hy hne h.symm
  · next h4 =>
    rw [if_neg h4, List.getElem?_append] at hx
    rw [List.set_append]
    split
    · next h8 =>
      rw [if_pos h8] at hx
      exact oneF_head _ _ _ rfl (by rw [List.length_set]; rfl) (rdW_set _ _ x y hc1 hx hy hne)
    · next h8 =>
      rw [if_neg h8, List.getElem?_append] at hx
      rw [List.set_append]
      split
      · next hb =>
        rw [if_pos hb] at hx
        refine oneF_body _ _ _ _ rfl rfl rfl (rdW_word _ hc1) (by rw [List.length_set]; exact rdW_word _ (by omega)) (by rw [List.length_set]; exact h0) (by rw [List.length_set]; exact h1) ?_
        rw [rdW_word _ hc2]
        exact fun h => crcF_set hp _ x y hx hy hne h.symm
      · next hb =>
        rw [if_neg hb] at hx
        exact oneF_body _ _ _ _ rfl rfl (by rw [List.length_set]; rfl) (rdW_word _ hc1) (rdW_word _ (by omega)) h0 h1 (rdW_set _ _ x y hc2 hx hy hne)
end Go.Proofs.YtfdjmfomccckaaaDoor
