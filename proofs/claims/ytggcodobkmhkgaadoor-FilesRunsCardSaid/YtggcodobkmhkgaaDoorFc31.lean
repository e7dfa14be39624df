/- Part 31 of the proof. -/
import Derived.Test.YtggcodobkmhkgaaDoorFc30
namespace Go.Proofs.YtggcodobkmhkgaaDoor
set_option linter.unusedVariables false
set_option linter.unusedSimpArgs false
open Go.RowKit Go.Maps Go.Proofs
set_option maxRecDepth 100000
theorem Rel4.crash {st : St} {r : RSt} (h : Rel4 st r) : (st.armed = true ∧ st.left = 0) ↔ (r.armed = true ∧ r.left = 0) := by
  rw [← h.armed]
  constructor
  · rintro ⟨h1, h2⟩; have := h.left h1; exact ⟨h1, by omega⟩
  · rintro ⟨h1, h2⟩; have := h.left h1; exact ⟨h1, by omega⟩
theorem Rel4.stepped {st : St} {r : RSt} (h : Rel4 st r) {L : List AF} {M : List RF} (hL : L = M.map abs4) (hc : ¬ (st.armed = true ∧ st.left = 0)) : Rel4 (aStepped st L) ⟨M, r.steps + 1, r.armed, r.left - 1, r.down⟩ := by
  refine ⟨hL, ?_, h.armed, fun ha => ?_, h.down⟩
  · show ((st.steps + 1 : Nat) : Int) = _; have := h.steps; dsimp only; omega
  · have ha' : st.armed = true := ha
    have := h.left ha'
    show (((if st.armed then st.left - 1 else st.left : Nat)) : Int) = r.left - 1
    rw [if_pos ha']
    have h0 : st.left ≠ 0 := fun e => hc ⟨ha', e⟩
    omega
theorem Rel4.downed {st : St} {r : RSt} (h : Rel4 st r) {L : List AF} {M : List RF} (hL : L = M.map abs4) : Rel4 { st with L := L, down := true } { r with L := M, down := true } := ⟨hL, h.steps, h.armed, h.left, rfl⟩
/-- what a call makes of both -/
def Both (a : Option Nat × St) (b : RSt × Nat) : Prop := Rel4 a.2 b.1 ∧ numE a.1 = (b.2 : Int)
theorem nmOk_empty : nmOk ([] : List UInt8) = false := rfl
theorem rel_append {st : St} {r : RSt} (h : Rel4 st r) (ho : StOk st) (s : ByteArray) (ys : List Int) (hy : bytesOk ys) : Both (aAppend st s ys) (appN r s (strOfNums ys)) := by
  have hys : (strOfNums ys).size = ys.length := by show (strOfNums ys).data.size = _; rw [← Array.length_toList, strOfNums_data, List.length_map]
  have hL : r.L.length = st.L.length := by rw [h.L, List.length_map]
  have main : ∀ (x : RF), (x = (getN r s).1) → (afXs (aget s.data.toList st.L) = numsOf (x.sf ++ x.ls)) → afSafe (aget s.data.toList st.L) = x.sf.size → (getN r s).2 = 0 ∨ (getN r s).2 = 8 → checkE st.down [s] = none → ((aget s.data.toList st.L).isNone = true ↔ (getN r s).2 = 8) → Both (aAppend st s ys) (appN r s (strOfNums ys)) := by
    intro x hx hxs hsf h08 hck hnone
    unfold appN aAppend aApE
    rw [hck, ← hx]
    dsimp only
    by_cases hf : (getN r s).2 = 8 ∧ 64 ≤ r.L.length
    · rw [if_pos hf, if_pos (show (aget s.data.toList st.L).isNone = true ∧ 64 ≤ st.L.length from ⟨hnone.2 hf.1, by rw [← hL]; exact hf.2⟩)]
      exact ⟨h, rfl⟩
    · rw [if_neg hf, if_neg (show ¬ ((aget s.data.toList st.L).isNone = true ∧ 64 ≤ st.L.length) from fun hc => hf ⟨hnone.1 hc.1, by rw [hL]; exact hc.2⟩), if_neg (show ¬ ((getN r s).2 ≠ 0 ∧ (getN r s).2 ≠ 8) by omega), hys, hxs, nums_size, cat_size]
      by_cases hl : 16777216 < x.sf.size + x.ls.size + ys.length
      · rw [if_pos hl, if_pos hl]; exact ⟨h, rfl⟩
      · rw [if_neg hl, if_neg hl]
        dsimp only
        have hM : aput ⟨s.data.toList, numsOf (x.sf ++ x.ls) ++ ys, afSafe (aget s.data.toList st.L)⟩ st.L = (setN r.L ⟨s, x.sf, x.ls ++ strOfNums ys⟩).map abs4 := by
          rw [setN_spec _ (h.srt ho), ← h.L, hsf]
          congr 1
          show _ = (⟨s.data.toList, numsOf (x.sf ++ (x.ls ++ strOfNums ys)), x.sf.size⟩ : AF)
          rw [nums_cat, nums_cat, nums_cat, numsOf_str ys hy, List.append_assoc]
        rw [hM]
        unfold stepN
        by_cases hc : st.armed = true ∧ st.left = 0
        · rw [if_pos hc, if_pos (show r.armed = true ∧ r.left = 0 from h.crash.1 hc)]
          exact ⟨h.downed rfl, rfl⟩
        · rw [if_neg hc, if_neg (show ¬ (r.armed = true ∧ r.left = 0) from fun hh => hc (h.crash.2 hh))]
          exact ⟨h.stepped rfl hc, rfl⟩
  rcases rel_get h ho s with ⟨h1, h2, h3, _, _, h6, _⟩ | ⟨hx, h1, h2, h3, h6, _⟩ | ⟨hx, h1, h2, h3⟩
  · refine main _ rfl (by rw [h6]; rfl) (by rw [h6]; rfl) (.inl h1) ?_ (by rw [h6, h1]; simp)
    rw [checkE_ok (fun t ht => by rw [List.mem_singleton.1 ht]; exact h2), h3]; rfl
  · refine main _ rfl (by rw [h6, hx]; rfl) (by rw [h6, hx]; rfl) (.inr h1) ?_ (by rw [h6, h1]; simp)
    rw [checkE_ok (fun t ht => by rw [List.mem_singleton.1 ht]; exact h2), h3]; rfl
  · unfold appN aAppend aApE
    rw [h3]
    dsimp only
    have hne : (getN r s).2 ≠ 0 ∧ (getN r s).2 ≠ 8 := by rcases h1 with ⟨h1, _⟩ | ⟨h1, _⟩ <;> rw [h1] <;> decide
    rw [if_neg (fun hc => hne.2 hc.1), if_pos hne]
    exact ⟨h, rfl⟩
/-- a step of one file that is there -/
theorem rel_aStep {st : St} {r : RSt} (h : Rel4 st r) {L : List AF} {M : List RF} (hL : L = M.map abs4) :
    Both (aStep st L) (if (stepN r).2 = true then ((stepN r).1, 13) else (⟨M, (stepN r).1.steps, (stepN r).1.armed, (stepN r).1.left, (stepN r).1.down⟩, 0)) := by
  unfold aStep stepN
  by_cases hc : st.armed = true ∧ st.left = 0
  · rw [if_pos hc, if_pos (show r.armed = true ∧ r.left = 0 from h.crash.1 hc), if_pos rfl]
    exact ⟨⟨h.L, h.steps, h.armed, h.left, rfl⟩, rfl⟩
  · rw [if_neg hc, if_neg (show ¬ (r.armed = true ∧ r.left = 0) from fun hh => hc (h.crash.2 hh)), if_neg (by simp)]
    exact ⟨h.stepped hL hc, rfl⟩
theorem stepN_L' (r : RSt) : (stepN r).1.L = r.L := by unfold stepN; split <;> rfl
theorem rel_sync {st : St} {r : RSt} (h : Rel4 st r) (ho : StOk st) (s now : ByteArray) (n : Int) : Both (aSync st s) (chgN r 0 s now n) := by
  unfold chgN chgB aSync
  rw [if_neg (by simp)]
  rcases rel_get h ho s with ⟨h1, _, _, h4, h5, h6, h7⟩ | ⟨hx, h1, _, _, h6, h7⟩ | ⟨hx, h1, h2, _⟩
  · rw [h7, h1, if_neg (by simp), if_neg (by simp)]
    dsimp only [afXs]
    refine rel_aStep h ?_
    rw [stepN_L']
    show _ = (setN r.L _).map abs4
    rw [setN_spec _ (h.srt ho), ← h.L]
    congr 1
    show _ = (⟨s.data.toList, numsOf (_ ++ ({ data := #[] } : ByteArray)), _⟩ : AF)
    rw [cat_nil]
    show (⟨s.data.toList, numsOf _, (numsOf _).length⟩ : AF) = _
    rw [nums_size]
  · rw [h7, h1, if_pos (by decide)]; exact ⟨h, rfl⟩
  · have hne : (getN r s).2 ≠ 0 := by rcases h1 with ⟨h1, _⟩ | ⟨h1, _⟩ <;> rw [h1] <;> decide
    rw [h2, if_pos hne]; exact ⟨h, rfl⟩
theorem rel_remove {st : St} {r : RSt} (h : Rel4 st r) (ho : StOk st) (s now : ByteArray) (n : Int) : Both (aRemove st s) (chgN r 2 s now n) := by
  unfold chgN chgB aRemove
  rw [if_neg (by simp)]
  rcases rel_get h ho s with ⟨h1, _, _, h4, h5, h6, h7⟩ | ⟨hx, h1, _, _, h6, h7⟩ | ⟨hx, h1, h2, _⟩
  · rw [h7, h1, if_neg (by simp), if_neg (by simp)]
    dsimp only
    refine rel_aStep h ?_
    rw [stepN_L']
    show _ = (dropN r.L _).map abs4
    rw [dropN_spec _ (h.srt ho), ← h.L]
  · rw [h7, h1, if_pos (by decide)]; exact ⟨h, rfl⟩
  · have hne : (getN r s).2 ≠ 0 := by rcases h1 with ⟨h1, _⟩ | ⟨h1, _⟩ <;> rw [h1] <;> decide
    rw [h2, if_pos hne]; exact ⟨h, rfl⟩
theorem rel_cut {st : St} {r : RSt} (h : Rel4 st r) (ho : StOk st) (s now : ByteArray) (n : Int) : Both (aCut st s n) (chgN r 3 s now n) := by
  unfold chgN chgB aCut
  rw [if_neg (by simp)]
  rcases rel_get h ho s with ⟨h1, _, _, h4, h5, h6, h7⟩ | ⟨hx, h1, _, _, h6, h7⟩ | ⟨hx, h1, h2, _⟩
  · rw [h7, h1, if_neg (by simp)]
    generalize (getN r s).1 = x at *
    show Both (if n < 0 ∨ ((abs4 x).xs.length : Int) < n then _ else aStep st (aput ⟨s.data.toList, (abs4 x).xs.take n.toNat, n.toNat⟩ st.L)) _
    have hl : ((abs4 x).xs.length : Int) = (x.sf.size : Int) + x.ls.size := by show ((numsOf (x.sf ++ x.ls)).length : Int) = _; rw [nums_size, cat_size]; omega
    rw [hl]
    by_cases hn : n < 0 ∨ ((x.sf.size : Int) + x.ls.size) < n
    · rw [if_pos hn, if_pos ⟨rfl, hn⟩]; exact ⟨h, rfl⟩
    · rw [if_neg hn, if_neg (fun hc => hn hc.2)]
      refine rel_aStep h ?_
      rw [stepN_L']
      show _ = (setN r.L _).map abs4
      rw [setN_spec _ (h.srt ho), ← h.L]
      congr 1
      show _ = (⟨s.data.toList, numsOf (_ ++ ({ data := #[] } : ByteArray)), _⟩ : AF)
      rw [cat_nil, nums_first, first_size _ _ (by rw [cat_size]; omega)]
      rfl
  · rw [h7, h1, if_pos (by decide)]; exact ⟨h, rfl⟩
  · have hne : (getN r s).2 ≠ 0 := by rcases h1 with ⟨h1, _⟩ | ⟨h1, _⟩ <;> rw [h1] <;> decide
    rw [h2, if_pos hne]; exact ⟨h, rfl⟩
theorem srt_drop {L : List RF} (h : Srt4 L) (n : List UInt8) : Srt4 (dropN L n) := by
  have h1 := dropN_spec n h
  refine sorted_of_map ?_
  rw [h1]
  unfold adel
  exact (List.pairwise_map.2 h : (L.map abs4).Pairwise (fun a b => bytesBefore a.nm b.nm = true)).filter _
theorem rel_rename {st : St} {r : RSt} (h : Rel4 st r) (ho : StOk st) (s now : ByteArray) (n : Int) : Both (aRename st s now) (chgN r 1 s now n) := by
  unfold chgN chgB aRename
  by_cases hn : nmOk now.data.toList = false
  · rw [if_pos ⟨rfl, hn⟩, checkE_bad (.tail _ (.head _)) hn]
    exact ⟨h, rfl⟩
  · have hn' : nmOk now.data.toList = true := by simpa using hn
    rw [if_neg (fun hc => hn hc.2)]
    rcases rel_get h ho s with ⟨h1, h2, h3, h4, h5, h6, h7⟩ | ⟨hx, h1, h2, h3, h6, h7⟩ | ⟨hx, h1, h2, h3⟩
    · rw [checkE_ok (fun t ht => by rcases List.mem_cons.1 ht with rfl | ht; · exact h2
                                    · rw [List.mem_singleton.1 ht]; exact hn'), h3, h7, h1, if_neg (by simp), if_neg (by simp)]
      dsimp only [afXs, afSafe]
      refine rel_aStep h ?_
      rw [stepN_L']
      show _ = (setN (dropN r.L _) _).map abs4
      rw [setN_spec _ (srt_drop (h.srt ho) _), dropN_spec _ (h.srt ho), ← h.L]
      rfl
    · rw [checkE_ok (fun t ht => by rcases List.mem_cons.1 ht with rfl | ht; · exact h2
                                    · rw [List.mem_singleton.1 ht]; exact hn'), h3, h7, h1, if_neg (by decide), if_pos (by decide)]
      exact ⟨h, rfl⟩
    · have hne : (getN r s).2 ≠ 0 := by rcases h1 with ⟨h1, _⟩ | ⟨h1, _⟩ <;> rw [h1] <;> decide
      rw [if_pos hne]
      rcases h1 with ⟨h1, hb⟩ | ⟨h1, hb, hd⟩
      · rw [checkE_bad (.head _) hb, h1]; exact ⟨h, rfl⟩
      · rw [checkE_ok (fun t ht => by rcases List.mem_cons.1 ht with rfl | ht; · exact hb
                                      · rw [List.mem_singleton.1 ht]; exact hn'), hd, h1]; exact ⟨h, rfl⟩
theorem rel_start {st : St} {r : RSt} (h : Rel4 st r) (ks : List Int) : Rel4 (aStart st ks) ⟨startN r.L ks, r.steps, false, 0, false⟩ := by
  refine ⟨?_, h.steps, rfl, fun hc => ?_, rfl⟩
  · show aStartL st.L ks = _; rw [start_spec, h.L]
  · exact absurd hc (by show ¬ (false = true); decide)
/-- the law's own answer of Arm -/
def armN (r : RSt) (n : Int) : RSt × Nat := if n < 0 then (r, 1) else if r.down = true then (r, 13) else ({ r with armed := true, left := n }, 0)
theorem rel_arm {st : St} {r : RSt} (h : Rel4 st r) (n : Int) : Both (aArm st n) (armN r n) := by
  unfold aArm armN
  by_cases h0 : n < 0
  · rw [if_pos h0, if_pos h0]; exact ⟨h, rfl⟩
  · rw [if_neg h0, if_neg h0, h.down]
    by_cases hd : r.down = true
    · rw [if_pos hd, if_pos hd]; exact ⟨h, rfl⟩
    · rw [if_neg hd, if_neg hd]
      refine ⟨⟨h.L, h.steps, rfl, fun _ => ?_, rfl⟩, rfl⟩
      show ((n.toNat : Nat) : Int) = n; omega
/-- how far the counters may have come behind k calls -/
structure NumK (r : RSt) (k : Nat) : Prop where
  s0 : 0 ≤ r.steps
  s1 : r.steps ≤ k
  l0 : -(k : Int) ≤ r.left
  l1 : r.left ≤ 9223372036854775807
theorem NumK.ok {r : RSt} {k : Nat} (h : NumK r k) (hk : k ≤ 1000) : NumOk r := ⟨h.s0, by have := h.s1; omega, by have := h.l0; omega, h.l1⟩
theorem NumK.mono {r : RSt} {k m : Nat} (h : NumK r k) (hk : k ≤ m) : NumK r m := ⟨h.s0, by have := h.s1; omega, by have := h.l0; omega, h.l1⟩
theorem NumK.same {r r' : RSt} {k : Nat} (h : NumK r k) (h1 : r'.steps = r.steps) (h2 : r'.left = r.left) : NumK r' (k + 1) := ⟨by rw [h1]; exact h.s0, by rw [h1]; have := h.s1; omega, by rw [h2]; have := h.l0; omega, by rw [h2]; exact h.l1⟩
theorem NumK.less {r r' : RSt} {k : Nat} (h : NumK r k) (h1 : r'.steps = r.steps + 1) (h2 : r'.left = r.left - 1) : NumK r' (k + 1) := ⟨by rw [h1]; have := h.s0; omega, by rw [h1]; have := h.s1; omega, by rw [h2]; have := h.l0; omega, by rw [h2]; have := h.l1; omega⟩
theorem stepN_num (r : RSt) {k : Nat} (h : NumK r k) {r' : RSt} (h1 : r'.steps = (stepN r).1.steps) (h2 : r'.left = (stepN r).1.left) : NumK r' (k + 1) := by
  unfold stepN at h1 h2
  split at h1
  · rename_i hc; rw [if_pos hc] at h2; exact h.same h1 h2
  · rename_i hc; rw [if_neg hc] at h2; exact h.less h1 h2
theorem num_append {r : RSt} {k : Nat} (h : NumK r k) (s b : ByteArray) : NumK (appN r s b).1 (k + 1) := by
  unfold appN
  split
  · exact h.mono (by omega)
  · split
    · exact h.mono (by omega)
    · split
      · exact h.mono (by omega)
      · exact stepN_num { r with L := setN r.L ⟨s, (getN r s).1.sf, (getN r s).1.ls ++ b⟩ } ⟨h.s0, h.s1, h.l0, h.l1⟩ rfl rfl
theorem num_change {r : RSt} {k : Nat} (h : NumK r k) (kind : Nat) (s now : ByteArray) (n : Int) : NumK (chgN r kind s now n).1 (k + 1) := by
  unfold chgN chgB
  split
  · exact h.mono (by omega)
  · split
    · exact h.mono (by omega)
    · split
      · exact h.mono (by omega)
      · split
        · exact stepN_num r h rfl rfl
        · exact stepN_num r h rfl rfl
theorem num_arm {r : RSt} {k : Nat} (h : NumK r k) (n : Int) (hn : n ≤ 9223372036854775807) : NumK (armN r n).1 (k + 1) := by
  unfold armN
  split
  · exact h.mono (by omega)
  · split
    · exact h.mono (by omega)
    · exact ⟨h.s0, by have := h.s1; dsimp only; omega, by dsimp only; omega, hn⟩
theorem num_start {r : RSt} {k : Nat} (h : NumK r k) (L : List RF) : NumK ⟨L, r.steps, false, 0, false⟩ (k + 1) := ⟨h.s0, by have := h.s1; dsimp only; omega, by dsimp only; omega, by dsimp only; omega⟩
/-- one thing done to both -/
theorem rel_size {st : St} {r : RSt} (h : Rel4 st r) (ho : StOk st) (s : ByteArray) : (getN r s).1.sf.size ≤ 16777216 ∧ (getN r s).1.ls.size ≤ 16777216 := by
  rcases rel_get h ho s with ⟨_, _, _, h4, _⟩ | ⟨hx, _⟩ | ⟨hx, _⟩
  · have := (h.size ho _ h4).1; omega
  · rw [hx]; exact ⟨by decide, by decide⟩
  · rw [hx]; exact ⟨by decide, by decide⟩
end Go.Proofs.YtggcodobkmhkgaaDoor
