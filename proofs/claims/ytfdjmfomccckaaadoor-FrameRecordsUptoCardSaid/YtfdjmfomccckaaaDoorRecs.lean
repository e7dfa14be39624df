/- FrameRecords: what the walk needs. -/
import Derived.Test.YtfdjmfomccckaaaDoorRef3S
import Derived.Test.YtfdjmfomccckaaaDoorRowSt
namespace Go.Proofs.YtfdjmfomccckaaaDoor
open Go.RowKit
set_option maxRecDepth 100000
def frameF (p : List Int) : Option Nat × List Int := if p.length = 0 then (some 1, []) else if 1048576 < p.length then (some 2, []) else (none, recF p)
def oneN (r : Option Nat × List Int) : Nat := match r.1 with
  | none => r.2.length + 12
  | some _ => 0
theorem oneF_snd {b : List Int} {k : Nat} {q : List Int} (h : oneF b = (some k, q)) : q = [] := by
  rcases oneF_cases b with ⟨x, h1, _⟩ | ⟨p, h1, _⟩
  · rw [h1] at h
    simp only [Prod.mk.injEq] at h
    exact h.2.symm
  · rw [h1] at h
    simp at h
theorem frame_e (y : Value) (p : List Int) (w0 w : World) (hT : NibAt w) (hy : BytesIn w y p) (ho : bytesOk p) (hb : Below w0.heap.size w0 w) :
    Calls Tryd.prog 8 #[y] w fun e w' => ∃ v', e = .returned (.tuple #[v', errV (frameF p).1]) ∧ BytesIn w' v' (frameF p).2 ∧ Below w0.heap.size w0 w' ∧ Below w.heap.size w w' := by
  unfold frameF
  by_cases h0 : p.length = 0
  · rw [if_pos h0]
    exact (frame_nil y p w hy h0).mono fun e w' ⟨he, hw⟩ => by subst hw; exact ⟨_, he, nil_in w, hb, Below.refl _ _⟩
  · rw [if_neg h0]
    by_cases h1 : 1048576 < p.length
    · rw [if_pos h1]
      exact (frame_long y p w hy h1).mono fun e w' ⟨he, hw⟩ => by subst hw; exact ⟨_, he, nil_in w, hb, Below.refl _ _⟩
    · rw [if_neg h1]
      exact (frame_ok y p w hT hy ho h0 (by omega)).mono fun e w' ⟨v', he, h2, h3⟩ => ⟨v', he, owns_in h2 (by rw [recF_length]; unfold maxLen; omega), hb.trans (h3.mono hb.size), h3⟩
theorem rframe_e (y : Value) (p : List Int) (w0 w : World) (hy : BytesIn w y p) (ho : bytesOk p) (hb : Below w0.heap.size w0 w) :
    Calls Tryd.prog 9 #[y] w fun e w' => ∃ v', e = .returned (.tuple #[v', .int .i64 ((numN (frameF p).1 : Nat) : Int)]) ∧ BytesIn w' v' (frameF p).2 ∧ Below w0.heap.size w0 w' ∧ Below w.heap.size w w' := by
  unfold frameF
  by_cases h0 : p.length = 0
  · rw [if_pos h0]
    exact (rframe_nil y p w hy h0).mono fun e w' ⟨he, hw⟩ => by subst hw; exact ⟨_, he, nil_in w, hb, Below.refl _ _⟩
  · rw [if_neg h0]
    by_cases h1 : 1048576 < p.length
    · rw [if_pos h1]
      exact (rframe_long y p w hy h1).mono fun e w' ⟨he, hw⟩ => by subst hw; exact ⟨_, he, nil_in w, hb, Below.refl _ _⟩
    · rw [if_neg h1]
      exact (rframe_ok y p w hy ho h0 (by omega)).mono fun e w' ⟨v', he, h2, h3⟩ => ⟨v', he, owns_in h2 (by rw [recF_length]; unfold maxLen; omega), hb.trans (h3.mono hb.size), h3⟩
theorem one_e (y : Value) (b : List Int) (w0 w : World) (hT : NibAt w) (hy : BytesIn w y b) (ho : bytesOk b) (hl : b.length ≤ 140737488355328) (hb : Below w0.heap.size w0 w) :
    Calls Tryd.prog 10 #[y] w fun e w' => ∃ v', e = .returned (.tuple #[v', .int .i64 ((oneN (oneF b) : Nat) : Int), errV (oneF b).1]) ∧ w'.ownsRow w.heap.size 5 1 v' (oneF b).2.length (byteVals (oneF b).2) ∧ Below w0.heap.size w0 w' ∧ Below w.heap.size w w' := by
  have h := one_any y b w hT hy ho hl
  rcases hr : oneF b with ⟨r, q⟩
  rw [hr] at h
  cases r with
  | none =>
    refine h.mono fun e w' h => ?_
    obtain ⟨h1, v', he, h2⟩ := h
    exact ⟨v', he, h2, hb.trans (h1.mono hb.size), h1⟩
  | some k =>
    obtain rfl := oneF_snd hr
    refine h.mono fun e w' h => ?_
    obtain ⟨h1, he⟩ := h
    exact ⟨_, he, World.ownsRow_nil _ _ _ _, hb.trans (h1.mono hb.size), h1⟩
theorem rone_e (y : Value) (b : List Int) (w0 w : World) (hy : BytesIn w y b) (ho : bytesOk b) (hl : b.length ≤ 140737488355328) (hb : Below w0.heap.size w0 w) :
    Calls Tryd.prog 11 #[y] w fun e w' => ∃ v', e = .returned (.tuple #[v', .int .i64 ((oneN (oneF b) : Nat) : Int), .int .i64 ((numN (oneF b).1 : Nat) : Int)]) ∧ BytesIn w v' (oneF b).2 ∧ Below w0.heap.size w0 w' ∧ Below w.heap.size w w' := by
  have h := rone_any y b w hy ho hl
  rcases hr : oneF b with ⟨r, q⟩
  rw [hr] at h
  cases r with
  | none =>
    refine h.mono fun e w' h => ?_
    obtain ⟨h1, a, c, he, h2⟩ := h
    exact ⟨_, he, h2 w hy, hb.trans (h1.mono hb.size), h1⟩
  | some k =>
    obtain rfl := oneF_snd hr
    refine h.mono fun e w' h => ?_
    obtain ⟨h1, he⟩ := h
    exact ⟨_, he, nil_in w, hb.trans (h1.mono hb.size), h1⟩
theorem numE_N (e : Option Nat) : numE e = ((numN e : Nat) : Int) := by cases e <;> rfl
theorem rec_num (e : Option Nat) (w0 w : World) (hg : ErrType w) (hb : Below w0.heap.size w0 w) : Calls Tryd.prog 14 #[errV e] w fun r w' => r = .returned (.int .i64 ((numN e : Nat) : Int)) ∧ Below w0.heap.size w0 w' ∧ Below w.heap.size w w' :=
  (num_any e w hg).mono fun _ _ h => ⟨by rw [h.1, numE_N], hb.trans (h.2.mono hb.size), h.2⟩
theorem rec_torn (e : Option Nat) (w : World) : Calls Tryd.prog 16 #[errV e] w fun r w' => r = .returned (.bool ((((numN e : Nat) : Int) == 12))) ∧ w = w' := by
  cases e with
  | none => exact torn_nil w
  | some k => exact torn_num (k : Int) _ rfl w
theorem rec_twin (y : Value) (ys : List Int) (w0 w : World) (hy : BytesIn w y ys) (hl : ys.length ≤ 140737488351232) (hb : Below w0.heap.size w0 w) : Calls Tryd.prog 7 #[y] w fun e w' => ∃ v', e = .returned v' ∧ BytesIn w' v' ys ∧ Below w0.heap.size w0 w' ∧ Below w.heap.size w w' :=
  (twin_any y ys w hy (by omega)).mono fun _ _ ⟨v, h1, h2, h3⟩ => ⟨v, h1, owns_in h2 (by unfold maxLen; omega), hb.trans (h3.mono hb.size), h3⟩
/-- what lay there before the block that is written came -/
theorem BytesIn.keep {w w7 w8 : World} {own : Option Nat} {v : Value} {p : List Int} (h : BytesIn w v p) (hb : Below w.heap.size w w7) (hg : w7.grownBy w8 own) (ho : ∀ k, own = some k → w.heap.size ≤ k) : BytesIn w8 v p := by
  obtain ⟨a, c, rfl, hc, hm, hx⟩ := h
  refine ⟨a, c, rfl, hc, hm, ?_⟩
  rcases hx with hx | ⟨ab, ao, rfl, hx⟩
  · exact .inl hx
  · refine .inr ⟨ab, ao, rfl, fun i y hi => ?_⟩
    have hlt := World.block_lt_of_cell? w _ (hx i y hi)
    have h1 := (hb.cell (p := ⟨ab, ao + i, none⟩) hlt).trans (hx i y hi)
    exact (World.cell?_of_block (hg.block ab (Nat.lt_of_lt_of_le hlt hb.size) (fun e => by have := ho ab e.symm; simp only at hlt; omega))).trans h1
theorem grown_below {w0 w w' : World} {own : Option Nat} (hb : Below w0.heap.size w0 w) (hg : w.grownBy w' own) (ho : ∀ k, own = some k → w0.heap.size ≤ k) : Below w0.heap.size w0 w' := hb.grown hg hb.size ho
/-- Scan's list behind a write to an elder block -/
theorem lists_keep {w w' : World} {B : Nat} {v u : Value} {n : Nat} {us : List Value} {vs : List Value} {ps : List (List Int)} (h : w.ownsRow B 22 1 v vs.length vs) (hL : ListsIn w B v.ownBlock vs ps) (hm : ps.length ≤ maxLen) {B' : Nat} (hu : w.ownsRow B' 5 1 u n us) (hlt : ∀ k, u.ownBlock = some k → k < B) (hg : w.grownBy w' u.ownBlock) : BssIn w' v ps :=
  lists_in (keep_other h hu (by decide) hg) ⟨hL.1, fun i x p hx hp => (hL.2 i x p hx hp).1.grown hg fun k hk e => by
    have h1 := ((hL.2 i x p hx hp).2 k hk).1
    have h2 := hlt k e.symm
    omega⟩ hm
theorem rlists_keep {w0 w w' : World} {B : Nat} {v u : Value} {n : Nat} {us : List Value} {vs : List Value} {ps : List (List Int)} (h : w.ownsRow B 22 1 v vs.length vs) (hL : vs.length = ps.length ∧ ∀ (i : Nat) (u : Value) (p : List Int), vs[i]? = some u → ps[i]? = some p → BytesIn w0 u p) (hm : ps.length ≤ maxLen) {B' : Nat} (hu : w.ownsRow B' 5 1 u n us) (hb : Below w0.heap.size w0 w) (hlt : ∀ k, u.ownBlock = some k → w0.heap.size ≤ k) (hg : w.grownBy w' u.ownBlock) : BssIn w' v ps :=
  lists_in (keep_other h hu (by decide) hg) ⟨hL.1, fun i x p hx hp => (hL.2 i x p hx hp).keep hb hg hlt⟩ hm
theorem scanG_few : ∀ (f : Nat) (b : List Int), (scanG f b).1.length ≤ f
  | 0, _ => by simp [scanG]
  | f + 1, b => by
    rcases oneF_cases b with ⟨x, h1, _⟩ | ⟨p, h1, _⟩
    · simp [scanG, h1]
    · have := scanG_few f (b.drop (p.length + 12))
      rw [scanG_ok f b p h1]
      simpa using this
theorem scanF_few (b : List Int) : (scanF b).1.length ≤ b.length := scanG_few _ _
theorem oneF_ok {b : List Int} (h : bytesOk b) : bytesOk (oneF b).2 := by
  unfold oneF
  split
  · exact bytesOk_nil
  · split
    · exact bytesOk_nil
    · split
      · exact bytesOk_nil
      · split
        · exact bytesOk_nil
        · split
          · exact bytesOk_nil
          · exact (h.take _).drop _
end Go.Proofs.YtfdjmfomccckaaaDoor
