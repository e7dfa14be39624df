/- Part 34 of the proof. -/
import Derived.Test.YtfmfemmknccfmaaDoorPa33
namespace Go.Proofs.YtfmfemmknccfmaaDoor
set_option linter.unusedVariables false
set_option linter.unusedSimpArgs false
open Go.RowKit
set_option maxRecDepth 100000
set_option linter.unusedSimpArgs false
set_option linter.unusedVariables false
/-- the proofs of a key's neighbours; none where it is there -/
def noL (t : Option AvT) (key : ByteArray) : List PvP := if (getO t key).isSome then [] else atP t ((findO t key : Int) - 1)
def noR (t : Option AvT) (key : ByteArray) : List PvP := if (getO t key).isSome then [] else atP t (findO t key : Int)
def e9 (b : Bool) : Option Nat := if b then some 9 else none
def NoPost (t : Option AvT) (key : ByteArray) (w : World) (e : Ending) (w' : World) : Prop :=
  ∃ vl vr, e = .returned (.tuple #[.agg #[vl, vr], errV (e9 (getO t key).isSome)]) ∧ PrsIn w' vl (noL t key) ∧ PrsIn w' vr (noR t key) ∧ Below w.heap.size w w'
theorem prs_nil (w : World) : PrsIn w (.slice none 0 0) [] := ⟨none, 0, rfl, by simp, .inl rfl⟩
theorem prAt_row {w : World} {b o q : Nat} {p : PvP} {v1 v2 : Value} {new : Array Value} (h : PrAt w b o p) (hq : w.heap[q]? = some (.cells #[v1, v2] 62 (0, 0))) (h1 : ∃ a n c, v1 = .slice a n c) (h2 : ∃ a n c, v2 = .slice a n c) : PrAt (w.setRow q new) b o p := by
  obtain ⟨a1, n1, c1, rfl⟩ := h1
  obtain ⟨a2, n2, c2, rfl⟩ := h2
  have hno : ∀ (k : Nat) (x : Value), (∀ a n c, x ≠ .slice a n c) → (#[Value.slice a1 n1 c1, .slice a2 n2 c2] : Array Value)[k]? ≠ some x := by
    intro k x hx h
    rcases k with _ | _ | k
    · injection h with h; exact hx _ _ _ h.symm
    · injection h with h; exact hx _ _ _ h.symm
    · simp at h
  obtain ⟨sv, hr, hst⟩ := h
  have hbq : b ≠ q := fun e => by
    subst e
    have h0 := hr 0 (.string p.key) rfl
    rw [cell_of_row _ _ _ _ _ _ hq] at h0
    exact hno _ _ (fun _ _ _ => by simp) h0
  refine ⟨sv, fun j v hv => (World.cell?_of_block (setRow_other _ _ _ _ hbq)).trans (hr j v hv), ?_⟩
  obtain ⟨a, cap, rfl, hc, hm, hx⟩ := hst
  refine ⟨a, cap, rfl, hc, hm, hx.imp id ?_⟩
  rintro ⟨ab, ao, rfl, hl, hr⟩
  refine ⟨ab, ao, rfl, by simpa [World.setRow] using hl, fun i s hi => ?_⟩
  have hne : ab ≠ q := fun e => by
    subst e
    have h0 := hr i s hi 0 (.bool s.sec) (by simp [AvS.cells, stC])
    rw [cell_of_row _ _ _ _ _ _ hq] at h0
    exact hno _ _ (fun _ _ _ => by simp) h0
  exact fun j v hv => (World.cell?_of_block (setRow_other _ _ _ _ hne)).trans (hr i s hi j v hv)
theorem prs_row {w : World} {v : Value} {ps : List PvP} {q : Nat} {v1 v2 : Value} {new : Array Value} (h : PrsIn w v ps) (hq : w.heap[q]? = some (.cells #[v1, v2] 62 (0, 0))) (h1 : ∃ a n c, v1 = .slice a n c) (h2 : ∃ a n c, v2 = .slice a n c) : PrsIn (w.setRow q new) v ps := by
  obtain ⟨a, cap, rfl, hm, hx⟩ := h
  exact ⟨a, cap, rfl, hm, hx.imp id fun ⟨b, off, e, hl, hh⟩ => ⟨b, off, e, by simpa [World.setRow] using hl, fun i p hi => prAt_row (hh i p hi) hq h1 h2⟩⟩
set_option maxHeartbeats 4000000 in
theorem none8_any (va : Value) (t : Option AvT) (key : ByteArray) (w : World) (ht : TreeO w va t) (hm : manyO t ≤ 1099511627776) (hf : (findO t key : Int) ≤ 1099511627776) :
    Calls Tryd.prog 22 #[va, .string key] w (NoPost t key w) := by
  have HGE := Lib.hid (fun w h => get_any va key t w h)
  have HFI := Lib.hid (fun w h => find_any va key t w h (by omega))
  have HA1 := Lib.hid (fun w h => at8_any va t ((findO t key : Int) - 1) w h hm)
  have HA2 := Lib.hid (fun w h => at8_any va t (findO t key : Int) w h hm)
  have hb0 := below_alloc w (.cells #[.slice none 0 0, .slice none 0 0] 62)
  have H4 := Lib.hid (heap_alloc_new w (.cells #[.slice none 0 0, .slice none 0 0] 62))
  have HT := Lib.hid (ht.below hb0)
  have HB := Lib.hid hb0
  obtain ⟨p, rfl⟩ : ∃ p, va = .pointer p := by
    cases t with
    | none => exact ⟨_, ht⟩
    | some t => obtain ⟨g, e, _⟩ := ht; exact ⟨_, e⟩
  obtain ⟨gb, hgb⟩ : ∃ b, b = (getO t key).isSome := ⟨_, rfl⟩
  obtain ⟨gs, hgs⟩ : ∃ b, b = strO (getO t key) := ⟨_, rfl⟩
  have HNL := Lib.hid (show noL t key = if gb then [] else atP t ((findO t key : Int) - 1) from by rw [hgb]; rfl)
  have HNR := Lib.hid (show noR t key = if gb then [] else atP t (findO t key : Int) from by rw [hgb]; rfl)
  rw [← hgb, ← hgs] at HGE
  unfold NoPost
  rw [← hgb]
  obtain ⟨FN, hFN⟩ : ∃ n, n = findO t key := ⟨_, rfl⟩
  rw [← hFN] at HFI HA1 HA2 HNL HNR hf
  clear ht hm hb0 hgb hgs hFN
  go_enter Tryd.func22, Tryd.ntmps22
  go_upto_region 1 with (fail)
  generalize w.alloc (.cells #[.slice none 0 0, .slice none 0 0] 62) = w1 at *
  obtain ⟨q, hq⟩ : ∃ q, q = w.heap.size := ⟨_, rfl⟩
  rw [← hq] at H4 ⊢
  have HQ := Lib.hid hq
  clear hq
  cases gb with
  | true =>
    have hNL := HNL.out
    have hNR := HNR.out
    go_wp2_with (first
      | (go_at_call 34; (with_reducible refine (HGE.out _ HT.out).mono ?_); rintro e w' ⟨rfl, rfl⟩)
      | (refine wpList_store_row rfl 62 (.tmp 4) (.tmp 16) rfl q #[.slice none 0 0, .slice none 0 0] rfl rfl 62 _ H4.out (by kernel_rfl) rfl (by simp [Value.oneCell']) ?_))
    refine bodyPost_ret (results_cell_tmp_row rfl _ _ q 62 #[.slice none 0 0, .slice none 0 0] (0, 0) _ rfl (setRow_heap _ _ _ _ _ _ H4.out) Tryd.underlying62 rfl (by kernel_rfl)) rfl ?_
    exact ⟨_, _, rfl, by rw [HNL.out]; exact prs_nil _, by rw [HNR.out]; exact prs_nil _, below_setRow HB.out (Nat.le_of_eq HQ.out.symm) _⟩
  | false =>
    have hf0 : (0 : Int) ≤ FN := by omega
    go_upto_region 5 with (first
      | (go_at_call 34; (with_reducible refine (HGE.out _ HT.out).mono ?_); rintro e w' ⟨rfl, rfl⟩)
      | (go_at_call 55; (with_reducible refine (HFI.out _ HT.out).mono ?_); rintro e w' ⟨rfl, rfl⟩))
    go_wp2_with (first
      | (go_at_call 54; (with_reducible refine (HA1.out _ HT.out).mono ?_); rintro e w2 ⟨v1, rfl, hp, hb⟩; have HP1 := Lib.hid hp; obtain ⟨a1, c1, rfl, _⟩ := hp.len; replace HT := Lib.hid (HT.out.below hb); replace H4 := Lib.hid ((hb.block _ (bk_lt H4.out)).trans H4.out); replace HB := Lib.hid (HB.out.trans (hb.mono HB.out.size)); clear hp hb HA1)
      | (go_at_call 54; (with_reducible refine (HA2.out _ HT.out).mono ?_); rintro e w3 ⟨v2, rfl, hp, hb⟩; have HP2 := Lib.hid hp; obtain ⟨a2, c2, rfl, _⟩ := hp.len; replace HP1 := Lib.hid (HP1.out.below hb); replace H4 := Lib.hid ((hb.block _ (bk_lt H4.out)).trans H4.out); replace HB := Lib.hid (HB.out.trans (hb.mono HB.out.size)); clear hp hb)
      | (refine wpList_store_row rfl 62 (.tmp 4) (.tmp 28) rfl q #[.slice a1 _ c1, .slice a2 _ c2] rfl rfl 62 _ H4.out (by kernel_rfl) rfl (by simp [Value.oneCell']) ?_))
    refine bodyPost_ret (results_cell_tmp_row rfl _ _ q 62 #[.slice a1 _ c1, .slice a2 _ c2] (0, 0) _ rfl (setRow_heap _ _ _ _ _ _ H4.out) Tryd.underlying62 rfl (by kernel_rfl)) rfl ?_
    exact ⟨_, _, rfl, by rw [HNL.out]; exact prs_row HP1.out H4.out ⟨_, _, _, rfl⟩ ⟨_, _, _, rfl⟩, by rw [HNR.out]; exact prs_row HP2.out H4.out ⟨_, _, _, rfl⟩ ⟨_, _, _, rfl⟩, below_setRow HB.out (Nat.le_of_eq HQ.out.symm) _⟩
end Go.Proofs.YtfmfemmknccfmaaDoor
