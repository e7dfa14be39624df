/- Part 22 of the proof. -/
import Derived.Handy
import Derived.Test.YtggcodobkmhkgaaDoorFc21
namespace Go.Proofs.YtggcodobkmhkgaaDoor
set_option linter.unusedVariables false
set_option linter.unusedSimpArgs false
open Go.RowKit Go.Maps Go.Proofs
set_option maxRecDepth 100000
def noRF : RF := ⟨⟨#[]⟩, ⟨#[]⟩, ⟨#[]⟩⟩
/-- get's answer -/
def getN (r : RSt) (s : ByteArray) : RF × Nat :=
  if nmOk s.data.toList = false then (noRF, 1) else if r.down = true then (noRF, 13) else match isN s.data.toList r.L, r.L[findN s.data.toList r.L]? with
    | true, some f => (f, 0)
    | _, _ => (noRF, 8)
theorem far2 {w w2 : World} {A B : Obj} (h : Below ((w.alloc A).alloc B).heap.size ((w.alloc A).alloc B) w2) : w2.heap[w.heap.size]? = some A ∧ w2.heap[w.heap.size + 1]? = some B ∧ w.heap.size + 1 < w2.heap.size ∧ Below w.heap.size w w2 := by
  refine ⟨?_, ?_, ?_, (Below.alloc0 (Below.alloc0 (Below.refl _ _) _) _).trans (h.mono (by simp; omega))⟩
  · rw [h.block _ (by simp; omega), heap_alloc_old _ _ (by simp), heap_alloc_new]
  · rw [h.block _ (by simp)]
    have := heap_alloc_new (w.alloc A) B
    rw [size_alloc] at this; exact this
  · have := h.size; simp at this; omega
theorem rf_fields {w : World} {p : Nat} {x y z : Value} {T : TypeId} (h : w.heap[p]? = some (.cells #[x, y, z] T (0, 0))) : w.cell? ⟨p, 0, none⟩ = some x ∧ w.cell? ⟨p, 1, none⟩ = some y ∧ w.cell? ⟨p, 2, none⟩ = some z ∧ w.frozen? ⟨p, 0, none⟩ = false ∧ w.frozen? ⟨p, 1, none⟩ = false ∧ w.frozen? ⟨p, 2, none⟩ = false :=
  ⟨cell_of_row w p 0 _ _ _ h, cell_of_row w p 1 _ _ _ h, cell_of_row w p 2 _ _ _ h, frozen_of_row w p 0 _ _ h, frozen_of_row w p 1 _ _ h, frozen_of_row w p 2 _ _ h⟩
theorem rs_cells {w : World} {p : Nat} {a b c d e : Value} {T : TypeId} (h : w.heap[p]? = some (.cells #[a, b, c, d, e] T (0, 0))) : w.cell? ⟨p, 0, none⟩ = some a ∧ w.cell? ⟨p, 1, none⟩ = some b ∧ w.cell? ⟨p, 2, none⟩ = some c ∧ w.cell? ⟨p, 3, none⟩ = some d ∧ w.cell? ⟨p, 4, none⟩ = some e ∧ w.frozen? ⟨p, 0, none⟩ = false ∧ w.frozen? ⟨p, 1, none⟩ = false ∧ w.frozen? ⟨p, 2, none⟩ = false ∧ w.frozen? ⟨p, 3, none⟩ = false ∧ w.frozen? ⟨p, 4, none⟩ = false :=
  ⟨cell_of_row w p 0 _ _ _ h, cell_of_row w p 1 _ _ _ h, cell_of_row w p 2 _ _ _ h, cell_of_row w p 3 _ _ _ h, cell_of_row w p 4 _ _ _ h, frozen_of_row w p 0 _ _ h, frozen_of_row w p 1 _ _ h, frozen_of_row w p 2 _ _ h, frozen_of_row w p 3 _ _ h, frozen_of_row w p 4 _ _ h⟩
theorem set_own {B q : Nat} {w w2 : World} {old : Array Value} {T : TypeId} (new : Array Value) (hb : Below B w w2) (hq : w2.heap[q]? = some (.cells old T (0, 0))) (hB : B ≤ q) :
    ∃ w3, w2.setRow q new = w3 ∧ Below B w w3 ∧ w3.heap[q]? = some (.cells new T (0, 0)) ∧ (∀ k, k ≠ q → w3.heap[k]? = w2.heap[k]?) ∧ w3.heap.size = w2.heap.size :=
  ⟨_, rfl, below_setRow hb hB _, setRow_heap _ _ _ _ _ _ hq, fun k hk => setRow_other _ _ _ _ hk, by simp [World.setRow]⟩
theorem rf_one (f : RF) : f.cells.toArray.all (·.oneCell') = true := by simp [RF.cells, Value.oneCell']
theorem isN_some {n : List UInt8} {L : List RF} (h : isN n L = true) : ∃ f, L[findN n L]? = some f := by
  unfold isN at h
  cases hf : L[findN n L]? with
  | none => rw [hf] at h; cases h
  | some f => exact ⟨f, rfl⟩
set_option maxHeartbeats 2000000 in
theorem get4_any (lv : Value) (r : RSt) (s : ByteArray) (w : World) (hL : FilesIn w lv r.L) (hs : s.size ≤ maxLen) :
    Calls Tryd.prog 75 #[rsV lv r, .string s] w fun e w' => e = .returned (.tuple #[(getN r s).1.v, .int .i64 ((getN r s).2 : Int)]) ∧ Below w.heap.size w w' := by
  have HN := Lib.hid (named4_any s)
  have HS := Lib.hid hs
  have HF := Lib.hid (fun w (h : FilesIn w lv r.L) => find4_any lv r s w h hs)
  obtain ⟨L, st, ar, lf, dn⟩ := r
  simp only at hL HF
  have hlen := hL.2
  obtain ⟨a, cap, rfl, hc, hm, hx⟩ := hL.lies
  have HX := Lib.hid hx
  have HL := Lib.hid hL
  obtain ⟨w1, hw1⟩ : ∃ w1, w1 = (w.alloc (.cells (rsC (.slice a L.length cap) ⟨L, st, ar, lf, dn⟩) 27)).alloc (.cells noRF.cells.toArray 111) := ⟨_, rfl⟩
  have HB1 : Hid (Below w.heap.size w w1) := Lib.hid (by rw [hw1]; exact Below.alloc0 (Below.alloc0 (Below.refl _ _) _) _)
  clear hx hc hm hL hs
  by_cases hn : nmOk s.data.toList = false
  · have HR : Hid (getN ⟨L, st, ar, lf, dn⟩ s = (noRF, 1)) := Lib.hid (by unfold getN; rw [if_pos hn])
    rw [hn] at HN
    unfold rsV rsC at *
    unfold noRF RF.cells at hw1
    go_enter Tryd.func75, Tryd.ntmps75
    go_wp2_with (go_at_call 78; (with_reducible refine (HN.out _ HS.out).mono ?_); rintro e w' ⟨rfl, rfl⟩)
    go_returns
    refine ⟨by rw [HR.out]; rfl, ?_⟩
    rw [← hw1]; exact HB1.out
  · by_cases hd : dn = true
    · have HR : Hid (getN ⟨L, st, ar, lf, dn⟩ s = (noRF, 13)) := Lib.hid (by unfold getN; rw [if_neg hn, if_pos hd])
      rw [Bool.not_eq_false] at hn
      rw [hn] at HN
      subst hd
      unfold rsV rsC at *
      unfold noRF RF.cells at hw1
      go_enter Tryd.func75, Tryd.ntmps75
      go_wp2_with (go_at_call 78; (with_reducible refine (HN.out _ HS.out).mono ?_); rintro e w' ⟨rfl, rfl⟩)
      go_returns
      refine ⟨by rw [HR.out]; rfl, ?_⟩
      rw [← hw1]; exact HB1.out
    · rw [Bool.not_eq_true] at hd
      rw [Bool.not_eq_false] at hn
      rw [hn] at HN
      cases hi : isN s.data.toList L with
      | false =>
        have HR : Hid (getN ⟨L, st, ar, lf, dn⟩ s = (noRF, 8)) := Lib.hid (by unfold getN; rw [if_neg (by rw [hn]; simp), if_neg (by rw [hd]; simp)]; simp only [hi])
        subst hd
        rw [hi] at HF
        unfold rsV rsC at *
        unfold noRF RF.cells at hw1
        go_enter Tryd.func75, Tryd.ntmps75
        go_wp2_with (first | (go_at_call 78; (with_reducible refine (HN.out _ HS.out).mono ?_); rintro e w' ⟨rfl, rfl⟩) | (go_at_call 111; (with_reducible refine (HF.out _ (HL.out.below (Below.alloc0 (Below.alloc0 (Below.refl _ _) _) _))).mono ?_); rintro e w2 ⟨rfl, hb2⟩; obtain ⟨hp, hq, hsz, hb⟩ := far2 hb2; obtain ⟨p0, p1, p2, p3, p4, -⟩ := rs_cells hp; have HP := Lib.hid hp; have HQ := Lib.hid hq; have HB2 := Lib.hid hb; clear hb2 hb hp hq) | (refine wpList_store_row rfl 111 (.tmp 4) (.tmp 25) rfl (w.heap.size + 1) noRF.cells.toArray rfl rfl 111 _ HQ.out (by kernel_rfl) rfl (rf_one _) ?_; obtain ⟨w3, h3, hb3, hq3, -, -⟩ := set_own noRF.cells.toArray HB2.out HQ.out (by omega); rw [h3]; have HB3 := Lib.hid hb3; have HQ3 := Lib.hid hq3; clear h3 hb3 hq3))
        refine bodyPost_ret (results_cell_tmp_row rfl _ _ (w.heap.size + 1) 111 noRF.cells.toArray (0, 0) _ rfl HQ3.out Tryd.underlying111 rfl (by kernel_rfl)) rfl ?_
        exact ⟨by rw [HR.out]; rfl, HB3.out⟩
      | true =>
        obtain ⟨f, hf⟩ := isN_some hi
        have HR : Hid (getN ⟨L, st, ar, lf, dn⟩ s = (f, 0)) := Lib.hid (by unfold getN; rw [if_neg (by rw [hn]; simp), if_neg (by rw [hd]; simp)]; simp only [hi, hf])
        subst hd
        rw [hi] at HF
        rcases HX.out with ⟨h, _⟩ | ⟨g, rfl, hg, hcl⟩
        · rw [h] at hf; simp at hf
        obtain ⟨k, hk⟩ : ∃ k, findN s.data.toList L = k := ⟨_, rfl⟩
        rw [hk] at HF hf
        have hlt : k < L.length := (List.getElem?_eq_some_iff.1 hf).1
        have HG := Lib.hid (fun (w2 : World) (hb : Below w.heap.size w w2) => ((fun i v hv => (hb.cell (p := ⟨g, k * 3 + i, none⟩) hg).trans (hcl k f hf i v hv)) : w2.rangeAt g (k * 3) f.cells))
        clear hcl hg hf hk
        unfold rsV rsC at *
        unfold noRF RF.cells at hw1
        go_enter Tryd.func75, Tryd.ntmps75
        go_wp2_with (first | (go_at_call 78; (with_reducible refine (HN.out _ HS.out).mono ?_); rintro e w' ⟨rfl, rfl⟩) | (go_at_call 111; (with_reducible refine (HF.out _ (HL.out.below (Below.alloc0 (Below.alloc0 (Below.refl _ _) _) _))).mono ?_); rintro e w2 ⟨rfl, hb2⟩; obtain ⟨hp, hq, hsz, hb⟩ := far2 hb2; obtain ⟨p0, p1, p2, p3, p4, -⟩ := rs_cells hp; have HP := Lib.hid hp; have HQ := Lib.hid hq; have HB2 := Lib.hid hb; clear hb2 hb hp hq) | (refine wpList_load_mid rfl 111 (.tmp 29) rfl g (k * 3) rfl _ _ (HG.out _ HB2.out) Tryd.underlying111 rfl (by kernel_rfl) ?_) | (refine wpList_store_row rfl 111 (.tmp 4) (.tmp 30) rfl (w.heap.size + 1) f.cells.toArray rfl rfl 111 _ HQ.out (by kernel_rfl) rfl (rf_one _) ?_; obtain ⟨w3, h3, hb3, hq3, -, -⟩ := set_own f.cells.toArray HB2.out HQ.out (by omega); rw [h3]; have HB3 := Lib.hid hb3; have HQ3 := Lib.hid hq3; clear h3 hb3 hq3))
        refine bodyPost_ret (results_cell_tmp_row rfl _ _ (w.heap.size + 1) 111 f.cells.toArray (0, 0) _ rfl HQ3.out Tryd.underlying111 rfl (by kernel_rfl)) rfl ?_
        exact ⟨by rw [HR.out]; rfl, HB3.out⟩
end Go.Proofs.YtggcodobkmhkgaaDoor
namespace Go.Proofs.YtggcodobkmhkgaaDoor
set_option linter.unusedVariables false
set_option linter.unusedSimpArgs false
open Go.RowKit Go.Maps Go.Proofs
set_option maxRecDepth 100000
def stepN (r : RSt) : RSt × Bool := if r.armed = true ∧ r.left = 0 then ({ r with down := true }, true) else ({ r with left := r.left - 1, steps := r.steps + 1 }, false)
structure NumOk (r : RSt) : Prop where
  s0 : 0 ≤ r.steps
  s1 : r.steps < 4611686018427387904
  l0 : -4611686018427387904 < r.left
  l1 : r.left ≤ 9223372036854775807
set_option maxHeartbeats 2000000 in
theorem step4_any (lv : Value) (r : RSt) (w : World) (hL : FilesIn w lv r.L) (hn : NumOk r) :
    Calls Tryd.prog 76 #[rsV lv r] w fun e w' => e = .returned (.tuple #[rsV lv (stepN r).1, .bool (stepN r).2]) ∧ Below w.heap.size w w' := by
  obtain ⟨L, st, ar, lf, dn⟩ := r
  simp only at hL
  obtain ⟨a, cap, rfl, _⟩ := hL.lies
  obtain ⟨h1, h2, h3, h4⟩ := hn
  simp only at h1 h2 h3 h4
  clear hL
  unfold rsV rsC
  cases ar with
  | false =>
    go_enter Tryd.func76, Tryd.ntmps76
    go_wp2_with (fail)
    go_returns
    exact ⟨rfl, Below.alloc0 (Below.alloc0 (Below.refl _ _) _) _⟩
  | true =>
    by_cases h0 : lf = 0
    · subst h0
      go_enter Tryd.func76, Tryd.ntmps76
      go_wp2_with (fail)
      go_returns
      exact ⟨rfl, Below.alloc0 (Below.alloc0 (Below.refl _ _) _) _⟩
    · go_enter Tryd.func76, Tryd.ntmps76
      go_wp2_with (fail)
      go_returns
      have hs : stepN ⟨L, st, true, lf, dn⟩ = (⟨L, st + 1, true, lf - 1, dn⟩, false) := by unfold stepN; rw [if_neg (fun h => h0 h.2)]
      exact ⟨by rw [hs], Below.alloc0 (Below.alloc0 (Below.refl _ _) _) _⟩
end Go.Proofs.YtggcodobkmhkgaaDoor
