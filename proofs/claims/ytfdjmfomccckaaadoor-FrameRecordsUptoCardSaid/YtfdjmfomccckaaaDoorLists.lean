/- lists: text by text. -/
import Derived.Test.YtfdjmfomccckaaaDoorScan
import Derived.Test.YtfdjmfomccckaaaDoorArg
import Derived.Test.YtfdjmfomccckaaaDoorStr
namespace Go.Proofs.YtfdjmfomccckaaaDoor
open Go.RowKit
set_option maxRecDepth 100000
/-- what Scan made is a slice of slices of bytes -/
theorem lists_in {w : World} {B : Nat} {v : Value} {vs : List Value} {ps : List (List Int)} (h : w.ownsRow B 22 1 v vs.length vs) (hL : vs.length = ps.length ∧ ∀ (i : Nat) (u : Value) (p : List Int), vs[i]? = some u → ps[i]? = some p → BytesIn w u p) (hm : ps.length ≤ maxLen) : BssIn w v ps := by
  rcases h.2 with ⟨rfl, h0⟩ | ⟨g, c, cur, rfl, hb, hg, hc, hmm, hs, ht⟩
  · have : ps = [] := List.eq_nil_of_length_eq_zero (by rw [← hL.1]; exact h0)
    subst this
    exact ⟨none, 0, rfl, Nat.le_refl _, hm, .inl rfl⟩
  · refine ⟨_, c, by rw [hL.1], by rw [← hL.1]; exact hc, hm, .inr ⟨g, 0, rfl, fun i p hp => ?_⟩⟩
    have hi : i < vs.length := by rw [hL.1]; exact (List.getElem?_eq_some_iff.1 hp).1
    have := h.cells (g := g) rfl i vs[i] (List.getElem?_eq_getElem hi)
    rw [Addr.add_mid] at this
    exact ⟨_, this, hL.2 i _ p (List.getElem?_eq_getElem hi) hp⟩
theorem BssIn.cut0 {w : World} {a : Option Addr} {n cap : Nat} {ps : List (List Int)} (h : BssIn w (.slice a n cap) ps) (k : Nat) (hk : k ≤ n) : BssIn w (.slice (cutA a cap 0) k cap) (ps.take k) := by
  obtain ⟨a', c', e, hc, hm, hx⟩ := h
  injection e with e1 e2 e3
  subst e1 e2 e3
  have hl : (ps.take k).length = k := by rw [List.length_take]; omega
  refine ⟨_, cap, by rw [hl], by rw [hl]; omega, by rw [hl]; omega, ?_⟩
  rcases hx with hx | ⟨ab, ao, rfl, hx⟩
  · left; rw [hx]; simp
  · by_cases h0 : ps.take k = []
    · exact .inl h0
    · right
      refine ⟨ab, ao, ?_, fun i p hi => ?_⟩
      · unfold cutA
        split
        · rfl
        · show some (Addr.add ⟨ab, ao, none⟩ 0) = _
          rw [Addr.add_mid]; rfl
      · rw [List.getElem?_take] at hi
        split at hi
        · exact hx i p hi
        · cases hi
set_option maxHeartbeats 1000000 in
theorem lists_same (y z : Value) (ps : List (List Int)) (w : World) (hy : BssIn w y ps) (hz : BssIn w z ps) (hl : ps.length ≤ 1099511627776) :
    Calls Tryd.prog 15 #[y, z] w fun e w' => e = .returned (.bool true) ∧ Below w.heap.size w w' := by
  obtain ⟨a1, c1, rfl, hc1, hm1, hx1⟩ := hy
  obtain ⟨a2, c2, rfl, hc2, hm2, hx2⟩ := hz
  have H1 := Lib.hid hx1
  have H2 := Lib.hid hx2
  have HB := Lib.hid (Below.refl w.heap.size w)
  clear hx1 hx2 hc1 hc2 hm1 hm2
  go_enter Tryd.func15, Tryd.ntmps15
  go_wp2
  go_loopw [5] (fun i wr => ∃ k : Nat, k ≤ ps.length ∧ i = .int .i64 k ∧ Hid (Below w.heap.size w wr)) (fun i _ => ps.length - (intOf i).toNat)
  case atStart => exact ⟨0, Nat.zero_le _, rfl, HB.out⟩
  case round =>
    clear HB
    obtain ⟨k, hk, rfl, HB⟩ := hrel
    by_cases hlt : k < ps.length
    · obtain ⟨p, hp⟩ : ∃ p, ps[k]? = some p := ⟨_, List.getElem?_eq_getElem hlt⟩
      rcases H1.out with h0 | ⟨b1, o1, rfl, h1⟩
      · rw [h0] at hlt; simp at hlt
      rcases H2.out with h0 | ⟨b2, o2, rfl, h2⟩
      · rw [h0] at hlt; simp at hlt
      obtain ⟨u1, hu1, hb1⟩ := h1 k p hp
      obtain ⟨u2, hu2, hb2⟩ := h2 k p hp
      have d1 := (HB.out.cell (p := ⟨b1, o1 + k, none⟩) (World.block_lt_of_cell? w _ hu1)).trans hu1
      have d2 := (HB.out.cell (p := ⟨b2, o2 + k, none⟩) (World.block_lt_of_cell? w _ hu2)).trans hu2
      have cv1 : ∀ n, (convert 22 9 u1).run Tryd.prog (wr.drewN n) = .ok (.string (strOfNums p)) (wr.drewN n) := fun n => conv_bytes _ u1 p ((hb1.below HB.out).drewN n)
      have cv2 : ∀ n, (convert 22 9 u2).run Tryd.prog (wr.drewN n) = .ok (.string (strOfNums p)) (wr.drewN n) := fun n => conv_bytes _ u2 p ((hb2.below HB.out).drewN n)
      have hkI : (k : Int) < (ps.length : Int) := by omega
      clear h1 h2 hu1 hu2 hb1 hb2 hp
      generalize strOfNums p = s at *
      go_wp2
      go_quiet (fail)
      go_wp2
      go_roundw
      case rel => exact ⟨k + 1, by omega, by go_num, HB.out.trans ((below_drewN wr nq).mono HB.out.size)⟩
      case measure => simp [intOf]; omega
    · go_wp2
      go_ret
      exact ⟨rfl, HB.out⟩
end Go.Proofs.YtfdjmfomccckaaaDoor
