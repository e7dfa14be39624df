/- CoinSums: the walk. -/
import Derived.Test.YteokgklfljhcaaaDoorCnU
namespace Go.Proofs.YteokgklfljhcaaaDoor
open Go.RowKit
set_option maxRecDepth 100000
set_option linter.unusedSimpArgs false
set_option linter.unusedVariables false
theorem addE_comm (a b : Int) : addE a b = addE b a := by
  have h : (amt a ∧ amt b) ↔ (amt b ∧ amt a) := And.comm
  unfold addE
  simp only [h, Int.add_comm a b]
theorem addR_comm (a b : Int) : addR a b = addR b a := by unfold addR; rw [addE_comm, Int.add_comm]
theorem addE_none {a b : Int} (h : addE a b = none) : amt a ∧ amt b ∧ a + b ≤ 1152921504606846976 ∧ addR a b = a + b := by
  have h0 := h
  unfold addE at h
  split at h
  · rename_i h1
    split at h
    · rename_i h2
      exact ⟨h1.1, h1.2, h2, by unfold addR; rw [if_pos h0]⟩
    · cases h
  · cases h
theorem addR_some {a b : Int} {n : Nat} (h : addE a b = some n) : addR a b = 0 := by unfold addR; rw [if_neg (by rw [h]; simp)]
theorem addE_ok {a b : Int} (h1 : amt a) (h2 : amt b) (h3 : a + b ≤ 1152921504606846976) : addE a b = none := by unfold addE; rw [if_pos ⟨h1, h2⟩, if_pos h3]
theorem addR_ok {a b : Int} (h1 : amt a) (h2 : amt b) (h3 : a + b ≤ 1152921504606846976) : addR a b = a + b := by unfold addR; rw [if_pos (addE_ok h1 h2 h3)]
abbrev AddP (a b r : Int) (E : Value) : Prop := ∀ w, Calls Tryd.prog 7 #[.int .i64 a, .int .i64 b] w fun e w' => e = .returned (.tuple #[.int .i64 r, E]) ∧ Below w.heap.size w w'
theorem addP (a b : Int) : AddP a b (addR a b) (errV (addE a b)) := fun w => cadd_any a b w
theorem lcsums_any (a b c : Int) (w : World) (hg : ErrType w) : Calls Tryd.prog 3 #[.int .i64 a, .int .i64 b, .int .i64 c] w fun e w' => e = .returned (.bool true) ∧ Below w.heap.size w w' := by
  have HG := Lib.hid hg
  have HB := Lib.hid (Below.refl w.heap.size w)
  have HSU := Lib.hid csure_any
  have H1 := Lib.hid (addP a b)
  have H2 := Lib.hid (addP b a)
  rw [addR_comm b a, addE_comm b a] at H2
  clear hg
  cases he : addE a b with
  | some n =>
    rw [addR_some he, he] at H1 H2
    have HN := Lib.hid (fun w h => num_any (some n) w h)
    obtain ⟨E, hE⟩ : ∃ E, E = errV (some n) := ⟨_, rfl⟩
    rw [← hE] at H1 H2 HN
    have hne : ∀ w, (binOp .neq 23 E .nilIface).run Tryd.prog w = .ok (.bool true) w := fun w => by rw [hE]; kernel_rfl
    subst hE
    simp only [errV] at *
    clear he hne
    go_enter Tryd.func3, Tryd.ntmps3
    go_wp2_with (first
      | (go_at_call 7; (with_reducible refine (H1.out _).mono ?_); rintro e w1 ⟨rfl, hb⟩; replace HB := Lib.hid (HB.out.trans (hb.mono HB.out.size)); clear hb H1)
      | (go_at_call 7; (with_reducible refine (H2.out _).mono ?_); rintro e w2 ⟨rfl, hb⟩; replace HB := Lib.hid (HB.out.trans (hb.mono HB.out.size)); clear hb)
      | (go_at_call 8; (with_reducible refine (HN.out _ (HG.out.below HB.out)).mono ?_); rintro e w3 ⟨rfl, hb⟩; replace HB := Lib.hid (HB.out.trans (hb.mono HB.out.size)); clear hb)
      | (go_at_call 9; (with_reducible refine (HSU.out _).mono ?_); rintro e w4 ⟨rfl, hb⟩; replace HB := Lib.hid (HB.out.trans (hb.mono HB.out.size)); clear hb))
    go_ret
    exact ⟨rfl, HB.out⟩
  | none =>
    obtain ⟨ha, hb', hab, hr⟩ := addE_none he
    rw [hr, he] at H1 H2
    have HN := Lib.hid (fun w h => num_any none w h)
    have H3 := Lib.hid (addP (a + b) c)
    simp only [errV] at H1 H2 HN
    clear he hr
    cases he2 : addE (a + b) c with
    | some n =>
      rw [addR_some he2, he2] at H3
      simp only [errV] at H3
      clear he2 ha hb' hab
      obtain ⟨s, hs⟩ : ∃ s, s = a + b := ⟨_, rfl⟩
      rw [← hs] at H1 H2 H3
      clear hs
      go_enter Tryd.func3, Tryd.ntmps3
      go_wp2_with (first
        | (go_at_call 7; (with_reducible refine (H1.out _).mono ?_); rintro e w1 ⟨rfl, hb⟩; replace HB := Lib.hid (HB.out.trans (hb.mono HB.out.size)); clear hb H1)
        | (go_at_call 7; (with_reducible refine (H2.out _).mono ?_); rintro e w2 ⟨rfl, hb⟩; replace HB := Lib.hid (HB.out.trans (hb.mono HB.out.size)); clear hb H2)
        | (go_at_call 7; (with_reducible refine (H3.out _).mono ?_); rintro e w5 ⟨rfl, hb⟩; replace HB := Lib.hid (HB.out.trans (hb.mono HB.out.size)); clear hb)
        | (go_at_call 8; (with_reducible refine (HN.out _ (HG.out.below HB.out)).mono ?_); rintro e w3 ⟨rfl, hb⟩; replace HB := Lib.hid (HB.out.trans (hb.mono HB.out.size)); clear hb)
        | (go_at_call 9; (with_reducible refine (HSU.out _).mono ?_); rintro e w4 ⟨rfl, hb⟩; replace HB := Lib.hid (HB.out.trans (hb.mono HB.out.size)); clear hb))
      go_ret
      exact ⟨rfl, HB.out⟩
    | none =>
      obtain ⟨-, hc, habc, hr2⟩ := addE_none he2
      have h1 : b + c ≤ 1152921504606846976 := by unfold amt at *; omega
      have hbc : amt (b + c) := by unfold amt at *; omega
      have h2 : a + (b + c) ≤ 1152921504606846976 := by omega
      have H4 := Lib.hid (addP b c)
      have H5 := Lib.hid (addP a (b + c))
      rw [hr2, he2] at H3
      rw [addR_ok hb' hc h1, addE_ok hb' hc h1] at H4
      rw [addR_ok ha hbc h2, addE_ok ha hbc h2, ← Int.add_assoc] at H5
      simp only [errV] at H3 H4 H5
      obtain ⟨s, hs⟩ : ∃ s, s = a + b := ⟨_, rfl⟩
      obtain ⟨z, hz⟩ : ∃ s, s = b + c := ⟨_, rfl⟩
      rw [← hs] at H1 H2 H3 H5
      rw [← hz] at H4 H5
      obtain ⟨u, hu⟩ : ∃ u, u = s + c := ⟨_, rfl⟩
      rw [← hu] at H3 H5
      clear he2 ha hb' hab hs hz hu hc habc hr2 h1 hbc h2
      go_enter Tryd.func3, Tryd.ntmps3
      go_wp2_with (first
        | (go_at_call 7; (with_reducible refine (H1.out _).mono ?_); rintro e w1 ⟨rfl, hb⟩; replace HB := Lib.hid (HB.out.trans (hb.mono HB.out.size)); clear hb H1)
        | (go_at_call 7; (with_reducible refine (H2.out _).mono ?_); rintro e w2 ⟨rfl, hb⟩; replace HB := Lib.hid (HB.out.trans (hb.mono HB.out.size)); clear hb H2)
        | (go_at_call 7; (with_reducible refine (H3.out _).mono ?_); rintro e w5 ⟨rfl, hb⟩; replace HB := Lib.hid (HB.out.trans (hb.mono HB.out.size)); clear hb H3)
        | (go_at_call 7; (with_reducible refine (H4.out _).mono ?_); rintro e w6 ⟨rfl, hb⟩; replace HB := Lib.hid (HB.out.trans (hb.mono HB.out.size)); clear hb H4)
        | (go_at_call 7; (with_reducible refine (H5.out _).mono ?_); rintro e w7 ⟨rfl, hb⟩; replace HB := Lib.hid (HB.out.trans (hb.mono HB.out.size)); clear hb)
        | (go_at_call 8; (with_reducible refine (HN.out _ (HG.out.below HB.out)).mono ?_); rintro e w3 ⟨rfl, hb⟩; replace HB := Lib.hid (HB.out.trans (hb.mono HB.out.size)); clear hb)
        | (go_at_call 9; (with_reducible refine (HSU.out _).mono ?_); rintro e w4 ⟨rfl, hb⟩; replace HB := Lib.hid (HB.out.trans (hb.mono HB.out.size)); clear hb))
      go_ret
      exact ⟨rfl, HB.out⟩
end Go.Proofs.YteokgklfljhcaaaDoor
