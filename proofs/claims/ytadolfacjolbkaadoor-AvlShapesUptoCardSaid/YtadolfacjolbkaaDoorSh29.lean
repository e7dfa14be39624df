/- Part 29 of the proof. -/
import Derived.BigQuiet
import Derived.Test.YtadolfacjolbkaaDoorSh3
import Derived.Test.YtadolfacjolbkaaDoorSh19
import Derived.Test.YtadolfacjolbkaaDoorSh25
namespace Go.Proofs.YtadolfacjolbkaaDoor
set_option linter.unusedVariables false
set_option linter.unusedSimpArgs false
open Go.RowKit
set_option maxRecDepth 100000
set_option linter.unusedSimpArgs false
set_option linter.unusedVariables false
def RisK (l : List KV) (k : Nat) : Prop := ∀ i p q, i + 1 < k → l[i]? = some p → l[i + 1]? = some q → bl p.1 q.1 = true
theorem risK_all {l : List KV} (h : RisK l l.length) : Ris l := fun i p q hp hq => h i p q (List.getElem?_eq_some_iff.1 hq).1 hp hq
theorem risK_succ {l : List KV} {k : Nat} (h : RisK l (k + 1)) {p q : KV} (hp : l[k]? = some p) (hq : l[k + 1]? = some q) (hb : bl p.1 q.1 = true) : RisK l (k + 2) := fun i p' q' hi hp' hq' => by
  by_cases e : i = k
  · subst e; rw [hp] at hp'; rw [hq] at hq'; cases hp'; cases hq'; exact hb
  · exact h i p' q' (by omega) hp' hq'
def RisP (l : List KV) (w : World) (e : Ending) (w' : World) : Prop := ∃ b : Bool, e = .returned (.bool b) ∧ Hid (b = true ↔ Ris l) ∧ Below w.heap.size w w'
set_option maxHeartbeats 2000000 in
theorem rising_any (va : Value) (l : List KV) (w : World) (ha : KVIn w va l) : Calls Tryd.prog 32 #[va] w (RisP l w) := by
  obtain ⟨aa, ca, rfl⟩ := ha.len
  have hlen : l.length ≤ maxLen := by obtain ⟨_, _, _, _, hm, _⟩ := ha; exact hm
  unfold maxLen at hlen
  have HA := Lib.hid ha
  clear ha
  go_enter Tryd.func32, Tryd.ntmps32
  go_wp2_with (fail)
  go_loopw [3] (fun x wr => ∃ k : Nat, (k < l.length ∨ k = 0) ∧ x = .int .i64 ((k : Int) + 1) ∧ Hid (RisK l (k + 1)) ∧ Hid (Below w.heap.size w wr)) (fun x _ => l.length + 1 - (intOf x).toNat)
  case atStart => exact ⟨0, .inr rfl, rfl, Lib.hid (fun i p q hi => by omega), Lib.hid (Below.refl _ _)⟩
  case round =>
    obtain ⟨k, hkl, rfl, HR, HBS⟩ := hrel
    by_cases hlt : k + 1 < l.length
    · obtain ⟨x, hx⟩ : ∃ x, l[k]? = some x := ⟨l[k], List.getElem?_eq_getElem (by omega)⟩
      obtain ⟨y, hy⟩ : ∃ y, l[k + 1]? = some y := ⟨l[k + 1], List.getElem?_eq_getElem hlt⟩
      obtain ⟨b1, o1, rfl, l1, p0, p1⟩ := HA.out.at k x hx
      obtain ⟨b2, o2, e2, l2, q0, q1⟩ := HA.out.at (k + 1) y hy
      cases e2
      have c0 := (HBS.out.cell (p := ⟨b1, o1 + k * 2, none⟩) l1).trans p0
      have d0 := (HBS.out.cell (p := ⟨b1, o1 + (k + 1) * 2, none⟩) l1).trans q0
      have hltI : (k : Int) + 1 < (l.length : Int) := by omega
      have hltI2 : (k : Int) < (l.length : Int) := by omega
      have HX := Lib.hid hx
      have HY := Lib.hid hy
      clear p0 p1 q0 q1 hx hy hkl
      obtain ⟨x1, x2⟩ := x
      obtain ⟨y1, y2⟩ := y
      simp only at c0 d0
      cases hb : bl x1 y1 with
      | true =>
        have e1 : Op.bytesLess y1.toList x1.toList = false := bl_asymm hb
        have e2 : (y1.toList == x1.toList) = false := by rw [beqL]; simpa using fun e => bl_ne hb e.symm
        have HB := Lib.hid hb
        clear hb
        go_upto_region 4 with (fail)
        go_quiet (fail)
        replace HBS := Lib.hid (below_drewN HBS.out nq)
        generalize wr.drewN nq = w5 at *
        clear c0 d0
        go_wp2_with (fail)
        go_roundw
        case rel => exact ⟨k + 1, .inl hlt, by go_num, Lib.hid (risK_succ HR.out HX.out HY.out HB.out), HBS⟩
        case measure => simp [intOf]; omega
      | false =>
        have HN := Lib.hid (show ¬ Ris l from fun h => by have := h k _ _ HX.out HY.out; rw [hb] at this; cases this)
        have e0 : (Op.bytesLess y1.toList x1.toList || y1.toList == x1.toList) = true := by
          cases h2 : bl y1 x1 with
          | true => rw [show Op.bytesLess y1.toList x1.toList = true from h2]; rfl
          | false => rw [bl_total hb h2]; simp
        have e1 : Op.bytesLess y1.toList x1.toList = true ∨ y1 = x1 := by
          cases h2 : bl y1 x1 with
          | true => exact .inl h2
          | false => exact .inr (bl_total h2 hb)
        clear hb e0
        rcases e1 with e1 | e1
        · go_upto_region 4 with (fail)
          go_quiet (fail)
          replace HBS := Lib.hid (below_drewN HBS.out nq)
          generalize wr.drewN nq = w5 at *
          clear c0 d0
          go_wp2_with (fail)
          go_ret
          exact ⟨_, rfl, Lib.hid ⟨fun h => (by cases h), fun h => absurd h HN.out⟩, HBS.out⟩
        · have e2 : (y1.toList == x1.toList) = true := by rw [e1]; simp
          clear e1
          go_upto_region 4 with (fail)
          go_quiet (fail)
          replace HBS := Lib.hid (below_drewN HBS.out nq)
          generalize wr.drewN nq = w5 at *
          clear c0 d0
          go_wp2_with (fail)
          go_ret
          exact ⟨_, rfl, Lib.hid ⟨fun h => (by cases h), fun h => absurd h HN.out⟩, HBS.out⟩
    · have hI : ¬ (k : Int) + 1 < (l.length : Int) := by omega
      go_wp2_with (fail)
      go_ret
      exact ⟨_, rfl, Lib.hid ⟨fun _ => risK_all (fun i p q hi => HR.out i p q (by omega)), fun _ => rfl⟩, HBS.out⟩
set_option maxHeartbeats 2000000 in
theorem balanced_any (ga gb : Nat) (a b : AvT) (w : World) (h1 : TreeAt w ga a) (h2 : TreeAt w gb b) (hm : a.height ≤ 1099511627776 ∧ b.height ≤ 1099511627776) :
    Calls Tryd.prog 35 #[.pointer (some ⟨ga, 0, none⟩), .pointer (some ⟨gb, 0, none⟩)] w fun e w' => e = .returned (.bool (nearB a b)) ∧ Below w.heap.size w w' := by
  have c0 := h1.height
  have c1 := h2.height
  have HN := Lib.hid (show nearB a b = decide (max (a.height : Int) (b.height : Int) - min (a.height : Int) (b.height : Int) ≤ 1) by
    unfold nearB
    rw [Bool.eq_iff_iff]
    simp only [Bool.and_eq_true, decide_eq_true_eq]
    omega)
  obtain ⟨m, hm1⟩ := hm
  obtain ⟨x, hx⟩ : ∃ x, x = a.height := ⟨_, rfl⟩
  obtain ⟨y, hy⟩ : ∃ y, y = b.height := ⟨_, rfl⟩
  rw [← hx, ← hy] at HN
  rw [← hx] at c0 m
  rw [← hy] at c1 hm1
  have HB := Lib.hid (Below.refl w.heap.size w)
  clear hx hy h1 h2
  go_enter Tryd.func35, Tryd.ntmps35
  go_upto_region 1 with (fail)
  go_quiet (fail)
  replace HB := Lib.hid (below_drewN HB.out nq)
  generalize w.drewN nq = w5 at *
  clear c0 c1
  go_wp2_with (fail)
  go_ret
  rw [HN.out]
  exact ⟨rfl, HB.out⟩
end Go.Proofs.YtadolfacjolbkaaDoor
