/- avl's laws: pairs of two slices of the same pairs. -/
import Derived.BigQuiet
import Derived.Test.YtlhfdkkeanchcaaDoorAvKv
namespace Go.Proofs.YtlhfdkkeanchcaaDoor
open Go.RowKit
set_option maxRecDepth 100000
set_option linter.unusedSimpArgs false
set_option linter.unusedVariables false
set_option maxHeartbeats 2000000 in
theorem pairs_same (va vb : Value) (l : List KV) (w : World) (ha : KVIn w va l) (hb : KVIn w vb l) : Calls Tryd.prog 23 #[va, vb] w fun e w' => e = .returned (.bool true) ∧ Below w.heap.size w w' := by
  obtain ⟨aa, ca, rfl⟩ := ha.len
  obtain ⟨ab, cb, rfl⟩ := hb.len
  have hlen : l.length ≤ maxLen := by obtain ⟨_, _, _, _, hm, _⟩ := ha; exact hm
  unfold maxLen at hlen
  have HA := Lib.hid ha
  have HB := Lib.hid hb
  clear ha hb
  go_enter Tryd.func23, Tryd.ntmps23
  go_wp2_with (fail)
  go_loopw [5] (fun x wr => ∃ k : Nat, k ≤ l.length ∧ x = .int .i64 (k : Int) ∧ Hid (Below w.heap.size w wr)) (fun x _ => l.length - (intOf x).toNat)
  case atStart => exact ⟨0, by omega, rfl, Lib.hid (Below.refl _ _)⟩
  case round =>
    obtain ⟨k, hkl, rfl, HBS⟩ := hrel
    by_cases hlt : k < l.length
    · obtain ⟨x, hx⟩ : ∃ x, l[k]? = some x := ⟨l[k], List.getElem?_eq_getElem hlt⟩
      obtain ⟨b1, o1, rfl, l1, p0, p1⟩ := HA.out.at k x hx
      obtain ⟨b2, o2, rfl, l2, q0, q1⟩ := HB.out.at k x hx
      have c0 := (HBS.out.cell (p := ⟨b1, o1 + k * 2, none⟩) l1).trans p0
      have c1 := (HBS.out.cell (p := ⟨b1, o1 + k * 2 + 1, none⟩) l1).trans p1
      have d0 := (HBS.out.cell (p := ⟨b2, o2 + k * 2, none⟩) l2).trans q0
      have d1 := (HBS.out.cell (p := ⟨b2, o2 + k * 2 + 1, none⟩) l2).trans q1
      have hltI : (k : Int) < (l.length : Int) := by omega
      clear p0 p1 q0 q1 hx
      go_upto_region 6 with (fail)
      go_quiet (fail)
      replace HBS := Lib.hid (below_drewN HBS.out nq)
      generalize wr.drewN nq = w5 at *
      clear c0 c1 d0 d1
      go_wp2_with (fail)
      go_roundw
      case rel => exact ⟨k + 1, by omega, by go_num, HBS⟩
      case measure => simp [intOf]; omega
    · obtain rfl : k = l.length := by omega
      go_wp2_with (fail)
      go_ret
      exact ⟨rfl, HBS.out⟩
end Go.Proofs.YtlhfdkkeanchcaaDoor
