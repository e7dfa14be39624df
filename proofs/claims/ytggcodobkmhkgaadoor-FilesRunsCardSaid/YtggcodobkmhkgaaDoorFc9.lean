/- Part 9 of the proof. -/
import Derived.Test.YtggcodobkmhkgaaDoorFc8
namespace Go.Proofs.YtggcodobkmhkgaaDoor
set_option linter.unusedVariables false
set_option linter.unusedSimpArgs false
open Go.RowKit Go.Maps
set_option maxRecDepth 100000
def armE (R : FsR) (n : Int) : Option Nat := if n < 0 then some 1 else if R.down then some 13 else none
def armR (R : FsR) (n : Int) : FsR := if n < 0 then R else if R.down then R else { R with armed := true, left := n.toNat }
def ArmPost (R : FsR) (n : Int) (w : World) (e : Ending) (w' : World) : Prop := e = .returned (errV (armE R n)) ∧ FsAt w' (armR R n) ∧ Keep (Foot R) w w'
set_option maxHeartbeats 1000000 in
theorem arm_any (R : FsR) (w : World) (H : FsAt w R) (n : Int) (hn : n ≤ 9223372036854775807) : Calls Tryd.prog 17 #[.pointer (some ⟨R.pb, 0, none⟩), .int .i64 n] w (ArmPost R n w) := by
  by_cases hneg : n < 0
  · have HR : Hid (armE R n = some 1 ∧ armR R n = R) := Lib.hid ⟨by unfold armE; rw [if_pos hneg], by unfold armR; rw [if_pos hneg]⟩
    have HH := Lib.hid H
    have hd : decide (n < 0) = true := by simpa using hneg
    clear H
    go_enter Tryd.func17, Tryd.ntmps17
    go_wp2_with (fail)
    go_ret
    exact ⟨by rw [HR.out.1]; rfl, by rw [HR.out.2]; exact HH.out, Keep.refl _ _⟩
  · have hc := check_any R w H none 0 0 [] rfl (by simp) (by intro i s h; cases h) (by simp)
    have hd : decide (n < 0) = false := by simpa using hneg
    have hpb := H.pb_lt
    have HH := Lib.hid H
    have f2 : w.frozen? ⟨R.pb, 2, none⟩ = false := H.free 2
    have f3 : w.frozen? ⟨R.pb, 3, none⟩ = false := H.free 3
    have c2 : w.cell? ⟨R.pb, 2, none⟩ = some (.bool R.armed) := by rw [H.cell]; rfl
    have c3 : w.cell? ⟨R.pb, 3, none⟩ = some (.int .i64 R.left) := by rw [H.cell]; rfl
    clear H
    cases hdn : R.down with
    | true =>
      have HR : Hid (armE R n = some 13 ∧ armR R n = R) := Lib.hid ⟨by unfold armE; rw [if_neg hneg, hdn]; rfl, by unfold armR; rw [if_neg hneg, hdn]; rfl⟩
      rw [checkE_ok (by simp), hdn] at hc
      simp only [if_true, errV] at hc
      have HC := Lib.hid hc
      clear hc hdn
      go_enter Tryd.func17, Tryd.ntmps17
      go_wp2_with (go_at_call 49; (with_reducible refine HC.out.mono ?_); rintro e w1 ⟨rfl, rfl⟩)
      go_ret
      exact ⟨by rw [HR.out.1]; rfl, by rw [HR.out.2]; exact HH.out, Keep.refl _ _⟩
    | false =>
      have HR : Hid (armE R n = none ∧ armR R n = { R with armed := true, left := n.toNat }) := Lib.hid ⟨by unfold armE; rw [if_neg hneg, hdn]; rfl, by unfold armR; rw [if_neg hneg, hdn]; rfl⟩
      have HN : Hid (((n.toNat : Nat) : Int) = n) := Lib.hid (Int.toNat_of_nonneg (by omega))
      have HM : Hid (n ≤ 9223372036854775807) := Lib.hid hn
      rw [checkE_ok (by simp), hdn] at hc
      simp only [if_false, errV] at hc
      have HC := Lib.hid hc
      clear hc hdn
      go_enter Tryd.func17, Tryd.ntmps17
      go_wp2_with (go_at_call 49; (with_reducible refine HC.out.mono ?_); rintro e w1 ⟨rfl, rfl⟩)
      go_ret
      refine ⟨by rw [HR.out.1]; rfl, ?_, ?_⟩
      · rw [HR.out.2]
        have h1 := HH.out.set (R' := { R with armed := true }) 2 (.bool true) rfl rfl rfl HH.out.leftOk rfl
        exact h1.set (R' := { R with armed := true, left := n.toNat }) 3 (.int .i64 n) rfl rfl rfl (by show ((n.toNat : Nat) : Int) ≤ _; rw [HN.out]; exact HM.out) (by show _ = fsCells _; unfold fsCells; rw [HN.out]; rfl)
      · have h1 := HH.out.set (R' := { R with armed := true }) 2 (.bool true) rfl rfl rfl HH.out.leftOk rfl
        exact (HH.out.setKeep 2 (.bool true)).trans (h1.setKeep 3 (.int .i64 n)) fun _ _ _ h => h
/-- a step that is counted -/
def stepR (R : FsR) : FsR := { R with steps := R.steps + 1, left := if R.armed then R.left - 1 else R.left }
theorem step_down (R : FsR) (w : World) (H : FsAt w R) (f : Value) (ha : R.armed = true) (hl : R.left = 0) :
    Calls Tryd.prog 51 #[.pointer (some ⟨R.pb, 0, none⟩), f] w fun e w' => e = .returned (.iface 117 (.int .i64 13)) ∧ w' = w.setCell ⟨R.pb, 4, none⟩ (.bool true) := by
  have c2 : w.cell? ⟨R.pb, 2, none⟩ = some (.bool true) := by rw [H.cell, ← ha]; rfl
  have c3 : w.cell? ⟨R.pb, 3, none⟩ = some (.int .i64 0) := by rw [H.cell]; unfold fsCells; rw [hl]; rfl
  have c4 : w.cell? ⟨R.pb, 4, none⟩ = some (.bool R.down) := by rw [H.cell]; rfl
  have f4 : w.frozen? ⟨R.pb, 4, none⟩ = false := H.free 4
  clear H ha hl
  go_enter Tryd.func51, Tryd.ntmps51
  go_wp2_with (fail)
  go_ret
  exact ⟨rfl, rfl⟩
set_option maxHeartbeats 1000000 in
theorem step_any (R : FsR) (w : World) (H : FsAt w R) (hst : R.steps < 4611686018427387904) (hnc : R.armed = true → R.left ≠ 0) (c : Nat) (caps : Array Value) (henter : ∀ args w, (callFunc c args).run Tryd.prog w = .ok (.enter c args) w) (Q : World → Prop)
    (hcall : ∀ w1, FsAt w1 (stepR R) → Keep (fun k _ => k = R.pb) w w1 → Calls Tryd.prog c caps w1 fun e w2 => e = .returned (.tuple #[]) ∧ Q w2) :
    Calls Tryd.prog 51 #[.pointer (some ⟨R.pb, 0, none⟩), .func (.func c) #[] caps] w fun e w' => e = .returned .nilIface ∧ Q w' := by
  have c1 : w.cell? ⟨R.pb, 1, none⟩ = some (.int .i64 R.steps) := by rw [H.cell]; rfl
  have c3 : w.cell? ⟨R.pb, 3, none⟩ = some (.int .i64 R.left) := by rw [H.cell]; rfl
  have f1 : w.frozen? ⟨R.pb, 1, none⟩ = false := H.free 1
  have f3 : w.frozen? ⟨R.pb, 3, none⟩ = false := H.free 3
  have hs1 : (R.steps : Int) < 4611686018427387904 := by omega
  have hs0 : (0 : Int) ≤ R.steps := by omega
  have hl0 : (0 : Int) ≤ R.left := by omega
  have hl1 : (R.left : Int) ≤ 9223372036854775807 := H.leftOk
  cases ha : R.armed with
  | false =>
    have c2 : w.cell? ⟨R.pb, 2, none⟩ = some (.bool false) := by rw [H.cell, ← ha]; rfl
    have HCALL := Lib.hid hcall
    have HF : Hid (FsAt (w.setCell ⟨R.pb, 1, none⟩ (.int .i64 ((R.steps : Int) + 1))) (stepR R)) := Lib.hid (H.set (R' := stepR R) 1 _ rfl rfl rfl (by show ((if R.armed then R.left - 1 else R.left : Nat) : Int) ≤ _; rw [ha]; exact H.leftOk) (by unfold fsCells stepR; simp only [ha]; rfl))
    have HK : Hid (Keep (fun k _ => k = R.pb) w (w.setCell ⟨R.pb, 1, none⟩ (.int .i64 ((R.steps : Int) + 1)))) := Lib.hid (Keep.setCell w R.pb 1 _ _ _ H.own rfl)
    clear hcall H ha hnc
    go_enter Tryd.func51, Tryd.ntmps51
    go_wp2_with (fail)
    refine (HCALL.out _ HF.out HK.out).mono ?_
    rintro e w2 ⟨rfl, hq⟩
    have HQ := Lib.hid hq
    clear hq
    go_wp2_with (fail)
    go_ret
    exact ⟨rfl, HQ.out⟩
  | true =>
    have c2 : w.cell? ⟨R.pb, 2, none⟩ = some (.bool true) := by rw [H.cell, ← ha]; rfl
    have hlp : (0 : Int) < R.left := by have := hnc ha; omega
    have hd : ((R.left : Int) == 0) = false := beq_eq_false_iff_ne.2 (by omega)
    have HCALL := Lib.hid hcall
    have h1 : FsAt (w.setCell ⟨R.pb, 3, none⟩ (.int .i64 ((R.left : Int) - 1))) { R with left := R.left - 1 } :=
      H.set (R' := { R with left := R.left - 1 }) 3 _ rfl rfl rfl (by show ((R.left - 1 : Nat) : Int) ≤ _; omega) (by unfold fsCells; simp only [ha]; rw [show (((R.left - 1 : Nat) : Int)) = (R.left : Int) - 1 by omega]; rfl)
    have h2 : FsAt ((w.setCell ⟨R.pb, 3, none⟩ (.int .i64 ((R.left : Int) - 1))).setCell ⟨R.pb, 1, none⟩ (.int .i64 ((R.steps : Int) + 1))) (stepR R) :=
      h1.set (R' := stepR R) 1 _ rfl rfl rfl (by show ((if R.armed then R.left - 1 else R.left : Nat) : Int) ≤ _; rw [ha]; simp only [if_true]; omega) (by unfold fsCells stepR; simp only [ha]; rfl)
    have HF := Lib.hid h2
    have HK : Hid (Keep (fun k _ => k = R.pb) w ((w.setCell ⟨R.pb, 3, none⟩ (.int .i64 ((R.left : Int) - 1))).setCell ⟨R.pb, 1, none⟩ (.int .i64 ((R.steps : Int) + 1)))) := Lib.hid ((Keep.setCell w R.pb 3 _ _ _ H.own rfl).trans (Keep.setCell _ R.pb 1 _ _ _ h1.own rfl) fun _ _ _ h => h)
    clear hcall H ha hnc h1 h2
    go_enter Tryd.func51, Tryd.ntmps51
    go_wp2_with (fail)
    refine (HCALL.out _ HF.out HK.out).mono ?_
    rintro e w2 ⟨rfl, hq⟩
    have HQ := Lib.hid hq
    clear hq
    go_wp2_with (fail)
    go_ret
    exact ⟨rfl, HQ.out⟩
end Go.Proofs.YtggcodobkmhkgaaDoor
