/- Part 2 of the proof. -/
import Derived.Shelf.Small.Wraps
import Derived.Shelf.Strings.Split
import Derived.Test.YtejglhlodfhgkaaGreatDoorProg
import Derived.StillTailTactics
import Derived.Deep.QuietTactic
import Derived.BigQuiet
import Derived.Deep.MidRow
import Derived.Laws.CopyOwn
import Derived.Deep.WholeRow
import Derived.Lib.SliceRun
import Derived.Deep.CutRange
import Derived.Test.YtejglhlodfhgkaaGreatDoorXv1
namespace Go.Proofs.YtejglhlodfhgkaaGreatDoor
set_option linter.unusedVariables false
set_option linter.unusedSimpArgs false
open Go.RowKit
set_option maxRecDepth 100000
set_option linter.unusedSimpArgs false
set_option linter.unusedVariables false
/-- what lies in memory: the trace's block q, the result's behind it -/
structure IoM (T : TypeId) (w : World) (q : Nat) (pv : Value) (b : ByteArray) (wr : World) : Prop where
  at_ : wr.heap[q]? = some (.cells (trC pv b) T (0, 0))
  res : wr.heap[q + 1]? = some (.cells (trC (.slice none 0 0) { data := #[] }) T (0, 0))
  below : Below w.heap.size w wr
  q0 : w.heap.size ≤ q
theorem hlt14 {w : World} {g : Nat} {o : Obj} (h : w.heap[g]? = some o) : g < w.heap.size := (Array.getElem?_eq_some_iff.1 h).1
section
variable {T : TypeId} {w : World} {q : Nat} {pv : Value} {b : ByteArray} {wr wr' : World}
theorem IoM.call (m : IoM T w q pv b wr) (hb : Below wr.heap.size wr wr') : IoM T w q pv b wr' := ⟨(hb.block _ (hlt14 m.at_)).trans m.at_, (hb.block _ (hlt14 m.res)).trans m.res, m.below.trans (hb.mono m.below.size), m.q0⟩
theorem IoM.grow (m : IoM T w q pv b wr) {own : Option Nat} (hg : wr.grownBy wr' own) (ho : ∀ k, own = some k → q + 1 < k) : IoM T w q pv b wr' :=
  ⟨(hg.block q (hlt14 m.at_) (fun e => by have := ho q e.symm; omega)).trans m.at_, (hg.block (q + 1) (hlt14 m.res) (fun e => by have := ho (q + 1) e.symm; omega)).trans m.res, m.below.trans ⟨hg.os, hg.tape, hg.output, hg.size, fun k hk => hg.block k (Nat.lt_of_lt_of_le hk m.below.size) (fun e => by have := ho k e.symm; have := m.q0; omega)⟩, m.q0⟩
theorem IoM.only (m : IoM T w q pv b wr) {g : Nat} (ho : Only g wr wr') (hg : q + 1 < g) : IoM T w q pv b wr' :=
  ⟨(ho.block q (hlt14 m.at_) (by omega)).trans m.at_, (ho.block (q + 1) (hlt14 m.res) (by omega)).trans m.res, m.below.trans (ho.below (by have := m.q0; omega) m.below.size), m.q0⟩
theorem IoM.c0 (m : IoM T w q pv b wr) : wr.cell? ⟨q, 0, none⟩ = some pv := cell_of_row _ _ _ _ _ _ m.at_
theorem IoM.c1 (m : IoM T w q pv b wr) : wr.cell? ⟨q, 1, none⟩ = some (.string b) := cell_of_row _ _ _ _ _ _ m.at_
end
theorem SsIn.only {w w' : World} {v : Value} {l : List ByteArray} {g : Nat} (h : SsIn w v l) (ho : Only g w w') (hn : ∀ k, v.ownBlock = some k → k ≠ g) : SsIn w' v l := by
  obtain ⟨a, cap, rfl, h1, h2, h3⟩ := h
  refine ⟨a, cap, rfl, h1, h2, h3.imp id ?_⟩
  rintro ⟨ab, ao, rfl, hlt, hx⟩
  exact ⟨ab, ao, rfl, Nat.lt_of_lt_of_le hlt ho.size, fun i s hi => (World.cell?_of_block (ho.block ab hlt (hn ab rfl))).trans (hx i s hi)⟩
end Go.Proofs.YtejglhlodfhgkaaGreatDoor
namespace Go.Proofs.YtejglhlodfhgkaaGreatDoor
set_option linter.unusedVariables false
set_option linter.unusedSimpArgs false
open Go.RowKit
set_option maxRecDepth 100000
set_option linter.unusedSimpArgs false
set_option linter.unusedVariables false
theorem SsIn.tail {w : World} {a : Option Addr} {n cap : Nat} {x : ByteArray} {t : List ByteArray} (h : SsIn w (.slice a n cap) (x :: t)) : SsIn w (.slice (cutA a cap 1) (n - 1) (cap - 1)) t := by
  obtain ⟨a', c', e, h1, h2, h3⟩ := h
  injection e with e1 e2 e3
  subst e1 e2 e3
  simp only [List.length_cons, Nat.add_sub_cancel] at *
  refine ⟨_, _, rfl, by omega, by omega, ?_⟩
  rcases h3 with h3 | ⟨ab, ao, rfl, hlt, hx⟩
  · cases h3
  · by_cases hc : cap = 1
    · left
      exact List.eq_nil_of_length_eq_zero (by omega)
    · right
      refine ⟨ab, ao + 1, by unfold cutA; rw [if_neg hc]; rfl, hlt, fun i s hi => ?_⟩
      have := hx (i + 1) s (by simpa using hi)
      rwa [show ao + 1 + i = ao + (i + 1) from by omega]
end Go.Proofs.YtejglhlodfhgkaaGreatDoor
namespace Go.Proofs.YtejglhlodfhgkaaGreatDoor
set_option linter.unusedVariables false
set_option linter.unusedSimpArgs false
open Go.RowKit
set_option maxRecDepth 100000
set_option linter.unusedSimpArgs false
set_option linter.unusedVariables false
end Go.Proofs.YtejglhlodfhgkaaGreatDoor
namespace Go.Proofs.YtejglhlodfhgkaaGreatDoor
set_option linter.unusedVariables false
set_option linter.unusedSimpArgs false
open Go.RowKit
set_option maxRecDepth 100000
set_option linter.unusedSimpArgs false
set_option linter.unusedVariables false
def smB (c : Int) : Bool := decide (97 ≤ c ∧ c ≤ 122)
def dgB (c : Int) : Bool := decide (48 ≤ c ∧ c ≤ 57)
theorem let_fin : ∀ n : Fin 256, letL.contains (UInt8.ofNat n.val) = smB (n.val : Int) := by decide +kernel
theorem aln_fin : ∀ n : Fin 256, alnL.contains (UInt8.ofNat n.val) = (smB (n.val : Int) || dgB (n.val : Int)) := by decide +kernel
theorem let_byte (b : UInt8) : letL.contains b = smB (b.toNat : Int) := by
  have := let_fin ⟨b.toNat, b.toNat_lt⟩
  simpa using this
theorem aln_byte (b : UInt8) : alnL.contains b = (smB (b.toNat : Int) || dgB (b.toNat : Int)) := by
  have := aln_fin ⟨b.toNat, b.toNat_lt⟩
  simpa using this
theorem get14 (s : ByteArray) (k : Nat) (h : k < s.size) : s.data.toList[k]? = some s[k] := by
  rw [Array.getElem?_toList]
  exact Array.getElem?_eq_getElem h
theorem cons_bad {s : ByteArray} {L : List UInt8} {k : Nat} (h : k < s.size) (hc : L.contains s[k] = false) : consB s L = false := by
  unfold consB
  rw [List.all_eq_false]
  exact ⟨s[k], List.mem_of_getElem? (get14 s k h), by rw [hc]; simp⟩
theorem cons_good {s : ByteArray} {L : List UInt8} (h : ∀ i (hi : i < s.size), L.contains s[i] = true) : consB s L = true := by
  unfold consB
  rw [List.all_eq_true]
  intro b hb
  obtain ⟨i, hi, e⟩ := List.getElem_of_mem hb
  rw [size14] at hi
  have h1 := get14 s i hi
  rw [List.getElem?_eq_getElem (by rw [size14]; exact hi)] at h1
  have h2 : b = s[i] := by rw [← e]; exact Option.some.inj h1
  rw [h2]
  exact h i hi
theorem rsmall_any (c : Int) (w : World) : Calls Tryz.prog 189 #[.int .u8 c] w fun e w' => e = .returned (.bool (smB c)) ∧ w' = w := by
  by_cases h1 : 97 ≤ c
  · by_cases h2 : c ≤ 122
    · rw [show smB c = true from decide_eq_true ⟨h1, h2⟩]
      go_enter Tryz.func189, Tryz.ntmps189
      go_wp2_with (fail)
      go_ret
      exact ⟨rfl, rfl⟩
    · rw [show smB c = false from decide_eq_false (fun h => h2 h.2)]
      go_enter Tryz.func189, Tryz.ntmps189
      go_wp2_with (fail)
      go_ret
      exact ⟨rfl, rfl⟩
  · rw [show smB c = false from decide_eq_false (fun h => h1 h.1)]
    go_enter Tryz.func189, Tryz.ntmps189
    go_wp2_with (fail)
    go_ret
    exact ⟨rfl, rfl⟩
theorem rdigit_any (c : Int) (w : World) : Calls Tryz.prog 190 #[.int .u8 c] w fun e w' => e = .returned (.bool (dgB c)) ∧ w' = w := by
  by_cases h1 : 48 ≤ c
  · by_cases h2 : c ≤ 57
    · rw [show dgB c = true from decide_eq_true ⟨h1, h2⟩]
      go_enter Tryz.func190, Tryz.ntmps190
      go_wp2_with (fail)
      go_ret
      exact ⟨rfl, rfl⟩
    · rw [show dgB c = false from decide_eq_false (fun h => h2 h.2)]
      go_enter Tryz.func190, Tryz.ntmps190
      go_wp2_with (fail)
      go_ret
      exact ⟨rfl, rfl⟩
  · rw [show dgB c = false from decide_eq_false (fun h => h1 h.1)]
    go_enter Tryz.func190, Tryz.ntmps190
    go_wp2_with (fail)
    go_ret
    exact ⟨rfl, rfl⟩
end Go.Proofs.YtejglhlodfhgkaaGreatDoor
namespace Go.Proofs.YtejglhlodfhgkaaGreatDoor
set_option linter.unusedVariables false
set_option linter.unusedSimpArgs false
open Go.RowKit
set_option maxRecDepth 100000
set_option linter.unusedSimpArgs false
set_option linter.unusedVariables false
theorem ext1Z (s : ByteArray) (h : 0 < s.size) : consB (s.extract 0 1) letL = letL.contains s[0] := by
  have e : (s.extract 0 1).data.toList = [s[0]] := by
    have h0 := get14 s 0 h
    rw [ByteArray.data_extract]
    rcases s with ⟨⟨l⟩⟩
    cases l with
    | nil => exact absurd h (by simp [ByteArray.size])
    | cons b l =>
      simp only [List.getElem?_cons_zero, Option.some.injEq] at h0
      rw [← h0]
      simp
  unfold consB
  rw [e]
  simp
def BsK (s : ByteArray) (k : Nat) : Prop := ∀ i (hi : i < s.size), i < k → smB (s[i].toNat : Int) = true ∨ (0 < i ∧ dgB (s[i].toNat : Int) = true)
set_option maxHeartbeats 4000000 in
theorem rbase_any (s : ByteArray) (w : World) (hs : s.size ≤ 9223372036854775807) : Calls Tryz.prog 131 #[.string s] w fun e w' => e = .returned (.bool (baseB s)) ∧ w' = w := by
  have HS := Lib.hid (fun c w => rsmall_any c w)
  have HD := Lib.hid (fun c w => rdigit_any c w)
  have hsI : (s.size : Int) ≤ 9223372036854775807 := by omega
  obtain ⟨r, hr⟩ : ∃ r, r = baseB s := ⟨_, rfl⟩
  rw [← hr]
  have HR := Lib.hid hr
  clear hr
  go_enter Tryz.func131, Tryz.ntmps131
  go_wp2_with (fail)
  go_loopw [3] (fun i wr => ∃ k : Nat, k ≤ s.size ∧ i = .int .i64 k ∧ wr = w ∧ Hid (BsK s k)) (fun i _ => s.size - (intOf i).toNat)
  case atStart => exact ⟨0, Nat.zero_le _, rfl, rfl, Lib.hid (fun i _ h => by omega)⟩
  case round =>
    obtain ⟨k, hk, rfl, rfl, H⟩ := hrel
    by_cases hlt : k < s.size
    · have hltI : (k : Int) < (s.size : Int) := by omega
      have HS2 := Lib.hid (HS.out (s[k].toNat : Int))
      have HD2 := Lib.hid (HD.out (s[k].toNat : Int))
      obtain ⟨x, hx⟩ : ∃ x, x = smB (s[k].toNat : Int) := ⟨_, rfl⟩
      obtain ⟨y, hy⟩ : ∃ x, x = dgB (s[k].toNat : Int) := ⟨_, rfl⟩
      have HX := Lib.hid hx
      have HY := Lib.hid hy
      rw [← hx] at HS2
      rw [← hy] at HD2
      clear hx hy
      have HGD := Lib.hid (fun (h : x = true ∨ (0 < k ∧ y = true)) => show BsK s (k + 1) from fun i hi hik => by
        by_cases e : i = k
        · subst e; rw [← HX.out, ← HY.out]; exact h
        · exact H.out i hi (by omega))
      have HBD := Lib.hid (fun (hx0 : x = false) (h : k = 0 ∨ y = false) => show r = false from by
        rw [HR.out]
        unfold baseB
        rcases h with h | h
        · subst h
          rw [ext1Z s hlt, let_byte, ← HX.out, hx0]; simp
        · rw [cons_bad (L := alnL) hlt (by rw [aln_byte, ← HX.out, ← HY.out, hx0, h]; rfl)]; simp)
      clear H
      cases x with
      | true =>
        have HN := Lib.hid (HGD.out (.inl rfl))
        go_wp2_with (go_at_call 189; (with_reducible refine (HS2.out _).mono ?_); rintro e w1 ⟨rfl, rfl⟩)
        go_roundw
        case rel => exact ⟨k + 1, by omega, by go_num, by trivial, HN⟩
        case measure => simp [intOf]; omega
      | false =>
        by_cases h0 : 0 < k
        · have h0I : (0 : Int) < (k : Int) := by omega
          cases y with
          | true =>
            have HN := Lib.hid (HGD.out (.inr ⟨h0, rfl⟩))
            go_wp2_with (first
              | (go_at_call 189; (with_reducible refine (HS2.out _).mono ?_); rintro e w1 ⟨rfl, rfl⟩)
              | (go_at_call 190; (with_reducible refine (HD2.out _).mono ?_); rintro e w1 ⟨rfl, rfl⟩))
            go_roundw
            case rel => exact ⟨k + 1, by omega, by go_num, by trivial, HN⟩
            case measure => simp [intOf]; omega
          | false =>
            have HN := Lib.hid (HBD.out rfl (.inr rfl))
            go_wp2_with (first
              | (go_at_call 189; (with_reducible refine (HS2.out _).mono ?_); rintro e w1 ⟨rfl, rfl⟩)
              | (go_at_call 190; (with_reducible refine (HD2.out _).mono ?_); rintro e w1 ⟨rfl, rfl⟩))
            go_ret
            exact ⟨by rw [HN.out]; rfl, rfl⟩
        · have hk0 : k = 0 := by omega
          have HN := Lib.hid (HBD.out rfl (.inl hk0))
          clear HBD HGD HX HY HD2
          have h0I : ¬ (0 : Int) < (k : Int) := by omega
          clear hk0
          go_wp2_with (go_at_call 189; (with_reducible refine (HS2.out _).mono ?_); rintro e w1 ⟨rfl, rfl⟩)
          go_ret
          exact ⟨by rw [HN.out]; rfl, rfl⟩
    · obtain rfl : k = s.size := by omega
      have HRR := Lib.hid (show r = decide (3 ≤ s.size ∧ s.size ≤ 16) from by
        rw [HR.out]
        unfold baseB
        by_cases h0 : 0 < s.size
        · have h1 : consB (s.extract 0 1) letL = true := by
            rw [ext1Z s h0, let_byte]
            rcases H.out 0 h0 h0 with h | h
            · exact h
            · omega
          have h2 : consB s alnL = true := cons_good fun i hi => by
            rw [aln_byte]
            rcases H.out i hi hi with h | h
            · rw [h]; rfl
            · rw [h.2, Bool.or_true]
          rw [h1, h2]; simp
        · rw [decide_eq_false (by omega)]; rfl)
      by_cases h1 : 3 ≤ s.size
      · have h1I : (2 : Int) < (s.size : Int) := by omega
        by_cases h2 : s.size ≤ 16
        · have h2I : (s.size : Int) < 17 := by omega
          have HF := Lib.hid (show r = true from by rw [HRR.out]; exact decide_eq_true ⟨h1, h2⟩)
          go_wp2_with (fail)
          go_ret
          exact ⟨by rw [HF.out]; rfl, rfl⟩
        · have h2I : ¬ (s.size : Int) < 17 := by omega
          have HF := Lib.hid (show r = false from by rw [HRR.out]; exact decide_eq_false (fun h => h2 h.2))
          go_wp2_with (fail)
          go_ret
          exact ⟨by rw [HF.out]; rfl, rfl⟩
      · have h1I : ¬ (2 : Int) < (s.size : Int) := by omega
        have HF := Lib.hid (show r = false from by rw [HRR.out]; exact decide_eq_false (fun h => h1 h.1))
        go_wp2_with (fail)
        go_ret
        exact ⟨by rw [HF.out]; rfl, rfl⟩
end Go.Proofs.YtejglhlodfhgkaaGreatDoor
namespace Go.Proofs
set_option linter.unusedVariables false
set_option linter.unusedSimpArgs false
open Go.Shelf
def Tryz.lays103_ren : Go.Shelf.Ren := ⟨fun | 103 => 231 | 210 => 252 | 206 => 222 | n => n, fun | 9 => 9 | 4 => 4 | 24 => 157 | 3 => 3 | n => n, fun | n => n⟩
theorem Tryz.lays103 : Go.Proofs.Lays.n103 Tryz.prog Tryz.lays103_ren := {
  mixed := by kernel_rfl
  f103 := Tryz.func231.trans (congrArg some (by kernel_rfl))
  f206 := Tryz.func222.trans (congrArg some (by kernel_rfl))
  f210 := Tryz.func252.trans (congrArg some (by kernel_rfl))
  t3 := Tryz.underlying3
  a3 := Tryz.isAgg3
  z3 := Tryz.sizeOf3
  v3 := Tryz.zeroValue3
  t4 := Tryz.underlying4
  a4 := Tryz.isAgg4
  z4 := Tryz.sizeOf4
  v4 := Tryz.zeroValue4
  t9 := Tryz.underlying9
  a9 := Tryz.isAgg9
  z9 := Tryz.sizeOf9
  v9 := Tryz.zeroValue9
  t24 := Tryz.underlying157
  a24 := Tryz.isAgg157
  z24 := Tryz.sizeOf157
  v24 := Tryz.zeroValue157 }
end Go.Proofs
namespace Go.Proofs.YtejglhlodfhgkaaGreatDoor
set_option linter.unusedVariables false
set_option linter.unusedSimpArgs false
open Go.RowKit
def rotI (x r : Int) : Int := bits BinOp.or IntKind.u32 (x * 2 ^ r.toNat % 4294967296) (x / 2 ^ (32 - r).toNat)
set_option maxHeartbeats 400000 in
theorem rot_any (x k : Int) (r : Int) (hb : bits .and .u64 (IntKind.u64.wrap k) 31 = r) (h0 : 0 ≤ r) (h1 : r ≤ 31) (w : World) :
    Calls Tryz.prog 234 #[.int .u32 x, .int .i64 k] w fun e w' => e = .returned (.int .u32 (rotI x r)) ∧ w = w' := by
  go_enter Tryz.func234, Tryz.ntmps234
  go_wp2
  go_ret
  exact ⟨rfl, rfl⟩
theorem rot2 (x : Int) (w : World) : Calls Tryz.prog 234 #[.int .u32 x, .int .i64 (-2)] w fun e w' => e = .returned (.int .u32 (rotI x 30)) ∧ w = w' :=
  rot_any x (-2) 30 (by kernel_rfl) (by decide) (by decide) w
theorem rot6 (x : Int) (w : World) : Calls Tryz.prog 234 #[.int .u32 x, .int .i64 (-6)] w fun e w' => e = .returned (.int .u32 (rotI x 26)) ∧ w = w' :=
  rot_any x (-6) 26 (by kernel_rfl) (by decide) (by decide) w
theorem rot7 (x : Int) (w : World) : Calls Tryz.prog 234 #[.int .u32 x, .int .i64 (-7)] w fun e w' => e = .returned (.int .u32 (rotI x 25)) ∧ w = w' :=
  rot_any x (-7) 25 (by kernel_rfl) (by decide) (by decide) w
theorem rot11 (x : Int) (w : World) : Calls Tryz.prog 234 #[.int .u32 x, .int .i64 (-11)] w fun e w' => e = .returned (.int .u32 (rotI x 21)) ∧ w = w' :=
  rot_any x (-11) 21 (by kernel_rfl) (by decide) (by decide) w
theorem rot13 (x : Int) (w : World) : Calls Tryz.prog 234 #[.int .u32 x, .int .i64 (-13)] w fun e w' => e = .returned (.int .u32 (rotI x 19)) ∧ w = w' :=
  rot_any x (-13) 19 (by kernel_rfl) (by decide) (by decide) w
theorem rot17 (x : Int) (w : World) : Calls Tryz.prog 234 #[.int .u32 x, .int .i64 (-17)] w fun e w' => e = .returned (.int .u32 (rotI x 15)) ∧ w = w' :=
  rot_any x (-17) 15 (by kernel_rfl) (by decide) (by decide) w
theorem rot18 (x : Int) (w : World) : Calls Tryz.prog 234 #[.int .u32 x, .int .i64 (-18)] w fun e w' => e = .returned (.int .u32 (rotI x 14)) ∧ w = w' :=
  rot_any x (-18) 14 (by kernel_rfl) (by decide) (by decide) w
theorem rot19 (x : Int) (w : World) : Calls Tryz.prog 234 #[.int .u32 x, .int .i64 (-19)] w fun e w' => e = .returned (.int .u32 (rotI x 13)) ∧ w = w' :=
  rot_any x (-19) 13 (by kernel_rfl) (by decide) (by decide) w
theorem rot22 (x : Int) (w : World) : Calls Tryz.prog 234 #[.int .u32 x, .int .i64 (-22)] w fun e w' => e = .returned (.int .u32 (rotI x 10)) ∧ w = w' :=
  rot_any x (-22) 10 (by kernel_rfl) (by decide) (by decide) w
theorem rot25 (x : Int) (w : World) : Calls Tryz.prog 234 #[.int .u32 x, .int .i64 (-25)] w fun e w' => e = .returned (.int .u32 (rotI x 7)) ∧ w = w' :=
  rot_any x (-25) 7 (by kernel_rfl) (by decide) (by decide) w
/-- word i of a block -/
def wordB (bl : Nat → Int) (k : Nat) : Int :=
  bits BinOp.or IntKind.u32 (bits BinOp.or IntKind.u32 (bits BinOp.or IntKind.u32 (IntKind.u32.wrap (IntKind.u32.wrap (bl (4 * k)) * 16777216))
    (IntKind.u32.wrap (IntKind.u32.wrap (bl (4 * k + 1)) * 65536))) (IntKind.u32.wrap (IntKind.u32.wrap (bl (4 * k + 2)) * 256))) (IntKind.u32.wrap (bl (4 * k + 3)))
def expA (bl : Nat → Int) : Nat → Nat → Int
  | 0 => fun _ => 0
  | k + 1 => upd (expA bl k) k (wordB bl k)
/-- the word behind 16 others that begin at k -/
def nextW (e : Nat → Int) (k : Nat) : Int :=
  (e k + bits BinOp.xor IntKind.u32 (bits BinOp.xor IntKind.u32 (rotI (e (k + 1)) 25) (rotI (e (k + 1)) 14)) (e (k + 1) / 8) + e (k + 9) + bits BinOp.xor IntKind.u32 (bits BinOp.xor IntKind.u32 (rotI (e (k + 14)) 15) (rotI (e (k + 14)) 13)) (e (k + 14) / 1024)) % 4294967296
def expB (bl : Nat → Int) : Nat → Nat → Int
  | 0 => expA bl 16
  | k + 1 => upd (expB bl k) (k + 16) (nextW (expB bl k) k)
theorem zeros64 : (#[Value.int IntKind.u32 0, Value.int IntKind.u32 0, Value.int IntKind.u32 0, Value.int IntKind.u32 0, Value.int IntKind.u32 0, Value.int IntKind.u32 0, Value.int IntKind.u32 0, Value.int IntKind.u32 0,Value.int IntKind.u32 0, Value.int IntKind.u32 0, Value.int IntKind.u32 0, Value.int IntKind.u32 0, Value.int IntKind.u32 0, Value.int IntKind.u32 0, Value.int IntKind.u32 0, Value.int IntKind.u32 0,Value.int IntKind.u32 0, Value.int IntKind.u32 0, Value.int IntKind.u32 0, Value.int IntKind.u32 0, Value.int IntKind.u32 0, Value.int IntKind.u32 0, Value.int IntKind.u32 0, Value.int IntKind.u32 0,Value.int IntKind.u32 0, Value.int IntKind.u32 0, Value.int IntKind.u32 0, Value.int IntKind.u32 0, Value.int IntKind.u32 0, Value.int IntKind.u32 0, Value.int IntKind.u32 0, Value.int IntKind.u32 0,Value.int IntKind.u32 0, Value.int IntKind.u32 0, Value.int IntKind.u32 0, Value.int IntKind.u32 0, Value.int IntKind.u32 0, Value.int IntKind.u32 0, Value.int IntKind.u32 0, Value.int IntKind.u32 0,Value.int IntKind.u32 0, Value.int IntKind.u32 0, Value.int IntKind.u32 0, Value.int IntKind.u32 0, Value.int IntKind.u32 0, Value.int IntKind.u32 0, Value.int IntKind.u32 0, Value.int IntKind.u32 0,Value.int IntKind.u32 0, Value.int IntKind.u32 0, Value.int IntKind.u32 0, Value.int IntKind.u32 0, Value.int IntKind.u32 0, Value.int IntKind.u32 0, Value.int IntKind.u32 0, Value.int IntKind.u32 0,Value.int IntKind.u32 0, Value.int IntKind.u32 0, Value.int IntKind.u32 0, Value.int IntKind.u32 0, Value.int IntKind.u32 0, Value.int IntKind.u32 0, Value.int IntKind.u32 0, Value.int IntKind.u32 0] : Array Value) = rowOf .u32 64 (fun _ => 0) := by rfl
set_option maxRecDepth 100000 in
set_option maxHeartbeats 400000 in
theorem expand_any (bl : Nat → Int) (w : World) :
    Calls Tryz.prog 233 #[.agg (rowOf .u8 64 bl)] w fun e w' => e = .returned (.agg (rowOf .u32 64 (expB bl 48))) ∧ Below w.heap.size w w' := by
  go_enter Tryz.func233, Tryz.ntmps233
  go_wp2
  rw [zeros64]
  have hR1 := (((RowAt.new w .u8 64 280 bl).alloc (.cells (rowOf .u32 64 (fun _ => 0)) 216)).alloc (.cells (rowOf .u32 64 (fun _ => 0)) 216))
  have hR2 := ((RowAt.new (w.alloc (.cells (rowOf .u8 64 bl) 280)) .u32 64 216 (fun _ => 0)).alloc (.cells (rowOf .u32 64 (fun _ => 0)) 216))
  have hR3 := (RowAt.new ((w.alloc (.cells (rowOf .u8 64 bl) 280)).alloc (.cells (rowOf .u32 64 (fun _ => 0)) 216)) .u32 64 216 (fun _ => 0))
  have hB : Below w.heap.size w (((w.alloc (.cells (rowOf .u8 64 bl) 280)).alloc (.cells (rowOf .u32 64 (fun _ => 0)) 216)).alloc (.cells (rowOf .u32 64 (fun _ => 0)) 216)) :=
    (((Below.refl _ _).alloc (Nat.le_refl _) _).alloc (by simp) _).alloc (by simp; omega) _
  simp at hR2 hR3
  go_loopw [10] (fun i wr => ∃ k : Nat, k ≤ 16 ∧ i = .int .i64 k ∧ RowAt wr w.heap.size .u8 64 280 bl ∧ RowAt wr (w.heap.size + 1) .u32 64 216 (fun _ => 0) ∧ RowAt wr (w.heap.size + 1 + 1) .u32 64 216 (expA bl k) ∧ Below w.heap.size w wr)
    (fun i _ => 16 - (intOf i).toNat)
  case atStart => exact ⟨0, by omega, rfl, hR1, hR2, hR3, hB⟩
  case round =>
    clear hR1 hR2 hR3 hB
    obtain ⟨k, hk, rfl, R1, R2, R3, HB⟩ := hrel
    by_cases hlt : k < 16
    · have c0 := R1.cell (4 * k) (by omega)
      have c1 := R1.cell (4 * k + 1) (by omega)
      have c2 := R1.cell (4 * k + 2) (by omega)
      have c3 := R1.cell (4 * k + 3) (by omega)
      have f0 := R3.free k
      go_wp2
      have m0 : IntKind.i64.wrap (4 * (k : Int)) = 4 * k := IntWalk.i64_in _ (by omega)
      have m1 : IntKind.i64.wrap (4 * (k : Int) + 1) = 4 * k + 1 := IntWalk.i64_in _ (by omega)
      have m2 : IntKind.i64.wrap (4 * (k : Int) + 2) = 4 * k + 2 := IntWalk.i64_in _ (by omega)
      have m3 : IntKind.i64.wrap (4 * (k : Int) + 3) = 4 * k + 3 := IntWalk.i64_in _ (by omega)
      have n0 : (4 * (k : Int)).toNat = 4 * k := by omega
      have n1 : (4 * (k : Int) + 1).toNat = 4 * k + 1 := by omega
      have n2 : (4 * (k : Int) + 2).toNat = 4 * k + 2 := by omega
      have n3 : (4 * (k : Int) + 3).toNat = 4 * k + 3 := by omega
      have p0 : 0 ≤ (4 * (k : Int)) := by omega
      have p1 : 0 ≤ (4 * (k : Int) + 1) := by omega
      have p2 : 0 ≤ (4 * (k : Int) + 2) := by omega
      have p3 : 0 ≤ (4 * (k : Int) + 3) := by omega
      have q0 : 4 * (k : Int) < 64 := by omega
      have q1 : 4 * (k : Int) + 1 < 64 := by omega
      have q2 : 4 * (k : Int) + 2 < 64 := by omega
      have q3 : 4 * (k : Int) + 3 < 64 := by omega
      have q4 : (k : Int) < 64 := by omega
      go_still_tail 31, (by kernel_rfl)
      change wpList _ _ _ _ _ wr.drew
      clear m0 m1 m2 m3 n0 n1 n2 n3 p0 p1 p2 p3 q0 q1 q2 q3 c0 c1 c2 c3 f0
      replace R1 : RowAt wr.drew w.heap.size .u8 64 280 bl := R1
      replace R2 : RowAt wr.drew (w.heap.size + 1) .u32 64 216 (fun _ => 0) := R2
      replace R3 : RowAt wr.drew (w.heap.size + 1 + 1) .u32 64 216 (expA bl k) := R3
      replace HB := HB.drew
      generalize wr.drew = w2 at *
      have f0 := R3.free k
      have c0 := R3.cell k (by omega)
      go_wp2
      go_roundw
      case rel => exact ⟨k + 1, by omega, by go_num, R1.other _ _ (by simp; omega), R2.other _ _ (by simp), R3.set k _, HB.setCell (by simp; omega) _⟩
      case measure => simp [intOf]; omega
    · have H16 := Lib.hid (show k = 16 by omega)
      replace R3 : RowAt wr (w.heap.size + 1 + 1) .u32 64 216 (expA bl 16) := by rw [← H16.out]; exact R3
      go_wp2
      go_loopw [45] (fun i wr => ∃ k : Nat, k ≤ 48 ∧ i = .int .i64 k ∧ RowAt wr w.heap.size .u8 64 280 bl ∧ RowAt wr (w.heap.size + 1) .u32 64 216 (fun _ => 0) ∧ RowAt wr (w.heap.size + 1 + 1) .u32 64 216 (expB bl k) ∧ Below w.heap.size w wr)
        (fun i _ => 48 - (intOf i).toNat)
      case atStart => exact ⟨0, by omega, rfl, R1, R2, R3, HB⟩
      case round =>
        clear R1 R2 R3 HB hk hlt
        obtain ⟨q, hk, rfl, R1, R2, R3, HB⟩ := hrel
        by_cases hlt : q < 48
        · have c0 := R3.cell (q + 1) (by omega)
          have c1 := R3.cell (q + 14) (by omega)
          have c2 := R3.cell q (by omega)
          have c3 := R3.cell (q + 9) (by omega)
          have c4 := R3.cell (q + 16) (by omega)
          have f0 := R3.free (q + 16)
          go_wp2
          have m0 : IntKind.i64.wrap ((q : Int) + 1) = q + 1 := IntWalk.i64_in _ (by omega)
          have m1 : IntKind.i64.wrap ((q : Int) + 14) = q + 14 := IntWalk.i64_in _ (by omega)
          have n0 : ((q : Int) + 1).toNat = q + 1 := by omega
          have n1 : ((q : Int) + 14).toNat = q + 14 := by omega
          have p0 : 0 ≤ ((q : Int) + 1) := by omega
          have p1 : 0 ≤ ((q : Int) + 14) := by omega
          have q0 : (q : Int) + 1 < 64 := by omega
          have q1 : (q : Int) + 14 < 64 := by omega
          go_quiet (fail)
          go_wp2_with (first | (go_at_call 234; (with_reducible refine (rot7 _ _).mono ?_); rintro e w' ⟨rfl, rfl⟩) | (go_at_call 234; (with_reducible refine (rot18 _ _).mono ?_); rintro e w' ⟨rfl, rfl⟩) | (go_at_call 234; (with_reducible refine (rot17 _ _).mono ?_); rintro e w' ⟨rfl, rfl⟩) | (go_at_call 234; (with_reducible refine (rot19 _ _).mono ?_); rintro e w' ⟨rfl, rfl⟩))
          clear m0 m1 n0 n1 p0 p1 q0 q1 c0 c1 c2 c3 c4 f0
          replace R1 : RowAt (wr.drewN nq) w.heap.size .u8 64 280 bl := R1
          replace R2 : RowAt (wr.drewN nq) (w.heap.size + 1) .u32 64 216 (fun _ => 0) := R2
          replace R3 : RowAt (wr.drewN nq) (w.heap.size + 1 + 1) .u32 64 216 (expB bl q) := R3
          replace HB : Below w.heap.size w (wr.drewN nq) := ⟨HB.os, HB.tape, HB.output, HB.size, HB.block⟩
          generalize wr.drewN nq = w2 at *
          have c2 := R3.cell q (by omega)
          have c3 := R3.cell (q + 9) (by omega)
          have m0 : IntKind.i64.wrap ((q : Int) + 16) = q + 16 := IntWalk.i64_in _ (by omega)
          have m1 : IntKind.i64.wrap ((q : Int) + 9) = q + 9 := IntWalk.i64_in _ (by omega)
          have n0 : ((q : Int) + 16).toNat = q + 16 := by omega
          have n1 : ((q : Int) + 9).toNat = q + 9 := by omega
          have p0 : 0 ≤ ((q : Int) + 16) := by omega
          have p1 : 0 ≤ ((q : Int) + 9) := by omega
          have q0 : (q : Int) + 16 < 64 := by omega
          have q1 : (q : Int) + 9 < 64 := by omega
          have q2 : (q : Int) < 64 := by omega
          go_still_tail 15, (by kernel_rfl)
          change wpList _ _ _ _ _ w2.drew
          clear m0 m1 n0 n1 p0 p1 q0 q1 q2 c2 c3
          replace R1 : RowAt w2.drew w.heap.size .u8 64 280 bl := R1
          replace R2 : RowAt w2.drew (w.heap.size + 1) .u32 64 216 (fun _ => 0) := R2
          replace R3 : RowAt w2.drew (w.heap.size + 1 + 1) .u32 64 216 (expB bl q) := R3
          replace HB := HB.drew
          generalize w2.drew = w3 at *
          have f0 := R3.free (q + 16)
          have c0 := R3.cell (q + 16) (by omega)
          go_wp2
          go_roundw
          case rel =>
            have R4 := R3.set (q + 16) (nextW (expB bl q) q)
            exact ⟨q + 1, by omega, by go_num, R1.other _ _ (by simp; omega), R2.other _ _ (by simp), R4, HB.setCell (by simp; omega) _⟩
          case measure => simp [intOf]; omega
        · replace R3 : RowAt wr (w.heap.size + 1 + 1) .u32 64 216 (expB bl 48) := by rw [show (48 : Nat) = q by omega]; exact R3
          go_wp2_with (first | (refine wpList_load_row rfl 216 (.tmp 3) rfl _ rfl 216 _ (0,0) _ R3 Tryz.underlying216 rfl (by rw [rowOf_size]; kernel_rfl) ?_) | (refine wpList_store_row rfl 216 (.tmp 2) (.tmp 88) rfl _ _ rfl rfl 216 _ R2 (by rw [rowOf_size]; kernel_rfl) (by rw [rowOf_size, rowOf_size]) (rowOf_one _ _ _) ?_))
          refine bodyPost_ret (results_cell_row rfl _ _ (w.heap.size + 1) 216 (rowOf .u32 64 (expB bl 48)) (0, 0) _ rfl (setRow_heap _ _ _ _ _ _ R2) Tryz.underlying216 rfl (by rw [rowOf_size]; kernel_rfl)) rfl ?_
          exact ⟨rfl, below_setRow HB (by omega) _⟩
end Go.Proofs.YtejglhlodfhgkaaGreatDoor
namespace Go.Proofs.YtejglhlodfhgkaaGreatDoor
set_option linter.unusedVariables false
set_option linter.unusedSimpArgs false
open Go.RowKit
def KT (i : Nat) : Int := (([1116352408, 1899447441, 3049323471, 3921009573, 961987163, 1508970993, 2453635748, 2870763221, 3624381080, 310598401, 607225278, 1426881987, 1925078388, 2162078206, 2614888103, 3248222580, 3835390401, 4022224774, 264347078, 604807628, 770255983, 1249150122, 1555081692, 1996064986, 2554220882, 2821834349, 2952996808, 3210313671, 3336571891, 3584528711, 113926993, 338241895, 666307205, 773529912, 1294757372, 1396182291, 1695183700, 1986661051, 2177026350, 2456956037, 2730485921, 2820302411, 3259730800, 3345764771, 3516065817, 3600352804, 4094571909, 275423344, 430227734, 506948616, 659060556, 883997877, 958139571, 1322822218, 1537002063, 1747873779, 1955562222, 2024104815, 2227730452, 2361852424, 2428436474, 2756734187, 3204031479, 3329325298] : List Nat).getD i 0 : Nat)
/-- the table of constants lies in block 1 -/
def Consts (w : World) : Prop := ∀ i, i < 64 → w.cell? ⟨3, i, none⟩ = some (.int .u32 (KT i))
theorem Consts.below {w w' : World} {B : Nat} (h : Consts w) (hb : Below B w w') (h1 : 3 < B) : Consts w' := fun i hi => (hb.cell (p := ⟨3, i, none⟩) h1).trans (h i hi)
theorem Consts.lt {w : World} (h : Consts w) : 3 < w.heap.size := block_lt_of_cell (h 0 (by decide))
theorem shSize_alloc (w : World) (o : Obj) : (w.alloc o).heap.size = w.heap.size + 1 := by simp
theorem zeros8 : (#[Value.int IntKind.u32 0, Value.int IntKind.u32 0, Value.int IntKind.u32 0, Value.int IntKind.u32 0, Value.int IntKind.u32 0, Value.int IntKind.u32 0, Value.int IntKind.u32 0, Value.int IntKind.u32 0] : Array Value) = rowOf .u32 8 (fun _ => 0) := by rfl
/-- what mix knows of memory behind its first two rows -/
def MixMem (w w' : World) (s : Nat → Int) (g : Nat) (e : Nat → Int) : Prop :=
  RowAt w' w.heap.size .u32 8 217 s ∧ RowAt w' (w.heap.size + 1 + 1) .u32 8 217 (fun _ => 0) ∧ RowAt w' g .u32 64 216 e ∧ w.heap.size + 1 + 1 < g ∧ Below w.heap.size w w' ∧ Consts w'
theorem mix_mem1 (w w' : World) (s bl e : Nat → Int) (hk : Consts w)
    (hb : Below (((w.alloc (.cells (rowOf .u32 8 s) 217)).alloc (.cells (rowOf .u8 64 bl) 280)).alloc (.cells (rowOf .u32 8 (fun _ => 0)) 217)).heap.size
      (((w.alloc (.cells (rowOf .u32 8 s) 217)).alloc (.cells (rowOf .u8 64 bl) 280)).alloc (.cells (rowOf .u32 8 (fun _ => 0)) 217)) w') :
    MixMem w (w'.alloc (.cells (rowOf .u32 64 e) 216)) s w'.heap.size e := by
  have hz := hb.size
  simp only [shSize_alloc] at hz
  have h0 : Below w.heap.size w w' := (((below_alloc w _).trans ((below_alloc _ _).mono (by simp))).trans ((below_alloc _ _).mono (by simp; omega))).trans (hb.mono (by simp; omega))
  refine ⟨RowAt.alloc (RowAt.below (((RowAt.new w _ _ _ _).alloc _).alloc _) hb (by simp; omega)) _, ?_, RowAt.new _ _ _ _ _, by omega, h0.alloc (by omega) _, ?_⟩
  · have := (RowAt.new ((w.alloc (.cells (rowOf .u32 8 s) 217)).alloc (.cells (rowOf .u8 64 bl) 280)) .u32 8 217 (fun _ => 0)).below hb (by simp)
    have h2 := this.alloc (.cells (rowOf .u32 64 e) 216)
    simpa only [shSize_alloc] using h2
  · exact (hk.below h0 hk.lt).below (below_alloc _ _) (by have := hk.lt; have := h0.size; omega)
/-- one round: k its constant, w its word -/
def firstF (k w : Int) (t : Nat → Int) : Int :=
  t 7 + bits BinOp.xor IntKind.u32 (bits BinOp.xor IntKind.u32 (rotI (t 4) 26) (rotI (t 4) 21)) (rotI (t 4) 7) +
    bits BinOp.xor IntKind.u32 (bits BinOp.and IntKind.u32 (t 4) (t 5)) (bits BinOp.and IntKind.u32 (bits BinOp.xor IntKind.u32 IntKind.u32.max (t 4)) (t 6)) + k + w
def roundF (k w : Int) (t : Nat → Int) : Nat → Int
  | 0 => ((firstF k w t + bits BinOp.xor IntKind.u32 (bits BinOp.xor IntKind.u32 (rotI (t 0) 30) (rotI (t 0) 19)) (rotI (t 0) 10)) % 4294967296 +
      bits BinOp.xor IntKind.u32 (bits BinOp.xor IntKind.u32 (bits BinOp.and IntKind.u32 (t 0) (t 1)) (bits BinOp.and IntKind.u32 (t 0) (t 2))) (bits BinOp.and IntKind.u32 (t 1) (t 2))) % 4294967296
  | 1 => t 0
  | 2 => t 1
  | 3 => t 2
  | 4 => (t 3 + firstF k w t % 4294967296) % 4294967296
  | 5 => t 4
  | 6 => t 5
  | 7 => t 6
  | _ => 0
def rnd (e s : Nat → Int) : Nat → Nat → Int
  | 0 => s
  | k + 1 => roundF (KT k) (e k) (rnd e s k)
def addF (s t : Nat → Int) : Nat → Int := fun i => (s i + t i) % 4294967296
/-- the state after one more block -/
def mixF (s bl : Nat → Int) : Nat → Int := addF s (rnd (expB bl 48) s 64)
set_option maxRecDepth 100000 in
set_option maxHeartbeats 400000 in
theorem mix_any (s bl : Nat → Int) (w : World) (hk : Consts w) :
    Calls Tryz.prog 200 #[.agg (rowOf .u32 8 s), .agg (rowOf .u8 64 bl)] w fun e w' => e = .returned (.agg (rowOf .u32 8 (mixF s bl))) ∧ Below w.heap.size w w' := by
  have HK := Lib.hid hk
  clear hk
  go_enter Tryz.func200, Tryz.ntmps200
  have hl : ∀ X Y : Obj, ((w.alloc X).alloc (.cells (rowOf .u8 64 bl) 280)).alloc Y |>.heap[w.heap.size + 1]? = some (.cells (rowOf .u8 64 bl) 280 (0, 0)) := fun X Y => by
    have := (RowAt.new (w.alloc X) .u8 64 280 bl).alloc Y
    rw [shSize_alloc] at this
    exact this
  replace hl := Lib.hid hl
  go_wp2_with (first
    | (refine wpList_load_row rfl 280 (.tmp 3) rfl (w.heap.size + 1) rfl 280 (rowOf .u8 64 bl) (0, 0) _ (hl.out _ _) Tryz.underlying280 rfl (by rw [rowOf_size]; kernel_rfl) ?_)
    | (go_at_call 233; refine (expand_any _ _).mono ?_; rintro e w' ⟨rfl, HB⟩; rw [zeros8] at HB; replace HB := Lib.hid HB)
    | (refine wpList_store_row rfl 216 (.tmp 5) (.tmp 20) rfl w'.heap.size (rowOf .u32 64 (expB bl 48)) rfl rfl 216 _ (heap_alloc_new _ _) (by rw [rowOf_size]; kernel_rfl) (by rw [rowOf_size]; rfl) (rowOf_one _ _ _) ?_; rw [World.setRow_alloc_new]; have M := mix_mem1 w w' s bl (expB bl 48) HK.out HB.out; clear HB; generalize w'.alloc (.cells (rowOf .u32 64 (expB bl 48)) 216) = w2 at *; generalize w'.heap.size = g at *; clear w'; obtain ⟨R0, R2, RW, hg, HB, HC⟩ := M; simp only [Act.put]))
  have c0 := R0.cell 0 (by omega)
  have c1 := R0.cell 1 (by omega)
  have c2 := R0.cell 2 (by omega)
  have c3 := R0.cell 3 (by omega)
  have c4 := R0.cell 4 (by omega)
  have c5 := R0.cell 5 (by omega)
  have c6 := R0.cell 6 (by omega)
  have c7 := R0.cell 7 (by omega)
  go_quiet (fail)
  clear c0 c1 c2 c3 c4 c5 c6 c7
  replace R0 : RowAt (w2.drewN nq) w.heap.size .u32 8 217 s := R0
  replace R2 : RowAt (w2.drewN nq) (w.heap.size + 1 + 1) .u32 8 217 (fun _ => 0) := R2
  replace RW : RowAt (w2.drewN nq) g .u32 64 216 (expB bl 48) := RW
  replace HB : Below w.heap.size w (w2.drewN nq) := ⟨HB.os, HB.tape, HB.output, HB.size, HB.block⟩
  replace HC : Consts (w2.drewN nq) := HC
  generalize w2.drewN nq = w3 at *
  go_wp2
  go_loopw [6, 7, 8, 9, 10, 11, 12, 13, 37] (fun a b c d e f u v i wr => ∃ k : Nat, k ≤ 64 ∧ i = .int .i64 k ∧ a = .int .u32 (rnd (expB bl 48) s k 0) ∧ b = .int .u32 (rnd (expB bl 48) s k 1) ∧ c = .int .u32 (rnd (expB bl 48) s k 2) ∧ d = .int .u32 (rnd (expB bl 48) s k 3)
      ∧ e = .int .u32 (rnd (expB bl 48) s k 4) ∧ f = .int .u32 (rnd (expB bl 48) s k 5) ∧ u = .int .u32 (rnd (expB bl 48) s k 6) ∧ v = .int .u32 (rnd (expB bl 48) s k 7)
      ∧ RowAt wr w.heap.size .u32 8 217 s ∧ RowAt wr (w.heap.size + 1 + 1) .u32 8 217 (fun _ => 0) ∧ RowAt wr g .u32 64 216 (expB bl 48) ∧ Below w.heap.size w wr ∧ Consts wr)
    (fun _ _ _ _ _ _ _ _ i _ => 64 - (intOf i).toNat)
  case atStart => exact ⟨0, by omega, rfl, rfl, rfl, rfl, rfl, rfl, rfl, rfl, rfl, R0, R2, RW, HB, HC⟩
  case round =>
    clear R0 R2 RW HB HC
    obtain ⟨k, hk, rfl, rfl, rfl, rfl, rfl, rfl, rfl, rfl, rfl, R0, R2, RW, HB, HC⟩ := hrel
    by_cases hlt : k < 64
    · have c0 := RW.cell k hlt
      have c1 := HC k hlt
      have q2 : (k : Int) < 64 := by omega
      go_wp2_with (first | (go_at_call 234; (with_reducible refine (rot6 _ _).mono ?_); rintro e w' ⟨rfl, rfl⟩) | (go_at_call 234; (with_reducible refine (rot11 _ _).mono ?_); rintro e w' ⟨rfl, rfl⟩) | (go_at_call 234; (with_reducible refine (rot25 _ _).mono ?_); rintro e w' ⟨rfl, rfl⟩))
      go_quiet (fail)
      go_wp2_with (first | (go_at_call 234; (with_reducible refine (rot2 _ _).mono ?_); rintro e w' ⟨rfl, rfl⟩) | (go_at_call 234; (with_reducible refine (rot13 _ _).mono ?_); rintro e w' ⟨rfl, rfl⟩) | (go_at_call 234; (with_reducible refine (rot22 _ _).mono ?_); rintro e w' ⟨rfl, rfl⟩))
      go_roundw
      case rel => exact ⟨k + 1, by omega, by go_num, rfl, rfl, rfl, rfl, rfl, rfl, rfl, rfl, R0, R2, RW, ⟨HB.os, HB.tape, HB.output, HB.size, HB.block⟩, HC⟩
      case measure => simp [intOf]; omega
    · have H64 := Lib.hid (show k = 64 by omega)
      have c0 := R0.cell 0 (by omega)
      have c1 := R0.cell 1 (by omega)
      have c2 := R0.cell 2 (by omega)
      have c3 := R0.cell 3 (by omega)
      have c4 := R0.cell 4 (by omega)
      have c5 := R0.cell 5 (by omega)
      have c6 := R0.cell 6 (by omega)
      have c7 := R0.cell 7 (by omega)
      clear hk
      go_wp2_with (refine wpList_store_row rfl 217 (.tmp 4) (.tmp 135) rfl (w.heap.size + 1 + 1) (rowOf .u32 8 (addF s (rnd (expB bl 48) s k))) rfl rfl 217 _ R2 (by rw [rowOf_size]; kernel_rfl) (by rw [rowOf_size, rowOf_size]) (rowOf_one _ _ _) ?_)
      refine bodyPost_ret (results_cell_row rfl _ _ (w.heap.size + 1 + 1) 217 (rowOf .u32 8 (addF s (rnd (expB bl 48) s k))) (0, 0) _ rfl (setRow_heap _ _ _ _ _ _ R2) Tryz.underlying217 rfl (by rw [rowOf_size]; kernel_rfl)) rfl ?_
      exact ⟨by rw [H64.out]; rfl, below_setRow HB (by omega) _⟩
end Go.Proofs.YtejglhlodfhgkaaGreatDoor
namespace Go.Proofs.YtejglhlodfhgkaaGreatDoor
set_option linter.unusedVariables false
set_option linter.unusedSimpArgs false
open Go.RowKit
def clr (f : Nat → Int) (o m : Nat) : Nat → Int := fun i => if o ≤ i ∧ i < o + m then 0 else f i
theorem RowAt.clear {g n : Nat} {k : IntKind} {t : TypeId} : ∀ (m o : Nat) (f : Nat → Int) (w : World), RowAt w g k n t f → RowAt (w.setCells g o (List.replicate m (.int k 0))) g k n t (clr f o m)
  | 0, o, f, w, h => by
    have : clr f o 0 = f := by funext i; unfold clr; rw [if_neg (by omega)]
    rw [this]; exact h
  | m + 1, o, f, w, h => by
    have := RowAt.clear m (o + 1) _ _ (h.set o 0)
    have e : clr (upd f o 0) (o + 1) m = clr f o (m + 1) := by
      funext i
      unfold clr upd
      by_cases h1 : o + 1 ≤ i ∧ i < o + 1 + m
      · rw [if_pos h1, if_pos (by omega)]
      · rw [if_neg h1]
        by_cases h2 : i = o
        · rw [if_pos h2, if_pos (by omega)]
        · rw [if_neg h2, if_neg (by omega)]
    rw [e] at this
    exact this
theorem zeroU8 (w : World) : (zeroValue 5).run Tryz.prog w = .ok (.int .u8 0) w := by kernel_rfl
/-- what finish knows of memory: the state's row, the block's, the result's -/
structure FM (w w' : World) (s f r : Nat → Int) : Prop where
  st : RowAt w' w.heap.size .u32 8 217 s
  bl : RowAt w' (w.heap.size + 1) .u8 64 280 f
  re : RowAt w' (w.heap.size + 1 + 1) .u32 8 217 r
  below : Below w.heap.size w w'
  consts : Consts w'
theorem FM.start (w : World) (s f : Nat → Int) (hk : Consts w) : FM w (((w.alloc (.cells (rowOf .u32 8 s) 217)).alloc (.cells (rowOf .u8 64 f) 280)).alloc (.cells (rowOf .u32 8 (fun _ => 0)) 217)) s f (fun _ => 0) := by
  have hb : Below w.heap.size w (((w.alloc (.cells (rowOf .u32 8 s) 217)).alloc (.cells (rowOf .u8 64 f) 280)).alloc (.cells (rowOf .u32 8 (fun _ => 0)) 217)) :=
    ((below_alloc w _).trans ((below_alloc _ _).mono (by simp))).trans ((below_alloc _ _).mono (by simp; omega))
  refine ⟨((RowAt.new w _ _ _ _).alloc _).alloc _, ?_, ?_, hb, hk.below hb hk.lt⟩
  · have := (RowAt.new (w.alloc (.cells (rowOf .u32 8 s) 217)) .u8 64 280 f).alloc (.cells (rowOf .u32 8 (fun _ => 0)) 217)
    rw [shSize_alloc] at this; exact this
  · have := RowAt.new ((w.alloc (.cells (rowOf .u32 8 s) 217)).alloc (.cells (rowOf .u8 64 f) 280)) .u32 8 217 (fun _ => 0)
    rw [shSize_alloc, shSize_alloc] at this; exact this
theorem FM.setB {w w' : World} {s f r : Nat → Int} (h : FM w w' s f r) (i : Nat) (v : Int) (hk : 3 < w.heap.size) : FM w (w'.setCell ⟨w.heap.size + 1, i, none⟩ (.int .u8 v)) s (upd f i v) r :=
  have hb : Below w.heap.size w' (w'.setCell ⟨w.heap.size + 1, i, none⟩ (.int .u8 v)) := (Below.refl _ _).setCell (by show w.heap.size ≤ w.heap.size + 1; omega) _
  ⟨h.st.other _ _ (by show w.heap.size ≠ w.heap.size + 1; omega), h.bl.set i v, h.re.other _ _ (by show w.heap.size + 1 + 1 ≠ w.heap.size + 1; omega), h.below.trans hb, h.consts.below hb hk⟩
theorem setCells_below (B b : Nat) (hb : B ≤ b) : ∀ (vs : List Value) (o : Nat) (w : World), Below B w (w.setCells b o vs)
  | [], _, _ => Below.refl _ _
  | v :: r, o, w => ((Below.refl B w).setCell (p := ⟨b, o, none⟩) hb v).trans (setCells_below B b hb r (o + 1) _)
theorem setCells_heap (b k : Nat) (hb : k ≠ b) : ∀ (vs : List Value) (o : Nat) (w : World), (w.setCells b o vs).heap[k]? = w.heap[k]?
  | [], _, _ => rfl
  | v :: r, o, w => by
    rw [World.setCells, setCells_heap b k hb r (o + 1) _]
    exact Below.heap_setCell w ⟨b, o, none⟩ v k hb
theorem FM.clearB {w w' : World} {s f r : Nat → Int} (h : FM w w' s f r) (o m : Nat) (hk : 3 < w.heap.size) : FM w (w'.setCells (w.heap.size + 1) o (List.replicate m (.int .u8 0))) s (clr f o m) r :=
  have hb : Below w.heap.size w' (w'.setCells (w.heap.size + 1) o (List.replicate m (.int .u8 0))) := setCells_below _ _ (by omega) _ _ _
  ⟨(setCells_heap _ _ (by omega) _ _ _).trans h.st, RowAt.clear m o f w' h.bl, (setCells_heap _ _ (by omega) _ _ _).trans h.re, h.below.trans hb, h.consts.below hb hk⟩
theorem FM.calls {w w' w2 : World} {s f r : Nat → Int} (h : FM w w' s f r) (hb : Below w'.heap.size w' w2) : FM w w2 s f r :=
  ⟨h.st.below hb h.st.lt, h.bl.below hb h.bl.lt, h.re.below hb h.re.lt, h.below.trans (hb.mono h.below.size), h.consts.below hb h.consts.lt⟩
theorem FM.setS {w w' : World} {s f r : Nat → Int} (h : FM w w' s f r) (s' : Nat → Int) (hk : 3 < w.heap.size) : FM w (w'.setRow w.heap.size (rowOf .u32 8 s')) s' f r :=
  have hb : Below w.heap.size w' (w'.setRow w.heap.size (rowOf .u32 8 s')) := below_setRow (Below.refl _ _) (Nat.le_refl _) _
  ⟨setRow_heap _ _ _ _ _ _ h.st, (setRow_other _ _ _ _ (by omega)).trans h.bl, (setRow_other _ _ _ _ (by omega)).trans h.re, h.below.trans hb, h.consts.below hb hk⟩
theorem slice64 (b : Nat) (u : Nat) (hu : u < 64) (o : Nat) (ho : o = if u = 63 then 0 else u + 1) (w : World) : (Instr.sliceAt 280 (.pointer (some ⟨b, 0, none⟩)) (some (.int .u64 ((u : Int) + 1))) none none).run Tryz.prog w
    = .ok (.slice (some ⟨b, o, none⟩) (63 - u) (63 - u)) w := by
  have ha : Tryz.prog.arrayLen 280 = 64 := by kernel_rfl
  have he : Tryz.prog.elem 280 = 5 := by kernel_rfl
  have hs : (sizeOf 5).run Tryz.prog w = .ok 1 w := by kernel_rfl
  rw [run_sliceAt_array_l w 280 ⟨b, 0, none⟩ (by rw [ha, he]; exact Tryz.underlying280) .u64 ((u : Int) + 1) (by omega) (by rw [ha]; omega), ha, he, hs]
  have e1 : ((u : Int) + 1).toNat = u + 1 := by omega
  simp only [Result.andThen_ok, slicedAt, e1]
  subst ho
  by_cases h : u = 63
  · subst h; rfl
  · rw [if_neg h, if_neg (by omega), show 64 - (u + 1) = 63 - u by omega, Addr.add_mid]; simp
theorem slice64all (b : Nat) (w : World) : (Instr.sliceAt 280 (.pointer (some ⟨b, 0, none⟩)) none none none).run Tryz.prog w = .ok (.slice (some ⟨b, 0, none⟩) 64 64) w := by
  have ha : Tryz.prog.arrayLen 280 = 64 := by kernel_rfl
  have he : Tryz.prog.elem 280 = 5 := by kernel_rfl
  have hs : (sizeOf 5).run Tryz.prog w = .ok 1 w := by kernel_rfl
  rw [run_sliceAt_array_all w 280 ⟨b, 0, none⟩ (by rw [ha, he]; exact Tryz.underlying280), ha, he, hs]
  simp only [Result.andThen_ok, slicedAt]
  rw [if_neg (by omega), Addr.add_mid]
theorem clear64 (w : World) (b o m c : Nat) (f : Nat → Int) (h : RowAt w b .u8 64 280 f) (hm : o + m ≤ 64) :
    (Builtin.clear_ #[25] 0 #[.slice (some ⟨b, o, none⟩) m c]).run Tryz.prog w = .ok (.tuple #[]) (w.setCells b o (List.replicate m (.int .u8 0))) := by
  rcases Nat.eq_zero_or_pos m with rfl | hn
  · simp [Builtin.clear_, run_underlying Tryz.underlying25, World.setCells]
  · exact Lib.run_clear_slice w 25 5 0 (.int .u8 0) Tryz.underlying25 zeroU8 rfl rfl b o m c hn (fun j hj => by rw [h.cell (o + j) (by omega)]; rfl) (fun j _ => h.free _)
/-- the block behind the padding's begin: a bit 1, noughts -/
def padB (bl : Nat → Int) (u : Nat) : Nat → Int := clr (upd bl u 128) (u + 1) (63 - u)
/-- the last k bytes of the block hold the number of bits -/
def lenF (f : Nat → Int) (n : Int) : Nat → Nat → Int
  | 0 => f
  | k + 1 => upd (lenF f n k) (63 - k) (IntKind.u64.wrap (n * 8) / 2 ^ (8 * k) % 256)
set_option maxRecDepth 100000 in
set_option maxHeartbeats 400000 in
theorem fin_lo (s bl : Nat → Int) (n : Int) (u : Nat) (hn0 : 0 ≤ n) (hn1 : n < 18446744073709551616) (hu : n % 64 = u) (h56 : u < 56) (w : World) (hk : Consts w) :
    Calls Tryz.prog 201 #[.agg (rowOf .u32 8 s), .agg (rowOf .u8 64 bl), .int .u64 n] w fun e w' => e = .returned (.agg (rowOf .u32 8 (mixF s (lenF (padB bl u) n 8)))) ∧ Below w.heap.size w w' := by
  have HW := Lib.hid hk.lt
  have HK := Lib.hid (FM.start w s bl hk)
  have HN := Lib.hid hn1
  clear hk hn1
  go_enter Tryz.func201, Tryz.ntmps201
  go_upto_region 2 with (fail)
  rw [zeros8]
  generalize ((w.alloc (.cells (rowOf .u32 8 s) 217)).alloc (.cells (rowOf .u8 64 bl) 280)).alloc (.cells (rowOf .u32 8 (fun _ => 0)) 217) = w1 at *
  have f0 := HK.out.bl.free u
  have c0 := HK.out.bl.cell u (by omega)
  go_upto_region 3 with (fail)
  replace HK := Lib.hid (HK.out.setB u 128 HW.out)
  generalize w1.setCell _ _ = w2 at *
  clear f0 c0
  have hsl := slice64 (w.heap.size + 1) u (by omega) (u + 1) (by rw [if_neg (by omega)])
  have hcl := clear64 w2 (w.heap.size + 1) (u + 1) (63 - u) (63 - u) _ HK.out.bl (by omega)
  go_upto_region 4 with (fail)
  replace HK : Hid (FM w _ s (padB bl u) _) := Lib.hid (HK.out.clearB (u + 1) (63 - u) HW.out)
  generalize w2.setCells _ _ _ = w3 at *
  clear hsl hcl w1 w2
  go_wp2_with (fail)
  go_loopw [23] (fun i wr => ∃ k : Nat, k ≤ 8 ∧ i = .int .i64 k ∧ Hid (FM w wr s (lenF (padB bl u) n k) (fun _ => 0))) (fun i _ => 8 - (intOf i).toNat)
  case atStart => exact ⟨0, by omega, rfl, HK⟩
  case round =>
    clear HK
    obtain ⟨k, hk, rfl, HK⟩ := hrel
    by_cases hlt : k < 8
    · have f0 := HK.out.bl.free (63 - k)
      have c0 := HK.out.bl.cell (63 - k) (by omega)
      have n0 : (63 - (k : Int)).toNat = 63 - k := by omega
      go_wp2_with (fail)
      go_roundw
      case rel => exact ⟨k + 1, by omega, by go_num, Lib.hid (HK.out.setB _ _ HW.out)⟩
      case measure => simp [intOf]; omega
    · replace HK : Hid (FM w wr s (lenF (padB bl u) n 8) (fun _ => 0)) := by rw [show (8 : Nat) = k by omega]; exact HK
      go_wp2_with (first
        | (refine wpList_load_row rfl 217 (.tmp 3) rfl w.heap.size rfl 217 _ (0, 0) _ HK.out.st Tryz.underlying217 rfl (by rw [rowOf_size]; kernel_rfl) ?_)
        | (refine wpList_load_row rfl 280 (.tmp 4) rfl (w.heap.size + 1) rfl 280 _ (0, 0) _ HK.out.bl Tryz.underlying280 rfl (by rw [rowOf_size]; kernel_rfl) ?_)
        | (go_at_call 200; refine (mix_any _ _ _ HK.out.consts).mono ?_; rintro e w' ⟨rfl, HB⟩; replace HB := Lib.hid HB)
        | (refine wpList_store_row rfl 217 (.tmp 6) (.tmp 38) rfl (w.heap.size + 1 + 1) _ rfl rfl 217 _ (HK.out.calls HB.out).re (by rw [rowOf_size]; kernel_rfl) (by rw [rowOf_size, rowOf_size]) (rowOf_one _ _ _) ?_))
      refine bodyPost_ret (results_cell_row rfl _ _ (w.heap.size + 1 + 1) 217 _ (0, 0) _ rfl (setRow_heap _ _ _ _ _ _ (HK.out.calls HB.out).re) Tryz.underlying217 rfl (by rw [rowOf_size]; kernel_rfl)) rfl ?_
      exact ⟨rfl, below_setRow (HK.out.calls HB.out).below (by omega) _⟩
set_option maxRecDepth 100000 in
set_option maxHeartbeats 400000 in
theorem fin_hi (s bl : Nat → Int) (n : Int) (u : Nat) (hn0 : 0 ≤ n) (hn1 : n < 18446744073709551616) (hu : n % 64 = u) (h56 : 56 ≤ u) (h64 : u < 64) (w : World) (hk : Consts w) :
    Calls Tryz.prog 201 #[.agg (rowOf .u32 8 s), .agg (rowOf .u8 64 bl), .int .u64 n] w fun e w' => e = .returned (.agg (rowOf .u32 8 (mixF (mixF s (padB bl u)) (lenF (clr (padB bl u) 0 64) n 8)))) ∧ Below w.heap.size w w' := by
  have HW := Lib.hid hk.lt
  have HK := Lib.hid (FM.start w s bl hk)
  have HN := Lib.hid hn1
  clear hk hn1
  go_enter Tryz.func201, Tryz.ntmps201
  go_upto_region 2 with (fail)
  rw [zeros8]
  generalize ((w.alloc (.cells (rowOf .u32 8 s) 217)).alloc (.cells (rowOf .u8 64 bl) 280)).alloc (.cells (rowOf .u32 8 (fun _ => 0)) 217) = w1 at *
  have f0 := HK.out.bl.free u
  have c0 := HK.out.bl.cell u (by omega)
  go_upto_region 3 with (fail)
  replace HK := Lib.hid (HK.out.setB u 128 HW.out)
  generalize w1.setCell _ _ = w2 at *
  clear f0 c0
  obtain ⟨o, ho⟩ : ∃ o, o = if u = 63 then 0 else u + 1 := ⟨_, rfl⟩
  have hsl := slice64 (w.heap.size + 1) u (by omega) o ho
  have hoo : o + (63 - u) ≤ 64 := by split at ho <;> omega
  have hcl := clear64 w2 (w.heap.size + 1) o (63 - u) (63 - u) _ HK.out.bl hoo
  have epad : clr (upd bl u 128) o (63 - u) = padB bl u := by
    unfold padB
    by_cases h : u = 63
    · subst h
      funext i
      unfold clr
      rw [if_neg (by omega), if_neg (by omega)]
    · rw [if_neg h] at ho; rw [ho]
  replace epad := Lib.hid epad
  clear ho hoo
  go_upto_region 4 with (fail)
  replace HK : Hid (FM w _ s (padB bl u) _) := Lib.hid (by have := HK.out.clearB o (63 - u) HW.out; rw [epad.out] at this; exact this)
  generalize w2.setCells _ _ _ = w3 at *
  clear hsl hcl w1 w2 epad
  go_upto_region 6 with (first
    | (refine wpList_load_row rfl 217 (.tmp 3) rfl w.heap.size rfl 217 _ (0, 0) _ HK.out.st Tryz.underlying217 rfl (by rw [rowOf_size]; kernel_rfl) ?_)
    | (refine wpList_load_row rfl 280 (.tmp 4) rfl (w.heap.size + 1) rfl 280 _ (0, 0) _ HK.out.bl Tryz.underlying280 rfl (by rw [rowOf_size]; kernel_rfl) ?_)
    | (go_at_call 200; refine (mix_any _ _ _ HK.out.consts).mono ?_; rintro e w' ⟨rfl, HB⟩; replace HB := Lib.hid HB)
    | (refine wpList_store_row rfl 217 (.tmp 3) (.tmp 21) rfl w.heap.size _ rfl rfl 217 _ (HK.out.calls HB.out).st (by rw [rowOf_size]; kernel_rfl) (by rw [rowOf_size, rowOf_size]) (rowOf_one _ _ _) ?_; have HK2 := Lib.hid ((HK.out.calls HB.out).setS (mixF s (padB bl u)) HW.out); clear HB HK; simp only [Act.put]))
  generalize w'.setRow _ _ = w4 at *
  have hsl := slice64all (w.heap.size + 1)
  obtain ⟨m, hm⟩ : ∃ m, m = 64 := ⟨_, rfl⟩
  have hcl : (Builtin.clear_ #[25] 0 #[.slice (some ⟨w.heap.size + 1, 0, none⟩) 64 64]).run Tryz.prog w4 = .ok (.tuple #[]) (w4.setCells (w.heap.size + 1) 0 (List.replicate m (.int .u8 0))) := by
    subst hm; exact clear64 w4 (w.heap.size + 1) 0 64 64 _ HK2.out.bl (by omega)
  replace hm := Lib.hid hm
  go_upto_region 7 with (fail)
  have HK := Lib.hid (HK2.out.clearB 0 m HW.out)
  clear hsl hcl HK2
  generalize w4.setCells (w.heap.size + 1) 0 (List.replicate m (Value.int .u8 0)) = w5 at *
  rw [hm.out] at HK
  clear w4 w3 w'
  go_wp2_with (fail)
  go_loopw [23] (fun i wr => ∃ k : Nat, k ≤ 8 ∧ i = .int .i64 k ∧ Hid (FM w wr (mixF s (padB bl u)) (lenF (clr (padB bl u) 0 64) n k) (fun _ => 0))) (fun i _ => 8 - (intOf i).toNat)
  case atStart => exact ⟨0, by omega, rfl, HK⟩
  case round =>
    clear HK
    obtain ⟨k, hk, rfl, HK⟩ := hrel
    by_cases hlt : k < 8
    · have f0 := HK.out.bl.free (63 - k)
      have c0 := HK.out.bl.cell (63 - k) (by omega)
      have n0 : (63 - (k : Int)).toNat = 63 - k := by omega
      go_wp2_with (fail)
      go_roundw
      case rel => exact ⟨k + 1, by omega, by go_num, Lib.hid (HK.out.setB _ _ HW.out)⟩
      case measure => simp [intOf]; omega
    · replace HK : Hid (FM w wr (mixF s (padB bl u)) (lenF (clr (padB bl u) 0 64) n 8) (fun _ => 0)) := by rw [show (8 : Nat) = k by omega]; exact HK
      go_wp2_with (first
        | (refine wpList_load_row rfl 217 (.tmp 3) rfl w.heap.size rfl 217 _ (0, 0) _ HK.out.st Tryz.underlying217 rfl (by rw [rowOf_size]; kernel_rfl) ?_)
        | (refine wpList_load_row rfl 280 (.tmp 4) rfl (w.heap.size + 1) rfl 280 _ (0, 0) _ HK.out.bl Tryz.underlying280 rfl (by rw [rowOf_size]; kernel_rfl) ?_)
        | (go_at_call 200; refine (mix_any _ _ _ HK.out.consts).mono ?_; rintro e w' ⟨rfl, HB⟩; replace HB := Lib.hid HB)
        | (refine wpList_store_row rfl 217 (.tmp 6) (.tmp 38) rfl (w.heap.size + 1 + 1) _ rfl rfl 217 _ (HK.out.calls HB.out).re (by rw [rowOf_size]; kernel_rfl) (by rw [rowOf_size, rowOf_size]) (rowOf_one _ _ _) ?_))
      refine bodyPost_ret (results_cell_row rfl _ _ (w.heap.size + 1 + 1) 217 _ (0, 0) _ rfl (setRow_heap _ _ _ _ _ _ (HK.out.calls HB.out).re) Tryz.underlying217 rfl (by rw [rowOf_size]; kernel_rfl)) rfl ?_
      exact ⟨rfl, below_setRow (HK.out.calls HB.out).below (by omega) _⟩
/-- the state behind the padding -/
def finF (s bl : Nat → Int) (n : Int) (u : Nat) : Nat → Int :=
  if u < 56 then mixF s (lenF (padB bl u) n 8) else mixF (mixF s (padB bl u)) (lenF (clr (padB bl u) 0 64) n 8)
theorem fin_any (s bl : Nat → Int) (n : Int) (hn0 : 0 ≤ n) (hn1 : n < 18446744073709551616) (w : World) (hk : Consts w) :
    Calls Tryz.prog 201 #[.agg (rowOf .u32 8 s), .agg (rowOf .u8 64 bl), .int .u64 n] w fun e w' => e = .returned (.agg (rowOf .u32 8 (finF s bl n (n % 64).toNat))) ∧ Below w.heap.size w w' := by
  have hu : n % 64 = ((n % 64).toNat : Nat) := by omega
  unfold finF
  by_cases h : (n % 64).toNat < 56
  · rw [if_pos h]; exact fin_lo s bl n _ hn0 hn1 hu h w hk
  · rw [if_neg h]; exact fin_hi s bl n _ hn0 hn1 hu (by omega) (by omega) w hk
end Go.Proofs.YtejglhlodfhgkaaGreatDoor
