/- Part 8 of the proof. -/
import Derived.Test.YtejglhlodfhgkaaGreatDoorXv4
import Derived.Test.YtejglhlodfhgkaaGreatDoorXv7
namespace Go.Proofs.YtejglhlodfhgkaaGreatDoor
set_option linter.unusedVariables false
set_option linter.unusedSimpArgs false
open Go.RowKit
set_option maxRecDepth 100000
set_option linter.unusedSimpArgs false
set_option linter.unusedVariables false
def accB (s : ByteArray) : Bool := decide (2 ≤ s.size ∧ s.size ≤ 20) && (consB (s.extract 0 1) letL && consB s alnL)
def kindB (k : Int) : Bool := decide (1 ≤ k) && decide (k ≤ 18)
def shpL : List (Nat × Nat × Nat) := [(0, 0, 0), (2, 1, 0), (0, 1, 0), (0, 1, 0), (1, 1, 2), (1, 0, 1), (1, 0, 2), (2, 0, 0), (3, 1, 1), (2, 1, 1), (1, 1, 1), (4, 1, 0), (5, 2, 1), (3, 1, 1), (2, 1, 1), (5, 3, 0), (4, 4, 2), (4, 4, 3), (4, 4, 2)]
def shp (k : Int) : Nat × Nat × Nat := if kindB k then shpL.getD k.toNat (0, 0, 0) else (0, 0, 0)
def longM (m : Pm) : Bool := m.ts.all (fun s => decide (s.size ≤ 256)) && m.ds.all (fun b => decide (b.length ≤ 16384))
def formM (m : Pm) : Bool := kindB m.kind && (decide (m.ts.length = (shp m.kind).1) && (decide (m.is.length = (shp m.kind).2.1) && decide (m.ds.length = (shp m.kind).2.2)))
def chkM (m : Pm) : Option Nat := if formM m then (if longM m then none else some 2) else some 1
def chkMs : List Pm → Option Nat
  | [] => none
  | m :: r => match chkM m with
    | some e => some e
    | none => chkMs r
def chkL (l : List Pm) : Option Nat := if l.length = 0 ∨ 8 < l.length then some 1 else chkMs l
def chkF (den : ByteArray) (amt : Int) : Option Nat := match chkD den with
  | some e => some e
  | none => if amt < 0 ∨ 1152921504606846976 < amt then some 44 else none
def chkX (x : Px) : Option Nat := if accB x.acc then (if x.seq < 0 ∨ 1099511627776 < x.seq then some 43 else match chkF x.den x.amt with
    | some e => some e
    | none => match chkL x.ms with
      | some e => some e
      | none => if 8192 < x.sg.length then some 2 else none) else some 42
theorem tcons_any (s t : ByteArray) (w : World) (hts : t.size < 4294967281) (ha : t.data.toList.all (fun b => decide (b.toNat < 128)) = true) :
    Calls Tryz.prog 128 #[.string s, .string t] w fun e w' => e = .returned (.bool (consB s t.data.toList)) ∧ Below w.heap.size w w' := by
  have HC := Lib.hid (show Calls Tryz.prog 186 #[.string s, .string t] w fun e w' => e = .returned (.string ⟨(Lib.trimLeftS s.data.toList t.data.toList).toArray⟩) ∧ Below w.heap.size w w' from Any.strings_TrimLeft_laid Tryz.lays161 (by kernel_rfl) s t w hts (ascii_of_all ha))
  have k0 := trim_nilE s t.data.toList
  obtain ⟨r, hr⟩ : ∃ r : ByteArray, r = ⟨(Lib.trimLeftS s.data.toList t.data.toList).toArray⟩ := ⟨_, rfl⟩
  rw [← hr] at HC k0
  obtain ⟨b, hb⟩ : ∃ b, b = consB s t.data.toList := ⟨_, rfl⟩
  rw [← hb] at k0 ⊢
  clear hr hb hts ha
  go_enter Tryz.func128, Tryz.ntmps128
  go_wp2_with (go_at_call 186; (with_reducible refine HC.out.mono ?_); rintro e w1 ⟨rfl, hb⟩; have HB := Lib.hid hb; clear hb)
  go_ret
  exact ⟨rfl, HB.out⟩
theorem tacc_any (s : ByteArray) (w : World) (hs : s.size ≤ 9223372036854775807) : Calls Tryz.prog 58 #[.string s] w fun e w' => e = .returned (.bool (accB s)) ∧ Below w.heap.size w w' := by
  have HC1 := Lib.hid (show ∀ s w, Calls Tryz.prog 128 #[.string s, .string { data := #[97, 98, 99, 100, 101, 102, 103, 104, 105, 106, 107, 108, 109, 110, 111, 112, 113, 114, 115, 116, 117, 118, 119, 120, 121, 122] }] w fun e w' => e = .returned (.bool (consB s letL)) ∧ Below w.heap.size w w' from fun s w => tcons_any s { data := #[97, 98, 99, 100, 101, 102, 103, 104, 105, 106, 107, 108, 109, 110, 111, 112, 113, 114, 115, 116, 117, 118, 119, 120, 121, 122] } w (by decide) (by decide))
  have HC2 := Lib.hid (show ∀ w, Calls Tryz.prog 128 #[.string s, .string { data := #[97, 98, 99, 100, 101, 102, 103, 104, 105, 106, 107, 108, 109, 110, 111, 112, 113, 114, 115, 116, 117, 118, 119, 120, 121, 122, 48, 49, 50, 51, 52, 53, 54, 55, 56, 57] }] w fun e w' => e = .returned (.bool (consB s alnL)) ∧ Below w.heap.size w w' from fun w => tcons_any s { data := #[97, 98, 99, 100, 101, 102, 103, 104, 105, 106, 107, 108, 109, 110, 111, 112, 113, 114, 115, 116, 117, 118, 119, 120, 121, 122, 48, 49, 50, 51, 52, 53, 54, 55, 56, 57] } w (by decide) (by decide))
  by_cases h1 : 2 ≤ s.size
  · have h1I : ¬ (s.size : Int) < 2 := by omega
    by_cases h2 : s.size ≤ 20
    · have h2I : ¬ (20 : Int) < (s.size : Int) := by omega
      rw [show accB s = (consB (s.extract 0 1) letL && consB s alnL) from by unfold accB; rw [decide_eq_true ⟨h1, h2⟩]; rfl]
      replace HC1 := Lib.hid (HC1.out (s.extract 0 1))
      obtain ⟨b, hb⟩ : ∃ b, b = consB (s.extract 0 1) letL := ⟨_, rfl⟩
      obtain ⟨c, hc⟩ : ∃ b, b = consB s alnL := ⟨_, rfl⟩
      rw [← hb] at HC1 ⊢
      rw [← hc] at HC2 ⊢
      have h3I : (1 : Int) ≤ (s.size : Int) := by omega
      clear hb hc h1 h2
      cases b
      · go_enter Tryz.func58, Tryz.ntmps58
        go_wp2_with (go_at_call 128; (with_reducible refine (HC1.out _).mono ?_); rintro e w1 ⟨rfl, hb⟩; have HB := Lib.hid hb; clear hb)
        go_ret
        exact ⟨rfl, HB.out⟩
      · go_enter Tryz.func58, Tryz.ntmps58
        go_wp2_with (first
          | (go_at_call 128; (with_reducible refine (HC1.out _).mono ?_); rintro e w1 ⟨rfl, hb⟩; have HB := Lib.hid hb; clear hb)
          | (go_at_call 128; (with_reducible refine (HC2.out _).mono ?_); rintro e w2 ⟨rfl, hb⟩; have HB2 := Lib.hid (HB.out.trans (hb.mono HB.out.size)); clear hb))
        go_ret
        exact ⟨rfl, HB2.out⟩
    · have h2I : (20 : Int) < (s.size : Int) := by omega
      rw [show accB s = false from by unfold accB; rw [decide_eq_false (by omega)]; rfl]
      clear h1 h2 HC1 HC2
      go_enter Tryz.func58, Tryz.ntmps58
      go_wp2_with (fail)
      go_ret
      exact ⟨rfl, Below.refl _ _⟩
  · have h1I : (s.size : Int) < 2 := by omega
    rw [show accB s = false from by unfold accB; rw [decide_eq_false (by omega)]; rfl]
    clear h1 HC1 HC2
    go_enter Tryz.func58, Tryz.ntmps58
    go_wp2_with (fail)
    go_ret
    exact ⟨rfl, Below.refl _ _⟩
theorem tkind_any (k : Int) (w : World) : Calls Tryz.prog 73 #[.int .i64 k] w fun e w' => e = .returned (.bool (kindB k)) ∧ w' = w := by
  by_cases h1 : 1 ≤ k
  · rw [show kindB k = decide (k ≤ 18) from by unfold kindB; rw [decide_eq_true h1]; rfl]
    go_enter Tryz.func73, Tryz.ntmps73
    go_wp2_with (fail)
    go_ret
    exact ⟨rfl, rfl⟩
  · rw [show kindB k = false from by unfold kindB; rw [decide_eq_false h1]; rfl]
    go_enter Tryz.func73, Tryz.ntmps73
    go_wp2_with (fail)
    go_ret
    exact ⟨rfl, rfl⟩
end Go.Proofs.YtejglhlodfhgkaaGreatDoor
