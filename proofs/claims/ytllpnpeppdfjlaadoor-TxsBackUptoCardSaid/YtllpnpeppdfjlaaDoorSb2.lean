/- Part 2 of the proof. -/
import Derived.Laws.ResultCell
import Derived.Maps.OwnSet
import Derived.DeepKeys5
import Derived.ChangeKeysEq
import Derived.OrdersHeld
import Derived.LaidEql
import Derived.Stop.Asserts
import Derived.RowKitTokens
import Derived.StillTailTactics
import Derived.Deep.QuietTactic
import Derived.BigQuiet
import Derived.Deep.MidRow
import Derived.Laws.CopyOwn
import Derived.Deep.WholeRow
import Derived.Lib.SliceRun
import Derived.Deep.CutRange
import Derived.Deep.RegionWith
import Derived.Laws.CopyRow
import Derived.Deep.RegionHeld3
import Derived.Test.YtllpnpeppdfjlaaDoorSb1
namespace Go.Proofs.YtllpnpeppdfjlaaDoor
set_option linter.unusedVariables false
set_option linter.unusedSimpArgs false
open Go.RowKit
set_option maxRecDepth 100000
/-- block p is a Reader: y are the bytes ys that are left, e its error -/
structure RAt (w : World) (p : Nat) (y : Value) (ys : List Int) (e : Option Nat) : Prop where
  at_ : w.heap[p]? = some (.cells #[y, errV e] 73 (0, 0))
  in_ : BytesIn w y ys
  ok : bytesOk ys
  le : ys.length ≤ 140737488355328
  ne : ∀ k, y.ownBlock = some k → k ≠ p
theorem RAt.lt {w : World} {p : Nat} {y : Value} {ys : List Int} {e : Option Nat} (h : RAt w p y ys e) : p < w.heap.size := (Array.getElem?_eq_some_iff.1 h.at_).1
theorem BytesIn.only {w w' : World} {y : Value} {ys : List Int} {p : Nat} (h : BytesIn w y ys) (ho : Only p w w') (hn : ∀ k, y.ownBlock = some k → k ≠ p) : BytesIn w' y ys := by
  obtain ⟨a, c, rfl, hc, hm, hx⟩ := h
  refine ⟨a, c, rfl, hc, hm, hx.imp id ?_⟩
  rintro ⟨ab, ao, rfl, hx1⟩
  exact ⟨ab, ao, rfl, fun i x hi => ho.cell (hx1 i x hi) (hn ab rfl)⟩
theorem RAt.below {w w' : World} {p : Nat} {y : Value} {ys : List Int} {e : Option Nat} (h : RAt w p y ys e) (hb : Below w.heap.size w w') : RAt w' p y ys e :=
  ⟨(hb.block p h.lt).trans h.at_, h.in_.below hb, h.ok, h.le, h.ne⟩
theorem RAt.cell0 {w : World} {p : Nat} {y : Value} {ys : List Int} {e : Option Nat} (h : RAt w p y ys e) : w.cell? ⟨p, 0, none⟩ = some y := by rw [cell_of_row w p 0 _ _ _ h.at_]; rfl
theorem RAt.cell1 {w : World} {p : Nat} {y : Value} {ys : List Int} {e : Option Nat} (h : RAt w p y ys e) : w.cell? ⟨p, 1, none⟩ = some (errV e) := by rw [cell_of_row w p 1 _ _ _ h.at_]; rfl
theorem RAt.free {w : World} {p : Nat} {y : Value} {ys : List Int} {e : Option Nat} (h : RAt w p y ys e) (i : Nat) : w.frozen? ⟨p, i, none⟩ = false := frozen_of_row w p i _ _ h.at_
theorem RAt.wide {w : World} {p : Nat} {y : Value} {ys : List Int} {e : Option Nat} (h : RAt w p y ys e) : ∃ a c, y = .slice a ys.length c ∧ ys.length ≤ c := by
  obtain ⟨a, c, rfl, hc, _⟩ := h.in_; exact ⟨a, c, rfl, hc⟩
theorem RAt.keep {w w' : World} {p : Nat} {y : Value} {ys : List Int} {e : Option Nat} (h : RAt w p y ys e) (hp : w'.heap[p]? = w.heap[p]?) (hk : ys ≠ [] → ∀ k, y.ownBlock = some k → w'.heap[k]? = w.heap[k]?) : RAt w' p y ys e := by
  refine ⟨hp.trans h.at_, ?_, h.ok, h.le, h.ne⟩
  obtain ⟨a, c, rfl, hc, hm, hx⟩ := h.in_
  refine ⟨a, c, rfl, hc, hm, ?_⟩
  by_cases hn : ys = []
  · exact .inl hn
  · obtain ⟨ab, ao, rfl, hx1⟩ := hx.resolve_left hn
    exact .inr ⟨ab, ao, rfl, fun i x hi => (World.cell?_of_block (w := w) (hk hn ab rfl)).trans (hx1 i x hi)⟩
/-- bytes lie in memory -/
theorem RAt.own_lt {w : World} {p : Nat} {y : Value} {ys : List Int} {e : Option Nat} (h : RAt w p y ys e) (hn : ys ≠ []) : ∀ k, y.ownBlock = some k → k < w.heap.size := by
  intro k hk
  obtain ⟨a, c, rfl, hc, hm, hx⟩ := h.in_
  obtain ⟨ab, ao, rfl, hx1⟩ := hx.resolve_left hn
  obtain ⟨b, r, rfl⟩ := List.exists_cons_of_ne_nil hn
  simp only [Value.ownBlock, Option.some.injEq] at hk
  subst hk
  exact World.block_lt_of_cell? w _ (hx1 0 b rfl)
/-- its error is set -/
theorem RAt.err {w : World} {p : Nat} {y : Value} {ys : List Int} {e : Option Nat} (h : RAt w p y ys e) (e' : Option Nat) : RAt (w.setCell ⟨p, 1, none⟩ (errV e')) p y ys e' :=
  ⟨by rw [heap_setCell_same w p 1 _ _ _ h.at_]; rfl, h.in_.only (Only.setCell w ⟨p, 1, none⟩ _) h.ne, h.ok, h.le, h.ne⟩
theorem own_cut (a : Option Addr) (c k n m : Nat) : (Value.slice (cutA a c k) n m).ownBlock = (Value.slice a n m).ownBlock := by
  unfold cutA
  split
  · rfl
  · cases a with
    | none => rfl
    | some ad => show some (Addr.add ad k).block = some ad.block; unfold Addr.add; split <;> rfl
theorem own_len (a : Option Addr) (n m n' m' : Nat) : (Value.slice a n m).ownBlock = (Value.slice a n' m').ownBlock := by cases a <;> rfl
theorem bytesOk_drop {xs : List Int} (h : bytesOk xs) (k : Nat) : bytesOk (xs.drop k) := fun x hx => h x (List.mem_of_mem_drop hx)
theorem bytesOk_take {xs : List Int} (h : bytesOk xs) (k : Nat) : bytesOk (xs.take k) := fun x hx => h x (List.mem_of_mem_take hx)
/-- bytes are taken off -/
theorem RAt.took {w : World} {p : Nat} {a : Option Addr} {c : Nat} {ys : List Int} {e : Option Nat} (h : RAt w p (.slice a ys.length c) ys e) (k : Nat) (hk : k ≤ ys.length) :
    RAt (w.setCell ⟨p, 0, none⟩ (.slice (cutA a c k) (ys.length - k) (c - k))) p (.slice (cutA a c k) (ys.length - k) (c - k)) (ys.drop k) e := by
  have hn : ∀ j, (Value.slice (cutA a c k) (ys.length - k) (c - k)).ownBlock = some j → j ≠ p := fun j hj => h.ne j (by rw [own_cut] at hj; rw [← hj]; exact own_len _ _ _ _ _)
  have hb := h.in_.cut k ys.length hk (Nat.le_refl _)
  rw [List.take_length] at hb
  exact ⟨by rw [heap_setCell_same w p 0 _ _ _ h.at_]; rfl, hb.only (Only.setCell w ⟨p, 0, none⟩ _) hn, bytesOk_drop h.ok k, by rw [List.length_drop]; have := h.le; omega, hn⟩
theorem read_any (v : Value) (ys : List Int) (w : World) (hy : BytesIn w v ys) (ho : bytesOk ys) (hl : ys.length ≤ 140737488355328) :
    Calls Tryd.prog 15 #[v] w fun e w' => ∃ p y, e = .returned (.pointer (some ⟨p, 0, none⟩)) ∧ w.heap.size ≤ p ∧ RAt w' p y ys none ∧ Below w.heap.size w w' := by
  have HC := Lib.hid (clone_any v ys w hy hl)
  have HO := Lib.hid ho
  clear hy ho
  go_enter Tryd.func15, Tryd.ntmps15
  go_wp2_with (go_at_call 28; (with_reducible refine HC.out.mono ?_); rintro e w1 ⟨v', rfl, ho, hb⟩; obtain ⟨a, c, rfl⟩ := owns_wide ho; have H := Lib.hid ho; have HB := Lib.hid hb; clear ho hb)
  go_ret
  have h1 := H.out
  have hin := owns_in h1 (by unfold maxLen; omega)
  refine ⟨_, _, rfl, HB.out.size, ⟨heap_alloc_new w1 _, hin.below (below_alloc w1 _), HO.out, hl, fun k hk => ?_⟩, HB.out.alloc HB.out.size _⟩
  have := (h1.lt k hk).2
  omega
theorem err_any (p : Nat) (y : Value) (ys : List Int) (e : Option Nat) (w : World) (h : RAt w p y ys e) :
    Calls Tryd.prog 34 #[.pointer (some ⟨p, 0, none⟩)] w fun r w' => r = .returned (errV e) ∧ w' = w := by
  have hc := h.cell1
  cases e
  · simp only [errV] at hc ⊢
    go_enter Tryd.func34, Tryd.ntmps34
    go_wp2_with (fail)
    go_ret
    exact ⟨rfl, rfl⟩
  · simp only [errV] at hc ⊢
    go_enter Tryd.func34, Tryd.ntmps34
    go_wp2_with (fail)
    go_ret
    exact ⟨rfl, rfl⟩
theorem left_any (p : Nat) (y : Value) (ys : List Int) (e : Option Nat) (w : World) (h : RAt w p y ys e) :
    Calls Tryd.prog 35 #[.pointer (some ⟨p, 0, none⟩)] w fun r w' => r = .returned (.int .i64 (ys.length : Int)) ∧ w' = w := by
  have hc := h.cell0
  obtain ⟨a, c, rfl, _⟩ := h.wide
  go_enter Tryd.func35, Tryd.ntmps35
  go_wp2_with (fail)
  go_ret
  exact ⟨rfl, rfl⟩
set_option maxRecDepth 100000 in
set_option maxHeartbeats 400000 in
theorem take_any (p : Nat) (y : Value) (ys : List Int) (e : Option Nat) (k : Nat) (w : World) (h : RAt w p y ys e) (hk : k ≤ ys.length) :
    Calls Tryd.prog 60 #[.pointer (some ⟨p, 0, none⟩), .int .i64 (k : Int)] w fun r w' => ∃ a c y', r = .returned (.slice a k c) ∧ BytesIn w' (.slice a k c) (ys.take k) ∧ (∀ j, (Value.slice a k c).ownBlock = some j → j ≠ p) ∧ RAt w' p y' (ys.drop k) e ∧ Only p w w' ∧ y'.ownBlock = y.ownBlock := by
  obtain ⟨a, c, rfl, hle⟩ := h.wide
  have HR := Lib.hid h
  have hc := h.cell0
  have hf := h.free 0
  have hs1 := sliceBhi a ys.length c k (by omega)
  have hs2 := sliceBlo a ys.length c k hk
  have HK := Lib.hid hk
  clear h hk hle
  go_enter Tryd.func60, Tryd.ntmps60
  go_wp2_with (fail)
  go_ret
  have hn : ∀ j, (Value.slice (cutA a c 0) k c).ownBlock = some j → j ≠ p := fun j hj => HR.out.ne j (by rw [own_cut] at hj; rw [← hj]; exact own_len _ _ _ _ _)
  refine ⟨cutA a c 0, c, _, rfl, ?_, hn, HR.out.took k HK.out, Only.setCell w ⟨p, 0, none⟩ _, by rw [own_cut]; exact own_len _ _ _ _ _⟩
  have := (HR.out.in_.cut0 k HK.out).only (Only.setCell w ⟨p, 0, none⟩ (.slice (cutA a c k) (ys.length - k) (c - k))) hn
  rw [List.drop_zero] at this
  exact this
end Go.Proofs.YtllpnpeppdfjlaaDoor
namespace Go.Proofs.YtllpnpeppdfjlaaDoor
set_option linter.unusedVariables false
set_option linter.unusedSimpArgs false
open Go.RowKit
set_option maxRecDepth 100000
/-- the bytes that are left, and the error -/
abbrev RSt := List Int × Option Nat
/-- block p is a Reader in this state -/
def RS (w : World) (p : Nat) (s : RSt) : Prop := ∃ y, RAt w p y s.1 s.2
theorem chk_ok {n size last most : Nat} (h : (chk n size last most).2.2 = none) : (chk n size last most) = (n, size, none) ∧ n ≤ most ∧ ¬ ((1 < size ∧ last = 0) ∨ (size = 10 ∧ 1 < last)) := by
  unfold chk at *
  by_cases h1 : (1 < size ∧ last = 0) ∨ (size = 10 ∧ 1 < last)
  · rw [if_pos h1] at h; cases h
  · rw [if_neg h1] at h ⊢
    by_cases h2 : most < n
    · rw [if_pos h2] at h; cases h
    · rw [if_neg h2]; exact ⟨rfl, by omega, h1⟩
theorem accF_lt64 (xs : List Int) (i : Nat) (h : i ≤ 10) : accF xs i < 18446744073709551616 := by
  rcases Nat.lt_or_ge i 10 with h1 | h1
  · have := accF_lt xs i (by omega)
    have h2 : (128 : Nat) ^ i ≤ 128 ^ 9 := Nat.pow_le_pow_right (by decide) (by omega)
    have h3 : (128 : Nat) ^ 9 = 9223372036854775808 := by decide
    omega
  · obtain rfl : i = 10 := by omega
    have := accF_lt xs 9 (by omega)
    have h3 : (128 : Nat) ^ 9 = 9223372036854775808 := by decide
    rw [h3] at this
    show accF xs 9 + (xs.getD 9 0).toNat % 128 * 128 ^ 9 % 18446744073709551616 < _
    rw [h3]
    omega
theorem rdFrom_ok (xs : List Int) (most : Nat) : ∀ k i, i + k ≤ xs.length → i + k ≤ 10 → (rdFrom xs most k i).2.2 = none →
    (rdFrom xs most k i).2.1 ≤ xs.length ∧ (rdFrom xs most k i).1 < 18446744073709551616 ∧ (rdFrom xs most k i).1 ≤ most
  | 0, i, _, _, h => by
    unfold rdFrom at h
    split at h <;> cases h
  | k + 1, i, h1, h2, h => by
    unfold rdFrom at h ⊢
    by_cases hb : xs.getD i 0 < 128
    · rw [if_pos hb] at h ⊢
      obtain ⟨e, hm, _⟩ := chk_ok h
      rw [e]
      exact ⟨by show i + 1 ≤ _; omega, accF_lt64 xs (i + 1) (by omega), hm⟩
    · rw [if_neg hb] at h ⊢
      exact rdFrom_ok xs most k (i + 1) (by omega) (by omega) h
theorem rdF_ok {xs : List Int} {most : Nat} (h : (rdF xs most).2.2 = none) : (rdF xs most).2.1 ≤ xs.length ∧ (rdF xs most).1 < 18446744073709551616 ∧ (rdF xs most).1 ≤ most :=
  rdFrom_ok xs most _ 0 (by omega) (by omega) h
/-- Uint -/
def uintS (s : RSt) (most : Nat) : Nat × RSt :=
  match s.2 with
  | some _ => (0, s)
  | none => match (rdF s.1 most).2.2 with
    | some x => (0, s.1, some x)
    | none => ((rdF s.1 most).1, s.1.drop (rdF s.1 most).2.1, none)
theorem uintS_err (ys : List Int) (x most : Nat) : uintS (ys, some x) most = (0, ys, some x) := rfl
theorem uintS_bad {ys : List Int} {x most : Nat} (h : (rdF ys most).2.2 = some x) : uintS (ys, none) most = (0, ys, some x) := by
  unfold uintS; simp only [h]
theorem uintS_good {ys : List Int} {most : Nat} (h : (rdF ys most).2.2 = none) : uintS (ys, none) most = ((rdF ys most).1, ys.drop (rdF ys most).2.1, none) := by
  unfold uintS; simp only [h]
theorem uintS_lt (s : RSt) (most : Nat) : (uintS s most).1 < 18446744073709551616 := by
  obtain ⟨ys, e⟩ := s
  cases e with
  | some x => rw [uintS_err]; show (0 : Nat) < _; decide
  | none =>
    cases h : (rdF ys most).2.2 with
    | some x => rw [uintS_bad h]; show (0 : Nat) < _; decide
    | none => rw [uintS_good h]; exact (rdF_ok h).2.1
theorem tripV_of (r : Nat × Nat × Option Nat) (e : Option Nat) (h : r.2.2 = e) : tripV r = .tuple #[.int .u64 (r.1 : Int), .int .i64 (r.2.1 : Int), errV e] := by unfold tripV; rw [h]
/-- the number with a sign -/
def unzig (n : Nat) : Int := if n % 2 = 1 then -((n / 2 : Nat) : Int) - 1 else ((n / 2 : Nat) : Int)
theorem unzig_zig (n : Int) : unzig (zig n) = n := by
  unfold unzig zig
  by_cases h : n < 0
  · rw [if_pos h, if_pos (by omega)]; omega
  · rw [if_neg h, if_neg (by omega)]; omega
def intS (s : RSt) : Int × RSt := (unzig (uintS s 18446744073709551615).1, (uintS s 18446744073709551615).2)
/-- Done -/
def doneE (s : RSt) : Option Nat :=
  match s.2 with
  | some x => some x
  | none => if 0 < s.1.length then some 3 else none
set_option maxRecDepth 100000 in
set_option maxHeartbeats 400000 in
theorem rdone_any (p : Nat) (s : RSt) (w : World) (h : RS w p s) :
    Calls Tryd.prog 17 #[.pointer (some ⟨p, 0, none⟩)] w fun r w' => r = .returned (errV (doneE s)) ∧ w' = w := by
  obtain ⟨ys, e⟩ := s
  obtain ⟨y, h⟩ := h
  have HE := Lib.hid (err_any p y ys e w h)
  have HL := Lib.hid (left_any p y ys e w h)
  clear h
  cases e with
  | some x =>
    simp only [doneE, errV] at HE ⊢
    go_enter Tryd.func17, Tryd.ntmps17
    go_wp2_with (go_at_call 34; (with_reducible refine HE.out.mono ?_); rintro e w2 ⟨rfl, rfl⟩)
    go_ret
    exact ⟨rfl, rfl⟩
  | none =>
    simp only [doneE, errV] at HE ⊢
    by_cases h0 : 0 < ys.length
    · rw [if_pos h0]
      have h1 : (0 : Int) < (ys.length : Int) := by omega
      go_enter Tryd.func17, Tryd.ntmps17
      go_wp2_with (first
        | (go_at_call 34; (with_reducible refine HE.out.mono ?_); rintro e w2 ⟨rfl, rfl⟩)
        | (go_at_call 35; (with_reducible refine HL.out.mono ?_); rintro e w2 ⟨rfl, rfl⟩))
      go_ret
      exact ⟨rfl, rfl⟩
    · rw [if_neg h0]
      have h1 : ¬ (0 : Int) < (ys.length : Int) := by omega
      go_enter Tryd.func17, Tryd.ntmps17
      go_wp2_with (first
        | (go_at_call 34; (with_reducible refine HE.out.mono ?_); rintro e w2 ⟨rfl, rfl⟩)
        | (go_at_call 35; (with_reducible refine HL.out.mono ?_); rintro e w2 ⟨rfl, rfl⟩))
      go_ret
      exact ⟨rfl, rfl⟩
end Go.Proofs.YtllpnpeppdfjlaaDoor
namespace Go.Proofs.YtllpnpeppdfjlaaDoor
set_option linter.unusedVariables false
set_option linter.unusedSimpArgs false
open Go.RowKit
set_option maxRecDepth 100000
def RO (w : World) (p : Nat) (b : Option Nat) (s : RSt) : Prop := ∃ y, RAt w p y s.1 s.2 ∧ y.ownBlock = b
theorem RO.rs {w : World} {p : Nat} {b : Option Nat} {s : RSt} (h : RO w p b s) : RS w p s := by obtain ⟨y, h, _⟩ := h; exact ⟨y, h⟩
set_option maxHeartbeats 1000000 in
theorem uintO_any (p : Nat) (ob : Option Nat) (s : RSt) (most : Nat) (w : World) (h : RO w p ob s) :
    Calls Tryd.prog 46 #[.pointer (some ⟨p, 0, none⟩), .int .u64 (most : Int)] w fun r w' => r = .returned (.int .u64 ((uintS s most).1 : Int)) ∧ RO w' p ob (uintS s most).2 ∧ Only p w w' := by
  obtain ⟨ys, e⟩ := s
  obtain ⟨y, h, hob⟩ := h
  subst hob
  have HE := Lib.hid (err_any p y ys e w h)
  have HR := Lib.hid h
  have hc0 := h.cell0
  have hc1 := h.cell1
  have hf := h.free 1
  obtain ⟨a, c, rfl, hle⟩ := h.wide
  clear hle
  cases e with
  | some x =>
    rw [uintS_err]
    simp only [errV] at HE hc1
    go_enter Tryd.func46, Tryd.ntmps46
    go_wp2_with (go_at_call 34; (with_reducible refine HE.out.mono ?_); rintro e w2 ⟨rfl, rfl⟩)
    go_ret
    exact ⟨rfl, ⟨_, HR.out, rfl⟩, Only.refl _ _⟩
  | none =>
    simp only [errV] at HE hc1
    have HV := varint_any (.slice a ys.length c) ys most w h.in_ h.ok
    cases hx : (rdF ys most).2.2 with
    | some x =>
      rw [uintS_bad hx]
      rw [tripV_of _ _ hx] at HV
      replace HV := Lib.hid HV
      have HW := Lib.hid (h.err (some x))
      simp only [errV] at HV HW
      clear h
      go_enter Tryd.func46, Tryd.ntmps46
      go_wp2_with (first
        | (go_at_call 34; (with_reducible refine HE.out.mono ?_); rintro e w2 ⟨rfl, rfl⟩)
        | (go_at_call 59; (with_reducible refine HV.out.mono ?_); rintro e w2 ⟨rfl, rfl⟩))
      go_ret
      exact ⟨rfl, ⟨_, HW.out, rfl⟩, Only.setCell _ ⟨p, 1, none⟩ _⟩
    | none =>
      rw [uintS_good hx]
      have ht := take_any p _ ys none (rdF ys most).2.1 w h (rdF_ok hx).1
      rw [tripV_of _ _ hx] at HV
      replace HV := Lib.hid HV
      replace ht := Lib.hid ht
      simp only [errV] at HV
      clear h
      generalize (rdF ys most).2.1 = size at *
      generalize (rdF ys most).1 = n at *
      go_enter Tryd.func46, Tryd.ntmps46
      go_wp2_with (first
        | (go_at_call 34; (with_reducible refine HE.out.mono ?_); rintro e w2 ⟨rfl, rfl⟩)
        | (go_at_call 59; (with_reducible refine HV.out.mono ?_); rintro e w2 ⟨rfl, rfl⟩)
        | (go_at_call 60; (with_reducible refine ht.out.mono ?_); rintro e w3 ⟨a1, c1, y1, rfl, _, _, hr1, ho1, hob1⟩; replace hob1 := Lib.hid hob1; replace hr1 := Lib.hid hr1; replace ho1 := Lib.hid ho1))
      go_ret
      exact ⟨rfl, ⟨_, hr1.out, hob1.out⟩, ho1.out⟩
set_option maxHeartbeats 1000000 in
theorem intO_any (p : Nat) (ob : Option Nat) (s : RSt) (w : World) (h : RO w p ob s) :
    Calls Tryd.prog 30 #[.pointer (some ⟨p, 0, none⟩)] w fun r w' => r = .returned (.int .i64 (intS s).1) ∧ RO w' p ob (intS s).2 ∧ Only p w w' := by
  have H0 := uintO_any p ob s 18446744073709551615 w h
  rw [show ((18446744073709551615 : Nat) : Int) = 18446744073709551615 from rfl] at H0
  have H := Lib.hid H0
  clear H0
  have hl := uintS_lt s 18446744073709551615
  unfold intS
  generalize uintS s 18446744073709551615 = r at *
  obtain ⟨n, s'⟩ := r
  simp only at hl H ⊢
  have hm : (n : Int).tmod 2 = ((n % 2 : Nat) : Int) := by rw [Int.tmod_eq_emod_of_nonneg (by omega)]; omega
  have hq : (n : Int).tdiv 2 = ((n / 2 : Nat) : Int) := by rw [Int.tdiv_eq_ediv_of_nonneg (by omega)]; omega
  by_cases h1 : n % 2 = 1
  · have hx := not_i64 ((n / 2 : Nat) : Int) (by omega) (by omega)
    rw [h1] at hm
    go_enter Tryd.func30, Tryd.ntmps30
    go_wp2_with (go_at_call 46; (with_reducible refine H.out.mono ?_); rintro e w2 ⟨rfl, hr, ho⟩; replace hr := Lib.hid hr; replace ho := Lib.hid ho)
    go_ret
    refine ⟨?_, hr.out, ho.out⟩
    unfold unzig
    rw [if_pos h1]
    show Ending.returned (Value.int .i64 (bits .xor .i64 (-1) ((n : Int) / 2))) = _
    rw [show (n : Int) / 2 = ((n / 2 : Nat) : Int) by omega, hx]
  · have h2 : n % 2 = 0 := by omega
    rw [h2] at hm
    go_enter Tryd.func30, Tryd.ntmps30
    go_wp2_with (go_at_call 46; (with_reducible refine H.out.mono ?_); rintro e w2 ⟨rfl, hr, ho⟩; replace hr := Lib.hid hr; replace ho := Lib.hid ho)
    go_ret
    refine ⟨?_, hr.out, ho.out⟩
    unfold unzig
    rw [if_neg h1]
    show Ending.returned (Value.int .i64 ((n : Int) / 2)) = _
    rw [show (n : Int) / 2 = ((n / 2 : Nat) : Int) by omega]
end Go.Proofs.YtllpnpeppdfjlaaDoor
namespace Go.Proofs.YtllpnpeppdfjlaaDoor
set_option linter.unusedVariables false
set_option linter.unusedSimpArgs false
open Go.RowKit
set_option maxRecDepth 100000
/-- a length and that many bytes -/
def partS (s : RSt) (most : Int) : List Int × RSt :=
  match s.2 with
  | some _ => ([], s)
  | none =>
    if most < 0 then ([], s.1, some 1)
    else match (rdF s.1 18446744073709551615).2.2 with
      | some x => ([], s.1, some x)
      | none =>
        if most < ((rdF s.1 18446744073709551615).1 : Int) then ([], s.1, some 2)
        else if s.1.length - (rdF s.1 18446744073709551615).2.1 < (rdF s.1 18446744073709551615).1 then ([], s.1, some 12)
        else ((s.1.drop (rdF s.1 18446744073709551615).2.1).take (rdF s.1 18446744073709551615).1, (s.1.drop (rdF s.1 18446744073709551615).2.1).drop (rdF s.1 18446744073709551615).1, none)
theorem Only.behind {p g : Nat} {w w' : World} (h : Only p w w') (hg : w.heap.size ≤ g) (cs : Array Value) : Only p w (w'.setRow g cs) :=
  ⟨h.os, h.tape, h.output, by simp [World.setRow]; exact h.size, fun k hk hp => (setRow_other w' g k cs (by omega)).trans (h.block k hk hp)⟩
end Go.Proofs.YtllpnpeppdfjlaaDoor
namespace Go.Proofs.YtllpnpeppdfjlaaDoor
set_option linter.unusedVariables false
set_option linter.unusedSimpArgs false
open Go.RowKit
set_option maxRecDepth 100000
def countS (s : RSt) (most : Nat) : Nat × RSt :=
  match (uintS s most).2.2 with
  | some x => (0, s.1, some x)
  | none => if (uintS s most).2.1.length < (uintS s most).1 then (0, s.1, some 2) else uintS s most
theorem countS_bad {s : RSt} {most : Nat} {x : Nat} (h : (uintS s most).2.2 = some x) : countS s most = (0, s.1, some x) := by unfold countS; rw [h]
theorem countS_long {s : RSt} {most : Nat} (h : (uintS s most).2.2 = none) (hl : (uintS s most).2.1.length < (uintS s most).1) : countS s most = (0, s.1, some 2) := by unfold countS; rw [h]; simp only [if_pos hl]
theorem countS_good {s : RSt} {most : Nat} (h : (uintS s most).2.2 = none) (hl : ¬ (uintS s most).2.1.length < (uintS s most).1) : countS s most = uintS s most := by unfold countS; rw [h]; simp only [if_neg hl]
end Go.Proofs.YtllpnpeppdfjlaaDoor
namespace Go.Proofs.YtllpnpeppdfjlaaDoor
set_option linter.unusedVariables false
set_option linter.unusedSimpArgs false
open Go.RowKit
set_option maxRecDepth 100000
def PartPostO (p : Nat) (ob : Option Nat) (l : List Int) (s : RSt) (w : World) (r : Ending) (w' : World) : Prop :=
  ∃ v, r = .returned v ∧ BytesIn w' v l ∧ bytesOk l ∧ l.length ≤ 140737488355328 ∧ (∀ j, v.ownBlock = some j → j ≠ p) ∧ RO w' p ob s ∧ Only p w w'
theorem partPostO_nil {p : Nat} {ob : Option Nat} {s : RSt} {w w' : World} (h : RO w' p ob s) (ho : Only p w w') : PartPostO p ob [] s w (.returned (.slice none 0 0)) w' :=
  ⟨_, rfl, nil_in w', (by intro x hx; cases hx), by simp, (fun _ h => by cases h), h, ho⟩
set_option maxHeartbeats 1000000 in
theorem partO_any (p : Nat) (ob : Option Nat) (s : RSt) (most : Int) (w : World) (h : RO w p ob s) (hm0 : -9223372036854775808 ≤ most) (hm1 : most ≤ 9223372036854775807) :
    Calls Tryd.prog 45 #[.pointer (some ⟨p, 0, none⟩), .int .i64 most] w (PartPostO p ob (partS s most).1 (partS s most).2 w) := by
  obtain ⟨ys, e⟩ := s
  obtain ⟨y, h, hob⟩ := h
  subst hob
  change RAt w p y ys e at h
  have HE := Lib.hid (err_any p y ys e w h)
  have HR := Lib.hid h
  have hc0 := h.cell0
  have hc1 := h.cell1
  have hf := h.free 1
  obtain ⟨a, c, rfl, hle⟩ := h.wide
  have HLE := Lib.hid hle
  clear hle
  cases e with
  | some x =>
    simp only [partS, errV] at HE hc1 ⊢
    clear h
    go_enter Tryd.func45, Tryd.ntmps45
    go_wp2_with (go_at_call 34; (with_reducible refine HE.out.mono ?_); rintro e w2 ⟨rfl, rfl⟩)
    go_ret
    exact partPostO_nil ⟨_, HR.out, rfl⟩ (Only.refl _ _)
  | none =>
    simp only [partS, errV] at HE hc1 ⊢
    by_cases hneg : most < 0
    · rw [if_pos hneg]
      have HW := Lib.hid (h.err (some 1))
      clear h
      go_enter Tryd.func45, Tryd.ntmps45
      go_wp2_with (go_at_call 34; (with_reducible refine HE.out.mono ?_); rintro e w2 ⟨rfl, rfl⟩)
      go_ret
      exact partPostO_nil ⟨_, HW.out, rfl⟩ (Only.setCell _ ⟨p, 1, none⟩ _)
    · rw [if_neg hneg]
      have HV := varint_any (.slice a ys.length c) ys 18446744073709551615 w h.in_ h.ok
      rw [show ((18446744073709551615 : Nat) : Int) = 18446744073709551615 from rfl] at HV
      cases hx : (rdF ys 18446744073709551615).2.2 with
      | some x =>
        simp only
        rw [tripV_of _ _ hx] at HV
        replace HV := Lib.hid HV
        have HW := Lib.hid (h.err (some x))
        simp only [errV] at HV HW
        clear h
        go_enter Tryd.func45, Tryd.ntmps45
        go_wp2_with (first
          | (go_at_call 34; (with_reducible refine HE.out.mono ?_); rintro e w2 ⟨rfl, rfl⟩)
          | (go_at_call 59; (with_reducible refine HV.out.mono ?_); rintro e w2 ⟨rfl, rfl⟩))
        go_ret
        exact partPostO_nil ⟨_, HW.out, rfl⟩ (Only.setCell _ ⟨p, 1, none⟩ _)
      | none =>
        simp only
        obtain ⟨hsz, hn64, _⟩ := rdF_ok hx
        rw [tripV_of _ _ hx] at HV
        replace HV := Lib.hid HV
        simp only [errV] at HV
        generalize hsize : (rdF ys 18446744073709551615).2.1 = size at *
        generalize hnum : (rdF ys 18446744073709551615).1 = n at *
        clear hsize hnum hx
        have hlen := h.le
        by_cases hlong : most < (n : Int)
        · rw [if_pos hlong]
          have HW := Lib.hid (h.err (some 2))
          clear h
          have hwm : IntKind.u64.wrap most = most := by rw [IntKind.wrap_u64]; omega
          go_enter Tryd.func45, Tryd.ntmps45
          go_wp2_with (first
            | (go_at_call 34; (with_reducible refine HE.out.mono ?_); rintro e w2 ⟨rfl, rfl⟩)
            | (go_at_call 59; (with_reducible refine HV.out.mono ?_); rintro e w2 ⟨rfl, rfl⟩))
          go_ret
          exact partPostO_nil ⟨_, HW.out, rfl⟩ (Only.setCell _ ⟨p, 1, none⟩ _)
        · rw [if_neg hlong]
          have hwm : IntKind.u64.wrap most = most := by rw [IntKind.wrap_u64]; omega
          by_cases hend : ys.length - size < n
          · rw [if_pos hend]
            have HW := Lib.hid (h.err (some 12))
            clear h
            go_enter Tryd.func45, Tryd.ntmps45
            go_wp2_with (first
              | (go_at_call 34; (with_reducible refine HE.out.mono ?_); rintro e w2 ⟨rfl, rfl⟩)
              | (go_at_call 59; (with_reducible refine HV.out.mono ?_); rintro e w2 ⟨rfl, rfl⟩))
            go_ret
            exact partPostO_nil ⟨_, HW.out, rfl⟩ (Only.setCell _ ⟨p, 1, none⟩ _)
          · rw [if_neg hend]
            have ht := take_any p _ ys none size w h hsz
            have hok := bytesOk_drop h.ok size
            have hD : n ≤ (ys.drop size).length := by rw [List.length_drop]; omega
            have hD2 : (ys.drop size).length ≤ 140737488355328 := by rw [List.length_drop]; omega
            generalize ys.drop size = D at *
            replace ht := Lib.hid ht
            replace hok := Lib.hid hok
            replace hD := Lib.hid hD
            replace hD2 := Lib.hid hD2
            have hwn : IntKind.i64.wrap (n : Int) = n := by rw [IntKind.wrap_i64]; omega
            clear h
            go_enter Tryd.func45, Tryd.ntmps45
            go_wp2_with (first
              | (go_at_call 34; (with_reducible refine HE.out.mono ?_); rintro e w2 ⟨rfl, rfl⟩)
              | (go_at_call 59; (with_reducible refine HV.out.mono ?_); rintro e w2 ⟨rfl, rfl⟩)
              | (go_at_call 60; (with_reducible refine ht.out.mono ?_); rintro e w3 ⟨a1, c1, y1, rfl, _, _, hr1, ho1, hob1⟩; replace hob1 := Lib.hid hob1; replace hr1 := Lib.hid hr1; replace ho1 := Lib.hid ho1)
              | (go_at_call 60; (with_reducible refine (take_any p _ D none n _ hr1.out hD.out).mono ?_); rintro e w4 ⟨a2, c2, y2, rfl, hi2, hn2, hr2, ho2, hob2⟩; replace hob2 := Lib.hid hob2; replace hr2 := Lib.hid hr2; replace ho2 := Lib.hid ho2; replace hi2 := Lib.hid hi2; replace hn2 := Lib.hid hn2))
            go_ret
            exact ⟨_, rfl, hi2.out, bytesOk_take hok.out n, by rw [List.length_take]; have := hD2.out; omega, hn2.out, ⟨_, hr2.out, hob2.out.trans hob1.out⟩, ho1.out.trans ho2.out⟩
theorem rbytesO_any (p : Nat) (ob : Option Nat) (s : RSt) (most : Int) (w : World) (h : RO w p ob s) (hm0 : -9223372036854775808 ≤ most) (hm1 : most ≤ 9223372036854775807) :
    Calls Tryd.prog 33 #[.pointer (some ⟨p, 0, none⟩), .int .i64 most] w fun r w' => ∃ v, r = .returned v ∧ BytesIn w' v (partS s most).1 ∧ (∀ j, v.ownBlock = some j → w.heap.size ≤ j ∧ j < w'.heap.size) ∧ RO w' p ob (partS s most).2 ∧ Only p w w' := by
  have HP := Lib.hid (partO_any p ob s most w h hm0 hm1)
  clear h
  go_enter Tryd.func33, Tryd.ntmps33
  go_wp2_with (first
    | (go_at_call 45; (with_reducible refine HP.out.mono ?_); rintro e w2 ⟨v, rfl, hv, _, hl, _, hr, ho⟩; replace hr := Lib.hid hr; replace ho := Lib.hid ho; replace hl := Lib.hid hl; have hcl := Lib.hid (clone_any v _ w2 hv hl.out); clear hv)
    | (go_at_call 28; (with_reducible refine hcl.out.mono ?_); rintro e w3 ⟨v3, rfl, h3, hb⟩; replace h3 := Lib.hid h3; replace hb := Lib.hid hb))
  go_ret
  obtain ⟨y, hy, hob⟩ := hr.out
  exact ⟨_, rfl, owns_in h3.out (by have := hl.out; unfold maxLen; omega), fun j hj => ⟨Nat.le_trans ho.out.size (h3.out.lt j hj).1, (h3.out.lt j hj).2⟩, ⟨y, hy.below hb.out, hob⟩, ho.out.trans (Only.of_below hb.out)⟩
theorem rtextO_any (p : Nat) (ob : Option Nat) (s : RSt) (most : Int) (w : World) (h : RO w p ob s) (hm0 : -9223372036854775808 ≤ most) (hm1 : most ≤ 9223372036854775807) :
    Calls Tryd.prog 29 #[.pointer (some ⟨p, 0, none⟩), .int .i64 most] w fun r w' => r = .returned (.string (strOfNums (partS s most).1)) ∧ RO w' p ob (partS s most).2 ∧ Only p w w' := by
  have HP := Lib.hid (partO_any p ob s most w h hm0 hm1)
  clear h
  go_enter Tryd.func29, Tryd.ntmps29
  go_wp2_with (go_at_call 45; (with_reducible refine HP.out.mono ?_); rintro e w2 ⟨v, rfl, hv, _, _, _, hr, ho⟩; have hcv := conv_bytes w2 v _ hv; replace hr := Lib.hid hr; replace ho := Lib.hid ho; clear hv)
  go_ret
  exact ⟨rfl, hr.out, ho.out⟩
set_option maxHeartbeats 1000000 in
theorem rcountO_any (p : Nat) (ob : Option Nat) (s : RSt) (most : Nat) (hmm : most ≤ 9223372036854775807) (w : World) (h : RO w p ob s) :
    Calls Tryd.prog 47 #[.pointer (some ⟨p, 0, none⟩), .int .i64 (most : Int)] w fun r w' => r = .returned (.int .i64 ((countS s most).1 : Int)) ∧ RO w' p ob (countS s most).2 ∧ Only p w w' := by
  obtain ⟨ys, e⟩ := s
  obtain ⟨y, h, hob⟩ := h
  subst hob
  have HE := Lib.hid (err_any p y ys e w h)
  have HR := Lib.hid h
  have hc0 := h.cell0
  have hc1 := h.cell1
  have hf := h.free 1
  have hll : ys.length ≤ 140737488355328 := h.le
  have hmx : ((max most 0 : Nat) : Int) = max (most : Int) 0 := by omega
  have hmx2 : max (most : Int) 0 = (most : Int) := by omega
  obtain ⟨a, c, rfl, hle⟩ := h.wide
  clear hle
  cases e with
  | some x =>
    rw [countS_bad (s := (ys, some x)) (most := most) (x := x) rfl]
    simp only [errV] at HE hc1
    go_enter Tryd.func47, Tryd.ntmps47
    go_wp2_with (go_at_call 34; (with_reducible refine HE.out.mono ?_); rintro e w2 ⟨rfl, rfl⟩)
    go_ret
    exact ⟨rfl, ⟨_, HR.out, rfl⟩, Only.refl _ _⟩
  | none =>
    simp only [errV] at HE hc1
    have HV := varint_any (.slice a ys.length c) ys most w h.in_ h.ok
    cases hx : (rdF ys most).2.2 with
    | some x =>
      have hu := uintS_bad hx
      rw [countS_bad (x := x) (by rw [hu])]
      rw [tripV_of _ _ hx] at HV
      replace HV := Lib.hid HV
      have HW := Lib.hid (h.err (some x))
      simp only [errV] at HV HW
      clear h hu
      go_enter Tryd.func47, Tryd.ntmps47
      go_wp2_with (first
        | (go_at_call 34; (with_reducible refine HE.out.mono ?_); rintro e w2 ⟨rfl, rfl⟩)
        | (go_at_call 59; (with_reducible refine HV.out.mono ?_); rintro e w2 ⟨rfl, rfl⟩))
      go_ret
      exact ⟨rfl, ⟨_, HW.out, rfl⟩, Only.setCell _ ⟨p, 1, none⟩ _⟩
    | none =>
      have hu := uintS_good hx
      have ht := take_any p _ ys none (rdF ys most).2.1 w h (rdF_ok hx).1
      have hsz := (rdF_ok hx).1
      have hn64 := (rdF_ok hx).2.1
      rw [tripV_of _ _ hx] at HV
      replace HV := Lib.hid HV
      replace ht := Lib.hid ht
      simp only [errV] at HV
      have hul : (uintS (ys, none) most).2.1.length = ys.length - (rdF ys most).2.1 := by rw [hu]; simp
      have hun : (uintS (ys, none) most).1 = (rdF ys most).1 := by rw [hu]
      have hue : (uintS (ys, none) most).2.2 = none := by rw [hu]
      by_cases hlong : (uintS (ys, none) most).2.1.length < (uintS (ys, none) most).1
      · rw [countS_long hue hlong]
        rw [hul, hun] at hlong
        have HW := Lib.hid (h.err (some 2))
        simp only [errV] at HW
        clear h hu hul hun hue ht hx
        generalize (rdF ys most).2.1 = size at *
        generalize (rdF ys most).1 = n at *
        have hgt : (((ys.length : Int) - size) < n) := by omega
        have hsz2 : (size : Int) ≤ ys.length := by omega
        go_enter Tryd.func47, Tryd.ntmps47
        go_wp2_with (first
          | (go_at_call 34; (with_reducible refine HE.out.mono ?_); rintro e w2 ⟨rfl, rfl⟩)
          | (go_at_call 59; (with_reducible refine HV.out.mono ?_); rintro e w2 ⟨rfl, rfl⟩))
        go_ret
        exact ⟨rfl, ⟨_, HW.out, rfl⟩, Only.setCell _ ⟨p, 1, none⟩ _⟩
      · rw [countS_good hue hlong]
        rw [hul, hun] at hlong
        rw [hu]
        clear h hu hul hun hue hx
        generalize (rdF ys most).2.1 = size at *
        generalize (rdF ys most).1 = n at *
        have hgt : ¬ (((ys.length : Int) - size) < n) := by omega
        have hsz2 : (size : Int) ≤ ys.length := by omega
        have hwn : IntKind.i64.wrap (n : Int) = n := by rw [IntKind.wrap_i64]; omega
        go_enter Tryd.func47, Tryd.ntmps47
        go_wp2_with (first
          | (go_at_call 34; (with_reducible refine HE.out.mono ?_); rintro e w2 ⟨rfl, rfl⟩)
          | (go_at_call 59; (with_reducible refine HV.out.mono ?_); rintro e w2 ⟨rfl, rfl⟩)
          | (go_at_call 60; (with_reducible refine ht.out.mono ?_); rintro e w3 ⟨a1, c1, y1, rfl, _, _, hr1, ho1, hob1⟩; replace hob1 := Lib.hid hob1; replace hr1 := Lib.hid hr1; replace ho1 := Lib.hid ho1))
        go_ret
        exact ⟨rfl, ⟨_, hr1.out, hob1.out⟩, ho1.out⟩
end Go.Proofs.YtllpnpeppdfjlaaDoor
namespace Go.Proofs.YtllpnpeppdfjlaaDoor
set_option linter.unusedVariables false
set_option linter.unusedSimpArgs false
open Go.RowKit
theorem results_cell_tmp_row {P : Program} {fn : Func} {p u : Tmp} {ty : TypeId} (h : fn.results = #[.cell p ty, .tmp u]) (tmps : Array Value) (w : World) (g : Nat) (t : TypeId) (cs : Array Value) (fr : Nat × Nat) (d : TypeDesc)
    (hp : tmps.getD p undef = .pointer (some ⟨g, 0, none⟩)) (hg : w.heap[g]? = some (.cells cs t fr))
    (hu : P.underlying ty = some d) (hd : (match d with | .struct _ | .array _ _ => true | _ => false) = true) (hi : (P.info? ty).map (·.size) = some cs.size) :
    (results fn tmps).run P w = .ok (.tuple #[.agg cs, tmps.getD u undef]) w := by
  have hp' : tmps[p]?.getD undef = .pointer (some ⟨g, 0, none⟩) := by simpa using hp
  simp [results, h, hp', asAddr, run_loadVar_row w g t ty cs fr d hg hu hd hi]
end Go.Proofs.YtllpnpeppdfjlaaDoor
namespace Go.Proofs.YtllpnpeppdfjlaaDoor
set_option linter.unusedVariables false
set_option linter.unusedSimpArgs false
open Go.RowKit
set_option maxRecDepth 100000
set_option linter.unusedSimpArgs false
set_option linter.unusedVariables false
structure Va where
  name : ByteArray
  key : Nat → Int
  pow : Int
theorem wpList_load_rowT {w : World} {ops : Array Oper} {rest : List Oper} {o : Oper} {a : Act} {Q : Exit → Act → World → Prop} (hgd : Region.wanted o (yielded ops a.tmps) = true) (ty : TypeId) (x : Operand) (ho : o.op = .load ty x)
    (b off : Nat) (hx : a.eval x = .pointer (some ⟨b, off, none⟩)) (cs : Array Value) (d : TypeDesc) (hc : w.rangeAt b off cs.toList) (hu : Tryd.prog.underlying ty = some d) (hd : d.isRow = true) (hi : (Tryd.prog.info? ty).map (·.size) = some cs.size)
    (h : wpList Tryd.prog ops Q rest (a.put o.dst (.agg cs)) w) : wpList Tryd.prog ops Q (o :: rest) a w :=
  BigFrame.wpList_want hgd fun _ hK => wp_load_mid ty x ho b off hx cs.toList d hc hu hd (by rw [hi, Array.length_toList]) (hK _ _ (by simpa using h))
theorem bkT_lt {w : World} {g : Nat} {o : Obj} (h : w.heap[g]? = some o) : g < w.heap.size := (Array.getElem?_eq_some_iff.1 h).1
theorem rowT_range {w : World} {g : Nat} {cs : Array Value} {T : TypeId} (h : w.heap[g]? = some (.cells cs T (0, 0))) : w.rangeAt g 0 cs.toList := fun j v hv => by
  rw [Nat.zero_add, cell_of_row w g j _ _ _ h]; simpa using hv
/-- a slice of rows -/
def RowsIn {α : Type} (n : Nat) (C : α → List Value) (w : World) (v : Value) (l : List α) : Prop :=
  ∃ a cap, v = .slice a l.length cap ∧ l.length ≤ cap ∧ l.length ≤ maxLen ∧ (l = [] ∨ ∃ ab ao, a = some ⟨ab, ao, none⟩ ∧ ab < w.heap.size ∧ ∀ i s, l[i]? = some s → w.rangeAt ab (ao + i * n) (C s))
theorem rangeT_below {w w' : World} {ab o : Nat} {l : List Value} (h : w.rangeAt ab o l) (hb : Below w.heap.size w w') (hl : ab < w.heap.size) : w'.rangeAt ab o l :=
  fun j v hv => (hb.cell (p := ⟨ab, o + j, none⟩) hl).trans (h j v hv)
theorem RowsIn.below {α : Type} {n : Nat} {C : α → List Value} {w w' : World} {v : Value} {l : List α} (h : RowsIn n C w v l) (hb : Below w.heap.size w w') : RowsIn n C w' v l := by
  obtain ⟨a, cap, rfl, hc, hm, hx⟩ := h
  refine ⟨a, cap, rfl, hc, hm, hx.imp id ?_⟩
  rintro ⟨ab, ao, rfl, hlt, hx⟩
  exact ⟨ab, ao, rfl, Nat.lt_of_lt_of_le hlt hb.size, fun i p hi => rangeT_below (hx i p hi) hb hlt⟩
theorem RowsIn.len {α : Type} {n : Nat} {C : α → List Value} {w : World} {v : Value} {l : List α} (h : RowsIn n C w v l) : ∃ a cap, v = .slice a l.length cap ∧ l.length ≤ cap ∧ l.length ≤ maxLen := by
  obtain ⟨a, cap, e, h1, h2, _⟩ := h
  exact ⟨a, cap, e, h1, h2⟩
theorem RowsIn.at {α : Type} {n : Nat} {C : α → List Value} {w : World} {a : Option Addr} {m cap : Nat} {l : List α} (h : RowsIn n C w (.slice a m cap) l) {i : Nat} {s : α} (hi : l[i]? = some s) : ∃ ab ao, a = some ⟨ab, ao, none⟩ ∧ ab < w.heap.size ∧ w.rangeAt ab (ao + i * n) (C s) := by
  obtain ⟨a', cap', e, hc, hm, hx⟩ := h
  injection e with e1 e2 e3
  subst e1
  rcases hx with rfl | ⟨ab, ao, rfl, hlt, hx⟩
  · simp at hi
  · exact ⟨ab, ao, rfl, hlt, hx i s hi⟩
theorem RowsIn.cut {α : Type} {n : Nat} {C : α → List Value} {w : World} {a : Option Addr} {m cap : Nat} {l : List α} (h : RowsIn n C w (.slice a m cap) l) (q : Nat) (hq : q ≤ l.length) : RowsIn n C w (.slice (cutA a cap 0) q cap) (l.take q) := by
  obtain ⟨a', cap', e, hc, hm, hx⟩ := h
  injection e with e1 e2 e3
  subst e1 e2 e3
  have hl : (l.take q).length = q := by rw [List.length_take]; omega
  refine ⟨cutA a cap 0, cap, by rw [hl], by rw [hl]; omega, by rw [hl]; omega, ?_⟩
  rcases hx with rfl | ⟨ab, ao, rfl, hlt, hx⟩
  · exact .inl (by simp)
  · by_cases hc0 : cap = 0
    · left
      have : q = 0 := by omega
      rw [this]; rfl
    · refine .inr ⟨ab, ao, ?_, hlt, fun i s hi => hx i s ?_⟩
      · unfold cutA
        rw [if_neg hc0]
        show some (Addr.add ⟨ab, ao, none⟩ 0) = _
        rw [Addr.add_mid]; rfl
      · rw [List.getElem?_take] at hi
        split at hi
        · exact hi
        · cases hi
end Go.Proofs.YtllpnpeppdfjlaaDoor
namespace Go.Proofs.YtllpnpeppdfjlaaDoor
set_option linter.unusedVariables false
set_option linter.unusedSimpArgs false
open Go.RowKit
set_option maxRecDepth 100000
set_option linter.unusedSimpArgs false
set_option linter.unusedVariables false
end Go.Proofs.YtllpnpeppdfjlaaDoor
namespace Go.Proofs.YtllpnpeppdfjlaaDoor
set_option linter.unusedVariables false
set_option linter.unusedSimpArgs false
open Go.RowKit
open Go.Maps (Keyed setOf)
set_option maxRecDepth 100000
set_option linter.unusedSimpArgs false
set_option linter.unusedVariables false
/-- a vote -/
structure Vo where
  kind : Int
  height : Int
  round : Int
  blk : Nat → Int
  val : Int
  sv : Value
  sign : List Int
def voC (v : Vo) : Array Value := #[.int .i64 v.kind, .int .i64 v.height, .int .i64 v.round] ++ rowOf .u8 32 v.blk ++ #[.int .i64 v.val, v.sv]
abbrev VoIn (w : World) (v : Value) (l : List Vo) : Prop := RowsIn 37 (fun t => (voC t).toList) w v l
end Go.Proofs.YtllpnpeppdfjlaaDoor
namespace Go.Proofs.YtllpnpeppdfjlaaDoor
set_option linter.unusedVariables false
set_option linter.unusedSimpArgs false
open Go.RowKit
open Go.Maps (Keyed setOf)
set_option maxRecDepth 100000
set_option linter.unusedSimpArgs false
set_option linter.unusedVariables false
/-- a commit -/
structure Cm where
  height : Int
  round : Int
  blk : Nat → Int
end Go.Proofs.YtllpnpeppdfjlaaDoor
namespace Go.Proofs.YtllpnpeppdfjlaaDoor
set_option linter.unusedVariables false
set_option linter.unusedSimpArgs false
open Go.RowKit
set_option maxRecDepth 100000
/-- v is a slice of the numbers l -/
def IntsIn (w : World) (v : Value) (l : List Int) : Prop :=
  ∃ a cap, v = .slice a l.length cap ∧ l.length ≤ cap ∧ l.length ≤ maxLen ∧ (l = [] ∨ ∃ ab ao, a = some ⟨ab, ao, none⟩ ∧ ∀ i x, l[i]? = some x → w.cell? ⟨ab, ao + i, none⟩ = some (.int .i64 x))
theorem IntsIn.below {w w' : World} {v : Value} {l : List Int} (h : IntsIn w v l) (hb : Below w.heap.size w w') : IntsIn w' v l := by
  obtain ⟨a, cap, rfl, hc, hm, hx⟩ := h
  refine ⟨a, cap, rfl, hc, hm, ?_⟩
  rcases hx with hx | ⟨ab, ao, rfl, hx⟩
  · exact .inl hx
  · exact .inr ⟨ab, ao, rfl, fun i y hi => (hb.cell (p := ⟨ab, ao + i, none⟩) (World.block_lt_of_cell? w _ (hx i y hi))).trans (hx i y hi)⟩
end Go.Proofs.YtllpnpeppdfjlaaDoor
namespace Go.Proofs.YtllpnpeppdfjlaaDoor
set_option linter.unusedVariables false
set_option linter.unusedSimpArgs false
open Go.RowKit
set_option maxRecDepth 100000
end Go.Proofs.YtllpnpeppdfjlaaDoor
namespace Go.Proofs.YtllpnpeppdfjlaaDoor
set_option linter.unusedVariables false
set_option linter.unusedSimpArgs false
open Go.RowKit
set_option maxRecDepth 100000
set_option linter.unusedSimpArgs false
set_option linter.unusedVariables false
end Go.Proofs.YtllpnpeppdfjlaaDoor
namespace Go.Proofs.YtllpnpeppdfjlaaDoor
set_option linter.unusedVariables false
set_option linter.unusedSimpArgs false
section
variable {P : Program} {ops : Array Oper} {Q : Exit → Act → World → Prop} {md : Region.Mode} {S : World → Prop} {ds : List Nat}
def anyT (P : Program) (md : Region.Mode) (ops : Array Oper) (Q : Exit → Act → World → Prop) (S : World → Prop) (ds : List Nat) : Nat → Array Bool → Act → World → Prop
  | 0, l, a, w => Region.ready md ops l = [] ∧ Q .normal a w
  | f + 1, l, a, w => (Region.ready md ops l = [] → Q .normal a w) ∧ ∀ i ∈ Region.ready md ops l, wpOp P ops Q i (fun a' w' => (ds.contains i = true → S w') ∧ anyT P md ops Q S ds f (l.setIfInBounds i true) a' w') a w
theorem any_of_T : ∀ (f : Nat) (l : Array Bool) (a : Act) (w : World), anyT P md ops Q S ds f l a w → wpAny P md ops Q f l a w
  | 0, _, _, _, h => h
  | f + 1, _, _, _, h => ⟨h.1, fun i hi => wpOp_mono (fun a' w' h' => any_of_T f _ a' w' h'.2) (h.2 i hi)⟩
theorem unlisted {l : Array Bool} {i : Nat} (h0 : l.getD i true = false) : l.getD i false = false := by
  rcases Nat.lt_or_ge i l.size with h' | h'
  · simp [h'] at h0 ⊢; exact h0
  · simp [Array.getElem?_eq_none h']
/-- ks: operations that come behind i; each operation that is not listed, not of ds and not i is one of them -/
def waitsB (md : Region.Mode) (ops : Array Oper) (ds ks : List Nat) (l : Array Bool) (i : Nat) : Bool :=
  (ks.all fun k => !l.getD k false && (((ops[k]?).map fun o => o.after.any fun e => Region.binds md e && (e.on == i || ks.contains e.on)).getD false)) && (List.range l.size).all fun j => l.getD j true || j == i || ds.contains j || ks.contains j
theorem waitsB_spec {ks : List Nat} {l : Array Bool} {i : Nat} (h : waitsB md ops ds ks l i = true) :
    (∀ j oj, ops[j]? = some oj → ks.contains j = true → ∃ e ∈ oj.after, Region.binds md e = true ∧ (e.on = i ∨ ks.contains e.on = true)) ∧ (∀ k, ks.contains k = true → l.getD k false = false) ∧
    (∀ j, j ≠ i → l.getD j true = false → ¬ ks.contains j = true → ds.contains j = true) := by
  obtain ⟨h1, h2⟩ := Bool.and_eq_true _ _ |>.mp h
  refine ⟨fun j oj hj hk => ?_, fun k hk => ?_, fun j hj hun hK => ?_⟩
  · have h3 := List.all_eq_true.1 h1 j (by simpa using hk)
    rw [hj] at h3
    simp only [Option.map_some, Option.getD_some, Bool.and_eq_true] at h3
    obtain ⟨e, he, hb⟩ := Array.any_eq_true'.1 h3.2
    simp only [Bool.and_eq_true, Bool.or_eq_true, beq_iff_eq] at hb
    exact ⟨e, he, hb.1, hb.2⟩
  · have h3 := List.all_eq_true.1 h1 k (by simpa using hk)
    simp only [Bool.and_eq_true, Bool.not_eq_true'] at h3
    exact h3.1
  · have hlt : j < l.size := by
      rcases Nat.lt_or_ge j l.size with h' | h'
      · exact h'
      · simp [Array.getElem?_eq_none h'] at hun
    have h3 := List.all_eq_true.1 h2 j (List.mem_range.2 hlt)
    rw [hun, beq_false_of_ne hj] at h3
    cases hc : ks.contains j
    · rw [hc] at h3; simpa using h3
    · exact absurd hc hK
theorem anyT_first {i : Nat} {oi : Oper} {v : Value} {B : Nat → Prop} (hi : ops[i]? = some oi) (hsel : ∀ (j : Nat) (o : Oper) cs b, ops[j]? = some o → o.op ≠ .select cs b)
    (hQ : ∀ c a w, Q (.panic c) (a.put oi.dst v) w → Q (.panic c) a w) (hT : ∀ j oj, ops[j]? = some oj → B j → ∃ e ∈ oj.after, Region.binds md e = true ∧ (e.on = i ∨ B e.on)) :
    ∀ (f : Nat) (l : Array Bool) (a : Act) (w : World),
      (∀ j oj, ops[j]? = some oj → j ≠ i → l.getD j true = false → (∀ e ∈ oj.after, Region.binds md e = true → e.on ≠ i) → oi.apart ops oj = true) →
      (∀ k, B k → l.getD k false = false) → (∀ j, j ≠ i → l.getD j true = false → ¬ B j → ds.contains j = true) → i ∈ Region.ready md ops l → YieldsIf P ops S oi v a → S w →
      anyT P md ops Q S ds f (l.setIfInBounds i true) (a.put oi.dst v) w → anyT P md ops Q S ds (f + 1) l a w := by
  intro f
  induction f with
  | zero =>
    intro l a w _ _ _ hr hy hS H
    refine ⟨fun h => (by rw [h] at hr; cases hr), fun j hj => ?_⟩
    by_cases hji : j = i
    · subst hji; exact hy.wpOp hi hS ⟨fun _ => hS, H⟩
    · have := ready_mono hj hji
      rw [H.1] at this
      cases this
  | succ f ih =>
    intro l a w hfree hU hD hr hy hS H
    refine ⟨fun h => (by rw [h] at hr; cases hr), fun j hj => ?_⟩
    by_cases hji : j = i
    · subst hji; exact hy.wpOp hi hS ⟨fun _ => hS, H⟩
    · have h1 := H.2 j (ready_mono hj hji)
      obtain ⟨hjun, oj, hoj, hall⟩ := mem_ready.1 hj
      have hin : l.getD i false = false := unlisted (mem_ready.1 hr).1
      have hnot : ∀ e ∈ oj.after, Region.binds md e = true → e.on ≠ i := fun e he hb heq => by
        have h1 := hall e he hb
        rw [heq, hin] at h1; cases h1
      have hjB : ¬ B j := fun hB => by
        obtain ⟨e, he, hb, h2⟩ := hT j oj hoj hB
        have h3 := hall e he hb
        rcases h2 with h2 | h2
        · rw [h2, hin] at h3; cases h3
        · rw [hU e.on h2] at h3; cases h3
      have h2 := wpOp_putIf hoj (hfree j oj hoj hji hjun hnot) (fun cs b => hsel i oi cs b hi) (fun cs b => hsel j oj cs b hoj) hQ hy h1
      have back : ∀ {k : Nat}, (l.setIfInBounds j true).getD k true = false → l.getD k true = false := fun {k} hun => by
        by_cases hjk : j = k
        · subst hjk; exact hjun
        · rw [getD_set_ne true hjk] at hun; exact hun
      have hU' : ∀ k, B k → (l.setIfInBounds j true).getD k false = false := fun k hk => by
        rw [getD_set_ne false (fun e => hjB (by rw [e]; exact hk) : j ≠ k)]; exact hU k hk
      refine wpOp_mono (fun a' w' h3 => ⟨h3.2.1, ih (l.setIfInBounds j true) a' w' (fun k ok hk hki hun hno => hfree k ok hk hki (back hun) hno) hU' (fun k hk hun hB => hD k hk (back hun) hB) (ready_mono hr (Ne.symm hji)) h3.1 (h3.2.1 (hD j hji hjun hjB)) ?_⟩) h2
      rw [Array.setIfInBounds_comm _ _ hji]
      exact h3.2.2
theorem anyT_take (ks : List Nat) {i : Nat} {oi : Oper} {v : Value} {f : Nat} {l : Array Bool} {a : Act} {w : World} (hi : ops[i]? = some oi)
    (hs : Region.noSelect ops = true) (hf : Region.free md ops l i = true) (hr : (Region.ready md ops l).contains i = true)
    (hQ : ∀ c a w, Q (.panic c) (a.put oi.dst v) w → Q (.panic c) a w) (hT : waitsB md ops ds ks l i = true) (hy : YieldsIf P ops S oi v a) (hS : S w)
    (h : anyT P md ops Q S ds f (l.setIfInBounds i true) (a.put oi.dst v) w) : anyT P md ops Q S ds (f + 1) l a w :=
  anyT_first (B := fun j => ks.contains j = true) hi (Region.noSelect_spec hs) hQ (waitsB_spec hT).1 f l a w (Region.free_spec hi hf)
    (waitsB_spec hT).2.1 (waitsB_spec hT).2.2 (by simpa using hr) hy hS h
theorem anyT_firstY {i : Nat} {oi : Oper} {v : Value} (hi : ops[i]? = some oi) (hsel : ∀ (j : Nat) (o : Oper) cs b, ops[j]? = some o → o.op ≠ .select cs b)
    (hQ : ∀ c a w, Q (.panic c) (a.put oi.dst v) w → Q (.panic c) a w) (hd : ds.contains i = false) :
    ∀ (f : Nat) (l : Array Bool) (a : Act) (w : World),
      (∀ j oj, ops[j]? = some oj → j ≠ i → l.getD j true = false → (∀ e ∈ oj.after, Region.binds md e = true → e.on ≠ i) → oi.apart ops oj = true) →
      i ∈ Region.ready md ops l → YieldsIf P ops (fun _ => True) oi v a →
      anyT P md ops Q S ds f (l.setIfInBounds i true) (a.put oi.dst v) w → anyT P md ops Q S ds (f + 1) l a w := by
  intro f
  induction f with
  | zero =>
    intro l a w _ hr hy H
    refine ⟨fun h => (by rw [h] at hr; cases hr), fun j hj => ?_⟩
    by_cases hji : j = i
    · subst hji; exact hy.wpOp hi trivial ⟨fun h => (by rw [hd] at h; cases h), H⟩
    · have := ready_mono hj hji
      rw [H.1] at this
      cases this
  | succ f ih =>
    intro l a w hfree hr hy H
    refine ⟨fun h => (by rw [h] at hr; cases hr), fun j hj => ?_⟩
    by_cases hji : j = i
    · subst hji; exact hy.wpOp hi trivial ⟨fun h => (by rw [hd] at h; cases h), H⟩
    · have h1 := H.2 j (ready_mono hj hji)
      obtain ⟨hjun, oj, hoj, hall⟩ := mem_ready.1 hj
      have hin : l.getD i false = false := unlisted (mem_ready.1 hr).1
      have hnot : ∀ e ∈ oj.after, Region.binds md e = true → e.on ≠ i := fun e he hb heq => by
        have h1 := hall e he hb
        rw [heq, hin] at h1; cases h1
      have h2 := wpOp_putIf hoj (hfree j oj hoj hji hjun hnot) (fun cs b => hsel i oi cs b hi) (fun cs b => hsel j oj cs b hoj) hQ hy h1
      refine wpOp_mono (fun a' w' h3 => ⟨h3.2.1, ih (l.setIfInBounds j true) a' w' (fun k ok hk hki hun hno => hfree k ok hk hki ?_ hno) (ready_mono hr (Ne.symm hji)) h3.1 ?_⟩) h2
      · by_cases hjk : j = k
        · subst hjk; exact hjun
        · rw [getD_set_ne true hjk] at hun; exact hun
      · rw [Array.setIfInBounds_comm _ _ hji]
        exact h3.2.2
theorem anyT_takeY {i : Nat} {oi : Oper} {v : Value} {f : Nat} {l : Array Bool} {a : Act} {w : World} (hi : ops[i]? = some oi)
    (hs : Region.noSelect ops = true) (hf : Region.free md ops l i = true) (hr : (Region.ready md ops l).contains i = true)
    (hQ : ∀ c a w, Q (.panic c) (a.put oi.dst v) w → Q (.panic c) a w) (hd : ds.contains i = false) (hy : Yields P ops oi v a)
    (h : anyT P md ops Q S ds f (l.setIfInBounds i true) (a.put oi.dst v) w) : anyT P md ops Q S ds (f + 1) l a w :=
  anyT_firstY hi (Region.noSelect_spec hs) hQ hd f l a w (Region.free_spec hi hf) (by simpa using hr) hy.yieldsIf h
theorem anyT_one {i : Nat} {o : Oper} {f : Nat} {l : Array Bool} {a : Act} {w : World} (hr : Region.ready md ops l = [i]) (ho : ops[i]? = some o)
    (h : ∀ K' : Act → World → Prop, (∀ a w, (ds.contains i = true → S w) → anyT P md ops Q S ds f (l.setIfInBounds i true) a w → K' a w) → if Region.wanted o (yielded ops a.tmps) = true then Oper.wp P o a w K' Q else K' (a.put o.dst undef) w) : anyT P md ops Q S ds (f + 1) l a w :=
  ⟨fun h0 => by rw [hr] at h0; (cases h0), fun j hj => by
    rw [hr] at hj
    obtain rfl := List.mem_singleton.1 hj
    exact wpOp_step ho fun K' hK => h K' fun a w hS hW => hK a w ⟨hS, hW⟩⟩
def readyT (P : Program) (md : Region.Mode) (ops : Array Oper) (Q : Exit → Act → World → Prop) (S : World → Prop) (ds : List Nat) (f : Nat) (l : Array Bool) (a : Act) (w : World) (rs : List Nat) : Prop :=
  ∀ i ∈ rs, wpOp P ops Q i (fun a' w' => (ds.contains i = true → S w') ∧ anyT P md ops Q S ds f (l.setIfInBounds i true) a' w') a w
theorem readyT_nil {f : Nat} {l : Array Bool} {a : Act} {w : World} : readyT P md ops Q S ds f l a w [] := fun _ h => by cases h
theorem readyT_cons {f : Nat} {l : Array Bool} {a : Act} {w : World} {i : Nat} {o : Oper} {rs : List Nat} (ho : ops[i]? = some o)
    (h : ∀ K' : Act → World → Prop, (∀ a w, (ds.contains i = true → S w) → anyT P md ops Q S ds f (l.setIfInBounds i true) a w → K' a w) → if Region.wanted o (yielded ops a.tmps) = true then Oper.wp P o a w K' Q else K' (a.put o.dst undef) w)
    (hs : readyT P md ops Q S ds f l a w rs) : readyT P md ops Q S ds f l a w (i :: rs) := fun j hj => by
  rcases List.mem_cons.1 hj with rfl | hj
  · exact wpOp_step ho fun K' hK => h K' fun a w hS hW => hK a w ⟨hS, hW⟩
  · exact hs j hj
theorem anyT_ready {rs : List Nat} {f : Nat} {l : Array Bool} {a : Act} {w : World} (hr : Region.ready md ops l = rs) (hne : rs ≠ [])
    (h : readyT P md ops Q S ds f l a w rs) : anyT P md ops Q S ds (f + 1) l a w :=
  ⟨fun h0 => absurd (hr ▸ h0) hne, hr ▸ h⟩
theorem anyT_done {l : Array Bool} {a : Act} {w : World} (hr : Region.ready md ops l = []) (h : Q .normal a w) : ∀ f, anyT P md ops Q S ds f l a w
  | 0 => ⟨hr, h⟩
  | _ + 1 => ⟨fun _ => h, by rw [hr]; simp⟩
theorem wp_region_T (S : World → Prop) (ds : List Nat) {id : Nat} {a : Act} {w : World} (hm : P.follows .mixedOrders = true)
    (h : anyT P .any ops Q S ds ops.size (Array.replicate ops.size false) a w.drew) : (Code.region id ops true).wp P Q a w :=
  wp_region_any hm (any_of_T _ _ _ _ h)
end
theorem not_mem {p : Prop} {ds : List Nat} {i : Nat} (h : ds.contains i = false) : ds.contains i = true → p := fun h' => by rw [h] at h'; cases h'
end Go.Proofs.YtllpnpeppdfjlaaDoor
namespace Go.Proofs.YtllpnpeppdfjlaaDoor
set_option linter.unusedVariables false
set_option linter.unusedSimpArgs false
open Go.RowKit Go.Extern.Stop Go.Stop Go.Extern
set_option maxRecDepth 100000
end Go.Proofs.YtllpnpeppdfjlaaDoor
namespace Go.Proofs.YtllpnpeppdfjlaaDoor
set_option linter.unusedVariables false
set_option linter.unusedSimpArgs false
open Go.RowKit
end Go.Proofs.YtllpnpeppdfjlaaDoor
namespace Go.Proofs.YtllpnpeppdfjlaaDoor
set_option linter.unusedVariables false
set_option linter.unusedSimpArgs false
open Go.RowKit
end Go.Proofs.YtllpnpeppdfjlaaDoor
namespace Go.Proofs.YtllpnpeppdfjlaaDoor
set_option linter.unusedVariables false
set_option linter.unusedSimpArgs false
open Go.RowKit
def clr (f : Nat → Int) (o m : Nat) : Nat → Int := fun i => if o ≤ i ∧ i < o + m then 0 else f i
theorem RowAt.clear {g n : Nat} {k : IntKind} {t : TypeId} : ∀ (m o : Nat) (f : Nat → Int) (w : World), RowAt w g k n t f → RowAt (w.setCells g o (List.replicate m (.int k 0))) g k n t (clr f o m)
  | 0, o, f, w, h => by
    have : clr f o 0 = f := by funext i; unfold clr; rw [if_neg (by omega)]
    rw [this]; exact h
  | m + 1, o, f, w, h => by
    have := RowAt.clear m (o + 1) _ _ (h.set o 0)
    have e : clr (upd f o 0) (o + 1) m = clr f o (m + 1) := by
      funext i
      unfold clr upd
      by_cases h1 : o + 1 ≤ i ∧ i < o + 1 + m
      · rw [if_pos h1, if_pos (by omega)]
      · rw [if_neg h1]
        by_cases h2 : i = o
        · rw [if_pos h2, if_pos (by omega)]
        · rw [if_neg h2, if_neg (by omega)]
    rw [e] at this
    exact this
end Go.Proofs.YtllpnpeppdfjlaaDoor
namespace Go.Proofs.YtllpnpeppdfjlaaDoor
set_option linter.unusedVariables false
set_option linter.unusedSimpArgs false
open Go.RowKit
def BT (i : Nat) : Int := (([1779033703, 3144134277, 1013904242, 2773480762, 1359893119, 2600822924, 528734635, 1541459225] : List Nat).getD i 0 : Nat)
end Go.Proofs.YtllpnpeppdfjlaaDoor
namespace Go.Proofs.YtllpnpeppdfjlaaDoor
set_option linter.unusedVariables false
set_option linter.unusedSimpArgs false
open Go.RowKit
structure HS where
  s : Nat → Int
  b : Nat → Int
  n : Int
/-- a list laid over a block from place u on -/
def lay (b : Nat → Int) : Nat → List Int → Nat → Int
  | _, [] => b
  | u, y :: ys => lay (upd b u y) (u + 1) ys
end Go.Proofs.YtllpnpeppdfjlaaDoor
namespace Go.Proofs.YtllpnpeppdfjlaaDoor
set_option linter.unusedVariables false
set_option linter.unusedSimpArgs false
open Go.RowKit
/-- v is a slice of the bytes xs, apart from block g -/
def BytesAt (w : World) (g : Nat) (v : Value) (xs : List Int) : Prop :=
  ∃ a cap, v = .slice a xs.length cap ∧ xs.length ≤ cap ∧ xs.length ≤ maxLen ∧ (xs = [] ∨ ∃ ab ao, a = some ⟨ab, ao, none⟩ ∧ ab ≠ g ∧ ∀ i x, xs[i]? = some x → w.cell? ⟨ab, ao + i, none⟩ = some (.int .u8 x))
theorem BytesAt.only {g : Nat} {w w' : World} {v : Value} {xs : List Int} (h : BytesAt w g v xs) (ho : Only g w w') : BytesAt w' g v xs := by
  obtain ⟨a, cap, rfl, hc, hm, hx⟩ := h
  refine ⟨a, cap, rfl, hc, hm, ?_⟩
  rcases hx with hx | ⟨ab, ao, rfl, hne, hx⟩
  · exact .inl hx
  · exact .inr ⟨ab, ao, rfl, hne, fun i x hi => ho.cell (hx i x hi) hne⟩
/-- a cut at m -/
theorem BytesAt.drop {g : Nat} {w : World} {ab ao cap m : Nat} {xs : List Int} (hc : xs.length ≤ cap) (hm : xs.length ≤ maxLen) (hne : ab ≠ g) (hx : ∀ i x, xs[i]? = some x → w.cell? ⟨ab, ao + i, none⟩ = some (.int .u8 x)) (hmx : m ≤ xs.length)
    (a' : Option Addr) (ha : a' = if cap = m then some ⟨ab, ao, none⟩ else some ⟨ab, ao + m, none⟩) : BytesAt w g (.slice a' (xs.length - m) (cap - m)) (xs.drop m) := by
  refine ⟨a', cap - m, by rw [List.length_drop], by rw [List.length_drop]; omega, by rw [List.length_drop]; omega, ?_⟩
  by_cases h : cap = m
  · left
    apply List.drop_eq_nil_of_le
    omega
  · right
    refine ⟨ab, ao + m, by rw [ha, if_neg h], hne, fun i x hi => ?_⟩
    rw [List.getElem?_drop] at hi
    rw [Nat.add_assoc]
    exact hx _ _ hi
theorem Only.setCells (g : Nat) : ∀ (vs : List Value) (o : Nat) (w : World), Only g w (w.setCells g o vs)
  | [], _, w => Only.refl g w
  | v :: r, o, w => (Only.setCell w ⟨g, o, none⟩ v).trans (Only.setCells g r (o + 1) _)
end Go.Proofs.YtllpnpeppdfjlaaDoor
