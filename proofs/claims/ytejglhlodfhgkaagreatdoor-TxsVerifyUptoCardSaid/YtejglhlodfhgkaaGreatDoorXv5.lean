/- Part 5 of the proof. -/
import Derived.Test.YtejglhlodfhgkaaGreatDoorXv1
import Derived.Test.YtejglhlodfhgkaaGreatDoorXv3
import Derived.Test.YtejglhlodfhgkaaGreatDoorXv4
namespace Go.Proofs.YtejglhlodfhgkaaGreatDoor
set_option linter.unusedVariables false
set_option linter.unusedSimpArgs false
open Go.RowKit
set_option maxRecDepth 100000
/-- block p is a Reader: y are the bytes ys that are left, e its error -/
structure RAt (w : World) (p : Nat) (y : Value) (ys : List Int) (e : Option Nat) : Prop where
  at_ : w.heap[p]? = some (.cells #[y, errV e] 204 (0, 0))
  in_ : BytesIn w y ys
  ok : bytesOk ys
  le : ys.length ≤ 140737488355328
  ne : ∀ k, y.ownBlock = some k → k ≠ p
theorem RAt.lt {w : World} {p : Nat} {y : Value} {ys : List Int} {e : Option Nat} (h : RAt w p y ys e) : p < w.heap.size := (Array.getElem?_eq_some_iff.1 h.at_).1
theorem BytesIn.only {w w' : World} {y : Value} {ys : List Int} {p : Nat} (h : BytesIn w y ys) (ho : Only p w w') (hn : ∀ k, y.ownBlock = some k → k ≠ p) : BytesIn w' y ys := by
  obtain ⟨a, c, rfl, hc, hm, hx⟩ := h
  refine ⟨a, c, rfl, hc, hm, hx.imp id ?_⟩
  rintro ⟨ab, ao, rfl, hx1⟩
  exact ⟨ab, ao, rfl, fun i x hi => ho.cell (hx1 i x hi) (hn ab rfl)⟩
theorem RAt.below {w w' : World} {p : Nat} {y : Value} {ys : List Int} {e : Option Nat} (h : RAt w p y ys e) (hb : Below w.heap.size w w') : RAt w' p y ys e :=
  ⟨(hb.block p h.lt).trans h.at_, h.in_.below hb, h.ok, h.le, h.ne⟩
theorem RAt.cell0 {w : World} {p : Nat} {y : Value} {ys : List Int} {e : Option Nat} (h : RAt w p y ys e) : w.cell? ⟨p, 0, none⟩ = some y := by rw [cell_of_row w p 0 _ _ _ h.at_]; rfl
theorem RAt.cell1 {w : World} {p : Nat} {y : Value} {ys : List Int} {e : Option Nat} (h : RAt w p y ys e) : w.cell? ⟨p, 1, none⟩ = some (errV e) := by rw [cell_of_row w p 1 _ _ _ h.at_]; rfl
theorem RAt.free {w : World} {p : Nat} {y : Value} {ys : List Int} {e : Option Nat} (h : RAt w p y ys e) (i : Nat) : w.frozen? ⟨p, i, none⟩ = false := frozen_of_row w p i _ _ h.at_
theorem RAt.wide {w : World} {p : Nat} {y : Value} {ys : List Int} {e : Option Nat} (h : RAt w p y ys e) : ∃ a c, y = .slice a ys.length c ∧ ys.length ≤ c := by
  obtain ⟨a, c, rfl, hc, _⟩ := h.in_; exact ⟨a, c, rfl, hc⟩
theorem RAt.keep {w w' : World} {p : Nat} {y : Value} {ys : List Int} {e : Option Nat} (h : RAt w p y ys e) (hp : w'.heap[p]? = w.heap[p]?) (hk : ys ≠ [] → ∀ k, y.ownBlock = some k → w'.heap[k]? = w.heap[k]?) : RAt w' p y ys e := by
  refine ⟨hp.trans h.at_, ?_, h.ok, h.le, h.ne⟩
  obtain ⟨a, c, rfl, hc, hm, hx⟩ := h.in_
  refine ⟨a, c, rfl, hc, hm, ?_⟩
  by_cases hn : ys = []
  · exact .inl hn
  · obtain ⟨ab, ao, rfl, hx1⟩ := hx.resolve_left hn
    exact .inr ⟨ab, ao, rfl, fun i x hi => (World.cell?_of_block (w := w) (hk hn ab rfl)).trans (hx1 i x hi)⟩
/-- bytes lie in memory -/
theorem RAt.own_lt {w : World} {p : Nat} {y : Value} {ys : List Int} {e : Option Nat} (h : RAt w p y ys e) (hn : ys ≠ []) : ∀ k, y.ownBlock = some k → k < w.heap.size := by
  intro k hk
  obtain ⟨a, c, rfl, hc, hm, hx⟩ := h.in_
  obtain ⟨ab, ao, rfl, hx1⟩ := hx.resolve_left hn
  obtain ⟨b, r, rfl⟩ := List.exists_cons_of_ne_nil hn
  simp only [Value.ownBlock, Option.some.injEq] at hk
  subst hk
  exact World.block_lt_of_cell? w _ (hx1 0 b rfl)
/-- its error is set -/
theorem RAt.err {w : World} {p : Nat} {y : Value} {ys : List Int} {e : Option Nat} (h : RAt w p y ys e) (e' : Option Nat) : RAt (w.setCell ⟨p, 1, none⟩ (errV e')) p y ys e' :=
  ⟨by rw [heap_setCell_same w p 1 _ _ _ h.at_]; rfl, h.in_.only (Only.setCell w ⟨p, 1, none⟩ _) h.ne, h.ok, h.le, h.ne⟩
theorem own_cut (a : Option Addr) (c k n m : Nat) : (Value.slice (cutA a c k) n m).ownBlock = (Value.slice a n m).ownBlock := by
  unfold cutA
  split
  · rfl
  · cases a with
    | none => rfl
    | some ad => show some (Addr.add ad k).block = some ad.block; unfold Addr.add; split <;> rfl
theorem own_len (a : Option Addr) (n m n' m' : Nat) : (Value.slice a n m).ownBlock = (Value.slice a n' m').ownBlock := by cases a <;> rfl
theorem bytesOk_drop {xs : List Int} (h : bytesOk xs) (k : Nat) : bytesOk (xs.drop k) := fun x hx => h x (List.mem_of_mem_drop hx)
theorem bytesOk_take {xs : List Int} (h : bytesOk xs) (k : Nat) : bytesOk (xs.take k) := fun x hx => h x (List.mem_of_mem_take hx)
/-- bytes are taken off -/
theorem RAt.took {w : World} {p : Nat} {a : Option Addr} {c : Nat} {ys : List Int} {e : Option Nat} (h : RAt w p (.slice a ys.length c) ys e) (k : Nat) (hk : k ≤ ys.length) :
    RAt (w.setCell ⟨p, 0, none⟩ (.slice (cutA a c k) (ys.length - k) (c - k))) p (.slice (cutA a c k) (ys.length - k) (c - k)) (ys.drop k) e := by
  have hn : ∀ j, (Value.slice (cutA a c k) (ys.length - k) (c - k)).ownBlock = some j → j ≠ p := fun j hj => h.ne j (by rw [own_cut] at hj; rw [← hj]; exact own_len _ _ _ _ _)
  have hb := h.in_.cut k ys.length hk (Nat.le_refl _)
  rw [List.take_length] at hb
  exact ⟨by rw [heap_setCell_same w p 0 _ _ _ h.at_]; rfl, hb.only (Only.setCell w ⟨p, 0, none⟩ _) hn, bytesOk_drop h.ok k, by rw [List.length_drop]; have := h.le; omega, hn⟩
theorem read_any (v : Value) (ys : List Int) (w : World) (hy : BytesIn w v ys) (ho : bytesOk ys) (hl : ys.length ≤ 140737488355328) :
    Calls Tryz.prog 66 #[v] w fun e w' => ∃ p y, e = .returned (.pointer (some ⟨p, 0, none⟩)) ∧ w.heap.size ≤ p ∧ RAt w' p y ys none ∧ Below w.heap.size w w' := by
  have HC := Lib.hid (clone_any v ys w hy hl)
  have HO := Lib.hid ho
  clear hy ho
  go_enter Tryz.func66, Tryz.ntmps66
  go_wp2_with (go_at_call 121; (with_reducible refine HC.out.mono ?_); rintro e w1 ⟨v', rfl, ho, hb⟩; obtain ⟨a, c, rfl⟩ := owns_wide ho; have H := Lib.hid ho; have HB := Lib.hid hb; clear ho hb)
  go_ret
  have h1 := H.out
  have hin := owns_in h1 (by unfold maxLen; omega)
  refine ⟨_, _, rfl, HB.out.size, ⟨heap_alloc_new w1 _, hin.below (below_alloc w1 _), HO.out, hl, fun k hk => ?_⟩, HB.out.alloc HB.out.size _⟩
  have := (h1.lt k hk).2
  omega
theorem err_any (p : Nat) (y : Value) (ys : List Int) (e : Option Nat) (w : World) (h : RAt w p y ys e) :
    Calls Tryz.prog 137 #[.pointer (some ⟨p, 0, none⟩)] w fun r w' => r = .returned (errV e) ∧ w' = w := by
  have hc := h.cell1
  cases e
  · simp only [errV] at hc ⊢
    go_enter Tryz.func137, Tryz.ntmps137
    go_wp2_with (fail)
    go_ret
    exact ⟨rfl, rfl⟩
  · simp only [errV] at hc ⊢
    go_enter Tryz.func137, Tryz.ntmps137
    go_wp2_with (fail)
    go_ret
    exact ⟨rfl, rfl⟩
theorem left_any (p : Nat) (y : Value) (ys : List Int) (e : Option Nat) (w : World) (h : RAt w p y ys e) :
    Calls Tryz.prog 138 #[.pointer (some ⟨p, 0, none⟩)] w fun r w' => r = .returned (.int .i64 (ys.length : Int)) ∧ w' = w := by
  have hc := h.cell0
  obtain ⟨a, c, rfl, _⟩ := h.wide
  go_enter Tryz.func138, Tryz.ntmps138
  go_wp2_with (fail)
  go_ret
  exact ⟨rfl, rfl⟩
set_option maxRecDepth 100000 in
set_option maxHeartbeats 400000 in
theorem take_any (p : Nat) (y : Value) (ys : List Int) (e : Option Nat) (k : Nat) (w : World) (h : RAt w p y ys e) (hk : k ≤ ys.length) :
    Calls Tryz.prog 167 #[.pointer (some ⟨p, 0, none⟩), .int .i64 (k : Int)] w fun r w' => ∃ a c y', r = .returned (.slice a k c) ∧ BytesIn w' (.slice a k c) (ys.take k) ∧ (∀ j, (Value.slice a k c).ownBlock = some j → j ≠ p) ∧ RAt w' p y' (ys.drop k) e ∧ Only p w w' ∧ y'.ownBlock = y.ownBlock := by
  obtain ⟨a, c, rfl, hle⟩ := h.wide
  have HR := Lib.hid h
  have hc := h.cell0
  have hf := h.free 0
  have hs1 := sliceBhi a ys.length c k (by omega)
  have hs2 := sliceBlo a ys.length c k hk
  have HK := Lib.hid hk
  clear h hk hle
  go_enter Tryz.func167, Tryz.ntmps167
  go_wp2_with (fail)
  go_ret
  have hn : ∀ j, (Value.slice (cutA a c 0) k c).ownBlock = some j → j ≠ p := fun j hj => HR.out.ne j (by rw [own_cut] at hj; rw [← hj]; exact own_len _ _ _ _ _)
  refine ⟨cutA a c 0, c, _, rfl, ?_, hn, HR.out.took k HK.out, Only.setCell w ⟨p, 0, none⟩ _, by rw [own_cut]; exact own_len _ _ _ _ _⟩
  have := (HR.out.in_.cut0 k HK.out).only (Only.setCell w ⟨p, 0, none⟩ (.slice (cutA a c k) (ys.length - k) (c - k))) hn
  rw [List.drop_zero] at this
  exact this
end Go.Proofs.YtejglhlodfhgkaaGreatDoor
namespace Go.Proofs.YtejglhlodfhgkaaGreatDoor
set_option linter.unusedVariables false
set_option linter.unusedSimpArgs false
open Go.RowKit
set_option maxRecDepth 100000
/-- the bytes that are left, and the error -/
abbrev RSt := List Int × Option Nat
/-- block p is a Reader in this state -/
def RS (w : World) (p : Nat) (s : RSt) : Prop := ∃ y, RAt w p y s.1 s.2
theorem chk_ok {n size last most : Nat} (h : (chk n size last most).2.2 = none) : (chk n size last most) = (n, size, none) ∧ n ≤ most ∧ ¬ ((1 < size ∧ last = 0) ∨ (size = 10 ∧ 1 < last)) := by
  unfold chk at *
  by_cases h1 : (1 < size ∧ last = 0) ∨ (size = 10 ∧ 1 < last)
  · rw [if_pos h1] at h; cases h
  · rw [if_neg h1] at h ⊢
    by_cases h2 : most < n
    · rw [if_pos h2] at h; cases h
    · rw [if_neg h2]; exact ⟨rfl, by omega, h1⟩
theorem accF_lt64 (xs : List Int) (i : Nat) (h : i ≤ 10) : accF xs i < 18446744073709551616 := by
  rcases Nat.lt_or_ge i 10 with h1 | h1
  · have := accF_lt xs i (by omega)
    have h2 : (128 : Nat) ^ i ≤ 128 ^ 9 := Nat.pow_le_pow_right (by decide) (by omega)
    have h3 : (128 : Nat) ^ 9 = 9223372036854775808 := by decide
    omega
  · obtain rfl : i = 10 := by omega
    have := accF_lt xs 9 (by omega)
    have h3 : (128 : Nat) ^ 9 = 9223372036854775808 := by decide
    rw [h3] at this
    show accF xs 9 + (xs.getD 9 0).toNat % 128 * 128 ^ 9 % 18446744073709551616 < _
    rw [h3]
    omega
theorem rdFrom_ok (xs : List Int) (most : Nat) : ∀ k i, i + k ≤ xs.length → i + k ≤ 10 → (rdFrom xs most k i).2.2 = none →
    (rdFrom xs most k i).2.1 ≤ xs.length ∧ (rdFrom xs most k i).1 < 18446744073709551616 ∧ (rdFrom xs most k i).1 ≤ most
  | 0, i, _, _, h => by
    unfold rdFrom at h
    split at h <;> cases h
  | k + 1, i, h1, h2, h => by
    unfold rdFrom at h ⊢
    by_cases hb : xs.getD i 0 < 128
    · rw [if_pos hb] at h ⊢
      obtain ⟨e, hm, _⟩ := chk_ok h
      rw [e]
      exact ⟨by show i + 1 ≤ _; omega, accF_lt64 xs (i + 1) (by omega), hm⟩
    · rw [if_neg hb] at h ⊢
      exact rdFrom_ok xs most k (i + 1) (by omega) (by omega) h
theorem rdF_ok {xs : List Int} {most : Nat} (h : (rdF xs most).2.2 = none) : (rdF xs most).2.1 ≤ xs.length ∧ (rdF xs most).1 < 18446744073709551616 ∧ (rdF xs most).1 ≤ most :=
  rdFrom_ok xs most _ 0 (by omega) (by omega) h
/-- Uint -/
def uintS (s : RSt) (most : Nat) : Nat × RSt :=
  match s.2 with
  | some _ => (0, s)
  | none => match (rdF s.1 most).2.2 with
    | some x => (0, s.1, some x)
    | none => ((rdF s.1 most).1, s.1.drop (rdF s.1 most).2.1, none)
theorem uintS_err (ys : List Int) (x most : Nat) : uintS (ys, some x) most = (0, ys, some x) := rfl
theorem uintS_bad {ys : List Int} {x most : Nat} (h : (rdF ys most).2.2 = some x) : uintS (ys, none) most = (0, ys, some x) := by
  unfold uintS; simp only [h]
theorem uintS_good {ys : List Int} {most : Nat} (h : (rdF ys most).2.2 = none) : uintS (ys, none) most = ((rdF ys most).1, ys.drop (rdF ys most).2.1, none) := by
  unfold uintS; simp only [h]
theorem uintS_lt (s : RSt) (most : Nat) : (uintS s most).1 < 18446744073709551616 := by
  obtain ⟨ys, e⟩ := s
  cases e with
  | some x => rw [uintS_err]; show (0 : Nat) < _; decide
  | none =>
    cases h : (rdF ys most).2.2 with
    | some x => rw [uintS_bad h]; show (0 : Nat) < _; decide
    | none => rw [uintS_good h]; exact (rdF_ok h).2.1
theorem tripV_of (r : Nat × Nat × Option Nat) (e : Option Nat) (h : r.2.2 = e) : tripV r = .tuple #[.int .u64 (r.1 : Int), .int .i64 (r.2.1 : Int), errV e] := by unfold tripV; rw [h]
set_option maxRecDepth 100000 in
set_option maxHeartbeats 400000 in
theorem uint_any (p : Nat) (s : RSt) (most : Nat) (w : World) (h : RS w p s) :
    Calls Tryz.prog 168 #[.pointer (some ⟨p, 0, none⟩), .int .u64 (most : Int)] w fun r w' => r = .returned (.int .u64 ((uintS s most).1 : Int)) ∧ RS w' p (uintS s most).2 ∧ Only p w w' := by
  obtain ⟨ys, e⟩ := s
  obtain ⟨y, h⟩ := h
  have HE := Lib.hid (err_any p y ys e w h)
  have HR := Lib.hid h
  have hc0 := h.cell0
  have hc1 := h.cell1
  have hf := h.free 1
  obtain ⟨a, c, rfl, hle⟩ := h.wide
  clear hle
  cases e with
  | some x =>
    rw [uintS_err]
    simp only [errV] at HE hc1
    go_enter Tryz.func168, Tryz.ntmps168
    go_wp2_with (go_at_call 137; (with_reducible refine HE.out.mono ?_); rintro e w2 ⟨rfl, rfl⟩)
    go_ret
    exact ⟨rfl, ⟨_, HR.out⟩, Only.refl _ _⟩
  | none =>
    simp only [errV] at HE hc1
    have HV := varint_any (.slice a ys.length c) ys most w h.in_ h.ok
    cases hx : (rdF ys most).2.2 with
    | some x =>
      rw [uintS_bad hx]
      rw [tripV_of _ _ hx] at HV
      replace HV := Lib.hid HV
      have HW := Lib.hid (h.err (some x))
      simp only [errV] at HV HW
      clear h
      go_enter Tryz.func168, Tryz.ntmps168
      go_wp2_with (first
        | (go_at_call 137; (with_reducible refine HE.out.mono ?_); rintro e w2 ⟨rfl, rfl⟩)
        | (go_at_call 220; (with_reducible refine HV.out.mono ?_); rintro e w2 ⟨rfl, rfl⟩))
      go_ret
      exact ⟨rfl, ⟨_, HW.out⟩, Only.setCell _ ⟨p, 1, none⟩ _⟩
    | none =>
      rw [uintS_good hx]
      have ht := take_any p _ ys none (rdF ys most).2.1 w h (rdF_ok hx).1
      rw [tripV_of _ _ hx] at HV
      replace HV := Lib.hid HV
      replace ht := Lib.hid ht
      simp only [errV] at HV
      clear h
      generalize (rdF ys most).2.1 = size at *
      generalize (rdF ys most).1 = n at *
      go_enter Tryz.func168, Tryz.ntmps168
      go_wp2_with (first
        | (go_at_call 137; (with_reducible refine HE.out.mono ?_); rintro e w2 ⟨rfl, rfl⟩)
        | (go_at_call 220; (with_reducible refine HV.out.mono ?_); rintro e w2 ⟨rfl, rfl⟩)
        | (go_at_call 167; (with_reducible refine ht.out.mono ?_); rintro e w3 ⟨a1, c1, y1, rfl, _, _, hr1, ho1, _⟩; replace hr1 := Lib.hid hr1; replace ho1 := Lib.hid ho1))
      go_ret
      exact ⟨rfl, ⟨_, hr1.out⟩, ho1.out⟩
/-- the number with a sign -/
def unzig (n : Nat) : Int := if n % 2 = 1 then -((n / 2 : Nat) : Int) - 1 else ((n / 2 : Nat) : Int)
theorem unzig_zig (n : Int) : unzig (zig n) = n := by
  unfold unzig zig
  by_cases h : n < 0
  · rw [if_pos h, if_pos (by omega)]; omega
  · rw [if_neg h, if_neg (by omega)]; omega
def intS (s : RSt) : Int × RSt := (unzig (uintS s 18446744073709551615).1, (uintS s 18446744073709551615).2)
/-- Done -/
def doneE (s : RSt) : Option Nat :=
  match s.2 with
  | some x => some x
  | none => if 0 < s.1.length then some 3 else none
set_option maxRecDepth 100000 in
set_option maxHeartbeats 400000 in
theorem rdone_any (p : Nat) (s : RSt) (w : World) (h : RS w p s) :
    Calls Tryz.prog 68 #[.pointer (some ⟨p, 0, none⟩)] w fun r w' => r = .returned (errV (doneE s)) ∧ w' = w := by
  obtain ⟨ys, e⟩ := s
  obtain ⟨y, h⟩ := h
  have HE := Lib.hid (err_any p y ys e w h)
  have HL := Lib.hid (left_any p y ys e w h)
  clear h
  cases e with
  | some x =>
    simp only [doneE, errV] at HE ⊢
    go_enter Tryz.func68, Tryz.ntmps68
    go_wp2_with (go_at_call 137; (with_reducible refine HE.out.mono ?_); rintro e w2 ⟨rfl, rfl⟩)
    go_ret
    exact ⟨rfl, rfl⟩
  | none =>
    simp only [doneE, errV] at HE ⊢
    by_cases h0 : 0 < ys.length
    · rw [if_pos h0]
      have h1 : (0 : Int) < (ys.length : Int) := by omega
      go_enter Tryz.func68, Tryz.ntmps68
      go_wp2_with (first
        | (go_at_call 137; (with_reducible refine HE.out.mono ?_); rintro e w2 ⟨rfl, rfl⟩)
        | (go_at_call 138; (with_reducible refine HL.out.mono ?_); rintro e w2 ⟨rfl, rfl⟩))
      go_ret
      exact ⟨rfl, rfl⟩
    · rw [if_neg h0]
      have h1 : ¬ (0 : Int) < (ys.length : Int) := by omega
      go_enter Tryz.func68, Tryz.ntmps68
      go_wp2_with (first
        | (go_at_call 137; (with_reducible refine HE.out.mono ?_); rintro e w2 ⟨rfl, rfl⟩)
        | (go_at_call 138; (with_reducible refine HL.out.mono ?_); rintro e w2 ⟨rfl, rfl⟩))
      go_ret
      exact ⟨rfl, rfl⟩
end Go.Proofs.YtejglhlodfhgkaaGreatDoor
namespace Go.Proofs.YtejglhlodfhgkaaGreatDoor
set_option linter.unusedVariables false
set_option linter.unusedSimpArgs false
open Go.RowKit
set_option maxRecDepth 100000
def RO (w : World) (p : Nat) (b : Option Nat) (s : RSt) : Prop := ∃ y, RAt w p y s.1 s.2 ∧ y.ownBlock = b
theorem RO.rs {w : World} {p : Nat} {b : Option Nat} {s : RSt} (h : RO w p b s) : RS w p s := by obtain ⟨y, h, _⟩ := h; exact ⟨y, h⟩
set_option maxHeartbeats 1000000 in
theorem uintO_any (p : Nat) (ob : Option Nat) (s : RSt) (most : Nat) (w : World) (h : RO w p ob s) :
    Calls Tryz.prog 168 #[.pointer (some ⟨p, 0, none⟩), .int .u64 (most : Int)] w fun r w' => r = .returned (.int .u64 ((uintS s most).1 : Int)) ∧ RO w' p ob (uintS s most).2 ∧ Only p w w' := by
  obtain ⟨ys, e⟩ := s
  obtain ⟨y, h, hob⟩ := h
  subst hob
  have HE := Lib.hid (err_any p y ys e w h)
  have HR := Lib.hid h
  have hc0 := h.cell0
  have hc1 := h.cell1
  have hf := h.free 1
  obtain ⟨a, c, rfl, hle⟩ := h.wide
  clear hle
  cases e with
  | some x =>
    rw [uintS_err]
    simp only [errV] at HE hc1
    go_enter Tryz.func168, Tryz.ntmps168
    go_wp2_with (go_at_call 137; (with_reducible refine HE.out.mono ?_); rintro e w2 ⟨rfl, rfl⟩)
    go_ret
    exact ⟨rfl, ⟨_, HR.out, rfl⟩, Only.refl _ _⟩
  | none =>
    simp only [errV] at HE hc1
    have HV := varint_any (.slice a ys.length c) ys most w h.in_ h.ok
    cases hx : (rdF ys most).2.2 with
    | some x =>
      rw [uintS_bad hx]
      rw [tripV_of _ _ hx] at HV
      replace HV := Lib.hid HV
      have HW := Lib.hid (h.err (some x))
      simp only [errV] at HV HW
      clear h
      go_enter Tryz.func168, Tryz.ntmps168
      go_wp2_with (first
        | (go_at_call 137; (with_reducible refine HE.out.mono ?_); rintro e w2 ⟨rfl, rfl⟩)
        | (go_at_call 220; (with_reducible refine HV.out.mono ?_); rintro e w2 ⟨rfl, rfl⟩))
      go_ret
      exact ⟨rfl, ⟨_, HW.out, rfl⟩, Only.setCell _ ⟨p, 1, none⟩ _⟩
    | none =>
      rw [uintS_good hx]
      have ht := take_any p _ ys none (rdF ys most).2.1 w h (rdF_ok hx).1
      rw [tripV_of _ _ hx] at HV
      replace HV := Lib.hid HV
      replace ht := Lib.hid ht
      simp only [errV] at HV
      clear h
      generalize (rdF ys most).2.1 = size at *
      generalize (rdF ys most).1 = n at *
      go_enter Tryz.func168, Tryz.ntmps168
      go_wp2_with (first
        | (go_at_call 137; (with_reducible refine HE.out.mono ?_); rintro e w2 ⟨rfl, rfl⟩)
        | (go_at_call 220; (with_reducible refine HV.out.mono ?_); rintro e w2 ⟨rfl, rfl⟩)
        | (go_at_call 167; (with_reducible refine ht.out.mono ?_); rintro e w3 ⟨a1, c1, y1, rfl, _, _, hr1, ho1, hob1⟩; replace hob1 := Lib.hid hob1; replace hr1 := Lib.hid hr1; replace ho1 := Lib.hid ho1))
      go_ret
      exact ⟨rfl, ⟨_, hr1.out, hob1.out⟩, ho1.out⟩
set_option maxHeartbeats 1000000 in
theorem intO_any (p : Nat) (ob : Option Nat) (s : RSt) (w : World) (h : RO w p ob s) :
    Calls Tryz.prog 93 #[.pointer (some ⟨p, 0, none⟩)] w fun r w' => r = .returned (.int .i64 (intS s).1) ∧ RO w' p ob (intS s).2 ∧ Only p w w' := by
  have H0 := uintO_any p ob s 18446744073709551615 w h
  rw [show ((18446744073709551615 : Nat) : Int) = 18446744073709551615 from rfl] at H0
  have H := Lib.hid H0
  clear H0
  have hl := uintS_lt s 18446744073709551615
  unfold intS
  generalize uintS s 18446744073709551615 = r at *
  obtain ⟨n, s'⟩ := r
  simp only at hl H ⊢
  have hm : (n : Int).tmod 2 = ((n % 2 : Nat) : Int) := by rw [Int.tmod_eq_emod_of_nonneg (by omega)]; omega
  have hq : (n : Int).tdiv 2 = ((n / 2 : Nat) : Int) := by rw [Int.tdiv_eq_ediv_of_nonneg (by omega)]; omega
  by_cases h1 : n % 2 = 1
  · have hx := not_i64 ((n / 2 : Nat) : Int) (by omega) (by omega)
    rw [h1] at hm
    go_enter Tryz.func93, Tryz.ntmps93
    go_wp2_with (go_at_call 168; (with_reducible refine H.out.mono ?_); rintro e w2 ⟨rfl, hr, ho⟩; replace hr := Lib.hid hr; replace ho := Lib.hid ho)
    go_ret
    refine ⟨?_, hr.out, ho.out⟩
    unfold unzig
    rw [if_pos h1]
    show Ending.returned (Value.int .i64 (bits .xor .i64 (-1) ((n : Int) / 2))) = _
    rw [show (n : Int) / 2 = ((n / 2 : Nat) : Int) by omega, hx]
  · have h2 : n % 2 = 0 := by omega
    rw [h2] at hm
    go_enter Tryz.func93, Tryz.ntmps93
    go_wp2_with (go_at_call 168; (with_reducible refine H.out.mono ?_); rintro e w2 ⟨rfl, hr, ho⟩; replace hr := Lib.hid hr; replace ho := Lib.hid ho)
    go_ret
    refine ⟨?_, hr.out, ho.out⟩
    unfold unzig
    rw [if_neg h1]
    show Ending.returned (Value.int .i64 ((n : Int) / 2)) = _
    rw [show (n : Int) / 2 = ((n / 2 : Nat) : Int) by omega]
end Go.Proofs.YtejglhlodfhgkaaGreatDoor
namespace Go.Proofs.YtejglhlodfhgkaaGreatDoor
set_option linter.unusedVariables false
set_option linter.unusedSimpArgs false
open Go.RowKit
set_option maxRecDepth 100000
/-- a length and that many bytes -/
def partS (s : RSt) (most : Int) : List Int × RSt :=
  match s.2 with
  | some _ => ([], s)
  | none =>
    if most < 0 then ([], s.1, some 1)
    else match (rdF s.1 18446744073709551615).2.2 with
      | some x => ([], s.1, some x)
      | none =>
        if most < ((rdF s.1 18446744073709551615).1 : Int) then ([], s.1, some 2)
        else if s.1.length - (rdF s.1 18446744073709551615).2.1 < (rdF s.1 18446744073709551615).1 then ([], s.1, some 12)
        else ((s.1.drop (rdF s.1 18446744073709551615).2.1).take (rdF s.1 18446744073709551615).1, (s.1.drop (rdF s.1 18446744073709551615).2.1).drop (rdF s.1 18446744073709551615).1, none)
/-- what part answers -/
def PartPost (p : Nat) (l : List Int) (s : RSt) (w : World) (r : Ending) (w' : World) : Prop :=
  ∃ v, r = .returned v ∧ BytesIn w' v l ∧ bytesOk l ∧ l.length ≤ 140737488355328 ∧ (∀ j, v.ownBlock = some j → j ≠ p) ∧ RS w' p s ∧ Only p w w'
theorem partPost_nil {p : Nat} {s : RSt} {w w' : World} (h : RS w' p s) (ho : Only p w w') : PartPost p [] s w (.returned (.slice none 0 0)) w' :=
  ⟨_, rfl, nil_in w', (by intro x hx; cases hx), by simp, (fun _ h => by cases h), h, ho⟩
set_option maxRecDepth 100000 in
set_option maxHeartbeats 1000000 in
theorem part_any (p : Nat) (s : RSt) (most : Int) (w : World) (h : RS w p s) (hm0 : -9223372036854775808 ≤ most) (hm1 : most ≤ 9223372036854775807) :
    Calls Tryz.prog 192 #[.pointer (some ⟨p, 0, none⟩), .int .i64 most] w (PartPost p (partS s most).1 (partS s most).2 w) := by
  obtain ⟨ys, e⟩ := s
  obtain ⟨y, h⟩ := h
  change RAt w p y ys e at h
  have HE := Lib.hid (err_any p y ys e w h)
  have HR := Lib.hid h
  have hc0 := h.cell0
  have hc1 := h.cell1
  have hf := h.free 1
  obtain ⟨a, c, rfl, hle⟩ := h.wide
  have HLE := Lib.hid hle
  clear hle
  cases e with
  | some x =>
    simp only [partS, errV] at HE hc1 ⊢
    clear h
    go_enter Tryz.func192, Tryz.ntmps192
    go_wp2_with (go_at_call 137; (with_reducible refine HE.out.mono ?_); rintro e w2 ⟨rfl, rfl⟩)
    go_ret
    exact partPost_nil ⟨_, HR.out⟩ (Only.refl _ _)
  | none =>
    simp only [partS, errV] at HE hc1 ⊢
    by_cases hneg : most < 0
    · rw [if_pos hneg]
      have HW := Lib.hid (h.err (some 1))
      clear h
      go_enter Tryz.func192, Tryz.ntmps192
      go_wp2_with (go_at_call 137; (with_reducible refine HE.out.mono ?_); rintro e w2 ⟨rfl, rfl⟩)
      go_ret
      exact partPost_nil ⟨_, HW.out⟩ (Only.setCell _ ⟨p, 1, none⟩ _)
    · rw [if_neg hneg]
      have HV := varint_any (.slice a ys.length c) ys 18446744073709551615 w h.in_ h.ok
      rw [show ((18446744073709551615 : Nat) : Int) = 18446744073709551615 from rfl] at HV
      cases hx : (rdF ys 18446744073709551615).2.2 with
      | some x =>
        simp only
        rw [tripV_of _ _ hx] at HV
        replace HV := Lib.hid HV
        have HW := Lib.hid (h.err (some x))
        simp only [errV] at HV HW
        clear h
        go_enter Tryz.func192, Tryz.ntmps192
        go_wp2_with (first
          | (go_at_call 137; (with_reducible refine HE.out.mono ?_); rintro e w2 ⟨rfl, rfl⟩)
          | (go_at_call 220; (with_reducible refine HV.out.mono ?_); rintro e w2 ⟨rfl, rfl⟩))
        go_ret
        exact partPost_nil ⟨_, HW.out⟩ (Only.setCell _ ⟨p, 1, none⟩ _)
      | none =>
        simp only
        obtain ⟨hsz, hn64, _⟩ := rdF_ok hx
        rw [tripV_of _ _ hx] at HV
        replace HV := Lib.hid HV
        simp only [errV] at HV
        generalize hsize : (rdF ys 18446744073709551615).2.1 = size at *
        generalize hnum : (rdF ys 18446744073709551615).1 = n at *
        clear hsize hnum hx
        have hlen := h.le
        by_cases hlong : most < (n : Int)
        · rw [if_pos hlong]
          have HW := Lib.hid (h.err (some 2))
          clear h
          have hwm : IntKind.u64.wrap most = most := by rw [IntKind.wrap_u64]; omega
          go_enter Tryz.func192, Tryz.ntmps192
          go_wp2_with (first
            | (go_at_call 137; (with_reducible refine HE.out.mono ?_); rintro e w2 ⟨rfl, rfl⟩)
            | (go_at_call 220; (with_reducible refine HV.out.mono ?_); rintro e w2 ⟨rfl, rfl⟩))
          go_ret
          exact partPost_nil ⟨_, HW.out⟩ (Only.setCell _ ⟨p, 1, none⟩ _)
        · rw [if_neg hlong]
          have hwm : IntKind.u64.wrap most = most := by rw [IntKind.wrap_u64]; omega
          by_cases hend : ys.length - size < n
          · rw [if_pos hend]
            have HW := Lib.hid (h.err (some 12))
            clear h
            go_enter Tryz.func192, Tryz.ntmps192
            go_wp2_with (first
              | (go_at_call 137; (with_reducible refine HE.out.mono ?_); rintro e w2 ⟨rfl, rfl⟩)
              | (go_at_call 220; (with_reducible refine HV.out.mono ?_); rintro e w2 ⟨rfl, rfl⟩))
            go_ret
            exact partPost_nil ⟨_, HW.out⟩ (Only.setCell _ ⟨p, 1, none⟩ _)
          · rw [if_neg hend]
            have ht := take_any p _ ys none size w h hsz
            have hok := bytesOk_drop h.ok size
            have hD : n ≤ (ys.drop size).length := by rw [List.length_drop]; omega
            have hD2 : (ys.drop size).length ≤ 140737488355328 := by rw [List.length_drop]; omega
            generalize ys.drop size = D at *
            replace ht := Lib.hid ht
            replace hok := Lib.hid hok
            replace hD := Lib.hid hD
            replace hD2 := Lib.hid hD2
            have hwn : IntKind.i64.wrap (n : Int) = n := by rw [IntKind.wrap_i64]; omega
            clear h
            go_enter Tryz.func192, Tryz.ntmps192
            go_wp2_with (first
              | (go_at_call 137; (with_reducible refine HE.out.mono ?_); rintro e w2 ⟨rfl, rfl⟩)
              | (go_at_call 220; (with_reducible refine HV.out.mono ?_); rintro e w2 ⟨rfl, rfl⟩)
              | (go_at_call 167; (with_reducible refine ht.out.mono ?_); rintro e w3 ⟨a1, c1, y1, rfl, _, _, hr1, ho1, _⟩; replace hr1 := Lib.hid hr1; replace ho1 := Lib.hid ho1)
              | (go_at_call 167; (with_reducible refine (take_any p _ D none n _ hr1.out hD.out).mono ?_); rintro e w4 ⟨a2, c2, y2, rfl, hi2, hn2, hr2, ho2, _⟩; replace hr2 := Lib.hid hr2; replace ho2 := Lib.hid ho2; replace hi2 := Lib.hid hi2; replace hn2 := Lib.hid hn2))
            go_ret
            exact ⟨_, rfl, hi2.out, bytesOk_take hok.out n, by rw [List.length_take]; have := hD2.out; omega, hn2.out, ⟨_, hr2.out⟩, ho1.out.trans ho2.out⟩
theorem rbytes_any (p : Nat) (s : RSt) (most : Int) (w : World) (h : RS w p s) (hm0 : -9223372036854775808 ≤ most) (hm1 : most ≤ 9223372036854775807) :
    Calls Tryz.prog 136 #[.pointer (some ⟨p, 0, none⟩), .int .i64 most] w fun r w' => ∃ v, r = .returned v ∧ BytesIn w' v (partS s most).1 ∧ (∀ j, v.ownBlock = some j → w.heap.size ≤ j) ∧ RS w' p (partS s most).2 ∧ Only p w w' := by
  have HP := Lib.hid (part_any p s most w h hm0 hm1)
  clear h
  go_enter Tryz.func136, Tryz.ntmps136
  go_wp2_with (first
    | (go_at_call 192; (with_reducible refine HP.out.mono ?_); rintro e w2 ⟨v, rfl, hv, _, hl, _, hr, ho⟩; replace hr := Lib.hid hr; replace ho := Lib.hid ho; replace hl := Lib.hid hl; have hcl := Lib.hid (clone_any v _ w2 hv hl.out); clear hv)
    | (go_at_call 121; (with_reducible refine hcl.out.mono ?_); rintro e w3 ⟨v3, rfl, h3, hb⟩; replace h3 := Lib.hid h3; replace hb := Lib.hid hb))
  go_ret
  obtain ⟨y, hy⟩ := hr.out
  exact ⟨_, rfl, owns_in h3.out (by have := hl.out; unfold maxLen; omega), fun j hj => Nat.le_trans ho.out.size (h3.out.lt j hj).1, ⟨y, hy.below hb.out⟩, ho.out.trans (Only.of_below hb.out)⟩
/-- Hash -/
def hashS (s : RSt) : (Nat → Int) × RSt :=
  match s.2 with
  | some _ => (fun _ => 0, s)
  | none => if s.1.length < 32 then (fun _ => 0, s.1, some 12) else (fun i => s.1.getD i 0, s.1.drop 32, none)
theorem hashS_err (ys : List Int) (x : Nat) : hashS (ys, some x) = (fun _ => 0, ys, some x) := rfl
theorem hashS_short {ys : List Int} (h : ys.length < 32) : hashS (ys, none) = (fun _ => 0, ys, some 12) := by unfold hashS; simp only [if_pos h]
theorem hashS_long {ys : List Int} (h : ¬ ys.length < 32) : hashS (ys, none) = (fun i => ys.getD i 0, ys.drop 32, none) := by unfold hashS; simp only [if_neg h]
theorem Only.behind {p g : Nat} {w w' : World} (h : Only p w w') (hg : w.heap.size ≤ g) (cs : Array Value) : Only p w (w'.setRow g cs) :=
  ⟨h.os, h.tape, h.output, by simp [World.setRow]; exact h.size, fun k hk hp => (setRow_other w' g k cs (by omega)).trans (h.block k hk hp)⟩
theorem wp_copy_at {P : Program} (w : World) {o : Oper} {a : Act} {K : Act → World → Prop} {Q : Exit → Act → World → Prop} (d s : Operand) (t t' : TypeId) {ty : TypeId}
    (ho : o.op = .call { callee := .builtin .copy, args := #[d, s], argTypes := #[t, t'] }) (hty : o.type = ty) (v u : Value) (hd : a.eval d = v) (hs : a.eval s = u) {v' : Value} {w' : World}
    (hr : (Builtin.copy_ #[t, t'] ty #[v, u]).run P w = .ok v' w') (h : K (a.put o.dst v') w') : o.wp P a w K Q := by
  unfold Oper.wp execOp
  simp only [ho, hty, resolve, invoke, builtin, Sem.run_bind, Sem.run_pure, Result.andThen_ok, List.map_toArray, List.map_cons, List.map_nil, hd, hs, hr]
  exact h
theorem copied32 (f : Nat → Int) (ys : List Int) (h : ¬ ys.length < 32) :
    ((rowOf .u8 32 f).toList.take 0 ++ byteVals (ys.take 32) ++ (rowOf .u8 32 f).toList.drop (0 + (byteVals (ys.take 32)).length)).toArray = rowOf .u8 32 (fun i => ys.getD i 0) := by
  have hl : (ys.take 32).length = 32 := by rw [List.length_take]; omega
  have hd : (rowOf .u8 32 f).toList.drop (0 + (byteVals (ys.take 32)).length) = [] := by
    apply List.drop_eq_nil_of_le
    rw [byteVals_length, hl, Array.length_toList, rowOf_size]; omega
  rw [hd, List.take_zero, List.nil_append, List.append_nil]
  unfold rowOf byteVals
  congr 1
  apply List.ext_getElem
  · simp only [List.length_map, List.length_range, hl]
  · intro i h1 h2
    simp only [List.length_map, hl] at h1
    have h3 : i < ys.length := by omega
    simp [List.getD, List.getElem?_eq_getElem h3]
theorem zerosPk : (#[Value.int IntKind.u8 0, Value.int IntKind.u8 0, Value.int IntKind.u8 0, Value.int IntKind.u8 0, Value.int IntKind.u8 0, Value.int IntKind.u8 0, Value.int IntKind.u8 0, Value.int IntKind.u8 0, Value.int IntKind.u8 0, Value.int IntKind.u8 0, Value.int IntKind.u8 0, Value.int IntKind.u8 0, Value.int IntKind.u8 0, Value.int IntKind.u8 0, Value.int IntKind.u8 0, Value.int IntKind.u8 0, Value.int IntKind.u8 0, Value.int IntKind.u8 0, Value.int IntKind.u8 0, Value.int IntKind.u8 0, Value.int IntKind.u8 0, Value.int IntKind.u8 0, Value.int IntKind.u8 0, Value.int IntKind.u8 0, Value.int IntKind.u8 0, Value.int IntKind.u8 0, Value.int IntKind.u8 0, Value.int IntKind.u8 0, Value.int IntKind.u8 0, Value.int IntKind.u8 0, Value.int IntKind.u8 0, Value.int IntKind.u8 0] : Array Value) = rowOf .u8 32 (fun _ => 0) := by rfl
set_option maxRecDepth 100000 in
set_option maxHeartbeats 1000000 in
theorem rhash_any (p : Nat) (s : RSt) (w : World) (h : RS w p s) :
    Calls Tryz.prog 92 #[.pointer (some ⟨p, 0, none⟩)] w fun r w' => r = .returned (.agg (rowOf .u8 32 (hashS s).1)) ∧ RS w' p (hashS s).2 ∧ Only p w w' := by
  obtain ⟨ys, e⟩ := s
  obtain ⟨y, h⟩ := h
  change RAt w p y ys e at h
  have HB := Lib.hid ((below_alloc w (.cells (rowOf .u8 32 (fun _ => 0)) 53)).trans ((below_alloc (w.alloc (.cells (rowOf .u8 32 (fun _ => 0)) 53)) (.cells (rowOf .u8 32 (fun _ => 0)) 53)).mono (by simp)))
  have HR := h.below HB.out
  have HQ1 := (RowAt.new w .u8 32 53 (fun _ => 0)).alloc (.cells (rowOf .u8 32 (fun _ => 0)) 53)
  have HQ2 := RowAt.new (w.alloc (.cells (rowOf .u8 32 (fun _ => 0)) 53)) .u8 32 53 (fun _ => 0)
  rw [size_alloc] at HQ2
  have HP : p < w.heap.size := h.lt
  have H0 := Lib.hid h
  replace HR := Lib.hid HR
  replace HQ1 := Lib.hid HQ1
  replace HQ2 := Lib.hid HQ2
  clear h
  go_enter Tryz.func92, Tryz.ntmps92
  go_upto_region 2 with (fail)
  rw [zerosPk]
  generalize (w.alloc (.cells (rowOf .u8 32 (fun _ => 0)) 53)).alloc (.cells (rowOf .u8 32 (fun _ => 0)) 53) = w1 at *
  have HE := Lib.hid (err_any p y ys e w1 HR.out)
  have hc0 := HR.out.cell0
  have hc1 := HR.out.cell1
  have hf := HR.out.free 1
  obtain ⟨a, c, rfl, hle⟩ := HR.out.wide
  have HLE := Lib.hid hle
  clear hle
  cases e with
  | some x =>
    simp only [errV] at HE hc1
    go_wp2_with (first
      | (go_at_call 137; (with_reducible refine HE.out.mono ?_); rintro e w2 ⟨rfl, rfl⟩)
      | (refine wpList_load_row rfl 53 (.tmp 3) rfl (w.heap.size + 1) rfl 53 _ (0, 0) _ HQ2.out Tryz.underlying53 rfl (by rw [rowOf_size]; kernel_rfl) ?_)
      | (refine wpList_store_row rfl 53 (.tmp 2) (.tmp 7) rfl w.heap.size _ rfl rfl 53 _ HQ1.out (by rw [rowOf_size]; kernel_rfl) (by simp only [rowOf_size]) (rowOf_one _ _ _) ?_))
    refine bodyPost_ret (results_cell_row rfl _ _ w.heap.size 53 (rowOf .u8 32 (fun _ => 0)) (0, 0) _ rfl (setRow_heap _ _ _ _ _ _ HQ1.out) Tryz.underlying53 rfl (by rw [rowOf_size]; kernel_rfl)) rfl ?_
    rw [hashS_err]
    exact ⟨rfl, ⟨_, H0.out.below (below_setRow HB.out (Nat.le_refl _) _)⟩, Only.of_below (below_setRow HB.out (Nat.le_refl _) _)⟩
  | none =>
    simp only [errV] at HE hc1
    by_cases hs : ys.length < 32
    · have HS := Lib.hid (hashS_short hs)
      have hs1 : (ys.length : Int) < 32 := by omega
      have HW := Lib.hid (HR.out.err (some 12))
      have HQ2' := Lib.hid (HQ2.out.other ⟨p, 1, none⟩ (errV (some 12)) (show w.heap.size + 1 ≠ p by omega))
      have HQ1' := Lib.hid (HQ1.out.other ⟨p, 1, none⟩ (errV (some 12)) (show w.heap.size ≠ p by omega))
      have HO := Lib.hid ((Only.of_below HB.out).trans (Only.setCell w1 ⟨p, 1, none⟩ (errV (some 12))))
      simp only [errV] at HW HQ1' HQ2' HO
      clear HQ1 HQ2
      go_wp2_with (first
        | (go_at_call 137; (with_reducible refine HE.out.mono ?_); rintro e w2 ⟨rfl, rfl⟩)
        | (refine wpList_load_row rfl 53 (.tmp 3) rfl (w.heap.size + 1) rfl 53 _ (0, 0) _ HQ2'.out Tryz.underlying53 rfl (by rw [rowOf_size]; kernel_rfl) ?_)
        | (refine wpList_store_row rfl 53 (.tmp 2) (.tmp 18) rfl w.heap.size _ rfl rfl 53 _ HQ1'.out (by rw [rowOf_size]; kernel_rfl) (by simp only [rowOf_size]) (rowOf_one _ _ _) ?_))
      refine bodyPost_ret (results_cell_row rfl _ _ w.heap.size 53 (rowOf .u8 32 (fun _ => 0)) (0, 0) _ rfl (setRow_heap _ _ _ _ _ _ HQ1'.out) Tryz.underlying53 rfl (by rw [rowOf_size]; kernel_rfl)) rfl ?_
      rw [HS.out]
      refine ⟨rfl, ⟨_, HW.out.keep (setRow_other _ _ _ _ (by omega)) fun hn k hk => setRow_other _ _ _ _ ?_⟩, HO.out.behind (Nat.le_refl _) _⟩
      have := H0.out.own_lt hn k hk; omega
    · have hs1 : ¬ (ys.length : Int) < 32 := by omega
      have HS := Lib.hid (hashS_long hs)
      go_upto_region 7 with (go_at_call 137; (with_reducible refine HE.out.mono ?_); rintro e w2 ⟨rfl, rfl⟩)
      obtain ⟨w3, hw3⟩ : ∃ w3, w3 = w2.drew := ⟨_, rfl⟩
      have HR3 := Lib.hid (show RAt w3 p (.slice a ys.length c) ys none by rw [hw3]; exact HR.out.keep rfl fun _ _ _ => rfl)
      have HQ13 := Lib.hid (show RowAt w3 w.heap.size .u8 32 53 (fun _ => 0) by rw [hw3]; exact HQ1.out)
      have HQ23 := Lib.hid (show RowAt w3 (w.heap.size + 1) .u8 32 53 (fun _ => 0) by rw [hw3]; exact HQ2.out)
      have HO3 := Lib.hid (show Only p w w3 by rw [hw3]; exact (Only.of_below HB.out).trans (Only.drew _ _))
      refine wp_region_any (by kernel_rfl) ?_
      change wpAny _ _ _ _ _ _ _ w2.drew
      rw [← hw3]
      clear hw3
      refine wpAny_take (i := 0) (v := .slice (some ⟨w.heap.size + 1, 0, none⟩) 32 32) rfl (by kernel_rfl) (by kernel_rfl) (by kernel_rfl) (fun _ _ _ h => h) (Or.inl ⟨by rfl, by intro w; go_simp⟩) ?_
      try simp only [List.getElem_toArray, List.getElem_cons_zero, Act.put, List.setIfInBounds_toArray, List.set_cons_zero, List.set_cons_succ]
      refine wpAny_take (i := 1) (v := .pointer (some ⟨p, 0, none⟩)) rfl (by kernel_rfl) (by kernel_rfl) (by kernel_rfl) (fun _ _ _ h => h) (Or.inl ⟨by rfl, by intro w; go_simp⟩) ?_
      try simp only [List.getElem_toArray, List.getElem_cons_succ, List.getElem_cons_zero, Act.put, List.setIfInBounds_toArray, List.set_cons_zero, List.set_cons_succ]
      refine wpAny_ready (rs := [2]) (by kernel_rfl) (by simp) ?_; refine AllReady.cons rfl (fun K hK => ?_) AllReady.nil; rw [if_pos (by rfl)]
      try simp only [List.getElem_toArray, List.getElem_cons_succ, List.getElem_cons_zero]
      go_simp
      have ht := take_any p _ ys none 32 w3 HR3.out (by omega)
      rw [show ((32 : Nat) : Int) = 32 from rfl] at ht
      refine ht.mono ?_
      rintro e w4 ⟨a1, c1, y1, rfl, hi1, hn1, hr1, ho1, hy1⟩
      have hl32 : (ys.take 32).length = 32 := by rw [List.length_take]; omega
      obtain ⟨a1', c1', e1, _, _, hx1⟩ := hi1
      rw [hl32] at e1
      injection e1 with e1 _ e3
      subst e1 e3
      obtain ⟨ab, ao, rfl, hx2⟩ := hx1.resolve_left (by intro h0; rw [h0] at hl32; simp at hl32)
      clear hx1 hn1
      refine hK _ _ ?_
      clear hK K
      try simp only [List.getElem_toArray, List.getElem_cons_succ, List.getElem_cons_zero, Act.put, List.setIfInBounds_toArray, List.set_cons_zero, List.set_cons_succ]
      refine wpAny_ready (rs := [3]) (by kernel_rfl) (by simp) ?_; refine AllReady.cons rfl (fun K hK => ?_) AllReady.nil; rw [if_pos (by rfl)]
      try simp only [List.getElem_toArray, List.getElem_cons_succ, List.getElem_cons_zero]
      have hq4 : RowAt w4 (w.heap.size + 1) .u8 32 53 (fun _ => 0) := (ho1.block _ HQ23.out.lt (by omega)).trans HQ23.out
      have hq5 : RowAt w4 w.heap.size .u8 32 53 (fun _ => 0) := (ho1.block _ HQ13.out.lt (by omega)).trans HQ13.out
      have hcp := run_copy_row (P := Tryz.prog) w4 25 25 3 5 (w.heap.size + 1) 0 32 32 ⟨ab, ao, none⟩ 32 c1 _ 53 (byteVals (ys.take 32)) Tryz.underlying25 (by kernel_rfl) hq4 (by rw [byteVals_length, hl32]; rfl) (fun j v hv => by
          rw [Addr.add_mid]
          simp only [byteVals, List.getElem?_map] at hv
          cases hj : (ys.take 32)[j]? with
          | none => rw [hj] at hv; cases hv
          | some x => rw [hj] at hv; cases hv; exact hx2 j x hj) (by rw [byteVals_length, hl32, rowOf_size]; omega) (byteVals_one _)
      rw [copied32 _ ys hs] at hcp
      have HQ2 : Hid (RowAt (w4.setRow (w.heap.size + 1) (rowOf .u8 32 (fun i => ys.getD i 0))) (w.heap.size + 1) .u8 32 53 (fun i => ys.getD i 0)) := Lib.hid (setRow_heap _ _ _ _ _ _ hq4)
      have HQ1 : Hid (RowAt (w4.setRow (w.heap.size + 1) (rowOf .u8 32 (fun i => ys.getD i 0))) w.heap.size .u8 32 53 (fun _ => 0)) := Lib.hid ((setRow_other _ _ _ _ (by omega)).trans hq5)
      have hne : ∀ g, w.heap.size ≤ g → ys.drop 32 ≠ [] → ∀ k, y1.ownBlock = some k → k ≠ g := fun g hg hn k hk => by
        rw [hy1] at hk
        have := H0.out.own_lt (by rintro rfl; simp at hn) k hk
        omega
      have HW := Lib.hid (show RAt (w4.setRow (w.heap.size + 1) (rowOf .u8 32 (fun i => ys.getD i 0))) p y1 (ys.drop 32) none from
        hr1.keep (setRow_other _ _ _ _ (by omega)) fun hn k hk => setRow_other _ _ _ _ (hne _ (Nat.le_succ _) hn k hk))
      have HO := Lib.hid ((HO3.out.trans ho1).behind (g := w.heap.size + 1) (Nat.le_succ _) (rowOf .u8 32 (fun i => ys.getD i 0)))
      refine wp_copy_at w4 (.tmp 19) (.tmp 21) 25 25 rfl rfl _ _ rfl rfl hcp ?_
      clear hcp hq4 hq5 hr1 ho1 hx2 HQ13 HQ23 HR3 HO3 ht
      generalize w4.setRow (w.heap.size + 1) (rowOf .u8 32 (fun i => ys.getD i 0)) = w5 at *
      refine hK _ _ ?_
      clear hK K
      try simp only [Act.put, List.setIfInBounds_toArray, List.set_cons_zero, List.set_cons_succ]
      refine wpAny_done (by kernel_rfl) ?_ _
      go_wp2_with (first
        | (refine wpList_load_row rfl 53 (.tmp 3) rfl (w.heap.size + 1) rfl 53 _ (0, 0) _ HQ2.out Tryz.underlying53 rfl (by rw [rowOf_size]; kernel_rfl) ?_)
        | (refine wpList_store_row rfl 53 (.tmp 2) (.tmp 23) rfl w.heap.size _ rfl rfl 53 _ HQ1.out (by rw [rowOf_size]; kernel_rfl) (by simp only [rowOf_size]) (rowOf_one _ _ _) ?_))
      refine bodyPost_ret (results_cell_row rfl _ _ w.heap.size 53 (rowOf .u8 32 (fun i => ys.getD i 0)) (0, 0) _ rfl (setRow_heap _ _ _ _ _ _ HQ1.out) Tryz.underlying53 rfl (by rw [rowOf_size]; kernel_rfl)) rfl ?_
      rw [HS.out]
      exact ⟨rfl, ⟨_, HW.out.keep (setRow_other _ _ _ _ (by omega)) fun hn k hk => setRow_other _ _ _ _ (hne _ (Nat.le_refl _) hn k hk)⟩, HO.out.behind (Nat.le_refl _) _⟩
#print axioms rhash_any
end Go.Proofs.YtejglhlodfhgkaaGreatDoor
namespace Go.Proofs.YtejglhlodfhgkaaGreatDoor
set_option linter.unusedVariables false
set_option linter.unusedSimpArgs false
open Go.RowKit
set_option maxRecDepth 100000
def countS (s : RSt) (most : Nat) : Nat × RSt :=
  match (uintS s most).2.2 with
  | some x => (0, s.1, some x)
  | none => if (uintS s most).2.1.length < (uintS s most).1 then (0, s.1, some 2) else uintS s most
theorem countS_bad {s : RSt} {most : Nat} {x : Nat} (h : (uintS s most).2.2 = some x) : countS s most = (0, s.1, some x) := by unfold countS; rw [h]
theorem countS_long {s : RSt} {most : Nat} (h : (uintS s most).2.2 = none) (hl : (uintS s most).2.1.length < (uintS s most).1) : countS s most = (0, s.1, some 2) := by unfold countS; rw [h]; simp only [if_pos hl]
theorem countS_good {s : RSt} {most : Nat} (h : (uintS s most).2.2 = none) (hl : ¬ (uintS s most).2.1.length < (uintS s most).1) : countS s most = uintS s most := by unfold countS; rw [h]; simp only [if_neg hl]
end Go.Proofs.YtejglhlodfhgkaaGreatDoor
namespace Go.Proofs.YtejglhlodfhgkaaGreatDoor
set_option linter.unusedVariables false
set_option linter.unusedSimpArgs false
open Go.RowKit
set_option maxRecDepth 100000
def PartPostO (p : Nat) (ob : Option Nat) (l : List Int) (s : RSt) (w : World) (r : Ending) (w' : World) : Prop :=
  ∃ v, r = .returned v ∧ BytesIn w' v l ∧ bytesOk l ∧ l.length ≤ 140737488355328 ∧ (∀ j, v.ownBlock = some j → j ≠ p) ∧ RO w' p ob s ∧ Only p w w'
theorem partPostO_nil {p : Nat} {ob : Option Nat} {s : RSt} {w w' : World} (h : RO w' p ob s) (ho : Only p w w') : PartPostO p ob [] s w (.returned (.slice none 0 0)) w' :=
  ⟨_, rfl, nil_in w', (by intro x hx; cases hx), by simp, (fun _ h => by cases h), h, ho⟩
set_option maxHeartbeats 1000000 in
theorem partO_any (p : Nat) (ob : Option Nat) (s : RSt) (most : Int) (w : World) (h : RO w p ob s) (hm0 : -9223372036854775808 ≤ most) (hm1 : most ≤ 9223372036854775807) :
    Calls Tryz.prog 192 #[.pointer (some ⟨p, 0, none⟩), .int .i64 most] w (PartPostO p ob (partS s most).1 (partS s most).2 w) := by
  obtain ⟨ys, e⟩ := s
  obtain ⟨y, h, hob⟩ := h
  subst hob
  change RAt w p y ys e at h
  have HE := Lib.hid (err_any p y ys e w h)
  have HR := Lib.hid h
  have hc0 := h.cell0
  have hc1 := h.cell1
  have hf := h.free 1
  obtain ⟨a, c, rfl, hle⟩ := h.wide
  have HLE := Lib.hid hle
  clear hle
  cases e with
  | some x =>
    simp only [partS, errV] at HE hc1 ⊢
    clear h
    go_enter Tryz.func192, Tryz.ntmps192
    go_wp2_with (go_at_call 137; (with_reducible refine HE.out.mono ?_); rintro e w2 ⟨rfl, rfl⟩)
    go_ret
    exact partPostO_nil ⟨_, HR.out, rfl⟩ (Only.refl _ _)
  | none =>
    simp only [partS, errV] at HE hc1 ⊢
    by_cases hneg : most < 0
    · rw [if_pos hneg]
      have HW := Lib.hid (h.err (some 1))
      clear h
      go_enter Tryz.func192, Tryz.ntmps192
      go_wp2_with (go_at_call 137; (with_reducible refine HE.out.mono ?_); rintro e w2 ⟨rfl, rfl⟩)
      go_ret
      exact partPostO_nil ⟨_, HW.out, rfl⟩ (Only.setCell _ ⟨p, 1, none⟩ _)
    · rw [if_neg hneg]
      have HV := varint_any (.slice a ys.length c) ys 18446744073709551615 w h.in_ h.ok
      rw [show ((18446744073709551615 : Nat) : Int) = 18446744073709551615 from rfl] at HV
      cases hx : (rdF ys 18446744073709551615).2.2 with
      | some x =>
        simp only
        rw [tripV_of _ _ hx] at HV
        replace HV := Lib.hid HV
        have HW := Lib.hid (h.err (some x))
        simp only [errV] at HV HW
        clear h
        go_enter Tryz.func192, Tryz.ntmps192
        go_wp2_with (first
          | (go_at_call 137; (with_reducible refine HE.out.mono ?_); rintro e w2 ⟨rfl, rfl⟩)
          | (go_at_call 220; (with_reducible refine HV.out.mono ?_); rintro e w2 ⟨rfl, rfl⟩))
        go_ret
        exact partPostO_nil ⟨_, HW.out, rfl⟩ (Only.setCell _ ⟨p, 1, none⟩ _)
      | none =>
        simp only
        obtain ⟨hsz, hn64, _⟩ := rdF_ok hx
        rw [tripV_of _ _ hx] at HV
        replace HV := Lib.hid HV
        simp only [errV] at HV
        generalize hsize : (rdF ys 18446744073709551615).2.1 = size at *
        generalize hnum : (rdF ys 18446744073709551615).1 = n at *
        clear hsize hnum hx
        have hlen := h.le
        by_cases hlong : most < (n : Int)
        · rw [if_pos hlong]
          have HW := Lib.hid (h.err (some 2))
          clear h
          have hwm : IntKind.u64.wrap most = most := by rw [IntKind.wrap_u64]; omega
          go_enter Tryz.func192, Tryz.ntmps192
          go_wp2_with (first
            | (go_at_call 137; (with_reducible refine HE.out.mono ?_); rintro e w2 ⟨rfl, rfl⟩)
            | (go_at_call 220; (with_reducible refine HV.out.mono ?_); rintro e w2 ⟨rfl, rfl⟩))
          go_ret
          exact partPostO_nil ⟨_, HW.out, rfl⟩ (Only.setCell _ ⟨p, 1, none⟩ _)
        · rw [if_neg hlong]
          have hwm : IntKind.u64.wrap most = most := by rw [IntKind.wrap_u64]; omega
          by_cases hend : ys.length - size < n
          · rw [if_pos hend]
            have HW := Lib.hid (h.err (some 12))
            clear h
            go_enter Tryz.func192, Tryz.ntmps192
            go_wp2_with (first
              | (go_at_call 137; (with_reducible refine HE.out.mono ?_); rintro e w2 ⟨rfl, rfl⟩)
              | (go_at_call 220; (with_reducible refine HV.out.mono ?_); rintro e w2 ⟨rfl, rfl⟩))
            go_ret
            exact partPostO_nil ⟨_, HW.out, rfl⟩ (Only.setCell _ ⟨p, 1, none⟩ _)
          · rw [if_neg hend]
            have ht := take_any p _ ys none size w h hsz
            have hok := bytesOk_drop h.ok size
            have hD : n ≤ (ys.drop size).length := by rw [List.length_drop]; omega
            have hD2 : (ys.drop size).length ≤ 140737488355328 := by rw [List.length_drop]; omega
            generalize ys.drop size = D at *
            replace ht := Lib.hid ht
            replace hok := Lib.hid hok
            replace hD := Lib.hid hD
            replace hD2 := Lib.hid hD2
            have hwn : IntKind.i64.wrap (n : Int) = n := by rw [IntKind.wrap_i64]; omega
            clear h
            go_enter Tryz.func192, Tryz.ntmps192
            go_wp2_with (first
              | (go_at_call 137; (with_reducible refine HE.out.mono ?_); rintro e w2 ⟨rfl, rfl⟩)
              | (go_at_call 220; (with_reducible refine HV.out.mono ?_); rintro e w2 ⟨rfl, rfl⟩)
              | (go_at_call 167; (with_reducible refine ht.out.mono ?_); rintro e w3 ⟨a1, c1, y1, rfl, _, _, hr1, ho1, hob1⟩; replace hob1 := Lib.hid hob1; replace hr1 := Lib.hid hr1; replace ho1 := Lib.hid ho1)
              | (go_at_call 167; (with_reducible refine (take_any p _ D none n _ hr1.out hD.out).mono ?_); rintro e w4 ⟨a2, c2, y2, rfl, hi2, hn2, hr2, ho2, hob2⟩; replace hob2 := Lib.hid hob2; replace hr2 := Lib.hid hr2; replace ho2 := Lib.hid ho2; replace hi2 := Lib.hid hi2; replace hn2 := Lib.hid hn2))
            go_ret
            exact ⟨_, rfl, hi2.out, bytesOk_take hok.out n, by rw [List.length_take]; have := hD2.out; omega, hn2.out, ⟨_, hr2.out, hob2.out.trans hob1.out⟩, ho1.out.trans ho2.out⟩
theorem rbytesO_any (p : Nat) (ob : Option Nat) (s : RSt) (most : Int) (w : World) (h : RO w p ob s) (hm0 : -9223372036854775808 ≤ most) (hm1 : most ≤ 9223372036854775807) :
    Calls Tryz.prog 136 #[.pointer (some ⟨p, 0, none⟩), .int .i64 most] w fun r w' => ∃ v, r = .returned v ∧ BytesIn w' v (partS s most).1 ∧ (∀ j, v.ownBlock = some j → w.heap.size ≤ j ∧ j < w'.heap.size) ∧ RO w' p ob (partS s most).2 ∧ Only p w w' := by
  have HP := Lib.hid (partO_any p ob s most w h hm0 hm1)
  clear h
  go_enter Tryz.func136, Tryz.ntmps136
  go_wp2_with (first
    | (go_at_call 192; (with_reducible refine HP.out.mono ?_); rintro e w2 ⟨v, rfl, hv, _, hl, _, hr, ho⟩; replace hr := Lib.hid hr; replace ho := Lib.hid ho; replace hl := Lib.hid hl; have hcl := Lib.hid (clone_any v _ w2 hv hl.out); clear hv)
    | (go_at_call 121; (with_reducible refine hcl.out.mono ?_); rintro e w3 ⟨v3, rfl, h3, hb⟩; replace h3 := Lib.hid h3; replace hb := Lib.hid hb))
  go_ret
  obtain ⟨y, hy, hob⟩ := hr.out
  exact ⟨_, rfl, owns_in h3.out (by have := hl.out; unfold maxLen; omega), fun j hj => ⟨Nat.le_trans ho.out.size (h3.out.lt j hj).1, (h3.out.lt j hj).2⟩, ⟨y, hy.below hb.out, hob⟩, ho.out.trans (Only.of_below hb.out)⟩
theorem rtextO_any (p : Nat) (ob : Option Nat) (s : RSt) (most : Int) (w : World) (h : RO w p ob s) (hm0 : -9223372036854775808 ≤ most) (hm1 : most ≤ 9223372036854775807) :
    Calls Tryz.prog 133 #[.pointer (some ⟨p, 0, none⟩), .int .i64 most] w fun r w' => r = .returned (.string (strOfNums (partS s most).1)) ∧ RO w' p ob (partS s most).2 ∧ Only p w w' := by
  have HP := Lib.hid (partO_any p ob s most w h hm0 hm1)
  clear h
  go_enter Tryz.func133, Tryz.ntmps133
  go_wp2_with (go_at_call 192; (with_reducible refine HP.out.mono ?_); rintro e w2 ⟨v, rfl, hv, _, _, _, hr, ho⟩; have hcv := conv_bytes w2 v _ hv; replace hr := Lib.hid hr; replace ho := Lib.hid ho; clear hv)
  go_ret
  exact ⟨rfl, hr.out, ho.out⟩
set_option maxHeartbeats 1000000 in
theorem rcountO_any (p : Nat) (ob : Option Nat) (s : RSt) (most : Nat) (hmm : most ≤ 9223372036854775807) (w : World) (h : RO w p ob s) :
    Calls Tryz.prog 193 #[.pointer (some ⟨p, 0, none⟩), .int .i64 (most : Int)] w fun r w' => r = .returned (.int .i64 ((countS s most).1 : Int)) ∧ RO w' p ob (countS s most).2 ∧ Only p w w' := by
  obtain ⟨ys, e⟩ := s
  obtain ⟨y, h, hob⟩ := h
  subst hob
  have HE := Lib.hid (err_any p y ys e w h)
  have HR := Lib.hid h
  have hc0 := h.cell0
  have hc1 := h.cell1
  have hf := h.free 1
  have hll : ys.length ≤ 140737488355328 := h.le
  have hmx : ((max most 0 : Nat) : Int) = max (most : Int) 0 := by omega
  have hmx2 : max (most : Int) 0 = (most : Int) := by omega
  obtain ⟨a, c, rfl, hle⟩ := h.wide
  clear hle
  cases e with
  | some x =>
    rw [countS_bad (s := (ys, some x)) (most := most) (x := x) rfl]
    simp only [errV] at HE hc1
    go_enter Tryz.func193, Tryz.ntmps193
    go_wp2_with (go_at_call 137; (with_reducible refine HE.out.mono ?_); rintro e w2 ⟨rfl, rfl⟩)
    go_ret
    exact ⟨rfl, ⟨_, HR.out, rfl⟩, Only.refl _ _⟩
  | none =>
    simp only [errV] at HE hc1
    have HV := varint_any (.slice a ys.length c) ys most w h.in_ h.ok
    cases hx : (rdF ys most).2.2 with
    | some x =>
      have hu := uintS_bad hx
      rw [countS_bad (x := x) (by rw [hu])]
      rw [tripV_of _ _ hx] at HV
      replace HV := Lib.hid HV
      have HW := Lib.hid (h.err (some x))
      simp only [errV] at HV HW
      clear h hu
      go_enter Tryz.func193, Tryz.ntmps193
      go_wp2_with (first
        | (go_at_call 137; (with_reducible refine HE.out.mono ?_); rintro e w2 ⟨rfl, rfl⟩)
        | (go_at_call 220; (with_reducible refine HV.out.mono ?_); rintro e w2 ⟨rfl, rfl⟩))
      go_ret
      exact ⟨rfl, ⟨_, HW.out, rfl⟩, Only.setCell _ ⟨p, 1, none⟩ _⟩
    | none =>
      have hu := uintS_good hx
      have ht := take_any p _ ys none (rdF ys most).2.1 w h (rdF_ok hx).1
      have hsz := (rdF_ok hx).1
      have hn64 := (rdF_ok hx).2.1
      rw [tripV_of _ _ hx] at HV
      replace HV := Lib.hid HV
      replace ht := Lib.hid ht
      simp only [errV] at HV
      have hul : (uintS (ys, none) most).2.1.length = ys.length - (rdF ys most).2.1 := by rw [hu]; simp
      have hun : (uintS (ys, none) most).1 = (rdF ys most).1 := by rw [hu]
      have hue : (uintS (ys, none) most).2.2 = none := by rw [hu]
      by_cases hlong : (uintS (ys, none) most).2.1.length < (uintS (ys, none) most).1
      · rw [countS_long hue hlong]
        rw [hul, hun] at hlong
        have HW := Lib.hid (h.err (some 2))
        simp only [errV] at HW
        clear h hu hul hun hue ht hx
        generalize (rdF ys most).2.1 = size at *
        generalize (rdF ys most).1 = n at *
        have hgt : (((ys.length : Int) - size) < n) := by omega
        have hsz2 : (size : Int) ≤ ys.length := by omega
        go_enter Tryz.func193, Tryz.ntmps193
        go_wp2_with (first
          | (go_at_call 137; (with_reducible refine HE.out.mono ?_); rintro e w2 ⟨rfl, rfl⟩)
          | (go_at_call 220; (with_reducible refine HV.out.mono ?_); rintro e w2 ⟨rfl, rfl⟩))
        go_ret
        exact ⟨rfl, ⟨_, HW.out, rfl⟩, Only.setCell _ ⟨p, 1, none⟩ _⟩
      · rw [countS_good hue hlong]
        rw [hul, hun] at hlong
        rw [hu]
        clear h hu hul hun hue hx
        generalize (rdF ys most).2.1 = size at *
        generalize (rdF ys most).1 = n at *
        have hgt : ¬ (((ys.length : Int) - size) < n) := by omega
        have hsz2 : (size : Int) ≤ ys.length := by omega
        have hwn : IntKind.i64.wrap (n : Int) = n := by rw [IntKind.wrap_i64]; omega
        go_enter Tryz.func193, Tryz.ntmps193
        go_wp2_with (first
          | (go_at_call 137; (with_reducible refine HE.out.mono ?_); rintro e w2 ⟨rfl, rfl⟩)
          | (go_at_call 220; (with_reducible refine HV.out.mono ?_); rintro e w2 ⟨rfl, rfl⟩)
          | (go_at_call 167; (with_reducible refine ht.out.mono ?_); rintro e w3 ⟨a1, c1, y1, rfl, _, _, hr1, ho1, hob1⟩; replace hob1 := Lib.hid hob1; replace hr1 := Lib.hid hr1; replace ho1 := Lib.hid ho1))
        go_ret
        exact ⟨rfl, ⟨_, hr1.out, hob1.out⟩, ho1.out⟩
end Go.Proofs.YtejglhlodfhgkaaGreatDoor
namespace Go.Proofs.YtejglhlodfhgkaaGreatDoor
set_option linter.unusedVariables false
set_option linter.unusedSimpArgs false
open Go.RowKit
set_option maxRecDepth 100000
set_option linter.unusedSimpArgs false
set_option linter.unusedVariables false
structure Va where
  name : ByteArray
  key : Nat → Int
  pow : Int
theorem wpList_load_rowT {w : World} {ops : Array Oper} {rest : List Oper} {o : Oper} {a : Act} {Q : Exit → Act → World → Prop} (hgd : Region.wanted o (yielded ops a.tmps) = true) (ty : TypeId) (x : Operand) (ho : o.op = .load ty x)
    (b off : Nat) (hx : a.eval x = .pointer (some ⟨b, off, none⟩)) (cs : Array Value) (d : TypeDesc) (hc : w.rangeAt b off cs.toList) (hu : Tryz.prog.underlying ty = some d) (hd : d.isRow = true) (hi : (Tryz.prog.info? ty).map (·.size) = some cs.size)
    (h : wpList Tryz.prog ops Q rest (a.put o.dst (.agg cs)) w) : wpList Tryz.prog ops Q (o :: rest) a w :=
  BigFrame.wpList_want hgd fun _ hK => wp_load_mid ty x ho b off hx cs.toList d hc hu hd (by rw [hi, Array.length_toList]) (hK _ _ (by simpa using h))
theorem bkT_lt {w : World} {g : Nat} {o : Obj} (h : w.heap[g]? = some o) : g < w.heap.size := (Array.getElem?_eq_some_iff.1 h).1
theorem rowT_range {w : World} {g : Nat} {cs : Array Value} {T : TypeId} (h : w.heap[g]? = some (.cells cs T (0, 0))) : w.rangeAt g 0 cs.toList := fun j v hv => by
  rw [Nat.zero_add, cell_of_row w g j _ _ _ h]; simpa using hv
/-- a slice of rows -/
def RowsIn {α : Type} (n : Nat) (C : α → List Value) (w : World) (v : Value) (l : List α) : Prop :=
  ∃ a cap, v = .slice a l.length cap ∧ l.length ≤ cap ∧ l.length ≤ maxLen ∧ (l = [] ∨ ∃ ab ao, a = some ⟨ab, ao, none⟩ ∧ ab < w.heap.size ∧ ∀ i s, l[i]? = some s → w.rangeAt ab (ao + i * n) (C s))
theorem rangeT_below {w w' : World} {ab o : Nat} {l : List Value} (h : w.rangeAt ab o l) (hb : Below w.heap.size w w') (hl : ab < w.heap.size) : w'.rangeAt ab o l :=
  fun j v hv => (hb.cell (p := ⟨ab, o + j, none⟩) hl).trans (h j v hv)
theorem RowsIn.below {α : Type} {n : Nat} {C : α → List Value} {w w' : World} {v : Value} {l : List α} (h : RowsIn n C w v l) (hb : Below w.heap.size w w') : RowsIn n C w' v l := by
  obtain ⟨a, cap, rfl, hc, hm, hx⟩ := h
  refine ⟨a, cap, rfl, hc, hm, hx.imp id ?_⟩
  rintro ⟨ab, ao, rfl, hlt, hx⟩
  exact ⟨ab, ao, rfl, Nat.lt_of_lt_of_le hlt hb.size, fun i p hi => rangeT_below (hx i p hi) hb hlt⟩
theorem RowsIn.len {α : Type} {n : Nat} {C : α → List Value} {w : World} {v : Value} {l : List α} (h : RowsIn n C w v l) : ∃ a cap, v = .slice a l.length cap ∧ l.length ≤ cap ∧ l.length ≤ maxLen := by
  obtain ⟨a, cap, e, h1, h2, _⟩ := h
  exact ⟨a, cap, e, h1, h2⟩
theorem RowsIn.at {α : Type} {n : Nat} {C : α → List Value} {w : World} {a : Option Addr} {m cap : Nat} {l : List α} (h : RowsIn n C w (.slice a m cap) l) {i : Nat} {s : α} (hi : l[i]? = some s) : ∃ ab ao, a = some ⟨ab, ao, none⟩ ∧ ab < w.heap.size ∧ w.rangeAt ab (ao + i * n) (C s) := by
  obtain ⟨a', cap', e, hc, hm, hx⟩ := h
  injection e with e1 e2 e3
  subst e1
  rcases hx with rfl | ⟨ab, ao, rfl, hlt, hx⟩
  · simp at hi
  · exact ⟨ab, ao, rfl, hlt, hx i s hi⟩
theorem RowsIn.cut {α : Type} {n : Nat} {C : α → List Value} {w : World} {a : Option Addr} {m cap : Nat} {l : List α} (h : RowsIn n C w (.slice a m cap) l) (q : Nat) (hq : q ≤ l.length) : RowsIn n C w (.slice (cutA a cap 0) q cap) (l.take q) := by
  obtain ⟨a', cap', e, hc, hm, hx⟩ := h
  injection e with e1 e2 e3
  subst e1 e2 e3
  have hl : (l.take q).length = q := by rw [List.length_take]; omega
  refine ⟨cutA a cap 0, cap, by rw [hl], by rw [hl]; omega, by rw [hl]; omega, ?_⟩
  rcases hx with rfl | ⟨ab, ao, rfl, hlt, hx⟩
  · exact .inl (by simp)
  · by_cases hc0 : cap = 0
    · left
      have : q = 0 := by omega
      rw [this]; rfl
    · refine .inr ⟨ab, ao, ?_, hlt, fun i s hi => hx i s ?_⟩
      · unfold cutA
        rw [if_neg hc0]
        show some (Addr.add ⟨ab, ao, none⟩ 0) = _
        rw [Addr.add_mid]; rfl
      · rw [List.getElem?_take] at hi
        split at hi
        · exact hi
        · cases hi
end Go.Proofs.YtejglhlodfhgkaaGreatDoor
