/- Part 3 of the proof. -/
import Derived.Test.YtanekacpalpcbaaGreatDoorRd2
namespace Go.Proofs.YtanekacpalpcbaaGreatDoor
set_option linter.unusedVariables false
set_option linter.unusedSimpArgs false
open Go.RowKit
set_option maxRecDepth 100000
/-- block p is a Reader: y are the bytes ys that are left, e its error -/
structure RAt (w : World) (p : Nat) (y : Value) (ys : List Int) (e : Option Nat) : Prop where
  at_ : w.heap[p]? = some (.cells #[y, errV e] 294 (0, 0))
  in_ : BytesIn w y ys
  ok : bytesOk ys
  le : ys.length ≤ 140737488355328
  ne : ∀ k, y.ownBlock = some k → k ≠ p
theorem RAt.lt {w : World} {p : Nat} {y : Value} {ys : List Int} {e : Option Nat} (h : RAt w p y ys e) : p < w.heap.size := (Array.getElem?_eq_some_iff.1 h.at_).1
theorem BytesIn.only {w w' : World} {y : Value} {ys : List Int} {p : Nat} (h : BytesIn w y ys) (ho : Only p w w') (hn : ∀ k, y.ownBlock = some k → k ≠ p) : BytesIn w' y ys := by
  obtain ⟨a, c, rfl, hc, hm, hx⟩ := h
  refine ⟨a, c, rfl, hc, hm, hx.imp id ?_⟩
  rintro ⟨ab, ao, rfl, hx1⟩
  exact ⟨ab, ao, rfl, fun i x hi => ho.cell (hx1 i x hi) (hn ab rfl)⟩
theorem RAt.below {w w' : World} {p : Nat} {y : Value} {ys : List Int} {e : Option Nat} (h : RAt w p y ys e) (hb : Below w.heap.size w w') : RAt w' p y ys e :=
  ⟨(hb.block p h.lt).trans h.at_, h.in_.below hb, h.ok, h.le, h.ne⟩
theorem RAt.cell0 {w : World} {p : Nat} {y : Value} {ys : List Int} {e : Option Nat} (h : RAt w p y ys e) : w.cell? ⟨p, 0, none⟩ = some y := by rw [cell_of_row w p 0 _ _ _ h.at_]; rfl
theorem RAt.cell1 {w : World} {p : Nat} {y : Value} {ys : List Int} {e : Option Nat} (h : RAt w p y ys e) : w.cell? ⟨p, 1, none⟩ = some (errV e) := by rw [cell_of_row w p 1 _ _ _ h.at_]; rfl
theorem RAt.free {w : World} {p : Nat} {y : Value} {ys : List Int} {e : Option Nat} (h : RAt w p y ys e) (i : Nat) : w.frozen? ⟨p, i, none⟩ = false := frozen_of_row w p i _ _ h.at_
theorem RAt.wide {w : World} {p : Nat} {y : Value} {ys : List Int} {e : Option Nat} (h : RAt w p y ys e) : ∃ a c, y = .slice a ys.length c ∧ ys.length ≤ c := by
  obtain ⟨a, c, rfl, hc, _⟩ := h.in_; exact ⟨a, c, rfl, hc⟩
theorem RAt.keep {w w' : World} {p : Nat} {y : Value} {ys : List Int} {e : Option Nat} (h : RAt w p y ys e) (hp : w'.heap[p]? = w.heap[p]?) (hk : ys ≠ [] → ∀ k, y.ownBlock = some k → w'.heap[k]? = w.heap[k]?) : RAt w' p y ys e := by
  refine ⟨hp.trans h.at_, ?_, h.ok, h.le, h.ne⟩
  obtain ⟨a, c, rfl, hc, hm, hx⟩ := h.in_
  refine ⟨a, c, rfl, hc, hm, ?_⟩
  by_cases hn : ys = []
  · exact .inl hn
  · obtain ⟨ab, ao, rfl, hx1⟩ := hx.resolve_left hn
    exact .inr ⟨ab, ao, rfl, fun i x hi => (World.cell?_of_block (w := w) (hk hn ab rfl)).trans (hx1 i x hi)⟩
/-- bytes lie in memory -/
theorem RAt.own_lt {w : World} {p : Nat} {y : Value} {ys : List Int} {e : Option Nat} (h : RAt w p y ys e) (hn : ys ≠ []) : ∀ k, y.ownBlock = some k → k < w.heap.size := by
  intro k hk
  obtain ⟨a, c, rfl, hc, hm, hx⟩ := h.in_
  obtain ⟨ab, ao, rfl, hx1⟩ := hx.resolve_left hn
  obtain ⟨b, r, rfl⟩ := List.exists_cons_of_ne_nil hn
  simp only [Value.ownBlock, Option.some.injEq] at hk
  subst hk
  exact World.block_lt_of_cell? w _ (hx1 0 b rfl)
/-- its error is set -/
theorem RAt.err {w : World} {p : Nat} {y : Value} {ys : List Int} {e : Option Nat} (h : RAt w p y ys e) (e' : Option Nat) : RAt (w.setCell ⟨p, 1, none⟩ (errV e')) p y ys e' :=
  ⟨by rw [heap_setCell_same w p 1 _ _ _ h.at_]; rfl, h.in_.only (Only.setCell w ⟨p, 1, none⟩ _) h.ne, h.ok, h.le, h.ne⟩
theorem own_cut (a : Option Addr) (c k n m : Nat) : (Value.slice (cutA a c k) n m).ownBlock = (Value.slice a n m).ownBlock := by
  unfold cutA
  split
  · rfl
  · cases a with
    | none => rfl
    | some ad => show some (Addr.add ad k).block = some ad.block; unfold Addr.add; split <;> rfl
theorem own_len (a : Option Addr) (n m n' m' : Nat) : (Value.slice a n m).ownBlock = (Value.slice a n' m').ownBlock := by cases a <;> rfl
theorem bytesOk_drop {xs : List Int} (h : bytesOk xs) (k : Nat) : bytesOk (xs.drop k) := fun x hx => h x (List.mem_of_mem_drop hx)
theorem bytesOk_take {xs : List Int} (h : bytesOk xs) (k : Nat) : bytesOk (xs.take k) := fun x hx => h x (List.mem_of_mem_take hx)
/-- bytes are taken off -/
theorem RAt.took {w : World} {p : Nat} {a : Option Addr} {c : Nat} {ys : List Int} {e : Option Nat} (h : RAt w p (.slice a ys.length c) ys e) (k : Nat) (hk : k ≤ ys.length) :
    RAt (w.setCell ⟨p, 0, none⟩ (.slice (cutA a c k) (ys.length - k) (c - k))) p (.slice (cutA a c k) (ys.length - k) (c - k)) (ys.drop k) e := by
  have hn : ∀ j, (Value.slice (cutA a c k) (ys.length - k) (c - k)).ownBlock = some j → j ≠ p := fun j hj => h.ne j (by rw [own_cut] at hj; rw [← hj]; exact own_len _ _ _ _ _)
  have hb := h.in_.cut k ys.length hk (Nat.le_refl _)
  rw [List.take_length] at hb
  exact ⟨by rw [heap_setCell_same w p 0 _ _ _ h.at_]; rfl, hb.only (Only.setCell w ⟨p, 0, none⟩ _) hn, bytesOk_drop h.ok k, by rw [List.length_drop]; have := h.le; omega, hn⟩
theorem read_any (v : Value) (ys : List Int) (w : World) (hy : BytesIn w v ys) (ho : bytesOk ys) (hl : ys.length ≤ 140737488355328) :
    Calls Tryz.prog 151 #[v] w fun e w' => ∃ p y, e = .returned (.pointer (some ⟨p, 0, none⟩)) ∧ w.heap.size ≤ p ∧ RAt w' p y ys none ∧ Below w.heap.size w w' := by
  have HC := Lib.hid (clone_any v ys w hy hl)
  have HO := Lib.hid ho
  clear hy ho
  go_enter Tryz.func151, Tryz.ntmps151
  go_wp2_with (go_at_call 134; (with_reducible refine HC.out.mono ?_); rintro e w1 ⟨v', rfl, ho, hb⟩; obtain ⟨a, c, rfl⟩ := owns_wide ho; have H := Lib.hid ho; have HB := Lib.hid hb; clear ho hb)
  go_ret
  have h1 := H.out
  have hin := owns_in h1 (by unfold maxLen; omega)
  refine ⟨_, _, rfl, HB.out.size, ⟨heap_alloc_new w1 _, hin.below (below_alloc w1 _), HO.out, hl, fun k hk => ?_⟩, HB.out.alloc HB.out.size _⟩
  have := (h1.lt k hk).2
  omega
theorem err_any (p : Nat) (y : Value) (ys : List Int) (e : Option Nat) (w : World) (h : RAt w p y ys e) :
    Calls Tryz.prog 198 #[.pointer (some ⟨p, 0, none⟩)] w fun r w' => r = .returned (errV e) ∧ w' = w := by
  have hc := h.cell1
  cases e
  · simp only [errV] at hc ⊢
    go_enter Tryz.func198, Tryz.ntmps198
    go_wp2_with (fail)
    go_ret
    exact ⟨rfl, rfl⟩
  · simp only [errV] at hc ⊢
    go_enter Tryz.func198, Tryz.ntmps198
    go_wp2_with (fail)
    go_ret
    exact ⟨rfl, rfl⟩
theorem left_any (p : Nat) (y : Value) (ys : List Int) (e : Option Nat) (w : World) (h : RAt w p y ys e) :
    Calls Tryz.prog 222 #[.pointer (some ⟨p, 0, none⟩)] w fun r w' => r = .returned (.int .i64 (ys.length : Int)) ∧ w' = w := by
  have hc := h.cell0
  obtain ⟨a, c, rfl, _⟩ := h.wide
  go_enter Tryz.func222, Tryz.ntmps222
  go_wp2_with (fail)
  go_ret
  exact ⟨rfl, rfl⟩
set_option maxRecDepth 100000 in
set_option maxHeartbeats 400000 in
theorem take_any (p : Nat) (y : Value) (ys : List Int) (e : Option Nat) (k : Nat) (w : World) (h : RAt w p y ys e) (hk : k ≤ ys.length) :
    Calls Tryz.prog 234 #[.pointer (some ⟨p, 0, none⟩), .int .i64 (k : Int)] w fun r w' => ∃ a c y', r = .returned (.slice a k c) ∧ BytesIn w' (.slice a k c) (ys.take k) ∧ (∀ j, (Value.slice a k c).ownBlock = some j → j ≠ p) ∧ RAt w' p y' (ys.drop k) e ∧ Only p w w' ∧ y'.ownBlock = y.ownBlock := by
  obtain ⟨a, c, rfl, hle⟩ := h.wide
  have HR := Lib.hid h
  have hc := h.cell0
  have hf := h.free 0
  have hs1 := sliceBhi a ys.length c k (by omega)
  have hs2 := sliceBlo a ys.length c k hk
  have HK := Lib.hid hk
  clear h hk hle
  go_enter Tryz.func234, Tryz.ntmps234
  go_wp2_with (fail)
  go_ret
  have hn : ∀ j, (Value.slice (cutA a c 0) k c).ownBlock = some j → j ≠ p := fun j hj => HR.out.ne j (by rw [own_cut] at hj; rw [← hj]; exact own_len _ _ _ _ _)
  refine ⟨cutA a c 0, c, _, rfl, ?_, hn, HR.out.took k HK.out, Only.setCell w ⟨p, 0, none⟩ _, by rw [own_cut]; exact own_len _ _ _ _ _⟩
  have := (HR.out.in_.cut0 k HK.out).only (Only.setCell w ⟨p, 0, none⟩ (.slice (cutA a c k) (ys.length - k) (c - k))) hn
  rw [List.drop_zero] at this
  exact this
end Go.Proofs.YtanekacpalpcbaaGreatDoor
namespace Go.Proofs.YtanekacpalpcbaaGreatDoor
set_option linter.unusedVariables false
set_option linter.unusedSimpArgs false
open Go.RowKit
set_option maxRecDepth 100000
/-- the bytes that are left, and the error -/
abbrev RSt := List Int × Option Nat
/-- block p is a Reader in this state -/
def RS (w : World) (p : Nat) (s : RSt) : Prop := ∃ y, RAt w p y s.1 s.2
theorem chk_ok {n size last most : Nat} (h : (chk n size last most).2.2 = none) : (chk n size last most) = (n, size, none) ∧ n ≤ most ∧ ¬ ((1 < size ∧ last = 0) ∨ (size = 10 ∧ 1 < last)) := by
  unfold chk at *
  by_cases h1 : (1 < size ∧ last = 0) ∨ (size = 10 ∧ 1 < last)
  · rw [if_pos h1] at h; cases h
  · rw [if_neg h1] at h ⊢
    by_cases h2 : most < n
    · rw [if_pos h2] at h; cases h
    · rw [if_neg h2]; exact ⟨rfl, by omega, h1⟩
theorem accF_lt64 (xs : List Int) (i : Nat) (h : i ≤ 10) : accF xs i < 18446744073709551616 := by
  rcases Nat.lt_or_ge i 10 with h1 | h1
  · have := accF_lt xs i (by omega)
    have h2 : (128 : Nat) ^ i ≤ 128 ^ 9 := Nat.pow_le_pow_right (by decide) (by omega)
    have h3 : (128 : Nat) ^ 9 = 9223372036854775808 := by decide
    omega
  · obtain rfl : i = 10 := by omega
    have := accF_lt xs 9 (by omega)
    have h3 : (128 : Nat) ^ 9 = 9223372036854775808 := by decide
    rw [h3] at this
    show accF xs 9 + (xs.getD 9 0).toNat % 128 * 128 ^ 9 % 18446744073709551616 < _
    rw [h3]
    omega
theorem rdFrom_ok (xs : List Int) (most : Nat) : ∀ k i, i + k ≤ xs.length → i + k ≤ 10 → (rdFrom xs most k i).2.2 = none →
    (rdFrom xs most k i).2.1 ≤ xs.length ∧ (rdFrom xs most k i).1 < 18446744073709551616 ∧ (rdFrom xs most k i).1 ≤ most
  | 0, i, _, _, h => by
    unfold rdFrom at h
    split at h <;> cases h
  | k + 1, i, h1, h2, h => by
    unfold rdFrom at h ⊢
    by_cases hb : xs.getD i 0 < 128
    · rw [if_pos hb] at h ⊢
      obtain ⟨e, hm, _⟩ := chk_ok h
      rw [e]
      exact ⟨by show i + 1 ≤ _; omega, accF_lt64 xs (i + 1) (by omega), hm⟩
    · rw [if_neg hb] at h ⊢
      exact rdFrom_ok xs most k (i + 1) (by omega) (by omega) h
theorem rdF_ok {xs : List Int} {most : Nat} (h : (rdF xs most).2.2 = none) : (rdF xs most).2.1 ≤ xs.length ∧ (rdF xs most).1 < 18446744073709551616 ∧ (rdF xs most).1 ≤ most :=
  rdFrom_ok xs most _ 0 (by omega) (by omega) h
/-- Uint -/
def uintS (s : RSt) (most : Nat) : Nat × RSt :=
  match s.2 with
  | some _ => (0, s)
  | none => match (rdF s.1 most).2.2 with
    | some x => (0, s.1, some x)
    | none => ((rdF s.1 most).1, s.1.drop (rdF s.1 most).2.1, none)
theorem uintS_err (ys : List Int) (x most : Nat) : uintS (ys, some x) most = (0, ys, some x) := rfl
theorem uintS_bad {ys : List Int} {x most : Nat} (h : (rdF ys most).2.2 = some x) : uintS (ys, none) most = (0, ys, some x) := by
  unfold uintS; simp only [h]
theorem uintS_good {ys : List Int} {most : Nat} (h : (rdF ys most).2.2 = none) : uintS (ys, none) most = ((rdF ys most).1, ys.drop (rdF ys most).2.1, none) := by
  unfold uintS; simp only [h]
theorem uintS_lt (s : RSt) (most : Nat) : (uintS s most).1 < 18446744073709551616 := by
  obtain ⟨ys, e⟩ := s
  cases e with
  | some x => rw [uintS_err]; show (0 : Nat) < _; decide
  | none =>
    cases h : (rdF ys most).2.2 with
    | some x => rw [uintS_bad h]; show (0 : Nat) < _; decide
    | none => rw [uintS_good h]; exact (rdF_ok h).2.1
theorem tripV_of (r : Nat × Nat × Option Nat) (e : Option Nat) (h : r.2.2 = e) : tripV r = .tuple #[.int .u64 (r.1 : Int), .int .i64 (r.2.1 : Int), errV e] := by unfold tripV; rw [h]
set_option maxRecDepth 100000 in
set_option maxHeartbeats 400000 in
theorem uint_any (p : Nat) (s : RSt) (most : Nat) (w : World) (h : RS w p s) :
    Calls Tryz.prog 233 #[.pointer (some ⟨p, 0, none⟩), .int .u64 (most : Int)] w fun r w' => r = .returned (.int .u64 ((uintS s most).1 : Int)) ∧ RS w' p (uintS s most).2 ∧ Only p w w' := by
  obtain ⟨ys, e⟩ := s
  obtain ⟨y, h⟩ := h
  have HE := Lib.hid (err_any p y ys e w h)
  have HR := Lib.hid h
  have hc0 := h.cell0
  have hc1 := h.cell1
  have hf := h.free 1
  obtain ⟨a, c, rfl, hle⟩ := h.wide
  clear hle
  cases e with
  | some x =>
    rw [uintS_err]
    simp only [errV] at HE hc1
    go_enter Tryz.func233, Tryz.ntmps233
    go_wp2_with (go_at_call 198; (with_reducible refine HE.out.mono ?_); rintro e w2 ⟨rfl, rfl⟩)
    go_ret
    exact ⟨rfl, ⟨_, HR.out⟩, Only.refl _ _⟩
  | none =>
    simp only [errV] at HE hc1
    have HV := varint_any (.slice a ys.length c) ys most w h.in_ h.ok
    cases hx : (rdF ys most).2.2 with
    | some x =>
      rw [uintS_bad hx]
      rw [tripV_of _ _ hx] at HV
      replace HV := Lib.hid HV
      have HW := Lib.hid (h.err (some x))
      simp only [errV] at HV HW
      clear h
      go_enter Tryz.func233, Tryz.ntmps233
      go_wp2_with (first
        | (go_at_call 198; (with_reducible refine HE.out.mono ?_); rintro e w2 ⟨rfl, rfl⟩)
        | (go_at_call 237; (with_reducible refine HV.out.mono ?_); rintro e w2 ⟨rfl, rfl⟩))
      go_ret
      exact ⟨rfl, ⟨_, HW.out⟩, Only.setCell _ ⟨p, 1, none⟩ _⟩
    | none =>
      rw [uintS_good hx]
      have ht := take_any p _ ys none (rdF ys most).2.1 w h (rdF_ok hx).1
      rw [tripV_of _ _ hx] at HV
      replace HV := Lib.hid HV
      replace ht := Lib.hid ht
      simp only [errV] at HV
      clear h
      generalize (rdF ys most).2.1 = size at *
      generalize (rdF ys most).1 = n at *
      go_enter Tryz.func233, Tryz.ntmps233
      go_wp2_with (first
        | (go_at_call 198; (with_reducible refine HE.out.mono ?_); rintro e w2 ⟨rfl, rfl⟩)
        | (go_at_call 237; (with_reducible refine HV.out.mono ?_); rintro e w2 ⟨rfl, rfl⟩)
        | (go_at_call 234; (with_reducible refine ht.out.mono ?_); rintro e w3 ⟨a1, c1, y1, rfl, _, _, hr1, ho1, _⟩; replace hr1 := Lib.hid hr1; replace ho1 := Lib.hid ho1))
      go_ret
      exact ⟨rfl, ⟨_, hr1.out⟩, ho1.out⟩
/-- the number with a sign -/
def unzig (n : Nat) : Int := if n % 2 = 1 then -((n / 2 : Nat) : Int) - 1 else ((n / 2 : Nat) : Int)
theorem unzig_zig (n : Int) : unzig (zig n) = n := by
  unfold unzig zig
  by_cases h : n < 0
  · rw [if_pos h, if_pos (by omega)]; omega
  · rw [if_neg h, if_neg (by omega)]; omega
def intS (s : RSt) : Int × RSt := (unzig (uintS s 18446744073709551615).1, (uintS s 18446744073709551615).2)
set_option maxRecDepth 100000 in
set_option maxHeartbeats 400000 in
theorem int_any (p : Nat) (s : RSt) (w : World) (h : RS w p s) :
    Calls Tryz.prog 185 #[.pointer (some ⟨p, 0, none⟩)] w fun r w' => r = .returned (.int .i64 (intS s).1) ∧ RS w' p (intS s).2 ∧ Only p w w' := by
  have H0 := uint_any p s 18446744073709551615 w h
  rw [show ((18446744073709551615 : Nat) : Int) = 18446744073709551615 from rfl] at H0
  have H := Lib.hid H0
  clear H0
  have hl := uintS_lt s 18446744073709551615
  unfold intS
  generalize uintS s 18446744073709551615 = r at *
  obtain ⟨n, s'⟩ := r
  simp only at hl H ⊢
  have hm : (n : Int).tmod 2 = ((n % 2 : Nat) : Int) := by rw [Int.tmod_eq_emod_of_nonneg (by omega)]; omega
  have hq : (n : Int).tdiv 2 = ((n / 2 : Nat) : Int) := by rw [Int.tdiv_eq_ediv_of_nonneg (by omega)]; omega
  by_cases h1 : n % 2 = 1
  · have hx := not_i64 ((n / 2 : Nat) : Int) (by omega) (by omega)
    rw [h1] at hm
    go_enter Tryz.func185, Tryz.ntmps185
    go_wp2_with (go_at_call 233; (with_reducible refine H.out.mono ?_); rintro e w2 ⟨rfl, hr, ho⟩; replace hr := Lib.hid hr; replace ho := Lib.hid ho)
    go_ret
    refine ⟨?_, hr.out, ho.out⟩
    unfold unzig
    rw [if_pos h1]
    show Ending.returned (Value.int .i64 (bits .xor .i64 (-1) ((n : Int) / 2))) = _
    rw [show (n : Int) / 2 = ((n / 2 : Nat) : Int) by omega, hx]
  · have h2 : n % 2 = 0 := by omega
    rw [h2] at hm
    go_enter Tryz.func185, Tryz.ntmps185
    go_wp2_with (go_at_call 233; (with_reducible refine H.out.mono ?_); rintro e w2 ⟨rfl, hr, ho⟩; replace hr := Lib.hid hr; replace ho := Lib.hid ho)
    go_ret
    refine ⟨?_, hr.out, ho.out⟩
    unfold unzig
    rw [if_neg h1]
    show Ending.returned (Value.int .i64 ((n : Int) / 2)) = _
    rw [show (n : Int) / 2 = ((n / 2 : Nat) : Int) by omega]
theorem one_cell {w : World} {a : Option Addr} {n c : Nat} {b : Int} (h : BytesIn w (.slice a n c) [b]) : ∃ ab ao, a = some ⟨ab, ao, none⟩ ∧ w.cell? ⟨ab, ao, none⟩ = some (.int .u8 b) := by
  obtain ⟨a', c', e, _, _, hx⟩ := h
  injection e with e1 e2 e3
  subst e1 e3
  obtain ⟨ab, ao, rfl, hx1⟩ := hx.resolve_left (by simp)
  exact ⟨ab, ao, rfl, hx1 0 b rfl⟩
/-- Bool -/
def boolS (s : RSt) : Bool × RSt :=
  match s.2 with
  | some _ => (false, s)
  | none => if s.1.length = 0 then (false, s.1, some 12) else if 1 < s.1.getD 0 0 then (false, s.1, some 3) else (s.1.getD 0 0 == 1, s.1.drop 1, none)
set_option maxRecDepth 100000 in
set_option maxHeartbeats 400000 in
theorem bool_any (p : Nat) (s : RSt) (w : World) (h : RS w p s) :
    Calls Tryz.prog 238 #[.pointer (some ⟨p, 0, none⟩)] w fun r w' => r = .returned (.bool (boolS s).1) ∧ RS w' p (boolS s).2 ∧ Only p w w' := by
  obtain ⟨ys, e⟩ := s
  obtain ⟨y, h⟩ := h
  change RAt w p y ys e at h
  have HE := Lib.hid (err_any p y ys e w h)
  have HR := Lib.hid h
  have hc0 := h.cell0
  have hc1 := h.cell1
  have hf := h.free 1
  have hin := h.in_
  obtain ⟨a, c, rfl, hle⟩ := h.wide
  have HLE := Lib.hid hle
  clear hle
  cases e with
  | some x =>
    simp only [boolS, errV] at HE hc1 ⊢
    clear hin h
    go_enter Tryz.func238, Tryz.ntmps238
    go_wp2_with (go_at_call 198; (with_reducible refine HE.out.mono ?_); rintro e w2 ⟨rfl, rfl⟩)
    go_ret
    exact ⟨rfl, ⟨_, HR.out⟩, Only.refl _ _⟩
  | none =>
    simp only [boolS, errV] at HE hc1 ⊢
    by_cases h0 : ys.length = 0
    · rw [if_pos h0]
      have HW := Lib.hid (h.err (some 12))
      clear hin h
      obtain rfl := List.eq_nil_of_length_eq_zero h0
      go_enter Tryz.func238, Tryz.ntmps238
      go_wp2_with (go_at_call 198; (with_reducible refine HE.out.mono ?_); rintro e w2 ⟨rfl, rfl⟩)
      go_ret
      exact ⟨rfl, ⟨_, HW.out⟩, Only.setCell _ ⟨p, 1, none⟩ _⟩
    · rw [if_neg h0]
      obtain ⟨b, r, rfl⟩ := List.exists_cons_of_ne_nil (show ys ≠ [] from fun e => h0 (by rw [e]; rfl))
      obtain ⟨a', c', e', _, _, hx⟩ := hin
      injection e' with e1 _ e2
      subst e1 e2
      obtain ⟨ab, ao, rfl, hx1⟩ := hx.resolve_left (by simp)
      have hb := hx1 0 b rfl
      rw [Nat.add_zero] at hb
      have hb2 := h.ok b (by simp)
      have hn : ((b :: r).length : Int) ≠ 0 := by simp; omega
      have hn2 : (0 : Int) < ((b :: r).length : Int) := by simp
      rw [show (b :: r).getD 0 0 = b from rfl]
      by_cases h1 : 1 < b
      · rw [if_pos h1]
        have HW := Lib.hid (h.err (some 3))
        clear h hx hx1 h0
        generalize (b :: r) = ys at *
        go_enter Tryz.func238, Tryz.ntmps238
        go_wp2_with (go_at_call 198; (with_reducible refine HE.out.mono ?_); rintro e w2 ⟨rfl, rfl⟩)
        go_ret
        exact ⟨rfl, ⟨_, HW.out⟩, Only.setCell _ ⟨p, 1, none⟩ _⟩
      · rw [if_neg h1]
        have ht0 := take_any p _ _ none 1 w h (by simp)
        rw [show ((1 : Nat) : Int) = 1 from rfl] at ht0
        have ht := Lib.hid ht0
        clear ht0
        clear h hx hx1 h0
        go_enter Tryz.func238, Tryz.ntmps238
        have HT1 := Lib.hid (show (b :: r).take 1 = [b] from rfl)
        go_wp2_with (first
          | (go_at_call 198; (with_reducible refine HE.out.mono ?_); rintro e w2 ⟨rfl, rfl⟩)
          | (go_at_call 234; (with_reducible refine ht.out.mono ?_); rintro e w3 ⟨a1, c1, y1, rfl, hi1, _, hr1, ho1, _⟩; rw [HT1.out] at hi1; obtain ⟨ab1, ao1, rfl, hcb⟩ := one_cell hi1; replace hr1 := Lib.hid hr1; replace ho1 := Lib.hid ho1))
        go_ret
        exact ⟨rfl, ⟨_, hr1.out⟩, ho1.out⟩
/-- Done -/
def doneE (s : RSt) : Option Nat :=
  match s.2 with
  | some x => some x
  | none => if 0 < s.1.length then some 3 else none
set_option maxRecDepth 100000 in
set_option maxHeartbeats 400000 in
theorem rdone_any (p : Nat) (s : RSt) (w : World) (h : RS w p s) :
    Calls Tryz.prog 152 #[.pointer (some ⟨p, 0, none⟩)] w fun r w' => r = .returned (errV (doneE s)) ∧ w' = w := by
  obtain ⟨ys, e⟩ := s
  obtain ⟨y, h⟩ := h
  have HE := Lib.hid (err_any p y ys e w h)
  have HL := Lib.hid (left_any p y ys e w h)
  clear h
  cases e with
  | some x =>
    simp only [doneE, errV] at HE ⊢
    go_enter Tryz.func152, Tryz.ntmps152
    go_wp2_with (go_at_call 198; (with_reducible refine HE.out.mono ?_); rintro e w2 ⟨rfl, rfl⟩)
    go_ret
    exact ⟨rfl, rfl⟩
  | none =>
    simp only [doneE, errV] at HE ⊢
    by_cases h0 : 0 < ys.length
    · rw [if_pos h0]
      have h1 : (0 : Int) < (ys.length : Int) := by omega
      go_enter Tryz.func152, Tryz.ntmps152
      go_wp2_with (first
        | (go_at_call 198; (with_reducible refine HE.out.mono ?_); rintro e w2 ⟨rfl, rfl⟩)
        | (go_at_call 222; (with_reducible refine HL.out.mono ?_); rintro e w2 ⟨rfl, rfl⟩))
      go_ret
      exact ⟨rfl, rfl⟩
    · rw [if_neg h0]
      have h1 : ¬ (0 : Int) < (ys.length : Int) := by omega
      go_enter Tryz.func152, Tryz.ntmps152
      go_wp2_with (first
        | (go_at_call 198; (with_reducible refine HE.out.mono ?_); rintro e w2 ⟨rfl, rfl⟩)
        | (go_at_call 222; (with_reducible refine HL.out.mono ?_); rintro e w2 ⟨rfl, rfl⟩))
      go_ret
      exact ⟨rfl, rfl⟩
end Go.Proofs.YtanekacpalpcbaaGreatDoor
namespace Go.Proofs.YtanekacpalpcbaaGreatDoor
set_option linter.unusedVariables false
set_option linter.unusedSimpArgs false
open Go.RowKit
set_option maxRecDepth 100000
def RO (w : World) (p : Nat) (b : Option Nat) (s : RSt) : Prop := ∃ y, RAt w p y s.1 s.2 ∧ y.ownBlock = b
theorem RO.rs {w : World} {p : Nat} {b : Option Nat} {s : RSt} (h : RO w p b s) : RS w p s := by obtain ⟨y, h, _⟩ := h; exact ⟨y, h⟩
set_option maxHeartbeats 1000000 in
theorem uintO_any (p : Nat) (ob : Option Nat) (s : RSt) (most : Nat) (w : World) (h : RO w p ob s) :
    Calls Tryz.prog 233 #[.pointer (some ⟨p, 0, none⟩), .int .u64 (most : Int)] w fun r w' => r = .returned (.int .u64 ((uintS s most).1 : Int)) ∧ RO w' p ob (uintS s most).2 ∧ Only p w w' := by
  obtain ⟨ys, e⟩ := s
  obtain ⟨y, h, hob⟩ := h
  subst hob
  have HE := Lib.hid (err_any p y ys e w h)
  have HR := Lib.hid h
  have hc0 := h.cell0
  have hc1 := h.cell1
  have hf := h.free 1
  obtain ⟨a, c, rfl, hle⟩ := h.wide
  clear hle
  cases e with
  | some x =>
    rw [uintS_err]
    simp only [errV] at HE hc1
    go_enter Tryz.func233, Tryz.ntmps233
    go_wp2_with (go_at_call 198; (with_reducible refine HE.out.mono ?_); rintro e w2 ⟨rfl, rfl⟩)
    go_ret
    exact ⟨rfl, ⟨_, HR.out, rfl⟩, Only.refl _ _⟩
  | none =>
    simp only [errV] at HE hc1
    have HV := varint_any (.slice a ys.length c) ys most w h.in_ h.ok
    cases hx : (rdF ys most).2.2 with
    | some x =>
      rw [uintS_bad hx]
      rw [tripV_of _ _ hx] at HV
      replace HV := Lib.hid HV
      have HW := Lib.hid (h.err (some x))
      simp only [errV] at HV HW
      clear h
      go_enter Tryz.func233, Tryz.ntmps233
      go_wp2_with (first
        | (go_at_call 198; (with_reducible refine HE.out.mono ?_); rintro e w2 ⟨rfl, rfl⟩)
        | (go_at_call 237; (with_reducible refine HV.out.mono ?_); rintro e w2 ⟨rfl, rfl⟩))
      go_ret
      exact ⟨rfl, ⟨_, HW.out, rfl⟩, Only.setCell _ ⟨p, 1, none⟩ _⟩
    | none =>
      rw [uintS_good hx]
      have ht := take_any p _ ys none (rdF ys most).2.1 w h (rdF_ok hx).1
      rw [tripV_of _ _ hx] at HV
      replace HV := Lib.hid HV
      replace ht := Lib.hid ht
      simp only [errV] at HV
      clear h
      generalize (rdF ys most).2.1 = size at *
      generalize (rdF ys most).1 = n at *
      go_enter Tryz.func233, Tryz.ntmps233
      go_wp2_with (first
        | (go_at_call 198; (with_reducible refine HE.out.mono ?_); rintro e w2 ⟨rfl, rfl⟩)
        | (go_at_call 237; (with_reducible refine HV.out.mono ?_); rintro e w2 ⟨rfl, rfl⟩)
        | (go_at_call 234; (with_reducible refine ht.out.mono ?_); rintro e w3 ⟨a1, c1, y1, rfl, _, _, hr1, ho1, hob1⟩; replace hob1 := Lib.hid hob1; replace hr1 := Lib.hid hr1; replace ho1 := Lib.hid ho1))
      go_ret
      exact ⟨rfl, ⟨_, hr1.out, hob1.out⟩, ho1.out⟩
set_option maxHeartbeats 1000000 in
theorem intO_any (p : Nat) (ob : Option Nat) (s : RSt) (w : World) (h : RO w p ob s) :
    Calls Tryz.prog 185 #[.pointer (some ⟨p, 0, none⟩)] w fun r w' => r = .returned (.int .i64 (intS s).1) ∧ RO w' p ob (intS s).2 ∧ Only p w w' := by
  have H0 := uintO_any p ob s 18446744073709551615 w h
  rw [show ((18446744073709551615 : Nat) : Int) = 18446744073709551615 from rfl] at H0
  have H := Lib.hid H0
  clear H0
  have hl := uintS_lt s 18446744073709551615
  unfold intS
  generalize uintS s 18446744073709551615 = r at *
  obtain ⟨n, s'⟩ := r
  simp only at hl H ⊢
  have hm : (n : Int).tmod 2 = ((n % 2 : Nat) : Int) := by rw [Int.tmod_eq_emod_of_nonneg (by omega)]; omega
  have hq : (n : Int).tdiv 2 = ((n / 2 : Nat) : Int) := by rw [Int.tdiv_eq_ediv_of_nonneg (by omega)]; omega
  by_cases h1 : n % 2 = 1
  · have hx := not_i64 ((n / 2 : Nat) : Int) (by omega) (by omega)
    rw [h1] at hm
    go_enter Tryz.func185, Tryz.ntmps185
    go_wp2_with (go_at_call 233; (with_reducible refine H.out.mono ?_); rintro e w2 ⟨rfl, hr, ho⟩; replace hr := Lib.hid hr; replace ho := Lib.hid ho)
    go_ret
    refine ⟨?_, hr.out, ho.out⟩
    unfold unzig
    rw [if_pos h1]
    show Ending.returned (Value.int .i64 (bits .xor .i64 (-1) ((n : Int) / 2))) = _
    rw [show (n : Int) / 2 = ((n / 2 : Nat) : Int) by omega, hx]
  · have h2 : n % 2 = 0 := by omega
    rw [h2] at hm
    go_enter Tryz.func185, Tryz.ntmps185
    go_wp2_with (go_at_call 233; (with_reducible refine H.out.mono ?_); rintro e w2 ⟨rfl, hr, ho⟩; replace hr := Lib.hid hr; replace ho := Lib.hid ho)
    go_ret
    refine ⟨?_, hr.out, ho.out⟩
    unfold unzig
    rw [if_neg h1]
    show Ending.returned (Value.int .i64 ((n : Int) / 2)) = _
    rw [show (n : Int) / 2 = ((n / 2 : Nat) : Int) by omega]
set_option maxHeartbeats 1000000 in
theorem boolO_any (p : Nat) (ob : Option Nat) (s : RSt) (w : World) (h : RO w p ob s) :
    Calls Tryz.prog 238 #[.pointer (some ⟨p, 0, none⟩)] w fun r w' => r = .returned (.bool (boolS s).1) ∧ RO w' p ob (boolS s).2 ∧ Only p w w' := by
  obtain ⟨ys, e⟩ := s
  obtain ⟨y, h, hob⟩ := h
  subst hob
  change RAt w p y ys e at h
  have HE := Lib.hid (err_any p y ys e w h)
  have HR := Lib.hid h
  have hc0 := h.cell0
  have hc1 := h.cell1
  have hf := h.free 1
  have hin := h.in_
  obtain ⟨a, c, rfl, hle⟩ := h.wide
  have HLE := Lib.hid hle
  clear hle
  cases e with
  | some x =>
    simp only [boolS, errV] at HE hc1 ⊢
    clear hin h
    go_enter Tryz.func238, Tryz.ntmps238
    go_wp2_with (go_at_call 198; (with_reducible refine HE.out.mono ?_); rintro e w2 ⟨rfl, rfl⟩)
    go_ret
    exact ⟨rfl, ⟨_, HR.out, rfl⟩, Only.refl _ _⟩
  | none =>
    simp only [boolS, errV] at HE hc1 ⊢
    by_cases h0 : ys.length = 0
    · rw [if_pos h0]
      have HW := Lib.hid (h.err (some 12))
      clear hin h
      obtain rfl := List.eq_nil_of_length_eq_zero h0
      go_enter Tryz.func238, Tryz.ntmps238
      go_wp2_with (go_at_call 198; (with_reducible refine HE.out.mono ?_); rintro e w2 ⟨rfl, rfl⟩)
      go_ret
      exact ⟨rfl, ⟨_, HW.out, rfl⟩, Only.setCell _ ⟨p, 1, none⟩ _⟩
    · rw [if_neg h0]
      obtain ⟨b, r, rfl⟩ := List.exists_cons_of_ne_nil (show ys ≠ [] from fun e => h0 (by rw [e]; rfl))
      obtain ⟨a', c', e', _, _, hx⟩ := hin
      injection e' with e1 _ e2
      subst e1 e2
      obtain ⟨ab, ao, rfl, hx1⟩ := hx.resolve_left (by simp)
      have hb := hx1 0 b rfl
      rw [Nat.add_zero] at hb
      have hb2 := h.ok b (by simp)
      have hn : ((b :: r).length : Int) ≠ 0 := by simp; omega
      have hn2 : (0 : Int) < ((b :: r).length : Int) := by simp
      rw [show (b :: r).getD 0 0 = b from rfl]
      by_cases h1 : 1 < b
      · rw [if_pos h1]
        have HW := Lib.hid (h.err (some 3))
        clear h hx hx1 h0
        generalize (b :: r) = ys at *
        go_enter Tryz.func238, Tryz.ntmps238
        go_wp2_with (go_at_call 198; (with_reducible refine HE.out.mono ?_); rintro e w2 ⟨rfl, rfl⟩)
        go_ret
        exact ⟨rfl, ⟨_, HW.out, rfl⟩, Only.setCell _ ⟨p, 1, none⟩ _⟩
      · rw [if_neg h1]
        have ht0 := take_any p _ _ none 1 w h (by simp)
        rw [show ((1 : Nat) : Int) = 1 from rfl] at ht0
        have ht := Lib.hid ht0
        clear ht0
        clear h hx hx1 h0
        go_enter Tryz.func238, Tryz.ntmps238
        have HT1 := Lib.hid (show (b :: r).take 1 = [b] from rfl)
        go_wp2_with (first
          | (go_at_call 198; (with_reducible refine HE.out.mono ?_); rintro e w2 ⟨rfl, rfl⟩)
          | (go_at_call 234; (with_reducible refine ht.out.mono ?_); rintro e w3 ⟨a1, c1, y1, rfl, hi1, _, hr1, ho1, hob1⟩; replace hob1 := Lib.hid hob1; rw [HT1.out] at hi1; obtain ⟨ab1, ao1, rfl, hcb⟩ := one_cell hi1; replace hr1 := Lib.hid hr1; replace ho1 := Lib.hid ho1))
        go_ret
        exact ⟨rfl, ⟨_, hr1.out, hob1.out⟩, ho1.out⟩
end Go.Proofs.YtanekacpalpcbaaGreatDoor
