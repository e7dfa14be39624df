/- A Reader's state; Read, Err, Left, take, Uint. -/
import Derived.Test.YtikpcfcadddplaaRead
namespace Go.Proofs.Ytikpcfcadddplaa
open Go.RowKit
set_option maxRecDepth 100000
/-- block p is a Reader: y are the bytes ys that are left, e its error -/
structure RAt (w : World) (p : Nat) (y : Value) (ys : List Int) (e : Option Nat) : Prop where
  at_ : w.heap[p]? = some (.cells #[y, errV e] 63 (0, 0))
  in_ : BytesIn w y ys
  ok : bytesOk ys
  le : ys.length ≤ 140737488355328
  ne : ∀ k, y.ownBlock = some k → k ≠ p
theorem RAt.lt {w : World} {p : Nat} {y : Value} {ys : List Int} {e : Option Nat} (h : RAt w p y ys e) : p < w.heap.size := (Array.getElem?_eq_some_iff.1 h.at_).1
theorem BytesIn.only {w w' : World} {y : Value} {ys : List Int} {p : Nat} (h : BytesIn w y ys) (ho : Only p w w') (hn : ∀ k, y.ownBlock = some k → k ≠ p) : BytesIn w' y ys := by
  obtain ⟨a, c, rfl, hc, hm, hx⟩ := h
  refine ⟨a, c, rfl, hc, hm, hx.imp id ?_⟩
  rintro ⟨ab, ao, rfl, hx1⟩
  exact ⟨ab, ao, rfl, fun i x hi => ho.cell (hx1 i x hi) (hn ab rfl)⟩
theorem RAt.below {w w' : World} {p : Nat} {y : Value} {ys : List Int} {e : Option Nat} (h : RAt w p y ys e) (hb : Below w.heap.size w w') : RAt w' p y ys e :=
  ⟨(hb.block p h.lt).trans h.at_, h.in_.below hb, h.ok, h.le, h.ne⟩
theorem RAt.cell0 {w : World} {p : Nat} {y : Value} {ys : List Int} {e : Option Nat} (h : RAt w p y ys e) : w.cell? ⟨p, 0, none⟩ = some y := by rw [cell_of_row w p 0 _ _ _ h.at_]; rfl
theorem RAt.cell1 {w : World} {p : Nat} {y : Value} {ys : List Int} {e : Option Nat} (h : RAt w p y ys e) : w.cell? ⟨p, 1, none⟩ = some (errV e) := by rw [cell_of_row w p 1 _ _ _ h.at_]; rfl
theorem RAt.free {w : World} {p : Nat} {y : Value} {ys : List Int} {e : Option Nat} (h : RAt w p y ys e) (i : Nat) : w.frozen? ⟨p, i, none⟩ = false := frozen_of_row w p i _ _ h.at_
theorem RAt.wide {w : World} {p : Nat} {y : Value} {ys : List Int} {e : Option Nat} (h : RAt w p y ys e) : ∃ a c, y = .slice a ys.length c ∧ ys.length ≤ c := by
  obtain ⟨a, c, rfl, hc, _⟩ := h.in_; exact ⟨a, c, rfl, hc⟩
theorem RAt.keep {w w' : World} {p : Nat} {y : Value} {ys : List Int} {e : Option Nat} (h : RAt w p y ys e) (hp : w'.heap[p]? = w.heap[p]?) (hk : ys ≠ [] → ∀ k, y.ownBlock = some k → w'.heap[k]? = w.heap[k]?) : RAt w' p y ys e := by
  refine ⟨hp.trans h.at_, ?_, h.ok, h.le, h.ne⟩
  obtain ⟨a, c, rfl, hc, hm, hx⟩ := h.in_
  refine ⟨a, c, rfl, hc, hm, ?_⟩
  by_cases hn : ys = []
  · exact .inl hn
  · obtain ⟨ab, ao, rfl, hx1⟩ := hx.resolve_left hn
    exact .inr ⟨ab, ao, rfl, fun i x hi => (World.cell?_of_block (w := w) (hk hn ab rfl)).trans (hx1 i x hi)⟩
/-- bytes lie in memory -/
theorem RAt.own_lt {w : World} {p : Nat} {y : Value} {ys : List Int} {e : Option Nat} (h : RAt w p y ys e) (hn : ys ≠ []) : ∀ k, y.ownBlock = some k → k < w.heap.size := by
  intro k hk
  obtain ⟨a, c, rfl, hc, hm, hx⟩ := h.in_
  obtain ⟨ab, ao, rfl, hx1⟩ := hx.resolve_left hn
  obtain ⟨b, r, rfl⟩ := List.exists_cons_of_ne_nil hn
  simp only [Value.ownBlock, Option.some.injEq] at hk
  subst hk
  exact World.block_lt_of_cell? w _ (hx1 0 b rfl)
/-- its error is set -/
theorem RAt.err {w : World} {p : Nat} {y : Value} {ys : List Int} {e : Option Nat} (h : RAt w p y ys e) (e' : Option Nat) : RAt (w.setCell ⟨p, 1, none⟩ (errV e')) p y ys e' :=
  ⟨by rw [heap_setCell_same w p 1 _ _ _ h.at_]; rfl, h.in_.only (Only.setCell w ⟨p, 1, none⟩ _) h.ne, h.ok, h.le, h.ne⟩
theorem own_cut (a : Option Addr) (c k n m : Nat) : (Value.slice (cutA a c k) n m).ownBlock = (Value.slice a n m).ownBlock := by
  unfold cutA
  split
  · rfl
  · cases a with
    | none => rfl
    | some ad => show some (Addr.add ad k).block = some ad.block; unfold Addr.add; split <;> rfl
theorem own_len (a : Option Addr) (n m n' m' : Nat) : (Value.slice a n m).ownBlock = (Value.slice a n' m').ownBlock := by cases a <;> rfl
theorem bytesOk_drop {xs : List Int} (h : bytesOk xs) (k : Nat) : bytesOk (xs.drop k) := fun x hx => h x (List.mem_of_mem_drop hx)
theorem bytesOk_take {xs : List Int} (h : bytesOk xs) (k : Nat) : bytesOk (xs.take k) := fun x hx => h x (List.mem_of_mem_take hx)
/-- bytes are taken off -/
theorem RAt.took {w : World} {p : Nat} {a : Option Addr} {c : Nat} {ys : List Int} {e : Option Nat} (h : RAt w p (.slice a ys.length c) ys e) (k : Nat) (hk : k ≤ ys.length) :
    RAt (w.setCell ⟨p, 0, none⟩ (.slice (cutA a c k) (ys.length - k) (c - k))) p (.slice (cutA a c k) (ys.length - k) (c - k)) (ys.drop k) e := by
  have hn : ∀ j, (Value.slice (cutA a c k) (ys.length - k) (c - k)).ownBlock = some j → j ≠ p := fun j hj => h.ne j (by rw [own_cut] at hj; rw [← hj]; exact own_len _ _ _ _ _)
  have hb := h.in_.cut k ys.length hk (Nat.le_refl _)
  rw [List.take_length] at hb
  exact ⟨by rw [heap_setCell_same w p 0 _ _ _ h.at_]; rfl, hb.only (Only.setCell w ⟨p, 0, none⟩ _) hn, bytesOk_drop h.ok k, by rw [List.length_drop]; have := h.le; omega, hn⟩
theorem read_any (v : Value) (ys : List Int) (w : World) (hy : BytesIn w v ys) (ho : bytesOk ys) (hl : ys.length ≤ 140737488355328) :
    Calls Try.prog 16 #[v] w fun e w' => ∃ p y, e = .returned (.pointer (some ⟨p, 0, none⟩)) ∧ w.heap.size ≤ p ∧ RAt w' p y ys none ∧ Below w.heap.size w w' := by
  have HC := Lib.hid (clone_any v ys w hy hl)
  have HO := Lib.hid ho
  clear hy ho
  go_enter Try.func16, Try.ntmps16
  go_wp2_with (go_at_call 30; (with_reducible refine HC.out.mono ?_); rintro e w1 ⟨v', rfl, ho, hb⟩; obtain ⟨a, c, rfl⟩ := owns_wide ho; have H := Lib.hid ho; have HB := Lib.hid hb; clear ho hb)
  go_ret
  have h1 := H.out
  have hin := owns_in h1 (by unfold maxLen; omega)
  refine ⟨_, _, rfl, HB.out.size, ⟨heap_alloc_new w1 _, hin.below (below_alloc w1 _), HO.out, hl, fun k hk => ?_⟩, HB.out.alloc HB.out.size _⟩
  have := (h1.lt k hk).2
  omega
theorem err_any (p : Nat) (y : Value) (ys : List Int) (e : Option Nat) (w : World) (h : RAt w p y ys e) :
    Calls Try.prog 32 #[.pointer (some ⟨p, 0, none⟩)] w fun r w' => r = .returned (errV e) ∧ w' = w := by
  have hc := h.cell1
  cases e
  · simp only [errV] at hc ⊢
    go_enter Try.func32, Try.ntmps32
    go_wp2_with (fail)
    go_ret
    exact ⟨rfl, rfl⟩
  · simp only [errV] at hc ⊢
    go_enter Try.func32, Try.ntmps32
    go_wp2_with (fail)
    go_ret
    exact ⟨rfl, rfl⟩
theorem left_any (p : Nat) (y : Value) (ys : List Int) (e : Option Nat) (w : World) (h : RAt w p y ys e) :
    Calls Try.prog 24 #[.pointer (some ⟨p, 0, none⟩)] w fun r w' => r = .returned (.int .i64 (ys.length : Int)) ∧ w' = w := by
  have hc := h.cell0
  obtain ⟨a, c, rfl, _⟩ := h.wide
  go_enter Try.func24, Try.ntmps24
  go_wp2_with (fail)
  go_ret
  exact ⟨rfl, rfl⟩
set_option maxRecDepth 100000 in
set_option maxHeartbeats 400000 in
theorem take_any (p : Nat) (y : Value) (ys : List Int) (e : Option Nat) (k : Nat) (w : World) (h : RAt w p y ys e) (hk : k ≤ ys.length) :
    Calls Try.prog 34 #[.pointer (some ⟨p, 0, none⟩), .int .i64 (k : Int)] w fun r w' => ∃ a c y', r = .returned (.slice a k c) ∧ BytesIn w' (.slice a k c) (ys.take k) ∧ (∀ j, (Value.slice a k c).ownBlock = some j → j ≠ p) ∧ RAt w' p y' (ys.drop k) e ∧ Only p w w' ∧ y'.ownBlock = y.ownBlock := by
  obtain ⟨a, c, rfl, hle⟩ := h.wide
  have HR := Lib.hid h
  have hc := h.cell0
  have hf := h.free 0
  have hs1 := sliceBhi a ys.length c k (by omega)
  have hs2 := sliceBlo a ys.length c k hk
  have HK := Lib.hid hk
  clear h hk hle
  go_enter Try.func34, Try.ntmps34
  go_wp2_with (fail)
  go_ret
  have hn : ∀ j, (Value.slice (cutA a c 0) k c).ownBlock = some j → j ≠ p := fun j hj => HR.out.ne j (by rw [own_cut] at hj; rw [← hj]; exact own_len _ _ _ _ _)
  refine ⟨cutA a c 0, c, _, rfl, ?_, hn, HR.out.took k HK.out, Only.setCell w ⟨p, 0, none⟩ _, by rw [own_cut]; exact own_len _ _ _ _ _⟩
  have := (HR.out.in_.cut0 k HK.out).only (Only.setCell w ⟨p, 0, none⟩ (.slice (cutA a c k) (ys.length - k) (c - k))) hn
  rw [List.drop_zero] at this
  exact this
end Go.Proofs.Ytikpcfcadddplaa
