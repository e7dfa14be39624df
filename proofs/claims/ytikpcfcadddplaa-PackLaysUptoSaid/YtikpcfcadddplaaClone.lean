/- bytes.Clone; Done of a Writer. -/
import Derived.Test.YtikpcfcadddplaaAdd
namespace Go.Proofs.Ytikpcfcadddplaa
open Go.RowKit
set_option maxRecDepth 100000
theorem owns_in {w : World} {base : Nat} {v : Value} {xs : List Int} (h : w.ownsRow base 5 1 v xs.length (byteVals xs)) (hl : xs.length ≤ maxLen) : BytesIn w v xs := by
  rcases h.2 with ⟨rfl, h0⟩ | ⟨g, c, cur, rfl, hb, hg, hc, hm, hs, ht⟩
  · obtain rfl := List.eq_nil_of_length_eq_zero h0
    exact ⟨none, 0, rfl, Nat.le_refl _, hl, .inl rfl⟩
  · refine ⟨_, c, rfl, hc, hl, .inr ⟨g, 0, rfl, fun i x hi => ?_⟩⟩
    have := h.cells (g := g) rfl i (.int .u8 x) (by simp [byteVals, hi])
    rw [Addr.add_mid] at this
    exact this
theorem eqNil_some (ad : Addr) (n c : Nat) (w : World) : (binOp .eql 25 (.slice (some ad) n c) (.slice none 0 0)).run Try.prog w = .ok (.bool false) w := by kernel_rfl
theorem eqNil_none (n c : Nat) (w : World) : (binOp .eql 25 (.slice none n c) (.slice none 0 0)).run Try.prog w = .ok (.bool true) w := by kernel_rfl
set_option maxRecDepth 100000 in
set_option maxHeartbeats 400000 in
theorem clone_any (y : Value) (ys : List Int) (w : World) (hy : BytesIn w y ys) (hl : ys.length ≤ 140737488355328) :
    Calls Try.prog 30 #[y] w fun e w' => ∃ v', e = .returned v' ∧ w'.ownsRow w.heap.size 5 1 v' ys.length (byteVals ys) ∧ Below w.heap.size w w' := by
  have HY := Lib.hid hy
  have HL := Lib.hid hl
  obtain ⟨a, c, rfl, hc, hm, hx⟩ := hy
  clear hl
  cases a with
  | none =>
    have hn : ys = [] := by
      rcases hx with hx | ⟨_, _, h, _⟩
      · exact hx
      · cases h
    subst hn
    clear hc hm hx
    have h1 := eqNil_none 0 c
    go_enter Try.func30, Try.ntmps30
    go_wp2_with (fail)
    go_ret
    exact ⟨_, rfl, World.ownsRow_nil _ _ _ _, Below.refl _ _⟩
  | some ad =>
    clear hc hm hx
    have h1 := eqNil_some ad ys.length c
    go_enter Try.func30, Try.ntmps30
    have HO := Lib.hid (World.ownsRow_lit (w := w) (base := w.heap.size) (e := 5) (size := 1) #[] 0 (Nat.le_refl _) (by simp [maxLen]) rfl)
    have HB := Lib.hid (below_alloc w (.cells #[] 5))
    go_wp2_with (at_builtin; refine wpList_append_bytes rfl (.tmp 5) (.tmp 6) rfl rfl w.heap.size _ 0 [] rfl HO.out (.slice (some ad) ys.length c) ys rfl (HY.out.below HB.out) (by have := HL.out; omega) (by simp) ?_; intro v' w1 ho hg _; have H := Lib.hid ho; have HB1 := Lib.hid (HB.out.grown hg (by simp) (fun k hk => (HO.out.lt k hk).1)); clear ho hg)
    go_ret
    refine ⟨_, rfl, ?_, HB1.out⟩
    have := H.out
    rw [Nat.zero_add, List.nil_append] at this
    exact this
theorem done_any (p : Nat) (v : Value) (xs : List Int) (w : World) (hw : WAt w p v xs) (hl : xs.length ≤ 140737488355328) :
    Calls Try.prog 8 #[.pointer (some ⟨p, 0, none⟩)] w fun e w' => ∃ v', e = .returned v' ∧ w'.ownsRow w.heap.size 5 1 v' xs.length (byteVals xs) ∧ Below w.heap.size w w' := by
  have HV := Lib.hid (owns_in hw.2 (by unfold maxLen; omega))
  have HL := Lib.hid hl
  have hc := hw.cell
  clear hw hl
  go_enter Try.func8, Try.ntmps8
  go_wp2_with (go_at_call 30; (with_reducible refine (clone_any v xs _ HV.out HL.out).mono ?_); rintro e w1 ⟨v', rfl, ho, hb⟩; have H := Lib.hid ho; have HB := Lib.hid hb; clear ho hb)
  go_ret
  exact ⟨_, rfl, H.out, HB.out⟩
end Go.Proofs.Ytikpcfcadddplaa
