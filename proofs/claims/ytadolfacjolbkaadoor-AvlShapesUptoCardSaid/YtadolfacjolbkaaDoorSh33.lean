/- Part 33 of the proof. -/
import Derived.Test.YtadolfacjolbkaaDoorSh24
import Derived.Test.YtadolfacjolbkaaDoorSh26
namespace Go.Proofs.YtadolfacjolbkaaDoor
set_option linter.unusedVariables false
set_option linter.unusedSimpArgs false
open Go.RowKit Go.Shelf
set_option maxRecDepth 100000
set_option linter.unusedSimpArgs false
set_option linter.unusedVariables false
attribute [local go_sem] Oper.semAt_some
abbrev BX := Nat × Bool
/-- the first k rounds, from behind: the place, and what stands there -/
def bwd (s : List Bool) (k : Nat) : List BX := (List.range k).map fun j => (s.length - 1 - j, (s[s.length - 1 - j]?).getD false)
theorem bwd_len (s : List Bool) (k : Nat) : (bwd s k).length = k := by simp [bwd]
theorem bwd_succ (s : List Bool) (k : Nat) : bwd s (k + 1) = bwd s k ++ [(s.length - 1 - k, (s[s.length - 1 - k]?).getD false)] := by simp [bwd, List.range_succ]
theorem bwd_pre (s : List Bool) {k m : Nat} (h : k ≤ m) : bwd s k <+: bwd s m := by
  obtain ⟨d, rfl⟩ := Nat.exists_eq_add_of_le h
  induction d with
  | zero => exact List.prefix_rfl
  | succ d ih => exact (ih (by omega)).trans (by rw [← Nat.add_assoc, bwd_succ]; exact List.prefix_append _ _)
theorem bwd_vals (s : List Bool) : (bwd s s.length).map (·.2) = s.reverse := by
  apply List.ext_getElem?
  intro i
  rw [List.getElem?_map]
  by_cases hi : i < s.length
  · rw [List.getElem?_reverse hi]
    have h1 : (bwd s s.length)[i]? = some (s.length - 1 - i, (s[s.length - 1 - i]?).getD false) := by
      unfold bwd; rw [List.getElem?_map, List.getElem?_range hi]; rfl
    rw [h1]
    have h2 : s.length - 1 - i < s.length := by omega
    simp [List.getElem?_eq_getElem h2]
  · rw [List.getElem?_eq_none (by rw [bwd_len]; omega), List.getElem?_eq_none (by simp; omega)]
    rfl
/-- what a round keeps: all below n₀, and the box of the slice -/
structure KpB (n₀ Bs : Nat) (W W' : World) : Prop where
  below : Below n₀ W W'
  box : ∀ o, W.heap[Bs]? = some o → W'.heap[Bs]? = some o
theorem KpB.refl (n₀ Bs : Nat) (W : World) : KpB n₀ Bs W W := ⟨Below.refl _ _, fun _ h => h⟩
theorem KpB.trans {n₀ Bs : Nat} {A B C : World} (h : KpB n₀ Bs A B) (k : KpB n₀ Bs B C) : KpB n₀ Bs A C := ⟨h.below.trans k.below, fun o ho => k.box o (h.box o ho)⟩
theorem KpB.obj {n₀ Bs : Nat} {w : World} (hn : n₀ ≤ w.heap.size) (hB : Bs < w.heap.size) (W : World) (l : Nat) (o o' : Obj) (hl : w.heap.size ≤ l) (ho : W.heap[l]? = some o) (h1 : o.isCells = false) (h2 : o.isWalk = false) : KpB n₀ Bs W (W.putObj l o') :=
  ⟨belowK_b hn W l o o' hl ho h1 h2, fun x hx => (World.putObj_heap_other (by omega)).trans hx⟩
set_option maxHeartbeats 2000000 in
theorem back_in (l n₀ : Nat) (J Jx : List BX → World → Prop) (s : List Bool) (a : Option Addr) (cap Bs n : Nat) (W : World) (hBs : Boxed W Bs 23 (.slice a s.length cap)) (hs : BlIn W (.slice a s.length cap) s) (hsl : s.length ≤ 4398046511104) (hb : ∀ b o, a = some ⟨b, o, none⟩ → s ≠ [] → b < n₀)
    (hY : ∀ pre x W1, J pre W1 → pre.length < s.length → YieldAt Fence.wide (n - 1) Tryd.prog l #[.int .i64 (x.1 : Int), .bool x.2] W1 fun e W' => (e = .returned (.bool true) ∧ J (pre ++ [x]) W' ∧ KpB n₀ Bs W1 W') ∨ (e = .returned (.bool false) ∧ Jx (pre ++ [x]) W')) (h0 : J [] W) :
    CallsIn Fence.wide n Tryd.prog 58 #[.func (.yield l) #[] #[], .pointer (some ⟨Bs, 0, none⟩)] W fun e W' => (∃ v, e = .returned v) ∧ ((∃ ys, ys = bwd s s.length ∧ J ys W') ∨ (∃ pre, pre <+: bwd s s.length ∧ Jx pre W')) := by
  have hw : ∀ j, j < s.length → ∃ ab ao, a = some ⟨ab, ao, none⟩ ∧ ab < n₀ ∧ W.cell? ⟨ab, ao + j, none⟩ = some (.bool ((s[j]?).getD false)) := fun j hj => by
    obtain ⟨ab, ao, rfl, _, hc⟩ := hs.at j s[j] (List.getElem?_eq_getElem hj)
    exact ⟨ab, ao, rfl, hb ab ao rfl (by rintro rfl; simp at hj), by rw [hc]; simp [List.getElem?_eq_getElem hj]⟩
  have c0 := hBs.cell
  have HY := Lib.hid hY
  have HW := Lib.hid hw
  have HBX := Lib.hid hBs
  have HJ := Lib.hid h0
  obtain ⟨L, hL⟩ : ∃ L, L = s.length := ⟨_, rfl⟩
  rw [← hL] at HY HW HBX hsl c0 ⊢
  have HL := Lib.hid hL
  clear hY hw hBs h0 hs hb hL
  refine callsIn_of_wp Tryd.func58 rfl trivial ?_ rfl
  simp only [Tryd.ntmps58, List.size_toArray, List.length_cons, List.length_nil, Nat.reduceAdd, Nat.reduceSub, Array.replicate_succ, Array.replicate_zero, List.push_toArray, List.append_toArray, List.nil_append, List.cons_append]
  gi_wp2
  clear c0
  gi_loopw [3] (fun i wr => ∃ (m : Nat) (z : Int), m ≤ L ∧ i = .int .i64 z ∧ Hid (z = (m : Int) - 1) ∧ Hid (J (bwd s (L - m)) wr) ∧ Hid (KpB n₀ Bs W wr)) (fun i _ => (intOf i + 1).toNat)
  case atStart => exact ⟨L, (L : Int) - 1, Nat.le_refl _, rfl, Lib.hid rfl, Lib.hid (by rw [Nat.sub_self]; exact HJ.out), Lib.hid (KpB.refl _ _ _)⟩
  case round =>
    clear HJ
    obtain ⟨m, z, hm, rfl, HZ, HJ, HK⟩ := hrel
    have c0 := Boxed.cell (HK.out.box _ HBX.out)
    cases m with
    | zero =>
      obtain rfl : z = -1 := by have := HZ.out; omega
      clear c0
      gi_wp2
      go_end0
      exact ⟨⟨_, rfl⟩, .inl ⟨_, rfl, HJ.out⟩⟩
    | succ j =>
      obtain rfl : z = (j : Int) := by have := HZ.out; omega
      obtain ⟨ab, ao, ha, hab, hc⟩ := HW.out j (by omega)
      subst ha
      have c1 := (HK.out.below.cell (p := ⟨ab, ao + j, none⟩) hab).trans hc
      obtain ⟨b, hbv⟩ : ∃ b, b = (s[j]?).getD false := ⟨_, rfl⟩
      rw [← hbv] at c1 hc
      have HX := Lib.hid (show bwd s (L - j) = bwd s (L - (j + 1)) ++ [(j, b)] by
        rw [show L - j = L - (j + 1) + 1 by omega, bwd_succ, ← HL.out, show L - 1 - (L - (j + 1)) = j by omega, hbv])
      obtain ⟨fn, tmps, assign, body, hy, hR⟩ := HY.out (bwd s (L - (j + 1))) (j, b) wr HJ.out (by rw [bwd_len]; omega)
      dsimp only at hy
      have hjI : (j : Int) < (L : Int) := by omega
      have HM := Lib.hid hm
      clear hbv hc HW hab
      gi_wp2
      refine ⟨fun h => (by cases h), ?_⟩
      refine hR.mono ?_
      rintro e W3 (⟨rfl, hJ3, hk3⟩ | ⟨rfl, hJx3⟩)
      · have HJ3 := Lib.hid hJ3
        have HK3 := Lib.hid (HK.out.trans hk3)
        clear hJ3 hk3 hR hy c0 c1
        gi_wp2
        go_roundw
        case rel => exact ⟨j, (j : Int) - 1, by omega, by go_num, Lib.hid rfl, Lib.hid (by rw [HX.out]; exact HJ3.out), HK3⟩
        case measure => simp [intOf]
      · have HJ3 := Lib.hid hJx3
        clear hJx3 hR hy c0 c1
        gi_wp2
        refine bodyPost_ret (results_none rfl _ _ _) rfl ?_
        exact ⟨⟨_, rfl⟩, .inr ⟨_, by rw [← HX.out]; exact bwd_pre s (by have := HL.out; omega), HJ3.out⟩⟩
end Go.Proofs.YtadolfacjolbkaaDoor
