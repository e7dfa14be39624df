/- readWord, appendWord: a number as four bytes. -/
import Derived.Test.YtfdjmfomccckaaaDoorSumC
namespace Go.Proofs.YtfdjmfomccckaaaDoor
open Go.RowKit
set_option maxRecDepth 100000
theorem or_add (a b i : Nat) (h : b < 2 ^ i) : a * 2 ^ i ||| b = a * 2 ^ i + b := by
  rw [Nat.mul_comm]; exact (Nat.two_pow_add_eq_or_of_lt h a).symm
theorem or4 (a b c d : Nat) (ha : a < 256) (hb : b < 256) (hc : c < 256) (hd : d < 256) :
    bits .or .u32 (bits .or .u32 (bits .or .u32 ((a : Int) * 16777216) ((b : Int) * 65536)) ((c : Int) * 256)) (d : Int) = ((a * 16777216 + b * 65536 + c * 256 + d : Nat) : Int) := by
  have e1 := u32_or_nat (a * 16777216) (b * 65536) (by omega) (by omega)
  have o1 := or_add a (b * 65536) 24 (by omega)
  rw [show (2 : Nat) ^ 24 = 16777216 from rfl] at o1
  rw [o1] at e1
  have e2 := u32_or_nat (a * 16777216 + b * 65536) (c * 256) (by omega) (by omega)
  have o2 := or_add (a * 256 + b) (c * 256) 16 (by omega)
  rw [show (2 : Nat) ^ 16 = 65536 from rfl, show (a * 256 + b) * 65536 = a * 16777216 + b * 65536 by omega] at o2
  rw [o2] at e2
  have e3 := u32_or_nat (a * 16777216 + b * 65536 + c * 256) d (by omega) (by omega)
  have o3 := or_add (a * 65536 + b * 256 + c) d 8 (by omega)
  rw [show (2 : Nat) ^ 8 = 256 from rfl, show (a * 65536 + b * 256 + c) * 256 = a * 16777216 + b * 65536 + c * 256 by omega] at o3
  rw [o3] at e3
  rw [show ((a : Int) * 16777216) = ((a * 16777216 : Nat) : Int) by omega, show ((b : Int) * 65536) = ((b * 65536 : Nat) : Int) by omega, show ((c : Int) * 256) = ((c * 256 : Nat) : Int) by omega, e1, e2, e3]
set_option maxHeartbeats 1000000 in
theorem readw_any (y : Value) (ys : List Int) (w : World) (hy : BytesIn w y ys) (ho : bytesOk ys) (hl : 4 ≤ ys.length) :
    Calls Tryd.prog 22 #[y] w fun e w' => e = .returned (.int .u32 ((rdW ys : Nat) : Int)) ∧ ∃ n, w' = w.drewN n := by
  obtain ⟨a, c, rfl, hc, hm, hx⟩ := hy
  rcases hx with h0 | ⟨ab, ao, rfl, hx⟩
  · rw [h0] at hl; simp at hl
  have g : ∀ i, i < ys.length → ∃ z : Nat, z < 256 ∧ ys.getD i 0 = (z : Int) ∧ w.cell? ⟨ab, ao + i, none⟩ = some (.int .u8 (z : Int)) := fun i hi => by
    have h1 := ho _ (List.getElem_mem hi)
    refine ⟨ys[i].toNat, by omega, by simp [List.getD, List.getElem?_eq_getElem hi]; omega, ?_⟩
    rw [show ((ys[i].toNat : Nat) : Int) = ys[i] by omega]
    exact hx i _ (List.getElem?_eq_getElem hi)
  obtain ⟨z0, b0, g0, c0⟩ := g 0 (by omega)
  obtain ⟨z1, b1, g1, c1⟩ := g 1 (by omega)
  obtain ⟨z2, b2, g2, c2⟩ := g 2 (by omega)
  obtain ⟨z3, b3, g3, c3⟩ := g 3 (by omega)
  have HR := Lib.hid (show rdW ys = z0 * 16777216 + z1 * 65536 + z2 * 256 + z3 by unfold rdW; rw [g0, g1, g2, g3]; rfl)
  have q0 : (0 : Int) < ys.length := by omega
  have q1 : (1 : Int) < ys.length := by omega
  have q2 : (2 : Int) < ys.length := by omega
  have q3 : (3 : Int) < ys.length := by omega
  rw [Nat.add_zero] at c0
  have m0 : 0 < ys.length := by omega
  have m1 : 1 < ys.length := by omega
  have m2 : 2 < ys.length := by omega
  have m3 : 3 < ys.length := by omega
  clear g g0 g1 g2 g3 hx ho hc hm
  go_enter Tryd.func22, Tryd.ntmps22
  go_wp2
  go_quiet (fail)
  go_wp2
  go_ret
  refine ⟨?_, _, rfl⟩
  rw [HR.out, ← or4 z0 z1 z2 z3 b0 b1 b2 b3]
  rfl
theorem lit4_in (w : World) (a b c d : Int) : BytesIn (w.alloc (.cells #[.int .u8 a, .int .u8 b, .int .u8 c, .int .u8 d] 5)) (.slice (some ⟨w.heap.size, 0, none⟩) 4 4) [a, b, c, d] := by
  refine ⟨_, _, rfl, by simp, by simp [maxLen], .inr ⟨_, _, rfl, fun i x hi => ?_⟩⟩
  rw [Nat.zero_add, cell_of_row _ _ _ _ _ _ (heap_alloc_new w _)]
  match i, hi with
  | 0, hi => cases hi; rfl
  | 1, hi => cases hi; rfl
  | 2, hi => cases hi; rfl
  | 3, hi => cases hi; rfl
theorem grown_alloc {w w' : World} {o : Obj} {r : Option Nat} (h : (w.alloc o).grownBy w' r) : w.grownBy w' r :=
  ⟨h.os, h.tape, h.output, Nat.le_trans (by simp) h.size, fun k hk hne => (h.block k (by simp; omega) hne).trans (Below.heap_alloc w o k hk)⟩
theorem OwnOf.alloc {v v' : Value} {w : World} {o : Obj} (h : OwnOf v v' (w.alloc o)) : OwnOf v v' w := by
  rcases h with h | ⟨k, h1, h2⟩
  · exact .inl h
  · exact .inr ⟨k, h1, by simp at h2; omega⟩
theorem wordI (m : Nat) (h : m < 4294967296) : [(m : Int) / 16777216, (m : Int) / 65536 % 256, (m : Int) / 256 % 256, (m : Int) % 256] = wordL m := by
  unfold wordL
  rw [Nat.mod_eq_of_lt (show m / 16777216 < 256 by omega), Int.natCast_ediv, Int.natCast_emod, Int.natCast_ediv, Int.natCast_emod, Int.natCast_ediv, Int.natCast_emod]
  rfl
set_option maxHeartbeats 1000000 in
theorem appw_any (v : Value) (base n m : Nat) (vs : List Value) (w : World) (hown : w.ownsRow base 5 1 v n vs) (hm : m < 4294967296) (hl : n + 4 ≤ 140737488355328) (hb : base ≤ w.heap.size) :
    Calls Tryd.prog 20 #[v, .int .u32 (m : Int)] w fun e w' => ∃ v', e = .returned v' ∧ w'.ownsRow base 5 1 v' (n + 4) (vs ++ byteVals (wordL m)) ∧ w.grownBy w' v.ownBlock ∧ OwnOf v v' w := by
  have HO := Lib.hid hown
  have HL := Lib.hid hl
  have HB := Lib.hid hb
  clear hl hb hown
  go_enter Tryd.func20, Tryd.ntmps20
  go_wp2_with (at_builtin; refine wpList_append_bytes rfl (.tmp 5) (.tmp 17) rfl rfl base v n vs rfl (HO.out.alloc _) _ _ rfl (lit4_in _ _ _ _ _) HL.out (Nat.le_trans HB.out (by simp)) ?_; intro v' w1 ho hg hof; have H := Lib.hid (And.intro ho (And.intro (grown_alloc hg) hof.alloc)); clear ho hg hof)
  go_ret
  obtain ⟨h1, h2, h3⟩ := H.out
  rw [wordI m hm] at h1
  exact ⟨_, rfl, h1, h2, h3⟩
end Go.Proofs.YtfdjmfomccckaaaDoor
