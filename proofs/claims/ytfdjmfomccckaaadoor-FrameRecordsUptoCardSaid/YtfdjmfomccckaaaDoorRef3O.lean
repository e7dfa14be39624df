/- The document's answer: One. -/
import Derived.Test.YtfdjmfomccckaaaDoorRef3F
import Derived.Test.YtfdjmfomccckaaaDoorRowMath
import Derived.Test.YtfdjmfomccckaaaDoorArg

namespace Go.Proofs.YtfdjmfomccckaaaDoor
open Go.RowKit
set_option maxRecDepth 100000
theorem numsOf_str' (xs : List Int) (h : bytesOk xs) : numsOf (strOfNums xs) = xs := numsOf_str xs h
theorem str_inj {xs ys : List Int} (hx : bytesOk xs) (hy : bytesOk ys) (h : strOfNums xs = strOfNums ys) : xs = ys := by
  rw [← numsOf_str' xs hx, ← numsOf_str' ys hy, h]
/-- four bytes as a text against a number -/
theorem word_str (b : List Int) (k t : Nat) (ho : bytesOk b) (hl : k + 4 ≤ b.length) (ht : t < 4294967296) : strOfNums (wordL t) = strOfNums ((b.take (k + 4)).drop k) ↔ rdW (b.drop k) = t := by
  have hlen : ((b.take (k + 4)).drop k).length = 4 := by rw [List.length_drop, List.length_take]; omega
  have hok : bytesOk ((b.take (k + 4)).drop k) := (ho.take _).drop _
  have hsplit : b.drop k = (b.take (k + 4)).drop k ++ b.drop (k + 4) := by
    rw [List.drop_take, Nat.add_sub_cancel_left, ← List.drop_drop, List.take_append_drop]
  constructor
  · intro h
    have h1 := str_inj (wordL_ok t) hok h
    rw [hsplit, ← h1, rdW_app _ _ (wordL_length t), rdW_word t ht]
  · intro h
    rw [hsplit, rdW_app _ _ hlen] at h
    have h1 := rdW_inj (wordL_ok t) hok rfl hlen (by rw [rdW_word t ht, h])
    rw [h1]
theorem str_neq {s u : ByteArray} (h : s ≠ u) : (s.toList == u.toList) = false := by
  rw [beq_eq_false_iff_ne]
  intro e
  rw [ByteArray.toList_eq, ByteArray.toList_eq] at e
  exact h (ByteArray.ext (Array.ext' e))
def ROnePost (y : Value) (b : List Int) (r : Option Nat × List Int) (w : World) (e : Ending) (w' : World) : Prop :=
  Below w.heap.size w w' ∧ match r.1 with
    | some k => e = .returned (.tuple #[.slice none 0 0, .int .i64 0, .int .i64 (k : Int)])
    | none => ∃ a c, e = .returned (.tuple #[.slice a r.2.length c, .int .i64 ((r.2.length + 12 : Nat) : Int), .int .i64 0]) ∧ ∀ W, BytesIn W y b → BytesIn W (.slice a r.2.length c) r.2
theorem rone_empty (y : Value) (b : List Int) (w : World) (hy : BytesIn w y b) (h : b.length = 0) : Calls Tryd.prog 11 #[y] w (ROnePost y b (some 8, []) w) := by
  obtain ⟨a, c, rfl, _, _, _⟩ := hy
  obtain rfl : b = [] := List.eq_nil_of_length_eq_zero h
  clear h
  go_enter Tryd.func11, Tryd.ntmps11
  go_wp2
  go_ret3
  exact ⟨Below.refl _ _, rfl⟩
theorem rone_short (y : Value) (b : List Int) (w : World) (hy : BytesIn w y b) (h0 : b.length ≠ 0) (h : b.length < 8) : Calls Tryd.prog 11 #[y] w (ROnePost y b (some 12, []) w) := by
  obtain ⟨a, c, rfl, _, _, _⟩ := hy
  have n1 : ¬ b.length = 0 := h0
  have n2 : (b.length : Int) < 8 := by omega
  clear h0
  go_enter Tryd.func11, Tryd.ntmps11
  go_wp2
  go_ret3
  exact ⟨Below.refl _ _, rfl⟩
/-- the cells of the first four bytes -/
theorem four_cells {w : World} {a : Option Addr} {n c : Nat} {b : List Int} (hy : BytesIn w (.slice a n c) b) (ho : bytesOk b) (hl : 4 ≤ b.length) :
    ∃ ab ao z0 z1 z2 z3, a = some ⟨ab, ao, none⟩ ∧ z0 < 256 ∧ z1 < 256 ∧ z2 < 256 ∧ z3 < 256 ∧ rdW b = z0 * 16777216 + z1 * 65536 + z2 * 256 + z3 ∧
      w.cell? ⟨ab, ao, none⟩ = some (.int .u8 (z0 : Nat)) ∧ w.cell? ⟨ab, ao + 1, none⟩ = some (.int .u8 (z1 : Nat)) ∧ w.cell? ⟨ab, ao + 2, none⟩ = some (.int .u8 (z2 : Nat)) ∧ w.cell? ⟨ab, ao + 3, none⟩ = some (.int .u8 (z3 : Nat)) := by
  rcases hy.cell.2 with h0 | ⟨ab, ao, rfl, hx⟩
  · rw [h0] at hl; simp at hl
  have g : ∀ i, i < b.length → ∃ z : Nat, z < 256 ∧ b.getD i 0 = (z : Int) ∧ w.cell? ⟨ab, ao + i, none⟩ = some (.int .u8 (z : Int)) := fun i hi => by
    have h1 := ho _ (List.getElem_mem hi)
    refine ⟨b[i].toNat, by omega, by simp [List.getD, List.getElem?_eq_getElem hi]; omega, ?_⟩
    rw [show ((b[i].toNat : Nat) : Int) = b[i] by omega]
    exact hx i _ (List.getElem?_eq_getElem hi)
  obtain ⟨z0, b0, g0, c0⟩ := g 0 (by omega)
  obtain ⟨z1, b1, g1, c1⟩ := g 1 (by omega)
  obtain ⟨z2, b2, g2, c2⟩ := g 2 (by omega)
  obtain ⟨z3, b3, g3, c3⟩ := g 3 (by omega)
  exact ⟨ab, ao, z0, z1, z2, z3, rfl, b0, b1, b2, b3, by unfold rdW; rw [g0, g1, g2, g3]; rfl, c0, c1, c2, c3⟩
set_option maxHeartbeats 4000000 in
theorem rone_head (y : Value) (b : List Int) (w : World) (hy : BytesIn w y b) (ho : bytesOk b) (h8 : 8 ≤ b.length) (hl : b.length ≤ 140737488355328)
    (h : rdW (b.drop 4) ≠ crcF (b.take 4) ∨ rdW b = 0 ∨ 1048576 < rdW b) : Calls Tryd.prog 11 #[y] w (ROnePost y b (some 11, []) w) := by
  obtain ⟨a, c, rfl, hc, hm, hx⟩ := id hy
  have n1 : ¬ b.length = 0 := by omega
  have n2 : ¬ (b.length : Int) < 8 := by omega
  have s1 : ∀ w, (Instr.slice 22 (.slice a b.length c) (some (.int .i64 4)) (some (.int .i64 8)) none).run Tryd.prog w = .ok (.slice (cutA a c 4) 4 (c - 4)) w := sliceBlh a b.length c 4 8 (by omega) (by omega)
  have s2 : ∀ w, (Instr.slice 22 (.slice a b.length c) none (some (.int .i64 4)) none).run Tryd.prog w = .ok (.slice (cutA a c 0) 4 c) w := sliceBhi a b.length c 4 (by omega)
  have Y1 := Lib.hid (show BytesIn w (.slice (cutA a c 4) 4 (c - 4)) ((b.take 8).drop 4) from hy.cut 4 8 (by omega) (by omega))
  have Y2 := Lib.hid (hy.upto 4 (by omega))
  have C2 := Lib.hid (fun W (hw : BytesIn W (.slice (cutA a c 0) 4 c) (b.take 4)) => sumr_any _ (b.take 4) W hw (ho.take 4) (by rw [List.length_take]; omega))
  have HS := Lib.hid (word_str b 4 (crcF (b.take 4)) ho (by omega) (crcF_lt (ho.take 4)))
  have HCL := Lib.hid (crcF_lt (ho.take 4))
  obtain ⟨ab, ao, z0, z1, z2, z3, rfl, b0, b1, b2, b3, hN, c0, c1, c2, c3⟩ := four_cells hy ho (by omega)
  have HN := Lib.hid hN
  have q1 : (1 : Int) < b.length := by omega
  have q2 : (2 : Int) < b.length := by omega
  have q3 : (3 : Int) < b.length := by omega
  have m0 : 0 < b.length := by omega
  have m1 : 1 < b.length := by omega
  have m2 : 2 < b.length := by omega
  have m3 : 3 < b.length := by omega
  have p0 : IntKind.i64.wrap ((z0 : Int) * 16777216) = (z0 : Int) * 16777216 := IntWalk.i64_in _ (by omega)
  have p1 : IntKind.i64.wrap ((z1 : Int) * 65536) = (z1 : Int) * 65536 := IntWalk.i64_in _ (by omega)
  have p2 : IntKind.i64.wrap ((z2 : Int) * 256) = (z2 : Int) * 256 := IntWalk.i64_in _ (by omega)
  have p3 : IntKind.i64.wrap ((z0 : Int) * 16777216 + (z1 : Int) * 65536) = (z0 : Int) * 16777216 + (z1 : Int) * 65536 := IntWalk.i64_in _ (by omega)
  have p4 : IntKind.i64.wrap ((z0 : Int) * 16777216 + (z1 : Int) * 65536 + (z2 : Int) * 256) = (z0 : Int) * 16777216 + (z1 : Int) * 65536 + (z2 : Int) * 256 := IntWalk.i64_in _ (by omega)
  have p5 : IntKind.i64.wrap ((z0 : Int) * 16777216 + (z1 : Int) * 65536 + (z2 : Int) * 256 + (z3 : Int)) = (rdW b : Int) := by rw [hN, IntWalk.i64_in _ (by omega)]; omega
  generalize rdW (b.drop 4) = s at *
  generalize crcF (b.take 4) = t at *
  clear ho hx hm hc hN
  generalize rdW b = n at *
  by_cases hst : s = t
  · have heq : strOfNums (wordL t) = strOfNums ((b.take 8).drop 4) := HS.out.2 hst
    have hS0 := fun W (hy : BytesIn W (.slice (cutA (some ⟨ab, ao, none⟩) c 4) 4 (c - 4)) ((b.take 8).drop 4)) => conv_bytes W _ _ hy
    rw [← heq] at hS0
    have HSC := Lib.hid hS0
    have hne : ((strOfNums (wordL t)).toList == (strOfNums (wordL t)).toList) = true := by simp
    have HW4 := Lib.hid (fun (W : World) v hv => conv_bytes W v (wordL t) hv)
    clear heq
    generalize strOfNums (wordL t) = sB at *
    by_cases hz : n = 0
    · have hz' : ((n : Int) == 0) = true := by rw [hz]; rfl
      clear h hz
      go_enter Tryd.func11, Tryd.ntmps11
      go_wp2
      go_quiet (fail)
      have HB := Lib.hid (show Below w.heap.size w (w.drewN nq).drew from ⟨rfl, rfl, rfl, Nat.le_refl _, fun _ _ => rfl⟩)
      replace Y1 := Lib.hid (show BytesIn (w.drewN nq).drew _ _ from Y1.out)
      replace Y2 := Lib.hid (show BytesIn (w.drewN nq).drew _ _ from Y2.out)
      replace hS0 : (convert 22 9 (.slice (cutA (some ⟨ab, ao, none⟩) c 4) 4 (c - 4))).run Tryd.prog (w.drewN nq).drew = .ok (.string sB) (w.drewN nq).drew := hS0 _ Y1.out
      clear c0 c1 c2 c3 q1 q2 q3 m0 m1 m2 m3 p0 p1 p2 p3 p4 p5 b0 b1 b2 b3
      generalize w.drewN nq = w1 at *
      have HQ := Lib.hid (Below.refl w1.drew.heap.size w1.drew)
      go_wp2_with (fail)
      first
        | (go_region_held (fun w => (convert 22 9 (.slice (cutA (some ⟨ab, ao, none⟩) c 4) 4 (c - 4))).run Tryd.prog w = .ok (.string sB) w)
            (exact hS0)
            (first
          | (go_at_call 18; (with_reducible refine (C2.out _ (Y2.out.below HQ.out)).mono ?_); rintro e w3 ⟨rfl, rfl⟩)
          | (go_at_call 21; (with_reducible refine (four_any t _ HCL.out).mono ?_); rintro e w3 ⟨v3, rfl, ho3, hb3⟩; have hcv3 := HW4.out w3 v3 (owns_in ho3 (by unfold maxLen; rw [wordL_length]; omega)); replace HQ := Lib.hid (HQ.out.trans (hb3.mono HQ.out.size)); have hS0 := HSC.out w3 (Y1.out.below HQ.out); clear ho3 hb3)))
        | fail
      all_goals
        go_wp2_with (fail)
        go_ret3
        exact ⟨HB.out.trans (HQ.out.mono HB.out.size), rfl⟩
    · have hz' : ((n : Int) == 0) = false := by simp; omega
      have hg : decide ((1048576 : Int) < (n : Int)) = true := by simp; omega
      clear h hz
      go_enter Tryd.func11, Tryd.ntmps11
      go_wp2
      go_quiet (fail)
      have HB := Lib.hid (show Below w.heap.size w (w.drewN nq).drew from ⟨rfl, rfl, rfl, Nat.le_refl _, fun _ _ => rfl⟩)
      replace Y1 := Lib.hid (show BytesIn (w.drewN nq).drew _ _ from Y1.out)
      replace Y2 := Lib.hid (show BytesIn (w.drewN nq).drew _ _ from Y2.out)
      replace hS0 : (convert 22 9 (.slice (cutA (some ⟨ab, ao, none⟩) c 4) 4 (c - 4))).run Tryd.prog (w.drewN nq).drew = .ok (.string sB) (w.drewN nq).drew := hS0 _ Y1.out
      clear c0 c1 c2 c3 q1 q2 q3 m0 m1 m2 m3 p0 p1 p2 p3 p4 p5 b0 b1 b2 b3
      generalize w.drewN nq = w1 at *
      have HQ := Lib.hid (Below.refl w1.drew.heap.size w1.drew)
      go_wp2_with (fail)
      first
        | (go_region_held (fun w => (convert 22 9 (.slice (cutA (some ⟨ab, ao, none⟩) c 4) 4 (c - 4))).run Tryd.prog w = .ok (.string sB) w)
            (exact hS0)
            (first
          | (go_at_call 18; (with_reducible refine (C2.out _ (Y2.out.below HQ.out)).mono ?_); rintro e w3 ⟨rfl, rfl⟩)
          | (go_at_call 21; (with_reducible refine (four_any t _ HCL.out).mono ?_); rintro e w3 ⟨v3, rfl, ho3, hb3⟩; have hcv3 := HW4.out w3 v3 (owns_in ho3 (by unfold maxLen; rw [wordL_length]; omega)); replace HQ := Lib.hid (HQ.out.trans (hb3.mono HQ.out.size)); have hS0 := HSC.out w3 (Y1.out.below HQ.out); clear ho3 hb3)))
        | fail
      all_goals
        go_wp2_with (fail)
        go_ret3
        exact ⟨HB.out.trans (HQ.out.mono HB.out.size), rfl⟩
  · have hne0 : strOfNums (wordL t) ≠ strOfNums ((b.take 8).drop 4) := fun e => hst (HS.out.1 e)
    have hS0 := fun W (hy : BytesIn W (.slice (cutA (some ⟨ab, ao, none⟩) c 4) 4 (c - 4)) ((b.take 8).drop 4)) => conv_bytes W _ _ hy
    have hne := str_neq hne0
    have HW4 := Lib.hid (fun (W : World) v hv => conv_bytes W v (wordL t) hv)
    clear hne0
    generalize strOfNums ((b.take 8).drop 4) = sB at *
    generalize strOfNums (wordL t) = sA at *
    have HSC := Lib.hid hS0
    clear h
    go_enter Tryd.func11, Tryd.ntmps11
    go_wp2
    go_quiet (fail)
    have HB := Lib.hid (show Below w.heap.size w (w.drewN nq).drew from ⟨rfl, rfl, rfl, Nat.le_refl _, fun _ _ => rfl⟩)
    replace Y1 := Lib.hid (show BytesIn (w.drewN nq).drew _ _ from Y1.out)
    replace Y2 := Lib.hid (show BytesIn (w.drewN nq).drew _ _ from Y2.out)
    replace hS0 : (convert 22 9 (.slice (cutA (some ⟨ab, ao, none⟩) c 4) 4 (c - 4))).run Tryd.prog (w.drewN nq).drew = .ok (.string sB) (w.drewN nq).drew := hS0 _ Y1.out
    clear c0 c1 c2 c3 q1 q2 q3 m0 m1 m2 m3 p0 p1 p2 p3 p4 p5 b0 b1 b2 b3
    generalize w.drewN nq = w1 at *
    have HQ := Lib.hid (Below.refl w1.drew.heap.size w1.drew)
    go_wp2_with (fail)
    first
      | (go_region_held (fun w => (convert 22 9 (.slice (cutA (some ⟨ab, ao, none⟩) c 4) 4 (c - 4))).run Tryd.prog w = .ok (.string sB) w)
          (exact hS0)
          (first
        | (go_at_call 18; (with_reducible refine (C2.out _ (Y2.out.below HQ.out)).mono ?_); rintro e w3 ⟨rfl, rfl⟩)
        | (go_at_call 21; (with_reducible refine (four_any t _ HCL.out).mono ?_); rintro e w3 ⟨v3, rfl, ho3, hb3⟩; have hcv3 := HW4.out w3 v3 (owns_in ho3 (by unfold maxLen; rw [wordL_length]; omega)); replace HQ := Lib.hid (HQ.out.trans (hb3.mono HQ.out.size)); have hS0 := HSC.out w3 (Y1.out.below HQ.out); clear ho3 hb3)))
      | fail
    all_goals
      go_wp2_with (fail)
      go_ret3
      exact ⟨HB.out.trans (HQ.out.mono HB.out.size), rfl⟩
end Go.Proofs.YtfdjmfomccckaaaDoor
