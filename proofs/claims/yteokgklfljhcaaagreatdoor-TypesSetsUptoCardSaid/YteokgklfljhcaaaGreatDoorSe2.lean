/- Part 2 of the proof. -/
import Derived.Laws.IdiomStrings
import Derived.Test.YteokgklfljhcaaaGreatDoorSe1
namespace Go.Proofs.YteokgklfljhcaaaGreatDoor
set_option linter.unusedVariables false
set_option linter.unusedSimpArgs false
open Go.RowKit
set_option maxRecDepth 100000
/-- the bytes of a string -/
def numsOf (s : ByteArray) : List Int := s.data.toList.map fun b => (b.toNat : Int)
theorem numsOf_length (s : ByteArray) : (numsOf s).length = s.size := by unfold numsOf; rw [List.length_map]; rfl
/-- the world behind []byte(s) -/
def bytesW (w : World) (s : ByteArray) : World := w.drew.alloc (.cells (bytesRow s (grownCap w s.size 0 5)) 5 ((bytesRow s (grownCap w s.size 0 5)).size, (bytesRow s (grownCap w s.size 0 5)).size + 1))
theorem bytesW_in (w : World) (s : ByteArray) (hs : s.size ≤ maxLen) : BytesIn (bytesW w s) (.slice (some ⟨w.heap.size, 0, none⟩) s.size (grownCap w s.size 0 5)) (numsOf s) := by
  refine ⟨_, _, by rw [numsOf_length], by rw [numsOf_length]; exact grownCap_ge _ _ _ _, by rw [numsOf_length]; exact hs, .inr ⟨_, 0, rfl, fun i x hi => ?_⟩⟩
  have hil : i < s.size := by rw [← numsOf_length]; exact (List.getElem?_eq_some_iff.1 hi).1
  unfold bytesW
  rw [Nat.zero_add]
  have := cell_of_row (w.drew.alloc (.cells (bytesRow s (grownCap w s.size 0 5)) 5 ((bytesRow s (grownCap w s.size 0 5)).size, (bytesRow s (grownCap w s.size 0 5)).size + 1))) w.heap.size i _ _ _ (heap_alloc_new w.drew _)
  rw [this]
  unfold bytesRow
  rw [Array.getElem?_append_left (by rw [Array.size_map]; exact hil), Array.getElem?_map]
  simp only [numsOf, List.getElem?_map, Array.getElem?_toList] at hi
  cases hb : s.data[i]? with
  | none => rw [hb] at hi; cases hi
  | some b => rw [hb] at hi; cases hi; rfl
theorem bytesW_below (w : World) (s : ByteArray) : Below w.heap.size w (bytesW w s) := ((Below.refl _ w).drew).alloc (Nat.le_refl _) _
theorem conv_bytes (w : World) (v : Value) (l : List Int) (h : BytesIn w v l) : (convert 39 9 v).run Tryz.prog w = .ok (.string (strOfNums l)) w := by
  obtain ⟨a, c, rfl, hc, hm, hx⟩ := h
  cases a with
  | none =>
    have hn : l = [] := by
      rcases hx with hx | ⟨_, _, h, _⟩
      · exact hx
      · cases h
    subst hn
    exact run_convert_bytes_nil w 39 5 Tryz.underlying39 Tryz.underlying5 _ _ 9 Tryz.underlying9
  | some ad =>
    rcases hx with rfl | ⟨ab, ao, e, hx1⟩
    · rw [List.length_nil, run_convert_bytes_string w 39 9 5 _ 0 c Tryz.underlying39 Tryz.underlying5 Tryz.underlying9, run_bytesToString w ad 0 c [] (run_loadCells_list (P := Tryz.prog) w ad [] (fun j v hj => by simp at hj))]
      rfl
    · injection e with e; subst e
      refine run_convert_bytes_arg w 39 5 Tryz.underlying39 Tryz.underlying5 ab ao l.length c l rfl (fun i hi => ?_) 9 Tryz.underlying9
      rw [List.getD, List.getElem?_eq_getElem hi]
      exact hx1 i _ (List.getElem?_eq_getElem hi)
theorem size_alloc (w : World) (o : Obj) : (w.alloc o).heap.size = w.heap.size + 1 := by simp
end Go.Proofs.YteokgklfljhcaaaGreatDoor
namespace Go.Proofs.YteokgklfljhcaaaGreatDoor
set_option linter.unusedVariables false
set_option linter.unusedSimpArgs false
open Go.RowKit
set_option maxRecDepth 100000
/-- the array of y is neither the Writer nor the Writer's -/
def Apart (p : Nat) (v y : Value) : Prop := ∀ k, y.ownBlock = some k → k ≠ p ∧ some k ≠ v.ownBlock
theorem BytesIn.step {p : Nat} {v v' y : Value} {ys : List Int} {w w' : World} (h : BytesIn w y ys) (hs : WStep p v v' w w') (ha : ys ≠ [] → Apart p v y) : BytesIn w' y ys := by
  obtain ⟨a, c, rfl, hc, hm, hx⟩ := h
  refine ⟨a, c, rfl, hc, hm, ?_⟩
  by_cases hne : ys = []
  · exact .inl hne
  · obtain ⟨ab, ao, rfl, hx1⟩ := hx.resolve_left hne
    obtain ⟨h1, h2⟩ := ha hne ab rfl
    exact .inr ⟨ab, ao, rfl, fun i x hi => (World.cell?_of_block (w := w) (hs.block ab (World.block_lt_of_cell? w _ (hx1 i x hi)) h1 h2)).trans (hx1 i x hi)⟩
set_option maxRecDepth 100000 in
set_option maxHeartbeats 400000 in
theorem wbytes_any (p : Nat) (v y : Value) (xs ys : List Int) (w : World) (hw : WAt w p v xs) (hy : BytesIn w y ys) (ha : ys ≠ [] → Apart p v y) (hl : xs.length + ys.length + 10 ≤ 140737488355328) :
    Calls Tryz.prog 149 #[.pointer (some ⟨p, 0, none⟩), y] w (WPost p v xs (varint ys.length ++ ys) w) := by
  have HW := Lib.hid hw
  have HY := Lib.hid hy
  have HA := Lib.hid ha
  have HL := Lib.hid hl
  have hlt : ys.length < 18446744073709551616 := by omega
  have HG := Lib.hid (glen_le hlt)
  obtain ⟨a, c, rfl, hc, hm, hx⟩ := hy
  clear hw ha hl hc hm hx
  have HLT := Lib.hid hlt
  unfold WPost
  go_enter Tryz.func149, Tryz.ntmps149
  go_wp2_with (first
    | (go_at_call 148; (with_reducible refine (wuint_any p v xs ys.length _ HW.out HLT.out (by have := HL.out; omega)).mono ?_); rintro e w1 ⟨rfl, v', ho, hb⟩; have H1 := Lib.hid ho; have HS1 := Lib.hid hb; clear ho hb)
    | (go_at_call 150; (with_reducible refine (add_any p v' _ (xs ++ varint ys.length) ys _ H1.out (HY.out.step HS1.out HA.out) (by have := HL.out; have := HG.out; rw [List.length_append, varint_length]; omega)).mono ?_); rintro e w2 ⟨rfl, v2, ho, hb⟩; have H2 := Lib.hid ho; have HS2 := Lib.hid hb; clear ho hb))
  go_ret
  exact ⟨rfl, v2, by rw [← List.append_assoc]; exact H2.out, HS1.out.trans HS2.out⟩
set_option maxRecDepth 100000 in
set_option maxHeartbeats 400000 in
theorem wtext_any (p : Nat) (v : Value) (s : ByteArray) (xs : List Int) (w : World) (hw : WAt w p v xs) (hl : xs.length + s.size + 10 ≤ 140737488355328) :
    Calls Tryz.prog 111 #[.pointer (some ⟨p, 0, none⟩), .string s] w (WPost p v xs (varint s.size ++ numsOf s) w) := by
  have HB := Lib.hid (bytesW_below w s)
  have HW := Lib.hid (hw.below HB.out)
  have HY := Lib.hid (bytesW_in w s (by unfold maxLen; omega))
  have HA := Lib.hid (show numsOf s ≠ [] → Apart p v (.slice (some ⟨w.heap.size, 0, none⟩) s.size (grownCap w s.size 0 5)) from fun _ k hk => by
    simp [Value.ownBlock] at hk
    subst hk
    have := hw.lt
    exact ⟨by omega, fun e => by have := hw.ne _ e.symm; omega⟩)
  have HL := Lib.hid hl
  have hcv : ∀ w : World, (convert 9 39 (.string s)).run Tryz.prog w = .ok (.slice (some ⟨w.heap.size, 0, none⟩) s.size (grownCap w s.size 0 5)) (bytesW w s) :=
    fun w => run_bytes_of_string w 9 39 5 s Tryz.underlying9 Tryz.underlying39 Tryz.underlying5
  clear hw hl
  unfold WPost
  go_enter Tryz.func111, Tryz.ntmps111
  go_wp2_with (go_at_call 149; (with_reducible refine (wbytes_any p v _ xs (numsOf s) _ HW.out HY.out HA.out (by have := HL.out; rw [numsOf_length]; omega)).mono ?_); rintro e w1 ⟨rfl, v', ho, hb⟩; have H1 := Lib.hid ho; have HS1 := Lib.hid hb; clear ho hb)
  go_ret
  exact ⟨rfl, v', by have := H1.out; rw [numsOf_length] at this; exact this, (WStep.of_below HB.out).trans HS1.out⟩
/-- '^n' of a number with a sign -/
theorem not_i64 (n : Int) (h0 : -9223372036854775808 ≤ n) (h1 : n ≤ 9223372036854775807) : bits .xor .i64 (-1) n = -n - 1 := by
  show IntKind.i64.wrap ((BitVec.ofInt 64 (-1) ^^^ BitVec.ofInt 64 n).toNat : Int) = _
  have e1 : BitVec.ofInt 64 (-1) = BitVec.allOnes 64 := by decide
  have e2 : (BitVec.ofInt 64 n).toNat = (n % 18446744073709551616).toNat := by rw [BitVec.toNat_ofInt]; rfl
  rw [e1, BitVec.allOnes_xor, BitVec.toNat_not, e2, IntKind.wrap_i64]
  omega
/-- how a number with a sign becomes one without -/
def zig (n : Int) : Nat := if n < 0 then (-n).toNat * 2 - 1 else n.toNat * 2
theorem zig_lt {n : Int} (h0 : -9223372036854775808 ≤ n) (h1 : n ≤ 9223372036854775807) : zig n < 18446744073709551616 := by
  unfold zig; split <;> omega
set_option maxRecDepth 100000 in
set_option maxHeartbeats 400000 in
theorem wint_any (p : Nat) (v : Value) (n : Int) (xs : List Int) (w : World) (hw : WAt w p v xs) (h0 : -9223372036854775808 ≤ n) (h1 : n ≤ 9223372036854775807) (hl : xs.length + 10 ≤ 140737488355328) :
    Calls Tryz.prog 112 #[.pointer (some ⟨p, 0, none⟩), .int .i64 n] w (WPost p v xs (varint (zig n)) w) := by
  have HW := Lib.hid hw
  have HL := Lib.hid hl
  have HZ := Lib.hid (zig_lt h0 h1)
  have H := wuint_any p v xs (zig n) w hw HZ.out hl
  have H0 := Lib.hid H
  clear hw hl H
  unfold WPost at *
  by_cases hn : n < 0
  · have e : ((zig n : Nat) : Int) = 2 * (-n - 1) + 1 := by unfold zig; rw [if_pos hn]; omega
    rw [e] at H0
    go_enter Tryz.func112, Tryz.ntmps112
    go_wp2_with (go_at_call 148; rw [show (if IntKind.i64.signed = true then (-1 : Int) else 9223372036854775807) = -1 by rfl, not_i64 n h0 h1, show IntKind.u64.wrap (IntKind.u64.wrap (2 * IntKind.u64.wrap (-n - 1)) + 1) = 2 * (-n - 1) + 1 by simp only [IntKind.wrap_u64]; omega]; (with_reducible refine H0.out.mono ?_); rintro e w1 ⟨rfl, v', ho, hb⟩; have H1 := Lib.hid ho; have HS1 := Lib.hid hb; clear ho hb)
    go_ret
    exact ⟨rfl, v', H1.out, HS1.out⟩
  · have e : ((zig n : Nat) : Int) = 2 * n := by unfold zig; rw [if_neg hn]; omega
    rw [e] at H0
    go_enter Tryz.func112, Tryz.ntmps112
    go_wp2_with (go_at_call 148; (with_reducible refine H0.out.mono ?_); rintro e w1 ⟨rfl, v', ho, hb⟩; have H1 := Lib.hid ho; have HS1 := Lib.hid hb; clear ho hb)
    go_ret
    exact ⟨rfl, v', H1.out, HS1.out⟩
end Go.Proofs.YteokgklfljhcaaaGreatDoor
namespace Go.Proofs.YteokgklfljhcaaaGreatDoor
set_option linter.unusedVariables false
set_option linter.unusedSimpArgs false
open Go.RowKit
set_option maxRecDepth 100000
/-- what the groups' check answers: the number, how many bytes, the error -/
def chk (n : Nat) (size last most : Nat) : Nat × Nat × Option Nat :=
  if (1 < size ∧ last = 0) ∨ (size = 10 ∧ 1 < last) then (0, 0, some 3) else if most < n then (0, 0, some 4) else (n, size, none)
/-- what varint answers from byte i on -/
def rdFrom (xs : List Int) (most : Nat) : Nat → Nat → Nat × Nat × Option Nat
  | 0, _ => if xs.length < 10 then (0, 0, some 12) else (0, 0, some 3)
  | k + 1, i => if (xs.getD i 0) < 128 then chk (accF xs (i + 1)) (i + 1) (xs.getD i 0).toNat most else rdFrom xs most k (i + 1)
def rdF (xs : List Int) (most : Nat) : Nat × Nat × Option Nat := rdFrom xs most (min xs.length 10) 0
def tripV (r : Nat × Nat × Option Nat) : Value := .tuple #[.int .u64 (r.1 : Int), .int .i64 (r.2.1 : Int), errV r.2.2]
set_option maxRecDepth 100000 in
set_option maxHeartbeats 400000 in
theorem checked_any (n most : Nat) (ab ao size cap : Nat) (last : Nat) (w : World) (hs0 : 0 < size) (hs : size ≤ 10) (hl : last < 256) (hc : w.cell? ⟨ab, ao + (size - 1), none⟩ = some (.int .u8 (last : Int))) :
    Calls Tryz.prog 194 #[.int .u64 (n : Int), .slice (some ⟨ab, ao, none⟩) size cap, .int .u64 (most : Int)] w fun e w' => e = .returned (tripV (chk n size last most)) ∧ w' = w := by
  obtain ⟨s, rfl⟩ : ∃ s, size = s + 1 := ⟨size - 1, by omega⟩
  rw [Nat.add_sub_cancel] at hc
  go_enter Tryz.func194, Tryz.ntmps194
  go_wp2_with (fail)
  all_goals go_ret3
  all_goals refine ⟨?_, rfl⟩
  all_goals (try simp only [beq_eq_false_iff_ne, beq_iff_eq, ne_eq] at *)
  all_goals first
    | (rw [show chk n (s + 1) last most = (0, 0, some 3) by unfold chk; rw [if_pos (by omega)]]; rfl)
    | (rw [show chk n (s + 1) last most = (0, 0, some 4) by unfold chk; rw [if_neg (by omega), if_pos (by omega)]]; rfl)
    | (rw [show chk n (s + 1) last most = (n, s + 1, none) by unfold chk; rw [if_neg (by omega), if_neg (by omega)]]; first | rfl | (have e : s = 9 := (by omega); subst e; rfl))
theorem and128 (b : Nat) (h : b < 256) : bits .andNot .u8 (b : Int) 128 = ((b % 128 : Nat) : Int) := by
  have : ∀ b : Fin 256, bits .andNot .u8 (b.val : Int) 128 = ((b.val % 128 : Nat) : Int) := by decide +kernel
  exact this ⟨b, h⟩
/-- the groups so far, and the next one -/
theorem or_group (a g k : Nat) (ha : a < 128 ^ k) (hk : k ≤ 9) :
    bits .or .u64 (a : Int) ((g * 128 ^ k % 18446744073709551616 : Nat) : Int) = ((a + g * 128 ^ k % 18446744073709551616 : Nat) : Int) := by
  have hp : (128 : Nat) ^ k ≤ 128 ^ 9 := Nat.pow_le_pow_right (by decide) hk
  have h9 : (128 : Nat) ^ 9 = 9223372036854775808 := by decide
  rw [bits_or_u64_nat _ _ (by omega) (by omega)]
  congr 1
  have e : (128 : Nat) ^ k = 2 ^ (7 * k) := by rw [Nat.pow_mul]
  have h64 : (18446744073709551616 : Nat) = 2 ^ (7 * k) * 2 ^ (64 - 7 * k) := by
    rw [← Nat.pow_add, show 7 * k + (64 - 7 * k) = 64 by omega]
  have e2 : g * 128 ^ k % 18446744073709551616 = 2 ^ (7 * k) * (g % 2 ^ (64 - 7 * k)) := by
    rw [h64, e, Nat.mul_comm g, Nat.mul_mod_mul_left]
  rw [e2, Nat.or_comm, Nat.add_comm]
  rw [e] at ha
  exact (Nat.two_pow_add_eq_or_of_lt ha _).symm
theorem acc_step (xs : List Int) (k b : Nat) (hk : k ≤ 9) (hb : xs.getD k 0 = (b : Int)) :
    bits .or .u64 ((accF xs k : Nat) : Int) (IntKind.u64.wrap ((b : Int) % 128 * 2 ^ (7 * k))) = ((accF xs (k + 1) : Nat) : Int) := by
  have h := or_group (accF xs k) (b % 128) k (accF_lt xs k hk) hk
  have e : IntKind.u64.wrap ((b : Int) % 128 * 2 ^ (7 * k)) = ((b % 128 * 128 ^ k % 18446744073709551616 : Nat) : Int) := by
    have e1 : (2 : Int) ^ (7 * k) = ((128 ^ k : Nat) : Int) := by
      rw [Int.pow_mul, Int.natCast_pow]; rfl
    rw [IntKind.wrap_u64, e1, show (b : Int) % 128 = ((b % 128 : Nat) : Int) by omega, ← Int.natCast_mul]
    generalize b % 128 * 128 ^ k = X
    omega
  rw [e, h]
  show _ = ((accF xs k + (xs.getD k 0).toNat % 128 * 128 ^ k % 18446744073709551616 : Nat) : Int)
  rw [hb, Int.toNat_natCast]
theorem rd_step (xs : List Int) (most k b : Nat) (hk : k < min xs.length 10) (hb : xs.getD k 0 = (b : Int)) :
    rdFrom xs most (min xs.length 10 - k) k = if b < 128 then chk (accF xs (k + 1)) (k + 1) b most else rdFrom xs most (min xs.length 10 - (k + 1)) (k + 1) := by
  rw [show min xs.length 10 - k = (min xs.length 10 - (k + 1)) + 1 by omega, rdFrom, hb, Int.toNat_natCast]
  by_cases h : b < 128
  · rw [if_pos h, if_pos (by omega)]
  · rw [if_neg h, if_neg (by omega)]
theorem sliceB_first (ab ao n c q : Nat) (hq : q ≤ c) (w : World) : (Instr.slice 39 (.slice (some ⟨ab, ao, none⟩) n c) none (some (.int .i64 (q : Int))) none).run Tryz.prog w = .ok (.slice (some ⟨ab, ao, none⟩) q c) w := by
  rw [sliceBhi _ _ _ _ hq]
  unfold cutA
  split
  · rfl
  · show Result.ok (Value.slice (some (Addr.add ⟨ab, ao, none⟩ 0)) _ _) w = _
    rw [Addr.add_mid]; rfl
set_option maxRecDepth 100000 in
set_option maxHeartbeats 400000 in
theorem varint_any (v : Value) (xs : List Int) (most : Nat) (w : World) (hx : BytesIn w v xs) (hb : bytesOk xs) :
    Calls Tryz.prog 179 #[v, .int .u64 (most : Int)] w fun e w' => e = .returned (tripV (rdF xs most)) ∧ w' = w := by
  obtain ⟨a, c, rfl, hc, hm, hx⟩ := hx
  have HX := Lib.hid hx
  have HB := Lib.hid hb
  have HC := Lib.hid hc
  have HM := Lib.hid hm
  clear hx hb hc hm
  obtain ⟨m, hm⟩ : ∃ m, m = min xs.length 10 := ⟨_, rfl⟩
  have hmin : ((min xs.length 10 : Nat) : Int) = min (xs.length : Int) 10 := by omega
  have HMM := Lib.hid hm
  clear hm
  go_enter Tryz.func179, Tryz.ntmps179
  go_upto_region 2 with (fail)
  all_goals clear hmin
  all_goals go_loopw [4, 11] (fun n i wr => ∃ k : Nat, k ≤ min xs.length 10 ∧ n = .int .u64 ((accF xs k : Nat) : Int) ∧ i = .int .i64 k ∧ wr = w ∧ rdF xs most = rdFrom xs most (min xs.length 10 - k) k) (fun _ i _ => 10 - (intOf i).toNat)
  case atStart => exact ⟨0, by omega, rfl, rfl, rfl, rfl⟩
  try (case atStart => exact ⟨0, by omega, rfl, rfl, rfl, rfl⟩)
  all_goals obtain ⟨k, hk, rfl, rfl, rfl, hrd⟩ := hrel
  all_goals
    by_cases hlt : k < min xs.length 10
    · obtain ⟨ab, ao, rfl, hcell⟩ := HX.out.resolve_left (by rintro rfl; simp at hlt)
      obtain ⟨b, hb⟩ : ∃ b : Nat, xs[k]? = some (b : Int) ∧ b < 256 := by
        have hk1 : k < xs.length := by omega
        have := HB.out xs[k] (List.getElem_mem hk1)
        exact ⟨xs[k].toNat, by rw [List.getElem?_eq_getElem hk1]; congr 1; omega, by omega⟩
      have hc := hcell k _ hb.1
      have ha := and128 b hb.2
      have hk1 : (k : Int) < xs.length := by omega
      have hk2 : (k : Int) < 10 := by omega
      have hgd : xs.getD k 0 = (b : Int) := by rw [List.getD, hb.1]; rfl
      have hor := acc_step xs k b (by omega) hgd
      have hst := rd_step xs most k b hlt hgd
      have HC' := HC.out
      have hsl := sliceB_first ab ao xs.length c (k + 1) (by omega)
      rw [show ((k + 1 : Nat) : Int) = (k : Int) + 1 by omega] at hsl
      have hck := checked_any (accF xs (k + 1)) most ab ao (k + 1) c b wr (by omega) (by omega) hb.2 (by rw [Nat.add_sub_cancel]; exact hc)
      replace hck := Lib.hid hck
      have HST := Lib.hid (hrd.trans hst)
      clear hst hrd hgd hcell HC'
      have hb2 := hb.2
      clear hb
      generalize hacc : accF xs (k + 1) = acc1 at *
      replace hacc := Lib.hid hacc
      by_cases h128 : b < 128
      · have HR := HST.out
        rw [if_pos h128] at HR
        replace HR := Lib.hid HR
        clear HST
        go_wp2_with (go_at_call 194; (with_reducible refine hck.out.mono ?_); rintro e w2 ⟨rfl, rfl⟩; simp only [tripV])
        go_ret3
        exact ⟨by rw [HR.out]; rfl, rfl⟩
      · have HR := HST.out
        rw [if_neg h128] at HR
        replace HR := Lib.hid HR
        clear HST
        go_wp2_with (fail)
        go_roundw
        case rel => exact ⟨k + 1, by omega, by rw [hacc.out], rfl, trivial, HR.out⟩
        case measure => simp [intOf]; omega
    · have hk1 : ¬ (k : Int) < min (xs.length : Int) 10 := by omega
      have HRD := Lib.hid (show rdF xs most = if xs.length < 10 then (0, 0, some 12) else (0, 0, some 3) by rw [hrd, show min xs.length 10 - k = 0 by omega]; rfl)
      clear hrd HX
      go_wp2_with (fail)
      all_goals go_ret3
      all_goals rw [HRD.out]
      all_goals first
        | (rw [if_pos (by omega)]; exact ⟨rfl, rfl⟩)
        | (rw [if_neg (by omega)]; exact ⟨rfl, rfl⟩)
end Go.Proofs.YteokgklfljhcaaaGreatDoor
namespace Go.Proofs.YteokgklfljhcaaaGreatDoor
set_option linter.unusedVariables false
set_option linter.unusedSimpArgs false
open Go.RowKit
set_option maxRecDepth 100000
/-- block p is a Reader: y are the bytes ys that are left, e its error -/
structure RAt (w : World) (p : Nat) (y : Value) (ys : List Int) (e : Option Nat) : Prop where
  at_ : w.heap[p]? = some (.cells #[y, errV e] 227 (0, 0))
  in_ : BytesIn w y ys
  ok : bytesOk ys
  le : ys.length ≤ 140737488355328
  ne : ∀ k, y.ownBlock = some k → k ≠ p
theorem RAt.lt {w : World} {p : Nat} {y : Value} {ys : List Int} {e : Option Nat} (h : RAt w p y ys e) : p < w.heap.size := (Array.getElem?_eq_some_iff.1 h.at_).1
theorem BytesIn.only {w w' : World} {y : Value} {ys : List Int} {p : Nat} (h : BytesIn w y ys) (ho : Only p w w') (hn : ∀ k, y.ownBlock = some k → k ≠ p) : BytesIn w' y ys := by
  obtain ⟨a, c, rfl, hc, hm, hx⟩ := h
  refine ⟨a, c, rfl, hc, hm, hx.imp id ?_⟩
  rintro ⟨ab, ao, rfl, hx1⟩
  exact ⟨ab, ao, rfl, fun i x hi => ho.cell (hx1 i x hi) (hn ab rfl)⟩
theorem RAt.below {w w' : World} {p : Nat} {y : Value} {ys : List Int} {e : Option Nat} (h : RAt w p y ys e) (hb : Below w.heap.size w w') : RAt w' p y ys e :=
  ⟨(hb.block p h.lt).trans h.at_, h.in_.below hb, h.ok, h.le, h.ne⟩
theorem RAt.cell0 {w : World} {p : Nat} {y : Value} {ys : List Int} {e : Option Nat} (h : RAt w p y ys e) : w.cell? ⟨p, 0, none⟩ = some y := by rw [cell_of_row w p 0 _ _ _ h.at_]; rfl
theorem RAt.cell1 {w : World} {p : Nat} {y : Value} {ys : List Int} {e : Option Nat} (h : RAt w p y ys e) : w.cell? ⟨p, 1, none⟩ = some (errV e) := by rw [cell_of_row w p 1 _ _ _ h.at_]; rfl
theorem RAt.free {w : World} {p : Nat} {y : Value} {ys : List Int} {e : Option Nat} (h : RAt w p y ys e) (i : Nat) : w.frozen? ⟨p, i, none⟩ = false := frozen_of_row w p i _ _ h.at_
theorem RAt.wide {w : World} {p : Nat} {y : Value} {ys : List Int} {e : Option Nat} (h : RAt w p y ys e) : ∃ a c, y = .slice a ys.length c ∧ ys.length ≤ c := by
  obtain ⟨a, c, rfl, hc, _⟩ := h.in_; exact ⟨a, c, rfl, hc⟩
theorem RAt.keep {w w' : World} {p : Nat} {y : Value} {ys : List Int} {e : Option Nat} (h : RAt w p y ys e) (hp : w'.heap[p]? = w.heap[p]?) (hk : ys ≠ [] → ∀ k, y.ownBlock = some k → w'.heap[k]? = w.heap[k]?) : RAt w' p y ys e := by
  refine ⟨hp.trans h.at_, ?_, h.ok, h.le, h.ne⟩
  obtain ⟨a, c, rfl, hc, hm, hx⟩ := h.in_
  refine ⟨a, c, rfl, hc, hm, ?_⟩
  by_cases hn : ys = []
  · exact .inl hn
  · obtain ⟨ab, ao, rfl, hx1⟩ := hx.resolve_left hn
    exact .inr ⟨ab, ao, rfl, fun i x hi => (World.cell?_of_block (w := w) (hk hn ab rfl)).trans (hx1 i x hi)⟩
/-- bytes lie in memory -/
theorem RAt.own_lt {w : World} {p : Nat} {y : Value} {ys : List Int} {e : Option Nat} (h : RAt w p y ys e) (hn : ys ≠ []) : ∀ k, y.ownBlock = some k → k < w.heap.size := by
  intro k hk
  obtain ⟨a, c, rfl, hc, hm, hx⟩ := h.in_
  obtain ⟨ab, ao, rfl, hx1⟩ := hx.resolve_left hn
  obtain ⟨b, r, rfl⟩ := List.exists_cons_of_ne_nil hn
  simp only [Value.ownBlock, Option.some.injEq] at hk
  subst hk
  exact World.block_lt_of_cell? w _ (hx1 0 b rfl)
/-- its error is set -/
theorem RAt.err {w : World} {p : Nat} {y : Value} {ys : List Int} {e : Option Nat} (h : RAt w p y ys e) (e' : Option Nat) : RAt (w.setCell ⟨p, 1, none⟩ (errV e')) p y ys e' :=
  ⟨by rw [heap_setCell_same w p 1 _ _ _ h.at_]; rfl, h.in_.only (Only.setCell w ⟨p, 1, none⟩ _) h.ne, h.ok, h.le, h.ne⟩
theorem own_cut (a : Option Addr) (c k n m : Nat) : (Value.slice (cutA a c k) n m).ownBlock = (Value.slice a n m).ownBlock := by
  unfold cutA
  split
  · rfl
  · cases a with
    | none => rfl
    | some ad => show some (Addr.add ad k).block = some ad.block; unfold Addr.add; split <;> rfl
theorem own_len (a : Option Addr) (n m n' m' : Nat) : (Value.slice a n m).ownBlock = (Value.slice a n' m').ownBlock := by cases a <;> rfl
theorem bytesOk_drop {xs : List Int} (h : bytesOk xs) (k : Nat) : bytesOk (xs.drop k) := fun x hx => h x (List.mem_of_mem_drop hx)
theorem bytesOk_take {xs : List Int} (h : bytesOk xs) (k : Nat) : bytesOk (xs.take k) := fun x hx => h x (List.mem_of_mem_take hx)
/-- bytes are taken off -/
theorem RAt.took {w : World} {p : Nat} {a : Option Addr} {c : Nat} {ys : List Int} {e : Option Nat} (h : RAt w p (.slice a ys.length c) ys e) (k : Nat) (hk : k ≤ ys.length) :
    RAt (w.setCell ⟨p, 0, none⟩ (.slice (cutA a c k) (ys.length - k) (c - k))) p (.slice (cutA a c k) (ys.length - k) (c - k)) (ys.drop k) e := by
  have hn : ∀ j, (Value.slice (cutA a c k) (ys.length - k) (c - k)).ownBlock = some j → j ≠ p := fun j hj => h.ne j (by rw [own_cut] at hj; rw [← hj]; exact own_len _ _ _ _ _)
  have hb := h.in_.cut k ys.length hk (Nat.le_refl _)
  rw [List.take_length] at hb
  exact ⟨by rw [heap_setCell_same w p 0 _ _ _ h.at_]; rfl, hb.only (Only.setCell w ⟨p, 0, none⟩ _) hn, bytesOk_drop h.ok k, by rw [List.length_drop]; have := h.le; omega, hn⟩
theorem read_any (v : Value) (ys : List Int) (w : World) (hy : BytesIn w v ys) (ho : bytesOk ys) (hl : ys.length ≤ 140737488355328) :
    Calls Tryz.prog 118 #[v] w fun e w' => ∃ p y, e = .returned (.pointer (some ⟨p, 0, none⟩)) ∧ w.heap.size ≤ p ∧ RAt w' p y ys none ∧ Below w.heap.size w w' := by
  have HC := Lib.hid (clone_any v ys w hy hl)
  have HO := Lib.hid ho
  clear hy ho
  go_enter Tryz.func118, Tryz.ntmps118
  go_wp2_with (go_at_call 147; (with_reducible refine HC.out.mono ?_); rintro e w1 ⟨v', rfl, ho, hb⟩; obtain ⟨a, c, rfl⟩ := owns_wide ho; have H := Lib.hid ho; have HB := Lib.hid hb; clear ho hb)
  go_ret
  have h1 := H.out
  have hin := owns_in h1 (by unfold maxLen; omega)
  refine ⟨_, _, rfl, HB.out.size, ⟨heap_alloc_new w1 _, hin.below (below_alloc w1 _), HO.out, hl, fun k hk => ?_⟩, HB.out.alloc HB.out.size _⟩
  have := (h1.lt k hk).2
  omega
theorem err_any (p : Nat) (y : Value) (ys : List Int) (e : Option Nat) (w : World) (h : RAt w p y ys e) :
    Calls Tryz.prog 153 #[.pointer (some ⟨p, 0, none⟩)] w fun r w' => r = .returned (errV e) ∧ w' = w := by
  have hc := h.cell1
  cases e
  · simp only [errV] at hc ⊢
    go_enter Tryz.func153, Tryz.ntmps153
    go_wp2_with (fail)
    go_ret
    exact ⟨rfl, rfl⟩
  · simp only [errV] at hc ⊢
    go_enter Tryz.func153, Tryz.ntmps153
    go_wp2_with (fail)
    go_ret
    exact ⟨rfl, rfl⟩
theorem left_any (p : Nat) (y : Value) (ys : List Int) (e : Option Nat) (w : World) (h : RAt w p y ys e) :
    Calls Tryz.prog 154 #[.pointer (some ⟨p, 0, none⟩)] w fun r w' => r = .returned (.int .i64 (ys.length : Int)) ∧ w' = w := by
  have hc := h.cell0
  obtain ⟨a, c, rfl, _⟩ := h.wide
  go_enter Tryz.func154, Tryz.ntmps154
  go_wp2_with (fail)
  go_ret
  exact ⟨rfl, rfl⟩
set_option maxRecDepth 100000 in
set_option maxHeartbeats 400000 in
theorem take_any (p : Nat) (y : Value) (ys : List Int) (e : Option Nat) (k : Nat) (w : World) (h : RAt w p y ys e) (hk : k ≤ ys.length) :
    Calls Tryz.prog 180 #[.pointer (some ⟨p, 0, none⟩), .int .i64 (k : Int)] w fun r w' => ∃ a c y', r = .returned (.slice a k c) ∧ BytesIn w' (.slice a k c) (ys.take k) ∧ (∀ j, (Value.slice a k c).ownBlock = some j → j ≠ p) ∧ RAt w' p y' (ys.drop k) e ∧ Only p w w' ∧ y'.ownBlock = y.ownBlock := by
  obtain ⟨a, c, rfl, hle⟩ := h.wide
  have HR := Lib.hid h
  have hc := h.cell0
  have hf := h.free 0
  have hs1 := sliceBhi a ys.length c k (by omega)
  have hs2 := sliceBlo a ys.length c k hk
  have HK := Lib.hid hk
  clear h hk hle
  go_enter Tryz.func180, Tryz.ntmps180
  go_wp2_with (fail)
  go_ret
  have hn : ∀ j, (Value.slice (cutA a c 0) k c).ownBlock = some j → j ≠ p := fun j hj => HR.out.ne j (by rw [own_cut] at hj; rw [← hj]; exact own_len _ _ _ _ _)
  refine ⟨cutA a c 0, c, _, rfl, ?_, hn, HR.out.took k HK.out, Only.setCell w ⟨p, 0, none⟩ _, by rw [own_cut]; exact own_len _ _ _ _ _⟩
  have := (HR.out.in_.cut0 k HK.out).only (Only.setCell w ⟨p, 0, none⟩ (.slice (cutA a c k) (ys.length - k) (c - k))) hn
  rw [List.drop_zero] at this
  exact this
end Go.Proofs.YteokgklfljhcaaaGreatDoor
namespace Go.Proofs.YteokgklfljhcaaaGreatDoor
set_option linter.unusedVariables false
set_option linter.unusedSimpArgs false
open Go.RowKit
set_option maxRecDepth 100000
/-- the bytes that are left, and the error -/
abbrev RSt := List Int × Option Nat
/-- block p is a Reader in this state -/
def RS (w : World) (p : Nat) (s : RSt) : Prop := ∃ y, RAt w p y s.1 s.2
theorem chk_ok {n size last most : Nat} (h : (chk n size last most).2.2 = none) : (chk n size last most) = (n, size, none) ∧ n ≤ most ∧ ¬ ((1 < size ∧ last = 0) ∨ (size = 10 ∧ 1 < last)) := by
  unfold chk at *
  by_cases h1 : (1 < size ∧ last = 0) ∨ (size = 10 ∧ 1 < last)
  · rw [if_pos h1] at h; cases h
  · rw [if_neg h1] at h ⊢
    by_cases h2 : most < n
    · rw [if_pos h2] at h; cases h
    · rw [if_neg h2]; exact ⟨rfl, by omega, h1⟩
theorem accF_lt64 (xs : List Int) (i : Nat) (h : i ≤ 10) : accF xs i < 18446744073709551616 := by
  rcases Nat.lt_or_ge i 10 with h1 | h1
  · have := accF_lt xs i (by omega)
    have h2 : (128 : Nat) ^ i ≤ 128 ^ 9 := Nat.pow_le_pow_right (by decide) (by omega)
    have h3 : (128 : Nat) ^ 9 = 9223372036854775808 := by decide
    omega
  · obtain rfl : i = 10 := by omega
    have := accF_lt xs 9 (by omega)
    have h3 : (128 : Nat) ^ 9 = 9223372036854775808 := by decide
    rw [h3] at this
    show accF xs 9 + (xs.getD 9 0).toNat % 128 * 128 ^ 9 % 18446744073709551616 < _
    rw [h3]
    omega
theorem rdFrom_ok (xs : List Int) (most : Nat) : ∀ k i, i + k ≤ xs.length → i + k ≤ 10 → (rdFrom xs most k i).2.2 = none →
    (rdFrom xs most k i).2.1 ≤ xs.length ∧ (rdFrom xs most k i).1 < 18446744073709551616 ∧ (rdFrom xs most k i).1 ≤ most
  | 0, i, _, _, h => by
    unfold rdFrom at h
    split at h <;> cases h
  | k + 1, i, h1, h2, h => by
    unfold rdFrom at h ⊢
    by_cases hb : xs.getD i 0 < 128
    · rw [if_pos hb] at h ⊢
      obtain ⟨e, hm, _⟩ := chk_ok h
      rw [e]
      exact ⟨by show i + 1 ≤ _; omega, accF_lt64 xs (i + 1) (by omega), hm⟩
    · rw [if_neg hb] at h ⊢
      exact rdFrom_ok xs most k (i + 1) (by omega) (by omega) h
theorem rdF_ok {xs : List Int} {most : Nat} (h : (rdF xs most).2.2 = none) : (rdF xs most).2.1 ≤ xs.length ∧ (rdF xs most).1 < 18446744073709551616 ∧ (rdF xs most).1 ≤ most :=
  rdFrom_ok xs most _ 0 (by omega) (by omega) h
/-- Uint -/
def uintS (s : RSt) (most : Nat) : Nat × RSt :=
  match s.2 with
  | some _ => (0, s)
  | none => match (rdF s.1 most).2.2 with
    | some x => (0, s.1, some x)
    | none => ((rdF s.1 most).1, s.1.drop (rdF s.1 most).2.1, none)
theorem uintS_err (ys : List Int) (x most : Nat) : uintS (ys, some x) most = (0, ys, some x) := rfl
theorem uintS_bad {ys : List Int} {x most : Nat} (h : (rdF ys most).2.2 = some x) : uintS (ys, none) most = (0, ys, some x) := by
  unfold uintS; simp only [h]
theorem uintS_good {ys : List Int} {most : Nat} (h : (rdF ys most).2.2 = none) : uintS (ys, none) most = ((rdF ys most).1, ys.drop (rdF ys most).2.1, none) := by
  unfold uintS; simp only [h]
theorem uintS_lt (s : RSt) (most : Nat) : (uintS s most).1 < 18446744073709551616 := by
  obtain ⟨ys, e⟩ := s
  cases e with
  | some x => rw [uintS_err]; show (0 : Nat) < _; decide
  | none =>
    cases h : (rdF ys most).2.2 with
    | some x => rw [uintS_bad h]; show (0 : Nat) < _; decide
    | none => rw [uintS_good h]; exact (rdF_ok h).2.1
theorem tripV_of (r : Nat × Nat × Option Nat) (e : Option Nat) (h : r.2.2 = e) : tripV r = .tuple #[.int .u64 (r.1 : Int), .int .i64 (r.2.1 : Int), errV e] := by unfold tripV; rw [h]
/-- the number with a sign -/
def unzig (n : Nat) : Int := if n % 2 = 1 then -((n / 2 : Nat) : Int) - 1 else ((n / 2 : Nat) : Int)
def intS (s : RSt) : Int × RSt := (unzig (uintS s 18446744073709551615).1, (uintS s 18446744073709551615).2)
/-- Done -/
def doneE (s : RSt) : Option Nat :=
  match s.2 with
  | some x => some x
  | none => if 0 < s.1.length then some 3 else none
set_option maxRecDepth 100000 in
set_option maxHeartbeats 400000 in
theorem rdone_any (p : Nat) (s : RSt) (w : World) (h : RS w p s) :
    Calls Tryz.prog 119 #[.pointer (some ⟨p, 0, none⟩)] w fun r w' => r = .returned (errV (doneE s)) ∧ w' = w := by
  obtain ⟨ys, e⟩ := s
  obtain ⟨y, h⟩ := h
  have HE := Lib.hid (err_any p y ys e w h)
  have HL := Lib.hid (left_any p y ys e w h)
  clear h
  cases e with
  | some x =>
    simp only [doneE, errV] at HE ⊢
    go_enter Tryz.func119, Tryz.ntmps119
    go_wp2_with (go_at_call 153; (with_reducible refine HE.out.mono ?_); rintro e w2 ⟨rfl, rfl⟩)
    go_ret
    exact ⟨rfl, rfl⟩
  | none =>
    simp only [doneE, errV] at HE ⊢
    by_cases h0 : 0 < ys.length
    · rw [if_pos h0]
      have h1 : (0 : Int) < (ys.length : Int) := by omega
      go_enter Tryz.func119, Tryz.ntmps119
      go_wp2_with (first
        | (go_at_call 153; (with_reducible refine HE.out.mono ?_); rintro e w2 ⟨rfl, rfl⟩)
        | (go_at_call 154; (with_reducible refine HL.out.mono ?_); rintro e w2 ⟨rfl, rfl⟩))
      go_ret
      exact ⟨rfl, rfl⟩
    · rw [if_neg h0]
      have h1 : ¬ (0 : Int) < (ys.length : Int) := by omega
      go_enter Tryz.func119, Tryz.ntmps119
      go_wp2_with (first
        | (go_at_call 153; (with_reducible refine HE.out.mono ?_); rintro e w2 ⟨rfl, rfl⟩)
        | (go_at_call 154; (with_reducible refine HL.out.mono ?_); rintro e w2 ⟨rfl, rfl⟩))
      go_ret
      exact ⟨rfl, rfl⟩
end Go.Proofs.YteokgklfljhcaaaGreatDoor
namespace Go.Proofs.YteokgklfljhcaaaGreatDoor
set_option linter.unusedVariables false
set_option linter.unusedSimpArgs false
open Go.RowKit
set_option maxRecDepth 100000
def dgt (xs : List Int) (i : Nat) : Nat := (xs.getD i 0).toNat % 128
/-- what the first i groups add up to -/
def accN (xs : List Int) : Nat → Nat
  | 0 => 0
  | i + 1 => accN xs i + dgt xs i * 128 ^ i
/-- what m groups from place j on add up to, the first the least -/
def hor (xs : List Int) : Nat → Nat → Nat
  | 0, _ => 0
  | m + 1, j => dgt xs j + 128 * hor xs m (j + 1)
theorem dgt_lt (xs : List Int) (i : Nat) : dgt xs i < 128 := Nat.mod_lt _ (by decide)
theorem accN_hor (xs : List Int) : ∀ m j, accN xs (j + m) = accN xs j + 128 ^ j * hor xs m j
  | 0, j => by simp [hor]
  | m + 1, j => by
    rw [show j + (m + 1) = (j + 1) + m by omega, accN_hor xs m (j + 1)]
    simp only [accN, hor, Nat.pow_succ, Nat.mul_add]
    rw [Nat.mul_comm (dgt xs j), Nat.mul_assoc, Nat.add_assoc]
theorem accN_lt (xs : List Int) : ∀ i, accN xs i < 128 ^ i
  | 0 => by simp [accN]
  | i + 1 => by
    have h1 := accN_lt xs i
    have h2 : dgt xs i * 128 ^ i ≤ 127 * 128 ^ i := Nat.mul_le_mul_right _ (by have := dgt_lt xs i; omega)
    simp only [accN, Nat.pow_succ]
    omega
theorem accF_accN (xs : List Int) : ∀ i, i ≤ 9 → accF xs i = accN xs i
  | 0, _ => rfl
  | i + 1, h => by
    have hp : (128 : Nat) ^ i ≤ 128 ^ 8 := Nat.pow_le_pow_right (by decide) (by omega)
    have h8 : (128 : Nat) ^ 8 = 72057594037927936 := by decide
    have h2 : dgt xs i * 128 ^ i ≤ 127 * 128 ^ i := Nat.mul_le_mul_right _ (by have := dgt_lt xs i; omega)
    show accF xs i + (dgt xs i * 128 ^ i) % 18446744073709551616 = accN xs i + dgt xs i * 128 ^ i
    rw [accF_accN xs i (by omega), Nat.mod_eq_of_lt (by omega)]
/-- a number of at most ten groups, the tenth of which is 0 or 1 -/
theorem acc_ok (xs : List Int) (i : Nat) (hi : i ≤ 9) (h : i = 9 → dgt xs i ≤ 1) : accF xs (i + 1) = accN xs (i + 1) ∧ accN xs (i + 1) < 18446744073709551616 := by
  have hl := accN_lt xs (i + 1)
  rcases Nat.lt_or_ge i 9 with h9 | h9
  · have hp : (128 : Nat) ^ (i + 1) ≤ 128 ^ 9 := Nat.pow_le_pow_right (by decide) (by omega)
    have e9 : (128 : Nat) ^ 9 = 9223372036854775808 := by decide
    exact ⟨accF_accN xs (i + 1) (by omega), by omega⟩
  · obtain rfl : i = 9 := by omega
    have h1 := h rfl
    have hn := accN_lt xs 9
    have e9 : (128 : Nat) ^ 9 = 9223372036854775808 := by decide
    have hd : dgt xs 9 * 128 ^ 9 ≤ 1 * 128 ^ 9 := Nat.mul_le_mul_right _ h1
    have e : accN xs (9 + 1) = accN xs 9 + dgt xs 9 * 128 ^ 9 := rfl
    refine ⟨?_, by omega⟩
    show accF xs 9 + (dgt xs 9 * 128 ^ 9) % 18446744073709551616 = accN xs (9 + 1)
    rw [accF_accN xs 9 (by omega), Nat.mod_eq_of_lt (by omega), e]
theorem hor_le (xs : List Int) (m j : Nat) : hor xs m j ≤ accN xs (j + m) := by
  rw [accN_hor]
  have : 1 ≤ (128 : Nat) ^ j := Nat.one_le_pow _ _ (by decide)
  have := Nat.mul_le_mul_right (hor xs m j) this
  omega
theorem hor_all (xs : List Int) (m : Nat) : hor xs m 0 = accN xs m := by
  have := accN_hor xs m 0
  simp [accN] at this
  exact this.symm
end Go.Proofs.YteokgklfljhcaaaGreatDoor
