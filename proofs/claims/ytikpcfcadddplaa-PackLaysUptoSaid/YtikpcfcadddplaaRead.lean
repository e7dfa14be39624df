/- A Reader in memory; checked and varint. -/
import Derived.Test.YtikpcfcadddplaaWri2
namespace Go.Proofs.Ytikpcfcadddplaa
open Go.RowKit
set_option maxRecDepth 100000
/-- an error of package api, or none -/
def errV : Option Nat → Value
  | none => .nilIface
  | some n => .iface 66 (.int .i64 n)
def bytesOk (xs : List Int) : Prop := ∀ x ∈ xs, 0 ≤ x ∧ x < 256
/-- what the groups' check answers: the number, how many bytes, the error -/
def chk (n : Nat) (size last most : Nat) : Nat × Nat × Option Nat :=
  if (1 < size ∧ last = 0) ∨ (size = 10 ∧ 1 < last) then (0, 0, some 3) else if most < n then (0, 0, some 4) else (n, size, none)
/-- what varint answers from byte i on -/
def rdFrom (xs : List Int) (most : Nat) : Nat → Nat → Nat × Nat × Option Nat
  | 0, _ => if xs.length < 10 then (0, 0, some 12) else (0, 0, some 3)
  | k + 1, i => if (xs.getD i 0) < 128 then chk (accF xs (i + 1)) (i + 1) (xs.getD i 0).toNat most else rdFrom xs most k (i + 1)
def rdF (xs : List Int) (most : Nat) : Nat × Nat × Option Nat := rdFrom xs most (min xs.length 10) 0
def tripV (r : Nat × Nat × Option Nat) : Value := .tuple #[.int .u64 (r.1 : Int), .int .i64 (r.2.1 : Int), errV r.2.2]
set_option maxRecDepth 100000 in
set_option maxHeartbeats 400000 in
theorem checked_any (n most : Nat) (ab ao size cap : Nat) (last : Nat) (w : World) (hs0 : 0 < size) (hs : size ≤ 10) (hl : last < 256) (hc : w.cell? ⟨ab, ao + (size - 1), none⟩ = some (.int .u8 (last : Int))) :
    Calls Try.prog 36 #[.int .u64 (n : Int), .slice (some ⟨ab, ao, none⟩) size cap, .int .u64 (most : Int)] w fun e w' => e = .returned (tripV (chk n size last most)) ∧ w' = w := by
  obtain ⟨s, rfl⟩ : ∃ s, size = s + 1 := ⟨size - 1, by omega⟩
  rw [Nat.add_sub_cancel] at hc
  go_enter Try.func36, Try.ntmps36
  go_wp2_with (fail)
  all_goals go_ret3
  all_goals refine ⟨?_, rfl⟩
  all_goals (try simp only [beq_eq_false_iff_ne, beq_iff_eq, ne_eq] at *)
  all_goals first
    | (rw [show chk n (s + 1) last most = (0, 0, some 3) by unfold chk; rw [if_pos (by omega)]]; rfl)
    | (rw [show chk n (s + 1) last most = (0, 0, some 4) by unfold chk; rw [if_neg (by omega), if_pos (by omega)]]; rfl)
    | (rw [show chk n (s + 1) last most = (n, s + 1, none) by unfold chk; rw [if_neg (by omega), if_neg (by omega)]]; first | rfl | (have e : s = 9 := (by omega); subst e; rfl))
theorem and128 (b : Nat) (h : b < 256) : bits .andNot .u8 (b : Int) 128 = ((b % 128 : Nat) : Int) := by
  have : ∀ b : Fin 256, bits .andNot .u8 (b.val : Int) 128 = ((b.val % 128 : Nat) : Int) := by decide +kernel
  exact this ⟨b, h⟩
/-- the groups so far, and the next one -/
theorem or_group (a g k : Nat) (ha : a < 128 ^ k) (hk : k ≤ 9) :
    bits .or .u64 (a : Int) ((g * 128 ^ k % 18446744073709551616 : Nat) : Int) = ((a + g * 128 ^ k % 18446744073709551616 : Nat) : Int) := by
  have hp : (128 : Nat) ^ k ≤ 128 ^ 9 := Nat.pow_le_pow_right (by decide) hk
  have h9 : (128 : Nat) ^ 9 = 9223372036854775808 := by decide
  rw [bits_or_u64_nat _ _ (by omega) (by omega)]
  congr 1
  have e : (128 : Nat) ^ k = 2 ^ (7 * k) := by rw [Nat.pow_mul]
  have h64 : (18446744073709551616 : Nat) = 2 ^ (7 * k) * 2 ^ (64 - 7 * k) := by
    rw [← Nat.pow_add, show 7 * k + (64 - 7 * k) = 64 by omega]
  have e2 : g * 128 ^ k % 18446744073709551616 = 2 ^ (7 * k) * (g % 2 ^ (64 - 7 * k)) := by
    rw [h64, e, Nat.mul_comm g, Nat.mul_mod_mul_left]
  rw [e2, Nat.or_comm, Nat.add_comm]
  rw [e] at ha
  exact (Nat.two_pow_add_eq_or_of_lt ha _).symm
theorem acc_step (xs : List Int) (k b : Nat) (hk : k ≤ 9) (hb : xs.getD k 0 = (b : Int)) :
    bits .or .u64 ((accF xs k : Nat) : Int) (IntKind.u64.wrap ((b : Int) % 128 * 2 ^ (7 * k))) = ((accF xs (k + 1) : Nat) : Int) := by
  have h := or_group (accF xs k) (b % 128) k (accF_lt xs k hk) hk
  have e : IntKind.u64.wrap ((b : Int) % 128 * 2 ^ (7 * k)) = ((b % 128 * 128 ^ k % 18446744073709551616 : Nat) : Int) := by
    have e1 : (2 : Int) ^ (7 * k) = ((128 ^ k : Nat) : Int) := by
      rw [Int.pow_mul, Int.natCast_pow]; rfl
    rw [IntKind.wrap_u64, e1, show (b : Int) % 128 = ((b % 128 : Nat) : Int) by omega, ← Int.natCast_mul]
    generalize b % 128 * 128 ^ k = X
    omega
  rw [e, h]
  show _ = ((accF xs k + (xs.getD k 0).toNat % 128 * 128 ^ k % 18446744073709551616 : Nat) : Int)
  rw [hb, Int.toNat_natCast]
theorem rd_step (xs : List Int) (most k b : Nat) (hk : k < min xs.length 10) (hb : xs.getD k 0 = (b : Int)) :
    rdFrom xs most (min xs.length 10 - k) k = if b < 128 then chk (accF xs (k + 1)) (k + 1) b most else rdFrom xs most (min xs.length 10 - (k + 1)) (k + 1) := by
  rw [show min xs.length 10 - k = (min xs.length 10 - (k + 1)) + 1 by omega, rdFrom, hb, Int.toNat_natCast]
  by_cases h : b < 128
  · rw [if_pos h, if_pos (by omega)]
  · rw [if_neg h, if_neg (by omega)]
theorem sliceB_first (ab ao n c q : Nat) (hq : q ≤ c) (w : World) : (Instr.slice 25 (.slice (some ⟨ab, ao, none⟩) n c) none (some (.int .i64 (q : Int))) none).run Try.prog w = .ok (.slice (some ⟨ab, ao, none⟩) q c) w := by
  rw [sliceBhi _ _ _ _ hq]
  unfold cutA
  split
  · rfl
  · show Result.ok (Value.slice (some (Addr.add ⟨ab, ao, none⟩ 0)) _ _) w = _
    rw [Addr.add_mid]; rfl
set_option maxRecDepth 100000 in
set_option maxHeartbeats 400000 in
theorem varint_any (v : Value) (xs : List Int) (most : Nat) (w : World) (hx : BytesIn w v xs) (hb : bytesOk xs) :
    Calls Try.prog 33 #[v, .int .u64 (most : Int)] w fun e w' => e = .returned (tripV (rdF xs most)) ∧ w' = w := by
  obtain ⟨a, c, rfl, hc, hm, hx⟩ := hx
  have HX := Lib.hid hx
  have HB := Lib.hid hb
  have HC := Lib.hid hc
  have HM := Lib.hid hm
  clear hx hb hc hm
  obtain ⟨m, hm⟩ : ∃ m, m = min xs.length 10 := ⟨_, rfl⟩
  have hmin : ((min xs.length 10 : Nat) : Int) = min (xs.length : Int) 10 := by omega
  have HMM := Lib.hid hm
  clear hm
  go_enter Try.func33, Try.ntmps33
  go_upto_region 2 with (fail)
  all_goals clear hmin
  all_goals go_loopw [4, 11] (fun n i wr => ∃ k : Nat, k ≤ min xs.length 10 ∧ n = .int .u64 ((accF xs k : Nat) : Int) ∧ i = .int .i64 k ∧ wr = w ∧ rdF xs most = rdFrom xs most (min xs.length 10 - k) k) (fun _ i _ => 10 - (intOf i).toNat)
  case atStart => exact ⟨0, by omega, rfl, rfl, rfl, rfl⟩
  case atStart => exact ⟨0, by omega, rfl, rfl, rfl, rfl⟩
  all_goals obtain ⟨k, hk, rfl, rfl, rfl, hrd⟩ := hrel
  all_goals
    by_cases hlt : k < min xs.length 10
    · obtain ⟨ab, ao, rfl, hcell⟩ := HX.out.resolve_left (by rintro rfl; simp at hlt)
      obtain ⟨b, hb⟩ : ∃ b : Nat, xs[k]? = some (b : Int) ∧ b < 256 := by
        have hk1 : k < xs.length := by omega
        have := HB.out xs[k] (List.getElem_mem hk1)
        exact ⟨xs[k].toNat, by rw [List.getElem?_eq_getElem hk1]; congr 1; omega, by omega⟩
      have hc := hcell k _ hb.1
      have ha := and128 b hb.2
      have hk1 : (k : Int) < xs.length := by omega
      have hk2 : (k : Int) < 10 := by omega
      have hgd : xs.getD k 0 = (b : Int) := by rw [List.getD, hb.1]; rfl
      have hor := acc_step xs k b (by omega) hgd
      have hst := rd_step xs most k b hlt hgd
      have HC' := HC.out
      have hsl := sliceB_first ab ao xs.length c (k + 1) (by omega)
      rw [show ((k + 1 : Nat) : Int) = (k : Int) + 1 by omega] at hsl
      have hck := checked_any (accF xs (k + 1)) most ab ao (k + 1) c b wr (by omega) (by omega) hb.2 (by rw [Nat.add_sub_cancel]; exact hc)
      replace hck := Lib.hid hck
      have HST := Lib.hid (hrd.trans hst)
      clear hst hrd hgd hcell HC'
      have hb2 := hb.2
      clear hb
      generalize hacc : accF xs (k + 1) = acc1 at *
      replace hacc := Lib.hid hacc
      by_cases h128 : b < 128
      · have HR := HST.out
        rw [if_pos h128] at HR
        replace HR := Lib.hid HR
        clear HST
        go_wp2_with (go_at_call 36; (with_reducible refine hck.out.mono ?_); rintro e w2 ⟨rfl, rfl⟩; simp only [tripV])
        go_ret3
        exact ⟨by rw [HR.out]; rfl, rfl⟩
      · have HR := HST.out
        rw [if_neg h128] at HR
        replace HR := Lib.hid HR
        clear HST
        go_wp2_with (fail)
        go_roundw
        case rel => exact ⟨k + 1, by omega, by rw [hacc.out], rfl, trivial, HR.out⟩
        case measure => simp [intOf]; omega
    · have hk1 : ¬ (k : Int) < min (xs.length : Int) 10 := by omega
      have HRD := Lib.hid (show rdF xs most = if xs.length < 10 then (0, 0, some 12) else (0, 0, some 3) by rw [hrd, show min xs.length 10 - k = 0 by omega]; rfl)
      clear hrd HX
      go_wp2_with (fail)
      all_goals go_ret3
      all_goals rw [HRD.out]
      all_goals first
        | (rw [if_pos (by omega)]; exact ⟨rfl, rfl⟩)
        | (rw [if_neg (by omega)]; exact ⟨rfl, rfl⟩)
end Go.Proofs.Ytikpcfcadddplaa
