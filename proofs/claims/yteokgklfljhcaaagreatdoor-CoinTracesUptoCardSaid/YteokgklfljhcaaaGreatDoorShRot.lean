/- RotateLeft32 at a constant turn; expand: what each call does. -/
import Derived.Test.YteokgklfljhcaaaGreatDoorBase
import Derived.StillTailTactics
import Derived.Deep.QuietTactic
import Derived.BigQuiet
import Derived.Deep.MidRow
import Derived.Laws.CopyOwn
namespace Go.Proofs.YteokgklfljhcaaaGreatDoor
open Go.RowKit
def rotI (x r : Int) : Int := bits BinOp.or IntKind.u32 (x * 2 ^ r.toNat % 4294967296) (x / 2 ^ (32 - r).toNat)
set_option maxHeartbeats 400000 in
theorem rot_any (x k : Int) (r : Int) (hb : bits .and .u64 (IntKind.u64.wrap k) 31 = r) (h0 : 0 ≤ r) (h1 : r ≤ 31) (w : World) :
    Calls Tryz.prog 176 #[.int .u32 x, .int .i64 k] w fun e w' => e = .returned (.int .u32 (rotI x r)) ∧ w = w' := by
  go_enter Tryz.func176, Tryz.ntmps176
  go_wp2
  go_ret
  exact ⟨rfl, rfl⟩
theorem rot2 (x : Int) (w : World) : Calls Tryz.prog 176 #[.int .u32 x, .int .i64 (-2)] w fun e w' => e = .returned (.int .u32 (rotI x 30)) ∧ w = w' :=
  rot_any x (-2) 30 (by kernel_rfl) (by decide) (by decide) w
theorem rot6 (x : Int) (w : World) : Calls Tryz.prog 176 #[.int .u32 x, .int .i64 (-6)] w fun e w' => e = .returned (.int .u32 (rotI x 26)) ∧ w = w' :=
  rot_any x (-6) 26 (by kernel_rfl) (by decide) (by decide) w
theorem rot7 (x : Int) (w : World) : Calls Tryz.prog 176 #[.int .u32 x, .int .i64 (-7)] w fun e w' => e = .returned (.int .u32 (rotI x 25)) ∧ w = w' :=
  rot_any x (-7) 25 (by kernel_rfl) (by decide) (by decide) w
theorem rot11 (x : Int) (w : World) : Calls Tryz.prog 176 #[.int .u32 x, .int .i64 (-11)] w fun e w' => e = .returned (.int .u32 (rotI x 21)) ∧ w = w' :=
  rot_any x (-11) 21 (by kernel_rfl) (by decide) (by decide) w
theorem rot13 (x : Int) (w : World) : Calls Tryz.prog 176 #[.int .u32 x, .int .i64 (-13)] w fun e w' => e = .returned (.int .u32 (rotI x 19)) ∧ w = w' :=
  rot_any x (-13) 19 (by kernel_rfl) (by decide) (by decide) w
theorem rot17 (x : Int) (w : World) : Calls Tryz.prog 176 #[.int .u32 x, .int .i64 (-17)] w fun e w' => e = .returned (.int .u32 (rotI x 15)) ∧ w = w' :=
  rot_any x (-17) 15 (by kernel_rfl) (by decide) (by decide) w
theorem rot18 (x : Int) (w : World) : Calls Tryz.prog 176 #[.int .u32 x, .int .i64 (-18)] w fun e w' => e = .returned (.int .u32 (rotI x 14)) ∧ w = w' :=
  rot_any x (-18) 14 (by kernel_rfl) (by decide) (by decide) w
theorem rot19 (x : Int) (w : World) : Calls Tryz.prog 176 #[.int .u32 x, .int .i64 (-19)] w fun e w' => e = .returned (.int .u32 (rotI x 13)) ∧ w = w' :=
  rot_any x (-19) 13 (by kernel_rfl) (by decide) (by decide) w
theorem rot22 (x : Int) (w : World) : Calls Tryz.prog 176 #[.int .u32 x, .int .i64 (-22)] w fun e w' => e = .returned (.int .u32 (rotI x 10)) ∧ w = w' :=
  rot_any x (-22) 10 (by kernel_rfl) (by decide) (by decide) w
theorem rot25 (x : Int) (w : World) : Calls Tryz.prog 176 #[.int .u32 x, .int .i64 (-25)] w fun e w' => e = .returned (.int .u32 (rotI x 7)) ∧ w = w' :=
  rot_any x (-25) 7 (by kernel_rfl) (by decide) (by decide) w
/-- word i of a block -/
def wordB (bl : Nat → Int) (k : Nat) : Int :=
  bits BinOp.or IntKind.u32 (bits BinOp.or IntKind.u32 (bits BinOp.or IntKind.u32 (IntKind.u32.wrap (IntKind.u32.wrap (bl (4 * k)) * 16777216))
    (IntKind.u32.wrap (IntKind.u32.wrap (bl (4 * k + 1)) * 65536))) (IntKind.u32.wrap (IntKind.u32.wrap (bl (4 * k + 2)) * 256))) (IntKind.u32.wrap (bl (4 * k + 3)))
def expA (bl : Nat → Int) : Nat → Nat → Int
  | 0 => fun _ => 0
  | k + 1 => upd (expA bl k) k (wordB bl k)
/-- the word behind 16 others that begin at k -/
def nextW (e : Nat → Int) (k : Nat) : Int :=
  (e k + bits BinOp.xor IntKind.u32 (bits BinOp.xor IntKind.u32 (rotI (e (k + 1)) 25) (rotI (e (k + 1)) 14)) (e (k + 1) / 8) + e (k + 9) + bits BinOp.xor IntKind.u32 (bits BinOp.xor IntKind.u32 (rotI (e (k + 14)) 15) (rotI (e (k + 14)) 13)) (e (k + 14) / 1024)) % 4294967296
def expB (bl : Nat → Int) : Nat → Nat → Int
  | 0 => expA bl 16
  | k + 1 => upd (expB bl k) (k + 16) (nextW (expB bl k) k)
theorem zeros64 : (#[Value.int IntKind.u32 0, Value.int IntKind.u32 0, Value.int IntKind.u32 0, Value.int IntKind.u32 0, Value.int IntKind.u32 0, Value.int IntKind.u32 0, Value.int IntKind.u32 0, Value.int IntKind.u32 0,Value.int IntKind.u32 0, Value.int IntKind.u32 0, Value.int IntKind.u32 0, Value.int IntKind.u32 0, Value.int IntKind.u32 0, Value.int IntKind.u32 0, Value.int IntKind.u32 0, Value.int IntKind.u32 0,Value.int IntKind.u32 0, Value.int IntKind.u32 0, Value.int IntKind.u32 0, Value.int IntKind.u32 0, Value.int IntKind.u32 0, Value.int IntKind.u32 0, Value.int IntKind.u32 0, Value.int IntKind.u32 0,Value.int IntKind.u32 0, Value.int IntKind.u32 0, Value.int IntKind.u32 0, Value.int IntKind.u32 0, Value.int IntKind.u32 0, Value.int IntKind.u32 0, Value.int IntKind.u32 0, Value.int IntKind.u32 0,Value.int IntKind.u32 0, Value.int IntKind.u32 0, Value.int IntKind.u32 0, Value.int IntKind.u32 0, Value.int IntKind.u32 0, Value.int IntKind.u32 0, Value.int IntKind.u32 0, Value.int IntKind.u32 0,Value.int IntKind.u32 0, Value.int IntKind.u32 0, Value.int IntKind.u32 0, Value.int IntKind.u32 0, Value.int IntKind.u32 0, Value.int IntKind.u32 0, Value.int IntKind.u32 0, Value.int IntKind.u32 0,Value.int IntKind.u32 0, Value.int IntKind.u32 0, Value.int IntKind.u32 0, Value.int IntKind.u32 0, Value.int IntKind.u32 0, Value.int IntKind.u32 0, Value.int IntKind.u32 0, Value.int IntKind.u32 0,Value.int IntKind.u32 0, Value.int IntKind.u32 0, Value.int IntKind.u32 0, Value.int IntKind.u32 0, Value.int IntKind.u32 0, Value.int IntKind.u32 0, Value.int IntKind.u32 0, Value.int IntKind.u32 0] : Array Value) = rowOf .u32 64 (fun _ => 0) := by rfl
set_option maxRecDepth 100000 in
set_option maxHeartbeats 400000 in
theorem expand_any (bl : Nat → Int) (w : World) :
    Calls Tryz.prog 175 #[.agg (rowOf .u8 64 bl)] w fun e w' => e = .returned (.agg (rowOf .u32 64 (expB bl 48))) ∧ Below w.heap.size w w' := by
  go_enter Tryz.func175, Tryz.ntmps175
  go_wp2
  rw [zeros64]
  have hR1 := (((RowAt.new w .u8 64 187 bl).alloc (.cells (rowOf .u32 64 (fun _ => 0)) 148)).alloc (.cells (rowOf .u32 64 (fun _ => 0)) 148))
  have hR2 := ((RowAt.new (w.alloc (.cells (rowOf .u8 64 bl) 187)) .u32 64 148 (fun _ => 0)).alloc (.cells (rowOf .u32 64 (fun _ => 0)) 148))
  have hR3 := (RowAt.new ((w.alloc (.cells (rowOf .u8 64 bl) 187)).alloc (.cells (rowOf .u32 64 (fun _ => 0)) 148)) .u32 64 148 (fun _ => 0))
  have hB : Below w.heap.size w (((w.alloc (.cells (rowOf .u8 64 bl) 187)).alloc (.cells (rowOf .u32 64 (fun _ => 0)) 148)).alloc (.cells (rowOf .u32 64 (fun _ => 0)) 148)) :=
    (((Below.refl _ _).alloc (Nat.le_refl _) _).alloc (by simp) _).alloc (by simp; omega) _
  simp at hR2 hR3
  go_loopw [10] (fun i wr => ∃ k : Nat, k ≤ 16 ∧ i = .int .i64 k ∧ RowAt wr w.heap.size .u8 64 187 bl ∧ RowAt wr (w.heap.size + 1) .u32 64 148 (fun _ => 0) ∧ RowAt wr (w.heap.size + 1 + 1) .u32 64 148 (expA bl k) ∧ Below w.heap.size w wr)
    (fun i _ => 16 - (intOf i).toNat)
  case atStart => exact ⟨0, by omega, rfl, hR1, hR2, hR3, hB⟩
  case round =>
    clear hR1 hR2 hR3 hB
    obtain ⟨k, hk, rfl, R1, R2, R3, HB⟩ := hrel
    by_cases hlt : k < 16
    · have c0 := R1.cell (4 * k) (by omega)
      have c1 := R1.cell (4 * k + 1) (by omega)
      have c2 := R1.cell (4 * k + 2) (by omega)
      have c3 := R1.cell (4 * k + 3) (by omega)
      have f0 := R3.free k
      go_wp2
      have m0 : IntKind.i64.wrap (4 * (k : Int)) = 4 * k := IntWalk.i64_in _ (by omega)
      have m1 : IntKind.i64.wrap (4 * (k : Int) + 1) = 4 * k + 1 := IntWalk.i64_in _ (by omega)
      have m2 : IntKind.i64.wrap (4 * (k : Int) + 2) = 4 * k + 2 := IntWalk.i64_in _ (by omega)
      have m3 : IntKind.i64.wrap (4 * (k : Int) + 3) = 4 * k + 3 := IntWalk.i64_in _ (by omega)
      have n0 : (4 * (k : Int)).toNat = 4 * k := by omega
      have n1 : (4 * (k : Int) + 1).toNat = 4 * k + 1 := by omega
      have n2 : (4 * (k : Int) + 2).toNat = 4 * k + 2 := by omega
      have n3 : (4 * (k : Int) + 3).toNat = 4 * k + 3 := by omega
      have p0 : 0 ≤ (4 * (k : Int)) := by omega
      have p1 : 0 ≤ (4 * (k : Int) + 1) := by omega
      have p2 : 0 ≤ (4 * (k : Int) + 2) := by omega
      have p3 : 0 ≤ (4 * (k : Int) + 3) := by omega
      have q0 : 4 * (k : Int) < 64 := by omega
      have q1 : 4 * (k : Int) + 1 < 64 := by omega
      have q2 : 4 * (k : Int) + 2 < 64 := by omega
      have q3 : 4 * (k : Int) + 3 < 64 := by omega
      have q4 : (k : Int) < 64 := by omega
      go_still_tail 31, (by kernel_rfl)
      change wpList _ _ _ _ _ wr.drew
      clear m0 m1 m2 m3 n0 n1 n2 n3 p0 p1 p2 p3 q0 q1 q2 q3 c0 c1 c2 c3 f0
      replace R1 : RowAt wr.drew w.heap.size .u8 64 187 bl := R1
      replace R2 : RowAt wr.drew (w.heap.size + 1) .u32 64 148 (fun _ => 0) := R2
      replace R3 : RowAt wr.drew (w.heap.size + 1 + 1) .u32 64 148 (expA bl k) := R3
      replace HB := HB.drew
      generalize wr.drew = w2 at *
      have f0 := R3.free k
      have c0 := R3.cell k (by omega)
      go_wp2
      go_roundw
      case rel => exact ⟨k + 1, by omega, by go_num, R1.other _ _ (by simp; omega), R2.other _ _ (by simp), R3.set k _, HB.setCell (by simp; omega) _⟩
      case measure => simp [intOf]; omega
    · have H16 := Lib.hid (show k = 16 by omega)
      replace R3 : RowAt wr (w.heap.size + 1 + 1) .u32 64 148 (expA bl 16) := by rw [← H16.out]; exact R3
      go_wp2
      go_loopw [45] (fun i wr => ∃ k : Nat, k ≤ 48 ∧ i = .int .i64 k ∧ RowAt wr w.heap.size .u8 64 187 bl ∧ RowAt wr (w.heap.size + 1) .u32 64 148 (fun _ => 0) ∧ RowAt wr (w.heap.size + 1 + 1) .u32 64 148 (expB bl k) ∧ Below w.heap.size w wr)
        (fun i _ => 48 - (intOf i).toNat)
      case atStart => exact ⟨0, by omega, rfl, R1, R2, R3, HB⟩
      case round =>
        clear R1 R2 R3 HB hk hlt
        obtain ⟨q, hk, rfl, R1, R2, R3, HB⟩ := hrel
        by_cases hlt : q < 48
        · have c0 := R3.cell (q + 1) (by omega)
          have c1 := R3.cell (q + 14) (by omega)
          have c2 := R3.cell q (by omega)
          have c3 := R3.cell (q + 9) (by omega)
          have c4 := R3.cell (q + 16) (by omega)
          have f0 := R3.free (q + 16)
          go_wp2
          have m0 : IntKind.i64.wrap ((q : Int) + 1) = q + 1 := IntWalk.i64_in _ (by omega)
          have m1 : IntKind.i64.wrap ((q : Int) + 14) = q + 14 := IntWalk.i64_in _ (by omega)
          have n0 : ((q : Int) + 1).toNat = q + 1 := by omega
          have n1 : ((q : Int) + 14).toNat = q + 14 := by omega
          have p0 : 0 ≤ ((q : Int) + 1) := by omega
          have p1 : 0 ≤ ((q : Int) + 14) := by omega
          have q0 : (q : Int) + 1 < 64 := by omega
          have q1 : (q : Int) + 14 < 64 := by omega
          go_quiet (fail)
          go_wp2_with (first | (go_at_call 176; (with_reducible refine (rot7 _ _).mono ?_); rintro e w' ⟨rfl, rfl⟩) | (go_at_call 176; (with_reducible refine (rot18 _ _).mono ?_); rintro e w' ⟨rfl, rfl⟩) | (go_at_call 176; (with_reducible refine (rot17 _ _).mono ?_); rintro e w' ⟨rfl, rfl⟩) | (go_at_call 176; (with_reducible refine (rot19 _ _).mono ?_); rintro e w' ⟨rfl, rfl⟩))
          clear m0 m1 n0 n1 p0 p1 q0 q1 c0 c1 c2 c3 c4 f0
          replace R1 : RowAt (wr.drewN nq) w.heap.size .u8 64 187 bl := R1
          replace R2 : RowAt (wr.drewN nq) (w.heap.size + 1) .u32 64 148 (fun _ => 0) := R2
          replace R3 : RowAt (wr.drewN nq) (w.heap.size + 1 + 1) .u32 64 148 (expB bl q) := R3
          replace HB : Below w.heap.size w (wr.drewN nq) := ⟨HB.os, HB.tape, HB.output, HB.size, HB.block⟩
          generalize wr.drewN nq = w2 at *
          have c2 := R3.cell q (by omega)
          have c3 := R3.cell (q + 9) (by omega)
          have m0 : IntKind.i64.wrap ((q : Int) + 16) = q + 16 := IntWalk.i64_in _ (by omega)
          have m1 : IntKind.i64.wrap ((q : Int) + 9) = q + 9 := IntWalk.i64_in _ (by omega)
          have n0 : ((q : Int) + 16).toNat = q + 16 := by omega
          have n1 : ((q : Int) + 9).toNat = q + 9 := by omega
          have p0 : 0 ≤ ((q : Int) + 16) := by omega
          have p1 : 0 ≤ ((q : Int) + 9) := by omega
          have q0 : (q : Int) + 16 < 64 := by omega
          have q1 : (q : Int) + 9 < 64 := by omega
          have q2 : (q : Int) < 64 := by omega
          go_still_tail 15, (by kernel_rfl)
          change wpList _ _ _ _ _ w2.drew
          clear m0 m1 n0 n1 p0 p1 q0 q1 q2 c2 c3
          replace R1 : RowAt w2.drew w.heap.size .u8 64 187 bl := R1
          replace R2 : RowAt w2.drew (w.heap.size + 1) .u32 64 148 (fun _ => 0) := R2
          replace R3 : RowAt w2.drew (w.heap.size + 1 + 1) .u32 64 148 (expB bl q) := R3
          replace HB := HB.drew
          generalize w2.drew = w3 at *
          have f0 := R3.free (q + 16)
          have c0 := R3.cell (q + 16) (by omega)
          go_wp2
          go_roundw
          case rel =>
            have R4 := R3.set (q + 16) (nextW (expB bl q) q)
            exact ⟨q + 1, by omega, by go_num, R1.other _ _ (by simp; omega), R2.other _ _ (by simp), R4, HB.setCell (by simp; omega) _⟩
          case measure => simp [intOf]; omega
        · replace R3 : RowAt wr (w.heap.size + 1 + 1) .u32 64 148 (expB bl 48) := by rw [show (48 : Nat) = q by omega]; exact R3
          go_wp2_with (first | (refine wpList_load_row rfl 148 (.tmp 3) rfl _ rfl 148 _ (0,0) _ R3 Tryz.underlying148 rfl (by rw [rowOf_size]; kernel_rfl) ?_) | (refine wpList_store_row rfl 148 (.tmp 2) (.tmp 88) rfl _ _ rfl rfl 148 _ R2 (by rw [rowOf_size]; kernel_rfl) (by rw [rowOf_size, rowOf_size]) (rowOf_one _ _ _) ?_))
          refine bodyPost_ret (results_cell_row rfl _ _ (w.heap.size + 1) 148 (rowOf .u32 64 (expB bl 48)) (0, 0) _ rfl (setRow_heap _ _ _ _ _ _ R2) Tryz.underlying148 rfl (by rw [rowOf_size]; kernel_rfl)) rfl ?_
          exact ⟨rfl, below_setRow HB (by omega) _⟩
end Go.Proofs.YteokgklfljhcaaaGreatDoor
