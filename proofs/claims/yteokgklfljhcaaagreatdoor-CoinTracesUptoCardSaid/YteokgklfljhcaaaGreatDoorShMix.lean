/- mix: one block more. -/
import Derived.Test.YteokgklfljhcaaaGreatDoorShRot
import Derived.Deep.WholeRow
namespace Go.Proofs.YteokgklfljhcaaaGreatDoor
open Go.RowKit
def KT (i : Nat) : Int := (([1116352408, 1899447441, 3049323471, 3921009573, 961987163, 1508970993, 2453635748, 2870763221, 3624381080, 310598401, 607225278, 1426881987, 1925078388, 2162078206, 2614888103, 3248222580, 3835390401, 4022224774, 264347078, 604807628, 770255983, 1249150122, 1555081692, 1996064986, 2554220882, 2821834349, 2952996808, 3210313671, 3336571891, 3584528711, 113926993, 338241895, 666307205, 773529912, 1294757372, 1396182291, 1695183700, 1986661051, 2177026350, 2456956037, 2730485921, 2820302411, 3259730800, 3345764771, 3516065817, 3600352804, 4094571909, 275423344, 430227734, 506948616, 659060556, 883997877, 958139571, 1322822218, 1537002063, 1747873779, 1955562222, 2024104815, 2227730452, 2361852424, 2428436474, 2756734187, 3204031479, 3329325298] : List Nat).getD i 0 : Nat)
/-- the table of constants lies in block 1 -/
def Consts (w : World) : Prop := ∀ i, i < 64 → w.cell? ⟨2, i, none⟩ = some (.int .u32 (KT i))
theorem Consts.below {w w' : World} {B : Nat} (h : Consts w) (hb : Below B w w') (h1 : 2 < B) : Consts w' := fun i hi => (hb.cell (p := ⟨2, i, none⟩) h1).trans (h i hi)
theorem Consts.lt {w : World} (h : Consts w) : 2 < w.heap.size := block_lt_of_cell (h 0 (by decide))
theorem shSize_alloc (w : World) (o : Obj) : (w.alloc o).heap.size = w.heap.size + 1 := by simp
theorem zeros8 : (#[Value.int IntKind.u32 0, Value.int IntKind.u32 0, Value.int IntKind.u32 0, Value.int IntKind.u32 0, Value.int IntKind.u32 0, Value.int IntKind.u32 0, Value.int IntKind.u32 0, Value.int IntKind.u32 0] : Array Value) = rowOf .u32 8 (fun _ => 0) := by rfl
/-- what mix knows of memory behind its first two rows -/
def MixMem (w w' : World) (s : Nat → Int) (g : Nat) (e : Nat → Int) : Prop :=
  RowAt w' w.heap.size .u32 8 149 s ∧ RowAt w' (w.heap.size + 1 + 1) .u32 8 149 (fun _ => 0) ∧ RowAt w' g .u32 64 148 e ∧ w.heap.size + 1 + 1 < g ∧ Below w.heap.size w w' ∧ Consts w'
theorem mix_mem1 (w w' : World) (s bl e : Nat → Int) (hk : Consts w)
    (hb : Below (((w.alloc (.cells (rowOf .u32 8 s) 149)).alloc (.cells (rowOf .u8 64 bl) 187)).alloc (.cells (rowOf .u32 8 (fun _ => 0)) 149)).heap.size
      (((w.alloc (.cells (rowOf .u32 8 s) 149)).alloc (.cells (rowOf .u8 64 bl) 187)).alloc (.cells (rowOf .u32 8 (fun _ => 0)) 149)) w') :
    MixMem w (w'.alloc (.cells (rowOf .u32 64 e) 148)) s w'.heap.size e := by
  have hz := hb.size
  simp only [shSize_alloc] at hz
  have h0 : Below w.heap.size w w' := (((below_alloc w _).trans ((below_alloc _ _).mono (by simp))).trans ((below_alloc _ _).mono (by simp; omega))).trans (hb.mono (by simp; omega))
  refine ⟨RowAt.alloc (RowAt.below (((RowAt.new w _ _ _ _).alloc _).alloc _) hb (by simp; omega)) _, ?_, RowAt.new _ _ _ _ _, by omega, h0.alloc (by omega) _, ?_⟩
  · have := (RowAt.new ((w.alloc (.cells (rowOf .u32 8 s) 149)).alloc (.cells (rowOf .u8 64 bl) 187)) .u32 8 149 (fun _ => 0)).below hb (by simp)
    have h2 := this.alloc (.cells (rowOf .u32 64 e) 148)
    simpa only [shSize_alloc] using h2
  · exact (hk.below h0 hk.lt).below (below_alloc _ _) (by have := hk.lt; have := h0.size; omega)
/-- one round: k its constant, w its word -/
def firstF (k w : Int) (t : Nat → Int) : Int :=
  t 7 + bits BinOp.xor IntKind.u32 (bits BinOp.xor IntKind.u32 (rotI (t 4) 26) (rotI (t 4) 21)) (rotI (t 4) 7) +
    bits BinOp.xor IntKind.u32 (bits BinOp.and IntKind.u32 (t 4) (t 5)) (bits BinOp.and IntKind.u32 (bits BinOp.xor IntKind.u32 IntKind.u32.max (t 4)) (t 6)) + k + w
def roundF (k w : Int) (t : Nat → Int) : Nat → Int
  | 0 => ((firstF k w t + bits BinOp.xor IntKind.u32 (bits BinOp.xor IntKind.u32 (rotI (t 0) 30) (rotI (t 0) 19)) (rotI (t 0) 10)) % 4294967296 +
      bits BinOp.xor IntKind.u32 (bits BinOp.xor IntKind.u32 (bits BinOp.and IntKind.u32 (t 0) (t 1)) (bits BinOp.and IntKind.u32 (t 0) (t 2))) (bits BinOp.and IntKind.u32 (t 1) (t 2))) % 4294967296
  | 1 => t 0
  | 2 => t 1
  | 3 => t 2
  | 4 => (t 3 + firstF k w t % 4294967296) % 4294967296
  | 5 => t 4
  | 6 => t 5
  | 7 => t 6
  | _ => 0
def rnd (e s : Nat → Int) : Nat → Nat → Int
  | 0 => s
  | k + 1 => roundF (KT k) (e k) (rnd e s k)
def addF (s t : Nat → Int) : Nat → Int := fun i => (s i + t i) % 4294967296
/-- the state after one more block -/
def mixF (s bl : Nat → Int) : Nat → Int := addF s (rnd (expB bl 48) s 64)
set_option maxRecDepth 100000 in
set_option maxHeartbeats 400000 in
theorem mix_any (s bl : Nat → Int) (w : World) (hk : Consts w) :
    Calls Tryz.prog 144 #[.agg (rowOf .u32 8 s), .agg (rowOf .u8 64 bl)] w fun e w' => e = .returned (.agg (rowOf .u32 8 (mixF s bl))) ∧ Below w.heap.size w w' := by
  have HK := Lib.hid hk
  clear hk
  go_enter Tryz.func144, Tryz.ntmps144
  have hl : ∀ X Y : Obj, ((w.alloc X).alloc (.cells (rowOf .u8 64 bl) 187)).alloc Y |>.heap[w.heap.size + 1]? = some (.cells (rowOf .u8 64 bl) 187 (0, 0)) := fun X Y => by
    have := (RowAt.new (w.alloc X) .u8 64 187 bl).alloc Y
    rw [shSize_alloc] at this
    exact this
  replace hl := Lib.hid hl
  go_wp2_with (first
    | (refine wpList_load_row rfl 187 (.tmp 3) rfl (w.heap.size + 1) rfl 187 (rowOf .u8 64 bl) (0, 0) _ (hl.out _ _) Tryz.underlying187 rfl (by rw [rowOf_size]; kernel_rfl) ?_)
    | (go_at_call 175; refine (expand_any _ _).mono ?_; rintro e w' ⟨rfl, HB⟩; rw [zeros8] at HB; replace HB := Lib.hid HB)
    | (refine wpList_store_row rfl 148 (.tmp 5) (.tmp 20) rfl w'.heap.size (rowOf .u32 64 (expB bl 48)) rfl rfl 148 _ (heap_alloc_new _ _) (by rw [rowOf_size]; kernel_rfl) (by rw [rowOf_size]; rfl) (rowOf_one _ _ _) ?_; rw [World.setRow_alloc_new]; have M := mix_mem1 w w' s bl (expB bl 48) HK.out HB.out; clear HB; generalize w'.alloc (.cells (rowOf .u32 64 (expB bl 48)) 148) = w2 at *; generalize w'.heap.size = g at *; clear w'; obtain ⟨R0, R2, RW, hg, HB, HC⟩ := M; simp only [Act.put]))
  have c0 := R0.cell 0 (by omega)
  have c1 := R0.cell 1 (by omega)
  have c2 := R0.cell 2 (by omega)
  have c3 := R0.cell 3 (by omega)
  have c4 := R0.cell 4 (by omega)
  have c5 := R0.cell 5 (by omega)
  have c6 := R0.cell 6 (by omega)
  have c7 := R0.cell 7 (by omega)
  go_quiet (fail)
  clear c0 c1 c2 c3 c4 c5 c6 c7
  replace R0 : RowAt (w2.drewN nq) w.heap.size .u32 8 149 s := R0
  replace R2 : RowAt (w2.drewN nq) (w.heap.size + 1 + 1) .u32 8 149 (fun _ => 0) := R2
  replace RW : RowAt (w2.drewN nq) g .u32 64 148 (expB bl 48) := RW
  replace HB : Below w.heap.size w (w2.drewN nq) := ⟨HB.os, HB.tape, HB.output, HB.size, HB.block⟩
  replace HC : Consts (w2.drewN nq) := HC
  generalize w2.drewN nq = w3 at *
  go_wp2
  go_loopw [6, 7, 8, 9, 10, 11, 12, 13, 37] (fun a b c d e f u v i wr => ∃ k : Nat, k ≤ 64 ∧ i = .int .i64 k ∧ a = .int .u32 (rnd (expB bl 48) s k 0) ∧ b = .int .u32 (rnd (expB bl 48) s k 1) ∧ c = .int .u32 (rnd (expB bl 48) s k 2) ∧ d = .int .u32 (rnd (expB bl 48) s k 3)
      ∧ e = .int .u32 (rnd (expB bl 48) s k 4) ∧ f = .int .u32 (rnd (expB bl 48) s k 5) ∧ u = .int .u32 (rnd (expB bl 48) s k 6) ∧ v = .int .u32 (rnd (expB bl 48) s k 7)
      ∧ RowAt wr w.heap.size .u32 8 149 s ∧ RowAt wr (w.heap.size + 1 + 1) .u32 8 149 (fun _ => 0) ∧ RowAt wr g .u32 64 148 (expB bl 48) ∧ Below w.heap.size w wr ∧ Consts wr)
    (fun _ _ _ _ _ _ _ _ i _ => 64 - (intOf i).toNat)
  case atStart => exact ⟨0, by omega, rfl, rfl, rfl, rfl, rfl, rfl, rfl, rfl, rfl, R0, R2, RW, HB, HC⟩
  case round =>
    clear R0 R2 RW HB HC
    obtain ⟨k, hk, rfl, rfl, rfl, rfl, rfl, rfl, rfl, rfl, rfl, R0, R2, RW, HB, HC⟩ := hrel
    by_cases hlt : k < 64
    · have c0 := RW.cell k hlt
      have c1 := HC k hlt
      have q2 : (k : Int) < 64 := by omega
      go_wp2_with (first | (go_at_call 176; (with_reducible refine (rot6 _ _).mono ?_); rintro e w' ⟨rfl, rfl⟩) | (go_at_call 176; (with_reducible refine (rot11 _ _).mono ?_); rintro e w' ⟨rfl, rfl⟩) | (go_at_call 176; (with_reducible refine (rot25 _ _).mono ?_); rintro e w' ⟨rfl, rfl⟩))
      go_quiet (fail)
      go_wp2_with (first | (go_at_call 176; (with_reducible refine (rot2 _ _).mono ?_); rintro e w' ⟨rfl, rfl⟩) | (go_at_call 176; (with_reducible refine (rot13 _ _).mono ?_); rintro e w' ⟨rfl, rfl⟩) | (go_at_call 176; (with_reducible refine (rot22 _ _).mono ?_); rintro e w' ⟨rfl, rfl⟩))
      go_roundw
      case rel => exact ⟨k + 1, by omega, by go_num, rfl, rfl, rfl, rfl, rfl, rfl, rfl, rfl, R0, R2, RW, ⟨HB.os, HB.tape, HB.output, HB.size, HB.block⟩, HC⟩
      case measure => simp [intOf]; omega
    · have H64 := Lib.hid (show k = 64 by omega)
      have c0 := R0.cell 0 (by omega)
      have c1 := R0.cell 1 (by omega)
      have c2 := R0.cell 2 (by omega)
      have c3 := R0.cell 3 (by omega)
      have c4 := R0.cell 4 (by omega)
      have c5 := R0.cell 5 (by omega)
      have c6 := R0.cell 6 (by omega)
      have c7 := R0.cell 7 (by omega)
      clear hk
      go_wp2_with (refine wpList_store_row rfl 149 (.tmp 4) (.tmp 135) rfl (w.heap.size + 1 + 1) (rowOf .u32 8 (addF s (rnd (expB bl 48) s k))) rfl rfl 149 _ R2 (by rw [rowOf_size]; kernel_rfl) (by rw [rowOf_size, rowOf_size]) (rowOf_one _ _ _) ?_)
      refine bodyPost_ret (results_cell_row rfl _ _ (w.heap.size + 1 + 1) 149 (rowOf .u32 8 (addF s (rnd (expB bl 48) s k))) (0, 0) _ rfl (setRow_heap _ _ _ _ _ _ R2) Tryz.underlying149 rfl (by rw [rowOf_size]; kernel_rfl)) rfl ?_
      exact ⟨by rw [H64.out]; rfl, below_setRow HB (by omega) _⟩
end Go.Proofs.YteokgklfljhcaaaGreatDoor
