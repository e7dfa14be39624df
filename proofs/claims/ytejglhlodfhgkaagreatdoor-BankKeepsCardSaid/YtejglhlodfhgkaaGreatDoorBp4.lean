/- Part 4 of the proof. -/
import Derived.Deep.WholeRow
import Derived.Lib.SliceRun
import Derived.Deep.CutRange
import Derived.Deep.RegionWith
import Derived.Laws.CopyRow
import Derived.Test.YtejglhlodfhgkaaGreatDoorBp3
namespace Go.Proofs.YtejglhlodfhgkaaGreatDoor
set_option linter.unusedVariables false
set_option linter.unusedSimpArgs false
open Go.RowKit
def KT (i : Nat) : Int := (([1116352408, 1899447441, 3049323471, 3921009573, 961987163, 1508970993, 2453635748, 2870763221, 3624381080, 310598401, 607225278, 1426881987, 1925078388, 2162078206, 2614888103, 3248222580, 3835390401, 4022224774, 264347078, 604807628, 770255983, 1249150122, 1555081692, 1996064986, 2554220882, 2821834349, 2952996808, 3210313671, 3336571891, 3584528711, 113926993, 338241895, 666307205, 773529912, 1294757372, 1396182291, 1695183700, 1986661051, 2177026350, 2456956037, 2730485921, 2820302411, 3259730800, 3345764771, 3516065817, 3600352804, 4094571909, 275423344, 430227734, 506948616, 659060556, 883997877, 958139571, 1322822218, 1537002063, 1747873779, 1955562222, 2024104815, 2227730452, 2361852424, 2428436474, 2756734187, 3204031479, 3329325298] : List Nat).getD i 0 : Nat)
/-- the table of constants lies in block 1 -/
def Consts (w : World) : Prop := ∀ i, i < 64 → w.cell? ⟨3, i, none⟩ = some (.int .u32 (KT i))
theorem Consts.below {w w' : World} {B : Nat} (h : Consts w) (hb : Below B w w') (h1 : 3 < B) : Consts w' := fun i hi => (hb.cell (p := ⟨3, i, none⟩) h1).trans (h i hi)
theorem Consts.lt {w : World} (h : Consts w) : 3 < w.heap.size := block_lt_of_cell (h 0 (by decide))
theorem shSize_alloc (w : World) (o : Obj) : (w.alloc o).heap.size = w.heap.size + 1 := by simp
theorem zeros8 : (#[Value.int IntKind.u32 0, Value.int IntKind.u32 0, Value.int IntKind.u32 0, Value.int IntKind.u32 0, Value.int IntKind.u32 0, Value.int IntKind.u32 0, Value.int IntKind.u32 0, Value.int IntKind.u32 0] : Array Value) = rowOf .u32 8 (fun _ => 0) := by rfl
/-- what mix knows of memory behind its first two rows -/
def MixMem (w w' : World) (s : Nat → Int) (g : Nat) (e : Nat → Int) : Prop :=
  RowAt w' w.heap.size .u32 8 217 s ∧ RowAt w' (w.heap.size + 1 + 1) .u32 8 217 (fun _ => 0) ∧ RowAt w' g .u32 64 216 e ∧ w.heap.size + 1 + 1 < g ∧ Below w.heap.size w w' ∧ Consts w'
theorem mix_mem1 (w w' : World) (s bl e : Nat → Int) (hk : Consts w)
    (hb : Below (((w.alloc (.cells (rowOf .u32 8 s) 217)).alloc (.cells (rowOf .u8 64 bl) 280)).alloc (.cells (rowOf .u32 8 (fun _ => 0)) 217)).heap.size
      (((w.alloc (.cells (rowOf .u32 8 s) 217)).alloc (.cells (rowOf .u8 64 bl) 280)).alloc (.cells (rowOf .u32 8 (fun _ => 0)) 217)) w') :
    MixMem w (w'.alloc (.cells (rowOf .u32 64 e) 216)) s w'.heap.size e := by
  have hz := hb.size
  simp only [shSize_alloc] at hz
  have h0 : Below w.heap.size w w' := (((below_alloc w _).trans ((below_alloc _ _).mono (by simp))).trans ((below_alloc _ _).mono (by simp; omega))).trans (hb.mono (by simp; omega))
  refine ⟨RowAt.alloc (RowAt.below (((RowAt.new w _ _ _ _).alloc _).alloc _) hb (by simp; omega)) _, ?_, RowAt.new _ _ _ _ _, by omega, h0.alloc (by omega) _, ?_⟩
  · have := (RowAt.new ((w.alloc (.cells (rowOf .u32 8 s) 217)).alloc (.cells (rowOf .u8 64 bl) 280)) .u32 8 217 (fun _ => 0)).below hb (by simp)
    have h2 := this.alloc (.cells (rowOf .u32 64 e) 216)
    simpa only [shSize_alloc] using h2
  · exact (hk.below h0 hk.lt).below (below_alloc _ _) (by have := hk.lt; have := h0.size; omega)
/-- one round: k its constant, w its word -/
def firstF (k w : Int) (t : Nat → Int) : Int :=
  t 7 + bits BinOp.xor IntKind.u32 (bits BinOp.xor IntKind.u32 (rotI (t 4) 26) (rotI (t 4) 21)) (rotI (t 4) 7) +
    bits BinOp.xor IntKind.u32 (bits BinOp.and IntKind.u32 (t 4) (t 5)) (bits BinOp.and IntKind.u32 (bits BinOp.xor IntKind.u32 IntKind.u32.max (t 4)) (t 6)) + k + w
def roundF (k w : Int) (t : Nat → Int) : Nat → Int
  | 0 => ((firstF k w t + bits BinOp.xor IntKind.u32 (bits BinOp.xor IntKind.u32 (rotI (t 0) 30) (rotI (t 0) 19)) (rotI (t 0) 10)) % 4294967296 +
      bits BinOp.xor IntKind.u32 (bits BinOp.xor IntKind.u32 (bits BinOp.and IntKind.u32 (t 0) (t 1)) (bits BinOp.and IntKind.u32 (t 0) (t 2))) (bits BinOp.and IntKind.u32 (t 1) (t 2))) % 4294967296
  | 1 => t 0
  | 2 => t 1
  | 3 => t 2
  | 4 => (t 3 + firstF k w t % 4294967296) % 4294967296
  | 5 => t 4
  | 6 => t 5
  | 7 => t 6
  | _ => 0
def rnd (e s : Nat → Int) : Nat → Nat → Int
  | 0 => s
  | k + 1 => roundF (KT k) (e k) (rnd e s k)
def addF (s t : Nat → Int) : Nat → Int := fun i => (s i + t i) % 4294967296
/-- the state after one more block -/
def mixF (s bl : Nat → Int) : Nat → Int := addF s (rnd (expB bl 48) s 64)
set_option maxRecDepth 100000 in
set_option maxHeartbeats 400000 in
theorem mix_any (s bl : Nat → Int) (w : World) (hk : Consts w) :
    Calls Tryz.prog 200 #[.agg (rowOf .u32 8 s), .agg (rowOf .u8 64 bl)] w fun e w' => e = .returned (.agg (rowOf .u32 8 (mixF s bl))) ∧ Below w.heap.size w w' := by
  have HK := Lib.hid hk
  clear hk
  go_enter Tryz.func200, Tryz.ntmps200
  have hl : ∀ X Y : Obj, ((w.alloc X).alloc (.cells (rowOf .u8 64 bl) 280)).alloc Y |>.heap[w.heap.size + 1]? = some (.cells (rowOf .u8 64 bl) 280 (0, 0)) := fun X Y => by
    have := (RowAt.new (w.alloc X) .u8 64 280 bl).alloc Y
    rw [shSize_alloc] at this
    exact this
  replace hl := Lib.hid hl
  go_wp2_with (first
    | (refine wpList_load_row rfl 280 (.tmp 3) rfl (w.heap.size + 1) rfl 280 (rowOf .u8 64 bl) (0, 0) _ (hl.out _ _) Tryz.underlying280 rfl (by rw [rowOf_size]; kernel_rfl) ?_)
    | (go_at_call 233; refine (expand_any _ _).mono ?_; rintro e w' ⟨rfl, HB⟩; rw [zeros8] at HB; replace HB := Lib.hid HB)
    | (refine wpList_store_row rfl 216 (.tmp 5) (.tmp 20) rfl w'.heap.size (rowOf .u32 64 (expB bl 48)) rfl rfl 216 _ (heap_alloc_new _ _) (by rw [rowOf_size]; kernel_rfl) (by rw [rowOf_size]; rfl) (rowOf_one _ _ _) ?_; rw [World.setRow_alloc_new]; have M := mix_mem1 w w' s bl (expB bl 48) HK.out HB.out; clear HB; generalize w'.alloc (.cells (rowOf .u32 64 (expB bl 48)) 216) = w2 at *; generalize w'.heap.size = g at *; clear w'; obtain ⟨R0, R2, RW, hg, HB, HC⟩ := M; simp only [Act.put]))
  have c0 := R0.cell 0 (by omega)
  have c1 := R0.cell 1 (by omega)
  have c2 := R0.cell 2 (by omega)
  have c3 := R0.cell 3 (by omega)
  have c4 := R0.cell 4 (by omega)
  have c5 := R0.cell 5 (by omega)
  have c6 := R0.cell 6 (by omega)
  have c7 := R0.cell 7 (by omega)
  go_quiet (fail)
  clear c0 c1 c2 c3 c4 c5 c6 c7
  replace R0 : RowAt (w2.drewN nq) w.heap.size .u32 8 217 s := R0
  replace R2 : RowAt (w2.drewN nq) (w.heap.size + 1 + 1) .u32 8 217 (fun _ => 0) := R2
  replace RW : RowAt (w2.drewN nq) g .u32 64 216 (expB bl 48) := RW
  replace HB : Below w.heap.size w (w2.drewN nq) := ⟨HB.os, HB.tape, HB.output, HB.size, HB.block⟩
  replace HC : Consts (w2.drewN nq) := HC
  generalize w2.drewN nq = w3 at *
  go_wp2
  go_loopw [6, 7, 8, 9, 10, 11, 12, 13, 37] (fun a b c d e f u v i wr => ∃ k : Nat, k ≤ 64 ∧ i = .int .i64 k ∧ a = .int .u32 (rnd (expB bl 48) s k 0) ∧ b = .int .u32 (rnd (expB bl 48) s k 1) ∧ c = .int .u32 (rnd (expB bl 48) s k 2) ∧ d = .int .u32 (rnd (expB bl 48) s k 3)
      ∧ e = .int .u32 (rnd (expB bl 48) s k 4) ∧ f = .int .u32 (rnd (expB bl 48) s k 5) ∧ u = .int .u32 (rnd (expB bl 48) s k 6) ∧ v = .int .u32 (rnd (expB bl 48) s k 7)
      ∧ RowAt wr w.heap.size .u32 8 217 s ∧ RowAt wr (w.heap.size + 1 + 1) .u32 8 217 (fun _ => 0) ∧ RowAt wr g .u32 64 216 (expB bl 48) ∧ Below w.heap.size w wr ∧ Consts wr)
    (fun _ _ _ _ _ _ _ _ i _ => 64 - (intOf i).toNat)
  case atStart => exact ⟨0, by omega, rfl, rfl, rfl, rfl, rfl, rfl, rfl, rfl, rfl, R0, R2, RW, HB, HC⟩
  case round =>
    clear R0 R2 RW HB HC
    obtain ⟨k, hk, rfl, rfl, rfl, rfl, rfl, rfl, rfl, rfl, rfl, R0, R2, RW, HB, HC⟩ := hrel
    by_cases hlt : k < 64
    · have c0 := RW.cell k hlt
      have c1 := HC k hlt
      have q2 : (k : Int) < 64 := by omega
      go_wp2_with (first | (go_at_call 234; (with_reducible refine (rot6 _ _).mono ?_); rintro e w' ⟨rfl, rfl⟩) | (go_at_call 234; (with_reducible refine (rot11 _ _).mono ?_); rintro e w' ⟨rfl, rfl⟩) | (go_at_call 234; (with_reducible refine (rot25 _ _).mono ?_); rintro e w' ⟨rfl, rfl⟩))
      go_quiet (fail)
      go_wp2_with (first | (go_at_call 234; (with_reducible refine (rot2 _ _).mono ?_); rintro e w' ⟨rfl, rfl⟩) | (go_at_call 234; (with_reducible refine (rot13 _ _).mono ?_); rintro e w' ⟨rfl, rfl⟩) | (go_at_call 234; (with_reducible refine (rot22 _ _).mono ?_); rintro e w' ⟨rfl, rfl⟩))
      go_roundw
      case rel => exact ⟨k + 1, by omega, by go_num, rfl, rfl, rfl, rfl, rfl, rfl, rfl, rfl, R0, R2, RW, ⟨HB.os, HB.tape, HB.output, HB.size, HB.block⟩, HC⟩
      case measure => simp [intOf]; omega
    · have H64 := Lib.hid (show k = 64 by omega)
      have c0 := R0.cell 0 (by omega)
      have c1 := R0.cell 1 (by omega)
      have c2 := R0.cell 2 (by omega)
      have c3 := R0.cell 3 (by omega)
      have c4 := R0.cell 4 (by omega)
      have c5 := R0.cell 5 (by omega)
      have c6 := R0.cell 6 (by omega)
      have c7 := R0.cell 7 (by omega)
      clear hk
      go_wp2_with (refine wpList_store_row rfl 217 (.tmp 4) (.tmp 135) rfl (w.heap.size + 1 + 1) (rowOf .u32 8 (addF s (rnd (expB bl 48) s k))) rfl rfl 217 _ R2 (by rw [rowOf_size]; kernel_rfl) (by rw [rowOf_size, rowOf_size]) (rowOf_one _ _ _) ?_)
      refine bodyPost_ret (results_cell_row rfl _ _ (w.heap.size + 1 + 1) 217 (rowOf .u32 8 (addF s (rnd (expB bl 48) s k))) (0, 0) _ rfl (setRow_heap _ _ _ _ _ _ R2) Tryz.underlying217 rfl (by rw [rowOf_size]; kernel_rfl)) rfl ?_
      exact ⟨by rw [H64.out]; rfl, below_setRow HB (by omega) _⟩
end Go.Proofs.YtejglhlodfhgkaaGreatDoor
namespace Go.Proofs.YtejglhlodfhgkaaGreatDoor
set_option linter.unusedVariables false
set_option linter.unusedSimpArgs false
open Go.RowKit
def clr (f : Nat → Int) (o m : Nat) : Nat → Int := fun i => if o ≤ i ∧ i < o + m then 0 else f i
theorem RowAt.clear {g n : Nat} {k : IntKind} {t : TypeId} : ∀ (m o : Nat) (f : Nat → Int) (w : World), RowAt w g k n t f → RowAt (w.setCells g o (List.replicate m (.int k 0))) g k n t (clr f o m)
  | 0, o, f, w, h => by
    have : clr f o 0 = f := by funext i; unfold clr; rw [if_neg (by omega)]
    rw [this]; exact h
  | m + 1, o, f, w, h => by
    have := RowAt.clear m (o + 1) _ _ (h.set o 0)
    have e : clr (upd f o 0) (o + 1) m = clr f o (m + 1) := by
      funext i
      unfold clr upd
      by_cases h1 : o + 1 ≤ i ∧ i < o + 1 + m
      · rw [if_pos h1, if_pos (by omega)]
      · rw [if_neg h1]
        by_cases h2 : i = o
        · rw [if_pos h2, if_pos (by omega)]
        · rw [if_neg h2, if_neg (by omega)]
    rw [e] at this
    exact this
theorem zeroU8 (w : World) : (zeroValue 5).run Tryz.prog w = .ok (.int .u8 0) w := by kernel_rfl
/-- what finish knows of memory: the state's row, the block's, the result's -/
structure FM (w w' : World) (s f r : Nat → Int) : Prop where
  st : RowAt w' w.heap.size .u32 8 217 s
  bl : RowAt w' (w.heap.size + 1) .u8 64 280 f
  re : RowAt w' (w.heap.size + 1 + 1) .u32 8 217 r
  below : Below w.heap.size w w'
  consts : Consts w'
theorem FM.start (w : World) (s f : Nat → Int) (hk : Consts w) : FM w (((w.alloc (.cells (rowOf .u32 8 s) 217)).alloc (.cells (rowOf .u8 64 f) 280)).alloc (.cells (rowOf .u32 8 (fun _ => 0)) 217)) s f (fun _ => 0) := by
  have hb : Below w.heap.size w (((w.alloc (.cells (rowOf .u32 8 s) 217)).alloc (.cells (rowOf .u8 64 f) 280)).alloc (.cells (rowOf .u32 8 (fun _ => 0)) 217)) :=
    ((below_alloc w _).trans ((below_alloc _ _).mono (by simp))).trans ((below_alloc _ _).mono (by simp; omega))
  refine ⟨((RowAt.new w _ _ _ _).alloc _).alloc _, ?_, ?_, hb, hk.below hb hk.lt⟩
  · have := (RowAt.new (w.alloc (.cells (rowOf .u32 8 s) 217)) .u8 64 280 f).alloc (.cells (rowOf .u32 8 (fun _ => 0)) 217)
    rw [shSize_alloc] at this; exact this
  · have := RowAt.new ((w.alloc (.cells (rowOf .u32 8 s) 217)).alloc (.cells (rowOf .u8 64 f) 280)) .u32 8 217 (fun _ => 0)
    rw [shSize_alloc, shSize_alloc] at this; exact this
theorem FM.setB {w w' : World} {s f r : Nat → Int} (h : FM w w' s f r) (i : Nat) (v : Int) (hk : 3 < w.heap.size) : FM w (w'.setCell ⟨w.heap.size + 1, i, none⟩ (.int .u8 v)) s (upd f i v) r :=
  have hb : Below w.heap.size w' (w'.setCell ⟨w.heap.size + 1, i, none⟩ (.int .u8 v)) := (Below.refl _ _).setCell (by show w.heap.size ≤ w.heap.size + 1; omega) _
  ⟨h.st.other _ _ (by show w.heap.size ≠ w.heap.size + 1; omega), h.bl.set i v, h.re.other _ _ (by show w.heap.size + 1 + 1 ≠ w.heap.size + 1; omega), h.below.trans hb, h.consts.below hb hk⟩
theorem setCells_below (B b : Nat) (hb : B ≤ b) : ∀ (vs : List Value) (o : Nat) (w : World), Below B w (w.setCells b o vs)
  | [], _, _ => Below.refl _ _
  | v :: r, o, w => ((Below.refl B w).setCell (p := ⟨b, o, none⟩) hb v).trans (setCells_below B b hb r (o + 1) _)
theorem setCells_heap (b k : Nat) (hb : k ≠ b) : ∀ (vs : List Value) (o : Nat) (w : World), (w.setCells b o vs).heap[k]? = w.heap[k]?
  | [], _, _ => rfl
  | v :: r, o, w => by
    rw [World.setCells, setCells_heap b k hb r (o + 1) _]
    exact Below.heap_setCell w ⟨b, o, none⟩ v k hb
theorem FM.clearB {w w' : World} {s f r : Nat → Int} (h : FM w w' s f r) (o m : Nat) (hk : 3 < w.heap.size) : FM w (w'.setCells (w.heap.size + 1) o (List.replicate m (.int .u8 0))) s (clr f o m) r :=
  have hb : Below w.heap.size w' (w'.setCells (w.heap.size + 1) o (List.replicate m (.int .u8 0))) := setCells_below _ _ (by omega) _ _ _
  ⟨(setCells_heap _ _ (by omega) _ _ _).trans h.st, RowAt.clear m o f w' h.bl, (setCells_heap _ _ (by omega) _ _ _).trans h.re, h.below.trans hb, h.consts.below hb hk⟩
theorem FM.calls {w w' w2 : World} {s f r : Nat → Int} (h : FM w w' s f r) (hb : Below w'.heap.size w' w2) : FM w w2 s f r :=
  ⟨h.st.below hb h.st.lt, h.bl.below hb h.bl.lt, h.re.below hb h.re.lt, h.below.trans (hb.mono h.below.size), h.consts.below hb h.consts.lt⟩
theorem FM.setS {w w' : World} {s f r : Nat → Int} (h : FM w w' s f r) (s' : Nat → Int) (hk : 3 < w.heap.size) : FM w (w'.setRow w.heap.size (rowOf .u32 8 s')) s' f r :=
  have hb : Below w.heap.size w' (w'.setRow w.heap.size (rowOf .u32 8 s')) := below_setRow (Below.refl _ _) (Nat.le_refl _) _
  ⟨setRow_heap _ _ _ _ _ _ h.st, (setRow_other _ _ _ _ (by omega)).trans h.bl, (setRow_other _ _ _ _ (by omega)).trans h.re, h.below.trans hb, h.consts.below hb hk⟩
theorem slice64 (b : Nat) (u : Nat) (hu : u < 64) (o : Nat) (ho : o = if u = 63 then 0 else u + 1) (w : World) : (Instr.sliceAt 280 (.pointer (some ⟨b, 0, none⟩)) (some (.int .u64 ((u : Int) + 1))) none none).run Tryz.prog w
    = .ok (.slice (some ⟨b, o, none⟩) (63 - u) (63 - u)) w := by
  have ha : Tryz.prog.arrayLen 280 = 64 := by kernel_rfl
  have he : Tryz.prog.elem 280 = 5 := by kernel_rfl
  have hs : (sizeOf 5).run Tryz.prog w = .ok 1 w := by kernel_rfl
  rw [run_sliceAt_array_l w 280 ⟨b, 0, none⟩ (by rw [ha, he]; exact Tryz.underlying280) .u64 ((u : Int) + 1) (by omega) (by rw [ha]; omega), ha, he, hs]
  have e1 : ((u : Int) + 1).toNat = u + 1 := by omega
  simp only [Result.andThen_ok, slicedAt, e1]
  subst ho
  by_cases h : u = 63
  · subst h; rfl
  · rw [if_neg h, if_neg (by omega), show 64 - (u + 1) = 63 - u by omega, Addr.add_mid]; simp
theorem slice64all (b : Nat) (w : World) : (Instr.sliceAt 280 (.pointer (some ⟨b, 0, none⟩)) none none none).run Tryz.prog w = .ok (.slice (some ⟨b, 0, none⟩) 64 64) w := by
  have ha : Tryz.prog.arrayLen 280 = 64 := by kernel_rfl
  have he : Tryz.prog.elem 280 = 5 := by kernel_rfl
  have hs : (sizeOf 5).run Tryz.prog w = .ok 1 w := by kernel_rfl
  rw [run_sliceAt_array_all w 280 ⟨b, 0, none⟩ (by rw [ha, he]; exact Tryz.underlying280), ha, he, hs]
  simp only [Result.andThen_ok, slicedAt]
  rw [if_neg (by omega), Addr.add_mid]
theorem clear64 (w : World) (b o m c : Nat) (f : Nat → Int) (h : RowAt w b .u8 64 280 f) (hm : o + m ≤ 64) :
    (Builtin.clear_ #[25] 0 #[.slice (some ⟨b, o, none⟩) m c]).run Tryz.prog w = .ok (.tuple #[]) (w.setCells b o (List.replicate m (.int .u8 0))) := by
  rcases Nat.eq_zero_or_pos m with rfl | hn
  · simp [Builtin.clear_, run_underlying Tryz.underlying25, World.setCells]
  · exact Lib.run_clear_slice w 25 5 0 (.int .u8 0) Tryz.underlying25 zeroU8 rfl rfl b o m c hn (fun j hj => by rw [h.cell (o + j) (by omega)]; rfl) (fun j _ => h.free _)
/-- the block behind the padding's begin: a bit 1, noughts -/
def padB (bl : Nat → Int) (u : Nat) : Nat → Int := clr (upd bl u 128) (u + 1) (63 - u)
/-- the last k bytes of the block hold the number of bits -/
def lenF (f : Nat → Int) (n : Int) : Nat → Nat → Int
  | 0 => f
  | k + 1 => upd (lenF f n k) (63 - k) (IntKind.u64.wrap (n * 8) / 2 ^ (8 * k) % 256)
set_option maxRecDepth 100000 in
set_option maxHeartbeats 400000 in
theorem fin_lo (s bl : Nat → Int) (n : Int) (u : Nat) (hn0 : 0 ≤ n) (hn1 : n < 18446744073709551616) (hu : n % 64 = u) (h56 : u < 56) (w : World) (hk : Consts w) :
    Calls Tryz.prog 201 #[.agg (rowOf .u32 8 s), .agg (rowOf .u8 64 bl), .int .u64 n] w fun e w' => e = .returned (.agg (rowOf .u32 8 (mixF s (lenF (padB bl u) n 8)))) ∧ Below w.heap.size w w' := by
  have HW := Lib.hid hk.lt
  have HK := Lib.hid (FM.start w s bl hk)
  have HN := Lib.hid hn1
  clear hk hn1
  go_enter Tryz.func201, Tryz.ntmps201
  go_upto_region 2 with (fail)
  rw [zeros8]
  generalize ((w.alloc (.cells (rowOf .u32 8 s) 217)).alloc (.cells (rowOf .u8 64 bl) 280)).alloc (.cells (rowOf .u32 8 (fun _ => 0)) 217) = w1 at *
  have f0 := HK.out.bl.free u
  have c0 := HK.out.bl.cell u (by omega)
  go_upto_region 3 with (fail)
  replace HK := Lib.hid (HK.out.setB u 128 HW.out)
  generalize w1.setCell _ _ = w2 at *
  clear f0 c0
  have hsl := slice64 (w.heap.size + 1) u (by omega) (u + 1) (by rw [if_neg (by omega)])
  have hcl := clear64 w2 (w.heap.size + 1) (u + 1) (63 - u) (63 - u) _ HK.out.bl (by omega)
  go_upto_region 4 with (fail)
  replace HK : Hid (FM w _ s (padB bl u) _) := Lib.hid (HK.out.clearB (u + 1) (63 - u) HW.out)
  generalize w2.setCells _ _ _ = w3 at *
  clear hsl hcl w1 w2
  go_wp2_with (fail)
  go_loopw [23] (fun i wr => ∃ k : Nat, k ≤ 8 ∧ i = .int .i64 k ∧ Hid (FM w wr s (lenF (padB bl u) n k) (fun _ => 0))) (fun i _ => 8 - (intOf i).toNat)
  case atStart => exact ⟨0, by omega, rfl, HK⟩
  case round =>
    clear HK
    obtain ⟨k, hk, rfl, HK⟩ := hrel
    by_cases hlt : k < 8
    · have f0 := HK.out.bl.free (63 - k)
      have c0 := HK.out.bl.cell (63 - k) (by omega)
      have n0 : (63 - (k : Int)).toNat = 63 - k := by omega
      go_wp2_with (fail)
      go_roundw
      case rel => exact ⟨k + 1, by omega, by go_num, Lib.hid (HK.out.setB _ _ HW.out)⟩
      case measure => simp [intOf]; omega
    · replace HK : Hid (FM w wr s (lenF (padB bl u) n 8) (fun _ => 0)) := by rw [show (8 : Nat) = k by omega]; exact HK
      go_wp2_with (first
        | (refine wpList_load_row rfl 217 (.tmp 3) rfl w.heap.size rfl 217 _ (0, 0) _ HK.out.st Tryz.underlying217 rfl (by rw [rowOf_size]; kernel_rfl) ?_)
        | (refine wpList_load_row rfl 280 (.tmp 4) rfl (w.heap.size + 1) rfl 280 _ (0, 0) _ HK.out.bl Tryz.underlying280 rfl (by rw [rowOf_size]; kernel_rfl) ?_)
        | (go_at_call 200; refine (mix_any _ _ _ HK.out.consts).mono ?_; rintro e w' ⟨rfl, HB⟩; replace HB := Lib.hid HB)
        | (refine wpList_store_row rfl 217 (.tmp 6) (.tmp 38) rfl (w.heap.size + 1 + 1) _ rfl rfl 217 _ (HK.out.calls HB.out).re (by rw [rowOf_size]; kernel_rfl) (by rw [rowOf_size, rowOf_size]) (rowOf_one _ _ _) ?_))
      refine bodyPost_ret (results_cell_row rfl _ _ (w.heap.size + 1 + 1) 217 _ (0, 0) _ rfl (setRow_heap _ _ _ _ _ _ (HK.out.calls HB.out).re) Tryz.underlying217 rfl (by rw [rowOf_size]; kernel_rfl)) rfl ?_
      exact ⟨rfl, below_setRow (HK.out.calls HB.out).below (by omega) _⟩
set_option maxRecDepth 100000 in
set_option maxHeartbeats 400000 in
theorem fin_hi (s bl : Nat → Int) (n : Int) (u : Nat) (hn0 : 0 ≤ n) (hn1 : n < 18446744073709551616) (hu : n % 64 = u) (h56 : 56 ≤ u) (h64 : u < 64) (w : World) (hk : Consts w) :
    Calls Tryz.prog 201 #[.agg (rowOf .u32 8 s), .agg (rowOf .u8 64 bl), .int .u64 n] w fun e w' => e = .returned (.agg (rowOf .u32 8 (mixF (mixF s (padB bl u)) (lenF (clr (padB bl u) 0 64) n 8)))) ∧ Below w.heap.size w w' := by
  have HW := Lib.hid hk.lt
  have HK := Lib.hid (FM.start w s bl hk)
  have HN := Lib.hid hn1
  clear hk hn1
  go_enter Tryz.func201, Tryz.ntmps201
  go_upto_region 2 with (fail)
  rw [zeros8]
  generalize ((w.alloc (.cells (rowOf .u32 8 s) 217)).alloc (.cells (rowOf .u8 64 bl) 280)).alloc (.cells (rowOf .u32 8 (fun _ => 0)) 217) = w1 at *
  have f0 := HK.out.bl.free u
  have c0 := HK.out.bl.cell u (by omega)
  go_upto_region 3 with (fail)
  replace HK := Lib.hid (HK.out.setB u 128 HW.out)
  generalize w1.setCell _ _ = w2 at *
  clear f0 c0
  obtain ⟨o, ho⟩ : ∃ o, o = if u = 63 then 0 else u + 1 := ⟨_, rfl⟩
  have hsl := slice64 (w.heap.size + 1) u (by omega) o ho
  have hoo : o + (63 - u) ≤ 64 := by split at ho <;> omega
  have hcl := clear64 w2 (w.heap.size + 1) o (63 - u) (63 - u) _ HK.out.bl hoo
  have epad : clr (upd bl u 128) o (63 - u) = padB bl u := by
    unfold padB
    by_cases h : u = 63
    · subst h
      funext i
      unfold clr
      rw [if_neg (by omega), if_neg (by omega)]
    · rw [if_neg h] at ho; rw [ho]
  replace epad := Lib.hid epad
  clear ho hoo
  go_upto_region 4 with (fail)
  replace HK : Hid (FM w _ s (padB bl u) _) := Lib.hid (by have := HK.out.clearB o (63 - u) HW.out; rw [epad.out] at this; exact this)
  generalize w2.setCells _ _ _ = w3 at *
  clear hsl hcl w1 w2 epad
  go_upto_region 6 with (first
    | (refine wpList_load_row rfl 217 (.tmp 3) rfl w.heap.size rfl 217 _ (0, 0) _ HK.out.st Tryz.underlying217 rfl (by rw [rowOf_size]; kernel_rfl) ?_)
    | (refine wpList_load_row rfl 280 (.tmp 4) rfl (w.heap.size + 1) rfl 280 _ (0, 0) _ HK.out.bl Tryz.underlying280 rfl (by rw [rowOf_size]; kernel_rfl) ?_)
    | (go_at_call 200; refine (mix_any _ _ _ HK.out.consts).mono ?_; rintro e w' ⟨rfl, HB⟩; replace HB := Lib.hid HB)
    | (refine wpList_store_row rfl 217 (.tmp 3) (.tmp 21) rfl w.heap.size _ rfl rfl 217 _ (HK.out.calls HB.out).st (by rw [rowOf_size]; kernel_rfl) (by rw [rowOf_size, rowOf_size]) (rowOf_one _ _ _) ?_; have HK2 := Lib.hid ((HK.out.calls HB.out).setS (mixF s (padB bl u)) HW.out); clear HB HK; simp only [Act.put]))
  generalize w'.setRow _ _ = w4 at *
  have hsl := slice64all (w.heap.size + 1)
  obtain ⟨m, hm⟩ : ∃ m, m = 64 := ⟨_, rfl⟩
  have hcl : (Builtin.clear_ #[25] 0 #[.slice (some ⟨w.heap.size + 1, 0, none⟩) 64 64]).run Tryz.prog w4 = .ok (.tuple #[]) (w4.setCells (w.heap.size + 1) 0 (List.replicate m (.int .u8 0))) := by
    subst hm; exact clear64 w4 (w.heap.size + 1) 0 64 64 _ HK2.out.bl (by omega)
  replace hm := Lib.hid hm
  go_upto_region 7 with (fail)
  have HK := Lib.hid (HK2.out.clearB 0 m HW.out)
  clear hsl hcl HK2
  generalize w4.setCells (w.heap.size + 1) 0 (List.replicate m (Value.int .u8 0)) = w5 at *
  rw [hm.out] at HK
  clear w4 w3 w'
  go_wp2_with (fail)
  go_loopw [23] (fun i wr => ∃ k : Nat, k ≤ 8 ∧ i = .int .i64 k ∧ Hid (FM w wr (mixF s (padB bl u)) (lenF (clr (padB bl u) 0 64) n k) (fun _ => 0))) (fun i _ => 8 - (intOf i).toNat)
  case atStart => exact ⟨0, by omega, rfl, HK⟩
  case round =>
    clear HK
    obtain ⟨k, hk, rfl, HK⟩ := hrel
    by_cases hlt : k < 8
    · have f0 := HK.out.bl.free (63 - k)
      have c0 := HK.out.bl.cell (63 - k) (by omega)
      have n0 : (63 - (k : Int)).toNat = 63 - k := by omega
      go_wp2_with (fail)
      go_roundw
      case rel => exact ⟨k + 1, by omega, by go_num, Lib.hid (HK.out.setB _ _ HW.out)⟩
      case measure => simp [intOf]; omega
    · replace HK : Hid (FM w wr (mixF s (padB bl u)) (lenF (clr (padB bl u) 0 64) n 8) (fun _ => 0)) := by rw [show (8 : Nat) = k by omega]; exact HK
      go_wp2_with (first
        | (refine wpList_load_row rfl 217 (.tmp 3) rfl w.heap.size rfl 217 _ (0, 0) _ HK.out.st Tryz.underlying217 rfl (by rw [rowOf_size]; kernel_rfl) ?_)
        | (refine wpList_load_row rfl 280 (.tmp 4) rfl (w.heap.size + 1) rfl 280 _ (0, 0) _ HK.out.bl Tryz.underlying280 rfl (by rw [rowOf_size]; kernel_rfl) ?_)
        | (go_at_call 200; refine (mix_any _ _ _ HK.out.consts).mono ?_; rintro e w' ⟨rfl, HB⟩; replace HB := Lib.hid HB)
        | (refine wpList_store_row rfl 217 (.tmp 6) (.tmp 38) rfl (w.heap.size + 1 + 1) _ rfl rfl 217 _ (HK.out.calls HB.out).re (by rw [rowOf_size]; kernel_rfl) (by rw [rowOf_size, rowOf_size]) (rowOf_one _ _ _) ?_))
      refine bodyPost_ret (results_cell_row rfl _ _ (w.heap.size + 1 + 1) 217 _ (0, 0) _ rfl (setRow_heap _ _ _ _ _ _ (HK.out.calls HB.out).re) Tryz.underlying217 rfl (by rw [rowOf_size]; kernel_rfl)) rfl ?_
      exact ⟨rfl, below_setRow (HK.out.calls HB.out).below (by omega) _⟩
/-- the state behind the padding -/
def finF (s bl : Nat → Int) (n : Int) (u : Nat) : Nat → Int :=
  if u < 56 then mixF s (lenF (padB bl u) n 8) else mixF (mixF s (padB bl u)) (lenF (clr (padB bl u) 0 64) n 8)
theorem fin_any (s bl : Nat → Int) (n : Int) (hn0 : 0 ≤ n) (hn1 : n < 18446744073709551616) (w : World) (hk : Consts w) :
    Calls Tryz.prog 201 #[.agg (rowOf .u32 8 s), .agg (rowOf .u8 64 bl), .int .u64 n] w fun e w' => e = .returned (.agg (rowOf .u32 8 (finF s bl n (n % 64).toNat))) ∧ Below w.heap.size w w' := by
  have hu : n % 64 = ((n % 64).toNat : Nat) := by omega
  unfold finF
  by_cases h : (n % 64).toNat < 56
  · rw [if_pos h]; exact fin_lo s bl n _ hn0 hn1 hu h w hk
  · rw [if_neg h]; exact fin_hi s bl n _ hn0 hn1 hu (by omega) (by omega) w hk
end Go.Proofs.YtejglhlodfhgkaaGreatDoor
namespace Go.Proofs.YtejglhlodfhgkaaGreatDoor
set_option linter.unusedVariables false
set_option linter.unusedSimpArgs false
open Go.RowKit
def BT (i : Nat) : Int := (([1779033703, 3144134277, 1013904242, 2773480762, 1359893119, 2600822924, 528734635, 1541459225] : List Nat).getD i 0 : Nat)
/-- the two tables lie where start-up laid them -/
structure Env (w : World) : Prop where
  begin : ∀ i, i < 8 → w.cell? ⟨2, i, none⟩ = some (.int .u32 (BT i))
  consts : Consts w
theorem Env.below {w w' : World} {B : Nat} (h : Env w) (hb : Below B w w') (h1 : 3 < B) : Env w' :=
  ⟨fun i hi => (hb.cell (p := ⟨2, i, none⟩) (by show 2 < B; omega)).trans (h.begin i hi), h.consts.below hb h1⟩
theorem Env.lt {w : World} (h : Env w) : 3 < w.heap.size := h.consts.lt
def hashCells (s b : Nat → Int) (n : Int) : Array Value := rowOf .u32 8 s ++ (rowOf .u8 64 b ++ #[.int .u64 n])
/-- block g is a Hash -/
def HashAt (w : World) (g : Nat) (s b : Nat → Int) (n : Int) : Prop := w.heap[g]? = some (.cells (hashCells s b n) 282 (0, 0))
theorem hashCells_size (s b : Nat → Int) (n : Int) : (hashCells s b n).size = 73 := by simp [hashCells, rowOf_size]
theorem hashCells_state (s b : Nat → Int) (n : Int) (i : Nat) (h : i < 8) : (hashCells s b n)[i]? = some (.int .u32 (s i)) := by
  unfold hashCells
  rw [Array.getElem?_append_left (by rw [rowOf_size]; exact h), rowOf_get _ _ _ _ h]
theorem hashCells_block (s b : Nat → Int) (n : Int) (i : Nat) (h : i < 64) : (hashCells s b n)[8 + i]? = some (.int .u8 (b i)) := by
  unfold hashCells
  rw [Array.getElem?_append_right (by rw [rowOf_size]; omega), rowOf_size, show 8 + i - 8 = i by omega, Array.getElem?_append_left (by rw [rowOf_size]; exact h), rowOf_get _ _ _ _ h]
theorem hashCells_count (s b : Nat → Int) (n : Int) : (hashCells s b n)[72]? = some (.int .u64 n) := by
  unfold hashCells
  rw [Array.getElem?_append_right (by rw [rowOf_size]; omega), rowOf_size, Array.getElem?_append_right (by rw [rowOf_size]; omega), rowOf_size]
  rfl
theorem HashAt.lt {w : World} {g : Nat} {s b : Nat → Int} {n : Int} (h : HashAt w g s b n) : g < w.heap.size := (Array.getElem?_eq_some_iff.1 h).1
theorem HashAt.below {w w' : World} {g B : Nat} {s b : Nat → Int} {n : Int} (h : HashAt w g s b n) (hb : Below B w w') (hg : g < B) : HashAt w' g s b n := (hb.block g hg).trans h
theorem HashAt.cellS {w : World} {g : Nat} {s b : Nat → Int} {n : Int} (h : HashAt w g s b n) (i : Nat) (hi : i < 8) : w.cell? ⟨g, i, none⟩ = some (.int .u32 (s i)) := by
  rw [cell_of_row w g i _ _ _ h, hashCells_state _ _ _ _ hi]
theorem HashAt.cellB {w : World} {g : Nat} {s b : Nat → Int} {n : Int} (h : HashAt w g s b n) (i : Nat) (hi : i < 64) : w.cell? ⟨g, 8 + i, none⟩ = some (.int .u8 (b i)) := by
  rw [cell_of_row w g _ _ _ _ h, hashCells_block _ _ _ _ hi]
theorem HashAt.cellN {w : World} {g : Nat} {s b : Nat → Int} {n : Int} (h : HashAt w g s b n) : w.cell? ⟨g, 72, none⟩ = some (.int .u64 n) := by
  rw [cell_of_row w g _ _ _ _ h, hashCells_count]
theorem HashAt.free {w : World} {g : Nat} {s b : Nat → Int} {n : Int} (h : HashAt w g s b n) (i : Nat) : w.frozen? ⟨g, i, none⟩ = false := frozen_of_row w g i _ _ h
theorem rowOf_list (k : IntKind) (n : Nat) (f : Nat → Int) : ((rowOf k n f).toList)[n]? = none ∧ (rowOf k n f).toList.length = n := by
  constructor <;> simp [rowOf]
theorem HashAt.rangeS {w : World} {g : Nat} {s b : Nat → Int} {n : Int} (h : HashAt w g s b n) : w.rangeAt g 0 (rowOf .u32 8 s).toList := fun j v hv => by
  have hj : j < 8 := by have := (List.getElem?_eq_some_iff.1 hv).1; rw [(rowOf_list _ _ _).2] at this; exact this
  rw [Array.getElem?_toList, rowOf_get _ _ _ _ hj] at hv
  rw [Nat.zero_add, h.cellS j hj]; exact hv
theorem HashAt.rangeB {w : World} {g : Nat} {s b : Nat → Int} {n : Int} (h : HashAt w g s b n) : w.rangeAt g 8 (rowOf .u8 64 b).toList := fun j v hv => by
  have hj : j < 64 := by have := (List.getElem?_eq_some_iff.1 hv).1; rw [(rowOf_list _ _ _).2] at this; exact this
  rw [Array.getElem?_toList, rowOf_get _ _ _ _ hj] at hv
  rw [h.cellB j hj]; exact hv
set_option maxRecDepth 100000 in
set_option maxHeartbeats 400000 in
theorem shNew_any (w : World) (hk : Env w) :
    Calls Tryz.prog 141 #[] w fun e w' => e = .returned (.pointer (some ⟨w.heap.size, 0, none⟩)) ∧ w.alloc (.cells (hashCells BT (fun _ => 0) 0) 282) = w' := by
  have hc : ∀ i, i < 8 → w.cell? ⟨2, i, none⟩ = some (.int .u32 (BT i)) := hk.begin
  clear hk
  go_enter Tryz.func141, Tryz.ntmps141
  go_wp2
  go_ret
  exact ⟨rfl, by kernel_rfl⟩
theorem hashCells_setS (s b : Nat → Int) (n : Int) (i : Nat) (v : Int) (h : i < 8) : (hashCells s b n).setIfInBounds i (.int .u32 v) = hashCells (upd s i v) b n := by
  unfold hashCells
  rw [← rowOf_set, Array.setIfInBounds_append_left (by rw [rowOf_size]; exact h)]
theorem hashCells_setN (s b : Nat → Int) (n v : Int) : (hashCells s b n).setIfInBounds 72 (.int .u64 v) = hashCells s b v := by
  unfold hashCells
  rw [Array.setIfInBounds_append_right (by rw [rowOf_size]; omega), rowOf_size, Array.setIfInBounds_append_right (by rw [rowOf_size]; omega), rowOf_size]
  rfl
theorem HashAt.setS {w : World} {g : Nat} {s b : Nat → Int} {n : Int} (h : HashAt w g s b n) (i : Nat) (v : Int) (hi : i < 8) : HashAt (w.setCell ⟨g, i, none⟩ (.int .u32 v)) g (upd s i v) b n := by
  unfold HashAt
  rw [heap_setCell_same w g i _ _ _ h, hashCells_setS _ _ _ _ _ hi]
theorem HashAt.setN {w : World} {g : Nat} {s b : Nat → Int} {n : Int} (h : HashAt w g s b n) (v : Int) : HashAt (w.setCell ⟨g, 72, none⟩ (.int .u64 v)) g s b v := by
  unfold HashAt
  rw [heap_setCell_same w g 72 _ _ _ h, hashCells_setN]
theorem HashAt.congr {w : World} {g : Nat} {s s' b b' : Nat → Int} {n : Int} (h : HashAt w g s b n) (h1 : ∀ i, i < 8 → s i = s' i) (h2 : ∀ i, i < 64 → b i = b' i) : HashAt w g s' b' n := by
  unfold HashAt hashCells at *
  rw [← rowOf_congr _ _ _ _ h1, ← rowOf_congr _ _ _ _ h2]; exact h
end Go.Proofs.YtejglhlodfhgkaaGreatDoor
namespace Go.Proofs.YtejglhlodfhgkaaGreatDoor
set_option linter.unusedVariables false
set_option linter.unusedSimpArgs false
open Go.RowKit
structure HS where
  s : Nat → Int
  b : Nat → Int
  n : Int
def put1 (h : HS) (x : Int) : HS :=
  if (h.n + 1) % 18446744073709551616 % 64 = 0 then ⟨mixF h.s (upd h.b (h.n % 64).toNat x), upd h.b (h.n % 64).toNat x, (h.n + 1) % 18446744073709551616⟩
  else ⟨h.s, upd h.b (h.n % 64).toNat x, (h.n + 1) % 18446744073709551616⟩
/-- all bytes of a list, one behind the other -/
def putF (h : HS) (xs : List Int) : HS := xs.foldl put1 h
theorem putF_append (h : HS) (xs ys : List Int) : putF h (xs ++ ys) = putF (putF h xs) ys := by unfold putF; rw [List.foldl_append]
/-- a list laid over a block from place u on -/
def lay (b : Nat → Int) : Nat → List Int → Nat → Int
  | _, [] => b
  | u, y :: ys => lay (upd b u y) (u + 1) ys
theorem lay_get : ∀ (ys : List Int) (b : Nat → Int) (u i : Nat), lay b u ys i = if u ≤ i ∧ i < u + ys.length then ys.getD (i - u) 0 else b i
  | [], b, u, i => by rw [if_neg (by simp)]; rfl
  | y :: ys, b, u, i => by
    rw [lay, lay_get ys]
    unfold upd
    by_cases h : i = u
    · subst h
      rw [if_neg (by omega), if_pos rfl, if_pos (by simp)]
      simp
    · by_cases h2 : u + 1 ≤ i ∧ i < u + 1 + ys.length
      · rw [if_pos h2, if_pos (by simp; omega), show i - u = (i - (u + 1)) + 1 by omega]
        simp
      · rw [if_neg h2, if_neg h, if_neg (by simp; omega)]
theorem put_run (s : Nat → Int) : ∀ (ys : List Int) (b : Nat → Int) (n : Int) (u : Nat), 0 ≤ n → n < 18446744073709551616 → n % 64 = u → u + ys.length < 64 →
    putF ⟨s, b, n⟩ ys = ⟨s, lay b u ys, (n + ys.length) % 18446744073709551616⟩
  | [], b, n, u, h0, h1, _, _ => by
    have : n % 18446744073709551616 = n := by omega
    simp [putF, lay, this]
  | y :: ys, b, n, u, h0, h1, hu, hl => by
    simp only [List.length_cons] at hl
    have e : put1 ⟨s, b, n⟩ y = ⟨s, upd b u y, (n + 1) % 18446744073709551616⟩ := by
      unfold put1
      rw [if_neg (by show ¬ (n + 1) % 18446744073709551616 % 64 = 0; omega)]
      show (⟨s, upd b (n % 64).toNat y, _⟩ : HS) = _
      rw [show (n % 64).toNat = u by omega]
    have ih := put_run s ys (upd b u y) ((n + 1) % 18446744073709551616) (u + 1) (by omega) (by omega) (by omega) (by omega)
    unfold putF at ih ⊢
    rw [List.foldl_cons, e, ih, lay]
    congr 1
    simp only [List.length_cons]
    omega
theorem put_full (s : Nat → Int) : ∀ (ys : List Int) (b : Nat → Int) (n : Int) (u : Nat), 0 ≤ n → n < 18446744073709551616 → n % 64 = u → u + ys.length = 64 → u < 64 →
    putF ⟨s, b, n⟩ ys = ⟨mixF s (lay b u ys), lay b u ys, (n + ys.length) % 18446744073709551616⟩
  | [], b, n, u, h0, h1, hu, hl, hlt => by simp at hl; omega
  | y :: ys, b, n, u, h0, h1, hu, hl, hlt => by
    simp only [List.length_cons] at hl
    by_cases hn : ys = []
    · subst hn
      simp at hl
      have e : put1 ⟨s, b, n⟩ y = ⟨mixF s (upd b u y), upd b u y, (n + 1) % 18446744073709551616⟩ := by
        unfold put1
        rw [if_pos (by show (n + 1) % 18446744073709551616 % 64 = 0; omega)]
        show (⟨mixF s (upd b (n % 64).toNat y), upd b (n % 64).toNat y, _⟩ : HS) = _
        rw [show (n % 64).toNat = u by omega]
      unfold putF
      rw [List.foldl_cons, e]
      rfl
    · have hpos : 0 < ys.length := List.length_pos_iff.2 hn
      have e : put1 ⟨s, b, n⟩ y = ⟨s, upd b u y, (n + 1) % 18446744073709551616⟩ := by
        unfold put1
        rw [if_neg (by show ¬ (n + 1) % 18446744073709551616 % 64 = 0; omega)]
        show (⟨s, upd b (n % 64).toNat y, _⟩ : HS) = _
        rw [show (n % 64).toNat = u by omega]
      have ih := put_full s ys (upd b u y) ((n + 1) % 18446744073709551616) (u + 1) (by omega) (by omega) (by omega) (by omega) (by omega)
      unfold putF at ih ⊢
      rw [List.foldl_cons, e, ih, lay]
      congr 1
      simp only [List.length_cons]
      omega
theorem putF_bounds (h : HS) (h0 : 0 ≤ h.n) (h1 : h.n < 18446744073709551616) : ∀ xs : List Int, 0 ≤ (putF h xs).n ∧ (putF h xs).n < 18446744073709551616 := by
  intro xs
  induction xs generalizing h with
  | nil => exact ⟨h0, h1⟩
  | cons x xs ih =>
    unfold putF at *
    rw [List.foldl_cons]
    have e : (put1 h x).n = (h.n + 1) % 18446744073709551616 := by unfold put1; split <;> rfl
    exact ih _ (by rw [e]; omega) (by rw [e]; omega)
/-- a copy into the block of a Hash -/
theorem hashCells_copy (s b : Nat → Int) (n : Int) (u : Nat) (ys : List Int) (h : u + ys.length ≤ 64) :
    ((hashCells s b n).toList.take (8 + u) ++ (byteVals ys ++ (hashCells s b n).toList.drop (8 + u + (byteVals ys).length))).toArray = hashCells s (lay b u ys) n := by
  apply Array.ext_getElem?
  intro i
  have hsz := hashCells_size s b n
  rw [byteVals_length, List.getElem?_toArray, List.getElem?_append, List.getElem?_take, List.getElem?_append, List.getElem?_drop]
  simp only [List.length_take, Array.length_toList, hsz, byteVals_length, Array.getElem?_toList]
  by_cases h1 : i < 8
  · rw [if_pos (by omega), if_pos (by omega), hashCells_state _ _ _ _ h1, hashCells_state _ _ _ _ h1]
  · by_cases h2 : i < 72
    · obtain ⟨j, rfl⟩ : ∃ j, i = 8 + j := ⟨i - 8, by omega⟩
      have hj : j < 64 := by omega
      rw [hashCells_block s (lay b u ys) n j hj, lay_get]
      by_cases h3 : j < u
      · rw [if_pos (by omega), if_pos (by omega), hashCells_block _ _ _ _ hj, if_neg (by omega)]
      · rw [if_neg (by omega)]
        by_cases h4 : j < u + ys.length
        · rw [if_pos (by omega), if_pos (by omega), show 8 + j - min (8 + u) 73 = j - u by omega]
          simp [byteVals, List.getD, (by omega : j - u < ys.length)]
        · rw [if_neg (by omega), if_neg (by omega), show 8 + u + ys.length + (8 + j - min (8 + u) 73 - ys.length) = 8 + j by omega, hashCells_block _ _ _ _ hj]
    · have e : ∀ f : Nat → Int, (hashCells s f n)[i]? = if i = 72 then some (.int .u64 n) else none := fun f => by
        by_cases h3 : i = 72
        · subst h3; rw [if_pos rfl, hashCells_count]
        · rw [if_neg h3, Array.getElem?_eq_none]; rw [hashCells_size]; omega
      rw [if_neg (by omega), if_neg (by omega), show 8 + u + ys.length + (i - min (8 + u) 73 - ys.length) = i by omega, e, e]
theorem HashAt.copy {w : World} {g : Nat} {s b : Nat → Int} {n : Int} (h : HashAt w g s b n) (u : Nat) (ys : List Int) (hl : u + ys.length ≤ 64) :
    HashAt (w.setRow g ((hashCells s b n).toList.take (8 + u) ++ (byteVals ys ++ (hashCells s b n).toList.drop (8 + u + (byteVals ys).length))).toArray) g s (lay b u ys) n := by
  rw [hashCells_copy _ _ _ _ _ hl]
  exact setRow_heap w g _ _ _ _ h
end Go.Proofs.YtejglhlodfhgkaaGreatDoor
