/- finish: the padding and the last blocks. -/
import Derived.Test.YteokgklfljhcaaaGreatDoorShMix
import Derived.Lib.SliceRun
import Derived.Deep.CutRange
namespace Go.Proofs.YteokgklfljhcaaaGreatDoor
open Go.RowKit
def clr (f : Nat → Int) (o m : Nat) : Nat → Int := fun i => if o ≤ i ∧ i < o + m then 0 else f i
theorem RowAt.clear {g n : Nat} {k : IntKind} {t : TypeId} : ∀ (m o : Nat) (f : Nat → Int) (w : World), RowAt w g k n t f → RowAt (w.setCells g o (List.replicate m (.int k 0))) g k n t (clr f o m)
  | 0, o, f, w, h => by
    have : clr f o 0 = f := by funext i; unfold clr; rw [if_neg (by omega)]
    rw [this]; exact h
  | m + 1, o, f, w, h => by
    have := RowAt.clear m (o + 1) _ _ (h.set o 0)
    have e : clr (upd f o 0) (o + 1) m = clr f o (m + 1) := by
      funext i
      unfold clr upd
      by_cases h1 : o + 1 ≤ i ∧ i < o + 1 + m
      · rw [if_pos h1, if_pos (by omega)]
      · rw [if_neg h1]
        by_cases h2 : i = o
        · rw [if_pos h2, if_pos (by omega)]
        · rw [if_neg h2, if_neg (by omega)]
    rw [e] at this
    exact this
theorem wpList_clear_row {P : Program} {w : World} {ops : Array Oper} {rest : List Oper} {o : Oper} {a : Act} {Q : Exit → Act → World → Prop} (hgd : o.guard = none) (x : Operand) (T : TypeId)
    (ho : o.op = .call { callee := .builtin .clear, args := #[x], argTypes := #[T] }) (e : TypeId) (z : Value) (hu : P.underlying T = some (.slice e)) (hv : ∀ w, (zeroValue e).run P w = .ok z w)
    (hz : z.cells = #[z]) (h1 : z.oneCell' = true) (b oo n c : Nat) (hx : a.eval x = .slice (some ⟨b, oo, none⟩) n c)
    (hc : ∀ j, j < n → (w.cell? ⟨b, oo + j, none⟩).isSome = true) (hf : ∀ j, j < n → w.frozen? ⟨b, oo + j, none⟩ = false)
    (h : wpList P ops Q rest (a.put o.dst (.tuple #[])) (w.setCells b oo (List.replicate n z))) : wpList P ops Q (o :: rest) a w := by
  refine wpList_plain hgd fun K hK => ?_
  have hrun : (Builtin.clear_ #[T] o.type #[.slice (some ⟨b, oo, none⟩) n c]).run P w = .ok (.tuple #[]) (w.setCells b oo (List.replicate n z)) := by
    rcases Nat.eq_zero_or_pos n with rfl | hn
    · simp [Builtin.clear_, run_underlying hu, World.setCells]
    · exact Lib.run_clear_slice w T e o.type z hu hv hz h1 b oo n c hn hc hf
  unfold Oper.wp
  simp [execOp, ho, resolve, invoke, builtin, hx, hrun, Result.andThen]
  exact hK _ _ h
theorem zeroU8 (w : World) : (zeroValue 5).run Tryz.prog w = .ok (.int .u8 0) w := by kernel_rfl
/-- what finish knows of memory: the state's row, the block's, the result's -/
structure FM (w w' : World) (s f r : Nat → Int) : Prop where
  st : RowAt w' w.heap.size .u32 8 149 s
  bl : RowAt w' (w.heap.size + 1) .u8 64 187 f
  re : RowAt w' (w.heap.size + 1 + 1) .u32 8 149 r
  below : Below w.heap.size w w'
  consts : Consts w'
theorem FM.start (w : World) (s f : Nat → Int) (hk : Consts w) : FM w (((w.alloc (.cells (rowOf .u32 8 s) 149)).alloc (.cells (rowOf .u8 64 f) 187)).alloc (.cells (rowOf .u32 8 (fun _ => 0)) 149)) s f (fun _ => 0) := by
  have hb : Below w.heap.size w (((w.alloc (.cells (rowOf .u32 8 s) 149)).alloc (.cells (rowOf .u8 64 f) 187)).alloc (.cells (rowOf .u32 8 (fun _ => 0)) 149)) :=
    ((below_alloc w _).trans ((below_alloc _ _).mono (by simp))).trans ((below_alloc _ _).mono (by simp; omega))
  refine ⟨((RowAt.new w _ _ _ _).alloc _).alloc _, ?_, ?_, hb, hk.below hb hk.lt⟩
  · have := (RowAt.new (w.alloc (.cells (rowOf .u32 8 s) 149)) .u8 64 187 f).alloc (.cells (rowOf .u32 8 (fun _ => 0)) 149)
    rw [shSize_alloc] at this; exact this
  · have := RowAt.new ((w.alloc (.cells (rowOf .u32 8 s) 149)).alloc (.cells (rowOf .u8 64 f) 187)) .u32 8 149 (fun _ => 0)
    rw [shSize_alloc, shSize_alloc] at this; exact this
theorem FM.setB {w w' : World} {s f r : Nat → Int} (h : FM w w' s f r) (i : Nat) (v : Int) (hk : 2 < w.heap.size) : FM w (w'.setCell ⟨w.heap.size + 1, i, none⟩ (.int .u8 v)) s (upd f i v) r :=
  have hb : Below w.heap.size w' (w'.setCell ⟨w.heap.size + 1, i, none⟩ (.int .u8 v)) := (Below.refl _ _).setCell (by show w.heap.size ≤ w.heap.size + 1; omega) _
  ⟨h.st.other _ _ (by show w.heap.size ≠ w.heap.size + 1; omega), h.bl.set i v, h.re.other _ _ (by show w.heap.size + 1 + 1 ≠ w.heap.size + 1; omega), h.below.trans hb, h.consts.below hb hk⟩
theorem setCells_below (B b : Nat) (hb : B ≤ b) : ∀ (vs : List Value) (o : Nat) (w : World), Below B w (w.setCells b o vs)
  | [], _, _ => Below.refl _ _
  | v :: r, o, w => ((Below.refl B w).setCell (p := ⟨b, o, none⟩) hb v).trans (setCells_below B b hb r (o + 1) _)
theorem setCells_heap (b k : Nat) (hb : k ≠ b) : ∀ (vs : List Value) (o : Nat) (w : World), (w.setCells b o vs).heap[k]? = w.heap[k]?
  | [], _, _ => rfl
  | v :: r, o, w => by
    rw [World.setCells, setCells_heap b k hb r (o + 1) _]
    exact Below.heap_setCell w ⟨b, o, none⟩ v k hb
theorem FM.clearB {w w' : World} {s f r : Nat → Int} (h : FM w w' s f r) (o m : Nat) (hk : 2 < w.heap.size) : FM w (w'.setCells (w.heap.size + 1) o (List.replicate m (.int .u8 0))) s (clr f o m) r :=
  have hb : Below w.heap.size w' (w'.setCells (w.heap.size + 1) o (List.replicate m (.int .u8 0))) := setCells_below _ _ (by omega) _ _ _
  ⟨(setCells_heap _ _ (by omega) _ _ _).trans h.st, RowAt.clear m o f w' h.bl, (setCells_heap _ _ (by omega) _ _ _).trans h.re, h.below.trans hb, h.consts.below hb hk⟩
theorem FM.calls {w w' w2 : World} {s f r : Nat → Int} (h : FM w w' s f r) (hb : Below w'.heap.size w' w2) : FM w w2 s f r :=
  ⟨h.st.below hb h.st.lt, h.bl.below hb h.bl.lt, h.re.below hb h.re.lt, h.below.trans (hb.mono h.below.size), h.consts.below hb h.consts.lt⟩
theorem FM.setS {w w' : World} {s f r : Nat → Int} (h : FM w w' s f r) (s' : Nat → Int) (hk : 2 < w.heap.size) : FM w (w'.setRow w.heap.size (rowOf .u32 8 s')) s' f r :=
  have hb : Below w.heap.size w' (w'.setRow w.heap.size (rowOf .u32 8 s')) := below_setRow (Below.refl _ _) (Nat.le_refl _) _
  ⟨setRow_heap _ _ _ _ _ _ h.st, (setRow_other _ _ _ _ (by omega)).trans h.bl, (setRow_other _ _ _ _ (by omega)).trans h.re, h.below.trans hb, h.consts.below hb hk⟩
theorem slice64 (b : Nat) (u : Nat) (hu : u < 64) (o : Nat) (ho : o = if u = 63 then 0 else u + 1) (w : World) : (Instr.sliceAt 187 (.pointer (some ⟨b, 0, none⟩)) (some (.int .u64 ((u : Int) + 1))) none none).run Tryz.prog w
    = .ok (.slice (some ⟨b, o, none⟩) (63 - u) (63 - u)) w := by
  have ha : Tryz.prog.arrayLen 187 = 64 := by kernel_rfl
  have he : Tryz.prog.elem 187 = 5 := by kernel_rfl
  have hs : (sizeOf 5).run Tryz.prog w = .ok 1 w := by kernel_rfl
  rw [run_sliceAt_array_l w 187 ⟨b, 0, none⟩ (by rw [ha, he]; exact Tryz.underlying187) .u64 ((u : Int) + 1) (by omega) (by rw [ha]; omega), ha, he, hs]
  have e1 : ((u : Int) + 1).toNat = u + 1 := by omega
  simp only [Result.andThen_ok, slicedAt, e1]
  subst ho
  by_cases h : u = 63
  · subst h; rfl
  · rw [if_neg h, if_neg (by omega), show 64 - (u + 1) = 63 - u by omega, Addr.add_mid]; simp
theorem slice64all (b : Nat) (w : World) : (Instr.sliceAt 187 (.pointer (some ⟨b, 0, none⟩)) none none none).run Tryz.prog w = .ok (.slice (some ⟨b, 0, none⟩) 64 64) w := by
  have ha : Tryz.prog.arrayLen 187 = 64 := by kernel_rfl
  have he : Tryz.prog.elem 187 = 5 := by kernel_rfl
  have hs : (sizeOf 5).run Tryz.prog w = .ok 1 w := by kernel_rfl
  rw [run_sliceAt_array_all w 187 ⟨b, 0, none⟩ (by rw [ha, he]; exact Tryz.underlying187), ha, he, hs]
  simp only [Result.andThen_ok, slicedAt]
  rw [if_neg (by omega), Addr.add_mid]
theorem clear64 (w : World) (b o m c : Nat) (f : Nat → Int) (h : RowAt w b .u8 64 187 f) (hm : o + m ≤ 64) :
    (Builtin.clear_ #[39] 0 #[.slice (some ⟨b, o, none⟩) m c]).run Tryz.prog w = .ok (.tuple #[]) (w.setCells b o (List.replicate m (.int .u8 0))) := by
  rcases Nat.eq_zero_or_pos m with rfl | hn
  · simp [Builtin.clear_, run_underlying Tryz.underlying39, World.setCells]
  · exact Lib.run_clear_slice w 39 5 0 (.int .u8 0) Tryz.underlying39 zeroU8 rfl rfl b o m c hn (fun j hj => by rw [h.cell (o + j) (by omega)]; rfl) (fun j _ => h.free _)
/-- the block behind the padding's begin: a bit 1, noughts -/
def padB (bl : Nat → Int) (u : Nat) : Nat → Int := clr (upd bl u 128) (u + 1) (63 - u)
/-- the last k bytes of the block hold the number of bits -/
def lenF (f : Nat → Int) (n : Int) : Nat → Nat → Int
  | 0 => f
  | k + 1 => upd (lenF f n k) (63 - k) (IntKind.u64.wrap (n * 8) / 2 ^ (8 * k) % 256)
set_option maxRecDepth 100000 in
set_option maxHeartbeats 400000 in
theorem fin_lo (s bl : Nat → Int) (n : Int) (u : Nat) (hn0 : 0 ≤ n) (hn1 : n < 18446744073709551616) (hu : n % 64 = u) (h56 : u < 56) (w : World) (hk : Consts w) :
    Calls Tryz.prog 145 #[.agg (rowOf .u32 8 s), .agg (rowOf .u8 64 bl), .int .u64 n] w fun e w' => e = .returned (.agg (rowOf .u32 8 (mixF s (lenF (padB bl u) n 8)))) ∧ Below w.heap.size w w' := by
  have HW := Lib.hid hk.lt
  have HK := Lib.hid (FM.start w s bl hk)
  have HN := Lib.hid hn1
  clear hk hn1
  go_enter Tryz.func145, Tryz.ntmps145
  go_upto_region 2 with (fail)
  rw [zeros8]
  generalize ((w.alloc (.cells (rowOf .u32 8 s) 149)).alloc (.cells (rowOf .u8 64 bl) 187)).alloc (.cells (rowOf .u32 8 (fun _ => 0)) 149) = w1 at *
  have f0 := HK.out.bl.free u
  have c0 := HK.out.bl.cell u (by omega)
  go_upto_region 3 with (fail)
  replace HK := Lib.hid (HK.out.setB u 128 HW.out)
  generalize w1.setCell _ _ = w2 at *
  clear f0 c0
  have hsl := slice64 (w.heap.size + 1) u (by omega) (u + 1) (by rw [if_neg (by omega)])
  have hcl := clear64 w2 (w.heap.size + 1) (u + 1) (63 - u) (63 - u) _ HK.out.bl (by omega)
  go_upto_region 4 with (fail)
  replace HK : Hid (FM w _ s (padB bl u) _) := Lib.hid (HK.out.clearB (u + 1) (63 - u) HW.out)
  generalize w2.setCells _ _ _ = w3 at *
  clear hsl hcl w1 w2
  go_wp2_with (fail)
  go_loopw [23] (fun i wr => ∃ k : Nat, k ≤ 8 ∧ i = .int .i64 k ∧ Hid (FM w wr s (lenF (padB bl u) n k) (fun _ => 0))) (fun i _ => 8 - (intOf i).toNat)
  case atStart => exact ⟨0, by omega, rfl, HK⟩
  case round =>
    clear HK
    obtain ⟨k, hk, rfl, HK⟩ := hrel
    by_cases hlt : k < 8
    · have f0 := HK.out.bl.free (63 - k)
      have c0 := HK.out.bl.cell (63 - k) (by omega)
      have n0 : (63 - (k : Int)).toNat = 63 - k := by omega
      go_wp2_with (fail)
      go_roundw
      case rel => exact ⟨k + 1, by omega, by go_num, Lib.hid (HK.out.setB _ _ HW.out)⟩
      case measure => simp [intOf]; omega
    · replace HK : Hid (FM w wr s (lenF (padB bl u) n 8) (fun _ => 0)) := by rw [show (8 : Nat) = k by omega]; exact HK
      go_wp2_with (first
        | (refine wpList_load_row rfl 149 (.tmp 3) rfl w.heap.size rfl 149 _ (0, 0) _ HK.out.st Tryz.underlying149 rfl (by rw [rowOf_size]; kernel_rfl) ?_)
        | (refine wpList_load_row rfl 187 (.tmp 4) rfl (w.heap.size + 1) rfl 187 _ (0, 0) _ HK.out.bl Tryz.underlying187 rfl (by rw [rowOf_size]; kernel_rfl) ?_)
        | (go_at_call 144; refine (mix_any _ _ _ HK.out.consts).mono ?_; rintro e w' ⟨rfl, HB⟩; replace HB := Lib.hid HB)
        | (refine wpList_store_row rfl 149 (.tmp 6) (.tmp 38) rfl (w.heap.size + 1 + 1) _ rfl rfl 149 _ (HK.out.calls HB.out).re (by rw [rowOf_size]; kernel_rfl) (by rw [rowOf_size, rowOf_size]) (rowOf_one _ _ _) ?_))
      refine bodyPost_ret (results_cell_row rfl _ _ (w.heap.size + 1 + 1) 149 _ (0, 0) _ rfl (setRow_heap _ _ _ _ _ _ (HK.out.calls HB.out).re) Tryz.underlying149 rfl (by rw [rowOf_size]; kernel_rfl)) rfl ?_
      exact ⟨rfl, below_setRow (HK.out.calls HB.out).below (by omega) _⟩
set_option maxRecDepth 100000 in
set_option maxHeartbeats 400000 in
theorem fin_hi (s bl : Nat → Int) (n : Int) (u : Nat) (hn0 : 0 ≤ n) (hn1 : n < 18446744073709551616) (hu : n % 64 = u) (h56 : 56 ≤ u) (h64 : u < 64) (w : World) (hk : Consts w) :
    Calls Tryz.prog 145 #[.agg (rowOf .u32 8 s), .agg (rowOf .u8 64 bl), .int .u64 n] w fun e w' => e = .returned (.agg (rowOf .u32 8 (mixF (mixF s (padB bl u)) (lenF (clr (padB bl u) 0 64) n 8)))) ∧ Below w.heap.size w w' := by
  have HW := Lib.hid hk.lt
  have HK := Lib.hid (FM.start w s bl hk)
  have HN := Lib.hid hn1
  clear hk hn1
  go_enter Tryz.func145, Tryz.ntmps145
  go_upto_region 2 with (fail)
  rw [zeros8]
  generalize ((w.alloc (.cells (rowOf .u32 8 s) 149)).alloc (.cells (rowOf .u8 64 bl) 187)).alloc (.cells (rowOf .u32 8 (fun _ => 0)) 149) = w1 at *
  have f0 := HK.out.bl.free u
  have c0 := HK.out.bl.cell u (by omega)
  go_upto_region 3 with (fail)
  replace HK := Lib.hid (HK.out.setB u 128 HW.out)
  generalize w1.setCell _ _ = w2 at *
  clear f0 c0
  obtain ⟨o, ho⟩ : ∃ o, o = if u = 63 then 0 else u + 1 := ⟨_, rfl⟩
  have hsl := slice64 (w.heap.size + 1) u (by omega) o ho
  have hoo : o + (63 - u) ≤ 64 := by split at ho <;> omega
  have hcl := clear64 w2 (w.heap.size + 1) o (63 - u) (63 - u) _ HK.out.bl hoo
  have epad : clr (upd bl u 128) o (63 - u) = padB bl u := by
    unfold padB
    by_cases h : u = 63
    · subst h
      funext i
      unfold clr
      rw [if_neg (by omega), if_neg (by omega)]
    · rw [if_neg h] at ho; rw [ho]
  replace epad := Lib.hid epad
  clear ho hoo
  go_upto_region 4 with (fail)
  replace HK : Hid (FM w _ s (padB bl u) _) := Lib.hid (by have := HK.out.clearB o (63 - u) HW.out; rw [epad.out] at this; exact this)
  generalize w2.setCells _ _ _ = w3 at *
  clear hsl hcl w1 w2 epad
  go_upto_region 6 with (first
    | (refine wpList_load_row rfl 149 (.tmp 3) rfl w.heap.size rfl 149 _ (0, 0) _ HK.out.st Tryz.underlying149 rfl (by rw [rowOf_size]; kernel_rfl) ?_)
    | (refine wpList_load_row rfl 187 (.tmp 4) rfl (w.heap.size + 1) rfl 187 _ (0, 0) _ HK.out.bl Tryz.underlying187 rfl (by rw [rowOf_size]; kernel_rfl) ?_)
    | (go_at_call 144; refine (mix_any _ _ _ HK.out.consts).mono ?_; rintro e w' ⟨rfl, HB⟩; replace HB := Lib.hid HB)
    | (refine wpList_store_row rfl 149 (.tmp 3) (.tmp 21) rfl w.heap.size _ rfl rfl 149 _ (HK.out.calls HB.out).st (by rw [rowOf_size]; kernel_rfl) (by rw [rowOf_size, rowOf_size]) (rowOf_one _ _ _) ?_; have HK2 := Lib.hid ((HK.out.calls HB.out).setS (mixF s (padB bl u)) HW.out); clear HB HK; simp only [Act.put]))
  generalize w'.setRow _ _ = w4 at *
  have hsl := slice64all (w.heap.size + 1)
  obtain ⟨m, hm⟩ : ∃ m, m = 64 := ⟨_, rfl⟩
  have hcl : (Builtin.clear_ #[39] 0 #[.slice (some ⟨w.heap.size + 1, 0, none⟩) 64 64]).run Tryz.prog w4 = .ok (.tuple #[]) (w4.setCells (w.heap.size + 1) 0 (List.replicate m (.int .u8 0))) := by
    subst hm; exact clear64 w4 (w.heap.size + 1) 0 64 64 _ HK2.out.bl (by omega)
  replace hm := Lib.hid hm
  go_upto_region 7 with (fail)
  have HK := Lib.hid (HK2.out.clearB 0 m HW.out)
  clear hsl hcl HK2
  generalize w4.setCells (w.heap.size + 1) 0 (List.replicate m (Value.int .u8 0)) = w5 at *
  rw [hm.out] at HK
  clear w4 w3 w'
  go_wp2_with (fail)
  go_loopw [23] (fun i wr => ∃ k : Nat, k ≤ 8 ∧ i = .int .i64 k ∧ Hid (FM w wr (mixF s (padB bl u)) (lenF (clr (padB bl u) 0 64) n k) (fun _ => 0))) (fun i _ => 8 - (intOf i).toNat)
  case atStart => exact ⟨0, by omega, rfl, HK⟩
  case round =>
    clear HK
    obtain ⟨k, hk, rfl, HK⟩ := hrel
    by_cases hlt : k < 8
    · have f0 := HK.out.bl.free (63 - k)
      have c0 := HK.out.bl.cell (63 - k) (by omega)
      have n0 : (63 - (k : Int)).toNat = 63 - k := by omega
      go_wp2_with (fail)
      go_roundw
      case rel => exact ⟨k + 1, by omega, by go_num, Lib.hid (HK.out.setB _ _ HW.out)⟩
      case measure => simp [intOf]; omega
    · replace HK : Hid (FM w wr (mixF s (padB bl u)) (lenF (clr (padB bl u) 0 64) n 8) (fun _ => 0)) := by rw [show (8 : Nat) = k by omega]; exact HK
      go_wp2_with (first
        | (refine wpList_load_row rfl 149 (.tmp 3) rfl w.heap.size rfl 149 _ (0, 0) _ HK.out.st Tryz.underlying149 rfl (by rw [rowOf_size]; kernel_rfl) ?_)
        | (refine wpList_load_row rfl 187 (.tmp 4) rfl (w.heap.size + 1) rfl 187 _ (0, 0) _ HK.out.bl Tryz.underlying187 rfl (by rw [rowOf_size]; kernel_rfl) ?_)
        | (go_at_call 144; refine (mix_any _ _ _ HK.out.consts).mono ?_; rintro e w' ⟨rfl, HB⟩; replace HB := Lib.hid HB)
        | (refine wpList_store_row rfl 149 (.tmp 6) (.tmp 38) rfl (w.heap.size + 1 + 1) _ rfl rfl 149 _ (HK.out.calls HB.out).re (by rw [rowOf_size]; kernel_rfl) (by rw [rowOf_size, rowOf_size]) (rowOf_one _ _ _) ?_))
      refine bodyPost_ret (results_cell_row rfl _ _ (w.heap.size + 1 + 1) 149 _ (0, 0) _ rfl (setRow_heap _ _ _ _ _ _ (HK.out.calls HB.out).re) Tryz.underlying149 rfl (by rw [rowOf_size]; kernel_rfl)) rfl ?_
      exact ⟨rfl, below_setRow (HK.out.calls HB.out).below (by omega) _⟩
/-- the state behind the padding -/
def finF (s bl : Nat → Int) (n : Int) (u : Nat) : Nat → Int :=
  if u < 56 then mixF s (lenF (padB bl u) n 8) else mixF (mixF s (padB bl u)) (lenF (clr (padB bl u) 0 64) n 8)
theorem fin_any (s bl : Nat → Int) (n : Int) (hn0 : 0 ≤ n) (hn1 : n < 18446744073709551616) (w : World) (hk : Consts w) :
    Calls Tryz.prog 145 #[.agg (rowOf .u32 8 s), .agg (rowOf .u8 64 bl), .int .u64 n] w fun e w' => e = .returned (.agg (rowOf .u32 8 (finF s bl n (n % 64).toNat))) ∧ Below w.heap.size w w' := by
  have hu : n % 64 = ((n % 64).toNat : Nat) := by omega
  unfold finF
  by_cases h : (n % 64).toNat < 56
  · rw [if_pos h]; exact fin_lo s bl n _ hn0 hn1 hu h w hk
  · rw [if_neg h]; exact fin_hi s bl n _ hn0 hn1 hu (by omega) (by omega) w hk
end Go.Proofs.YteokgklfljhcaaaGreatDoor
