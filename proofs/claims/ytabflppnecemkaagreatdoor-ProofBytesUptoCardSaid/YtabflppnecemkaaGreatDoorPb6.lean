/- Part 6 of the proof. -/
import Derived.Test.YtabflppnecemkaaGreatDoorPb1
import Derived.Test.YtabflppnecemkaaGreatDoorPb5
namespace Go.Proofs.YtabflppnecemkaaGreatDoor
set_option linter.unusedVariables false
set_option linter.unusedSimpArgs false
open Go.RowKit
/-- the bytes of eight words -/
def outF (f : Nat → Int) : Nat → Int := fun i => f (i / 4) / 2 ^ (24 - 8 * (i % 4)) % 256
/-- the first k bytes are there -/
def outK (f : Nat → Int) (k : Nat) : Nat → Int := fun i => if i < k then outF f i else 0
theorem outK_succ (f : Nat → Int) (i j : Nat) (hj : j < 4) : upd (outK f (4 * i + j)) (4 * i + j) (f i / 2 ^ (24 - 8 * j) % 256) = outK f (4 * i + j + 1) := by
  funext x
  unfold upd outK
  by_cases h : x = 4 * i + j
  · subst h
    rw [if_pos rfl, if_pos (by omega)]
    unfold outF
    rw [show (4 * i + j) / 4 = i by omega, show (4 * i + j) % 4 = j by omega]
  · rw [if_neg h]
    by_cases h2 : x < 4 * i + j
    · rw [if_pos h2, if_pos (by omega)]
    · rw [if_neg h2, if_neg (by omega)]
theorem zeros32 : (#[Value.int IntKind.u8 0, Value.int IntKind.u8 0, Value.int IntKind.u8 0, Value.int IntKind.u8 0, Value.int IntKind.u8 0, Value.int IntKind.u8 0, Value.int IntKind.u8 0, Value.int IntKind.u8 0, Value.int IntKind.u8 0, Value.int IntKind.u8 0, Value.int IntKind.u8 0, Value.int IntKind.u8 0, Value.int IntKind.u8 0, Value.int IntKind.u8 0, Value.int IntKind.u8 0, Value.int IntKind.u8 0, Value.int IntKind.u8 0, Value.int IntKind.u8 0, Value.int IntKind.u8 0, Value.int IntKind.u8 0, Value.int IntKind.u8 0, Value.int IntKind.u8 0, Value.int IntKind.u8 0, Value.int IntKind.u8 0, Value.int IntKind.u8 0, Value.int IntKind.u8 0, Value.int IntKind.u8 0, Value.int IntKind.u8 0, Value.int IntKind.u8 0, Value.int IntKind.u8 0, Value.int IntKind.u8 0, Value.int IntKind.u8 0] : Array Value) = rowOf .u8 32 (fun _ => 0) := by rfl
theorem index59 (f : Nat → Int) (i : Nat) (h : i < 8) (w : World) : (Instr.index 181 (.agg (rowOf .u32 8 f)) (.int .i64 (i : Int))).run Tryz.prog w = .ok (.int .u32 (f i)) w := by
  have hs : (sizeOf 180).run Tryz.prog w = .ok 1 w := by kernel_rfl
  have hp : (part 180 (rowOf .u32 8 f) i).run Tryz.prog w = .ok (.int .u32 (f i)) w := by
    have ha : (isAgg 180).run Tryz.prog w = .ok false w := by kernel_rfl
    simp [part, Sem.run_bind, ha, rowOf_get .u32 8 f i h]
  have hi : (0 ≤ (i : Int) ∧ (i : Int) < (8 : Nat)) := by omega
  simp only [Instr.index, asIntOf, Sem.run_bind, Sem.run_pure, Result.andThen_ok, run_underlying Tryz.underlying181, if_pos hi, Int.toNat_natCast, hs, Nat.mul_one, hp]
/-- what Sum of a Hash knows of memory -/
structure SumM (w w' : World) (g : Nat) (s b : Nat → Int) (n : Int) (r u : Nat → Int) : Prop where
  hash : HashAt w' g s b n
  re : RowAt w' w.heap.size .u8 32 62 r
  su : RowAt w' (w.heap.size + 1) .u8 32 62 u
  below : Below w.heap.size w w'
  consts : Consts w'
theorem sum_mem (w : World) (g : Nat) (s b : Nat → Int) (n : Int) (hh : HashAt w g s b n) (hk : Consts w) : SumM w ((w.alloc (.cells (rowOf .u8 32 (fun _ => 0)) 62)).alloc (.cells (rowOf .u8 32 (fun _ => 0)) 62)) g s b n (fun _ => 0) (fun _ => 0) := by
  have hb : Below w.heap.size w ((w.alloc (.cells (rowOf .u8 32 (fun _ => 0)) 62)).alloc (.cells (rowOf .u8 32 (fun _ => 0)) 62)) := (below_alloc w _).trans ((below_alloc _ _).mono (by simp))
  refine ⟨hh.below hb hh.lt, (RowAt.new w _ _ _ _).alloc _, ?_, hb, hk.below hb hk.lt⟩
  have := RowAt.new (w.alloc (.cells (rowOf .u8 32 (fun _ => 0)) 62)) .u8 32 62 (fun _ => 0)
  rw [shSize_alloc] at this; exact this
theorem SumM.calls {w w' w2 : World} {g : Nat} {s b : Nat → Int} {n : Int} {r u : Nat → Int} (h : SumM w w' g s b n r u) (hb : Below w'.heap.size w' w2) : SumM w w2 g s b n r u :=
  ⟨h.hash.below hb h.hash.lt, h.re.below hb h.re.lt, h.su.below hb h.su.lt, h.below.trans (hb.mono h.below.size), h.consts.below hb h.consts.lt⟩
theorem SumM.put {w w' : World} {g : Nat} {s b : Nat → Int} {n : Int} {r F : Nat → Int} {k q : Nat} (h : SumM w w' g s b n r (outK F (4 * k + q))) (hq : q < 4) (hg : g < w.heap.size) (hk : 2 < w.heap.size) :
    SumM w (w'.setCell ⟨w.heap.size + 1, 4 * k + q, none⟩ (.int .u8 (F k / 2 ^ (24 - 8 * q) % 256))) g s b n r (outK F (4 * k + (q + 1))) := by
  have hb : Below w.heap.size w' (w'.setCell ⟨w.heap.size + 1, 4 * k + q, none⟩ (.int .u8 (F k / 2 ^ (24 - 8 * q) % 256))) := (Below.refl _ _).setCell (by show w.heap.size ≤ w.heap.size + 1; omega) _
  refine ⟨h.hash.below hb hg, h.re.other _ _ (by show w.heap.size ≠ w.heap.size + 1; omega), ?_, h.below.trans hb, h.consts.below hb hk⟩
  have := h.su.set (4 * k + q) (F k / 2 ^ (24 - 8 * q) % 256)
  rw [outK_succ F k q hq] at this
  exact this
abbrev SumS (g : Nat) (s b : Nat → Int) (n : Int) (w' : World) : Prop := w'.rangeAt g 8 (rowOf .u8 64 b).toList ∧ w'.cell? ⟨g, 0, none⟩ = some (.int .u32 (s 0)) ∧ w'.cell? ⟨g, 1, none⟩ = some (.int .u32 (s 1)) ∧ w'.cell? ⟨g, 2, none⟩ = some (.int .u32 (s 2)) ∧ w'.cell? ⟨g, 3, none⟩ = some (.int .u32 (s 3)) ∧ w'.cell? ⟨g, 4, none⟩ = some (.int .u32 (s 4)) ∧ w'.cell? ⟨g, 5, none⟩ = some (.int .u32 (s 5)) ∧ w'.cell? ⟨g, 6, none⟩ = some (.int .u32 (s 6)) ∧ w'.cell? ⟨g, 7, none⟩ = some (.int .u32 (s 7)) ∧ w'.cell? ⟨g, 72, none⟩ = some (.int .u64 n)
theorem sumS {w : World} {g : Nat} {s b : Nat → Int} {n : Int} (h : HashAt w g s b n) : SumS g s b n w := ⟨h.rangeB, h.cellS 0 (by omega), h.cellS 1 (by omega), h.cellS 2 (by omega), h.cellS 3 (by omega), h.cellS 4 (by omega), h.cellS 5 (by omega), h.cellS 6 (by omega), h.cellS 7 (by omega), h.cellN⟩
theorem fin_lit (s bl : Nat → Int) (n : Int) (hn0 : 0 ≤ n) (hn1 : n < 18446744073709551616) (w : World) (hk : Consts w) :
    Calls Tryz.prog 98 #[.agg #[.int .u32 (s 0), .int .u32 (s 1), .int .u32 (s 2), .int .u32 (s 3), .int .u32 (s 4), .int .u32 (s 5), .int .u32 (s 6), .int .u32 (s 7)], .agg (rowOf .u8 64 bl), .int .u64 n] w fun e w' => e = .returned (.agg (rowOf .u32 8 (finF s bl n (n % 64).toNat))) ∧ Below w.heap.size w w' :=
  fin_any s bl n hn0 hn1 w hk
set_option maxRecDepth 100000 in
set_option maxHeartbeats 400000 in
theorem sumM_any (g : Nat) (s b : Nat → Int) (n : Int) (w : World) (hh : HashAt w g s b n) (h0 : 0 ≤ n) (h1 : n < 18446744073709551616) (hk : Consts w) :
    Calls Tryz.prog 94 #[.pointer (some ⟨g, 0, none⟩)] w fun e w' => e = .returned (.agg (rowOf .u8 32 (outF (finF s b n (n % 64).toNat)))) ∧ Below w.heap.size w w' := by
  have HH := Lib.hid hh
  have HK := Lib.hid hk
  have HN := Lib.hid (show 0 ≤ n ∧ n < 18446744073709551616 from ⟨h0, h1⟩)
  have HG := Lib.hid hh.lt
  have HC := Lib.hid hk.lt
  clear hh hk h0 h1
  go_enter Tryz.func94, Tryz.ntmps94
  go_upto_region 4 with (fail)
  rw [zeros32]
  have hi64 : (Tryz.prog.info? 182).map (·.size) = some (rowOf .u8 64 b).toList.length := by rw [(rowOf_list _ _ _).2]; kernel_rfl
  have hu64 := Tryz.underlying182
  have M := Lib.hid (sum_mem w g s b n HH.out HK.out)
  generalize (w.alloc (.cells (rowOf .u8 32 (fun _ => 0)) 62)).alloc (.cells (rowOf .u8 32 (fun _ => 0)) 62) = w1 at *
  have hS0 : SumS g s b n w1.drew := sumS M.out.hash
  have HD := Lib.hid (show SumM w w1.drew g s b n (fun _ => 0) (fun _ => 0) from ⟨M.out.hash, M.out.re, M.out.su, M.out.below.drew, M.out.consts⟩)
  clear HH HK M
  go_region_held3 (fun w' => w'.rangeAt g 8 (rowOf .u8 64 b).toList ∧ w'.cell? ⟨g, 0, none⟩ = some (.int .u32 (s 0)) ∧ w'.cell? ⟨g, 1, none⟩ = some (.int .u32 (s 1)) ∧ w'.cell? ⟨g, 2, none⟩ = some (.int .u32 (s 2)) ∧ w'.cell? ⟨g, 3, none⟩ = some (.int .u32 (s 3)) ∧ w'.cell? ⟨g, 4, none⟩ = some (.int .u32 (s 4)) ∧ w'.cell? ⟨g, 5, none⟩ = some (.int .u32 (s 5)) ∧ w'.cell? ⟨g, 6, none⟩ = some (.int .u32 (s 6)) ∧ w'.cell? ⟨g, 7, none⟩ = some (.int .u32 (s 7)) ∧ w'.cell? ⟨g, 72, none⟩ = some (.int .u64 n)) (first | (with_reducible exact hS0) | (with_reducible exact hS5)) (first | (go_at_call 98; (with_reducible refine (fin_lit s b n HN.out.1 HN.out.2 _ HD.out.consts).mono ?_); rintro e w5 ⟨rfl, HB5⟩; have HD5 := Lib.hid (HD.out.calls HB5); have hS5 : SumS g s b n w5 := sumS HD5.out.hash; replace HB5 := Lib.hid HB5))
  clear hS0 hS5 hi64 hu64 HD HB5
  rename_i hH
  clear hH w1
  obtain ⟨F, hF⟩ : ∃ F, F = finF s b n (n % 64).toNat := ⟨_, rfl⟩
  rw [← hF]
  replace hF := Lib.hid hF
  go_wp2_with (fail)
  go_loopw [23] (fun i wr => ∃ k : Nat, k ≤ 8 ∧ i = .int .i64 k ∧ Hid (SumM w wr g s b n (fun _ => 0) (outK F (4 * k)))) (fun i _ => 8 - (intOf i).toNat)
  case atStart => exact ⟨0, by omega, rfl, HD5⟩
  case round =>
    clear HD5
    obtain ⟨k, hk, rfl, H⟩ := hrel
    by_cases hlt : k < 8
    · have hix := index59 F k hlt
      go_wp2_with (fail)
      obtain ⟨wo, rfl⟩ : ∃ wo : World, wo = wr := ⟨_, rfl⟩
      go_loopw [27] (fun i wr => ∃ q : Nat, q ≤ 4 ∧ i = .int .i64 q ∧ Hid (SumM w wr g s b n (fun _ => 0) (outK F (4 * k + q)))) (fun i _ => 4 - (intOf i).toNat)
      case atStart => exact ⟨0, by omega, rfl, H⟩
      case round =>
        clear H
        obtain ⟨q, hq, rfl, H⟩ := hrel
        by_cases hqt : q < 4
        · have c0 := H.out.su.cell (4 * k + q) (by omega)
          have f0 := H.out.su.free (4 * k + q)
          have n0 : (4 * (k : Int) + q).toNat = 4 * k + q := by omega
          have n1 : (24 - 8 * (q : Int)).toNat = 24 - 8 * q := by omega
          go_wp2_with (fail)
          go_roundw
          case rel => exact ⟨q + 1, by omega, by go_num, Lib.hid (H.out.put hqt HG.out HC.out)⟩
          case measure => simp [intOf]; omega
        · replace H : Hid (SumM w wr g s b n (fun _ => 0) (outK F (4 * (k + 1)))) := by rw [show 4 * (k + 1) = 4 * k + q by omega]; exact H
          go_wp2_with (fail)
          go_roundw
          case rel => exact ⟨k + 1, by omega, by go_num, H⟩
          case measure => simp [intOf]; omega
    · replace H : Hid (SumM w wr g s b n (fun _ => 0) (outK F 32)) := by rw [show 32 = 4 * k by omega]; exact H
      go_wp2_with (first
        | (refine wpList_load_row rfl 62 (.tmp 3) rfl (w.heap.size + 1) rfl 62 _ (0, 0) _ H.out.su Tryz.underlying62 rfl (by rw [rowOf_size]; kernel_rfl) ?_)
        | (refine wpList_store_row rfl 62 (.tmp 2) (.tmp 43) rfl w.heap.size _ rfl rfl 62 _ H.out.re (by rw [rowOf_size]; kernel_rfl) (by rw [rowOf_size, rowOf_size]) (rowOf_one _ _ _) ?_))
      refine bodyPost_ret (results_cell_row rfl _ _ w.heap.size 62 (rowOf .u8 32 (outK F 32)) (0, 0) _ rfl (setRow_heap _ _ _ _ _ _ H.out.re) Tryz.underlying62 rfl (by rw [rowOf_size]; kernel_rfl)) rfl ?_
      refine ⟨?_, below_setRow H.out.below (Nat.le_refl _) _⟩
      rw [rowOf_congr .u8 32 (outK F 32) (outF F) (fun i hi => by unfold outK; rw [if_pos hi]), hF.out]
theorem BytesIn.at {w w' : World} {v : Value} {xs : List Int} (h : BytesIn w v xs) {B g : Nat} (hb : Below B w w') (hB : w.heap.size ≤ B) (hg : w.heap.size ≤ g) : BytesAt w' g v xs := by
  obtain ⟨a, cap, rfl, hc, hm, hx⟩ := h
  refine ⟨a, cap, rfl, hc, hm, ?_⟩
  rcases hx with hx | ⟨ab, ao, rfl, hx⟩
  · exact .inl hx
  · by_cases he : xs = []
    · exact .inl he
    · obtain ⟨x, xs', rfl⟩ := List.exists_cons_of_ne_nil he
      have h0 := World.block_lt_of_cell? w _ (hx 0 x rfl)
      have h0' : ab < w.heap.size := h0
      exact .inr ⟨ab, ao, rfl, by omega, fun i y hi => (hb.cell (p := ⟨ab, ao + i, none⟩) (by show ab < B; omega)).trans (hx i y hi)⟩
/-- the empty Hash -/
def h0 : HS := ⟨BT, fun _ => 0, 0⟩
/-- the hash that a Hash answers -/
def hsum (h : HS) : Nat → Int := outF (finF h.s h.b h.n (h.n % 64).toNat)
/-- the hash of bytes -/
def sumF (xs : List Int) : Nat → Int := hsum (putF h0 xs)
set_option maxRecDepth 100000 in
set_option maxHeartbeats 400000 in
theorem shSum_any (v : Value) (xs : List Int) (w : World) (hx : BytesIn w v xs) (he : Env w) :
    Calls Tryz.prog 77 #[v] w fun e w' => e = .returned (.agg (rowOf .u8 32 (sumF xs))) ∧ Below w.heap.size w w' := by
  have HX := Lib.hid hx
  have HE := Lib.hid he
  clear hx he
  go_enter Tryz.func77, Tryz.ntmps77
  go_upto_region 1 with (fail)
  rw [zeros32]
  have HB1 : Below w.heap.size w (w.alloc (.cells (rowOf .u8 32 (fun _ => 0)) 62)) := below_alloc _ _
  have HR := Lib.hid (RowAt.new w .u8 32 62 (fun _ => 0))
  have hsz : w.heap.size < (w.alloc (.cells (rowOf .u8 32 (fun _ => 0)) 62)).heap.size := by simp
  generalize w.alloc (.cells (rowOf .u8 32 (fun _ => 0)) 62) = w1 at *
  have HE1 := Lib.hid (HE.out.below HB1 HE.out.lt)
  go_upto_region 2 with (go_at_call 92; (with_reducible refine (shNew_any _ HE1.out).mono ?_); rintro e w' ⟨rfl, rfl⟩)
  have HB2 : Below w1.heap.size w1 (w1.alloc (.cells (hashCells BT (fun _ => 0) 0) 184)) := below_alloc _ _
  have HH := Lib.hid (show HashAt (w1.alloc (.cells (hashCells BT (fun _ => 0) 0) 184)) w1.heap.size BT (fun _ => 0) 0 from heap_alloc_new w1 _)
  generalize w1.alloc (.cells (hashCells BT (fun _ => 0) 0) 184) = w2 at *
  have HB12 : Below w.heap.size w w2 := HB1.trans (HB2.mono HB1.size)
  have HX2 := Lib.hid (HX.out.at (g := w1.heap.size) HB12 (Nat.le_refl _) (by omega))
  have HE2 := Lib.hid (HE.out.below HB12 HE.out.lt)
  replace HR := Lib.hid (HR.out.below HB2 hsz)
  have Hg : 2 < w1.heap.size := by have := HE.out.lt; have := HB1.size; omega
  replace HB12 := Lib.hid HB12
  replace Hg := Lib.hid Hg
  clear HB1 HB2 HE1 HX HE
  obtain ⟨g, rfl⟩ : ∃ g, g = w1.heap.size := ⟨_, rfl⟩
  generalize w1.heap.size = g at *
  clear w1
  go_upto_region 3 with (go_at_call 93; (with_reducible refine (shWrite_any g _ _ _ xs v _ HH.out (by decide) (by decide) HX2.out HE2.out Hg.out).mono ?_); rintro e w' ⟨rfl, HH3, HO3⟩)
  have hb := putF_bounds h0 (by decide) (by decide) xs
  have HBD := Lib.hid hb
  replace HH3 : Hid (HashAt w' g (putF h0 xs).s (putF h0 xs).b (putF h0 xs).n) := Lib.hid HH3
  have HE3 := Lib.hid (HO3.env HE2.out Hg.out).consts
  have HR3 := Lib.hid (show RowAt w' w.heap.size .u8 32 62 (fun _ => 0) from (HO3.block _ HR.out.lt (by omega)).trans HR.out)
  have HB3 := Lib.hid (HB12.out.trans (HO3.below (Nat.le_of_lt hsz) (Nat.le_of_lt HR.out.lt)))
  clear HO3 HH HX2 HE2 HR HB12 hb
  go_wp2_with (first
    | (go_at_call 94; (with_reducible refine (sumM_any g _ _ _ _ HH3.out HBD.out.1 HBD.out.2 HE3.out).mono ?_); rintro e w4 ⟨rfl, HB4⟩; replace HB4 := Lib.hid HB4)
    | (refine wpList_store_row rfl 62 (.tmp 2) (.tmp 9) rfl w.heap.size _ rfl rfl 62 _ (HR3.out.below HB4.out HR3.out.lt) (by rw [rowOf_size]; kernel_rfl) (by rw [rowOf_size, rowOf_size]) (rowOf_one _ _ _) ?_))
  refine bodyPost_ret (results_cell_row rfl _ _ w.heap.size 62 _ (0, 0) _ rfl (setRow_heap _ _ _ _ _ _ (HR3.out.below HB4.out HR3.out.lt)) Tryz.underlying62 rfl (by rw [rowOf_size]; kernel_rfl)) rfl ?_
  exact ⟨rfl, below_setRow (HB3.out.trans (HB4.out.mono HB3.out.size)) (Nat.le_refl _) _⟩
end Go.Proofs.YtabflppnecemkaaGreatDoor
namespace Go.Proofs.YtabflppnecemkaaGreatDoor
set_option linter.unusedVariables false
set_option linter.unusedSimpArgs false
/-- how many groups -/
def glen (n : Nat) : Nat := if h : n < 128 then 1 else glen (n / 128) + 1
termination_by n
decreasing_by omega
theorem glen_small {n : Nat} (h : n < 128) : glen n = 1 := by rw [glen, dif_pos h]
theorem glen_big {n : Nat} (h : ¬ n < 128) : glen n = glen (n / 128) + 1 := by rw [glen, dif_neg h]
theorem glen_pos (n : Nat) : 0 < glen n := by
  by_cases h : n < 128
  · rw [glen_small h]; decide
  · rw [glen_big h]; omega
theorem div_pow_succ (n i : Nat) : n / 128 ^ (i + 1) = n / 128 / 128 ^ i := by rw [Nat.pow_succ, Nat.mul_comm, ← Nat.div_div_eq_div_mul]
theorem div_pow_step (n i : Nat) : n / 128 ^ (i + 1) = n / 128 ^ i / 128 := by rw [Nat.pow_succ, ← Nat.div_div_eq_div_mul]
theorem glen_lo : ∀ (n i : Nat), i + 1 < glen n → 128 ≤ n / 128 ^ i := by
  intro n
  induction n using Nat.strongRecOn with
  | ind n ih =>
    intro i hi
    by_cases h : n < 128
    · rw [glen_small h] at hi; omega
    · rw [glen_big h] at hi
      cases i with
      | zero => simp; omega
      | succ i => rw [div_pow_succ]; exact ih (n / 128) (by omega) i (by omega)
theorem glen_hi : ∀ n : Nat, n / 128 ^ (glen n - 1) < 128 := by
  intro n
  induction n using Nat.strongRecOn with
  | ind n ih =>
    by_cases h : n < 128
    · rw [glen_small h]; simpa using h
    · have := glen_pos (n / 128)
      rw [glen_big h, show glen (n / 128) + 1 - 1 = (glen (n / 128) - 1) + 1 by omega, div_pow_succ]
      exact ih (n / 128) (by omega)
theorem glen_iff {n k : Nat} (h : k < glen n) : 128 ≤ n / 128 ^ k ↔ k + 1 < glen n := by
  constructor
  · intro h1
    by_cases h2 : k + 1 < glen n
    · exact h2
    · have := glen_hi n
      rw [show glen n - 1 = k by omega] at this
      omega
  · exact glen_lo n k
theorem glen_le {n : Nat} (h : n < 18446744073709551616) : glen n ≤ 10 := by
  by_cases hc : glen n ≤ 10
  · exact hc
  · have := glen_lo n 9 (by omega)
    have e : (128 : Nat) ^ 9 = 9223372036854775808 := by decide
    rw [e] at this
    omega
/-- byte i of the varint -/
def gby (n i : Nat) : Nat := if i + 1 < glen n then n / 128 ^ i % 128 + 128 else n / 128 ^ i
def varint (n : Nat) : List Int := (List.range (glen n)).map fun i => ((gby n i : Nat) : Int)
theorem varint_length (n : Nat) : (varint n).length = glen n := by simp [varint]
theorem varint_get {n i : Nat} (h : i < glen n) : (varint n)[i]? = some ((gby n i : Nat) : Int) := by simp [varint, h]
theorem gby_lt {n i : Nat} (h : i < glen n) : gby n i < 256 := by
  unfold gby
  split
  · omega
  · have := glen_hi n
    rw [show glen n - 1 = i by omega] at this
    omega
theorem gby_more {n i : Nat} (h : i + 1 < glen n) : 128 ≤ gby n i ∧ gby n i % 128 = n / 128 ^ i % 128 := by
  unfold gby; rw [if_pos h]; omega
theorem gby_last {n i : Nat} (h : i + 1 = glen n) : gby n i = n / 128 ^ i ∧ gby n i < 128 := by
  have := glen_hi n
  rw [show glen n - 1 = i by omega] at this
  unfold gby; rw [if_neg (by omega)]
  exact ⟨rfl, this⟩
/-- the first bytes as they are laid, behind them zeros -/
def gbyK (n k : Nat) : Nat → Int := fun i => if i < k then ((gby n i : Nat) : Int) else 0
/-- what a reader adds up: the low seven bits of the first i bytes, below 2^64 -/
def accF (xs : List Int) : Nat → Nat
  | 0 => 0
  | i + 1 => accF xs i + ((xs.getD i 0).toNat % 128 * 128 ^ i) % 18446744073709551616
theorem pow128 (i : Nat) : 0 < 128 ^ i := Nat.pow_pos (by decide)
theorem accF_lt (xs : List Int) : ∀ i, i ≤ 9 → accF xs i < 128 ^ i
  | 0, _ => by simp [accF]
  | i + 1, h => by
    have ih := accF_lt xs i (by omega)
    have h1 : (xs.getD i 0).toNat % 128 * 128 ^ i % 18446744073709551616 ≤ (xs.getD i 0).toNat % 128 * 128 ^ i := Nat.mod_le _ _
    have h2 : (xs.getD i 0).toNat % 128 * 128 ^ i ≤ 127 * 128 ^ i := Nat.mul_le_mul_right _ (by omega)
    have h3 : (128 : Nat) ^ (i + 1) = 128 ^ i * 128 := Nat.pow_succ _ _
    have h4 : accF xs (i + 1) = accF xs i + (xs.getD i 0).toNat % 128 * 128 ^ i % 18446744073709551616 := rfl
    omega
/-- the bytes of a varint add up to its number -/
theorem accF_varint (n : Nat) (r : List Int) (hn : n < 18446744073709551616) : ∀ i, i ≤ glen n → accF (varint n ++ r) i = n % 128 ^ i := by
  intro i
  induction i with
  | zero => intro _; simp [accF, Nat.mod_one]
  | succ i ih =>
    intro h
    have hg : (varint n ++ r).getD i 0 = ((gby n i : Nat) : Int) := by
      simp [List.getD, List.getElem?_append_left (by rw [varint_length]; omega : i < (varint n).length), varint_get (show i < glen n by omega)]
    have e : gby n i % 128 = n / 128 ^ i % 128 := by
      by_cases h1 : i + 1 < glen n
      · exact (gby_more h1).2
      · rw [(gby_last (by omega : i + 1 = glen n)).1]
    show accF _ i + _ = _
    rw [ih (by omega), hg, Int.toNat_natCast, e]
    have hm : n / 128 ^ i % 128 * 128 ^ i ≤ n / 128 ^ i * 128 ^ i := Nat.mul_le_mul_right _ (Nat.mod_le _ _)
    have hd : n / 128 ^ i * 128 ^ i ≤ n := Nat.div_mul_le_self _ _
    have hlt : n / 128 ^ i % 128 * 128 ^ i < 18446744073709551616 := by omega
    rw [Nat.mod_eq_of_lt hlt, Nat.pow_succ, Nat.mod_mul, Nat.mul_comm (n / 128 ^ i % 128)]
theorem mod_glen (n : Nat) : n % 128 ^ glen n = n := by
  apply Nat.mod_eq_of_lt
  have h := glen_hi n
  have hp := glen_pos n
  have h2 : n / 128 ^ glen n = 0 := by
    obtain ⟨k, hk⟩ : ∃ k, glen n = k + 1 := ⟨glen n - 1, by omega⟩
    rw [hk, Nat.add_sub_cancel] at h
    rw [hk, div_pow_step]; exact Nat.div_eq_of_lt h
  rcases Nat.lt_or_ge n (128 ^ glen n) with h3 | h3
  · exact h3
  · have := Nat.div_pos h3 (pow128 _); omega
end Go.Proofs.YtabflppnecemkaaGreatDoor
namespace Go.Proofs.YtabflppnecemkaaGreatDoor
set_option linter.unusedVariables false
set_option linter.unusedSimpArgs false
open Go.RowKit
set_option maxRecDepth 100000
/-- where the array of a slice lies, if it is old, it is that of the elder slice -/
def OwnOf (v v' : Value) (w : World) : Prop := v'.ownBlock = v.ownBlock ∨ ∃ k, v'.ownBlock = some k ∧ w.heap.size ≤ k
theorem owns_wide {w : World} {base n : Nat} {v : Value} {vs : List Value} (h : w.ownsRow base 5 1 v n vs) : ∃ a c, v = .slice a n c := by
  rcases h.2 with ⟨rfl, h0⟩ | ⟨g, c, _, rfl, _⟩
  · exact ⟨none, 0, by rw [h0]⟩
  · exact ⟨_, c, rfl⟩
/-- append of bytes to a slice of one's own -/
theorem run_append_bytes (w : World) (base : Nat) (v : Value) (n : Nat) (vs : List Value) (hown : w.ownsRow base 5 1 v n vs) (y : Value) (ys : List Int) (hy : BytesIn w y ys) (hl : n + ys.length ≤ 140737488355328) (hb : base ≤ w.heap.size) :
    ∃ v' w', (Builtin.append_ #[28, 28] 28 #[v, y]).run Tryz.prog w = .ok v' w' ∧ w'.ownsRow base 5 1 v' (n + ys.length) (vs ++ byteVals ys) ∧ w.grownBy w' v.ownBlock ∧ OwnOf v v' w := by
  obtain ⟨i0, hi, hz0, hz1, hz2⟩ := info_parts infoU8
  obtain ⟨a, c, rfl, hc, hm, hx⟩ := hy
  rcases a with _ | ad
  · have hn : ys = [] := by
      rcases hx with hx | ⟨_, _, h, _⟩
      · exact hx
      · cases h
    subst hn
    refine ⟨v, w, ?_, by simpa [byteVals] using hown, ⟨rfl, rfl, rfl, Nat.le_refl _, fun _ _ _ => rfl⟩, .inl rfl⟩
    rcases hown.2 with ⟨rfl, rfl⟩ | ⟨g, cap, cur, rfl, _, _, hnc, _⟩
    · simp [Builtin.append_, run_underlying Tryz.underlying28, sizeOf, typeInfo, hi, Builtin.lenOf, Builtin.firstCells]
    · simp [Builtin.append_, run_underlying Tryz.underlying28, sizeOf, typeInfo, hi, Builtin.lenOf, Builtin.firstCells, hnc, storeCells]
  · have hcells : ∀ j u, (byteVals ys)[j]? = some u → w.cell? (ad.add j) = some u := fun j u hu => by
      rcases hx with rfl | ⟨ab, ao, h, hx⟩
      · simp [byteVals] at hu
      · injection h with h; subst h
        rw [Addr.add_mid]
        simp only [byteVals, List.getElem?_map] at hu
        cases hj : ys[j]? with
        | none => rw [hj] at hu; cases hu
        | some x => rw [hj] at hu; cases hu; exact hx j x hj
    obtain ⟨v', w', hr, h1, h2, _, h4⟩ := run_append_own_at w base 28 28 5 i0 (.int .u8 0) 1 1 Tryz.underlying28 hi hz0 hz1 hz2 rfl (by decide) v n vs hown ad ys.length c (byteVals ys) (by rw [byteVals_length, Nat.mul_one]) hcells (byteVals_one ys) (by unfold maxLen; omega) (by omega) hb
    exact ⟨v', w', hr, h1, h2, h4.imp id fun h => ⟨_, h, Nat.le_refl _⟩⟩
theorem wpList_append_bytes {w : World} {ops : Array Oper} {rest : List Oper} {o : Oper} {a : Act} {Q : Exit → Act → World → Prop} (hgd : o.guard = none) (s x : Operand)
    (ho : o.op = .call { callee := .builtin .append, args := #[s, x], argTypes := #[28, 28] }) (hty : o.type = 28)
    (base : Nat) (v : Value) (n : Nat) (vs : List Value) (hs : a.eval s = v) (hown : w.ownsRow base 5 1 v n vs) (y : Value) (ys : List Int) (hx : a.eval x = y) (hy : BytesIn w y ys) (hl : n + ys.length ≤ 140737488355328) (hb : base ≤ w.heap.size)
    (h : ∀ v' w', w'.ownsRow base 5 1 v' (n + ys.length) (vs ++ byteVals ys) → w.grownBy w' v.ownBlock → OwnOf v v' w → wpList Tryz.prog ops Q rest (a.put o.dst v') w') : wpList Tryz.prog ops Q (o :: rest) a w := by
  refine wpList_plain hgd fun K hK => ?_
  obtain ⟨v', w', hr, h1, h2, h3⟩ := run_append_bytes w base v n vs hown y ys hy hl hb
  unfold Oper.wp execOp
  simp only [ho, hty, resolve, invoke, builtin, Sem.run_bind, Sem.run_pure, Result.andThen_ok, List.map_toArray, List.map_cons, List.map_nil, hs, hx, hr]
  exact hK _ _ (h v' w' h1 h2 h3)
theorem owns_in {w : World} {base : Nat} {v : Value} {xs : List Int} (h : w.ownsRow base 5 1 v xs.length (byteVals xs)) (hl : xs.length ≤ maxLen) : BytesIn w v xs := by
  rcases h.2 with ⟨rfl, h0⟩ | ⟨g, c, cur, rfl, hb, hg, hc, hm, hs, ht⟩
  · obtain rfl := List.eq_nil_of_length_eq_zero h0
    exact ⟨none, 0, rfl, Nat.le_refl _, hl, .inl rfl⟩
  · refine ⟨_, c, rfl, hc, hl, .inr ⟨g, 0, rfl, fun i x hi => ?_⟩⟩
    have := h.cells (g := g) rfl i (.int .u8 x) (by simp [byteVals, hi])
    rw [Addr.add_mid] at this
    exact this
theorem eqNil_some (ad : Addr) (n c : Nat) (w : World) : (binOp .eql 28 (.slice (some ad) n c) (.slice none 0 0)).run Tryz.prog w = .ok (.bool false) w := by kernel_rfl
theorem eqNil_none (n c : Nat) (w : World) : (binOp .eql 28 (.slice none n c) (.slice none 0 0)).run Tryz.prog w = .ok (.bool true) w := by kernel_rfl
set_option maxRecDepth 100000 in
set_option maxHeartbeats 400000 in
theorem clone_any (y : Value) (ys : List Int) (w : World) (hy : BytesIn w y ys) (hl : ys.length ≤ 140737488355328) :
    Calls Tryz.prog 53 #[y] w fun e w' => ∃ v', e = .returned v' ∧ w'.ownsRow w.heap.size 5 1 v' ys.length (byteVals ys) ∧ Below w.heap.size w w' := by
  have HY := Lib.hid hy
  have HL := Lib.hid hl
  obtain ⟨a, c, rfl, hc, hm, hx⟩ := hy
  clear hl
  cases a with
  | none =>
    have hn : ys = [] := by
      rcases hx with hx | ⟨_, _, h, _⟩
      · exact hx
      · cases h
    subst hn
    clear hc hm hx
    have h1 := eqNil_none 0 c
    go_enter Tryz.func53, Tryz.ntmps53
    go_wp2_with (fail)
    go_ret
    exact ⟨_, rfl, World.ownsRow_nil _ _ _ _, Below.refl _ _⟩
  | some ad =>
    clear hc hm hx
    have h1 := eqNil_some ad ys.length c
    go_enter Tryz.func53, Tryz.ntmps53
    have HO := Lib.hid (World.ownsRow_lit (w := w) (base := w.heap.size) (e := 5) (size := 1) #[] 0 (Nat.le_refl _) (by simp [maxLen]) rfl)
    have HB := Lib.hid (below_alloc w (.cells #[] 5))
    go_wp2_with (at_builtin; refine wpList_append_bytes rfl (.tmp 5) (.tmp 6) rfl rfl w.heap.size _ 0 [] rfl HO.out (.slice (some ad) ys.length c) ys rfl (HY.out.below HB.out) (by have := HL.out; omega) (by simp) ?_; intro v' w1 ho hg _; have H := Lib.hid ho; have HB1 := Lib.hid (HB.out.grown hg (by simp) (fun k hk => (HO.out.lt k hk).1)); clear ho hg)
    go_ret
    refine ⟨_, rfl, ?_, HB1.out⟩
    have := H.out
    rw [Nat.zero_add, List.nil_append] at this
    exact this
/-- an error, by its number -/
def errV : Option Nat → Value
  | none => .nilIface
  | some n => .iface 67 (.int .i64 n)
theorem nil_in (w : World) : BytesIn w (.slice none 0 0) [] := ⟨_, _, rfl, by simp, by simp [maxLen], .inl rfl⟩
end Go.Proofs.YtabflppnecemkaaGreatDoor
namespace Go.Proofs.YtabflppnecemkaaGreatDoor
set_option linter.unusedVariables false
set_option linter.unusedSimpArgs false
open Go.RowKit
set_option maxRecDepth 100000
/-- block p is a Writer: its slice v is its own and holds xs -/
def WAt (w : World) (p : Nat) (v : Value) (xs : List Int) : Prop :=
  w.heap[p]? = some (.cells #[v] 118 (0, 0)) ∧ w.ownsRow (p + 1) 5 1 v xs.length (byteVals xs)
/-- of the blocks that there are, only p and the array of v may have turned; the array of v' is that of v or new -/
structure WStep (p : Nat) (v v' : Value) (w w' : World) : Prop where
  os : w'.os = w.os
  tape : w'.tape = w.tape
  output : w'.output = w.output
  size : w.heap.size ≤ w'.heap.size
  block : ∀ k, k < w.heap.size → k ≠ p → some k ≠ v.ownBlock → w'.heap[k]? = w.heap[k]?
  own : OwnOf v v' w
theorem WStep.refl (p : Nat) (v : Value) (w : World) : WStep p v v w w := ⟨rfl, rfl, rfl, Nat.le_refl _, fun _ _ _ _ => rfl, .inl rfl⟩
theorem WStep.trans {p : Nat} {v v' v'' : Value} {a b c : World} (h : WStep p v v' a b) (k : WStep p v' v'' b c) : WStep p v v'' a c := by
  refine ⟨k.os.trans h.os, k.tape.trans h.tape, k.output.trans h.output, Nat.le_trans h.size k.size, fun i hi hp hv => ?_, ?_⟩
  · refine (k.block i (Nat.lt_of_lt_of_le hi h.size) hp fun e => ?_).trans (h.block i hi hp hv)
    rcases h.own with ho | ⟨j, ho, hj⟩
    · exact hv (e.trans ho)
    · rw [ho] at e; injection e; omega
  · rcases k.own with ho | ⟨j, ho, hj⟩
    · rcases h.own with ho2 | ⟨j, ho2, hj⟩
      · exact .inl (ho.trans ho2)
      · exact .inr ⟨j, ho.trans ho2, hj⟩
    · exact .inr ⟨j, ho, Nat.le_trans h.size hj⟩
theorem WStep.of_below {p : Nat} {v : Value} {w w' : World} (h : Below w.heap.size w w') : WStep p v v w w' :=
  ⟨h.os, h.tape, h.output, h.size, fun k hk _ _ => h.block k hk, .inl rfl⟩
theorem WAt.lt {w : World} {p : Nat} {v : Value} {xs : List Int} (h : WAt w p v xs) : p < w.heap.size := (Array.getElem?_eq_some_iff.1 h.1).1
theorem WAt.ne {w : World} {p : Nat} {v : Value} {xs : List Int} (h : WAt w p v xs) : ∀ k, v.ownBlock = some k → p < k ∧ k < w.heap.size := fun k hk => by
  have := h.2.lt k hk; omega
theorem WAt.below {w w' : World} {p : Nat} {v : Value} {xs : List Int} (h : WAt w p v xs) (hb : Below w.heap.size w w') : WAt w' p v xs := by
  refine ⟨(hb.block p h.lt).trans h.1, h.2.kept (row := none) ⟨hb.os, hb.tape, hb.output, hb.size, fun k hk _ => hb.block k hk⟩ ?_⟩
  cases v.ownBlock <;> simp
/-- what lies below the Writer is as it was -/
theorem WStep.below {p B : Nat} {v v' : Value} {xs : List Int} {w w' : World} (h : WStep p v v' w w') (hw : WAt w p v xs) (hB : B ≤ p) : Below B w w' :=
  ⟨h.os, h.tape, h.output, h.size, fun k hk => h.block k (by have := hw.lt; omega) (by omega) fun e => by have := hw.ne k e.symm; omega⟩
theorem WAt.cell {w : World} {p : Nat} {v : Value} {xs : List Int} (h : WAt w p v xs) : w.cell? ⟨p, 0, none⟩ = some v := by
  rw [cell_of_row w p 0 _ _ _ h.1]; rfl
theorem WAt.free {w : World} {p : Nat} {v : Value} {xs : List Int} (h : WAt w p v xs) : w.frozen? ⟨p, 0, none⟩ = false := frozen_of_row w p 0 _ _ h.1
theorem WAt.wide {w : World} {p : Nat} {v : Value} {xs : List Int} (h : WAt w p v xs) : ∃ a c, v = .slice a xs.length c := by
  rcases h.2.2 with ⟨rfl, h0⟩ | ⟨g, c, _, rfl, _⟩
  · exact ⟨none, 0, by rw [h0]⟩
  · exact ⟨_, c, rfl⟩
theorem WAt.grown {w w' : World} {p : Nat} {v : Value} {xs : List Int} (h : WAt w p v xs) (hg : w.grownBy w' v.ownBlock) : w'.heap[p]? = some (.cells #[v] 118 (0, 0)) :=
  (hg.block p h.lt fun e => by have := h.ne p e.symm; omega).trans h.1
/-- the appended slice is stored -/
theorem WAt.stored {w w1 : World} {p : Nat} {v v' : Value} {xs ys : List Int} (h : WAt w p v xs) (hg : w.grownBy w1 v.ownBlock) (ho : w1.ownsRow (p + 1) 5 1 v' (xs.length + ys.length) (byteVals xs ++ byteVals ys)) (hof : OwnOf v v' w) :
    WAt (w1.setCell ⟨p, 0, none⟩ v') p v' (xs ++ ys) ∧ WStep p v v' w (w1.setCell ⟨p, 0, none⟩ v') := by
  have h1 := h.grown hg
  refine ⟨⟨?_, ?_⟩, hg.os, hg.tape, hg.output, ?_, fun k hk hp hv => ?_, hof⟩
  · rw [heap_setCell_same w1 p 0 _ _ _ h1]; rfl
  · rw [List.length_append, byteVals_append]
    refine ho.kept (row := some p) ⟨rfl, rfl, rfl, by simp [World.setCell], fun k _ hk => Below.heap_setCell _ _ _ _ fun e => hk (by rw [e])⟩ ?_
    cases hb : v'.ownBlock with
    | none => exact .inl rfl
    | some k => right; intro e; injection e with e; have := ho.lt k hb; omega
  · exact Nat.le_trans hg.size (by simp [World.setCell])
  · rw [Below.heap_setCell _ _ _ _ (by exact hp)]; exact hg.block k hk hv
theorem new_any (w : World) : Calls Tryz.prog 32 #[] w fun e w' => e = .returned (.pointer (some ⟨w.heap.size, 0, none⟩)) ∧ WAt w' w.heap.size (.slice none 0 0) [] ∧ Below w.heap.size w w' := by
  go_enter Tryz.func32, Tryz.ntmps32
  go_wp2
  go_ret
  exact ⟨rfl, ⟨heap_alloc_new w _, World.ownsRow_nil _ _ _ _⟩, below_alloc w _⟩
set_option maxRecDepth 100000 in
set_option maxHeartbeats 400000 in
theorem add_any (p : Nat) (v y : Value) (xs ys : List Int) (w : World) (hw : WAt w p v xs) (hy : BytesIn w y ys) (hl : xs.length + ys.length ≤ 140737488355328) :
    Calls Tryz.prog 64 #[.pointer (some ⟨p, 0, none⟩), y] w fun e w' => e = .returned (.pointer (some ⟨p, 0, none⟩)) ∧ ∃ v', WAt w' p v' (xs ++ ys) ∧ WStep p v v' w w' := by
  have HW := Lib.hid hw
  have HY := Lib.hid hy
  have HL := Lib.hid hl
  have hc := hw.cell
  clear hw hy hl
  go_enter Tryz.func64, Tryz.ntmps64
  go_upto_region 2 with (fail)
  go_wp2_with (at_builtin; refine wpList_append_bytes rfl (.tmp 11) (.tmp 12) rfl rfl (p + 1) v xs.length (byteVals xs) rfl HW.out.2 y ys rfl HY.out HL.out (by have := HW.out.lt; omega) ?_; intro v' w1 ho hg hof; obtain ⟨a1, c1, rfl⟩ := owns_wide ho; have H := Lib.hid (HW.out.stored hg ho hof); have h1 := HW.out.grown hg; have hc1 := cell_of_row w1 p 0 _ _ _ h1; have hf1 := frozen_of_row w1 p 0 _ _ h1; clear hc hg ho hof h1)
  go_ret
  exact ⟨rfl, _, H.out.1, H.out.2⟩
end Go.Proofs.YtabflppnecemkaaGreatDoor
namespace Go.Proofs.YtabflppnecemkaaGreatDoor
set_option linter.unusedVariables false
set_option linter.unusedSimpArgs false
open Go.RowKit
set_option maxRecDepth 100000
theorem done_any (p : Nat) (v : Value) (xs : List Int) (w : World) (hw : WAt w p v xs) (hl : xs.length ≤ 140737488355328) :
    Calls Tryz.prog 38 #[.pointer (some ⟨p, 0, none⟩)] w fun e w' => ∃ v', e = .returned v' ∧ w'.ownsRow w.heap.size 5 1 v' xs.length (byteVals xs) ∧ Below w.heap.size w w' := by
  have HV := Lib.hid (owns_in hw.2 (by unfold maxLen; omega))
  have HL := Lib.hid hl
  have hc := hw.cell
  clear hw hl
  go_enter Tryz.func38, Tryz.ntmps38
  go_wp2_with (go_at_call 53; (with_reducible refine (clone_any v xs _ HV.out HL.out).mono ?_); rintro e w1 ⟨v', rfl, ho, hb⟩; have H := Lib.hid ho; have HB := Lib.hid hb; clear ho hb)
  go_ret
  exact ⟨_, rfl, H.out, HB.out⟩
end Go.Proofs.YtabflppnecemkaaGreatDoor
