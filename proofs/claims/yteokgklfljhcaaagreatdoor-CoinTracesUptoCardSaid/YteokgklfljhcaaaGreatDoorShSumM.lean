/- Sum of a Hash; Sum of bytes. -/
import Derived.Test.YteokgklfljhcaaaGreatDoorShWrite
namespace Go.Proofs.YteokgklfljhcaaaGreatDoor
open Go.RowKit
/-- the bytes of eight words -/
def outF (f : Nat → Int) : Nat → Int := fun i => f (i / 4) / 2 ^ (24 - 8 * (i % 4)) % 256
/-- the first k bytes are there -/
def outK (f : Nat → Int) (k : Nat) : Nat → Int := fun i => if i < k then outF f i else 0
theorem outK_succ (f : Nat → Int) (i j : Nat) (hj : j < 4) : upd (outK f (4 * i + j)) (4 * i + j) (f i / 2 ^ (24 - 8 * j) % 256) = outK f (4 * i + j + 1) := by
  funext x
  unfold upd outK
  by_cases h : x = 4 * i + j
  · subst h
    rw [if_pos rfl, if_pos (by omega)]
    unfold outF
    rw [show (4 * i + j) / 4 = i by omega, show (4 * i + j) % 4 = j by omega]
  · rw [if_neg h]
    by_cases h2 : x < 4 * i + j
    · rw [if_pos h2, if_pos (by omega)]
    · rw [if_neg h2, if_neg (by omega)]
theorem zeros32 : (#[Value.int IntKind.u8 0, Value.int IntKind.u8 0, Value.int IntKind.u8 0, Value.int IntKind.u8 0, Value.int IntKind.u8 0, Value.int IntKind.u8 0, Value.int IntKind.u8 0, Value.int IntKind.u8 0, Value.int IntKind.u8 0, Value.int IntKind.u8 0, Value.int IntKind.u8 0, Value.int IntKind.u8 0, Value.int IntKind.u8 0, Value.int IntKind.u8 0, Value.int IntKind.u8 0, Value.int IntKind.u8 0, Value.int IntKind.u8 0, Value.int IntKind.u8 0, Value.int IntKind.u8 0, Value.int IntKind.u8 0, Value.int IntKind.u8 0, Value.int IntKind.u8 0, Value.int IntKind.u8 0, Value.int IntKind.u8 0, Value.int IntKind.u8 0, Value.int IntKind.u8 0, Value.int IntKind.u8 0, Value.int IntKind.u8 0, Value.int IntKind.u8 0, Value.int IntKind.u8 0, Value.int IntKind.u8 0, Value.int IntKind.u8 0] : Array Value) = rowOf .u8 32 (fun _ => 0) := by rfl
theorem index59 (f : Nat → Int) (i : Nat) (h : i < 8) (w : World) : (Instr.index 149 (.agg (rowOf .u32 8 f)) (.int .i64 (i : Int))).run Tryz.prog w = .ok (.int .u32 (f i)) w := by
  have hs : (sizeOf 147).run Tryz.prog w = .ok 1 w := by kernel_rfl
  have hp : (part 147 (rowOf .u32 8 f) i).run Tryz.prog w = .ok (.int .u32 (f i)) w := by
    have ha : (isAgg 147).run Tryz.prog w = .ok false w := by kernel_rfl
    simp [part, Sem.run_bind, ha, rowOf_get .u32 8 f i h]
  have hi : (0 ≤ (i : Int) ∧ (i : Int) < (8 : Nat)) := by omega
  simp only [Instr.index, asIntOf, Sem.run_bind, Sem.run_pure, Result.andThen_ok, run_underlying Tryz.underlying149, if_pos hi, Int.toNat_natCast, hs, Nat.mul_one, hp]
/-- what Sum of a Hash knows of memory -/
structure SumM (w w' : World) (g : Nat) (s b : Nat → Int) (n : Int) (r u : Nat → Int) : Prop where
  hash : HashAt w' g s b n
  re : RowAt w' w.heap.size .u8 32 23 r
  su : RowAt w' (w.heap.size + 1) .u8 32 23 u
  below : Below w.heap.size w w'
  consts : Consts w'
theorem sum_mem (w : World) (g : Nat) (s b : Nat → Int) (n : Int) (hh : HashAt w g s b n) (hk : Consts w) : SumM w ((w.alloc (.cells (rowOf .u8 32 (fun _ => 0)) 23)).alloc (.cells (rowOf .u8 32 (fun _ => 0)) 23)) g s b n (fun _ => 0) (fun _ => 0) := by
  have hb : Below w.heap.size w ((w.alloc (.cells (rowOf .u8 32 (fun _ => 0)) 23)).alloc (.cells (rowOf .u8 32 (fun _ => 0)) 23)) := (below_alloc w _).trans ((below_alloc _ _).mono (by simp))
  refine ⟨hh.below hb hh.lt, (RowAt.new w _ _ _ _).alloc _, ?_, hb, hk.below hb hk.lt⟩
  have := RowAt.new (w.alloc (.cells (rowOf .u8 32 (fun _ => 0)) 23)) .u8 32 23 (fun _ => 0)
  rw [shSize_alloc] at this; exact this
theorem SumM.calls {w w' w2 : World} {g : Nat} {s b : Nat → Int} {n : Int} {r u : Nat → Int} (h : SumM w w' g s b n r u) (hb : Below w'.heap.size w' w2) : SumM w w2 g s b n r u :=
  ⟨h.hash.below hb h.hash.lt, h.re.below hb h.re.lt, h.su.below hb h.su.lt, h.below.trans (hb.mono h.below.size), h.consts.below hb h.consts.lt⟩
theorem SumM.put {w w' : World} {g : Nat} {s b : Nat → Int} {n : Int} {r F : Nat → Int} {k q : Nat} (h : SumM w w' g s b n r (outK F (4 * k + q))) (hq : q < 4) (hg : g < w.heap.size) (hk : 2 < w.heap.size) :
    SumM w (w'.setCell ⟨w.heap.size + 1, 4 * k + q, none⟩ (.int .u8 (F k / 2 ^ (24 - 8 * q) % 256))) g s b n r (outK F (4 * k + (q + 1))) := by
  have hb : Below w.heap.size w' (w'.setCell ⟨w.heap.size + 1, 4 * k + q, none⟩ (.int .u8 (F k / 2 ^ (24 - 8 * q) % 256))) := (Below.refl _ _).setCell (by show w.heap.size ≤ w.heap.size + 1; omega) _
  refine ⟨h.hash.below hb hg, h.re.other _ _ (by show w.heap.size ≠ w.heap.size + 1; omega), ?_, h.below.trans hb, h.consts.below hb hk⟩
  have := h.su.set (4 * k + q) (F k / 2 ^ (24 - 8 * q) % 256)
  rw [outK_succ F k q hq] at this
  exact this
abbrev SumS (g : Nat) (s b : Nat → Int) (n : Int) (w' : World) : Prop := w'.rangeAt g 8 (rowOf .u8 64 b).toList ∧ w'.cell? ⟨g, 0, none⟩ = some (.int .u32 (s 0)) ∧ w'.cell? ⟨g, 1, none⟩ = some (.int .u32 (s 1)) ∧ w'.cell? ⟨g, 2, none⟩ = some (.int .u32 (s 2)) ∧ w'.cell? ⟨g, 3, none⟩ = some (.int .u32 (s 3)) ∧ w'.cell? ⟨g, 4, none⟩ = some (.int .u32 (s 4)) ∧ w'.cell? ⟨g, 5, none⟩ = some (.int .u32 (s 5)) ∧ w'.cell? ⟨g, 6, none⟩ = some (.int .u32 (s 6)) ∧ w'.cell? ⟨g, 7, none⟩ = some (.int .u32 (s 7)) ∧ w'.cell? ⟨g, 72, none⟩ = some (.int .u64 n)
theorem sumS {w : World} {g : Nat} {s b : Nat → Int} {n : Int} (h : HashAt w g s b n) : SumS g s b n w := ⟨h.rangeB, h.cellS 0 (by omega), h.cellS 1 (by omega), h.cellS 2 (by omega), h.cellS 3 (by omega), h.cellS 4 (by omega), h.cellS 5 (by omega), h.cellS 6 (by omega), h.cellS 7 (by omega), h.cellN⟩
theorem fin_lit (s bl : Nat → Int) (n : Int) (hn0 : 0 ≤ n) (hn1 : n < 18446744073709551616) (w : World) (hk : Consts w) :
    Calls Tryz.prog 145 #[.agg #[.int .u32 (s 0), .int .u32 (s 1), .int .u32 (s 2), .int .u32 (s 3), .int .u32 (s 4), .int .u32 (s 5), .int .u32 (s 6), .int .u32 (s 7)], .agg (rowOf .u8 64 bl), .int .u64 n] w fun e w' => e = .returned (.agg (rowOf .u32 8 (finF s bl n (n % 64).toNat))) ∧ Below w.heap.size w w' :=
  fin_any s bl n hn0 hn1 w hk
set_option maxRecDepth 100000 in
set_option maxHeartbeats 400000 in
theorem sumM_any (g : Nat) (s b : Nat → Int) (n : Int) (w : World) (hh : HashAt w g s b n) (h0 : 0 ≤ n) (h1 : n < 18446744073709551616) (hk : Consts w) :
    Calls Tryz.prog 100 #[.pointer (some ⟨g, 0, none⟩)] w fun e w' => e = .returned (.agg (rowOf .u8 32 (outF (finF s b n (n % 64).toNat)))) ∧ Below w.heap.size w w' := by
  have HH := Lib.hid hh
  have HK := Lib.hid hk
  have HN := Lib.hid (show 0 ≤ n ∧ n < 18446744073709551616 from ⟨h0, h1⟩)
  have HG := Lib.hid hh.lt
  have HC := Lib.hid hk.lt
  clear hh hk h0 h1
  go_enter Tryz.func100, Tryz.ntmps100
  go_upto_region 4 with (fail)
  rw [zeros32]
  have hi64 : (Tryz.prog.info? 187).map (·.size) = some (rowOf .u8 64 b).toList.length := by rw [(rowOf_list _ _ _).2]; kernel_rfl
  have hu64 := Tryz.underlying187
  have M := Lib.hid (sum_mem w g s b n HH.out HK.out)
  generalize (w.alloc (.cells (rowOf .u8 32 (fun _ => 0)) 23)).alloc (.cells (rowOf .u8 32 (fun _ => 0)) 23) = w1 at *
  have hS0 : SumS g s b n w1.drew := sumS M.out.hash
  have HD := Lib.hid (show SumM w w1.drew g s b n (fun _ => 0) (fun _ => 0) from ⟨M.out.hash, M.out.re, M.out.su, M.out.below.drew, M.out.consts⟩)
  clear HH HK M
  go_region_held3 (fun w' => w'.rangeAt g 8 (rowOf .u8 64 b).toList ∧ w'.cell? ⟨g, 0, none⟩ = some (.int .u32 (s 0)) ∧ w'.cell? ⟨g, 1, none⟩ = some (.int .u32 (s 1)) ∧ w'.cell? ⟨g, 2, none⟩ = some (.int .u32 (s 2)) ∧ w'.cell? ⟨g, 3, none⟩ = some (.int .u32 (s 3)) ∧ w'.cell? ⟨g, 4, none⟩ = some (.int .u32 (s 4)) ∧ w'.cell? ⟨g, 5, none⟩ = some (.int .u32 (s 5)) ∧ w'.cell? ⟨g, 6, none⟩ = some (.int .u32 (s 6)) ∧ w'.cell? ⟨g, 7, none⟩ = some (.int .u32 (s 7)) ∧ w'.cell? ⟨g, 72, none⟩ = some (.int .u64 n)) (first | (with_reducible exact hS0) | (with_reducible exact hS5)) (first | (go_at_call 145; (with_reducible refine (fin_lit s b n HN.out.1 HN.out.2 _ HD.out.consts).mono ?_); rintro e w5 ⟨rfl, HB5⟩; have HD5 := Lib.hid (HD.out.calls HB5); have hS5 : SumS g s b n w5 := sumS HD5.out.hash; replace HB5 := Lib.hid HB5))
  clear hS0 hS5 hi64 hu64 HD HB5
  rename_i hH
  clear hH w1
  obtain ⟨F, hF⟩ : ∃ F, F = finF s b n (n % 64).toNat := ⟨_, rfl⟩
  rw [← hF]
  replace hF := Lib.hid hF
  go_wp2_with (fail)
  go_loopw [23] (fun i wr => ∃ k : Nat, k ≤ 8 ∧ i = .int .i64 k ∧ Hid (SumM w wr g s b n (fun _ => 0) (outK F (4 * k)))) (fun i _ => 8 - (intOf i).toNat)
  case atStart => exact ⟨0, by omega, rfl, HD5⟩
  case round =>
    clear HD5
    obtain ⟨k, hk, rfl, H⟩ := hrel
    by_cases hlt : k < 8
    · have hix := index59 F k hlt
      go_wp2_with (fail)
      obtain ⟨wo, rfl⟩ : ∃ wo : World, wo = wr := ⟨_, rfl⟩
      go_loopw [27] (fun i wr => ∃ q : Nat, q ≤ 4 ∧ i = .int .i64 q ∧ Hid (SumM w wr g s b n (fun _ => 0) (outK F (4 * k + q)))) (fun i _ => 4 - (intOf i).toNat)
      case atStart => exact ⟨0, by omega, rfl, H⟩
      case round =>
        clear H
        obtain ⟨q, hq, rfl, H⟩ := hrel
        by_cases hqt : q < 4
        · have c0 := H.out.su.cell (4 * k + q) (by omega)
          have f0 := H.out.su.free (4 * k + q)
          have n0 : (4 * (k : Int) + q).toNat = 4 * k + q := by omega
          have n1 : (24 - 8 * (q : Int)).toNat = 24 - 8 * q := by omega
          go_wp2_with (fail)
          go_roundw
          case rel => exact ⟨q + 1, by omega, by go_num, Lib.hid (H.out.put hqt HG.out HC.out)⟩
          case measure => simp [intOf]; omega
        · replace H : Hid (SumM w wr g s b n (fun _ => 0) (outK F (4 * (k + 1)))) := by rw [show 4 * (k + 1) = 4 * k + q by omega]; exact H
          go_wp2_with (fail)
          go_roundw
          case rel => exact ⟨k + 1, by omega, by go_num, H⟩
          case measure => simp [intOf]; omega
    · replace H : Hid (SumM w wr g s b n (fun _ => 0) (outK F 32)) := by rw [show 32 = 4 * k by omega]; exact H
      go_wp2_with (first
        | (refine wpList_load_row rfl 23 (.tmp 3) rfl (w.heap.size + 1) rfl 23 _ (0, 0) _ H.out.su Tryz.underlying23 rfl (by rw [rowOf_size]; kernel_rfl) ?_)
        | (refine wpList_store_row rfl 23 (.tmp 2) (.tmp 43) rfl w.heap.size _ rfl rfl 23 _ H.out.re (by rw [rowOf_size]; kernel_rfl) (by rw [rowOf_size, rowOf_size]) (rowOf_one _ _ _) ?_))
      refine bodyPost_ret (results_cell_row rfl _ _ w.heap.size 23 (rowOf .u8 32 (outK F 32)) (0, 0) _ rfl (setRow_heap _ _ _ _ _ _ H.out.re) Tryz.underlying23 rfl (by rw [rowOf_size]; kernel_rfl)) rfl ?_
      refine ⟨?_, below_setRow H.out.below (Nat.le_refl _) _⟩
      rw [rowOf_congr .u8 32 (outK F 32) (outF F) (fun i hi => by unfold outK; rw [if_pos hi]), hF.out]
theorem BytesIn.at {w w' : World} {v : Value} {xs : List Int} (h : BytesIn w v xs) {B g : Nat} (hb : Below B w w') (hB : w.heap.size ≤ B) (hg : w.heap.size ≤ g) : BytesAt w' g v xs := by
  obtain ⟨a, cap, rfl, hc, hm, hx⟩ := h
  refine ⟨a, cap, rfl, hc, hm, ?_⟩
  rcases hx with hx | ⟨ab, ao, rfl, hx⟩
  · exact .inl hx
  · by_cases he : xs = []
    · exact .inl he
    · obtain ⟨x, xs', rfl⟩ := List.exists_cons_of_ne_nil he
      have h0 := World.block_lt_of_cell? w _ (hx 0 x rfl)
      have h0' : ab < w.heap.size := h0
      exact .inr ⟨ab, ao, rfl, by omega, fun i y hi => (hb.cell (p := ⟨ab, ao + i, none⟩) (by show ab < B; omega)).trans (hx i y hi)⟩
/-- the empty Hash -/
def h0 : HS := ⟨BT, fun _ => 0, 0⟩
/-- the hash that a Hash answers -/
def hsum (h : HS) : Nat → Int := outF (finF h.s h.b h.n (h.n % 64).toNat)
/-- the hash of bytes -/
def sumF (xs : List Int) : Nat → Int := hsum (putF h0 xs)
set_option maxRecDepth 100000 in
set_option maxHeartbeats 400000 in
theorem shSum_any (v : Value) (xs : List Int) (w : World) (hx : BytesIn w v xs) (he : Env w) :
    Calls Tryz.prog 53 #[v] w fun e w' => e = .returned (.agg (rowOf .u8 32 (sumF xs))) ∧ Below w.heap.size w w' := by
  have HX := Lib.hid hx
  have HE := Lib.hid he
  clear hx he
  go_enter Tryz.func53, Tryz.ntmps53
  go_upto_region 1 with (fail)
  rw [zeros32]
  have HB1 : Below w.heap.size w (w.alloc (.cells (rowOf .u8 32 (fun _ => 0)) 23)) := below_alloc _ _
  have HR := Lib.hid (RowAt.new w .u8 32 23 (fun _ => 0))
  have hsz : w.heap.size < (w.alloc (.cells (rowOf .u8 32 (fun _ => 0)) 23)).heap.size := by simp
  generalize w.alloc (.cells (rowOf .u8 32 (fun _ => 0)) 23) = w1 at *
  have HE1 := Lib.hid (HE.out.below HB1 HE.out.lt)
  go_upto_region 2 with (go_at_call 98; (with_reducible refine (shNew_any _ HE1.out).mono ?_); rintro e w' ⟨rfl, rfl⟩)
  have HB2 : Below w1.heap.size w1 (w1.alloc (.cells (hashCells BT (fun _ => 0) 0) 210)) := below_alloc _ _
  have HH := Lib.hid (show HashAt (w1.alloc (.cells (hashCells BT (fun _ => 0) 0) 210)) w1.heap.size BT (fun _ => 0) 0 from heap_alloc_new w1 _)
  generalize w1.alloc (.cells (hashCells BT (fun _ => 0) 0) 210) = w2 at *
  have HB12 : Below w.heap.size w w2 := HB1.trans (HB2.mono HB1.size)
  have HX2 := Lib.hid (HX.out.at (g := w1.heap.size) HB12 (Nat.le_refl _) (by omega))
  have HE2 := Lib.hid (HE.out.below HB12 HE.out.lt)
  replace HR := Lib.hid (HR.out.below HB2 hsz)
  have Hg : 2 < w1.heap.size := by have := HE.out.lt; have := HB1.size; omega
  replace HB12 := Lib.hid HB12
  replace Hg := Lib.hid Hg
  clear HB1 HB2 HE1 HX HE
  obtain ⟨g, rfl⟩ : ∃ g, g = w1.heap.size := ⟨_, rfl⟩
  generalize w1.heap.size = g at *
  clear w1
  go_upto_region 3 with (go_at_call 99; (with_reducible refine (shWrite_any g _ _ _ xs v _ HH.out (by decide) (by decide) HX2.out HE2.out Hg.out).mono ?_); rintro e w' ⟨rfl, HH3, HO3⟩)
  have hb := putF_bounds h0 (by decide) (by decide) xs
  have HBD := Lib.hid hb
  replace HH3 : Hid (HashAt w' g (putF h0 xs).s (putF h0 xs).b (putF h0 xs).n) := Lib.hid HH3
  have HE3 := Lib.hid (HO3.env HE2.out Hg.out).consts
  have HR3 := Lib.hid (show RowAt w' w.heap.size .u8 32 23 (fun _ => 0) from (HO3.block _ HR.out.lt (by omega)).trans HR.out)
  have HB3 := Lib.hid (HB12.out.trans (HO3.below (Nat.le_of_lt hsz) (Nat.le_of_lt HR.out.lt)))
  clear HO3 HH HX2 HE2 HR HB12 hb
  go_wp2_with (first
    | (go_at_call 100; (with_reducible refine (sumM_any g _ _ _ _ HH3.out HBD.out.1 HBD.out.2 HE3.out).mono ?_); rintro e w4 ⟨rfl, HB4⟩; replace HB4 := Lib.hid HB4)
    | (refine wpList_store_row rfl 23 (.tmp 2) (.tmp 9) rfl w.heap.size _ rfl rfl 23 _ (HR3.out.below HB4.out HR3.out.lt) (by rw [rowOf_size]; kernel_rfl) (by rw [rowOf_size, rowOf_size]) (rowOf_one _ _ _) ?_))
  refine bodyPost_ret (results_cell_row rfl _ _ w.heap.size 23 _ (0, 0) _ rfl (setRow_heap _ _ _ _ _ _ (HR3.out.below HB4.out HR3.out.lt)) Tryz.underlying23 rfl (by rw [rowOf_size]; kernel_rfl)) rfl ?_
  exact ⟨rfl, below_setRow (HB3.out.trans (HB4.out.mono HB3.out.size)) (Nat.le_refl _) _⟩
end Go.Proofs.YteokgklfljhcaaaGreatDoor
