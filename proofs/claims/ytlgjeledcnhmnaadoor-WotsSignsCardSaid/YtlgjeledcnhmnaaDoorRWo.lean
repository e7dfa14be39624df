/- The reference's Leaf, Step, at. -/
import Derived.Test.YtlgjeledcnhmnaaDoorShRefS
import Derived.Test.YtlgjeledcnhmnaaDoorRefW
import Derived.Test.YtlgjeledcnhmnaaDoorWoStart
namespace Go.Proofs.YtlgjeledcnhmnaaDoor
open Go.RowKit
set_option maxRecDepth 100000
theorem varint_one {n : Nat} (h : n < 128) : varint n = [(n : Int)] := by simp [varint, glen_small h, gby]
theorem step_sum (leaf chain : Int) (v : Nat → Int) (a k q : Nat) (hq : q = a + k) : sumF ([3] ++ varint (uN leaf) ++ varint (uN chain) ++ varint q ++ rowL 32 (stepN leaf chain v a k)) = stepN leaf chain v a (k + 1) := by
  subst hq
  show _ = step1 leaf chain (stepN leaf chain v a k) (a + k)
  unfold step1
  rw [varint_one (n := 3) (by decide)]
  rfl
theorem start_sum (seed : Nat → Int) (leaf chain : Int) : sumF ([2] ++ rowL 32 seed ++ varint (uN leaf) ++ varint (uN chain)) = startF seed leaf chain := by
  unfold startF
  rw [varint_one (n := 2) (by decide)]
  rfl
theorem dUint_in (b : Value) (bs : List Int) (m : Int) (n : Nat) (hm : m = (n : Int)) (w : World) (hb : BytesIn w b bs) (hn : n < 18446744073709551616) (hl : bs.length + 10 ≤ 140737488355328) :
    Calls Tryd.prog 44 #[b, .int .u64 m] w fun e w' => ∃ v', e = .returned v' ∧ BytesIn w' v' (bs ++ varint n) ∧ Below w.heap.size w w' := by
  subst hm
  refine (dUint_any b bs n w hb hn hl).mono ?_
  rintro e w' ⟨v', he, ho, hbl⟩
  exact ⟨v', he, owns_in ho (by rw [List.length_append, varint_length]; have := glen_le hn; unfold maxLen; omega), hbl⟩
theorem dHash_in (b : Value) (bs : List Int) (f : Nat → Int) (w : World) (hb : BytesIn w b bs) (hl : bs.length + 32 ≤ 140737488355328) :
    Calls Tryd.prog 33 #[b, .agg (rowOf .u8 32 f)] w fun e w' => ∃ v', e = .returned v' ∧ BytesIn w' v' (bs ++ rowL 32 f) ∧ Below w.heap.size w w' := by
  refine (dHash_any b bs f w hb hl).mono ?_
  rintro e w' ⟨v', he, ho, hbl⟩
  exact ⟨v', he, owns_in ho (by rw [List.length_append, rowL32]; unfold maxLen; omega), hbl⟩
set_option maxHeartbeats 1000000 in
theorem rleaf_any (v : Value) (xs : List Int) (w : World) (hx : BytesIn w v xs) (hl : xs.length + 81 ≤ 140737488355328) :
    Calls Tryd.prog 35 #[v] w fun e w' => e = .returned (.agg (rowOf .u8 32 (sumF (0 :: xs)))) ∧ Below w.heap.size w w' := by
  have HL := Lib.hid hl
  have HB0 := Lib.hid ((below_alloc w (.cells (rowOf .u8 32 (fun _ => 0)) 23)).trans ((below_alloc _ (.cells #[.int .u8 0] 5)).mono (by simp)))
  have HX := Lib.hid (hx.below HB0.out)
  have HR := Lib.hid ((RowAt.new w .u8 32 23 (fun _ => 0)).alloc (.cells #[.int .u8 0] 5))
  have HO := Lib.hid (show ((w.alloc (.cells (rowOf .u8 32 (fun _ => 0)) 23)).alloc (.cells #[.int .u8 0] 5)).ownsRow (w.heap.size + 1) 5 1 (.slice (some ⟨w.heap.size + 1, 0, none⟩) 1 1) 1 [.int .u8 0] by
    have h := World.ownsRow_lit (w := w.alloc (.cells (rowOf .u8 32 (fun _ => 0)) 23)) (base := w.heap.size + 1) (e := 5) (size := 1) #[.int .u8 0] 1 (by simp) (by simp [maxLen]) rfl
    rw [shSize_alloc] at h
    exact h)
  clear hx hl
  go_enter Tryd.func35, Tryd.ntmps35
  go_upto_region 1 with (fail)
  rw [zeros32]
  go_wp2_with (first
    | (at_builtin; refine wpList_append_bytes rfl (.tmp 3) (.tmp 4) rfl rfl (w.heap.size + 1) _ 1 [.int .u8 0] rfl HO.out v xs rfl HX.out (by have := HL.out; omega) (by simp) ?_; intro v' w1 ho hg _; have HX1 := Lib.hid (owns_in (xs := 0 :: xs) (by have h := ho; rw [Nat.add_comm 1 xs.length] at h; exact h) (by have := HL.out; unfold maxLen; simp; omega)); have HB1 := Lib.hid (HB0.out.grown hg HB0.out.size (fun k hk => by have := (HO.out.lt k hk).1; omega)); have HR1 := Lib.hid (show RowAt w1 w.heap.size .u8 32 23 (fun _ => 0) from (hg.block _ HR.out.lt (fun e => by have := (HO.out.lt _ e.symm).1; omega)).trans HR.out); clear ho hg)
    | (go_at_call 28; (with_reducible refine (rsum_any _ _ _ HX1.out (by have := HL.out; simp; omega)).mono ?_); rintro e w2 ⟨rfl, hb⟩; replace HR1 := Lib.hid (HR1.out.below hb HR1.out.lt); replace HB1 := Lib.hid (HB1.out.trans (hb.mono HB1.out.size)); clear hb)
    | (refine wpList_store_row rfl 23 (.tmp 2) (.tmp 6) rfl w.heap.size _ rfl rfl 23 _ HR1.out (by rw [rowOf_size]; kernel_rfl) (by rw [rowOf_size, rowOf_size]) (rowOf_one _ _ _) ?_))
  refine bodyPost_ret (results_cell_row rfl _ _ w.heap.size 23 (rowOf .u8 32 (sumF (0 :: xs))) (0, 0) _ rfl (setRow_heap _ _ _ _ _ _ HR1.out) Tryd.underlying23 rfl (by rw [rowOf_size]; kernel_rfl)) rfl ?_
  exact ⟨rfl, below_setRow HB1.out (Nat.le_refl _) _⟩
/-- rows of 32 bytes below a mark -/
structure Has2 (w w' : World) (b r B : Nat) (v : Nat → Int) : Prop where
  below : Below w.heap.size w w'
  val : RowAt w' b .u8 32 23 v
  res : RowAt w' r .u8 32 23 (fun _ => 0)
  size : B ≤ w'.heap.size
  hb : b < B
  hr : r < B
  wB : w.heap.size ≤ B
theorem Has2.calls {w w' w2 : World} {b r B : Nat} {v : Nat → Int} (m : Has2 w w' b r B v) (h : Below B w' w2) : Has2 w w2 b r B v :=
  ⟨m.below.trans (h.mono m.wB), m.val.below h m.hb, m.res.below h m.hr, Nat.le_trans m.size h.size, m.hb, m.hr, m.wB⟩
theorem Has2.call {w w' w2 : World} {b r B : Nat} {v : Nat → Int} (m : Has2 w w' b r B v) (h : Below w'.heap.size w' w2) : Has2 w w2 b r B v := m.calls (h.mono m.size)
theorem Has2.put {w w' : World} {b r B : Nat} {v : Nat → Int} (m : Has2 w w' b r B v) (h : w.heap.size ≤ b) (hbr : b ≠ r) (v' : Nat → Int) : Has2 w (w'.setRow b (rowOf .u8 32 v')) b r B v' :=
  ⟨below_setRow m.below h _, setRow_heap _ _ _ _ _ _ m.val, (setRow_other _ _ _ _ (Ne.symm hbr)).trans m.res, by simpa [World.setRow] using m.size, m.hb, m.hr, m.wB⟩
theorem has2_start (w : World) (v : Nat → Int) : Has2 w ((w.alloc (.cells (rowOf .u8 32 v) 23)).alloc (.cells (rowOf .u8 32 (fun _ => 0)) 23)) w.heap.size (w.heap.size + 1) (w.heap.size + 1 + 1) v :=
  ⟨(below_alloc w _).trans ((below_alloc _ _).mono (by simp)), (RowAt.new w .u8 32 23 v).alloc _, by
    have := RowAt.new (w.alloc (.cells (rowOf .u8 32 v) 23)) .u8 32 23 (fun _ => 0)
    rw [shSize_alloc] at this; exact this, by simp, by omega, by omega, by omega⟩
set_option maxHeartbeats 2000000 in
theorem rstep_any (v : Nat → Int) (leaf chain from_ to_ : Int) (w : World) :
    Calls Tryd.prog 24 #[.agg (rowOf .u8 32 v), .int .i64 leaf, .int .i64 chain, .int .i64 from_, .int .i64 to_] w fun e w' => e = .returned (.agg (rowOf .u8 32 (stepF v leaf chain from_ to_))) ∧ Below w.heap.size w w' := by
  have HU1 := Lib.hid (uN_wrap leaf)
  have HU2 := Lib.hid (uN_wrap chain)
  have HL1 := Lib.hid (uN_lt leaf)
  have HL2 := Lib.hid (uN_lt chain)
  have HG1 := Lib.hid (vlen _ (uN_lt leaf))
  have HG2 := Lib.hid (vlen _ (uN_lt chain))
  obtain ⟨a, ha⟩ : ∃ a : Nat, max from_ 0 = (a : Int) := ⟨(max from_ 0).toNat, by omega⟩
  have HF := Lib.hid (show stepF v leaf chain from_ to_ = stepN leaf chain v a ((min to_ 15).toNat - a) by unfold stepF; rw [ha]; rfl)
  have HA := Lib.hid ha
  clear ha
  go_enter Tryd.func24, Tryd.ntmps24
  go_wp2_with (refine wpList_max2 rfl (.tmp 13) (.const (.int .i64 0)) 3 rfl from_ 0 rfl rfl (a : Int) HA.out ?_)
  rw [zeros32]
  have M : Hid (Has2 w ((w.alloc (.cells (rowOf .u8 32 v) 23)).alloc (.cells (rowOf .u8 32 (fun _ => 0)) 23)) w.heap.size (w.heap.size + 1) (w.heap.size + 1 + 1) (stepN leaf chain v a 0)) := Lib.hid (has2_start w v)
  generalize (w.alloc (.cells (rowOf .u8 32 v) 23)).alloc (.cells (rowOf .u8 32 (fun _ => 0)) 23) = w1 at *
  go_loopw [11] (fun p wr => ∃ q k : Nat, k ≤ (min to_ 15).toNat - a ∧ q = a + k ∧ p = .int .i64 (q : Int) ∧ Hid (Has2 w wr w.heap.size (w.heap.size + 1) (w.heap.size + 1 + 1) (stepN leaf chain v a k))) (fun p _ => (15 - intOf p).toNat)
  case atStart => exact ⟨a, 0, Nat.zero_le _, rfl, rfl, M⟩
  case round =>
    clear M w1
    obtain ⟨q, k, hk, hq, rfl, M⟩ := hrel
    by_cases hlt : (q : Int) < to_ ∧ (q : Int) < 15
    · obtain ⟨h1, h2⟩ := hlt
      have hq15 : q < 15 := by omega
      have HQ := Lib.hid (show IntKind.u64.wrap (q : Int) = (q : Int) from IntWalk.u64_in _ (by omega))
      have HQL := Lib.hid (show q < 18446744073709551616 by omega)
      have HGQ := Lib.hid (vlen q (by omega))
      have HK := Lib.hid (show k + 1 ≤ (min to_ 15).toNat - a by omega)
      have hd1 : decide ((q : Int) < to_) = true := by simpa using h1
      have hd2 : decide ((q : Int) < 15) = true := by simpa using h2
      replace hq := Lib.hid hq
      go_wp2_with (first
        | (go_at_call 44; (with_reducible refine (dUint_in _ [3] _ (uN leaf) HU1.out _ (one_in wr 3) HL1.out (by simp)).mono ?_); rintro e w3 ⟨v3, rfl, hi, hb⟩; have HI := Lib.hid hi; have hb' := (below_alloc wr _).trans (hb.mono (by simp)); replace M := Lib.hid (M.out.call hb'); clear hi hb hb')
        | (go_at_call 44; (with_reducible refine (dUint_in _ ([3] ++ varint (uN leaf)) _ (uN chain) HU2.out _ HI.out HL2.out (by have := HG1.out; simp; omega)).mono ?_); rintro e w4 ⟨v4, rfl, hi, hb⟩; replace HI := Lib.hid hi; replace M := Lib.hid (M.out.call hb); clear hi hb)
        | (go_at_call 44; (with_reducible refine (dUint_in _ ([3] ++ varint (uN leaf) ++ varint (uN chain)) _ q HQ.out _ HI.out HQL.out (by have := HG1.out; have := HG2.out; simp; omega)).mono ?_); rintro e w5 ⟨v5, rfl, hi, hb⟩; replace HI := Lib.hid hi; replace M := Lib.hid (M.out.call hb); clear hi hb)
        | (go_at_call 44; (with_reducible refine (dUint_in _ ([3] ++ varint (uN leaf) ++ varint (uN chain)) _ q rfl _ HI.out HQL.out (by have := HG1.out; have := HG2.out; simp; omega)).mono ?_); rintro e w5 ⟨v5, rfl, hi, hb⟩; replace HI := Lib.hid hi; replace M := Lib.hid (M.out.call hb); clear hi hb)
        | (refine wpList_load_row rfl 23 (.tmp 5) rfl w.heap.size rfl 23 _ (0, 0) _ M.out.val Tryd.underlying23 rfl (by rw [rowOf_size]; kernel_rfl) ?_)
        | (go_at_call 33; (with_reducible refine (dHash_in _ _ (stepN leaf chain v a k) _ HI.out (by have := HG1.out; have := HG2.out; have := HGQ.out; simp; omega)).mono ?_); rintro e w6 ⟨v6, rfl, hi, hb⟩; replace HI := Lib.hid hi; replace M := Lib.hid (M.out.call hb); clear hi hb)
        | (go_at_call 28; (with_reducible refine (rsum_any _ _ _ HI.out (by have := HG1.out; have := HG2.out; have := HGQ.out; have := rowL32 (stepN leaf chain v a k); simp; omega)).mono ?_); rintro e w7 ⟨rfl, hb⟩; replace M := Lib.hid (M.out.call hb); clear hb HI; rw [step_sum leaf chain v a k q hq.out])
        | (refine wpList_store_row rfl 23 (.tmp 5) (.tmp 37) rfl w.heap.size _ rfl rfl 23 _ M.out.val (by rw [rowOf_size]; kernel_rfl) (by rw [rowOf_size, rowOf_size]) (rowOf_one _ _ _) ?_; replace M := Lib.hid (M.out.put (Nat.le_refl _) (by omega) (stepN leaf chain v a (k + 1)))))
      go_roundw
      case rel => exact ⟨q + 1, k + 1, HK.out, by rw [hq.out]; omega, by go_num, M⟩
      case measure => simp [intOf]; omega
    · have HK := Lib.hid (show k = (min to_ 15).toNat - a by omega)
      replace hq := Lib.hid hq
      have key : (¬ (q : Int) < to_) ∨ ((q : Int) < to_ ∧ ¬ (q : Int) < 15) := by omega
      rcases key with h1 | ⟨h1, h2⟩
      all_goals
        first
          | (have hd1 : decide ((q : Int) < to_) = false := by simpa using h1)
          | (have hd1 : decide ((q : Int) < to_) = true := by simpa using h1)
        try (have hd2 : decide ((q : Int) < 15) = false := by simpa using h2)
        go_wp2_with (first
          | (refine wpList_load_row rfl 23 (.tmp 5) rfl w.heap.size rfl 23 _ (0, 0) _ M.out.val Tryd.underlying23 rfl (by rw [rowOf_size]; kernel_rfl) ?_)
          | (refine wpList_store_row rfl 23 (.tmp 10) (.tmp 38) rfl (w.heap.size + 1) _ rfl rfl 23 _ M.out.res (by rw [rowOf_size]; kernel_rfl) (by rw [rowOf_size, rowOf_size]) (rowOf_one _ _ _) ?_))
        refine bodyPost_ret (results_cell_row rfl _ _ (w.heap.size + 1) 23 (rowOf .u8 32 (stepN leaf chain v a k)) (0, 0) _ rfl (setRow_heap _ _ _ _ _ _ M.out.res) Tryd.underlying23 rfl (by rw [rowOf_size]; kernel_rfl)) rfl ?_
        exact ⟨by rw [HF.out, ← HK.out], below_setRow M.out.below (by omega) _⟩
set_option maxHeartbeats 2000000 in
theorem rat_any (seed : Nat → Int) (leaf chain to_ : Int) (w : World) :
    Calls Tryd.prog 34 #[.agg (rowOf .u8 32 seed), .int .i64 leaf, .int .i64 chain, .int .i64 to_] w fun e w' => e = .returned (.agg (rowOf .u8 32 (stepF (startF seed leaf chain) leaf chain 0 to_))) ∧ Below w.heap.size w w' := by
  have HU1 := Lib.hid (uN_wrap leaf)
  have HU2 := Lib.hid (uN_wrap chain)
  have HL1 := Lib.hid (uN_lt leaf)
  have HL2 := Lib.hid (uN_lt chain)
  have HG1 := Lib.hid (vlen _ (uN_lt leaf))
  have HG2 := Lib.hid (vlen _ (uN_lt chain))
  have M := Lib.hid (has2_start w seed)
  go_enter Tryd.func34, Tryd.ntmps34
  go_upto_region 1 with (fail)
  rw [zeros32]
  generalize (w.alloc (.cells (rowOf .u8 32 seed) 23)).alloc (.cells (rowOf .u8 32 (fun _ => 0)) 23) = w1 at *
  have hm1 := Lib.hid (M.out.call (below_alloc w1 (.cells #[.int .u8 2] 5)))
  go_wp2_with (first
    | (refine wpList_load_row rfl 23 (.tmp 4) rfl w.heap.size rfl 23 _ (0, 0) _ hm1.out.val Tryd.underlying23 rfl (by rw [rowOf_size]; kernel_rfl) ?_)
    | (go_at_call 33; (with_reducible refine (dHash_in _ [2] seed _ (one_in w1 2) (by simp)).mono ?_); rintro e w3 ⟨v3, rfl, hi, hb⟩; have HI := Lib.hid hi; replace M := Lib.hid (hm1.out.call hb); clear hi hb)
    | (go_at_call 44; (with_reducible refine (dUint_in _ ([2] ++ rowL 32 seed) _ (uN leaf) HU1.out _ HI.out HL1.out (by have := rowL32 seed; simp; omega)).mono ?_); rintro e w4 ⟨v4, rfl, hi, hb⟩; replace HI := Lib.hid hi; replace M := Lib.hid (M.out.call hb); clear hi hb)
    | (go_at_call 44; (with_reducible refine (dUint_in _ ([2] ++ rowL 32 seed ++ varint (uN leaf)) _ (uN chain) HU2.out _ HI.out HL2.out (by have := rowL32 seed; have := HG1.out; simp; omega)).mono ?_); rintro e w5 ⟨v5, rfl, hi, hb⟩; replace HI := Lib.hid hi; replace M := Lib.hid (M.out.call hb); clear hi hb)
    | (go_at_call 28; (with_reducible refine (rsum_any _ _ _ HI.out (by have := HG1.out; have := HG2.out; have := rowL32 seed; simp; omega)).mono ?_); rintro e w6 ⟨rfl, hb⟩; replace M := Lib.hid (M.out.call hb); clear hb HI; rw [start_sum seed leaf chain])
    | (go_at_call 24; (with_reducible refine (rstep_any (startF seed leaf chain) leaf chain 0 to_ _).mono ?_); rintro e w7 ⟨rfl, hb⟩; replace M := Lib.hid (M.out.call hb); clear hb)
    | (refine wpList_store_row rfl 23 (.tmp 8) (.tmp 24) rfl (w.heap.size + 1) _ rfl rfl 23 _ M.out.res (by rw [rowOf_size]; kernel_rfl) (by rw [rowOf_size, rowOf_size]) (rowOf_one _ _ _) ?_))
  refine bodyPost_ret (results_cell_row rfl _ _ (w.heap.size + 1) 23 (rowOf .u8 32 (stepF (startF seed leaf chain) leaf chain 0 to_)) (0, 0) _ rfl (setRow_heap _ _ _ _ _ _ M.out.res) Tryd.underlying23 rfl (by rw [rowOf_size]; kernel_rfl)) rfl ?_
  exact ⟨rfl, below_setRow M.out.below (by omega) _⟩
end Go.Proofs.YtlgjeledcnhmnaaDoor
