/- Part 33 of the proof. -/
import Derived.Test.YtejglhlodfhgkaaGreatDoorXv1
import Derived.Test.YtejglhlodfhgkaaGreatDoorXv23
import Derived.Test.YtejglhlodfhgkaaGreatDoorXv27
import Derived.Test.YtejglhlodfhgkaaGreatDoorXv30
namespace Go.Proofs.YtejglhlodfhgkaaGreatDoor
set_option linter.unusedVariables false
set_option linter.unusedSimpArgs false
open Go.RowKit
set_option maxRecDepth 100000
set_option maxHeartbeats 1000000 in
theorem rleaf_any (v : Value) (xs : List Int) (w : World) (hx : BytesIn w v xs) (hl : xs.length + 81 ≤ 140737488355328) :
    Calls Tryz.prog 204 #[v] w fun e w' => e = .returned (.agg (rowOf .u8 32 (sumF (0 :: xs)))) ∧ Below w.heap.size w w' := by
  have HL := Lib.hid hl
  have HB0 := Lib.hid ((below_alloc w (.cells (rowOf .u8 32 (fun _ => 0)) 53)).trans ((below_alloc _ (.cells #[.int .u8 0] 5)).mono (by simp)))
  have HX := Lib.hid (hx.below HB0.out)
  have HR := Lib.hid ((RowAt.new w .u8 32 53 (fun _ => 0)).alloc (.cells #[.int .u8 0] 5))
  have HO := Lib.hid (show ((w.alloc (.cells (rowOf .u8 32 (fun _ => 0)) 53)).alloc (.cells #[.int .u8 0] 5)).ownsRow (w.heap.size + 1) 5 1 (.slice (some ⟨w.heap.size + 1, 0, none⟩) 1 1) 1 [.int .u8 0] by
    have h := World.ownsRow_lit (w := w.alloc (.cells (rowOf .u8 32 (fun _ => 0)) 53)) (base := w.heap.size + 1) (e := 5) (size := 1) #[.int .u8 0] 1 (by simp) (by simp [maxLen]) rfl
    rw [shSize_alloc] at h
    exact h)
  clear hx hl
  go_enter Tryz.func204, Tryz.ntmps204
  go_upto_region 1 with (fail)
  rw [zeros32]
  go_wp2_with (first
    | (at_builtin; refine wpList_append_bytes rfl (.tmp 3) (.tmp 4) rfl rfl (w.heap.size + 1) _ 1 [.int .u8 0] rfl HO.out v xs rfl HX.out (by have := HL.out; omega) (by simp) ?_; intro v' w1 ho hg _; have HX1 := Lib.hid (owns_in (xs := 0 :: xs) (by have h := ho; rw [Nat.add_comm 1 xs.length] at h; exact h) (by have := HL.out; unfold maxLen; simp; omega)); have HB1 := Lib.hid (HB0.out.grown hg HB0.out.size (fun k hk => by have := (HO.out.lt k hk).1; omega)); have HR1 := Lib.hid (show RowAt w1 w.heap.size .u8 32 53 (fun _ => 0) from (hg.block _ HR.out.lt (fun e => by have := (HO.out.lt _ e.symm).1; omega)).trans HR.out); clear ho hg)
    | (go_at_call 75; (with_reducible refine (rsum_any _ _ _ HX1.out (by have := HL.out; simp; omega)).mono ?_); rintro e w2 ⟨rfl, hb⟩; replace HR1 := Lib.hid (HR1.out.below hb HR1.out.lt); replace HB1 := Lib.hid (HB1.out.trans (hb.mono HB1.out.size)); clear hb)
    | (refine wpList_store_row rfl 53 (.tmp 2) (.tmp 6) rfl w.heap.size _ rfl rfl 53 _ HR1.out (by rw [rowOf_size]; kernel_rfl) (by rw [rowOf_size, rowOf_size]) (rowOf_one _ _ _) ?_))
  refine bodyPost_ret (results_cell_row rfl _ _ w.heap.size 53 (rowOf .u8 32 (sumF (0 :: xs))) (0, 0) _ rfl (setRow_heap _ _ _ _ _ _ HR1.out) Tryz.underlying53 rfl (by rw [rowOf_size]; kernel_rfl)) rfl ?_
  exact ⟨rfl, below_setRow HB1.out (Nat.le_refl _) _⟩
end Go.Proofs.YtejglhlodfhgkaaGreatDoor
namespace Go.Proofs.YtejglhlodfhgkaaGreatDoor
set_option linter.unusedVariables false
set_option linter.unusedSimpArgs false
open Go.RowKit
set_option maxRecDepth 100000
theorem varint_one {n : Nat} (h : n < 128) : varint n = [(n : Int)] := by simp [varint, glen_small h, gby]
theorem step_sum (leaf chain : Int) (v : Nat → Int) (a k q : Nat) (hq : q = a + k) : sumF ([3] ++ varint (uN leaf) ++ varint (uN chain) ++ varint q ++ rowL 32 (stepN leaf chain v a k)) = stepN leaf chain v a (k + 1) := by
  subst hq
  show _ = step1 leaf chain (stepN leaf chain v a k) (a + k)
  unfold step1
  rw [varint_one (n := 3) (by decide)]
  rfl
theorem start_sum (seed : Nat → Int) (leaf chain : Int) : sumF ([2] ++ rowL 32 seed ++ varint (uN leaf) ++ varint (uN chain)) = startF seed leaf chain := by
  unfold startF
  rw [varint_one (n := 2) (by decide)]
  rfl
theorem dUint_in (b : Value) (bs : List Int) (m : Int) (n : Nat) (hm : m = (n : Int)) (w : World) (hb : BytesIn w b bs) (hn : n < 18446744073709551616) (hl : bs.length + 10 ≤ 140737488355328) :
    Calls Tryz.prog 122 #[b, .int .u64 m] w fun e w' => ∃ v', e = .returned v' ∧ BytesIn w' v' (bs ++ varint n) ∧ Below w.heap.size w w' := by
  subst hm
  refine (dUint_any b bs n w hb hn hl).mono ?_
  rintro e w' ⟨v', he, ho, hbl⟩
  exact ⟨v', he, owns_in ho (by rw [List.length_append, varint_length]; have := glen_le hn; unfold maxLen; omega), hbl⟩
theorem dHash_in (b : Value) (bs : List Int) (f : Nat → Int) (w : World) (hb : BytesIn w b bs) (hl : bs.length + 32 ≤ 140737488355328) :
    Calls Tryz.prog 165 #[b, .agg (rowOf .u8 32 f)] w fun e w' => ∃ v', e = .returned v' ∧ BytesIn w' v' (bs ++ rowL 32 f) ∧ Below w.heap.size w w' := by
  refine (dHash_any b bs f w hb hl).mono ?_
  rintro e w' ⟨v', he, ho, hbl⟩
  exact ⟨v', he, owns_in ho (by rw [List.length_append, rowL32]; unfold maxLen; omega), hbl⟩
/-- rows of 32 bytes below a mark -/
structure Has2 (w w' : World) (b r B : Nat) (v : Nat → Int) : Prop where
  below : Below w.heap.size w w'
  val : RowAt w' b .u8 32 53 v
  res : RowAt w' r .u8 32 53 (fun _ => 0)
  size : B ≤ w'.heap.size
  hb : b < B
  hr : r < B
  wB : w.heap.size ≤ B
theorem Has2.calls {w w' w2 : World} {b r B : Nat} {v : Nat → Int} (m : Has2 w w' b r B v) (h : Below B w' w2) : Has2 w w2 b r B v :=
  ⟨m.below.trans (h.mono m.wB), m.val.below h m.hb, m.res.below h m.hr, Nat.le_trans m.size h.size, m.hb, m.hr, m.wB⟩
theorem Has2.call {w w' w2 : World} {b r B : Nat} {v : Nat → Int} (m : Has2 w w' b r B v) (h : Below w'.heap.size w' w2) : Has2 w w2 b r B v := m.calls (h.mono m.size)
theorem Has2.put {w w' : World} {b r B : Nat} {v : Nat → Int} (m : Has2 w w' b r B v) (h : w.heap.size ≤ b) (hbr : b ≠ r) (v' : Nat → Int) : Has2 w (w'.setRow b (rowOf .u8 32 v')) b r B v' :=
  ⟨below_setRow m.below h _, setRow_heap _ _ _ _ _ _ m.val, (setRow_other _ _ _ _ (Ne.symm hbr)).trans m.res, by simpa [World.setRow] using m.size, m.hb, m.hr, m.wB⟩
theorem has2_start (w : World) (v : Nat → Int) : Has2 w ((w.alloc (.cells (rowOf .u8 32 v) 53)).alloc (.cells (rowOf .u8 32 (fun _ => 0)) 53)) w.heap.size (w.heap.size + 1) (w.heap.size + 1 + 1) v :=
  ⟨(below_alloc w _).trans ((below_alloc _ _).mono (by simp)), (RowAt.new w .u8 32 53 v).alloc _, by
    have := RowAt.new (w.alloc (.cells (rowOf .u8 32 v) 53)) .u8 32 53 (fun _ => 0)
    rw [shSize_alloc] at this; exact this, by simp, by omega, by omega, by omega⟩
set_option maxHeartbeats 2000000 in
theorem rstep_any (v : Nat → Int) (leaf chain from_ to_ : Int) (w : World) :
    Calls Tryz.prog 210 #[.agg (rowOf .u8 32 v), .int .i64 leaf, .int .i64 chain, .int .i64 from_, .int .i64 to_] w fun e w' => e = .returned (.agg (rowOf .u8 32 (stepF v leaf chain from_ to_))) ∧ Below w.heap.size w w' := by
  have HU1 := Lib.hid (uN_wrap leaf)
  have HU2 := Lib.hid (uN_wrap chain)
  have HL1 := Lib.hid (uN_lt leaf)
  have HL2 := Lib.hid (uN_lt chain)
  have HG1 := Lib.hid (vlen _ (uN_lt leaf))
  have HG2 := Lib.hid (vlen _ (uN_lt chain))
  obtain ⟨a, ha⟩ : ∃ a : Nat, max from_ 0 = (a : Int) := ⟨(max from_ 0).toNat, by omega⟩
  have HF := Lib.hid (show stepF v leaf chain from_ to_ = stepN leaf chain v a ((min to_ 15).toNat - a) by unfold stepF; rw [ha]; rfl)
  have HA := Lib.hid ha
  clear ha
  go_enter Tryz.func210, Tryz.ntmps210
  go_wp2_with (refine wpList_max2 rfl (.tmp 13) (.const (.int .i64 0)) 3 rfl from_ 0 rfl rfl (a : Int) HA.out ?_)
  rw [zeros32]
  have M : Hid (Has2 w ((w.alloc (.cells (rowOf .u8 32 v) 53)).alloc (.cells (rowOf .u8 32 (fun _ => 0)) 53)) w.heap.size (w.heap.size + 1) (w.heap.size + 1 + 1) (stepN leaf chain v a 0)) := Lib.hid (has2_start w v)
  generalize (w.alloc (.cells (rowOf .u8 32 v) 53)).alloc (.cells (rowOf .u8 32 (fun _ => 0)) 53) = w1 at *
  go_loopw [11] (fun p wr => ∃ q k : Nat, k ≤ (min to_ 15).toNat - a ∧ q = a + k ∧ p = .int .i64 (q : Int) ∧ Hid (Has2 w wr w.heap.size (w.heap.size + 1) (w.heap.size + 1 + 1) (stepN leaf chain v a k))) (fun p _ => (15 - intOf p).toNat)
  case atStart => exact ⟨a, 0, Nat.zero_le _, rfl, rfl, M⟩
  case round =>
    clear M w1
    obtain ⟨q, k, hk, hq, rfl, M⟩ := hrel
    by_cases hlt : (q : Int) < to_ ∧ (q : Int) < 15
    · obtain ⟨h1, h2⟩ := hlt
      have hq15 : q < 15 := by omega
      have HQ := Lib.hid (show IntKind.u64.wrap (q : Int) = (q : Int) from IntWalk.u64_in _ (by omega))
      have HQL := Lib.hid (show q < 18446744073709551616 by omega)
      have HGQ := Lib.hid (vlen q (by omega))
      have HK := Lib.hid (show k + 1 ≤ (min to_ 15).toNat - a by omega)
      have hd1 : decide ((q : Int) < to_) = true := by simpa using h1
      have hd2 : decide ((q : Int) < 15) = true := by simpa using h2
      replace hq := Lib.hid hq
      go_wp2_with (first
        | (go_at_call 122; (with_reducible refine (dUint_in _ [3] _ (uN leaf) HU1.out _ (one_in wr 3) HL1.out (by simp)).mono ?_); rintro e w3 ⟨v3, rfl, hi, hb⟩; have HI := Lib.hid hi; have hb' := (below_alloc wr _).trans (hb.mono (by simp)); replace M := Lib.hid (M.out.call hb'); clear hi hb hb')
        | (go_at_call 122; (with_reducible refine (dUint_in _ ([3] ++ varint (uN leaf)) _ (uN chain) HU2.out _ HI.out HL2.out (by have := HG1.out; simp; omega)).mono ?_); rintro e w4 ⟨v4, rfl, hi, hb⟩; replace HI := Lib.hid hi; replace M := Lib.hid (M.out.call hb); clear hi hb)
        | (go_at_call 122; (with_reducible refine (dUint_in _ ([3] ++ varint (uN leaf) ++ varint (uN chain)) _ q HQ.out _ HI.out HQL.out (by have := HG1.out; have := HG2.out; simp; omega)).mono ?_); rintro e w5 ⟨v5, rfl, hi, hb⟩; replace HI := Lib.hid hi; replace M := Lib.hid (M.out.call hb); clear hi hb)
        | (go_at_call 122; (with_reducible refine (dUint_in _ ([3] ++ varint (uN leaf) ++ varint (uN chain)) _ q rfl _ HI.out HQL.out (by have := HG1.out; have := HG2.out; simp; omega)).mono ?_); rintro e w5 ⟨v5, rfl, hi, hb⟩; replace HI := Lib.hid hi; replace M := Lib.hid (M.out.call hb); clear hi hb)
        | (refine wpList_load_row rfl 53 (.tmp 5) rfl w.heap.size rfl 53 _ (0, 0) _ M.out.val Tryz.underlying53 rfl (by rw [rowOf_size]; kernel_rfl) ?_)
        | (go_at_call 165; (with_reducible refine (dHash_in _ _ (stepN leaf chain v a k) _ HI.out (by have := HG1.out; have := HG2.out; have := HGQ.out; simp; omega)).mono ?_); rintro e w6 ⟨v6, rfl, hi, hb⟩; replace HI := Lib.hid hi; replace M := Lib.hid (M.out.call hb); clear hi hb)
        | (go_at_call 75; (with_reducible refine (rsum_any _ _ _ HI.out (by have := HG1.out; have := HG2.out; have := HGQ.out; have := rowL32 (stepN leaf chain v a k); simp; omega)).mono ?_); rintro e w7 ⟨rfl, hb⟩; replace M := Lib.hid (M.out.call hb); clear hb HI; rw [step_sum leaf chain v a k q hq.out])
        | (refine wpList_store_row rfl 53 (.tmp 5) (.tmp 37) rfl w.heap.size _ rfl rfl 53 _ M.out.val (by rw [rowOf_size]; kernel_rfl) (by rw [rowOf_size, rowOf_size]) (rowOf_one _ _ _) ?_; replace M := Lib.hid (M.out.put (Nat.le_refl _) (by omega) (stepN leaf chain v a (k + 1)))))
      go_roundw
      case rel => exact ⟨q + 1, k + 1, HK.out, by rw [hq.out]; omega, by go_num, M⟩
      case measure => simp [intOf]; omega
    · have HK := Lib.hid (show k = (min to_ 15).toNat - a by omega)
      replace hq := Lib.hid hq
      have key : (¬ (q : Int) < to_) ∨ ((q : Int) < to_ ∧ ¬ (q : Int) < 15) := by omega
      rcases key with h1 | ⟨h1, h2⟩
      all_goals
        first
          | (have hd1 : decide ((q : Int) < to_) = false := by simpa using h1)
          | (have hd1 : decide ((q : Int) < to_) = true := by simpa using h1)
        try (have hd2 : decide ((q : Int) < 15) = false := by simpa using h2)
        go_wp2_with (first
          | (refine wpList_load_row rfl 53 (.tmp 5) rfl w.heap.size rfl 53 _ (0, 0) _ M.out.val Tryz.underlying53 rfl (by rw [rowOf_size]; kernel_rfl) ?_)
          | (refine wpList_store_row rfl 53 (.tmp 10) (.tmp 38) rfl (w.heap.size + 1) _ rfl rfl 53 _ M.out.res (by rw [rowOf_size]; kernel_rfl) (by rw [rowOf_size, rowOf_size]) (rowOf_one _ _ _) ?_))
        refine bodyPost_ret (results_cell_row rfl _ _ (w.heap.size + 1) 53 (rowOf .u8 32 (stepN leaf chain v a k)) (0, 0) _ rfl (setRow_heap _ _ _ _ _ _ M.out.res) Tryz.underlying53 rfl (by rw [rowOf_size]; kernel_rfl)) rfl ?_
        exact ⟨by rw [HF.out, ← HK.out], below_setRow M.out.below (by omega) _⟩
set_option maxHeartbeats 2000000 in
theorem rat_any (seed : Nat → Int) (leaf chain to_ : Int) (w : World) :
    Calls Tryz.prog 203 #[.agg (rowOf .u8 32 seed), .int .i64 leaf, .int .i64 chain, .int .i64 to_] w fun e w' => e = .returned (.agg (rowOf .u8 32 (stepF (startF seed leaf chain) leaf chain 0 to_))) ∧ Below w.heap.size w w' := by
  have HU1 := Lib.hid (uN_wrap leaf)
  have HU2 := Lib.hid (uN_wrap chain)
  have HL1 := Lib.hid (uN_lt leaf)
  have HL2 := Lib.hid (uN_lt chain)
  have HG1 := Lib.hid (vlen _ (uN_lt leaf))
  have HG2 := Lib.hid (vlen _ (uN_lt chain))
  have M := Lib.hid (has2_start w seed)
  go_enter Tryz.func203, Tryz.ntmps203
  go_upto_region 1 with (fail)
  rw [zeros32]
  generalize (w.alloc (.cells (rowOf .u8 32 seed) 53)).alloc (.cells (rowOf .u8 32 (fun _ => 0)) 53) = w1 at *
  have hm1 := Lib.hid (M.out.call (below_alloc w1 (.cells #[.int .u8 2] 5)))
  go_wp2_with (first
    | (refine wpList_load_row rfl 53 (.tmp 4) rfl w.heap.size rfl 53 _ (0, 0) _ hm1.out.val Tryz.underlying53 rfl (by rw [rowOf_size]; kernel_rfl) ?_)
    | (go_at_call 165; (with_reducible refine (dHash_in _ [2] seed _ (one_in w1 2) (by simp)).mono ?_); rintro e w3 ⟨v3, rfl, hi, hb⟩; have HI := Lib.hid hi; replace M := Lib.hid (hm1.out.call hb); clear hi hb)
    | (go_at_call 122; (with_reducible refine (dUint_in _ ([2] ++ rowL 32 seed) _ (uN leaf) HU1.out _ HI.out HL1.out (by have := rowL32 seed; simp; omega)).mono ?_); rintro e w4 ⟨v4, rfl, hi, hb⟩; replace HI := Lib.hid hi; replace M := Lib.hid (M.out.call hb); clear hi hb)
    | (go_at_call 122; (with_reducible refine (dUint_in _ ([2] ++ rowL 32 seed ++ varint (uN leaf)) _ (uN chain) HU2.out _ HI.out HL2.out (by have := rowL32 seed; have := HG1.out; simp; omega)).mono ?_); rintro e w5 ⟨v5, rfl, hi, hb⟩; replace HI := Lib.hid hi; replace M := Lib.hid (M.out.call hb); clear hi hb)
    | (go_at_call 75; (with_reducible refine (rsum_any _ _ _ HI.out (by have := HG1.out; have := HG2.out; have := rowL32 seed; simp; omega)).mono ?_); rintro e w6 ⟨rfl, hb⟩; replace M := Lib.hid (M.out.call hb); clear hb HI; rw [start_sum seed leaf chain])
    | (go_at_call 210; (with_reducible refine (rstep_any (startF seed leaf chain) leaf chain 0 to_ _).mono ?_); rintro e w7 ⟨rfl, hb⟩; replace M := Lib.hid (M.out.call hb); clear hb)
    | (refine wpList_store_row rfl 53 (.tmp 8) (.tmp 24) rfl (w.heap.size + 1) _ rfl rfl 53 _ M.out.res (by rw [rowOf_size]; kernel_rfl) (by rw [rowOf_size, rowOf_size]) (rowOf_one _ _ _) ?_))
  refine bodyPost_ret (results_cell_row rfl _ _ (w.heap.size + 1) 53 (rowOf .u8 32 (stepF (startF seed leaf chain) leaf chain 0 to_)) (0, 0) _ rfl (setRow_heap _ _ _ _ _ _ M.out.res) Tryz.underlying53 rfl (by rw [rowOf_size]; kernel_rfl)) rfl ?_
  exact ⟨rfl, below_setRow M.out.below (by omega) _⟩
end Go.Proofs.YtejglhlodfhgkaaGreatDoor
namespace Go.Proofs.YtejglhlodfhgkaaGreatDoor
set_option linter.unusedVariables false
set_option linter.unusedSimpArgs false
open Go.RowKit
set_option maxRecDepth 100000
theorem HasR.mark {w w' : World} {B : Nat} {rows : List (Nat × (Nat → Int))} (m : HasR w w' B rows) : HasR w' w' w'.heap.size rows :=
  ⟨Below.refl _ _, fun p hp => ⟨(m.row p hp).1, (m.row p hp).1.lt⟩, m.env, Nat.le_refl _, m.env.lt, Nat.le_refl _⟩
theorem nat_get (L : List Nat) (k d : Nat) (h : L[k]? = some d) : (natInts L)[k]? = some (d : Int) := by simp [natInts, h]
end Go.Proofs.YtejglhlodfhgkaaGreatDoor
namespace Go.Proofs.YtejglhlodfhgkaaGreatDoor
set_option linter.unusedVariables false
set_option linter.unusedSimpArgs false
open Go.RowKit
set_option maxRecDepth 100000
theorem rcheck_ok (leaf n : Int) (w : World) (h : 0 ≤ leaf ∧ leaf < 1024 ∧ 1 ≤ n ∧ n ≤ 32) : Calls Tryz.prog 202 #[.int .i64 leaf, .int .i64 n] w fun e w' => e = .returned (.bool true) ∧ w = w' := by
  obtain ⟨h1, h2, h3, h4⟩ := h
  have e1 : decide (leaf < 1024) = true := by simpa using h2
  have e2 : decide (1 ≤ n) = true := by simpa using h3
  have e3 : decide (n ≤ 32) = true := by simpa using h4
  have e0 : decide (0 ≤ leaf) = true := by simpa using h1
  go_enter Tryz.func202, Tryz.ntmps202
  go_wp2
  go_ret
  exact ⟨by simp, rfl⟩
theorem rcheck_no (leaf n : Int) (w : World) (h : ¬ (0 ≤ leaf ∧ leaf < 1024 ∧ 1 ≤ n ∧ n ≤ 32)) : Calls Tryz.prog 202 #[.int .i64 leaf, .int .i64 n] w fun e w' => e = .returned (.bool false) ∧ w = w' := by
  by_cases h1 : 0 ≤ leaf
  · have e0 : decide (0 ≤ leaf) = true := by simpa using h1
    by_cases h2 : leaf < 1024
    · have e1 : decide (leaf < 1024) = true := by simpa using h2
      by_cases h3 : 1 ≤ n
      · have e2 : decide (1 ≤ n) = true := by simpa using h3
        have h4 : ¬ n ≤ 32 := by omega
        have e3 : decide (n ≤ 32) = false := by simpa using h4
        clear h
        go_enter Tryz.func202, Tryz.ntmps202
        go_wp2
        go_ret
        exact ⟨by simp, rfl⟩
      · have e2 : decide (1 ≤ n) = false := by simpa using h3
        clear h
        go_enter Tryz.func202, Tryz.ntmps202
        go_wp2
        go_ret
        exact ⟨by simp, rfl⟩
    · have e1 : decide (leaf < 1024) = false := by simpa using h2
      clear h
      go_enter Tryz.func202, Tryz.ntmps202
      go_wp2
      go_ret
      exact ⟨by simp, rfl⟩
  · have e0 : decide (0 ≤ leaf) = false := by simpa using h1
    clear h
    go_enter Tryz.func202, Tryz.ntmps202
    go_wp2
    go_ret
    exact ⟨by simp, rfl⟩
theorem lack2 (s a b : Nat) (ha : a ≤ 15) (hb : b ≤ 15) : (s : Int) + 30 - a - b = ((s + (15 - a) + (15 - b) : Nat) : Int) := by omega
theorem lacks_two (l : List Nat) (a b : Nat) : lacks (l ++ [a, b]) = lacks l + (15 - a) + (15 - b) := by rw [lacks_append]; simp [lacks]; omega
set_option maxHeartbeats 4000000 in
theorem rdigits_ok (v : Value) (xs : List Int) (w : World) (hx : BytesIn w v xs) (hb : bytesOk xs) (h1 : 1 ≤ xs.length) (h2 : xs.length ≤ 32) :
    Calls Tryz.prog 209 #[v] w fun e w' => ∃ v', e = .returned v' ∧ w'.ownsRow w.heap.size 3 1 v' (natInts (digF xs)).length (intVals (natInts (digF xs))) ∧ Below w.heap.size w w' := by
  have HX := Lib.hid hx
  have HB := Lib.hid hb
  have HL := Lib.hid (And.intro h1 h2)
  obtain ⟨a, cap, rfl, hc, hm, hcell⟩ := hx
  rcases hcell with rfl | ⟨ab, ao, rfl, hcell⟩
  · simp at h1
  have HCE := Lib.hid hcell
  obtain ⟨n, hn⟩ : ∃ n, n = xs.length := ⟨_, rfl⟩
  rw [← hn] at HX h1 h2 hc hm HL ⊢
  have HN := Lib.hid hn
  clear hcell hb hc hm hn
  have hn0 : ¬ ((n : Int) < 1) := by omega
  have e1 : decide ((n : Int) < 1) = false := by simpa using hn0
  have M : Hid (DigM w w (.slice (some ⟨ab, ao, none⟩) n cap) xs (.slice none 0 0) []) := Lib.hid ⟨HX.out, World.ownsRow_nil _ _ _ _, Below.refl _ _⟩
  go_enter Tryz.func209, Tryz.ntmps209
  go_wp2_with (fail)
  go_loopw [3, 4, 5] (fun s c i wr => ∃ k : Nat, k ≤ n ∧ i = .int .i64 (k : Int) ∧ c = .int .i64 ((lacks (digs (xs.take k)) : Nat) : Int) ∧ Hid (DigM w wr (.slice (some ⟨ab, ao, none⟩) n cap) xs s (digs (xs.take k)))) (fun _ _ i _ => n - (intOf i).toNat)
  case atStart => exact ⟨0, Nat.zero_le _, rfl, rfl, M⟩
  case round =>
    clear M
    obtain ⟨k, hk, rfl, rfl, M⟩ := hrel
    by_cases hlt : k < n
    · obtain ⟨x, hx⟩ : ∃ x, xs[k]? = some x := ⟨_, List.getElem?_eq_getElem (by rw [← HN.out]; exact hlt)⟩
      have hxb := HB.out x (List.mem_of_getElem? hx)
      obtain ⟨m, rfl⟩ : ∃ m : Nat, x = (m : Int) := ⟨x.toNat, by omega⟩
      have hm : m < 256 := by omega
      have HD := Lib.hid (digs_snoc xs k _ hx)
      have hlk : lacks (digs (xs.take k)) ≤ 960 := by
        have := lacks_le (digs (xs.take k)); rw [digs_length, List.length_take] at this; omega
      have c0 := M.out.below.cell (p := ⟨ab, ao + k, none⟩) (World.block_lt_of_cell? w _ (HCE.out k _ hx))
      rw [HCE.out k _ hx] at c0
      replace hx := Lib.hid hx
      have HLN2 := Lib.hid (show (natInts (digs (xs.take k))).length ≤ 64 by rw [natInts_length, digs_length, List.length_take]; have := HL.out; omega)
      obtain ⟨p, hp⟩ : ∃ p, p = m / 16 := ⟨_, rfl⟩
      obtain ⟨q, hq⟩ : ∃ q, q = m % 16 := ⟨_, rfl⟩
      have hp15 : p ≤ 15 := by omega
      have hq15 : q ≤ 15 := by omega
      have t1 : (m : Int) / 16 = (p : Int) := by omega
      have t2 : (m : Int) % 16 = (q : Int) := by omega
      replace HD : Hid (digs (xs.take (k + 1)) = digs (xs.take k) ++ [p, q]) := by rw [hp, hq]; exact HD
      clear hp hq hxb
      go_upto_region 8 with (fail)
      go_quiet (fail)
      replace M : Hid (DigM w (wr.drewN nq) (.slice (some ⟨ab, ao, none⟩) n cap) xs u3 (digs (xs.take k))) := Lib.hid ⟨M.out.arg, M.out.row, ⟨M.out.below.os, M.out.below.tape, M.out.below.output, M.out.below.size, M.out.below.block⟩⟩
      clear c0 t1 t2
      generalize wr.drewN nq = w2 at *
      have HA := Lib.hid (below_alloc w2 (.cells (intVals (natInts [p, q])).toArray 3))
      have HY := Lib.hid (lits_in w2 (natInts [p, q]) (by simp [natInts, maxLen]))
      have HLK := Lib.hid (show ((lacks (digs (xs.take k)) : Nat) : Int) + 30 - p - q = ((lacks (digs (xs.take (k + 1))) : Nat) : Int) by rw [HD.out, lacks_two]; exact lack2 _ p q hp15 hq15)
      obtain ⟨S, hS⟩ : ∃ S, S = lacks (digs (xs.take k)) := ⟨_, rfl⟩
      rw [← hS] at HLK hlk ⊢
      replace hS := Lib.hid hS
      go_wp2_with (at_builtin; refine wpList_append_ints rfl (.tmp 34) (.tmp 37) rfl rfl w.heap.size _ _ rfl (wkept_below M.out.row HA.out) _ (natInts [p, q]) rfl HY.out (by simp [natInts]) (by rw [natInts_length [p, q]]; have := HLN2.out; simp; omega) (Nat.le_trans M.out.below.size HA.out.size) ?_; intro v2 w3 ho hg; have M2 := Lib.hid (M.out.grow HA.out hg ho HX.out); clear ho hg)
      go_roundw
      case rel => exact ⟨k + 1, by omega, by go_num, by rw [HLK.out], by rw [HD.out]; exact M2⟩
      case measure => simp [intOf]; omega
    · have hkn : k = n := by omega
      have hlt' : ¬ (k : Int) < (n : Int) := by omega
      have HD := Lib.hid (show xs.take k = xs by rw [hkn, HN.out, List.take_length])
      rw [HD.out] at M ⊢
      clear HD hkn hk hlt
      have HLS := Lib.hid (show lacks (digs xs) ≤ 960 from lacks_bound (by have := HL.out; have := HN.out; omega))
      have HDF := Lib.hid (show digF xs = digs xs ++ [lacks (digs xs) / 256 % 16, lacks (digs xs) / 16 % 16, lacks (digs xs) % 16] by unfold digF; rw [show lacks (digs xs) / 256 % 16 = lacks (digs xs) / 256 from Nat.mod_eq_of_lt (by have := HLS.out; omega)])
      have HLN2 := Lib.hid (show (natInts (digs xs)).length ≤ 64 by rw [natInts_length, digs_length]; have := HL.out; have := HN.out; omega)
      obtain ⟨S, hS⟩ : ∃ S, S = lacks (digs xs) := ⟨_, rfl⟩
      rw [← hS] at HLS HDF ⊢
      replace hS := Lib.hid hS
      have hs9 := HLS.out
      have HA := Lib.hid (below_alloc wr (.cells (intVals (natInts [S / 256 % 16, S / 16 % 16, S % 16])).toArray 3))
      have HY := Lib.hid (lits_in wr (natInts [S / 256 % 16, S / 16 % 16, S % 16]) (by simp [natInts, maxLen]))
      go_wp2_with (at_builtin; refine wpList_append_ints rfl (.tmp 45) (.tmp 54) rfl rfl w.heap.size _ (natInts (digs xs)) rfl (wkept_below M.out.row HA.out) _ (natInts [S / 256 % 16, S / 16 % 16, S % 16]) rfl HY.out (by simp [natInts]) (by rw [natInts_length [S / 256 % 16, S / 16 % 16, S % 16]]; have := HLN2.out; simp; omega) (Nat.le_trans M.out.below.size HA.out.size) ?_; intro v2 w3 ho hg; have M2 := Lib.hid (M.out.grow HA.out hg ho HX.out); clear ho hg)
      go_ret
      refine ⟨_, rfl, ?_, M2.out.below⟩
      rw [HDF.out]
      exact M2.out.row
end Go.Proofs.YtejglhlodfhgkaaGreatDoor
namespace Go.Proofs.YtejglhlodfhgkaaGreatDoor
set_option linter.unusedVariables false
set_option linter.unusedSimpArgs false
open Go.RowKit
set_option maxRecDepth 100000
theorem has2_startz (w : World) (v : Nat → Int) : Has2 w ((w.alloc (.cells (rowOf .u8 32 v) 53)).alloc (.cells (rowOf .u8 32 zF) 53)) w.heap.size (w.heap.size + 1) (w.heap.size + 1 + 1) v := has2_start w v
set_option maxHeartbeats 2000000 in
theorem rpublic_ok (seed : Nat → Int) (leaf : Int) (n : Nat) (w : World) (h : 0 ≤ leaf ∧ leaf < 1024) (hn : 1 ≤ n ∧ n ≤ 32) :
    Calls Tryz.prog 148 #[.agg (rowOf .u8 32 seed), .int .i64 leaf, .int .i64 (n : Int)] w fun e w' => e = .returned (.tuple #[.agg (rowOf .u8 32 (pubF seed leaf n)), .int .i64 0]) ∧ Below w.heap.size w w' := by
  have M := Lib.hid (has2_startz w seed)
  have HC := Lib.hid (show 0 ≤ leaf ∧ leaf < 1024 ∧ 1 ≤ (n : Int) ∧ (n : Int) ≤ 32 by omega)
  have HN := Lib.hid hn
  have hnb := hn.2
  have hn1 := hn.1
  clear h hn
  go_enter Tryz.func148, Tryz.ntmps148
  go_upto_region 1 with (fail)
  rw [zeros32']
  generalize (w.alloc (.cells (rowOf .u8 32 seed) 53)).alloc (.cells (rowOf .u8 32 zF) 53) = w1 at *
  have R := Lib.hid (nil_in w1)
  go_wp2_with (go_at_call 202; (with_reducible refine (rcheck_ok leaf _ _ HC.out).mono ?_); rintro e w' ⟨rfl, rfl⟩)
  obtain ⟨L, hL⟩ : ∃ L, L = List.replicate (2 * n + 3) 15 := ⟨_, rfl⟩
  have HL := Lib.hid hL
  go_loopw [8, 9] (fun s i wr => ∃ k : Nat, k ≤ 2 * n + 3 ∧ i = .int .i64 (k : Int) ∧ Hid (Has2 w wr w.heap.size (w.heap.size + 1) (w.heap.size + 1 + 1) seed) ∧ Hid (BytesIn wr s (chainsF seed leaf 0 (L.take k)))) (fun _ i _ => 2 * n + 3 - (intOf i).toNat)
  case atStart => exact ⟨0, Nat.zero_le _, rfl, M, by rw [List.take_zero]; exact R⟩
  case round =>
    clear M R w1 hL
    obtain ⟨k, hk, rfl, M, R⟩ := hrel
    by_cases hlt : k < 2 * n + 3
    · have HC3 := Lib.hid (chainsF_snoc seed leaf L k 15 (by rw [HL.out]; exact rep_get _ _ hlt))
      have HLE := Lib.hid (show (chainsF seed leaf 0 (L.take k)).length ≤ 32 * 67 by rw [chainsF_length, List.length_take]; omega)
      have hk' : (k : Int) < 2 * (n : Int) + 3 := by omega
      obtain ⟨l, hl2⟩ : ∃ l, l = chainsF seed leaf 0 (L.take k) := ⟨_, rfl⟩
      rw [← hl2] at HC3 HLE R
      replace hl2 := Lib.hid hl2
      go_wp2_with (first
        | (refine wpList_load_row rfl 53 (.tmp 23) rfl w.heap.size rfl 53 _ (0, 0) _ M.out.val Tryz.underlying53 rfl (by rw [rowOf_size]; kernel_rfl) ?_)
        | (refine wpList_load_row rfl 53 (.tmp 3) rfl w.heap.size rfl 53 _ (0, 0) _ M.out.val Tryz.underlying53 rfl (by rw [rowOf_size]; kernel_rfl) ?_)
        | (go_at_call 203; (with_reducible refine (rat_any seed leaf (k : Int) 15 _).mono ?_); rintro e w2 ⟨rfl, hb⟩; replace R := Lib.hid (R.out.below hb); replace M := Lib.hid (M.out.call hb); clear hb)
        | (go_at_call 165; (with_reducible refine (dHash_in _ l _ _ R.out (by have := HLE.out; omega)).mono ?_); rintro e w3 ⟨v3, rfl, hi, hb⟩; replace R := Lib.hid hi; replace M := Lib.hid (M.out.call hb); clear hi hb))
      go_roundw
      case rel =>
        refine ⟨k + 1, by omega, by go_num, M, ?_⟩
        rw [HC3.out]
        exact R
      case measure => simp [intOf]; omega
    · have HE := Lib.hid (show L.take k = L by rw [show k = L.length by rw [HL.out, List.length_replicate]; omega, List.take_length])
      rw [HE.out, HL.out] at R
      clear HE
      have hk' : ¬ (k : Int) < 2 * (n : Int) + 3 := by omega
      go_wp2_with (first
        | (go_at_call 204; (with_reducible refine (rleaf_any _ _ _ R.out (by rw [chainsF_length, List.length_replicate]; omega)).mono ?_); rintro e w2 ⟨rfl, hb⟩; replace M := Lib.hid (M.out.call hb); clear hb)
        | (refine wpList_store_row rfl 53 (.tmp 6) (.tmp 29) rfl (w.heap.size + 1) _ rfl rfl 53 _ M.out.res (by rw [rowOf_size]; kernel_rfl) (by rw [rowOf_size, rowOf_size]) (rowOf_one _ _ _) ?_))
      refine bodyPost_ret (results_cell_tmp_row rfl _ _ (w.heap.size + 1) 53 (rowOf .u8 32 (pubF seed leaf n)) (0, 0) _ rfl (setRow_heap _ _ _ _ _ _ M.out.res) Tryz.underlying53 rfl (by rw [rowOf_size]; kernel_rfl)) rfl ?_
      exact ⟨rfl, below_setRow M.out.below (by omega) _⟩
end Go.Proofs.YtejglhlodfhgkaaGreatDoor
namespace Go.Proofs.YtejglhlodfhgkaaGreatDoor
set_option linter.unusedVariables false
set_option linter.unusedSimpArgs false
open Go.RowKit
set_option maxRecDepth 100000
structure SgM (w2 w' : World) (b : Nat) (f : Nat → Int) (gb go : Nat) (L : List Nat) (s : Value) (l : List Int) : Prop where
  below : Below w2.heap.size w2 w'
  val : RowAt w' b .u8 32 53 f
  hb : b < w2.heap.size
  hg : gb < w2.heap.size
  cells : ∀ i x, (natInts L)[i]? = some x → w'.cell? ⟨gb, go + i, none⟩ = some (.int .i64 x)
  bytes : BytesIn w' s l
theorem SgM.calls {w2 w' w3 : World} {b : Nat} {f : Nat → Int} {gb go : Nat} {L : List Nat} {s : Value} {l : List Int} (m : SgM w2 w' b f gb go L s l) (h : Below w'.heap.size w' w3) : SgM w2 w3 b f gb go L s l :=
  ⟨m.below.trans (h.mono m.below.size), m.val.below h m.val.lt, m.hb, m.hg, fun i x hi => (h.cell (p := ⟨gb, go + i, none⟩) (World.block_lt_of_cell? w' _ (m.cells i x hi))).trans (m.cells i x hi), m.bytes.below h⟩
theorem SgM.with {w2 w' : World} {b : Nat} {f : Nat → Int} {gb go : Nat} {L : List Nat} {s s' : Value} {l l' : List Int} (m : SgM w2 w' b f gb go L s l) (h : BytesIn w' s' l') : SgM w2 w' b f gb go L s' l' := ⟨m.below, m.val, m.hb, m.hg, m.cells, h⟩
end Go.Proofs.YtejglhlodfhgkaaGreatDoor
namespace Go.Proofs.YtejglhlodfhgkaaGreatDoor
set_option linter.unusedVariables false
set_option linter.unusedSimpArgs false
open Go.RowKit
set_option maxRecDepth 100000
set_option maxHeartbeats 1000000 in
theorem wfrom_no (vs : Value) (leaf : Int) (a : Option Addr) (n cap : Nat) (w : World) (h : ¬ (0 ≤ leaf ∧ leaf < 1024 ∧ 1 ≤ n ∧ n ≤ 32)) :
    Calls Tryz.prog 206 #[vs, .int .i64 leaf, .slice a n cap] w fun e w' => e = .returned noV ∧ Below w.heap.size w w' := by
  unfold noV
  have HB := Lib.hid (below_alloc w (.cells (rowOf .u8 32 zF) 53))
  have HR0 := Lib.hid (RowAt.new w .u8 32 53 zF)
  by_cases hl : 0 ≤ leaf ∧ leaf < 1024
  · have hn : (n : Int) < 1 ∨ 32 < (n : Int) := by omega
    replace hl := Lib.hid hl
    replace hn := Lib.hid hn
    clear h
    go_enter Tryz.func206, Tryz.ntmps206
    go_upto_region 1 with (fail)
    rw [zeros32']
    generalize w.alloc (.cells (rowOf .u8 32 zF) 53) = w1 at *
    go_wp2_with (first
      | (go_at_call 236; (with_reducible refine (wleaf_ok leaf _ hl.out.1 hl.out.2).mono ?_); rintro e w' ⟨rfl, rfl⟩)
      | (go_at_call 235; (with_reducible refine (wlen_no n _ hn.out).mono ?_); rintro e w' ⟨rfl, rfl⟩)
      | (refine wpList_store_row rfl 53 (.tmp 6) (.tmp 22) rfl w.heap.size (rowOf .u8 32 zF) rfl rfl 53 _ HR0.out (by rw [rowOf_size]; kernel_rfl) rfl (rowOf_one _ _ _) ?_))
    refine bodyPost_ret (results_cell_tmp_row rfl _ _ w.heap.size 53 (rowOf .u8 32 zF) (0, 0) _ rfl (setRow_heap _ _ _ _ _ _ HR0.out) Tryz.underlying53 rfl (by rw [rowOf_size]; kernel_rfl)) rfl ?_
    exact ⟨rfl, below_setRow HB.out (Nat.le_refl _) _⟩
  · have hl' : leaf < 0 ∨ 1024 ≤ leaf := by omega
    replace hl := Lib.hid hl'
    clear h hl'
    go_enter Tryz.func206, Tryz.ntmps206
    go_upto_region 1 with (fail)
    rw [zeros32']
    generalize w.alloc (.cells (rowOf .u8 32 zF) 53) = w1 at *
    go_wp2_with (first
      | (go_at_call 236; (with_reducible refine (wleaf_no leaf _ hl.out).mono ?_); rintro e w' ⟨rfl, rfl⟩)
      | (refine wpList_store_row rfl 53 (.tmp 6) (.tmp 22) rfl w.heap.size (rowOf .u8 32 zF) rfl rfl 53 _ HR0.out (by rw [rowOf_size]; kernel_rfl) rfl (rowOf_one _ _ _) ?_))
    refine bodyPost_ret (results_cell_tmp_row rfl _ _ w.heap.size 53 (rowOf .u8 32 zF) (0, 0) _ rfl (setRow_heap _ _ _ _ _ _ HR0.out) Tryz.underlying53 rfl (by rw [rowOf_size]; kernel_rfl)) rfl ?_
    exact ⟨rfl, below_setRow HB.out (Nat.le_refl _) _⟩
def longV : Value := .tuple #[.agg (rowOf .u8 32 zF), errV (some 2)]
set_option maxHeartbeats 1000000 in
theorem wfrom_long (sa : Option Addr) (ns cs : Nat) (leaf : Int) (a : Option Addr) (n cap : Nat) (w : World) (h : 0 ≤ leaf ∧ leaf < 1024) (hn : 1 ≤ n ∧ n ≤ 32) (hne : ns ≠ 32 * (2 * n + 3)) :
    Calls Tryz.prog 206 #[.slice sa ns cs, .int .i64 leaf, .slice a n cap] w fun e w' => e = .returned longV ∧ Below w.heap.size w w' := by
  unfold longV
  have HB := Lib.hid (below_alloc w (.cells (rowOf .u8 32 zF) 53))
  have HR0 := Lib.hid (RowAt.new w .u8 32 53 zF)
  have hl := Lib.hid h
  have HN := Lib.hid hn
  have hn0 : ¬ (2 * (n : Int) + 3 = 0) := by omega
  have hnb := hn.2
  have hne1 : ((ns : Int) != 32 * (2 * (n : Int) + 3)) = true := by simp; omega
  clear h hn hne
  go_enter Tryz.func206, Tryz.ntmps206
  go_upto_region 1 with (fail)
  rw [zeros32']
  generalize w.alloc (.cells (rowOf .u8 32 zF) 53) = w1 at *
  go_wp2_with (first
    | (go_at_call 236; (with_reducible refine (wleaf_ok leaf _ hl.out.1 hl.out.2).mono ?_); rintro e w' ⟨rfl, rfl⟩)
    | (go_at_call 235; (with_reducible refine (wlen_ok n _ HN.out.1 HN.out.2).mono ?_); rintro e w' ⟨rfl, rfl⟩)
    | (refine wpList_store_row rfl 53 (.tmp 6) (.tmp 31) rfl w.heap.size (rowOf .u8 32 zF) rfl rfl 53 _ HR0.out (by rw [rowOf_size]; kernel_rfl) rfl (rowOf_one _ _ _) ?_))
  refine bodyPost_ret (results_cell_tmp_row rfl _ _ w.heap.size 53 (rowOf .u8 32 zF) (0, 0) _ rfl (setRow_heap _ _ _ _ _ _ HR0.out) Tryz.underlying53 rfl (by rw [rowOf_size]; kernel_rfl)) rfl ?_
  exact ⟨rfl, below_setRow HB.out (Nat.le_refl _) _⟩
theorem arrayAt32 (a : Addr) (cap : Nat) (w : World) : (Instr.arrayAt 53 (.slice (some a) 32 cap)).run Tryz.prog w = .ok (.pointer (some a)) w := by
  simp [Instr.arrayAt, run_underlying Tryz.underlying53]
theorem sliceS (sb so ns cs k : Nat) (h1 : 32 * (k + 1) ≤ ns) (h2 : ns ≤ cs) (w : World) : (Instr.slice 25 (.slice (some ⟨sb, so, none⟩) ns cs) (some (.int .i64 (32 * (k : Int)))) (some (.int .i64 (32 * ((k : Int) + 1)))) none).run Tryz.prog w = .ok (.slice (some ⟨sb, so + 32 * k, none⟩) 32 (cs - 32 * k)) w := by
  have h := sliceBlh (some ⟨sb, so, none⟩) ns cs (32 * k) (32 * (k + 1)) (by omega) (by omega) w
  unfold cutA at h
  rw [if_neg (by omega)] at h
  simp only [Option.map_some] at h
  rw [Addr.add_mid, show 32 * (k + 1) - 32 * k = 32 by omega, show ((32 * k : Nat) : Int) = 32 * (k : Int) by omega, show ((32 * (k + 1) : Nat) : Int) = 32 * ((k : Int) + 1) by omega] at h
  exact h
theorem seg_range {w : World} {sb so k : Nat} {ss : List Int} (h : ∀ i x, ss[i]? = some x → w.cell? ⟨sb, so + i, none⟩ = some (.int .u8 x)) (hl : 32 * (k + 1) ≤ ss.length) :
    w.rangeAt sb (so + 32 * k) ((List.range 32).map fun i => Value.int .u8 (((ss.drop (32 * k)).take 32).getD i 0)) := fun j v hj => by
  simp only [List.getElem?_map] at hj
  rcases Nat.lt_or_ge j 32 with h1 | h1
  · rw [List.getElem?_range h1] at hj
    cases hj
    have e : ss[32 * k + j]? = some (((ss.drop (32 * k)).take 32).getD j 0) := by
      have h2 : 32 * k + j < ss.length := by omega
      rw [List.getElem?_eq_getElem h2]
      simp [List.getD, List.getElem?_take, h1, List.getElem?_drop, List.getElem?_eq_getElem h2]
    have := h _ _ e
    rw [Nat.add_assoc]; exact this
  · rw [List.getElem?_eq_none (by simpa using h1)] at hj; cases hj
set_option maxHeartbeats 4000000 in
theorem wfrom_ok (vs : Value) (ss : List Int) (leaf : Int) (v : Value) (xs : List Int) (w : World) (he : Env w) (h : 0 ≤ leaf ∧ leaf < 1024) (hs : BytesIn w vs ss) (hx : BytesIn w v xs) (hb : bytesOk xs) (hn : 1 ≤ xs.length ∧ xs.length ≤ 32) (hsl : ss.length = 32 * (2 * xs.length + 3)) :
    Calls Tryz.prog 206 #[vs, .int .i64 leaf, v] w fun e w' => e = .returned (okV (fromF ss leaf xs)) ∧ Below w.heap.size w w' := by
  unfold okV
  have M := Lib.hid (hasR1 w zF he)
  have HX := Lib.hid (hx.below (below_alloc w (.cells (rowOf .u8 32 zF) 53)))
  have HSI := Lib.hid (hs.below (below_alloc w (.cells (rowOf .u8 32 zF) 53)))
  have hl := Lib.hid h
  have HN := Lib.hid hn
  have HBO := Lib.hid hb
  obtain ⟨a, cap, rfl, -, -, -⟩ := hx
  obtain ⟨sa, scap, rfl, -, -, -⟩ := hs
  obtain ⟨n, hnn⟩ : ∃ n, n = xs.length := ⟨_, rfl⟩
  obtain ⟨ns, hns⟩ : ∃ ns, ns = ss.length := ⟨_, rfl⟩
  rw [← hnn] at HN HX hn hsl ⊢
  rw [← hns] at HSI hsl ⊢
  replace hnn := Lib.hid hnn
  replace hns := Lib.hid hns
  have hn0 : ¬ (2 * (n : Int) + 3 = 0) := by omega
  have hnb := hn.2
  have hne1 : ((ns : Int) != 32 * (2 * (n : Int) + 3)) = false := by simp; omega
  have HSL := Lib.hid hsl
  clear he h hn hb hsl
  go_enter Tryz.func206, Tryz.ntmps206
  go_upto_region 1 with (fail)
  rw [zeros32']
  generalize w.alloc (.cells (rowOf .u8 32 zF) 53) = w1 at *
  go_upto_region 6 with (first
    | (go_at_call 236; (with_reducible refine (wleaf_ok leaf _ hl.out.1 hl.out.2).mono ?_); rintro e w' ⟨rfl, rfl⟩)
    | (go_at_call 235; (with_reducible refine (wlen_ok n _ HN.out.1 HN.out.2).mono ?_); rintro e w' ⟨rfl, rfl⟩))
  clear hne1 hn0
  go_wp2_with (go_at_call 237; (with_reducible refine (wdigits_ok _ xs _ HX.out HBO.out (by rw [← hnn.out]; exact HN.out.1) (by rw [← hnn.out]; exact HN.out.2)).mono ?_); rintro e w2 ⟨vd, rfl, ho, hb2⟩; obtain ⟨ad, cd, rfl, -, -, hcell⟩ := owns_ints ho (by rw [natInts_length, digF_length, ← hnn.out]; unfold maxLen; have := HN.out; omega); have HC := Lib.hid hcell; replace HSI := Lib.hid (HSI.out.below hb2); replace M := Lib.hid (M.out.call hb2); have H0 := Lib.hid M.out.below; have HW2 := Lib.hid M.out.at0.lt; replace M := Lib.hid M.out.mark; have R := Lib.hid (World.ownsRow_nil w2 w2.heap.size 5 1); clear hcell ho hb2)
  obtain ⟨L, hL⟩ : ∃ L, L = digF xs := ⟨_, rfl⟩
  have HL := Lib.hid hL
  have HLE := Lib.hid (show ∀ d ∈ L, d ≤ 15 by rw [hL]; exact digF_le HBO.out (by rw [← hnn.out]; exact HN.out.2))
  rw [← hL] at HC ⊢
  obtain ⟨N, hN⟩ : ∃ N, N = (natInts L).length := ⟨_, rfl⟩
  have HNL := Lib.hid (show L.length = N by rw [hN, natInts_length])
  have HN3 := Lib.hid (show N = 2 * n + 3 by rw [← HNL.out, HL.out, digF_length, ← hnn.out])
  rw [← hN]
  clear hL hN
  have hN67 : N ≤ 67 := by have := HN3.out; have := HN.out; omega
  replace HC := HC.out
  rcases HC with h0 | ⟨gb, go, rfl, hcell⟩
  · exfalso
    have h1 := natInts_length L
    rw [h0] at h1
    have h2 := HNL.out
    have h3 := HN3.out
    simp at h1
    omega
  have HC := Lib.hid hcell
  clear hcell
  have hsi := HSI.out
  obtain ⟨sa', scap', e, hsc, hsm, hcell⟩ := hsi
  injection e with e1 e2 e3
  subst e1 e3
  clear e2
  rcases hcell with h0 | ⟨sb, so, rfl, hcell⟩
  · exfalso
    have h1 := HSL.out
    have h2 := hns.out
    rw [h0] at h2
    simp at h2
    omega
  have HSC := Lib.hid hcell
  have HSM := Lib.hid (show ns ≤ scap by rw [hns.out]; exact hsc)
  clear hcell hsc hsm
  go_loopw [8, 36] (fun s i wr => ∃ k : Nat, k ≤ N ∧ i = .int .i64 (k : Int) ∧ Hid (HasR w2 wr w2.heap.size [(w.heap.size, zF)]) ∧ Hid (wr.ownsRow w2.heap.size 5 1 s (endsF leaf 0 (L.take k) ss).length (byteVals (endsF leaf 0 (L.take k) ss)))) (fun _ i _ => N - (intOf i).toNat)
  case atStart => exact ⟨0, Nat.zero_le _, rfl, M, by rw [List.take_zero]; exact R⟩
  case round =>
    clear M R
    obtain ⟨k, hk, rfl, M, R⟩ := hrel
    by_cases hlt : k < N
    · obtain ⟨d, hd⟩ : ∃ d, L[k]? = some d := ⟨_, List.getElem?_eq_getElem (by rw [HNL.out]; exact hlt)⟩
      have hd15 := HLE.out d (List.mem_of_getElem? hd)
      have HCS := Lib.hid (endsF_snoc leaf L k d ss hd)
      have HLN := Lib.hid (show (endsF leaf 0 (L.take k) ss).length ≤ 32 * 67 by rw [endsF_length, List.length_take]; omega)
      have h0 := HC.out k (d : Int) (nat_get L k d hd)
      have c0 := M.out.below.cell (p := ⟨gb, go + k, none⟩) (World.block_lt_of_cell? w2 _ h0)
      rw [h0] at c0
      clear h0
      replace hd := Lib.hid hd
      have hk32 : 32 * (k + 1) ≤ ns := by have := HSL.out; have := HN3.out; omega
      have hslc := sliceS sb so ns scap k hk32 HSM.out
      have haa := arrayAt32 ⟨sb, so + 32 * k, none⟩ (scap - 32 * k)
      have HSR := Lib.hid (seg_range (k := k) (fun i x hi => (M.out.below.cell (p := ⟨sb, so + i, none⟩) (World.block_lt_of_cell? w2 _ (HSC.out i x hi))).trans (HSC.out i x hi)) (by rw [← hns.out]; exact hk32))
      obtain ⟨f, hf⟩ : ∃ f : Nat → Int, f = fun i => ((ss.drop (32 * k)).take 32).getD i 0 := ⟨_, rfl⟩
      replace HSR : Hid (wr.rangeAt sb (so + 32 * k) ((List.range 32).map fun i => Value.int .u8 (f i))) := by rw [hf]; exact HSR
      replace HCS : Hid (endsF leaf 0 (L.take (k + 1)) ss = endsF leaf 0 (L.take k) ss ++ rowL 32 (stepF f leaf (k : Int) (d : Int) 15)) := by rw [hf]; exact HCS
      clear hf
      obtain ⟨l, hl2⟩ : ∃ l, l = endsF leaf 0 (L.take k) ss := ⟨_, rfl⟩
      rw [← hl2] at HCS HLN R
      replace hl2 := Lib.hid hl2
      go_wp2_with (first
        | (refine wpList_load_mid rfl 53 (.tmp 48) rfl sb (so + 32 * k) rfl ((List.range 32).map fun i => Value.int .u8 (f i)) _ HSR.out Tryz.underlying53 rfl (by rw [List.length_map, List.length_range]; kernel_rfl) ?_)
        | (refine wpList_store_row rfl 53 (.tmp 11) (.tmp 49) rfl wr.heap.size (rowOf .u8 32 f) rfl rfl 53 _ (heap_alloc_new _ _) (by rw [rowOf_size]; kernel_rfl) rfl (rowOf_one _ _ _) ?_; rw [World.setRow_alloc_new]; have HR1 := Lib.hid (RowAt.new wr .u8 32 53 f); have HA := Lib.hid (below_alloc wr (.cells (rowOf .u8 32 f) 53)); replace R := Lib.hid (wkept_below R.out HA.out); replace M := Lib.hid (M.out.call HA.out); clear HA; generalize wr.alloc (.cells (rowOf .u8 32 f) 53) = w3 at *)
        | (refine wpList_load_row rfl 53 (.tmp 11) rfl wr.heap.size rfl 53 _ (0, 0) _ HR1.out Tryz.underlying53 rfl (by rw [rowOf_size]; kernel_rfl) ?_)
        | (go_at_call 238; (with_reducible refine (wstep_any f leaf (k : Int) (d : Int) 15 _ M.out.env).mono ?_); rintro e w4 ⟨rfl, HB3⟩; replace R := Lib.hid (wkept_below R.out HB3); replace M := Lib.hid (M.out.call HB3); clear HB3)
        | (refine wpList_store_row rfl 53 (.tmp 12) (.tmp 54) rfl w4.heap.size (rowOf .u8 32 (stepF f leaf (k : Int) (d : Int) 15)) rfl rfl 53 _ (heap_alloc_new _ _) (by rw [rowOf_size]; kernel_rfl) rfl (rowOf_one _ _ _) ?_; rw [World.setRow_alloc_new]; have HR := Lib.hid (RowAt.new w4 .u8 32 53 (stepF f leaf (k : Int) (d : Int) 15)); have HA := Lib.hid (below_alloc w4 (.cells (rowOf .u8 32 (stepF f leaf (k : Int) (d : Int) 15)) 53)); replace R := Lib.hid (wkept_below R.out HA.out); replace M := Lib.hid (M.out.call HA.out); clear HA; generalize w4.alloc (.cells (rowOf .u8 32 (stepF f leaf (k : Int) (d : Int) 15)) 53) = w5 at *)
        | (at_builtin; refine wpList_append_bytes rfl (.tmp 55) (.tmp 56) rfl rfl w2.heap.size _ l.length (byteVals l) rfl R.out _ (rowL 32 (stepF f leaf (k : Int) (d : Int) 15)) rfl (row_in HR.out (Nat.le_refl _) (Nat.le_refl _) (by simp [maxLen])) (by have := HLN.out; rw [rowL32]; omega) M.out.size ?_; intro v6 w6 ho hg _; replace M := Lib.hid (M.out.grown hg R.out); replace R := Lib.hid ho; clear ho hg))
      go_roundw
      case rel =>
        refine ⟨k + 1, by omega, by go_num, M, ?_⟩
        rw [HCS.out, List.length_append, byteVals_append]
        exact R
      case measure => simp [intOf]; omega
    · have HE := Lib.hid (show L.take k = L by rw [show k = L.length by rw [HNL.out]; omega, List.take_length])
      rw [HE.out, HL.out] at R
      clear HE
      have HXX := Lib.hid (owns_in R.out (by rw [endsF_length, digF_length, ← hnn.out]; unfold maxLen; omega))
      go_wp2_with (first
        | (go_at_call 239; (with_reducible refine (leaf_any _ _ _ HXX.out M.out.env).mono ?_); rintro e w3 ⟨rfl, HB2⟩; replace M := Lib.hid (M.out.call HB2); clear HB2)
        | (refine wpList_store_row rfl 53 (.tmp 6) (.tmp 60) rfl w.heap.size _ rfl rfl 53 _ M.out.at0 (by rw [rowOf_size]; kernel_rfl) (by rw [rowOf_size, rowOf_size]) (rowOf_one _ _ _) ?_))
      refine bodyPost_ret (results_cell_tmp_row rfl _ _ w.heap.size 53 (rowOf .u8 32 (fromF ss leaf xs)) (0, 0) _ rfl (setRow_heap _ _ _ _ _ _ M.out.at0) Tryz.underlying53 rfl (by rw [rowOf_size]; kernel_rfl)) rfl ?_
      exact ⟨rfl, below_setRow (H0.out.trans (M.out.below.mono H0.out.size)) (Nat.le_refl _) _⟩
end Go.Proofs.YtejglhlodfhgkaaGreatDoor
