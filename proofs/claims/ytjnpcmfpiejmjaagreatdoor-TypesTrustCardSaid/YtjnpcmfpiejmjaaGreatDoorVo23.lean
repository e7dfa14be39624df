/- Part 23 of the proof. -/
import Derived.Test.YtjnpcmfpiejmjaaGreatDoorVo5
import Derived.Test.YtjnpcmfpiejmjaaGreatDoorVo11
import Derived.Test.YtjnpcmfpiejmjaaGreatDoorVo12
import Derived.Test.YtjnpcmfpiejmjaaGreatDoorVo20
import Derived.Test.YtjnpcmfpiejmjaaGreatDoorVo22
namespace Go.Proofs.YtjnpcmfpiejmjaaGreatDoor
set_option linter.unusedVariables false
set_option linter.unusedSimpArgs false
open Go.RowKit
set_option maxRecDepth 100000
theorem varint_one {n : Nat} (h : n < 128) : varint n = [(n : Int)] := by simp [varint, glen_small h, gby]
theorem step_sum (leaf chain : Int) (v : Nat → Int) (a k q : Nat) (hq : q = a + k) : sumF ([3] ++ varint (uN leaf) ++ varint (uN chain) ++ varint q ++ rowL 32 (stepN leaf chain v a k)) = stepN leaf chain v a (k + 1) := by
  subst hq
  show _ = step1 leaf chain (stepN leaf chain v a k) (a + k)
  unfold step1
  rw [varint_one (n := 3) (by decide)]
  rfl
theorem start_sum (seed : Nat → Int) (leaf chain : Int) : sumF ([2] ++ rowL 32 seed ++ varint (uN leaf) ++ varint (uN chain)) = startF seed leaf chain := by
  unfold startF
  rw [varint_one (n := 2) (by decide)]
  rfl
theorem dUint_in (b : Value) (bs : List Int) (m : Int) (n : Nat) (hm : m = (n : Int)) (w : World) (hb : BytesIn w b bs) (hn : n < 18446744073709551616) (hl : bs.length + 10 ≤ 140737488355328) :
    Calls Tryz.prog 70 #[b, .int .u64 m] w fun e w' => ∃ v', e = .returned v' ∧ BytesIn w' v' (bs ++ varint n) ∧ Below w.heap.size w w' := by
  subst hm
  refine (dUint_any b bs n w hb hn hl).mono ?_
  rintro e w' ⟨v', he, ho, hbl⟩
  exact ⟨v', he, owns_in ho (by rw [List.length_append, varint_length]; have := glen_le hn; unfold maxLen; omega), hbl⟩
theorem dHash_in (b : Value) (bs : List Int) (f : Nat → Int) (w : World) (hb : BytesIn w b bs) (hl : bs.length + 32 ≤ 140737488355328) :
    Calls Tryz.prog 84 #[b, .agg (rowOf .u8 32 f)] w fun e w' => ∃ v', e = .returned v' ∧ BytesIn w' v' (bs ++ rowL 32 f) ∧ Below w.heap.size w w' := by
  refine (dHash_any b bs f w hb hl).mono ?_
  rintro e w' ⟨v', he, ho, hbl⟩
  exact ⟨v', he, owns_in ho (by rw [List.length_append, rowL32]; unfold maxLen; omega), hbl⟩
/-- rows of 32 bytes below a mark -/
structure Has2 (w w' : World) (b r B : Nat) (v : Nat → Int) : Prop where
  below : Below w.heap.size w w'
  val : RowAt w' b .u8 32 32 v
  res : RowAt w' r .u8 32 32 (fun _ => 0)
  size : B ≤ w'.heap.size
  hb : b < B
  hr : r < B
  wB : w.heap.size ≤ B
theorem Has2.calls {w w' w2 : World} {b r B : Nat} {v : Nat → Int} (m : Has2 w w' b r B v) (h : Below B w' w2) : Has2 w w2 b r B v :=
  ⟨m.below.trans (h.mono m.wB), m.val.below h m.hb, m.res.below h m.hr, Nat.le_trans m.size h.size, m.hb, m.hr, m.wB⟩
theorem Has2.call {w w' w2 : World} {b r B : Nat} {v : Nat → Int} (m : Has2 w w' b r B v) (h : Below w'.heap.size w' w2) : Has2 w w2 b r B v := m.calls (h.mono m.size)
theorem Has2.put {w w' : World} {b r B : Nat} {v : Nat → Int} (m : Has2 w w' b r B v) (h : w.heap.size ≤ b) (hbr : b ≠ r) (v' : Nat → Int) : Has2 w (w'.setRow b (rowOf .u8 32 v')) b r B v' :=
  ⟨below_setRow m.below h _, setRow_heap _ _ _ _ _ _ m.val, (setRow_other _ _ _ _ (Ne.symm hbr)).trans m.res, by simpa [World.setRow] using m.size, m.hb, m.hr, m.wB⟩
theorem has2_start (w : World) (v : Nat → Int) : Has2 w ((w.alloc (.cells (rowOf .u8 32 v) 32)).alloc (.cells (rowOf .u8 32 (fun _ => 0)) 32)) w.heap.size (w.heap.size + 1) (w.heap.size + 1 + 1) v :=
  ⟨(below_alloc w _).trans ((below_alloc _ _).mono (by simp)), (RowAt.new w .u8 32 32 v).alloc _, by
    have := RowAt.new (w.alloc (.cells (rowOf .u8 32 v) 32)) .u8 32 32 (fun _ => 0)
    rw [shSize_alloc] at this; exact this, by simp, by omega, by omega, by omega⟩
set_option maxHeartbeats 2000000 in
theorem rstep_any (v : Nat → Int) (leaf chain from_ to_ : Int) (w : World) :
    Calls Tryz.prog 180 #[.agg (rowOf .u8 32 v), .int .i64 leaf, .int .i64 chain, .int .i64 from_, .int .i64 to_] w fun e w' => e = .returned (.agg (rowOf .u8 32 (stepF v leaf chain from_ to_))) ∧ Below w.heap.size w w' := by
  have HU1 := Lib.hid (uN_wrap leaf)
  have HU2 := Lib.hid (uN_wrap chain)
  have HL1 := Lib.hid (uN_lt leaf)
  have HL2 := Lib.hid (uN_lt chain)
  have HG1 := Lib.hid (vlen _ (uN_lt leaf))
  have HG2 := Lib.hid (vlen _ (uN_lt chain))
  obtain ⟨a, ha⟩ : ∃ a : Nat, max from_ 0 = (a : Int) := ⟨(max from_ 0).toNat, by omega⟩
  have HF := Lib.hid (show stepF v leaf chain from_ to_ = stepN leaf chain v a ((min to_ 15).toNat - a) by unfold stepF; rw [ha]; rfl)
  have HA := Lib.hid ha
  clear ha
  go_enter Tryz.func180, Tryz.ntmps180
  go_wp2_with (refine wpList_max2 rfl (.tmp 13) (.const (.int .i64 0)) 3 rfl from_ 0 rfl rfl (a : Int) HA.out ?_)
  rw [zeros32]
  have M : Hid (Has2 w ((w.alloc (.cells (rowOf .u8 32 v) 32)).alloc (.cells (rowOf .u8 32 (fun _ => 0)) 32)) w.heap.size (w.heap.size + 1) (w.heap.size + 1 + 1) (stepN leaf chain v a 0)) := Lib.hid (has2_start w v)
  generalize (w.alloc (.cells (rowOf .u8 32 v) 32)).alloc (.cells (rowOf .u8 32 (fun _ => 0)) 32) = w1 at *
  go_loopw [11] (fun p wr => ∃ q k : Nat, k ≤ (min to_ 15).toNat - a ∧ q = a + k ∧ p = .int .i64 (q : Int) ∧ Hid (Has2 w wr w.heap.size (w.heap.size + 1) (w.heap.size + 1 + 1) (stepN leaf chain v a k))) (fun p _ => (15 - intOf p).toNat)
  case atStart => exact ⟨a, 0, Nat.zero_le _, rfl, rfl, M⟩
  case round =>
    clear M w1
    obtain ⟨q, k, hk, hq, rfl, M⟩ := hrel
    by_cases hlt : (q : Int) < to_ ∧ (q : Int) < 15
    · obtain ⟨h1, h2⟩ := hlt
      have hq15 : q < 15 := by omega
      have HQ := Lib.hid (show IntKind.u64.wrap (q : Int) = (q : Int) from IntWalk.u64_in _ (by omega))
      have HQL := Lib.hid (show q < 18446744073709551616 by omega)
      have HGQ := Lib.hid (vlen q (by omega))
      have HK := Lib.hid (show k + 1 ≤ (min to_ 15).toNat - a by omega)
      have hd1 : decide ((q : Int) < to_) = true := by simpa using h1
      have hd2 : decide ((q : Int) < 15) = true := by simpa using h2
      replace hq := Lib.hid hq
      go_wp2_with (first
        | (go_at_call 70; (with_reducible refine (dUint_in _ [3] _ (uN leaf) HU1.out _ (one_in wr 3) HL1.out (by simp)).mono ?_); rintro e w3 ⟨v3, rfl, hi, hb⟩; have HI := Lib.hid hi; have hb' := (below_alloc wr _).trans (hb.mono (by simp)); replace M := Lib.hid (M.out.call hb'); clear hi hb hb')
        | (go_at_call 70; (with_reducible refine (dUint_in _ ([3] ++ varint (uN leaf)) _ (uN chain) HU2.out _ HI.out HL2.out (by have := HG1.out; simp; omega)).mono ?_); rintro e w4 ⟨v4, rfl, hi, hb⟩; replace HI := Lib.hid hi; replace M := Lib.hid (M.out.call hb); clear hi hb)
        | (go_at_call 70; (with_reducible refine (dUint_in _ ([3] ++ varint (uN leaf) ++ varint (uN chain)) _ q HQ.out _ HI.out HQL.out (by have := HG1.out; have := HG2.out; simp; omega)).mono ?_); rintro e w5 ⟨v5, rfl, hi, hb⟩; replace HI := Lib.hid hi; replace M := Lib.hid (M.out.call hb); clear hi hb)
        | (go_at_call 70; (with_reducible refine (dUint_in _ ([3] ++ varint (uN leaf) ++ varint (uN chain)) _ q rfl _ HI.out HQL.out (by have := HG1.out; have := HG2.out; simp; omega)).mono ?_); rintro e w5 ⟨v5, rfl, hi, hb⟩; replace HI := Lib.hid hi; replace M := Lib.hid (M.out.call hb); clear hi hb)
        | (refine wpList_load_row rfl 32 (.tmp 5) rfl w.heap.size rfl 32 _ (0, 0) _ M.out.val Tryz.underlying32 rfl (by rw [rowOf_size]; kernel_rfl) ?_)
        | (go_at_call 84; (with_reducible refine (dHash_in _ _ (stepN leaf chain v a k) _ HI.out (by have := HG1.out; have := HG2.out; have := HGQ.out; simp; omega)).mono ?_); rintro e w6 ⟨v6, rfl, hi, hb⟩; replace HI := Lib.hid hi; replace M := Lib.hid (M.out.call hb); clear hi hb)
        | (go_at_call 90; (with_reducible refine (rsum_any _ _ _ HI.out (by have := HG1.out; have := HG2.out; have := HGQ.out; have := rowL32 (stepN leaf chain v a k); simp; omega)).mono ?_); rintro e w7 ⟨rfl, hb⟩; replace M := Lib.hid (M.out.call hb); clear hb HI; rw [step_sum leaf chain v a k q hq.out])
        | (refine wpList_store_row rfl 32 (.tmp 5) (.tmp 37) rfl w.heap.size _ rfl rfl 32 _ M.out.val (by rw [rowOf_size]; kernel_rfl) (by rw [rowOf_size, rowOf_size]) (rowOf_one _ _ _) ?_; replace M := Lib.hid (M.out.put (Nat.le_refl _) (by omega) (stepN leaf chain v a (k + 1)))))
      go_roundw
      case rel => exact ⟨q + 1, k + 1, HK.out, by rw [hq.out]; omega, by go_num, M⟩
      case measure => simp [intOf]; omega
    · have HK := Lib.hid (show k = (min to_ 15).toNat - a by omega)
      replace hq := Lib.hid hq
      have key : (¬ (q : Int) < to_) ∨ ((q : Int) < to_ ∧ ¬ (q : Int) < 15) := by omega
      rcases key with h1 | ⟨h1, h2⟩
      all_goals
        first
          | (have hd1 : decide ((q : Int) < to_) = false := by simpa using h1)
          | (have hd1 : decide ((q : Int) < to_) = true := by simpa using h1)
        try (have hd2 : decide ((q : Int) < 15) = false := by simpa using h2)
        go_wp2_with (first
          | (refine wpList_load_row rfl 32 (.tmp 5) rfl w.heap.size rfl 32 _ (0, 0) _ M.out.val Tryz.underlying32 rfl (by rw [rowOf_size]; kernel_rfl) ?_)
          | (refine wpList_store_row rfl 32 (.tmp 10) (.tmp 38) rfl (w.heap.size + 1) _ rfl rfl 32 _ M.out.res (by rw [rowOf_size]; kernel_rfl) (by rw [rowOf_size, rowOf_size]) (rowOf_one _ _ _) ?_))
        refine bodyPost_ret (results_cell_row rfl _ _ (w.heap.size + 1) 32 (rowOf .u8 32 (stepN leaf chain v a k)) (0, 0) _ rfl (setRow_heap _ _ _ _ _ _ M.out.res) Tryz.underlying32 rfl (by rw [rowOf_size]; kernel_rfl)) rfl ?_
        exact ⟨by rw [HF.out, ← HK.out], below_setRow M.out.below (by omega) _⟩
end Go.Proofs.YtjnpcmfpiejmjaaGreatDoor
namespace Go.Proofs.YtjnpcmfpiejmjaaGreatDoor
set_option linter.unusedVariables false
set_option linter.unusedSimpArgs false
open Go.RowKit
set_option maxRecDepth 100000
theorem wdigits_no (a : Option Addr) (n cap : Nat) (w : World) (h : n < 1 ∨ 32 < n) :
    Calls Tryz.prog 192 #[.slice a n cap] w fun e w' => e = .returned (.slice none 0 0) ∧ w = w' := by
  have hn : (n : Int) < 1 ∨ 32 < (n : Int) := by omega
  replace hn := Lib.hid hn
  clear h
  go_enter Tryz.func192, Tryz.ntmps192
  go_wp2_with (go_at_call 190; (with_reducible refine (wlen_no (n : Int) _ hn.out).mono ?_); rintro e w' ⟨rfl, rfl⟩)
  go_ret
  exact ⟨rfl, rfl⟩
theorem ownsRow_lower {w : World} {B B' n : Nat} {e : TypeId} {s : Nat} {v : Value} {vs : List Value} (h : w.ownsRow B e s v n vs) (hB : B' ≤ B) : w.ownsRow B' e s v n vs := by
  refine ⟨h.1, ?_⟩
  rcases h.2 with hn | ⟨g, cap, cur, h1, hb, rest⟩
  · exact .inl hn
  · exact .inr ⟨g, cap, cur, h1, Nat.le_trans hB hb, rest⟩
def noB : Value := .tuple #[.slice none 0 0, errV (some 1)]
theorem HasR.mark {w w' : World} {B : Nat} {rows : List (Nat × (Nat → Int))} (m : HasR w w' B rows) : HasR w' w' w'.heap.size rows :=
  ⟨Below.refl _ _, fun p hp => ⟨(m.row p hp).1, (m.row p hp).1.lt⟩, m.env, Nat.le_refl _, m.env.lt, Nat.le_refl _⟩
theorem nat_get (L : List Nat) (k d : Nat) (h : L[k]? = some d) : (natInts L)[k]? = some (d : Int) := by simp [natInts, h]
end Go.Proofs.YtjnpcmfpiejmjaaGreatDoor
namespace Go.Proofs.YtjnpcmfpiejmjaaGreatDoor
set_option linter.unusedVariables false
set_option linter.unusedSimpArgs false
open Go.RowKit
set_option maxRecDepth 100000
theorem rcheck_ok (leaf n : Int) (w : World) (h : 0 ≤ leaf ∧ leaf < 1024 ∧ 1 ≤ n ∧ n ≤ 32) : Calls Tryz.prog 178 #[.int .i64 leaf, .int .i64 n] w fun e w' => e = .returned (.bool true) ∧ w = w' := by
  obtain ⟨h1, h2, h3, h4⟩ := h
  have e1 : decide (leaf < 1024) = true := by simpa using h2
  have e2 : decide (1 ≤ n) = true := by simpa using h3
  have e3 : decide (n ≤ 32) = true := by simpa using h4
  have e0 : decide (0 ≤ leaf) = true := by simpa using h1
  go_enter Tryz.func178, Tryz.ntmps178
  go_wp2
  go_ret
  exact ⟨by simp, rfl⟩
theorem rcheck_no (leaf n : Int) (w : World) (h : ¬ (0 ≤ leaf ∧ leaf < 1024 ∧ 1 ≤ n ∧ n ≤ 32)) : Calls Tryz.prog 178 #[.int .i64 leaf, .int .i64 n] w fun e w' => e = .returned (.bool false) ∧ w = w' := by
  by_cases h1 : 0 ≤ leaf
  · have e0 : decide (0 ≤ leaf) = true := by simpa using h1
    by_cases h2 : leaf < 1024
    · have e1 : decide (leaf < 1024) = true := by simpa using h2
      by_cases h3 : 1 ≤ n
      · have e2 : decide (1 ≤ n) = true := by simpa using h3
        have h4 : ¬ n ≤ 32 := by omega
        have e3 : decide (n ≤ 32) = false := by simpa using h4
        clear h
        go_enter Tryz.func178, Tryz.ntmps178
        go_wp2
        go_ret
        exact ⟨by simp, rfl⟩
      · have e2 : decide (1 ≤ n) = false := by simpa using h3
        clear h
        go_enter Tryz.func178, Tryz.ntmps178
        go_wp2
        go_ret
        exact ⟨by simp, rfl⟩
    · have e1 : decide (leaf < 1024) = false := by simpa using h2
      clear h
      go_enter Tryz.func178, Tryz.ntmps178
      go_wp2
      go_ret
      exact ⟨by simp, rfl⟩
  · have e0 : decide (0 ≤ leaf) = false := by simpa using h1
    clear h
    go_enter Tryz.func178, Tryz.ntmps178
    go_wp2
    go_ret
    exact ⟨by simp, rfl⟩
theorem rdigits_no (a : Option Addr) (n cap : Nat) (w : World) (h : n < 1 ∨ 32 < n) :
    Calls Tryz.prog 179 #[.slice a n cap] w fun e w' => e = .returned (.slice none 0 0) ∧ w = w' := by
  rcases h with h | h
  · have h1 : n = 0 := by omega
    subst h1
    clear h
    go_enter Tryz.func179, Tryz.ntmps179
    go_wp2
    go_ret
    exact ⟨rfl, rfl⟩
  · have h1 : ¬ ((n : Int) < 1) := by omega
    have h2 : (32 : Int) < n := by omega
    have e1 : decide ((n : Int) < 1) = false := by simpa using h1
    go_enter Tryz.func179, Tryz.ntmps179
    go_wp2
    go_ret
    exact ⟨rfl, rfl⟩
theorem lack2 (s a b : Nat) (ha : a ≤ 15) (hb : b ≤ 15) : (s : Int) + 30 - a - b = ((s + (15 - a) + (15 - b) : Nat) : Int) := by omega
theorem lacks_two (l : List Nat) (a b : Nat) : lacks (l ++ [a, b]) = lacks l + (15 - a) + (15 - b) := by rw [lacks_append]; simp [lacks]; omega
set_option maxHeartbeats 4000000 in
theorem rdigits_ok (v : Value) (xs : List Int) (w : World) (hx : BytesIn w v xs) (hb : bytesOk xs) (h1 : 1 ≤ xs.length) (h2 : xs.length ≤ 32) :
    Calls Tryz.prog 179 #[v] w fun e w' => ∃ v', e = .returned v' ∧ w'.ownsRow w.heap.size 3 1 v' (natInts (digF xs)).length (intVals (natInts (digF xs))) ∧ Below w.heap.size w w' := by
  have HX := Lib.hid hx
  have HB := Lib.hid hb
  have HL := Lib.hid (And.intro h1 h2)
  obtain ⟨a, cap, rfl, hc, hm, hcell⟩ := hx
  rcases hcell with rfl | ⟨ab, ao, rfl, hcell⟩
  · simp at h1
  have HCE := Lib.hid hcell
  obtain ⟨n, hn⟩ : ∃ n, n = xs.length := ⟨_, rfl⟩
  rw [← hn] at HX h1 h2 hc hm HL ⊢
  have HN := Lib.hid hn
  clear hcell hb hc hm hn
  have hn0 : ¬ ((n : Int) < 1) := by omega
  have e1 : decide ((n : Int) < 1) = false := by simpa using hn0
  have M : Hid (DigM w w (.slice (some ⟨ab, ao, none⟩) n cap) xs (.slice none 0 0) []) := Lib.hid ⟨HX.out, World.ownsRow_nil _ _ _ _, Below.refl _ _⟩
  go_enter Tryz.func179, Tryz.ntmps179
  go_wp2_with (fail)
  go_loopw [3, 4, 5] (fun s c i wr => ∃ k : Nat, k ≤ n ∧ i = .int .i64 (k : Int) ∧ c = .int .i64 ((lacks (digs (xs.take k)) : Nat) : Int) ∧ Hid (DigM w wr (.slice (some ⟨ab, ao, none⟩) n cap) xs s (digs (xs.take k)))) (fun _ _ i _ => n - (intOf i).toNat)
  case atStart => exact ⟨0, Nat.zero_le _, rfl, rfl, M⟩
  case round =>
    clear M
    obtain ⟨k, hk, rfl, rfl, M⟩ := hrel
    by_cases hlt : k < n
    · obtain ⟨x, hx⟩ : ∃ x, xs[k]? = some x := ⟨_, List.getElem?_eq_getElem (by rw [← HN.out]; exact hlt)⟩
      have hxb := HB.out x (List.mem_of_getElem? hx)
      obtain ⟨m, rfl⟩ : ∃ m : Nat, x = (m : Int) := ⟨x.toNat, by omega⟩
      have hm : m < 256 := by omega
      have HD := Lib.hid (digs_snoc xs k _ hx)
      have hlk : lacks (digs (xs.take k)) ≤ 960 := by
        have := lacks_le (digs (xs.take k)); rw [digs_length, List.length_take] at this; omega
      have c0 := M.out.below.cell (p := ⟨ab, ao + k, none⟩) (World.block_lt_of_cell? w _ (HCE.out k _ hx))
      rw [HCE.out k _ hx] at c0
      replace hx := Lib.hid hx
      have HLN2 := Lib.hid (show (natInts (digs (xs.take k))).length ≤ 64 by rw [natInts_length, digs_length, List.length_take]; have := HL.out; omega)
      obtain ⟨p, hp⟩ : ∃ p, p = m / 16 := ⟨_, rfl⟩
      obtain ⟨q, hq⟩ : ∃ q, q = m % 16 := ⟨_, rfl⟩
      have hp15 : p ≤ 15 := by omega
      have hq15 : q ≤ 15 := by omega
      have t1 : (m : Int) / 16 = (p : Int) := by omega
      have t2 : (m : Int) % 16 = (q : Int) := by omega
      replace HD : Hid (digs (xs.take (k + 1)) = digs (xs.take k) ++ [p, q]) := by rw [hp, hq]; exact HD
      clear hp hq hxb
      go_upto_region 8 with (fail)
      go_quiet (fail)
      replace M : Hid (DigM w (wr.drewN nq) (.slice (some ⟨ab, ao, none⟩) n cap) xs u3 (digs (xs.take k))) := Lib.hid ⟨M.out.arg, M.out.row, ⟨M.out.below.os, M.out.below.tape, M.out.below.output, M.out.below.size, M.out.below.block⟩⟩
      clear c0 t1 t2
      generalize wr.drewN nq = w2 at *
      have HA := Lib.hid (below_alloc w2 (.cells (intVals (natInts [p, q])).toArray 3))
      have HY := Lib.hid (lits_in w2 (natInts [p, q]) (by simp [natInts, maxLen]))
      have HLK := Lib.hid (show ((lacks (digs (xs.take k)) : Nat) : Int) + 30 - p - q = ((lacks (digs (xs.take (k + 1))) : Nat) : Int) by rw [HD.out, lacks_two]; exact lack2 _ p q hp15 hq15)
      obtain ⟨S, hS⟩ : ∃ S, S = lacks (digs (xs.take k)) := ⟨_, rfl⟩
      rw [← hS] at HLK hlk ⊢
      replace hS := Lib.hid hS
      go_wp2_with (at_builtin; refine wpList_append_ints rfl (.tmp 34) (.tmp 37) rfl rfl w.heap.size _ _ rfl (wkept_below M.out.row HA.out) _ (natInts [p, q]) rfl HY.out (by simp [natInts]) (by rw [natInts_length [p, q]]; have := HLN2.out; simp; omega) (Nat.le_trans M.out.below.size HA.out.size) ?_; intro v2 w3 ho hg; have M2 := Lib.hid (M.out.grow HA.out hg ho HX.out); clear ho hg)
      go_roundw
      case rel => exact ⟨k + 1, by omega, by go_num, by rw [HLK.out], by rw [HD.out]; exact M2⟩
      case measure => simp [intOf]; omega
    · have hkn : k = n := by omega
      have hlt' : ¬ (k : Int) < (n : Int) := by omega
      have HD := Lib.hid (show xs.take k = xs by rw [hkn, HN.out, List.take_length])
      rw [HD.out] at M ⊢
      clear HD hkn hk hlt
      have HLS := Lib.hid (show lacks (digs xs) ≤ 960 from lacks_bound (by have := HL.out; have := HN.out; omega))
      have HDF := Lib.hid (show digF xs = digs xs ++ [lacks (digs xs) / 256 % 16, lacks (digs xs) / 16 % 16, lacks (digs xs) % 16] by unfold digF; rw [show lacks (digs xs) / 256 % 16 = lacks (digs xs) / 256 from Nat.mod_eq_of_lt (by have := HLS.out; omega)])
      have HLN2 := Lib.hid (show (natInts (digs xs)).length ≤ 64 by rw [natInts_length, digs_length]; have := HL.out; have := HN.out; omega)
      obtain ⟨S, hS⟩ : ∃ S, S = lacks (digs xs) := ⟨_, rfl⟩
      rw [← hS] at HLS HDF ⊢
      replace hS := Lib.hid hS
      have hs9 := HLS.out
      have HA := Lib.hid (below_alloc wr (.cells (intVals (natInts [S / 256 % 16, S / 16 % 16, S % 16])).toArray 3))
      have HY := Lib.hid (lits_in wr (natInts [S / 256 % 16, S / 16 % 16, S % 16]) (by simp [natInts, maxLen]))
      go_wp2_with (at_builtin; refine wpList_append_ints rfl (.tmp 45) (.tmp 54) rfl rfl w.heap.size _ (natInts (digs xs)) rfl (wkept_below M.out.row HA.out) _ (natInts [S / 256 % 16, S / 16 % 16, S % 16]) rfl HY.out (by simp [natInts]) (by rw [natInts_length [S / 256 % 16, S / 16 % 16, S % 16]]; have := HLN2.out; simp; omega) (Nat.le_trans M.out.below.size HA.out.size) ?_; intro v2 w3 ho hg; have M2 := Lib.hid (M.out.grow HA.out hg ho HX.out); clear ho hg)
      go_ret
      refine ⟨_, rfl, ?_, M2.out.below⟩
      rw [HDF.out]
      exact M2.out.row
end Go.Proofs.YtjnpcmfpiejmjaaGreatDoor
namespace Go.Proofs.YtjnpcmfpiejmjaaGreatDoor
set_option linter.unusedVariables false
set_option linter.unusedSimpArgs false
open Go.RowKit
set_option maxRecDepth 100000
theorem has2_startz (w : World) (v : Nat → Int) : Has2 w ((w.alloc (.cells (rowOf .u8 32 v) 32)).alloc (.cells (rowOf .u8 32 zF) 32)) w.heap.size (w.heap.size + 1) (w.heap.size + 1 + 1) v := has2_start w v
end Go.Proofs.YtjnpcmfpiejmjaaGreatDoor
namespace Go.Proofs.YtjnpcmfpiejmjaaGreatDoor
set_option linter.unusedVariables false
set_option linter.unusedSimpArgs false
open Go.RowKit
set_option maxRecDepth 100000
structure SgM (w2 w' : World) (b : Nat) (f : Nat → Int) (gb go : Nat) (L : List Nat) (s : Value) (l : List Int) : Prop where
  below : Below w2.heap.size w2 w'
  val : RowAt w' b .u8 32 32 f
  hb : b < w2.heap.size
  hg : gb < w2.heap.size
  cells : ∀ i x, (natInts L)[i]? = some x → w'.cell? ⟨gb, go + i, none⟩ = some (.int .i64 x)
  bytes : BytesIn w' s l
theorem SgM.calls {w2 w' w3 : World} {b : Nat} {f : Nat → Int} {gb go : Nat} {L : List Nat} {s : Value} {l : List Int} (m : SgM w2 w' b f gb go L s l) (h : Below w'.heap.size w' w3) : SgM w2 w3 b f gb go L s l :=
  ⟨m.below.trans (h.mono m.below.size), m.val.below h m.val.lt, m.hb, m.hg, fun i x hi => (h.cell (p := ⟨gb, go + i, none⟩) (World.block_lt_of_cell? w' _ (m.cells i x hi))).trans (m.cells i x hi), m.bytes.below h⟩
theorem SgM.with {w2 w' : World} {b : Nat} {f : Nat → Int} {gb go : Nat} {L : List Nat} {s s' : Value} {l l' : List Int} (m : SgM w2 w' b f gb go L s l) (h : BytesIn w' s' l') : SgM w2 w' b f gb go L s' l' := ⟨m.below, m.val, m.hb, m.hg, m.cells, h⟩
end Go.Proofs.YtjnpcmfpiejmjaaGreatDoor
