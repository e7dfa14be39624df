/- Part 7 of the proof. -/
import Derived.OrdersHeld
import Derived.Test.YtabflppnecemkaaGreatDoorPb1
import Derived.Test.YtabflppnecemkaaGreatDoorPb6
namespace Go.Proofs.YtabflppnecemkaaGreatDoor
set_option linter.unusedVariables false
set_option linter.unusedSimpArgs false
open Go.RowKit
set_option maxRecDepth 100000
/-- a call of a Writer that appends ys -/
def WPost (p : Nat) (v : Value) (xs ys : List Int) (w : World) (e : Ending) (w' : World) : Prop :=
  e = .returned (.pointer (some ⟨p, 0, none⟩)) ∧ ∃ v', WAt w' p v' (xs ++ ys) ∧ WStep p v v' w w'
theorem one_in (w : World) (x : Int) : BytesIn (w.alloc (.cells #[.int .u8 x] 5)) (.slice (some ⟨w.heap.size, 0, none⟩) 1 1) [x] := by
  refine ⟨_, _, rfl, by simp, by simp [maxLen], .inr ⟨_, _, rfl, fun i y hi => ?_⟩⟩
  rw [Nat.zero_add, cell_of_row _ _ _ _ _ _ (heap_alloc_new w _)]
  match i, hi with
  | 0, hi => cases hi; rfl
def truthB (b : Bool) : List Int := [if b then 1 else 0]
set_option maxHeartbeats 400000 in
theorem wbool_any (p : Nat) (v : Value) (xs : List Int) (b : Bool) (w : World) (hw : WAt w p v xs) (hl : xs.length + 1 ≤ 140737488355328) :
    Calls Tryz.prog 35 #[.pointer (some ⟨p, 0, none⟩), .bool b] w (WPost p v xs (truthB b) w) := by
  have HW := Lib.hid (hw.below (below_alloc w (.cells #[.int .u8 (if b then 1 else 0)] 5)))
  have HB := Lib.hid (below_alloc w (.cells #[.int .u8 (if b then 1 else 0)] 5))
  have HY := Lib.hid (one_in w (if b then 1 else 0))
  have HL := Lib.hid hl
  clear hw hl
  unfold WPost
  cases b
  · simp only [Bool.false_eq_true, if_false] at HW HB HY
    go_enter Tryz.func35, Tryz.ntmps35
    go_wp2_with (go_at_call 64; (with_reducible refine (add_any p v _ xs [0] _ HW.out HY.out (by simpa using HL.out)).mono ?_); rintro e w1 ⟨rfl, v', ho, hb⟩; have H := Lib.hid ho; have HS := Lib.hid hb; clear ho hb)
    go_ret
    exact ⟨rfl, v', H.out, (WStep.of_below HB.out).trans HS.out⟩
  · simp only [if_true] at HW HB HY
    go_enter Tryz.func35, Tryz.ntmps35
    go_wp2_with (go_at_call 64; (with_reducible refine (add_any p v _ xs [1] _ HW.out HY.out (by simpa using HL.out)).mono ?_); rintro e w1 ⟨rfl, v', ho, hb⟩; have H := Lib.hid ho; have HS := Lib.hid hb; clear ho hb)
    go_ret
    exact ⟨rfl, v', H.out, (WStep.of_below HB.out).trans HS.out⟩
def rowL (n : Nat) (f : Nat → Int) : List Int := (List.range n).map f
theorem row_in {w : World} {g n c : Nat} {t : TypeId} {f : Nat → Int} {k : Nat} (h : RowAt w g .u8 n t f) (hk : k ≤ n) (hc : k ≤ c) (hm : k ≤ maxLen) : BytesIn w (.slice (some ⟨g, 0, none⟩) k c) (rowL k f) := by
  have hl : (rowL k f).length = k := by simp [rowL]
  refine ⟨_, c, by rw [hl], by rw [hl]; exact hc, by rw [hl]; exact hm, .inr ⟨g, 0, rfl, fun i x hi => ?_⟩⟩
  simp only [rowL, List.getElem?_map] at hi
  rcases Nat.lt_or_ge i k with h1 | h1
  · rw [List.getElem?_range h1] at hi
    cases hi
    rw [Nat.zero_add]; exact h.cell i (by omega)
  · rw [List.getElem?_eq_none (by simpa using h1)] at hi; cases hi
set_option maxRecDepth 100000 in
set_option maxHeartbeats 400000 in
theorem whash_any (p : Nat) (v : Value) (xs : List Int) (f : Nat → Int) (w : World) (hw : WAt w p v xs) (hl : xs.length + 32 ≤ 140737488355328) :
    Calls Tryz.prog 37 #[.pointer (some ⟨p, 0, none⟩), .agg (rowOf .u8 32 f)] w (WPost p v xs (rowL 32 f) w) := by
  have HW := Lib.hid (hw.below (below_alloc w (.cells (rowOf .u8 32 f) 62)))
  have HB := Lib.hid (below_alloc w (.cells (rowOf .u8 32 f) 62))
  have HY := Lib.hid (row_in (k := 32) (c := 32) (RowAt.new w .u8 32 62 f) (Nat.le_refl _) (Nat.le_refl _) (by simp [maxLen]))
  have HL := Lib.hid hl
  clear hw hl
  unfold WPost
  go_enter Tryz.func37, Tryz.ntmps37
  go_wp2_with (go_at_call 64; (with_reducible refine (add_any p v _ xs (rowL 32 f) _ HW.out HY.out (by have := HL.out; simpa [rowL] using this)).mono ?_); rintro e w1 ⟨rfl, v', ho, hb⟩; have H := Lib.hid ho; have HS := Lib.hid hb; clear ho hb)
  go_ret
  exact ⟨rfl, v', H.out, (WStep.of_below HB.out).trans HS.out⟩
theorem zeros10 : (#[Value.int IntKind.u8 0, Value.int IntKind.u8 0, Value.int IntKind.u8 0, Value.int IntKind.u8 0, Value.int IntKind.u8 0, Value.int IntKind.u8 0, Value.int IntKind.u8 0, Value.int IntKind.u8 0, Value.int IntKind.u8 0, Value.int IntKind.u8 0] : Array Value) = rowOf .u8 10 (fun _ => 0) := by rfl
theorem or128 (b : Nat) (h : b < 256) : bits .or .u8 (b : Int) 128 = ((b % 128 + 128 : Nat) : Int) := by
  have : ∀ b : Fin 256, bits .or .u8 (b.val : Int) 128 = ((b.val % 128 + 128 : Nat) : Int) := by decide +kernel
  exact this ⟨b, h⟩
theorem gbyK_succ (n k : Nat) : upd (gbyK n k) k ((gby n k : Nat) : Int) = gbyK n (k + 1) := by
  funext i
  unfold upd gbyK
  by_cases h1 : i = k
  · subst h1; rw [if_pos rfl, if_pos (by omega)]
  · rw [if_neg h1]
    by_cases h2 : i < k
    · rw [if_pos h2, if_pos (by omega)]
    · rw [if_neg h2, if_neg (by omega)]
theorem rowL_varint (n : Nat) : rowL (glen n) (gbyK n (glen n)) = varint n := by
  unfold rowL varint
  apply List.map_congr_left
  intro i hi
  unfold gbyK
  rw [if_pos (by simpa using hi)]
theorem sliceA10 (b u : Nat) (hu : u ≤ 10) (w : World) : (Instr.sliceAt 120 (.pointer (some ⟨b, 0, none⟩)) none (some (.int .i64 (u : Int))) none).run Tryz.prog w
    = .ok (.slice (some ⟨b, 0, none⟩) u 10) w := by
  have ha : Tryz.prog.arrayLen 120 = 10 := by kernel_rfl
  have he : Tryz.prog.elem 120 = 5 := by kernel_rfl
  have hs : (sizeOf 5).run Tryz.prog w = .ok 1 w := by kernel_rfl
  rw [run_sliceAt_array_h w 120 ⟨b, 0, none⟩ (by rw [ha, he]; exact Tryz.underlying120) .i64 (u : Int) (by omega) (by rw [ha]; omega), ha, he, hs]
  simp only [Result.andThen_ok, slicedAt, Int.toNat_natCast]
  rfl
set_option maxRecDepth 100000 in
set_option maxHeartbeats 400000 in
theorem wuint_any (p : Nat) (v : Value) (xs : List Int) (n : Nat) (w : World) (hw : WAt w p v xs) (hn : n < 18446744073709551616) (hl : xs.length + 10 ≤ 140737488355328) :
    Calls Tryz.prog 34 #[.pointer (some ⟨p, 0, none⟩), .int .u64 (n : Int)] w (WPost p v xs (varint n) w) := by
  have HW := Lib.hid hw
  have HL := Lib.hid hl
  have HN := Lib.hid hn
  have HG := Lib.hid (glen_le hn)
  clear hw hl hn
  unfold WPost
  go_enter Tryz.func34, Tryz.ntmps34
  go_upto_region 2 with (fail)
  rw [zeros10]
  have HB := Lib.hid (below_alloc w (.cells (rowOf .u8 10 (fun _ => 0)) 120))
  have HR : Hid (RowAt (w.alloc (.cells (rowOf .u8 10 (fun _ => 0)) 120)) w.heap.size .u8 10 120 (gbyK n 0)) := Lib.hid (RowAt.new w .u8 10 120 (fun _ => 0))
  generalize w.alloc (.cells (rowOf .u8 10 (fun _ => 0)) 120) = w1 at *
  go_wp2_with (fail)
  go_loopw [1, 6] (fun x i wr => ∃ k : Nat, k < glen n ∧ x = .int .u64 ((n / 128 ^ k : Nat) : Int) ∧ i = .int .i64 k ∧ Hid (RowAt wr w.heap.size .u8 10 120 (gbyK n k) ∧ Below w.heap.size w wr)) (fun _ i _ => 10 - (intOf i).toNat)
  case atStart => exact ⟨0, glen_pos n, by simp, rfl, HR.out, HB.out⟩
  case round =>
    clear HR HB
    obtain ⟨k, hk, rfl, rfl, H⟩ := hrel
    have hk10 := HG.out
    obtain ⟨m, hm⟩ : ∃ m, m = n / 128 ^ k := ⟨_, rfl⟩
    have hmn : m < 18446744073709551616 := by have := HN.out; have := Nat.div_le_self n (128 ^ k); omega
    have hiff := glen_iff hk
    rw [← hm] at hiff ⊢
    by_cases h : 128 ≤ m
    · have hk1 := hiff.1 h
      have hor := or128 (m % 256) (by omega)
      have hg1 : m % 256 % 128 + 128 = gby n k := by unfold gby; rw [if_pos hk1, ← hm]; omega
      rw [hg1] at hor
      have c0 := H.out.1.cell k (by omega)
      have f0 := H.out.1.free k
      have HM := Lib.hid hm
      replace hiff := Lib.hid hiff
      clear hg1 hm
      go_wp2_with (fail)
      go_roundw
      case rel =>
        refine ⟨k + 1, hk1, ?_, rfl, ?_, (H.out.2.setCell (Nat.le_refl _) _)⟩
        · rw [div_pow_step, ← HM.out]; rfl
        · have e : (m : Int) % 256 = ((m % 256 : Nat) : Int) := by omega
          rw [e, hor, ← gbyK_succ]
          exact H.out.1.set k _
      case measure => simp [intOf]; omega
    · have hk1 : k + 1 = glen n := by omega
      have hg1 : m = gby n k := by rw [(gby_last hk1).1]; exact hm
      have c0 := H.out.1.cell k (by omega)
      have f0 := H.out.1.free k
      have HM := Lib.hid hm
      replace hiff := Lib.hid hiff
      have hsl := sliceA10 w.heap.size (k + 1) (by omega)
      rw [show ((k + 1 : Nat) : Int) = (k : Int) + 1 by omega] at hsl
      have HS := Lib.hid (show RowAt (wr.setCell ⟨w.heap.size, k, none⟩ (.int .u8 (m : Int))) w.heap.size .u8 10 120 (gbyK n (k + 1)) by rw [← gbyK_succ, ← hg1]; exact H.out.1.set k _)
      have HB := Lib.hid (H.out.2.setCell (p := ⟨w.heap.size, k, none⟩) (Nat.le_refl _) (.int .u8 (m : Int)))
      have HY := Lib.hid (row_in (k := k + 1) (c := 10) HS.out (by omega) (by omega) (by unfold maxLen; omega))
      rw [hk1, rowL_varint, ← hk1] at HY
      replace hk1 := Lib.hid hk1
      clear hm hg1
      go_wp2_with (go_at_call 64; (with_reducible refine (add_any p v _ xs (varint n) _ (HW.out.below HB.out) HY.out (by have := HL.out; have := HG.out; rw [varint_length]; omega)).mono ?_); rintro e w1 ⟨rfl, v', ho, hb⟩; have H := Lib.hid ho; have HS := Lib.hid hb; clear ho hb)
      go_ret
      exact ⟨rfl, v', H.out, (WStep.of_below HB.out).trans HS.out⟩
end Go.Proofs.YtabflppnecemkaaGreatDoor
namespace Go.Proofs.YtabflppnecemkaaGreatDoor
set_option linter.unusedVariables false
set_option linter.unusedSimpArgs false
/-- a number as the unsigned one of the same 64 bits -/
def uN (i : Int) : Nat := (IntKind.u64.wrap i).toNat
theorem uN_wrap (i : Int) : IntKind.u64.wrap i = ((uN i : Nat) : Int) := by
  unfold uN
  have : IntKind.u64.wrap i = i % 18446744073709551616 := rfl
  rw [this]; omega
theorem uN_lt (i : Int) : uN i < 18446744073709551616 := by
  unfold uN
  have : IntKind.u64.wrap i = i % 18446744073709551616 := rfl
  rw [this]; omega
/-- a chain's beginning -/
def startF (seed : Nat → Int) (leaf chain : Int) : Nat → Int := sumF (varint 2 ++ rowL 32 seed ++ varint (uN leaf) ++ varint (uN chain))
/-- one step further, from place p on -/
def step1 (leaf chain : Int) (v : Nat → Int) (p : Nat) : Nat → Int := sumF (varint 3 ++ varint (uN leaf) ++ varint (uN chain) ++ varint p ++ rowL 32 v)
/-- n steps from place p on -/
def stepN (leaf chain : Int) (v : Nat → Int) (p : Nat) : Nat → (Nat → Int)
  | 0 => v
  | n + 1 => step1 leaf chain (stepN leaf chain v p n) (p + n)
theorem stepN_add (leaf chain : Int) (v : Nat → Int) (p m : Nat) : ∀ n, stepN leaf chain (stepN leaf chain v p m) (p + m) n = stepN leaf chain v p (m + n)
  | 0 => rfl
  | n + 1 => by
    show step1 leaf chain (stepN leaf chain (stepN leaf chain v p m) (p + m) n) (p + m + n) = step1 leaf chain (stepN leaf chain v p (m + n)) (p + (m + n))
    rw [stepN_add leaf chain v p m n, Nat.add_assoc]
/-- a chain's value brought from place a to place b -/
def stepF (v : Nat → Int) (leaf chain a b : Int) : Nat → Int := stepN leaf chain v (max a 0).toNat ((min b 15).toNat - (max a 0).toNat)
theorem stepF_nat (v : Nat → Int) (leaf chain : Int) (a b : Nat) (hb : b ≤ 15) : stepF v leaf chain (a : Int) (b : Int) = stepN leaf chain v a (b - a) := by
  unfold stepF
  rw [show (max (a : Int) 0).toNat = a by omega, show (min (b : Int) 15).toNat = b by omega]
/-- on, and on again -/
theorem stepF_on (v : Nat → Int) (leaf chain : Int) (a b c : Nat) (hab : a ≤ b) (hbc : b ≤ c) (hc : c ≤ 15) : stepF (stepF v leaf chain a b) leaf chain b c = stepF v leaf chain a c := by
  rw [stepF_nat v _ _ a b (by omega), stepF_nat _ _ _ b c hc, stepF_nat v _ _ a c hc]
  have h := stepN_add leaf chain v a (b - a) (c - b)
  rw [show a + (b - a) = b by omega, show b - a + (c - b) = c - a by omega] at h
  exact h
theorem stepF_stay (v : Nat → Int) (leaf chain : Int) (b : Nat) (hb : b ≤ 15) : stepF v leaf chain b b = v := by
  rw [stepF_nat _ _ _ _ _ hb, Nat.sub_self]; rfl
/-- the digits of the bytes of a digest -/
def digs : List Int → List Nat
  | [] => []
  | x :: r => x.toNat / 16 :: x.toNat % 16 :: digs r
theorem digs_length : ∀ xs, (digs xs).length = 2 * xs.length
  | [] => rfl
  | x :: r => by simp only [digs, List.length_cons, digs_length r]; omega
theorem digs_append : ∀ xs ys, digs (xs ++ ys) = digs xs ++ digs ys
  | [], _ => rfl
  | x :: r, ys => by simp only [digs, List.cons_append, digs_append r ys]
theorem digs_le : ∀ {xs : List Int}, bytesOk xs → ∀ d ∈ digs xs, d ≤ 15
  | [], _, d, h => by cases h
  | x :: r, hb, d, h => by
    have hx := hb x (by simp)
    simp only [digs, List.mem_cons] at h
    rcases h with rfl | rfl | h
    · omega
    · omega
    · exact digs_le (fun y hy => hb y (by simp [hy])) d h
/-- what digits lack to 15, together -/
def lacks : List Nat → Nat
  | [] => 0
  | d :: r => (15 - d) + lacks r
theorem lacks_append : ∀ a b, lacks (a ++ b) = lacks a + lacks b
  | [], b => by simp [lacks]
  | d :: r, b => by simp only [lacks, List.cons_append, lacks_append r b]; omega
theorem lacks_le : ∀ l, lacks l ≤ 15 * l.length
  | [] => by simp [lacks]
  | d :: r => by have := lacks_le r; simp only [lacks, List.length_cons]; omega
/-- the digits of a digest, with those of the sum -/
def digF (xs : List Int) : List Nat := digs xs ++ [lacks (digs xs) / 256, lacks (digs xs) / 16 % 16, lacks (digs xs) % 16]
theorem digF_length (xs : List Int) : (digF xs).length = 2 * xs.length + 3 := by simp [digF, digs_length]
theorem lacks_bound {xs : List Int} (h : xs.length ≤ 32) : lacks (digs xs) ≤ 960 := by
  have := lacks_le (digs xs); rw [digs_length] at this; omega
theorem digF_le {xs : List Int} (hb : bytesOk xs) (hl : xs.length ≤ 32) : ∀ d ∈ digF xs, d ≤ 15 := by
  intro d h
  have := lacks_bound hl
  simp only [digF, List.mem_append, List.mem_cons, List.not_mem_nil, or_false] at h
  rcases h with h | rfl | rfl | rfl
  · exact digs_le hb d h
  all_goals omega
/-- the digest's digits say the digest -/
theorem digs_inj : ∀ {xs ys : List Int}, bytesOk xs → bytesOk ys → digs xs = digs ys → xs = ys
  | [], [], _, _, _ => rfl
  | [], y :: s, _, _, h => by simp [digs] at h
  | x :: r, [], _, _, h => by simp [digs] at h
  | x :: r, y :: s, hx, hy, h => by
    simp only [digs, List.cons.injEq] at h
    have h1 := hx x (by simp)
    have h2 := hy y (by simp)
    rw [digs_inj (fun z hz => hx z (by simp [hz])) (fun z hz => hy z (by simp [hz])) h.2.2, show x = y by omega]
/-- a digit of a that is greater than b's -/
def gtB : List Nat → List Nat → Bool
  | x :: a, y :: b => decide (y < x) || gtB a b
  | _, _ => false
theorem gtB_append : ∀ {a b : List Nat} (c d : List Nat), a.length = b.length → gtB (a ++ c) (b ++ d) = (gtB a b || gtB c d)
  | [], [], c, d, _ => by simp [gtB]
  | [], _ :: _, _, _, h => by cases h
  | _ :: _, [], _, _, h => by cases h
  | x :: a, y :: b, c, d, h => by simp only [List.cons_append, gtB, gtB_append c d (by simpa using h), Bool.or_assoc]
/-- where none of a is greater than b's, a lacks at least as much; as much only where they are the same -/
theorem lacks_mono : ∀ {a b : List Nat}, a.length = b.length → (∀ d ∈ b, d ≤ 15) → gtB a b = false → lacks b ≤ lacks a ∧ (lacks a = lacks b → a = b)
  | [], [], _, _, _ => by simp [lacks]
  | [], _ :: _, h, _, _ => by cases h
  | _ :: _, [], h, _, _ => by cases h
  | x :: a, y :: b, h, hb, hg => by
    simp only [gtB, Bool.or_eq_false_iff, decide_eq_false_iff_not, Nat.not_lt] at hg
    obtain ⟨h1, h2⟩ := lacks_mono (by simpa using h) (fun d hd => hb d (by simp [hd])) hg.2
    have hy := hb y (by simp)
    simp only [lacks]
    refine ⟨by omega, fun he => ?_⟩
    rw [show x = y by omega, h2 (by omega)]
theorem gt3 (m n : Nat) (h : n < m) : gtB [m / 256, m / 16 % 16, m % 16] [n / 256, n / 16 % 16, n % 16] = true := by
  simp only [gtB, Bool.or_eq_true, decide_eq_true_eq, Bool.or_false]
  omega
/-- of two unlike digests of one length each has a digit that is greater than the other's -/
theorem digF_gt {xs ys : List Int} (hx : bytesOk xs) (hy : bytesOk ys) (hl : xs.length = ys.length) (hne : xs ≠ ys) : gtB (digF xs) (digF ys) = true := by
  unfold digF
  rw [gtB_append _ _ (by rw [digs_length, digs_length, hl]), Bool.or_eq_true]
  by_cases hg : gtB (digs xs) (digs ys) = true
  · exact .inl hg
  · right
    obtain ⟨h1, h2⟩ := lacks_mono (a := digs xs) (b := digs ys) (by rw [digs_length, digs_length, hl]) (digs_le hy) (by simpa using hg)
    refine gt3 _ _ ?_
    rcases Nat.lt_or_ge (lacks (digs ys)) (lacks (digs xs)) with h | h
    · exact h
    · exact absurd (digs_inj hx hy (h2 (by omega))) hne
/-- the values of all chains, brought to their places, one behind the other -/
def chainsF (seed : Nat → Int) (leaf : Int) : Nat → List Nat → List Int
  | _, [] => []
  | c, d :: r => rowL 32 (stepF (startF seed leaf (c : Int)) leaf (c : Int) 0 (d : Int)) ++ chainsF seed leaf (c + 1) r
theorem rowL_length (n : Nat) (f : Nat → Int) : (rowL n f).length = n := by simp [rowL]
theorem chainsF_length (seed : Nat → Int) (leaf : Int) : ∀ (l : List Nat) (c : Nat), (chainsF seed leaf c l).length = 32 * l.length
  | [], _ => rfl
  | d :: r, c => by simp only [chainsF, List.length_append, rowL_length, chainsF_length seed leaf r (c + 1), List.length_cons]; omega
theorem chainsF_append (seed : Nat → Int) (leaf : Int) : ∀ (l m : List Nat) (c : Nat), chainsF seed leaf c (l ++ m) = chainsF seed leaf c l ++ chainsF seed leaf (c + l.length) m
  | [], m, c => by simp [chainsF]
  | d :: r, m, c => by
    simp only [List.cons_append, chainsF, chainsF_append seed leaf r m (c + 1), List.append_assoc, List.length_cons]
    rw [show c + 1 + r.length = c + (r.length + 1) by omega]
theorem chainsF_snoc (seed : Nat → Int) (leaf : Int) (l : List Nat) (k : Nat) (d : Nat) (h : l[k]? = some d) : chainsF seed leaf 0 (l.take (k + 1)) = chainsF seed leaf 0 (l.take k) ++ rowL 32 (stepF (startF seed leaf (k : Int)) leaf (k : Int) 0 (d : Int)) := by
  have hlt : k < l.length := (List.getElem?_eq_some_iff.1 h).1
  rw [List.take_add_one, h, Option.toList_some, chainsF_append, List.length_take, Nat.min_eq_left (by omega), Nat.zero_add]
  simp [chainsF]
/-- what a signature's values make, brought on from their digits to the end -/
def endsF (leaf : Int) : Nat → List Nat → List Int → List Int
  | _, [], _ => []
  | c, d :: r, s => rowL 32 (stepF (fun i => (s.take 32).getD i 0) leaf (c : Int) (d : Int) 15) ++ endsF leaf (c + 1) r (s.drop 32)
theorem endsF_length (leaf : Int) : ∀ (l : List Nat) (c : Nat) (s : List Int), (endsF leaf c l s).length = 32 * l.length
  | [], _, _ => rfl
  | d :: r, c, s => by simp only [endsF, List.length_append, rowL_length, endsF_length leaf r (c + 1), List.length_cons]; omega
theorem endsF_append (leaf : Int) : ∀ (l m : List Nat) (c : Nat) (s : List Int), endsF leaf c (l ++ m) s = endsF leaf c l s ++ endsF leaf (c + l.length) m (s.drop (32 * l.length))
  | [], m, c, s => by simp [endsF]
  | d :: r, m, c, s => by
    simp only [List.cons_append, endsF, endsF_append leaf r m (c + 1), List.append_assoc, List.length_cons, List.drop_drop]
    rw [show c + 1 + r.length = c + (r.length + 1) by omega, show 32 + 32 * r.length = 32 * (r.length + 1) by omega]
theorem endsF_snoc (leaf : Int) (l : List Nat) (k : Nat) (d : Nat) (s : List Int) (h : l[k]? = some d) : endsF leaf 0 (l.take (k + 1)) s = endsF leaf 0 (l.take k) s ++ rowL 32 (stepF (fun i => ((s.drop (32 * k)).take 32).getD i 0) leaf (k : Int) (d : Int) 15) := by
  have hlt : k < l.length := (List.getElem?_eq_some_iff.1 h).1
  rw [List.take_add_one, h, Option.toList_some, endsF_append, List.length_take, Nat.min_eq_left (by omega), Nat.zero_add]
  simp [endsF]
theorem rowL_congr {n : Nat} {f g : Nat → Int} (h : ∀ i, i < n → f i = g i) : rowL n f = rowL n g := by
  unfold rowL
  exact List.map_congr_left fun i hi => h i (by simpa using hi)
theorem step1_congr {leaf chain : Int} {f g : Nat → Int} {p : Nat} (h : ∀ i, i < 32 → f i = g i) : step1 leaf chain f p = step1 leaf chain g p := by
  unfold step1; rw [rowL_congr h]
theorem stepN_congr {leaf chain : Int} {f g : Nat → Int} {p : Nat} (h : ∀ i, i < 32 → f i = g i) : ∀ n i, i < 32 → stepN leaf chain f p n i = stepN leaf chain g p n i
  | 0, i, hi => h i hi
  | n + 1, i, hi => by
    show step1 leaf chain (stepN leaf chain f p n) (p + n) i = step1 leaf chain (stepN leaf chain g p n) (p + n) i
    rw [step1_congr (stepN_congr h n)]
theorem stepF_congr {leaf chain a b : Int} {f g : Nat → Int} (h : ∀ i, i < 32 → f i = g i) : rowL 32 (stepF f leaf chain a b) = rowL 32 (stepF g leaf chain a b) :=
  rowL_congr (stepN_congr h _)
theorem rowL_getD (n : Nat) (f : Nat → Int) (i : Nat) (h : i < n) : (rowL n f).getD i 0 = f i := by simp [rowL, List.getD, h]
/-- a signature makes the public sum -/
theorem ends_chains (seed : Nat → Int) (leaf : Int) : ∀ (l : List Nat) (c : Nat), (∀ d ∈ l, d ≤ 15) → endsF leaf c l (chainsF seed leaf c l) = chainsF seed leaf c (List.replicate l.length 15)
  | [], _, _ => rfl
  | d :: r, c, h => by
    have hl := rowL_length 32 (stepF (startF seed leaf (c : Int)) leaf (c : Int) 0 (d : Int))
    simp only [chainsF, endsF, List.length_cons, List.replicate_succ]
    rw [List.take_left' hl, List.drop_left' hl, ends_chains seed leaf r (c + 1) (fun x hx => h x (by simp [hx]))]
    have e := stepF_on (startF seed leaf (c : Int)) leaf (c : Int) 0 d 15 (Nat.zero_le _) (h d (by simp)) (Nat.le_refl _)
    rw [stepF_congr (g := stepF (startF seed leaf (c : Int)) leaf (c : Int) 0 (d : Int)) (fun i hi => rowL_getD _ _ _ hi)]
    rw [show ((0 : Nat) : Int) = 0 from rfl] at e
    rw [show ((15 : Nat) : Int) = 15 from rfl] at e ⊢
    rw [e]
/-- a leaf's sum -/
def leafF (xs : List Int) : Nat → Int := sumF (0 :: xs)
def pubF (seed : Nat → Int) (leaf : Int) (n : Nat) : Nat → Int := leafF (chainsF seed leaf 0 (List.replicate (2 * n + 3) 15))
def signF (seed : Nat → Int) (leaf : Int) (d : List Int) : List Int := chainsF seed leaf 0 (digF d)
def fromF (s : List Int) (leaf : Int) (d : List Int) : Nat → Int := leafF (endsF leaf 0 (digF d) s)
theorem from_sign (seed : Nat → Int) (leaf : Int) (d : List Int) (hb : bytesOk d) (hl : d.length ≤ 32) : fromF (signF seed leaf d) leaf d = pubF seed leaf d.length := by
  unfold fromF signF pubF
  rw [ends_chains seed leaf _ _ (digF_le hb hl), digF_length]
/-- may a leaf and a digest's length be? -/
def leafOk (leaf : Int) : Prop := 0 ≤ leaf ∧ leaf < 1024
end Go.Proofs.YtabflppnecemkaaGreatDoor
namespace Go.Proofs.YtabflppnecemkaaGreatDoor
set_option linter.unusedVariables false
set_option linter.unusedSimpArgs false
section
variable {P : Program} {ops : Array Oper} {Q : Exit → Act → World → Prop} {md : Region.Mode} {S : World → Prop} {ds : List Nat}
def anyT (P : Program) (md : Region.Mode) (ops : Array Oper) (Q : Exit → Act → World → Prop) (S : World → Prop) (ds : List Nat) : Nat → Array Bool → Act → World → Prop
  | 0, l, a, w => Region.ready md ops l = [] ∧ Q .normal a w
  | f + 1, l, a, w => (Region.ready md ops l = [] → Q .normal a w) ∧ ∀ i ∈ Region.ready md ops l, wpOp P ops Q i (fun a' w' => (ds.contains i = true → S w') ∧ anyT P md ops Q S ds f (l.setIfInBounds i true) a' w') a w
theorem any_of_T : ∀ (f : Nat) (l : Array Bool) (a : Act) (w : World), anyT P md ops Q S ds f l a w → wpAny P md ops Q f l a w
  | 0, _, _, _, h => h
  | f + 1, _, _, _, h => ⟨h.1, fun i hi => wpOp_mono (fun a' w' h' => any_of_T f _ a' w' h'.2) (h.2 i hi)⟩
theorem unlisted {l : Array Bool} {i : Nat} (h0 : l.getD i true = false) : l.getD i false = false := by
  rcases Nat.lt_or_ge i l.size with h' | h'
  · simp [h'] at h0 ⊢; exact h0
  · simp [Array.getElem?_eq_none h']
/-- ks: operations that come behind i; each operation that is not listed, not of ds and not i is one of them -/
def waitsB (md : Region.Mode) (ops : Array Oper) (ds ks : List Nat) (l : Array Bool) (i : Nat) : Bool :=
  (ks.all fun k => !l.getD k false && (((ops[k]?).map fun o => o.after.any fun e => Region.binds md e && (e.on == i || ks.contains e.on)).getD false)) && (List.range l.size).all fun j => l.getD j true || j == i || ds.contains j || ks.contains j
theorem waitsB_spec {ks : List Nat} {l : Array Bool} {i : Nat} (h : waitsB md ops ds ks l i = true) :
    (∀ j oj, ops[j]? = some oj → ks.contains j = true → ∃ e ∈ oj.after, Region.binds md e = true ∧ (e.on = i ∨ ks.contains e.on = true)) ∧ (∀ k, ks.contains k = true → l.getD k false = false) ∧
    (∀ j, j ≠ i → l.getD j true = false → ¬ ks.contains j = true → ds.contains j = true) := by
  obtain ⟨h1, h2⟩ := Bool.and_eq_true _ _ |>.mp h
  refine ⟨fun j oj hj hk => ?_, fun k hk => ?_, fun j hj hun hK => ?_⟩
  · have h3 := List.all_eq_true.1 h1 j (by simpa using hk)
    rw [hj] at h3
    simp only [Option.map_some, Option.getD_some, Bool.and_eq_true] at h3
    obtain ⟨e, he, hb⟩ := Array.any_eq_true'.1 h3.2
    simp only [Bool.and_eq_true, Bool.or_eq_true, beq_iff_eq] at hb
    exact ⟨e, he, hb.1, hb.2⟩
  · have h3 := List.all_eq_true.1 h1 k (by simpa using hk)
    simp only [Bool.and_eq_true, Bool.not_eq_true'] at h3
    exact h3.1
  · have hlt : j < l.size := by
      rcases Nat.lt_or_ge j l.size with h' | h'
      · exact h'
      · simp [Array.getElem?_eq_none h'] at hun
    have h3 := List.all_eq_true.1 h2 j (List.mem_range.2 hlt)
    rw [hun, beq_false_of_ne hj] at h3
    cases hc : ks.contains j
    · rw [hc] at h3; simpa using h3
    · exact absurd hc hK
theorem anyT_first {i : Nat} {oi : Oper} {v : Value} {B : Nat → Prop} (hi : ops[i]? = some oi) (hsel : ∀ (j : Nat) (o : Oper) cs b, ops[j]? = some o → o.op ≠ .select cs b)
    (hQ : ∀ c a w, Q (.panic c) (a.put oi.dst v) w → Q (.panic c) a w) (hT : ∀ j oj, ops[j]? = some oj → B j → ∃ e ∈ oj.after, Region.binds md e = true ∧ (e.on = i ∨ B e.on)) :
    ∀ (f : Nat) (l : Array Bool) (a : Act) (w : World),
      (∀ j oj, ops[j]? = some oj → j ≠ i → l.getD j true = false → (∀ e ∈ oj.after, Region.binds md e = true → e.on ≠ i) → oi.apart ops oj = true) →
      (∀ k, B k → l.getD k false = false) → (∀ j, j ≠ i → l.getD j true = false → ¬ B j → ds.contains j = true) → i ∈ Region.ready md ops l → YieldsIf P ops S oi v a → S w →
      anyT P md ops Q S ds f (l.setIfInBounds i true) (a.put oi.dst v) w → anyT P md ops Q S ds (f + 1) l a w := by
  intro f
  induction f with
  | zero =>
    intro l a w _ _ _ hr hy hS H
    refine ⟨fun h => (by rw [h] at hr; cases hr), fun j hj => ?_⟩
    by_cases hji : j = i
    · subst hji; exact hy.wpOp hi hS ⟨fun _ => hS, H⟩
    · have := ready_mono hj hji
      rw [H.1] at this
      cases this
  | succ f ih =>
    intro l a w hfree hU hD hr hy hS H
    refine ⟨fun h => (by rw [h] at hr; cases hr), fun j hj => ?_⟩
    by_cases hji : j = i
    · subst hji; exact hy.wpOp hi hS ⟨fun _ => hS, H⟩
    · have h1 := H.2 j (ready_mono hj hji)
      obtain ⟨hjun, oj, hoj, hall⟩ := mem_ready.1 hj
      have hin : l.getD i false = false := unlisted (mem_ready.1 hr).1
      have hnot : ∀ e ∈ oj.after, Region.binds md e = true → e.on ≠ i := fun e he hb heq => by
        have h1 := hall e he hb
        rw [heq, hin] at h1; cases h1
      have hjB : ¬ B j := fun hB => by
        obtain ⟨e, he, hb, h2⟩ := hT j oj hoj hB
        have h3 := hall e he hb
        rcases h2 with h2 | h2
        · rw [h2, hin] at h3; cases h3
        · rw [hU e.on h2] at h3; cases h3
      have h2 := wpOp_putIf hoj (hfree j oj hoj hji hjun hnot) (fun cs b => hsel i oi cs b hi) (fun cs b => hsel j oj cs b hoj) hQ hy h1
      have back : ∀ {k : Nat}, (l.setIfInBounds j true).getD k true = false → l.getD k true = false := fun {k} hun => by
        by_cases hjk : j = k
        · subst hjk; exact hjun
        · rw [getD_set_ne true hjk] at hun; exact hun
      have hU' : ∀ k, B k → (l.setIfInBounds j true).getD k false = false := fun k hk => by
        rw [getD_set_ne false (fun e => hjB (by rw [e]; exact hk) : j ≠ k)]; exact hU k hk
      refine wpOp_mono (fun a' w' h3 => ⟨h3.2.1, ih (l.setIfInBounds j true) a' w' (fun k ok hk hki hun hno => hfree k ok hk hki (back hun) hno) hU' (fun k hk hun hB => hD k hk (back hun) hB) (ready_mono hr (Ne.symm hji)) h3.1 (h3.2.1 (hD j hji hjun hjB)) ?_⟩) h2
      rw [Array.setIfInBounds_comm _ _ hji]
      exact h3.2.2
theorem anyT_take (ks : List Nat) {i : Nat} {oi : Oper} {v : Value} {f : Nat} {l : Array Bool} {a : Act} {w : World} (hi : ops[i]? = some oi)
    (hs : Region.noSelect ops = true) (hf : Region.free md ops l i = true) (hr : (Region.ready md ops l).contains i = true)
    (hQ : ∀ c a w, Q (.panic c) (a.put oi.dst v) w → Q (.panic c) a w) (hT : waitsB md ops ds ks l i = true) (hy : YieldsIf P ops S oi v a) (hS : S w)
    (h : anyT P md ops Q S ds f (l.setIfInBounds i true) (a.put oi.dst v) w) : anyT P md ops Q S ds (f + 1) l a w :=
  anyT_first (B := fun j => ks.contains j = true) hi (Region.noSelect_spec hs) hQ (waitsB_spec hT).1 f l a w (Region.free_spec hi hf)
    (waitsB_spec hT).2.1 (waitsB_spec hT).2.2 (by simpa using hr) hy hS h
theorem anyT_firstY {i : Nat} {oi : Oper} {v : Value} (hi : ops[i]? = some oi) (hsel : ∀ (j : Nat) (o : Oper) cs b, ops[j]? = some o → o.op ≠ .select cs b)
    (hQ : ∀ c a w, Q (.panic c) (a.put oi.dst v) w → Q (.panic c) a w) (hd : ds.contains i = false) :
    ∀ (f : Nat) (l : Array Bool) (a : Act) (w : World),
      (∀ j oj, ops[j]? = some oj → j ≠ i → l.getD j true = false → (∀ e ∈ oj.after, Region.binds md e = true → e.on ≠ i) → oi.apart ops oj = true) →
      i ∈ Region.ready md ops l → YieldsIf P ops (fun _ => True) oi v a →
      anyT P md ops Q S ds f (l.setIfInBounds i true) (a.put oi.dst v) w → anyT P md ops Q S ds (f + 1) l a w := by
  intro f
  induction f with
  | zero =>
    intro l a w _ hr hy H
    refine ⟨fun h => (by rw [h] at hr; cases hr), fun j hj => ?_⟩
    by_cases hji : j = i
    · subst hji; exact hy.wpOp hi trivial ⟨fun h => (by rw [hd] at h; cases h), H⟩
    · have := ready_mono hj hji
      rw [H.1] at this
      cases this
  | succ f ih =>
    intro l a w hfree hr hy H
    refine ⟨fun h => (by rw [h] at hr; cases hr), fun j hj => ?_⟩
    by_cases hji : j = i
    · subst hji; exact hy.wpOp hi trivial ⟨fun h => (by rw [hd] at h; cases h), H⟩
    · have h1 := H.2 j (ready_mono hj hji)
      obtain ⟨hjun, oj, hoj, hall⟩ := mem_ready.1 hj
      have hin : l.getD i false = false := unlisted (mem_ready.1 hr).1
      have hnot : ∀ e ∈ oj.after, Region.binds md e = true → e.on ≠ i := fun e he hb heq => by
        have h1 := hall e he hb
        rw [heq, hin] at h1; cases h1
      have h2 := wpOp_putIf hoj (hfree j oj hoj hji hjun hnot) (fun cs b => hsel i oi cs b hi) (fun cs b => hsel j oj cs b hoj) hQ hy h1
      refine wpOp_mono (fun a' w' h3 => ⟨h3.2.1, ih (l.setIfInBounds j true) a' w' (fun k ok hk hki hun hno => hfree k ok hk hki ?_ hno) (ready_mono hr (Ne.symm hji)) h3.1 ?_⟩) h2
      · by_cases hjk : j = k
        · subst hjk; exact hjun
        · rw [getD_set_ne true hjk] at hun; exact hun
      · rw [Array.setIfInBounds_comm _ _ hji]
        exact h3.2.2
theorem anyT_takeY {i : Nat} {oi : Oper} {v : Value} {f : Nat} {l : Array Bool} {a : Act} {w : World} (hi : ops[i]? = some oi)
    (hs : Region.noSelect ops = true) (hf : Region.free md ops l i = true) (hr : (Region.ready md ops l).contains i = true)
    (hQ : ∀ c a w, Q (.panic c) (a.put oi.dst v) w → Q (.panic c) a w) (hd : ds.contains i = false) (hy : Yields P ops oi v a)
    (h : anyT P md ops Q S ds f (l.setIfInBounds i true) (a.put oi.dst v) w) : anyT P md ops Q S ds (f + 1) l a w :=
  anyT_firstY hi (Region.noSelect_spec hs) hQ hd f l a w (Region.free_spec hi hf) (by simpa using hr) hy.yieldsIf h
theorem anyT_one {i : Nat} {o : Oper} {f : Nat} {l : Array Bool} {a : Act} {w : World} (hr : Region.ready md ops l = [i]) (ho : ops[i]? = some o)
    (h : ∀ K' : Act → World → Prop, (∀ a w, (ds.contains i = true → S w) → anyT P md ops Q S ds f (l.setIfInBounds i true) a w → K' a w) → if Region.wanted o (yielded ops a.tmps) = true then Oper.wp P o a w K' Q else K' (a.put o.dst undef) w) : anyT P md ops Q S ds (f + 1) l a w :=
  ⟨fun h0 => by rw [hr] at h0; (cases h0), fun j hj => by
    rw [hr] at hj
    obtain rfl := List.mem_singleton.1 hj
    exact wpOp_step ho fun K' hK => h K' fun a w hS hW => hK a w ⟨hS, hW⟩⟩
def readyT (P : Program) (md : Region.Mode) (ops : Array Oper) (Q : Exit → Act → World → Prop) (S : World → Prop) (ds : List Nat) (f : Nat) (l : Array Bool) (a : Act) (w : World) (rs : List Nat) : Prop :=
  ∀ i ∈ rs, wpOp P ops Q i (fun a' w' => (ds.contains i = true → S w') ∧ anyT P md ops Q S ds f (l.setIfInBounds i true) a' w') a w
theorem readyT_nil {f : Nat} {l : Array Bool} {a : Act} {w : World} : readyT P md ops Q S ds f l a w [] := fun _ h => by cases h
theorem readyT_cons {f : Nat} {l : Array Bool} {a : Act} {w : World} {i : Nat} {o : Oper} {rs : List Nat} (ho : ops[i]? = some o)
    (h : ∀ K' : Act → World → Prop, (∀ a w, (ds.contains i = true → S w) → anyT P md ops Q S ds f (l.setIfInBounds i true) a w → K' a w) → if Region.wanted o (yielded ops a.tmps) = true then Oper.wp P o a w K' Q else K' (a.put o.dst undef) w)
    (hs : readyT P md ops Q S ds f l a w rs) : readyT P md ops Q S ds f l a w (i :: rs) := fun j hj => by
  rcases List.mem_cons.1 hj with rfl | hj
  · exact wpOp_step ho fun K' hK => h K' fun a w hS hW => hK a w ⟨hS, hW⟩
  · exact hs j hj
theorem anyT_ready {rs : List Nat} {f : Nat} {l : Array Bool} {a : Act} {w : World} (hr : Region.ready md ops l = rs) (hne : rs ≠ [])
    (h : readyT P md ops Q S ds f l a w rs) : anyT P md ops Q S ds (f + 1) l a w :=
  ⟨fun h0 => absurd (hr ▸ h0) hne, hr ▸ h⟩
theorem anyT_done {l : Array Bool} {a : Act} {w : World} (hr : Region.ready md ops l = []) (h : Q .normal a w) : ∀ f, anyT P md ops Q S ds f l a w
  | 0 => ⟨hr, h⟩
  | _ + 1 => ⟨fun _ => h, by rw [hr]; simp⟩
theorem wp_region_T (S : World → Prop) (ds : List Nat) {id : Nat} {a : Act} {w : World} (hm : P.follows .mixedOrders = true)
    (h : anyT P .any ops Q S ds ops.size (Array.replicate ops.size false) a w.drew) : (Code.region id ops true).wp P Q a w :=
  wp_region_any hm (any_of_T _ _ _ _ h)
end
theorem not_mem {p : Prop} {ds : List Nat} {i : Nat} (h : ds.contains i = false) : ds.contains i = true → p := fun h' => by rw [h] at h'; cases h'
end Go.Proofs.YtabflppnecemkaaGreatDoor
