/- Part 20 of the proof. -/
import Derived.Test.YtanekacpalpcbaaGreatDoorRd8
import Derived.Test.YtanekacpalpcbaaGreatDoorRd19
namespace Go.Proofs.YtanekacpalpcbaaGreatDoor
set_option linter.unusedVariables false
set_option linter.unusedSimpArgs false
open Go.RowKit
set_option maxRecDepth 100000
theorem byteVals_len (xs : List Int) : (byteVals xs).length = xs.length := by simp [byteVals]
/-- appendWord to a slice of one's own -/
theorem appw_own (v : Value) (base m : Nat) (xs : List Int) (w w0 : World) (hown : w.ownsRow base 5 1 v xs.length (byteVals xs)) (hm : m < 4294967296) (hl : xs.length + 4 ≤ 140737488355328) (hb : base ≤ w.heap.size) (hB : Below base w0 w) :
    Calls Tryz.prog 202 #[v, .int .u32 (m : Int)] w fun e w' => ∃ v', e = .returned v' ∧ w'.ownsRow base 5 1 v' (xs ++ wordL m).length (byteVals (xs ++ wordL m)) ∧ Below base w0 w' ∧ base ≤ w'.heap.size := by
  refine (appw_any v base xs.length m (byteVals xs) w hown hm hl hb).mono fun e w' h => ?_
  obtain ⟨v', he, h1, h2, _⟩ := h
  refine ⟨v', he, ?_, hB.grown h2 hb (fun k hk => (hown.lt k hk).1), Nat.le_trans hb h2.size⟩
  rw [List.length_append, byteVals_append]
  exact h1
def FrameOk (ys : List Int) (w : World) (e : Ending) (w' : World) : Prop :=
  ∃ v', e = .returned (.tuple #[v', .nilIface]) ∧ w'.ownsRow w.heap.size 5 1 v' (recF ys).length (byteVals (recF ys)) ∧ Below w.heap.size w w'
set_option maxHeartbeats 1000000 in
theorem frame_ok (y : Value) (ys : List Int) (w : World) (hT : NibAt w) (hy : BytesIn w y ys) (ho : bytesOk ys) (h1 : ys.length ≠ 0) (h2 : ys.length ≤ 1048576) :
    Calls Tryz.prog 140 #[y] w (FrameOk ys w) := by
  have HY := Lib.hid hy
  have HT := Lib.hid hT
  have HO := Lib.hid ho
  obtain ⟨i0, hi, hz0, hz1, hz2⟩ := info_parts infoU8
  have HI := Lib.hid (And.intro hi (And.intro hz0 (And.intro hz1 hz2)))
  obtain ⟨a, c, rfl, hc, hm, hx⟩ := hy
  have n1 : ¬ ys.length = 0 := h1
  have n2 : ¬ (1048576 : Int) < ys.length := by omega
  have HL := Lib.hid h2
  have HB0 := Lib.hid (Below.refl w.heap.size w)
  clear hT ho hx hm hc hi hz0 hz1 hz2 h1
  go_enter Tryz.func140, Tryz.ntmps140
  go_wp2_with (first
    | (refine wpList_make_own _ rfl (.const (.int .i64 0)) (.tmp 15) 34 rfl w.heap.size 5 i0 (.int .u8 0) 1 Tryz.underlying34 HI.out.1 HI.out.2.1 HI.out.2.2.1 .i64 .i64 _ (ys.length + 12) rfl rfl rfl (by rw [HI.out.2.2.2]; have := HL.out; omega) (by have := HL.out; unfold maxLen; omega) (Nat.le_refl _) ?_; intro w1 ho1 hg1; have H1 := Lib.hid (show w1.ownsRow w.heap.size 5 1 _ ([] : List Int).length (byteVals []) from ho1); have HB1 := Lib.hid (HB0.out.grown hg1 (Nat.le_refl _) (fun k hk => by cases hk)); have HZ1 := Lib.hid hg1.size; clear ho1 hg1)
    | (go_at_call 202; (with_reducible refine (appw_own _ w.heap.size ys.length [] w1 w H1.out (by have := HL.out; omega) (by decide) HZ1.out HB1.out).mono ?_); rintro e w2 ⟨v2, rfl, h2, hb2, hz2⟩; rw [List.nil_append] at h2; have H2 := Lib.hid h2; have HB2 := Lib.hid hb2; have HZ2 := Lib.hid hz2; clear h2 hb2 hz2)
    | (go_at_call 203; (with_reducible refine (sumc_any v2 (wordL ys.length) w2 (HT.out.below HB2.out HT.out.lt) (owns_in H2.out (by unfold maxLen; rw [wordL_length]; omega)) (wordL_ok _) (by rw [wordL_length]; omega)).mono ?_); rintro e w2' ⟨rfl, rfl⟩)
    | (go_at_call 202; (with_reducible refine (appw_own v2 w.heap.size (crcF (wordL ys.length)) (wordL ys.length) w2 w H2.out (crcF_lt (wordL_ok _)) (by rw [wordL_length]; omega) HZ2.out HB2.out).mono ?_); rintro e w3 ⟨v3, rfl, h3, hb3, hz3⟩; have H3 := Lib.hid h3; have HB3 := Lib.hid hb3; have HZ3 := Lib.hid hz3; clear h3 hb3 hz3)
    | (at_builtin; refine wpList_append_bytes rfl (.tmp 26) (.tmp 27) rfl rfl w.heap.size v3 _ _ rfl H3.out _ ys rfl (HY.out.below HB3.out) (by rw [List.length_append, wordL_length, wordL_length]; have := HL.out; omega) HZ3.out ?_; intro v4 w4 ho4 hg4 _; have H4 := Lib.hid (show w4.ownsRow w.heap.size 5 1 v4 (wordL ys.length ++ wordL (crcF (wordL ys.length)) ++ ys).length (byteVals (wordL ys.length ++ wordL (crcF (wordL ys.length)) ++ ys)) by rw [List.length_append, byteVals_append]; exact ho4); have HB4 := Lib.hid (HB3.out.grown hg4 HZ3.out (fun k hk => (H3.out.lt k hk).1)); have HZ4 := Lib.hid (Nat.le_trans HZ3.out hg4.size); clear ho4 hg4)
    | (go_at_call 203; (with_reducible refine (sumc_any _ ys w4 (HT.out.below HB4.out HT.out.lt) (HY.out.below HB4.out) HO.out (by have := HL.out; omega)).mono ?_); rintro e w4' ⟨rfl, rfl⟩)
    | (go_at_call 202; (with_reducible refine (appw_own v4 w.heap.size (crcF ys) _ w4 w H4.out (crcF_lt HO.out) (by rw [List.length_append, List.length_append, wordL_length, wordL_length]; have := HL.out; omega) HZ4.out HB4.out).mono ?_); rintro e w5 ⟨v5, rfl, h5, hb5, hz5⟩; have H5 := Lib.hid h5; have HB5 := Lib.hid hb5; clear h5 hb5 hz5))
  go_ret2
  exact ⟨_, rfl, H5.out, HB5.out⟩
set_option maxHeartbeats 1000000 in
theorem frame_nil (y : Value) (ys : List Int) (w : World) (hy : BytesIn w y ys) (h1 : ys.length = 0) :
    Calls Tryz.prog 140 #[y] w fun e w' => e = .returned (.tuple #[.slice none 0 0, .iface 127 (.int .i64 1)]) ∧ w = w' := by
  obtain ⟨a, c, rfl, _, _, _⟩ := hy
  obtain rfl : ys = [] := List.eq_nil_of_length_eq_zero h1
  clear h1
  go_enter Tryz.func140, Tryz.ntmps140
  go_wp2
  go_ret2
  exact ⟨rfl, rfl⟩
set_option maxHeartbeats 1000000 in
theorem frame_long (y : Value) (ys : List Int) (w : World) (hy : BytesIn w y ys) (h1 : 1048576 < ys.length) :
    Calls Tryz.prog 140 #[y] w fun e w' => e = .returned (.tuple #[.slice none 0 0, .iface 127 (.int .i64 2)]) ∧ w = w' := by
  obtain ⟨a, c, rfl, _, _, _⟩ := hy
  have n1 : ¬ ys.length = 0 := by omega
  have n2 : (1048576 : Int) < ys.length := by omega
  go_enter Tryz.func140, Tryz.ntmps140
  go_wp2
  go_ret2
  exact ⟨rfl, rfl⟩
end Go.Proofs.YtanekacpalpcbaaGreatDoor
namespace Go.Proofs.YtanekacpalpcbaaGreatDoor
set_option linter.unusedVariables false
set_option linter.unusedSimpArgs false
open Go.RowKit
set_option maxRecDepth 100000
theorem quiet_left {P : Program} {f : FuncId} {args : Array Value} {w : World} {n : Nat} {v : Value}
    (h : Calls P f args (w.drewN n) fun e w' => e = .returned v ∧ w.drewN n = w') : Calls P f args (w.drewN n) fun e w'' => e = .returned v ∧ ∃ m, w'' = w.drewN m :=
  h.mono fun _ _ ⟨he, hm⟩ => ⟨he, n, hm.symm⟩
theorem below_drewN (w : World) (n : Nat) : Below w.heap.size w (w.drewN n) := ⟨rfl, rfl, rfl, Nat.le_refl _, fun _ _ => rfl⟩
theorem BytesIn.drewN {w : World} {y : Value} {ys : List Int} (h : BytesIn w y ys) (n : Nat) : BytesIn (w.drewN n) y ys := h
theorem NibAt.drewN {w : World} (h : NibAt w) (n : Nat) : NibAt (w.drewN n) := h
def OnePost (r : Option Nat × List Int) (w : World) (e : Ending) (w' : World) : Prop :=
  Below w.heap.size w w' ∧ match r.1 with
    | some k => e = .returned (.tuple #[.slice none 0 0, .int .i64 0, errV (some k)])
    | none => ∃ v', e = .returned (.tuple #[v', .int .i64 ((r.2.length + 12 : Nat) : Int), .nilIface]) ∧ w'.ownsRow w.heap.size 5 1 v' r.2.length (byteVals r.2)
theorem one_empty (y : Value) (b : List Int) (w : World) (hy : BytesIn w y b) (h : b.length = 0) : Calls Tryz.prog 195 #[y] w (OnePost (some 8, []) w) := by
  obtain ⟨a, c, rfl, _, _, _⟩ := hy
  obtain rfl : b = [] := List.eq_nil_of_length_eq_zero h
  clear h
  go_enter Tryz.func195, Tryz.ntmps195
  go_wp2
  go_ret3
  exact ⟨Below.refl _ _, rfl⟩
theorem one_short (y : Value) (b : List Int) (w : World) (hy : BytesIn w y b) (h0 : b.length ≠ 0) (h : b.length < 8) : Calls Tryz.prog 195 #[y] w (OnePost (some 12, []) w) := by
  obtain ⟨a, c, rfl, _, _, _⟩ := hy
  have n1 : ¬ b.length = 0 := h0
  have n2 : (b.length : Int) < 8 := by omega
  clear h0
  go_enter Tryz.func195, Tryz.ntmps195
  go_wp2
  go_ret3
  exact ⟨Below.refl _ _, rfl⟩
theorem BytesIn.from {w : World} {a : Option Addr} {n cap : Nat} {xs : List Int} (h : BytesIn w (.slice a n cap) xs) (p : Nat) (hp : p ≤ n) : BytesIn w (.slice (cutA a cap p) (n - p) (cap - p)) (xs.drop p) := by
  have h1 := h.cut p n hp (Nat.le_refl _)
  rw [List.take_of_length_le (by have := h.cell.1; omega)] at h1
  exact h1
theorem BytesIn.upto {w : World} {a : Option Addr} {n cap : Nat} {xs : List Int} (h : BytesIn w (.slice a n cap) xs) (q : Nat) (hq : q ≤ n) : BytesIn w (.slice (cutA a cap 0) q cap) (xs.take q) := h.cut 0 q (Nat.zero_le _) hq
set_option maxHeartbeats 4000000 in
theorem one_head (y : Value) (b : List Int) (w : World) (hT : NibAt w) (hy : BytesIn w y b) (ho : bytesOk b) (h8 : 8 ≤ b.length) (hl : b.length ≤ 140737488355328)
    (h : rdW (b.drop 4) ≠ crcF (b.take 4) ∨ rdW b = 0 ∨ 1048576 < rdW b) : Calls Tryz.prog 195 #[y] w (OnePost (some 11, []) w) := by
  obtain ⟨a, c, rfl, hc, hm, hx⟩ := id hy
  have n1 : ¬ b.length = 0 := by omega
  have n2 : ¬ (b.length : Int) < 8 := by omega
  have s1 : ∀ w, (Instr.slice 34 (.slice a b.length c) (some (.int .i64 4)) none none).run Tryz.prog w = .ok (.slice (cutA a c 4) (b.length - 4) (c - 4)) w := sliceBlo a b.length c 4 (by omega)
  have s2 : ∀ w, (Instr.slice 34 (.slice a b.length c) none (some (.int .i64 4)) none).run Tryz.prog w = .ok (.slice (cutA a c 0) 4 c) w := sliceBhi a b.length c 4 (by omega)
  have C0 := Lib.hid (readw_any _ b w hy ho (by omega))
  have C1 := Lib.hid (fun W (hw : BytesIn W (.slice (cutA a c 4) (b.length - 4) (c - 4)) (b.drop 4)) => readw_any _ (b.drop 4) W hw (ho.drop 4) (by rw [List.length_drop]; omega))
  have C2 := Lib.hid (fun W (hT : NibAt W) (hw : BytesIn W (.slice (cutA a c 0) 4 c) (b.take 4)) => sumc_any _ (b.take 4) W hT hw (ho.take 4) (by rw [List.length_take]; omega))
  have Y1 := Lib.hid (hy.from 4 (by omega))
  have Y2 := Lib.hid (hy.upto 4 (by omega))
  have HT := Lib.hid hT
  generalize rdW (b.drop 4) = s at *
  generalize crcF (b.take 4) = t at *
  generalize rdW b = n at *
  clear hT hy ho hx hm hc
  by_cases hst : s = t
  · subst hst
    have hst' : ((s : Int) != (s : Int)) = false := by simp
    by_cases hz : n = 0
    · subst hz
      clear h
      go_enter Tryz.func195, Tryz.ntmps195
      go_wp2_with (go_at_call 236; (with_reducible refine C0.out.mono ?_); rintro e w1 ⟨rfl, nd, rfl⟩; have HB := Lib.hid (below_drewN w nd); replace Y1 := Lib.hid (Y1.out.drewN nd); replace Y2 := Lib.hid (Y2.out.drewN nd); replace HT := Lib.hid (HT.out.drewN nd); generalize w.drewN nd = w1 at *)
      go_quiet ((first | (go_at_call 236; exact Calls.quiet_of (C1.out _ (Y1.out.drewN _))) | (go_at_call 203; exact quiet_left (C2.out _ (HT.out.drewN _) (Y2.out.drewN _)))))
      go_wp2
      go_ret3
      exact ⟨HB.out.trans ((below_drewN w1 nq).mono HB.out.size), rfl⟩
    · have hz' : ((n : Int) == 0) = false := by simp; omega
      have hg : decide ((1048576 : Int) < (n : Int)) = true := by simp; omega
      clear h
      go_enter Tryz.func195, Tryz.ntmps195
      go_wp2_with (go_at_call 236; (with_reducible refine C0.out.mono ?_); rintro e w1 ⟨rfl, nd, rfl⟩; have HB := Lib.hid (below_drewN w nd); replace Y1 := Lib.hid (Y1.out.drewN nd); replace Y2 := Lib.hid (Y2.out.drewN nd); replace HT := Lib.hid (HT.out.drewN nd); generalize w.drewN nd = w1 at *)
      go_quiet ((first | (go_at_call 236; exact Calls.quiet_of (C1.out _ (Y1.out.drewN _))) | (go_at_call 203; exact quiet_left (C2.out _ (HT.out.drewN _) (Y2.out.drewN _)))))
      go_wp2
      go_ret3
      exact ⟨HB.out.trans ((below_drewN w1 nq).mono HB.out.size), rfl⟩
  · have hst' : ((s : Int) != (t : Int)) = true := by simp; omega
    clear h
    go_enter Tryz.func195, Tryz.ntmps195
    go_wp2_with (go_at_call 236; (with_reducible refine C0.out.mono ?_); rintro e w1 ⟨rfl, nd, rfl⟩; have HB := Lib.hid (below_drewN w nd); replace Y1 := Lib.hid (Y1.out.drewN nd); replace Y2 := Lib.hid (Y2.out.drewN nd); replace HT := Lib.hid (HT.out.drewN nd); generalize w.drewN nd = w1 at *)
    go_quiet ((first | (go_at_call 236; exact Calls.quiet_of (C1.out _ (Y1.out.drewN _))) | (go_at_call 203; exact quiet_left (C2.out _ (HT.out.drewN _) (Y2.out.drewN _)))))
    go_wp2
    go_ret3
    exact ⟨HB.out.trans ((below_drewN w1 nq).mono HB.out.size), rfl⟩
theorem owns_base {w : World} {base base' n : Nat} {v : Value} {vs : List Value} (h : w.ownsRow base 5 1 v n vs) (hb : base' ≤ base) : w.ownsRow base' 5 1 v n vs := by
  obtain ⟨h1, h2⟩ := h
  refine ⟨h1, ?_⟩
  rcases h2 with h2 | ⟨g, c, cur, e1, e2, r⟩
  · exact .inl h2
  · exact .inr ⟨g, c, cur, e1, Nat.le_trans hb e2, r⟩
/-- what One knows behind its first tests -/
theorem one_rest (y : Value) (b : List Int) (w : World) (hT : NibAt w) (hy : BytesIn w y b) (ho : bytesOk b) (h8 : 8 ≤ b.length) (hl : b.length ≤ 140737488355328) (n : Nat) (hn : rdW b = n)
    (h1 : rdW (b.drop 4) = crcF (b.take 4)) (h2 : n ≠ 0) (h3 : n ≤ 1048576) (hs : b.length < n + 12) : Calls Tryz.prog 195 #[y] w (OnePost (some 12, []) w) := by
  obtain ⟨a, c, rfl, hc, hm, hx⟩ := id hy
  have n1 : ¬ b.length = 0 := by omega
  have n2 : ¬ (b.length : Int) < 8 := by omega
  have s1 : ∀ w, (Instr.slice 34 (.slice a b.length c) (some (.int .i64 4)) none none).run Tryz.prog w = .ok (.slice (cutA a c 4) (b.length - 4) (c - 4)) w := sliceBlo a b.length c 4 (by omega)
  have s2 : ∀ w, (Instr.slice 34 (.slice a b.length c) none (some (.int .i64 4)) none).run Tryz.prog w = .ok (.slice (cutA a c 0) 4 c) w := sliceBhi a b.length c 4 (by omega)
  have C0 := Lib.hid (readw_any _ b w hy ho (by omega))
  have C1 := Lib.hid (fun W (hw : BytesIn W (.slice (cutA a c 4) (b.length - 4) (c - 4)) (b.drop 4)) => readw_any _ (b.drop 4) W hw (ho.drop 4) (by rw [List.length_drop]; omega))
  have C2 := Lib.hid (fun W (hT : NibAt W) (hw : BytesIn W (.slice (cutA a c 0) 4 c) (b.take 4)) => sumc_any _ (b.take 4) W hT hw (ho.take 4) (by rw [List.length_take]; omega))
  have Y1 := Lib.hid (hy.from 4 (by omega))
  have Y2 := Lib.hid (hy.upto 4 (by omega))
  have HT := Lib.hid hT
  rw [h1] at C1
  rw [hn] at C0
  have hz' : ((n : Int) == 0) = false := by simp; omega
  have hg : decide ((1048576 : Int) < (n : Int)) = false := by simp; omega
  have hst' : ((crcF (b.take 4) : Int) != (crcF (b.take 4) : Int)) = false := by simp
  generalize crcF (b.take 4) = t at *
  have hlt : (b.length : Int) < (n : Int) + 12 := by omega
  clear hT hy ho hx h1 hn hs
  go_enter Tryz.func195, Tryz.ntmps195
  go_wp2_with (go_at_call 236; (with_reducible refine C0.out.mono ?_); rintro e w1 ⟨rfl, nd, rfl⟩; have HB := Lib.hid (below_drewN w nd); replace Y1 := Lib.hid (Y1.out.drewN nd); replace Y2 := Lib.hid (Y2.out.drewN nd); replace HT := Lib.hid (HT.out.drewN nd); generalize w.drewN nd = w1 at *)
  go_quiet ((first | (go_at_call 236; exact Calls.quiet_of (C1.out _ (Y1.out.drewN _))) | (go_at_call 203; exact quiet_left (C2.out _ (HT.out.drewN _) (Y2.out.drewN _)))))
  go_wp2
  go_ret3
  exact ⟨HB.out.trans ((below_drewN w1 nq).mono HB.out.size), rfl⟩
theorem one_fit (y : Value) (b : List Int) (w : World) (hT : NibAt w) (hy : BytesIn w y b) (ho : bytesOk b) (h8 : 8 ≤ b.length) (hl : b.length ≤ 140737488355328) (n : Nat) (hn : rdW b = n)
    (h1 : rdW (b.drop 4) = crcF (b.take 4)) (h2 : n ≠ 0) (h3 : n ≤ 1048576) (hs : n + 12 ≤ b.length) (p : List Int) (hp : (b.take (n + 8)).drop 8 = p) (h4 : rdW (b.drop (n + 8)) = crcF p) : Calls Tryz.prog 195 #[y] w (OnePost (none, p) w) := by
  obtain ⟨a, c, rfl, hc, hm, hx⟩ := id hy
  have n1 : ¬ b.length = 0 := by omega
  have n2 : ¬ (b.length : Int) < 8 := by omega
  have s1 : ∀ w, (Instr.slice 34 (.slice a b.length c) (some (.int .i64 4)) none none).run Tryz.prog w = .ok (.slice (cutA a c 4) (b.length - 4) (c - 4)) w := sliceBlo a b.length c 4 (by omega)
  have s2 : ∀ w, (Instr.slice 34 (.slice a b.length c) none (some (.int .i64 4)) none).run Tryz.prog w = .ok (.slice (cutA a c 0) 4 c) w := sliceBhi a b.length c 4 (by omega)
  have s3 : ∀ w, (Instr.slice 34 (.slice a b.length c) (some (.int .i64 8)) (some (.int .i64 ((n : Int) + 12 - 4))) none).run Tryz.prog w = .ok (.slice (cutA a c 8) n (c - 8)) w := fun w => by rw [show (n : Int) + 12 - 4 = ((n + 8 : Nat) : Int) by omega]; exact sliceBlh a b.length c 8 (n + 8) (by omega) (by omega) w
  have s4 : ∀ w, (Instr.slice 34 (.slice a b.length c) (some (.int .i64 ((n : Int) + 12 - 4))) none none).run Tryz.prog w = .ok (.slice (cutA a c (n + 8)) (b.length - (n + 8)) (c - (n + 8))) w := fun w => by rw [show (n : Int) + 12 - 4 = ((n + 8 : Nat) : Int) by omega]; exact sliceBlo a b.length c (n + 8) (by omega) w
  have C0 := Lib.hid (readw_any _ b w hy ho (by omega))
  have C1 := Lib.hid (fun W (hw : BytesIn W (.slice (cutA a c 4) (b.length - 4) (c - 4)) (b.drop 4)) => readw_any _ (b.drop 4) W hw (ho.drop 4) (by rw [List.length_drop]; omega))
  have C2 := Lib.hid (fun W (hT : NibAt W) (hw : BytesIn W (.slice (cutA a c 0) 4 c) (b.take 4)) => sumc_any _ (b.take 4) W hT hw (ho.take 4) (by rw [List.length_take]; omega))
  have Y1 := Lib.hid (hy.from 4 (by omega))
  have Y2 := Lib.hid (hy.upto 4 (by omega))
  have HT := Lib.hid hT
  rw [h1] at C1
  rw [hn] at C0
  have Y3 : BytesIn w (.slice (cutA a c 8) n (c - 8)) ((b.take (n + 8)).drop 8) := hy.cut 8 (n + 8) (by omega) (by omega)
  have hpl : p.length = n := by rw [← hp, List.length_drop, List.length_take]; omega
  have hpo : bytesOk p := by rw [← hp]; exact (ho.take _).drop _
  have Y4 := Lib.hid (hy.from (n + 8) (by omega))
  have C3 := Lib.hid (fun W (hw : BytesIn W (.slice (cutA a c (n + 8)) (b.length - (n + 8)) (c - (n + 8))) (b.drop (n + 8))) => readw_any _ (b.drop (n + 8)) W hw (ho.drop _) (by rw [List.length_drop]; omega))
  rw [hp] at Y3
  rw [h4] at C3
  have HP := Lib.hid (And.intro hpl hpo)
  replace Y3 := Lib.hid Y3
  have hz' : ((n : Int) == 0) = false := by simp; omega
  have hg : decide ((1048576 : Int) < (n : Int)) = false := by simp; omega
  have hst' : ((crcF (b.take 4) : Int) != (crcF (b.take 4) : Int)) = false := by simp
  have hlt : ¬ (b.length : Int) < (n : Int) + 12 := by omega
  generalize crcF (b.take 4) = t at *
  clear hT hy ho hx h1 hn hp h4 hpl hpo
  go_enter Tryz.func195, Tryz.ntmps195
  go_wp2_with (go_at_call 236; (with_reducible refine C0.out.mono ?_); rintro e w1 ⟨rfl, nd, rfl⟩; have HB := Lib.hid (below_drewN w nd); replace Y1 := Lib.hid (Y1.out.drewN nd); replace Y2 := Lib.hid (Y2.out.drewN nd); replace Y3 := Lib.hid (Y3.out.drewN nd); replace Y4 := Lib.hid (Y4.out.drewN nd); replace HT := Lib.hid (HT.out.drewN nd); generalize w.drewN nd = w1 at *)
  go_quiet ((first | (go_at_call 236; exact Calls.quiet_of (C1.out _ (Y1.out.drewN _))) | (go_at_call 203; exact quiet_left (C2.out _ (HT.out.drewN _) (Y2.out.drewN _)))))
  have HB2 := Lib.hid (HB.out.trans ((below_drewN w1 nq).mono HB.out.size))
  replace Y3 := Lib.hid (Y3.out.drewN nq)
  replace Y4 := Lib.hid (Y4.out.drewN nq)
  replace HT := Lib.hid (HT.out.drewN nq)
  clear Y1 Y2 C1 C2 C0 s1 s2 hst' HB
  generalize w1.drewN nq = w2 at *
  go_wp2_with (first
    | (go_at_call 236; (with_reducible refine (C3.out _ Y4.out).mono ?_); rintro e w3 ⟨rfl, nd, rfl⟩; replace HB2 := Lib.hid (HB2.out.trans ((below_drewN w2 nd).mono HB2.out.size)); replace Y3 := Lib.hid (Y3.out.drewN nd); replace HT := Lib.hid (HT.out.drewN nd); clear Y4 C3; generalize w2.drewN nd = w3 at *)
    | (go_at_call 203; (with_reducible refine (sumc_any _ p w3 HT.out Y3.out HP.out.2 (by rw [HP.out.1]; omega)).mono ?_); rintro e w4 ⟨rfl, rfl⟩)
    | (go_at_call 134; (with_reducible refine (clone_any _ p w3 Y3.out (by rw [HP.out.1]; omega)).mono ?_); rintro e w4 ⟨v', rfl, ho4, hb4⟩; have H4 := Lib.hid (owns_base ho4 HB2.out.size); have HB4 := Lib.hid (HB2.out.trans (hb4.mono HB2.out.size)); clear ho4 hb4))
  go_ret3
  exact ⟨HB4.out, v', by rw [HP.out.1]; rfl, H4.out⟩
theorem one_spoilt (y : Value) (b : List Int) (w : World) (hT : NibAt w) (hy : BytesIn w y b) (ho : bytesOk b) (h8 : 8 ≤ b.length) (hl : b.length ≤ 140737488355328) (n : Nat) (hn : rdW b = n)
    (h1 : rdW (b.drop 4) = crcF (b.take 4)) (h2 : n ≠ 0) (h3 : n ≤ 1048576) (hs : n + 12 ≤ b.length) (p : List Int) (hp : (b.take (n + 8)).drop 8 = p) (h4 : rdW (b.drop (n + 8)) ≠ crcF p) : Calls Tryz.prog 195 #[y] w (OnePost (some 11, []) w) := by
  obtain ⟨a, c, rfl, hc, hm, hx⟩ := id hy
  have n1 : ¬ b.length = 0 := by omega
  have n2 : ¬ (b.length : Int) < 8 := by omega
  have s1 : ∀ w, (Instr.slice 34 (.slice a b.length c) (some (.int .i64 4)) none none).run Tryz.prog w = .ok (.slice (cutA a c 4) (b.length - 4) (c - 4)) w := sliceBlo a b.length c 4 (by omega)
  have s2 : ∀ w, (Instr.slice 34 (.slice a b.length c) none (some (.int .i64 4)) none).run Tryz.prog w = .ok (.slice (cutA a c 0) 4 c) w := sliceBhi a b.length c 4 (by omega)
  have s3 : ∀ w, (Instr.slice 34 (.slice a b.length c) (some (.int .i64 8)) (some (.int .i64 ((n : Int) + 12 - 4))) none).run Tryz.prog w = .ok (.slice (cutA a c 8) n (c - 8)) w := fun w => by rw [show (n : Int) + 12 - 4 = ((n + 8 : Nat) : Int) by omega]; exact sliceBlh a b.length c 8 (n + 8) (by omega) (by omega) w
  have s4 : ∀ w, (Instr.slice 34 (.slice a b.length c) (some (.int .i64 ((n : Int) + 12 - 4))) none none).run Tryz.prog w = .ok (.slice (cutA a c (n + 8)) (b.length - (n + 8)) (c - (n + 8))) w := fun w => by rw [show (n : Int) + 12 - 4 = ((n + 8 : Nat) : Int) by omega]; exact sliceBlo a b.length c (n + 8) (by omega) w
  have C0 := Lib.hid (readw_any _ b w hy ho (by omega))
  have C1 := Lib.hid (fun W (hw : BytesIn W (.slice (cutA a c 4) (b.length - 4) (c - 4)) (b.drop 4)) => readw_any _ (b.drop 4) W hw (ho.drop 4) (by rw [List.length_drop]; omega))
  have C2 := Lib.hid (fun W (hT : NibAt W) (hw : BytesIn W (.slice (cutA a c 0) 4 c) (b.take 4)) => sumc_any _ (b.take 4) W hT hw (ho.take 4) (by rw [List.length_take]; omega))
  have Y1 := Lib.hid (hy.from 4 (by omega))
  have Y2 := Lib.hid (hy.upto 4 (by omega))
  have HT := Lib.hid hT
  rw [h1] at C1
  rw [hn] at C0
  have Y3 : BytesIn w (.slice (cutA a c 8) n (c - 8)) ((b.take (n + 8)).drop 8) := hy.cut 8 (n + 8) (by omega) (by omega)
  have hpl : p.length = n := by rw [← hp, List.length_drop, List.length_take]; omega
  have hpo : bytesOk p := by rw [← hp]; exact (ho.take _).drop _
  have Y4 := Lib.hid (hy.from (n + 8) (by omega))
  have C3 := Lib.hid (fun W (hw : BytesIn W (.slice (cutA a c (n + 8)) (b.length - (n + 8)) (c - (n + 8))) (b.drop (n + 8))) => readw_any _ (b.drop (n + 8)) W hw (ho.drop _) (by rw [List.length_drop]; omega))
  rw [hp] at Y3
  have hne : ((rdW (b.drop (n + 8)) : Int) != (crcF p : Int)) = true := by simp; omega
  have HS := Lib.hid (fun W (hT : NibAt W) (hw : BytesIn W (.slice (cutA a c 8) n (c - 8)) p) => sumc_any _ p W hT hw hpo (by rw [hpl]; omega))
  generalize crcF p = v at *
  generalize rdW (b.drop (n + 8)) = u at *
  have HP := Lib.hid (And.intro hpl hpo)
  replace Y3 := Lib.hid Y3
  have hz' : ((n : Int) == 0) = false := by simp; omega
  have hg : decide ((1048576 : Int) < (n : Int)) = false := by simp; omega
  have hst' : ((crcF (b.take 4) : Int) != (crcF (b.take 4) : Int)) = false := by simp
  have hlt : ¬ (b.length : Int) < (n : Int) + 12 := by omega
  generalize crcF (b.take 4) = t at *
  clear hT hy ho hx h1 hn hp h4 hpl hpo
  go_enter Tryz.func195, Tryz.ntmps195
  go_wp2_with (go_at_call 236; (with_reducible refine C0.out.mono ?_); rintro e w1 ⟨rfl, nd, rfl⟩; have HB := Lib.hid (below_drewN w nd); replace Y1 := Lib.hid (Y1.out.drewN nd); replace Y2 := Lib.hid (Y2.out.drewN nd); replace Y3 := Lib.hid (Y3.out.drewN nd); replace Y4 := Lib.hid (Y4.out.drewN nd); replace HT := Lib.hid (HT.out.drewN nd); generalize w.drewN nd = w1 at *)
  go_quiet ((first | (go_at_call 236; exact Calls.quiet_of (C1.out _ (Y1.out.drewN _))) | (go_at_call 203; exact quiet_left (C2.out _ (HT.out.drewN _) (Y2.out.drewN _)))))
  have HB2 := Lib.hid (HB.out.trans ((below_drewN w1 nq).mono HB.out.size))
  replace Y3 := Lib.hid (Y3.out.drewN nq)
  replace Y4 := Lib.hid (Y4.out.drewN nq)
  replace HT := Lib.hid (HT.out.drewN nq)
  clear Y1 Y2 C1 C2 C0 s1 s2 hst' HB
  generalize w1.drewN nq = w2 at *
  go_wp2_with (first
    | (go_at_call 236; (with_reducible refine (C3.out _ Y4.out).mono ?_); rintro e w3 ⟨rfl, nd, rfl⟩; replace HB2 := Lib.hid (HB2.out.trans ((below_drewN w2 nd).mono HB2.out.size)); replace Y3 := Lib.hid (Y3.out.drewN nd); replace HT := Lib.hid (HT.out.drewN nd); clear Y4 C3; generalize w2.drewN nd = w3 at *)
    | (go_at_call 203; (with_reducible refine (HS.out w3 HT.out Y3.out).mono ?_); rintro e w4 ⟨rfl, rfl⟩))
  go_ret3
  exact ⟨HB2.out, rfl⟩
theorem one_any (y : Value) (b : List Int) (w : World) (hT : NibAt w) (hy : BytesIn w y b) (ho : bytesOk b) (hl : b.length ≤ 140737488355328) : Calls Tryz.prog 195 #[y] w (OnePost (oneF b) w) := by
  unfold oneF
  split
  · next h => exact one_empty y b w hy h
  · next h =>
    split
    · next h8 => exact one_short y b w hy h h8
    · next h8 =>
      split
      · next h1 => exact one_head y b w hT hy ho (by omega) hl h1
      · next h1 =>
        split
        · next h2 => exact one_rest y b w hT hy ho (by omega) hl _ rfl (by omega) (by omega) (by omega) h2
        · next h2 =>
          split
          · next h3 => exact one_spoilt y b w hT hy ho (by omega) hl _ rfl (by omega) (by omega) (by omega) (by omega) _ rfl h3
          · next h3 => exact one_fit y b w hT hy ho (by omega) hl _ rfl (by omega) (by omega) (by omega) (by omega) _ rfl (by omega)
end Go.Proofs.YtanekacpalpcbaaGreatDoor
namespace Go.Proofs.YtanekacpalpcbaaGreatDoor
set_option linter.unusedVariables false
set_option linter.unusedSimpArgs false
open Go.RowKit
set_option maxRecDepth 100000
def rdC (v : Value) (e : Int) : Array Value := #[v, .int .i64 e]
theorem rd_cells {w : World} {q : Nat} {v : Value} {e : Int} (h : w.heap[q]? = some (.cells (rdC v e) 152 (0, 0))) : w.cell? ⟨q, 0, none⟩ = some v ∧ w.cell? ⟨q, 1, none⟩ = some (.int .i64 e) ∧ ∀ i, w.frozen? ⟨q, i, none⟩ = false :=
  ⟨by rw [cell_of_row _ _ _ _ _ _ h]; rfl, by rw [cell_of_row _ _ _ _ _ _ h]; rfl, fun i => frozen_of_row _ _ _ _ _ h⟩
theorem rd_one (a : Option Addr) (n c : Nat) (e : Int) : (rdC (.slice a n c) e).all (·.oneCell') = true := by simp [rdC, Value.oneCell']
/-- two Readers: the argument's and the result's -/
structure R2M (w w' : World) (v : Value) (e : Int) : Prop where
  below : Below w.heap.size w w'
  arg : w'.heap[w.heap.size]? = some (.cells (rdC v e) 152 (0, 0))
  res : w'.heap[w.heap.size + 1]? = some (.cells (rdC (.slice none 0 0) 0) 152 (0, 0))
theorem r2M_start (w : World) (v : Value) (e : Int) : R2M w ((w.alloc (.cells (rdC v e) 152)).alloc (.cells (rdC (.slice none 0 0) 0) 152)) v e := by
  have h1 := heap_alloc_new w (.cells (rdC v e) 152)
  have hb := below_alloc (w.alloc (.cells (rdC v e) 152)) (.cells (rdC (.slice none 0 0) 0) 152)
  refine ⟨(below_alloc w _).trans (hb.mono (by simp)), (hb.block _ (by simp)).trans h1, ?_⟩
  have h2 := heap_alloc_new (w.alloc (.cells (rdC v e) 152)) (.cells (rdC (.slice none 0 0) 0) 152)
  rw [show (w.alloc (.cells (rdC v e) 152)).heap.size = w.heap.size + 1 by simp] at h2
  exact h2
theorem R2M.call {w w' w2 : World} {v : Value} {e : Int} (m : R2M w w' v e) (h : Below w'.heap.size w' w2) : R2M w w2 v e :=
  ⟨m.below.trans (h.mono m.below.size), (h.block _ (Array.getElem?_eq_some_iff.1 m.arg).1).trans m.arg, (h.block _ (Array.getElem?_eq_some_iff.1 m.res).1).trans m.res⟩
/-- the argument's error or its slice is written -/
theorem R2M.set {w w' : World} {v v' : Value} {e e' : Int} (m : R2M w w' v e) (i : Nat) (x : Value) (hx : (rdC v e).setIfInBounds i x = rdC v' e') : R2M w (w'.setCell ⟨w.heap.size, i, none⟩ x) v' e' := by
  have hO := Only.setCell w' ⟨w.heap.size, i, none⟩ x
  exact ⟨m.below.trans (hO.below (Nat.le_refl _) m.below.size), by rw [heap_setCell_same w' _ i _ _ _ m.arg, hx], (hO.block _ (Array.getElem?_eq_some_iff.1 m.res).1 (by show _ ≠ w.heap.size; omega)).trans m.res⟩
theorem rfail_any (a : Option Addr) (n c : Nat) (e x : Int) (w : World) : Calls Tryz.prog 224 #[.agg (rdC (.slice a n c) e), .int .i64 x] w fun r w' => r = .returned (.agg (rdC (.slice a n c) (if e = 0 then x else e))) ∧ Below w.heap.size w w' := by
  have M := Lib.hid (r2M_start w (.slice a n c) e)
  by_cases h0 : e = 0
  · rw [if_pos h0]
    have he : (e == 0) = true := by simpa using h0
    clear h0
    go_enter Tryz.func224, Tryz.ntmps224
    go_upto_region 1 with (fail)
    have e0 : (w.alloc (.cells (rdC (.slice a n c) e) 152)).alloc (.cells (rdC (.slice none 0 0) 0) 152) = (w.alloc (.cells (rdC (.slice a n c) e) 152)).alloc (.cells #[.slice none 0 0, .int .i64 0] 152) := rfl
    rw [← e0]; clear e0
    generalize (w.alloc (.cells (rdC (.slice a n c) e) 152)).alloc (.cells (rdC (.slice none 0 0) 0) 152) = w1 at *
    obtain ⟨c0, c1, cf⟩ := rd_cells M.out.arg
    have f1 := cf 1
    go_upto_region 3 with (fail)
    replace M := Lib.hid (M.out.set 1 (.int .i64 x) (v' := .slice a n c) (e' := x) rfl)
    clear c0 c1 cf f1
    generalize w1.setCell ⟨w.heap.size, 1, none⟩ (.int .i64 x) = w2 at *
    go_wp2_with (first
      | (refine wpList_load_row rfl 152 (.tmp 2) rfl w.heap.size rfl 152 _ (0, 0) _ M.out.arg Tryz.underlying152 rfl (by kernel_rfl) ?_)
      | (refine wpList_store_row rfl 152 (.tmp 4) (.tmp 10) rfl (w.heap.size + 1) _ rfl rfl 152 _ M.out.res (by kernel_rfl) (by rfl) (rd_one _ _ _ _) ?_))
    refine bodyPost_ret (results_cell_row rfl _ _ (w.heap.size + 1) 152 (rdC (.slice a n c) x) (0, 0) _ rfl (setRow_heap _ _ _ _ _ _ M.out.res) Tryz.underlying152 rfl (by kernel_rfl)) rfl ?_
    exact ⟨rfl, below_setRow M.out.below (by omega) _⟩
  · rw [if_neg h0]
    have he : (e == 0) = false := by simpa using h0
    clear h0
    go_enter Tryz.func224, Tryz.ntmps224
    go_upto_region 1 with (fail)
    have e0 : (w.alloc (.cells (rdC (.slice a n c) e) 152)).alloc (.cells (rdC (.slice none 0 0) 0) 152) = (w.alloc (.cells (rdC (.slice a n c) e) 152)).alloc (.cells #[.slice none 0 0, .int .i64 0] 152) := rfl
    rw [← e0]; clear e0
    generalize (w.alloc (.cells (rdC (.slice a n c) e) 152)).alloc (.cells (rdC (.slice none 0 0) 0) 152) = w1 at *
    obtain ⟨c0, c1, cf⟩ := rd_cells M.out.arg
    go_wp2_with (first
      | (refine wpList_load_row rfl 152 (.tmp 2) rfl w.heap.size rfl 152 _ (0, 0) _ M.out.arg Tryz.underlying152 rfl (by kernel_rfl) ?_)
      | (refine wpList_store_row rfl 152 (.tmp 4) (.tmp 10) rfl (w.heap.size + 1) _ rfl rfl 152 _ M.out.res (by kernel_rfl) (by rfl) (rd_one _ _ _ _) ?_))
    refine bodyPost_ret (results_cell_row rfl _ _ (w.heap.size + 1) 152 (rdC (.slice a n c) e) (0, 0) _ rfl (setRow_heap _ _ _ _ _ _ M.out.res) Tryz.underlying152 rfl (by kernel_rfl)) rfl ?_
    exact ⟨rfl, below_setRow M.out.below (by omega) _⟩
end Go.Proofs.YtanekacpalpcbaaGreatDoor
