/- PackBounds: the walk. -/
import Derived.Test.YtikpcfcadddplaaDoorNum
import Derived.Test.YtikpcfcadddplaaDoorSure
import Derived.Test.YtikpcfcadddplaaDoorBackMath
import Derived.Test.YtikpcfcadddplaaDoorCount
namespace Go.Proofs.YtikpcfcadddplaaDoor
open Go.RowKit
set_option maxRecDepth 100000
theorem err_nil (q : Nat) (ys : List Int) (w : World) (h : RS w q (ys, none)) : Calls Tryd.prog 11 #[.pointer (some ⟨q, 0, none⟩)] w fun r w' => r = .returned .nilIface ∧ w' = w := by
  obtain ⟨y, hy⟩ := h
  exact err_any q y ys none w hy
theorem err_x (q x : Nat) (ys : List Int) (w : World) (h : RS w q (ys, some x)) : Calls Tryd.prog 11 #[.pointer (some ⟨q, 0, none⟩)] w fun r w' => r = .returned (.iface 55 (.int .i64 (x : Int))) ∧ w' = w := by
  obtain ⟨y, hy⟩ := h
  exact err_any q y ys (some x) w hy
theorem err_4 (q : Nat) (ys : List Int) (w : World) (h : RS w q (ys, some 4)) : Calls Tryd.prog 11 #[.pointer (some ⟨q, 0, none⟩)] w fun r w' => r = .returned (.iface 55 (.int .i64 4)) ∧ w' = w := err_x q 4 ys w h
theorem num_4 (w : World) (hg : ErrType w) : Calls Tryd.prog 10 #[.iface 55 (.int .i64 4)] w fun r w' => r = .returned (.int .i64 4) ∧ Below w.heap.size w w' := num_any (some 4) w hg
theorem left_rs (q : Nat) (s : RSt) (w : World) (h : RS w q s) : Calls Tryd.prog 19 #[.pointer (some ⟨q, 0, none⟩)] w fun e w' => e = .returned (.int .i64 (s.1.length : Int)) ∧ w' = w := by
  obtain ⟨y, hy⟩ := h
  exact left_any q y s.1 s.2 w hy
theorem bytesOk_varint (n : Nat) : bytesOk (varint n) := fun x hx => by
  obtain ⟨i, hi, rfl⟩ := List.mem_map.1 hx
  have := gby_lt (List.mem_range.1 hi)
  omega
theorem bytesOk_nums (s : ByteArray) : bytesOk (numsOf s) := fun x hx => by
  obtain ⟨b, _, rfl⟩ := List.mem_map.1 hx
  have := b.toNat_lt
  omega
theorem bytesOk_append {xs ys : List Int} (h1 : bytesOk xs) (h2 : bytesOk ys) : bytesOk (xs ++ ys) := fun x hx => by
  rcases List.mem_append.1 hx with h | h
  · exact h1 x h
  · exact h2 x h
/-- the first part: a number and a bound -/
theorem bounds_num (n most : Nat) (hn : n < 18446744073709551616) (_hm : most < 18446744073709551616) :
    (n ≤ most ∧ ∀ (q : Nat) (w : World), RS w q (varint n, none) → Calls Tryd.prog 6 #[.pointer (some ⟨q, 0, none⟩), .int .u64 (most : Int)] w fun e w' => e = .returned (.int .u64 (n : Int)) ∧ RS w' q ([], none) ∧ Only q w w') ∨
    (most < n ∧ ∀ (q : Nat) (w : World), RS w q (varint n, none) → Calls Tryd.prog 6 #[.pointer (some ⟨q, 0, none⟩), .int .u64 (most : Int)] w fun e w' => e = .returned (.int .u64 0) ∧ RS w' q (varint n, some 4) ∧ Only q w w') := by
  rcases Nat.lt_or_ge most n with h | h
  · refine .inr ⟨h, fun q w hr => ?_⟩
    have h1 := uint_any q _ most w hr
    have h2 := uintS_great n most [] hn h
    rw [List.append_nil] at h2
    rw [h2] at h1
    exact h1
  · refine .inl ⟨h, fun q w hr => ?_⟩
    have h1 := uint_any q _ most w hr
    have h2 := uintS_varint n most [] hn h
    rw [List.append_nil] at h2
    rw [h2] at h1
    exact h1
/-- the second part: a text and how long it may be -/
theorem bounds_text (s : ByteArray) (long : Int) (hs : s.size ≤ 1048576) (h0 : -9223372036854775808 ≤ long) (h1 : long ≤ 9223372036854775807) :
    ((0 ≤ long ∧ (s.size : Int) ≤ long) ∧ ∀ (q : Nat) (w : World), RS w q (varint s.size ++ numsOf s, none) → Calls Tryd.prog 9 #[.pointer (some ⟨q, 0, none⟩), .int .i64 long] w fun e w' => e = .returned (.string s) ∧ RS w' q ([], none) ∧ Only q w w') ∨
    ((long < 0 ∨ (0 ≤ long ∧ long < (s.size : Int))) ∧ ∃ x : Nat, ∀ (q : Nat) (w : World), RS w q (varint s.size ++ numsOf s, none) → Calls Tryd.prog 9 #[.pointer (some ⟨q, 0, none⟩), .int .i64 long] w fun e w' => e = .returned (.string { data := #[] }) ∧ RS w' q (varint s.size ++ numsOf s, some x) ∧ Only q w w') := by
  have hrd := rdF_varint s.size 18446744073709551615 (numsOf s) (by omega)
  rw [if_neg (by omega)] at hrd
  by_cases hneg : long < 0
  · refine .inr ⟨.inl hneg, 1, fun q w hr => ?_⟩
    have h2 := rtext_any q _ long w hr h0 h1
    have h3 : partS (varint s.size ++ numsOf s, none) long = ([], varint s.size ++ numsOf s, some 1) := by
      unfold partS; simp only; rw [if_pos hneg]
    rw [h3] at h2
    exact h2
  · by_cases hlong : long < (s.size : Int)
    · refine .inr ⟨.inr ⟨by omega, hlong⟩, 2, fun q w hr => ?_⟩
      have h2 := rtext_any q _ long w hr h0 h1
      have h3 : partS (varint s.size ++ numsOf s, none) long = ([], varint s.size ++ numsOf s, some 2) := by
        unfold partS; simp only [hrd]; rw [if_neg hneg, if_pos hlong]
      rw [h3] at h2
      exact h2
    · refine .inl ⟨⟨by omega, by omega⟩, fun q w hr => ?_⟩
      have h2 := rtext_any q _ long w hr h0 h1
      have h3 := partS_bytes (numsOf s) [] long (by rw [numsOf_length]; omega) (by omega) (by rw [numsOf_length]; omega)
      rw [List.append_nil, numsOf_length] at h3
      rw [h3, str_numsOf] at h2
      exact h2
/-- the third part: a count -/
theorem bounds_count (s : ByteArray) (hs : s.size ≤ 1048576) (q : Nat) (w : World) (hr : RS w q (varint s.size ++ numsOf s, none)) :
    Calls Tryd.prog 18 #[.pointer (some ⟨q, 0, none⟩), .int .i64 1073741824] w fun e w' => e = .returned (.int .i64 (s.size : Int)) ∧ RS w' q (numsOf s, none) ∧ Only q w w' := by
  have hrd := rdF_varint s.size 1073741824 (numsOf s) (by omega)
  rw [if_neg (by omega)] at hrd
  exact count_any q s.size (numsOf s) 1073741824 w (by omega) (by omega) (by rw [numsOf_length]; exact Nat.le_refl _) hr hrd
theorem left_nums (q : Nat) (s : ByteArray) (w : World) (h : RS w q (numsOf s, none)) : Calls Tryd.prog 19 #[.pointer (some ⟨q, 0, none⟩)] w fun e w' => e = .returned (.int .i64 (s.size : Int)) ∧ w' = w := by
  have := left_rs q _ w h
  rw [numsOf_length] at this
  exact this
/-- []byte(s) laid by Bytes: the call behind the conversion -/
theorem wbytes_w (p : Nat) (v : Value) (s : ByteArray) (w : World) (hw : WAt w p v []) (hl : s.size + 10 ≤ 140737488355328) :
    Calls Tryd.prog 17 #[.pointer (some ⟨p, 0, none⟩), .slice (some ⟨w.heap.size, 0, none⟩) s.size (grownCap w s.size 0 5)] (bytesW w s) fun e w' => e = .returned (.pointer (some ⟨p, 0, none⟩)) ∧ ∃ v', WAt w' p v' (varint s.size ++ numsOf s) ∧ WStep p v v' (bytesW w s) w' := by
  have h1 := wbytes_any p v _ [] (numsOf s) (bytesW w s) (hw.below (bytesW_below w s)) (bytesW_in w s (by unfold maxLen; omega)) (fun _ k hk => by
    simp [Value.ownBlock] at hk
    subst hk
    have := hw.lt
    exact ⟨by omega, fun e => by have := hw.ne _ e.symm; omega⟩) (by rw [numsOf_length]; simp only [List.length_nil]; omega)
  rw [numsOf_length] at h1
  exact h1
set_option maxHeartbeats 4000000 in
theorem bounds_any (n most : Nat) (s : ByteArray) (long : Int) (hn : n < 18446744073709551616) (hm : most < 18446744073709551616) (h0 : -9223372036854775808 ≤ long) (h1 : long ≤ 9223372036854775807) (hsz : s.size ≤ 9223372036854775807) (W : World) (he : ErrType W) :
    Calls Tryd.prog 4 #[.agg #[.int .u64 (n : Int), .int .u64 (most : Int)], .string s, .int .i64 long] W fun e W' => e = .returned (.bool true) ∧ Below W.heap.size W W' := by
  obtain ⟨B, hB⟩ : ∃ B, B = W.heap.size := ⟨_, rfl⟩
  rw [← hB]
  have hB0 : 0 < B := by rw [hB]; exact World.block_lt_of_cell? W _ he
  have HET := Lib.hid (fun (w : World) (hb : Below B W w) => (show ErrType w from (hb.cell (p := ⟨0, 0, none⟩) hB0).trans he))
  have HA := Lib.hid (show Below B W (W.alloc (.cells #[.int .u64 (n : Int), .int .u64 (most : Int)] 40)) by rw [hB]; exact below_alloc W _)
  have HN := Lib.hid hn
  replace hB := Lib.hid hB
  have HVL := Lib.hid (show (varint n).length ≤ 1048586 by rw [varint_length]; have := glen_le hn; omega)
  clear he
  by_cases hbig : 1048576 < s.size
  · have hbigI : (1048576 : Int) < (s.size : Int) := by omega
    clear HVL HN
    go_enter Tryd.func4, Tryd.ntmps4
    go_upto_region 1 with (fail)
    go_quiet (fail)
    replace HA : Hid (Below B W ((W.alloc (.cells #[.int .u64 (n : Int), .int .u64 (most : Int)] 40)).drewN nq)) := Lib.hid ⟨HA.out.os, HA.out.tape, HA.out.output, HA.out.size, HA.out.block⟩
    generalize (W.alloc (.cells #[.int .u64 (n : Int), .int .u64 (most : Int)] 40)).drewN nq = w0 at *
    go_wp2_with (first
      | (go_at_call 12; (with_reducible refine (sure_any _).mono ?_); rintro e w9 ⟨rfl, hb⟩; replace HA := Lib.hid (HA.out.trans (hb.mono (by rw [hB.out]; exact HA.out.size))); clear hb))
    go_ret
    exact ⟨rfl, HA.out⟩
  · have hbigI : ¬ (1048576 : Int) < (s.size : Int) := by omega
    have HSZ := Lib.hid (show s.size ≤ 1048576 by omega)
    have HTL := Lib.hid (show (varint s.size ++ numsOf s).length ≤ 1048586 by rw [List.length_append, varint_length, numsOf_length]; have := glen_le (show s.size < 18446744073709551616 by omega); omega)
    have HTO := Lib.hid (bytesOk_append (bytesOk_varint s.size) (bytesOk_nums s))
    have hcv : ∀ w : World, (convert 9 22 (.string s)).run Tryd.prog w = .ok (.slice (some ⟨w.heap.size, 0, none⟩) s.size (grownCap w s.size 0 5)) (bytesW w s) :=
      fun w => run_bytes_of_string w 9 22 5 s Tryd.underlying9 Tryd.underlying22 Tryd.underlying5
    rcases bounds_num n most hn hm with ⟨hnm, HU0⟩ | ⟨hnm, HU0⟩ <;> rcases bounds_text s long (by omega) h0 h1 with ⟨⟨hl0, hl1⟩, HT0⟩ | ⟨hl0 | ⟨hl0, hl1⟩, x, HT0⟩
    all_goals
      have HU := Lib.hid HU0
      have HT := Lib.hid HT0
      clear HU0 HT0
      go_enter Tryd.func4, Tryd.ntmps4
      go_upto_region 1 with (fail)
      go_quiet (fail)
      replace HA : Hid (Below B W ((W.alloc (.cells #[.int .u64 (n : Int), .int .u64 (most : Int)] 40)).drewN nq)) := Lib.hid ⟨HA.out.os, HA.out.tape, HA.out.output, HA.out.size, HA.out.block⟩
      generalize (W.alloc (.cells #[.int .u64 (n : Int), .int .u64 (most : Int)] 40)).drewN nq = w0 at *
      go_wp2_with (first
        | (go_at_call 12; (with_reducible refine (sure_any _).mono ?_); rintro e w9 ⟨rfl, hb⟩; replace HA := Lib.hid (HA.out.trans (hb.mono (by rw [hB.out]; exact HA.out.size))); clear hb)
        | (go_at_call 13; (with_reducible refine (new_p _).mono ?_); rintro e w1 ⟨p, rfl, hp, hw, hb⟩; have HP := Lib.hid (show B ≤ p by have := HA.out.size; have := hB.out; omega); replace HA := Lib.hid (HA.out.trans (hb.mono (by rw [hB.out]; exact HA.out.size))); have HW := Lib.hid hw; clear hb hw hp)
        | (go_at_call 14; (with_reducible refine (wuint_any p _ [] n _ HW.out HN.out (by decide)).mono ?_); rintro e w2 ⟨rfl, v2, hw, hs⟩; rw [List.nil_append] at hw; replace HA := Lib.hid (HA.out.trans (hs.below HW.out HP.out)); have HW2 := Lib.hid hw; have HL := Lib.hid HVL.out; have HO := Lib.hid (bytesOk_varint n); clear hs hw HW)
        | (go_at_call 16; (with_reducible refine (wtext_any p _ s [] _ HW.out (by have := HSZ.out; simp only [List.length_nil]; omega)).mono ?_); rintro e w2 ⟨rfl, v2, hw, hs⟩; rw [List.nil_append] at hw; replace HA := Lib.hid (HA.out.trans (hs.below HW.out HP.out)); have HW2 := Lib.hid hw; have HL := Lib.hid HTL.out; have HO := Lib.hid HTO.out; clear hs hw HW)
        | (go_at_call 17; (with_reducible refine (wbytes_w p _ s _ HW.out (by have := HSZ.out; omega)).mono ?_); rintro e w2 ⟨rfl, v2, hw, hs⟩; replace HA := Lib.hid (HA.out.trans ((bytesW_below _ s).mono (by rw [hB.out]; exact HA.out.size) |>.trans (hs.below (HW.out.below (bytesW_below _ s)) HP.out))); have HW2 := Lib.hid hw; have HL := Lib.hid HTL.out; have HO := Lib.hid HTO.out; clear hs hw HW)
        | (go_at_call 15; (with_reducible refine (done_any p _ _ _ HW2.out (by have := HL.out; omega)).mono ?_); rintro e w3 ⟨v3, rfl, ho, hb⟩; have HI := Lib.hid (owns_in ho (by have := HL.out; unfold maxLen; omega)); replace HA := Lib.hid (HA.out.trans (hb.mono (by rw [hB.out]; exact HA.out.size))); clear hb ho HW2)
        | (go_at_call 5; (with_reducible refine (read_any _ _ _ HI.out HO.out (by have := HL.out; omega)).mono ?_); rintro e w4 ⟨q, y, rfl, hq, hr, hb⟩; have HQ := Lib.hid (show B ≤ q by have := HA.out.size; have := hB.out; omega); replace HA := Lib.hid (HA.out.trans (hb.mono (by rw [hB.out]; exact HA.out.size))); have HR := Lib.hid (show RS w4 q (_, none) from ⟨y, hr⟩); clear hb hr hq HI HL HO)
        | (go_at_call 6; (with_reducible refine (HU.out q _ HR.out).mono ?_); rintro e w5 ⟨rfl, hr, ho⟩; replace HR := Lib.hid hr; replace HA := Lib.hid (HA.out.trans (ho.below HQ.out (by rw [hB.out]; exact HA.out.size))); clear hr ho)
        | (go_at_call 9; (with_reducible refine (HT.out q _ HR.out).mono ?_); rintro e w5 ⟨rfl, hr, ho⟩; replace HR := Lib.hid hr; replace HA := Lib.hid (HA.out.trans (ho.below HQ.out (by rw [hB.out]; exact HA.out.size))); clear hr ho)
        | (go_at_call 18; (with_reducible refine (bounds_count s HSZ.out q _ HR.out).mono ?_); rintro e w5 ⟨rfl, hr, ho⟩; replace HR := Lib.hid hr; replace HA := Lib.hid (HA.out.trans (ho.below HQ.out (by rw [hB.out]; exact HA.out.size))); clear hr ho)
        | (go_at_call 11; (with_reducible refine (err_nil q _ _ HR.out).mono ?_); rintro e w5 ⟨rfl, rfl⟩)
        | (go_at_call 11; (with_reducible refine (err_4 q _ _ HR.out).mono ?_); rintro e w5 ⟨rfl, rfl⟩)
        | (go_at_call 11; (with_reducible refine (err_x q _ _ _ HR.out).mono ?_); rintro e w5 ⟨rfl, rfl⟩)
        | (go_at_call 10; (with_reducible refine (num_4 _ (HET.out _ HA.out)).mono ?_); rintro e w5 ⟨rfl, hb⟩; obtain ⟨y, hy⟩ := HR.out; replace HR := Lib.hid (show RS w5 q (_, some 4) from ⟨y, hy.below hb⟩); replace HA := Lib.hid (HA.out.trans (hb.mono (by rw [hB.out]; exact HA.out.size))); clear hb hy)
        | (go_at_call 19; (with_reducible refine (left_nums q s _ HR.out).mono ?_); rintro e w5 ⟨rfl, rfl⟩))
      go_ret
      exact ⟨rfl, HA.out⟩
#print axioms bounds_any
end Go.Proofs.YtikpcfcadddplaaDoor
