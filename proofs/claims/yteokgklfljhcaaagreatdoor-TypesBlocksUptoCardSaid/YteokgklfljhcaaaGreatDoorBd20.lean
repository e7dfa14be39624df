/- Part 20 of the proof. -/
import Derived.Lib.AppendStr
import Derived.Test.YteokgklfljhcaaaGreatDoorBd1
import Derived.Test.YteokgklfljhcaaaGreatDoorBd2
import Derived.Test.YteokgklfljhcaaaGreatDoorBd9
import Derived.Test.YteokgklfljhcaaaGreatDoorBd16
import Derived.Test.YteokgklfljhcaaaGreatDoorBd17
namespace Go.Proofs.YteokgklfljhcaaaGreatDoor
set_option linter.unusedVariables false
set_option linter.unusedSimpArgs false
open Go.RowKit
set_option maxRecDepth 100000
/-- the first groups -/
def gtake (n k : Nat) : List Int := (List.range k).map fun i => ((gby n i : Nat) : Int)
theorem gtake_succ (n k : Nat) : gtake n (k + 1) = gtake n k ++ [((gby n k : Nat) : Int)] := by simp [gtake, List.range_succ]
/-- a call of the reference that answers bs with ys behind it, in an array of its own -/
def RefPost (bs ys : List Int) (w : World) (e : Ending) (w' : World) : Prop :=
  ∃ v', e = .returned v' ∧ w'.ownsRow w.heap.size 5 1 v' (bs ++ ys).length (byteVals (bs ++ ys)) ∧ Below w.heap.size w w'
theorem one_alloc (w : World) (x : Int) : BytesIn (w.alloc (.cells #[.int .u8 x] 5)) (.slice (some ⟨w.heap.size, 0, none⟩) 1 1) [x] := one_in w x
set_option maxHeartbeats 1000000 in
theorem dUint_any (b : Value) (bs : List Int) (n : Nat) (w : World) (hb : BytesIn w b bs) (hn : n < 18446744073709551616) (hl : bs.length + 10 ≤ 140737488355328) :
    Calls Tryz.prog 57 #[b, .int .u64 (n : Int)] w (RefPost bs (varint n) w) := by
  have HY := Lib.hid hb
  have HL := Lib.hid hl
  have HN := Lib.hid hn
  have HG := Lib.hid (glen_le hn)
  obtain ⟨B, hB⟩ : ∃ B, B = w.heap.size := ⟨_, rfl⟩
  unfold RefPost
  rw [← hB]
  have HO0 := Lib.hid (World.ownsRow_nil w B 5 1)
  replace hB := Lib.hid hB
  clear hb hl hn
  go_enter Tryz.func57, Tryz.ntmps57
  go_wp2_with (at_builtin; refine wpList_append_bytes rfl (.tmp 6) (.tmp 7) rfl rfl B _ 0 [] rfl HO0.out b bs rfl HY.out (by have := HL.out; omega) (by rw [hB.out]; exact Nat.le_refl _) ?_; intro v' w1 ho hg _; rw [Nat.zero_add, List.nil_append] at ho; have HO := Lib.hid ho; have HA := Lib.hid (((Below.refl B w).grown hg (by rw [hB.out]; exact Nat.le_refl _) (fun k hk => by cases hk))); clear ho hg)
  go_loopw [1, 5] (fun x v wr => ∃ k : Nat, k < glen n ∧ x = .int .u64 ((n / 128 ^ k : Nat) : Int) ∧ Hid (Below B w wr ∧ wr.ownsRow B 5 1 v (bs.length + k) (byteVals (bs ++ gtake n k)))) (fun x _ _ => (intOf x).toNat)
  case atStart => exact ⟨0, glen_pos n, by simp, HA.out, by simpa [gtake] using HO.out⟩
  case round =>
    clear HA HO HO0
    obtain ⟨k, hk, rfl, H⟩ := hrel
    have HO := Lib.hid H.out.2
    have HA := Lib.hid H.out.1
    clear H
    have hk10 := HG.out
    obtain ⟨m, hm⟩ : ∃ m, m = n / 128 ^ k := ⟨_, rfl⟩
    have hmn : m < 18446744073709551616 := by have := HN.out; have := Nat.div_le_self n (128 ^ k); omega
    have hiff := glen_iff hk
    rw [← hm] at hiff ⊢
    by_cases h : 128 ≤ m
    · have hk1 := hiff.1 h
      have hg1 : m % 128 + 128 = gby n k := by unfold gby; rw [if_pos hk1, ← hm]
      have hgi : (127 : Int) < (m : Int) := by omega
      have hmod : (m : Int).tmod 128 = ((m % 128 : Nat) : Int) := by rw [Int.tmod_eq_emod_of_nonneg (by omega)]; omega
      have hdiv : (m : Int).tdiv 128 = ((m / 128 : Nat) : Int) := by rw [Int.tdiv_eq_ediv_of_nonneg (by omega)]; omega
      have HM := Lib.hid hm
      have HG1 := Lib.hid hg1
      have HK1 := Lib.hid hk1
      clear hm hg1 hiff hk1
      go_wp2_with (at_builtin; refine wpList_append_bytes rfl (.tmp 11) (.tmp 16) rfl rfl B _ (bs.length + k) _ rfl (HO.out.alloc _) _ [(m : Int) % 128 + 128] rfl (one_alloc wr _) (by have := HL.out; simp only [List.length_cons, List.length_nil]; have := HK1.out; omega) (by rw [hB.out, size_alloc]; have := HA.out.size; omega) ?_; intro v' w1 ho hg _; have HO1 := Lib.hid ho; have HA1 := Lib.hid (((HA.out.alloc (by rw [hB.out]; exact HA.out.size) _).grown hg (by rw [hB.out, size_alloc]; have := HA.out.size; omega) (fun k hk => (HO.out.lt k hk).1))); clear ho hg)
      go_roundw
      case rel =>
        refine ⟨k + 1, HK1.out, ?_, HA1.out, ?_⟩
        · rw [div_pow_step, ← HM.out]; rfl
        · have h1 := HO1.out
          rw [← byteVals_append, List.append_assoc, show (m : Int) % 128 + 128 = ((gby n k : Nat) : Int) by rw [← HG1.out]; omega, ← gtake_succ] at h1
          exact h1
      case measure => simp [intOf]; omega
    · have hk1 : k + 1 = glen n := by omega
      have hg1 : m = gby n k := by rw [(gby_last hk1).1]; exact hm
      have hgi : ¬ (127 : Int) < (m : Int) := by omega
      have HG1 := Lib.hid hg1
      have HK1 := Lib.hid hk1
      clear hm hg1 hiff hk1
      go_wp2_with (at_builtin; refine wpList_append_bytes rfl (.tmp 20) (.tmp 23) rfl rfl B _ (bs.length + k) _ rfl (HO.out.alloc _) _ [(m : Int)] rfl (one_alloc wr _) (by have := HL.out; simp only [List.length_cons, List.length_nil]; have := HK1.out; omega) (by rw [hB.out, size_alloc]; have := HA.out.size; omega) ?_; intro v' w1 ho hg _; have HO1 := Lib.hid ho; have HA1 := Lib.hid (((HA.out.alloc (by rw [hB.out]; exact HA.out.size) _).grown hg (by rw [hB.out, size_alloc]; have := HA.out.size; omega) (fun k hk => (HO.out.lt k hk).1))); clear ho hg)
      go_ret
      refine ⟨_, rfl, ?_, HA1.out⟩
      have h1 := HO1.out
      rw [← byteVals_append, List.append_assoc, HG1.out, ← gtake_succ, HK1.out] at h1
      rw [varint_length, ← HK1.out]
      exact h1
theorem wp_append_bytes {w : World} {o : Oper} {a : Act} {K : Act → World → Prop} {Q : Exit → Act → World → Prop} (s x : Operand)
    (ho : o.op = .call { callee := .builtin .append, args := #[s, x], argTypes := #[39, 39] }) (hty : o.type = 39)
    (base : Nat) (v : Value) (n : Nat) (vs : List Value) (hs : a.eval s = v) (hown : w.ownsRow base 5 1 v n vs) (y : Value) (ys : List Int) (hx : a.eval x = y) (hy : BytesIn w y ys) (hl : n + ys.length ≤ 140737488355328) (hb : base ≤ w.heap.size)
    (h : ∀ v' w', w'.ownsRow base 5 1 v' (n + ys.length) (vs ++ byteVals ys) → w.grownBy w' v.ownBlock → OwnOf v v' w → K (a.put o.dst v') w') : o.wp Tryz.prog a w K Q := by
  obtain ⟨v', w', hr, h1, h2, h3⟩ := run_append_bytes w base v n vs hown y ys hy hl hb
  unfold Oper.wp execOp
  simp only [ho, hty, resolve, invoke, builtin, Sem.run_bind, Sem.run_pure, Result.andThen_ok, List.map_toArray, List.map_cons, List.map_nil, hs, hx, hr]
  exact h v' w' h1 h2 h3
set_option maxHeartbeats 1000000 in
theorem dHash_any (b : Value) (bs : List Int) (f : Nat → Int) (w : World) (hb : BytesIn w b bs) (hl : bs.length + 32 ≤ 140737488355328) :
    Calls Tryz.prog 63 #[b, .agg (rowOf .u8 32 f)] w (RefPost bs (rowL 32 f) w) := by
  have HY := Lib.hid (hb.below (below_alloc w (.cells (rowOf .u8 32 f) 23)))
  have HR := RowAt.new w .u8 32 23 f
  have HA := Lib.hid (below_alloc w (.cells (rowOf .u8 32 f) 23))
  have HL := Lib.hid hl
  have HO0 := Lib.hid (World.ownsRow_nil (w.alloc (.cells (rowOf .u8 32 f) 23)) w.heap.size 5 1)
  replace HR := Lib.hid HR
  clear hb hl
  unfold RefPost
  go_enter Tryz.func63, Tryz.ntmps63
  go_upto_region 2 with (fail)
  generalize w.alloc (.cells (rowOf .u8 32 f) 23) = w1 at *
  obtain ⟨w2, hw2⟩ : ∃ w2, w2 = w1.drew := ⟨_, rfl⟩
  replace HY := Lib.hid (show BytesIn w2 b bs by rw [hw2]; exact HY.out)
  replace HR := Lib.hid (show RowAt w2 w.heap.size .u8 32 23 f by rw [hw2]; exact HR.out)
  replace HA := Lib.hid (show Below w.heap.size w w2 by rw [hw2]; exact HA.out.drew)
  replace HO0 := Lib.hid (show w2.ownsRow w.heap.size 5 1 (.slice none 0 0) 0 [] by rw [hw2]; exact HO0.out)
  refine wp_region_any (by kernel_rfl) ?_
  change wpAny _ _ _ _ _ _ _ w1.drew
  rw [← hw2]
  clear hw2
  refine wpAny_take (i := 0) (v := .slice none 0 0) rfl (by kernel_rfl) (by kernel_rfl) (by kernel_rfl) (fun _ _ _ h => h) (Or.inl ⟨by rfl, by intro w; go_simp⟩) ?_
  try simp only [List.getElem_toArray, List.getElem_cons_zero, Act.put, List.setIfInBounds_toArray, List.set_cons_zero, List.set_cons_succ]
  refine wpAny_take (i := 1) (v := b) rfl (by kernel_rfl) (by kernel_rfl) (by kernel_rfl) (fun _ _ _ h => h) (Or.inl ⟨by rfl, by intro w; go_simp⟩) ?_
  try simp only [List.getElem_toArray, List.getElem_cons_succ, List.getElem_cons_zero, Act.put, List.setIfInBounds_toArray, List.set_cons_zero, List.set_cons_succ]
  refine wpAny_take (i := 3) (v := .slice (some ⟨w.heap.size, 0, none⟩) 32 32) rfl (by kernel_rfl) (by kernel_rfl) (by kernel_rfl) (fun _ _ _ h => h) (Or.inl ⟨by rfl, by intro w; go_simp⟩) ?_
  try simp only [List.getElem_toArray, List.getElem_cons_succ, List.getElem_cons_zero, Act.put, List.setIfInBounds_toArray, List.set_cons_zero, List.set_cons_succ]
  refine wpAny_ready (rs := [2]) (by kernel_rfl) (by simp) ?_; refine AllReady.cons rfl (fun K hK => ?_) AllReady.nil; rw [if_pos (by rfl)]
  try simp only [List.getElem_toArray, List.getElem_cons_succ, List.getElem_cons_zero]
  refine wp_append_bytes (.tmp 6) (.tmp 7) rfl rfl w.heap.size _ 0 [] rfl HO0.out b bs rfl HY.out (by have := HL.out; omega) HA.out.size ?_
  intro v3 w3 ho hg hof
  rw [Nat.zero_add, List.nil_append] at ho
  have HA3 := Lib.hid (HA.out.grown hg HA.out.size (fun k hk => by cases hk))
  have HR3 := Lib.hid (show RowAt w3 w.heap.size .u8 32 23 f from (hg.block _ HR.out.lt (by intro h; cases h)).trans HR.out)
  replace ho := Lib.hid ho
  clear hg hof
  refine hK _ _ ?_
  clear hK K
  try simp only [Act.put, List.setIfInBounds_toArray, List.set_cons_zero, List.set_cons_succ]
  refine wpAny_ready (rs := [4]) (by kernel_rfl) (by simp) ?_; refine AllReady.cons rfl (fun K hK => ?_) AllReady.nil; rw [if_pos (by rfl)]
  try simp only [List.getElem_toArray, List.getElem_cons_succ, List.getElem_cons_zero]
  refine wp_append_bytes (.tmp 8) (.tmp 9) rfl rfl w.heap.size _ _ _ rfl ho.out _ (rowL 32 f) rfl (row_in HR3.out (Nat.le_refl _) (Nat.le_refl _) (by simp [maxLen])) (by have := HL.out; simp only [rowL, List.length_map, List.length_range]; omega) HA3.out.size ?_
  intro v4 w4 ho4 hg hof
  have HA4 := Lib.hid (HA3.out.grown hg HA3.out.size (fun k hk => (ho.out.lt k hk).1))
  replace ho4 := Lib.hid ho4
  clear hg hof
  refine hK _ _ ?_
  clear hK K
  try simp only [Act.put, List.setIfInBounds_toArray, List.set_cons_zero, List.set_cons_succ]
  refine wpAny_ready (rs := [5]) (by kernel_rfl) (by simp) ?_; refine AllReady.cons rfl (fun K hK => ?_) AllReady.nil; rw [if_pos (by rfl)]
  try simp only [List.getElem_toArray, List.getElem_cons_succ, List.getElem_cons_zero]
  go_simp
  refine hK _ _ ?_
  clear hK K
  try simp only [List.getElem_toArray, List.getElem_cons_succ, List.getElem_cons_zero, Act.put, List.setIfInBounds_toArray, List.set_cons_zero, List.set_cons_succ]
  refine wpAny_done (by kernel_rfl) ?_ _
  go_wp2_with (fail)
  go_ret
  refine ⟨_, rfl, ?_, HA4.out⟩
  have h1 := ho4.out
  rw [← byteVals_append] at h1
  simpa using h1
#print axioms dHash_any
end Go.Proofs.YteokgklfljhcaaaGreatDoor
namespace Go.Proofs.YteokgklfljhcaaaGreatDoor
set_option linter.unusedVariables false
set_option linter.unusedSimpArgs false
open Go.RowKit
set_option maxRecDepth 100000
theorem dInt_any (b : Value) (bs : List Int) (i : Int) (w : World) (hb : BytesIn w b bs) (h0 : -9223372036854775808 ≤ i) (h1 : i ≤ 9223372036854775807) (hl : bs.length + 10 ≤ 140737488355328) :
    Calls Tryz.prog 61 #[b, .int .i64 i] w (RefPost bs (varint (zig i)) w) := by
  have H := Lib.hid (dUint_any b bs (zig i) w hb (zig_lt h0 h1) hl)
  clear hb hl
  unfold RefPost at *
  by_cases hn : i < 0
  · have e : ((zig i : Nat) : Int) = 2 * (-(i + 1)) + 1 := by unfold zig; rw [if_pos hn]; omega
    rw [e] at H
    go_enter Tryz.func61, Tryz.ntmps61
    go_wp2_with (go_at_call 57; (with_reducible refine H.out.mono ?_); rintro e w1 ⟨v', rfl, ho, hb⟩; replace ho := Lib.hid ho; replace hb := Lib.hid hb)
    go_ret
    exact ⟨_, rfl, ho.out, hb.out⟩
  · have e : ((zig i : Nat) : Int) = 2 * i := by unfold zig; rw [if_neg hn]; omega
    rw [e] at H
    go_enter Tryz.func61, Tryz.ntmps61
    go_wp2_with (go_at_call 57; (with_reducible refine H.out.mono ?_); rintro e w1 ⟨v', rfl, ho, hb⟩; replace ho := Lib.hid ho; replace hb := Lib.hid hb)
    go_ret
    exact ⟨_, rfl, ho.out, hb.out⟩
theorem dBytes_any (b y : Value) (bs ys : List Int) (w : World) (hb : BytesIn w b bs) (hy : BytesIn w y ys) (hl : bs.length + ys.length + 10 ≤ 140737488355328) :
    Calls Tryz.prog 58 #[b, y] w (RefPost bs (varint ys.length ++ ys) w) := by
  have hlt : ys.length < 18446744073709551616 := by omega
  have H := Lib.hid (dUint_any b bs ys.length w hb hlt (by omega))
  have HY := Lib.hid hy
  have HL := Lib.hid hl
  have HG := Lib.hid (glen_le hlt)
  obtain ⟨a, c, rfl, _⟩ := hy
  clear hb hl
  unfold RefPost at *
  go_enter Tryz.func58, Tryz.ntmps58
  go_wp2_with (first
    | (go_at_call 57; (with_reducible refine H.out.mono ?_); rintro e w1 ⟨v', rfl, ho, hb⟩; replace ho := Lib.hid ho; replace hb := Lib.hid hb)
    | (at_builtin; refine wpList_append_bytes rfl (.tmp 9) (.tmp 10) rfl rfl w.heap.size _ _ _ rfl ho.out _ ys rfl (HY.out.below hb.out) (by have := HL.out; have := HG.out; rw [List.length_append, varint_length]; omega) hb.out.size ?_; intro v2 w2 ho2 hg _; have HO2 := Lib.hid ho2; have HA2 := Lib.hid (hb.out.grown hg hb.out.size (fun k hk => (ho.out.lt k hk).1)); clear ho2 hg))
  go_ret
  refine ⟨_, rfl, ?_, HA2.out⟩
  have h1 := HO2.out
  rw [← byteVals_append, ← List.length_append] at h1
  rw [← List.append_assoc]
  exact h1
end Go.Proofs.YteokgklfljhcaaaGreatDoor
namespace Go.Proofs.YteokgklfljhcaaaGreatDoor
set_option linter.unusedVariables false
set_option linter.unusedSimpArgs false
open Go.RowKit
set_option maxRecDepth 100000
set_option linter.unusedSimpArgs false
set_option linter.unusedVariables false
theorem refL_next {bs ys : List Int} {w w' : World} {e : Ending} (h : RefPost bs ys w e w') (hl : (bs ++ ys).length ≤ maxLen) : ∃ v', e = .returned v' ∧ BytesIn w' v' (bs ++ ys) ∧ Below w.heap.size w w' := by
  obtain ⟨v', h1, h2, h3⟩ := h
  exact ⟨v', h1, owns_in h2 hl, h3⟩
/-- a vote as an argument in memory -/
def RvS (q : Nat) (t : Vo) (w : World) : Prop := w.heap[q]? = some (.cells (voC t) 99 (0, 0)) ∧ BytesIn w t.sv t.sign
theorem RvS.s {q : Nat} {t : Vo} {w : World} (h : RvS q t w) : BytesIn w t.sv t.sign := And.right h
theorem RvS.below {q : Nat} {t : Vo} {w w' : World} (h : RvS q t w) (hb : Below w.heap.size w w') : RvS q t w' := ⟨(hb.block _ (bkT_lt h.1)).trans h.1, h.2.below hb⟩
set_option maxHeartbeats 8000000 in
theorem rrefvote_any (b : Value) (bs : List Int) (t : Vo) (w : World) (hb : BytesIn w b bs) (hs : BytesIn w t.sv t.sign) (hf : VoFl t) (hl : bs.length + (vo1 t).length + 400 ≤ 140737488355328) :
    Calls Tryz.prog 66 #[b, .agg (voC t)] w fun e w' => ∃ vb, e = .returned vb ∧ BytesIn w' vb (bs ++ vo1 t) ∧ Below w.heap.size w w' := by
  have HB := Lib.hid (below_alloc w (.cells (voC t) 99))
  have HQ := Lib.hid (show RvS w.heap.size t (w.alloc (.cells (voC t) 99)) from ⟨heap_alloc_new w (.cells (voC t) 99), hs.below HB.out⟩)
  have HX := Lib.hid (hb.below HB.out)
  have HV := Lib.hid hf
  have HL1 := Lib.hid (glenT (zig_lt hf.k.1 hf.k.2))
  have HL2 := Lib.hid (glenT (zig_lt hf.h.1 hf.h.2))
  have HL3 := Lib.hid (glenT (zig_lt hf.r.1 hf.r.2))
  have HL4 := Lib.hid (glenT (zig_lt hf.vl.1 hf.vl.2))
  have HL5 := Lib.hid (rowL32 t.blk)
  have HLV := Lib.hid (show (vo1 t).length = (varint (zig t.kind)).length + (varint (zig t.height)).length + (varint (zig t.round)).length + 32 + (varint (zig t.val)).length + ((varint t.sign.length).length + t.sign.length) from by simp only [vo1, voL, List.length_append, rowL32])
  have HR := Lib.hid hl
  obtain ⟨sa, sc, hsv, -⟩ := id hs
  have HSV := Lib.hid hsv
  obtain ⟨KI, hK⟩ : ∃ x, x = t.kind := ⟨_, rfl⟩
  obtain ⟨H, hH⟩ : ∃ x, x = t.height := ⟨_, rfl⟩
  obtain ⟨R, hR⟩ : ∃ x, x = t.round := ⟨_, rfl⟩
  obtain ⟨V, hV⟩ : ∃ x, x = t.val := ⟨_, rfl⟩
  have HKH := Lib.hid (show KI = t.kind ∧ H = t.height ∧ R = t.round ∧ V = t.val from ⟨hK, hH, hR, hV⟩)
  have HVK := Lib.hid (show (-9223372036854775808 ≤ KI ∧ KI ≤ 9223372036854775807) ∧ (-9223372036854775808 ≤ H ∧ H ≤ 9223372036854775807) ∧ (-9223372036854775808 ≤ R ∧ R ≤ 9223372036854775807) ∧ (-9223372036854775808 ≤ V ∧ V ≤ 9223372036854775807) from by rw [hK, hH, hR, hV]; exact ⟨hf.k, hf.h, hf.r, hf.vl⟩)
  rw [← hK] at HL1 HLV
  rw [← hH] at HL2 HLV
  rw [← hR] at HL3 HLV
  rw [← hV] at HL4 HLV
  clear hb hs hf hl hsv hK hH hR hV
  go_enter Tryz.func66, Tryz.ntmps66
  go_upto_region 1 with (fail)
  obtain ⟨q, hq⟩ : ∃ q, q = w.heap.size := ⟨_, rfl⟩
  rw [← hq] at HQ ⊢
  clear hq
  generalize w.alloc (.cells (voC t) 99) = w1 at *
  refine wp_region_T (RvS q t) [0, 1, 2, 3, 4, 5, 6, 7, 8, 9, 10, 11, 12, 13] (by kernel_rfl) ?_
  replace HQ := Lib.hid (HQ.out.below (Below.refl _ _).drew)
  replace HX := Lib.hid (HX.out.below (Below.refl _ _).drew)
  replace HB := Lib.hid (HB.out.drew)
  generalize w1.drew = w4 at *
  refine anyT_take [] (i := 0) (v := b) rfl (by kernel_rfl) (by kernel_rfl) (by kernel_rfl) (fun _ _ _ h => h) (by kernel_rfl) (Or.inl ⟨by rfl, fun w' _ => by go_simp⟩) HQ.out ?_
  try simp only [List.getElem_toArray, List.getElem_cons_succ, List.getElem_cons_zero, Act.put, List.setIfInBounds_toArray, List.set_cons_zero, List.set_cons_succ]
  refine anyT_take [] (i := 1) (v := .pointer (some ⟨q, 0, none⟩)) rfl (by kernel_rfl) (by kernel_rfl) (by kernel_rfl) (fun _ _ _ h => h) (by kernel_rfl) (Or.inl ⟨by rfl, fun w' _ => by go_simp⟩) HQ.out ?_
  try simp only [List.getElem_toArray, List.getElem_cons_succ, List.getElem_cons_zero, Act.put, List.setIfInBounds_toArray, List.set_cons_zero, List.set_cons_succ]
  refine anyT_take [] (i := 4) (v := .pointer (some ⟨q, 1, none⟩)) rfl (by kernel_rfl) (by kernel_rfl) (by kernel_rfl) (fun _ _ _ h => h) (by kernel_rfl) (Or.inl ⟨by rfl, fun w' _ => by go_simp⟩) HQ.out ?_
  try simp only [List.getElem_toArray, List.getElem_cons_succ, List.getElem_cons_zero, Act.put, List.setIfInBounds_toArray, List.set_cons_zero, List.set_cons_succ]
  refine anyT_take [] (i := 7) (v := .pointer (some ⟨q, 2, none⟩)) rfl (by kernel_rfl) (by kernel_rfl) (by kernel_rfl) (fun _ _ _ h => h) (by kernel_rfl) (Or.inl ⟨by rfl, fun w' _ => by go_simp⟩) HQ.out ?_
  try simp only [List.getElem_toArray, List.getElem_cons_succ, List.getElem_cons_zero, Act.put, List.setIfInBounds_toArray, List.set_cons_zero, List.set_cons_succ]
  refine anyT_take [] (i := 10) (v := .pointer (some ⟨q, 3, none⟩)) rfl (by kernel_rfl) (by kernel_rfl) (by kernel_rfl) (fun _ _ _ h => h) (by kernel_rfl) (Or.inl ⟨by rfl, fun w' _ => by go_simp⟩) HQ.out ?_
  try simp only [List.getElem_toArray, List.getElem_cons_succ, List.getElem_cons_zero, Act.put, List.setIfInBounds_toArray, List.set_cons_zero, List.set_cons_succ]
  refine anyT_take [] (i := 2) (v := .int .i64 KI) rfl (by kernel_rfl) (by kernel_rfl) (by kernel_rfl) (fun _ _ _ h => h) (by kernel_rfl) (Or.inl ⟨by rfl, fun w' hS => by have c := (vo_cells hS.1).1; rw [← HKH.out.1] at c; go_simp⟩) HQ.out ?_
  try simp only [List.getElem_toArray, List.getElem_cons_succ, List.getElem_cons_zero, Act.put, List.setIfInBounds_toArray, List.set_cons_zero, List.set_cons_succ]
  refine anyT_take [] (i := 5) (v := .int .i64 H) rfl (by kernel_rfl) (by kernel_rfl) (by kernel_rfl) (fun _ _ _ h => h) (by kernel_rfl) (Or.inl ⟨by rfl, fun w' hS => by have c := (vo_cells hS.1).2.1; rw [← HKH.out.2.1] at c; go_simp⟩) HQ.out ?_
  try simp only [List.getElem_toArray, List.getElem_cons_succ, List.getElem_cons_zero, Act.put, List.setIfInBounds_toArray, List.set_cons_zero, List.set_cons_succ]
  refine anyT_take [] (i := 8) (v := .int .i64 R) rfl (by kernel_rfl) (by kernel_rfl) (by kernel_rfl) (fun _ _ _ h => h) (by kernel_rfl) (Or.inl ⟨by rfl, fun w' hS => by have c := (vo_cells hS.1).2.2.1; rw [← HKH.out.2.2.1] at c; go_simp⟩) HQ.out ?_
  try simp only [List.getElem_toArray, List.getElem_cons_succ, List.getElem_cons_zero, Act.put, List.setIfInBounds_toArray, List.set_cons_zero, List.set_cons_succ]
  refine anyT_take [] (i := 11) (v := .agg (rowOf .u8 32 t.blk)) rfl (by kernel_rfl) (by kernel_rfl) (by kernel_rfl) (fun _ _ _ h => h) (by kernel_rfl) (rowT_yields (by rfl) 23 (.tmp 15) rfl q 3 rfl _ _ (fun _ h => (vo_cells h.1).2.2.2.1) Tryz.underlying23 rfl (by rw [rowOf_size]; kernel_rfl)) HQ.out ?_
  try simp only [List.getElem_toArray, List.getElem_cons_succ, List.getElem_cons_zero, Act.put, List.setIfInBounds_toArray, List.set_cons_zero, List.set_cons_succ]
  refine anyT_one (i := 3) (by kernel_rfl) rfl (fun K hK => ?_)
  rw [if_pos (by rfl)]
  try simp only [List.getElem_toArray, List.getElem_cons_succ, List.getElem_cons_zero]
  (go_simp; (with_reducible refine (dInt_any b _ KI w4 HX.out HVK.out.1.1 HVK.out.1.2 (by have h0 := HR.out; have h1 := HLV.out; have a1 := HL1.out; have a2 := HL2.out; have a3 := HL3.out; have a4 := HL4.out; have a5 := HL5.out; (try simp only [List.length_append]); omega)).mono ?_); rintro e w5 hp; obtain ⟨vw5, rfl, hx, hb⟩ := refL_next hp (by have h0 := HR.out; have h1 := HLV.out; have a1 := HL1.out; have a2 := HL2.out; have a3 := HL3.out; have a4 := HL4.out; have a5 := HL5.out; (try simp only [List.length_append]); unfold maxLen; omega); replace HX := Lib.hid hx; replace HQ := Lib.hid (HQ.out.below hb); replace HB := Lib.hid (HB.out.trans (hb.mono HB.out.size)); clear hp hx hb)
  refine hK _ _ (fun _ => HQ.out) ?_
  clear hK K
  try simp only [List.getElem_toArray, List.getElem_cons_succ, List.getElem_cons_zero, Act.put, List.setIfInBounds_toArray, List.set_cons_zero, List.set_cons_succ]
  refine anyT_one (i := 6) (by kernel_rfl) rfl (fun K hK => ?_)
  rw [if_pos (by rfl)]
  try simp only [List.getElem_toArray, List.getElem_cons_succ, List.getElem_cons_zero]
  (go_simp; (with_reducible refine (dInt_any vw5 _ H w5 HX.out HVK.out.2.1.1 HVK.out.2.1.2 (by have h0 := HR.out; have h1 := HLV.out; have a1 := HL1.out; have a2 := HL2.out; have a3 := HL3.out; have a4 := HL4.out; have a5 := HL5.out; (try simp only [List.length_append]); omega)).mono ?_); rintro e w6 hp; obtain ⟨vw6, rfl, hx, hb⟩ := refL_next hp (by have h0 := HR.out; have h1 := HLV.out; have a1 := HL1.out; have a2 := HL2.out; have a3 := HL3.out; have a4 := HL4.out; have a5 := HL5.out; (try simp only [List.length_append]); unfold maxLen; omega); replace HX := Lib.hid hx; replace HQ := Lib.hid (HQ.out.below hb); replace HB := Lib.hid (HB.out.trans (hb.mono HB.out.size)); clear hp hx hb)
  refine hK _ _ (fun _ => HQ.out) ?_
  clear hK K
  try simp only [List.getElem_toArray, List.getElem_cons_succ, List.getElem_cons_zero, Act.put, List.setIfInBounds_toArray, List.set_cons_zero, List.set_cons_succ]
  refine anyT_one (i := 9) (by kernel_rfl) rfl (fun K hK => ?_)
  rw [if_pos (by rfl)]
  try simp only [List.getElem_toArray, List.getElem_cons_succ, List.getElem_cons_zero]
  (go_simp; (with_reducible refine (dInt_any vw6 _ R w6 HX.out HVK.out.2.2.1.1 HVK.out.2.2.1.2 (by have h0 := HR.out; have h1 := HLV.out; have a1 := HL1.out; have a2 := HL2.out; have a3 := HL3.out; have a4 := HL4.out; have a5 := HL5.out; (try simp only [List.length_append]); omega)).mono ?_); rintro e w7 hp; obtain ⟨vw7, rfl, hx, hb⟩ := refL_next hp (by have h0 := HR.out; have h1 := HLV.out; have a1 := HL1.out; have a2 := HL2.out; have a3 := HL3.out; have a4 := HL4.out; have a5 := HL5.out; (try simp only [List.length_append]); unfold maxLen; omega); replace HX := Lib.hid hx; replace HQ := Lib.hid (HQ.out.below hb); replace HB := Lib.hid (HB.out.trans (hb.mono HB.out.size)); clear hp hx hb)
  refine hK _ _ (fun _ => HQ.out) ?_
  clear hK K
  try simp only [List.getElem_toArray, List.getElem_cons_succ, List.getElem_cons_zero, Act.put, List.setIfInBounds_toArray, List.set_cons_zero, List.set_cons_succ]
  refine anyT_one (i := 12) (by kernel_rfl) rfl (fun K hK => ?_)
  rw [if_pos (by rfl)]
  try simp only [List.getElem_toArray, List.getElem_cons_succ, List.getElem_cons_zero]
  (go_simp; (with_reducible refine (dHash_any vw7 _ t.blk w7 HX.out (by have h0 := HR.out; have h1 := HLV.out; have a1 := HL1.out; have a2 := HL2.out; have a3 := HL3.out; have a4 := HL4.out; have a5 := HL5.out; (try simp only [List.length_append]); omega)).mono ?_); rintro e w8 hp; obtain ⟨vw8, rfl, hx, hb⟩ := refL_next hp (by have h0 := HR.out; have h1 := HLV.out; have a1 := HL1.out; have a2 := HL2.out; have a3 := HL3.out; have a4 := HL4.out; have a5 := HL5.out; (try simp only [List.length_append]); unfold maxLen; omega); replace HX := Lib.hid hx; replace HQ := Lib.hid (HQ.out.below hb); replace HB := Lib.hid (HB.out.trans (hb.mono HB.out.size)); clear hp hx hb)
  refine hK _ _ (fun _ => HQ.out) ?_
  clear hK K
  try simp only [List.getElem_toArray, List.getElem_cons_succ, List.getElem_cons_zero, Act.put, List.setIfInBounds_toArray, List.set_cons_zero, List.set_cons_succ]
  refine anyT_take [] (i := 13) (v := vw8) rfl (by kernel_rfl) (by kernel_rfl) (by kernel_rfl) (fun _ _ _ h => h) (by kernel_rfl) (Or.inl ⟨by rfl, fun w' _ => by go_simp⟩) HQ.out ?_
  try simp only [List.getElem_toArray, List.getElem_cons_succ, List.getElem_cons_zero, Act.put, List.setIfInBounds_toArray, List.set_cons_zero, List.set_cons_succ]
  refine anyT_done (by kernel_rfl) ?_ _
  go_upto_region 2 with (fail)
  refine wp_region_T (RvS q t) [0, 1, 2, 3, 4, 5, 6, 7] (by kernel_rfl) ?_
  replace HQ := Lib.hid (HQ.out.below (Below.refl _ _).drew)
  replace HX := Lib.hid (HX.out.below (Below.refl _ _).drew)
  replace HB := Lib.hid (HB.out.drew)
  generalize w8.drew = w9 at *
  refine anyT_take [] (i := 0) (v := vw8) rfl (by kernel_rfl) (by kernel_rfl) (by kernel_rfl) (fun _ _ _ h => h) (by kernel_rfl) (Or.inl ⟨by rfl, fun w' _ => by go_simp⟩) HQ.out ?_
  try simp only [List.getElem_toArray, List.getElem_cons_succ, List.getElem_cons_zero, Act.put, List.setIfInBounds_toArray, List.set_cons_zero, List.set_cons_succ]
  refine anyT_take [] (i := 1) (v := .pointer (some ⟨q, 35, none⟩)) rfl (by kernel_rfl) (by kernel_rfl) (by kernel_rfl) (fun _ _ _ h => h) (by kernel_rfl) (Or.inl ⟨by rfl, fun w' _ => by go_simp⟩) HQ.out ?_
  try simp only [List.getElem_toArray, List.getElem_cons_succ, List.getElem_cons_zero, Act.put, List.setIfInBounds_toArray, List.set_cons_zero, List.set_cons_succ]
  refine anyT_take [] (i := 4) (v := .pointer (some ⟨q, 36, none⟩)) rfl (by kernel_rfl) (by kernel_rfl) (by kernel_rfl) (fun _ _ _ h => h) (by kernel_rfl) (Or.inl ⟨by rfl, fun w' _ => by go_simp⟩) HQ.out ?_
  try simp only [List.getElem_toArray, List.getElem_cons_succ, List.getElem_cons_zero, Act.put, List.setIfInBounds_toArray, List.set_cons_zero, List.set_cons_succ]
  refine anyT_take [] (i := 2) (v := .int .i64 V) rfl (by kernel_rfl) (by kernel_rfl) (by kernel_rfl) (fun _ _ _ h => h) (by kernel_rfl) (Or.inl ⟨by rfl, fun w' hS => by have c := (vo_cells hS.1).2.2.2.2.1; rw [← HKH.out.2.2.2] at c; go_simp⟩) HQ.out ?_
  try simp only [List.getElem_toArray, List.getElem_cons_succ, List.getElem_cons_zero, Act.put, List.setIfInBounds_toArray, List.set_cons_zero, List.set_cons_succ]
  refine anyT_take [] (i := 5) (v := t.sv) rfl (by kernel_rfl) (by kernel_rfl) (by kernel_rfl) (fun _ _ _ h => h) (by kernel_rfl) (Or.inl ⟨by rfl, fun w' hS => by have c := (vo_cells hS.1).2.2.2.2.2; go_simp⟩) HQ.out ?_
  try simp only [List.getElem_toArray, List.getElem_cons_succ, List.getElem_cons_zero, Act.put, List.setIfInBounds_toArray, List.set_cons_zero, List.set_cons_succ]
  refine anyT_one (i := 3) (by kernel_rfl) rfl (fun K hK => ?_)
  rw [if_pos (by rfl)]
  try simp only [List.getElem_toArray, List.getElem_cons_succ, List.getElem_cons_zero]
  (go_simp; (with_reducible refine (dInt_any vw8 _ V w9 HX.out HVK.out.2.2.2.1 HVK.out.2.2.2.2 (by have h0 := HR.out; have h1 := HLV.out; have a1 := HL1.out; have a2 := HL2.out; have a3 := HL3.out; have a4 := HL4.out; have a5 := HL5.out; (try simp only [List.length_append]); omega)).mono ?_); rintro e w10 hp; obtain ⟨vw10, rfl, hx, hb⟩ := refL_next hp (by have h0 := HR.out; have h1 := HLV.out; have a1 := HL1.out; have a2 := HL2.out; have a3 := HL3.out; have a4 := HL4.out; have a5 := HL5.out; (try simp only [List.length_append]); unfold maxLen; omega); replace HX := Lib.hid hx; replace HQ := Lib.hid (HQ.out.below hb); replace HB := Lib.hid (HB.out.trans (hb.mono HB.out.size)); clear hp hx hb)
  refine hK _ _ (fun _ => HQ.out) ?_
  clear hK K
  try simp only [List.getElem_toArray, List.getElem_cons_succ, List.getElem_cons_zero, Act.put, List.setIfInBounds_toArray, List.set_cons_zero, List.set_cons_succ]
  refine anyT_one (i := 6) (by kernel_rfl) rfl (fun K hK => ?_)
  rw [if_pos (by rfl)]
  try simp only [List.getElem_toArray, List.getElem_cons_succ, List.getElem_cons_zero]
  (go_simp; (with_reducible refine (dBytes_any vw10 t.sv _ t.sign w10 HX.out (RvS.s HQ.out) (by have h0 := HR.out; have h1 := HLV.out; have a1 := HL1.out; have a2 := HL2.out; have a3 := HL3.out; have a4 := HL4.out; have a5 := HL5.out; (try simp only [List.length_append]); omega)).mono ?_); rintro e w11 hp; obtain ⟨vw11, rfl, hx, hb⟩ := refL_next hp (by have h0 := HR.out; have h1 := HLV.out; have a1 := HL1.out; have a2 := HL2.out; have a3 := HL3.out; have a4 := HL4.out; have a5 := HL5.out; (try simp only [List.length_append]); unfold maxLen; omega); replace HX := Lib.hid hx; replace HQ := Lib.hid (HQ.out.below hb); replace HB := Lib.hid (HB.out.trans (hb.mono HB.out.size)); clear hp hx hb)
  refine hK _ _ (fun _ => HQ.out) ?_
  clear hK K
  try simp only [List.getElem_toArray, List.getElem_cons_succ, List.getElem_cons_zero, Act.put, List.setIfInBounds_toArray, List.set_cons_zero, List.set_cons_succ]
  refine anyT_take [] (i := 7) (v := vw11) rfl (by kernel_rfl) (by kernel_rfl) (by kernel_rfl) (fun _ _ _ h => h) (by kernel_rfl) (Or.inl ⟨by rfl, fun w' _ => by go_simp⟩) HQ.out ?_
  try simp only [List.getElem_toArray, List.getElem_cons_succ, List.getElem_cons_zero, Act.put, List.setIfInBounds_toArray, List.set_cons_zero, List.set_cons_succ]
  refine anyT_done (by kernel_rfl) ?_ _
  go_wp2_with (fail)
  go_ret
  refine ⟨vw11, rfl, ?_, HB.out⟩
  have h := HX.out
  rw [HKH.out.1, HKH.out.2.1, HKH.out.2.2.1, HKH.out.2.2.2] at h
  simpa only [vo1, voL, List.append_assoc] using h
/-- two votes' places -/
structure VxM (ab ao ab2 ao2 k : Nat) (x y : Vo) (w : World) : Prop where
  l1 : ab < w.heap.size
  r1 : w.rangeAt ab (ao + k * 37) (voC x).toList
  l2 : ab2 < w.heap.size
  r2 : w.rangeAt ab2 (ao2 + k * 37) (voC y).toList
  s1 : BytesIn w x.sv x.sign
  s2 : BytesIn w y.sv y.sign
end Go.Proofs.YteokgklfljhcaaaGreatDoor
namespace Go.Proofs.YteokgklfljhcaaaGreatDoor
set_option linter.unusedVariables false
set_option linter.unusedSimpArgs false
open Go.RowKit
set_option maxRecDepth 100000
set_option linter.unusedSimpArgs false
set_option linter.unusedVariables false
theorem t11cells_nums (s : ByteArray) : Lib.strCells s = byteVals (numsOf s) := by
  unfold Lib.strCells byteVals numsOf
  rw [List.map_map]
  rfl
theorem t11run_append (w : World) (base : Nat) (v : Value) (n : Nat) (vs : List Value) (hown : w.ownsRow base 5 1 v n vs) (s : ByteArray) (hl : n + s.size ≤ 140737488355328) (hb : base ≤ w.heap.size) :
    ∃ v' w', (Builtin.append_ #[39, 9] 39 #[v, .string s]).run Tryz.prog w = .ok v' w' ∧ w'.ownsRow base 5 1 v' (n + s.size) (vs ++ byteVals (numsOf s)) ∧ w.grownBy w' v.ownBlock := by
  obtain ⟨i0, hi, hz0, hz1, hz2⟩ := info_parts infoU8
  obtain ⟨v', w', h1, h2, h3, _⟩ := Lib.run_append_own_string (P := Tryz.prog) w base 39 9 39 5 i0 Tryz.underlying39 Tryz.underlying9 hi hz0 hz1 hz2 v n vs hown s (by unfold maxLen; omega) hl hb
  rw [t11cells_nums] at h2
  exact ⟨v', w', h1, h2, h3⟩
theorem wpList_append_s11 {w : World} {ops : Array Oper} {rest : List Oper} {o : Oper} {a : Act} {Q : Exit → Act → World → Prop} (hgd : o.guard = none) (s x : Operand)
    (ho : o.op = .call { callee := .builtin .append, args := #[s, x], argTypes := #[39, 9] }) (hty : o.type = 39)
    (base : Nat) (v : Value) (n : Nat) (vs : List Value) (hs : a.eval s = v) (hown : w.ownsRow base 5 1 v n vs) (y : ByteArray) (hx : a.eval x = .string y) (hl : n + y.size ≤ 140737488355328) (hb : base ≤ w.heap.size)
    (h : ∀ v' w', w'.ownsRow base 5 1 v' (n + y.size) (vs ++ byteVals (numsOf y)) → w.grownBy w' v.ownBlock → wpList Tryz.prog ops Q rest (a.put o.dst v') w') : wpList Tryz.prog ops Q (o :: rest) a w := by
  refine wpList_plain hgd fun K hK => ?_
  obtain ⟨v', w', hr, h1, h2⟩ := t11run_append w base v n vs hown y hl hb
  unfold Oper.wp execOp
  simp only [ho, hty, resolve, invoke, builtin, Sem.run_bind, Sem.run_pure, Result.andThen_ok, List.map_toArray, List.map_cons, List.map_nil, hs, hx, hr]
  exact hK _ _ (h v' w' h1 h2)
theorem dUint_m11 (b : Value) (bs : List Int) (m : Int) (n : Nat) (hm : m = (n : Int)) (w : World) (hb : BytesIn w b bs) (hn : n < 18446744073709551616) (hl : bs.length + 10 ≤ 140737488355328) :
    Calls Tryz.prog 57 #[b, .int .u64 m] w (RefPost bs (varint n) w) := by
  subst hm
  exact dUint_any b bs n w hb hn hl
def BsPost11 (xs : List Int) (w : World) (e : Ending) (w' : World) : Prop := ∃ v', e = .returned v' ∧ BytesIn w' v' xs ∧ Below w.heap.size w w'
theorem dText11_any (b : Value) (bs : List Int) (s : ByteArray) (w : World) (hb : BytesIn w b bs) (hl : bs.length + s.size + 10 ≤ 140737488355328) :
    Calls Tryz.prog 62 #[b, .string s] w (BsPost11 (bs ++ (varint s.size ++ numsOf s)) w) := by
  have hu : IntKind.u64.wrap (s.size : Int) = (s.size : Int) := IntWalk.u64_in _ (by omega)
  have HU := Lib.hid (dUint_m11 b bs (IntKind.u64.wrap (s.size : Int)) s.size hu w hb (by omega) (by omega))
  have HU2 := Lib.hid (dUint_m11 b bs (s.size : Int) s.size rfl w hb (by omega) (by omega))
  have HG := Lib.hid (glenT (n := s.size) (by omega))
  have HL := Lib.hid hl
  clear hb hl
  unfold RefPost at HU HU2
  unfold BsPost11
  go_enter Tryz.func62, Tryz.ntmps62
  go_wp2_with (first
    | (go_at_call 57; (with_reducible refine HU.out.mono ?_); rintro e w3 ⟨v3, rfl, ho, hb⟩; have HO := Lib.hid ho; have HB := Lib.hid hb; clear ho hb)
    | (go_at_call 57; (with_reducible refine HU2.out.mono ?_); rintro e w3 ⟨v3, rfl, ho, hb⟩; have HO := Lib.hid ho; have HB := Lib.hid hb; clear ho hb)
    | (at_builtin; refine wpList_append_s11 rfl (.tmp 9) (.tmp 10) rfl rfl w.heap.size v3 _ _ rfl HO.out s rfl (by have := HL.out; have := HG.out; rw [List.length_append]; omega) HB.out.size ?_; intro v4 w4 ho hg; have HO4 := Lib.hid ho; have HB4 := Lib.hid (HB.out.grown hg HB.out.size (fun k hk => (HO.out.lt k hk).1)); clear ho hg))
  go_ret
  refine ⟨v4, rfl, ?_, HB4.out⟩
  have h := HO4.out
  rw [← byteVals_append] at h
  have h1 := HL.out
  have h2 := HG.out
  have e1 : (bs ++ varint s.size).length + s.size = (bs ++ (varint s.size ++ numsOf s)).length := by simp only [List.length_append, numsOf_length]; omega
  rw [e1, List.append_assoc] at h
  exact owns_in h (by simp only [List.length_append, numsOf_length]; unfold maxLen; omega)
end Go.Proofs.YteokgklfljhcaaaGreatDoor
