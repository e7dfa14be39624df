/- Part 20 of the proof. -/
import Derived.Lib.AppendStr
import Derived.Test.YtadolfacjolbkaaDoorPe1
import Derived.Test.YtadolfacjolbkaaDoorPe7
import Derived.Test.YtadolfacjolbkaaDoorPe8
import Derived.Test.YtadolfacjolbkaaDoorPe12
import Derived.Test.YtadolfacjolbkaaDoorPe15
import Derived.Test.YtadolfacjolbkaaDoorPe19
namespace Go.Proofs.YtadolfacjolbkaaDoor
set_option linter.unusedVariables false
set_option linter.unusedSimpArgs false
open Go.RowKit
set_option maxRecDepth 100000
/-- the first groups -/
def gtake (n k : Nat) : List Int := (List.range k).map fun i => ((gby n i : Nat) : Int)
theorem gtake_succ (n k : Nat) : gtake n (k + 1) = gtake n k ++ [((gby n k : Nat) : Int)] := by simp [gtake, List.range_succ]
theorem gtake_length (n k : Nat) : (gtake n k).length = k := by simp [gtake]
/-- a call of the reference that answers bs with ys behind it, in an array of its own -/
def RefPost (bs ys : List Int) (w : World) (e : Ending) (w' : World) : Prop :=
  ∃ v', e = .returned v' ∧ w'.ownsRow w.heap.size 5 1 v' (bs ++ ys).length (byteVals (bs ++ ys)) ∧ Below w.heap.size w w'
theorem one_alloc (w : World) (x : Int) : BytesIn (w.alloc (.cells #[.int .u8 x] 5)) (.slice (some ⟨w.heap.size, 0, none⟩) 1 1) [x] := one_in w x
set_option maxHeartbeats 1000000 in
theorem dUint_any (b : Value) (bs : List Int) (n : Nat) (w : World) (hb : BytesIn w b bs) (hn : n < 18446744073709551616) (hl : bs.length + 10 ≤ 140737488355328) :
    Calls Tryd.prog 75 #[b, .int .u64 (n : Int)] w (RefPost bs (varint n) w) := by
  have HY := Lib.hid hb
  have HL := Lib.hid hl
  have HN := Lib.hid hn
  have HG := Lib.hid (glen_le hn)
  obtain ⟨B, hB⟩ : ∃ B, B = w.heap.size := ⟨_, rfl⟩
  unfold RefPost
  rw [← hB]
  have HO0 := Lib.hid (World.ownsRow_nil w B 5 1)
  replace hB := Lib.hid hB
  clear hb hl hn
  go_enter Tryd.func75, Tryd.ntmps75
  go_wp2_with (at_builtin; refine wpList_append_bytes rfl (.tmp 6) (.tmp 7) rfl rfl B _ 0 [] rfl HO0.out b bs rfl HY.out (by have := HL.out; omega) (by rw [hB.out]; exact Nat.le_refl _) ?_; intro v' w1 ho hg _; rw [Nat.zero_add, List.nil_append] at ho; have HO := Lib.hid ho; have HA := Lib.hid (((Below.refl B w).grown hg (by rw [hB.out]; exact Nat.le_refl _) (fun k hk => by cases hk))); clear ho hg)
  go_loopw [1, 5] (fun x v wr => ∃ k : Nat, k < glen n ∧ x = .int .u64 ((n / 128 ^ k : Nat) : Int) ∧ Hid (Below B w wr ∧ wr.ownsRow B 5 1 v (bs.length + k) (byteVals (bs ++ gtake n k)))) (fun x _ _ => (intOf x).toNat)
  case atStart => exact ⟨0, glen_pos n, by simp, HA.out, by simpa [gtake] using HO.out⟩
  case round =>
    clear HA HO HO0
    obtain ⟨k, hk, rfl, H⟩ := hrel
    have HO := Lib.hid H.out.2
    have HA := Lib.hid H.out.1
    clear H
    have hk10 := HG.out
    obtain ⟨m, hm⟩ : ∃ m, m = n / 128 ^ k := ⟨_, rfl⟩
    have hmn : m < 18446744073709551616 := by have := HN.out; have := Nat.div_le_self n (128 ^ k); omega
    have hiff := glen_iff hk
    rw [← hm] at hiff ⊢
    by_cases h : 128 ≤ m
    · have hk1 := hiff.1 h
      have hg1 : m % 128 + 128 = gby n k := by unfold gby; rw [if_pos hk1, ← hm]
      have hgi : (127 : Int) < (m : Int) := by omega
      have hmod : (m : Int).tmod 128 = ((m % 128 : Nat) : Int) := by rw [Int.tmod_eq_emod_of_nonneg (by omega)]; omega
      have hdiv : (m : Int).tdiv 128 = ((m / 128 : Nat) : Int) := by rw [Int.tdiv_eq_ediv_of_nonneg (by omega)]; omega
      have HM := Lib.hid hm
      have HG1 := Lib.hid hg1
      have HK1 := Lib.hid hk1
      clear hm hg1 hiff hk1
      go_wp2_with (at_builtin; refine wpList_append_bytes rfl (.tmp 11) (.tmp 16) rfl rfl B _ (bs.length + k) _ rfl (HO.out.alloc _) _ [(m : Int) % 128 + 128] rfl (one_alloc wr _) (by have := HL.out; simp only [List.length_cons, List.length_nil]; have := HK1.out; omega) (by rw [hB.out, size_alloc]; have := HA.out.size; omega) ?_; intro v' w1 ho hg _; have HO1 := Lib.hid ho; have HA1 := Lib.hid (((HA.out.alloc (by rw [hB.out]; exact HA.out.size) _).grown hg (by rw [hB.out, size_alloc]; have := HA.out.size; omega) (fun k hk => (HO.out.lt k hk).1))); clear ho hg)
      go_roundw
      case rel =>
        refine ⟨k + 1, HK1.out, ?_, HA1.out, ?_⟩
        · rw [div_pow_step, ← HM.out]; rfl
        · have h1 := HO1.out
          rw [← byteVals_append, List.append_assoc, show (m : Int) % 128 + 128 = ((gby n k : Nat) : Int) by rw [← HG1.out]; omega, ← gtake_succ] at h1
          exact h1
      case measure => simp [intOf]; omega
    · have hk1 : k + 1 = glen n := by omega
      have hg1 : m = gby n k := by rw [(gby_last hk1).1]; exact hm
      have hgi : ¬ (127 : Int) < (m : Int) := by omega
      have HG1 := Lib.hid hg1
      have HK1 := Lib.hid hk1
      clear hm hg1 hiff hk1
      go_wp2_with (at_builtin; refine wpList_append_bytes rfl (.tmp 20) (.tmp 23) rfl rfl B _ (bs.length + k) _ rfl (HO.out.alloc _) _ [(m : Int)] rfl (one_alloc wr _) (by have := HL.out; simp only [List.length_cons, List.length_nil]; have := HK1.out; omega) (by rw [hB.out, size_alloc]; have := HA.out.size; omega) ?_; intro v' w1 ho hg _; have HO1 := Lib.hid ho; have HA1 := Lib.hid (((HA.out.alloc (by rw [hB.out]; exact HA.out.size) _).grown hg (by rw [hB.out, size_alloc]; have := HA.out.size; omega) (fun k hk => (HO.out.lt k hk).1))); clear ho hg)
      go_ret
      refine ⟨_, rfl, ?_, HA1.out⟩
      have h1 := HO1.out
      rw [← byteVals_append, List.append_assoc, HG1.out, ← gtake_succ, HK1.out] at h1
      rw [varint_length, ← HK1.out]
      exact h1
theorem wp_append_bytes {w : World} {o : Oper} {a : Act} {K : Act → World → Prop} {Q : Exit → Act → World → Prop} (s x : Operand)
    (ho : o.op = .call { callee := .builtin .append, args := #[s, x], argTypes := #[126, 126] }) (hty : o.type = 126)
    (base : Nat) (v : Value) (n : Nat) (vs : List Value) (hs : a.eval s = v) (hown : w.ownsRow base 5 1 v n vs) (y : Value) (ys : List Int) (hx : a.eval x = y) (hy : BytesIn w y ys) (hl : n + ys.length ≤ 140737488355328) (hb : base ≤ w.heap.size)
    (h : ∀ v' w', w'.ownsRow base 5 1 v' (n + ys.length) (vs ++ byteVals ys) → w.grownBy w' v.ownBlock → OwnOf v v' w → K (a.put o.dst v') w') : o.wp Tryd.prog a w K Q := by
  obtain ⟨v', w', hr, h1, h2, h3⟩ := run_append_bytes w base v n vs hown y ys hy hl hb
  unfold Oper.wp execOp
  simp only [ho, hty, resolve, invoke, builtin, Sem.run_bind, Sem.run_pure, Result.andThen_ok, List.map_toArray, List.map_cons, List.map_nil, hs, hx, hr]
  exact h v' w' h1 h2 h3
set_option maxHeartbeats 1000000 in
theorem dHash_any (b : Value) (bs : List Int) (f : Nat → Int) (w : World) (hb : BytesIn w b bs) (hl : bs.length + 32 ≤ 140737488355328) :
    Calls Tryd.prog 74 #[b, .agg (rowOf .u8 32 f)] w (RefPost bs (rowL 32 f) w) := by
  have HY := Lib.hid (hb.below (below_alloc w (.cells (rowOf .u8 32 f) 43)))
  have HR := RowAt.new w .u8 32 43 f
  have HA := Lib.hid (below_alloc w (.cells (rowOf .u8 32 f) 43))
  have HL := Lib.hid hl
  have HO0 := Lib.hid (World.ownsRow_nil (w.alloc (.cells (rowOf .u8 32 f) 43)) w.heap.size 5 1)
  replace HR := Lib.hid HR
  clear hb hl
  unfold RefPost
  go_enter Tryd.func74, Tryd.ntmps74
  go_upto_region 2 with (fail)
  generalize w.alloc (.cells (rowOf .u8 32 f) 43) = w1 at *
  obtain ⟨w2, hw2⟩ : ∃ w2, w2 = w1.drew := ⟨_, rfl⟩
  replace HY := Lib.hid (show BytesIn w2 b bs by rw [hw2]; exact HY.out)
  replace HR := Lib.hid (show RowAt w2 w.heap.size .u8 32 43 f by rw [hw2]; exact HR.out)
  replace HA := Lib.hid (show Below w.heap.size w w2 by rw [hw2]; exact HA.out.drew)
  replace HO0 := Lib.hid (show w2.ownsRow w.heap.size 5 1 (.slice none 0 0) 0 [] by rw [hw2]; exact HO0.out)
  refine wp_region_any (by kernel_rfl) ?_
  change wpAny _ _ _ _ _ _ _ w1.drew
  rw [← hw2]
  clear hw2
  refine wpAny_take (i := 0) (v := .slice none 0 0) rfl (by kernel_rfl) (by kernel_rfl) (by kernel_rfl) (fun _ _ _ h => h) (Or.inl ⟨by rfl, by intro w; go_simp⟩) ?_
  try simp only [List.getElem_toArray, List.getElem_cons_zero, Act.put, List.setIfInBounds_toArray, List.set_cons_zero, List.set_cons_succ]
  refine wpAny_take (i := 1) (v := b) rfl (by kernel_rfl) (by kernel_rfl) (by kernel_rfl) (fun _ _ _ h => h) (Or.inl ⟨by rfl, by intro w; go_simp⟩) ?_
  try simp only [List.getElem_toArray, List.getElem_cons_succ, List.getElem_cons_zero, Act.put, List.setIfInBounds_toArray, List.set_cons_zero, List.set_cons_succ]
  refine wpAny_take (i := 3) (v := .slice (some ⟨w.heap.size, 0, none⟩) 32 32) rfl (by kernel_rfl) (by kernel_rfl) (by kernel_rfl) (fun _ _ _ h => h) (Or.inl ⟨by rfl, by intro w; go_simp⟩) ?_
  try simp only [List.getElem_toArray, List.getElem_cons_succ, List.getElem_cons_zero, Act.put, List.setIfInBounds_toArray, List.set_cons_zero, List.set_cons_succ]
  refine wpAny_ready (rs := [2]) (by kernel_rfl) (by simp) ?_; refine AllReady.cons rfl (fun K hK => ?_) AllReady.nil; rw [if_pos (by rfl)]
  try simp only [List.getElem_toArray, List.getElem_cons_succ, List.getElem_cons_zero]
  refine wp_append_bytes (.tmp 6) (.tmp 7) rfl rfl w.heap.size _ 0 [] rfl HO0.out b bs rfl HY.out (by have := HL.out; omega) HA.out.size ?_
  intro v3 w3 ho hg hof
  rw [Nat.zero_add, List.nil_append] at ho
  have HA3 := Lib.hid (HA.out.grown hg HA.out.size (fun k hk => by cases hk))
  have HR3 := Lib.hid (show RowAt w3 w.heap.size .u8 32 43 f from (hg.block _ HR.out.lt (by intro h; cases h)).trans HR.out)
  replace ho := Lib.hid ho
  clear hg hof
  refine hK _ _ ?_
  clear hK K
  try simp only [Act.put, List.setIfInBounds_toArray, List.set_cons_zero, List.set_cons_succ]
  refine wpAny_ready (rs := [4]) (by kernel_rfl) (by simp) ?_; refine AllReady.cons rfl (fun K hK => ?_) AllReady.nil; rw [if_pos (by rfl)]
  try simp only [List.getElem_toArray, List.getElem_cons_succ, List.getElem_cons_zero]
  refine wp_append_bytes (.tmp 8) (.tmp 9) rfl rfl w.heap.size _ _ _ rfl ho.out _ (rowL 32 f) rfl (row_in HR3.out (Nat.le_refl _) (Nat.le_refl _) (by simp [maxLen])) (by have := HL.out; simp only [rowL, List.length_map, List.length_range]; omega) HA3.out.size ?_
  intro v4 w4 ho4 hg hof
  have HA4 := Lib.hid (HA3.out.grown hg HA3.out.size (fun k hk => (ho.out.lt k hk).1))
  replace ho4 := Lib.hid ho4
  clear hg hof
  refine hK _ _ ?_
  clear hK K
  try simp only [Act.put, List.setIfInBounds_toArray, List.set_cons_zero, List.set_cons_succ]
  refine wpAny_ready (rs := [5]) (by kernel_rfl) (by simp) ?_; refine AllReady.cons rfl (fun K hK => ?_) AllReady.nil; rw [if_pos (by rfl)]
  try simp only [List.getElem_toArray, List.getElem_cons_succ, List.getElem_cons_zero]
  go_simp
  refine hK _ _ ?_
  clear hK K
  try simp only [List.getElem_toArray, List.getElem_cons_succ, List.getElem_cons_zero, Act.put, List.setIfInBounds_toArray, List.set_cons_zero, List.set_cons_succ]
  refine wpAny_done (by kernel_rfl) ?_ _
  go_wp2_with (fail)
  go_ret
  refine ⟨_, rfl, ?_, HA4.out⟩
  have h1 := ho4.out
  rw [← byteVals_append] at h1
  simpa using h1
#print axioms dHash_any
end Go.Proofs.YtadolfacjolbkaaDoor
namespace Go.Proofs.YtadolfacjolbkaaDoor
set_option linter.unusedVariables false
set_option linter.unusedSimpArgs false
open Go.RowKit
set_option maxRecDepth 100000
set_option linter.unusedSimpArgs false
set_option linter.unusedVariables false
theorem a7cells_nums (s : ByteArray) : Lib.strCells s = byteVals (numsOf s) := by
  unfold Lib.strCells byteVals numsOf
  rw [List.map_map]
  rfl
theorem a7run_append (w : World) (base : Nat) (v : Value) (n : Nat) (vs : List Value) (hown : w.ownsRow base 5 1 v n vs) (s : ByteArray) (hl : n + s.size ≤ 140737488355328) (hb : base ≤ w.heap.size) :
    ∃ v' w', (Builtin.append_ #[126, 9] 126 #[v, .string s]).run Tryd.prog w = .ok v' w' ∧ w'.ownsRow base 5 1 v' (n + s.size) (vs ++ byteVals (numsOf s)) ∧ w.grownBy w' v.ownBlock := by
  obtain ⟨i0, hi, hz0, hz1, hz2⟩ := info_parts infoU8
  obtain ⟨v', w', h1, h2, h3, _⟩ := Lib.run_append_own_string (P := Tryd.prog) w base 126 9 126 5 i0 Tryd.underlying126 Tryd.underlying9 hi hz0 hz1 hz2 v n vs hown s (by unfold maxLen; omega) hl hb
  rw [a7cells_nums] at h2
  exact ⟨v', w', h1, h2, h3⟩
theorem wpList_append_s7 {w : World} {ops : Array Oper} {rest : List Oper} {o : Oper} {a : Act} {Q : Exit → Act → World → Prop} (hgd : o.guard = none) (s x : Operand)
    (ho : o.op = .call { callee := .builtin .append, args := #[s, x], argTypes := #[126, 9] }) (hty : o.type = 126)
    (base : Nat) (v : Value) (n : Nat) (vs : List Value) (hs : a.eval s = v) (hown : w.ownsRow base 5 1 v n vs) (y : ByteArray) (hx : a.eval x = .string y) (hl : n + y.size ≤ 140737488355328) (hb : base ≤ w.heap.size)
    (h : ∀ v' w', w'.ownsRow base 5 1 v' (n + y.size) (vs ++ byteVals (numsOf y)) → w.grownBy w' v.ownBlock → wpList Tryd.prog ops Q rest (a.put o.dst v') w') : wpList Tryd.prog ops Q (o :: rest) a w := by
  refine wpList_plain hgd fun K hK => ?_
  obtain ⟨v', w', hr, h1, h2⟩ := a7run_append w base v n vs hown y hl hb
  unfold Oper.wp execOp
  simp only [ho, hty, resolve, invoke, builtin, Sem.run_bind, Sem.run_pure, Result.andThen_ok, List.map_toArray, List.map_cons, List.map_nil, hs, hx, hr]
  exact hK _ _ (h v' w' h1 h2)
theorem dUint_m (b : Value) (bs : List Int) (m : Int) (n : Nat) (hm : m = (n : Int)) (w : World) (hb : BytesIn w b bs) (hn : n < 18446744073709551616) (hl : bs.length + 10 ≤ 140737488355328) :
    Calls Tryd.prog 75 #[b, .int .u64 m] w (RefPost bs (varint n) w) := by
  subst hm
  exact dUint_any b bs n w hb hn hl
def BsPost (xs : List Int) (w : World) (e : Ending) (w' : World) : Prop := ∃ v', e = .returned v' ∧ BytesIn w' v' xs ∧ Below w.heap.size w w'
theorem dText_any (b : Value) (bs : List Int) (s : ByteArray) (w : World) (hb : BytesIn w b bs) (hl : bs.length + s.size + 10 ≤ 140737488355328) :
    Calls Tryd.prog 73 #[b, .string s] w (BsPost (bs ++ (varint s.size ++ numsOf s)) w) := by
  have hu : IntKind.u64.wrap (s.size : Int) = (s.size : Int) := IntWalk.u64_in _ (by omega)
  have HU := Lib.hid (dUint_m b bs (IntKind.u64.wrap (s.size : Int)) s.size hu w hb (by omega) (by omega))
  have HU2 := Lib.hid (dUint_m b bs (s.size : Int) s.size rfl w hb (by omega) (by omega))
  have HG := Lib.hid (vlen s.size (by omega))
  have HL := Lib.hid hl
  clear hb hl
  unfold RefPost at HU HU2
  unfold BsPost
  go_enter Tryd.func73, Tryd.ntmps73
  go_wp2_with (first
    | (go_at_call 75; (with_reducible refine HU.out.mono ?_); rintro e w3 ⟨v3, rfl, ho, hb⟩; have HO := Lib.hid ho; have HB := Lib.hid hb; clear ho hb)
    | (go_at_call 75; (with_reducible refine HU2.out.mono ?_); rintro e w3 ⟨v3, rfl, ho, hb⟩; have HO := Lib.hid ho; have HB := Lib.hid hb; clear ho hb)
    | (at_builtin; refine wpList_append_s7 rfl (.tmp 9) (.tmp 10) rfl rfl w.heap.size v3 _ _ rfl HO.out s rfl (by have := HL.out; have := HG.out; rw [List.length_append]; omega) HB.out.size ?_; intro v4 w4 ho hg; have HO4 := Lib.hid ho; have HB4 := Lib.hid (HB.out.grown hg HB.out.size (fun k hk => (HO.out.lt k hk).1)); clear ho hg))
  go_ret
  refine ⟨v4, rfl, ?_, HB4.out⟩
  have h := HO4.out
  rw [← byteVals_append] at h
  have h1 := HL.out
  have h2 := HG.out
  have e1 : (bs ++ varint s.size).length + s.size = (bs ++ (varint s.size ++ numsOf s)).length := by simp only [List.length_append, numsOf_length]; omega
  rw [e1, List.append_assoc] at h
  exact owns_in h (by simp only [List.length_append, numsOf_length]; unfold maxLen; omega)
theorem lit1_in (w : World) (x : Int) : BytesIn (w.alloc (.cells #[.int .u8 x] 5)) (.slice (some ⟨w.heap.size, 0, none⟩) 1 1) [x] :=
  owns_in (xs := [x]) ⟨rfl, .inr ⟨w.heap.size, 1, _, rfl, Nat.le_refl _, heap_alloc_new w _, by simp, by decide, rfl, rfl⟩⟩ (by simp [maxLen])
theorem varint6 : varint 6 = [6] := by simp [varint, glen_small (show 6 < 128 by decide), gby]
theorem varint7 : varint 7 = [7] := by simp [varint, glen_small (show 7 < 128 by decide), gby]
set_option maxHeartbeats 2000000 in
theorem rLeaf_any (k v : ByteArray) (w : World) (hs : k.size + v.size ≤ 1048576) :
    Calls Tryd.prog 42 #[.string k, .string v] w fun e w' => e = .returned (.agg (rowOf .u8 32 (avLeafF k v))) ∧ Below w.heap.size w w' := by
  have HG1 := Lib.hid (vlen k.size (by omega))
  have HG2 := Lib.hid (vlen v.size (by omega))
  have HS := Lib.hid hs
  have HB := Lib.hid (below_alloc w (.cells (rowOf .u8 32 (fun _ => 0)) 43))
  have HR := Lib.hid (RowAt.new w .u8 32 43 (fun _ => 0))
  clear hs
  go_enter Tryd.func42, Tryd.ntmps42
  go_upto_region 1 with (fail)
  rw [zeros32]
  generalize w.alloc (.cells (rowOf .u8 32 (fun _ => 0)) 43) = w1 at *
  have HT := Lib.hid (dText_any _ [6] k _ (lit1_in w1 6) (by have := HS.out; simp; omega))
  unfold BsPost at HT
  go_wp2_with (first
    | (go_at_call 73; (with_reducible refine HT.out.mono ?_); rintro e w3 ⟨v3, rfl, hi, hb⟩; clear HT; have HI := Lib.hid hi; have hb2 := (below_alloc w1 (.cells #[.int .u8 6] 5)).trans (hb.mono (by simp)); replace HR := Lib.hid (HR.out.below hb2 HR.out.lt); replace HB := Lib.hid (HB.out.trans (hb2.mono HB.out.size)); clear hi hb hb2)
    | (go_at_call 73; (with_reducible refine (dText_any _ _ v _ HI.out (by have := HS.out; have := HG1.out; simp only [List.length_append, List.length_singleton, numsOf_length]; omega)).mono ?_); rintro e w4 ⟨v4, rfl, hi, hb⟩; replace HI := Lib.hid hi; replace HR := Lib.hid (HR.out.below hb HR.out.lt); replace HB := Lib.hid (HB.out.trans (hb.mono HB.out.size)); clear hi hb)
    | (go_at_call 41; (with_reducible refine (rsum_any _ _ _ HI.out (by have := HS.out; have := HG1.out; have := HG2.out; simp only [List.length_append, List.length_singleton, numsOf_length]; omega)).mono ?_); rintro e w5 ⟨rfl, hb⟩; replace HR := Lib.hid (HR.out.below hb HR.out.lt); replace HB := Lib.hid (HB.out.trans (hb.mono HB.out.size)); clear hb)
    | (refine wpList_store_row rfl 43 (.tmp 4) (.tmp 10) rfl w.heap.size _ rfl rfl 43 _ HR.out (by rw [rowOf_size]; kernel_rfl) (by rw [rowOf_size, rowOf_size]) (rowOf_one _ _ _) ?_))
  refine bodyPost_ret (results_cell_row rfl _ _ w.heap.size 43 _ (0, 0) _ rfl (setRow_heap _ _ _ _ _ _ HR.out) Tryd.underlying43 rfl (by rw [rowOf_size]; kernel_rfl)) rfl ?_
  refine ⟨?_, below_setRow HB.out (Nat.le_refl _) _⟩
  unfold avLeafF
  rw [varint6]
  simp only [List.append_assoc, List.cons_append, List.nil_append]
end Go.Proofs.YtadolfacjolbkaaDoor
namespace Go.Proofs.YtadolfacjolbkaaDoor
set_option linter.unusedVariables false
set_option linter.unusedSimpArgs false
open Go.RowKit
set_option maxRecDepth 100000
set_option linter.unusedSimpArgs false
set_option linter.unusedVariables false
theorem dUint_b (b : Value) (bs : List Int) (m : Int) (n : Nat) (hm : m = (n : Int)) (w : World) (hb : BytesIn w b bs) (hn : n < 18446744073709551616) (hl : bs.length + 10 ≤ 140737488355328) :
    Calls Tryd.prog 75 #[b, .int .u64 m] w (BsPost (bs ++ varint n) w) := by
  refine (dUint_m b bs m n hm w hb hn hl).mono ?_
  rintro e w' ⟨v', he, ho, hbl⟩
  exact ⟨v', he, owns_in ho (by have := vlen n hn; rw [List.length_append]; unfold maxLen; omega), hbl⟩
theorem dHash_b (b : Value) (bs : List Int) (f : Nat → Int) (w : World) (hb : BytesIn w b bs) (hl : bs.length + 32 ≤ 140737488355328) :
    Calls Tryd.prog 74 #[b, .agg (rowOf .u8 32 f)] w (BsPost (bs ++ rowL 32 f) w) := by
  refine (dHash_any b bs f w hb hl).mono ?_
  rintro e w' ⟨v', he, ho, hbl⟩
  exact ⟨v', he, owns_in ho (by rw [List.length_append, rowL32]; unfold maxLen; omega), hbl⟩
set_option maxHeartbeats 2000000 in
theorem rNode_any (n m : Int) (a b : Nat → Int) (w : World) (he : Env w) :
    Calls Tryd.prog 43 #[.int .i64 n, .agg (rowOf .u8 32 a), .int .i64 m, .agg (rowOf .u8 32 b)] w fun e w' => e = .returned (.agg (rowOf .u8 32 (avNodeF (uN n) a (uN m) b))) ∧ Below w.heap.size w w' := by
  have HU1 := Lib.hid (uN_wrap n)
  have HU2 := Lib.hid (uN_wrap m)
  have HL1 := Lib.hid (uN_lt n)
  have HL2 := Lib.hid (uN_lt m)
  have HG1 := Lib.hid (vlen _ (uN_lt n))
  have HG2 := Lib.hid (vlen _ (uN_lt m))
  have M := Lib.hid (ndM_start w a b he)
  clear he
  go_enter Tryd.func43, Tryd.ntmps43
  go_upto_region 1 with (fail)
  rw [zeros32]
  have e0 : ((w.alloc (.cells (rowOf .u8 32 a) 43)).alloc (.cells (rowOf .u8 32 b) 43)).alloc (.cells (rowOf .u8 32 (fun _ => 0)) 43) = ndW w a b := rfl
  rw [e0]
  clear e0
  generalize ndW w a b = w1 at *
  refine wp_region_T (fun w' => RowAt w' w.heap.size .u8 32 43 a) [0, 3, 4] (by kernel_rfl) ?_
  replace M := Lib.hid (M.out.calls ((Below.refl _ w1).drew))
  generalize w1.drew = w2 at *
  refine anyT_takeY (i := 1) (v := .int .i64 n) rfl (by kernel_rfl) (by kernel_rfl) (by kernel_rfl) (fun _ _ _ h => h) (by kernel_rfl) (Or.inl ⟨by rfl, by intro w; go_simp⟩) ?_
  try simp only [List.getElem_toArray, List.getElem_cons_succ, List.getElem_cons_zero, Act.put, List.setIfInBounds_toArray, List.set_cons_zero, List.set_cons_succ]
  refine anyT_takeY (i := 2) (v := .int .u64 (IntKind.u64.wrap n)) rfl (by kernel_rfl) (by kernel_rfl) (by kernel_rfl) (fun _ _ _ h => h) (by kernel_rfl) (Or.inl ⟨by rfl, by intro w; go_simp⟩) ?_
  try simp only [List.getElem_toArray, List.getElem_cons_succ, List.getElem_cons_zero, Act.put, List.setIfInBounds_toArray, List.set_cons_zero, List.set_cons_succ]
  refine anyT_take [5, 6] (i := 4) (v := .agg (rowOf .u8 32 a)) rfl (by kernel_rfl) (by kernel_rfl) (by kernel_rfl) (fun _ _ _ h => h) (by kernel_rfl) (row_yields (by rfl) 43 (.tmp 5) rfl w.heap.size rfl .u8 32 a _ (fun _ h => h) Tryd.underlying43 rfl (by kernel_rfl)) M.out.ra ?_
  try simp only [List.getElem_toArray, List.getElem_cons_succ, List.getElem_cons_zero, Act.put, List.setIfInBounds_toArray, List.set_cons_zero, List.set_cons_succ]
  refine anyT_one (i := 0) (by kernel_rfl) rfl (fun K hK => ?_)
  rw [if_pos (by rfl)]
  try simp only [List.getElem_toArray, List.getElem_cons_succ, List.getElem_cons_zero]
  (go_simp)
  refine hK _ _ (fun _ => (M.out.calls ((below_alloc w2 (.cells #[.int .u8 7] 5)).mono M.out.size)).ra) ?_
  clear hK K
  try simp only [List.getElem_toArray, List.getElem_cons_succ, List.getElem_cons_zero, Act.put, List.setIfInBounds_toArray, List.set_cons_zero, List.set_cons_succ]
  have HI := Lib.hid (lit1_in w2 7)
  replace M := Lib.hid (M.out.calls ((below_alloc w2 (.cells #[.int .u8 7] 5)).mono M.out.size))
  generalize w2.alloc (.cells #[.int .u8 7] 5) = w3 at *
  refine anyT_one (i := 3) (by kernel_rfl) rfl (fun K hK => ?_)
  rw [if_pos (by rfl)]
  try simp only [List.getElem_toArray, List.getElem_cons_succ, List.getElem_cons_zero]
  (go_simp; refine (dUint_b _ [7] _ (uN n) HU1.out _ HI.out HL1.out (by simp)).mono ?_; rintro e w4 ⟨v4, rfl, hi, hb⟩; replace HI := Lib.hid hi; replace M := Lib.hid (M.out.calls (hb.mono M.out.size)); clear hi hb)
  refine hK _ _ (fun _ => M.out.ra) ?_
  clear hK K
  try simp only [List.getElem_toArray, List.getElem_cons_succ, List.getElem_cons_zero, Act.put, List.setIfInBounds_toArray, List.set_cons_zero, List.set_cons_succ]
  refine anyT_one (i := 5) (by kernel_rfl) rfl (fun K hK => ?_)
  rw [if_pos (by rfl)]
  try simp only [List.getElem_toArray, List.getElem_cons_succ, List.getElem_cons_zero]
  (go_simp; refine (dHash_b _ _ a _ HI.out (by have := HG1.out; simp only [List.length_append, List.length_singleton]; omega)).mono ?_; rintro e w5 ⟨v5, rfl, hi, hb⟩; replace HI := Lib.hid hi; replace M := Lib.hid (M.out.calls (hb.mono M.out.size)); clear hi hb)
  refine hK _ _ (not_mem rfl) ?_
  clear hK K
  try simp only [List.getElem_toArray, List.getElem_cons_succ, List.getElem_cons_zero, Act.put, List.setIfInBounds_toArray, List.set_cons_zero, List.set_cons_succ]
  refine anyT_takeY (i := 6) (v := v5) rfl (by kernel_rfl) (by kernel_rfl) (by kernel_rfl) (fun _ _ _ h => h) (by kernel_rfl) (Or.inl ⟨by rfl, by intro w; go_simp⟩) ?_
  try simp only [List.getElem_toArray, List.getElem_cons_succ, List.getElem_cons_zero, Act.put, List.setIfInBounds_toArray, List.set_cons_zero, List.set_cons_succ]
  refine anyT_done (by kernel_rfl) ?_ _
  go_upto_region 2 with (fail)
  refine wp_region_T (fun w' => RowAt w' (w.heap.size + 1) .u8 32 43 b) [3, 4] (by kernel_rfl) ?_
  replace M := Lib.hid (M.out.calls ((Below.refl _ w5).drew))
  replace HI := Lib.hid (show BytesIn w5.drew v5 _ from HI.out.below ((Below.refl _ w5).drew))
  generalize w5.drew = w6 at *
  refine anyT_takeY (i := 0) (v := v5) rfl (by kernel_rfl) (by kernel_rfl) (by kernel_rfl) (fun _ _ _ h => h) (by kernel_rfl) (Or.inl ⟨by rfl, by intro w; go_simp⟩) ?_
  try simp only [List.getElem_toArray, List.getElem_cons_succ, List.getElem_cons_zero, Act.put, List.setIfInBounds_toArray, List.set_cons_zero, List.set_cons_succ]
  refine anyT_takeY (i := 1) (v := .int .i64 m) rfl (by kernel_rfl) (by kernel_rfl) (by kernel_rfl) (fun _ _ _ h => h) (by kernel_rfl) (Or.inl ⟨by rfl, by intro w; go_simp⟩) ?_
  try simp only [List.getElem_toArray, List.getElem_cons_succ, List.getElem_cons_zero, Act.put, List.setIfInBounds_toArray, List.set_cons_zero, List.set_cons_succ]
  refine anyT_takeY (i := 2) (v := .int .u64 (IntKind.u64.wrap m)) rfl (by kernel_rfl) (by kernel_rfl) (by kernel_rfl) (fun _ _ _ h => h) (by kernel_rfl) (Or.inl ⟨by rfl, by intro w; go_simp⟩) ?_
  try simp only [List.getElem_toArray, List.getElem_cons_succ, List.getElem_cons_zero, Act.put, List.setIfInBounds_toArray, List.set_cons_zero, List.set_cons_succ]
  refine anyT_take [5, 6, 7] (i := 4) (v := .agg (rowOf .u8 32 b)) rfl (by kernel_rfl) (by kernel_rfl) (by kernel_rfl) (fun _ _ _ h => h) (by kernel_rfl) (row_yields (by rfl) 43 (.tmp 7) rfl (w.heap.size + 1) rfl .u8 32 b _ (fun _ h => h) Tryd.underlying43 rfl (by kernel_rfl)) M.out.rb ?_
  try simp only [List.getElem_toArray, List.getElem_cons_succ, List.getElem_cons_zero, Act.put, List.setIfInBounds_toArray, List.set_cons_zero, List.set_cons_succ]
  refine anyT_one (i := 3) (by kernel_rfl) rfl (fun K hK => ?_)
  rw [if_pos (by rfl)]
  try simp only [List.getElem_toArray, List.getElem_cons_succ, List.getElem_cons_zero]
  (go_simp; refine (dUint_b _ _ _ (uN m) HU2.out _ HI.out HL2.out (by have := HG1.out; have := rowL32 a; simp only [List.length_append, List.length_singleton]; omega)).mono ?_; rintro e w7 ⟨v7, rfl, hi, hb⟩; replace HI := Lib.hid hi; replace M := Lib.hid (M.out.calls (hb.mono M.out.size)); clear hi hb)
  refine hK _ _ (fun _ => M.out.rb) ?_
  clear hK K
  try simp only [List.getElem_toArray, List.getElem_cons_succ, List.getElem_cons_zero, Act.put, List.setIfInBounds_toArray, List.set_cons_zero, List.set_cons_succ]
  refine anyT_one (i := 5) (by kernel_rfl) rfl (fun K hK => ?_)
  rw [if_pos (by rfl)]
  try simp only [List.getElem_toArray, List.getElem_cons_succ, List.getElem_cons_zero]
  (go_simp; refine (dHash_b _ _ b _ HI.out (by have := HG1.out; have := HG2.out; have := rowL32 a; simp only [List.length_append, List.length_singleton]; omega)).mono ?_; rintro e w8 ⟨v8, rfl, hi, hb⟩; replace HI := Lib.hid hi; replace M := Lib.hid (M.out.calls (hb.mono M.out.size)); clear hi hb)
  refine hK _ _ (not_mem rfl) ?_
  clear hK K
  try simp only [List.getElem_toArray, List.getElem_cons_succ, List.getElem_cons_zero, Act.put, List.setIfInBounds_toArray, List.set_cons_zero, List.set_cons_succ]
  refine anyT_one (i := 6) (by kernel_rfl) rfl (fun K hK => ?_)
  rw [if_pos (by rfl)]
  try simp only [List.getElem_toArray, List.getElem_cons_succ, List.getElem_cons_zero]
  (go_simp; refine (rsum_any _ _ _ HI.out (by have := HG1.out; have := HG2.out; have := rowL32 a; have := rowL32 b; simp only [List.length_append, List.length_singleton]; omega)).mono ?_; rintro e w9 ⟨rfl, hb⟩; replace M := Lib.hid (M.out.calls (hb.mono M.out.size)); clear hb)
  refine hK _ _ (not_mem rfl) ?_
  clear hK K
  try simp only [List.getElem_toArray, List.getElem_cons_succ, List.getElem_cons_zero, Act.put, List.setIfInBounds_toArray, List.set_cons_zero, List.set_cons_succ]
  refine anyT_one (i := 7) (by kernel_rfl) rfl (fun K hK => ?_)
  rw [if_pos (by rfl)]
  try simp only [List.getElem_toArray, List.getElem_cons_succ, List.getElem_cons_zero]
  (refine wp_store_row 43 (.tmp 8) (.tmp 22) rfl (w.heap.size + 1 + 1) _ rfl rfl 43 _ M.out.res (by rw [rowOf_size]; kernel_rfl) (by rw [rowOf_size, rowOf_size]) (rowOf_one _ _ _) ?_)
  refine hK _ _ (not_mem rfl) ?_
  clear hK K
  try simp only [List.getElem_toArray, List.getElem_cons_succ, List.getElem_cons_zero, Act.put, List.setIfInBounds_toArray, List.set_cons_zero, List.set_cons_succ]
  refine anyT_done (by kernel_rfl) ?_ _
  go_wp2_with (fail)
  refine bodyPost_ret (results_cell_row rfl _ _ (w.heap.size + 1 + 1) 43 _ (0, 0) _ rfl (setRow_heap _ _ _ _ _ _ M.out.res) Tryd.underlying43 rfl (by rw [rowOf_size]; kernel_rfl)) rfl ?_
  refine ⟨?_, below_setRow M.out.below (by omega) _⟩
  unfold avNodeF
  rw [varint7]
end Go.Proofs.YtadolfacjolbkaaDoor
namespace Go.Proofs.YtadolfacjolbkaaDoor
set_option linter.unusedVariables false
set_option linter.unusedSimpArgs false
open Go.RowKit
set_option linter.unusedVariables false
def Kept (X : World → Prop) : Prop := ∀ a b : World, X a → Below a.heap.size a b → X b
structure Kp (w0 w : World) (X : World → Prop) : Prop where
  below : Below w0.heap.size w0 w
  x : X w
  kept : Kept X
theorem Kp.start (w : World) : Kp w w (fun _ => True) := ⟨Below.refl _ _, trivial, fun _ _ h _ => h⟩
theorem Kp.call {w0 w w' : World} {X : World → Prop} (m : Kp w0 w X) (h : Below w.heap.size w w') : Kp w0 w' X := ⟨m.below.trans (h.mono m.below.size), m.kept _ _ m.x h, m.kept⟩
theorem Kp.add {w0 w : World} {X Y : World → Prop} (m : Kp w0 w X) (hy : Y w) (hk : Kept Y) : Kp w0 w (fun w => X w ∧ Y w) := ⟨m.below, ⟨m.x, hy⟩, fun a b h hb => ⟨m.kept a b h.1 hb, hk a b h.2 hb⟩⟩
theorem Kp.new {w0 w : World} {X : World → Prop} (m : Kp w0 w X) (o : Obj) : Kp w0 (w.alloc o) X := m.call (below_alloc w o)
theorem kept_blk (g : Nat) (o : Obj) : Kept (fun w => w.heap[g]? = some o) := fun a b h hb => (hb.block g (Array.getElem?_eq_some_iff.1 h).1).trans h
theorem Kept.and {X Y : World → Prop} (h : Kept X) (k : Kept Y) : Kept (fun w => X w ∧ Y w) := fun a b x hb => ⟨h a b x.1 hb, k a b x.2 hb⟩
end Go.Proofs.YtadolfacjolbkaaDoor
namespace Go.Proofs.YtadolfacjolbkaaDoor
set_option linter.unusedVariables false
set_option linter.unusedSimpArgs false
open Go.RowKit
set_option maxRecDepth 100000
set_option linter.unusedSimpArgs false
set_option linter.unusedVariables false
theorem StIn.of_own7 {w : World} {B : Nat} {v : Value} {l : List AvS} (h : w.ownsRow B 111 34 v l.length (flatSt l)) : StIn w v l := by
  rcases h.2 with ⟨rfl, h0⟩ | ⟨tb, cap, cur, rfl, _, hh, hc, hm, _⟩
  · exact ⟨none, 0, by rw [h0], by omega, by simp [maxLen]; omega, .inl (List.eq_nil_of_length_eq_zero h0)⟩
  · refine ⟨_, cap, rfl, hc, Nat.le_trans hc hm, .inr ⟨tb, 0, rfl, (Array.getElem?_eq_some_iff.1 hh).1, fun i s hi j u hu => ?_⟩⟩
    have hj : j < 34 := by have := (List.getElem?_eq_some_iff.1 hu).1; rw [AvS.cells_length] at this; exact this
    have e1 := h.cells (g := tb) rfl (i * 34 + j) u (by rw [flatSt_get l i s hi j hj]; exact hu)
    rw [Addr.add_mid] at e1
    rw [show 0 + i * 34 + j = 0 + (i * 34 + j) by omega]; exact e1
theorem eqItems32d (f g : Nat → Int) (d : Nat) (w : World) : ∀ is : List Nat, (∀ i ∈ is, i < 32) → (Op.eqItems (d + 1) 5 1 (rowOf .u8 32 f) (rowOf .u8 32 g) is).run Tryd.prog w = .ok (is.all fun i => f i == g i) w
  | [], _ => by simp [Op.eqItems]
  | i :: is, h => by
    have hi : i < 32 := h i (by simp)
    have ha : (isAgg 5).run Tryd.prog w = .ok false w := by kernel_rfl
    have hp : ∀ f : Nat → Int, (part 5 (rowOf .u8 32 f) (i * 1)).run Tryd.prog w = .ok (.int .u8 (f i)) w := fun f => by
      simp [part, Sem.run_bind, ha, rowOf_get .u8 32 f i hi]
    have ih := eqItems32d f g d w is (fun j hj => h j (by simp [hj]))
    have pe : (Op.equalIn (d + 1) 5 (.int .u8 (f i)) (.int .u8 (g i))).run Tryd.prog w = .ok (f i == g i) w := run_equalIn_int w d 5 .u8 .u8 _ _ Tryd.underlying5
    simp only [Op.eqItems, Sem.run_bind, hp, pe, Result.andThen_ok, List.all_cons]
    cases hb : (f i == g i)
    · simp
    · simpa using ih
theorem eqIn32d (f : Nat → Int) (w : World) : (Op.equalIn 9999 43 (.agg (rowOf .u8 32 f)) (.agg (rowOf .u8 32 f))).run Tryd.prog w = .ok true w := by
  rw [run_equalIn_array w 9998 (i := (Tryd.prog.info? 5).getD default) _ _ Tryd.underlying43 (by kernel_rfl), show Tryd.prog.cellsOf 5 = 1 by kernel_rfl, eqItems32d f f 9997 w _ (fun i hi => by simpa using hi)]
  simp
theorem stepFields : (Tryd.prog.fieldsOf 110).toList.map (fun f => (f.type, f.offset, f.name != "_")) = [(4, 0, true), (3, 1, true), (43, 2, true)] := by kernel_rfl
theorem eqInStep_self (s : AvS) (w : World) : (Op.equalIn 10000 110 (.agg (stC s)) (.agg (stC s))).run Tryd.prog w = .ok true w := by
  rw [run_equalIn_struct w 9999 110 _ _ (by kernel_rfl) (by kernel_rfl)]
  have hp0 : (part 4 (stC s) 0).run Tryd.prog w = .ok (.bool s.sec) w := by kernel_rfl
  have hp1 : (part 3 (stC s) 1).run Tryd.prog w = .ok (.int .i64 s.many) w := by kernel_rfl
  have hp2 : (part 43 (stC s) 2).run Tryd.prog w = .ok (.agg (rowOf .u8 32 s.oth)) w := by kernel_rfl
  have e0 : (Op.equalIn 9999 4 (.bool s.sec) (.bool s.sec)).run Tryd.prog w = .ok true w := by
    have h := run_equalIn_bool' (P := Tryd.prog) w 9998 4 s.sec s.sec Tryd.underlying4
    rw [beq_self_eq_true] at h; exact h
  have e1 : (Op.equalIn 9999 3 (.int .i64 s.many) (.int .i64 s.many)).run Tryd.prog w = .ok true w := by
    have h := run_equalIn_int (P := Tryd.prog) w 9998 3 .i64 .i64 s.many s.many Tryd.underlying3
    rw [beq_self_eq_true] at h; exact h
  have e2 := eqIn32d s.oth w
  have hf := stepFields
  generalize (Tryd.prog.fieldsOf 110).toList = l at hf ⊢
  generalize 9999 = D at e0 e1 e2 ⊢
  rcases l with _ | ⟨f0, _ | ⟨f1, _ | ⟨f2, _ | ⟨f3, r⟩⟩⟩⟩
  · exact absurd (congrArg List.length hf) (by simp)
  · exact absurd (congrArg List.length hf) (by simp)
  · exact absurd (congrArg List.length hf) (by simp)
  · simp only [List.map_cons, List.map_nil, List.cons.injEq, Prod.mk.injEq, bne_iff_ne, and_true] at hf
    obtain ⟨⟨t0, o0, n0⟩, ⟨t1, o1, n1⟩, ⟨t2, o2, n2⟩⟩ := hf
    rw [← t0] at hp0 e0
    rw [← t1] at hp1 e1
    rw [← t2] at hp2 e2
    rw [← o0] at hp0
    rw [← o1] at hp1
    rw [← o2] at hp2
    have g2 : (Op.eqFields D (stC s) (stC s) [f2]).run Tryd.prog w = .ok true w := by
      rw [Op.eqFields, if_pos n2]
      simp only [Sem.run_bind, hp2, e2, Result.andThen_ok, Bool.not_true, Bool.false_eq_true, if_false, Op.eqFields, Sem.run_pure]
    have g1 : (Op.eqFields D (stC s) (stC s) [f1, f2]).run Tryd.prog w = .ok true w := by
      rw [Op.eqFields, if_pos n1]
      simp only [Sem.run_bind, hp1, e1, Result.andThen_ok, Bool.not_true, Bool.false_eq_true, if_false, g2]
    have g0 : (Op.eqFields D (stC s) (stC s) [f0, f1, f2]).run Tryd.prog w = .ok true w := by
      rw [Op.eqFields, if_pos n0]
      simp only [Sem.run_bind, hp0, e0, Result.andThen_ok, Bool.not_true, Bool.false_eq_true, if_false, g1]
    exact g0
  · exact absurd (congrArg List.length hf) (by simp)
theorem neqStep_self (s : AvS) (w : World) : (binOp .neq 110 (.agg (stC s)) (.agg (stC s))).run Tryd.prog w = .ok (.bool false) w := by
  rw [run_neq_struct, eqInStep_self]
  rfl
theorem execStep {w : World} {o : Oper} {ρ : Operand → Value} (x y : Operand) (ho : o.op = .binOp .neq 110 x y 110) (s : AvS) (hx : ρ x = .agg (stC s)) (hy : ρ y = .agg (stC s)) : (execOp ρ o).run Tryd.prog w = .ok (.value (.bool false)) w := by
  have hb := neqStep_self s w
  have hg : (eqGuard .neq 110 x y (.agg (stC s)) (.agg (stC s))).run Tryd.prog w = .ok () w := by
    have h1 : Tryd.prog.eqGuardType Tryd.prog.depth 110 = false := by kernel_rfl
    unfold eqGuard
    go_simp
  unfold execOp
  simp only [ho, hx, hy, Sem.run_bind, hg, hb, Result.andThen_ok, Sem.run_pure]
end Go.Proofs.YtadolfacjolbkaaDoor
