/- Part 38 of the proof. -/
import Derived.Lib.AppendStr
import Derived.Test.YtjocbpabbbdkcaaDoorRu3
import Derived.Test.YtjocbpabbbdkcaaDoorRu16
import Derived.Test.YtjocbpabbbdkcaaDoorRu36
import Derived.Test.YtjocbpabbbdkcaaDoorRu37
namespace Go.Proofs.YtjocbpabbbdkcaaDoor
set_option linter.unusedVariables false
set_option linter.unusedSimpArgs false
open Go.RowKit
set_option maxRecDepth 100000
set_option linter.unusedSimpArgs false
set_option linter.unusedVariables false
theorem a7cells_nums (s : ByteArray) : Lib.strCells s = byteVals (numsOf s) := by
  unfold Lib.strCells byteVals numsOf
  rw [List.map_map]
  rfl
theorem a7run_append (w : World) (base : Nat) (v : Value) (n : Nat) (vs : List Value) (hown : w.ownsRow base 5 1 v n vs) (s : ByteArray) (hl : n + s.size ≤ 140737488355328) (hb : base ≤ w.heap.size) :
    ∃ v' w', (Builtin.append_ #[94, 9] 94 #[v, .string s]).run Tryd.prog w = .ok v' w' ∧ w'.ownsRow base 5 1 v' (n + s.size) (vs ++ byteVals (numsOf s)) ∧ w.grownBy w' v.ownBlock := by
  obtain ⟨i0, hi, hz0, hz1, hz2⟩ := info_parts infoU8
  obtain ⟨v', w', h1, h2, h3, _⟩ := Lib.run_append_own_string (P := Tryd.prog) w base 94 9 94 5 i0 Tryd.underlying94 Tryd.underlying9 hi hz0 hz1 hz2 v n vs hown s (by unfold maxLen; omega) hl hb
  rw [a7cells_nums] at h2
  exact ⟨v', w', h1, h2, h3⟩
theorem wpList_append_s7 {w : World} {ops : Array Oper} {rest : List Oper} {o : Oper} {a : Act} {Q : Exit → Act → World → Prop} (hgd : o.guard = none) (s x : Operand)
    (ho : o.op = .call { callee := .builtin .append, args := #[s, x], argTypes := #[94, 9] }) (hty : o.type = 94)
    (base : Nat) (v : Value) (n : Nat) (vs : List Value) (hs : a.eval s = v) (hown : w.ownsRow base 5 1 v n vs) (y : ByteArray) (hx : a.eval x = .string y) (hl : n + y.size ≤ 140737488355328) (hb : base ≤ w.heap.size)
    (h : ∀ v' w', w'.ownsRow base 5 1 v' (n + y.size) (vs ++ byteVals (numsOf y)) → w.grownBy w' v.ownBlock → wpList Tryd.prog ops Q rest (a.put o.dst v') w') : wpList Tryd.prog ops Q (o :: rest) a w := by
  refine wpList_plain hgd fun K hK => ?_
  obtain ⟨v', w', hr, h1, h2⟩ := a7run_append w base v n vs hown y hl hb
  unfold Oper.wp execOp
  simp only [ho, hty, resolve, invoke, builtin, Sem.run_bind, Sem.run_pure, Result.andThen_ok, List.map_toArray, List.map_cons, List.map_nil, hs, hx, hr]
  exact hK _ _ (h v' w' h1 h2)
theorem dUint_m (b : Value) (bs : List Int) (m : Int) (n : Nat) (hm : m = (n : Int)) (w : World) (hb : BytesIn w b bs) (hn : n < 18446744073709551616) (hl : bs.length + 10 ≤ 140737488355328) :
    Calls Tryd.prog 50 #[b, .int .u64 m] w (RefPost bs (varint n) w) := by
  subst hm
  exact dUint_any b bs n w hb hn hl
def BsPost (xs : List Int) (w : World) (e : Ending) (w' : World) : Prop := ∃ v', e = .returned v' ∧ BytesIn w' v' xs ∧ Below w.heap.size w w'
theorem dText_any (b : Value) (bs : List Int) (s : ByteArray) (w : World) (hb : BytesIn w b bs) (hl : bs.length + s.size + 10 ≤ 140737488355328) :
    Calls Tryd.prog 47 #[b, .string s] w (BsPost (bs ++ (varint s.size ++ numsOf s)) w) := by
  have hu : IntKind.u64.wrap (s.size : Int) = (s.size : Int) := IntWalk.u64_in _ (by omega)
  have HU := Lib.hid (dUint_m b bs (IntKind.u64.wrap (s.size : Int)) s.size hu w hb (by omega) (by omega))
  have HU2 := Lib.hid (dUint_m b bs (s.size : Int) s.size rfl w hb (by omega) (by omega))
  have HG := Lib.hid (vlen s.size (by omega))
  have HL := Lib.hid hl
  clear hb hl
  unfold RefPost at HU HU2
  unfold BsPost
  go_enter Tryd.func47, Tryd.ntmps47
  go_wp2_with (first
    | (go_at_call 50; (with_reducible refine HU.out.mono ?_); rintro e w3 ⟨v3, rfl, ho, hb⟩; have HO := Lib.hid ho; have HB := Lib.hid hb; clear ho hb)
    | (go_at_call 50; (with_reducible refine HU2.out.mono ?_); rintro e w3 ⟨v3, rfl, ho, hb⟩; have HO := Lib.hid ho; have HB := Lib.hid hb; clear ho hb)
    | (at_builtin; refine wpList_append_s7 rfl (.tmp 9) (.tmp 10) rfl rfl w.heap.size v3 _ _ rfl HO.out s rfl (by have := HL.out; have := HG.out; rw [List.length_append]; omega) HB.out.size ?_; intro v4 w4 ho hg; have HO4 := Lib.hid ho; have HB4 := Lib.hid (HB.out.grown hg HB.out.size (fun k hk => (HO.out.lt k hk).1)); clear ho hg))
  go_ret
  refine ⟨v4, rfl, ?_, HB4.out⟩
  have h := HO4.out
  rw [← byteVals_append] at h
  have h1 := HL.out
  have h2 := HG.out
  have e1 : (bs ++ varint s.size).length + s.size = (bs ++ (varint s.size ++ numsOf s)).length := by simp only [List.length_append, numsOf_length]; omega
  rw [e1, List.append_assoc] at h
  exact owns_in h (by simp only [List.length_append, numsOf_length]; unfold maxLen; omega)
theorem lit1_in (w : World) (x : Int) : BytesIn (w.alloc (.cells #[.int .u8 x] 5)) (.slice (some ⟨w.heap.size, 0, none⟩) 1 1) [x] :=
  owns_in (xs := [x]) ⟨rfl, .inr ⟨w.heap.size, 1, _, rfl, Nat.le_refl _, heap_alloc_new w _, by simp, by decide, rfl, rfl⟩⟩ (by simp [maxLen])
theorem varint6 : varint 6 = [6] := by simp [varint, glen_small (show 6 < 128 by decide), gby]
theorem varint7 : varint 7 = [7] := by simp [varint, glen_small (show 7 < 128 by decide), gby]
set_option maxHeartbeats 2000000 in
theorem rLeaf_any (k v : ByteArray) (w : World) (hs : k.size + v.size ≤ 1048576) :
    Calls Tryd.prog 24 #[.string k, .string v] w fun e w' => e = .returned (.agg (rowOf .u8 32 (avLeafF k v))) ∧ Below w.heap.size w w' := by
  have HG1 := Lib.hid (vlen k.size (by omega))
  have HG2 := Lib.hid (vlen v.size (by omega))
  have HS := Lib.hid hs
  have HB := Lib.hid (below_alloc w (.cells (rowOf .u8 32 (fun _ => 0)) 50))
  have HR := Lib.hid (RowAt.new w .u8 32 50 (fun _ => 0))
  clear hs
  go_enter Tryd.func24, Tryd.ntmps24
  go_upto_region 1 with (fail)
  rw [zeros32]
  generalize w.alloc (.cells (rowOf .u8 32 (fun _ => 0)) 50) = w1 at *
  have HT := Lib.hid (dText_any _ [6] k _ (lit1_in w1 6) (by have := HS.out; simp; omega))
  unfold BsPost at HT
  go_wp2_with (first
    | (go_at_call 47; (with_reducible refine HT.out.mono ?_); rintro e w3 ⟨v3, rfl, hi, hb⟩; clear HT; have HI := Lib.hid hi; have hb2 := (below_alloc w1 (.cells #[.int .u8 6] 5)).trans (hb.mono (by simp)); replace HR := Lib.hid (HR.out.below hb2 HR.out.lt); replace HB := Lib.hid (HB.out.trans (hb2.mono HB.out.size)); clear hi hb hb2)
    | (go_at_call 47; (with_reducible refine (dText_any _ _ v _ HI.out (by have := HS.out; have := HG1.out; simp only [List.length_append, List.length_singleton, numsOf_length]; omega)).mono ?_); rintro e w4 ⟨v4, rfl, hi, hb⟩; replace HI := Lib.hid hi; replace HR := Lib.hid (HR.out.below hb HR.out.lt); replace HB := Lib.hid (HB.out.trans (hb.mono HB.out.size)); clear hi hb)
    | (go_at_call 41; (with_reducible refine (rsum_any _ _ _ HI.out (by have := HS.out; have := HG1.out; have := HG2.out; simp only [List.length_append, List.length_singleton, numsOf_length]; omega)).mono ?_); rintro e w5 ⟨rfl, hb⟩; replace HR := Lib.hid (HR.out.below hb HR.out.lt); replace HB := Lib.hid (HB.out.trans (hb.mono HB.out.size)); clear hb)
    | (refine wpList_store_row rfl 50 (.tmp 4) (.tmp 10) rfl w.heap.size _ rfl rfl 50 _ HR.out (by rw [rowOf_size]; kernel_rfl) (by rw [rowOf_size, rowOf_size]) (rowOf_one _ _ _) ?_))
  refine bodyPost_ret (results_cell_row rfl _ _ w.heap.size 50 _ (0, 0) _ rfl (setRow_heap _ _ _ _ _ _ HR.out) Tryd.underlying50 rfl (by rw [rowOf_size]; kernel_rfl)) rfl ?_
  refine ⟨?_, below_setRow HB.out (Nat.le_refl _) _⟩
  unfold avLeafF
  rw [varint6]
  simp only [List.append_assoc, List.cons_append, List.nil_append]
end Go.Proofs.YtjocbpabbbdkcaaDoor
