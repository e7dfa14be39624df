/- Part 8 of the proof. -/
import Derived.Laws.IdiomStrings
import Derived.Test.YtabflppnecemkaaGreatDoorPb1
import Derived.Test.YtabflppnecemkaaGreatDoorPb2
import Derived.Test.YtabflppnecemkaaGreatDoorPb6
import Derived.Test.YtabflppnecemkaaGreatDoorPb7
namespace Go.Proofs.YtabflppnecemkaaGreatDoor
set_option linter.unusedVariables false
set_option linter.unusedSimpArgs false
open Go.RowKit
theorem wpList_min2 {P : Program} {w : World} {ops : Array Oper} {rest : List Oper} {o : Oper} {a : Act} {Q : Exit → Act → World → Prop} (hgd : o.guard = none) (x y : Operand) (t : TypeId)
    (ho : o.op = .call { callee := .builtin .min, args := #[x, y], argTypes := #[t, t] }) (p q : Int) (hx : a.eval x = .int .i64 p) (hy : a.eval y = .int .i64 q) (r : Int) (hr : min p q = r)
    (h : wpList P ops Q rest (a.put o.dst (.int .i64 r)) w) : wpList P ops Q (o :: rest) a w := by
  refine wpList_plain hgd fun K hK => ?_
  have hrun := run_min_int2 (P := P) (w := w) #[t, t] o.type .i64 .i64 p q
  rw [show (if q < p then q else p) = r by rw [← hr]; split <;> omega] at hrun
  unfold Oper.wp
  simp only [execOp, ho, resolve, invoke, builtin, Sem.run_bind, Sem.run_pure, Result.andThen_ok, List.map_toArray, List.map_cons, List.map_nil, hx, hy, hrun]
  exact hK _ _ h
theorem wpList_max2 {P : Program} {w : World} {ops : Array Oper} {rest : List Oper} {o : Oper} {a : Act} {Q : Exit → Act → World → Prop} (hgd : o.guard = none) (x y : Operand) (t : TypeId)
    (ho : o.op = .call { callee := .builtin .max, args := #[x, y], argTypes := #[t, t] }) (p q : Int) (hx : a.eval x = .int .i64 p) (hy : a.eval y = .int .i64 q) (r : Int) (hr : max p q = r)
    (h : wpList P ops Q rest (a.put o.dst (.int .i64 r)) w) : wpList P ops Q (o :: rest) a w := by
  refine wpList_plain hgd fun K hK => ?_
  have hrun := run_max_int2 (P := P) (w := w) #[t, t] o.type .i64 .i64 p q
  rw [show (if p < q then q else p) = r by rw [← hr]; split <;> omega] at hrun
  unfold Oper.wp
  simp only [execOp, ho, resolve, invoke, builtin, Sem.run_bind, Sem.run_pure, Result.andThen_ok, List.map_toArray, List.map_cons, List.map_nil, hx, hy, hrun]
  exact hK _ _ h
end Go.Proofs.YtabflppnecemkaaGreatDoor
namespace Go.Proofs.YtabflppnecemkaaGreatDoor
set_option linter.unusedVariables false
set_option linter.unusedSimpArgs false
open Go.RowKit
set_option maxRecDepth 100000
theorem and15 (n : Nat) (h : n < 1024) : bits .and .i64 (n : Int) 15 = ((n % 16 : Nat) : Int) := by
  have : ∀ b : Fin 1024, bits .and .i64 (b.val : Int) 15 = ((b.val % 16 : Nat) : Int) := by decide +kernel
  exact this ⟨n, h⟩
end Go.Proofs.YtabflppnecemkaaGreatDoor
namespace Go.Proofs.YtabflppnecemkaaGreatDoor
set_option linter.unusedVariables false
set_option linter.unusedSimpArgs false
open Go.RowKit
set_option maxRecDepth 100000
theorem RowAt.range {w : World} {g n : Nat} {k : IntKind} {t : TypeId} {f : Nat → Int} (h : RowAt w g k n t f) : w.rangeAt g 0 (rowOf k n f).toList := fun j v hv => by
  rw [Nat.zero_add, cell_of_row w g j _ t _ h]
  simpa using hv
theorem row_yields {ops : Array Oper} {S : World → Prop} {op : Oper} {a : Act} (hw : Region.wanted op (yielded ops a.tmps) = true) (ty : TypeId) (x : Operand) (ho : op.op = .load ty x)
    (b : Nat) (hx : a.eval x = .pointer (some ⟨b, 0, none⟩)) (k : IntKind) (n : Nat) (f : Nat → Int) (d : TypeDesc) (hS : ∀ w, S w → RowAt w b k n ty f)
    (hu : Tryz.prog.underlying ty = some d) (hd : d.isRow = true) (hi : (Tryz.prog.info? ty).map (·.size) = some n) : YieldsIf Tryz.prog ops S op (.agg (rowOf k n f)) a := by
  have h := yieldsIf_load_mid (P := Tryz.prog) (S := S) hw ty x ho b 0 hx (rowOf k n f).toList d (fun w h => (hS w h).range) hu hd (by rw [hi]; simp [rowOf])
  simpa using h
theorem row_yields_mid {ops : Array Oper} {S : World → Prop} {op : Oper} {a : Act} (hw : Region.wanted op (yielded ops a.tmps) = true) (ty : TypeId) (x : Operand) (ho : op.op = .load ty x)
    (b o : Nat) (hx : a.eval x = .pointer (some ⟨b, o, none⟩)) (k : IntKind) (n : Nat) (f : Nat → Int) (d : TypeDesc) (hS : ∀ w, S w → w.rangeAt b o (rowOf k n f).toList)
    (hu : Tryz.prog.underlying ty = some d) (hd : d.isRow = true) (hi : (Tryz.prog.info? ty).map (·.size) = some n) : YieldsIf Tryz.prog ops S op (.agg (rowOf k n f)) a := by
  have h := yieldsIf_load_mid (P := Tryz.prog) (S := S) hw ty x ho b o hx (rowOf k n f).toList d hS hu hd (by rw [hi]; simp [rowOf])
  simpa using h
end Go.Proofs.YtabflppnecemkaaGreatDoor
namespace Go.Proofs.YtabflppnecemkaaGreatDoor
set_option linter.unusedVariables false
set_option linter.unusedSimpArgs false
open Go.RowKit
set_option maxRecDepth 100000
/-- behind a call of a Writer that was made above the mark B -/
theorem wpost_on {p B : Nat} {v : Value} {xs ys : List Int} {w0 w w' : World} {e : Ending} (h : WPost p v xs ys w e w') (hw : WAt w p v xs) (hb : Below B w0 w) (hB : B ≤ p) :
    e = .returned (.pointer (some ⟨p, 0, none⟩)) ∧ ∃ v', WAt w' p v' (xs ++ ys) ∧ Below B w0 w' := by
  obtain ⟨he, v', h1, h2⟩ := h
  exact ⟨he, v', h1, hb.trans (h2.below hw hB)⟩
theorem wuint_on (p B : Nat) (v : Value) (xs : List Int) (n : Nat) (w0 w : World) (hw : WAt w p v xs) (hb : Below B w0 w) (hB : B ≤ p) (hn : n < 18446744073709551616) (hl : xs.length + 10 ≤ 140737488355328) :
    Calls Tryz.prog 34 #[.pointer (some ⟨p, 0, none⟩), .int .u64 (n : Int)] w fun e w' => e = .returned (.pointer (some ⟨p, 0, none⟩)) ∧ ∃ v', WAt w' p v' (xs ++ varint n) ∧ Below B w0 w' :=
  (wuint_any p v xs n w hw hn hl).mono fun _ _ h => wpost_on h hw hb hB
theorem wuint_lit (p B : Nat) (v : Value) (xs : List Int) (n : Nat) (m : Int) (hm : m = (n : Int)) (w0 w : World) (hw : WAt w p v xs) (hb : Below B w0 w) (hB : B ≤ p) (hn : n < 18446744073709551616) (hl : xs.length + 10 ≤ 140737488355328) :
    Calls Tryz.prog 34 #[.pointer (some ⟨p, 0, none⟩), .int .u64 m] w fun e w' => e = .returned (.pointer (some ⟨p, 0, none⟩)) ∧ ∃ v', WAt w' p v' (xs ++ varint n) ∧ Below B w0 w' := by
  subst hm; exact wuint_on p B v xs n w0 w hw hb hB hn hl
theorem whash_on (p B : Nat) (v : Value) (xs : List Int) (f : Nat → Int) (w0 w : World) (hw : WAt w p v xs) (hb : Below B w0 w) (hB : B ≤ p) (hl : xs.length + 32 ≤ 140737488355328) :
    Calls Tryz.prog 37 #[.pointer (some ⟨p, 0, none⟩), .agg (rowOf .u8 32 f)] w fun e w' => e = .returned (.pointer (some ⟨p, 0, none⟩)) ∧ ∃ v', WAt w' p v' (xs ++ rowL 32 f) ∧ Below B w0 w' :=
  (whash_any p v xs f w hw hl).mono fun _ _ h => wpost_on h hw hb hB
theorem wdone_on (p B : Nat) (v : Value) (xs : List Int) (w0 w : World) (hw : WAt w p v xs) (hb : Below B w0 w) (hB : B ≤ p) (hl : xs.length ≤ 140737488355328) :
    Calls Tryz.prog 38 #[.pointer (some ⟨p, 0, none⟩)] w fun e w' => ∃ v', e = .returned v' ∧ BytesIn w' v' xs ∧ Below B w0 w' :=
  (done_any p v xs w hw hl).mono fun _ _ ⟨v', he, ho, hb'⟩ => ⟨v', he, owns_in ho (by unfold maxLen; omega), hb.trans (hb'.mono (by have := hw.lt; omega))⟩
theorem shSum_on (B : Nat) (v : Value) (xs : List Int) (w0 w : World) (hx : BytesIn w v xs) (hb : Below B w0 w) (hB : B ≤ w.heap.size) (he : Env w) :
    Calls Tryz.prog 77 #[v] w fun e w' => e = .returned (.agg (rowOf .u8 32 (sumF xs))) ∧ Below B w0 w' :=
  (shSum_any v xs w hx he).mono fun _ _ ⟨h1, h2⟩ => ⟨h1, hb.trans (h2.mono hB)⟩
theorem new_on (w : World) : Calls Tryz.prog 32 #[] w fun e w' => e = .returned (.pointer (some ⟨w.heap.size, 0, none⟩)) ∧ WAt w' w.heap.size (.slice none 0 0) [] ∧ Below w.heap.size w w' := new_any w
theorem rowL32 (f : Nat → Int) : (rowL 32 f).length = 32 := rowL_length 32 f
theorem vlen (n : Nat) (h : n < 18446744073709551616) : (varint n).length ≤ 10 := by rw [varint_length]; exact glen_le h
theorem row32_list (f : Nat → Int) : (rowOf .u8 32 f).toList.length = 32 := by simp [rowOf]
/-- what lies in memory while a chain's value is made: the value v in block b, the result's zeros in block r, all above the mark m -/
structure HaveM (w w' : World) (b r B : Nat) (v : Nat → Int) : Prop where
  below : Below w.heap.size w w'
  val : RowAt w' b .u8 32 62 v
  res : RowAt w' r .u8 32 62 (fun _ => 0)
  env : Env w'
  size : B ≤ w'.heap.size
  lo : 2 < B
  hb : b < B
  hr : r < B
theorem HaveM.calls {w w' w2 : World} {b r B : Nat} {v : Nat → Int} (m : HaveM w w' b r B v) (hw : w.heap.size ≤ B) (h : Below B w' w2) : HaveM w w2 b r B v :=
  ⟨m.below.trans (h.mono hw), m.val.below h m.hb, m.res.below h m.hr, m.env.below h m.lo, Nat.le_trans m.size h.size, m.lo, m.hb, m.hr⟩
theorem HaveM.put {w w' : World} {b r B : Nat} {v : Nat → Int} (m : HaveM w w' b r B v) (h : w.heap.size ≤ b ∧ b ≠ r ∧ 2 < b) (v' : Nat → Int) : HaveM w (w'.setRow b (rowOf .u8 32 v')) b r B v' :=
  ⟨below_setRow m.below h.1 _, setRow_heap _ _ _ _ _ _ m.val, (setRow_other _ _ _ _ (Ne.symm h.2.1)).trans m.res, m.env.below (B := b) (below_setRow (Below.refl _ _) (Nat.le_refl _) _) h.2.2, by simpa [World.setRow] using m.size, m.lo, m.hb, m.hr⟩
end Go.Proofs.YtabflppnecemkaaGreatDoor
namespace Go.Proofs.YtabflppnecemkaaGreatDoor
set_option linter.unusedVariables false
set_option linter.unusedSimpArgs false
open Go.RowKit
set_option maxRecDepth 100000
/-- the bytes of a string -/
def numsOf (s : ByteArray) : List Int := s.data.toList.map fun b => (b.toNat : Int)
theorem numsOf_length (s : ByteArray) : (numsOf s).length = s.size := by unfold numsOf; rw [List.length_map]; rfl
theorem numsOf_str (xs : List Int) (h : ∀ x ∈ xs, 0 ≤ x ∧ x < 256) : numsOf (strOfNums xs) = xs := by
  unfold numsOf
  rw [strOfNums_data, List.map_map]
  conv => rhs; rw [← List.map_id xs]
  apply List.map_congr_left
  intro x hx
  obtain ⟨h0, h1⟩ := h x hx
  simp only [Function.comp, id]
  rw [show (UInt8.ofNat x.toNat).toNat = x.toNat % 256 from rfl]
  omega
theorem str_numsOf (s : ByteArray) : strOfNums (numsOf s) = s := by
  apply ByteArray.ext
  apply Array.ext'
  rw [strOfNums_data, numsOf, List.map_map]
  conv => rhs; rw [← List.map_id s.data.toList]
  apply List.map_congr_left
  intro b _
  show UInt8.ofNat ((b.toNat : Nat) : Int).toNat = b
  rw [Int.toNat_natCast]; exact UInt8.ofNat_toNat
/-- the world behind []byte(s) -/
def bytesW (w : World) (s : ByteArray) : World := w.drew.alloc (.cells (bytesRow s (grownCap w s.size 0 5)) 5 ((bytesRow s (grownCap w s.size 0 5)).size, (bytesRow s (grownCap w s.size 0 5)).size + 1))
theorem bytesW_in (w : World) (s : ByteArray) (hs : s.size ≤ maxLen) : BytesIn (bytesW w s) (.slice (some ⟨w.heap.size, 0, none⟩) s.size (grownCap w s.size 0 5)) (numsOf s) := by
  refine ⟨_, _, by rw [numsOf_length], by rw [numsOf_length]; exact grownCap_ge _ _ _ _, by rw [numsOf_length]; exact hs, .inr ⟨_, 0, rfl, fun i x hi => ?_⟩⟩
  have hil : i < s.size := by rw [← numsOf_length]; exact (List.getElem?_eq_some_iff.1 hi).1
  unfold bytesW
  rw [Nat.zero_add]
  have := cell_of_row (w.drew.alloc (.cells (bytesRow s (grownCap w s.size 0 5)) 5 ((bytesRow s (grownCap w s.size 0 5)).size, (bytesRow s (grownCap w s.size 0 5)).size + 1))) w.heap.size i _ _ _ (heap_alloc_new w.drew _)
  rw [this]
  unfold bytesRow
  rw [Array.getElem?_append_left (by rw [Array.size_map]; exact hil), Array.getElem?_map]
  simp only [numsOf, List.getElem?_map, Array.getElem?_toList] at hi
  cases hb : s.data[i]? with
  | none => rw [hb] at hi; cases hi
  | some b => rw [hb] at hi; cases hi; rfl
theorem bytesW_below (w : World) (s : ByteArray) : Below w.heap.size w (bytesW w s) := ((Below.refl _ w).drew).alloc (Nat.le_refl _) _
theorem conv_bytes (w : World) (v : Value) (l : List Int) (h : BytesIn w v l) : (convert 28 9 v).run Tryz.prog w = .ok (.string (strOfNums l)) w := by
  obtain ⟨a, c, rfl, hc, hm, hx⟩ := h
  cases a with
  | none =>
    have hn : l = [] := by
      rcases hx with hx | ⟨_, _, h, _⟩
      · exact hx
      · cases h
    subst hn
    exact run_convert_bytes_nil w 28 5 Tryz.underlying28 Tryz.underlying5 _ _ 9 Tryz.underlying9
  | some ad =>
    rcases hx with rfl | ⟨ab, ao, e, hx1⟩
    · rw [List.length_nil, run_convert_bytes_string w 28 9 5 _ 0 c Tryz.underlying28 Tryz.underlying5 Tryz.underlying9, run_bytesToString w ad 0 c [] (run_loadCells_list (P := Tryz.prog) w ad [] (fun j v hj => by simp at hj))]
      rfl
    · injection e with e; subst e
      refine run_convert_bytes_arg w 28 5 Tryz.underlying28 Tryz.underlying5 ab ao l.length c l rfl (fun i hi => ?_) 9 Tryz.underlying9
      rw [List.getD, List.getElem?_eq_getElem hi]
      exact hx1 i _ (List.getElem?_eq_getElem hi)
theorem size_alloc (w : World) (o : Obj) : (w.alloc o).heap.size = w.heap.size + 1 := by simp
end Go.Proofs.YtabflppnecemkaaGreatDoor
namespace Go.Proofs.YtabflppnecemkaaGreatDoor
set_option linter.unusedVariables false
set_option linter.unusedSimpArgs false
open Go.RowKit
set_option maxRecDepth 100000
/-- the array of y is neither the Writer nor the Writer's -/
def Apart (p : Nat) (v y : Value) : Prop := ∀ k, y.ownBlock = some k → k ≠ p ∧ some k ≠ v.ownBlock
theorem BytesIn.step {p : Nat} {v v' y : Value} {ys : List Int} {w w' : World} (h : BytesIn w y ys) (hs : WStep p v v' w w') (ha : ys ≠ [] → Apart p v y) : BytesIn w' y ys := by
  obtain ⟨a, c, rfl, hc, hm, hx⟩ := h
  refine ⟨a, c, rfl, hc, hm, ?_⟩
  by_cases hne : ys = []
  · exact .inl hne
  · obtain ⟨ab, ao, rfl, hx1⟩ := hx.resolve_left hne
    obtain ⟨h1, h2⟩ := ha hne ab rfl
    exact .inr ⟨ab, ao, rfl, fun i x hi => (World.cell?_of_block (w := w) (hs.block ab (World.block_lt_of_cell? w _ (hx1 i x hi)) h1 h2)).trans (hx1 i x hi)⟩
theorem Apart.of_lt {p : Nat} {v y : Value} {w : World} {xs : List Int} (hw : WAt w p v xs) (h : ∀ k, y.ownBlock = some k → k < p) : Apart p v y := fun k hk => by
  have := h k hk
  exact ⟨by omega, fun e => by have := hw.ne k e.symm; omega⟩
set_option maxRecDepth 100000 in
set_option maxHeartbeats 400000 in
theorem wbytes_any (p : Nat) (v y : Value) (xs ys : List Int) (w : World) (hw : WAt w p v xs) (hy : BytesIn w y ys) (ha : ys ≠ [] → Apart p v y) (hl : xs.length + ys.length + 10 ≤ 140737488355328) :
    Calls Tryz.prog 63 #[.pointer (some ⟨p, 0, none⟩), y] w (WPost p v xs (varint ys.length ++ ys) w) := by
  have HW := Lib.hid hw
  have HY := Lib.hid hy
  have HA := Lib.hid ha
  have HL := Lib.hid hl
  have hlt : ys.length < 18446744073709551616 := by omega
  have HG := Lib.hid (glen_le hlt)
  obtain ⟨a, c, rfl, hc, hm, hx⟩ := hy
  clear hw ha hl hc hm hx
  have HLT := Lib.hid hlt
  unfold WPost
  go_enter Tryz.func63, Tryz.ntmps63
  go_wp2_with (first
    | (go_at_call 34; (with_reducible refine (wuint_any p v xs ys.length _ HW.out HLT.out (by have := HL.out; omega)).mono ?_); rintro e w1 ⟨rfl, v', ho, hb⟩; have H1 := Lib.hid ho; have HS1 := Lib.hid hb; clear ho hb)
    | (go_at_call 64; (with_reducible refine (add_any p v' _ (xs ++ varint ys.length) ys _ H1.out (HY.out.step HS1.out HA.out) (by have := HL.out; have := HG.out; rw [List.length_append, varint_length]; omega)).mono ?_); rintro e w2 ⟨rfl, v2, ho, hb⟩; have H2 := Lib.hid ho; have HS2 := Lib.hid hb; clear ho hb))
  go_ret
  exact ⟨rfl, v2, by rw [← List.append_assoc]; exact H2.out, HS1.out.trans HS2.out⟩
set_option maxRecDepth 100000 in
set_option maxHeartbeats 400000 in
theorem wtext_any (p : Nat) (v : Value) (s : ByteArray) (xs : List Int) (w : World) (hw : WAt w p v xs) (hl : xs.length + s.size + 10 ≤ 140737488355328) :
    Calls Tryz.prog 33 #[.pointer (some ⟨p, 0, none⟩), .string s] w (WPost p v xs (varint s.size ++ numsOf s) w) := by
  have HB := Lib.hid (bytesW_below w s)
  have HW := Lib.hid (hw.below HB.out)
  have HY := Lib.hid (bytesW_in w s (by unfold maxLen; omega))
  have HA := Lib.hid (show numsOf s ≠ [] → Apart p v (.slice (some ⟨w.heap.size, 0, none⟩) s.size (grownCap w s.size 0 5)) from fun _ k hk => by
    simp [Value.ownBlock] at hk
    subst hk
    have := hw.lt
    exact ⟨by omega, fun e => by have := hw.ne _ e.symm; omega⟩)
  have HL := Lib.hid hl
  have hcv : ∀ w : World, (convert 9 28 (.string s)).run Tryz.prog w = .ok (.slice (some ⟨w.heap.size, 0, none⟩) s.size (grownCap w s.size 0 5)) (bytesW w s) :=
    fun w => run_bytes_of_string w 9 28 5 s Tryz.underlying9 Tryz.underlying28 Tryz.underlying5
  clear hw hl
  unfold WPost
  go_enter Tryz.func33, Tryz.ntmps33
  go_wp2_with (go_at_call 63; (with_reducible refine (wbytes_any p v _ xs (numsOf s) _ HW.out HY.out HA.out (by have := HL.out; rw [numsOf_length]; omega)).mono ?_); rintro e w1 ⟨rfl, v', ho, hb⟩; have H1 := Lib.hid ho; have HS1 := Lib.hid hb; clear ho hb)
  go_ret
  exact ⟨rfl, v', by have := H1.out; rw [numsOf_length] at this; exact this, (WStep.of_below HB.out).trans HS1.out⟩
/-- '^n' of a number with a sign -/
theorem not_i64 (n : Int) (h0 : -9223372036854775808 ≤ n) (h1 : n ≤ 9223372036854775807) : bits .xor .i64 (-1) n = -n - 1 := by
  show IntKind.i64.wrap ((BitVec.ofInt 64 (-1) ^^^ BitVec.ofInt 64 n).toNat : Int) = _
  have e1 : BitVec.ofInt 64 (-1) = BitVec.allOnes 64 := by decide
  have e2 : (BitVec.ofInt 64 n).toNat = (n % 18446744073709551616).toNat := by rw [BitVec.toNat_ofInt]; rfl
  rw [e1, BitVec.allOnes_xor, BitVec.toNat_not, e2, IntKind.wrap_i64]
  omega
/-- how a number with a sign becomes one without -/
def zig (n : Int) : Nat := if n < 0 then (-n).toNat * 2 - 1 else n.toNat * 2
theorem zig_lt {n : Int} (h0 : -9223372036854775808 ≤ n) (h1 : n ≤ 9223372036854775807) : zig n < 18446744073709551616 := by
  unfold zig; split <;> omega
set_option maxRecDepth 100000 in
set_option maxHeartbeats 400000 in
theorem wint_any (p : Nat) (v : Value) (n : Int) (xs : List Int) (w : World) (hw : WAt w p v xs) (h0 : -9223372036854775808 ≤ n) (h1 : n ≤ 9223372036854775807) (hl : xs.length + 10 ≤ 140737488355328) :
    Calls Tryz.prog 36 #[.pointer (some ⟨p, 0, none⟩), .int .i64 n] w (WPost p v xs (varint (zig n)) w) := by
  have HW := Lib.hid hw
  have HL := Lib.hid hl
  have HZ := Lib.hid (zig_lt h0 h1)
  have H := wuint_any p v xs (zig n) w hw HZ.out hl
  have H0 := Lib.hid H
  clear hw hl H
  unfold WPost at *
  by_cases hn : n < 0
  · have e : ((zig n : Nat) : Int) = 2 * (-n - 1) + 1 := by unfold zig; rw [if_pos hn]; omega
    rw [e] at H0
    go_enter Tryz.func36, Tryz.ntmps36
    go_wp2_with (go_at_call 34; rw [show (if IntKind.i64.signed = true then (-1 : Int) else 9223372036854775807) = -1 by rfl, not_i64 n h0 h1, show IntKind.u64.wrap (IntKind.u64.wrap (2 * IntKind.u64.wrap (-n - 1)) + 1) = 2 * (-n - 1) + 1 by simp only [IntKind.wrap_u64]; omega]; (with_reducible refine H0.out.mono ?_); rintro e w1 ⟨rfl, v', ho, hb⟩; have H1 := Lib.hid ho; have HS1 := Lib.hid hb; clear ho hb)
    go_ret
    exact ⟨rfl, v', H1.out, HS1.out⟩
  · have e : ((zig n : Nat) : Int) = 2 * n := by unfold zig; rw [if_neg hn]; omega
    rw [e] at H0
    go_enter Tryz.func36, Tryz.ntmps36
    go_wp2_with (go_at_call 34; (with_reducible refine H0.out.mono ?_); rintro e w1 ⟨rfl, v', ho, hb⟩; have H1 := Lib.hid ho; have HS1 := Lib.hid hb; clear ho hb)
    go_ret
    exact ⟨rfl, v', H1.out, HS1.out⟩
end Go.Proofs.YtabflppnecemkaaGreatDoor
namespace Go.Proofs.YtabflppnecemkaaGreatDoor
set_option linter.unusedVariables false
set_option linter.unusedSimpArgs false
open Go.RowKit
set_option maxRecDepth 100000
set_option linter.unusedSimpArgs false
set_option linter.unusedVariables false
theorem wtext_on (p B : Nat) (v : Value) (s : ByteArray) (xs : List Int) (w0 w : World) (hw : WAt w p v xs) (hb : Below B w0 w) (hB : B ≤ p) (hl : xs.length + s.size + 10 ≤ 140737488355328) :
    Calls Tryz.prog 33 #[.pointer (some ⟨p, 0, none⟩), .string s] w fun e w' => e = .returned (.pointer (some ⟨p, 0, none⟩)) ∧ ∃ v', WAt w' p v' (xs ++ (varint s.size ++ numsOf s)) ∧ Below B w0 w' :=
  (wtext_any p v s xs w hw hl).mono fun _ _ h => wpost_on h hw hb hB
/-- the hash of a leaf -/
def avLeafF (k v : ByteArray) : Nat → Int := sumF (varint 6 ++ (varint k.size ++ numsOf k) ++ (varint v.size ++ numsOf v))
/-- the hash of a node -/
def avNodeF (n : Nat) (a : Nat → Int) (m : Nat) (b : Nat → Int) : Nat → Int := sumF (varint 7 ++ varint n ++ rowL 32 a ++ varint m ++ rowL 32 b)
set_option maxHeartbeats 1000000 in
theorem avLeaf_any (k v : ByteArray) (w : World) (he : Env w) (hs : k.size + v.size ≤ 140737488351232) :
    Calls Tryz.prog 85 #[.string k, .string v] w fun e w' => e = .returned (.agg (rowOf .u8 32 (avLeafF k v))) ∧ Below w.heap.size w w' := by
  have HG0 := Lib.hid (vlen 6 (by decide))
  have HG1 := Lib.hid (vlen k.size (by omega))
  have HS := Lib.hid hs
  have HB := Lib.hid (below_alloc w (.cells (rowOf .u8 32 (fun _ => 0)) 62))
  have HR := Lib.hid (RowAt.new w .u8 32 62 (fun _ => 0))
  have HE := Lib.hid (he.below HB.out he.lt)
  have HLT := Lib.hid he.lt
  clear he hs
  go_enter Tryz.func85, Tryz.ntmps85
  go_upto_region 1 with (fail)
  rw [zeros32]
  have HSZ := Lib.hid (show w.heap.size < (w.alloc (.cells (rowOf .u8 32 (fun _ => 0)) 62)).heap.size by simp)
  generalize w.alloc (.cells (rowOf .u8 32 (fun _ => 0)) 62) = w1 at *
  go_wp2_with (first
    | (go_at_call 32; (with_reducible refine (new_on _).mono ?_); rintro e w3 ⟨rfl, HW, HB2⟩; replace HW := Lib.hid HW; replace HB2 := Lib.hid HB2)
    | (go_at_call 34; (with_reducible refine (wuint_lit w1.heap.size w1.heap.size _ _ 6 6 rfl _ _ HW.out HB2.out (Nat.le_refl _) (by decide) (by simp)).mono ?_); rintro e w4 ⟨rfl, v4, hw4, HB4⟩; replace HW := Lib.hid hw4; replace HB2 := Lib.hid HB4; clear hw4 HB4 w3)
    | (go_at_call 33; (with_reducible refine (wtext_on w1.heap.size w1.heap.size _ _ _ _ _ HW.out HB2.out (Nat.le_refl _) (by have := HG0.out; have := HG1.out; have := HS.out; simp only [List.length_append, List.length_nil, numsOf_length]; omega)).mono ?_); rintro e w5 ⟨rfl, v5, hw5, HB5⟩; replace HW := Lib.hid hw5; replace HB2 := Lib.hid HB5; clear hw5 HB5)
    | (go_at_call 38; (with_reducible refine (wdone_on w1.heap.size w1.heap.size _ _ _ _ HW.out HB2.out (Nat.le_refl _) (by have := HG0.out; have := HG1.out; have := HS.out; have := (vlen v.size (by omega)); simp only [List.length_append, List.length_nil, numsOf_length]; omega)).mono ?_); rintro e w8 ⟨v8, rfl, hw8, HB8⟩; replace HB2 := Lib.hid HB8; have HX := Lib.hid hw8; clear hw8 HB8 HW)
    | (go_at_call 77; (with_reducible refine (shSum_on w1.heap.size _ _ _ _ HX.out HB2.out HB2.out.size (HE.out.below HB2.out HE.out.lt)).mono ?_); rintro e w9 ⟨rfl, HB9⟩; replace HB2 := Lib.hid HB9; clear HB9 HX)
    | (refine wpList_store_row rfl 62 (.tmp 4) (.tmp 12) rfl w.heap.size _ rfl rfl 62 _ (HR.out.below HB2.out HSZ.out) (by rw [rowOf_size]; kernel_rfl) (by rw [rowOf_size, rowOf_size]) (rowOf_one _ _ _) ?_))
  refine bodyPost_ret (results_cell_row rfl _ _ w.heap.size 62 _ (0, 0) _ rfl (setRow_heap _ _ _ _ _ _ (HR.out.below HB2.out HSZ.out)) Tryz.underlying62 rfl (by rw [rowOf_size]; kernel_rfl)) rfl ?_
  refine ⟨?_, below_setRow (HB.out.trans (HB2.out.mono HB.out.size)) (Nat.le_refl _) _⟩
  unfold avLeafF
  simp only [List.append_assoc]
/-- what lies in memory while a node is hashed: both hashes, the result's zeros -/
structure NdM (w w' : World) (B : Nat) (a b : Nat → Int) : Prop where
  below : Below w.heap.size w w'
  ra : RowAt w' w.heap.size .u8 32 62 a
  rb : RowAt w' (w.heap.size + 1) .u8 32 62 b
  res : RowAt w' (w.heap.size + 1 + 1) .u8 32 62 (fun _ => 0)
  env : Env w'
  size : B ≤ w'.heap.size
  lo : 2 < B
  hB : w.heap.size + 1 + 1 < B
theorem NdM.calls {w w' w2 : World} {B : Nat} {a b : Nat → Int} (m : NdM w w' B a b) (h : Below B w' w2) : NdM w w2 B a b :=
  ⟨m.below.trans (h.mono (by have := m.hB; omega)), m.ra.below h (by have := m.hB; omega), m.rb.below h (by have := m.hB; omega), m.res.below h m.hB, m.env.below h m.lo, Nat.le_trans m.size h.size, m.lo, m.hB⟩
def ndW (w : World) (a b : Nat → Int) : World := ((w.alloc (.cells (rowOf .u8 32 a) 62)).alloc (.cells (rowOf .u8 32 b) 62)).alloc (.cells (rowOf .u8 32 (fun _ => 0)) 62)
theorem ndM_start (w : World) (a b : Nat → Int) (he : Env w) : NdM w (ndW w a b) (w.heap.size + 1 + 1 + 1) a b := by
  have hb : Below w.heap.size w (ndW w a b) := ((below_alloc w _).trans ((below_alloc _ _).mono (by simp))).trans ((below_alloc _ _).mono (by simp; omega))
  refine ⟨hb, ((RowAt.new w .u8 32 62 a).alloc _).alloc _, ?_, ?_, he.below hb he.lt, by simp [ndW], by have := he.lt; omega, by omega⟩
  · have := (RowAt.new (w.alloc (.cells (rowOf .u8 32 a) 62)) .u8 32 62 b).alloc (.cells (rowOf .u8 32 (fun _ => 0)) 62)
    rw [shSize_alloc] at this; exact this
  · have := RowAt.new ((w.alloc (.cells (rowOf .u8 32 a) 62)).alloc (.cells (rowOf .u8 32 b) 62)) .u8 32 62 (fun _ => 0)
    rw [shSize_alloc, shSize_alloc] at this; exact this
set_option maxHeartbeats 1000000 in
theorem avNode_any (n m : Int) (a b : Nat → Int) (w : World) (he : Env w) :
    Calls Tryz.prog 86 #[.int .i64 n, .agg (rowOf .u8 32 a), .int .i64 m, .agg (rowOf .u8 32 b)] w fun e w' => e = .returned (.agg (rowOf .u8 32 (avNodeF (uN n) a (uN m) b))) ∧ Below w.heap.size w w' := by
  have HU1 := Lib.hid (uN_wrap n)
  have HU2 := Lib.hid (uN_wrap m)
  have HL1 := Lib.hid (uN_lt n)
  have HL2 := Lib.hid (uN_lt m)
  have HG1 := Lib.hid (vlen _ (uN_lt n))
  have HG2 := Lib.hid (vlen _ (uN_lt m))
  have HG0 := Lib.hid (vlen 7 (by decide))
  have M := Lib.hid (ndM_start w a b he)
  clear he
  go_enter Tryz.func86, Tryz.ntmps86
  go_upto_region 1 with (fail)
  rw [zeros32]
  have e0 : ((w.alloc (.cells (rowOf .u8 32 a) 62)).alloc (.cells (rowOf .u8 32 b) 62)).alloc (.cells (rowOf .u8 32 (fun _ => 0)) 62) = ndW w a b := rfl
  rw [e0]
  clear e0
  generalize ndW w a b = w1 at *
  refine wp_region_T (fun w' => RowAt w' w.heap.size .u8 32 62 a ∧ RowAt w' (w.heap.size + 1) .u8 32 62 b) [0, 1, 4, 5, 6, 9, 10, 11, 12, 13] (by kernel_rfl) ?_
  replace M := Lib.hid (M.out.calls ((Below.refl _ w1).drew))
  generalize w1.drew = w2 at *
  clear w1
  refine anyT_takeY (i := 2) (v := .int .i64 n) rfl (by kernel_rfl) (by kernel_rfl) (by kernel_rfl) (fun _ _ _ h => h) (by kernel_rfl) (Or.inl ⟨by rfl, by intro w; go_simp⟩) ?_
  try simp only [List.getElem_toArray, List.getElem_cons_succ, List.getElem_cons_zero, Act.put, List.setIfInBounds_toArray, List.set_cons_zero, List.set_cons_succ]
  refine anyT_takeY (i := 3) (v := .int .u64 (IntKind.u64.wrap n)) rfl (by kernel_rfl) (by kernel_rfl) (by kernel_rfl) (fun _ _ _ h => h) (by kernel_rfl) (Or.inl ⟨by rfl, by intro w; go_simp⟩) ?_
  try simp only [List.getElem_toArray, List.getElem_cons_succ, List.getElem_cons_zero, Act.put, List.setIfInBounds_toArray, List.set_cons_zero, List.set_cons_succ]
  refine anyT_takeY (i := 7) (v := .int .i64 m) rfl (by kernel_rfl) (by kernel_rfl) (by kernel_rfl) (fun _ _ _ h => h) (by kernel_rfl) (Or.inl ⟨by rfl, by intro w; go_simp⟩) ?_
  try simp only [List.getElem_toArray, List.getElem_cons_succ, List.getElem_cons_zero, Act.put, List.setIfInBounds_toArray, List.set_cons_zero, List.set_cons_succ]
  refine anyT_takeY (i := 8) (v := .int .u64 (IntKind.u64.wrap m)) rfl (by kernel_rfl) (by kernel_rfl) (by kernel_rfl) (fun _ _ _ h => h) (by kernel_rfl) (Or.inl ⟨by rfl, by intro w; go_simp⟩) ?_
  try simp only [List.getElem_toArray, List.getElem_cons_succ, List.getElem_cons_zero, Act.put, List.setIfInBounds_toArray, List.set_cons_zero, List.set_cons_succ]
  rw [HU1.out, HU2.out]
  refine anyT_take [14] (i := 5) (v := .agg (rowOf .u8 32 a)) rfl (by kernel_rfl) (by kernel_rfl) (by kernel_rfl) (fun _ _ _ h => h) (by kernel_rfl) (row_yields (by rfl) 62 (.tmp 5) rfl w.heap.size rfl .u8 32 a _ (fun _ h => h.1) Tryz.underlying62 rfl (by kernel_rfl)) ⟨M.out.ra, M.out.rb⟩ ?_
  try simp only [List.getElem_toArray, List.getElem_cons_succ, List.getElem_cons_zero, Act.put, List.setIfInBounds_toArray, List.set_cons_zero, List.set_cons_succ]
  refine anyT_take [14] (i := 10) (v := .agg (rowOf .u8 32 b)) rfl (by kernel_rfl) (by kernel_rfl) (by kernel_rfl) (fun _ _ _ h => h) (by kernel_rfl) (row_yields (by rfl) 62 (.tmp 7) rfl (w.heap.size + 1) rfl .u8 32 b _ (fun _ h => h.2) Tryz.underlying62 rfl (by kernel_rfl)) ⟨M.out.ra, M.out.rb⟩ ?_
  try simp only [List.getElem_toArray, List.getElem_cons_succ, List.getElem_cons_zero, Act.put, List.setIfInBounds_toArray, List.set_cons_zero, List.set_cons_succ]
  refine anyT_one (i := 0) (by kernel_rfl) rfl (fun K hK => ?_)
  rw [if_pos (by rfl)]
  try simp only [List.getElem_toArray, List.getElem_cons_succ, List.getElem_cons_zero]
  (go_simp; refine (new_on _).mono ?_; rintro e w3 ⟨rfl, HW, HB2⟩; have HP := Lib.hid M.out.size; replace M := Lib.hid (M.out.calls (HB2.mono HP.out)); replace HW := Lib.hid HW; clear HB2)
  refine hK _ _ (fun _ => ⟨M.out.ra, M.out.rb⟩) ?_
  clear hK K
  try simp only [List.getElem_toArray, List.getElem_cons_succ, List.getElem_cons_zero, Act.put, List.setIfInBounds_toArray, List.set_cons_zero, List.set_cons_succ]
  generalize w2.heap.size = p at *
  clear w2
  refine anyT_one (i := 1) (by kernel_rfl) rfl (fun K hK => ?_)
  rw [if_pos (by rfl)]
  try simp only [List.getElem_toArray, List.getElem_cons_succ, List.getElem_cons_zero]
  (go_simp; refine (wuint_lit p (w.heap.size + 1 + 1 + 1) _ _ 7 7 rfl _ _ HW.out (Below.refl _ _) HP.out (by decide) (by simp)).mono ?_; rintro e w4 ⟨rfl, v4, hw4, HB4⟩; replace M := Lib.hid (M.out.calls HB4); replace HW := Lib.hid hw4; clear hw4 HB4 w3)
  refine hK _ _ (fun _ => ⟨M.out.ra, M.out.rb⟩) ?_
  clear hK K
  try simp only [List.getElem_toArray, List.getElem_cons_succ, List.getElem_cons_zero, Act.put, List.setIfInBounds_toArray, List.set_cons_zero, List.set_cons_succ]
  refine anyT_one (i := 4) (by kernel_rfl) rfl (fun K hK => ?_)
  rw [if_pos (by rfl)]
  try simp only [List.getElem_toArray, List.getElem_cons_succ, List.getElem_cons_zero]
  (go_simp; refine (wuint_on p (w.heap.size + 1 + 1 + 1) _ _ (uN n) _ _ HW.out (Below.refl _ _) HP.out HL1.out (by have := HG0.out; simp only [List.length_append, List.length_nil]; omega)).mono ?_; rintro e w6 ⟨rfl, v6, hw6, HB6⟩; replace M := Lib.hid (M.out.calls HB6); replace HW := Lib.hid hw6; clear hw6 HB6 w4)
  refine hK _ _ (fun _ => ⟨M.out.ra, M.out.rb⟩) ?_
  clear hK K
  try simp only [List.getElem_toArray, List.getElem_cons_succ, List.getElem_cons_zero, Act.put, List.setIfInBounds_toArray, List.set_cons_zero, List.set_cons_succ]
  refine anyT_one (i := 6) (by kernel_rfl) rfl (fun K hK => ?_)
  rw [if_pos (by rfl)]
  try simp only [List.getElem_toArray, List.getElem_cons_succ, List.getElem_cons_zero]
  (go_simp; refine (whash_on p (w.heap.size + 1 + 1 + 1) _ _ a _ _ HW.out (Below.refl _ _) HP.out (by have := HG0.out; have := HG1.out; simp only [List.length_append, List.length_nil]; omega)).mono ?_; rintro e w5 ⟨rfl, v5, hw5, HB5⟩; replace M := Lib.hid (M.out.calls HB5); replace HW := Lib.hid hw5; clear hw5 HB5 w6)
  refine hK _ _ (fun _ => ⟨M.out.ra, M.out.rb⟩) ?_
  clear hK K
  try simp only [List.getElem_toArray, List.getElem_cons_succ, List.getElem_cons_zero, Act.put, List.setIfInBounds_toArray, List.set_cons_zero, List.set_cons_succ]
  refine anyT_one (i := 9) (by kernel_rfl) rfl (fun K hK => ?_)
  rw [if_pos (by rfl)]
  try simp only [List.getElem_toArray, List.getElem_cons_succ, List.getElem_cons_zero]
  (go_simp; refine (wuint_on p (w.heap.size + 1 + 1 + 1) _ _ (uN m) _ _ HW.out (Below.refl _ _) HP.out HL2.out (by have := HG0.out; have := HG1.out; have := rowL32 a; simp only [List.length_append, List.length_nil]; omega)).mono ?_; rintro e w7 ⟨rfl, v7, hw7, HB7⟩; replace M := Lib.hid (M.out.calls HB7); replace HW := Lib.hid hw7; clear hw7 HB7 w5)
  refine hK _ _ (fun _ => ⟨M.out.ra, M.out.rb⟩) ?_
  clear hK K
  try simp only [List.getElem_toArray, List.getElem_cons_succ, List.getElem_cons_zero, Act.put, List.setIfInBounds_toArray, List.set_cons_zero, List.set_cons_succ]
  refine anyT_one (i := 11) (by kernel_rfl) rfl (fun K hK => ?_)
  rw [if_pos (by rfl)]
  try simp only [List.getElem_toArray, List.getElem_cons_succ, List.getElem_cons_zero]
  (go_simp; refine (whash_on p (w.heap.size + 1 + 1 + 1) _ _ b _ _ HW.out (Below.refl _ _) HP.out (by have := HG0.out; have := HG1.out; have := HG2.out; have := rowL32 a; simp only [List.length_append, List.length_nil]; omega)).mono ?_; rintro e w8 ⟨rfl, v8, hw8, HB8⟩; replace M := Lib.hid (M.out.calls HB8); replace HW := Lib.hid hw8; clear hw8 HB8 w7)
  refine hK _ _ (fun _ => ⟨M.out.ra, M.out.rb⟩) ?_
  clear hK K
  try simp only [List.getElem_toArray, List.getElem_cons_succ, List.getElem_cons_zero, Act.put, List.setIfInBounds_toArray, List.set_cons_zero, List.set_cons_succ]
  refine anyT_one (i := 12) (by kernel_rfl) rfl (fun K hK => ?_)
  rw [if_pos (by rfl)]
  try simp only [List.getElem_toArray, List.getElem_cons_succ, List.getElem_cons_zero]
  (go_simp; refine (wdone_on p (w.heap.size + 1 + 1 + 1) _ _ _ _ HW.out (Below.refl _ _) HP.out (by have := HG0.out; have := HG1.out; have := HG2.out; have := rowL32 a; have := rowL32 b; simp only [List.length_append, List.length_nil]; omega)).mono ?_; rintro e w9 ⟨v9, rfl, hw9, HB9⟩; replace M := Lib.hid (M.out.calls HB9); have HX := Lib.hid hw9; clear hw9 HB9 HW w8)
  refine hK _ _ (fun _ => ⟨M.out.ra, M.out.rb⟩) ?_
  clear hK K
  try simp only [List.getElem_toArray, List.getElem_cons_succ, List.getElem_cons_zero, Act.put, List.setIfInBounds_toArray, List.set_cons_zero, List.set_cons_succ]
  refine anyT_one (i := 13) (by kernel_rfl) rfl (fun K hK => ?_)
  rw [if_pos (by rfl)]
  try simp only [List.getElem_toArray, List.getElem_cons_succ, List.getElem_cons_zero]
  (go_simp; refine (shSum_on (w.heap.size + 1 + 1 + 1) _ _ _ _ HX.out (Below.refl _ _) M.out.size M.out.env).mono ?_; rintro e w10 ⟨rfl, HB10⟩; replace M := Lib.hid (M.out.calls HB10); clear HB10 HX w9)
  refine hK _ _ (fun _ => ⟨M.out.ra, M.out.rb⟩) ?_
  clear hK K
  try simp only [List.getElem_toArray, List.getElem_cons_succ, List.getElem_cons_zero, Act.put, List.setIfInBounds_toArray, List.set_cons_zero, List.set_cons_succ]
  rw [show sumF ([] ++ varint 7 ++ varint (uN n) ++ rowL 32 a ++ varint (uN m) ++ rowL 32 b) = avNodeF (uN n) a (uN m) b from by unfold avNodeF; rw [List.nil_append]]
  refine anyT_one (i := 14) (by kernel_rfl) rfl (fun K hK => ?_)
  rw [if_pos (by rfl)]
  try simp only [List.getElem_toArray, List.getElem_cons_succ, List.getElem_cons_zero]
  (refine wp_store_row 62 (.tmp 8) (.tmp 22) rfl (w.heap.size + 1 + 1) _ rfl rfl 62 _ M.out.res (by rw [rowOf_size]; kernel_rfl) (by rw [rowOf_size, rowOf_size]) (rowOf_one _ _ _) ?_)
  refine hK _ _ (not_mem rfl) ?_
  clear hK K
  try simp only [List.getElem_toArray, List.getElem_cons_succ, List.getElem_cons_zero, Act.put, List.setIfInBounds_toArray, List.set_cons_zero, List.set_cons_succ]
  refine anyT_done (by kernel_rfl) ?_ _
  go_wp2_with (fail)
  refine bodyPost_ret (results_cell_row rfl _ _ (w.heap.size + 1 + 1) 62 (rowOf .u8 32 (avNodeF (uN n) a (uN m) b)) (0, 0) _ rfl (setRow_heap _ _ _ _ _ _ M.out.res) Tryz.underlying62 rfl (by rw [rowOf_size]; kernel_rfl)) rfl ?_
  exact ⟨rfl, below_setRow M.out.below (by omega) _⟩
end Go.Proofs.YtabflppnecemkaaGreatDoor
