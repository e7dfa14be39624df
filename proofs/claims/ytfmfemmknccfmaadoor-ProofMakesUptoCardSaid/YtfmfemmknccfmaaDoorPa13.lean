/- Part 13 of the proof. -/
import Derived.Laws.IdiomStrings
import Derived.Test.YtfmfemmknccfmaaDoorPa9
import Derived.Test.YtfmfemmknccfmaaDoorPa10
import Derived.Test.YtfmfemmknccfmaaDoorPa12
namespace Go.Proofs.YtfmfemmknccfmaaDoor
set_option linter.unusedVariables false
set_option linter.unusedSimpArgs false
open Go.RowKit
set_option maxRecDepth 100000
theorem RowAt.range {w : World} {g n : Nat} {k : IntKind} {t : TypeId} {f : Nat → Int} (h : RowAt w g k n t f) : w.rangeAt g 0 (rowOf k n f).toList := fun j v hv => by
  rw [Nat.zero_add, cell_of_row w g j _ t _ h]
  simpa using hv
theorem row_yields {ops : Array Oper} {S : World → Prop} {op : Oper} {a : Act} (hw : Region.wanted op (yielded ops a.tmps) = true) (ty : TypeId) (x : Operand) (ho : op.op = .load ty x)
    (b : Nat) (hx : a.eval x = .pointer (some ⟨b, 0, none⟩)) (k : IntKind) (n : Nat) (f : Nat → Int) (d : TypeDesc) (hS : ∀ w, S w → RowAt w b k n ty f)
    (hu : Tryd.prog.underlying ty = some d) (hd : d.isRow = true) (hi : (Tryd.prog.info? ty).map (·.size) = some n) : YieldsIf Tryd.prog ops S op (.agg (rowOf k n f)) a := by
  have h := yieldsIf_load_mid (P := Tryd.prog) (S := S) hw ty x ho b 0 hx (rowOf k n f).toList d (fun w h => (hS w h).range) hu hd (by rw [hi]; simp [rowOf])
  simpa using h
theorem row_yields_mid {ops : Array Oper} {S : World → Prop} {op : Oper} {a : Act} (hw : Region.wanted op (yielded ops a.tmps) = true) (ty : TypeId) (x : Operand) (ho : op.op = .load ty x)
    (b o : Nat) (hx : a.eval x = .pointer (some ⟨b, o, none⟩)) (k : IntKind) (n : Nat) (f : Nat → Int) (d : TypeDesc) (hS : ∀ w, S w → w.rangeAt b o (rowOf k n f).toList)
    (hu : Tryd.prog.underlying ty = some d) (hd : d.isRow = true) (hi : (Tryd.prog.info? ty).map (·.size) = some n) : YieldsIf Tryd.prog ops S op (.agg (rowOf k n f)) a := by
  have h := yieldsIf_load_mid (P := Tryd.prog) (S := S) hw ty x ho b o hx (rowOf k n f).toList d hS hu hd (by rw [hi]; simp [rowOf])
  simpa using h
end Go.Proofs.YtfmfemmknccfmaaDoor
namespace Go.Proofs.YtfmfemmknccfmaaDoor
set_option linter.unusedVariables false
set_option linter.unusedSimpArgs false
open Go.RowKit
set_option maxRecDepth 100000
/-- behind a call of a Writer that was made above the mark B -/
theorem wpost_on {p B : Nat} {v : Value} {xs ys : List Int} {w0 w w' : World} {e : Ending} (h : WPost p v xs ys w e w') (hw : WAt w p v xs) (hb : Below B w0 w) (hB : B ≤ p) :
    e = .returned (.pointer (some ⟨p, 0, none⟩)) ∧ ∃ v', WAt w' p v' (xs ++ ys) ∧ Below B w0 w' := by
  obtain ⟨he, v', h1, h2⟩ := h
  exact ⟨he, v', h1, hb.trans (h2.below hw hB)⟩
theorem wuint_on (p B : Nat) (v : Value) (xs : List Int) (n : Nat) (w0 w : World) (hw : WAt w p v xs) (hb : Below B w0 w) (hB : B ≤ p) (hn : n < 18446744073709551616) (hl : xs.length + 10 ≤ 140737488355328) :
    Calls Tryd.prog 94 #[.pointer (some ⟨p, 0, none⟩), .int .u64 (n : Int)] w fun e w' => e = .returned (.pointer (some ⟨p, 0, none⟩)) ∧ ∃ v', WAt w' p v' (xs ++ varint n) ∧ Below B w0 w' :=
  (wuint_any p v xs n w hw hn hl).mono fun _ _ h => wpost_on h hw hb hB
theorem wuint_lit (p B : Nat) (v : Value) (xs : List Int) (n : Nat) (m : Int) (hm : m = (n : Int)) (w0 w : World) (hw : WAt w p v xs) (hb : Below B w0 w) (hB : B ≤ p) (hn : n < 18446744073709551616) (hl : xs.length + 10 ≤ 140737488355328) :
    Calls Tryd.prog 94 #[.pointer (some ⟨p, 0, none⟩), .int .u64 m] w fun e w' => e = .returned (.pointer (some ⟨p, 0, none⟩)) ∧ ∃ v', WAt w' p v' (xs ++ varint n) ∧ Below B w0 w' := by
  subst hm; exact wuint_on p B v xs n w0 w hw hb hB hn hl
theorem whash_on (p B : Nat) (v : Value) (xs : List Int) (f : Nat → Int) (w0 w : World) (hw : WAt w p v xs) (hb : Below B w0 w) (hB : B ≤ p) (hl : xs.length + 32 ≤ 140737488355328) :
    Calls Tryd.prog 97 #[.pointer (some ⟨p, 0, none⟩), .agg (rowOf .u8 32 f)] w fun e w' => e = .returned (.pointer (some ⟨p, 0, none⟩)) ∧ ∃ v', WAt w' p v' (xs ++ rowL 32 f) ∧ Below B w0 w' :=
  (whash_any p v xs f w hw hl).mono fun _ _ h => wpost_on h hw hb hB
theorem wdone_on (p B : Nat) (v : Value) (xs : List Int) (w0 w : World) (hw : WAt w p v xs) (hb : Below B w0 w) (hB : B ≤ p) (hl : xs.length ≤ 140737488355328) :
    Calls Tryd.prog 96 #[.pointer (some ⟨p, 0, none⟩)] w fun e w' => ∃ v', e = .returned v' ∧ BytesIn w' v' xs ∧ Below B w0 w' :=
  (done_any p v xs w hw hl).mono fun _ _ ⟨v', he, ho, hb'⟩ => ⟨v', he, owns_in ho (by unfold maxLen; omega), hb.trans (hb'.mono (by have := hw.lt; omega))⟩
theorem shSum_on (B : Nat) (v : Value) (xs : List Int) (w0 w : World) (hx : BytesIn w v xs) (hb : Below B w0 w) (hB : B ≤ w.heap.size) (he : Env w) :
    Calls Tryd.prog 48 #[v] w fun e w' => e = .returned (.agg (rowOf .u8 32 (sumF xs))) ∧ Below B w0 w' :=
  (shSum_any v xs w hx he).mono fun _ _ ⟨h1, h2⟩ => ⟨h1, hb.trans (h2.mono hB)⟩
theorem new_on (w : World) : Calls Tryd.prog 93 #[] w fun e w' => e = .returned (.pointer (some ⟨w.heap.size, 0, none⟩)) ∧ WAt w' w.heap.size (.slice none 0 0) [] ∧ Below w.heap.size w w' := new_any w
theorem rowL32 (f : Nat → Int) : (rowL 32 f).length = 32 := rowL_length 32 f
theorem vlen (n : Nat) (h : n < 18446744073709551616) : (varint n).length ≤ 10 := by rw [varint_length]; exact glen_le h
theorem row32_list (f : Nat → Int) : (rowOf .u8 32 f).toList.length = 32 := by simp [rowOf]
/-- what lies in memory while a chain's value is made: the value v in block b, the result's zeros in block r, all above the mark m -/
structure HaveM (w w' : World) (b r B : Nat) (v : Nat → Int) : Prop where
  below : Below w.heap.size w w'
  val : RowAt w' b .u8 32 43 v
  res : RowAt w' r .u8 32 43 (fun _ => 0)
  env : Env w'
  size : B ≤ w'.heap.size
  lo : 2 < B
  hb : b < B
  hr : r < B
theorem HaveM.calls {w w' w2 : World} {b r B : Nat} {v : Nat → Int} (m : HaveM w w' b r B v) (hw : w.heap.size ≤ B) (h : Below B w' w2) : HaveM w w2 b r B v :=
  ⟨m.below.trans (h.mono hw), m.val.below h m.hb, m.res.below h m.hr, m.env.below h m.lo, Nat.le_trans m.size h.size, m.lo, m.hb, m.hr⟩
theorem HaveM.put {w w' : World} {b r B : Nat} {v : Nat → Int} (m : HaveM w w' b r B v) (h : w.heap.size ≤ b ∧ b ≠ r ∧ 2 < b) (v' : Nat → Int) : HaveM w (w'.setRow b (rowOf .u8 32 v')) b r B v' :=
  ⟨below_setRow m.below h.1 _, setRow_heap _ _ _ _ _ _ m.val, (setRow_other _ _ _ _ (Ne.symm h.2.1)).trans m.res, m.env.below (B := b) (below_setRow (Below.refl _ _) (Nat.le_refl _) _) h.2.2, by simpa [World.setRow] using m.size, m.lo, m.hb, m.hr⟩
end Go.Proofs.YtfmfemmknccfmaaDoor
namespace Go.Proofs.YtfmfemmknccfmaaDoor
set_option linter.unusedVariables false
set_option linter.unusedSimpArgs false
open Go.RowKit
set_option maxRecDepth 100000
/-- the bytes of a string -/
def numsOf (s : ByteArray) : List Int := s.data.toList.map fun b => (b.toNat : Int)
theorem numsOf_length (s : ByteArray) : (numsOf s).length = s.size := by unfold numsOf; rw [List.length_map]; rfl
theorem numsOf_str (xs : List Int) (h : ∀ x ∈ xs, 0 ≤ x ∧ x < 256) : numsOf (strOfNums xs) = xs := by
  unfold numsOf
  rw [strOfNums_data, List.map_map]
  conv => rhs; rw [← List.map_id xs]
  apply List.map_congr_left
  intro x hx
  obtain ⟨h0, h1⟩ := h x hx
  simp only [Function.comp, id]
  rw [show (UInt8.ofNat x.toNat).toNat = x.toNat % 256 from rfl]
  omega
theorem str_numsOf (s : ByteArray) : strOfNums (numsOf s) = s := by
  apply ByteArray.ext
  apply Array.ext'
  rw [strOfNums_data, numsOf, List.map_map]
  conv => rhs; rw [← List.map_id s.data.toList]
  apply List.map_congr_left
  intro b _
  show UInt8.ofNat ((b.toNat : Nat) : Int).toNat = b
  rw [Int.toNat_natCast]; exact UInt8.ofNat_toNat
/-- the world behind []byte(s) -/
def bytesW (w : World) (s : ByteArray) : World := w.drew.alloc (.cells (bytesRow s (grownCap w s.size 0 5)) 5 ((bytesRow s (grownCap w s.size 0 5)).size, (bytesRow s (grownCap w s.size 0 5)).size + 1))
theorem bytesW_in (w : World) (s : ByteArray) (hs : s.size ≤ maxLen) : BytesIn (bytesW w s) (.slice (some ⟨w.heap.size, 0, none⟩) s.size (grownCap w s.size 0 5)) (numsOf s) := by
  refine ⟨_, _, by rw [numsOf_length], by rw [numsOf_length]; exact grownCap_ge _ _ _ _, by rw [numsOf_length]; exact hs, .inr ⟨_, 0, rfl, fun i x hi => ?_⟩⟩
  have hil : i < s.size := by rw [← numsOf_length]; exact (List.getElem?_eq_some_iff.1 hi).1
  unfold bytesW
  rw [Nat.zero_add]
  have := cell_of_row (w.drew.alloc (.cells (bytesRow s (grownCap w s.size 0 5)) 5 ((bytesRow s (grownCap w s.size 0 5)).size, (bytesRow s (grownCap w s.size 0 5)).size + 1))) w.heap.size i _ _ _ (heap_alloc_new w.drew _)
  rw [this]
  unfold bytesRow
  rw [Array.getElem?_append_left (by rw [Array.size_map]; exact hil), Array.getElem?_map]
  simp only [numsOf, List.getElem?_map, Array.getElem?_toList] at hi
  cases hb : s.data[i]? with
  | none => rw [hb] at hi; cases hi
  | some b => rw [hb] at hi; cases hi; rfl
theorem bytesW_below (w : World) (s : ByteArray) : Below w.heap.size w (bytesW w s) := ((Below.refl _ w).drew).alloc (Nat.le_refl _) _
theorem conv_bytes (w : World) (v : Value) (l : List Int) (h : BytesIn w v l) : (convert 138 9 v).run Tryd.prog w = .ok (.string (strOfNums l)) w := by
  obtain ⟨a, c, rfl, hc, hm, hx⟩ := h
  cases a with
  | none =>
    have hn : l = [] := by
      rcases hx with hx | ⟨_, _, h, _⟩
      · exact hx
      · cases h
    subst hn
    exact run_convert_bytes_nil w 138 5 Tryd.underlying138 Tryd.underlying5 _ _ 9 Tryd.underlying9
  | some ad =>
    rcases hx with rfl | ⟨ab, ao, e, hx1⟩
    · rw [List.length_nil, run_convert_bytes_string w 138 9 5 _ 0 c Tryd.underlying138 Tryd.underlying5 Tryd.underlying9, run_bytesToString w ad 0 c [] (run_loadCells_list (P := Tryd.prog) w ad [] (fun j v hj => by simp at hj))]
      rfl
    · injection e with e; subst e
      refine run_convert_bytes_arg w 138 5 Tryd.underlying138 Tryd.underlying5 ab ao l.length c l rfl (fun i hi => ?_) 9 Tryd.underlying9
      rw [List.getD, List.getElem?_eq_getElem hi]
      exact hx1 i _ (List.getElem?_eq_getElem hi)
theorem size_alloc (w : World) (o : Obj) : (w.alloc o).heap.size = w.heap.size + 1 := by simp
end Go.Proofs.YtfmfemmknccfmaaDoor
namespace Go.Proofs.YtfmfemmknccfmaaDoor
set_option linter.unusedVariables false
set_option linter.unusedSimpArgs false
open Go.RowKit
set_option maxRecDepth 100000
/-- the array of y is neither the Writer nor the Writer's -/
def Apart (p : Nat) (v y : Value) : Prop := ∀ k, y.ownBlock = some k → k ≠ p ∧ some k ≠ v.ownBlock
theorem BytesIn.step {p : Nat} {v v' y : Value} {ys : List Int} {w w' : World} (h : BytesIn w y ys) (hs : WStep p v v' w w') (ha : ys ≠ [] → Apart p v y) : BytesIn w' y ys := by
  obtain ⟨a, c, rfl, hc, hm, hx⟩ := h
  refine ⟨a, c, rfl, hc, hm, ?_⟩
  by_cases hne : ys = []
  · exact .inl hne
  · obtain ⟨ab, ao, rfl, hx1⟩ := hx.resolve_left hne
    obtain ⟨h1, h2⟩ := ha hne ab rfl
    exact .inr ⟨ab, ao, rfl, fun i x hi => (World.cell?_of_block (w := w) (hs.block ab (World.block_lt_of_cell? w _ (hx1 i x hi)) h1 h2)).trans (hx1 i x hi)⟩
theorem Apart.of_lt {p : Nat} {v y : Value} {w : World} {xs : List Int} (hw : WAt w p v xs) (h : ∀ k, y.ownBlock = some k → k < p) : Apart p v y := fun k hk => by
  have := h k hk
  exact ⟨by omega, fun e => by have := hw.ne k e.symm; omega⟩
set_option maxRecDepth 100000 in
set_option maxHeartbeats 400000 in
theorem wbytes_any (p : Nat) (v y : Value) (xs ys : List Int) (w : World) (hw : WAt w p v xs) (hy : BytesIn w y ys) (ha : ys ≠ [] → Apart p v y) (hl : xs.length + ys.length + 10 ≤ 140737488355328) :
    Calls Tryd.prog 106 #[.pointer (some ⟨p, 0, none⟩), y] w (WPost p v xs (varint ys.length ++ ys) w) := by
  have HW := Lib.hid hw
  have HY := Lib.hid hy
  have HA := Lib.hid ha
  have HL := Lib.hid hl
  have hlt : ys.length < 18446744073709551616 := by omega
  have HG := Lib.hid (glen_le hlt)
  obtain ⟨a, c, rfl, hc, hm, hx⟩ := hy
  clear hw ha hl hc hm hx
  have HLT := Lib.hid hlt
  unfold WPost
  go_enter Tryd.func106, Tryd.ntmps106
  go_wp2_with (first
    | (go_at_call 94; (with_reducible refine (wuint_any p v xs ys.length _ HW.out HLT.out (by have := HL.out; omega)).mono ?_); rintro e w1 ⟨rfl, v', ho, hb⟩; have H1 := Lib.hid ho; have HS1 := Lib.hid hb; clear ho hb)
    | (go_at_call 105; (with_reducible refine (add_any p v' _ (xs ++ varint ys.length) ys _ H1.out (HY.out.step HS1.out HA.out) (by have := HL.out; have := HG.out; rw [List.length_append, varint_length]; omega)).mono ?_); rintro e w2 ⟨rfl, v2, ho, hb⟩; have H2 := Lib.hid ho; have HS2 := Lib.hid hb; clear ho hb))
  go_ret
  exact ⟨rfl, v2, by rw [← List.append_assoc]; exact H2.out, HS1.out.trans HS2.out⟩
set_option maxRecDepth 100000 in
set_option maxHeartbeats 400000 in
theorem wtext_any (p : Nat) (v : Value) (s : ByteArray) (xs : List Int) (w : World) (hw : WAt w p v xs) (hl : xs.length + s.size + 10 ≤ 140737488355328) :
    Calls Tryd.prog 95 #[.pointer (some ⟨p, 0, none⟩), .string s] w (WPost p v xs (varint s.size ++ numsOf s) w) := by
  have HB := Lib.hid (bytesW_below w s)
  have HW := Lib.hid (hw.below HB.out)
  have HY := Lib.hid (bytesW_in w s (by unfold maxLen; omega))
  have HA := Lib.hid (show numsOf s ≠ [] → Apart p v (.slice (some ⟨w.heap.size, 0, none⟩) s.size (grownCap w s.size 0 5)) from fun _ k hk => by
    simp [Value.ownBlock] at hk
    subst hk
    have := hw.lt
    exact ⟨by omega, fun e => by have := hw.ne _ e.symm; omega⟩)
  have HL := Lib.hid hl
  have hcv : ∀ w : World, (convert 9 138 (.string s)).run Tryd.prog w = .ok (.slice (some ⟨w.heap.size, 0, none⟩) s.size (grownCap w s.size 0 5)) (bytesW w s) :=
    fun w => run_bytes_of_string w 9 138 5 s Tryd.underlying9 Tryd.underlying138 Tryd.underlying5
  clear hw hl
  unfold WPost
  go_enter Tryd.func95, Tryd.ntmps95
  go_wp2_with (go_at_call 106; (with_reducible refine (wbytes_any p v _ xs (numsOf s) _ HW.out HY.out HA.out (by have := HL.out; rw [numsOf_length]; omega)).mono ?_); rintro e w1 ⟨rfl, v', ho, hb⟩; have H1 := Lib.hid ho; have HS1 := Lib.hid hb; clear ho hb)
  go_ret
  exact ⟨rfl, v', by have := H1.out; rw [numsOf_length] at this; exact this, (WStep.of_below HB.out).trans HS1.out⟩
/-- '^n' of a number with a sign -/
theorem not_i64 (n : Int) (h0 : -9223372036854775808 ≤ n) (h1 : n ≤ 9223372036854775807) : bits .xor .i64 (-1) n = -n - 1 := by
  show IntKind.i64.wrap ((BitVec.ofInt 64 (-1) ^^^ BitVec.ofInt 64 n).toNat : Int) = _
  have e1 : BitVec.ofInt 64 (-1) = BitVec.allOnes 64 := by decide
  have e2 : (BitVec.ofInt 64 n).toNat = (n % 18446744073709551616).toNat := by rw [BitVec.toNat_ofInt]; rfl
  rw [e1, BitVec.allOnes_xor, BitVec.toNat_not, e2, IntKind.wrap_i64]
  omega
/-- how a number with a sign becomes one without -/
def zig (n : Int) : Nat := if n < 0 then (-n).toNat * 2 - 1 else n.toNat * 2
theorem zig_lt {n : Int} (h0 : -9223372036854775808 ≤ n) (h1 : n ≤ 9223372036854775807) : zig n < 18446744073709551616 := by
  unfold zig; split <;> omega
end Go.Proofs.YtfmfemmknccfmaaDoor
