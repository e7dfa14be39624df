/- What PackBack lays for each Thing. -/
import Derived.Test.YtikpcfcadddplaaBackMath
import Derived.Test.YtikpcfcadddplaaThing
namespace Go.Proofs.Ytikpcfcadddplaa
open Go.RowKit
/-- the number that uint64 makes of an int -/
def unat (i : Int) : Nat := (i % 18446744073709551616).toNat
theorem unat_lt (i : Int) : unat i < 18446744073709551616 := by unfold unat; omega
theorem wrap_unat (i : Int) : IntKind.u64.wrap i = ((unat i : Nat) : Int) := by unfold unat; rw [IntKind.wrap_u64]; omega
def encT (t : TH) : List Int :=
  varint (unat t.int) ++ (varint (zig t.int) ++ (truthB (decide (0 < t.kind)) ++ ((varint t.bytes.length ++ t.bytes) ++ (rowL 32 t.hash ++ (varint t.bytes.length ++ t.bytes)))))
def encL : List TH → List Int
  | [] => []
  | t :: r => encT t ++ encL r
theorem encL_append : ∀ (l r : List TH), encL (l ++ r) = encL l ++ encL r
  | [], _ => rfl
  | t :: l, r => by
    show encT t ++ encL (l ++ r) = (encT t ++ encL l) ++ encL r
    rw [encL_append l r, List.append_assoc]
theorem encL_take {ts : List TH} {k : Nat} {t : TH} (h : ts[k]? = some t) : encL (ts.take (k + 1)) = encL (ts.take k) ++ encT t := by
  rw [List.take_add_one, h, Option.toList_some, encL_append]
  show _ ++ (encT t ++ []) = _
  rw [List.append_nil]
theorem encL_drop {ts : List TH} {k : Nat} {t : TH} (h : ts[k]? = some t) : encL (ts.drop k) = encT t ++ encL (ts.drop (k + 1)) := by
  have h1 := (List.getElem?_eq_some_iff.1 h)
  rw [List.drop_eq_getElem_cons h1.1, h1.2]; rfl
/-- short enough -/
def Small (ts : List TH) : Prop := ∀ t ∈ ts, THok t ∧ t.bytes.length ≤ 1048576
theorem encT_len {t : TH} (h : THok t) (hl : t.bytes.length ≤ 1048576) : (encT t).length ≤ 2097225 := by
  have h1 := glen_le (unat_lt t.int)
  have h2 := glen_le (zig_lt h.int.1 h.int.2)
  have h3 := glen_le (show t.bytes.length < 18446744073709551616 by omega)
  simp only [encT, List.length_append, varint_length, truthB, List.length_cons, List.length_nil, rowL_length]
  omega
theorem encL_len : ∀ {ts : List TH}, Small ts → (encL ts).length ≤ ts.length * 2097225
  | [], _ => by simp [encL]
  | t :: r, h => by
    have h1 := encT_len (h t (by simp)).1 (h t (by simp)).2
    have h2 := encL_len (ts := r) fun u hu => h u (by simp [hu])
    simp only [encL, List.length_append, List.length_cons]
    omega
theorem Small.take {ts : List TH} (h : Small ts) (k : Nat) : Small (ts.take k) := fun t ht => h t (List.mem_of_mem_take ht)
theorem encL_take_len {ts : List TH} (h : Small ts) {k : Nat} (hk : k ≤ 60) : (encL (ts.take k)).length ≤ 125833500 := by
  have h1 := encL_len (h.take k)
  have h2 : (ts.take k).length ≤ k := by rw [List.length_take]; omega
  have h3 : (ts.take k).length * 2097225 ≤ 60 * 2097225 := Nat.mul_le_mul_right _ (by omega)
  omega
theorem bytesOk_append {xs ys : List Int} (h1 : bytesOk xs) (h2 : bytesOk ys) : bytesOk (xs ++ ys) := fun x hx => by
  rcases List.mem_append.1 hx with h | h
  · exact h1 x h
  · exact h2 x h
theorem bytesOk_varint (n : Nat) : bytesOk (varint n) := fun x hx => by
  obtain ⟨i, hi, rfl⟩ := List.mem_map.1 hx
  have := gby_lt (List.mem_range.1 hi)
  omega
theorem bytesOk_truth (b : Bool) : bytesOk (truthB b) := fun x hx => by
  simp only [truthB, List.mem_singleton] at hx
  subst hx; cases b <;> decide
theorem bytesOk_row {f : Nat → Int} (h : ∀ j, j < 32 → 0 ≤ f j ∧ f j < 256) : bytesOk (rowL 32 f) := fun x hx => by
  obtain ⟨i, hi, rfl⟩ := List.mem_map.1 hx
  exact h i (List.mem_range.1 hi)
theorem bytesOk_encT {t : TH} (h : THok t) : bytesOk (encT t) :=
  bytesOk_append (bytesOk_varint _) (bytesOk_append (bytesOk_varint _) (bytesOk_append (bytesOk_truth _) (bytesOk_append (bytesOk_append (bytesOk_varint _) h.bytes) (bytesOk_append (bytesOk_row h.hash) (bytesOk_append (bytesOk_varint _) h.bytes)))))
theorem bytesOk_encL : ∀ {ts : List TH}, Small ts → bytesOk (encL ts)
  | [], _ => fun x hx => by cases hx
  | t :: r, h => bytesOk_append (bytesOk_encT (h t (by simp)).1) (bytesOk_encL fun u hu => h u (by simp [hu]))
/-- a string's bytes are laid -/
theorem wtext_nums (p : Nat) (v : Value) (ys : List Int) (xs : List Int) (w : World) (hw : WAt w p v xs) (hy : bytesOk ys) (hl : xs.length + ys.length + 10 ≤ 140737488355328) :
    Calls Try.prog 11 #[.pointer (some ⟨p, 0, none⟩), .string (strOfNums ys)] w (WPost p v xs (varint ys.length ++ ys) w) := by
  have := wtext_any p v (strOfNums ys) xs w hw (by rw [strOfNums_size]; exact hl)
  rw [strOfNums_size, numsOf_str ys hy] at this
  exact this
/-- the smaller of two -/
theorem wpList_min2 {P : Program} {w : World} {ops : Array Oper} {rest : List Oper} {o : Oper} {a : Act} {Q : Exit → Act → World → Prop} (hgd : o.guard = none) (x y : Operand) (t : TypeId)
    (ho : o.op = .call { callee := .builtin .min, args := #[x, y], argTypes := #[t, t] }) (p q : Int) (hx : a.eval x = .int .i64 p) (hy : a.eval y = .int .i64 q) (r : Int) (hr : (if q < p then q else p) = r)
    (h : wpList P ops Q rest (a.put o.dst (.int .i64 r)) w) : wpList P ops Q (o :: rest) a w := by
  refine wpList_plain hgd fun K hK => ?_
  have hrun := run_min_int2 (P := P) (w := w) #[t, t] o.type .i64 .i64 p q
  rw [hr] at hrun
  unfold Oper.wp
  simp only [execOp, ho, resolve, invoke, builtin, Sem.run_bind, Sem.run_pure, Result.andThen_ok, List.map_toArray, List.map_cons, List.map_nil, hx, hy, hrun]
  exact hK _ _ h
end Go.Proofs.Ytikpcfcadddplaa
