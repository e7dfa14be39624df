/- What PackBack takes off: each read behind what was laid. -/
import Derived.Test.YtikpcfcadddplaaBackL
import Derived.Test.YtikpcfcadddplaaSure
namespace Go.Proofs.Ytikpcfcadddplaa
open Go.RowKit
theorem ruint_back (q n : Nat) (r : List Int) (w : World) (h : RS w q (varint n ++ r, none)) (hn : n < 18446744073709551616) :
    Calls Try.prog 17 #[.pointer (some ⟨q, 0, none⟩), .int .u64 18446744073709551615] w fun e w' => e = .returned (.int .u64 (n : Int)) ∧ RS w' q (r, none) ∧ Only q w w' := by
  have := uint_any q _ 18446744073709551615 w h
  rw [uintS_varint n 18446744073709551615 r hn (by omega)] at this
  exact this
theorem rint_back (q : Nat) (i : Int) (r : List Int) (w : World) (h : RS w q (varint (zig i) ++ r, none)) (h0 : -9223372036854775808 ≤ i) (h1 : i ≤ 9223372036854775807) :
    Calls Try.prog 18 #[.pointer (some ⟨q, 0, none⟩)] w fun e w' => e = .returned (.int .i64 i) ∧ RS w' q (r, none) ∧ Only q w w' := by
  have := int_any q _ w h
  rw [intS_varint i r h0 h1] at this
  exact this
theorem rbool_back (q : Nat) (b : Bool) (r : List Int) (w : World) (h : RS w q (truthB b ++ r, none)) :
    Calls Try.prog 19 #[.pointer (some ⟨q, 0, none⟩)] w fun e w' => e = .returned (.bool b) ∧ RS w' q (r, none) ∧ Only q w w' := by
  have := bool_any q _ w h
  rw [boolS_truth] at this
  exact this
theorem rbytes_back (q : Nat) (l r : List Int) (w : World) (h : RS w q (varint l.length ++ (l ++ r), none)) (hl : l.length ≤ 1048576) :
    Calls Try.prog 20 #[.pointer (some ⟨q, 0, none⟩), .int .i64 (l.length : Int)] w fun e w' => ∃ v, e = .returned v ∧ (convert 25 9 v).run Try.prog w' = .ok (.string (strOfNums l)) w' ∧ RS w' q (r, none) ∧ Only q w w' := by
  have := rbytes_any q _ (l.length : Int) w h (by omega) (by omega)
  rw [partS_bytes l r _ (by omega) (by omega) (by omega)] at this
  exact this.mono fun e w' ⟨v, h1, h2, _, h4, h5⟩ => ⟨v, h1, conv_bytes w' v l h2, h4, h5⟩
theorem rtext_back (q : Nat) (l r : List Int) (w : World) (h : RS w q (varint l.length ++ (l ++ r), none)) (hl : l.length ≤ 1048576) :
    Calls Try.prog 22 #[.pointer (some ⟨q, 0, none⟩), .int .i64 (l.length : Int)] w fun e w' => e = .returned (.string (strOfNums l)) ∧ RS w' q (r, none) ∧ Only q w w' := by
  have := rtext_any q _ (l.length : Int) w h (by omega) (by omega)
  rw [partS_bytes l r _ (by omega) (by omega) (by omega)] at this
  exact this
theorem rhash_back (q : Nat) (f : Nat → Int) (r : List Int) (w : World) (h : RS w q (rowL 32 f ++ r, none)) :
    Calls Try.prog 21 #[.pointer (some ⟨q, 0, none⟩)] w fun e w' => e = .returned (.agg (rowOf .u8 32 f)) ∧ RS w' q (r, none) ∧ Only q w w' := by
  have := rhash_any q _ w h
  rw [(hashS_row f r).1, (hashS_row f r).2] at this
  exact this
def eqB (f g : Nat → Int) : Bool := (List.range 32).all fun i => f i == g i
theorem eqB_self (f : Nat → Int) : eqB f f = true := by simp [eqB]
theorem eqItems32 (f g : Nat → Int) (w : World) : ∀ is : List Nat, (∀ i ∈ is, i < 32) → (Op.eqItems 9999 5 1 (rowOf .u8 32 f) (rowOf .u8 32 g) is).run Try.prog w = .ok (is.all fun i => f i == g i) w
  | [], _ => by simp [Op.eqItems]
  | i :: is, h => by
    have hi : i < 32 := h i (by simp)
    have ha : (isAgg 5).run Try.prog w = .ok false w := by kernel_rfl
    have hp : ∀ f : Nat → Int, (part 5 (rowOf .u8 32 f) (i * 1)).run Try.prog w = .ok (.int .u8 (f i)) w := fun f => by
      simp [part, Sem.run_bind, ha, rowOf_get .u8 32 f i hi]
    have ih := eqItems32 f g w is (fun j hj => h j (by simp [hj]))
    have pe : (Op.equalIn 9999 5 (.int .u8 (f i)) (.int .u8 (g i))).run Try.prog w = .ok (f i == g i) w := run_equalIn_int w 9998 5 .u8 .u8 _ _ Try.underlying5
    simp only [Op.eqItems, Sem.run_bind, hp, pe, Result.andThen_ok, List.all_cons]
    cases hb : (f i == g i)
    · simp
    · simpa using ih
theorem neqH (f g : Nat → Int) (w : World) : (binOp .neq 28 (.agg (rowOf .u8 32 f)) (.agg (rowOf .u8 32 g))).run Try.prog w = .ok (.bool (!eqB f g)) w := by
  rw [run_neq_struct, run_equalIn_array w 9999 (i := (Try.prog.info? 5).getD default) _ _ Try.underlying28 (by kernel_rfl), show Try.prog.cellsOf 5 = 1 by kernel_rfl, eqItems32 f g w _ (fun i hi => by simpa using hi)]
  rfl
end Go.Proofs.Ytikpcfcadddplaa
