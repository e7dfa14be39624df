/- Equality of two arrays of 32 bytes; of two slices of ints. -/
import Derived.Test.YtlhfdkkeanchcaaDoorInts
import Derived.ChangeKeysEq
namespace Go.Proofs.YtlhfdkkeanchcaaDoor
open Go.RowKit
set_option maxRecDepth 100000
/-- are the first 32 numbers the same? -/
def eqB (f g : Nat → Int) : Bool := (List.range 32).all fun i => f i == g i
theorem eqB_self (f : Nat → Int) : eqB f f = true := by simp [eqB]
theorem eqItems32 (f g : Nat → Int) (w : World) : ∀ is : List Nat, (∀ i ∈ is, i < 32) → (Op.eqItems 9999 5 1 (rowOf .u8 32 f) (rowOf .u8 32 g) is).run Tryd.prog w = .ok (is.all fun i => f i == g i) w
  | [], _ => by simp [Op.eqItems]
  | i :: is, h => by
    have hi : i < 32 := h i (by simp)
    have ha : (isAgg 5).run Tryd.prog w = .ok false w := by kernel_rfl
    have hp : ∀ f : Nat → Int, (part 5 (rowOf .u8 32 f) (i * 1)).run Tryd.prog w = .ok (.int .u8 (f i)) w := fun f => by
      simp [part, Sem.run_bind, ha, rowOf_get .u8 32 f i hi]
    have ih := eqItems32 f g w is (fun j hj => h j (by simp [hj]))
    have pe : (Op.equalIn 9999 5 (.int .u8 (f i)) (.int .u8 (g i))).run Tryd.prog w = .ok (f i == g i) w := run_equalIn_int w 9998 5 .u8 .u8 _ _ Tryd.underlying5
    simp only [Op.eqItems, Sem.run_bind, hp, pe, Result.andThen_ok, List.all_cons]
    cases hb : (f i == g i)
    · simp
    · simpa using ih
theorem eq32 (f g : Nat → Int) (w : World) : (binOp .eql 50 (.agg (rowOf .u8 32 f)) (.agg (rowOf .u8 32 g))).run Tryd.prog w = .ok (.bool (eqB f g)) w := by
  rw [run_eql_struct, run_equalIn_array w 9999 (i := (Tryd.prog.info? 5).getD default) _ _ Tryd.underlying50 (by kernel_rfl), show Tryd.prog.cellsOf 5 = 1 by kernel_rfl, eqItems32 f g w _ (fun i hi => by simpa using hi)]
  rfl
theorem eqIn32 (f g : Nat → Int) (w : World) : (Op.equalIn 10000 50 (.agg (rowOf .u8 32 f)) (.agg (rowOf .u8 32 g))).run Tryd.prog w = .ok (eqB f g) w := by
  rw [run_equalIn_array w 9999 (i := (Tryd.prog.info? 5).getD default) _ _ Tryd.underlying50 (by kernel_rfl), show Tryd.prog.cellsOf 5 = 1 by kernel_rfl, eqItems32 f g w _ (fun i hi => by simpa using hi)]
  rfl
theorem neq32_self (f : Nat → Int) (w : World) : (binOp .neq 50 (.agg (rowOf .u8 32 f)) (.agg (rowOf .u8 32 f))).run Tryd.prog w = .ok (.bool false) w := by
  rw [run_neq_struct, eqIn32, eqB_self]
  rfl
theorem eqIn32_self (f : Nat → Int) (w : World) : (Op.equalIn 10000 50 (.agg (rowOf .u8 32 f)) (.agg (rowOf .u8 32 f))).run Tryd.prog w = .ok true w := by rw [eqIn32, eqB_self]
theorem eq32_self (f : Nat → Int) (w : World) : (binOp .eql 50 (.agg (rowOf .u8 32 f)) (.agg (rowOf .u8 32 f))).run Tryd.prog w = .ok (.bool true) w := by rw [eq32, eqB_self]
end Go.Proofs.YtlhfdkkeanchcaaDoor
