/- Equality of two arrays of 32 bytes; of two slices of ints. -/
import Derived.Test.YtlgjeledcnhmnaaDoorInts
import Derived.ChangeKeysEq
namespace Go.Proofs.YtlgjeledcnhmnaaDoor
open Go.RowKit
set_option maxRecDepth 100000
/-- are the first 32 numbers the same? -/
def eqB (f g : Nat → Int) : Bool := (List.range 32).all fun i => f i == g i
theorem eqB_self (f : Nat → Int) : eqB f f = true := by simp [eqB]
theorem eqItems32 (f g : Nat → Int) (w : World) : ∀ is : List Nat, (∀ i ∈ is, i < 32) → (Op.eqItems 9999 5 1 (rowOf .u8 32 f) (rowOf .u8 32 g) is).run Tryd.prog w = .ok (is.all fun i => f i == g i) w
  | [], _ => by simp [Op.eqItems]
  | i :: is, h => by
    have hi : i < 32 := h i (by simp)
    have ha : (isAgg 5).run Tryd.prog w = .ok false w := by kernel_rfl
    have hp : ∀ f : Nat → Int, (part 5 (rowOf .u8 32 f) (i * 1)).run Tryd.prog w = .ok (.int .u8 (f i)) w := fun f => by
      simp [part, Sem.run_bind, ha, rowOf_get .u8 32 f i hi]
    have ih := eqItems32 f g w is (fun j hj => h j (by simp [hj]))
    have pe : (Op.equalIn 9999 5 (.int .u8 (f i)) (.int .u8 (g i))).run Tryd.prog w = .ok (f i == g i) w := run_equalIn_int w 9998 5 .u8 .u8 _ _ Tryd.underlying5
    simp only [Op.eqItems, Sem.run_bind, hp, pe, Result.andThen_ok, List.all_cons]
    cases hb : (f i == g i)
    · simp
    · simpa using ih
theorem eq32 (f g : Nat → Int) (w : World) : (binOp .eql 23 (.agg (rowOf .u8 32 f)) (.agg (rowOf .u8 32 g))).run Tryd.prog w = .ok (.bool (eqB f g)) w := by
  rw [run_eql_struct, run_equalIn_array w 9999 (i := (Tryd.prog.info? 5).getD default) _ _ Tryd.underlying23 (by kernel_rfl), show Tryd.prog.cellsOf 5 = 1 by kernel_rfl, eqItems32 f g w _ (fun i hi => by simpa using hi)]
  rfl
theorem eqIn32 (f g : Nat → Int) (w : World) : (Op.equalIn 10000 23 (.agg (rowOf .u8 32 f)) (.agg (rowOf .u8 32 g))).run Tryd.prog w = .ok (eqB f g) w := by
  rw [run_equalIn_array w 9999 (i := (Tryd.prog.info? 5).getD default) _ _ Tryd.underlying23 (by kernel_rfl), show Tryd.prog.cellsOf 5 = 1 by kernel_rfl, eqItems32 f g w _ (fun i hi => by simpa using hi)]
  rfl
theorem neq32_self (f : Nat → Int) (w : World) : (binOp .neq 23 (.agg (rowOf .u8 32 f)) (.agg (rowOf .u8 32 f))).run Tryd.prog w = .ok (.bool false) w := by
  rw [run_neq_struct, eqIn32, eqB_self]
  rfl
theorem eqIn32_self (f : Nat → Int) (w : World) : (Op.equalIn 10000 23 (.agg (rowOf .u8 32 f)) (.agg (rowOf .u8 32 f))).run Tryd.prog w = .ok true w := by rw [eqIn32, eqB_self]
theorem eq32_self (f : Nat → Int) (w : World) : (binOp .eql 23 (.agg (rowOf .u8 32 f)) (.agg (rowOf .u8 32 f))).run Tryd.prog w = .ok (.bool true) w := by rw [eq32, eqB_self]
set_option maxHeartbeats 400000 in
/-- the law's ints at two slices of the same numbers -/
theorem ints_same (va vb : Value) (l : List Int) (w : World) (ha : IntsIn w va l) (hb : IntsIn w vb l) (hl : l.length ≤ 1099511627776) :
    Calls Tryd.prog 16 #[va, vb] w fun e w' => e = .returned (.bool true) ∧ ∃ n, w' = w.drewN n := by
  have HA := Lib.hid ha
  have HB := Lib.hid hb
  have HL := Lib.hid hl
  obtain ⟨aa, ca, rfl, -, -, -⟩ := ha
  obtain ⟨ab, cb, rfl, -, -, -⟩ := hb
  obtain ⟨n, hn⟩ : ∃ n, n = l.length := ⟨_, rfl⟩
  rw [← hn] at HA HB HL hl ⊢
  replace hn := Lib.hid hn
  have hnn : ((n : Int) != (n : Int)) = false := by simp
  go_enter Tryd.func16, Tryd.ntmps16
  go_wp2
  go_loopw [5] (fun i wr => ∃ k : Nat, k ≤ n ∧ i = .int .i64 (k : Int) ∧ Hid (∃ m, wr = w.drewN m)) (fun i _ => n - (intOf i).toNat)
  case atStart => exact ⟨0, Nat.zero_le _, rfl, Lib.hid ⟨0, rfl⟩⟩
  case round =>
    obtain ⟨k, hk, rfl, HM⟩ := hrel
    by_cases hlt : k < n
    · obtain ⟨x, hx⟩ : ∃ x, l[k]? = some x := ⟨_, List.getElem?_eq_getElem (by rw [← hn.out]; exact hlt)⟩
      have h1 := HA.out
      have h2 := HB.out
      obtain ⟨a1, c1, e1, -, -, h1⟩ := h1
      obtain ⟨a2, c2, e2, -, -, h2⟩ := h2
      injection e1 with e1 e1' e1''
      injection e2 with e2 e2' e2''
      subst e1 e1'' e2 e2''
      rcases h1 with h1 | ⟨b1, o1, rfl, h1⟩
      · subst h1; simp at hx
      rcases h2 with h2 | ⟨b2, o2, rfl, h2⟩
      · subst h2; simp at hx
      have k1 : wr.cell? ⟨b1, o1 + k, none⟩ = some (.int .i64 x) := by obtain ⟨m, hm⟩ := HM.out; rw [hm]; exact h1 k x hx
      have k2 : wr.cell? ⟨b2, o2 + k, none⟩ = some (.int .i64 x) := by obtain ⟨m, hm⟩ := HM.out; rw [hm]; exact h2 k x hx
      have hxx : (x != x) = false := by simp
      clear h1 h2 e1' e2'
      replace hx := Lib.hid hx
      go_wp2_with (fail)
      go_quiet (fail)
      go_wp2_with (fail)
      go_roundw
      case rel => exact ⟨k + 1, by omega, by go_num, Lib.hid (by obtain ⟨m, hm⟩ := HM.out; exact ⟨m + nq, by rw [hm]; simp [World.drewN, Nat.add_assoc]⟩)⟩
      case measure => simp [intOf]; omega
    · go_wp2_with (fail)
      go_ret
      exact ⟨rfl, HM.out⟩
end Go.Proofs.YtlgjeledcnhmnaaDoor
