/- Part 30 of the proof. -/
import Derived.Test.YtllpnpeppdfjlaaDoorSb12
import Derived.Test.YtllpnpeppdfjlaaDoorSb29
namespace Go.Proofs.YtllpnpeppdfjlaaDoor
set_option linter.unusedVariables false
set_option linter.unusedSimpArgs false
open Go.RowKit
set_option maxRecDepth 100000
set_option linter.unusedSimpArgs false
set_option linter.unusedVariables false
theorem ok_app15 {a b : List Int} (ha : bytesOk a) (hb : bytesOk b) : bytesOk (a ++ b) := fun x hx => by
  rcases List.mem_append.1 hx with h | h
  · exact ha x h
  · exact hb x h
theorem ok_var15 (n : Nat) : bytesOk (varint n) := fun x hx => by
  obtain ⟨i, hi, rfl⟩ := List.mem_map.1 hx
  have := gby_lt (List.mem_range.1 hi)
  omega
theorem ok_nums15 (s : ByteArray) : bytesOk (numsOf s) := fun x hx => by
  obtain ⟨b, _, rfl⟩ := List.mem_map.1 hx
  have := b.toNat_lt
  omega
theorem ok_catL {α : Type} (f : α → List Int) : ∀ l : List α, (∀ t ∈ l, bytesOk (f t)) → bytesOk (catL f l)
  | [], _ => fun x hx => by cases hx
  | t :: l, h => ok_app15 (h t List.mem_cons_self) (ok_catL f l fun u hu => h u (List.mem_cons_of_mem _ hu))
theorem ok_listL {α : Type} (f : α → List Int) (l : List α) (h : ∀ t ∈ l, bytesOk (f t)) : bytesOk (listL f l) := by
  unfold listL
  exact ok_app15 (ok_var15 _) (ok_catL f l h)
theorem ok_st15 (s : ByteArray) : bytesOk (st1 s) := by unfold st1; exact ok_app15 (ok_var15 _) (ok_nums15 _)
theorem ok_it15 (i : Int) : bytesOk (it1 i) := ok_var15 _
theorem ok_by15 {b : List Int} (h : bytesOk b) : bytesOk (by1 b) := by unfold by1; exact ok_app15 (ok_var15 _) h
def PmOk (m : Pm) : Prop := ∀ b ∈ m.ds, bytesOk b
def PxOk (x : Px) : Prop := ∀ m ∈ x.ms, PmOk m
theorem ok_pm1 {m : Pm} (h : PmOk m) : bytesOk (pm1 m) := by
  unfold pm1
  exact ok_app15 (ok_it15 _) (ok_app15 (ok_listL _ _ fun s _ => ok_st15 s) (ok_app15 (ok_listL _ _ fun i _ => ok_it15 i) (ok_listL _ _ fun b hb => ok_by15 (h b hb))))
theorem ok_px1 {x : Px} (h : PxOk x) : bytesOk (px1 x) := by
  unfold px1
  exact ok_app15 (ok_app15 (ok_app15 (ok_app15 (ok_st15 _) (ok_it15 _)) (ok_st15 _)) (ok_it15 _)) (ok_listL _ _ fun m hm => ok_pm1 (h m hm))
theorem ok_pxB {x : Px} (h : PxOk x) (hs : bytesOk x.sg) : bytesOk (pxB x) := by unfold pxB; exact ok_app15 (ok_px1 h) (ok_by15 hs)
theorem ok_pxS (c : ByteArray) {x : Px} (h : PxOk x) : bytesOk (pxS c x) := by unfold pxS; exact ok_app15 (ok_app15 (ok_st15 _) (ok_st15 _)) (ok_px1 h)
theorem nums_str15 : ∀ (l : List Int), bytesOk l → numsOf (strOfNums l) = l := fun l h => by
  first
    | exact numsOf_str l h
    | (unfold numsOf strOfNums
       simp only [List.map_map]
       refine (List.map_congr_left fun x hx => ?_).trans (List.map_id _)
       have := h x hx
       simp only [Function.comp, id]
       omega)
theorem strs_ne15 {a b : List Int} (ha : bytesOk a) (hb : bytesOk b) (h : a ≠ b) : strOfNums a ≠ strOfNums b := fun e => h (by
  have := congrArg numsOf e
  rwa [nums_str15 a ha, nums_str15 b hb] at this)
theorem xor15 (a : Int) (h : i64b a) : i64b (bits .xor .i64 a 1) ∧ bits .xor .i64 a 1 ≠ a := by
  obtain ⟨X, hX⟩ : ∃ z, z = BitVec.ofInt 64 a := ⟨_, rfl⟩
  have e : bits .xor .i64 a 1 = IntKind.i64.wrap ((X ^^^ 1#64).toNat : Int) := by rw [hX]; rfl
  rw [e]
  have hr := (X ^^^ 1#64).isLt
  have hne : X ^^^ 1#64 ≠ X := fun h1 => by
    have h2 : X ^^^ (X ^^^ 1#64) = X ^^^ X := congrArg (X ^^^ ·) h1
    rw [← BitVec.xor_assoc, BitVec.xor_self, BitVec.zero_xor] at h2
    exact absurd h2 (by decide)
  have hXn : (X.toNat : Int) = a % 18446744073709551616 := by
    rw [hX, BitVec.toNat_ofInt]
    have := Int.emod_nonneg a (show (18446744073709551616 : Int) ≠ 0 by decide)
    show (((a % 18446744073709551616).toNat : Nat) : Int) = _
    omega
  have hn : (X ^^^ 1#64).toNat ≠ X.toNat := fun h1 => hne (BitVec.eq_of_toNat_eq h1)
  generalize (X ^^^ 1#64).toNat = m at *
  generalize X.toNat = q at *
  obtain ⟨h1, h2⟩ := h
  rw [IntKind.wrap_i64]
  unfold i64b
  refine ⟨⟨by omega, by omega⟩, fun h3 => hn ?_⟩
  omega
end Go.Proofs.YtllpnpeppdfjlaaDoor
