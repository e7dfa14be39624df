/- A slice of ints that came in as an argument. -/
import Derived.Test.YtbppainejdphpaaDoorInts
import Derived.Test.YtbppainejdphpaaDoorArg
namespace Go.Proofs.YtbppainejdphpaaDoor
open Go.ChangeShapes Go.WideShapes Go.ChangeAt Go.RowKit
theorem ints_raw {H : Type} {enc : TypeId × Value → H} {W : World} {fuel : Nat} {cs : List Value} {x : DataW H × List MemPlace} (h : DataW.trod enc Tryd.prog W 0 (fun _ => true) true fuel 23 cs = some x) :
    ∃ v l, cs = [v] ∧ IntsIn W v l ∧ (∃ a c, v = .slice a l.length c) := by
  rcases open_ints Tryd.underlying23 Tryd.underlying3 (by kernel_rfl) h with ⟨hcs, hx⟩ | ⟨a, l, c, zs, hcs, _, hl, hm, hz, hx, hcell, hwz⟩
  · exact ⟨_, [], hcs, ⟨_, _, rfl, by simp, by simp [maxLen], .inl rfl⟩, ⟨_, _, rfl⟩⟩
  · simp only [if_true] at hz
    have hlen : (zs.take l).length = l := by rw [List.length_take]; omega
    refine ⟨_, zs.take l, hcs, ⟨some a, c, by rw [hlen], by rw [hlen]; exact hl, by rw [hlen]; omega, ?_⟩, ⟨some a, c, by rw [hlen]⟩⟩
    by_cases hl0 : l = 0
    · left; subst hl0; simp
    · right
      obtain ⟨b, off, spot⟩ := a
      have hspot : spot = none := by simpa [Addr.add] using World.cell?_spot (hcell 0 (by omega))
      subst hspot
      refine ⟨b, off, rfl, fun i y hi => ?_⟩
      have hil : i < l := by have := (List.getElem?_eq_some_iff.1 hi).1; omega
      rw [List.getElem?_take, if_pos hil] at hi
      have := hcell i (by omega)
      rw [Addr.add_mid] at this
      rw [this]
      simp [List.getD, hi]
theorem ints_arg {H : Type} {enc : TypeId × Value → H} {W : World} {a : Option Addr} {len cap : Nat} {d : DataW H} {p : List MemPlace} (h : DataW.Trod enc Tryd.prog W 0 (fun _ => true) true 23 (.slice a len cap) d p) :
    ∃ l : List Int, l.length = len ∧ IntsIn W (.slice a len cap) l := by
  obtain ⟨fuel, hf⟩ := h
  obtain ⟨v, l, hcs, hin, ⟨a', c', hv⟩⟩ := ints_raw hf
  simp only [Value.cells] at hcs
  obtain rfl : Value.slice a len cap = v := by simpa using hcs
  injection hv with e1 e2 e3
  exact ⟨l, e2.symm, hin⟩
end Go.Proofs.YtbppainejdphpaaDoor
