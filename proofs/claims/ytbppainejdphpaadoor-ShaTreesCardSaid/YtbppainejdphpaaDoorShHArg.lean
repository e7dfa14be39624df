/- A slice of hashes that came in as an argument. -/
import Derived.Test.YtbppainejdphpaaDoorShRoot
import Derived.Test.YtbppainejdphpaaDoorArg
import Derived.Deep.Slices
namespace Go.Proofs.YtbppainejdphpaaDoor
open Go.ChangeShapes Go.WideShapes Go.ChangeAt Go.RowKit
theorem cells25 : Tryd.prog.cellsOf 25 = 32 := by kernel_rfl
theorem bytes25 : Tryd.prog.bytesOf 25 = 32 := by kernel_rfl
theorem hashesIn_arg {H : Type} {enc : TypeId × Value → H} {W : World} {a : Option Addr} {len cap : Nat} {d : DataW H} {p : List MemPlace} (h : DataW.Trod enc Tryd.prog W 0 (fun _ => true) true 43 (.slice a len cap) d p) :
    ∃ hs : List (Nat → Int), hs.length = len ∧ HashesIn W (.slice a len cap) hs ∧ (∀ f ∈ hs, ∀ j, j < 32 → 0 ≤ f j ∧ f j < 256) ∧ (∀ ts ds : List _, ∀ k : Nat, ts[k]? = some 43 → ds[k]? = some d → (DataW.weightsEach Tryd.prog ts ds).all (· ≤ reachBytes) = true → len * 32 ≤ 140737488351232) := by
  obtain ⟨fuel, hf⟩ := h
  rcases Deep.open_slice Tryd.underlying43 hf with ⟨hcs, _⟩ | ⟨x, l, c, m, n, D, Pl, hcs, _, hl, hm, hmm, hx, hel⟩
  · simp [Value.cells] at hcs
    obtain ⟨rfl, rfl, rfl⟩ := hcs
    exact ⟨[], rfl, ⟨_, _, rfl, by simp, by simp [maxLen], .inl rfl⟩, by simp, fun _ _ _ _ _ _ => by omega⟩
  · simp [Value.cells] at hcs
    obtain ⟨rfl, rfl, rfl⟩ := hcs
    simp only [if_true] at hmm
    simp only [Prod.mk.injEq] at hx
    obtain ⟨rfl, _⟩ := hx
    have key : ∀ i, i < len → ∃ f : Nat → Int, ∀ j, j < 32 → W.cell? (x.add (i * 32 + j)) = some (.int .u8 (f j)) ∧ 0 ≤ f j ∧ f j < 256 := by
      intro i hi
      obtain ⟨cs', h1, h2⟩ := hel i (by omega)
      rw [cells25] at h1
      obtain ⟨_, hlen, hcell⟩ := World.cells?_some h1
      obtain ⟨xs, m', _, _, _, hxl, hxs⟩ := DataW.trod_array Tryd.underlying25 h2
      refine Deep.choose_lt (p := fun j v => W.cell? (x.add (i * 32 + j)) = some (.int .u8 v) ∧ 0 ≤ v ∧ v < 256) fun j hj => ?_
      have h3 := hxs j hj
      rw [show Tryd.prog.cellsOf 5 = 1 by kernel_rfl, Nat.mul_one, List.getElem?_eq_getElem (by omega)] at h3
      obtain ⟨v, hv, _, hw⟩ := DataW.trod_int Tryd.underlying5 h3
      have h4 := hcell j hj
      have h5 : cs'[j]? = some (.int .u8 v) := by
        have : ((cs'.drop j).take 1)[0]? = some (.int .u8 v) := by rw [hv]; rfl
        rw [List.getElem?_take, if_pos (by omega), List.getElem?_drop] at this
        exact this
      have h6 := bounds_u8 hw
      refine ⟨v, ?_, by omega, by omega⟩
      rw [← h5, ← h4]; by_cases hj0 : j = 0 <;> by_cases hi0 : i * 32 = 0 <;> simp [hj0, hi0, Addr.add, Nat.add_assoc]
    obtain ⟨F, hF⟩ := Deep.choose_lt key
    have hg : ∀ i, i < len → ((List.range len).map F).getD i zeroH = F i := fun i hi => by simp [List.getD, hi]
    refine ⟨(List.range len).map F, by simp, ⟨some x, cap, by simp, by simp; omega, by omega, ?_⟩, fun f hf j hj => ?_, fun ts ds k ht hd hw => ?_⟩
    · by_cases hl0 : len = 0
      · left; subst hl0; rfl
      · right
        obtain ⟨b, off, spot⟩ := x
        have h0 := (hF 0 (by omega) 0 (by omega)).1
        have hspot : spot = none := by simpa [Addr.add] using World.cell?_spot h0
        subst hspot
        refine ⟨b, off, rfl, ?_, fun i hi j v hv => ?_⟩
        · exact World.block_lt_of_cell? _ _ h0
        · have hil : i < len := by simpa using hi
          rw [hg i hil] at hv
          have hj : j < 32 := by have := (List.getElem?_eq_some_iff.1 hv).1; rw [(rowOf_list _ _ _).2] at this; exact this
          have := (hF i hil j hj).1
          rw [Addr.add_mid] at this
          rw [show off + i * 32 + j = off + (i * 32 + j) by omega, this, ← hv]
          simp [rowOf, hj]
    · obtain ⟨i, hi, rfl⟩ := List.mem_map.1 hf
      exact (hF i (List.mem_range.1 hi) j hj).2
    · have := sized_slice hw (j := k) (t := 43) (e := 25) ht hd Tryd.underlying43
      rw [bytes25] at this
      simp only [List.length_map, List.length_range, reachBytes] at this
      omega
end Go.Proofs.YtbppainejdphpaaDoor
