/- Bytes and strings: conversions. -/
import Derived.Test.YteokgklfljhcaaaGreatDoorApp
namespace Go.Proofs.YteokgklfljhcaaaGreatDoor
open Go.RowKit
set_option maxRecDepth 100000
/-- the bytes of a string -/
def numsOf (s : ByteArray) : List Int := s.data.toList.map fun b => (b.toNat : Int)
theorem numsOf_length (s : ByteArray) : (numsOf s).length = s.size := by unfold numsOf; rw [List.length_map]; rfl
theorem numsOf_str (xs : List Int) (h : ∀ x ∈ xs, 0 ≤ x ∧ x < 256) : numsOf (strOfNums xs) = xs := by
  unfold numsOf
  rw [strOfNums_data, List.map_map]
  conv => rhs; rw [← List.map_id xs]
  apply List.map_congr_left
  intro x hx
  obtain ⟨h0, h1⟩ := h x hx
  simp only [Function.comp, id]
  rw [show (UInt8.ofNat x.toNat).toNat = x.toNat % 256 from rfl]
  omega
theorem str_numsOf (s : ByteArray) : strOfNums (numsOf s) = s := by
  apply ByteArray.ext
  apply Array.ext'
  rw [strOfNums_data, numsOf, List.map_map]
  conv => rhs; rw [← List.map_id s.data.toList]
  apply List.map_congr_left
  intro b _
  show UInt8.ofNat ((b.toNat : Nat) : Int).toNat = b
  rw [Int.toNat_natCast]; exact UInt8.ofNat_toNat
/-- the world behind []byte(s) -/
def bytesW (w : World) (s : ByteArray) : World := w.drew.alloc (.cells (bytesRow s (grownCap w s.size 0 5)) 5 ((bytesRow s (grownCap w s.size 0 5)).size, (bytesRow s (grownCap w s.size 0 5)).size + 1))
theorem bytesW_in (w : World) (s : ByteArray) (hs : s.size ≤ maxLen) : BytesIn (bytesW w s) (.slice (some ⟨w.heap.size, 0, none⟩) s.size (grownCap w s.size 0 5)) (numsOf s) := by
  refine ⟨_, _, by rw [numsOf_length], by rw [numsOf_length]; exact grownCap_ge _ _ _ _, by rw [numsOf_length]; exact hs, .inr ⟨_, 0, rfl, fun i x hi => ?_⟩⟩
  have hil : i < s.size := by rw [← numsOf_length]; exact (List.getElem?_eq_some_iff.1 hi).1
  unfold bytesW
  rw [Nat.zero_add]
  have := cell_of_row (w.drew.alloc (.cells (bytesRow s (grownCap w s.size 0 5)) 5 ((bytesRow s (grownCap w s.size 0 5)).size, (bytesRow s (grownCap w s.size 0 5)).size + 1))) w.heap.size i _ _ _ (heap_alloc_new w.drew _)
  rw [this]
  unfold bytesRow
  rw [Array.getElem?_append_left (by rw [Array.size_map]; exact hil), Array.getElem?_map]
  simp only [numsOf, List.getElem?_map, Array.getElem?_toList] at hi
  cases hb : s.data[i]? with
  | none => rw [hb] at hi; cases hi
  | some b => rw [hb] at hi; cases hi; rfl
theorem bytesW_below (w : World) (s : ByteArray) : Below w.heap.size w (bytesW w s) := ((Below.refl _ w).drew).alloc (Nat.le_refl _) _
theorem conv_bytes (w : World) (v : Value) (l : List Int) (h : BytesIn w v l) : (convert 39 9 v).run Tryz.prog w = .ok (.string (strOfNums l)) w := by
  obtain ⟨a, c, rfl, hc, hm, hx⟩ := h
  cases a with
  | none =>
    have hn : l = [] := by
      rcases hx with hx | ⟨_, _, h, _⟩
      · exact hx
      · cases h
    subst hn
    exact run_convert_bytes_nil w 39 5 Tryz.underlying39 Tryz.underlying5 _ _ 9 Tryz.underlying9
  | some ad =>
    rcases hx with rfl | ⟨ab, ao, e, hx1⟩
    · rw [List.length_nil, run_convert_bytes_string w 39 9 5 _ 0 c Tryz.underlying39 Tryz.underlying5 Tryz.underlying9, run_bytesToString w ad 0 c [] (run_loadCells_list (P := Tryz.prog) w ad [] (fun j v hj => by simp at hj))]
      rfl
    · injection e with e; subst e
      refine run_convert_bytes_arg w 39 5 Tryz.underlying39 Tryz.underlying5 ab ao l.length c l rfl (fun i hi => ?_) 9 Tryz.underlying9
      rw [List.getD, List.getElem?_eq_getElem hi]
      exact hx1 i _ (List.getElem?_eq_getElem hi)
theorem size_alloc (w : World) (o : Obj) : (w.alloc o).heap.size = w.heap.size + 1 := by simp
end Go.Proofs.YteokgklfljhcaaaGreatDoor
