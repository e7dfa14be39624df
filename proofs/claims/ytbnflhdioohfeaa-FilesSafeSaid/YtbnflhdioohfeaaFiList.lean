/- List: all names, in order. -/
import Derived.Test.YtbnflhdioohfeaaFiMore
import Derived.Test.YtbnflhdioohfeaaIter
namespace Go.Proofs.Ytbnflhdioohfeaa
open Go.RowKit Go.Maps Go.Sort Go.Shelf
set_option maxRecDepth 100000
theorem list_none (w : World) : Calls Try.prog 18 #[.pointer none] w fun e w' => e = .returned (.slice none 0 0) ∧ w = w' := by
  go_enter Try.func18, Try.ntmps18
  go_wp2_with (fail)
  go_ret
  exact ⟨rfl, rfl⟩
/-- the names of all files -/
def namesE (es : List Ent) : List Value := es.map fun e => encStr e.nm
def ListPost (w : World) (es : List Ent) (e : Ending) (w' : World) : Prop := ∃ v, e = .returned v ∧ w'.ownsRow w.heap.size 9 1 v es.length (namesE es) ∧ Below w.heap.size w w'
set_option maxHeartbeats 2000000 in
theorem list_any (R : FsR) (w : World) (H : FsAt w R) : Calls Try.prog 18 #[.pointer (some ⟨R.pb, 0, none⟩)] w (ListPost w R.es) := by
  have hsz : Maps.size (entD R.es) ≤ 64 := by rw [entD_size]; exact H.many
  have c0 : w.cell? ⟨R.pb, 0, none⟩ = some (.map (some R.mb)) := H.mapc
  have hsorted := Try.slices_Sorted_keys_22_23 R.mb R.es.length (entD R.es) heldE w H.map (by unfold maxLen; omega) (by omega)
  have HSO := Lib.hid hsorted
  have HH := Lib.hid H
  clear hsorted hsz H
  refine (callsIn_wide (n := 6)).1 ?_
  have hfK : Fence.wide.fn 23 := trivial
  have hfS : Fence.wide.fn 22 := trivial
  refine callsIn_of_wp Try.func18 rfl trivial ?_ rfl
  simp only [Try.ntmps18, List.size_toArray, List.length_cons, List.length_nil, Nat.reduceAdd, Nat.reduceSub, Array.replicate_succ, Array.replicate_zero, List.push_toArray, List.append_toArray, List.nil_append, List.cons_append]
  gi_wp2_with (first
    | (gi_at_call 23; refine (Try.maps_Keys_23 _ _).mono ?_; rintro e w' ⟨rfl, rfl⟩)
    | (gi_at_call 22; refine HSO.out.mono ?_; rintro e w' ⟨v, ss, rfl, hS, hrow, hnil, hb⟩; have HS := Lib.hid hS; have HR := Lib.hid hrow; have HB := Lib.hid hb; clear hS hrow hb hnil))
  go_ret
  have h1 := names_sort HH.out.sorted HS.out
  have h2 : ss.length = R.es.length := by rw [← List.length_mergeSort (le := fun x y => decide (x ≤ y)), h1, List.length_map]
  have h3 := HR.out
  rw [h1, h2, List.map_map] at h3
  exact ⟨v, rfl, ownsRow_base_le h3 (by simp), (below1 _ _).trans (HB.out.mono (by simp))⟩
end Go.Proofs.Ytbnflhdioohfeaa
