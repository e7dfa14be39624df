/- Part 13 of the proof. -/
import Derived.Shelf.SlIter.Nil
import Derived.Shelf.SortM.Plain
import Derived.Shelf.SortM.SortNone
import Derived.Ground.GgzProg
import Derived.Ground.SlgmProg
import Derived.Test.YtggcodobkmhkgaaDoorProg
import Derived.Test.YtggcodobkmhkgaaDoorFc12
namespace Go.Proofs
set_option linter.unusedVariables false
set_option linter.unusedSimpArgs false
open Go.Shelf
def Tryd.keys57_ren : Go.Shelf.Ren := ⟨fun | 7 => 57 | 10 => 90 | n => n, fun | 23 => 96 | 26 => 9 | 3 => 113 | 28 => 126 | 0 => 0 | 27 => 125 | 33 => 160 | 4 => 4 | n => n, fun | n => n⟩
theorem Tryd.keys57 : Go.Proofs.SlLaysZ.n7 Tryd.prog Tryd.keys57_ren := {
  mixed := by kernel_rfl
  f7 := ⟨Tryd.f57.name, by decide, Tryd.func57.trans (congrArg some (by kernel_rfl))⟩
  f10 := ⟨Tryd.f90.name, by decide, Tryd.func90.trans (congrArg some (by kernel_rfl))⟩
  t0 := Tryd.underlying0
  a0 := Tryd.isAgg0
  z0 := Tryd.sizeOf0
  v0 := Tryd.zeroValue0
  t4 := Tryd.underlying4
  a4 := Tryd.isAgg4
  z4 := Tryd.sizeOf4
  v4 := Tryd.zeroValue4
  t23 := Tryd.underlying96
  a23 := Tryd.isAgg96
  z23 := Tryd.sizeOf96
  v23 := Tryd.zeroValue96
  t26 := Tryd.underlying9
  a26 := Tryd.isAgg9
  z26 := Tryd.sizeOf9
  v26 := Tryd.zeroValue9
  t27 := Tryd.underlying125
  a27 := Tryd.isAgg125
  z27 := Tryd.sizeOf125
  v27 := Tryd.zeroValue125
  t28 := Tryd.underlying126
  a28 := Tryd.isAgg126
  z28 := Tryd.sizeOf126
  v28 := Tryd.zeroValue126
  t33 := Tryd.underlying160
  a33 := Tryd.isAgg160
  z33 := Tryd.sizeOf160
  v33 := Tryd.zeroValue160 }
def Tryd.sorted56_ren : Go.Shelf.Ren := ⟨fun | 6 => 56 | 8 => 88 | 9 => 89 | 11 => 115 | 13 => 117 | 12 => 116 | 23 => 143 | 24 => 144 | 14 => 134 | 15 => 135 | 16 => 136 | 17 => 137 | 18 => 138 | 19 => 139 | 20 => 140 | 21 => 141 | 22 => 142 | 25 => 150 | 26 => 151 | 27 => 152 | 28 => 153 | 29 => 154 | 30 => 155 | 31 => 156 | n => n, fun | 26 => 9 | 28 => 126 | 24 => 45 | 0 => 0 | 3 => 3 | 37 => 99 | 48 => 187 | 50 => 192 | 4 => 4 | 40 => 238 | 39 => 237 | 45 => 199 | 5 => 5 | 9 => 9 | 51 => 253 | 55 => 257 | 57 => 259 | 58 => 260 | 33 => 160 | n => n, fun | n => n⟩
theorem Tryd.sorted56 : Go.Proofs.SlLaysZ.n6 Tryd.prog Tryd.sorted56_ren := {
  mixed := by kernel_rfl
  f6 := ⟨Tryd.f56.name, by decide, Tryd.func56.trans (congrArg some (by kernel_rfl))⟩
  f8 := ⟨Tryd.f88.name, by decide, Tryd.func88.trans (congrArg some (by kernel_rfl))⟩
  f11 := ⟨Tryd.f115.name, by decide, Tryd.func115.trans (congrArg some (by kernel_rfl))⟩
  t0 := Tryd.underlying0
  a0 := Tryd.isAgg0
  z0 := Tryd.sizeOf0
  v0 := Tryd.zeroValue0
  t24 := Tryd.underlying45
  a24 := Tryd.isAgg45
  z24 := Tryd.sizeOf45
  v24 := Tryd.zeroValue45
  t26 := Tryd.underlying9
  a26 := Tryd.isAgg9
  z26 := Tryd.sizeOf9
  v26 := Tryd.zeroValue9
  t28 := Tryd.underlying126
  a28 := Tryd.isAgg126
  z28 := Tryd.sizeOf126
  v28 := Tryd.zeroValue126
  i26 := by kernel_rfl }
def Tryd.sort89_ren : Go.Shelf.Ren := ⟨fun | 6 => 89 | 8 => 117 | 9 => 116 | 19 => 143 | 20 => 144 | 21 => 134 | 22 => 135 | 23 => 136 | 24 => 137 | 25 => 138 | 26 => 139 | 27 => 140 | 28 => 141 | 29 => 142 | 36 => 150 | 31 => 151 | 32 => 152 | 37 => 153 | 38 => 154 | 39 => 155 | 41 => 156 | n => n, fun | 27 => 45 | 29 => 9 | 3 => 3 | 32 => 99 | 26 => 45 | 0 => 0 | 44 => 187 | 46 => 192 | 4 => 4 | 36 => 238 | 35 => 237 | 41 => 199 | 5 => 5 | 9 => 9 | 53 => 253 | 57 => 257 | 63 => 259 | 64 => 260 | n => n, fun | n => n⟩
theorem Tryd.sort89 : Go.Proofs.SlLaysM.n6 Tryd.prog Tryd.sort89_ren := {
  mixed := by kernel_rfl
  f6 := ⟨Tryd.f89.name, by decide, Tryd.func89.trans (congrArg some (by kernel_rfl))⟩
  f8 := Tryd.func117.trans (congrArg some (by kernel_rfl))
  f9 := ⟨Tryd.f116.name, by decide, Tryd.func116.trans (congrArg some (by kernel_rfl))⟩
  f19 := Tryd.func143.trans (congrArg some (by kernel_rfl))
  f20 := Tryd.func144.trans (congrArg some (by kernel_rfl))
  f21 := ⟨Tryd.f134.name, by decide, Tryd.func134.trans (congrArg some (by kernel_rfl))⟩
  f22 := ⟨Tryd.f135.name, by decide, Tryd.func135.trans (congrArg some (by kernel_rfl))⟩
  f23 := ⟨Tryd.f136.name, by decide, Tryd.func136.trans (congrArg some (by kernel_rfl))⟩
  f24 := ⟨Tryd.f137.name, by decide, Tryd.func137.trans (congrArg some (by kernel_rfl))⟩
  f25 := ⟨Tryd.f138.name, by decide, Tryd.func138.trans (congrArg some (by kernel_rfl))⟩
  f26 := ⟨Tryd.f139.name, by decide, Tryd.func139.trans (congrArg some (by kernel_rfl))⟩
  f27 := ⟨Tryd.f140.name, by decide, Tryd.func140.trans (congrArg some (by kernel_rfl))⟩
  f28 := ⟨Tryd.f141.name, by decide, Tryd.func141.trans (congrArg some (by kernel_rfl))⟩
  f29 := ⟨Tryd.f142.name, by decide, Tryd.func142.trans (congrArg some (by kernel_rfl))⟩
  f31 := Tryd.func151.trans (congrArg some (by kernel_rfl))
  f32 := Tryd.func152.trans (congrArg some (by kernel_rfl))
  f36 := ⟨Tryd.f150.name, by decide, Tryd.func150.trans (congrArg some (by kernel_rfl))⟩
  f37 := ⟨Tryd.f153.name, by decide, Tryd.func153.trans (congrArg some (by kernel_rfl))⟩
  f38 := ⟨Tryd.f154.name, by decide, Tryd.func154.trans (congrArg some (by kernel_rfl))⟩
  f39 := ⟨Tryd.f155.name, by decide, Tryd.func155.trans (congrArg some (by kernel_rfl))⟩
  f41 := ⟨Tryd.f156.name, by decide, Tryd.func156.trans (congrArg some (by kernel_rfl))⟩
  t0 := Tryd.underlying0
  a0 := Tryd.isAgg0
  z0 := Tryd.sizeOf0
  v0 := Tryd.zeroValue0
  t3 := Tryd.underlying3
  a3 := Tryd.isAgg3
  z3 := Tryd.sizeOf3
  v3 := Tryd.zeroValue3
  t4 := Tryd.underlying4
  a4 := Tryd.isAgg4
  z4 := Tryd.sizeOf4
  v4 := Tryd.zeroValue4
  t5 := Tryd.underlying5
  a5 := Tryd.isAgg5
  z5 := Tryd.sizeOf5
  v5 := Tryd.zeroValue5
  t9 := Tryd.underlying9
  a9 := Tryd.isAgg9
  z9 := Tryd.sizeOf9
  v9 := Tryd.zeroValue9
  t26 := Tryd.underlying45
  a26 := Tryd.isAgg45
  z26 := Tryd.sizeOf45
  v26 := Tryd.zeroValue45
  t27 := Tryd.underlying45
  a27 := Tryd.isAgg45
  z27 := Tryd.sizeOf45
  v27 := Tryd.zeroValue45
  t29 := Tryd.underlying9
  a29 := Tryd.isAgg9
  z29 := Tryd.sizeOf9
  v29 := Tryd.zeroValue9
  t32 := Tryd.underlying99
  a32 := Tryd.isAgg99
  z32 := Tryd.sizeOf99
  v32 := Tryd.zeroValue99
  t35 := Tryd.underlying237
  a35 := Tryd.isAgg237
  z35 := Tryd.sizeOf237
  v35 := Tryd.zeroValue237
  t36 := Tryd.underlying238
  a36 := Tryd.isAgg238
  z36 := Tryd.sizeOf238
  v36 := Tryd.zeroValue238
  t41 := Tryd.underlying199
  a41 := Tryd.isAgg199
  z41 := Tryd.sizeOf199
  v41 := Tryd.zeroValue199
  t44 := Tryd.underlying187
  a44 := Tryd.isAgg187
  z44 := Tryd.sizeOf187
  v44 := Tryd.zeroValue187
  t46 := Tryd.underlying192
  a46 := Tryd.isAgg192
  z46 := Tryd.sizeOf192
  v46 := Tryd.zeroValue192
  t53 := Tryd.underlying253
  a53 := Tryd.isAgg253
  z53 := Tryd.sizeOf253
  v53 := Tryd.zeroValue253
  t57 := Tryd.underlying257
  a57 := Tryd.isAgg257
  z57 := Tryd.sizeOf257
  v57 := Tryd.zeroValue257
  t63 := Tryd.underlying259
  a63 := Tryd.isAgg259
  z63 := Tryd.sizeOf259
  v63 := Tryd.zeroValue259
  t64 := Tryd.underlying260
  a64 := Tryd.isAgg260
  z64 := Tryd.sizeOf260
  v64 := Tryd.zeroValue260 }
open Go.RowKit Go.Maps Go.Sort
theorem Tryd.sorts56 (m : Nat) : AnyZ.SortsIn Tryd.prog Tryd.sorted56_ren Fence.wide m :=
  ⟨fun blk off cap ss W hH hblk hsz => callsIn_wide.2 (AnyM.slices_Sort_string Tryd.sort89 blk off cap ss W hH hblk hsz),
   fun p cap W => callsIn_wide.2 (AnyM.slices_Sort_string_none Tryd.sort89 p cap W)⟩

theorem Tryd.maps_Keys_57 (mb : Option Nat) (W : World) : CallsIn Fence.wide 5 Tryd.prog 57 #[.map mb] W fun e w' => e = .returned (.func (.func 90) #[] #[.pointer (some ⟨W.heap.size, 0, none⟩)]) ∧ w' = W.alloc (.cells #[.map mb] 96) :=
  AnyZ.keys_in Tryd.keys57 Fence.wide 5 trivial rfl mb W

set_option maxHeartbeats 1000000 in
theorem Tryd.slices_Sorted_keys_56_57 {H : Type} (b nn : Nat) (D0 : DataW H) (R : Value → Option (DataW H × List MemPlace)) (w : World) (hown : w.ownsMap Tryd.prog 9 R b nn D0) (hmax : Maps.size D0 ≤ maxLen) (hbytes : Maps.size D0 * 16 ≤ 140737488355328) :
    CallsIn Fence.wide 5 Tryd.prog 56 #[.func (.func 90) #[] #[.pointer (some ⟨w.heap.size, 0, none⟩)]] (w.alloc (.cells #[.map (some b)] 96)) fun e w' => ∃ (v : Value) (ss : List (List UInt8)), e = .returned v ∧ ss.Perm (strKeys D0) ∧
      w'.ownsRow (w.alloc (.cells #[.map (some b)] 96)).heap.size 9 1 v ss.length ((ss.mergeSort (fun x y => decide (x ≤ y))).map encStr) ∧ (v = .slice none 0 0 ↔ ss = []) ∧ Below (w.alloc (.cells #[.map (some b)] 96)).heap.size (w.alloc (.cells #[.map (some b)] 96)) w' := by
  have hbl := hown.lt
  have hseq : SeqGives Fence.wide 2 Tryd.prog 90 #[.pointer (some ⟨w.heap.size, 0, none⟩)] encStr (fun ss => ss.Perm (strKeys D0)) (Maps.size D0) (w.alloc (.cells #[.map (some b)] 96)) :=
    AnyZ.keys_gives (ρ := Tryd.keys57_ren) { Tryd.keys57 with } Fence.wide _ trivial rfl (by omega) w.heap.size b nn D0 _ (by simp) (by simp) (by
      obtain ⟨es, clock, hb, Ft, hs, hD⟩ := hown
      exact ⟨es, clock, (Below.heap_alloc _ _ b hbl).trans hb, Ft, hs, hD⟩)
  exact AnyZ.sorted_in Tryd.sorted56 Fence.wide 5 trivial trivial trivial trivial rfl (by omega) (Tryd.sorts56 _) (enters_of Tryd.func89 (by kernel_rfl) rfl) 90 #[.pointer (some ⟨w.heap.size, 0, none⟩)] trivial (enters_of Tryd.func90 (by kernel_rfl) rfl) _ _ hmax hbytes _ hseq

set_option maxHeartbeats 1000000 in
theorem Tryd.slices_Sorted_keys_nil_56_57 (w : World) :
    CallsIn Fence.wide 5 Tryd.prog 56 #[.func (.func 90) #[] #[.pointer (some ⟨w.heap.size, 0, none⟩)]] (w.alloc (.cells #[.map none] 96)) fun e w' => ∃ (v : Value) (ss : List (List UInt8)), e = .returned v ∧ ss = [] ∧
      w'.ownsRow (w.alloc (.cells #[.map none] 96)).heap.size 9 1 v ss.length ((ss.mergeSort (fun x y => decide (x ≤ y))).map encStr) ∧ (v = .slice none 0 0 ↔ ss = []) ∧ Below (w.alloc (.cells #[.map none] 96)).heap.size (w.alloc (.cells #[.map none] 96)) w' := by
  have hseq : SeqGives Fence.wide 2 Tryd.prog 90 #[.pointer (some ⟨w.heap.size, 0, none⟩)] encStr (fun ss : List (List UInt8) => ss = []) 0 (w.alloc (.cells #[.map none] 96)) :=
    AnyZ.keys_gives_nil (ρ := Tryd.keys57_ren) { Tryd.keys57 with } Fence.wide _ trivial rfl w.heap.size _ (by simp) (by simp)
  exact AnyZ.sorted_in Tryd.sorted56 Fence.wide 5 trivial trivial trivial trivial rfl (by omega) (Tryd.sorts56 _) (enters_of Tryd.func89 (by kernel_rfl) rfl) 90 #[.pointer (some ⟨w.heap.size, 0, none⟩)] trivial (enters_of Tryd.func90 (by kernel_rfl) rfl) _ 0 (Nat.zero_le _) (by omega) _ hseq



end Go.Proofs
namespace Go.Proofs.YtggcodobkmhkgaaDoor
set_option linter.unusedVariables false
set_option linter.unusedSimpArgs false
open Go.RowKit Go.Maps Go.Sort Go.Shelf
set_option maxRecDepth 100000
theorem list_none (w : World) : Calls Tryd.prog 19 #[.pointer none] w fun e w' => e = .returned (.slice none 0 0) ∧ w = w' := by
  go_enter Tryd.func19, Tryd.ntmps19
  go_wp2_with (fail)
  go_ret
  exact ⟨rfl, rfl⟩
/-- the names of all files -/
def namesE (es : List Ent) : List Value := es.map fun e => encStr e.nm
def ListPost (w : World) (es : List Ent) (e : Ending) (w' : World) : Prop := ∃ v, e = .returned v ∧ w'.ownsRow w.heap.size 9 1 v es.length (namesE es) ∧ Below w.heap.size w w'
set_option maxHeartbeats 2000000 in
theorem list_any (R : FsR) (w : World) (H : FsAt w R) : Calls Tryd.prog 19 #[.pointer (some ⟨R.pb, 0, none⟩)] w (ListPost w R.es) := by
  have hsz : Maps.size (entD R.es) ≤ 64 := by rw [entD_size]; exact H.many
  have c0 : w.cell? ⟨R.pb, 0, none⟩ = some (.map (some R.mb)) := H.mapc
  have hsorted := Tryd.slices_Sorted_keys_56_57 R.mb R.es.length (entD R.es) heldE w H.map (by unfold maxLen; omega) (by omega)
  have HSO := Lib.hid hsorted
  have HH := Lib.hid H
  clear hsorted hsz H
  refine (callsIn_wide (n := 6)).1 ?_
  have hfK : Fence.wide.fn 57 := trivial
  have hfS : Fence.wide.fn 56 := trivial
  refine callsIn_of_wp Tryd.func19 rfl trivial ?_ rfl
  simp only [Tryd.ntmps19, List.size_toArray, List.length_cons, List.length_nil, Nat.reduceAdd, Nat.reduceSub, Array.replicate_succ, Array.replicate_zero, List.push_toArray, List.append_toArray, List.nil_append, List.cons_append]
  gi_wp2_with (first
    | (gi_at_call 57; refine (Tryd.maps_Keys_57 _ _).mono ?_; rintro e w' ⟨rfl, rfl⟩)
    | (gi_at_call 56; refine HSO.out.mono ?_; rintro e w' ⟨v, ss, rfl, hS, hrow, hnil, hb⟩; have HS := Lib.hid hS; have HR := Lib.hid hrow; have HB := Lib.hid hb; clear hS hrow hb hnil))
  go_ret
  have h1 := names_sort HH.out.sorted HS.out
  have h2 : ss.length = R.es.length := by rw [← List.length_mergeSort (le := fun x y => decide (x ≤ y)), h1, List.length_map]
  have h3 := HR.out
  rw [h1, h2, List.map_map] at h3
  exact ⟨v, rfl, ownsRow_base_le h3 (by simp), (below1 _ _).trans (HB.out.mono (by simp))⟩
end Go.Proofs.YtggcodobkmhkgaaDoor
namespace Go.Proofs.YtggcodobkmhkgaaDoor
set_option linter.unusedVariables false
set_option linter.unusedSimpArgs false
open Go.RowKit Go.Maps
set_option maxRecDepth 100000
theorem ent_eq {es : List Ent} (h : SortedE es) {e x : Ent} (he : e ∈ es) (hx : x ∈ es) (hn : e.nm = x.nm) : e = x := by
  have := sorted_nodup h
  clear h
  induction es with
  | nil => cases he
  | cons y r ih =>
    obtain ⟨g1, g2⟩ := List.pairwise_cons.1 this
    rcases List.mem_cons.1 he with e1 | h1'
    · rcases List.mem_cons.1 hx with e2 | h2'
      · exact e1.trans e2.symm
      · exact absurd (by rw [← e1]; exact hn) (g1 x h2')
    · rcases List.mem_cons.1 hx with e2 | h2'
      · exact absurd (by rw [← e2]; exact hn.symm) (g1 e h1')
      · exact ih h1' h2' g2
/-- a file's bytes stay through a step -/
theorem view_step {R R' : FsR} {w w' : World} (H : FsAt w R) (h : StepTo R R' w w') {e : Ent} (he : e ∈ R.es) : ViewAt w' e.v e.xs := by
  refine (H.ents e he).1.keep h.keep fun k o hf hu => ?_
  rcases hf with rfl | rfl | ⟨x, hx, hs⟩
  · exact absurd hu (H.pb_u8 (H.ents e he) o)
  · exact absurd hu (H.mb_u8 (H.ents e he) o)
  · by_cases hn : x.nm = e.nm
    · rw [← ent_eq H.sorted hx he hn]; exact hs
    · exact absurd hu ((pair_mem H.apart hx he hn k o).1 hs)
theorem length_putE_le (e : Ent) (es : List Ent) : (putE e es).length ≤ es.length + 1 := by
  unfold putE; rw [length_insE]; exact Nat.succ_le_succ (List.length_filter_le _ _)
end Go.Proofs.YtggcodobkmhkgaaDoor
