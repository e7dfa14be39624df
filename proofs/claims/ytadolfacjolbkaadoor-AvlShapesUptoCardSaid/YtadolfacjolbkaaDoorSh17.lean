/- Part 17 of the proof. -/
import Derived.Test.YtadolfacjolbkaaDoorSh4
import Derived.Test.YtadolfacjolbkaaDoorSh16
namespace Go.Proofs.YtadolfacjolbkaaDoor
set_option linter.unusedVariables false
set_option linter.unusedSimpArgs false
open Go.RowKit
set_option maxRecDepth 100000
set_option linter.unusedSimpArgs false
set_option linter.unusedVariables false
def AvT.root : AvT → (Nat → Int)
  | .leaf k v => avLeafF k v
  | .node a b => avNodeF a.many a.root b.many b.root
/-- the cells of a Tree -/
def tCells (k v : ByteArray) (m h : Int) (r : Nat → Int) (p q : Value) : Array Value := #[.string k, .string v, .int .i64 m, .int .i64 h] ++ (rowOf .u8 32 r ++ #[p, q])
theorem tCells_size (k v : ByteArray) (m h : Int) (r : Nat → Int) (p q : Value) : (tCells k v m h r p q).size = 38 := by simp [tCells, rowOf_size]
theorem tCells_one (k v : ByteArray) (m h : Int) (r : Nat → Int) (p q : Option Addr) : (tCells k v m h r (.pointer p) (.pointer q)).all (·.oneCell') = true := by
  unfold tCells
  rw [Array.all_append, Array.all_append, rowOf_one]
  simp [Value.oneCell']
theorem t_cells {w : World} {g : Nat} {k v : ByteArray} {m h : Int} {r : Nat → Int} {p q : Value} {T : TypeId} (hg : w.heap[g]? = some (.cells (tCells k v m h r p q) T (0, 0))) :
    w.cell? ⟨g, 0, none⟩ = some (.string k) ∧ w.cell? ⟨g, 1, none⟩ = some (.string v) ∧ w.cell? ⟨g, 2, none⟩ = some (.int .i64 m) ∧ w.cell? ⟨g, 3, none⟩ = some (.int .i64 h) ∧ w.cell? ⟨g, 36, none⟩ = some p ∧ w.cell? ⟨g, 37, none⟩ = some q ∧ w.rangeAt g 4 (rowOf .u8 32 r).toList := by
  have hs : (rowOf .u8 32 r).size = 32 := rowOf_size _ _ _
  refine ⟨?_, ?_, ?_, ?_, ?_, ?_, fun j u hu => ?_⟩
  · rw [cell_of_row w g 0 _ _ _ hg]; unfold tCells; rw [Array.getElem?_append_left (by simp)]; rfl
  · rw [cell_of_row w g 1 _ _ _ hg]; unfold tCells; rw [Array.getElem?_append_left (by simp)]; rfl
  · rw [cell_of_row w g 2 _ _ _ hg]; unfold tCells; rw [Array.getElem?_append_left (by simp)]; rfl
  · rw [cell_of_row w g 3 _ _ _ hg]; unfold tCells; rw [Array.getElem?_append_left (by simp)]; rfl
  · rw [cell_of_row w g 36 _ _ _ hg]; unfold tCells
    rw [Array.getElem?_append_right (by simp), Array.getElem?_append_right (by simp [hs])]; simp [hs]
  · rw [cell_of_row w g 37 _ _ _ hg]; unfold tCells
    rw [Array.getElem?_append_right (by simp), Array.getElem?_append_right (by simp [hs])]; simp [hs]
  · rw [cell_of_row w g (4 + j) _ _ _ hg]; unfold tCells
    have hj : j < 32 := by have := (List.getElem?_eq_some_iff.1 hu).1; simpa [hs] using this
    rw [Array.getElem?_append_right (by simp), Array.getElem?_append_left (by simp [hs]; omega)]
    simpa using hu
/-- the struct that a composite literal builds -/
theorem tBuild (k v : ByteArray) (m h : Int) (F : Nat → Int) (p q : Value) : Array.foldl (fun (cs : Array Value) (x : Value × Nat) => cs.setIfInBounds (4 + x.snd) x.fst) #[Value.string k, Value.string v, Value.int IntKind.i64 m, Value.int IntKind.i64 h, Value.int IntKind.u8 0, Value.int IntKind.u8 0, Value.int IntKind.u8 0, Value.int IntKind.u8 0, Value.int IntKind.u8 0, Value.int IntKind.u8 0, Value.int IntKind.u8 0, Value.int IntKind.u8 0, Value.int IntKind.u8 0, Value.int IntKind.u8 0, Value.int IntKind.u8 0, Value.int IntKind.u8 0, Value.int IntKind.u8 0, Value.int IntKind.u8 0, Value.int IntKind.u8 0, Value.int IntKind.u8 0, Value.int IntKind.u8 0, Value.int IntKind.u8 0, Value.int IntKind.u8 0, Value.int IntKind.u8 0, Value.int IntKind.u8 0, Value.int IntKind.u8 0, Value.int IntKind.u8 0, Value.int IntKind.u8 0, Value.int IntKind.u8 0, Value.int IntKind.u8 0, Value.int IntKind.u8 0, Value.int IntKind.u8 0, Value.int IntKind.u8 0, Value.int IntKind.u8 0, Value.int IntKind.u8 0, Value.int IntKind.u8 0, p, q] ((rowOf IntKind.u8 32 F).zipIdx 0) 0 32 = tCells k v m h F p q := by kernel_rfl
theorem build_yields {P : Program} {ops : Array Oper} {op : Oper} {a : Act} (hw : Region.wanted op (yielded ops a.tmps) = true) (t : TypeId) (parts : Array (Nat × Operand)) (ho : op.op = .build t parts) (cells : Array Value) (hf : P.built t (parts.map fun (i, x) => (i, a.eval x)).toList = some cells) : Yields P ops op (.agg cells) a := by
  refine Or.inl ⟨hw, fun w => ?_⟩
  have h := run_build w t (parts.map fun (i, x) => (i, a.eval x)) cells hf
  simp only [execOp, ho, Sem.run_bind, h, Result.andThen_ok, Sem.run_pure]
theorem tBuiltN (k : ByteArray) (m h : Int) (F : Nat → Int) (p q : Option Addr) : Tryd.prog.built 79 [(0, .string k), (2, .int .i64 m), (3, .int .i64 h), (4, .agg (rowOf .u8 32 F)), (5, .pointer p), (6, .pointer q)] = some (tCells k eBA m h F (.pointer p) (.pointer q)) := by kernel_rfl
/-- block g is the tree t -/
def TreeAt (w : World) : Nat → AvT → Prop
  | g, .leaf k v => w.heap[g]? = some (.cells (tCells k v 1 1 (avLeafF k v) (.pointer none) (.pointer none)) 79 (0, 0))
  | g, .node a b => ∃ ga gb, (ga < g ∧ gb < g) ∧ w.heap[g]? = some (.cells (tCells a.least eBA ((a.many + b.many : Nat) : Int) ((1 + max a.height b.height : Nat) : Int) (AvT.node a b).root (.pointer (some ⟨ga, 0, none⟩)) (.pointer (some ⟨gb, 0, none⟩))) 79 (0, 0)) ∧ TreeAt w ga a ∧ TreeAt w gb b
theorem TreeAt.cells {w : World} {g : Nat} {t : AvT} (h : TreeAt w g t) : ∃ p q, w.heap[g]? = some (.cells (tCells t.least t.value (t.many : Int) (t.height : Int) t.root (.pointer p) (.pointer q)) 79 (0, 0)) := by
  cases t with
  | leaf k v => exact ⟨none, none, h⟩
  | node a b => obtain ⟨ga, gb, _, h, _⟩ := h; exact ⟨_, _, h⟩
theorem TreeAt.lt {w : World} {g : Nat} {t : AvT} (h : TreeAt w g t) : g < w.heap.size := by
  obtain ⟨p, q, h⟩ := h.cells
  exact (Array.getElem?_eq_some_iff.1 h).1
theorem TreeAt.below {w w' : World} : ∀ {t : AvT} {g : Nat}, TreeAt w g t → Below w.heap.size w w' → TreeAt w' g t
  | .leaf k v, g, h, hb => (hb.block g (Array.getElem?_eq_some_iff.1 h).1).trans h
  | .node a b, g, h, hb => by
    obtain ⟨ga, gb, hl, h, h1, h2⟩ := h
    exact ⟨ga, gb, hl, (hb.block g (Array.getElem?_eq_some_iff.1 h).1).trans h, h1.below hb, h2.below hb⟩
/-- a pointer to a tree, or to none -/
def TreeO (w : World) (v : Value) (t : Option AvT) : Prop := match t with
  | none => v = .pointer none
  | some t => ∃ g, v = .pointer (some ⟨g, 0, none⟩) ∧ TreeAt w g t
theorem TreeO.below {w w' : World} {v : Value} {t : Option AvT} (h : TreeO w v t) (hb : Below w.heap.size w w') : TreeO w' v t := by
  cases t with
  | none => exact h
  | some t => obtain ⟨g, e, h⟩ := h; exact ⟨g, e, h.below hb⟩
theorem len_nil (w : World) : Calls Tryd.prog 14 #[.pointer none] w fun e w' => e = .returned (.int .i64 0) ∧ w = w' := by
  go_enter Tryd.func14, Tryd.ntmps14
  go_wp2_with (fail)
  go_ret
  exact ⟨rfl, rfl⟩
theorem len_some {g : Nat} {t : AvT} (w : World) (h : TreeAt w g t) : Calls Tryd.prog 14 #[.pointer (some ⟨g, 0, none⟩)] w fun e w' => e = .returned (.int .i64 (t.many : Int)) ∧ w = w' := by
  obtain ⟨p, q, h⟩ := h.cells
  obtain ⟨-, -, c2, -⟩ := t_cells h
  clear h
  go_enter Tryd.func14, Tryd.ntmps14
  go_wp2_with (fail)
  go_ret
  exact ⟨rfl, rfl⟩
theorem len_any {v : Value} {t : Option AvT} (w : World) (h : TreeO w v t) : Calls Tryd.prog 14 #[v] w fun e w' => e = .returned (.int .i64 (manyO t : Int)) ∧ w = w' := by
  cases t with
  | none => cases h; exact len_nil w
  | some t => obtain ⟨g, rfl, h⟩ := h; exact len_some w h
theorem height_nil (w : World) : Calls Tryd.prog 27 #[.pointer none] w fun e w' => e = .returned (.int .i64 0) ∧ w = w' := by
  go_enter Tryd.func27, Tryd.ntmps27
  go_wp2_with (fail)
  go_ret
  exact ⟨rfl, rfl⟩
theorem height_some {g : Nat} {t : AvT} (w : World) (h : TreeAt w g t) : Calls Tryd.prog 27 #[.pointer (some ⟨g, 0, none⟩)] w fun e w' => e = .returned (.int .i64 (t.height : Int)) ∧ w = w' := by
  obtain ⟨p, q, h⟩ := h.cells
  obtain ⟨-, -, -, c3, -⟩ := t_cells h
  clear h
  go_enter Tryd.func27, Tryd.ntmps27
  go_wp2_with (fail)
  go_ret
  exact ⟨rfl, rfl⟩
theorem height_any {v : Value} {t : Option AvT} (w : World) (h : TreeO w v t) : Calls Tryd.prog 27 #[v] w fun e w' => e = .returned (.int .i64 (heightO t : Int)) ∧ w = w' := by
  cases t with
  | none => cases h; exact height_nil w
  | some t => obtain ⟨g, rfl, h⟩ := h; exact height_some w h
set_option maxHeartbeats 1000000 in
theorem mkLeaf_any (k v : ByteArray) (w : World) (he : Env w) (hs : k.size + v.size ≤ 140737488351232) :
    Calls Tryd.prog 34 #[.string k, .string v] w fun e w' => ∃ g, e = .returned (.pointer (some ⟨g, 0, none⟩)) ∧ TreeAt w' g (.leaf k v) ∧ Below w.heap.size w w' := by
  have HL := Lib.hid (avLeaf_any k v w he hs)
  obtain ⟨F, hF⟩ : ∃ F, F = avLeafF k v := ⟨_, rfl⟩
  rw [← hF] at HL
  have HF := Lib.hid hF
  have hsz32 : (rowOf .u8 32 F).size = 32 := rowOf_size _ _ _
  clear he hs hF
  go_enter Tryd.func34, Tryd.ntmps34
  go_wp2_with (go_at_call 59; (with_reducible refine HL.out.mono ?_); rintro e w1 ⟨rfl, hb⟩; have HB := Lib.hid hb; clear hb)
  rw [tBuild]
  have HA := Lib.hid (heap_alloc_new w1 (.cells (tCells k v 1 1 F (.pointer none) (.pointer none)) 79))
  have HBA := Lib.hid (below_alloc w1 (.cells (tCells k v 1 1 F (.pointer none) (.pointer none)) 79))
  go_ret
  refine ⟨_, rfl, ?_, HB.out.trans (HBA.out.mono HB.out.size)⟩
  unfold TreeAt
  rw [← HF.out]
  exact HA.out
end Go.Proofs.YtadolfacjolbkaaDoor
