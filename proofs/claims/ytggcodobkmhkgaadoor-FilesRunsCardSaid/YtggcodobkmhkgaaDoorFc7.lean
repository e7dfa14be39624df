/- Part 7 of the proof. -/
import Derived.Outline
import Derived.Test.YtggcodobkmhkgaaDoorFc6
namespace Go.Proofs.YtggcodobkmhkgaaDoor
set_option linter.unusedVariables false
set_option linter.unusedSimpArgs false
open Go.RowKit Go.Maps
set_option maxRecDepth 100000
theorem Below.alloc0 {w w1 : World} (h : Below w.heap.size w w1) (o : Obj) : Below w.heap.size w (w1.alloc o) := h.alloc h.size o
section
variable {w : World} {ops : Array Oper} {rest : List Oper} {o : Oper} {a : Act} {Q : Exit → Act → World → Prop}
theorem wpList_look (hgd : o.guard = none) (m x : Operand) (ok : Bool) (hop : o.op = Op.lookup 96 m x ok) (mb : Nat) (s : ByteArray) (hm : a.eval m = .map (some mb)) (hx : a.eval x = .string s) (v : Value)
    (hr : (Instr.lookup 96 (.map (some mb)) (.string s) ok).run Tryd.prog w = .ok v w) (hK : wpList Tryd.prog ops Q rest (a.put o.dst v) w) : wpList Tryd.prog ops Q (o :: rest) a w := by
  refine wpList_plain hgd fun K' hK' => ?_
  unfold Oper.wp
  simp [execOp, hop, hm, hx, hr, Result.andThen]
  exact hK' _ _ hK
end
/-- what find answers -/
def findR (R : FsR) (s : ByteArray) : Option Nat × Option Ent :=
  match checkE R.down [s] with
  | some n => (some n, none)
  | none => match getE s.data.toList R.es with | some e => (none, some e) | none => (some 8, none)
theorem FsAt.look_some {w : World} {R : FsR} (h : FsAt w R) {s : ByteArray} (hs : s.size ≤ maxLen) {e : Ent} (he : getE s.data.toList R.es = some e) {a : Option Addr} {n cap : Nat} (hv : e.v = .slice a n cap) :
    (Instr.lookup 96 (.map (some R.mb)) (.string s) true).run Tryd.prog w = .ok (.tuple #[.agg #[.slice a n cap, .int .i64 e.safe], .bool true]) w := by
  rw [h.look s hs, he]; show Result.ok (Value.tuple #[.agg #[e.v, .int .i64 e.safe], .bool true]) w = _; rw [hv]
theorem FsAt.look_none {w : World} {R : FsR} (h : FsAt w R) {s : ByteArray} (hs : s.size ≤ maxLen) (he : getE s.data.toList R.es = none) :
    (Instr.lookup 96 (.map (some R.mb)) (.string s) true).run Tryd.prog w = .ok (.tuple #[.agg #[.slice none 0 0, .int .i64 0], .bool false]) w := by
  rw [h.look s hs, he]; rfl
def FindPost (w : World) (r : Option Nat × Option Ent) (e : Ending) (w' : World) : Prop := e = .returned (.tuple #[fileV r.2, errV r.1]) ∧ Below w.heap.size w w'
theorem names1 {w : World} {s : ByteArray} {T : TypeId} : ∀ i t, [s][i]? = some t → ∃ g, some (⟨w.heap.size, 0, none⟩ : Addr) = some ⟨g, 0, none⟩ ∧ (w.alloc (.cells #[.string s] T)).cell? ⟨g, i, none⟩ = some (.string t) := by
  intro i t hi
  refine ⟨_, rfl, ?_⟩
  match i, hi with
  | 0, hi => cases hi; rw [cell_of_row _ _ 0 _ _ _ (heap_alloc_new w _)]; rfl
set_option maxHeartbeats 2000000 in
theorem find_any (R : FsR) (w : World) (H : FsAt w R) (s : ByteArray) (hs : s.size ≤ maxLen) : Calls Tryd.prog 52 #[.pointer (some ⟨R.pb, 0, none⟩), .string s] w (FindPost w (findR R s)) := by
  have c0 : w.cell? ⟨R.pb, 0, none⟩ = some (.map (some R.mb)) := by rw [H.cell]; rfl
  have c0b : w.cell? ⟨R.pb, 0 + 0, none⟩ = some (.map (some R.mb)) := c0
  have hpb : R.pb < w.heap.size := H.pb_lt
  have HH := Lib.hid H
  have HS := Lib.hid hs
  have hcheck : ∀ T1 T2 cs, Calls Tryd.prog 49 #[.pointer (some ⟨R.pb, 0, none⟩), .slice (some ⟨w.heap.size + 1, 0, none⟩) 1 1] ((w.alloc (.cells cs T1)).alloc (.cells #[.string s] T2)) (fun e w' => e = .returned (errV (checkE R.down [s])) ∧ ((w.alloc (.cells cs T1)).alloc (.cells #[.string s] T2)) = w') := fun T1 T2 cs =>
    check_any R _ (H.below (Below.alloc0 (Below.alloc0 (Below.refl _ _) _) _)) _ 1 1 [s] rfl (by simp) (by have := @names1 (w.alloc (.cells cs T1)) s T2; rwa [size_alloc] at this) (by simpa using hs)
  have HC := Lib.hid hcheck
  clear hcheck H hs
  cases hck : checkE R.down [s] with
  | some n =>
    have HR : Hid (findR R s = (some n, none)) := Lib.hid (by unfold findR; rw [hck])
    have hcc := HC.out
    rw [hck] at hcc
    simp only [errV] at hcc
    have HC1 := Lib.hid hcc
    clear hck hcc HC
    go_enter Tryd.func52, Tryd.ntmps52
    go_wp2_with (go_at_call 49; (with_reducible refine (HC1.out _ _ _).mono ?_); rintro e w' ⟨rfl, rfl⟩)
    exact bodyPost_ret (v := .tuple #[.agg #[.slice none 0 0, .int .i64 0], .iface 117 (.int .i64 n)]) (by simp [results, Tryd.results52, go_sem]) rfl ⟨by rw [HR.out]; rfl, Below.alloc0 (Below.alloc0 (Below.refl _ _) _) _⟩
  | none =>
    have hcc := HC.out
    rw [hck] at hcc
    simp only [errV] at hcc
    have HC1 := Lib.hid hcc
    clear hcc HC
    cases hg : getE s.data.toList R.es with
    | none =>
      have HR : Hid (findR R s = (some 8, none)) := Lib.hid (by unfold findR; rw [hck, hg])
      have HLK : ∀ w1, Below w.heap.size w w1 → Hid ((Instr.lookup 96 (.map (some R.mb)) (.string s) true).run Tryd.prog w1 = .ok (.tuple #[.agg #[.slice none 0 0, .int .i64 0], .bool false]) w1) := fun w1 hb => Lib.hid ((HH.out.below hb).look_none HS.out hg)
      have HLH := Lib.hid HLK
      clear hck hg HLK
      go_enter Tryd.func52, Tryd.ntmps52
      go_wp2_with (first | (go_at_call 49; (with_reducible refine (HC1.out _ _ _).mono ?_); rintro e w' ⟨rfl, rfl⟩) | (at_lookup; refine wpList_look rfl _ _ true rfl R.mb s rfl rfl _ (HLH.out _ (Below.alloc0 (Below.alloc0 (Below.refl _ _) _) _)).out ?_))
      exact bodyPost_ret (v := .tuple #[.agg #[.slice none 0 0, .int .i64 0], .iface 117 (.int .i64 8)]) (by simp [results, Tryd.results52, go_sem]) rfl ⟨by rw [HR.out]; rfl, Below.alloc0 (Below.alloc0 (Below.alloc0 (Below.refl _ _) _) _) _⟩
    | some en =>
      have HR : Hid (findR R s = (none, some en)) := Lib.hid (by unfold findR; rw [hck, hg])
      have HG := Lib.hid hg
      obtain ⟨a, cap, hv⟩ := (HH.out.ents en (getE_some hg).1).1.len
      have HV := Lib.hid hv
      have HLK : ∀ w1, Below w.heap.size w w1 → Hid ((Instr.lookup 96 (.map (some R.mb)) (.string s) true).run Tryd.prog w1 = .ok (.tuple #[.agg #[.slice a en.xs.length cap, .int .i64 en.safe], .bool true]) w1) := fun w1 hb => Lib.hid ((HH.out.below hb).look_some HS.out hg hv)
      have HLH := Lib.hid HLK
      clear hck hg hv HLK
      go_enter Tryd.func52, Tryd.ntmps52
      go_wp2_with (first | (go_at_call 49; (with_reducible refine (HC1.out _ _ _).mono ?_); rintro e w' ⟨rfl, rfl⟩) | (at_lookup; refine wpList_look rfl _ _ true rfl R.mb s rfl rfl _ (HLH.out _ (Below.alloc0 (Below.alloc0 (Below.refl _ _) _) _)).out ?_))
      exact bodyPost_ret (v := .tuple #[.agg #[.slice a en.xs.length cap, .int .i64 en.safe], .nilIface]) (by simp [results, Tryd.results52, go_sem]) rfl ⟨by rw [HR.out]; show Ending.returned (.tuple #[_, Value.nilIface]) = Ending.returned (.tuple #[entV en, Value.nilIface]); unfold entV; rw [HV.out], Below.alloc0 (Below.alloc0 (Below.alloc0 (Below.refl _ _) _) _) _⟩
end Go.Proofs.YtggcodobkmhkgaaDoor
