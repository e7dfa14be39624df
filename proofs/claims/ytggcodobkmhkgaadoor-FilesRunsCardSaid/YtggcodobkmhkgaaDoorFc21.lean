/- Part 21 of the proof. -/
import Derived.Sort.Walk0
import Derived.BigQuiet
import Derived.Laws.ResultCell
import Derived.Test.YtggcodobkmhkgaaDoorFc1
import Derived.Test.YtggcodobkmhkgaaDoorFc20
namespace Go.Proofs.YtggcodobkmhkgaaDoor
set_option linter.unusedVariables false
set_option linter.unusedSimpArgs false
open Go.RowKit Go.Maps Go.Proofs
set_option maxRecDepth 100000
set_option maxHeartbeats 1000000 in
theorem named4_any (s : ByteArray) (w : World) (hs : s.size ≤ maxLen) : Calls Tryd.prog 78 #[.string s] w fun e w' => e = .returned (.bool (nmOk s.data.toList)) ∧ w = w' := by
  unfold maxLen at hs
  have HSZ : Hid (s.data.toList.length = s.size) := Lib.hid rfl
  go_enter Tryd.func78, Tryd.ntmps78
  go_wp2_with (fail)
  go_loop [3] (fun i => ∃ k : Nat, k ≤ s.size ∧ i = .int .i64 k ∧ ∀ j, j < k → ∀ b, s.data.toList[j]? = some b → okB b = true) (fun i => s.size - (intOf i).toNat)
  case atStart => exact ⟨0, Nat.zero_le _, rfl, fun j hj => by omega⟩
  case round =>
    obtain ⟨k, hk, rfl, hall⟩ := hrel
    have HA := Lib.hid hall
    clear hall
    by_cases hlt : k < s.size
    · have HB : Hid (s.data.toList[k]? = some s[k]) := Lib.hid (by rw [List.getElem?_eq_getElem (by rw [HSZ.out]; exact hlt)]; rfl)
      by_cases hlo : s[k].toNat < 33
      · have HR : Hid (nmOk s.data.toList = false) := Lib.hid (nmOk_bad (List.mem_of_getElem? HB.out) (okB_false_of (.inl hlo)))
        go_wp2_with (fail)
        go_ret
        exact ⟨by rw [HR.out]; rfl, rfl⟩
      · by_cases hhi : 126 < s[k].toNat
        · have HR : Hid (nmOk s.data.toList = false) := Lib.hid (nmOk_bad (List.mem_of_getElem? HB.out) (okB_false_of (.inr hhi)))
          go_wp2_with (fail)
          go_ret
          exact ⟨by rw [HR.out]; rfl, rfl⟩
        · have HO := Lib.hid (okB_of (b := s[k]) (by omega) (by omega))
          go_wp2_with (fail)
          go_round
          case rel => exact ⟨k + 1, by omega, by go_num, fun j hj b hb => by
            rcases Nat.lt_or_ge j k with h | h
            · exact HA.out j h b hb
            · obtain rfl : j = k := by omega
              rw [HB.out] at hb; cases hb; exact HO.out⟩
          case measure => simp [intOf]; omega
    · obtain rfl : k = s.size := by omega
      have HALL : Hid (s.data.toList.all okB = true) := Lib.hid (by
        rw [List.all_eq_true]
        intro b hb
        obtain ⟨j, hj⟩ := List.getElem?_of_mem hb
        exact HA.out j (by rw [← HSZ.out]; exact (List.getElem?_eq_some_iff.1 hj).1) b hj)
      by_cases h0 : s.size = 0
      · have HR : Hid (nmOk s.data.toList = false) := Lib.hid (nmOk_short (by rw [HSZ.out]; exact h0))
        have h0' : ¬ (0 : Int) < s.size := by omega
        go_wp2_with (fail)
        go_ret
        exact ⟨by rw [HR.out]; rfl, rfl⟩
      · have h0' : (0 : Int) < s.size := by omega
        by_cases h64 : s.size ≤ 64
        · have HR : Hid (nmOk s.data.toList = true) := Lib.hid (by
            rw [nmOk_eq, HALL.out, HSZ.out]
            simp; omega)
          have h64' : (s.size : Int) ≤ 64 := by omega
          go_wp2_with (fail)
          go_ret
          exact ⟨by rw [HR.out]; rfl, rfl⟩
        · have HR : Hid (nmOk s.data.toList = false) := Lib.hid (nmOk_long (by rw [HSZ.out]; omega))
          have h64' : ¬ (s.size : Int) ≤ 64 := by omega
          go_wp2_with (fail)
          go_ret
          exact ⟨by rw [HR.out]; rfl, rfl⟩
/-- a file of the reference -/
structure RF where
  nm : ByteArray
  sf : ByteArray
  ls : ByteArray
def RF.cells (f : RF) : List Value := [.string f.nm, .string f.sf, .string f.ls]
def RF.v (f : RF) : Value := .agg #[.string f.nm, .string f.sf, .string f.ls]
def filesL (L : List RF) : List Value := L.flatMap RF.cells
theorem filesL_length (L : List RF) : (filesL L).length = L.length * 3 := by
  induction L with
  | nil => rfl
  | cons f r ih => rw [filesL, List.flatMap_cons, List.length_append, show (r.flatMap RF.cells).length = (filesL r).length from rfl, ih]; simp [RF.cells]; omega
theorem filesL_append (A B : List RF) : filesL (A ++ B) = filesL A ++ filesL B := List.flatMap_append
theorem filesL_at : ∀ {L : List RF} {i : Nat} {f : RF}, L[i]? = some f → ∀ j v, f.cells[j]? = some v → (filesL L)[i * 3 + j]? = some v
  | [], _, _, h, _, _, _ => by cases h
  | x :: r, 0, f, h, j, v, hv => by
    obtain rfl : x = f := by simpa using h
    rw [filesL, List.flatMap_cons, List.getElem?_append_left (by have := (List.getElem?_eq_some_iff.1 hv).1; omega), Nat.zero_mul, Nat.zero_add]
    exact hv
  | x :: r, i + 1, f, h, j, v, hv => by
    have := filesL_at (L := r) (i := i) (by simpa using h) j v hv
    rw [filesL, List.flatMap_cons, List.getElem?_append_right (by simp [RF.cells]; omega)]
    rw [← this]
    show (filesL r)[_]? = _
    congr 1
    simp [RF.cells]; omega
def FilesIn (w : World) (v : Value) (L : List RF) : Prop := w.ownsRow 0 111 3 v L.length (filesL L) ∧ L.length ≤ 1000
theorem FilesIn.lies {w : World} {v : Value} {L : List RF} (h : FilesIn w v L) : ∃ a cap, v = .slice a L.length cap ∧ L.length ≤ cap ∧ cap ≤ maxLen ∧ ((L = [] ∧ a = none ∧ cap = 0) ∨ ∃ g, a = some ⟨g, 0, none⟩ ∧ g < w.heap.size ∧ ∀ i f, L[i]? = some f → w.rangeAt g (i * 3) f.cells) := by
  rcases h.1.2 with ⟨rfl, h0⟩ | ⟨g, cap, cur, rfl, hb, hg, hc, hm, hs, ht⟩
  · exact ⟨none, 0, by rw [h0], by omega, by simp [maxLen], .inl ⟨List.eq_nil_of_length_eq_zero h0, rfl, rfl⟩⟩
  · refine ⟨_, cap, rfl, hc, hm, .inr ⟨g, rfl, (Array.getElem?_eq_some_iff.1 hg).1, fun i f hi j v hv => ?_⟩⟩
    have := h.1.cells (g := g) rfl (i * 3 + j) v (filesL_at hi j v hv)
    rw [Addr.add_mid, Nat.zero_add] at this
    exact this
theorem FilesIn.below {w w' : World} {v : Value} {L : List RF} (h : FilesIn w v L) (hb : Below w.heap.size w w') : FilesIn w' v L := by
  refine ⟨⟨h.1.1, ?_⟩, h.2⟩
  rcases h.1.2 with h | ⟨g, cap, cur, rfl, h0, hg, r⟩
  · exact .inl h
  · exact .inr ⟨g, cap, cur, rfl, h0, (hb.block g (Array.getElem?_eq_some_iff.1 hg).1).trans hg, r⟩
theorem FilesIn.nil (w : World) : FilesIn w (.slice none 0 0) [] := ⟨World.ownsRow_nil _ _ _ _, by simp⟩
structure RSt where
  L : List RF
  steps : Int
  armed : Bool
  left : Int
  down : Bool
def rsC (lv : Value) (r : RSt) : Array Value := #[lv, .int .i64 r.steps, .bool r.armed, .int .i64 r.left, .bool r.down]
def rsV (lv : Value) (r : RSt) : Value := .agg (rsC lv r)
/-- where a name belongs -/
def findN (n : List UInt8) (L : List RF) : Nat := (L.takeWhile fun f => bytesBefore f.nm.data.toList n).length
def isN (n : List UInt8) (L : List RF) : Bool := match L[findN n L]? with | some f => f.nm.data.toList == n | none => false
end Go.Proofs.YtggcodobkmhkgaaDoor
namespace Go.Proofs.YtggcodobkmhkgaaDoor
set_option linter.unusedVariables false
set_option linter.unusedSimpArgs false
open Go.RowKit Go.Maps Go.Proofs
set_option maxRecDepth 100000
theorem less_eq (a b : ByteArray) : Op.bytesLess a.toList b.toList = bytesBefore a.data.toList b.data.toList := by
  rw [bytesLess_eq, Lib.toList_data, Lib.toList_data, Bool.eq_iff_iff, decide_eq_true_eq, before_lt]
theorem findN_at {n : List UInt8} : ∀ {L : List RF} {k : Nat}, k ≤ L.length → (∀ j, j < k → ∀ f, L[j]? = some f → bytesBefore f.nm.data.toList n = true) → (∀ f, L[k]? = some f → bytesBefore f.nm.data.toList n = false) → findN n L = k
  | [], k, hk, _, _ => by simp at hk; subst hk; rfl
  | x :: r, 0, _, _, h => by
    have := h x rfl
    unfold findN
    rw [List.takeWhile_cons_of_neg (by rw [this]; simp)]
    rfl
  | x :: r, k + 1, hk, ha, h => by
    have h0 := ha 0 (by omega) x rfl
    have := findN_at (L := r) (k := k) (by simp at hk; omega) (fun j hj f hf => ha (j + 1) (by omega) f (by simpa using hf)) (fun f hf => h f (by simpa using hf))
    unfold findN at this ⊢
    rw [List.takeWhile_cons_of_pos (p := fun f : RF => bytesBefore f.nm.data.toList n) h0, List.length_cons, this]
theorem isN_at {n : List UInt8} {L : List RF} {f : RF} (h : L[findN n L]? = some f) : isN n L = (f.nm.data.toList == n) := by unfold isN; rw [h]
theorem isN_none {n : List UInt8} {L : List RF} (h : L[findN n L]? = none) : isN n L = false := by unfold isN; rw [h]
theorem rs_fields {w : World} {p : Nat} {lv : Value} {r : RSt} {T : TypeId} (h : w.heap[p]? = some (.cells (rsC lv r) T (0, 0))) : w.cell? ⟨p, 0, none⟩ = some lv ∧ w.cell? ⟨p, 1, none⟩ = some (.int .i64 r.steps) ∧ w.cell? ⟨p, 2, none⟩ = some (.bool r.armed) ∧ w.cell? ⟨p, 3, none⟩ = some (.int .i64 r.left) ∧ w.cell? ⟨p, 4, none⟩ = some (.bool r.down) := by
  refine ⟨?_, ?_, ?_, ?_, ?_⟩ <;> (rw [cell_of_row w p _ _ _ _ h]; rfl)
set_option maxHeartbeats 2000000 in
theorem find4_any (lv : Value) (r : RSt) (s : ByteArray) (w : World) (hL : FilesIn w lv r.L) (hs : s.size ≤ maxLen) :
    Calls Tryd.prog 111 #[rsV lv r, .string s] w fun e w' => e = .returned (.tuple #[.int .i64 (findN s.data.toList r.L : Int), .bool (isN s.data.toList r.L)]) ∧ Below w.heap.size w w' := by
  obtain ⟨L, st, ar, lf, dn⟩ := r
  simp only at hL
  have hlen := hL.2
  obtain ⟨a, cap, rfl, hc, hm, hx⟩ := hL.lies
  have HX := Lib.hid hx
  have HL := Lib.hid hL
  have HBX := Lib.hid (below_alloc w (.cells (rsC (.slice a L.length cap) ⟨L, st, ar, lf, dn⟩) 27))
  unfold rsV rsC
  clear hx hc hm hL hs
  go_enter Tryd.func111, Tryd.ntmps111
  go_wp2_with (fail)
  go_loop [6] (fun i => ∃ k : Nat, k ≤ L.length ∧ i = .int .i64 k ∧ ∀ j, j < k → ∀ f, L[j]? = some f → bytesBefore f.nm.data.toList s.data.toList = true) (fun i => L.length - (intOf i).toNat)
  case atStart => exact ⟨0, Nat.zero_le _, rfl, fun j hj => by omega⟩
  case round =>
    obtain ⟨k, hk, rfl, hall⟩ := hrel
    have HA := Lib.hid hall
    clear hall
    by_cases hlt : k < L.length
    · have HF := Lib.hid (List.getElem?_eq_getElem hlt)
      obtain ⟨f, hf⟩ : ∃ f, f = L[k] := ⟨_, rfl⟩
      rw [← hf] at HF
      clear hf
      rcases HX.out with ⟨h, _⟩ | ⟨g, rfl, hg, hcl⟩
      · exact absurd (by rw [h]; rfl : L.length = 0) (by omega)
      have hcell := hcl k f HF.out 0 _ rfl
      rw [Nat.add_zero] at hcell
      have hcell' := HBX.out.cell (p := ⟨g, k * 3, none⟩) hg
      rw [hcell] at hcell'
      unfold rsC at hcell' HBX
      have HB := Lib.hid hcell
      clear hcl hcell hg
      cases hb : bytesBefore f.nm.data.toList s.data.toList with
      | true =>
        have hless : Op.bytesLess f.nm.toList s.toList = true := by rw [less_eq]; exact hb
        go_wp2_with (fail)
        go_round
        case rel => exact ⟨k + 1, by omega, by go_num, fun j hj x hx => by
          rcases Nat.lt_or_ge j k with h | h
          · exact HA.out j h x hx
          · obtain rfl : j = k := by omega
            rw [HF.out] at hx; cases hx; exact hb⟩
        case measure => simp [intOf]; omega
      | false =>
        have hfn := findN_at (Nat.le_of_lt hlt) HA.out (fun x hx => by rw [HF.out] at hx; cases hx; exact hb)
        have hin : isN s.data.toList L = (f.nm.data.toList == s.data.toList) := isN_at (by rw [hfn]; exact HF.out)
        have hless : Op.bytesLess f.nm.toList s.toList = false := by rw [less_eq]; exact hb
        have HFN := Lib.hid hfn
        have HIN := Lib.hid hin
        have hlti : (k : Int) < L.length := by omega
        clear hfn hin
        go_wp2_with (fail)
        go_quiet (fail)
        go_wp2_with (fail)
        go_ret2
        refine ⟨by rw [HFN.out, HIN.out, ← Lib.toList_data, ← Lib.toList_data]; rfl, ?_⟩
        have h := HBX.out
        exact ⟨h.os, h.tape, h.output, h.size, h.block⟩
    · have hkL : k = L.length := by omega
      have hfn := findN_at (Nat.le_of_eq hkL) HA.out (fun x hx => by rw [List.getElem?_eq_none (by omega)] at hx; cases hx)
      have hin : isN s.data.toList L = false := isN_none (by rw [hfn]; exact List.getElem?_eq_none (by omega))
      have HFN := Lib.hid hfn
      have HIN := Lib.hid hin
      have hlti : ¬ (k : Int) < L.length := by omega
      clear hfn hin
      go_wp2_with (fail)
      go_quiet (fail)
      go_wp2_with (fail)
      go_ret2
      refine ⟨by rw [HFN.out, HIN.out, hkL]; rfl, ?_⟩
      have h := HBX.out
      exact ⟨h.os, h.tape, h.output, h.size, h.block⟩
end Go.Proofs.YtggcodobkmhkgaaDoor
namespace Go.Proofs.YtggcodobkmhkgaaDoor
set_option linter.unusedVariables false
set_option linter.unusedSimpArgs false
open Go.RowKit
theorem results_cell_tmp_row {P : Program} {fn : Func} {p u : Tmp} {ty : TypeId} (h : fn.results = #[.cell p ty, .tmp u]) (tmps : Array Value) (w : World) (g : Nat) (t : TypeId) (cs : Array Value) (fr : Nat × Nat) (d : TypeDesc)
    (hp : tmps.getD p undef = .pointer (some ⟨g, 0, none⟩)) (hg : w.heap[g]? = some (.cells cs t fr))
    (hu : P.underlying ty = some d) (hd : (match d with | .struct _ | .array _ _ => true | _ => false) = true) (hi : (P.info? ty).map (·.size) = some cs.size) :
    (results fn tmps).run P w = .ok (.tuple #[.agg cs, tmps.getD u undef]) w := by
  have hp' : tmps[p]?.getD undef = .pointer (some ⟨g, 0, none⟩) := by simpa using hp
  simp [results, h, hp', asAddr, run_loadVar_row w g t ty cs fr d hg hu hd hi]
end Go.Proofs.YtggcodobkmhkgaaDoor
