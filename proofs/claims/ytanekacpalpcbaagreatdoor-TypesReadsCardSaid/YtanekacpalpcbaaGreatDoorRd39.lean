/- Part 39 of the proof. -/
import Derived.Laws.IdiomCopy
import Derived.Laws.MakeOwn
import Derived.Lib.AppendStr
import Derived.Maps.AppendAt
import Derived.LaidEql
import Derived.Stop.Asserts
import Derived.RowKitTokens
import Derived.Lib.IfaceEq
import Derived.Test.YtanekacpalpcbaaGreatDoorRd1
import Derived.Test.YtanekacpalpcbaaGreatDoorRd2
import Derived.Test.YtanekacpalpcbaaGreatDoorRd5
import Derived.Test.YtanekacpalpcbaaGreatDoorRd7
import Derived.Test.YtanekacpalpcbaaGreatDoorRd8
import Derived.Test.YtanekacpalpcbaaGreatDoorRd12
import Derived.Test.YtanekacpalpcbaaGreatDoorRd33
import Derived.Test.YtanekacpalpcbaaGreatDoorRd36
import Derived.Test.YtanekacpalpcbaaGreatDoorRd37
import Derived.Test.YtanekacpalpcbaaGreatDoorRd38
namespace Go.Proofs.YtanekacpalpcbaaGreatDoor
set_option linter.unusedVariables false
set_option linter.unusedSimpArgs false
open Go.RowKit
set_option maxRecDepth 100000
theorem setCells_cells (g : Nat) (t : TypeId) : ∀ (vs : List Value) (o : Nat) (w : World) (cs : Array Value), w.heap[g]? = some (.cells cs t (0, 0)) → o + vs.length ≤ cs.size →
    ∃ cs' : Array Value, (w.setCells g o vs).heap[g]? = some (.cells cs' t (0, 0)) ∧ cs'.size = cs.size ∧ ∀ j, cs'[j]? = if o ≤ j ∧ j < o + vs.length then vs[j - o]? else cs[j]?
  | [], o, w, cs, h, _ => ⟨cs, h, rfl, fun j => by rw [if_neg (by simp)]⟩
  | v :: r, o, w, cs, h, hl => by
    have h1 := heap_setCell_same w g o _ t v h
    obtain ⟨cs', h2, h3, h4⟩ := setCells_cells g t r (o + 1) (w.setCell ⟨g, o, none⟩ v) _ h1 (by simp at hl ⊢; omega)
    refine ⟨cs', h2, by rw [h3]; simp, fun j => ?_⟩
    rw [h4 j]
    simp only [List.length_cons] at hl ⊢
    by_cases e : j = o
    · subst e
      rw [if_neg (by omega), if_pos (by omega)]
      have : j < cs.size := by omega
      simp [this]
    · by_cases e2 : o + 1 ≤ j ∧ j < o + 1 + r.length
      · rw [if_pos e2, if_pos (by omega), show j - o = (j - (o + 1)) + 1 by omega]; simp
      · rw [if_neg e2, if_neg (by omega), Array.getElem?_setIfInBounds_ne (by omega)]
/-- block g has room for n hashes; the first m are L -/
def Leaves (w : World) (g n m : Nat) (L : Nat → Nat → Int) : Prop := ∃ cs : Array Value, w.heap[g]? = some (.cells cs 65 (0, 0)) ∧ cs.size = n * 32 ∧ ∀ i, i < m → ∀ j, j < 32 → cs[i * 32 + j]? = some (.int .u8 (L i j))
theorem Leaves.put {w : World} {g n m : Nat} {L : Nat → Nat → Int} (h : Leaves w g n m L) (hm : m < n) : Leaves (w.setCells g (m * 32) (rowOf .u8 32 (L m)).toList) g n (m + 1) L := by
  obtain ⟨cs, h1, h2, h3⟩ := h
  have hl : (rowOf .u8 32 (L m)).toList.length = 32 := (rowOf_list _ _ _).2
  obtain ⟨cs', a, b, c⟩ := setCells_cells g 65 (rowOf .u8 32 (L m)).toList (m * 32) w cs h1 (by rw [hl, h2]; omega)
  refine ⟨cs', a, b.trans h2, fun k hk j hj => ?_⟩
  rw [c, hl]
  by_cases e : k = m
  · subst e
    rw [if_pos (by omega), show k * 32 + j - k * 32 = j by omega, Array.getElem?_toList, rowOf_get _ _ _ _ hj]
  · rw [if_neg (by omega)]
    exact h3 k (by omega) j hj
theorem Leaves.below {w w' : World} {B g n m : Nat} {L : Nat → Nat → Int} (h : Leaves w g n m L) (hb : Below B w w') (hg : g < B) : Leaves w' g n m L := by
  obtain ⟨cs, h1, h2, h3⟩ := h
  exact ⟨cs, (hb.block g hg).trans h1, h2, h3⟩
theorem Leaves.lt {w : World} {g n m : Nat} {L : Nat → Nat → Int} (h : Leaves w g n m L) : g < w.heap.size := by
  obtain ⟨cs, h1, _⟩ := h
  exact (Array.getElem?_eq_some_iff.1 h1).1
theorem Leaves.there {w : World} {g n m : Nat} {L : Nat → Nat → Int} (h : Leaves w g n m L) (i : Nat) (hi : i < n) {s : Nat} (hs : s = 32) : w.there g (i * 32) s := fun j hj => by
  obtain ⟨cs, h1, h2, h3⟩ := h
  subst hs
  have : i * 32 + j < cs.size := by rw [h2]; omega
  exact ⟨by rw [cell_of_row _ _ _ _ _ _ h1]; simp [this], frozen_of_row _ _ _ _ _ h1⟩
def leavesL (n : Nat) (L : Nat → Nat → Int) : List (Nat → Int) := (List.range n).map L
theorem Leaves.hashes {w : World} {g n : Nat} {L : Nat → Nat → Int} (h : Leaves w g n n L) (hn : n ≤ maxLen) : HashesIn w (.slice (some ⟨g, 0, none⟩) n n) (leavesL n L) := by
  have hl : (leavesL n L).length = n := by simp [leavesL]
  have hlt := h.lt
  obtain ⟨cs, h1, h2, h3⟩ := h
  refine ⟨_, n, by rw [hl], by omega, hn, .inr ⟨g, 0, rfl, hlt, fun i hi j v hv => ?_⟩⟩
  rw [hl] at hi
  have hj : j < 32 := by have := (List.getElem?_eq_some_iff.1 hv).1; rw [(rowOf_list _ _ _).2] at this; exact this
  have e : (leavesL n L).getD i zeroH = L i := by simp [leavesL, List.getD, hi]
  rw [e, Array.getElem?_toList, rowOf_get _ _ _ _ hj] at hv
  rw [cell_of_row _ _ _ _ _ _ h1, Nat.zero_add, h3 i hi j hj]; exact hv
theorem make_hashes (n : Nat) (hn : n ≤ 1024) : ∃ C : Array Value, C.size = n * 32 ∧ ∀ w : World, (Instr.makeSlice 161 (.int .i64 (n : Int)) (.int .i64 (n : Int))).run Tryz.prog w = .ok (.slice (some ⟨w.heap.size, 0, none⟩) n n) (w.alloc (.cells C 65)) := by
  obtain ⟨i0, hi, hz0, hz1, hz2⟩ := info_parts Tryz.info25
  refine ⟨madeCells (Value.agg (rowOf .u8 32 (fun _ => 0))).cells (n * 32), size_madeCells _ _, fun w => ?_⟩
  have := run_makeSlice w 161 65 i0 _ Tryz.underlying161 hi hz0 .i64 .i64 (n : Int) (n : Int) (by omega) (by omega) (by rw [hz1]; omega) (by rw [hz2]; omega) (by omega)
  rw [Int.toNat_natCast, hz1] at this
  exact this
theorem Leaves.store {w : World} {g n m : Nat} {L : Nat → Nat → Int} (h : Leaves w g n m L) (hm : m < n) (P : Nat → Int) : (storeCells ⟨g, m * 32, none⟩ (rowOf .u8 32 P).toList).run Tryz.prog w = .ok () (w.setCells g (m * 32) (rowOf .u8 32 P).toList) := by
  have ht := h.there m hm rfl
  have hl : (rowOf .u8 32 P).toList.length = 32 := (rowOf_list _ _ _).2
  exact run_storeCells_cells g (m * 32) (rowOf .u8 32 P).toList 0 w (fun j hj => (ht j (by omega)).1) (fun j hj => (ht j (by omega)).2) (fun v hv => (Array.all_eq_true_iff_forall_mem.1 (rowOf_one _ _ _)) v (by simpa using hv))
end Go.Proofs.YtanekacpalpcbaaGreatDoor
namespace Go.Proofs.YtanekacpalpcbaaGreatDoor
set_option linter.unusedVariables false
set_option linter.unusedSimpArgs false
open Go.RowKit
set_option maxRecDepth 100000
/-- the key's leaves -/
def keyL (F : Nat → Int) (D k : Nat) : List (Nat → Int) := leavesL (2 ^ k) (fun i => pubF F (i : Int) D)
def kRootR (F : Nat → Int) (D E : Int) : (Nat → Int) × Option Nat := if kOk D E then (rootF (keyL F D.toNat E.toNat), none) else (fun _ => 0, some 20)
end Go.Proofs.YtanekacpalpcbaaGreatDoor
namespace Go.Proofs.YtanekacpalpcbaaGreatDoor
set_option linter.unusedVariables false
set_option linter.unusedSimpArgs false
open Go.RowKit
set_option maxRecDepth 100000
theorem strCells_nums (s : ByteArray) : Lib.strCells s = byteVals (numsOf s) := by
  unfold Lib.strCells byteVals numsOf
  rw [List.map_map]
  rfl
theorem run_append_str (w : World) (base : Nat) (v : Value) (n : Nat) (vs : List Value) (hown : w.ownsRow base 5 1 v n vs) (s : ByteArray) (hl : n + s.size ≤ 140737488355328) (hb : base ≤ w.heap.size) :
    ∃ v' w', (Builtin.append_ #[34, 9] 34 #[v, .string s]).run Tryz.prog w = .ok v' w' ∧ w'.ownsRow base 5 1 v' (n + s.size) (vs ++ byteVals (numsOf s)) ∧ w.grownBy w' v.ownBlock := by
  obtain ⟨i0, hi, hz0, hz1, hz2⟩ := info_parts infoU8
  obtain ⟨v', w', h1, h2, h3, _⟩ := Lib.run_append_own_string (P := Tryz.prog) w base 34 9 34 5 i0 Tryz.underlying34 Tryz.underlying9 hi hz0 hz1 hz2 v n vs hown s (by unfold maxLen; omega) hl hb
  rw [strCells_nums] at h2
  exact ⟨v', w', h1, h2, h3⟩
theorem wpList_append_str {w : World} {ops : Array Oper} {rest : List Oper} {o : Oper} {a : Act} {Q : Exit → Act → World → Prop} (hgd : o.guard = none) (s x : Operand)
    (ho : o.op = .call { callee := .builtin .append, args := #[s, x], argTypes := #[34, 9] }) (hty : o.type = 34)
    (base : Nat) (v : Value) (n : Nat) (vs : List Value) (hs : a.eval s = v) (hown : w.ownsRow base 5 1 v n vs) (y : ByteArray) (hx : a.eval x = .string y) (hl : n + y.size ≤ 140737488355328) (hb : base ≤ w.heap.size)
    (h : ∀ v' w', w'.ownsRow base 5 1 v' (n + y.size) (vs ++ byteVals (numsOf y)) → w.grownBy w' v.ownBlock → wpList Tryz.prog ops Q rest (a.put o.dst v') w') : wpList Tryz.prog ops Q (o :: rest) a w := by
  refine wpList_plain hgd fun K hK => ?_
  obtain ⟨v', w', hr, h1, h2⟩ := run_append_str w base v n vs hown y hl hb
  unfold Oper.wp execOp
  simp only [ho, hty, resolve, invoke, builtin, Sem.run_bind, Sem.run_pure, Result.andThen_ok, List.map_toArray, List.map_cons, List.map_nil, hs, hx, hr]
  exact hK _ _ (h v' w' h1 h2)
theorem owns_lit1 (w : World) (x : Int) : (w.alloc (.cells #[.int .u8 x] 5)).ownsRow w.heap.size 5 1 (.slice (some ⟨w.heap.size, 0, none⟩) 1 1) 1 [.int .u8 x] :=
  ⟨rfl, .inr ⟨w.heap.size, 1, _, rfl, Nat.le_refl _, heap_alloc_new w _, by omega, by decide, rfl, rfl⟩⟩
def seedF (s : ByteArray) : Nat → Int := sumF (5 :: numsOf s)
end Go.Proofs.YtanekacpalpcbaaGreatDoor
namespace Go.Proofs.YtanekacpalpcbaaGreatDoor
set_option linter.unusedVariables false
set_option linter.unusedSimpArgs false
open Go.RowKit
set_option maxRecDepth 100000
/-- equal in the first 32 places -/
def E32 (p q : Nat → Int) : Prop := ∀ j, j < 32 → p j = q j
theorem E32.bytes {p q : Nat → Int} (h : E32 p q) : bytesOf p = bytesOf q := by
  unfold bytesOf
  exact List.map_congr_left fun j hj => h j (List.mem_range.1 hj)
theorem E32.rowL {p q : Nat → Int} (h : E32 p q) : rowL 32 p = rowL 32 q := rowL_congr h
theorem E32.node1 {p q s : Nat → Int} (h : E32 p q) : nodeF p s = nodeF q s := by unfold nodeF; rw [h.bytes]
theorem E32.node2 {p q s : Nat → Int} (h : E32 p q) : nodeF s p = nodeF s q := by unfold nodeF; rw [h.bytes]
theorem E32.step {p q s : Nat → Int} {b : Bool} (h : E32 p q) : foldStep s (b, p) = foldStep s (b, q) := by
  unfold foldStep
  cases b
  · exact h.node2
  · exact h.node1
inductive All32 : List (Nat → Int) → List (Nat → Int) → Prop
  | nil : All32 [] []
  | cons {p q : Nat → Int} {ps qs : List (Nat → Int)} : E32 p q → All32 ps qs → All32 (p :: ps) (q :: qs)
theorem All32.length {ps qs : List (Nat → Int)} (h : All32 ps qs) : ps.length = qs.length := by
  induction h with
  | nil => rfl
  | cons _ _ ih => simp [ih]
theorem All32.snoc {ps qs : List (Nat → Int)} {p q : Nat → Int} (h : All32 ps qs) (e : E32 p q) : All32 (ps ++ [p]) (qs ++ [q]) := by
  induction h with
  | nil => exact .cons e .nil
  | cons e' _ ih => exact .cons e' ih
theorem All32.refl : ∀ ps : List (Nat → Int), All32 ps ps
  | [] => .nil
  | _ :: r => .cons (fun _ _ => rfl) (All32.refl r)
theorem All32.fold {ps qs : List (Nat → Int)} (h : All32 ps qs) : ∀ (ts : List Bool) (s : Nat → Int), foldT s (ts.zip ps) = foldT s (ts.zip qs) := by
  induction h with
  | nil => intro ts s; rfl
  | cons e _ ih =>
    intro ts s
    cases ts with
    | nil => rfl
    | cons b ts =>
      show foldT (foldStep s (b, _)) (ts.zip _) = foldT (foldStep s (b, _)) (ts.zip _)
      rw [e.step, ih]
def pathL : List (Nat → Int) → List Int
  | [] => []
  | p :: r => rowL 32 p ++ pathL r
theorem pathL_snoc (ps : List (Nat → Int)) (p : Nat → Int) : pathL (ps ++ [p]) = pathL ps ++ rowL 32 p := by
  induction ps with
  | nil => simp [pathL]
  | cons q r ih => simp only [List.cons_append, pathL, ih, List.append_assoc]
theorem pathL_length : ∀ ps, (pathL ps).length = 32 * ps.length
  | [] => rfl
  | p :: r => by simp only [pathL, List.length_append, rowL_length, pathL_length r, List.length_cons]; omega
/-- the bytes of a signature -/
def encF (leaf : Nat) (once : List Int) (ps : List (Nat → Int)) : List Int := varint leaf ++ (varint once.length ++ once) ++ varint ps.length ++ pathL ps
def hashesS (s : RSt) : Nat → List (Nat → Int) × RSt
  | 0 => ([], s)
  | k + 1 => ((hashesS s k).1 ++ [(hashS (hashesS s k).2).1], (hashS (hashesS s k).2).2)
theorem hashesS_length (s : RSt) : ∀ k, (hashesS s k).1.length = k
  | 0 => rfl
  | k + 1 => by simp [hashesS, hashesS_length s k]
structure Sg where
  leaf : Nat
  once : List Int
  path : List (Nat → Int)
def zSg : Sg := ⟨0, [], []⟩
def sA (xs : List Int) := uintS (xs, none) 1023
def sB (xs : List Int) := partS (sA xs).2 4096
def sC (xs : List Int) := uintS (sB xs).2 10
def sD (xs : List Int) := hashesS (sC xs).2 (sC xs).1
/-- the parts of bytes, or the error -/
def decS (xs : List Int) : Sg × Option Nat := if doneE (sD xs).2 = none then (⟨(sA xs).1, (sB xs).1, (sD xs).1⟩, none) else (zSg, some 3)
theorem hashS_rowE (p : Nat → Int) (r : List Int) : E32 (hashS (rowL 32 p ++ r, none)).1 p ∧ (hashS (rowL 32 p ++ r, none)).2 = (r, none) := by
  have hl : ¬ (rowL 32 p ++ r).length < 32 := by rw [List.length_append, rowL_length]; omega
  rw [hashS_long hl]
  refine ⟨fun j hj => ?_, ?_⟩
  · show (rowL 32 p ++ r).getD j 0 = p j
    rw [List.getD_eq_getElem?_getD, List.getElem?_append_left (by rw [rowL_length]; exact hj)]
    simp [rowL, hj]
  · show ((rowL 32 p ++ r).drop 32, (none : Option Nat)) = (r, none)
    rw [List.drop_left' (rowL_length 32 p)]
theorem hashesS_path (ps : List (Nat → Int)) : ∀ k, k ≤ ps.length → All32 (hashesS (pathL ps, none) k).1 (ps.take k) ∧ (hashesS (pathL ps, none) k).2 = (pathL (ps.drop k), none)
  | 0, _ => ⟨.nil, rfl⟩
  | k + 1, h => by
    obtain ⟨h1, h2⟩ := hashesS_path ps k (by omega)
    have hk : k < ps.length := by omega
    have e : ps.drop k = ps[k] :: ps.drop (k + 1) := List.drop_eq_getElem_cons hk
    have e2 : ps.take (k + 1) = ps.take k ++ [ps[k]] := by rw [List.take_succ_eq_append_getElem hk]
    obtain ⟨h3, h4⟩ := hashS_rowE ps[k] (pathL (ps.drop (k + 1)))
    have e3 : (hashesS (pathL ps, none) k).2 = (rowL 32 ps[k] ++ pathL (ps.drop (k + 1)), none) := by rw [h2, e]; rfl
    refine ⟨?_, ?_⟩
    · show All32 ((hashesS (pathL ps, none) k).1 ++ [(hashS (hashesS (pathL ps, none) k).2).1]) _
      rw [e2, e3]; exact h1.snoc h3
    · show (hashS (hashesS (pathL ps, none) k).2).2 = _
      rw [e3]; exact h4
theorem decS_encF (leaf : Nat) (once : List Int) (ps : List (Nat → Int)) (h1 : leaf ≤ 1023) (h2 : once.length ≤ 4096) (h3 : ps.length ≤ 10) :
    ∃ ps', decS (encF leaf once ps) = (⟨leaf, once, ps'⟩, none) ∧ All32 ps' ps := by
  have hA : sA (encF leaf once ps) = (leaf, (varint once.length ++ (once ++ (varint ps.length ++ pathL ps))), none) := by
    unfold sA encF
    rw [List.append_assoc, List.append_assoc, uintS_varint leaf 1023 _ (by omega) h1, List.append_assoc]
  have hB : sB (encF leaf once ps) = (once, varint ps.length ++ pathL ps, none) := by
    unfold sB
    rw [hA]
    exact partS_bytes once _ 4096 (by omega) (by omega) (by omega)
  have hC : sC (encF leaf once ps) = (ps.length, pathL ps, none) := by
    unfold sC
    rw [hB]
    exact uintS_varint ps.length 10 _ (by omega) h3
  obtain ⟨h4, h5⟩ := hashesS_path ps ps.length (Nat.le_refl _)
  rw [List.take_length] at h4
  rw [List.drop_length] at h5
  have hD : sD (encF leaf once ps) = hashesS (pathL ps, none) ps.length := by unfold sD; rw [hC]
  refine ⟨(hashesS (pathL ps, none) ps.length).1, ?_, h4⟩
  unfold decS
  rw [hA, hB, hD, h5]
  rfl
end Go.Proofs.YtanekacpalpcbaaGreatDoor
namespace Go.Proofs.YtanekacpalpcbaaGreatDoor
set_option linter.unusedVariables false
set_option linter.unusedSimpArgs false
open Go.RowKit
set_option maxRecDepth 100000
theorem flatC_get : ∀ (ps : List (Nat → Int)) (i j : Nat), i < ps.length → j < 32 → (flatC ps)[i * 32 + j]? = (rowOf .u8 32 (ps.getD i zeroH)).toList[j]?
  | [], i, j, h, _ => by simp at h
  | p :: ps, 0, j, _, hj => by
    show ((rowOf .u8 32 p).toList ++ flatC ps)[0 * 32 + j]? = _
    rw [Nat.zero_mul, Nat.zero_add, List.getElem?_append_left (by rw [(rowOf_list _ _ _).2]; exact hj)]; rfl
  | p :: ps, i + 1, j, h, hj => by
    show ((rowOf .u8 32 p).toList ++ flatC ps)[(i + 1) * 32 + j]? = _
    rw [List.getElem?_append_right (by rw [(rowOf_list _ _ _).2]; omega), (rowOf_list _ _ _).2, show (i + 1) * 32 + j - 32 = i * 32 + j by omega, flatC_get ps i j (by simpa using h) hj]; rfl
theorem HashesIn.of_own {w : World} {B : Nat} {r : Value} {ps : List (Nat → Int)} (h : w.ownsRow B 65 32 r ps.length (flatC ps)) : HashesIn w r ps := by
  rcases h.2 with ⟨rfl, h0⟩ | ⟨tb, cap, cur, rfl, _, hh, hc, hm, _⟩
  · exact ⟨none, 0, by rw [h0], by omega, by simp [maxLen], .inl (List.eq_nil_of_length_eq_zero h0)⟩
  · refine ⟨_, cap, rfl, hc, hm, .inr ⟨tb, 0, rfl, (Array.getElem?_eq_some_iff.1 hh).1, fun i hi j u hj => ?_⟩⟩
    have hj32 : j < 32 := by have := (List.getElem?_eq_some_iff.1 hj).1; rw [(rowOf_list _ _ _).2] at this; exact this
    have := h.cells (g := tb) rfl (i * 32 + j) u (by rw [flatC_get ps i j hi hj32]; exact hj)
    rw [Addr.add_mid] at this
    rw [show 0 + i * 32 + j = 0 + (i * 32 + j) by omega]; exact this
theorem HashesIn.len {w : World} {r : Value} {ps : List (Nat → Int)} (h : HashesIn w r ps) : ∃ a cap, r = .slice a ps.length cap := by
  obtain ⟨a, cap, e, _⟩ := h
  exact ⟨a, cap, e⟩
theorem flatC_length (ps : List (Nat → Int)) : (flatC ps).length = ps.length * 32 := by
  induction ps with
  | nil => rfl
  | cons p ps ih =>
    show ((rowOf .u8 32 p).toList ++ flatC ps).length = _
    rw [List.length_append, (rowOf_list _ _ _).2, ih, List.length_cons]; omega
theorem flatC_one (ps : List (Nat → Int)) : ∀ u ∈ flatC ps, u.oneCell' = true := by
  intro u hu
  simp only [flatC, List.mem_flatMap] at hu
  obtain ⟨p, _, hp⟩ := hu
  exact (Array.all_eq_true_iff_forall_mem.1 (rowOf_one _ _ _)) u (by simpa using hp)
/-- append of hashes to a slice of one's own -/
theorem run_append_hashes (w : World) (base : Nat) (v : Value) (n : Nat) (vs : List Value) (hown : w.ownsRow base 65 32 v n vs) (y : Value) (ps : List (Nat → Int)) (hy : HashesIn w y ps) (hl : (n + ps.length) * 32 ≤ 140737488355328) (hb : base ≤ w.heap.size) :
    ∃ v' w', (Builtin.append_ #[161, 161] 161 #[v, y]).run Tryz.prog w = .ok v' w' ∧ w'.ownsRow base 65 32 v' (n + ps.length) (vs ++ flatC ps) ∧ w.grownBy w' v.ownBlock := by
  obtain ⟨i0, hi, hz0, hz1, hz2⟩ := info_parts Tryz.info25
  obtain ⟨a, c, rfl, hc, hm, hx⟩ := hy
  rcases a with _ | ad
  · have hn : ps = [] := by
      rcases hx with hx | ⟨_, _, h, _⟩
      · exact hx
      · cases h
    subst hn
    refine ⟨v, w, ?_, by simpa [flatC] using hown, ⟨rfl, rfl, rfl, Nat.le_refl _, fun _ _ _ => rfl⟩⟩
    rcases hown.2 with ⟨rfl, rfl⟩ | ⟨g, cap, cur, rfl, _, _, hnc, _⟩
    · simp [Builtin.append_, run_underlying Tryz.underlying161, sizeOf, typeInfo, hi, Builtin.lenOf, Builtin.firstCells]
    · simp [Builtin.append_, run_underlying Tryz.underlying161, sizeOf, typeInfo, hi, Builtin.lenOf, Builtin.firstCells, hnc, storeCells]
  · have hcells : ∀ j u, (flatC ps)[j]? = some u → w.cell? (ad.add j) = some u := fun j u hu => by
      rcases hx with rfl | ⟨ab, ao, h, _, hx⟩
      · simp [flatC] at hu
      · injection h with h; subst h
        have hj : j < ps.length * 32 := by have := (List.getElem?_eq_some_iff.1 hu).1; rw [flatC_length] at this; exact this
        have e : j = j / 32 * 32 + j % 32 := by omega
        rw [e, flatC_get ps (j / 32) (j % 32) (by omega) (by omega)] at hu
        have := hx (j / 32) (by omega) (j % 32) u hu
        rw [Addr.add_mid, e, ← Nat.add_assoc]; exact this
    obtain ⟨v', w', hr, h1, h2, _, h4⟩ := run_append_own_at w base 161 161 65 i0 (.agg (rowOf .u8 32 (fun _ => 0))) 32 32 Tryz.underlying161 hi hz0 hz1 hz2 (by simp [Value.cells, rowOf_size]) (by decide) v n vs hown ad ps.length c (flatC ps) (flatC_length ps) hcells (flatC_one ps) (by unfold maxLen; omega) hl hb
    exact ⟨v', w', hr, h1, h2⟩
theorem wpList_append_hashes {w : World} {ops : Array Oper} {rest : List Oper} {o : Oper} {a : Act} {Q : Exit → Act → World → Prop} (hgd : o.guard = none) (s x : Operand)
    (ho : o.op = .call { callee := .builtin .append, args := #[s, x], argTypes := #[161, 161] }) (hty : o.type = 161)
    (base : Nat) (v : Value) (n : Nat) (vs : List Value) (hs : a.eval s = v) (hown : w.ownsRow base 65 32 v n vs) (y : Value) (ps : List (Nat → Int)) (hx : a.eval x = y) (hy : HashesIn w y ps) (hl : (n + ps.length) * 32 ≤ 140737488355328) (hb : base ≤ w.heap.size)
    (h : ∀ v' w', w'.ownsRow base 65 32 v' (n + ps.length) (vs ++ flatC ps) → w.grownBy w' v.ownBlock → wpList Tryz.prog ops Q rest (a.put o.dst v') w') : wpList Tryz.prog ops Q (o :: rest) a w := by
  refine wpList_plain hgd fun K hK => ?_
  obtain ⟨v', w', hr, h1, h2⟩ := run_append_hashes w base v n vs hown y ps hy hl hb
  unfold Oper.wp execOp
  simp only [ho, hty, resolve, invoke, builtin, Sem.run_bind, Sem.run_pure, Result.andThen_ok, List.map_toArray, List.map_cons, List.map_nil, hs, hx, hr]
  exact hK _ _ (h v' w' h1 h2)
theorem HashesIn.at {w : World} {a : Option Addr} {n cap : Nat} {ps : List (Nat → Int)} (h : HashesIn w (.slice a n cap) ps) (k : Nat) (hk : k < ps.length) : ∃ ab ao, a = some ⟨ab, ao, none⟩ ∧ ab < w.heap.size ∧ w.rangeAt ab (ao + k * 32) (rowOf .u8 32 (ps.getD k zeroH)).toList := by
  obtain ⟨a', cap', e, hc, hm, hx⟩ := h
  injection e with e1 e2 e3
  subst e1
  rcases hx with rfl | ⟨ab, ao, rfl, hlt, hx⟩
  · simp at hk
  · exact ⟨ab, ao, rfl, hlt, hx k hk⟩
end Go.Proofs.YtanekacpalpcbaaGreatDoor
namespace Go.Proofs.YtanekacpalpcbaaGreatDoor
set_option linter.unusedVariables false
set_option linter.unusedSimpArgs false
open Go.RowKit
set_option maxRecDepth 100000
theorem bytes_own_lt {w : World} {y : Value} {ys : List Int} (h : BytesIn w y ys) (hn : ys ≠ []) : ∀ k, y.ownBlock = some k → k < w.heap.size := by
  obtain ⟨a, c, rfl, _, _, hx⟩ := h
  rcases hx with hx | ⟨ab, ao, rfl, hx⟩
  · exact absurd hx hn
  · intro k hk
    cases ys with
    | nil => exact absurd rfl hn
    | cons x r =>
      have := World.block_lt_of_cell? w _ (hx 0 x rfl)
      have e : ab = k := by simpa [Value.ownBlock] using hk
      show k < w.heap.size
      rw [← e]; exact this
theorem wbytes_on (p B : Nat) (v y : Value) (xs ys : List Int) (w0 w : World) (hw : WAt w p v xs) (hy : BytesIn w y ys) (hlt : ys ≠ [] → ∀ k, y.ownBlock = some k → k < p) (hb : Below B w0 w) (hB : B ≤ p) (hl : xs.length + ys.length + 10 ≤ 140737488355328) :
    Calls Tryz.prog 229 #[.pointer (some ⟨p, 0, none⟩), y] w fun e w' => e = .returned (.pointer (some ⟨p, 0, none⟩)) ∧ ∃ v', WAt w' p v' (xs ++ (varint ys.length ++ ys)) ∧ Below B w0 w' :=
  (wbytes_any p v y xs ys w hw hy (fun hn => Apart.of_lt hw (hlt hn)) hl).mono fun _ _ h => wpost_on h hw hb hB
theorem wdone_new (p B : Nat) (v : Value) (xs : List Int) (w0 w : World) (hw : WAt w p v xs) (hb : Below B w0 w) (hB : B ≤ p) (hl : xs.length ≤ 140737488355328) :
    Calls Tryz.prog 168 #[.pointer (some ⟨p, 0, none⟩)] w fun e w' => ∃ v', e = .returned v' ∧ BytesIn w' v' xs ∧ (∀ j, v'.ownBlock = some j → B ≤ j) ∧ Below B w0 w' :=
  (done_any p v xs w hw hl).mono fun _ _ ⟨v', he, ho, hb'⟩ => ⟨v', he, owns_in ho (by unfold maxLen; omega), fun j hj => by have := (ho.lt j hj).1; have := hw.lt; omega, hb.trans (hb'.mono (by have := hw.lt; omega))⟩
end Go.Proofs.YtanekacpalpcbaaGreatDoor
namespace Go.Proofs.YtanekacpalpcbaaGreatDoor
set_option linter.unusedVariables false
set_option linter.unusedSimpArgs false
open Go.RowKit Go.Extern.Stop Go.Stop Go.Extern
set_option maxRecDepth 100000
theorem isTypeOf (v : Value) (w : World) : (ReflectliteType.typeOf #[.iface 127 v]).run Tryz.prog w = .ok (.iface 299 (.agg #[.pointer (some ⟨5, 127, none⟩)])) w := by kernel_rfl
theorem isComparable (w : World) : ((ReflectliteType.method fun t => do Rtype.noPackHeld "Comparable" t; pure (.bool (← typeInfo t).comparable)) #[.agg #[.pointer (some ⟨5, 127, none⟩)]]).run Tryz.prog w = .ok (.bool true) w := by kernel_rfl
theorem isMethodComparable (m : Nat) (v : Value) (w : World) : (Go.method (m + 1) 299 v "Comparable").run Tryz.prog w = .ok (286, v) w := by kernel_rfl
theorem isCompCall (w : World) : (callFunc 286 #[.agg #[.pointer (some ⟨5, 127, none⟩)]]).run Tryz.prog w = .ok (.value (.bool true)) w := by
  rw [@run_callFunc_extern Tryz.prog 286 _ (ReflectliteType.method fun t => do Rtype.noPackHeld "Comparable" t; pure (.bool (← typeInfo t).comparable)) Tryz.func286 (by kernel_rfl) (by kernel_rfl) (by kernel_rfl) (by kernel_rfl), isComparable]
  rfl
theorem isComp : (Tryz.prog.info? 127).map (·.comparable) = some true := by kernel_rfl
theorem noIsE (v : Value) (xT : TypeId) (w : World) : (Instr.typeAssert (.iface 127 v) xT 326 true).run Tryz.prog w = .ok (.tuple #[.nilIface, .bool false]) w := run_typeAssert_lacksB Tryz.underlying326 (by kernel_rfl) (by kernel_rfl) v xT w
theorem noUnwrapE (v : Value) (xT : TypeId) (w : World) : (Instr.typeAssert (.iface 127 v) xT 306 true).run Tryz.prog w = .ok (.tuple #[.nilIface, .bool false]) w := run_typeAssert_lacksB Tryz.underlying306 (by kernel_rfl) (by kernel_rfl) v xT w
theorem noUnwrapsE (v : Value) (xT : TypeId) (w : World) : (Instr.typeAssert (.iface 127 v) xT 307 true).run Tryz.prog w = .ok (.tuple #[.nilIface, .bool false]) w := run_typeAssert_lacksB Tryz.underlying307 (by kernel_rfl) (by kernel_rfl) v xT w
theorem is_nil (k : Int) (w : World) :
    Calls Tryz.prog 128 #[.nilIface, .iface 127 (.int .i64 k)] w fun e w' => e = .returned (.bool false) ∧ w = w' := by
  have hn := run_eql_iface_nil_left (P := Tryz.prog) w 127 (.int .i64 k) Tryz.underlying29
  go_enter Tryz.func128, Tryz.ntmps128
  go_wp2
  go_ret
  exact ⟨rfl, rfl⟩
theorem is_num (n k : Int) (w : World) :
    Calls Tryz.prog 128 #[.iface 127 (.int .i64 n), .iface 127 (.int .i64 k)] w fun e w' => e = .returned (.bool (n == k)) ∧ w = w' := by
  have h8 := @run_callFunc_extern Tryz.prog 193 _ ReflectliteType.typeOf Tryz.func193 (by kernel_rfl) (by kernel_rfl) (by kernel_rfl) (by kernel_rfl)
  have h32 := isCompCall
  have tT := isTypeOf
  have mR := isMethodComparable
  have nE := noIsE
  have uE := noUnwrapE
  have vE := noUnwrapsE
  have heq := Lib.run_eql_iface_int (P := Tryz.prog) w (k := .i64) n k Tryz.underlying29 isComp Tryz.underlying127
  cases hb : (n == k)
  · rw [hb] at heq
    go_enter Tryz.func128, Tryz.ntmps128
    go_wp2
    refine wp_loop_rounds 1 ?_
    rw [rounds_succ]
    go_wp2
    go_ret
    exact ⟨rfl, rfl⟩
  · rw [hb] at heq
    go_enter Tryz.func128, Tryz.ntmps128
    go_wp2
    refine wp_loop_rounds 1 ?_
    rw [rounds_succ]
    go_wp2
    go_ret
    exact ⟨rfl, rfl⟩
end Go.Proofs.YtanekacpalpcbaaGreatDoor
