/- Part 40 of the proof. -/
import Derived.Test.YtabflppnecemkaaGreatDoorPb28
import Derived.Test.YtabflppnecemkaaGreatDoorPb39
namespace Go.Proofs.YtabflppnecemkaaGreatDoor
set_option linter.unusedVariables false
set_option linter.unusedSimpArgs false
open Go.RowKit
set_option maxRecDepth 100000
set_option linter.unusedSimpArgs false
set_option linter.unusedVariables false
theorem path_foldP : ∀ (t : AvT) (i : Nat), i < t.many → t.many ≤ 4611686018427387904 → (t.path i).foldl upP (avLeafF (t.at? i).1 (t.at? i).2, 0, 1) = (t.root, (i : Int), (t.many : Int))
  | .leaf k v, i, h, _ => by
    simp only [AvT.many] at h
    obtain rfl : i = 0 := by omega
    rfl
  | .node a b, i, h, hm => by
    simp only [AvT.many] at h hm
    unfold AvT.path AvT.at?
    split
    · rename_i hi
      rw [List.foldl_append, path_foldP a i hi (by omega)]
      simp only [List.foldl_cons, List.foldl_nil, upP, AvT.root, AvT.many]
      rw [uN_nat _ (by omega), uN_nat _ (by omega)]
      simp
    · rename_i hi
      rw [List.foldl_append, path_foldP b (i - a.many) (by omega) (by omega)]
      simp only [List.foldl_cons, List.foldl_nil, upP, AvT.root, AvT.many]
      rw [uN_nat _ (by omega), uN_nat _ (by omega)]
      simp only [if_true]
      congr 2 <;> omega
theorem path_len8 : ∀ (t : AvT) (i : Nat), (t.path i).length + 1 ≤ t.many
  | .leaf k v, i => by simp [AvT.path, AvT.many]
  | .node a b, i => by
    have ha := path_len8 a i
    have hb := path_len8 b (i - a.many)
    have pa := a.many_pos
    have pb := b.many_pos
    unfold AvT.path
    simp only [AvT.many]
    split <;> rw [List.length_append, List.length_singleton] <;> omega
theorem path_ok : ∀ (t : AvT) (i : Nat), t.many ≤ 4294967296 → ∀ s ∈ t.path i, okS s = true
  | .leaf k v, i, _, s, h => by simp [AvT.path] at h
  | .node a b, i, hm, s, h => by
    have pa := a.many_pos
    have pb := b.many_pos
    unfold AvT.path at h
    simp only [AvT.many] at hm
    split at h
    · rcases List.mem_append.1 h with h | h
      · exact path_ok a i (by omega) s h
      · rw [List.mem_singleton.1 h]; unfold okS; simp only [Bool.and_eq_true, decide_eq_true_eq]; omega
    · rcases List.mem_append.1 h with h | h
      · exact path_ok b _ (by omega) s h
      · rw [List.mem_singleton.1 h]; unfold okS; simp only [Bool.and_eq_true, decide_eq_true_eq]; omega
theorem follow_at {t : AvT} {i : Nat} (hi : i < t.many) (hm : t.many ≤ 64) : followF t.root ⟨(t.at? i).1, (t.at? i).2, t.path i⟩ = some (t.root, (i : Int), (t.many : Int)) := by
  unfold followF showF
  have h1 := path_len8 t i
  rw [if_pos ⟨by show (t.path i).length ≤ 64; omega, List.all_eq_true.2 (path_ok t i (by omega))⟩]
  show (if eqB ((t.path i).foldl upP (avLeafF (t.at? i).1 (t.at? i).2, 0, 1)).1 t.root = true then some ((t.path i).foldl upP (avLeafF (t.at? i).1 (t.at? i).2, 0, 1)) else none) = _
  rw [path_foldP t i hi (by omega)]
  rw [if_pos (eqB_self _)]
theorem atP_in {t : Option AvT} {i : Nat} {p : KV} (h : (pairsO t)[i]? = some p) (hm : manyO t ≤ 64) :
    ∃ s, atP t (i : Int) = [⟨p.1, p.2, s⟩] ∧ followF (rootO t) ⟨p.1, p.2, s⟩ = some (rootO t, (i : Int), (manyO t : Int)) := by
  cases t with
  | none => simp [pairsO] at h
  | some t =>
    have hi : i < t.many := by rw [← AvT.many_eq]; exact (List.getElem?_eq_some_iff.1 h).1
    have he : t.at? i = p := Option.some.inj ((at_eq t i hi).symm.trans h)
    subst he
    refine ⟨t.path i, ?_, follow_at hi hm⟩
    have hc : (0 : Int) ≤ (i : Int) ∧ (i : Int) < (t.many : Int) := by omega
    unfold atP atO pathO
    show (if 0 ≤ (i : Int) ∧ (i : Int) < (t.many : Int) then _ else _) = _
    rw [if_pos hc]
    dsimp only
    rw [if_pos hc, if_pos hc]
    simp
theorem atP_out {t : Option AvT} {i : Int} (h : i < 0 ∨ (manyO t : Int) ≤ i) : atP t i = [] := by
  unfold atP
  rw [if_neg (by omega)]
theorem exist_at {t : Option AvT} {i : Nat} {p : KV} (hs : Srt (pairsO t)) (h : (pairsO t)[i]? = some p) (hm : manyO t ≤ 64) :
    ∃ s, exP t p.1 = some ⟨p.1, p.2, s⟩ ∧ verF (rootO t) p.1 p.2 ⟨p.1, p.2, s⟩ = none := by
  obtain ⟨s, h1, h2⟩ := atP_in h hm
  refine ⟨s, ?_, ?_⟩
  · unfold exP
    rw [(find_place hs h).1, h1]
    simp [exQ]
  · unfold verF
    rw [if_pos ⟨rfl, rfl⟩, h2]
    rfl
/-- of keys in order those below k come first -/
theorem srt_below (k : ByteArray) : ∀ (l : List KV), Srt l → ∀ i p, l[i]? = some p → (bl p.1 k = true ↔ i < (l.filter fun q => bl q.1 k).length)
  | [], _, i, p, h => by simp at h
  | q :: l, hs, i, p, h => by
    obtain ⟨h1, h2⟩ := List.pairwise_cons.1 hs
    cases i with
    | zero =>
      injection h with h; subst h
      constructor
      · intro hq; rw [List.filter_cons, if_pos hq]; simp
      · intro hq
        cases hb : bl q.1 k with
        | true => rfl
        | false =>
          rw [List.filter_cons, if_neg (by simpa using hb), filter_no (fun r hr => by
            cases hr2 : bl r.1 k with
            | false => rfl
            | true => rw [bl_trans (h1 r hr) hr2] at hb; cases hb)] at hq
          simp at hq
    | succ i =>
      have hp : l[i]? = some p := by simpa using h
      have ih := srt_below k l h2 i p hp
      cases hb : bl q.1 k with
      | true => rw [List.filter_cons, if_pos hb, List.length_cons, ih]; omega
      | false =>
        have hn : ∀ r ∈ l, bl r.1 k = false := fun r hr => by
          cases hr2 : bl r.1 k with
          | false => rfl
          | true => rw [bl_trans (h1 r hr) hr2] at hb; cases hb
        rw [List.filter_cons, if_neg (by simpa using hb), filter_no (fun r hr => hn r hr), hn p (List.mem_of_getElem? hp)]
        simp
theorem find_below {t : Option AvT} (hs : Srt (pairsO t)) {i : Nat} {p : KV} (h : (pairsO t)[i]? = some p) (k : ByteArray) : bl p.1 k = true ↔ i < findO t k := by
  cases t with
  | none => simp [pairsO] at h
  | some t =>
    show _ ↔ i < t.find k
    rw [find_eq k t hs]
    exact srt_below k _ hs i p h
theorem findO_le (t : Option AvT) (hs : Srt (pairsO t)) (k : ByteArray) : findO t k ≤ manyO t := by
  cases t with
  | none => exact Nat.le_refl _
  | some t =>
    show t.find k ≤ t.many
    rw [find_eq k t hs, ← AvT.many_eq]
    exact List.length_filter_le _ _
theorem place_of {t : Option AvT} {i : Nat} (h : i < manyO t) : ∃ p, (pairsO t)[i]? = some p := by
  rw [← manyO_eq] at h
  exact ⟨_, List.getElem?_eq_getElem h⟩
/-- the left neighbour of a key that is not there -/
theorem noL_at {t : Option AvT} {k : ByteArray} (hs : Srt (pairsO t)) (hm : manyO t ≤ 64) (hk : getO t k = none) (h0 : 0 < findO t k) :
    ∃ p s, (pairsO t)[findO t k - 1]? = some p ∧ noL t k = [⟨p.1, p.2, s⟩] ∧ bl p.1 k = true ∧ followF (rootO t) ⟨p.1, p.2, s⟩ = some (rootO t, (findO t k : Int) - 1, (manyO t : Int)) := by
  have hl := findO_le t hs k
  obtain ⟨p, hp⟩ := place_of (t := t) (i := findO t k - 1) (by omega)
  obtain ⟨s, h1, h2⟩ := atP_in hp hm
  have e : ((findO t k - 1 : Nat) : Int) = (findO t k : Int) - 1 := by omega
  rw [e] at h1 h2
  refine ⟨p, s, hp, ?_, (find_below hs hp k).2 (by omega), h2⟩
  unfold noL
  rw [hk, ← h1]
  rfl
theorem noL_none {t : Option AvT} {k : ByteArray} (hk : getO t k = none) (h0 : findO t k = 0) : noL t k = [] := by
  unfold noL
  rw [hk, h0]
  show atP t (((0 : Nat) : Int) - 1) = []
  exact atP_out (.inl (by omega))
theorem noR_at {t : Option AvT} {k : ByteArray} (hs : Srt (pairsO t)) (hm : manyO t ≤ 64) (hk : getO t k = none) (h0 : findO t k < manyO t) :
    ∃ (p : KV) (s : List AvS), noR t k = [⟨p.1, p.2, s⟩] ∧ bl p.1 k = false ∧ p.1 ≠ k ∧ followF (rootO t) ⟨p.1, p.2, s⟩ = some (rootO t, (findO t k : Int), (manyO t : Int)) := by
  obtain ⟨p, hp⟩ := place_of h0
  obtain ⟨s, h1, h2⟩ := atP_in hp hm
  refine ⟨p, s, ?_, ?_, ?_, h2⟩
  · unfold noR
    rw [hk, ← h1]
    rfl
  · cases hb : bl p.1 k with
    | false => rfl
    | true => have := (find_below hs hp k).1 hb; omega
  · rintro rfl
    rw [(find_place hs hp).2] at hk
    cases hk
theorem noR_none {t : Option AvT} {k : ByteArray} (hk : getO t k = none) (h0 : manyO t ≤ findO t k) : noR t k = [] := by
  unfold noR
  rw [hk]
  show atP t (findO t k : Int) = []
  exact atP_out (.inr (by omega))
theorem bl_def (a b : ByteArray) : Op.bytesLess a.toList b.toList = bl a b := rfl
theorem absent_ok {t : Option AvT} {k : ByteArray} (hs : Srt (pairsO t)) (hm : manyO t ≤ 64) (hk : getO t k = none) : verNF (rootO t) (sumF []) k (noL t k) (noR t k) = none := by
  have hl := findO_le t hs k
  unfold verNF
  by_cases h0 : findO t k = 0
  · rw [noL_none hk h0]
    by_cases h1 : manyO t = 0
    · rw [noR_none hk (by omega)]
      cases t with
      | some t => have := t.many_pos; simp only [manyO] at h1; omega
      | none =>
        rw [if_neg (by simp [betF])]
        simp only [folAllF, adjF]
        rw [show rootO none = sumF [] from rfl]; simp [eqB_self]
    · obtain ⟨p, s, e, a1, a2, a3⟩ := noR_at hs hm hk (by omega)
      rw [e, if_neg (by simp [betF, bl_def, a1]; exact fun h => a2 (ba_eq h))]
      simp only [folAllF, a3, adjF]
      rw [h0]; simp
  · obtain ⟨p, s, hp, e, a1, a3⟩ := noL_at hs hm hk (by omega)
    rw [e]
    by_cases h1 : findO t k = manyO t
    · rw [noR_none hk (by omega), if_neg (by simp [betF, bl_def, a1])]
      simp only [folAllF, a3, adjF]
      rw [h1]; simp
    · obtain ⟨p', s', e', b1, b2, b3⟩ := noR_at hs hm hk (by omega)
      rw [e', if_neg (by simp [betF, bl_def, a1, b1]; exact fun h => b2 (ba_eq h))]
      simp only [folAllF, a3, b3, adjF]
      have : ((findO t k : Int) == (findO t k : Int) - 1 + 1) = true := by rw [beq_iff_eq]; omega
      simp [this]
/-- the proof that a greater key is not there does not show that a key that is there is not -/
theorem absent_no {t : Option AvT} {k : ByteArray} {i : Nat} {p : KV} (hs : Srt (pairsO t)) (hm : manyO t ≤ 64) (hp : (pairsO t)[i]? = some p) (hk : getO t k = none) (hb : bl p.1 k = true) : verNF (rootO t) (sumF []) p.1 (noL t k) (noR t k) = some 23 := by
  have hi := (find_below hs hp k).1 hb
  obtain ⟨q, s, hq, e, _, _⟩ := noL_at hs hm hk (by omega)
  have hqp : bl q.1 p.1 = false := by
    cases hc : bl q.1 p.1 with
    | false => rfl
    | true =>
      have := (find_below hs hq p.1).1 hc
      rw [(find_place hs hp).1] at this
      omega
  unfold verNF
  rw [e, if_pos (.inr (.inr (by simp [betF, bl_def, hqp])))]
def nulB : ByteArray := { data := #[0] }
theorem bl_nul (k : ByteArray) : bl k (k ++ nulB) = true := by
  rw [bl_lt, ByteArray.toList_eq, ByteArray.toList_eq, ByteArray.data_append, Array.toList_append]
  show k.data.toList < k.data.toList ++ [0]
  induction k.data.toList with
  | nil => exact List.Lex.nil
  | cons a l ih => exact List.Lex.cons ih
end Go.Proofs.YtabflppnecemkaaGreatDoor
namespace Go.Proofs.YtabflppnecemkaaGreatDoor
set_option linter.unusedVariables false
set_option linter.unusedSimpArgs false
open Go.RowKit
set_option maxRecDepth 100000
set_option linter.unusedSimpArgs false
set_option linter.unusedVariables false
theorem StIn.lenN {w : World} {a : Option Addr} {n c : Nat} {l : List AvS} (h : StIn w (.slice a n c) l) : n = l.length := by
  obtain ⟨a', c', e⟩ := h.len
  injection e
def ExOk (P : PvP) (w : World) (e : Ending) (w' : World) : Prop := ∃ sa c, e = .returned (.tuple #[.agg (prC P (.slice sa P.steps.length c)), .nilIface]) ∧ StIn w' (.slice sa P.steps.length c) P.steps ∧ Below w.heap.size w w'
theorem exist_ok (va : Value) (t : Option AvT) (key : ByteArray) (P : PvP) (hP : exP t key = some P) (hm : manyO t ≤ 1099511627776) (w : World) (ht : TreeO w va t) : Calls Tryz.prog 48 #[va, .string key] w (ExOk P w) := by
  refine (exist_any va t key w ht hm).mono ?_
  rw [hP]
  rintro e w' ⟨sa, n, c, rfl, hst, hb⟩
  obtain rfl := hst.lenN
  exact ⟨sa, c, rfl, hst, hb⟩
def NoIn (w : World) (e : Ending) (w' : World) : Prop := ∃ a1 c1 a2 c2, e = .returned (.tuple #[.agg #[.slice a1 0 c1, .slice a2 0 c2], .iface 67 (.int .i64 9)]) ∧ Below w.heap.size w w'
theorem none_in (va : Value) (t : Option AvT) (key : ByteArray) (hP : (getO t key).isSome = true) (hm : manyO t ≤ 1099511627776) (hf : (findO t key : Int) ≤ 1099511627776) (w : World) (ht : TreeO w va t) : Calls Tryz.prog 49 #[va, .string key] w (NoIn w) := by
  refine (none8_any va t key w ht hm hf).mono ?_
  rintro e w' ⟨vl, vr, rfl, hl, hr, hb⟩
  have h1 : noL t key = [] := by unfold noL; rw [if_pos hP]
  have h2 : noR t key = [] := by unfold noR; rw [if_pos hP]
  rw [h1] at hl
  rw [h2] at hr
  obtain ⟨a1, c1, rfl, _⟩ := hl.len
  obtain ⟨a2, c2, rfl, _⟩ := hr.len
  rw [hP]
  exact ⟨a1, c1, a2, c2, rfl, hb⟩
def NoOut (L R : List PvP) (w : World) (e : Ending) (w' : World) : Prop := ∃ a1 c1 a2 c2, e = .returned (.tuple #[.agg #[.slice a1 L.length c1, .slice a2 R.length c2], .nilIface]) ∧ PrsIn w' (.slice a1 L.length c1) L ∧ PrsIn w' (.slice a2 R.length c2) R ∧ Below w.heap.size w w'
theorem none_out (va : Value) (t : Option AvT) (key : ByteArray) (hP : getO t key = none) (hm : manyO t ≤ 1099511627776) (hf : (findO t key : Int) ≤ 1099511627776) (w : World) (ht : TreeO w va t) : Calls Tryz.prog 49 #[va, .string key] w (NoOut (noL t key) (noR t key) w) := by
  refine (none8_any va t key w ht hm hf).mono ?_
  rintro e w' ⟨vl, vr, rfl, hl, hr, hb⟩
  obtain ⟨a1, c1, rfl, _⟩ := hl.len
  obtain ⟨a2, c2, rfl, _⟩ := hr.len
  rw [hP]
  exact ⟨a1, c1, a2, c2, rfl, hl, hr, hb⟩
def VeOk (o : Option Nat) (w : World) (e : Ending) (w' : World) : Prop := e = .returned (errV o) ∧ Below w.heap.size w w'
theorem verify_ok (R : Nat → Int) (key val : ByteArray) (p : PvP) (o : Option Nat) (ho : verF R key val p = o) (hz : p.key.size + p.val.size ≤ 140737488351232) (v : Value) (w : World) (he : Env w) (hst : StIn w v p.steps) :
    Calls Tryz.prog 50 #[.agg (rowOf .u8 32 R), .string key, .string val, .agg (prC p v)] w (VeOk o w) := by
  subst ho
  exact verify_any R key val p v w he hst hz
theorem verNone_ok (R : Nat → Int) (key : ByteArray) (L Rt : List PvP) (o : Option Nat) (ho : verNF R (sumF []) key L Rt = o) (hzl : ∀ p ∈ L, p.key.size + p.val.size ≤ 140737488351232) (hzr : ∀ p ∈ Rt, p.key.size + p.val.size ≤ 140737488351232) (vl vr : Value) (w : World) (he : Env w) (hl : PrsIn w vl L) (hr : PrsIn w vr Rt) :
    Calls Tryz.prog 52 #[.agg (rowOf .u8 32 R), .string key, .agg #[vl, vr]] w (VeOk o w) := by
  subst ho
  exact verNone_any R key vl vr L Rt w he hl hr hzl hzr
/-- a proof's pair is one of the tree's -/
theorem atP_mem {t : Option AvT} {i : Int} {p : PvP} (h : p ∈ atP t i) : (p.key, p.val) ∈ pairsO t := by
  unfold atP at h
  split at h
  · rename_i hc
    rw [List.mem_singleton.1 h]
    cases t with
    | none => have := hc.2; simp only [manyO] at this; omega
    | some t =>
      have hc' : 0 ≤ i ∧ i < (t.many : Int) := hc
      unfold atO
      dsimp only
      rw [if_pos hc']
      exact List.mem_of_getElem? (at_eq t i.toNat (by omega))
  · cases h
theorem noL_mem {t : Option AvT} {k : ByteArray} {p : PvP} (h : p ∈ noL t k) : (p.key, p.val) ∈ pairsO t := by
  unfold noL at h
  split at h
  · cases h
  · exact atP_mem h
theorem noR_mem {t : Option AvT} {k : ByteArray} {p : PvP} (h : p ∈ noR t k) : (p.key, p.val) ∈ pairsO t := by
  unfold noR at h
  split at h
  · cases h
  · exact atP_mem h
theorem prf_range {w : World} {g : Nat} {P : PvP} {v : Value} (h : w.heap[g]? = some (.cells (prC P v) 31 (0, 0))) : w.rangeAt g 0 (prC P v).toList := row_range h
end Go.Proofs.YtabflppnecemkaaGreatDoor
namespace Go.Proofs.YtabflppnecemkaaGreatDoor
set_option linter.unusedVariables false
set_option linter.unusedSimpArgs false
open Go.RowKit Go.Extern.Stop Go.Stop Go.Extern
set_option maxRecDepth 100000
set_option linter.unusedSimpArgs false
set_option linter.unusedVariables false
theorem num8_any (e : Option Nat) (w : World) (hg : ErrType w) :
    Calls Tryz.prog 15 #[errV e] w fun r w' => r = .returned (.int .i64 (numE e)) ∧ Below w.heap.size w w' := by
  cases e with
  | none =>
    show Calls Tryz.prog 15 #[.nilIface] w _
    go_enter Tryz.func15, Tryz.ntmps15
    go_wp2
    go_ret
    exact ⟨rfl, below_alloc w _⟩
  | some n =>
    show Calls Tryz.prog 15 #[.iface 67 (.int .i64 n)] w _
    have HB := Lib.hid (below_alloc w (.cells #[.int .i64 0] 67))
    have HE := Lib.hid (hg.below HB.out)
    have HA := Lib.hid (as_hit n ⟨w.heap.size, 0, none⟩ (.int .i64 0) (w.alloc (.cells #[.int .i64 0] 67)) HE.out (by rw [cell_of_row _ _ _ _ _ _ (heap_alloc_new w _)]; rfl) (frozen_of_row _ _ _ _ _ (heap_alloc_new w _)))
    have hb2 := asW_below (w.alloc (.cells #[.int .i64 0] 67)) ⟨w.heap.size, 0, none⟩ n
    have hh : (asW (w.alloc (.cells #[.int .i64 0] 67)) ⟨w.heap.size, 0, none⟩ n).heap[w.heap.size]? = some (.cells #[.int .i64 0] 67 (0, 0)) := (hb2.block _ (by simp)).trans (heap_alloc_new w _)
    have hc : ((asW (w.alloc (.cells #[.int .i64 0] 67)) ⟨w.heap.size, 0, none⟩ n).setCell ⟨w.heap.size, 0, none⟩ (.int .i64 n)).cell? ⟨w.heap.size, 0, none⟩ = some (.int .i64 n) := by
      have := heap_setCell_same _ w.heap.size 0 _ _ (.int .i64 n) hh
      rw [cell_of_row _ _ _ _ _ _ this]; rfl
    have HF := Lib.hid ((HB.out.trans (hb2.mono (by simp))).setCell (p := ⟨w.heap.size, 0, none⟩) (Nat.le_refl _) (.int .i64 (n : Int)))
    clear hb2 hh
    generalize (asW (w.alloc (.cells #[.int .i64 0] 67)) ⟨w.heap.size, 0, none⟩ n).setCell ⟨w.heap.size, 0, none⟩ (.int .i64 n) = w2 at *
    go_enter Tryz.func15, Tryz.ntmps15
    go_wp2_with (go_at_call 46; (with_reducible refine HA.out.mono ?_); rintro ev w3 ⟨rfl, rfl⟩)
    go_ret
    exact ⟨rfl, HF.out⟩
end Go.Proofs.YtabflppnecemkaaGreatDoor
