/- Part 34 of the proof. -/
import Derived.Test.YtjnpcmfpiejmjaaGreatDoorVo14
import Derived.Test.YtjnpcmfpiejmjaaGreatDoorVo18
import Derived.Test.YtjnpcmfpiejmjaaGreatDoorVo22
import Derived.Test.YtjnpcmfpiejmjaaGreatDoorVo28
import Derived.Test.YtjnpcmfpiejmjaaGreatDoorVo33
namespace Go.Proofs.YtjnpcmfpiejmjaaGreatDoor
set_option linter.unusedVariables false
set_option linter.unusedSimpArgs false
open Go.RowKit
set_option maxRecDepth 100000
theorem bytes_setCellR {w : World} {v : Value} {xs : List Int} (h : BytesIn w v xs) {g i : Nat} {x y : Value} (hc : w.cell? ⟨g, i, none⟩ = some x) (hx : ∀ n, x ≠ .int .u8 n) : BytesIn (w.setCell ⟨g, i, none⟩ y) v xs := by
  obtain ⟨a, c, rfl, h1, h2, h3⟩ := h
  refine ⟨a, c, rfl, h1, h2, ?_⟩
  rcases h3 with h3 | ⟨ab, ao, rfl, h3⟩
  · exact .inl h3
  · right
    refine ⟨ab, ao, rfl, fun j z hz => ?_⟩
    have h4 := h3 j z hz
    rw [World.cell?_setCell_other _ _ _ _ (fun e => by rw [← e, hc] at h4; injection h4 with h4; exact hx z h4)]
    exact h4
theorem bytes_rowG {w : World} {v : Value} {xs : List Int} (h : BytesIn w v xs) {g : Nat} {old : Array Value} {T : TypeId} (hg : w.heap[g]? = some (.cells old T (0, 0))) (hno : ∀ (i : Nat) (n : Int), old[i]? ≠ some (.int .u8 n)) (cs : Array Value) : BytesIn (w.setRow g cs) v xs := by
  obtain ⟨a, c, rfl, h1, h2, h3⟩ := h
  refine ⟨a, c, rfl, h1, h2, ?_⟩
  rcases h3 with h3 | ⟨ab, ao, rfl, h3⟩
  · exact .inl h3
  · right
    refine ⟨ab, ao, rfl, fun i y hi => ?_⟩
    have h4 := h3 i y hi
    have hne : ab ≠ g := fun e => by
      subst e
      rw [cell_of_row _ _ _ _ _ _ hg] at h4
      exact hno _ _ h4
    unfold World.cell? at h4 ⊢
    rw [setRow_other w g ab cs hne]
    exact h4
theorem rdC_no (a : Option Addr) (n c : Nat) (e : Int) (i : Nat) (m : Int) : (rdC (.slice a n c) e)[i]? ≠ some (.int .u8 m) := by
  unfold rdC
  match i with
  | 0 => simp
  | 1 => simp
  | n + 2 => simp
theorem sgC_no (leaf : Nat) (a b : Option Addr) (n c m d : Nat) (i : Nat) (x : Int) : (sgC leaf (.slice a n c) (.slice b m d))[i]? ≠ some (.int .u8 x) := by
  unfold sgC
  match i with
  | 0 => simp
  | 1 => simp
  | 2 => simp
  | n + 3 => simp
theorem partS_fine (s : RSt) (most : Nat) (h : s.2 ≠ some 0) (hb : bytesOk s.1) : (partS s most).2.2 ≠ some 0 ∧ bytesOk (partS s most).2.1 ∧ (partS s most).2.1.length ≤ s.1.length := by
  obtain ⟨ys, e⟩ := s
  unfold partS
  cases e with
  | some x => exact ⟨h, hb, Nat.le_refl _⟩
  | none =>
    simp only
    rw [if_neg (by omega)]
    have h0 := rdF_no0 ys 18446744073709551615
    cases hr : (rdF ys 18446744073709551615).2.2 with
    | some x => rw [hr] at h0; exact ⟨h0, hb, Nat.le_refl _⟩
    | none =>
      simp only
      split
      · exact ⟨by simp, hb, Nat.le_refl _⟩
      · split
        · exact ⟨by simp, hb, Nat.le_refl _⟩
        · refine ⟨by simp, bytesOk_drop (bytesOk_drop hb _) _, ?_⟩
          simp only [List.length_drop]
          omega
theorem hashS_fine (s : RSt) (h : s.2 ≠ some 0) : (hashS s).2.2 ≠ some 0 := by
  obtain ⟨ys, e⟩ := s
  cases e with
  | some x => exact h
  | none =>
    unfold hashS
    simp only
    split <;> simp
theorem hashesS_fine (s : RSt) (h : s.2 ≠ some 0) : ∀ k, (hashesS s k).2.2 ≠ some 0
  | 0 => h
  | k + 1 => hashS_fine _ (hashesS_fine s h k)
theorem sig6_cells {w : World} {q leaf : Nat} {vo vp : Value} (h : w.heap[q]? = some (.cells (sgC leaf vo vp) 204 (0, 0))) : w.cell? ⟨q, 0, none⟩ = some (.int .i64 (leaf : Int)) ∧ w.cell? ⟨q, 1, none⟩ = some vo ∧ w.cell? ⟨q, 2, none⟩ = some vp ∧ ∀ i, w.frozen? ⟨q, i, none⟩ = false :=
  ⟨by rw [cell_of_row _ _ _ _ _ _ h]; rfl, by rw [cell_of_row _ _ _ _ _ _ h]; rfl, by rw [cell_of_row _ _ _ _ _ _ h]; rfl, fun i => frozen_of_row _ _ _ _ _ h⟩
/-- what lies in memory while the reference takes a signature apart -/
structure PaM (w w' : World) (q B leaf : Nat) (v vo vp : Value) (once : List Int) (s : RSt) (ps : List (Nat → Int)) : Prop where
  below : Below w.heap.size w w'
  res : w'.heap[w.heap.size]? = some (.cells (sgC 0 (.slice none 0 0) (.slice none 0 0)) 204 (0, 0))
  sig : w'.heap[w.heap.size + 1]? = some (.cells (sgC leaf vo vp) 204 (0, 0))
  rd : w'.heap[q]? = some (.cells (rdC v (numE s.2)) 99 (0, 0))
  vin : BytesIn w' v s.1
  vown : s.1 ≠ [] → ∀ k, v.ownBlock = some k → k < B
  oin : BytesIn w' vo once
  oown : once ≠ [] → ∀ k, vo.ownBlock = some k → k < B
  path : w'.ownsRow B 32 32 vp ps.length (flatC ps)
  hq : w.heap.size + 1 < q
  hB : q < B
  size : B ≤ w'.heap.size
section
variable {w w' w2 : World} {q B leaf : Nat} {v v2 vo vp : Value} {once : List Int} {s s2 : RSt} {ps : List (Nat → Int)}
theorem PaM.call (m : PaM w w' q B leaf v vo vp once s ps) (h : Below w'.heap.size w' w2) : PaM w w2 q B leaf v vo vp once s ps :=
  ⟨m.below.trans (h.mono m.below.size), (h.block _ (heap_lt' m.res)).trans m.res, (h.block _ (heap_lt' m.sig)).trans m.sig, (h.block _ (heap_lt' m.rd)).trans m.rd, m.vin.below h, m.vown, m.oin.below h, m.oown, m.path.kept (grown_of_below h) (own_ne m.path), m.hq, m.hB, Nat.le_trans m.size h.size⟩
/-- the Reader is written -/
theorem PaM.read {a : Option Addr} {n c : Nat} (m : PaM w w' q B leaf v vo vp once s ps) (hv : v = .slice a n c) (h2 : BytesIn w' v2 s2.1) (h3 : s2.1 ≠ [] → ∀ k, v2.ownBlock = some k → k < B) : PaM w (w'.setRow q (rdC v2 (numE s2.2))) q B leaf v2 vo vp once s2 ps := by
  subst hv
  have hO := Only.setRow w' q (rdC v2 (numE s2.2))
  have hq := m.hq
  exact ⟨m.below.trans (hO.below (by omega) m.below.size), (hO.block _ (heap_lt' m.res) (by omega)).trans m.res, (hO.block _ (heap_lt' m.sig) (by omega)).trans m.sig, setRow_heap _ _ _ _ _ _ m.rd, bytes_rowG h2 m.rd (rdC_no _ _ _ _) _, h3, bytes_rowG m.oin m.rd (rdC_no _ _ _ _) _, m.oown, m.path.kept hO.grown (.inr fun e => by have := (m.path.lt _ e).1; have := m.hB; omega), m.hq, m.hB, Nat.le_trans m.size hO.size⟩
/-- one hash more -/
theorem PaM.more {w3 : World} {vp' : Value} {f : Nat → Int} {b : Option Addr} {k d : Nat} (m : PaM w w' q B leaf v vo (.slice b k d) once s ps) (hg : w'.grownBy w3 (Value.slice b k d).ownBlock) (ho : w3.ownsRow B 32 32 vp' (ps.length + [f].length) (flatC ps ++ flatC [f])) :
    w3.heap[w.heap.size + 1]? = some (.cells (sgC leaf vo (.slice b k d)) 204 (0, 0)) ∧ PaM w (w3.setCell ⟨w.heap.size + 1, 2, none⟩ vp') q B leaf v vo vp' once s (ps ++ [f]) := by
  have hq := m.hq
  have hB := m.hB
  have hsz := m.size
  have hne : ∀ j, j < B → (Value.slice b k d).ownBlock ≠ some j := fun j hj e => by have := (m.path.lt j e).1; omega
  have hO := Only.setCell w3 ⟨w.heap.size + 1, 2, none⟩ vp'
  have hb3 : ∀ j, j < B → w3.heap[j]? = w'.heap[j]? := fun j hj => hg.block j (by omega) (fun e => hne j hj e.symm)
  have hsig := (hb3 (w.heap.size + 1) (by omega)).trans m.sig
  have hb : ∀ j, j < B → j ≠ w.heap.size + 1 → (w3.setCell ⟨w.heap.size + 1, 2, none⟩ vp').heap[j]? = w'.heap[j]? := fun j hj hn => (hO.block j (by have := hg.size; omega) (show j ≠ w.heap.size + 1 from hn)).trans (hb3 j hj)
  have c2 := (sig6_cells hsig).2.2.1
  have keep : ∀ {u : Value} {xs : List Int}, BytesIn w' u xs → (xs ≠ [] → ∀ j, u.ownBlock = some j → j < B) → BytesIn (w3.setCell ⟨w.heap.size + 1, 2, none⟩ vp') u xs := fun {u xs} hu hl => by
    have h3 : BytesIn w3 u xs := by
      by_cases he : xs = []
      · subst he
        obtain ⟨a, c, rfl, h1, h2, _⟩ := hu
        exact ⟨a, c, rfl, h1, h2, .inl rfl⟩
      · exact hu.grown hg fun j hj e => hne j (hl he j hj) e.symm
    exact bytes_setCellR h3 c2 (by simp)
  refine ⟨hsig, ⟨⟨hO.os.trans (hg.os.trans m.below.os), hO.tape.trans (hg.tape.trans m.below.tape), hO.output.trans (hg.output.trans m.below.output), Nat.le_trans m.below.size (Nat.le_trans hg.size hO.size), fun j hj => (hb j (by omega) (by omega)).trans (m.below.block j hj)⟩,
    (hb _ (by omega) (by omega)).trans m.res, ?_, (hb _ hB (by omega)).trans m.rd, keep m.vin m.vown, m.vown, keep m.oin m.oown, m.oown, ?_, m.hq, m.hB, Nat.le_trans hsz (Nat.le_trans hg.size hO.size)⟩⟩
  · rw [heap_setCell_same w3 _ 2 _ _ _ hsig]; rfl
  · have := ho.kept hO.grown (.inr fun e => by have h : B ≤ w.heap.size + 1 := (ho.lt _ e).1; omega)
    rw [List.length_append]
    rw [flatC_app1] at this
    exact this
end
end Go.Proofs.YtjnpcmfpiejmjaaGreatDoor
namespace Go.Proofs.YtjnpcmfpiejmjaaGreatDoor
set_option linter.unusedVariables false
set_option linter.unusedSimpArgs false
open Go.RowKit
set_option maxRecDepth 100000
theorem hashS_len (s : RSt) : (hashS s).2.1.length ≤ s.1.length := by
  obtain ⟨ys, e⟩ := s
  cases e with
  | some x => exact Nat.le_refl _
  | none =>
    unfold hashS
    simp only
    split
    · exact Nat.le_refl _
    · simp
theorem hashesS_len (s : RSt) : ∀ k, (hashesS s k).2.1.length ≤ s.1.length
  | 0 => Nat.le_refl _
  | k + 1 => Nat.le_trans (hashS_len _) (hashesS_len s k)
theorem sgz6 : sgC 0 (.slice none 0 0) (.slice none 0 0) = #[.int .i64 0, .slice none 0 0, .slice none 0 0] := rfl
theorem rdz : #[.slice none 0 0, .int .i64 0] = rdC (.slice none 0 0) 0 := rfl
section
variable {w w' : World} {q B leaf leaf' i : Nat} {v v2 vo vo' x old : Value} {once once' : List Int} {s s2 : RSt} {ps : List (Nat → Int)}
theorem PaM.put (m : PaM w w' q B leaf v vo (.slice none 0 0) once s []) (hi : w'.cell? ⟨w.heap.size + 1, i, none⟩ = some old) (hno : ∀ n, old ≠ .int .u8 n)
    (hset : (sgC leaf vo (.slice none 0 0)).setIfInBounds i x = sgC leaf' vo' (.slice none 0 0)) (h2 : BytesIn w' vo' once') : PaM w (w'.setCell ⟨w.heap.size + 1, i, none⟩ x) q w'.heap.size leaf' v vo' (.slice none 0 0) once' s [] := by
  have hq := m.hq
  have hB := m.hB
  have hsz := m.size
  have hO := Only.setCell w' ⟨w.heap.size + 1, i, none⟩ x
  have hb : ∀ j, j < w'.heap.size → j ≠ w.heap.size + 1 → (w'.setCell ⟨w.heap.size + 1, i, none⟩ x).heap[j]? = w'.heap[j]? := fun j hj hn => hO.block j hj (show j ≠ w.heap.size + 1 from hn)
  exact ⟨m.below.trans (hO.below (show w.heap.size ≤ w.heap.size + 1 by omega) m.below.size), (hb _ (by omega) (by omega)).trans m.res, by rw [heap_setCell_same w' _ i _ _ _ m.sig, hset], (hb _ (by omega) (by omega)).trans m.rd,
    bytes_setCellR m.vin hi hno, fun hn k hk => bytes_own_lt m.vin hn k hk, bytes_setCellR h2 hi hno, fun hn k hk => bytes_own_lt h2 hn k hk, World.ownsRow_nil _ _ _ _, hq, by omega, hO.size⟩
theorem PaM.rebase (m : PaM w w' q B leaf v vo (.slice none 0 0) once s []) : PaM w w' q w'.heap.size leaf v vo (.slice none 0 0) once s [] :=
  ⟨m.below, m.res, m.sig, m.rd, m.vin, fun hn k hk => bytes_own_lt m.vin hn k hk, m.oin, fun hn k hk => bytes_own_lt m.oin hn k hk, World.ownsRow_nil _ _ _ _, m.hq, Nat.lt_of_lt_of_le m.hB m.size, Nat.le_refl _⟩
theorem PaM.off {w2 : World} {g : Nat} {vp : Value} (m : PaM w w' q B leaf v vo vp once s ps) (h : Only g w' w2) (hg : B ≤ g) (hv : vp.ownBlock ≠ some g) : PaM w w2 q B leaf v vo vp once s ps := by
  have hq := m.hq
  have hB := m.hB
  exact ⟨m.below.trans (h.below (by omega) m.below.size), (h.block _ (heap_lt' m.res) (by omega)).trans m.res, (h.block _ (heap_lt' m.sig) (by omega)).trans m.sig, (h.block _ (heap_lt' m.rd) (by omega)).trans m.rd,
    m.vin.only0 h fun hn k hk => (by have := m.vown hn k hk; omega), m.vown, m.oin.only0 h fun hn k hk => (by have := m.oown hn k hk; omega), m.oown, m.path.kept h.grown (.inr hv), hq, hB, Nat.le_trans m.size h.size⟩
theorem PaM.own_off {vp : Value} (m : PaM w w' q B leaf v vo vp once s ps) : vp.ownBlock ≠ some w'.heap.size := fun e => by have := (m.path.lt _ e).2; omega
end
set_option maxHeartbeats 4000000 in
theorem rparts_any (v : Value) (xs : List Int) (w : World) (hx : BytesIn w v xs) (hb : bytesOk xs) (hl : xs.length ≤ 140737488351232) :
    Calls Tryz.prog 139 #[v] w fun e w' => ∃ vo vp, e = .returned (.tuple #[.agg (sgC (decS xs).1.leaf vo vp), .int .i64 (numE (decS xs).2)]) ∧ BytesIn w' vo (decS xs).1.once ∧ HashesIn w' vp (decS xs).1.path ∧ Below w.heap.size w w' := by
  have HX := Lib.hid hx
  obtain ⟨av, cv, rfl, -⟩ := id hx
  obtain ⟨lf, y1, e1, h1⟩ : ∃ a y e, uintS (xs, none) 1023 = (a, y, e) := ⟨_, _, _, rfl⟩
  obtain ⟨on, y2, e2, h2⟩ : ∃ on y e, partS (y1, e1) 4096 = (on, y, e) := ⟨_, _, _, rfl⟩
  obtain ⟨c, y3, e3, h3⟩ : ∃ c y e, uintS (y2, e2) 10 = (c, y, e) := ⟨_, _, _, rfl⟩
  have ha : lf ≤ 1023 := by have := uintS_le (xs, none) 1023; rw [h1] at this; exact this
  have hc : c ≤ 10 := by have := uintS_le (y2, e2) 10; rw [h3] at this; exact this
  have f1 := uintS_no0 (xs, none) 1023 (by simp)
  have g1 := uintS_ok (xs, none) 1023 hb
  rw [h1] at f1 g1
  have f2 := partS_fine (y1, e1) 4096 f1 g1.1
  rw [show ((4096 : Nat) : Int) = 4096 from rfl, h2] at f2
  have f3 := uintS_no0 (y2, e2) 10 f2.1
  have g3 := uintS_ok (y2, e2) 10 f2.2.1
  rw [h3] at f3 g3
  simp only at f1 g1 f2 f3 g3
  have hl1 : y1.length ≤ 140737488351232 := Nat.le_trans g1.2 hl
  have hl2 : y2.length ≤ 140737488351232 := Nat.le_trans f2.2.2 hl1
  have hl3 : y3.length ≤ 140737488351232 := Nat.le_trans g3.2 hl2
  have U1 := Lib.hid (show ∀ w, BytesIn w (.slice av xs.length cv) xs → Calls Tryz.prog 165 #[.agg #[.slice av xs.length cv, .int .i64 0], .int .u64 1023] w fun r w' => ∃ v', r = .returned (.tuple #[.agg (rdC v' (numE e1)), .int .u64 (lf : Int)]) ∧ BytesIn w' v' y1 ∧ Below w.heap.size w w' from fun w h => by
    have := ruint2_any _ xs none (by simp) 1023 (by decide) w h hb (by omega)
    rw [h1] at this
    exact this)
  have U2 := Lib.hid (show ∀ w v, BytesIn w v y1 → Calls Tryz.prog 121 #[.agg (rdC v (numE e1)), .int .i64 4096] w fun r w' => ∃ v' vb, r = .returned (.tuple #[.agg (rdC v' (numE e2)), vb]) ∧ BytesIn w' v' y2 ∧ BytesIn w' vb on ∧ Below w.heap.size w w' from fun w v h => by
    have := rrbytes_any v y1 e1 f1 4096 (by decide) w h g1.1 hl1
    rw [show ((4096 : Nat) : Int) = 4096 from rfl, h2] at this
    exact this)
  have U3 := Lib.hid (show ∀ w v, BytesIn w v y2 → Calls Tryz.prog 165 #[.agg (rdC v (numE e2)), .int .u64 10] w fun r w' => ∃ v', r = .returned (.tuple #[.agg (rdC v' (numE e3)), .int .u64 (c : Int)]) ∧ BytesIn w' v' y3 ∧ Below w.heap.size w w' from fun w v h => by
    have := ruint2_any v y2 e2 f2.1 10 (by decide) w h f2.2.1 (by omega)
    rw [h3] at this
    exact this)
  have HD := Lib.hid (show decS xs = if doneE (hashesS (y3, e3) c).2 = none then (⟨lf, on, (hashesS (y3, e3) c).1⟩, none) else (zSg, some 3) by
    unfold decS sD sC sB sA; rw [h1]; simp only; rw [h2]; simp only; rw [h3])
  have HF3 := Lib.hid f3
  have HL3 := Lib.hid hl3
  clear hx hb hl h1 h2 h3 f1 g1 f2 f3 g3 hl1 hl2 hl3
  have HB := Lib.hid ((below_alloc w (.cells (sgC 0 (.slice none 0 0) (.slice none 0 0)) 204)).trans ((below_alloc (w.alloc (.cells (sgC 0 (.slice none 0 0) (.slice none 0 0)) 204)) (.cells (sgC 0 (.slice none 0 0) (.slice none 0 0)) 204)).mono (below_alloc w (.cells (sgC 0 (.slice none 0 0) (.slice none 0 0)) 204)).size))
  have HRES := Lib.hid (((below_alloc (w.alloc (.cells (sgC 0 (.slice none 0 0) (.slice none 0 0)) 204)) (.cells (sgC 0 (.slice none 0 0) (.slice none 0 0)) 204)).block _ (heap_lt' (heap_alloc_new w (.cells (sgC 0 (.slice none 0 0) (.slice none 0 0)) 204)))).trans (heap_alloc_new w (.cells (sgC 0 (.slice none 0 0) (.slice none 0 0)) 204)))
  have HSIG := Lib.hid (heap_alloc_new (w.alloc (.cells (sgC 0 (.slice none 0 0) (.slice none 0 0)) 204)) (.cells (sgC 0 (.slice none 0 0) (.slice none 0 0)) 204))
  rw [show (w.alloc (.cells (sgC 0 (.slice none 0 0) (.slice none 0 0)) 204)).heap.size = w.heap.size + 1 by simp] at HSIG
  go_enter Tryz.func139, Tryz.ntmps139
  go_upto_region 1 with (fail)
  go_upto_region 2 with (refine wpList_store_row rfl 204 (.tmp 4) (.tmp 10) rfl (w.heap.size + 1) (sgC 0 (.slice none 0 0) (.slice none 0 0)) rfl rfl 204 _ HSIG.out (by kernel_rfl) (by rfl) (sgz_one 0) ?_)
  rw [sgz6] at HB HRES HSIG
  replace HRES := Lib.hid ((setRow_other _ (w.heap.size + 1) w.heap.size (sgC 0 (.slice none 0 0) (.slice none 0 0)) (by omega)).trans HRES.out)
  replace HB := Lib.hid (below_setRow (g := w.heap.size + 1) HB.out (by omega) (sgC 0 (.slice none 0 0) (.slice none 0 0)))
  replace HSIG := Lib.hid (setRow_heap _ _ _ (sgC 0 (.slice none 0 0) (.slice none 0 0)) _ _ HSIG.out)
  generalize ((w.alloc (.cells #[.int .i64 0, .slice none 0 0, .slice none 0 0] 204)).alloc (.cells #[.int .i64 0, .slice none 0 0, .slice none 0 0] 204)).setRow (w.heap.size + 1) (sgC 0 (.slice none 0 0) (.slice none 0 0)) = w1 at *
  rw [← sgz6] at HRES
  go_upto_region 3 with (first
    | (go_at_call 165; (with_reducible refine (U1.out _ (HX.out.below HB.out)).mono ?_); rintro e w2 ⟨v1, rfl, hy1, hb2⟩; obtain ⟨a1, c1, rfl, -⟩ := id hy1; have HY1 := Lib.hid hy1; replace HRES := Lib.hid ((hb2.block _ (heap_lt' HRES.out)).trans HRES.out); replace HSIG := Lib.hid ((hb2.block _ (heap_lt' HSIG.out)).trans HSIG.out); replace HB := Lib.hid (HB.out.trans (hb2.mono HB.out.size)); clear hy1 hb2)
    | (refine wpList_store_row rfl 99 (.tmp 5) (.tmp 15) rfl w2.heap.size (rdC (.slice a1 y1.length c1) (numE e1)) rfl rfl 99 _ (heap_alloc_new _ _) (by kernel_rfl) (by rfl) (rd_one _ _ _ _) ?_; rw [World.setRow_alloc_new]))
  obtain ⟨q, hq⟩ : ∃ q, q = w2.heap.size := ⟨_, rfl⟩
  have M := Lib.hid (show PaM w (w2.alloc (.cells (rdC (.slice a1 y1.length c1) (numE e1)) 99)) q (w2.alloc (.cells (rdC (.slice a1 y1.length c1) (numE e1)) 99)).heap.size 0 (.slice a1 y1.length c1) (.slice none 0 0) (.slice none 0 0) [] (y1, e1) [] from by
    have hbA := below_alloc w2 (.cells (rdC (.slice a1 y1.length c1) (numE e1)) 99)
    have hy := HY1.out.below hbA
    refine ⟨HB.out.trans (hbA.mono HB.out.size), (hbA.block _ (heap_lt' HRES.out)).trans HRES.out, (hbA.block _ (heap_lt' HSIG.out)).trans HSIG.out, by rw [hq]; exact heap_alloc_new _ _, hy, fun hn k hk => bytes_own_lt hy hn k hk, ⟨_, _, rfl, Nat.le_refl _, by unfold maxLen; decide, .inl rfl⟩, fun h => absurd rfl h, World.ownsRow_nil _ _ _ _, by rw [hq]; exact heap_lt' HSIG.out, by rw [hq]; simp, Nat.le_refl _⟩)
  rw [← hq]
  generalize w2.alloc (.cells (rdC (.slice a1 y1.length c1) (numE e1)) 99) = w3 at *
  replace hq := Lib.hid hq
  clear HB HRES HSIG HY1
  have RD := Lib.hid (show w3.heap[q]? = some (.cells (rdC (.slice a1 y1.length c1) (numE e1)) 99 (0, 0)) from M.out.rd)
  go_upto_region 4 with (first
    | (refine wpList_load_row rfl 99 (.tmp 5) rfl q rfl 99 _ (0, 0) _ RD.out Tryz.underlying99 rfl (by kernel_rfl) ?_)
    | (go_at_call 121; (with_reducible refine (U2.out _ _ M.out.vin).mono ?_); rintro e w4 ⟨v2, vo, rfl, hy2, hxo, hb4⟩; obtain ⟨a2, c2, rfl, -⟩ := id hy2; obtain ⟨ao, co, rfl, -⟩ := id hxo; have HY2 := Lib.hid hy2; have HXO := Lib.hid hxo; replace M := Lib.hid (M.out.call hb4); clear hy2 hxo hb4)
    | (refine wpList_store_row rfl 99 (.tmp 5) (.tmp 20) rfl q (rdC (.slice a2 y2.length c2) (numE e2)) rfl rfl 99 _ M.out.rd (by kernel_rfl) (by rfl) (rd_one _ _ _ _) ?_; replace HXO := Lib.hid (bytes_rowG HXO.out M.out.rd (rdC_no _ _ _ _) (rdC (.slice a2 y2.length c2) (numE e2))); replace M := Lib.hid (show PaM w (w4.setRow q (rdC (.slice a2 y2.length c2) (numE e2))) q _ 0 (.slice a2 y2.length c2) (.slice none 0 0) (.slice none 0 0) [] (y2, e2) [] from M.out.call (Below.refl _ _) |>.rebase.read (s2 := (y2, e2)) rfl HY2.out fun hn k hk => bytes_own_lt HY2.out hn k hk); generalize w4.setRow q (rdC (.slice a2 y2.length c2) (numE e2)) = w5 at *; obtain ⟨cc0, cc1, cc2, ff⟩ := sig6_cells M.out.sig; have ff1 := ff 1; clear ff))
  replace M := Lib.hid (M.out.put cc1 (by simp) (sgC_set1 _ _ (.slice ao on.length co) _) HXO.out)
  clear cc0 cc1 cc2 ff1 HXO HY2 RD
  generalize w5.setCell ⟨w.heap.size + 1, 1, none⟩ (.slice ao on.length co) = w6 at *
  have RD := Lib.hid (show w6.heap[q]? = some (.cells (rdC (.slice a2 y2.length c2) (numE e2)) 99 (0, 0)) from M.out.rd)
  go_upto_region 5 with (first
    | (refine wpList_load_row rfl 99 (.tmp 5) rfl q rfl 99 _ (0, 0) _ RD.out Tryz.underlying99 rfl (by kernel_rfl) ?_)
    | (go_at_call 165; (with_reducible refine (U3.out _ _ M.out.vin).mono ?_); rintro e w7 ⟨v3, rfl, hy3, hb7⟩; obtain ⟨a3, c3, rfl, -⟩ := id hy3; have HY3 := Lib.hid hy3; replace M := Lib.hid (M.out.call hb7); clear hy3 hb7)
    | (refine wpList_store_row rfl 99 (.tmp 5) (.tmp 26) rfl q (rdC (.slice a3 y3.length c3) (numE e3)) rfl rfl 99 _ M.out.rd (by kernel_rfl) (by rfl) (rd_one _ _ _ _) ?_; replace M := Lib.hid (M.out.rebase.read (s2 := (y3, e3)) rfl HY3.out fun hn k hk => bytes_own_lt HY3.out hn k hk); generalize w7.setRow q (rdC (.slice a3 y3.length c3) (numE e3)) = w8 at *; obtain ⟨cc0, cc1, cc2, ff⟩ := sig6_cells M.out.sig; have ff1 := ff 0; clear ff cc1 cc2))
  go_upto_region 6 with (fail)
  replace M := Lib.hid (M.out.put (leaf' := lf) cc0 (by simp) (show (sgC 0 (.slice ao on.length co) (.slice none 0 0)).setIfInBounds 0 (.int .i64 (lf : Int)) = sgC lf (.slice ao on.length co) (.slice none 0 0) from rfl) M.out.oin)
  clear cc0 ff1 RD HY3
  generalize w8.setCell ⟨w.heap.size + 1, 0, none⟩ (.int .i64 (lf : Int)) = w9 at *
  obtain ⟨B, hB⟩ : ∃ B, B = w8.heap.size := ⟨_, rfl⟩
  rw [← hB] at M
  replace hB := Lib.hid hB
  go_wp2_with (fail)
  have HVO := Lib.hid (show ∃ a n c, Value.slice ao on.length co = .slice a n c from ⟨_, _, _, rfl⟩)
  generalize hvo : Value.slice ao on.length co = vo at *
  go_loopw [8] (fun i wr => ∃ k : Nat, k ≤ c ∧ i = .int .u64 (k : Int) ∧ Hid (∃ v vp, PaM w wr q B lf v vo vp on (hashesS (y3, e3) k).2 (hashesS (y3, e3) k).1)) (fun i _ => c - (intOf i).toNat)
  case atStart => exact ⟨0, Nat.zero_le _, rfl, Lib.hid ⟨_, _, M.out⟩⟩
  case round =>
    clear M
    obtain ⟨k, hk, rfl, M⟩ := hrel
    obtain ⟨v4, vp, M⟩ := M.out
    obtain ⟨yk, ek, hs⟩ : ∃ yk ek, (hashesS (y3, e3) k).2 = (yk, ek) := ⟨_, _, rfl⟩
    have hek := hashesS_fine (y3, e3) HF3.out k
    have hlk := hashesS_len (y3, e3) k
    have hpl := hashesS_length (y3, e3) k
    obtain ⟨ps, hps⟩ : ∃ ps, ps = (hashesS (y3, e3) k).1 := ⟨_, rfl⟩
    rw [hs, ← hps] at M
    rw [← hps] at hpl
    rw [hs] at hek hlk
    obtain ⟨a4, c4, rfl, -⟩ := id (show BytesIn wr v4 yk from M.vin)
    obtain ⟨ap, cp, rfl⟩ := flat_wide M.path
    rw [hpl] at M
    have HPS := Lib.hid hps
    clear hps
    replace M := Lib.hid M
    have HS := Lib.hid hs
    have HPL := Lib.hid hpl
    by_cases hlt : k < c
    · have hkI : (k : Int) < (c : Int) := by omega
      obtain ⟨f, y5, e5, h5⟩ : ∃ f y e, hashS (yk, ek) = (f, y, e) := ⟨_, _, _, rfl⟩
      have H5 := Lib.hid h5
      have RH := Lib.hid (show ∀ w, BytesIn w (.slice a4 yk.length c4) yk → Calls Tryz.prog 122 #[.agg (rdC (.slice a4 yk.length c4) (numE ek))] w fun r w' => ∃ v', r = .returned (.tuple #[.agg (rdC v' (numE e5)), .agg (rowOf .u8 32 f)]) ∧ BytesIn w' v' y5 ∧ v'.ownBlock = (Value.slice a4 yk.length c4).ownBlock ∧ Below w.heap.size w w' from fun w h => by
        have := rhash2_any _ yk ek hek w h; rw [h5] at this; exact this)
      clear hs hek hlk hpl h5
      go_upto_region 10 with (fail)
      rw [zeros32]
      obtain ⟨t, ht⟩ : ∃ t, t = wr.heap.size := ⟨_, rfl⟩
      have HT := Lib.hid (show RowAt (wr.alloc (.cells (rowOf .u8 32 (fun _ => 0)) 32)) t .u8 32 32 (fun _ => 0) by rw [ht]; exact RowAt.new wr .u8 32 32 (fun _ => 0))
      have HTB := Lib.hid (show B ≤ t by rw [ht]; exact M.out.size)
      have HTV := Lib.hid (show (Value.slice ap k cp).ownBlock ≠ some t by rw [ht]; exact M.out.own_off)
      rw [← ht]
      replace M := Lib.hid (M.out.call (below_alloc wr (.cells (rowOf .u8 32 (fun _ => 0)) 32)))
      replace ht := Lib.hid ht
      generalize wr.alloc (.cells (rowOf .u8 32 (fun _ => 0)) 32) = w10 at *
      have RD := Lib.hid (show w10.heap[q]? = some (.cells (rdC (.slice a4 yk.length c4) (numE ek)) 99 (0, 0)) from M.out.rd)
      go_upto_region 11 with (first
        | (refine wpList_load_row rfl 99 (.tmp 5) rfl q rfl 99 _ (0, 0) _ RD.out Tryz.underlying99 rfl (by kernel_rfl) ?_)
        | (go_at_call 122; (with_reducible refine (RH.out _ M.out.vin).mono ?_); rintro e w11 ⟨v5, rfl, hy5, ho5, hb11⟩; obtain ⟨a5, c5, rfl, -⟩ := id hy5; have HY5 := Lib.hid hy5; have HO5 := Lib.hid ho5; replace M := Lib.hid (M.out.call hb11); replace HT := Lib.hid (HT.out.below hb11 HT.out.lt); clear hy5 ho5 hb11)
        | (refine wpList_store_row rfl 99 (.tmp 5) (.tmp 39) rfl q (rdC (.slice a5 y5.length c5) (numE e5)) rfl rfl 99 _ M.out.rd (by kernel_rfl) (by rfl) (rd_one _ _ _ _) ?_; replace HT := Lib.hid (show RowAt (w11.setRow q (rdC (.slice a5 y5.length c5) (numE e5))) t .u8 32 32 (fun _ => 0) from (setRow_other _ _ _ _ (by have := HTB.out; have := M.out.hB; omega)).trans HT.out); replace M := Lib.hid (M.out.read (s2 := (y5, e5)) rfl HY5.out (fun hn j hj => M.out.vown (hashS_ne (yk, ek) (by rw [H5.out]; exact hn)) j (by rw [← HO5.out]; exact hj))); generalize w11.setRow q (rdC (.slice a5 y5.length c5) (numE e5)) = w12 at *)
        | (refine wpList_store_row rfl 32 (.tmp 9) (.tmp 40) rfl t (rowOf .u8 32 f) rfl rfl 32 _ HT.out (by rw [rowOf_size]; kernel_rfl) (by simp only [rowOf_size]) (rowOf_one _ _ _) ?_; replace HT := Lib.hid (show RowAt (w12.setRow t (rowOf .u8 32 f)) t .u8 32 32 f from setRow_heap _ _ _ _ _ _ HT.out); replace M := Lib.hid (M.out.off (Only.setRow w12 t (rowOf .u8 32 f)) HTB.out HTV.out); generalize w12.setRow t (rowOf .u8 32 f) = w13 at *))
      obtain ⟨cc0, cc1, cc2, ff⟩ := sig6_cells M.out.sig
      clear cc0 cc1 RD HY5 HO5
      have hsz32 := rowOf_size .u8 32 f
      go_wp2_with (first
        | (refine wpList_load_row rfl 32 (.tmp 9) rfl t rfl 32 _ (0, 0) _ HT.out Tryz.underlying32 rfl (by rw [rowOf_size]; kernel_rfl) ?_)
        | (at_builtin; rw [build32s]; have HR := Lib.hid (RowAt.new w13 .u8 32 32 f); replace M := Lib.hid (M.out.call (below_alloc w13 (.cells (rowOf .u8 32 f) 32))); generalize w13.alloc (.cells (rowOf .u8 32 f) 32) = w14 at *; (refine wpList_append_hashes rfl (.tmp 42) (.tmp 44) rfl rfl B _ ps.length _ rfl M.out.path _ [f] rfl (one_hash HR.out) (by rw [HPL.out]; show (k + 1) * 32 ≤ _; omega) M.out.size ?_); intro v' w15 ho hg; obtain ⟨hsig, hm⟩ := M.out.more hg ho; obtain ⟨av', cv', rfl⟩ := flat_wide ho; have M2 := Lib.hid hm; clear cc2 ff; obtain ⟨-, -, cc2, ff⟩ := sig6_cells hsig; have ff2 := ff 2; clear ho hg hm hsig HR M HT))
      clear cc2 ff ff2
      generalize w15.setCell ⟨w.heap.size + 1, 2, none⟩ _ = w16 at *
      go_roundw
      case rel => exact ⟨k + 1, by omega, by go_num, Lib.hid ⟨_, _, by have h := M2.out; unfold hashesS; rw [← HPS.out, HS.out, H5.out]; exact h⟩⟩
      case measure => simp [intOf]; omega
    · obtain rfl : k = c := by omega
      have hkI : ¬ (k : Int) < (k : Int) := by omega
      have hyl : yk.length ≤ 140737488355328 := by have := HL3.out; simp only at hlk; omega
      have RD := Lib.hid (show wr.heap[q]? = some (.cells (rdC (.slice a4 yk.length c4) (numE ek)) 99 (0, 0)) from M.out.rd)
      have HVW := Lib.hid (show (sgC lf vo (.slice ap k cp)).all (·.oneCell') = true by rw [← hvo]; exact sg_one _ _ _ _ _ _ _)
      have HDA := Lib.hid (show ∀ w, BytesIn w (.slice a4 yk.length c4) yk → Calls Tryz.prog 55 #[.agg (rdC (.slice a4 yk.length c4) (numE ek))] w fun r w' => r = .returned (.int .i64 (numE (doneE (yk, ek)))) ∧ Below w.heap.size w w' from fun w h => rdone2_any _ yk ek hek w h hyl)
      by_cases hd : doneE (yk, ek) = none
      · have HDO := Lib.hid (show ∀ w, BytesIn w (.slice a4 yk.length c4) yk → Calls Tryz.prog 55 #[.agg (rdC (.slice a4 yk.length c4) (numE ek))] w fun r w' => r = .returned (.int .i64 0) ∧ Below w.heap.size w w' from fun w h => by have := HDA.out w h; rw [hd] at this; exact this)
        have HDD := Lib.hid (show decS xs = (⟨lf, on, ps⟩, none) by rw [HD.out, HS.out, if_pos hd, HPS.out])
        clear hd hek hlk hpl hs HDA
        go_wp2_with (first
          | (refine wpList_load_row rfl 99 (.tmp 5) rfl q rfl 99 _ (0, 0) _ RD.out Tryz.underlying99 rfl (by kernel_rfl) ?_)
          | (go_at_call 55; (with_reducible refine (HDO.out _ M.out.vin).mono ?_); rintro e w9 ⟨rfl, hb9⟩; replace M := Lib.hid (M.out.call hb9); clear hb9)
          | (refine wpList_load_row rfl 204 (.tmp 4) rfl (w.heap.size + 1) rfl 204 _ (0, 0) _ M.out.sig Tryz.underlying204 rfl (by kernel_rfl) ?_)
          | (refine wpList_store_row rfl 204 (.tmp 2) (.tmp 51) rfl w.heap.size (sgC lf vo (.slice ap k cp)) rfl rfl 204 _ M.out.res (by kernel_rfl) (by rfl) HVW.out ?_))
        refine bodyPost_ret (results_cell_tmp_row rfl _ _ w.heap.size 204 (sgC lf vo (.slice ap k cp)) (0, 0) _ rfl (setRow_heap _ _ _ _ _ _ M.out.res) Tryz.underlying204 rfl (by kernel_rfl)) rfl ?_
        rw [HDD.out]
        have HO := Only.setRow w9 w.heap.size (sgC lf vo (.slice ap k cp))
        have h2 := M.out.hq
        have h4 := M.out.hB
        refine ⟨vo, .slice ap k cp, rfl, bytes_rowG M.out.oin M.out.res (sgC_no _ _ _ _ _ _ _) _, ?_, below_setRow M.out.below (by omega) _⟩
        exact HashesIn.of_own (M.out.path.kept HO.grown (.inr fun e => by have h1 := (M.out.path.lt _ e).1; omega))
      · have hde : ∃ x, doneE (yk, ek) = some x ∧ x ≠ 0 := by
          cases h : doneE (yk, ek) with
          | none => exact absurd h hd
          | some x =>
            refine ⟨x, rfl, fun h0 => ?_⟩
            subst h0
            unfold doneE at h
            cases ek with
            | some z => exact hek h
            | none =>
              simp only at h
              split at h <;> simp at h
        obtain ⟨x, hx, hx0⟩ := hde
        have hne : ((x : Int) != 0) = true := by simp; omega
        have HDO := Lib.hid (show ∀ w, BytesIn w (.slice a4 yk.length c4) yk → Calls Tryz.prog 55 #[.agg (rdC (.slice a4 yk.length c4) (numE ek))] w fun r w' => r = .returned (.int .i64 (x : Int)) ∧ Below w.heap.size w w' from fun w h => by have := HDA.out w h; rw [hx] at this; exact this)
        have HDD := Lib.hid (show decS xs = (zSg, some 3) by rw [HD.out, HS.out, if_neg hd])
        clear hd hek hlk hpl hs HDA hx
        go_wp2_with (first
          | (refine wpList_load_row rfl 99 (.tmp 5) rfl q rfl 99 _ (0, 0) _ RD.out Tryz.underlying99 rfl (by kernel_rfl) ?_)
          | (go_at_call 55; (with_reducible refine (HDO.out _ M.out.vin).mono ?_); rintro e w9 ⟨rfl, hb9⟩; replace M := Lib.hid (M.out.call hb9); clear hb9)
          | (refine wpList_store_row rfl 204 (.tmp 2) (.tmp 50) rfl w.heap.size (sgC 0 (.slice none 0 0) (.slice none 0 0)) rfl rfl 204 _ M.out.res (by kernel_rfl) (by rfl) (sgz_one 0) ?_))
        refine bodyPost_ret (results_cell_tmp_row rfl _ _ w.heap.size 204 (sgC 0 (.slice none 0 0) (.slice none 0 0)) (0, 0) _ rfl (setRow_heap _ _ _ _ _ _ M.out.res) Tryz.underlying204 rfl (by kernel_rfl)) rfl ?_
        rw [HDD.out]
        exact ⟨_, _, rfl, ⟨_, _, rfl, Nat.le_refl _, by unfold maxLen; decide, .inl rfl⟩, ⟨_, _, rfl, Nat.le_refl _, by unfold maxLen; decide, .inl rfl⟩, below_setRow M.out.below (by omega) _⟩
end Go.Proofs.YtjnpcmfpiejmjaaGreatDoor
namespace Go.Proofs.YtjnpcmfpiejmjaaGreatDoor
set_option linter.unusedVariables false
set_option linter.unusedSimpArgs false
open Go.RowKit
set_option maxRecDepth 100000
theorem leavesL_more (m : Nat) (G : Nat → Nat → Int) : leavesL (m + 1) G = leavesL m G ++ [G m] := by simp [leavesL, List.range_succ]
/-- what lies in memory while the reference lays the leaves -/
structure LvM (w w' : World) (F : Nat → Int) (D k : Nat) (v : Value) (ps : List (Nat → Int)) : Prop where
  below : Below w.heap.size w w'
  row : RowAt w' w.heap.size .u8 32 32 F
  par : w'.heap[w.heap.size + 1]? = some (.cells (parC D k) 42 (0, 0))
  own : w'.ownsRow (w.heap.size + 2) 32 32 v ps.length (flatC ps)
  size : w.heap.size + 2 ≤ w'.heap.size
section
variable {w w' w2 : World} {F : Nat → Int} {D k : Nat} {v v' : Value} {ps : List (Nat → Int)} {f : Nat → Int}
theorem LvM.call (m : LvM w w' F D k v ps) (h : Below w'.heap.size w' w2) : LvM w w2 F D k v ps :=
  ⟨m.below.trans (h.mono m.below.size), m.row.below h m.row.lt, (h.block _ (heap_lt' m.par)).trans m.par, m.own.kept (grown_of_below h) (own_ne m.own), Nat.le_trans m.size h.size⟩
theorem LvM.more (m : LvM w w' F D k v ps) (hg : w'.grownBy w2 v.ownBlock) (ho : w2.ownsRow (w.heap.size + 2) 32 32 v' (ps.length + [f].length) (flatC ps ++ flatC [f])) : LvM w w2 F D k v' (ps ++ [f]) := by
  have hsz := m.size
  have hne : ∀ j, j < w.heap.size + 2 → v.ownBlock ≠ some j := fun j hj e => by have := (m.own.lt j e).1; omega
  have hb : ∀ j, j < w.heap.size + 2 → w2.heap[j]? = w'.heap[j]? := fun j hj => hg.block j (by omega) (fun e => hne j hj e.symm)
  refine ⟨⟨hg.os.trans m.below.os, hg.tape.trans m.below.tape, hg.output.trans m.below.output, Nat.le_trans m.below.size hg.size, fun j hj => (hb j (by omega)).trans (m.below.block j hj)⟩, (hb _ (by omega)).trans m.row, (hb _ (by omega)).trans m.par, ?_, Nat.le_trans hsz hg.size⟩
  rw [List.length_append]
  rw [flatC_app1] at ho
  exact ho
end
end Go.Proofs.YtjnpcmfpiejmjaaGreatDoor
