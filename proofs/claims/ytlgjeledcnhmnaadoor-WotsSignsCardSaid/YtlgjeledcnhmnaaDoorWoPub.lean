/- wots.Public. -/
import Derived.Test.YtlgjeledcnhmnaaDoorWoStart
import Derived.Test.YtlgjeledcnhmnaaDoorWoDig
import Derived.Test.YtlgjeledcnhmnaaDoorShLeaf
namespace Go.Proofs.YtlgjeledcnhmnaaDoor
open Go.RowKit
set_option maxRecDepth 100000
/-- rows of 32 bytes in memory, below the mark B; above it what calls make -/
structure HasR (w w' : World) (B : Nat) (rows : List (Nat × (Nat → Int))) : Prop where
  below : Below w.heap.size w w'
  row : ∀ p ∈ rows, RowAt w' p.1 .u8 32 23 p.2 ∧ p.1 < B
  env : Env w'
  size : B ≤ w'.heap.size
  lo : 2 < B
  wB : w.heap.size ≤ B
theorem HasR.calls {w w' w2 : World} {B : Nat} {rows : List (Nat × (Nat → Int))} (m : HasR w w' B rows) (h : Below B w' w2) : HasR w w2 B rows :=
  ⟨m.below.trans (h.mono m.wB), fun p hp => ⟨(m.row p hp).1.below h (m.row p hp).2, (m.row p hp).2⟩, m.env.below h m.lo, Nat.le_trans m.size h.size, m.lo, m.wB⟩
theorem HasR.call {w w' w2 : World} {B : Nat} {rows : List (Nat × (Nat → Int))} (m : HasR w w' B rows) (h : Below w'.heap.size w' w2) : HasR w w2 B rows := m.calls (h.mono m.size)
theorem HasR.grown {w w' w2 : World} {B n : Nat} {v : Value} {vs : List Value} {rows : List (Nat × (Nat → Int))} (m : HasR w w' B rows) (hg : w'.grownBy w2 v.ownBlock) (ho : w'.ownsRow B 5 1 v n vs) : HasR w w2 B rows :=
  m.calls ((Below.refl _ _).grown hg m.size (fun k hk => (ho.lt k hk).1))
theorem HasR.at0 {w w' : World} {B : Nat} {p : Nat × (Nat → Int)} {rows : List (Nat × (Nat → Int))} (m : HasR w w' B (p :: rows)) : RowAt w' p.1 .u8 32 23 p.2 := (m.row p (by simp)).1
theorem HasR.at1 {w w' : World} {B : Nat} {p q : Nat × (Nat → Int)} {rows : List (Nat × (Nat → Int))} (m : HasR w w' B (q :: p :: rows)) : RowAt w' p.1 .u8 32 23 p.2 := (m.row p (by simp)).1
theorem results_cell_tmp_row {P : Program} {fn : Func} {p u : Tmp} {ty : TypeId} (h : fn.results = #[.cell p ty, .tmp u]) (tmps : Array Value) (w : World) (g : Nat) (t : TypeId) (cs : Array Value) (fr : Nat × Nat) (d : TypeDesc)
    (hp : tmps.getD p undef = .pointer (some ⟨g, 0, none⟩)) (hg : w.heap[g]? = some (.cells cs t fr))
    (hu : P.underlying ty = some d) (hd : (match d with | .struct _ | .array _ _ => true | _ => false) = true) (hi : (P.info? ty).map (·.size) = some cs.size) :
    (results fn tmps).run P w = .ok (.tuple #[.agg cs, tmps.getD u undef]) w := by
  have hp' : tmps[p]?.getD undef = .pointer (some ⟨g, 0, none⟩) := by simpa using hp
  simp [results, h, hp', asAddr, run_loadVar_row w g t ty cs fr d hg hu hd hi]
def zF : Nat → Int := fun _ => 0
theorem zeros32' : (#[Value.int IntKind.u8 0, Value.int IntKind.u8 0, Value.int IntKind.u8 0, Value.int IntKind.u8 0, Value.int IntKind.u8 0, Value.int IntKind.u8 0, Value.int IntKind.u8 0, Value.int IntKind.u8 0, Value.int IntKind.u8 0, Value.int IntKind.u8 0, Value.int IntKind.u8 0, Value.int IntKind.u8 0, Value.int IntKind.u8 0, Value.int IntKind.u8 0, Value.int IntKind.u8 0, Value.int IntKind.u8 0, Value.int IntKind.u8 0, Value.int IntKind.u8 0, Value.int IntKind.u8 0, Value.int IntKind.u8 0, Value.int IntKind.u8 0, Value.int IntKind.u8 0, Value.int IntKind.u8 0, Value.int IntKind.u8 0, Value.int IntKind.u8 0, Value.int IntKind.u8 0, Value.int IntKind.u8 0, Value.int IntKind.u8 0, Value.int IntKind.u8 0, Value.int IntKind.u8 0, Value.int IntKind.u8 0, Value.int IntKind.u8 0] : Array Value) = rowOf .u8 32 zF := by rfl
theorem hasR2 (w : World) (f : Nat → Int) (he : Env w) : HasR w ((w.alloc (.cells (rowOf .u8 32 f) 23)).alloc (.cells (rowOf .u8 32 zF) 23)) (w.heap.size + 1 + 1) [(w.heap.size, f), (w.heap.size + 1, zF)] := by
  have hb : Below w.heap.size w ((w.alloc (.cells (rowOf .u8 32 f) 23)).alloc (.cells (rowOf .u8 32 zF) 23)) := (below_alloc w _).trans ((below_alloc _ _).mono (by simp))
  refine ⟨hb, fun p hp => ?_, he.below hb he.lt, by simp, by have := he.lt; omega, by omega⟩
  simp only [List.mem_cons, List.not_mem_nil, or_false] at hp
  rcases hp with rfl | rfl
  · exact ⟨(RowAt.new w _ _ _ _).alloc _, by simp; omega⟩
  · refine ⟨?_, by simp⟩
    have := RowAt.new (w.alloc (.cells (rowOf .u8 32 f) 23)) .u8 32 23 zF
    rw [shSize_alloc] at this; exact this
theorem hasR1 (w : World) (f : Nat → Int) (he : Env w) : HasR w (w.alloc (.cells (rowOf .u8 32 f) 23)) (w.heap.size + 1) [(w.heap.size, f)] := by
  refine ⟨below_alloc w _, fun p hp => ?_, he.below (below_alloc w _) he.lt, by simp, by have := he.lt; omega, by omega⟩
  simp only [List.mem_cons, List.not_mem_nil, or_false] at hp
  subst hp
  exact ⟨RowAt.new w _ _ _ _, by simp⟩
def noV : Value := .tuple #[.agg (rowOf .u8 32 zF), errV (some 1)]
set_option maxHeartbeats 1000000 in
theorem wpublic_no (seed : Nat → Int) (leaf n : Int) (w : World) (h : ¬ (0 ≤ leaf ∧ leaf < 1024 ∧ 1 ≤ n ∧ n ≤ 32)) :
    Calls Tryd.prog 11 #[.agg (rowOf .u8 32 seed), .int .i64 leaf, .int .i64 n] w fun e w' => e = .returned noV ∧ Below w.heap.size w w' := by
  unfold noV
  have HB := Lib.hid ((below_alloc w (.cells (rowOf .u8 32 seed) 23)).trans ((below_alloc _ (.cells (rowOf .u8 32 zF) 23)).mono (by simp)))
  have HR0 := Lib.hid (RowAt.new (w.alloc (.cells (rowOf .u8 32 seed) 23)) .u8 32 23 zF)
  by_cases hl : 0 ≤ leaf ∧ leaf < 1024
  · have hn : n < 1 ∨ 32 < n := by omega
    replace hl := Lib.hid hl
    replace hn := Lib.hid hn
    clear h
    go_enter Tryd.func11, Tryd.ntmps11
    go_upto_region 1 with (fail)
    rw [zeros32']
    rw [shSize_alloc] at HR0
    generalize (w.alloc (.cells (rowOf .u8 32 seed) 23)).alloc (.cells (rowOf .u8 32 zF) 23) = w1 at *
    go_wp2_with (first
      | (go_at_call 29; (with_reducible refine (wleaf_ok leaf _ hl.out.1 hl.out.2).mono ?_); rintro e w' ⟨rfl, rfl⟩)
      | (go_at_call 19; (with_reducible refine (wlen_no n _ hn.out).mono ?_); rintro e w' ⟨rfl, rfl⟩)
      | (refine wpList_store_row rfl 23 (.tmp 6) (.tmp 19) rfl (w.heap.size + 1) (rowOf .u8 32 zF) rfl rfl 23 _ HR0.out (by rw [rowOf_size]; kernel_rfl) rfl (rowOf_one _ _ _) ?_))
    refine bodyPost_ret (results_cell_tmp_row rfl _ _ (w.heap.size + 1) 23 (rowOf .u8 32 zF) (0, 0) _ rfl (setRow_heap _ _ _ _ _ _ HR0.out) Tryd.underlying23 rfl (by rw [rowOf_size]; kernel_rfl)) rfl ?_
    exact ⟨rfl, below_setRow HB.out (by omega) _⟩
  · have hl' : leaf < 0 ∨ 1024 ≤ leaf := by omega
    replace hl := Lib.hid hl'
    clear h hl'
    go_enter Tryd.func11, Tryd.ntmps11
    go_upto_region 1 with (fail)
    rw [zeros32']
    rw [shSize_alloc] at HR0
    generalize (w.alloc (.cells (rowOf .u8 32 seed) 23)).alloc (.cells (rowOf .u8 32 zF) 23) = w1 at *
    go_wp2_with (first
      | (go_at_call 29; (with_reducible refine (wleaf_no leaf _ hl.out).mono ?_); rintro e w' ⟨rfl, rfl⟩)
      | (refine wpList_store_row rfl 23 (.tmp 6) (.tmp 19) rfl (w.heap.size + 1) (rowOf .u8 32 zF) rfl rfl 23 _ HR0.out (by rw [rowOf_size]; kernel_rfl) rfl (rowOf_one _ _ _) ?_))
    refine bodyPost_ret (results_cell_tmp_row rfl _ _ (w.heap.size + 1) 23 (rowOf .u8 32 zF) (0, 0) _ rfl (setRow_heap _ _ _ _ _ _ HR0.out) Tryd.underlying23 rfl (by rw [rowOf_size]; kernel_rfl)) rfl ?_
    exact ⟨rfl, below_setRow HB.out (by omega) _⟩
def okV (f : Nat → Int) : Value := .tuple #[.agg (rowOf .u8 32 f), errV none]
theorem rep_get (n k : Nat) (h : k < n) : (List.replicate n 15)[k]? = some 15 := by simp [h]
set_option maxHeartbeats 2000000 in
theorem wpublic_ok (seed : Nat → Int) (leaf : Int) (n : Nat) (w : World) (he : Env w) (h : 0 ≤ leaf ∧ leaf < 1024) (hn : 1 ≤ n ∧ n ≤ 32) :
    Calls Tryd.prog 11 #[.agg (rowOf .u8 32 seed), .int .i64 leaf, .int .i64 (n : Int)] w fun e w' => e = .returned (okV (pubF seed leaf n)) ∧ Below w.heap.size w w' := by
  unfold okV
  have M := Lib.hid (hasR2 w seed he)
  have hl := Lib.hid h
  have HN := Lib.hid hn
  have hnb := hn.2
  have hn1 := hn.1
  have hn0 : ¬ (2 * (n : Int) + 3 = 0) := by omega
  clear he h hn
  go_enter Tryd.func11, Tryd.ntmps11
  go_upto_region 1 with (fail)
  rw [zeros32']
  obtain ⟨B, hB⟩ : ∃ B, B = w.heap.size + 1 + 1 := ⟨_, rfl⟩
  rw [← hB] at M
  replace hB := Lib.hid hB
  generalize (w.alloc (.cells (rowOf .u8 32 seed) 23)).alloc (.cells (rowOf .u8 32 zF) 23) = w1 at *
  have R := Lib.hid (World.ownsRow_nil w1 B 5 1)
  go_wp2_with (first
    | (go_at_call 29; (with_reducible refine (wleaf_ok leaf _ hl.out.1 hl.out.2).mono ?_); rintro e w' ⟨rfl, rfl⟩)
    | (go_at_call 19; (with_reducible refine (wlen_ok n _ HN.out.1 HN.out.2).mono ?_); rintro e w' ⟨rfl, rfl⟩))
  obtain ⟨L, hL⟩ : ∃ L, L = List.replicate (2 * n + 3) 15 := ⟨_, rfl⟩
  have HL := Lib.hid hL
  go_loopw [8, 23] (fun s i wr => ∃ k : Nat, k ≤ 2 * n + 3 ∧ i = .int .i64 (k : Int) ∧ Hid (HasR w wr B [(w.heap.size, seed), (w.heap.size + 1, zF)]) ∧ Hid (wr.ownsRow B 5 1 s (chainsF seed leaf 0 (L.take k)).length (byteVals (chainsF seed leaf 0 (L.take k))))) (fun _ i _ => 2 * n + 3 - (intOf i).toNat)
  case atStart => exact ⟨0, Nat.zero_le _, rfl, M, by rw [List.take_zero]; exact R⟩
  case round =>
    clear M R w1 hL
    obtain ⟨k, hk, rfl, M, R⟩ := hrel
    by_cases hlt : k < 2 * n + 3
    · have HC := Lib.hid (chainsF_snoc seed leaf L k 15 (by rw [HL.out]; exact rep_get _ _ hlt))
      have HLE := Lib.hid (show (chainsF seed leaf 0 (L.take k)).length ≤ 32 * 67 by rw [chainsF_length, List.length_take]; omega)
      have hk' : (k : Int) < 2 * (n : Int) + 3 := by omega
      obtain ⟨l, hl2⟩ : ∃ l, l = chainsF seed leaf 0 (L.take k) := ⟨_, rfl⟩
      rw [← hl2] at HC HLE R
      replace hl2 := Lib.hid hl2
      go_wp2_with (first
        | (refine wpList_load_row rfl 23 (.tmp 3) rfl w.heap.size rfl 23 _ (0, 0) _ M.out.at0 Tryd.underlying23 rfl (by rw [rowOf_size]; kernel_rfl) ?_)
        | (go_at_call 30; (with_reducible refine (wstart_any seed leaf (k : Int) _ M.out.env).mono ?_); rintro e w2 ⟨rfl, HB2⟩; replace R := Lib.hid (kept_below R.out HB2); replace M := Lib.hid (M.out.call HB2); clear HB2)
        | (go_at_call 23; (with_reducible refine (wstep_any (startF seed leaf (k : Int)) leaf (k : Int) 0 15 _ M.out.env).mono ?_); rintro e w3 ⟨rfl, HB3⟩; replace R := Lib.hid (kept_below R.out HB3); replace M := Lib.hid (M.out.call HB3); clear HB3)
        | (refine wpList_store_row rfl 23 (.tmp 10) (.tmp 32) rfl w3.heap.size (rowOf .u8 32 (stepF (startF seed leaf (k : Int)) leaf (k : Int) 0 15)) rfl rfl 23 _ (heap_alloc_new _ _) (by rw [rowOf_size]; kernel_rfl) rfl (rowOf_one _ _ _) ?_; rw [World.setRow_alloc_new]; have HR := Lib.hid (RowAt.new w3 .u8 32 23 (stepF (startF seed leaf (k : Int)) leaf (k : Int) 0 15)); have HA := Lib.hid (below_alloc w3 (.cells (rowOf .u8 32 (stepF (startF seed leaf (k : Int)) leaf (k : Int) 0 15)) 23)); replace R := Lib.hid (kept_below R.out HA.out); replace M := Lib.hid (M.out.call HA.out); clear HA; generalize w3.alloc (.cells (rowOf .u8 32 (stepF (startF seed leaf (k : Int)) leaf (k : Int) 0 15)) 23) = w4 at *)
        | (at_builtin; refine wpList_append_bytes rfl (.tmp 33) (.tmp 34) rfl rfl B _ l.length (byteVals l) rfl R.out _ (rowL 32 (stepF (startF seed leaf (k : Int)) leaf (k : Int) 0 15)) rfl (row_in HR.out (Nat.le_refl _) (Nat.le_refl _) (by simp [maxLen])) (by have := HLE.out; rw [rowL32]; omega) M.out.size ?_; intro v5 w5 ho hg _; replace M := Lib.hid (M.out.grown hg R.out); replace R := Lib.hid ho; clear ho hg))
      go_roundw
      case rel =>
        refine ⟨k + 1, by omega, by go_num, M, ?_⟩
        rw [HC.out, List.length_append, byteVals_append]
        exact R
      case measure => simp [intOf]; omega
    · have HE := Lib.hid (show L.take k = L by rw [show k = L.length by rw [HL.out, List.length_replicate]; omega, List.take_length])
      rw [HE.out, HL.out] at R
      clear HE
      have hk' : ¬ (k : Int) < 2 * (n : Int) + 3 := by omega
      have HX := Lib.hid (owns_in R.out (by rw [chainsF_length, List.length_replicate]; unfold maxLen; omega))
      go_wp2_with (first
        | (go_at_call 31; (with_reducible refine (leaf_any _ _ _ HX.out M.out.env).mono ?_); rintro e w2 ⟨rfl, HB2⟩; replace M := Lib.hid (M.out.call HB2); clear HB2)
        | (refine wpList_store_row rfl 23 (.tmp 6) (.tmp 38) rfl (w.heap.size + 1) _ rfl rfl 23 _ M.out.at1 (by rw [rowOf_size]; kernel_rfl) (by rw [rowOf_size, rowOf_size]) (rowOf_one _ _ _) ?_))
      refine bodyPost_ret (results_cell_tmp_row rfl _ _ (w.heap.size + 1) 23 (rowOf .u8 32 (pubF seed leaf n)) (0, 0) _ rfl (setRow_heap _ _ _ _ _ _ M.out.at1) Tryd.underlying23 rfl (by rw [rowOf_size]; kernel_rfl)) rfl ?_
      exact ⟨rfl, below_setRow M.out.below (by omega) _⟩
end Go.Proofs.YtlgjeledcnhmnaaDoor
