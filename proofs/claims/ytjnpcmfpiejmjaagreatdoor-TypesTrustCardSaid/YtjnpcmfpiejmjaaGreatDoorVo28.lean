/- Part 28 of the proof. -/
import Derived.Test.YtjnpcmfpiejmjaaGreatDoorVo3
import Derived.Test.YtjnpcmfpiejmjaaGreatDoorVo14
import Derived.Test.YtjnpcmfpiejmjaaGreatDoorVo16
import Derived.Test.YtjnpcmfpiejmjaaGreatDoorVo21
import Derived.Test.YtjnpcmfpiejmjaaGreatDoorVo22
import Derived.Test.YtjnpcmfpiejmjaaGreatDoorVo25
import Derived.Test.YtjnpcmfpiejmjaaGreatDoorVo26
import Derived.Test.YtjnpcmfpiejmjaaGreatDoorVo27
namespace Go.Proofs.YtjnpcmfpiejmjaaGreatDoor
set_option linter.unusedVariables false
set_option linter.unusedSimpArgs false
open Go.RowKit
set_option maxRecDepth 100000
theorem All32.foldR {ps qs : List (Nat → Int)} (h : All32 ps qs) (s : Nat → Int) (i : Int) (n : Nat) : foldR s i n ps = foldR s i n qs := by
  unfold Go.Proofs.YtjnpcmfpiejmjaaGreatDoor.foldR
  rw [h.length, h.fold]
/-- the root of whom signed text so, or the error -/
def signerR (s : Sg) (D E : Int) (text : List Int) : (Nat → Int) × Option Nat :=
  match (digR text D).2 with
  | some x => (zF, some x)
  | none => match (fromR s.once (s.leaf : Int) (digR text D).1).2 with
    | some x => (zF, some x)
    | none => foldR (fromR s.once (s.leaf : Int) (digR text D).1).1 (s.leaf : Int) (2 ^ E.toNat) s.path
end Go.Proofs.YtjnpcmfpiejmjaaGreatDoor
namespace Go.Proofs.YtjnpcmfpiejmjaaGreatDoor
set_option linter.unusedVariables false
set_option linter.unusedSimpArgs false
open Go.RowKit
set_option maxRecDepth 100000
theorem kagg_yields {P : Program} {ops : Array Oper} {S : World → Prop} {op : Oper} {a : Act} (hw : Region.wanted op (yielded ops a.tmps) = true) (ty : TypeId) (x : Operand) (ho : op.op = .load ty x)
    (b : Nat) (hx : a.eval x = .pointer (some ⟨b, 0, none⟩)) (cs : Array Value) (d : TypeDesc) (hS : ∀ w, S w → w.heap[b]? = some (.cells cs ty (0, 0)))
    (hu : P.underlying ty = some d) (hd : d.isRow = true) (hi : (P.info? ty).map (·.size) = some cs.size) : YieldsIf P ops S op (.agg cs) a := by
  have h := yieldsIf_load_mid (P := P) (S := S) hw ty x ho b 0 hx cs.toList d (fun w h j v hv => by rw [Nat.zero_add, cell_of_row w b j _ ty _ (hS w h)]; simpa using hv) hu hd (by rw [hi]; simp)
  simpa using h
structure KgM (w w' : World) (leaf : Nat) (vo vp : Value) (on : List Int) (ps : List (Nat → Int)) (D E : Int) : Prop where
  below : Below w.heap.size w w'
  sig : w'.heap[w.heap.size]? = some (.cells (sgC leaf vo vp) 198 (0, 0))
  par : w'.heap[w.heap.size + 1]? = some (.cells (parC D E) 42 (0, 0))
  res : RowAt w' (w.heap.size + 1 + 1) .u8 32 32 (fun _ => 0)
  oin : BytesIn w' vo on
  pin : HashesIn w' vp ps
  env : Env w'
theorem heap_lt' {w : World} {g : Nat} {o : Obj} (h : w.heap[g]? = some o) : g < w.heap.size := (Array.getElem?_eq_some_iff.1 h).1
theorem KgM.call {w w' w2 : World} {leaf : Nat} {vo vp : Value} {on : List Int} {ps : List (Nat → Int)} {D E : Int} (m : KgM w w' leaf vo vp on ps D E) (h : Below w'.heap.size w' w2) : KgM w w2 leaf vo vp on ps D E :=
  ⟨m.below.trans (h.mono m.below.size), (h.block _ (heap_lt' m.sig)).trans m.sig, (h.block _ (heap_lt' m.par)).trans m.par, m.res.below h m.res.lt, m.oin.below h, m.pin.below h, m.env.below h m.env.lt⟩
def signW (w : World) (leaf : Nat) (vo vp : Value) (D E : Int) : World := ((w.alloc (.cells (sgC leaf vo vp) 198)).alloc (.cells (parC D E) 42)).alloc (.cells (rowOf .u8 32 (fun _ => 0)) 32)
theorem kgM_start {w : World} {leaf : Nat} {vo vp : Value} {on : List Int} {ps : List (Nat → Int)} (D E : Int) (he : Env w) (ho : BytesIn w vo on) (hp : HashesIn w vp ps) : KgM w (signW w leaf vo vp D E) leaf vo vp on ps D E := by
  have hb : Below w.heap.size w (signW w leaf vo vp D E) := (below_alloc w _).trans (((below_alloc _ _).mono (by simp)).trans ((below_alloc _ _).mono (by simp; omega)))
  refine ⟨hb, ?_, ?_, ?_, ho.below hb, hp.below hb, he.below hb he.lt⟩
  · have h1 := heap_alloc_new w (.cells (sgC leaf vo vp) 198)
    have h2 := ((below_alloc (w.alloc (.cells (sgC leaf vo vp) 198)) (.cells (parC D E) 42)).block _ (heap_lt' h1)).trans h1
    exact ((below_alloc _ (.cells (rowOf .u8 32 (fun _ => 0)) 32)).block _ (heap_lt' h2)).trans h2
  · have h1 := heap_alloc_new (w.alloc (.cells (sgC leaf vo vp) 198)) (.cells (parC D E) 42)
    have h2 := ((below_alloc _ (.cells (rowOf .u8 32 (fun _ => 0)) 32)).block _ (heap_lt' h1)).trans h1
    rw [shSize_alloc] at h2
    exact h2
  · have h1 := RowAt.new ((w.alloc (.cells (sgC leaf vo vp) 198)).alloc (.cells (parC D E) 42)) .u8 32 32 (fun _ => 0)
    rw [shSize_alloc, shSize_alloc] at h1
    exact h1
theorem KgM.cell {w w' : World} {leaf : Nat} {vo vp : Value} {on : List Int} {ps : List (Nat → Int)} {D E : Int} (m : KgM w w' leaf vo vp on ps D E) : w'.cell? ⟨w.heap.size, 0, none⟩ = some (.int .i64 (leaf : Int)) ∧ w'.cell? ⟨w.heap.size, 1, none⟩ = some vo ∧ w'.cell? ⟨w.heap.size, 2, none⟩ = some vp ∧ w'.cell? ⟨w.heap.size + 1, 0, none⟩ = some (.int .i64 D) :=
  ⟨(sig_cells _ _ _ _ _ m.sig).1, (sig_cells _ _ _ _ _ m.sig).2.1, (sig_cells _ _ _ _ _ m.sig).2.2.1, by rw [cell_of_row _ _ _ _ _ _ m.par]; rfl⟩
theorem digR_ok {xs : List Int} {D : Int} (h : 1 ≤ D ∧ D ≤ 32) : (digR xs D).2 = none ∧ bytesOk (digR xs D).1 ∧ (digR xs D).1.length = D.toNat := by
  unfold digR
  rw [if_pos h]
  refine ⟨rfl, fun x hx => ?_, ?_⟩
  · simp only [digestF, rowL, List.mem_map, List.mem_range] at hx
    obtain ⟨i, _, rfl⟩ := hx
    unfold sumF; unfold hsum; unfold outF; omega
  · simp [digestF, rowL]
set_option maxHeartbeats 4000000 in
theorem ksigner_ok (s : Sg) (vo vp v : Value) (xs : List Int) (D : Int) (k : Nat) (w : World) (he : Env w) (ho : BytesIn w vo s.once) (hp : HashesIn w vp s.path) (hx : BytesIn w v xs) (hD : 1 ≤ D ∧ D ≤ 32) (hk : k ≤ 10) :
    Calls Tryz.prog 138 #[.agg (sgC s.leaf vo vp), .agg (parC D k), v] w fun e w' => e = .returned (.tuple #[.agg (rowOf .u8 32 (signerR s D k xs).1), errV (signerR s D k xs).2]) ∧ Below w.heap.size w w' := by
  obtain ⟨hd0, hd1, hd2⟩ := digR_ok (xs := xs) hD
  obtain ⟨ds, hds⟩ : ∃ ds, ds = (digR xs D).1 := ⟨_, rfl⟩
  have HDG := Lib.hid (show ∀ w v, BytesIn w v xs → Env w → Calls Tryz.prog 174 #[v, .int .i64 D] w fun e w' => ∃ v', e = .returned (.tuple #[v', .nilIface]) ∧ BytesIn w' v' ds ∧ Below w.heap.size w w' from fun w v h1 h2 => by
    have := wdigest_any v xs D w h1 h2; rw [hd0, ← hds] at this; exact this)
  rw [← hds] at hd1 hd2
  have HDB := Lib.hid hd1
  have HX := Lib.hid hx
  have HK := Lib.hid hk
  have HSR := Lib.hid (show signerR s D k xs = match (fromR s.once (s.leaf : Int) ds).2 with | some x => (zF, some x) | none => foldR (fromR s.once (s.leaf : Int) ds).1 (s.leaf : Int) (2 ^ k) s.path by
    unfold signerR; rw [hd0, ← hds]; simp only [Int.toNat_natCast]; try rfl)
  have M := Lib.hid (kgM_start (leaf := s.leaf) D (k : Int) he ho hp)
  have HG := Lib.hid he.lt
  have HKK := Lib.hid (show 2 ^ k ≤ 1024 from Nat.pow_le_pow_right (n := 2) (by omega) hk)
  obtain ⟨F, hF⟩ : ∃ F, F = (fromR s.once (s.leaf : Int) ds).1 := ⟨_, rfl⟩
  have HFR := Lib.hid (show ∀ w v, BytesIn w v ds → BytesIn w vo s.once → Env w → Calls Tryz.prog 175 #[vo, .int .i64 (s.leaf : Int), v] w fun e w' => e = .returned (.tuple #[.agg (rowOf .u8 32 F), errV (fromR s.once (s.leaf : Int) ds).2]) ∧ Below w.heap.size w w' from fun w v h1 h2 h3 => by
    rw [hF]; exact wfrom_any vo s.once _ v ds w h3 h2 h1 HDB.out)
  rw [← hF] at HSR
  clear hd0 hd1 hd2 hds ho hp hx hk he hF
  obtain ⟨lf, hlf⟩ : ∃ lf, lf = s.leaf := ⟨_, rfl⟩
  rw [← hlf] at HSR HFR M ⊢
  clear hlf
  go_enter Tryz.func138, Tryz.ntmps138
  go_upto_region 1 with (fail)
  rw [zeros32]
  have e0 : ((w.alloc (.cells (sgC lf vo vp) 198)).alloc (.cells (parC D k) 42)).alloc (.cells (rowOf .u8 32 (fun _ => 0)) 32) = signW w lf vo vp D k := rfl
  rw [e0]
  clear e0
  generalize signW w lf vo vp D k = w1 at *
  obtain ⟨-, -, -, cp0⟩ := M.out.cell
  go_upto_region 4 with (go_at_call 174; (with_reducible refine (HDG.out _ _ (HX.out.below M.out.below) M.out.env).mono ?_); rintro e w2 ⟨vd, rfl, hd, hb⟩; replace M := Lib.hid (M.out.call hb); have HV := Lib.hid hd; clear hd hb cp0)
  obtain ⟨cs0, cs1, -, -⟩ := M.out.cell
  cases hfr : (fromR s.once (lf : Int) ds).2 with
  | some x =>
    rw [hfr] at HFR HSR
    go_wp2_with (first
      | (go_at_call 175; (with_reducible refine (HFR.out _ _ HV.out M.out.oin M.out.env).mono ?_); rintro e w3 ⟨rfl, hb⟩; rw [show errV (some x) = Value.iface 103 (.int .i64 (x : Int)) from rfl]; replace M := Lib.hid (M.out.call hb); clear hb cs0 cs1)
      | (refine wpList_store_row rfl 32 (.tmp 10) (.tmp 29) rfl w3.heap.size (rowOf .u8 32 F) rfl rfl 32 _ (heap_alloc_new _ _) (by rw [rowOf_size]; kernel_rfl) (by rw [rowOf_size]; rfl) (rowOf_one _ _ _) ?_; rw [World.setRow_alloc_new]; replace M := Lib.hid (M.out.call (below_alloc w3 (.cells (rowOf .u8 32 F) 32))); generalize w3.alloc (.cells (rowOf .u8 32 F) 32) = w4 at *)
      | (refine wpList_store_row rfl 32 (.tmp 6) (.tmp 33) rfl (w.heap.size + 1 + 1) (rowOf .u8 32 (fun _ => 0)) rfl rfl 32 _ M.out.res (by rw [rowOf_size]; kernel_rfl) rfl (rowOf_one _ _ _) ?_))
    refine bodyPost_ret (results_cell_tmp_row rfl _ _ (w.heap.size + 1 + 1) 32 (rowOf .u8 32 (fun _ => 0)) (0, 0) _ rfl (setRow_heap _ _ _ _ _ _ M.out.res) Tryz.underlying32 rfl (by rw [rowOf_size]; kernel_rfl)) rfl ?_
    rw [HSR.out]
    exact ⟨rfl, below_setRow M.out.below (by omega) _⟩
  | none =>
    rw [hfr] at HFR HSR
    go_upto_region 7 with (first
      | (go_at_call 175; (with_reducible refine (HFR.out _ _ HV.out M.out.oin M.out.env).mono ?_); rintro e w3 ⟨rfl, hb⟩; rw [show errV none = Value.nilIface from rfl]; replace M := Lib.hid (M.out.call hb); clear hb cs0 cs1)
      | (refine wpList_store_row rfl 32 (.tmp 10) (.tmp 29) rfl w3.heap.size (rowOf .u8 32 F) rfl rfl 32 _ (heap_alloc_new _ _) (by rw [rowOf_size]; kernel_rfl) (by rw [rowOf_size]; rfl) (rowOf_one _ _ _) ?_; rw [World.setRow_alloc_new]; replace M := Lib.hid (M.out.call (below_alloc w3 (.cells (rowOf .u8 32 F) 32))); have PU := Lib.hid (RowAt.new w3 .u8 32 32 F); generalize w3.alloc (.cells (rowOf .u8 32 F) 32) = w4 at *))
    obtain ⟨g, hg⟩ : ∃ g, g = w3.heap.size := ⟨_, rfl⟩
    rw [← hg] at PU ⊢
    replace hg := Lib.hid hg
    obtain ⟨RF, er, hrf⟩ : ∃ RF er, foldR F (lf : Int) (2 ^ k) s.path = (RF, er) := ⟨_, _, rfl⟩
    have HFO := Lib.hid (show ∀ w, HashesIn w vp s.path → Env w → Calls Tryz.prog 176 #[.agg (rowOf .u8 32 F), .int .i64 (lf : Int), .int .i64 ((2 ^ k : Nat) : Int), vp] w fun e w' => e = .returned (.tuple #[.agg (rowOf .u8 32 RF), errV er]) ∧ Below w.heap.size w w' from fun w h1 h2 => by
      have h := sFold_any F (lf : Int) (2 ^ k) s.path vp w (by have := HKK.out; omega) h1 h2
      rw [hrf] at h; exact h)
    replace HSR := Lib.hid (show signerR s D k xs = (RF, er) from HSR.out.trans hrf)
    obtain ⟨ev, hev⟩ : ∃ ev, ev = errV er := ⟨_, rfl⟩
    rw [← hev] at HFO
    obtain ⟨N, hN⟩ : ∃ N : Nat, N = 2 ^ k := ⟨_, rfl⟩
    have HSZ := Lib.hid (show ∀ w, Calls Tryz.prog 177 #[.agg (parC D k)] w fun e w' => e = .returned (.int .i64 (N : Int)) ∧ Below w.heap.size w w' from fun w => by rw [hN]; exact ksize_any D k w HK.out)
    rw [← hN] at HFO
    clear hN hrf HKK
    replace hev := Lib.hid hev
    refine wp_region_T (fun w' => w'.heap[w.heap.size]? = some (.cells (sgC lf vo vp) 198 (0, 0)) ∧ w'.heap[w.heap.size + 1]? = some (.cells (parC D k) 42 (0, 0)) ∧ RowAt w' g .u8 32 32 F) [0, 2, 4, 6] (by kernel_rfl) ?_
    replace M := Lib.hid (M.out.call ((Below.refl _ w4).drew))
    replace PU := Lib.hid (PU.out.drew)
    generalize w4.drew = w5 at *
    refine anyT_takeY (i := 1) (v := .pointer (some ⟨w.heap.size, 0, none⟩)) rfl (by kernel_rfl) (by kernel_rfl) (by kernel_rfl) (fun _ _ _ h => h) (by kernel_rfl) (Or.inl ⟨by rfl, by intro w; go_simp⟩) ?_
    try simp only [List.getElem_toArray, List.getElem_cons_succ, List.getElem_cons_zero, Act.put, List.setIfInBounds_toArray, List.set_cons_zero, List.set_cons_succ]
    refine anyT_takeY (i := 5) (v := .pointer (some ⟨w.heap.size, 2, none⟩)) rfl (by kernel_rfl) (by kernel_rfl) (by kernel_rfl) (fun _ _ _ h => h) (by kernel_rfl) (Or.inl ⟨by rfl, by intro w; go_simp⟩) ?_
    try simp only [List.getElem_toArray, List.getElem_cons_succ, List.getElem_cons_zero, Act.put, List.setIfInBounds_toArray, List.set_cons_zero, List.set_cons_succ]
    refine anyT_take [4, 7, 8, 9, 10, 11] (i := 3) (v := .agg (parC D k)) rfl (by kernel_rfl) (by kernel_rfl) (by kernel_rfl) (fun _ _ _ h => h) (by kernel_rfl) (kagg_yields (by rfl) 42 (.tmp 4) rfl (w.heap.size + 1) rfl (parC D k) _ (fun _ h => h.2.1) Tryz.underlying42 rfl (by kernel_rfl)) ⟨M.out.sig, M.out.par, PU.out⟩ ?_
    try simp only [List.getElem_toArray, List.getElem_cons_succ, List.getElem_cons_zero, Act.put, List.setIfInBounds_toArray, List.set_cons_zero, List.set_cons_succ]
    refine anyT_take [7, 8, 9, 10, 11] (i := 0) (v := .agg (rowOf .u8 32 F)) rfl (by kernel_rfl) (by kernel_rfl) (by kernel_rfl) (fun _ _ _ h => h) (by kernel_rfl) (row_yields (by rfl) 32 (.tmp 10) rfl g rfl .u8 32 F _ (fun _ h => h.2.2) Tryz.underlying32 rfl (by kernel_rfl)) ⟨M.out.sig, M.out.par, PU.out⟩ ?_
    try simp only [List.getElem_toArray, List.getElem_cons_succ, List.getElem_cons_zero, Act.put, List.setIfInBounds_toArray, List.set_cons_zero, List.set_cons_succ]
    refine anyT_take [7, 8, 9, 10, 11] (i := 2) (v := .int .i64 (lf : Int)) rfl (by kernel_rfl) (by kernel_rfl) (by kernel_rfl) (fun _ _ _ h => h) (by kernel_rfl) (Or.inl ⟨by rfl, fun w' hS => by have c1 := (sig_cells w' _ _ _ _ hS.1).1; go_simp⟩) ⟨M.out.sig, M.out.par, PU.out⟩ ?_
    try simp only [List.getElem_toArray, List.getElem_cons_succ, List.getElem_cons_zero, Act.put, List.setIfInBounds_toArray, List.set_cons_zero, List.set_cons_succ]
    refine anyT_take [7, 8, 9, 10, 11] (i := 6) (v := vp) rfl (by kernel_rfl) (by kernel_rfl) (by kernel_rfl) (fun _ _ _ h => h) (by kernel_rfl) (Or.inl ⟨by rfl, fun w' hS => by have c1 := (sig_cells w' _ _ _ _ hS.1).2.2.1; go_simp⟩) ⟨M.out.sig, M.out.par, PU.out⟩ ?_
    try simp only [List.getElem_toArray, List.getElem_cons_succ, List.getElem_cons_zero, Act.put, List.setIfInBounds_toArray, List.set_cons_zero, List.set_cons_succ]
    refine anyT_one (i := 4) (by kernel_rfl) rfl (fun K hK => ?_)
    rw [if_pos (by rfl)]
    try simp only [List.getElem_toArray, List.getElem_cons_succ, List.getElem_cons_zero]
    (go_simp; refine (HSZ.out _).mono ?_; rintro e w6 ⟨rfl, hb⟩; replace M := Lib.hid (M.out.call hb); replace PU := Lib.hid (PU.out.below hb PU.out.lt); clear hb)
    refine hK _ _ (fun _ => ⟨M.out.sig, M.out.par, PU.out⟩) ?_
    clear hK K
    try simp only [List.getElem_toArray, List.getElem_cons_succ, List.getElem_cons_zero, Act.put, List.setIfInBounds_toArray, List.set_cons_zero, List.set_cons_succ]
    refine anyT_one (i := 7) (by kernel_rfl) rfl (fun K hK => ?_)
    rw [if_pos (by rfl)]
    try simp only [List.getElem_toArray, List.getElem_cons_succ, List.getElem_cons_zero]
    (go_simp; refine (HFO.out _ M.out.pin M.out.env).mono ?_; rintro e w7 ⟨rfl, hb⟩; replace M := Lib.hid (M.out.call hb); clear hb)
    refine hK _ _ (not_mem rfl) ?_
    clear hK K
    try simp only [List.getElem_toArray, List.getElem_cons_succ, List.getElem_cons_zero, Act.put, List.setIfInBounds_toArray, List.set_cons_zero, List.set_cons_succ]
    refine anyT_takeY (i := 8) (v := .agg (rowOf .u8 32 RF)) rfl (by kernel_rfl) (by kernel_rfl) (by kernel_rfl) (fun _ _ _ h => h) (by kernel_rfl) (Or.inl ⟨by rfl, by intro w; go_simp⟩) ?_
    try simp only [List.getElem_toArray, List.getElem_cons_succ, List.getElem_cons_zero, Act.put, List.setIfInBounds_toArray, List.set_cons_zero, List.set_cons_succ]
    refine anyT_takeY (i := 9) (v := ev) rfl (by kernel_rfl) (by kernel_rfl) (by kernel_rfl) (fun _ _ _ h => h) (by kernel_rfl) (Or.inl ⟨by rfl, by intro w; go_simp⟩) ?_
    try simp only [List.getElem_toArray, List.getElem_cons_succ, List.getElem_cons_zero, Act.put, List.setIfInBounds_toArray, List.set_cons_zero, List.set_cons_succ]
    refine anyT_one (i := 10) (by kernel_rfl) rfl (fun K hK => ?_)
    rw [if_pos (by rfl)]
    try simp only [List.getElem_toArray, List.getElem_cons_succ, List.getElem_cons_zero]
    (refine wp_store_row 32 (.tmp 6) (.tmp 43) rfl (w.heap.size + 1 + 1) _ rfl rfl 32 _ M.out.res (by rw [rowOf_size]; kernel_rfl) (by rw [rowOf_size, rowOf_size]) (rowOf_one _ _ _) ?_)
    refine hK _ _ (not_mem rfl) ?_
    clear hK K
    try simp only [List.getElem_toArray, List.getElem_cons_succ, List.getElem_cons_zero, Act.put, List.setIfInBounds_toArray, List.set_cons_zero, List.set_cons_succ]
    refine anyT_takeY (i := 11) (v := ev) rfl (by kernel_rfl) (by kernel_rfl) (by kernel_rfl) (fun _ _ _ h => h) (by kernel_rfl) (Or.inl ⟨by rfl, by intro w; go_simp⟩) ?_
    try simp only [List.getElem_toArray, List.getElem_cons_succ, List.getElem_cons_zero, Act.put, List.setIfInBounds_toArray, List.set_cons_zero, List.set_cons_succ]
    refine anyT_done (by kernel_rfl) ?_ _
    go_wp2_with (fail)
    refine bodyPost_ret (results_cell_tmp_row rfl _ _ (w.heap.size + 1 + 1) 32 (rowOf .u8 32 RF) (0, 0) _ rfl (setRow_heap _ _ _ _ _ _ M.out.res) Tryz.underlying32 rfl (by rw [rowOf_size]; kernel_rfl)) rfl ?_
    rw [HSR.out, ← hev.out]
    exact ⟨rfl, below_setRow M.out.below (by omega) _⟩
end Go.Proofs.YtjnpcmfpiejmjaaGreatDoor
namespace Go.Proofs.YtjnpcmfpiejmjaaGreatDoor
set_option linter.unusedVariables false
set_option linter.unusedSimpArgs false
open Go.RowKit
set_option maxRecDepth 100000
/-- is it a signature? -/
def verR (root : Nat → Int) (D E : Int) (text sign : List Int) : Option Nat :=
  if kOk D E then
    (match (decS sign).2 with
    | some x => some x
    | none => if (signerR (decS sign).1 D E text).2 = none ∧ eqB (signerR (decS sign).1 D E text).1 root = true then none else some 21)
  else some 20
theorem neq32 (f g : Nat → Int) (w : World) : (binOp .neq 32 (.agg (rowOf .u8 32 f)) (.agg (rowOf .u8 32 g))).run Tryz.prog w = .ok (.bool (!eqB f g)) w := by
  rw [run_neq_struct, eqIn32]
  rfl
structure KvM (w w' : World) (F : Nat → Int) (D E : Int) : Prop where
  below : Below w.heap.size w w'
  row : RowAt w' w.heap.size .u8 32 32 F
  par : w'.heap[w.heap.size + 1]? = some (.cells (parC D E) 42 (0, 0))
  env : Env w'
theorem KvM.call {w w' w2 : World} {F : Nat → Int} {D E : Int} (m : KvM w w' F D E) (h : Below w'.heap.size w' w2) : KvM w w2 F D E :=
  ⟨m.below.trans (h.mono m.below.size), m.row.below h m.row.lt, (h.block _ (heap_lt' m.par)).trans m.par, m.env.below h m.env.lt⟩
def verW (w : World) (F : Nat → Int) (D E : Int) : World := (w.alloc (.cells (rowOf .u8 32 F) 32)).alloc (.cells (parC D E) 42)
theorem kvM_start (w : World) (F : Nat → Int) (D E : Int) (he : Env w) : KvM w (verW w F D E) F D E := by
  obtain ⟨h1, h2, h3⟩ := key_start w F D E
  exact ⟨h1, h2, h3, he.below h1 he.lt⟩
theorem kverify_no (F : Nat → Int) (D E : Int) (vt vs : Value) (w : World) (he : Env w) (h : ¬ kOk D E) :
    Calls Tryz.prog 74 #[.agg (rowOf .u8 32 F), .agg (parC D E), vt, vs] w fun e w' => e = .returned (errV (some 20)) ∧ Below w.heap.size w w' := by
  have HC := Lib.hid (show ∀ w, Calls Tryz.prog 73 #[.agg (parC D E)] w fun e w' => e = .returned (.iface 103 (.int .i64 20)) ∧ Below w.heap.size w w' from fun w => by
    have h2 := kcheck_any D E w; rw [show ckR D E = some 20 by unfold ckR; rw [if_neg h]] at h2; exact h2)
  have M := Lib.hid (kvM_start w F D E he)
  clear h he
  go_enter Tryz.func74, Tryz.ntmps74
  go_upto_region 1 with (fail)
  have e0 : (w.alloc (.cells (rowOf .u8 32 F) 32)).alloc (.cells (parC D E) 42) = verW w F D E := rfl
  rw [e0]; clear e0
  generalize verW w F D E = w1 at *
  go_wp2_with (first
    | (refine wpList_load_row rfl 42 (.tmp 5) rfl (w.heap.size + 1) rfl 42 _ (0, 0) _ M.out.par Tryz.underlying42 rfl (by kernel_rfl) ?_)
    | (go_at_call 73; (with_reducible refine (HC.out _).mono ?_); rintro e w2 ⟨rfl, hb⟩; replace M := Lib.hid (M.out.call hb); clear hb))
  go_ret
  exact ⟨rfl, M.out.below⟩
set_option maxHeartbeats 2000000 in
theorem kverify_ok (F : Nat → Int) (D : Int) (k : Nat) (vt vs : Value) (text sign : List Int) (w : World) (he : Env w) (hD : 1 ≤ D ∧ D ≤ 32) (hk : k ≤ 10) (ht : BytesIn w vt text) (hs : BytesIn w vs sign) (hb : bytesOk sign) (hl : sign.length ≤ 140737488355328) :
    Calls Tryz.prog 74 #[.agg (rowOf .u8 32 F), .agg (parC D k), vt, vs] w fun e w' => e = .returned (errV (verR F D k text sign)) ∧ Below w.heap.size w w' := by
  have hok : kOk D (k : Int) := by unfold kOk; omega
  have HC := Lib.hid (show ∀ w, Calls Tryz.prog 73 #[.agg (parC D k)] w fun e w' => e = .returned .nilIface ∧ Below w.heap.size w w' from fun w => by
    have h2 := kcheck_any D k w; rw [show ckR D k = none by unfold ckR; rw [if_pos hok]] at h2; exact h2)
  have HV := Lib.hid (show verR F D k text sign = match (decS sign).2 with
    | some x => some x
    | none => if (signerR (decS sign).1 D k text).2 = none ∧ eqB (signerR (decS sign).1 D k text).1 F = true then none else some 21 by unfold verR; rw [if_pos hok])
  have M := Lib.hid (kvM_start w F D k he)
  have HT := Lib.hid ht
  have HS := Lib.hid hs
  have HSB := Lib.hid hb
  have HSL := Lib.hid hl
  have HDD := Lib.hid hD
  have HKK := Lib.hid hk
  have HDC := Lib.hid (fun w h => kdecode_any vs sign w h hb hl)
  clear he ht hs hb hl hok
  obtain ⟨sg, er, hsg⟩ : ∃ sg er, decS sign = (sg, er) := ⟨_, _, rfl⟩
  rw [hsg] at HV HDC
  clear hsg
  go_enter Tryz.func74, Tryz.ntmps74
  go_upto_region 1 with (fail)
  have e0 : (w.alloc (.cells (rowOf .u8 32 F) 32)).alloc (.cells (parC D k) 42) = verW w F D k := rfl
  rw [e0]; clear e0
  generalize verW w F D k = w1 at *
  cases er with
  | some x =>
    go_wp2_with (first
      | (refine wpList_load_row rfl 42 (.tmp 5) rfl (w.heap.size + 1) rfl 42 _ (0, 0) _ M.out.par Tryz.underlying42 rfl (by kernel_rfl) ?_)
      | (go_at_call 73; (with_reducible refine (HC.out _).mono ?_); rintro e w2 ⟨rfl, hb⟩; replace M := Lib.hid (M.out.call hb); clear hb)
      | (go_at_call 137; (with_reducible refine (HDC.out _ (HS.out.below M.out.below)).mono ?_); rintro e w3 ⟨vo, vp, rfl, ho, hp, hb⟩; rw [show errV (some x) = Value.iface 103 (.int .i64 (x : Int)) from rfl]; have HW := Lib.hid (sg_all sg.leaf ho hp); replace M := Lib.hid (M.out.call hb); clear ho hp hb)
      | (refine wpList_store_row rfl 198 (.tmp 10) (.tmp 22) rfl w3.heap.size (sgC sg.leaf vo vp) rfl rfl 198 _ (heap_alloc_new _ _) (by kernel_rfl) (by rfl) HW.out ?_; rw [World.setRow_alloc_new]; replace M := Lib.hid (M.out.call (below_alloc w3 (.cells (sgC sg.leaf vo vp) 198))); generalize w3.alloc (.cells (sgC sg.leaf vo vp) 198) = w4 at *))
    go_ret
    rw [HV.out]
    exact ⟨rfl, M.out.below⟩
  | none =>
    obtain ⟨RF, e2, hsr⟩ : ∃ RF e2, signerR sg D k text = (RF, e2) := ⟨_, _, rfl⟩
    have HSN := Lib.hid (show ∀ w vo vp, Env w → BytesIn w vo sg.once → HashesIn w vp sg.path → BytesIn w vt text → Calls Tryz.prog 138 #[.agg (sgC sg.leaf vo vp), .agg (parC D k), vt] w fun e w' => e = .returned (.tuple #[.agg (rowOf .u8 32 RF), errV e2]) ∧ Below w.heap.size w w' from fun w vo vp h1 h2 h3 h4 => by
      have h := ksigner_ok sg vo vp vt text D k w h1 h2 h3 h4 HDD.out HKK.out; rw [hsr] at h; exact h)
    have HV2 := Lib.hid (show verR F D k text sign = if e2 = none ∧ eqB RF F = true then none else some 21 by rw [HV.out]; simp only; rw [hsr])
    clear hsr HV
    go_upto_region 7 with (first
      | (refine wpList_load_row rfl 42 (.tmp 5) rfl (w.heap.size + 1) rfl 42 _ (0, 0) _ M.out.par Tryz.underlying42 rfl (by kernel_rfl) ?_)
      | (go_at_call 73; (with_reducible refine (HC.out _).mono ?_); rintro e w2 ⟨rfl, hb⟩; replace M := Lib.hid (M.out.call hb); clear hb)
      | (go_at_call 137; (with_reducible refine (HDC.out _ (HS.out.below M.out.below)).mono ?_); rintro e w3 ⟨vo, vp, rfl, ho, hp, hb⟩; rw [show errV none = Value.nilIface from rfl]; have HW := Lib.hid (sg_all sg.leaf ho hp); replace M := Lib.hid (M.out.call hb); have HO := Lib.hid ho; have HP := Lib.hid hp; clear ho hp hb)
      | (refine wpList_store_row rfl 198 (.tmp 10) (.tmp 22) rfl w3.heap.size (sgC sg.leaf vo vp) rfl rfl 198 _ (heap_alloc_new _ _) (by kernel_rfl) (by rfl) HW.out ?_; rw [World.setRow_alloc_new]; have HA := Lib.hid (below_alloc w3 (.cells (sgC sg.leaf vo vp) 198)); have SG := Lib.hid (heap_alloc_new w3 (.cells (sgC sg.leaf vo vp) 198)); replace M := Lib.hid (M.out.call HA.out); replace HO := Lib.hid (HO.out.below HA.out); replace HP := Lib.hid (HP.out.below HA.out); clear HA; generalize w3.alloc (.cells (sgC sg.leaf vo vp) 198) = w4 at *))
    obtain ⟨g, hg⟩ : ∃ g, g = w3.heap.size := ⟨_, rfl⟩
    rw [← hg] at SG ⊢
    clear hg
    cases e2 with
    | some x =>
      go_wp2_with (first
        | (refine wpList_load_row rfl 42 (.tmp 5) rfl (w.heap.size + 1) rfl 42 _ (0, 0) _ M.out.par Tryz.underlying42 rfl (by kernel_rfl) ?_)
        | (refine wpList_load_row rfl 198 (.tmp 10) rfl g rfl 198 _ (0, 0) _ SG.out Tryz.underlying198 rfl (by kernel_rfl) ?_)
        | (go_at_call 138; (with_reducible refine (HSN.out _ vo vp M.out.env HO.out HP.out (HT.out.below M.out.below)).mono ?_); rintro e w5 ⟨rfl, hb⟩; rw [show errV (some x) = Value.iface 103 (.int .i64 (x : Int)) from rfl]; replace M := Lib.hid (M.out.call hb); clear hb HO HP SG)
        | (refine wpList_store_row rfl 32 (.tmp 12) (.tmp 32) rfl w5.heap.size (rowOf .u8 32 RF) rfl rfl 32 _ (heap_alloc_new _ _) (by rw [rowOf_size]; kernel_rfl) (by rw [rowOf_size]; rfl) (rowOf_one _ _ _) ?_; rw [World.setRow_alloc_new]; replace M := Lib.hid (M.out.call (below_alloc w5 (.cells (rowOf .u8 32 RF) 32))); generalize w5.alloc (.cells (rowOf .u8 32 RF) 32) = w6 at *))
      go_ret
      rw [HV2.out, if_neg (by simp)]
      exact ⟨rfl, M.out.below⟩
    | none =>
      obtain ⟨b, hb⟩ : ∃ b, eqB RF F = b := ⟨_, rfl⟩
      have hneq : ∀ w, (binOp .neq 32 (.agg (rowOf .u8 32 RF)) (.agg (rowOf .u8 32 F))).run Tryz.prog w = .ok (.bool (!b)) w := fun w => by rw [← hb]; exact neq32 RF F w
      rw [hb] at HV2
      clear hb
      cases b with
      | true =>
        simp only [Bool.not_true] at hneq
        go_wp2_with (first
          | (refine wpList_load_row rfl 42 (.tmp 5) rfl (w.heap.size + 1) rfl 42 _ (0, 0) _ M.out.par Tryz.underlying42 rfl (by kernel_rfl) ?_)
          | (refine wpList_load_row rfl 198 (.tmp 10) rfl g rfl 198 _ (0, 0) _ SG.out Tryz.underlying198 rfl (by kernel_rfl) ?_)
          | (go_at_call 138; (with_reducible refine (HSN.out _ vo vp M.out.env HO.out HP.out (HT.out.below M.out.below)).mono ?_); rintro e w5 ⟨rfl, hb⟩; rw [show errV none = Value.nilIface from rfl]; replace M := Lib.hid (M.out.call hb); clear hb HO HP SG)
          | (refine wpList_store_row rfl 32 (.tmp 12) (.tmp 32) rfl w5.heap.size (rowOf .u8 32 RF) rfl rfl 32 _ (heap_alloc_new _ _) (by rw [rowOf_size]; kernel_rfl) (by rw [rowOf_size]; rfl) (rowOf_one _ _ _) ?_; rw [World.setRow_alloc_new]; replace M := Lib.hid (M.out.call (below_alloc w5 (.cells (rowOf .u8 32 RF) 32))); have PU := Lib.hid (RowAt.new w5 .u8 32 32 RF); generalize w5.alloc (.cells (rowOf .u8 32 RF) 32) = w6 at *)
          | (refine wpList_load_row_want rfl 32 (.tmp 12) rfl _ rfl .u8 32 RF _ PU.out Tryz.underlying32 rfl (by kernel_rfl) ?_)
          | (refine wpList_load_row_want rfl 32 (.tmp 4) rfl _ rfl .u8 32 F _ M.out.row Tryz.underlying32 rfl (by kernel_rfl) ?_))
        go_ret
        rw [HV2.out, if_pos (by simp)]
        exact ⟨rfl, M.out.below⟩
      | false =>
        simp only [Bool.not_false] at hneq
        go_wp2_with (first
          | (refine wpList_load_row rfl 42 (.tmp 5) rfl (w.heap.size + 1) rfl 42 _ (0, 0) _ M.out.par Tryz.underlying42 rfl (by kernel_rfl) ?_)
          | (refine wpList_load_row rfl 198 (.tmp 10) rfl g rfl 198 _ (0, 0) _ SG.out Tryz.underlying198 rfl (by kernel_rfl) ?_)
          | (go_at_call 138; (with_reducible refine (HSN.out _ vo vp M.out.env HO.out HP.out (HT.out.below M.out.below)).mono ?_); rintro e w5 ⟨rfl, hb⟩; rw [show errV none = Value.nilIface from rfl]; replace M := Lib.hid (M.out.call hb); clear hb HO HP SG)
          | (refine wpList_store_row rfl 32 (.tmp 12) (.tmp 32) rfl w5.heap.size (rowOf .u8 32 RF) rfl rfl 32 _ (heap_alloc_new _ _) (by rw [rowOf_size]; kernel_rfl) (by rw [rowOf_size]; rfl) (rowOf_one _ _ _) ?_; rw [World.setRow_alloc_new]; replace M := Lib.hid (M.out.call (below_alloc w5 (.cells (rowOf .u8 32 RF) 32))); have PU := Lib.hid (RowAt.new w5 .u8 32 32 RF); generalize w5.alloc (.cells (rowOf .u8 32 RF) 32) = w6 at *)
          | (refine wpList_load_row_want rfl 32 (.tmp 12) rfl _ rfl .u8 32 RF _ PU.out Tryz.underlying32 rfl (by kernel_rfl) ?_)
          | (refine wpList_load_row_want rfl 32 (.tmp 4) rfl _ rfl .u8 32 F _ M.out.row Tryz.underlying32 rfl (by kernel_rfl) ?_))
        go_ret
        rw [HV2.out, if_neg (by simp)]
        exact ⟨rfl, M.out.below⟩
theorem kverify_any (F : Nat → Int) (D E : Int) (vt vs : Value) (text sign : List Int) (w : World) (he : Env w) (ht : BytesIn w vt text) (hs : BytesIn w vs sign) (hb : bytesOk sign) (hl : sign.length ≤ 140737488355328) :
    Calls Tryz.prog 74 #[.agg (rowOf .u8 32 F), .agg #[.int .i64 D, .int .i64 E], vt, vs] w fun e w' => e = .returned (errV (verR F D E text sign)) ∧ Below w.heap.size w w' := by
  by_cases h : kOk D E
  · have h2 := h
    unfold kOk at h2
    obtain ⟨k, rfl⟩ : ∃ k : Nat, E = (k : Int) := ⟨E.toNat, by omega⟩
    exact kverify_ok F D k vt vs text sign w he (by omega) (by omega) ht hs hb hl
  · have e : verR F D E text sign = some 20 := by unfold verR; rw [if_neg h]
    rw [e]
    exact kverify_no F D E vt vs w he h
end Go.Proofs.YtjnpcmfpiejmjaaGreatDoor
