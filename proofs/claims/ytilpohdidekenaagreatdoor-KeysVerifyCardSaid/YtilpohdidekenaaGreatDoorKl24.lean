/- Part 24 of the proof. -/
import Derived.ChangeKeysEq
import Derived.Maps.AppendAt
import Derived.Test.YtilpohdidekenaaGreatDoorKl10
import Derived.Test.YtilpohdidekenaaGreatDoorKl14
import Derived.Test.YtilpohdidekenaaGreatDoorKl18
import Derived.Test.YtilpohdidekenaaGreatDoorKl19
import Derived.Test.YtilpohdidekenaaGreatDoorKl22
import Derived.Test.YtilpohdidekenaaGreatDoorKl23
namespace Go.Proofs.YtilpohdidekenaaGreatDoor
set_option linter.unusedVariables false
set_option linter.unusedSimpArgs false
open Go.RowKit
set_option maxRecDepth 100000
/-- are the first 32 numbers the same? -/
def eqB (f g : Nat → Int) : Bool := (List.range 32).all fun i => f i == g i
theorem eqB_self (f : Nat → Int) : eqB f f = true := by simp [eqB]
theorem eqItems32 (f g : Nat → Int) (w : World) : ∀ is : List Nat, (∀ i ∈ is, i < 32) → (Op.eqItems 9999 5 1 (rowOf .u8 32 f) (rowOf .u8 32 g) is).run Tryz.prog w = .ok (is.all fun i => f i == g i) w
  | [], _ => by simp [Op.eqItems]
  | i :: is, h => by
    have hi : i < 32 := h i (by simp)
    have ha : (isAgg 5).run Tryz.prog w = .ok false w := by kernel_rfl
    have hp : ∀ f : Nat → Int, (part 5 (rowOf .u8 32 f) (i * 1)).run Tryz.prog w = .ok (.int .u8 (f i)) w := fun f => by
      simp [part, Sem.run_bind, ha, rowOf_get .u8 32 f i hi]
    have ih := eqItems32 f g w is (fun j hj => h j (by simp [hj]))
    have pe : (Op.equalIn 9999 5 (.int .u8 (f i)) (.int .u8 (g i))).run Tryz.prog w = .ok (f i == g i) w := run_equalIn_int w 9998 5 .u8 .u8 _ _ Tryz.underlying5
    simp only [Op.eqItems, Sem.run_bind, hp, pe, Result.andThen_ok, List.all_cons]
    cases hb : (f i == g i)
    · simp
    · simpa using ih
theorem eq32 (f g : Nat → Int) (w : World) : (binOp .eql 23 (.agg (rowOf .u8 32 f)) (.agg (rowOf .u8 32 g))).run Tryz.prog w = .ok (.bool (eqB f g)) w := by
  rw [run_eql_struct, run_equalIn_array w 9999 (i := (Tryz.prog.info? 5).getD default) _ _ Tryz.underlying23 (by kernel_rfl), show Tryz.prog.cellsOf 5 = 1 by kernel_rfl, eqItems32 f g w _ (fun i hi => by simpa using hi)]
  rfl
theorem eqIn32 (f g : Nat → Int) (w : World) : (Op.equalIn 10000 23 (.agg (rowOf .u8 32 f)) (.agg (rowOf .u8 32 g))).run Tryz.prog w = .ok (eqB f g) w := by
  rw [run_equalIn_array w 9999 (i := (Tryz.prog.info? 5).getD default) _ _ Tryz.underlying23 (by kernel_rfl), show Tryz.prog.cellsOf 5 = 1 by kernel_rfl, eqItems32 f g w _ (fun i hi => by simpa using hi)]
  rfl
theorem neq32_self (f : Nat → Int) (w : World) : (binOp .neq 23 (.agg (rowOf .u8 32 f)) (.agg (rowOf .u8 32 f))).run Tryz.prog w = .ok (.bool false) w := by
  rw [run_neq_struct, eqIn32, eqB_self]
  rfl
theorem eqIn32_self (f : Nat → Int) (w : World) : (Op.equalIn 10000 23 (.agg (rowOf .u8 32 f)) (.agg (rowOf .u8 32 f))).run Tryz.prog w = .ok true w := by rw [eqIn32, eqB_self]
theorem eq32_self (f : Nat → Int) (w : World) : (binOp .eql 23 (.agg (rowOf .u8 32 f)) (.agg (rowOf .u8 32 f))).run Tryz.prog w = .ok (.bool true) w := by rw [eq32, eqB_self]
end Go.Proofs.YtilpohdidekenaaGreatDoor
namespace Go.Proofs.YtilpohdidekenaaGreatDoor
set_option linter.unusedVariables false
set_option linter.unusedSimpArgs false
open Go.RowKit
set_option maxRecDepth 100000
theorem flatC_get : ∀ (ps : List (Nat → Int)) (i j : Nat), i < ps.length → j < 32 → (flatC ps)[i * 32 + j]? = (rowOf .u8 32 (ps.getD i zeroH)).toList[j]?
  | [], i, j, h, _ => by simp at h
  | p :: ps, 0, j, _, hj => by
    show ((rowOf .u8 32 p).toList ++ flatC ps)[0 * 32 + j]? = _
    rw [Nat.zero_mul, Nat.zero_add, List.getElem?_append_left (by rw [(rowOf_list _ _ _).2]; exact hj)]; rfl
  | p :: ps, i + 1, j, h, hj => by
    show ((rowOf .u8 32 p).toList ++ flatC ps)[(i + 1) * 32 + j]? = _
    rw [List.getElem?_append_right (by rw [(rowOf_list _ _ _).2]; omega), (rowOf_list _ _ _).2, show (i + 1) * 32 + j - 32 = i * 32 + j by omega, flatC_get ps i j (by simpa using h) hj]; rfl
theorem HashesIn.of_own {w : World} {B : Nat} {r : Value} {ps : List (Nat → Int)} (h : w.ownsRow B 23 32 r ps.length (flatC ps)) : HashesIn w r ps := by
  rcases h.2 with ⟨rfl, h0⟩ | ⟨tb, cap, cur, rfl, _, hh, hc, hm, _⟩
  · exact ⟨none, 0, by rw [h0], by omega, by simp [maxLen], .inl (List.eq_nil_of_length_eq_zero h0)⟩
  · refine ⟨_, cap, rfl, hc, hm, .inr ⟨tb, 0, rfl, (Array.getElem?_eq_some_iff.1 hh).1, fun i hi j u hj => ?_⟩⟩
    have hj32 : j < 32 := by have := (List.getElem?_eq_some_iff.1 hj).1; rw [(rowOf_list _ _ _).2] at this; exact this
    have := h.cells (g := tb) rfl (i * 32 + j) u (by rw [flatC_get ps i j hi hj32]; exact hj)
    rw [Addr.add_mid] at this
    rw [show 0 + i * 32 + j = 0 + (i * 32 + j) by omega]; exact this
theorem HashesIn.len {w : World} {r : Value} {ps : List (Nat → Int)} (h : HashesIn w r ps) : ∃ a cap, r = .slice a ps.length cap := by
  obtain ⟨a, cap, e, _⟩ := h
  exact ⟨a, cap, e⟩
theorem flatC_length (ps : List (Nat → Int)) : (flatC ps).length = ps.length * 32 := by
  induction ps with
  | nil => rfl
  | cons p ps ih =>
    show ((rowOf .u8 32 p).toList ++ flatC ps).length = _
    rw [List.length_append, (rowOf_list _ _ _).2, ih, List.length_cons]; omega
theorem flatC_one (ps : List (Nat → Int)) : ∀ u ∈ flatC ps, u.oneCell' = true := by
  intro u hu
  simp only [flatC, List.mem_flatMap] at hu
  obtain ⟨p, _, hp⟩ := hu
  exact (Array.all_eq_true_iff_forall_mem.1 (rowOf_one _ _ _)) u (by simpa using hp)
/-- append of hashes to a slice of one's own -/
theorem run_append_hashes (w : World) (base : Nat) (v : Value) (n : Nat) (vs : List Value) (hown : w.ownsRow base 23 32 v n vs) (y : Value) (ps : List (Nat → Int)) (hy : HashesIn w y ps) (hl : (n + ps.length) * 32 ≤ 140737488355328) (hb : base ≤ w.heap.size) :
    ∃ v' w', (Builtin.append_ #[37, 37] 37 #[v, y]).run Tryz.prog w = .ok v' w' ∧ w'.ownsRow base 23 32 v' (n + ps.length) (vs ++ flatC ps) ∧ w.grownBy w' v.ownBlock := by
  obtain ⟨i0, hi, hz0, hz1, hz2⟩ := info_parts Tryz.info25
  obtain ⟨a, c, rfl, hc, hm, hx⟩ := hy
  rcases a with _ | ad
  · have hn : ps = [] := by
      rcases hx with hx | ⟨_, _, h, _⟩
      · exact hx
      · cases h
    subst hn
    refine ⟨v, w, ?_, by simpa [flatC] using hown, ⟨rfl, rfl, rfl, Nat.le_refl _, fun _ _ _ => rfl⟩⟩
    rcases hown.2 with ⟨rfl, rfl⟩ | ⟨g, cap, cur, rfl, _, _, hnc, _⟩
    · simp [Builtin.append_, run_underlying Tryz.underlying37, sizeOf, typeInfo, hi, Builtin.lenOf, Builtin.firstCells]
    · simp [Builtin.append_, run_underlying Tryz.underlying37, sizeOf, typeInfo, hi, Builtin.lenOf, Builtin.firstCells, hnc, storeCells]
  · have hcells : ∀ j u, (flatC ps)[j]? = some u → w.cell? (ad.add j) = some u := fun j u hu => by
      rcases hx with rfl | ⟨ab, ao, h, _, hx⟩
      · simp [flatC] at hu
      · injection h with h; subst h
        have hj : j < ps.length * 32 := by have := (List.getElem?_eq_some_iff.1 hu).1; rw [flatC_length] at this; exact this
        have e : j = j / 32 * 32 + j % 32 := by omega
        rw [e, flatC_get ps (j / 32) (j % 32) (by omega) (by omega)] at hu
        have := hx (j / 32) (by omega) (j % 32) u hu
        rw [Addr.add_mid, e, ← Nat.add_assoc]; exact this
    obtain ⟨v', w', hr, h1, h2, _, h4⟩ := run_append_own_at w base 37 37 23 i0 (.agg (rowOf .u8 32 (fun _ => 0))) 32 32 Tryz.underlying37 hi hz0 hz1 hz2 (by simp [Value.cells, rowOf_size]) (by decide) v n vs hown ad ps.length c (flatC ps) (flatC_length ps) hcells (flatC_one ps) (by unfold maxLen; omega) hl hb
    exact ⟨v', w', hr, h1, h2⟩
theorem wpList_append_hashes {w : World} {ops : Array Oper} {rest : List Oper} {o : Oper} {a : Act} {Q : Exit → Act → World → Prop} (hgd : o.guard = none) (s x : Operand)
    (ho : o.op = .call { callee := .builtin .append, args := #[s, x], argTypes := #[37, 37] }) (hty : o.type = 37)
    (base : Nat) (v : Value) (n : Nat) (vs : List Value) (hs : a.eval s = v) (hown : w.ownsRow base 23 32 v n vs) (y : Value) (ps : List (Nat → Int)) (hx : a.eval x = y) (hy : HashesIn w y ps) (hl : (n + ps.length) * 32 ≤ 140737488355328) (hb : base ≤ w.heap.size)
    (h : ∀ v' w', w'.ownsRow base 23 32 v' (n + ps.length) (vs ++ flatC ps) → w.grownBy w' v.ownBlock → wpList Tryz.prog ops Q rest (a.put o.dst v') w') : wpList Tryz.prog ops Q (o :: rest) a w := by
  refine wpList_plain hgd fun K hK => ?_
  obtain ⟨v', w', hr, h1, h2⟩ := run_append_hashes w base v n vs hown y ps hy hl hb
  unfold Oper.wp execOp
  simp only [ho, hty, resolve, invoke, builtin, Sem.run_bind, Sem.run_pure, Result.andThen_ok, List.map_toArray, List.map_cons, List.map_nil, hs, hx, hr]
  exact hK _ _ (h v' w' h1 h2)
theorem HashesIn.at {w : World} {a : Option Addr} {n cap : Nat} {ps : List (Nat → Int)} (h : HashesIn w (.slice a n cap) ps) (k : Nat) (hk : k < ps.length) : ∃ ab ao, a = some ⟨ab, ao, none⟩ ∧ ab < w.heap.size ∧ w.rangeAt ab (ao + k * 32) (rowOf .u8 32 (ps.getD k zeroH)).toList := by
  obtain ⟨a', cap', e, hc, hm, hx⟩ := h
  injection e with e1 e2 e3
  subst e1
  rcases hx with rfl | ⟨ab, ao, rfl, hlt, hx⟩
  · simp at hk
  · exact ⟨ab, ao, rfl, hlt, hx k hk⟩
end Go.Proofs.YtilpohdidekenaaGreatDoor
namespace Go.Proofs.YtilpohdidekenaaGreatDoor
set_option linter.unusedVariables false
set_option linter.unusedSimpArgs false
open Go.RowKit
set_option maxRecDepth 100000
theorem bytes_own_lt {w : World} {y : Value} {ys : List Int} (h : BytesIn w y ys) (hn : ys ≠ []) : ∀ k, y.ownBlock = some k → k < w.heap.size := by
  obtain ⟨a, c, rfl, _, _, hx⟩ := h
  rcases hx with hx | ⟨ab, ao, rfl, hx⟩
  · exact absurd hx hn
  · intro k hk
    cases ys with
    | nil => exact absurd rfl hn
    | cons x r =>
      have := World.block_lt_of_cell? w _ (hx 0 x rfl)
      have e : ab = k := by simpa [Value.ownBlock] using hk
      show k < w.heap.size
      rw [← e]; exact this
theorem wbytes_on (p B : Nat) (v y : Value) (xs ys : List Int) (w0 w : World) (hw : WAt w p v xs) (hy : BytesIn w y ys) (hlt : ys ≠ [] → ∀ k, y.ownBlock = some k → k < p) (hb : Below B w0 w) (hB : B ≤ p) (hl : xs.length + ys.length + 10 ≤ 140737488355328) :
    Calls Tryz.prog 130 #[.pointer (some ⟨p, 0, none⟩), y] w fun e w' => e = .returned (.pointer (some ⟨p, 0, none⟩)) ∧ ∃ v', WAt w' p v' (xs ++ (varint ys.length ++ ys)) ∧ Below B w0 w' :=
  (wbytes_any p v y xs ys w hw hy (fun hn => Apart.of_lt hw (hlt hn)) hl).mono fun _ _ h => wpost_on h hw hb hB
theorem wdone_new (p B : Nat) (v : Value) (xs : List Int) (w0 w : World) (hw : WAt w p v xs) (hb : Below B w0 w) (hB : B ≤ p) (hl : xs.length ≤ 140737488355328) :
    Calls Tryz.prog 86 #[.pointer (some ⟨p, 0, none⟩)] w fun e w' => ∃ v', e = .returned v' ∧ BytesIn w' v' xs ∧ (∀ j, v'.ownBlock = some j → B ≤ j) ∧ Below B w0 w' :=
  (done_any p v xs w hw hl).mono fun _ _ ⟨v', he, ho, hb'⟩ => ⟨v', he, owns_in ho (by unfold maxLen; omega), fun j hj => by have := (ho.lt j hj).1; have := hw.lt; omega, hb.trans (hb'.mono (by have := hw.lt; omega))⟩
/-- what lies in memory while a signature is encoded -/
structure EncM (w w' : World) (B : Nat) (leaf : Nat) (vo vp : Value) (once : List Int) (ps : List (Nat → Int)) : Prop where
  below : Below w.heap.size w w'
  sig : w'.heap[w.heap.size]? = some (.cells #[.int .i64 (leaf : Int), vo, vp] 74 (0, 0))
  once : BytesIn w' vo once
  path : HashesIn w' vp ps
  size : B ≤ w'.heap.size
  lo : w.heap.size < B
theorem EncM.call {w w' w2 : World} {B leaf : Nat} {vo vp : Value} {once : List Int} {ps : List (Nat → Int)} (m : EncM w w' B leaf vo vp once ps) (h : Below w'.heap.size w' w2) : EncM w w2 B leaf vo vp once ps :=
  ⟨m.below.trans (h.mono m.below.size), (h.block _ (Array.getElem?_eq_some_iff.1 m.sig).1).trans m.sig, m.once.below h, m.path.below h, Nat.le_trans m.size h.size, m.lo⟩
/-- a call that turns the Writer alone -/
theorem EncM.writ {w w' w2 wB : World} {leaf : Nat} {vo vp : Value} {once : List Int} {ps : List (Nat → Int)} (m : EncM w w' wB.heap.size leaf vo vp once ps) (mB : EncM w wB wB.heap.size leaf vo vp once ps) (h0 : Below wB.heap.size wB w') (h : Below wB.heap.size w' w2) : EncM w w2 wB.heap.size leaf vo vp once ps ∧ Below wB.heap.size wB w2 := by
  have hb := h0.trans h
  exact ⟨⟨m.below.trans (h.mono mB.below.size), (h.block _ mB.lo).trans m.sig, mB.once.below hb, mB.path.below hb, Nat.le_trans m.size h.size, mB.lo⟩, hb⟩
theorem sig_start (w : World) (leaf : Nat) (vo vp : Value) (once : List Int) (ps : List (Nat → Int)) (ho : BytesIn w vo once) (hp : HashesIn w vp ps) (B : Nat) (hB : B = w.heap.size + 1) :
    EncM w (w.alloc (.cells #[.int .i64 (leaf : Int), vo, vp] 74)) B leaf vo vp once ps :=
  ⟨below_alloc _ _, heap_alloc_new _ _, ho.below (below_alloc _ _), hp.below (below_alloc _ _), by simp [hB], by omega⟩
set_option maxHeartbeats 2000000 in
theorem kencode_any (leaf : Nat) (vo vp : Value) (once : List Int) (ps : List (Nat → Int)) (w : World) (hleaf : leaf ≤ 1023) (ho : BytesIn w vo once) (hp : HashesIn w vp ps) (hol : once.length ≤ 1048576) (hpl : ps.length ≤ 64) :
    Calls Tryz.prog 91 #[.agg #[.int .i64 (leaf : Int), vo, vp]] w fun e w' => ∃ v', e = .returned v' ∧ BytesIn w' v' (encF leaf once ps) ∧ (∀ j, v'.ownBlock = some j → w.heap.size ≤ j) ∧ Below w.heap.size w w' := by
  obtain ⟨ap, cp, rfl⟩ := hp.len
  have HU1 := Lib.hid (show IntKind.u64.wrap (leaf : Int) = (leaf : Int) by rw [show IntKind.u64.wrap (leaf : Int) = (leaf : Int) % 18446744073709551616 from rfl]; omega)
  have HU2 := Lib.hid (show IntKind.u64.wrap (ps.length : Int) = (ps.length : Int) by rw [show IntKind.u64.wrap (ps.length : Int) = (ps.length : Int) % 18446744073709551616 from rfl]; omega)
  have HL1 := Lib.hid (vlen leaf (by omega))
  have HL2 := Lib.hid (vlen ps.length (by omega))
  have HL3 := Lib.hid (vlen once.length (by omega))
  have HOL := Lib.hid hol
  have HPL := Lib.hid hpl
  have HLF := Lib.hid hleaf
  have M := Lib.hid (sig_start w leaf vo (.slice ap ps.length cp) once ps ho hp _ rfl)
  clear ho hp hleaf hol
  go_enter Tryz.func91, Tryz.ntmps91
  go_upto_region 1 with (fail)
  generalize w.alloc (.cells #[.int .i64 (leaf : Int), vo, .slice ap ps.length cp] 74) = w1 at *
  refine wp_region_T (fun w' => w'.heap[w.heap.size]? = some (.cells #[.int .i64 (leaf : Int), vo, .slice ap ps.length cp] 74 (0, 0))) [0, 2, 3, 4, 6, 7] (by kernel_rfl) ?_
  replace M := Lib.hid (show EncM w w1.drew w1.drew.heap.size leaf vo (.slice ap ps.length cp) once ps from ⟨(M.out.call ((Below.refl _ _).drew)).below, (M.out.call ((Below.refl _ _).drew)).sig, (M.out.call ((Below.refl _ _).drew)).once, (M.out.call ((Below.refl _ _).drew)).path, Nat.le_refl _, Nat.lt_of_lt_of_le M.out.lo M.out.size⟩)
  generalize w1.drew = w2 at *
  clear w1
  refine anyT_takeY (i := 1) (v := .pointer (some ⟨w.heap.size, 0, none⟩)) rfl (by kernel_rfl) (by kernel_rfl) (by kernel_rfl) (fun _ _ _ h => h) (by kernel_rfl) (Or.inl ⟨by rfl, by intro w; go_simp⟩) ?_
  try simp only [List.getElem_toArray, List.getElem_cons_succ, List.getElem_cons_zero, Act.put, List.setIfInBounds_toArray, List.set_cons_zero, List.set_cons_succ]
  refine anyT_takeY (i := 5) (v := .pointer (some ⟨w.heap.size, 1, none⟩)) rfl (by kernel_rfl) (by kernel_rfl) (by kernel_rfl) (fun _ _ _ h => h) (by kernel_rfl) (Or.inl ⟨by rfl, by intro w; go_simp⟩) ?_
  try simp only [List.getElem_toArray, List.getElem_cons_succ, List.getElem_cons_zero, Act.put, List.setIfInBounds_toArray, List.set_cons_zero, List.set_cons_succ]
  refine anyT_takeY (i := 8) (v := .pointer (some ⟨w.heap.size, 2, none⟩)) rfl (by kernel_rfl) (by kernel_rfl) (by kernel_rfl) (fun _ _ _ h => h) (by kernel_rfl) (Or.inl ⟨by rfl, by intro w; go_simp⟩) ?_
  try simp only [List.getElem_toArray, List.getElem_cons_succ, List.getElem_cons_zero, Act.put, List.setIfInBounds_toArray, List.set_cons_zero, List.set_cons_succ]
  refine anyT_take [10, 11, 12, 13] (i := 9) (v := .slice ap ps.length cp) rfl (by kernel_rfl) (by kernel_rfl) (by kernel_rfl) (fun _ _ _ h => h) (by kernel_rfl) (Or.inl ⟨by rfl, fun w' hS => by have c1 := cell_of_row w' _ 2 _ _ _ hS; go_simp⟩) M.out.sig ?_
  try simp only [List.getElem_toArray, List.getElem_cons_succ, List.getElem_cons_zero, Act.put, List.setIfInBounds_toArray, List.set_cons_zero, List.set_cons_succ]
  refine anyT_takeY (i := 10) (v := .int .i64 (ps.length : Int)) rfl (by kernel_rfl) (by kernel_rfl) (by kernel_rfl) (fun _ _ _ h => h) (by kernel_rfl) (Or.inl ⟨by rfl, by intro w; go_simp⟩) ?_
  try simp only [List.getElem_toArray, List.getElem_cons_succ, List.getElem_cons_zero, Act.put, List.setIfInBounds_toArray, List.set_cons_zero, List.set_cons_succ]
  refine anyT_takeY (i := 11) (v := .int .u64 (IntKind.u64.wrap (ps.length : Int))) rfl (by kernel_rfl) (by kernel_rfl) (by kernel_rfl) (fun _ _ _ h => h) (by kernel_rfl) (Or.inl ⟨by rfl, by intro w; go_simp⟩) ?_
  try simp only [List.getElem_toArray, List.getElem_cons_succ, List.getElem_cons_zero, Act.put, List.setIfInBounds_toArray, List.set_cons_zero, List.set_cons_succ]
  rw [HU2.out]
  refine anyT_take [7, 12, 13] (i := 6) (v := vo) rfl (by kernel_rfl) (by kernel_rfl) (by kernel_rfl) (fun _ _ _ h => h) (by kernel_rfl) (Or.inl ⟨by rfl, fun w' hS => by have c1 := cell_of_row w' _ 1 _ _ _ hS; go_simp⟩) M.out.sig ?_
  try simp only [List.getElem_toArray, List.getElem_cons_succ, List.getElem_cons_zero, Act.put, List.setIfInBounds_toArray, List.set_cons_zero, List.set_cons_succ]
  refine anyT_take [3, 4, 7, 12, 13] (i := 2) (v := .int .i64 (leaf : Int)) rfl (by kernel_rfl) (by kernel_rfl) (by kernel_rfl) (fun _ _ _ h => h) (by kernel_rfl) (Or.inl ⟨by rfl, fun w' hS => by have c1 := cell_of_row w' _ 0 _ _ _ hS; go_simp⟩) M.out.sig ?_
  try simp only [List.getElem_toArray, List.getElem_cons_succ, List.getElem_cons_zero, Act.put, List.setIfInBounds_toArray, List.set_cons_zero, List.set_cons_succ]
  refine anyT_take [4, 7, 12, 13] (i := 3) (v := .int .u64 (IntKind.u64.wrap (leaf : Int))) rfl (by kernel_rfl) (by kernel_rfl) (by kernel_rfl) (fun _ _ _ h => h) (by kernel_rfl) (Or.inl ⟨by rfl, fun w' _ => by go_simp⟩) M.out.sig ?_
  try simp only [List.getElem_toArray, List.getElem_cons_succ, List.getElem_cons_zero, Act.put, List.setIfInBounds_toArray, List.set_cons_zero, List.set_cons_succ]
  rw [HU1.out]
  refine anyT_one (i := 0) (by kernel_rfl) rfl (fun K hK => ?_)
  rw [if_pos (by rfl)]
  try simp only [List.getElem_toArray, List.getElem_cons_succ, List.getElem_cons_zero]
  (go_simp; refine (new_on _).mono ?_; rintro e w3 ⟨rfl, HW, HB2⟩; have M2 := M; replace M := Lib.hid (M.out.writ M2.out (Below.refl _ _) HB2); have HX := Lib.hid M.out.2; replace M := Lib.hid M.out.1; replace HW := Lib.hid HW; clear HB2)
  refine hK _ _ (fun _ => M.out.sig) ?_
  clear hK K
  try simp only [List.getElem_toArray, List.getElem_cons_succ, List.getElem_cons_zero, Act.put, List.setIfInBounds_toArray, List.set_cons_zero, List.set_cons_succ]
  refine anyT_one (i := 4) (by kernel_rfl) rfl (fun K hK => ?_)
  rw [if_pos (by rfl)]
  try simp only [List.getElem_toArray, List.getElem_cons_succ, List.getElem_cons_zero]
  (go_simp; refine (wuint_on w2.heap.size w2.heap.size _ _ leaf _ _ HW.out (Below.refl _ _) (Nat.le_refl _) (by have := HLF.out; omega) (by simp)).mono ?_; rintro e w4 ⟨rfl, v4, hw4, HB4⟩; replace M := Lib.hid (M.out.writ M2.out HX.out HB4); replace HX := Lib.hid M.out.2; replace M := Lib.hid M.out.1; replace HW := Lib.hid hw4; clear hw4 HB4 w3)
  refine hK _ _ (fun _ => M.out.sig) ?_
  clear hK K
  try simp only [List.getElem_toArray, List.getElem_cons_succ, List.getElem_cons_zero, Act.put, List.setIfInBounds_toArray, List.set_cons_zero, List.set_cons_succ]
  refine anyT_one (i := 7) (by kernel_rfl) rfl (fun K hK => ?_)
  rw [if_pos (by rfl)]
  try simp only [List.getElem_toArray, List.getElem_cons_succ, List.getElem_cons_zero]
  (go_simp; refine (wbytes_on w2.heap.size w2.heap.size _ vo _ once _ _ HW.out M.out.once (bytes_own_lt M2.out.once) (Below.refl _ _) (Nat.le_refl _) (by have := HL1.out; have := HOL.out; simp only [List.length_append, List.length_nil]; omega)).mono ?_; rintro e w5 ⟨rfl, v5, hw5, HB5⟩; replace M := Lib.hid (M.out.writ M2.out HX.out HB5); replace HX := Lib.hid M.out.2; replace M := Lib.hid M.out.1; replace HW := Lib.hid hw5; clear hw5 HB5 w4)
  refine hK _ _ (fun _ => M.out.sig) ?_
  clear hK K
  try simp only [List.getElem_toArray, List.getElem_cons_succ, List.getElem_cons_zero, Act.put, List.setIfInBounds_toArray, List.set_cons_zero, List.set_cons_succ]
  refine anyT_one (i := 12) (by kernel_rfl) rfl (fun K hK => ?_)
  rw [if_pos (by rfl)]
  try simp only [List.getElem_toArray, List.getElem_cons_succ, List.getElem_cons_zero]
  (go_simp; refine (wuint_on w2.heap.size w2.heap.size _ _ ps.length _ _ HW.out (Below.refl _ _) (Nat.le_refl _) (by have := HPL.out; omega) (by have := HL1.out; have := HL3.out; have := HOL.out; simp only [List.length_append, List.length_nil]; omega)).mono ?_; rintro e w6 ⟨rfl, v6, hw6, HB6⟩; replace M := Lib.hid (M.out.writ M2.out HX.out HB6); replace HX := Lib.hid M.out.2; replace M := Lib.hid M.out.1; replace HW := Lib.hid hw6; clear hw6 HB6 w5)
  refine hK _ _ (not_mem rfl) ?_
  clear hK K
  try simp only [List.getElem_toArray, List.getElem_cons_succ, List.getElem_cons_zero, Act.put, List.setIfInBounds_toArray, List.set_cons_zero, List.set_cons_succ]
  refine anyT_takeY (i := 13) (v := .pointer (some ⟨w2.heap.size, 0, none⟩)) rfl (by kernel_rfl) (by kernel_rfl) (by kernel_rfl) (fun _ _ _ h => h) (by kernel_rfl) (Or.inl ⟨by rfl, by intro w; go_simp⟩) ?_
  try simp only [List.getElem_toArray, List.getElem_cons_succ, List.getElem_cons_zero, Act.put, List.setIfInBounds_toArray, List.set_cons_zero, List.set_cons_succ]
  refine anyT_done (by kernel_rfl) ?_ _
  obtain ⟨p, hp⟩ : ∃ p, p = w2.heap.size := ⟨_, rfl⟩
  rw [← hp] at HW ⊢
  obtain ⟨pre, hpre⟩ : ∃ pre, pre = [] ++ varint leaf ++ (varint once.length ++ once) ++ varint ps.length := ⟨_, rfl⟩
  rw [← hpre] at HW
  have HPRE := Lib.hid (show pre.length ≤ 1048576 + 30 by rw [hpre]; have := HL1.out; have := HL2.out; have := HL3.out; have := HOL.out; simp only [List.length_append, List.length_nil]; omega)
  replace hpre := Lib.hid hpre
  replace hp := Lib.hid hp
  have c2 := cell_of_row _ _ 2 _ _ _ M.out.sig
  go_wp2_with (fail)
  clear c2
  go_loopw [22] (fun i wr => ∃ k : Nat, k ≤ ps.length ∧ i = .int .i64 (k : Int) ∧ Hid (Below w2.heap.size w2 wr) ∧ Hid (∃ v, WAt wr p v (pre ++ pathL (ps.take k)))) (fun i _ => ps.length - (intOf i).toNat)
  case atStart => exact ⟨0, Nat.zero_le _, rfl, HX, Lib.hid ⟨_, by rw [List.take_zero]; show WAt _ _ _ (pre ++ []); rw [List.append_nil]; exact HW.out⟩⟩
  case round =>
    obtain ⟨k, hk, rfl, HB, HWR⟩ := hrel
    obtain ⟨v, HWR⟩ := HWR.out
    replace HWR := Lib.hid HWR
    by_cases hlt : k < ps.length
    · obtain ⟨ab, ao, rfl, -, hra⟩ := (M2.out.path.below HB.out).at k hlt
      have HRA := Lib.hid hra
      clear hra
      obtain ⟨q, hq⟩ : ∃ q, q = ps.getD k zeroH := ⟨_, rfl⟩
      rw [← hq] at HRA
      have HQ := Lib.hid (show pathL (ps.take (k + 1)) = pathL (ps.take k) ++ rowL 32 q by rw [List.take_succ_eq_append_getElem hlt, pathL_snoc, hq, List.getD_eq_getElem?_getD, List.getElem?_eq_getElem hlt]; rfl)
      have HPK := Lib.hid (show (pathL (ps.take k)).length ≤ 32 * 64 by rw [pathL_length, List.length_take]; have := HPL.out; omega)
      have hltI : (k : Int) < (ps.length : Int) := by omega
      have hkb : k ≤ 64 := by have := HPL.out; omega
      replace hq := Lib.hid hq
      go_wp2_with (first
        | (refine wpList_load_mid rfl 23 (.tmp 24) rfl ab (ao + k * 32) rfl _ _ HRA.out Tryz.underlying23 rfl (by rw [(rowOf_list _ _ _).2]; kernel_rfl) ?_; rw [Array.toArray_toList])
        | (refine wpList_store_row rfl 23 (.tmp 5) (.tmp 25) rfl wr.heap.size (rowOf .u8 32 q) rfl rfl 23 _ (heap_alloc_new _ _) (by rw [rowOf_size]; kernel_rfl) (by rw [rowOf_size]; rfl) (rowOf_one _ _ _) ?_; rw [World.setRow_alloc_new]; have HA := Lib.hid (below_alloc wr (.cells (rowOf .u8 32 q) 23)); have HR := Lib.hid (RowAt.new wr .u8 32 23 q); replace HWR := Lib.hid (HWR.out.below HA.out); replace HB := Lib.hid (HB.out.trans (HA.out.mono HB.out.size)); clear HA; generalize wr.alloc (.cells (rowOf .u8 32 q) 23) = w4 at *)
        | (refine wpList_load_row rfl 23 (.tmp 5) rfl wr.heap.size rfl 23 _ (0, 0) _ HR.out Tryz.underlying23 rfl (by rw [rowOf_size]; kernel_rfl) ?_)
        | (go_at_call 131; (with_reducible refine (whash_on p w2.heap.size _ _ q _ _ HWR.out HB.out (by have := hp.out; omega) (by have := HPRE.out; have := HPK.out; simp only [List.length_append]; omega)).mono ?_); rintro e w5 ⟨rfl, v5, hw5, HB5⟩; have HW5 := Lib.hid hw5; replace HB := Lib.hid HB5; clear hw5 HB5))
      go_roundw
      case rel => exact ⟨k + 1, by omega, by go_num, HB, Lib.hid ⟨v5, by rw [HQ.out, ← List.append_assoc]; exact HW5.out⟩⟩
      case measure => simp [intOf]; omega
    · obtain rfl : k = ps.length := by omega
      rw [List.take_length] at HWR
      have hltI : ¬ ((ps.length : Int) < (ps.length : Int)) := by omega
      go_wp2_with (go_at_call 86; (with_reducible refine (wdone_new p w2.heap.size _ _ _ _ HWR.out HB.out (by have := hp.out; omega) (by have := HPRE.out; have := HPL.out; rw [List.length_append, pathL_length]; omega)).mono ?_); rintro e w6 ⟨v6, rfl, hx6, hj6, HB6⟩)
      go_ret
      refine ⟨v6, rfl, ?_, fun j hj => Nat.le_trans M2.out.below.size (hj6 j hj), M2.out.below.trans (HB6.mono M2.out.below.size)⟩
      rw [hpre.out, List.nil_append] at hx6
      exact hx6
end Go.Proofs.YtilpohdidekenaaGreatDoor
namespace Go.Proofs.YtilpohdidekenaaGreatDoor
set_option linter.unusedVariables false
set_option linter.unusedSimpArgs false
open Go.RowKit
set_option maxRecDepth 100000
set_option maxRecDepth 100000 in
set_option maxHeartbeats 1000000 in
theorem rhash_own (p : Nat) (y : Value) (ys : List Int) (e : Option Nat) (w : World) (h : RAt w p y ys e) :
    Calls Tryz.prog 59 #[.pointer (some ⟨p, 0, none⟩)] w fun r w' => r = .returned (.agg (rowOf .u8 32 (hashS (ys, e)).1)) ∧ (∃ y', RAt w' p y' (hashS (ys, e)).2.1 (hashS (ys, e)).2.2 ∧ y'.ownBlock = y.ownBlock) ∧ Only p w w' := by
  have HB := Lib.hid ((below_alloc w (.cells (rowOf .u8 32 (fun _ => 0)) 23)).trans ((below_alloc (w.alloc (.cells (rowOf .u8 32 (fun _ => 0)) 23)) (.cells (rowOf .u8 32 (fun _ => 0)) 23)).mono (by simp)))
  have HR := h.below HB.out
  have HQ1 := (RowAt.new w .u8 32 23 (fun _ => 0)).alloc (.cells (rowOf .u8 32 (fun _ => 0)) 23)
  have HQ2 := RowAt.new (w.alloc (.cells (rowOf .u8 32 (fun _ => 0)) 23)) .u8 32 23 (fun _ => 0)
  rw [size_alloc] at HQ2
  have HP : p < w.heap.size := h.lt
  have H0 := Lib.hid h
  replace HR := Lib.hid HR
  replace HQ1 := Lib.hid HQ1
  replace HQ2 := Lib.hid HQ2
  clear h
  go_enter Tryz.func59, Tryz.ntmps59
  go_upto_region 2 with (fail)
  rw [zerosPk]
  generalize (w.alloc (.cells (rowOf .u8 32 (fun _ => 0)) 23)).alloc (.cells (rowOf .u8 32 (fun _ => 0)) 23) = w1 at *
  have HE := Lib.hid (err_any p y ys e w1 HR.out)
  have hc0 := HR.out.cell0
  have hc1 := HR.out.cell1
  have hf := HR.out.free 1
  obtain ⟨a, c, rfl, hle⟩ := HR.out.wide
  have HLE := Lib.hid hle
  clear hle
  cases e with
  | some x =>
    simp only [errV] at HE hc1
    go_wp2_with (first
      | (go_at_call 107; (with_reducible refine HE.out.mono ?_); rintro e w2 ⟨rfl, rfl⟩)
      | (refine wpList_load_row rfl 23 (.tmp 3) rfl (w.heap.size + 1) rfl 23 _ (0, 0) _ HQ2.out Tryz.underlying23 rfl (by rw [rowOf_size]; kernel_rfl) ?_)
      | (refine wpList_store_row rfl 23 (.tmp 2) (.tmp 7) rfl w.heap.size _ rfl rfl 23 _ HQ1.out (by rw [rowOf_size]; kernel_rfl) (by simp only [rowOf_size]) (rowOf_one _ _ _) ?_))
    refine bodyPost_ret (results_cell_row rfl _ _ w.heap.size 23 (rowOf .u8 32 (fun _ => 0)) (0, 0) _ rfl (setRow_heap _ _ _ _ _ _ HQ1.out) Tryz.underlying23 rfl (by rw [rowOf_size]; kernel_rfl)) rfl ?_
    rw [hashS_err]
    exact ⟨rfl, ⟨_, H0.out.below (below_setRow HB.out (Nat.le_refl _) _), rfl⟩, Only.of_below (below_setRow HB.out (Nat.le_refl _) _)⟩
  | none =>
    simp only [errV] at HE hc1
    by_cases hs : ys.length < 32
    · have HS := Lib.hid (hashS_short hs)
      have hs1 : (ys.length : Int) < 32 := by omega
      have HW := Lib.hid (HR.out.err (some 12))
      have HQ2' := Lib.hid (HQ2.out.other ⟨p, 1, none⟩ (errV (some 12)) (show w.heap.size + 1 ≠ p by omega))
      have HQ1' := Lib.hid (HQ1.out.other ⟨p, 1, none⟩ (errV (some 12)) (show w.heap.size ≠ p by omega))
      have HO := Lib.hid ((Only.of_below HB.out).trans (Only.setCell w1 ⟨p, 1, none⟩ (errV (some 12))))
      simp only [errV] at HW HQ1' HQ2' HO
      clear HQ1 HQ2
      go_wp2_with (first
        | (go_at_call 107; (with_reducible refine HE.out.mono ?_); rintro e w2 ⟨rfl, rfl⟩)
        | (refine wpList_load_row rfl 23 (.tmp 3) rfl (w.heap.size + 1) rfl 23 _ (0, 0) _ HQ2'.out Tryz.underlying23 rfl (by rw [rowOf_size]; kernel_rfl) ?_)
        | (refine wpList_store_row rfl 23 (.tmp 2) (.tmp 18) rfl w.heap.size _ rfl rfl 23 _ HQ1'.out (by rw [rowOf_size]; kernel_rfl) (by simp only [rowOf_size]) (rowOf_one _ _ _) ?_))
      refine bodyPost_ret (results_cell_row rfl _ _ w.heap.size 23 (rowOf .u8 32 (fun _ => 0)) (0, 0) _ rfl (setRow_heap _ _ _ _ _ _ HQ1'.out) Tryz.underlying23 rfl (by rw [rowOf_size]; kernel_rfl)) rfl ?_
      rw [HS.out]
      refine ⟨rfl, ⟨_, HW.out.keep (setRow_other _ _ _ _ (by omega)) fun hn k hk => setRow_other _ _ _ _ ?_, rfl⟩, HO.out.behind (Nat.le_refl _) _⟩
      have := H0.out.own_lt hn k hk; omega
    · have hs1 : ¬ (ys.length : Int) < 32 := by omega
      have HS := Lib.hid (hashS_long hs)
      go_upto_region 7 with (go_at_call 107; (with_reducible refine HE.out.mono ?_); rintro e w2 ⟨rfl, rfl⟩)
      obtain ⟨w3, hw3⟩ : ∃ w3, w3 = w2.drew := ⟨_, rfl⟩
      have HR3 := Lib.hid (show RAt w3 p (.slice a ys.length c) ys none by rw [hw3]; exact HR.out.keep rfl fun _ _ _ => rfl)
      have HQ13 := Lib.hid (show RowAt w3 w.heap.size .u8 32 23 (fun _ => 0) by rw [hw3]; exact HQ1.out)
      have HQ23 := Lib.hid (show RowAt w3 (w.heap.size + 1) .u8 32 23 (fun _ => 0) by rw [hw3]; exact HQ2.out)
      have HO3 := Lib.hid (show Only p w w3 by rw [hw3]; exact (Only.of_below HB.out).trans (Only.drew _ _))
      refine wp_region_any (by kernel_rfl) ?_
      change wpAny _ _ _ _ _ _ _ w2.drew
      rw [← hw3]
      clear hw3
      refine wpAny_take (i := 0) (v := .slice (some ⟨w.heap.size + 1, 0, none⟩) 32 32) rfl (by kernel_rfl) (by kernel_rfl) (by kernel_rfl) (fun _ _ _ h => h) (Or.inl ⟨by rfl, by intro w; go_simp⟩) ?_
      try simp only [List.getElem_toArray, List.getElem_cons_zero, Act.put, List.setIfInBounds_toArray, List.set_cons_zero, List.set_cons_succ]
      refine wpAny_take (i := 1) (v := .pointer (some ⟨p, 0, none⟩)) rfl (by kernel_rfl) (by kernel_rfl) (by kernel_rfl) (fun _ _ _ h => h) (Or.inl ⟨by rfl, by intro w; go_simp⟩) ?_
      try simp only [List.getElem_toArray, List.getElem_cons_succ, List.getElem_cons_zero, Act.put, List.setIfInBounds_toArray, List.set_cons_zero, List.set_cons_succ]
      refine wpAny_ready (rs := [2]) (by kernel_rfl) (by simp) ?_; refine AllReady.cons rfl (fun K hK => ?_) AllReady.nil; rw [if_pos (by rfl)]
      try simp only [List.getElem_toArray, List.getElem_cons_succ, List.getElem_cons_zero]
      go_simp
      have ht := take_any p _ ys none 32 w3 HR3.out (by omega)
      rw [show ((32 : Nat) : Int) = 32 from rfl] at ht
      refine ht.mono ?_
      rintro e w4 ⟨a1, c1, y1, rfl, hi1, hn1, hr1, ho1, hy1⟩
      have hl32 : (ys.take 32).length = 32 := by rw [List.length_take]; omega
      obtain ⟨a1', c1', e1, _, _, hx1⟩ := hi1
      rw [hl32] at e1
      injection e1 with e1 _ e3
      subst e1 e3
      obtain ⟨ab, ao, rfl, hx2⟩ := hx1.resolve_left (by intro h0; rw [h0] at hl32; simp at hl32)
      clear hx1 hn1
      refine hK _ _ ?_
      clear hK K
      try simp only [List.getElem_toArray, List.getElem_cons_succ, List.getElem_cons_zero, Act.put, List.setIfInBounds_toArray, List.set_cons_zero, List.set_cons_succ]
      refine wpAny_ready (rs := [3]) (by kernel_rfl) (by simp) ?_; refine AllReady.cons rfl (fun K hK => ?_) AllReady.nil; rw [if_pos (by rfl)]
      try simp only [List.getElem_toArray, List.getElem_cons_succ, List.getElem_cons_zero]
      have hq4 : RowAt w4 (w.heap.size + 1) .u8 32 23 (fun _ => 0) := (ho1.block _ HQ23.out.lt (by omega)).trans HQ23.out
      have hq5 : RowAt w4 w.heap.size .u8 32 23 (fun _ => 0) := (ho1.block _ HQ13.out.lt (by omega)).trans HQ13.out
      have hcp := run_copy_row (P := Tryz.prog) w4 26 26 3 5 (w.heap.size + 1) 0 32 32 ⟨ab, ao, none⟩ 32 c1 _ 23 (byteVals (ys.take 32)) Tryz.underlying26 (by kernel_rfl) hq4 (by rw [byteVals_length, hl32]; rfl) (fun j v hv => by
          rw [Addr.add_mid]
          simp only [byteVals, List.getElem?_map] at hv
          cases hj : (ys.take 32)[j]? with
          | none => rw [hj] at hv; cases hv
          | some x => rw [hj] at hv; cases hv; exact hx2 j x hj) (by rw [byteVals_length, hl32, rowOf_size]; omega) (byteVals_one _)
      rw [copied32 _ ys hs] at hcp
      have HQ2 : Hid (RowAt (w4.setRow (w.heap.size + 1) (rowOf .u8 32 (fun i => ys.getD i 0))) (w.heap.size + 1) .u8 32 23 (fun i => ys.getD i 0)) := Lib.hid (setRow_heap _ _ _ _ _ _ hq4)
      have HQ1 : Hid (RowAt (w4.setRow (w.heap.size + 1) (rowOf .u8 32 (fun i => ys.getD i 0))) w.heap.size .u8 32 23 (fun _ => 0)) := Lib.hid ((setRow_other _ _ _ _ (by omega)).trans hq5)
      have hne : ∀ g, w.heap.size ≤ g → ys.drop 32 ≠ [] → ∀ k, y1.ownBlock = some k → k ≠ g := fun g hg hn k hk => by
        rw [hy1] at hk
        have := H0.out.own_lt (by rintro rfl; simp at hn) k hk
        omega
      have HW := Lib.hid (show RAt (w4.setRow (w.heap.size + 1) (rowOf .u8 32 (fun i => ys.getD i 0))) p y1 (ys.drop 32) none from
        hr1.keep (setRow_other _ _ _ _ (by omega)) fun hn k hk => setRow_other _ _ _ _ (hne _ (Nat.le_succ _) hn k hk))
      have HO := Lib.hid ((HO3.out.trans ho1).behind (g := w.heap.size + 1) (Nat.le_succ _) (rowOf .u8 32 (fun i => ys.getD i 0)))
      refine wp_copy_at w4 (.tmp 19) (.tmp 21) 26 26 rfl rfl _ _ rfl rfl hcp ?_
      clear hcp hq4 hq5 hr1 ho1 hx2 HQ13 HQ23 HR3 HO3 ht
      generalize w4.setRow (w.heap.size + 1) (rowOf .u8 32 (fun i => ys.getD i 0)) = w5 at *
      refine hK _ _ ?_
      clear hK K
      try simp only [Act.put, List.setIfInBounds_toArray, List.set_cons_zero, List.set_cons_succ]
      refine wpAny_done (by kernel_rfl) ?_ _
      go_wp2_with (first
        | (refine wpList_load_row rfl 23 (.tmp 3) rfl (w.heap.size + 1) rfl 23 _ (0, 0) _ HQ2.out Tryz.underlying23 rfl (by rw [rowOf_size]; kernel_rfl) ?_)
        | (refine wpList_store_row rfl 23 (.tmp 2) (.tmp 23) rfl w.heap.size _ rfl rfl 23 _ HQ1.out (by rw [rowOf_size]; kernel_rfl) (by simp only [rowOf_size]) (rowOf_one _ _ _) ?_))
      refine bodyPost_ret (results_cell_row rfl _ _ w.heap.size 23 (rowOf .u8 32 (fun i => ys.getD i 0)) (0, 0) _ rfl (setRow_heap _ _ _ _ _ _ HQ1.out) Tryz.underlying23 rfl (by rw [rowOf_size]; kernel_rfl)) rfl ?_
      rw [HS.out]
      exact ⟨rfl, ⟨_, HW.out.keep (setRow_other _ _ _ _ (by omega)) fun hn k hk => setRow_other _ _ _ _ (hne _ (Nat.le_refl _) hn k hk), hy1⟩, HO.out.behind (Nat.le_refl _) _⟩
end Go.Proofs.YtilpohdidekenaaGreatDoor
