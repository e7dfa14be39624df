/- Part 17 of the proof. -/
import Derived.Maps.AppendAt
import Derived.Laws.BitsAllLaws
import Derived.Test.YtjnpcmfpiejmjaaGreatDoorVo1
import Derived.Test.YtjnpcmfpiejmjaaGreatDoorVo3
import Derived.Test.YtjnpcmfpiejmjaaGreatDoorVo5
import Derived.Test.YtjnpcmfpiejmjaaGreatDoorVo11
import Derived.Test.YtjnpcmfpiejmjaaGreatDoorVo13
import Derived.Test.YtjnpcmfpiejmjaaGreatDoorVo14
import Derived.Test.YtjnpcmfpiejmjaaGreatDoorVo16
namespace Go.Proofs.YtjnpcmfpiejmjaaGreatDoor
set_option linter.unusedVariables false
set_option linter.unusedSimpArgs false
open Go.RowKit
set_option maxRecDepth 100000
theorem flatC_get : ∀ (ps : List (Nat → Int)) (i j : Nat), i < ps.length → j < 32 → (flatC ps)[i * 32 + j]? = (rowOf .u8 32 (ps.getD i zeroH)).toList[j]?
  | [], i, j, h, _ => by simp at h
  | p :: ps, 0, j, _, hj => by
    show ((rowOf .u8 32 p).toList ++ flatC ps)[0 * 32 + j]? = _
    rw [Nat.zero_mul, Nat.zero_add, List.getElem?_append_left (by rw [(rowOf_list _ _ _).2]; exact hj)]; rfl
  | p :: ps, i + 1, j, h, hj => by
    show ((rowOf .u8 32 p).toList ++ flatC ps)[(i + 1) * 32 + j]? = _
    rw [List.getElem?_append_right (by rw [(rowOf_list _ _ _).2]; omega), (rowOf_list _ _ _).2, show (i + 1) * 32 + j - 32 = i * 32 + j by omega, flatC_get ps i j (by simpa using h) hj]; rfl
theorem HashesIn.of_own {w : World} {B : Nat} {r : Value} {ps : List (Nat → Int)} (h : w.ownsRow B 32 32 r ps.length (flatC ps)) : HashesIn w r ps := by
  rcases h.2 with ⟨rfl, h0⟩ | ⟨tb, cap, cur, rfl, _, hh, hc, hm, _⟩
  · exact ⟨none, 0, by rw [h0], by omega, by simp [maxLen], .inl (List.eq_nil_of_length_eq_zero h0)⟩
  · refine ⟨_, cap, rfl, hc, hm, .inr ⟨tb, 0, rfl, (Array.getElem?_eq_some_iff.1 hh).1, fun i hi j u hj => ?_⟩⟩
    have hj32 : j < 32 := by have := (List.getElem?_eq_some_iff.1 hj).1; rw [(rowOf_list _ _ _).2] at this; exact this
    have := h.cells (g := tb) rfl (i * 32 + j) u (by rw [flatC_get ps i j hi hj32]; exact hj)
    rw [Addr.add_mid] at this
    rw [show 0 + i * 32 + j = 0 + (i * 32 + j) by omega]; exact this
theorem HashesIn.len {w : World} {r : Value} {ps : List (Nat → Int)} (h : HashesIn w r ps) : ∃ a cap, r = .slice a ps.length cap := by
  obtain ⟨a, cap, e, _⟩ := h
  exact ⟨a, cap, e⟩
theorem flatC_length (ps : List (Nat → Int)) : (flatC ps).length = ps.length * 32 := by
  induction ps with
  | nil => rfl
  | cons p ps ih =>
    show ((rowOf .u8 32 p).toList ++ flatC ps).length = _
    rw [List.length_append, (rowOf_list _ _ _).2, ih, List.length_cons]; omega
theorem flatC_one (ps : List (Nat → Int)) : ∀ u ∈ flatC ps, u.oneCell' = true := by
  intro u hu
  simp only [flatC, List.mem_flatMap] at hu
  obtain ⟨p, _, hp⟩ := hu
  exact (Array.all_eq_true_iff_forall_mem.1 (rowOf_one _ _ _)) u (by simpa using hp)
/-- append of hashes to a slice of one's own -/
theorem run_append_hashes (w : World) (base : Nat) (v : Value) (n : Nat) (vs : List Value) (hown : w.ownsRow base 32 32 v n vs) (y : Value) (ps : List (Nat → Int)) (hy : HashesIn w y ps) (hl : (n + ps.length) * 32 ≤ 140737488355328) (hb : base ≤ w.heap.size) :
    ∃ v' w', (Builtin.append_ #[109, 109] 109 #[v, y]).run Tryz.prog w = .ok v' w' ∧ w'.ownsRow base 32 32 v' (n + ps.length) (vs ++ flatC ps) ∧ w.grownBy w' v.ownBlock := by
  obtain ⟨i0, hi, hz0, hz1, hz2⟩ := info_parts Tryz.info25
  obtain ⟨a, c, rfl, hc, hm, hx⟩ := hy
  rcases a with _ | ad
  · have hn : ps = [] := by
      rcases hx with hx | ⟨_, _, h, _⟩
      · exact hx
      · cases h
    subst hn
    refine ⟨v, w, ?_, by simpa [flatC] using hown, ⟨rfl, rfl, rfl, Nat.le_refl _, fun _ _ _ => rfl⟩⟩
    rcases hown.2 with ⟨rfl, rfl⟩ | ⟨g, cap, cur, rfl, _, _, hnc, _⟩
    · simp [Builtin.append_, run_underlying Tryz.underlying109, sizeOf, typeInfo, hi, Builtin.lenOf, Builtin.firstCells]
    · simp [Builtin.append_, run_underlying Tryz.underlying109, sizeOf, typeInfo, hi, Builtin.lenOf, Builtin.firstCells, hnc, storeCells]
  · have hcells : ∀ j u, (flatC ps)[j]? = some u → w.cell? (ad.add j) = some u := fun j u hu => by
      rcases hx with rfl | ⟨ab, ao, h, _, hx⟩
      · simp [flatC] at hu
      · injection h with h; subst h
        have hj : j < ps.length * 32 := by have := (List.getElem?_eq_some_iff.1 hu).1; rw [flatC_length] at this; exact this
        have e : j = j / 32 * 32 + j % 32 := by omega
        rw [e, flatC_get ps (j / 32) (j % 32) (by omega) (by omega)] at hu
        have := hx (j / 32) (by omega) (j % 32) u hu
        rw [Addr.add_mid, e, ← Nat.add_assoc]; exact this
    obtain ⟨v', w', hr, h1, h2, _, h4⟩ := run_append_own_at w base 109 109 32 i0 (.agg (rowOf .u8 32 (fun _ => 0))) 32 32 Tryz.underlying109 hi hz0 hz1 hz2 (by simp [Value.cells, rowOf_size]) (by decide) v n vs hown ad ps.length c (flatC ps) (flatC_length ps) hcells (flatC_one ps) (by unfold maxLen; omega) hl hb
    exact ⟨v', w', hr, h1, h2⟩
theorem wpList_append_hashes {w : World} {ops : Array Oper} {rest : List Oper} {o : Oper} {a : Act} {Q : Exit → Act → World → Prop} (hgd : o.guard = none) (s x : Operand)
    (ho : o.op = .call { callee := .builtin .append, args := #[s, x], argTypes := #[109, 109] }) (hty : o.type = 109)
    (base : Nat) (v : Value) (n : Nat) (vs : List Value) (hs : a.eval s = v) (hown : w.ownsRow base 32 32 v n vs) (y : Value) (ps : List (Nat → Int)) (hx : a.eval x = y) (hy : HashesIn w y ps) (hl : (n + ps.length) * 32 ≤ 140737488355328) (hb : base ≤ w.heap.size)
    (h : ∀ v' w', w'.ownsRow base 32 32 v' (n + ps.length) (vs ++ flatC ps) → w.grownBy w' v.ownBlock → wpList Tryz.prog ops Q rest (a.put o.dst v') w') : wpList Tryz.prog ops Q (o :: rest) a w := by
  refine wpList_plain hgd fun K hK => ?_
  obtain ⟨v', w', hr, h1, h2⟩ := run_append_hashes w base v n vs hown y ps hy hl hb
  unfold Oper.wp execOp
  simp only [ho, hty, resolve, invoke, builtin, Sem.run_bind, Sem.run_pure, Result.andThen_ok, List.map_toArray, List.map_cons, List.map_nil, hs, hx, hr]
  exact hK _ _ (h v' w' h1 h2)
theorem HashesIn.at {w : World} {a : Option Addr} {n cap : Nat} {ps : List (Nat → Int)} (h : HashesIn w (.slice a n cap) ps) (k : Nat) (hk : k < ps.length) : ∃ ab ao, a = some ⟨ab, ao, none⟩ ∧ ab < w.heap.size ∧ w.rangeAt ab (ao + k * 32) (rowOf .u8 32 (ps.getD k zeroH)).toList := by
  obtain ⟨a', cap', e, hc, hm, hx⟩ := h
  injection e with e1 e2 e3
  subst e1
  rcases hx with rfl | ⟨ab, ao, rfl, hlt, hx⟩
  · simp at hk
  · exact ⟨ab, ao, rfl, hlt, hx k hk⟩
end Go.Proofs.YtjnpcmfpiejmjaaGreatDoor
namespace Go.Proofs.YtjnpcmfpiejmjaaGreatDoor
set_option linter.unusedVariables false
set_option linter.unusedSimpArgs false
open Go.RowKit
set_option maxRecDepth 100000
theorem bytes_own_lt {w : World} {y : Value} {ys : List Int} (h : BytesIn w y ys) (hn : ys ≠ []) : ∀ k, y.ownBlock = some k → k < w.heap.size := by
  obtain ⟨a, c, rfl, _, _, hx⟩ := h
  rcases hx with hx | ⟨ab, ao, rfl, hx⟩
  · exact absurd hx hn
  · intro k hk
    cases ys with
    | nil => exact absurd rfl hn
    | cons x r =>
      have := World.block_lt_of_cell? w _ (hx 0 x rfl)
      have e : ab = k := by simpa [Value.ownBlock] using hk
      show k < w.heap.size
      rw [← e]; exact this
theorem wbytes_on (p B : Nat) (v y : Value) (xs ys : List Int) (w0 w : World) (hw : WAt w p v xs) (hy : BytesIn w y ys) (hlt : ys ≠ [] → ∀ k, y.ownBlock = some k → k < p) (hb : Below B w0 w) (hB : B ≤ p) (hl : xs.length + ys.length + 10 ≤ 140737488355328) :
    Calls Tryz.prog 143 #[.pointer (some ⟨p, 0, none⟩), y] w fun e w' => e = .returned (.pointer (some ⟨p, 0, none⟩)) ∧ ∃ v', WAt w' p v' (xs ++ (varint ys.length ++ ys)) ∧ Below B w0 w' :=
  (wbytes_any p v y xs ys w hw hy (fun hn => Apart.of_lt hw (hlt hn)) hl).mono fun _ _ h => wpost_on h hw hb hB
theorem wdone_new (p B : Nat) (v : Value) (xs : List Int) (w0 w : World) (hw : WAt w p v xs) (hb : Below B w0 w) (hB : B ≤ p) (hl : xs.length ≤ 140737488355328) :
    Calls Tryz.prog 82 #[.pointer (some ⟨p, 0, none⟩)] w fun e w' => ∃ v', e = .returned v' ∧ BytesIn w' v' xs ∧ (∀ j, v'.ownBlock = some j → B ≤ j) ∧ Below B w0 w' :=
  (done_any p v xs w hw hl).mono fun _ _ ⟨v', he, ho, hb'⟩ => ⟨v', he, owns_in ho (by unfold maxLen; omega), fun j hj => by have := (ho.lt j hj).1; have := hw.lt; omega, hb.trans (hb'.mono (by have := hw.lt; omega))⟩
/-- what lies in memory while a signature is encoded -/
structure EncM (w w' : World) (B : Nat) (leaf : Nat) (vo vp : Value) (once : List Int) (ps : List (Nat → Int)) : Prop where
  below : Below w.heap.size w w'
  sig : w'.heap[w.heap.size]? = some (.cells #[.int .i64 (leaf : Int), vo, vp] 198 (0, 0))
  once : BytesIn w' vo once
  path : HashesIn w' vp ps
  size : B ≤ w'.heap.size
  lo : w.heap.size < B
theorem EncM.call {w w' w2 : World} {B leaf : Nat} {vo vp : Value} {once : List Int} {ps : List (Nat → Int)} (m : EncM w w' B leaf vo vp once ps) (h : Below w'.heap.size w' w2) : EncM w w2 B leaf vo vp once ps :=
  ⟨m.below.trans (h.mono m.below.size), (h.block _ (Array.getElem?_eq_some_iff.1 m.sig).1).trans m.sig, m.once.below h, m.path.below h, Nat.le_trans m.size h.size, m.lo⟩
/-- a call that turns the Writer alone -/
theorem EncM.writ {w w' w2 wB : World} {leaf : Nat} {vo vp : Value} {once : List Int} {ps : List (Nat → Int)} (m : EncM w w' wB.heap.size leaf vo vp once ps) (mB : EncM w wB wB.heap.size leaf vo vp once ps) (h0 : Below wB.heap.size wB w') (h : Below wB.heap.size w' w2) : EncM w w2 wB.heap.size leaf vo vp once ps ∧ Below wB.heap.size wB w2 := by
  have hb := h0.trans h
  exact ⟨⟨m.below.trans (h.mono mB.below.size), (h.block _ mB.lo).trans m.sig, mB.once.below hb, mB.path.below hb, Nat.le_trans m.size h.size, mB.lo⟩, hb⟩
theorem sig_start (w : World) (leaf : Nat) (vo vp : Value) (once : List Int) (ps : List (Nat → Int)) (ho : BytesIn w vo once) (hp : HashesIn w vp ps) (B : Nat) (hB : B = w.heap.size + 1) :
    EncM w (w.alloc (.cells #[.int .i64 (leaf : Int), vo, vp] 198)) B leaf vo vp once ps :=
  ⟨below_alloc _ _, heap_alloc_new _ _, ho.below (below_alloc _ _), hp.below (below_alloc _ _), by simp [hB], by omega⟩
end Go.Proofs.YtjnpcmfpiejmjaaGreatDoor
namespace Go.Proofs.YtjnpcmfpiejmjaaGreatDoor
set_option linter.unusedVariables false
set_option linter.unusedSimpArgs false
open Go.RowKit
set_option maxRecDepth 100000
set_option maxRecDepth 100000 in
set_option maxHeartbeats 1000000 in
theorem rhash_own (p : Nat) (y : Value) (ys : List Int) (e : Option Nat) (w : World) (h : RAt w p y ys e) :
    Calls Tryz.prog 154 #[.pointer (some ⟨p, 0, none⟩)] w fun r w' => r = .returned (.agg (rowOf .u8 32 (hashS (ys, e)).1)) ∧ (∃ y', RAt w' p y' (hashS (ys, e)).2.1 (hashS (ys, e)).2.2 ∧ y'.ownBlock = y.ownBlock) ∧ Only p w w' := by
  have HB := Lib.hid ((below_alloc w (.cells (rowOf .u8 32 (fun _ => 0)) 32)).trans ((below_alloc (w.alloc (.cells (rowOf .u8 32 (fun _ => 0)) 32)) (.cells (rowOf .u8 32 (fun _ => 0)) 32)).mono (by simp)))
  have HR := h.below HB.out
  have HQ1 := (RowAt.new w .u8 32 32 (fun _ => 0)).alloc (.cells (rowOf .u8 32 (fun _ => 0)) 32)
  have HQ2 := RowAt.new (w.alloc (.cells (rowOf .u8 32 (fun _ => 0)) 32)) .u8 32 32 (fun _ => 0)
  rw [size_alloc] at HQ2
  have HP : p < w.heap.size := h.lt
  have H0 := Lib.hid h
  replace HR := Lib.hid HR
  replace HQ1 := Lib.hid HQ1
  replace HQ2 := Lib.hid HQ2
  clear h
  go_enter Tryz.func154, Tryz.ntmps154
  go_upto_region 2 with (fail)
  rw [zerosPk]
  generalize (w.alloc (.cells (rowOf .u8 32 (fun _ => 0)) 32)).alloc (.cells (rowOf .u8 32 (fun _ => 0)) 32) = w1 at *
  have HE := Lib.hid (err_any p y ys e w1 HR.out)
  have hc0 := HR.out.cell0
  have hc1 := HR.out.cell1
  have hf := HR.out.free 1
  obtain ⟨a, c, rfl, hle⟩ := HR.out.wide
  have HLE := Lib.hid hle
  clear hle
  cases e with
  | some x =>
    simp only [errV] at HE hc1
    go_wp2_with (first
      | (go_at_call 162; (with_reducible refine HE.out.mono ?_); rintro e w2 ⟨rfl, rfl⟩)
      | (refine wpList_load_row rfl 32 (.tmp 3) rfl (w.heap.size + 1) rfl 32 _ (0, 0) _ HQ2.out Tryz.underlying32 rfl (by rw [rowOf_size]; kernel_rfl) ?_)
      | (refine wpList_store_row rfl 32 (.tmp 2) (.tmp 7) rfl w.heap.size _ rfl rfl 32 _ HQ1.out (by rw [rowOf_size]; kernel_rfl) (by simp only [rowOf_size]) (rowOf_one _ _ _) ?_))
    refine bodyPost_ret (results_cell_row rfl _ _ w.heap.size 32 (rowOf .u8 32 (fun _ => 0)) (0, 0) _ rfl (setRow_heap _ _ _ _ _ _ HQ1.out) Tryz.underlying32 rfl (by rw [rowOf_size]; kernel_rfl)) rfl ?_
    rw [hashS_err]
    exact ⟨rfl, ⟨_, H0.out.below (below_setRow HB.out (Nat.le_refl _) _), rfl⟩, Only.of_below (below_setRow HB.out (Nat.le_refl _) _)⟩
  | none =>
    simp only [errV] at HE hc1
    by_cases hs : ys.length < 32
    · have HS := Lib.hid (hashS_short hs)
      have hs1 : (ys.length : Int) < 32 := by omega
      have HW := Lib.hid (HR.out.err (some 12))
      have HQ2' := Lib.hid (HQ2.out.other ⟨p, 1, none⟩ (errV (some 12)) (show w.heap.size + 1 ≠ p by omega))
      have HQ1' := Lib.hid (HQ1.out.other ⟨p, 1, none⟩ (errV (some 12)) (show w.heap.size ≠ p by omega))
      have HO := Lib.hid ((Only.of_below HB.out).trans (Only.setCell w1 ⟨p, 1, none⟩ (errV (some 12))))
      simp only [errV] at HW HQ1' HQ2' HO
      clear HQ1 HQ2
      go_wp2_with (first
        | (go_at_call 162; (with_reducible refine HE.out.mono ?_); rintro e w2 ⟨rfl, rfl⟩)
        | (refine wpList_load_row rfl 32 (.tmp 3) rfl (w.heap.size + 1) rfl 32 _ (0, 0) _ HQ2'.out Tryz.underlying32 rfl (by rw [rowOf_size]; kernel_rfl) ?_)
        | (refine wpList_store_row rfl 32 (.tmp 2) (.tmp 18) rfl w.heap.size _ rfl rfl 32 _ HQ1'.out (by rw [rowOf_size]; kernel_rfl) (by simp only [rowOf_size]) (rowOf_one _ _ _) ?_))
      refine bodyPost_ret (results_cell_row rfl _ _ w.heap.size 32 (rowOf .u8 32 (fun _ => 0)) (0, 0) _ rfl (setRow_heap _ _ _ _ _ _ HQ1'.out) Tryz.underlying32 rfl (by rw [rowOf_size]; kernel_rfl)) rfl ?_
      rw [HS.out]
      refine ⟨rfl, ⟨_, HW.out.keep (setRow_other _ _ _ _ (by omega)) fun hn k hk => setRow_other _ _ _ _ ?_, rfl⟩, HO.out.behind (Nat.le_refl _) _⟩
      have := H0.out.own_lt hn k hk; omega
    · have hs1 : ¬ (ys.length : Int) < 32 := by omega
      have HS := Lib.hid (hashS_long hs)
      go_upto_region 7 with (go_at_call 162; (with_reducible refine HE.out.mono ?_); rintro e w2 ⟨rfl, rfl⟩)
      obtain ⟨w3, hw3⟩ : ∃ w3, w3 = w2.drew := ⟨_, rfl⟩
      have HR3 := Lib.hid (show RAt w3 p (.slice a ys.length c) ys none by rw [hw3]; exact HR.out.keep rfl fun _ _ _ => rfl)
      have HQ13 := Lib.hid (show RowAt w3 w.heap.size .u8 32 32 (fun _ => 0) by rw [hw3]; exact HQ1.out)
      have HQ23 := Lib.hid (show RowAt w3 (w.heap.size + 1) .u8 32 32 (fun _ => 0) by rw [hw3]; exact HQ2.out)
      have HO3 := Lib.hid (show Only p w w3 by rw [hw3]; exact (Only.of_below HB.out).trans (Only.drew _ _))
      refine wp_region_any (by kernel_rfl) ?_
      change wpAny _ _ _ _ _ _ _ w2.drew
      rw [← hw3]
      clear hw3
      refine wpAny_take (i := 0) (v := .slice (some ⟨w.heap.size + 1, 0, none⟩) 32 32) rfl (by kernel_rfl) (by kernel_rfl) (by kernel_rfl) (fun _ _ _ h => h) (Or.inl ⟨by rfl, by intro w; go_simp⟩) ?_
      try simp only [List.getElem_toArray, List.getElem_cons_zero, Act.put, List.setIfInBounds_toArray, List.set_cons_zero, List.set_cons_succ]
      refine wpAny_take (i := 1) (v := .pointer (some ⟨p, 0, none⟩)) rfl (by kernel_rfl) (by kernel_rfl) (by kernel_rfl) (fun _ _ _ h => h) (Or.inl ⟨by rfl, by intro w; go_simp⟩) ?_
      try simp only [List.getElem_toArray, List.getElem_cons_succ, List.getElem_cons_zero, Act.put, List.setIfInBounds_toArray, List.set_cons_zero, List.set_cons_succ]
      refine wpAny_ready (rs := [2]) (by kernel_rfl) (by simp) ?_; refine AllReady.cons rfl (fun K hK => ?_) AllReady.nil; rw [if_pos (by rfl)]
      try simp only [List.getElem_toArray, List.getElem_cons_succ, List.getElem_cons_zero]
      go_simp
      have ht := take_any p _ ys none 32 w3 HR3.out (by omega)
      rw [show ((32 : Nat) : Int) = 32 from rfl] at ht
      refine ht.mono ?_
      rintro e w4 ⟨a1, c1, y1, rfl, hi1, hn1, hr1, ho1, hy1⟩
      have hl32 : (ys.take 32).length = 32 := by rw [List.length_take]; omega
      obtain ⟨a1', c1', e1, _, _, hx1⟩ := hi1
      rw [hl32] at e1
      injection e1 with e1 _ e3
      subst e1 e3
      obtain ⟨ab, ao, rfl, hx2⟩ := hx1.resolve_left (by intro h0; rw [h0] at hl32; simp at hl32)
      clear hx1 hn1
      refine hK _ _ ?_
      clear hK K
      try simp only [List.getElem_toArray, List.getElem_cons_succ, List.getElem_cons_zero, Act.put, List.setIfInBounds_toArray, List.set_cons_zero, List.set_cons_succ]
      refine wpAny_ready (rs := [3]) (by kernel_rfl) (by simp) ?_; refine AllReady.cons rfl (fun K hK => ?_) AllReady.nil; rw [if_pos (by rfl)]
      try simp only [List.getElem_toArray, List.getElem_cons_succ, List.getElem_cons_zero]
      have hq4 : RowAt w4 (w.heap.size + 1) .u8 32 32 (fun _ => 0) := (ho1.block _ HQ23.out.lt (by omega)).trans HQ23.out
      have hq5 : RowAt w4 w.heap.size .u8 32 32 (fun _ => 0) := (ho1.block _ HQ13.out.lt (by omega)).trans HQ13.out
      have hcp := run_copy_row (P := Tryz.prog) w4 23 23 3 5 (w.heap.size + 1) 0 32 32 ⟨ab, ao, none⟩ 32 c1 _ 32 (byteVals (ys.take 32)) Tryz.underlying23 (by kernel_rfl) hq4 (by rw [byteVals_length, hl32]; rfl) (fun j v hv => by
          rw [Addr.add_mid]
          simp only [byteVals, List.getElem?_map] at hv
          cases hj : (ys.take 32)[j]? with
          | none => rw [hj] at hv; cases hv
          | some x => rw [hj] at hv; cases hv; exact hx2 j x hj) (by rw [byteVals_length, hl32, rowOf_size]; omega) (byteVals_one _)
      rw [copied32 _ ys hs] at hcp
      have HQ2 : Hid (RowAt (w4.setRow (w.heap.size + 1) (rowOf .u8 32 (fun i => ys.getD i 0))) (w.heap.size + 1) .u8 32 32 (fun i => ys.getD i 0)) := Lib.hid (setRow_heap _ _ _ _ _ _ hq4)
      have HQ1 : Hid (RowAt (w4.setRow (w.heap.size + 1) (rowOf .u8 32 (fun i => ys.getD i 0))) w.heap.size .u8 32 32 (fun _ => 0)) := Lib.hid ((setRow_other _ _ _ _ (by omega)).trans hq5)
      have hne : ∀ g, w.heap.size ≤ g → ys.drop 32 ≠ [] → ∀ k, y1.ownBlock = some k → k ≠ g := fun g hg hn k hk => by
        rw [hy1] at hk
        have := H0.out.own_lt (by rintro rfl; simp at hn) k hk
        omega
      have HW := Lib.hid (show RAt (w4.setRow (w.heap.size + 1) (rowOf .u8 32 (fun i => ys.getD i 0))) p y1 (ys.drop 32) none from
        hr1.keep (setRow_other _ _ _ _ (by omega)) fun hn k hk => setRow_other _ _ _ _ (hne _ (Nat.le_succ _) hn k hk))
      have HO := Lib.hid ((HO3.out.trans ho1).behind (g := w.heap.size + 1) (Nat.le_succ _) (rowOf .u8 32 (fun i => ys.getD i 0)))
      refine wp_copy_at w4 (.tmp 19) (.tmp 21) 23 23 rfl rfl _ _ rfl rfl hcp ?_
      clear hcp hq4 hq5 hr1 ho1 hx2 HQ13 HQ23 HR3 HO3 ht
      generalize w4.setRow (w.heap.size + 1) (rowOf .u8 32 (fun i => ys.getD i 0)) = w5 at *
      refine hK _ _ ?_
      clear hK K
      try simp only [Act.put, List.setIfInBounds_toArray, List.set_cons_zero, List.set_cons_succ]
      refine wpAny_done (by kernel_rfl) ?_ _
      go_wp2_with (first
        | (refine wpList_load_row rfl 32 (.tmp 3) rfl (w.heap.size + 1) rfl 32 _ (0, 0) _ HQ2.out Tryz.underlying32 rfl (by rw [rowOf_size]; kernel_rfl) ?_)
        | (refine wpList_store_row rfl 32 (.tmp 2) (.tmp 23) rfl w.heap.size _ rfl rfl 32 _ HQ1.out (by rw [rowOf_size]; kernel_rfl) (by simp only [rowOf_size]) (rowOf_one _ _ _) ?_))
      refine bodyPost_ret (results_cell_row rfl _ _ w.heap.size 32 (rowOf .u8 32 (fun i => ys.getD i 0)) (0, 0) _ rfl (setRow_heap _ _ _ _ _ _ HQ1.out) Tryz.underlying32 rfl (by rw [rowOf_size]; kernel_rfl)) rfl ?_
      rw [HS.out]
      exact ⟨rfl, ⟨_, HW.out.keep (setRow_other _ _ _ _ (by omega)) fun hn k hk => setRow_other _ _ _ _ (hne _ (Nat.le_refl _) hn k hk), hy1⟩, HO.out.behind (Nat.le_refl _) _⟩
end Go.Proofs.YtjnpcmfpiejmjaaGreatDoor
namespace Go.Proofs.YtjnpcmfpiejmjaaGreatDoor
set_option linter.unusedVariables false
set_option linter.unusedSimpArgs false
def tabL : List Nat := [0, 498536548, 997073096, 651767980, 1994146192, 1802195444, 1303535960, 1342533948, 3988292384, 4027552580, 3604390888, 3412177804, 2607071920, 2262029012, 2685067896, 3183342108]
def tabN (i : Nat) : Nat := tabL.getD i 0
theorem tabN_lt (i : Nat) (h : i < 16) : tabN i < 4294967296 := by
  have : ∀ i : Fin 16, tabN i.val < 4294967296 := by decide
  exact this ⟨i, h⟩
theorem tabN_top (i j : Nat) (hi : i < 16) (hj : j < 16) (h : tabN i / 268435456 = tabN j / 268435456) : i = j := by
  have : ∀ i j : Fin 16, tabN i.val / 268435456 = tabN j.val / 268435456 → i.val = j.val := by decide
  exact this ⟨i, hi⟩ ⟨j, hj⟩ h
/-- four bits -/
def nib (r : Nat) : Nat := r / 16 ^^^ tabN (r % 16)
/-- a byte -/
def byteS (r x : Nat) : Nat := nib (nib (r ^^^ x))
theorem xor_lt32 {a b : Nat} (ha : a < 4294967296) (hb : b < 4294967296) : a ^^^ b < 4294967296 := Nat.xor_lt_two_pow (n := 32) ha hb
theorem nib_lt {r : Nat} (h : r < 4294967296) : nib r < 4294967296 := xor_lt32 (by omega) (tabN_lt _ (by omega))
theorem byteS_lt {r x : Nat} (h : r < 4294967296) (hx : x < 256) : byteS r x < 4294967296 := nib_lt (nib_lt (xor_lt32 h (by omega)))
theorem xor_top (a t : Nat) (ha : a < 268435456) : (a ^^^ t) / 268435456 = t / 268435456 := by
  have h := Nat.shiftRight_xor_distrib (a := a) (b := t) (i := 28)
  simp only [Nat.shiftRight_eq_div_pow] at h
  rw [show (2 : Nat) ^ 28 = 268435456 from rfl, Nat.div_eq_of_lt ha, Nat.zero_xor] at h
  exact h
theorem xor_cancel {a b t : Nat} (h : a ^^^ t = b ^^^ t) : a = b := by
  have := congrArg (· ^^^ t) h
  simpa [Nat.xor_assoc] using this
theorem xor_cancel_l {a b t : Nat} (h : t ^^^ a = t ^^^ b) : a = b := by
  rw [Nat.xor_comm t a, Nat.xor_comm t b] at h
  exact xor_cancel h
theorem nib_inj {a b : Nat} (ha : a < 4294967296) (hb : b < 4294967296) (h : nib a = nib b) : a = b := by
  have h1 : tabN (a % 16) / 268435456 = tabN (b % 16) / 268435456 := by
    rw [← xor_top (a / 16) _ (by omega), ← xor_top (b / 16) (tabN (b % 16)) (by omega)]
    exact congrArg (· / 268435456) h
  have h2 := tabN_top _ _ (by omega) (by omega) h1
  unfold nib at h
  rw [h2] at h
  have h3 := xor_cancel h
  omega
theorem byteS_inj_r {a b x : Nat} (ha : a < 4294967296) (hb : b < 4294967296) (hx : x < 256) (h : byteS a x = byteS b x) : a = b :=
  xor_cancel (nib_inj (xor_lt32 ha (by omega)) (xor_lt32 hb (by omega)) (nib_inj (nib_lt (xor_lt32 ha (by omega))) (nib_lt (xor_lt32 hb (by omega))) h))
theorem byteS_inj_x {r x y : Nat} (hr : r < 4294967296) (hx : x < 256) (hy : y < 256) (h : byteS r x = byteS r y) : x = y :=
  xor_cancel_l (nib_inj (xor_lt32 hr (by omega)) (xor_lt32 hr (by omega)) (nib_inj (nib_lt (xor_lt32 hr (by omega))) (nib_lt (xor_lt32 hr (by omega))) h))
theorem bytesOk_nil : bytesOk [] := fun _ h => by cases h
theorem bytesOk.cons {x : Int} {xs : List Int} (h : bytesOk (x :: xs)) : (0 ≤ x ∧ x < 256) ∧ bytesOk xs := ⟨h x (by simp), fun y hy => h y (by simp [hy])⟩
theorem bytesOk.append {xs ys : List Int} (h1 : bytesOk xs) (h2 : bytesOk ys) : bytesOk (xs ++ ys) := fun x hx => by
  rcases List.mem_append.1 hx with h | h
  · exact h1 x h
  · exact h2 x h
theorem bytesOk.take {xs : List Int} (h : bytesOk xs) (n : Nat) : bytesOk (xs.take n) := fun x hx => h x (List.mem_of_mem_take hx)
theorem bytesOk.drop {xs : List Int} (h : bytesOk xs) (n : Nat) : bytesOk (xs.drop n) := fun x hx => h x (List.mem_of_mem_drop hx)
theorem bytesOk.set {xs : List Int} (h : bytesOk xs) (i : Nat) (y : Int) (hy : 0 ≤ y ∧ y < 256) : bytesOk (xs.set i y) := fun x hx => by
  rcases List.mem_or_eq_of_mem_set hx with h1 | h1
  · exact h x h1
  · rw [h1]; exact hy
/-- the register behind xs -/
def regF (r : Nat) : List Int → Nat
  | [] => r
  | x :: xs => regF (byteS r x.toNat) xs
theorem regF_lt : ∀ (xs : List Int) (r : Nat), r < 4294967296 → bytesOk xs → regF r xs < 4294967296
  | [], _, h, _ => h
  | _ :: xs, _, h, ho => regF_lt xs _ (byteS_lt h (by have := ho.cons.1; omega)) ho.cons.2
theorem regF_append : ∀ (xs ys : List Int) (r : Nat), regF r (xs ++ ys) = regF (regF r xs) ys
  | [], _, _ => rfl
  | _ :: xs, ys, _ => regF_append xs ys _
theorem regF_inj : ∀ (xs : List Int) (a b : Nat), a < 4294967296 → b < 4294967296 → bytesOk xs → regF a xs = regF b xs → a = b
  | [], _, _, _, _, _, h => h
  | x :: xs, a, b, ha, hb, ho, h => by
    have hx := ho.cons.1
    have hx' : x.toNat < 256 := by omega
    exact byteS_inj_r ha hb hx' (regF_inj xs _ _ (byteS_lt ha hx') (byteS_lt hb hx') ho.cons.2 h)
/-- the checksum -/
def crcF (xs : List Int) : Nat := 4294967295 ^^^ regF 4294967295 xs
theorem crcF_lt {xs : List Int} (h : bytesOk xs) : crcF xs < 4294967296 := xor_lt32 (by decide) (regF_lt xs _ (by decide) h)
theorem set_split (xs : List Int) (i : Nat) (h : i < xs.length) (y : Int) : xs.set i y = xs.take i ++ y :: xs.drop (i + 1) := List.set_eq_take_append_cons_drop.trans (if_pos h)
theorem get_split (xs : List Int) (i : Nat) (x : Int) (h : xs[i]? = some x) : xs = xs.take i ++ x :: xs.drop (i + 1) := by
  obtain ⟨hl, hx⟩ := List.getElem?_eq_some_iff.1 h
  have := List.take_append_drop i xs
  rw [List.drop_eq_getElem_cons hl, hx] at this
  exact this.symm
/-- another byte makes another checksum -/
theorem crcF_set {xs : List Int} (ho : bytesOk xs) (i : Nat) (x y : Int) (hx : xs[i]? = some x) (hy : 0 ≤ y ∧ y < 256) (hne : x ≠ y) : crcF (xs.set i y) ≠ crcF xs := by
  have hl : i < xs.length := (List.getElem?_eq_some_iff.1 hx).1
  have hxo : 0 ≤ x ∧ x < 256 := ho x (List.mem_of_getElem? hx)
  intro h
  have h1 := xor_cancel_l h
  rw [set_split xs i hl y] at h1
  rw [get_split xs i x hx] at h1
  have hlen : (xs.take i).length = i := by rw [List.length_take]; omega
  have e1 : (xs.take i ++ x :: xs.drop (i + 1)).take i = xs.take i := by rw [List.take_append_of_le_length (by omega), List.take_of_length_le (by omega)]
  have e2 : (xs.take i ++ x :: xs.drop (i + 1)).drop (i + 1) = xs.drop (i + 1) := by
    rw [List.drop_append, hlen, show i + 1 - i = 1 by omega, List.drop_of_length_le (by omega)]; rfl
  rw [e1, e2, regF_append, regF_append] at h1
  have hr : regF 4294967295 (xs.take i) < 4294967296 := regF_lt _ _ (by decide) (ho.take i)
  have h2 := regF_inj (xs.drop (i + 1)) _ _ (byteS_lt hr (by omega)) (byteS_lt hr (by omega)) (ho.drop _) h1
  have h3 := byteS_inj_x hr (by omega) (by omega) h2
  omega
/-- a number as four bytes -/
def wordL (n : Nat) : List Int := [((n / 16777216 % 256 : Nat) : Int), ((n / 65536 % 256 : Nat) : Int), ((n / 256 % 256 : Nat) : Int), ((n % 256 : Nat) : Int)]
theorem wordL_length (n : Nat) : (wordL n).length = 4 := rfl
theorem wordL_ok (n : Nat) : bytesOk (wordL n) := fun x hx => by
  simp only [wordL, List.mem_cons, List.not_mem_nil, or_false] at hx
  omega
/-- four bytes as a number -/
def rdW (xs : List Int) : Nat := (xs.getD 0 0).toNat * 16777216 + (xs.getD 1 0).toNat * 65536 + (xs.getD 2 0).toNat * 256 + (xs.getD 3 0).toNat
theorem four_sum (n : Nat) (h : n < 4294967296) : n / 16777216 % 256 * 16777216 + n / 65536 % 256 * 65536 + n / 256 % 256 * 256 + n % 256 = n := by omega
theorem rdW_wordL (n : Nat) (h : n < 4294967296) (ys : List Int) : rdW (wordL n ++ ys) = n := by
  simp only [rdW, wordL, List.cons_append, List.nil_append, List.getD_cons_zero, List.getD_cons_succ, Int.toNat_natCast]
  exact four_sum n h
theorem rdW_lt {xs : List Int} (h : bytesOk xs) : rdW xs < 4294967296 := by
  have hg : ∀ i, (xs.getD i 0).toNat < 256 := fun i => by
    rcases Nat.lt_or_ge i xs.length with hi | hi
    · have := h _ (List.getElem_mem hi)
      simp only [List.getD, List.getElem?_eq_getElem hi, Option.getD_some]
      omega
    · simp [List.getD, List.getElem?_eq_none hi]
  have h0 := hg 0
  have h1 := hg 1
  have h2 := hg 2
  have h3 := hg 3
  unfold rdW
  generalize (xs.getD 0 0).toNat = a at *
  generalize (xs.getD 1 0).toNat = b at *
  generalize (xs.getD 2 0).toNat = c at *
  generalize (xs.getD 3 0).toNat = d at *
  omega
theorem list4 (xs : List Int) (h : xs.length = 4) : ∃ a b c d, xs = [a, b, c, d] := by
  rcases xs with _ | ⟨a, _ | ⟨b, _ | ⟨c, _ | ⟨d, _ | ⟨e, l⟩⟩⟩⟩⟩
  · simp at h
  · simp at h
  · simp at h
  · simp at h
  · exact ⟨a, b, c, d, rfl⟩
  · simp at h
theorem four_inj (a b c d a' b' c' d' : Int) (h1 : 0 ≤ a ∧ a < 256) (h2 : 0 ≤ b ∧ b < 256) (h3 : 0 ≤ c ∧ c < 256) (h4 : 0 ≤ d ∧ d < 256) (h5 : 0 ≤ a' ∧ a' < 256) (h6 : 0 ≤ b' ∧ b' < 256) (h7 : 0 ≤ c' ∧ c' < 256) (h8 : 0 ≤ d' ∧ d' < 256)
    (h : a.toNat * 16777216 + b.toNat * 65536 + c.toNat * 256 + d.toNat = a'.toNat * 16777216 + b'.toNat * 65536 + c'.toNat * 256 + d'.toNat) : a = a' ∧ b = b' ∧ c = c' ∧ d = d' := by omega
/-- the same four bytes, if the numbers are the same -/
theorem rdW_inj {xs ys : List Int} (hx : bytesOk xs) (hy : bytesOk ys) (lx : xs.length = 4) (ly : ys.length = 4) (h : rdW xs = rdW ys) : xs = ys := by
  obtain ⟨a, b, c, d, rfl⟩ := list4 xs lx
  obtain ⟨a', b', c', d', rfl⟩ := list4 ys ly
  obtain ⟨e1, e2, e3, e4⟩ := four_inj a b c d a' b' c' d' (hx a (by simp)) (hx b (by simp)) (hx c (by simp)) (hx d (by simp)) (hy a' (by simp)) (hy b' (by simp)) (hy c' (by simp)) (hy d' (by simp)) h
  rw [e1, e2, e3, e4]
/-- the record of p -/
def recF (p : List Int) : List Int := wordL p.length ++ wordL (crcF (wordL p.length)) ++ p ++ wordL (crcF p)
theorem recF_length (p : List Int) : (recF p).length = p.length + 12 := by simp [recF, wordL_length]; omega
theorem recF_ok {p : List Int} (h : bytesOk p) : bytesOk (recF p) := (((wordL_ok _).append (wordL_ok _)).append h).append (wordL_ok _)
/-- what bytes begin with: an error, or a payload -/
def oneF (b : List Int) : Option Nat × List Int :=
  if b.length = 0 then (some 8, [])
  else if b.length < 8 then (some 12, [])
  else if rdW (b.drop 4) ≠ crcF (b.take 4) ∨ rdW b = 0 ∨ 1048576 < rdW b then (some 11, [])
  else if b.length < rdW b + 12 then (some 12, [])
  else if rdW (b.drop (rdW b + 8)) ≠ crcF ((b.take (rdW b + 8)).drop 8) then (some 11, [])
  else (none, (b.take (rdW b + 8)).drop 8)
/-- a record is read as its payload -/
theorem oneF_rec (p r : List Int) (hp : bytesOk p) (h1 : p.length ≠ 0) (h2 : p.length ≤ 1048576) : oneF (recF p ++ r) = (none, p) := by
  have hl : (recF p ++ r).length = p.length + 12 + r.length := by rw [List.length_append, recF_length]
  have e0 : recF p ++ r = wordL p.length ++ (wordL (crcF (wordL p.length)) ++ (p ++ (wordL (crcF p) ++ r))) := by simp [recF]
  have e1 : rdW (recF p ++ r) = p.length := by rw [e0]; exact rdW_wordL _ (by omega) _
  have e2 : (recF p ++ r).take 4 = wordL p.length := by rw [e0, List.take_append_of_le_length (by rw [wordL_length]; omega), List.take_of_length_le (by rw [wordL_length]; omega)]
  have e3 : rdW ((recF p ++ r).drop 4) = crcF (wordL p.length) := by
    rw [e0, List.drop_append, wordL_length, Nat.sub_self, List.drop_of_length_le (by rw [wordL_length]; omega), List.nil_append, List.drop_zero]
    exact rdW_wordL _ (crcF_lt (wordL_ok _)) _
  have e4 : (recF p ++ r).drop 8 = p ++ (wordL (crcF p) ++ r) := by
    rw [e0, ← List.append_assoc, List.drop_append, List.length_append, wordL_length, wordL_length, List.drop_of_length_le (by simp [wordL_length])]; simp
  have e5 : ((recF p ++ r).take (p.length + 8)).drop 8 = p := by
    rw [List.drop_take, e4, Nat.add_sub_cancel, List.take_append_of_le_length (by omega), List.take_of_length_le (by omega)]
  have e6 : rdW ((recF p ++ r).drop (p.length + 8)) = crcF p := by
    rw [Nat.add_comm, ← List.drop_drop, e4, List.drop_append, Nat.sub_self, List.drop_of_length_le (by omega), List.nil_append, List.drop_zero]
    exact rdW_wordL _ (crcF_lt hp) _
  unfold oneF
  rw [if_neg (by omega), if_neg (by omega), e1, e2, e3, if_neg (by omega), if_neg (by omega), e5, e6, if_neg (by simp)]
end Go.Proofs.YtjnpcmfpiejmjaaGreatDoor
namespace Go.Proofs.YtjnpcmfpiejmjaaGreatDoor
set_option linter.unusedVariables false
set_option linter.unusedSimpArgs false
open Go.RowKit
set_option maxRecDepth 100000
theorem BytesIn.cell {w : World} {a : Option Addr} {n cap : Nat} {xs : List Int} (h : BytesIn w (.slice a n cap) xs) : n = xs.length ∧ (xs = [] ∨ ∃ ab ao, a = some ⟨ab, ao, none⟩ ∧ ∀ i x, xs[i]? = some x → w.cell? ⟨ab, ao + i, none⟩ = some (.int .u8 x)) := by
  obtain ⟨a', c', e, _, _, hx⟩ := h
  injection e with e1 e2 e3
  subst e1 e2
  exact ⟨rfl, hx⟩
theorem regF_snoc (r : Nat) (xs : List Int) (x : Int) : regF r (xs ++ [x]) = byteS (regF r xs) x.toNat := by rw [regF_append]; rfl
theorem take_snoc {xs : List Int} {k : Nat} {x : Int} (h : xs[k]? = some x) : xs.take (k + 1) = xs.take k ++ [x] := by
  rw [List.take_add_one, h]; rfl
theorem nib_and (m : Nat) (h : m < 4294967296) : bits .and .u32 (m : Int) 15 = ((m % 16 : Nat) : Int) := by
  have := u32_and_nat m 15 h (by decide)
  rw [show m &&& 15 = m % 16 from Nat.and_two_pow_sub_one_eq_mod m 4] at this
  exact this
theorem nib_not (m : Nat) (h : m < 4294967296) : bits .xor .u32 IntKind.u32.max (m : Int) = ((4294967295 ^^^ m : Nat) : Int) := u32_xor_nat 4294967295 m (by decide) h
end Go.Proofs.YtjnpcmfpiejmjaaGreatDoor
