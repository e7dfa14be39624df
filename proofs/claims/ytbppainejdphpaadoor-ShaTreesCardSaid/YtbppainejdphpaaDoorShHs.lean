/- Slices of hashes of one's own: as hashes; append to none; two that are the same. -/
import Derived.Test.YtbppainejdphpaaDoorShSib
import Derived.Test.YtbppainejdphpaaDoorEq32
import Derived.Maps.AppendAt
namespace Go.Proofs.YtbppainejdphpaaDoor
open Go.RowKit
set_option maxRecDepth 100000
theorem flatC_get : ∀ (ps : List (Nat → Int)) (i j : Nat), i < ps.length → j < 32 → (flatC ps)[i * 32 + j]? = (rowOf .u8 32 (ps.getD i zeroH)).toList[j]?
  | [], i, j, h, _ => by simp at h
  | p :: ps, 0, j, _, hj => by
    show ((rowOf .u8 32 p).toList ++ flatC ps)[0 * 32 + j]? = _
    rw [Nat.zero_mul, Nat.zero_add, List.getElem?_append_left (by rw [(rowOf_list _ _ _).2]; exact hj)]; rfl
  | p :: ps, i + 1, j, h, hj => by
    show ((rowOf .u8 32 p).toList ++ flatC ps)[(i + 1) * 32 + j]? = _
    rw [List.getElem?_append_right (by rw [(rowOf_list _ _ _).2]; omega), (rowOf_list _ _ _).2, show (i + 1) * 32 + j - 32 = i * 32 + j by omega, flatC_get ps i j (by simpa using h) hj]; rfl
theorem HashesIn.of_own {w : World} {B : Nat} {r : Value} {ps : List (Nat → Int)} (h : w.ownsRow B 25 32 r ps.length (flatC ps)) : HashesIn w r ps := by
  rcases h.2 with ⟨rfl, h0⟩ | ⟨tb, cap, cur, rfl, _, hh, hc, hm, _⟩
  · exact ⟨none, 0, by rw [h0], by omega, by simp [maxLen], .inl (List.eq_nil_of_length_eq_zero h0)⟩
  · refine ⟨_, cap, rfl, hc, hm, .inr ⟨tb, 0, rfl, (Array.getElem?_eq_some_iff.1 hh).1, fun i hi j u hj => ?_⟩⟩
    have hj32 : j < 32 := by have := (List.getElem?_eq_some_iff.1 hj).1; rw [(rowOf_list _ _ _).2] at this; exact this
    have := h.cells (g := tb) rfl (i * 32 + j) u (by rw [flatC_get ps i j hi hj32]; exact hj)
    rw [Addr.add_mid] at this
    rw [show 0 + i * 32 + j = 0 + (i * 32 + j) by omega]; exact this
theorem HashesIn.len {w : World} {r : Value} {ps : List (Nat → Int)} (h : HashesIn w r ps) : ∃ a cap, r = .slice a ps.length cap := by
  obtain ⟨a, cap, e, _⟩ := h
  exact ⟨a, cap, e⟩
theorem flatC_length (ps : List (Nat → Int)) : (flatC ps).length = ps.length * 32 := by
  induction ps with
  | nil => rfl
  | cons p ps ih =>
    show ((rowOf .u8 32 p).toList ++ flatC ps).length = _
    rw [List.length_append, (rowOf_list _ _ _).2, ih, List.length_cons]; omega
theorem flatC_one (ps : List (Nat → Int)) : ∀ u ∈ flatC ps, u.oneCell' = true := by
  intro u hu
  simp only [flatC, List.mem_flatMap] at hu
  obtain ⟨p, _, hp⟩ := hu
  exact (Array.all_eq_true_iff_forall_mem.1 (rowOf_one _ _ _)) u (by simpa using hp)
/-- append of hashes to a slice of one's own -/
theorem run_append_hashes (w : World) (base : Nat) (v : Value) (n : Nat) (vs : List Value) (hown : w.ownsRow base 25 32 v n vs) (y : Value) (ps : List (Nat → Int)) (hy : HashesIn w y ps) (hl : (n + ps.length) * 32 ≤ 140737488355328) (hb : base ≤ w.heap.size) :
    ∃ v' w', (Builtin.append_ #[43, 43] 43 #[v, y]).run Tryd.prog w = .ok v' w' ∧ w'.ownsRow base 25 32 v' (n + ps.length) (vs ++ flatC ps) ∧ w.grownBy w' v.ownBlock := by
  obtain ⟨i0, hi, hz0, hz1, hz2⟩ := info_parts Tryd.info25
  obtain ⟨a, c, rfl, hc, hm, hx⟩ := hy
  rcases a with _ | ad
  · have hn : ps = [] := by
      rcases hx with hx | ⟨_, _, h, _⟩
      · exact hx
      · cases h
    subst hn
    refine ⟨v, w, ?_, by simpa [flatC] using hown, ⟨rfl, rfl, rfl, Nat.le_refl _, fun _ _ _ => rfl⟩⟩
    rcases hown.2 with ⟨rfl, rfl⟩ | ⟨g, cap, cur, rfl, _, _, hnc, _⟩
    · simp [Builtin.append_, run_underlying Tryd.underlying43, sizeOf, typeInfo, hi, Builtin.lenOf, Builtin.firstCells]
    · simp [Builtin.append_, run_underlying Tryd.underlying43, sizeOf, typeInfo, hi, Builtin.lenOf, Builtin.firstCells, hnc, storeCells]
  · have hcells : ∀ j u, (flatC ps)[j]? = some u → w.cell? (ad.add j) = some u := fun j u hu => by
      rcases hx with rfl | ⟨ab, ao, h, _, hx⟩
      · simp [flatC] at hu
      · injection h with h; subst h
        have hj : j < ps.length * 32 := by have := (List.getElem?_eq_some_iff.1 hu).1; rw [flatC_length] at this; exact this
        have e : j = j / 32 * 32 + j % 32 := by omega
        rw [e, flatC_get ps (j / 32) (j % 32) (by omega) (by omega)] at hu
        have := hx (j / 32) (by omega) (j % 32) u hu
        rw [Addr.add_mid, e, ← Nat.add_assoc]; exact this
    obtain ⟨v', w', hr, h1, h2, _, h4⟩ := run_append_own_at w base 43 43 25 i0 (.agg (rowOf .u8 32 (fun _ => 0))) 32 32 Tryd.underlying43 hi hz0 hz1 hz2 (by simp [Value.cells, rowOf_size]) (by decide) v n vs hown ad ps.length c (flatC ps) (flatC_length ps) hcells (flatC_one ps) (by unfold maxLen; omega) hl hb
    exact ⟨v', w', hr, h1, h2⟩
theorem wpList_append_hashes {w : World} {ops : Array Oper} {rest : List Oper} {o : Oper} {a : Act} {Q : Exit → Act → World → Prop} (hgd : o.guard = none) (s x : Operand)
    (ho : o.op = .call { callee := .builtin .append, args := #[s, x], argTypes := #[43, 43] }) (hty : o.type = 43)
    (base : Nat) (v : Value) (n : Nat) (vs : List Value) (hs : a.eval s = v) (hown : w.ownsRow base 25 32 v n vs) (y : Value) (ps : List (Nat → Int)) (hx : a.eval x = y) (hy : HashesIn w y ps) (hl : (n + ps.length) * 32 ≤ 140737488355328) (hb : base ≤ w.heap.size)
    (h : ∀ v' w', w'.ownsRow base 25 32 v' (n + ps.length) (vs ++ flatC ps) → w.grownBy w' v.ownBlock → wpList Tryd.prog ops Q rest (a.put o.dst v') w') : wpList Tryd.prog ops Q (o :: rest) a w := by
  refine wpList_plain hgd fun K hK => ?_
  obtain ⟨v', w', hr, h1, h2⟩ := run_append_hashes w base v n vs hown y ps hy hl hb
  unfold Oper.wp execOp
  simp only [ho, hty, resolve, invoke, builtin, Sem.run_bind, Sem.run_pure, Result.andThen_ok, List.map_toArray, List.map_cons, List.map_nil, hs, hx, hr]
  exact hK _ _ (h v' w' h1 h2)
theorem HashesIn.at {w : World} {a : Option Addr} {n cap : Nat} {ps : List (Nat → Int)} (h : HashesIn w (.slice a n cap) ps) (k : Nat) (hk : k < ps.length) : ∃ ab ao, a = some ⟨ab, ao, none⟩ ∧ ab < w.heap.size ∧ w.rangeAt ab (ao + k * 32) (rowOf .u8 32 (ps.getD k zeroH)).toList := by
  obtain ⟨a', cap', e, hc, hm, hx⟩ := h
  injection e with e1 e2 e3
  subst e1
  rcases hx with rfl | ⟨ab, ao, rfl, hlt, hx⟩
  · simp at hk
  · exact ⟨ab, ao, rfl, hlt, hx k hk⟩
set_option maxHeartbeats 1000000 in
theorem lhashes_any (va vb : Value) (ps : List (Nat → Int)) (w : World) (ha : HashesIn w va ps) (hb : HashesIn w vb ps) (hl : ps.length ≤ 9223372036854775807) : Calls Tryd.prog 28 #[va, vb] w fun e w' => e = .returned (.bool true) ∧ Below w.heap.size w w' := by
  have HA := Lib.hid ha
  have HB := Lib.hid hb
  obtain ⟨a, c, rfl, -⟩ := ha
  obtain ⟨b, d, rfl, -⟩ := hb
  go_enter Tryd.func28, Tryd.ntmps28
  go_wp2_with (fail)
  go_loopw [5] (fun i wr => ∃ k : Nat, k ≤ ps.length ∧ i = .int .i64 k ∧ Hid (Below w.heap.size w wr)) (fun i _ => ps.length - (intOf i).toNat)
  case atStart => exact ⟨0, by omega, rfl, Lib.hid (Below.refl _ _)⟩
  case round =>
    obtain ⟨k, hk, rfl, HW⟩ := hrel
    by_cases hlt : k < ps.length
    · have hltI : (k : Int) < ps.length := by omega
      obtain ⟨ab, ao, rfl, hal, har⟩ := HA.out.at k hlt
      obtain ⟨bb, bo, rfl, hbl, hbr⟩ := HB.out.at k hlt
      have M := Lib.hid (show World.rangeAt wr ab (ao + k * 32) (rowOf .u8 32 (ps.getD k zeroH)).toList ∧ World.rangeAt wr bb (bo + k * 32) (rowOf .u8 32 (ps.getD k zeroH)).toList from ⟨rangeAt_below har HW.out hal, rangeAt_below hbr HW.out hbl⟩)
      obtain ⟨p, hp⟩ : ∃ p, p = ps.getD k zeroH := ⟨_, rfl⟩
      rw [← hp] at M
      clear hp har hbr hal hbl
      go_wp2_with (fail)
      refine wp_region_T (fun w' => w'.rangeAt ab (ao + k * 32) (rowOf .u8 32 p).toList ∧ w'.rangeAt bb (bo + k * 32) (rowOf .u8 32 p).toList) [3, 7] (by kernel_rfl) ?_
      replace M := Lib.hid (show World.rangeAt wr.drew ab (ao + k * 32) (rowOf .u8 32 p).toList ∧ World.rangeAt wr.drew bb (bo + k * 32) (rowOf .u8 32 p).toList from M.out)
      replace HW := Lib.hid (HW.out.drew)
      generalize wr.drew = w2 at *
      refine anyT_takeY (i := 0) (v := .slice (some ⟨ab, ao, none⟩) ps.length c) rfl (by kernel_rfl) (by kernel_rfl) (by kernel_rfl) (fun _ _ _ h => h) (by kernel_rfl) (Or.inl ⟨by rfl, by intro w; go_simp⟩) ?_
      try simp only [List.getElem_toArray, List.getElem_cons_succ, List.getElem_cons_zero, Act.put, List.setIfInBounds_toArray, List.set_cons_zero, List.set_cons_succ]
      refine anyT_takeY (i := 1) (v := .int .i64 (k : Int)) rfl (by kernel_rfl) (by kernel_rfl) (by kernel_rfl) (fun _ _ _ h => h) (by kernel_rfl) (Or.inl ⟨by rfl, by intro w; go_simp⟩) ?_
      try simp only [List.getElem_toArray, List.getElem_cons_succ, List.getElem_cons_zero, Act.put, List.setIfInBounds_toArray, List.set_cons_zero, List.set_cons_succ]
      refine anyT_takeY (i := 2) (v := .pointer (some ⟨ab, ao + k * 32, none⟩)) rfl (by kernel_rfl) (by kernel_rfl) (by kernel_rfl) (fun _ _ _ h => h) (by kernel_rfl) (Or.inl ⟨by rfl, by intro w; go_simp⟩) ?_
      try simp only [List.getElem_toArray, List.getElem_cons_succ, List.getElem_cons_zero, Act.put, List.setIfInBounds_toArray, List.set_cons_zero, List.set_cons_succ]
      refine anyT_takeY (i := 4) (v := .slice (some ⟨bb, bo, none⟩) ps.length d) rfl (by kernel_rfl) (by kernel_rfl) (by kernel_rfl) (fun _ _ _ h => h) (by kernel_rfl) (Or.inl ⟨by rfl, by intro w; go_simp⟩) ?_
      try simp only [List.getElem_toArray, List.getElem_cons_succ, List.getElem_cons_zero, Act.put, List.setIfInBounds_toArray, List.set_cons_zero, List.set_cons_succ]
      refine anyT_takeY (i := 5) (v := .int .i64 (k : Int)) rfl (by kernel_rfl) (by kernel_rfl) (by kernel_rfl) (fun _ _ _ h => h) (by kernel_rfl) (Or.inl ⟨by rfl, by intro w; go_simp⟩) ?_
      try simp only [List.getElem_toArray, List.getElem_cons_succ, List.getElem_cons_zero, Act.put, List.setIfInBounds_toArray, List.set_cons_zero, List.set_cons_succ]
      refine anyT_takeY (i := 6) (v := .pointer (some ⟨bb, bo + k * 32, none⟩)) rfl (by kernel_rfl) (by kernel_rfl) (by kernel_rfl) (fun _ _ _ h => h) (by kernel_rfl) (Or.inl ⟨by rfl, by intro w; go_simp⟩) ?_
      try simp only [List.getElem_toArray, List.getElem_cons_succ, List.getElem_cons_zero, Act.put, List.setIfInBounds_toArray, List.set_cons_zero, List.set_cons_succ]
      refine anyT_take [8] (i := 3) (v := .agg (rowOf .u8 32 p)) rfl (by kernel_rfl) (by kernel_rfl) (by kernel_rfl) (fun _ _ _ h => h) (by kernel_rfl) (row_yields_mid (by rfl) 25 (.tmp 19) rfl ab (ao + k * 32) rfl .u8 32 p _ (fun _ h => h.1) Tryd.underlying25 rfl (by kernel_rfl)) M.out ?_
      try simp only [List.getElem_toArray, List.getElem_cons_succ, List.getElem_cons_zero, Act.put, List.setIfInBounds_toArray, List.set_cons_zero, List.set_cons_succ]
      refine anyT_take [8] (i := 7) (v := .agg (rowOf .u8 32 p)) rfl (by kernel_rfl) (by kernel_rfl) (by kernel_rfl) (fun _ _ _ h => h) (by kernel_rfl) (row_yields_mid (by rfl) 25 (.tmp 23) rfl bb (bo + k * 32) rfl .u8 32 p _ (fun _ h => h.2) Tryd.underlying25 rfl (by kernel_rfl)) M.out ?_
      try simp only [List.getElem_toArray, List.getElem_cons_succ, List.getElem_cons_zero, Act.put, List.setIfInBounds_toArray, List.set_cons_zero, List.set_cons_succ]
      refine anyT_takeY (i := 8) (v := .bool false) rfl (by kernel_rfl) (by kernel_rfl) (by kernel_rfl) (fun _ _ _ h => h) (by kernel_rfl) (Or.inl ⟨by rfl, fun w' => by have h := eqIn32_self p w'; go_simp⟩) ?_
      try simp only [List.getElem_toArray, List.getElem_cons_succ, List.getElem_cons_zero, Act.put, List.setIfInBounds_toArray, List.set_cons_zero, List.set_cons_succ]
      refine anyT_done (by kernel_rfl) ?_ _
      go_wp2_with (fail)
      go_roundw
      case rel => exact ⟨k + 1, by omega, by go_num, HW⟩
      case measure => simp [intOf]; omega
    · obtain rfl : k = ps.length := by omega
      go_wp2_with (fail)
      go_ret
      exact ⟨rfl, HW.out⟩
end Go.Proofs.YtbppainejdphpaaDoor
