/- Part 32 of the proof. -/
import Derived.Test.YtadolfacjolbkaaDoorSh30
import Derived.Test.YtadolfacjolbkaaDoorSh31
namespace Go.Proofs.YtadolfacjolbkaaDoor
set_option linter.unusedVariables false
set_option linter.unusedSimpArgs false
open Go.RowKit
set_option maxRecDepth 100000
set_option linter.unusedSimpArgs false
set_option linter.unusedVariables false
theorem drop_suffix {α : Type} {s p s2 : List α} {i : Nat} (h : s.drop i = p ++ s2) : s2 = s.drop (s.length - s2.length) ∧ s2.length ≤ s.length := by
  obtain ⟨q, hq⟩ : ∃ q, q = s.take i ++ p := ⟨_, rfl⟩
  have e : s = q ++ s2 := by rw [hq, List.append_assoc, ← h, List.take_append_drop]
  subst e
  refine ⟨?_, by simp⟩
  rw [List.length_append, Nat.add_sub_cancel, List.drop_left]
def RdP (r : Option (AvT × List Bool × List KV)) (s : List Bool) (L : List KV) (i k : Nat) (w : World) : Ending → World → Prop := match r with
  | none => RdNo i k w
  | some (t, s', l') => RdYes t (s.length - s'.length) (L.length - l'.length) w
theorem read_any (vs va : Value) (s : List Bool) (L : List KV) (hL : L.length ≤ 1099511627776) : ∀ (n i k : Nat) (w : World), BlIn w vs s → KVIn w va L → i ≤ s.length → k ≤ L.length → s.length - i ≤ n →
    Calls Tryd.prog 38 #[vs, va, .int .i64 (i : Int), .int .i64 (k : Int)] w (RdP (rdF n (s.drop i) (L.drop k)) s L i k w) := by
  intro n
  induction n with
  | zero =>
    intro i k w hs ha hi hk hn
    exact read_end vs va s L i k w hs ha (.inl (by omega)) hi hk
  | succ n ih =>
    intro i k w hs ha hi hk hn
    by_cases h1 : s.length ≤ i
    · rw [List.drop_eq_nil_of_le h1]
      exact read_end vs va s L i k w hs ha (.inl h1) hi hk
    by_cases h2 : L.length ≤ k
    · rw [List.drop_eq_nil_of_le h2, List.drop_eq_getElem_cons (by omega : i < s.length)]
      exact read_end vs va s L i k w hs ha (.inr h2) hi hk
    have hi' : i < s.length := by omega
    have hk' : k < L.length := by omega
    rw [List.drop_eq_getElem_cons hi', List.drop_eq_getElem_cons hk']
    have hbit : s[i]? = some s[i] := List.getElem?_eq_getElem hi'
    have hq : L[k]? = some L[k] := List.getElem?_eq_getElem hk'
    cases hx : s[i] with
    | false =>
      rw [hx] at hbit
      have := read_leaf vs va s L i k w hs ha hbit L[k] hq
      unfold rdF RdP
      simp only [List.length_drop]
      rw [show s.length - (s.length - (i + 1)) = i + 1 by omega, show L.length - (L.length - (k + 1)) = k + 1 by omega]
      exact this
    | true =>
      rw [hx] at hbit
      have ih1 := fun w' hs' ha' => ih (i + 1) k w' hs' ha' (by omega) hk (by omega)
      rw [List.drop_eq_getElem_cons hk'] at ih1
      simp only [rdF]
      cases hr : rdF n (s.drop (i + 1)) (L[k] :: L.drop (k + 1)) with
      | none =>
        rw [hr] at ih1
        exact read_na vs va s L i k w hs ha hbit hk' ih1
      | some x =>
        obtain ⟨ta, s1, l1⟩ := x
        rw [hr] at ih1
        obtain ⟨e1, e2, e3⟩ := rdF_sound _ _ _ _ _ _ hr
        have e2' : L.drop k = ta.pairs ++ l1 := by rw [List.drop_eq_getElem_cons hk']; exact e2
        obtain ⟨f1, f2⟩ := drop_suffix e1
        obtain ⟨g1, g2⟩ := drop_suffix e2'
        have hma : ta.many ≤ 1099511627776 := by
          have := congrArg List.length e2'
          rw [List.length_drop, List.length_append, ta.many_eq] at this; omega
        have hs1 : s1.length ≤ s.length - (i + 1) := by
          have := congrArg List.length e1
          rw [List.length_drop, List.length_append] at this; omega
        have ih2 := fun w' hs' ha' => ih (s.length - s1.length) (L.length - l1.length) w' hs' ha' (by omega) (by omega) (by omega)
        rw [← f1, ← g1] at ih2
        simp only
        cases hr2 : rdF n s1 l1 with
        | none =>
          rw [hr2] at ih2
          exact read_nb vs va s L i k w hs ha hbit hk' ta _ _ ih1 ih2
        | some y =>
          obtain ⟨tb, s2, l2⟩ := y
          rw [hr2] at ih2
          obtain ⟨p1, p2, p3⟩ := rdF_sound _ _ _ _ _ _ hr2
          have hmb : tb.many ≤ 1099511627776 := by
            have := congrArg List.length p2
            rw [List.length_append, tb.many_eq] at this; omega
          simp only
          cases hn' : nearB ta tb with
          | false =>
            simp only [Bool.false_eq_true, if_false]
            exact read_nu vs va s L i k w hs ha hbit hk' ta _ _ ih1 tb _ _ ih2 ⟨hma, hmb⟩ hn'
          | true =>
            simp only [if_true]
            exact read_ny vs va s L i k w hs ha hbit hk' ta _ _ ih1 tb _ _ ih2 ⟨hma, hmb⟩ hn'
def bOf : Option (AvT × List Bool × List KV) → Option AvT
  | some (t, [], []) => some t
  | _ => none
theorem buildR_of (s : List Bool) (L : List KV) : buildR s L = bOf (rdF s.length s L) := by
  unfold buildR
  generalize rdF s.length s L = X
  rcases X with _ | ⟨t, s1, l1⟩
  · rfl
  · cases s1 <;> cases l1 <;> rfl
def RbPost (r : Option (Option AvT)) (w : World) (e : Ending) (w' : World) : Prop := ∃ cs, e = .returned (.tuple #[.agg cs, .int .i64 (numE (if r.isSome then none else some 3))]) ∧ RO w' cs (r.getD none) ∧ Below w.heap.size w w'
theorem rb_none {w : World} {e : Ending} {w' : World} (h : e = .returned (.tuple #[.agg zR, .int .i64 3]) ∧ Below w.heap.size w w') : RbPost none w e w' := ⟨zR, h.1, rfl, h.2⟩
set_option maxHeartbeats 1000000 in
theorem rbuild_zero (sa aa : Option Addr) (sc ac : Nat) (w : World) (hs : BlIn w (.slice sa 0 sc) []) (ha : KVIn w (.slice aa 0 ac) []) : Calls Tryd.prog 10 #[.slice sa 0 sc, .slice aa 0 ac] w (RbPost (some none) w) := by
  have M := Lib.hid (rdM_start hs ha)
  clear hs ha
  unfold RbPost
  go_enter Tryd.func10, Tryd.ntmps10
  go_upto_region 1 with (fail)
  have e0 : w.alloc (.cells #[.bool false, .string { data := #[] }, .string { data := #[] }, .slice none 0 0] 29) = w.alloc (.cells zR 29) := rfl
  rw [e0]
  clear e0
  generalize w.alloc (.cells zR 29) = w1 at *
  go_wp2_with (refine wpList_store_row rfl 29 (.tmp 4) (.tmp 17) rfl w.heap.size zR rfl rfl 29 _ M.out.re (by kernel_rfl) rfl (by simp [zR, Value.oneCell']) ?_)
  obtain ⟨e1, e2⟩ := M.out.done zR
  refine bodyPost_ret (results_cell_tmp_row rfl _ _ w.heap.size 29 zR (0, 0) _ rfl e2 Tryd.underlying29 rfl (by kernel_rfl)) rfl ?_
  exact ⟨zR, rfl, rfl, e1⟩
set_option maxHeartbeats 4000000 in
theorem rbuild_many (vs va : Value) (s : List Bool) (L : List KV) (w : World) (hs : BlIn w vs s) (ha : KVIn w va L) (hne : ¬ (s.length = 0 ∧ L.length = 0)) (hls : s.length ≤ 1099511627776) (hL : L.length ≤ 1099511627776) :
    Calls Tryd.prog 10 #[vs, va] w (RbPost (if risB L = true then (buildR s L).map some else none) w) := by
  have M := Lib.hid (rdM_start hs ha)
  have HRD := Lib.hid (show ∀ w', BlIn w' vs s → KVIn w' va L → Calls Tryd.prog 38 #[vs, va, .int .i64 0, .int .i64 0] w' (RdP (rdF s.length (s.drop 0) (L.drop 0)) s L 0 0 w') from fun w' hs' ha' => read_any vs va s L hL s.length 0 0 w' hs' ha' (Nat.zero_le _) (Nat.zero_le _) (by omega))
  obtain ⟨sa, sc, rfl⟩ := hs.len
  obtain ⟨aa, ac, rfl⟩ := ha.len
  rw [List.drop_zero, List.drop_zero] at HRD
  have HA := Lib.hid ha
  obtain ⟨R, hR⟩ : ∃ R, R = (if risB L = true then (buildR s L).map some else none) := ⟨_, rfl⟩
  have HR := Lib.hid hR
  rw [← hR]
  have hsum : ((s.length : Int) + (L.length : Int) == 0) = false := by rw [beq_eq_false_iff_ne]; omega
  have hwr : IntKind.i64.wrap ((s.length : Int) + (L.length : Int)) = (s.length : Int) + (L.length : Int) := IntWalk.i64_in _ (by omega)
  clear hs ha hne hR
  go_enter Tryd.func10, Tryd.ntmps10
  go_upto_region 1 with (fail)
  have e0 : w.alloc (.cells #[.bool false, .string { data := #[] }, .string { data := #[] }, .slice none 0 0] 29) = w.alloc (.cells zR 29) := rfl
  rw [e0]
  clear e0
  generalize w.alloc (.cells zR 29) = w1 at *
  go_wp2_with (fail)
  clear hsum hwr
  go_loopw [6] (fun x wr => ∃ k : Nat, (k < L.length ∨ k = 0) ∧ x = .int .i64 ((k : Int) + 1) ∧ Hid (RisK L (k + 1)) ∧ Hid (RdM w wr (.slice sa s.length sc) (.slice aa L.length ac) s L)) (fun x _ => L.length + 1 - (intOf x).toNat)
  case atStart => exact ⟨0, .inr rfl, rfl, Lib.hid (fun i p q hi => by omega), M⟩
  case round =>
    clear M w1
    obtain ⟨k, hkl, rfl, HRK, M⟩ := hrel
    by_cases hlt : k + 1 < L.length
    · obtain ⟨x, hx⟩ : ∃ x, L[k]? = some x := ⟨L[k], List.getElem?_eq_getElem (by omega)⟩
      obtain ⟨y, hy⟩ : ∃ y, L[k + 1]? = some y := ⟨L[k + 1], List.getElem?_eq_getElem hlt⟩
      obtain ⟨b1, o1, rfl, l1, p0, p1⟩ := HA.out.at k x hx
      obtain ⟨b2, o2, e2, l2, q0, q1⟩ := HA.out.at (k + 1) y hy
      cases e2
      have c0 := (M.out.below.cell (p := ⟨b1, o1 + k * 2, none⟩) l1).trans p0
      have d0 := (M.out.below.cell (p := ⟨b1, o1 + (k + 1) * 2, none⟩) l1).trans q0
      have hltI : (k : Int) + 1 < (L.length : Int) := by omega
      have hltI2 : (k : Int) < (L.length : Int) := by omega
      have HX := Lib.hid hx
      have HY := Lib.hid hy
      clear p0 p1 q0 q1 hx hy hkl
      obtain ⟨x1, x2⟩ := x
      obtain ⟨y1, y2⟩ := y
      simp only at c0 d0
      cases hb : bl x1 y1 with
      | true =>
        have e1 : Op.bytesLess x1.toList y1.toList = true := hb
        have HB := Lib.hid hb
        clear hb
        go_upto_region 6 with (fail)
        go_quiet (fail)
        replace M := Lib.hid (M.out.call (below_drewN (Below.refl _ _) nq))
        generalize wr.drewN nq = w5 at *
        clear c0 d0
        go_wp2_with (fail)
        go_roundw
        case rel => exact ⟨k + 1, .inl hlt, by go_num, Lib.hid (risK_succ HRK.out HX.out HY.out HB.out), M⟩
        case measure => simp [intOf]; omega
      | false =>
        have HN := Lib.hid (show R = none by
          rw [HR.out, if_neg]
          intro h
          have h := (risB_iff L).1 h k _ _ HX.out HY.out
          rw [hb] at h; cases h)
        have e1 : Op.bytesLess x1.toList y1.toList = false := hb
        clear hb
        go_upto_region 6 with (fail)
        go_quiet (fail)
        replace M := Lib.hid (M.out.call (below_drewN (Below.refl _ _) nq))
        generalize wr.drewN nq = w5 at *
        clear c0 d0
        go_wp2_with (refine wpList_store_row rfl 29 (.tmp 4) (.tmp 36) rfl w.heap.size zR rfl rfl 29 _ M.out.re (by kernel_rfl) rfl (by simp [zR, Value.oneCell']) ?_)
        obtain ⟨e1, e2⟩ := M.out.done zR
        refine bodyPost_ret (results_cell_tmp_row rfl _ _ w.heap.size 29 zR (0, 0) _ rfl e2 Tryd.underlying29 rfl (by kernel_rfl)) rfl ?_
        rw [HN.out]
        exact rb_none ⟨rfl, e1⟩
    · have hI : ¬ (k : Int) + 1 < (L.length : Int) := by omega
      have HRI := Lib.hid (show R = (buildR s L).map some by
        rw [HR.out, if_pos ((risB_iff L).2 (risK_all (fun i p q hi => HRK.out i p q (by omega))))])
      clear HR HRK hkl hlt
      obtain ⟨X, hX⟩ : ∃ X, X = rdF s.length s L := ⟨_, rfl⟩
      have HX := Lib.hid (show buildR s L = bOf X by rw [hX]; exact buildR_of s L)
      rw [← hX] at HRD
      replace hX := Lib.hid hX
      cases X with
      | none =>
        have HN := Lib.hid (show R = none by rw [HRI.out, HX.out]; rfl)
        unfold RdP RdNo at HRD
        simp only [Int.ofNat_eq_natCast, Int.natCast_zero, Int.cast_ofNat_Int] at HRD
        go_upto_region 9 with (first
          | (go_at_call 38; (with_reducible refine (HRD.out _ M.out.sh M.out.kv).mono ?_); rintro e w2 ⟨rfl, hb⟩; replace M := Lib.hid (M.out.call hb); clear hb)
          | (refine wpList_store_row rfl 29 (.tmp 7) (.tmp 41) rfl w2.heap.size zR rfl rfl 29 _ (heap_alloc_new _ _) (by kernel_rfl) rfl (by simp [zR, Value.oneCell']) ?_; rw [World.setRow_alloc_new]))
        replace M := Lib.hid (M.out.call (below_alloc w2 (.cells zR 29)))
        generalize w2.alloc (.cells zR 29) = w3 at *
        go_wp2_with (refine wpList_store_row rfl 29 (.tmp 4) (.tmp 59) rfl w.heap.size zR rfl rfl 29 _ M.out.re (by kernel_rfl) rfl (by simp [zR, Value.oneCell']) ?_)
        obtain ⟨e1, e2⟩ := M.out.done zR
        refine bodyPost_ret (results_cell_tmp_row rfl _ _ w.heap.size 29 zR (0, 0) _ rfl e2 Tryd.underlying29 rfl (by kernel_rfl)) rfl ?_
        rw [HN.out]
        exact rb_none ⟨rfl, e1⟩
      | some x =>
        obtain ⟨ta, s1, l1⟩ := x
        obtain ⟨i, hi⟩ : ∃ i, i = s.length - s1.length := ⟨_, rfl⟩
        obtain ⟨j, hj⟩ : ∃ j, j = L.length - l1.length := ⟨_, rfl⟩
        have HIJ := Lib.hid (And.intro hi hj)
        unfold RdP at HRD
        simp only at HRD
        rw [← hi, ← hj] at HRD
        unfold RdYes at HRD
        clear hi hj
        go_upto_region 9 with (first
          | (go_at_call 38; (with_reducible refine (HRD.out _ M.out.sh M.out.kv).mono ?_); rintro e w2 ⟨ca, rfl, hr, hb⟩; have HRA := Lib.hid hr; have caZ := Lib.hid hr.size; have caO := Lib.hid (RO.one (t := some ta) hr); replace M := Lib.hid (M.out.call hb); clear hr hb)
          | (refine wpList_store_row rfl 29 (.tmp 7) (.tmp 41) rfl w2.heap.size ca rfl rfl 29 _ (heap_alloc_new _ _) (by rw [caZ.out]; kernel_rfl) (by rw [caZ.out]; rfl) caO.out ?_; rw [World.setRow_alloc_new]))
        have Z := Lib.hid (RdX.of M.out HRA.out)
        obtain ⟨g7, hg7⟩ : ∃ g, g = w2.heap.size := ⟨_, rfl⟩
        rw [← hg7] at Z ⊢
        clear M HRA hg7
        generalize w2.alloc (.cells ca 29) = w3 at *
        have hsd := rdF_sound _ _ _ _ _ _ hX.out.symm
        have hsn1 := congrArg List.length hsd.1
        have hsn2 := congrArg List.length hsd.2.1
        rw [List.length_append] at hsn1 hsn2
        have HSN := Lib.hid (And.intro hsn1 hsn2)
        clear hsn1 hsn2
        have HP1 := Lib.hid (And.intro ta.shape_len (And.intro ta.many_eq ta.many_pos))
        clear hsd
        by_cases hsi : i = s.length
        · by_cases hlj : j = L.length
          · have HN := Lib.hid (show R = some (some ta) by
              obtain ⟨h1, h2⟩ := HIJ.out
              obtain ⟨h3, h4⟩ := HSN.out
              obtain ⟨h5, h6, h7⟩ := HP1.out
              obtain rfl : s1 = [] := List.eq_nil_of_length_eq_zero (by omega)
              obtain rfl : l1 = [] := List.eq_nil_of_length_eq_zero (by omega)
              rw [HRI.out, HX.out]; rfl)
            subst hsi
            subst hlj
            go_wp2_with (first
              | (refine wpList_load_row rfl 29 (.tmp 7) rfl g7 rfl 29 _ (0, 0) _ Z.out.h Tryd.underlying29 rfl (by rw [caZ.out]; kernel_rfl) ?_)
              | (refine wpList_store_row rfl 29 (.tmp 4) (.tmp 60) rfl w.heap.size ca rfl rfl 29 _ Z.out.m.re (by rw [caZ.out]; kernel_rfl) (by rw [caZ.out]; rfl) caO.out ?_))
            obtain ⟨e1, e2⟩ := Z.out.m.done ca
            refine bodyPost_ret (results_cell_tmp_row rfl _ _ w.heap.size 29 ca (0, 0) _ rfl e2 Tryd.underlying29 rfl (by rw [caZ.out]; kernel_rfl)) rfl ?_
            rw [HN.out]
            exact ⟨ca, rfl, RT.setRow Z.out.m.re rfl Z.out.r, e1⟩
          · have HN := Lib.hid (show R = none by
              obtain ⟨h1, h2⟩ := HIJ.out
              rw [HRI.out, HX.out]
              unfold bOf
              split
              · rename_i t' e; cases e; simp at h2; exact absurd h2 hlj
              · rfl)
            have h2 : ((j : Int) == (L.length : Int)) = false := by rw [beq_eq_false_iff_ne]; omega
            have h3 : ¬ (j : Int) = (L.length : Int) := by omega
            subst hsi
            clear hlj
            have M := Lib.hid Z.out.m
            clear Z
            go_wp2_with (refine wpList_store_row rfl 29 (.tmp 4) (.tmp 59) rfl w.heap.size zR rfl rfl 29 _ M.out.re (by kernel_rfl) rfl (by simp [zR, Value.oneCell']) ?_)
            obtain ⟨e1, e2⟩ := M.out.done zR
            refine bodyPost_ret (results_cell_tmp_row rfl _ _ w.heap.size 29 zR (0, 0) _ rfl e2 Tryd.underlying29 rfl (by kernel_rfl)) rfl ?_
            rw [HN.out]
            exact rb_none ⟨rfl, e1⟩
        · have HN := Lib.hid (show R = none by
            obtain ⟨h1, h2⟩ := HIJ.out
            rw [HRI.out, HX.out]
            unfold bOf
            split
            · rename_i t' e; cases e; simp at h1; exact absurd h1 hsi
            · rfl)
          have h1 : ((i : Int) == (s.length : Int)) = false := by rw [beq_eq_false_iff_ne]; omega
          have h3 : ¬ (i : Int) = (s.length : Int) := by omega
          clear hsi
          have M := Lib.hid Z.out.m
          clear Z
          go_wp2_with (refine wpList_store_row rfl 29 (.tmp 4) (.tmp 59) rfl w.heap.size zR rfl rfl 29 _ M.out.re (by kernel_rfl) rfl (by simp [zR, Value.oneCell']) ?_)
          obtain ⟨e1, e2⟩ := M.out.done zR
          refine bodyPost_ret (results_cell_tmp_row rfl _ _ w.heap.size 29 zR (0, 0) _ rfl e2 Tryd.underlying29 rfl (by kernel_rfl)) rfl ?_
          rw [HN.out]
          exact rb_none ⟨rfl, e1⟩
theorem rbuild_any (vs va : Value) (s : List Bool) (L : List KV) (w : World) (hs : BlIn w vs s) (ha : KVIn w va L) (hls : s.length ≤ 1099511627776) (hL : L.length ≤ 1099511627776) : Calls Tryd.prog 10 #[vs, va] w (RbPost (buildA s L) w) := by
  unfold buildA
  by_cases h0 : s.length = 0 ∧ L.length = 0
  · rw [if_pos h0]
    obtain rfl := List.eq_nil_of_length_eq_zero h0.1
    obtain rfl := List.eq_nil_of_length_eq_zero h0.2
    obtain ⟨aa, ac, rfl⟩ := ha.len
    obtain ⟨sa, sc, rfl⟩ := hs.len
    exact rbuild_zero _ _ _ _ w hs ha
  · rw [if_neg h0, build_same]
    exact rbuild_many vs va s L w hs ha h0 hls hL
end Go.Proofs.YtadolfacjolbkaaDoor
