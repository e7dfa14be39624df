/- ShaCuts: the walk. -/
import Derived.Test.YtpdolfpoekhfaaaDoorSure
import Derived.ChangeKeysEq
namespace Go.Proofs.YtpdolfpoekhfaaaDoor
open Go.RowKit
/-- are the first 32 numbers the same? -/
def eqB (f g : Nat → Int) : Bool := (List.range 32).all fun i => f i == g i
theorem eqB_self (f : Nat → Int) : eqB f f = true := by simp [eqB]
theorem eqItems32 (f g : Nat → Int) (w : World) : ∀ is : List Nat, (∀ i ∈ is, i < 32) → (Op.eqItems 9999 5 1 (rowOf .u8 32 f) (rowOf .u8 32 g) is).run Tryd.prog w = .ok (is.all fun i => f i == g i) w
  | [], _ => by simp [Op.eqItems]
  | i :: is, h => by
    have hi : i < 32 := h i (by simp)
    have ha : (isAgg 5).run Tryd.prog w = .ok false w := by kernel_rfl
    have hp : ∀ f : Nat → Int, (part 5 (rowOf .u8 32 f) (i * 1)).run Tryd.prog w = .ok (.int .u8 (f i)) w := fun f => by
      simp [part, Sem.run_bind, ha, rowOf_get .u8 32 f i hi]
    have ih := eqItems32 f g w is (fun j hj => h j (by simp [hj]))
    have pe : (Op.equalIn 9999 5 (.int .u8 (f i)) (.int .u8 (g i))).run Tryd.prog w = .ok (f i == g i) w := run_equalIn_int w 9998 5 .u8 .u8 _ _ Tryd.underlying5
    simp only [Op.eqItems, Sem.run_bind, hp, pe, Result.andThen_ok, List.all_cons]
    cases hb : (f i == g i)
    · simp
    · simpa using ih
theorem eq32 (f g : Nat → Int) (w : World) : (binOp .eql 25 (.agg (rowOf .u8 32 f)) (.agg (rowOf .u8 32 g))).run Tryd.prog w = .ok (.bool (eqB f g)) w := by
  rw [run_eql_struct, run_equalIn_array w 9999 (i := (Tryd.prog.info? 5).getD default) _ _ Tryd.underlying25 (by kernel_rfl), show Tryd.prog.cellsOf 5 = 1 by kernel_rfl, eqItems32 f g w _ (fun i hi => by simpa using hi)]
  rfl
/-- where a cut at p begins -/
def cutA (a : Option Addr) (cap p : Nat) : Option Addr := if cap = p then a else a.map (·.add p)
theorem slice22lh (a : Option Addr) (n cap p q : Nat) (hp : p ≤ q) (hq : q ≤ cap) (w : World) : (Instr.slice 22 (.slice a n cap) (some (.int .i64 (p : Int))) (some (.int .i64 (q : Int))) none).run Tryd.prog w = .ok (.slice (cutA a cap p) (q - p) (cap - p)) w := by
  have he : Tryd.prog.elem 22 = 5 := by kernel_rfl
  have hs : (sizeOf 5).run Tryd.prog w = .ok 1 w := by kernel_rfl
  rw [run_slice_lh w 22 a n cap (by rw [he]; exact Tryd.underlying22) .i64 .i64 (p : Int) (q : Int) (by omega) (by omega) (by omega), he, hs]
  simp [Result.andThen_ok, sliced, cutA]
theorem slice22lo (a : Option Addr) (n cap p : Nat) (hp : p ≤ n) (w : World) : (Instr.slice 22 (.slice a n cap) (some (.int .i64 (p : Int))) none none).run Tryd.prog w = .ok (.slice (cutA a cap p) (n - p) (cap - p)) w := by
  have he : Tryd.prog.elem 22 = 5 := by kernel_rfl
  have hs : (sizeOf 5).run Tryd.prog w = .ok 1 w := by kernel_rfl
  rw [run_slice_l w 22 a n cap (by rw [he]; exact Tryd.underlying22) .i64 (p : Int) (by omega) (by omega), he, hs]
  simp [Result.andThen_ok, sliced, cutA]
theorem slice22hi (a : Option Addr) (n cap q : Nat) (hq : q ≤ cap) (w : World) : (Instr.slice 22 (.slice a n cap) none (some (.int .i64 (q : Int))) none).run Tryd.prog w = .ok (.slice (cutA a cap 0) q cap) w := by
  have he : Tryd.prog.elem 22 = 5 := by kernel_rfl
  have hs : (sizeOf 5).run Tryd.prog w = .ok 1 w := by kernel_rfl
  rw [run_slice_h w 22 a n cap (by rw [he]; exact Tryd.underlying22) .i64 (q : Int) (by omega) (by omega), he, hs]
  simp [Result.andThen_ok, sliced, cutA]
theorem BytesIn.cut {w : World} {a : Option Addr} {n cap : Nat} {xs : List Int} (h : BytesIn w (.slice a n cap) xs) (p q : Nat) (hp : p ≤ q) (hq : q ≤ n) :
    BytesIn w (.slice (cutA a cap p) (q - p) (cap - p)) ((xs.take q).drop p) := by
  obtain ⟨a', cap', e, hc, hm, hx⟩ := h
  injection e with e1 e2 e3
  subst e1 e2 e3
  have hl : ((xs.take q).drop p).length = q - p := by rw [List.length_drop, List.length_take]; omega
  refine ⟨cutA a cap p, cap - p, by rw [hl], by rw [hl]; omega, by rw [hl]; omega, ?_⟩
  by_cases he : (xs.take q).drop p = []
  · exact .inl he
  · right
    have hpq : p < q := by
      rcases Nat.lt_or_ge p q with h | h
      · exact h
      · exact absurd (List.eq_nil_of_length_eq_zero (by rw [hl]; omega)) he
    rcases hx with hx | ⟨ab, ao, rfl, hx⟩
    · subst hx; simp at hq; omega
    · refine ⟨ab, ao + p, ?_, fun i x hi => ?_⟩
      · unfold cutA
        rw [if_neg (by omega)]
        show some (Addr.add ⟨ab, ao, none⟩ p) = _
        rw [Addr.add_mid]
      · rw [List.getElem?_drop, List.getElem?_take] at hi
        split at hi
        · rw [Nat.add_assoc]; exact hx _ _ hi
        · cases hi
theorem BytesIn.cut0 {w : World} {a : Option Addr} {n cap : Nat} {xs : List Int} (h : BytesIn w (.slice a n cap) xs) (q : Nat) (hq : q ≤ n) : BytesIn w (.slice (cutA a cap 0) q cap) ((xs.take q).drop 0) :=
  h.cut 0 q (Nat.zero_le _) hq
theorem BytesIn.below {w w' : World} {v : Value} {xs : List Int} (h : BytesIn w v xs) (hb : Below w.heap.size w w') : BytesIn w' v xs := by
  obtain ⟨a, cap, rfl, hc, hm, hx⟩ := h
  refine ⟨a, cap, rfl, hc, hm, ?_⟩
  rcases hx with hx | ⟨ab, ao, rfl, hx⟩
  · exact .inl hx
  · exact .inr ⟨ab, ao, rfl, fun i y hi => (hb.cell (p := ⟨ab, ao + i, none⟩) (World.block_lt_of_cell? w _ (hx i y hi))).trans (hx i y hi)⟩
theorem BytesIn.le {w : World} {a : Option Addr} {n cap : Nat} {xs : List Int} (h : BytesIn w (.slice a n cap) xs) : n ≤ cap := by
  obtain ⟨a', cap', e, hc, hm, hx⟩ := h
  injection e with e1 e2 e3
  omega
theorem sumM_h (g : Nat) (h : HS) (w : World) (hh : HashAt w g h.s h.b h.n) (h0 : 0 ≤ h.n ∧ h.n < 18446744073709551616) (hk : Consts w) :
    Calls Tryd.prog 12 #[.pointer (some ⟨g, 0, none⟩)] w fun e w' => e = .returned (.agg (rowOf .u8 32 (hsum h))) ∧ Below w.heap.size w w' :=
  sumM_any g h.s h.b h.n w hh h0.1 h0.2 hk
theorem write_h (g : Nat) (h : HS) (xs : List Int) (v : Value) (w : World) (hh : HashAt w g h.s h.b h.n) (h0 : 0 ≤ h.n ∧ h.n < 18446744073709551616) (hx : BytesAt w g v xs) (he : Env w) (hg : 1 < g) :
    Calls Tryd.prog 10 #[.pointer (some ⟨g, 0, none⟩), v] w fun e w' => e = .returned (.tuple #[]) ∧ HashAt w' g (putF h xs).s (putF h xs).b (putF h xs).n ∧ Only g w w' :=
  write_any g h.s h.b h.n xs v w hh h0.1 h0.2 hx he hg
theorem sum_c (v : Value) (xs : List Int) (w w' : World) (hx : BytesIn w v xs) (hb : Below w.heap.size w w') (he : Env w') :
    Calls Tryd.prog 16 #[v] w' fun e w2 => e = .returned (.agg (rowOf .u8 32 (hsum (putF h0 xs)))) ∧ Below w'.heap.size w' w2 :=
  sum_any v xs w' (hx.below hb) he
/-- two Hashes in memory -/
structure CutM (w w' : World) (g g2 : Nat) (h h2 : HS) : Prop where
  below : Below w.heap.size w w'
  env : Env w'
  one : HashAt w' g h.s h.b h.n
  two : HashAt w' g2 h2.s h2.b h2.n
theorem CutM.calls {w w' w2 : World} {g g2 : Nat} {h h2 : HS} (m : CutM w w' g g2 h h2) (hb : Below w'.heap.size w' w2) : CutM w w2 g g2 h h2 :=
  ⟨m.below.trans (hb.mono m.below.size), m.env.below hb m.env.lt, m.one.below hb m.one.lt, m.two.below hb m.two.lt⟩
theorem CutM.wrote1 {w w' w2 : World} {g g2 : Nat} {h h2 h' : HS} (m : CutM w w' g g2 h h2) (hh : HashAt w2 g h'.s h'.b h'.n) (ho : Only g w' w2) (hg : w.heap.size ≤ g) (h1 : 1 < w.heap.size) (hne : g2 ≠ g) : CutM w w2 g g2 h' h2 :=
  ⟨m.below.trans (ho.below hg m.below.size), ho.env m.env (by omega), hh, (ho.block _ m.two.lt hne).trans m.two⟩
theorem CutM.wrote2 {w w' w2 : World} {g g2 : Nat} {h h2 h' : HS} (m : CutM w w' g g2 h h2) (hh : HashAt w2 g2 h'.s h'.b h'.n) (ho : Only g2 w' w2) (hg : w.heap.size ≤ g2) (h1 : 1 < w.heap.size) (hne : g ≠ g2) : CutM w w2 g g2 h h' :=
  ⟨m.below.trans (ho.below hg m.below.size), ho.env m.env (by omega), (ho.block _ m.one.lt hne).trans m.one, hh⟩
theorem cut3 (xs : List Int) (p q : Nat) (hp : p ≤ q) (_hq : q ≤ xs.length) (h : HS) :
    putF (putF (putF h ((xs.take p).drop 0)) ((xs.take q).drop p)) ((xs.take xs.length).drop q) = putF h xs := by
  rw [← putF_append, ← putF_append, List.drop_zero, List.take_length]
  congr 1
  have e : xs.take p ++ (xs.take q).drop p = xs.take q := by
    have := List.take_append_drop p (xs.take q)
    rw [List.take_take, Nat.min_eq_left hp] at this
    exact this
  rw [← List.append_assoc, e, List.take_append_drop]
theorem cut2 (xs : List Int) (p : Nat) (h : HS) : putF (putF h ((xs.take p).drop 0)) ((xs.take xs.length).drop p) = putF h xs := by
  rw [← putF_append, List.drop_zero, List.take_length, List.take_append_drop]
theorem idx_of (i : Int) (n : Nat) (hn : n ≤ 140737488351232) : ∃ p : Nat, wrap64 ((IntKind.u64.wrap i).tmod ((n : Int) + 1)) = p ∧ p ≤ n := by
  have h0 : 0 ≤ IntKind.u64.wrap i := by rw [IntKind.wrap_u64]; omega
  have h1 : 0 ≤ (IntKind.u64.wrap i) % ((n : Int) + 1) := Int.emod_nonneg _ (by omega)
  have h2 : (IntKind.u64.wrap i) % ((n : Int) + 1) < (n : Int) + 1 := Int.emod_lt_of_pos _ (by omega)
  refine ⟨((IntKind.u64.wrap i) % ((n : Int) + 1)).toNat, ?_, by omega⟩
  rw [Int.tmod_eq_emod_of_nonneg h0, IntWalk.wrap64_in _ ⟨by omega, by omega⟩]
  omega
set_option maxRecDepth 100000 in
set_option maxHeartbeats 400000 in
theorem cuts_any (a : Option Addr) (cap : Nat) (xs : List Int) (i k : Int) (w : World) (hx : BytesIn w (.slice a xs.length cap) xs) (hl : xs.length ≤ 140737488351232) (he : Env w) :
    Calls Tryd.prog 6 #[.slice a xs.length cap, .int .i64 i, .int .i64 k] w fun e w' => e = .returned (.bool true) ∧ Below w.heap.size w w' := by
  have HX := Lib.hid hx
  have HE := Lib.hid he
  clear hx he
  obtain ⟨n, hn⟩ : ∃ n, n = xs.length := ⟨_, rfl⟩
  rw [← hn] at hl HX ⊢
  have hnc := HX.out.le
  replace hn := Lib.hid hn
  obtain ⟨p, hpi, hpn⟩ := idx_of i n hl
  obtain ⟨q, hqi, hqn⟩ := idx_of k n hl
  go_enter Tryd.func6, Tryd.ntmps6
  go_upto_region 2 with (fail)
  go_quiet (fail)
  replace HX : Hid (BytesIn (w.drewN nq) (.slice a n cap) xs) := HX
  have HW1 := Lib.hid HE.out.lt
  replace HE : Hid (Env (w.drewN nq)) := Lib.hid ⟨HE.out.begin, HE.out.consts⟩
  obtain ⟨wd, hwd⟩ : ∃ wd, wd = w.drewN nq := ⟨_, rfl⟩
  rw [← hwd] at HX HE ⊢
  have HBD := Lib.hid (show Below w.heap.size w wd from by subst hwd; exact ⟨rfl, rfl, rfl, Nat.le_refl _, fun _ _ => rfl⟩)
  have HSZ := Lib.hid (show wd.heap.size = w.heap.size from by subst hwd; rfl)
  simp only [hpi, hqi]
  clear hwd hpi hqi
  by_cases hpq : (q : Int) < p
  · skip
    go_upto_region 5 with (fail)
    go_upto_region 6 with (go_at_call 9; (with_reducible refine (new_any _ HE.out).mono ?_); rintro e w' ⟨rfl, rfl⟩)
    have HB1 := Lib.hid (below_alloc wd (.cells (hashCells BT (fun _ => 0) 0) 66))
    have HH1 := Lib.hid (show HashAt (wd.alloc (.cells (hashCells BT (fun _ => 0) 0) 66)) wd.heap.size h0.s h0.b h0.n from heap_alloc_new wd _)
    generalize wd.alloc (.cells (hashCells BT (fun _ => 0) 0) 66) = w1 at *
    obtain ⟨g, hg⟩ : ∃ g, g = wd.heap.size := ⟨_, rfl⟩
    rw [← hg] at HH1 ⊢
    have HG := Lib.hid (show wd.heap.size ≤ g ∧ 1 < g from ⟨by omega, by rw [hg, HSZ.out]; exact HW1.out⟩)
    clear hg
    have HB0 := Lib.hid (show 0 ≤ h0.n ∧ h0.n < 18446744073709551616 from by decide)
    have hs1 := slice22hi a n cap q (by omega)
    have HX1 := Lib.hid ((HX.out.cut0 q (by omega)).at HB1.out (Nat.le_refl _) HG.out.1)
    have HE1 := Lib.hid (HE.out.below HB1.out HE.out.lt)
    go_upto_region 9 with (go_at_call 10; (with_reducible refine (write_h g h0 _ _ _ HH1.out HB0.out HX1.out HE1.out HG.out.2).mono ?_); rintro e w2 ⟨rfl, HH2, HO2⟩; replace HH2 := Lib.hid HH2; replace HO2 := Lib.hid HO2)
    clear hs1
    obtain ⟨h1, e1⟩ : ∃ h1, h1 = putF h0 ((xs.take q).drop 0) := ⟨_, rfl⟩
    rw [← e1] at HH2
    replace e1 := Lib.hid e1
    have HB2 := Lib.hid (HB1.out.trans (HO2.out.below HG.out.1 HB1.out.size))
    have HE2 := Lib.hid (HO2.out.env HE1.out HG.out.2)
    go_upto_region 10 with (go_at_call 13; (with_reducible refine (clone_any _ g _ _ _ HH2.out).mono ?_); rintro e w' ⟨rfl, rfl⟩)
    have HB3 := below_alloc w2 (.cells (hashCells h1.s h1.b h1.n) 66)
    have M := Lib.hid (show CutM wd (w2.alloc (.cells (hashCells h1.s h1.b h1.n) 66)) g w2.heap.size h1 h1 from
      ⟨HB2.out.trans (HB3.mono HB2.out.size), HE2.out.below HB3 HE2.out.lt, HH2.out.below HB3 HH2.out.lt, heap_alloc_new w2 _⟩)
    generalize w2.alloc (.cells (hashCells h1.s h1.b h1.n) 66) = w3 at *
    obtain ⟨g2, hg2⟩ : ∃ g2, g2 = w2.heap.size := ⟨_, rfl⟩
    rw [← hg2] at M ⊢
    have HG2 := Lib.hid (show wd.heap.size ≤ g2 ∧ 1 < g2 ∧ g2 ≠ g from ⟨by rw [hg2]; exact HB2.out.size, by have := HH2.out.lt; have := HG.out.2; omega, by have := HH2.out.lt; omega⟩)
    have HW := Lib.hid (show 1 < wd.heap.size from HE.out.lt)
    clear HB3 HB2 HE2 HH2 HO2 HH1 HX1 HE1 HB1 hg2
    have hs2 := slice22lh a n cap q p (by omega) (by omega)
    have HX2 := Lib.hid ((HX.out.cut q p (by omega) (by omega)).at M.out.below (Nat.le_refl _) HG.out.1)
    have HBa := Lib.hid (show 0 ≤ h1.n ∧ h1.n < 18446744073709551616 from by rw [e1.out]; exact putF_bounds h0 HB0.out.1 HB0.out.2 ((xs.take q).drop 0))
    go_upto_region 11 with (go_at_call 10; (with_reducible refine (write_h g h1 _ _ _ M.out.one HBa.out HX2.out M.out.env HG.out.2).mono ?_); rintro e w4 ⟨rfl, HH4, HO4⟩; replace HH4 := Lib.hid HH4; replace HO4 := Lib.hid HO4)
    replace M := Lib.hid (M.out.wrote1 HH4.out HO4.out HG.out.1 HW.out HG2.out.2.2)
    clear hs2 HX2 HH4 HO4
    have hs3 := slice22lo a n cap p (by omega)
    have HX3 := Lib.hid ((HX.out.cut p n (by omega) (Nat.le_refl _)).at M.out.below (Nat.le_refl _) HG.out.1)
    have HBb := Lib.hid (putF_bounds _ HBa.out.1 HBa.out.2 ((xs.take p).drop q))
    go_upto_region 12 with (go_at_call 10; (with_reducible refine (write_h g _ _ _ _ M.out.one HBb.out HX3.out M.out.env HG.out.2).mono ?_); rintro e w5 ⟨rfl, HH5, HO5⟩; replace HH5 := Lib.hid HH5; replace HO5 := Lib.hid HO5)
    replace M := Lib.hid (M.out.wrote1 HH5.out HO5.out HG.out.1 HW.out HG2.out.2.2)
    clear hs3 HX3 HH5 HO5
    have hs4 := slice22lo a n cap q (by omega)
    have HX4 := Lib.hid ((HX.out.cut q n (by omega) (Nat.le_refl _)).at M.out.below (Nat.le_refl _) HG2.out.1)
    have HBc := Lib.hid (putF_bounds _ HBb.out.1 HBb.out.2 ((xs.take n).drop p))
    go_upto_region 15 with (go_at_call 10; (with_reducible refine (write_h g2 _ _ _ _ M.out.two HBa.out HX4.out M.out.env HG2.out.2.1).mono ?_); rintro e w6 ⟨rfl, HH6, HO6⟩; replace HH6 := Lib.hid HH6; replace HO6 := Lib.hid HO6)
    replace M := Lib.hid (M.out.wrote2 HH6.out HO6.out HG2.out.1 HW.out (Ne.symm HG2.out.2.2))
    clear hs4 HX4 HH6 HO6
    have HBd := Lib.hid (putF_bounds _ HBa.out.1 HBa.out.2 ((xs.take n).drop q))
    rw [e1.out, hn.out, cut3 xs q p (by omega) (by rw [← hn.out]; omega) h0, cut2 xs q h0] at M
    rw [e1.out, hn.out, cut3 xs q p (by omega) (by rw [← hn.out]; omega) h0] at HBc
    rw [e1.out, hn.out, cut2 xs q h0] at HBd
    have heq := eq32 (hsum (putF h0 xs)) (hsum (putF h0 xs))
    rw [eqB_self] at heq
    go_wp2_with (first
      | (go_at_call 12; (with_reducible refine (sumM_h g _ _ M.out.one HBc.out M.out.env.consts).mono ?_); rintro e w7 ⟨rfl, HB7⟩; replace M := Lib.hid (M.out.calls HB7); clear HB7)
      | (go_at_call 12; (with_reducible refine (sumM_h g2 _ _ M.out.two HBd.out M.out.env.consts).mono ?_); rintro e w7 ⟨rfl, HB7⟩; replace M := Lib.hid (M.out.calls HB7); clear HB7)
      | (go_at_call 16; (with_reducible refine (sum_c _ xs _ _ (HX.out) M.out.below M.out.env).mono ?_); rintro e w7 ⟨rfl, HB7⟩; replace M := Lib.hid (M.out.calls HB7); clear HB7)
      | (go_at_call 20; (with_reducible refine (sure_any _ M.out.env).mono ?_); rintro e w7 ⟨rfl, HB7⟩; replace M := Lib.hid (M.out.calls HB7); clear HB7))
    go_ret
    exact ⟨rfl, HBD.out.trans (by rw [← HSZ.out]; exact M.out.below)⟩
  · skip
    go_upto_region 5 with (fail)
    go_upto_region 6 with (go_at_call 9; (with_reducible refine (new_any _ HE.out).mono ?_); rintro e w' ⟨rfl, rfl⟩)
    have HB1 := Lib.hid (below_alloc wd (.cells (hashCells BT (fun _ => 0) 0) 66))
    have HH1 := Lib.hid (show HashAt (wd.alloc (.cells (hashCells BT (fun _ => 0) 0) 66)) wd.heap.size h0.s h0.b h0.n from heap_alloc_new wd _)
    generalize wd.alloc (.cells (hashCells BT (fun _ => 0) 0) 66) = w1 at *
    obtain ⟨g, hg⟩ : ∃ g, g = wd.heap.size := ⟨_, rfl⟩
    rw [← hg] at HH1 ⊢
    have HG := Lib.hid (show wd.heap.size ≤ g ∧ 1 < g from ⟨by omega, by rw [hg, HSZ.out]; exact HW1.out⟩)
    clear hg
    have HB0 := Lib.hid (show 0 ≤ h0.n ∧ h0.n < 18446744073709551616 from by decide)
    have hs1 := slice22hi a n cap p (by omega)
    have HX1 := Lib.hid ((HX.out.cut0 p (by omega)).at HB1.out (Nat.le_refl _) HG.out.1)
    have HE1 := Lib.hid (HE.out.below HB1.out HE.out.lt)
    go_upto_region 9 with (go_at_call 10; (with_reducible refine (write_h g h0 _ _ _ HH1.out HB0.out HX1.out HE1.out HG.out.2).mono ?_); rintro e w2 ⟨rfl, HH2, HO2⟩; replace HH2 := Lib.hid HH2; replace HO2 := Lib.hid HO2)
    clear hs1
    obtain ⟨h1, e1⟩ : ∃ h1, h1 = putF h0 ((xs.take p).drop 0) := ⟨_, rfl⟩
    rw [← e1] at HH2
    replace e1 := Lib.hid e1
    have HB2 := Lib.hid (HB1.out.trans (HO2.out.below HG.out.1 HB1.out.size))
    have HE2 := Lib.hid (HO2.out.env HE1.out HG.out.2)
    go_upto_region 10 with (go_at_call 13; (with_reducible refine (clone_any _ g _ _ _ HH2.out).mono ?_); rintro e w' ⟨rfl, rfl⟩)
    have HB3 := below_alloc w2 (.cells (hashCells h1.s h1.b h1.n) 66)
    have M := Lib.hid (show CutM wd (w2.alloc (.cells (hashCells h1.s h1.b h1.n) 66)) g w2.heap.size h1 h1 from
      ⟨HB2.out.trans (HB3.mono HB2.out.size), HE2.out.below HB3 HE2.out.lt, HH2.out.below HB3 HH2.out.lt, heap_alloc_new w2 _⟩)
    generalize w2.alloc (.cells (hashCells h1.s h1.b h1.n) 66) = w3 at *
    obtain ⟨g2, hg2⟩ : ∃ g2, g2 = w2.heap.size := ⟨_, rfl⟩
    rw [← hg2] at M ⊢
    have HG2 := Lib.hid (show wd.heap.size ≤ g2 ∧ 1 < g2 ∧ g2 ≠ g from ⟨by rw [hg2]; exact HB2.out.size, by have := HH2.out.lt; have := HG.out.2; omega, by have := HH2.out.lt; omega⟩)
    have HW := Lib.hid (show 1 < wd.heap.size from HE.out.lt)
    clear HB3 HB2 HE2 HH2 HO2 HH1 HX1 HE1 HB1 hg2
    have hs2 := slice22lh a n cap p q (by omega) (by omega)
    have HX2 := Lib.hid ((HX.out.cut p q (by omega) (by omega)).at M.out.below (Nat.le_refl _) HG.out.1)
    have HBa := Lib.hid (show 0 ≤ h1.n ∧ h1.n < 18446744073709551616 from by rw [e1.out]; exact putF_bounds h0 HB0.out.1 HB0.out.2 ((xs.take p).drop 0))
    go_upto_region 11 with (go_at_call 10; (with_reducible refine (write_h g h1 _ _ _ M.out.one HBa.out HX2.out M.out.env HG.out.2).mono ?_); rintro e w4 ⟨rfl, HH4, HO4⟩; replace HH4 := Lib.hid HH4; replace HO4 := Lib.hid HO4)
    replace M := Lib.hid (M.out.wrote1 HH4.out HO4.out HG.out.1 HW.out HG2.out.2.2)
    clear hs2 HX2 HH4 HO4
    have hs3 := slice22lo a n cap q (by omega)
    have HX3 := Lib.hid ((HX.out.cut q n (by omega) (Nat.le_refl _)).at M.out.below (Nat.le_refl _) HG.out.1)
    have HBb := Lib.hid (putF_bounds _ HBa.out.1 HBa.out.2 ((xs.take q).drop p))
    go_upto_region 12 with (go_at_call 10; (with_reducible refine (write_h g _ _ _ _ M.out.one HBb.out HX3.out M.out.env HG.out.2).mono ?_); rintro e w5 ⟨rfl, HH5, HO5⟩; replace HH5 := Lib.hid HH5; replace HO5 := Lib.hid HO5)
    replace M := Lib.hid (M.out.wrote1 HH5.out HO5.out HG.out.1 HW.out HG2.out.2.2)
    clear hs3 HX3 HH5 HO5
    have hs4 := slice22lo a n cap p (by omega)
    have HX4 := Lib.hid ((HX.out.cut p n (by omega) (Nat.le_refl _)).at M.out.below (Nat.le_refl _) HG2.out.1)
    have HBc := Lib.hid (putF_bounds _ HBb.out.1 HBb.out.2 ((xs.take n).drop q))
    go_upto_region 15 with (go_at_call 10; (with_reducible refine (write_h g2 _ _ _ _ M.out.two HBa.out HX4.out M.out.env HG2.out.2.1).mono ?_); rintro e w6 ⟨rfl, HH6, HO6⟩; replace HH6 := Lib.hid HH6; replace HO6 := Lib.hid HO6)
    replace M := Lib.hid (M.out.wrote2 HH6.out HO6.out HG2.out.1 HW.out (Ne.symm HG2.out.2.2))
    clear hs4 HX4 HH6 HO6
    have HBd := Lib.hid (putF_bounds _ HBa.out.1 HBa.out.2 ((xs.take n).drop p))
    rw [e1.out, hn.out, cut3 xs p q (by omega) (by rw [← hn.out]; omega) h0, cut2 xs p h0] at M
    rw [e1.out, hn.out, cut3 xs p q (by omega) (by rw [← hn.out]; omega) h0] at HBc
    rw [e1.out, hn.out, cut2 xs p h0] at HBd
    have heq := eq32 (hsum (putF h0 xs)) (hsum (putF h0 xs))
    rw [eqB_self] at heq
    go_wp2_with (first
      | (go_at_call 12; (with_reducible refine (sumM_h g _ _ M.out.one HBc.out M.out.env.consts).mono ?_); rintro e w7 ⟨rfl, HB7⟩; replace M := Lib.hid (M.out.calls HB7); clear HB7)
      | (go_at_call 12; (with_reducible refine (sumM_h g2 _ _ M.out.two HBd.out M.out.env.consts).mono ?_); rintro e w7 ⟨rfl, HB7⟩; replace M := Lib.hid (M.out.calls HB7); clear HB7)
      | (go_at_call 16; (with_reducible refine (sum_c _ xs _ _ (HX.out) M.out.below M.out.env).mono ?_); rintro e w7 ⟨rfl, HB7⟩; replace M := Lib.hid (M.out.calls HB7); clear HB7)
      | (go_at_call 20; (with_reducible refine (sure_any _ M.out.env).mono ?_); rintro e w7 ⟨rfl, HB7⟩; replace M := Lib.hid (M.out.calls HB7); clear HB7))
    go_ret
    exact ⟨rfl, HBD.out.trans (by rw [← HSZ.out]; exact M.out.below)⟩
#print axioms cuts_any
end Go.Proofs.YtpdolfpoekhfaaaDoor
