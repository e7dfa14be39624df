/- Part 36 of the proof. -/
import Derived.RangeFuncBox
import Derived.Sort.CutIn
import Derived.Test.YtadolfacjolbkaaDoorSh18
import Derived.Test.YtadolfacjolbkaaDoorSh34
import Derived.Test.YtadolfacjolbkaaDoorSh35
namespace Go.Proofs.YtadolfacjolbkaaDoor
set_option linter.unusedVariables false
set_option linter.unusedSimpArgs false
open Go.RowKit Go.Shelf
set_option maxRecDepth 100000
set_option linter.unusedSimpArgs false
set_option linter.unusedVariables false
attribute [local go_sem] Oper.semAt_some
theorem results_cells2 {P : Program} {fn : Func} {p q : Tmp} {ty uy : TypeId} (h : fn.results = #[.cell p ty, .cell q uy]) (tmps : Array Value) (w : World) (a b : Addr) (x y : Value)
    (hp : tmps.getD p undef = .pointer (some a)) (hq : tmps.getD q undef = .pointer (some b)) (hx : (loadVar ty a).run P w = .ok x w) (hy : (loadVar uy b).run P w = .ok y w) : (results fn tmps).run P w = .ok (.tuple #[x, y]) w := by
  have hp' : tmps[p]?.getD undef = .pointer (some a) := by simpa using hp
  have hq' : tmps[q]?.getD undef = .pointer (some b) := by simpa using hq
  simp [results, h, hp', hq', asAddr, hx, hy]
theorem load_box {W : World} {B : Nat} {v : Value} (h : Boxed W B 26 v) : (loadVar 26 ⟨B, 0, none⟩).run Tryd.prog W = .ok v W := by
  have c := h.cell
  simp [loadVar, run_underlying Tryd.underlying26, c]
theorem load_boxE {W : World} {B : Nat} {v : Value} (h : Boxed W B 34 v) : (loadVar 34 ⟨B, 0, none⟩).run Tryd.prog W = .ok v W := by
  have c := h.cell
  simp [loadVar, run_underlying Tryd.underlying34, c]
def errA (r : Option (Option AvT)) : Option Nat := if r.isSome then none else some 3
def BdPost (r : Option (Option AvT)) (w : World) (e : Ending) (w' : World) : Prop := ∃ v, e = .returned (.tuple #[v, errV (errA r)]) ∧ TreeO w' v (r.getD none) ∧ Below w.heap.size w w'
theorem mkBack_in (a : Option Addr) (k c : Nat) (n : Nat) (w : World) :
    CallsIn Fence.wide n Tryd.prog 33 #[.slice a k c] w fun e w' => e = .returned (.func (.func 58) #[] #[.pointer (some ⟨w.heap.size, 0, none⟩)]) ∧ w' = w.alloc (.cells #[.slice a k c] 23) := by
  refine callsIn_of_wp Tryd.func33 rfl trivial ?_ rfl
  simp only [Tryd.ntmps33, List.size_toArray, List.length_cons, List.length_nil, Nat.reduceAdd, Nat.reduceSub, Array.replicate_succ, Array.replicate_zero, List.push_toArray, List.append_toArray, List.nil_append, List.cons_append]
  gi_wp2
  go_ret
  exact ⟨rfl, rfl⟩
theorem boxed_below {W W' : World} {B : Nat} {t : TypeId} {v : Value} (h : Boxed W B t v) (hb : Below W.heap.size W W') : Boxed W' B t v := (hb.block B h.lt).trans h
def bdW (w : World) (va : Value) : World := ((w.alloc (.cells #[va] 24)).alloc (.cells #[.pointer none] 26)).alloc (.cells #[.nilIface] 34)
theorem bd_start (w : World) (va : Value) : Boxed (bdW w va) w.heap.size 24 va ∧ Boxed (bdW w va) (w.heap.size + 1) 26 (.pointer none) ∧ Boxed (bdW w va) (w.heap.size + 1 + 1) 34 .nilIface ∧ Below w.heap.size w (bdW w va) ∧ (bdW w va).heap.size = w.heap.size + 3 := by
  unfold bdW
  have b1 := ((Boxed.new w 24 va).alloc (.cells #[.pointer none] 26)).alloc (.cells #[.nilIface] 34)
  have b2 := (Boxed.new (w.alloc (.cells #[va] 24)) 26 (.pointer none)).alloc (.cells #[.nilIface] 34)
  have b3 := Boxed.new ((w.alloc (.cells #[va] 24)).alloc (.cells #[.pointer none] 26)) 34 .nilIface
  simp only [World.size_alloc] at b2 b3
  exact ⟨b1, b2, b3, (((Below.refl _ w).alloc (Nat.le_refl _) _).alloc (by simp) _).alloc (by simp; omega) _, by simp⟩
set_option maxHeartbeats 2000000 in
theorem build_empty (sa aa : Option Addr) (sc ac : Nat) (w : World) : Calls Tryd.prog 8 #[.slice sa 0 sc, .slice aa 0 ac] w (BdPost (some none) w) := by
  refine (callsIn_wide (n := 5)).1 ?_
  refine callsIn_of_wp_marks Tryd.func8 rfl trivial ?_ rfl
  simp only [Tryd.ntmps8, List.size_toArray, List.length_cons, List.length_nil, Nat.reduceAdd, Nat.reduceSub, Array.replicate_succ, Array.replicate_zero, List.push_toArray, List.append_toArray, List.nil_append, List.cons_append]
  gi_upto_region 1 with (fail)
  gi_wp2
  obtain ⟨b1, b2, b3, hb, -⟩ := bd_start w (.slice aa 0 ac)
  exact ⟨_, results_cells2 rfl _ _ ⟨w.heap.size + 1, 0, none⟩ ⟨w.heap.size + 1 + 1, 0, none⟩ _ _ rfl rfl (load_box b2) (load_boxE b3), _, rfl, rfl, hb⟩
set_option maxHeartbeats 2000000 in
theorem build_fell (vs va : Value) (s : List Bool) (L : List KV) (w : World) (hs : BlIn w vs s) (ha : KVIn w va L) (hne : ¬ (s.length = 0 ∧ L.length = 0)) (hr : ¬ Ris L) : Calls Tryd.prog 8 #[vs, va] w (BdPost none w) := by
  obtain ⟨b1, b2, b3, hb, hsz⟩ := bd_start w va
  have HA := Lib.hid (ha.below hb)
  obtain ⟨aa, ac, rfl⟩ := ha.len
  obtain ⟨sa, sc, rfl⟩ := hs.len
  have HR := Lib.hid (rising_any _ L _ HA.out)
  have HN := Lib.hid hr
  have hlen : L.length ≤ maxLen := by obtain ⟨_, _, _, _, hm, _⟩ := ha; exact hm
  unfold maxLen at hlen
  clear ha hs hr
  refine (callsIn_wide (n := 5)).1 ?_
  refine callsIn_of_wp_marks Tryd.func8 rfl trivial ?_ rfl
  simp only [Tryd.ntmps8, List.size_toArray, List.length_cons, List.length_nil, Nat.reduceAdd, Nat.reduceSub, Array.replicate_succ, Array.replicate_zero, List.push_toArray, List.append_toArray, List.nil_append, List.cons_append]
  gi_upto_region 1 with (fail)
  unfold bdW at *
  generalize ((w.alloc (.cells #[.slice aa L.length ac] 24)).alloc (.cells #[.pointer none] 26)).alloc (.cells #[.nilIface] 34) = W1 at *
  have c1 := b1.cell
  have HB := Lib.hid hb
  have HSZ := Lib.hid hsz
  have B2 := Lib.hid b2
  have B3 := Lib.hid b3
  clear b1 b2 b3 hb hsz
  gi_cut [18] from 11 (fun s18 wx => s18 = .bool false ∧ wx = W1)
  case first =>
    by_cases hs0 : s.length = 0
    · have hl0 : ((L.length : Int) == 0) = false := by rw [beq_eq_false_iff_ne]; omega
      have hs1 : ((s.length : Int) == 0) = true := by rw [beq_iff_eq]; omega
      clear hs0 hne
      gi_wp2
      gi_meet
      exact ⟨rfl, rfl⟩
    · have hs1 : ((s.length : Int) == 0) = false := by rw [beq_eq_false_iff_ne]; omega
      clear hs0 hne
      gi_wp2
      gi_meet
      exact ⟨rfl, rfl⟩
  case rest =>
    obtain ⟨rfl, rfl⟩ := hcut
    unfold RisP at HR
    gi_wp2_with (refine ⟨trivial, ?_⟩; gi_at_call 32; (with_reducible refine (callsIn_wide.2 HR.out).mono ?_); rintro e w2 ⟨b, rfl, hb, hbl⟩; obtain rfl : b = false := (by cases b; rfl; exact absurd (hb.out.1 rfl) HN.out); have HB2 := Lib.hid hbl; have k2 := boxed_below B2.out hbl; have k3 := boxed_below B3.out hbl; have d1 := k2.cell; have d2 := k2.frozen; have d3 := k3.cell; have d4 := k3.frozen; have K2 := Lib.hid k2; have K3 := Lib.hid k3; clear hb hbl k2 k3)
    have b2 : Boxed ((w2.setCell ⟨w.heap.size + 1, 0, none⟩ (.pointer none)).setCell ⟨w.heap.size + 1 + 1, 0, none⟩ (errV (some 3))) (w.heap.size + 1) 26 (.pointer none) := (K2.out.set _).kept (grownBy_setCell' _ _ _) (by simp)
    have b3 : Boxed ((w2.setCell ⟨w.heap.size + 1, 0, none⟩ (.pointer none)).setCell ⟨w.heap.size + 1 + 1, 0, none⟩ (errV (some 3))) (w.heap.size + 1 + 1) 34 (errV (some 3)) := (K3.out.kept (grownBy_setCell' _ _ _) (by simp)).set _
    exact ⟨_, results_cells2 rfl _ _ ⟨w.heap.size + 1, 0, none⟩ ⟨w.heap.size + 1 + 1, 0, none⟩ _ _ rfl rfl (load_box b2) (load_boxE b3), _, rfl, rfl, ((HB.out.trans (HB2.out.mono HB.out.size)).setCell (p := ⟨w.heap.size + 1, 0, none⟩) (by show w.heap.size ≤ w.heap.size + 1; omega) _).setCell (p := ⟨w.heap.size + 1 + 1, 0, none⟩) (by show w.heap.size ≤ w.heap.size + 1 + 1; omega) _⟩
theorem bd_end {w W : World} {D : Nat} {v ev : Value} {r : Option (Option AvT)} {fn : Func} {tmps : Array Value} (hfn : fn.results = #[.cell 4 26, .cell 5 34]) (h4 : tmps.getD 4 undef = .pointer (some ⟨w.heap.size + 1, 0, none⟩)) (h5 : tmps.getD 5 undef = .pointer (some ⟨w.heap.size + 1 + 1, 0, none⟩)) {rv re : Value}
    (b1 : Boxed W (w.heap.size + 1) 26 rv) (b2 : Boxed W (w.heap.size + 1 + 1) 34 re) (hb : Below w.heap.size w W) (hD : w.heap.size ≤ D) (hK : W.heap[D]? = some (.deferred (some []))) (he : ev = errV (errA r))
    (ht : ∀ X, (∀ (j : Nat) (cs : Array Value), W.heap[j]? = some (Obj.cells cs 79 (0, 0)) → X.heap[j]? = W.heap[j]?) → TreeO X v (r.getD none)) :
    ∃ x, (results fn tmps).run Tryd.prog ((((W.setCell ⟨w.heap.size + 1, 0, none⟩ v).setCell ⟨w.heap.size + 1 + 1, 0, none⟩ ev)).putObj D (.deferred none)) = .ok x ((((W.setCell ⟨w.heap.size + 1, 0, none⟩ v).setCell ⟨w.heap.size + 1 + 1, 0, none⟩ ev)).putObj D (.deferred none)) ∧ BdPost r w (.returned x) ((((W.setCell ⟨w.heap.size + 1, 0, none⟩ v).setCell ⟨w.heap.size + 1 + 1, 0, none⟩ ev)).putObj D (.deferred none)) := by
  have apD : ∀ {B : Nat} {T : TypeId} {u : Value}, Boxed W B T u → D ≠ B := fun hb e => by
    subst e
    rw [show W.heap[_]? = _ from hb] at hK; cases hK
  have hKf := ((KeepsOthers.setCell W ⟨w.heap.size + 1, 0, none⟩ v).trans (KeepsOthers.setCell _ ⟨w.heap.size + 1 + 1, 0, none⟩ ev)).same D _ hK rfl
  have g0 := grownBy_setCell' W (w.heap.size + 1) v
  have g1 := grownBy_setCell' (W.setCell ⟨w.heap.size + 1, 0, none⟩ v) (w.heap.size + 1 + 1) ev
  have g2 := grownBy_putObj' ((W.setCell ⟨w.heap.size + 1, 0, none⟩ v).setCell ⟨w.heap.size + 1 + 1, 0, none⟩ ev) D (.deferred none)
  have k1 := ((b1.set v).kept g1 (by simp)).kept g2 (by have := apD b1; simp; omega)
  have k2 := ((b2.kept g0 (by simp)).set ev).kept g2 (by have := apD b2; simp; omega)
  have hbf := (hb.setCell (p := ⟨w.heap.size + 1, 0, none⟩) (by show w.heap.size ≤ w.heap.size + 1; omega) v).setCell (p := ⟨w.heap.size + 1 + 1, 0, none⟩) (by show w.heap.size ≤ w.heap.size + 1 + 1; omega) ev
  refine ⟨_, results_cells2 hfn _ _ ⟨w.heap.size + 1, 0, none⟩ ⟨w.heap.size + 1 + 1, 0, none⟩ _ _ h4 h5 (load_box k1) (load_boxE k2), v, by rw [he], ht _ fun j cs hj => ?_, hbf.trans (belowK_b (w := w) (Nat.le_refl _) _ D _ _ hD hKf rfl rfl)⟩
  have n1 : some j ≠ some (w.heap.size + 1) := fun e => by
    injection e with e; subst e
    have := (show W.heap[_]? = _ from b1).symm.trans hj
    simp at this
  have n2 : some j ≠ some (w.heap.size + 1 + 1) := fun e => by
    injection e with e; subst e
    have := (show W.heap[_]? = _ from b2).symm.trans hj
    simp at this
  have n3 : some j ≠ some D := fun e => by
    injection e with e; subst e
    rw [hj] at hK; cases hK
  have hlt := (Array.getElem?_eq_some_iff.1 hj).1
  have h1 := g0.block j hlt n1
  have h2 := g1.block j (Nat.lt_of_lt_of_le hlt g0.size) n2
  have h3 := g2.block j (Nat.lt_of_lt_of_le (Nat.lt_of_lt_of_le hlt g0.size) g1.size) n3
  exact h3.trans (h2.trans h1)
set_option maxHeartbeats 4000000 in
theorem build_ris (vs va : Value) (s : List Bool) (L : List KV) (w : World) (he : Env w) (hs : BlIn w vs s) (ha : KVIn w va L) (hne : ¬ (s.length = 0 ∧ L.length = 0)) (hr : Ris L) (hsl : s.length ≤ 1048576) (hll : L.length ≤ 1048576) (hz : ∀ p ∈ L, p.1.size + p.2.size ≤ 140737488351232) :
    Calls Tryd.prog 8 #[vs, va] w (BdPost ((buildP s L).map some) w) := by
  obtain ⟨b1, b2, b3, hb, hsz⟩ := bd_start w va
  have HA := Lib.hid ha
  have HA1 := Lib.hid (ha.below hb)
  have HS := Lib.hid hs
  have HE := Lib.hid he
  have HZ := Lib.hid hz
  obtain ⟨aa, ac, rfl⟩ := ha.len
  obtain ⟨sa, sc, rfl⟩ := hs.len
  have HR := Lib.hid (rising_any _ L _ HA1.out)
  have HN := Lib.hid hr
  clear ha hs hr he hz
  refine (callsIn_wide (n := 5)).1 ?_
  refine callsIn_of_wp_marks Tryd.func8 rfl trivial ?_ rfl
  simp only [Tryd.ntmps8, List.size_toArray, List.length_cons, List.length_nil, Nat.reduceAdd, Nat.reduceSub, Array.replicate_succ, Array.replicate_zero, List.push_toArray, List.append_toArray, List.nil_append, List.cons_append]
  gi_upto_region 1 with (fail)
  unfold bdW at *
  generalize ((w.alloc (.cells #[.slice aa L.length ac] 24)).alloc (.cells #[.pointer none] 26)).alloc (.cells #[.nilIface] 34) = W1 at *
  have c1 := b1.cell
  have HB := Lib.hid hb
  have HSZ := Lib.hid hsz
  have B1 := Lib.hid b1
  have B2 := Lib.hid b2
  have B3 := Lib.hid b3
  clear b1 b2 b3 hb hsz
  gi_cut [18] from 11 (fun s18 wx => s18 = .bool false ∧ wx = W1)
  case first =>
    by_cases hs0 : s.length = 0
    · have hl0 : ((L.length : Int) == 0) = false := by rw [beq_eq_false_iff_ne]; omega
      have hs1 : ((s.length : Int) == 0) = true := by rw [beq_iff_eq]; omega
      clear hs0 hne
      gi_wp2
      gi_meet
      exact ⟨rfl, rfl⟩
    · have hs1 : ((s.length : Int) == 0) = false := by rw [beq_eq_false_iff_ne]; omega
      clear hs0 hne
      gi_wp2
      gi_meet
      exact ⟨rfl, rfl⟩
  case rest =>
    obtain ⟨rfl, rfl⟩ := hcut
    unfold RisP at HR
    gi_upto_region 5 with (refine ⟨trivial, ?_⟩; gi_at_call 32; (with_reducible refine (callsIn_wide.2 HR.out).mono ?_); rintro e w2 ⟨b, rfl, hb, hbl⟩; obtain rfl : b = true := hb.out.2 HN.out; have HB2 := Lib.hid hbl; clear hb hbl)
    clear c1
    have b1 := boxed_below B1.out HB2.out
    have b2 := boxed_below B2.out HB2.out
    have b3 := boxed_below B3.out HB2.out
    have hbw := HB.out.trans (HB2.out.mono HB.out.size)
    have hsz2 : w.heap.size + 3 ≤ w2.heap.size := by have := HB2.out.size; have := HSZ.out; omega
    have HSZ2 := Lib.hid hsz2
    have M0 : BdM w ((w2.alloc (.cells #[.slice none 0 0] 82)).alloc (.cells #[.slice sa s.length sc] 23)) (w2.heap.size + 1) (.slice sa s.length sc) w2.heap.size aa ac L.length (.slice none 0 0) [] [] := by
      have p := (Boxed.new w2 82 (.slice none 0 0)).alloc (.cells #[.slice sa s.length sc] 23)
      have q := Boxed.new (w2.alloc (.cells #[.slice none 0 0] 82)) 23 (.slice sa s.length sc)
      rw [World.size_alloc] at q
      exact ⟨q, (b1.alloc _).alloc _, (b2.alloc _).alloc _, (b3.alloc _).alloc _, p, World.ownsRow_nil _ _ _ _, trivial, (hbw.alloc (by omega) _).alloc (by simp; omega) _, hsz2, by omega⟩
    have HM := Lib.hid M0
    clear b1 b2 b3 hbw M0
    gi_wp2_with (refine ⟨trivial, ?_⟩; gi_at_call 33; (with_reducible refine (mkBack_in _ _ _ _ _).mono ?_); rintro e w' ⟨rfl, rfl⟩)
    have hsz0 : ((w2.alloc (.cells #[.slice none 0 0] 82)).alloc (.cells #[.slice sa s.length sc] 23)).heap.size = w2.heap.size + 2 := by simp
    generalize (w2.alloc (.cells #[.slice none 0 0] 82)).alloc (.cells #[.slice sa s.length sc] 23) = W0 at *
    -- LOOP
    obtain ⟨B6, hB6⟩ : ∃ b, b = w2.heap.size := ⟨_, rfl⟩
    have HB6 := Lib.hid hB6
    have HSZ0 := Lib.hid hsz0
    have hD : w.heap.size ≤ W0.heap.size := by have := HSZ2.out; omega
    have HD := Lib.hid hD
    refine wpIn_rangeFunc_ownF rfl (by omega) (gf := 58) (lb := #[.pointer (some ⟨w2.heap.size + 1, 0, none⟩)]) rfl trivial (enters_of Tryd.func58 (by kernel_rfl) rfl)
      (show SeqStopsK Fence.wide (5 - 1) Tryd.prog 58 #[.pointer (some ⟨w2.heap.size + 1, 0, none⟩)] (fun x : BX => #[Value.int .i64 (x.1 : Int), Value.bool x.2]) (KpB w.heap.size (w2.heap.size + 1)) (fun ys => ys = bwd s s.length) (fun pre => pre <+: bwd s s.length) s.length W0 from
        fun l J Jx W hW hJ _ hY h0 => back_in l w.heap.size J Jx s sa sc (w2.heap.size + 1) (5 - 1) W (boxed_below HM.out.box hW) (HS.out.below (HM.out.below.trans (hW.mono hD))) (by omega) (fun b o e hne => by
          obtain ⟨b', o', e', hb', _⟩ := HS.out.at 0 (s[0]'(by cases s; exact absurd rfl hne; simp)) (by simp)
          rw [e] at e'; injection e' with e'; injection e' with e'; omega) hY h0)
      KpB.trans (KpB.obj hD (by rw [hsz0]; omega)) (Below.refl _ _) (fun _ => rfl)
      (fun pre W => ∃ (k : Nat) (vp : Value) (gs : List Nat) (st : List AvT), (bfold (pre.map (·.2)) ([], L.reverse) = some (st, (L.take k).reverse) ∧ k ≤ L.length) ∧ BdM w W (w2.heap.size + 1) (.slice sa s.length sc) w2.heap.size aa ac k vp gs st)
      (fun c pre W => (c = .ret ∧ bfold (pre.map (·.2)) ([], L.reverse) = none) ∧ Boxed W (w.heap.size + 1) 26 (.pointer none) ∧ Boxed W (w.heap.size + 1 + 1) 34 (errV (some 3)) ∧ Below w.heap.size w W)
      (fun pre X Y row h hg hr => by obtain ⟨k, vp, gs, st, h, M⟩ := h; exact ⟨k, vp, gs, st, h, M.ownF hD hg hr⟩)
      (fun c pre X Y row h hg hr => by
        obtain ⟨h, b1, b2, hb⟩ := h
        have ap : ∀ {B : Nat} {T : TypeId} {v : Value}, Boxed X B T v → some B ≠ row := fun hb e => by
          obtain ⟨_, o, ho, hc⟩ := hr _ e.symm
          rw [show X.heap[_]? = _ from hb] at ho; cases ho; cases hc
        exact ⟨h, b1.kept hg (ap b1), b2.kept hg (ap b2), hb.grown hg hb.size (fun r e => Nat.le_trans hD (hr r e).1)⟩)
      ⟨L.length, _, [], [], ⟨by simp [bfold], Nat.le_refl _⟩, HM.out⟩
      (fun x : BX => { tmps := #[.slice sa s.length sc, .slice aa L.length ac, undef, .pointer (some ⟨w.heap.size, 0, none⟩), .pointer (some ⟨w.heap.size + 1, 0, none⟩), .pointer (some ⟨w.heap.size + 1 + 1, 0, none⟩), .pointer (some ⟨w2.heap.size, 0, none⟩), undef, .bool x.2, undef, undef, u11, u12, u13, u14, u15, u16, u17, .bool false, .slice aa L.length ac, .bool true, .bool false, u22, .slice sa s.length sc, .func (.func 58) #[] #[.pointer (some ⟨w2.heap.size + 1, 0, none⟩)], .int .i64 (x.1 : Int), .bool x.2, u27, u28, u29, u30, u31, u32, u33, u34, u35, u36, u37, u38, u39, u40, u41, u42, u43, u44, u45, u46, u47, u48, u49, u50, u51, u52, u53, u54, u55, u56, u57, u58, u59, u60, u61, u62, u63, u64, u65, u66, u67, u68, u69, u70, u71, u72, u73, u74, u75, u76, u77, u78, u79, u80, u81, u82, u83, u84, u85, u86, u87, u88, u89, u90, u91, u92, u93, u94, u95, u96, u97], defers := [] })
      ?assign ?body ?done ?stop
    case assign =>
      intro l x W K hK
      gi_wp2
      exact hK
    case body =>
      rintro l pre ⟨xi, xb⟩ W ⟨k, vp, gs, st, ⟨hbf, hk⟩, M⟩ hlt
      have M2 := Lib.hid M
      have HBF := Lib.hid hbf
      have HGL := Lib.hid (show gs.length ≤ 1048576 by have h1 := bfold_count hbf; have h2 := stack_len st; have h3 := M.trees.len; rw [List.length_reverse] at h1 h3; rw [List.length_reverse] at h1; omega)
      obtain ⟨pa, pc, rfl⟩ := owns_wide_pt M.own

      have hsw : w.heap.size ≤ W.heap.size := M.below.size
      cases xb with
      | false =>
        cases k with
        | zero =>
          have c3 := M.l.cell
          have c4 := M.r.cell
          have d4 := M.r.frozen
          have c5 := M.e.cell
          have d5 := M.e.frozen
          clear M hbf hk hlt
          gi_wp2
          have hbn : bfold ((pre ++ [(xi, false)]).map (·.2)) ([], L.reverse) = none := by
            rw [List.map_append, List.map_singleton, bfold_snoc, HBF.out]; rfl
          exact ⟨(KeepsOthers.setCell _ _ _).trans (KeepsOthers.setCell _ _ _), ⟨rfl, hbn⟩, (M2.out.r.set _).kept (grownBy_setCell' _ _ _) (by simp), (M2.out.e.kept (grownBy_setCell' _ _ _) (by simp)).set _, (M2.out.below.setCell (p := ⟨w.heap.size + 1, 0, none⟩) (by show w.heap.size ≤ w.heap.size + 1; omega) _).setCell (p := ⟨w.heap.size + 1 + 1, 0, none⟩) (by show w.heap.size ≤ w.heap.size + 1 + 1; omega) _⟩
        | succ j =>
          obtain ⟨q, hq⟩ : ∃ q, L[j]? = some q := ⟨L[j], List.getElem?_eq_getElem (by omega)⟩
          obtain ⟨ab, ao, rfl, hab, p0, p1⟩ := HA.out.at j q hq
          have c3 := M.l.cell
          have x0 := (M.below.cell (p := ⟨ab, ao + j * 2, none⟩) hab).trans p0
          have x1 := (M.below.cell (p := ⟨ab, ao + j * 2 + 1, none⟩) hab).trans p1
          have hjI : (j : Int) < (j : Int) + 1 := by omega
          clear M hbf hlt p0 p1
          gi_upto_region 12 with (fail)
          clear c3 x0 x1
          have M1 := Lib.hid ((M2.out.call (below_alloc W (.cells #[.string q.1, .string q.2] 87))).drew)
          have HKO1 := Lib.hid (show KeepsOthers W (W.alloc (.cells #[.string q.1, .string q.2] 87)).drew from (KeepsOthers.alloc _ _).trans (KeepsOthers.drew _))
          have HC := Lib.hid (heap_alloc_new W (.cells #[.string q.1, .string q.2] 87))
          have HWS := Lib.hid (show W.heap.size < (W.alloc (.cells #[.string q.1, .string q.2] 87)).drew.heap.size by show W.heap.size < (W.alloc _).heap.size; simp)
          have hsl := fun w => sliceK_first ab ao (j + 1) ac j (by obtain ⟨_, _, e, hc, _⟩ := HA.out; injection e with _ _ e3; omega) w
          have HQZ := Lib.hid (HZ.out q (List.mem_of_getElem? hq))
          have HQ := Lib.hid hq
          have hwr : IntKind.i64.wrap (j : Int) = (j : Int) := wrap_i64 j (by omega)
          clear hq
          refine wpIn_region_K (fun | false => fun X => X.cell? ⟨w2.heap.size, 0, none⟩ = some (.slice pa gs.length pc) ∧ X.cell? ⟨W.heap.size, 0, none⟩ = some (.string q.1) ∧ X.cell? ⟨W.heap.size, 1, none⟩ = some (.string q.2) | true => fun X => X.cell? ⟨w.heap.size, 0, none⟩ = some (.slice (some ⟨ab, ao, none⟩) (j + 1) ac)) (fun | false => [2, 4, 5, 6] | true => [0, 2, 4, 5, 6, 7, 8, 13]) (by kernel_rfl) (by kernel_rfl) (by rintro ⟨a', w', h'⟩; exact h') ?_
          have HF := Lib.hid (show (W.alloc (.cells #[.string q.1, .string q.2] 87)).drew.cell? ⟨w2.heap.size, 0, none⟩ = some (.slice pa gs.length pc) ∧ (W.alloc (.cells #[.string q.1, .string q.2] 87)).drew.cell? ⟨W.heap.size, 0, none⟩ = some (.string q.1) ∧ (W.alloc (.cells #[.string q.1, .string q.2] 87)).drew.cell? ⟨W.heap.size, 1, none⟩ = some (.string q.2) from ⟨M1.out.p.cell, cell_of_row _ _ 0 _ _ _ HC.out, cell_of_row _ _ 1 _ _ _ HC.out⟩)
          generalize (W.alloc (.cells #[.string q.1, .string q.2] 87)).drew = W3 at *
          have HFT := Lib.hid (show ∀ X, Below W3.heap.size W3 X → (X.cell? ⟨w2.heap.size, 0, none⟩ = some (.slice pa gs.length pc) ∧ X.cell? ⟨W.heap.size, 0, none⟩ = some (.string q.1) ∧ X.cell? ⟨W.heap.size, 1, none⟩ = some (.string q.2)) ∧ X.cell? ⟨w.heap.size, 0, none⟩ = some (.slice (some ⟨ab, ao, none⟩) (j + 1) ac) from fun X hb =>
            ⟨⟨(hb.cell (p := ⟨w2.heap.size, 0, none⟩) M1.out.p.lt).trans HF.out.1, (hb.cell (p := ⟨W.heap.size, 0, none⟩) HWS.out).trans HF.out.2.1, (hb.cell (p := ⟨W.heap.size, 1, none⟩) HWS.out).trans HF.out.2.2⟩, (hb.cell (p := ⟨w.heap.size, 0, none⟩) M1.out.l.lt).trans M1.out.l.cell⟩)
          have HS3 := Lib.hid (HFT.out _ (Below.refl _ _))
          refine anyK_takeY (i := 1) (v := .pointer (some ⟨W.heap.size, 0, none⟩)) rfl (by kernel_rfl) (by kernel_rfl) (by kernel_rfl) (fun _ _ _ h => h) (by intro k; cases k <;> kernel_rfl) (Or.inl ⟨by rfl, by intro w; go_simp⟩) ?_
          try simp only [List.getElem_toArray, List.getElem_cons_succ, List.getElem_cons_zero, Act.put, List.setIfInBounds_toArray, List.set_cons_zero, List.set_cons_succ]
          refine anyK_takeY (i := 3) (v := .pointer (some ⟨W.heap.size, 1, none⟩)) rfl (by kernel_rfl) (by kernel_rfl) (by kernel_rfl) (fun _ _ _ h => h) (by intro k; cases k <;> kernel_rfl) (Or.inl ⟨by rfl, by intro w; go_simp⟩) ?_
          try simp only [List.getElem_toArray, List.getElem_cons_succ, List.getElem_cons_zero, Act.put, List.setIfInBounds_toArray, List.set_cons_zero, List.set_cons_succ]
          refine anyK_take true [10, 11, 12, 14] (i := 9) (v := .slice (some ⟨ab, ao, none⟩) (j + 1) ac) rfl (by kernel_rfl) (by kernel_rfl) (by kernel_rfl) (fun _ _ _ h => h) (by kernel_rfl) (Or.inl ⟨by rfl, fun w' hS => by have c : w'.cell? ⟨w.heap.size, 0, none⟩ = some (.slice (some ⟨ab, ao, none⟩) (j + 1) ac) := hS; go_simp⟩) (fun k => by cases k; exact HS3.out.1; exact HS3.out.2) ?_
          try simp only [List.getElem_toArray, List.getElem_cons_succ, List.getElem_cons_zero, Act.put, List.setIfInBounds_toArray, List.set_cons_zero, List.set_cons_succ]
          refine anyK_takeY (i := 10) (v := .int .i64 ((j : Int) + 1)) rfl (by kernel_rfl) (by kernel_rfl) (by kernel_rfl) (fun _ _ _ h => h) (by intro k; cases k <;> kernel_rfl) (Or.inl ⟨by rfl, by intro w; go_simp⟩) ?_
          try simp only [List.getElem_toArray, List.getElem_cons_succ, List.getElem_cons_zero, Act.put, List.setIfInBounds_toArray, List.set_cons_zero, List.set_cons_succ]
          refine anyK_takeY (i := 11) (v := .int .i64 (j : Int)) rfl (by kernel_rfl) (by kernel_rfl) (by kernel_rfl) (fun _ _ _ h => h) (by intro k; cases k <;> kernel_rfl) (Or.inl ⟨by rfl, by intro w; go_simp⟩) ?_
          try simp only [List.getElem_toArray, List.getElem_cons_succ, List.getElem_cons_zero, Act.put, List.setIfInBounds_toArray, List.set_cons_zero, List.set_cons_succ]
          refine anyK_take true [12, 14] (i := 8) (v := .slice (some ⟨ab, ao, none⟩) (j + 1) ac) rfl (by kernel_rfl) (by kernel_rfl) (by kernel_rfl) (fun _ _ _ h => h) (by kernel_rfl) (Or.inl ⟨by rfl, fun w' hS => by have c : w'.cell? ⟨w.heap.size, 0, none⟩ = some (.slice (some ⟨ab, ao, none⟩) (j + 1) ac) := hS; go_simp⟩) (fun k => by cases k; exact HS3.out.1; exact HS3.out.2) ?_
          try simp only [List.getElem_toArray, List.getElem_cons_succ, List.getElem_cons_zero, Act.put, List.setIfInBounds_toArray, List.set_cons_zero, List.set_cons_succ]
          refine anyK_takeY (i := 12) (v := .slice (some ⟨ab, ao, none⟩) j ac) rfl (by kernel_rfl) (by kernel_rfl) (by kernel_rfl) (fun _ _ _ h => h) (by intro k; cases k <;> kernel_rfl) (Or.inl ⟨by rfl, by intro w; go_simp⟩) ?_
          try simp only [List.getElem_toArray, List.getElem_cons_succ, List.getElem_cons_zero, Act.put, List.setIfInBounds_toArray, List.set_cons_zero, List.set_cons_succ]
          refine anyK_take false [7, 13, 14] (i := 0) (v := .slice pa gs.length pc) rfl (by kernel_rfl) (by kernel_rfl) (by kernel_rfl) (fun _ _ _ h => h) (by kernel_rfl) (Or.inl ⟨by rfl, fun w' hS => by have c : w'.cell? ⟨w2.heap.size, 0, none⟩ = some (.slice pa gs.length pc) := hS.1; go_simp⟩) (fun k => by cases k; exact HS3.out.1; exact HS3.out.2) ?_
          try simp only [List.getElem_toArray, List.getElem_cons_succ, List.getElem_cons_zero, Act.put, List.setIfInBounds_toArray, List.set_cons_zero, List.set_cons_succ]
          refine anyK_take false [5, 6, 7, 13, 14] (i := 2) (v := .string q.1) rfl (by kernel_rfl) (by kernel_rfl) (by kernel_rfl) (fun _ _ _ h => h) (by kernel_rfl) (Or.inl ⟨by rfl, fun w' hS => by have c : w'.cell? ⟨W.heap.size, 0, none⟩ = some (.string q.1) := hS.2.1; go_simp⟩) (fun k => by cases k; exact HS3.out.1; exact HS3.out.2) ?_
          try simp only [List.getElem_toArray, List.getElem_cons_succ, List.getElem_cons_zero, Act.put, List.setIfInBounds_toArray, List.set_cons_zero, List.set_cons_succ]
          refine anyK_take false [5, 6, 7, 13, 14] (i := 4) (v := .string q.2) rfl (by kernel_rfl) (by kernel_rfl) (by kernel_rfl) (fun _ _ _ h => h) (by kernel_rfl) (Or.inl ⟨by rfl, fun w' hS => by have c : w'.cell? ⟨W.heap.size, 1, none⟩ = some (.string q.2) := hS.2.2; go_simp⟩) (fun k => by cases k; exact HS3.out.1; exact HS3.out.2) ?_
          try simp only [List.getElem_toArray, List.getElem_cons_succ, List.getElem_cons_zero, Act.put, List.setIfInBounds_toArray, List.set_cons_zero, List.set_cons_succ]
          refine anyK_one (i := 5) (by kernel_rfl) rfl (fun K hK => ?_)
          rw [if_pos (by rfl)]
          try simp only [List.getElem_toArray, List.getElem_cons_succ, List.getElem_cons_zero]
          (go_simp; refine (mkLeaf_new q.1 q.2 W3 (HE.out.below M1.out.below HE.out.lt) HQZ.out).mono ?_; rintro e W4 ⟨g, rfl, ht, hb⟩; have HT := Lib.hid ht; have HB4 := Lib.hid hb; clear ht hb)
          refine hK _ _ (memK (HFT.out _ HB4.out).1 (HFT.out _ HB4.out).2) ?_
          clear hK K
          try simp only [List.getElem_toArray, List.getElem_cons_succ, List.getElem_cons_zero, Act.put, List.setIfInBounds_toArray, List.set_cons_zero, List.set_cons_succ]
          refine anyK_one (i := 6) (by kernel_rfl) rfl (fun K hK => ?_)
          rw [if_pos (by rfl)]
          try simp only [List.getElem_toArray, List.getElem_cons_succ, List.getElem_cons_zero]
          (refine wp_ptr1 (.tmp 44) rfl g rfl ?_; have HB5 := Lib.hid (HB4.out.trans ((below_alloc W4 (.cells #[ptrV g] 26)).mono HB4.out.size)))
          refine hK _ _ (memK (HFT.out _ HB5.out).1 (HFT.out _ HB5.out).2) ?_
          clear hK K
          try simp only [List.getElem_toArray, List.getElem_cons_succ, List.getElem_cons_zero, Act.put, List.setIfInBounds_toArray, List.set_cons_zero, List.set_cons_succ]
          refine anyK_one (i := 7) (by kernel_rfl) rfl (fun K hK => ?_)
          rw [if_pos (by rfl)]
          try simp only [List.getElem_toArray, List.getElem_cons_succ, List.getElem_cons_zero]
          (refine wp_append_ptr (.tmp 39) (.tmp 45) rfl rfl (w.heap.size + 3) (.slice pa gs.length pc) gs rfl (ownsRow_same M1.out.own fun i cs t hi => HB5.out.block i (Array.getElem?_eq_some_iff.1 hi).1) W4.heap.size g rfl (heap_alloc_new W4 _) (by have := HGL.out; omega) (by have h1 := HB5.out.size; have h2 := M1.out.p.lt; have h3 := M1.out.b6; omega) ?_; intro v6 W6 ho hgr; obtain ⟨xa, xc, hv6⟩ := owns_wide_pt ho; rw [show (gs ++ [g]).length = gs.length + 1 from by simp] at hv6; subst hv6; have HP := Lib.hid (M1.out.push HB4.out HT.out M1.out.own M1.out.trees hgr ho); clear ho hgr)
          refine hK _ _ (fun k hk => by { cases k with | false => cases hk | true => exact HP.out.2.2.2.2.cell }) ?_
          clear hK K
          try simp only [List.getElem_toArray, List.getElem_cons_succ, List.getElem_cons_zero, Act.put, List.setIfInBounds_toArray, List.set_cons_zero, List.set_cons_succ]
          refine anyK_one (i := 13) (by kernel_rfl) rfl (fun K hK => ?_)
          rw [if_pos (by rfl)]
          try simp only [List.getElem_toArray, List.getElem_cons_succ, List.getElem_cons_zero]
          (have k1 := HP.out.2.2.1.cell; have k2 := HP.out.2.2.1.frozen; go_simp; clear k1 k2)
          refine hK _ _ (fun k hk => by { cases k with | false => cases hk | true => exact HP.out.1.l.cell }) ?_
          clear hK K
          try simp only [List.getElem_toArray, List.getElem_cons_succ, List.getElem_cons_zero, Act.put, List.setIfInBounds_toArray, List.set_cons_zero, List.set_cons_succ]
          refine anyK_one (i := 14) (by kernel_rfl) rfl (fun K hK => ?_)
          rw [if_pos (by rfl)]
          try simp only [List.getElem_toArray, List.getElem_cons_succ, List.getElem_cons_zero]
          (have k1 := HP.out.1.l.cell; have k2 := HP.out.1.l.frozen; go_simp; clear k1 k2)
          refine hK _ _ (not_memK (by intro k; cases k <;> rfl)) ?_
          clear hK K
          try simp only [List.getElem_toArray, List.getElem_cons_succ, List.getElem_cons_zero, Act.put, List.setIfInBounds_toArray, List.set_cons_zero, List.set_cons_succ]
          refine anyK_done (by kernel_rfl) ?_ _
          gi_wp2
          have MF := HP.out.1.setL j
          have hko := (HKO1.out.trans HP.out.2.1).trans (KeepsOthers.setCell (W6.setCell ⟨w2.heap.size, 0, none⟩ (.slice xa (gs.length + 1) xc)) ⟨w.heap.size, 0, none⟩ (.slice (some ⟨ab, ao, none⟩) j ac))
          refine ⟨hko, kpb_of M2.out MF hko.size, j, _, gs ++ [g], .leaf q.1 q.2 :: st, ⟨?_, by omega⟩, MF⟩
          rw [List.map_append, List.map_singleton, bfold_snoc, HBF.out, List.take_add_one, HQ.out, Option.toList_some, List.reverse_append]
          rfl
      | true =>
        clear HA1 HR B1 HM
        by_cases hlen2 : gs.length < 2
        · have hbn : bfold ((pre ++ [(xi, true)]).map (·.2)) ([], L.reverse) = none := by
            have h3 := M.trees.len
            rw [List.length_reverse] at h3
            rw [List.map_append, List.map_singleton, bfold_snoc, HBF.out]
            match st, h3 with
            | [], _ => rfl
            | [a], _ => rfl
            | a :: b :: r, h3 => simp at h3; omega
          have HBN := Lib.hid hbn
          have c6 := M.p.cell
          obtain ⟨n, hn⟩ : ∃ n, n = gs.length := ⟨_, rfl⟩
          rw [← hn] at c6 hlen2
          have hn1 : IntKind.i64.wrap ((n : Int) - 2) = (n : Int) - 2 := IntWalk.i64_in _ (by omega)
          have hn2 : (n : Int) < 2 := by omega
          have hn3 : ((n : Int) - 2) < 0 := by omega
          clear M hbf hlt hn hbn
          gi_upto_region 14 with (fail)
          clear c6
          refine wpIn_region_T (fun _ => True) [] (by kernel_rfl) (by kernel_rfl) (by rintro ⟨a', w', h'⟩; exact h') ?_
          have M3 := Lib.hid M2.out.drew
          have HKO3 := Lib.hid (KeepsOthers.drew W)
          generalize W.drew = W3 at *
          refine anyT_takeY (i := 0) (v := .int .i64 ((n : Int) - 2)) rfl (by kernel_rfl) (by kernel_rfl) (by kernel_rfl) (fun _ _ _ h => h) (by kernel_rfl) (Or.inl ⟨by rfl, by intro w; go_simp⟩) ?_
          try simp only [List.getElem_toArray, List.getElem_cons_succ, List.getElem_cons_zero, Act.put, List.setIfInBounds_toArray, List.set_cons_zero, List.set_cons_succ]
          refine anyT_takeY (i := 1) (v := .bool true) rfl (by kernel_rfl) (by kernel_rfl) (by kernel_rfl) (fun _ _ _ h => h) (by kernel_rfl) (Or.inl ⟨by rfl, by intro w; go_simp⟩) ?_
          try simp only [List.getElem_toArray, List.getElem_cons_succ, List.getElem_cons_zero, Act.put, List.setIfInBounds_toArray, List.set_cons_zero, List.set_cons_succ]
          refine anyT_takeY (i := 2) (v := .bool true) rfl (by kernel_rfl) (by kernel_rfl) (by kernel_rfl) (fun _ _ _ h => h) (by kernel_rfl) (Or.inl ⟨by rfl, by intro w; go_simp⟩) ?_
          try simp only [List.getElem_toArray, List.getElem_cons_succ, List.getElem_cons_zero, Act.put, List.setIfInBounds_toArray, List.set_cons_zero, List.set_cons_succ]
          refine anyT_takeY (i := 3) (v := undef) rfl (by kernel_rfl) (by kernel_rfl) (by kernel_rfl) (fun _ _ _ h => h) (by kernel_rfl) (Or.inr ⟨by rfl, rfl⟩) ?_
          try simp only [List.getElem_toArray, List.getElem_cons_succ, List.getElem_cons_zero, Act.put, List.setIfInBounds_toArray, List.set_cons_zero, List.set_cons_succ]
          refine anyT_takeY (i := 4) (v := undef) rfl (by kernel_rfl) (by kernel_rfl) (by kernel_rfl) (fun _ _ _ h => h) (by kernel_rfl) (Or.inr ⟨by rfl, rfl⟩) ?_
          try simp only [List.getElem_toArray, List.getElem_cons_succ, List.getElem_cons_zero, Act.put, List.setIfInBounds_toArray, List.set_cons_zero, List.set_cons_succ]
          refine anyT_takeY (i := 5) (v := undef) rfl (by kernel_rfl) (by kernel_rfl) (by kernel_rfl) (fun _ _ _ h => h) (by kernel_rfl) (Or.inr ⟨by rfl, rfl⟩) ?_
          try simp only [List.getElem_toArray, List.getElem_cons_succ, List.getElem_cons_zero, Act.put, List.setIfInBounds_toArray, List.set_cons_zero, List.set_cons_succ]
          refine anyT_takeY (i := 6) (v := undef) rfl (by kernel_rfl) (by kernel_rfl) (by kernel_rfl) (fun _ _ _ h => h) (by kernel_rfl) (Or.inr ⟨by rfl, rfl⟩) ?_
          try simp only [List.getElem_toArray, List.getElem_cons_succ, List.getElem_cons_zero, Act.put, List.setIfInBounds_toArray, List.set_cons_zero, List.set_cons_succ]
          refine anyT_takeY (i := 7) (v := undef) rfl (by kernel_rfl) (by kernel_rfl) (by kernel_rfl) (fun _ _ _ h => h) (by kernel_rfl) (Or.inr ⟨by rfl, rfl⟩) ?_
          try simp only [List.getElem_toArray, List.getElem_cons_succ, List.getElem_cons_zero, Act.put, List.setIfInBounds_toArray, List.set_cons_zero, List.set_cons_succ]
          refine anyT_takeY (i := 8) (v := undef) rfl (by kernel_rfl) (by kernel_rfl) (by kernel_rfl) (fun _ _ _ h => h) (by kernel_rfl) (Or.inr ⟨by rfl, rfl⟩) ?_
          try simp only [List.getElem_toArray, List.getElem_cons_succ, List.getElem_cons_zero, Act.put, List.setIfInBounds_toArray, List.set_cons_zero, List.set_cons_succ]
          refine anyT_takeY (i := 9) (v := undef) rfl (by kernel_rfl) (by kernel_rfl) (by kernel_rfl) (fun _ _ _ h => h) (by kernel_rfl) (Or.inr ⟨by rfl, rfl⟩) ?_
          try simp only [List.getElem_toArray, List.getElem_cons_succ, List.getElem_cons_zero, Act.put, List.setIfInBounds_toArray, List.set_cons_zero, List.set_cons_succ]
          refine anyT_takeY (i := 10) (v := undef) rfl (by kernel_rfl) (by kernel_rfl) (by kernel_rfl) (fun _ _ _ h => h) (by kernel_rfl) (Or.inr ⟨by rfl, rfl⟩) ?_
          try simp only [List.getElem_toArray, List.getElem_cons_succ, List.getElem_cons_zero, Act.put, List.setIfInBounds_toArray, List.set_cons_zero, List.set_cons_succ]
          refine anyT_takeY (i := 11) (v := undef) rfl (by kernel_rfl) (by kernel_rfl) (by kernel_rfl) (fun _ _ _ h => h) (by kernel_rfl) (Or.inr ⟨by rfl, rfl⟩) ?_
          try simp only [List.getElem_toArray, List.getElem_cons_succ, List.getElem_cons_zero, Act.put, List.setIfInBounds_toArray, List.set_cons_zero, List.set_cons_succ]
          refine anyT_takeY (i := 12) (v := undef) rfl (by kernel_rfl) (by kernel_rfl) (by kernel_rfl) (fun _ _ _ h => h) (by kernel_rfl) (Or.inr ⟨by rfl, rfl⟩) ?_
          try simp only [List.getElem_toArray, List.getElem_cons_succ, List.getElem_cons_zero, Act.put, List.setIfInBounds_toArray, List.set_cons_zero, List.set_cons_succ]
          refine anyT_takeY (i := 13) (v := undef) rfl (by kernel_rfl) (by kernel_rfl) (by kernel_rfl) (fun _ _ _ h => h) (by kernel_rfl) (Or.inr ⟨by rfl, rfl⟩) ?_
          try simp only [List.getElem_toArray, List.getElem_cons_succ, List.getElem_cons_zero, Act.put, List.setIfInBounds_toArray, List.set_cons_zero, List.set_cons_succ]
          refine anyT_takeY (i := 14) (v := .bool true) rfl (by kernel_rfl) (by kernel_rfl) (by kernel_rfl) (fun _ _ _ h => h) (by kernel_rfl) (Or.inl ⟨by rfl, by intro w; go_simp⟩) ?_
          try simp only [List.getElem_toArray, List.getElem_cons_succ, List.getElem_cons_zero, Act.put, List.setIfInBounds_toArray, List.set_cons_zero, List.set_cons_succ]
          refine anyT_done (by kernel_rfl) ?_ _
          have c4 := M3.out.r.cell
          have d4 := M3.out.r.frozen
          have c5 := M3.out.e.cell
          have d5 := M3.out.e.frozen
          gi_wp2
          exact ⟨HKO3.out.trans ((KeepsOthers.setCell _ _ _).trans (KeepsOthers.setCell _ _ _)), ⟨rfl, HBN.out⟩, (M3.out.r.set _).kept (grownBy_setCell' _ _ _) (by simp), (M3.out.e.kept (grownBy_setCell' _ _ _) (by simp)).set _, (M3.out.below.setCell (p := ⟨w.heap.size + 1, 0, none⟩) (by show w.heap.size ≤ w.heap.size + 1; omega) _).setCell (p := ⟨w.heap.size + 1 + 1, 0, none⟩) (by show w.heap.size ≤ w.heap.size + 1 + 1; omega) _⟩
        · obtain ⟨a, b, r, rfl⟩ : ∃ a b r, st = a :: b :: r := by
            have h3 := M.trees.len
            rw [List.length_reverse] at h3
            match st, h3 with
            | [], h3 => rw [List.length_nil] at h3; omega
            | [a], h3 => rw [List.length_singleton] at h3; omega
            | a :: b :: r, _ => exact ⟨a, b, r, rfl⟩
          obtain ⟨ga, gb, gr, hgs⟩ : ∃ ga gb gr, gs.reverse = ga :: gb :: gr := by
            have h3 := M.trees.len
            generalize gs.reverse = X at h3
            match X, h3 with
            | [], h3 => simp at h3
            | [a], h3 => simp at h3
            | a :: b :: r, _ => exact ⟨a, b, r, rfl⟩
          have hgs2 : gs = gr.reverse ++ [gb, ga] := by
            have := congrArg List.reverse hgs
            simpa using this
          obtain ⟨G, hG⟩ : ∃ G, G = gr.reverse := ⟨_, rfl⟩
          rw [← hG] at hgs2
          subst hgs2
          have htr := M.trees
          rw [hgs] at htr
          obtain ⟨ta, tb, tr⟩ := htr
          have hgr : gr = G.reverse := by rw [hG, List.reverse_reverse]
          rw [hgr] at tr
          obtain ⟨m, hm⟩ : ∃ m, m = G.length := ⟨_, rfl⟩
          have hml : (G ++ [gb, ga]).length = m + 2 := by simp [hm]
          have hmB : m + 2 ≤ 1048576 := by have := HGL.out; omega
          have hown := M.own
          rw [hml] at hown
          obtain ⟨rb, rfl⟩ : ∃ rb, pa = some ⟨rb, 0, none⟩ := by
            rcases hown.2 with ⟨e, _⟩ | ⟨g, cap, cur, e, _⟩
            · injection e with _ e2 _; omega
            · injection e with e1 _ _; exact ⟨g, e1⟩
          have c6 := M.p.cell
          rw [hml] at c6
          have e0 : W.cell? ⟨rb, m, none⟩ = some (ptrV gb) := by
            have := hown.cells (g := rb) rfl m (ptrV gb) (by simp [ptrs, hm])
            rwa [Addr.add_mid, Nat.zero_add] at this
          have e1 : W.cell? ⟨rb, m + 1, none⟩ = some (ptrV ga) := by
            have := hown.cells (g := rb) rfl (m + 1) (ptrV ga) (by rw [ptrs, List.map_append, List.getElem?_append_right (by simp [hm])]; simp [hm])
            rwa [Addr.add_mid, Nat.zero_add] at this
          have hwm : IntKind.i64.wrap (m : Int) = (m : Int) := wrap_i64 m (by omega)
          have hwm1 : IntKind.i64.wrap ((m : Int) + 1) = (m : Int) + 1 := IntWalk.i64_in _ (by omega)
          have hmI0 : ¬ (m : Int) < 0 := by omega
          have hmI3 : ¬ (m : Int) + 1 < 0 := by omega
          have hmI1 : (m : Int) < (m : Int) + 2 := by omega
          have hmI2 : (m : Int) + 1 < (m : Int) + 2 := by omega
          have hmany := stack_two a b r
          have hcnt := bfold_count hbf
          have hmy : a.many + b.many ≤ 1048576 := by rw [List.length_reverse] at hcnt; omega
          have HMY := Lib.hid hmy
          have HBAL := Lib.hid (balanced_any ga gb a b)
          have HTA := Lib.hid ta
          have HTB := Lib.hid tb
          have HTR := Lib.hid tr
          have HCUT := Lib.hid (ownsRow_take1 hown (show m ≤ m + 2 by omega) (by omega))
          have hsl := fun w => sliceP_first rb 0 (m + 2) pc m (by obtain ⟨_, h⟩ := hown; rcases h with ⟨e, _⟩ | ⟨g, cap, cur, e, _, _, hc, _⟩; injection e with _ e2 _; omega; injection e with _ _ e3; omega) w
          have HHT := Lib.hid (And.intro (show a.height ≤ 1099511627776 by have := a.height_le; omega) (show b.height ≤ 1099511627776 by have := b.height_le; omega))
          have HMG := Lib.hid hm
          have HML := Lib.hid hml
          have HLT := Lib.hid (show rb < W.heap.size from World.block_lt_of_cell? W _ e0)
          have HFT := Lib.hid (show ∀ X, Below W.heap.size W X → X.cell? ⟨w2.heap.size, 0, none⟩ = some (.slice (some ⟨rb, 0, none⟩) (m + 2) pc) ∧ X.cell? ⟨rb, m, none⟩ = some (ptrV gb) ∧ X.cell? ⟨rb, m + 1, none⟩ = some (ptrV ga) from fun X hb =>
            ⟨(hb.cell (p := ⟨w2.heap.size, 0, none⟩) M2.out.p.lt).trans c6, (hb.cell (p := ⟨rb, m, none⟩) HLT.out).trans e0, (hb.cell (p := ⟨rb, m + 1, none⟩) HLT.out).trans e1⟩)
          clear M hbf hlt hgs ta tb tr hown hm hml hmany hcnt hmy hG hgr e0 e1
          gi_upto_region 14 with (fail)
          clear c6
          refine wpIn_region_T (fun X => X.cell? ⟨w2.heap.size, 0, none⟩ = some (.slice (some ⟨rb, 0, none⟩) (m + 2) pc) ∧ X.cell? ⟨rb, m, none⟩ = some (ptrV gb) ∧ X.cell? ⟨rb, m + 1, none⟩ = some (ptrV ga)) [3, 7, 8, 10, 11, 12] (by kernel_rfl) (by kernel_rfl) (by rintro ⟨a', w', h'⟩; exact h') ?_
          have HB3 := Lib.hid (show Below W.heap.size W W.drew from (Below.refl _ _).drew)
          have HKO3 := Lib.hid (KeepsOthers.drew W)
          generalize W.drew = W3 at *
          have M3 := Lib.hid (M2.out.call HB3.out)
          obtain ⟨nb, hnb⟩ : ∃ x, x = nearB a b := ⟨_, rfl⟩
          have HNB := Lib.hid hnb
          rw [← hnb] at HBAL
          clear hnb
          refine anyT_takeY (i := 0) (v := .int .i64 (m : Int)) rfl (by kernel_rfl) (by kernel_rfl) (by kernel_rfl) (fun _ _ _ h => h) (by kernel_rfl) (Or.inl ⟨by rfl, by intro w; go_simp⟩) ?_
          try simp only [List.getElem_toArray, List.getElem_cons_succ, List.getElem_cons_zero, Act.put, List.setIfInBounds_toArray, List.set_cons_zero, List.set_cons_succ]
          refine anyT_takeY (i := 1) (v := .bool false) rfl (by kernel_rfl) (by kernel_rfl) (by kernel_rfl) (fun _ _ _ h => h) (by kernel_rfl) (Or.inl ⟨by rfl, by intro w; go_simp⟩) ?_
          try simp only [List.getElem_toArray, List.getElem_cons_succ, List.getElem_cons_zero, Act.put, List.setIfInBounds_toArray, List.set_cons_zero, List.set_cons_succ]
          refine anyT_takeY (i := 2) (v := .bool false) rfl (by kernel_rfl) (by kernel_rfl) (by kernel_rfl) (fun _ _ _ h => h) (by kernel_rfl) (Or.inl ⟨by rfl, by intro w; go_simp⟩) ?_
          try simp only [List.getElem_toArray, List.getElem_cons_succ, List.getElem_cons_zero, Act.put, List.setIfInBounds_toArray, List.set_cons_zero, List.set_cons_succ]
          refine anyT_takeY (i := 4) (v := .int .i64 (m : Int)) rfl (by kernel_rfl) (by kernel_rfl) (by kernel_rfl) (fun _ _ _ h => h) (by kernel_rfl) (Or.inl ⟨by rfl, by intro w; go_simp⟩) ?_
          try simp only [List.getElem_toArray, List.getElem_cons_succ, List.getElem_cons_zero, Act.put, List.setIfInBounds_toArray, List.set_cons_zero, List.set_cons_succ]
          refine anyT_takeY (i := 5) (v := .int .i64 ((m : Int) + 1)) rfl (by kernel_rfl) (by kernel_rfl) (by kernel_rfl) (fun _ _ _ h => h) (by kernel_rfl) (Or.inl ⟨by rfl, by intro w; go_simp⟩) ?_
          try simp only [List.getElem_toArray, List.getElem_cons_succ, List.getElem_cons_zero, Act.put, List.setIfInBounds_toArray, List.set_cons_zero, List.set_cons_succ]
          refine anyT_takeY (i := 9) (v := .int .i64 (m : Int)) rfl (by kernel_rfl) (by kernel_rfl) (by kernel_rfl) (fun _ _ _ h => h) (by kernel_rfl) (Or.inl ⟨by rfl, by intro w; go_simp⟩) ?_
          try simp only [List.getElem_toArray, List.getElem_cons_succ, List.getElem_cons_zero, Act.put, List.setIfInBounds_toArray, List.set_cons_zero, List.set_cons_succ]
          refine anyT_take [6, 7, 12, 13, 14] (i := 3) (v := .slice (some ⟨rb, 0, none⟩) (m + 2) pc) rfl (by kernel_rfl) (by kernel_rfl) (by kernel_rfl) (fun _ _ _ h => h) (by kernel_rfl) (Or.inl ⟨by rfl, fun w' hS => by have c := hS.1; go_simp⟩) (HFT.out _ HB3.out) ?_
          try simp only [List.getElem_toArray, List.getElem_cons_succ, List.getElem_cons_zero, Act.put, List.setIfInBounds_toArray, List.set_cons_zero, List.set_cons_succ]
          refine anyT_takeY (i := 6) (v := .pointer (some ⟨rb, m + 1, none⟩)) rfl (by kernel_rfl) (by kernel_rfl) (by kernel_rfl) (fun _ _ _ h => h) (by kernel_rfl) (Or.inl ⟨by rfl, by intro w; go_simp⟩) ?_
          try simp only [List.getElem_toArray, List.getElem_cons_succ, List.getElem_cons_zero, Act.put, List.setIfInBounds_toArray, List.set_cons_zero, List.set_cons_succ]
          refine anyT_take [12, 13, 14] (i := 7) (v := ptrV ga) rfl (by kernel_rfl) (by kernel_rfl) (by kernel_rfl) (fun _ _ _ h => h) (by kernel_rfl) (Or.inl ⟨by rfl, fun w' hS => by have c := hS.2.2; unfold ptrV at *; go_simp⟩) (HFT.out _ HB3.out) ?_
          try simp only [List.getElem_toArray, List.getElem_cons_succ, List.getElem_cons_zero, Act.put, List.setIfInBounds_toArray, List.set_cons_zero, List.set_cons_succ]
          refine anyT_take [10, 11, 12, 13, 14] (i := 8) (v := .slice (some ⟨rb, 0, none⟩) (m + 2) pc) rfl (by kernel_rfl) (by kernel_rfl) (by kernel_rfl) (fun _ _ _ h => h) (by kernel_rfl) (Or.inl ⟨by rfl, fun w' hS => by have c := hS.1; go_simp⟩) (HFT.out _ HB3.out) ?_
          try simp only [List.getElem_toArray, List.getElem_cons_succ, List.getElem_cons_zero, Act.put, List.setIfInBounds_toArray, List.set_cons_zero, List.set_cons_succ]
          refine anyT_take [11, 12, 13, 14] (i := 10) (v := .pointer (some ⟨rb, m, none⟩)) rfl (by kernel_rfl) (by kernel_rfl) (by kernel_rfl) (fun _ _ _ h => h) (by kernel_rfl) (Or.inl ⟨by rfl, fun w' hS => by go_simp⟩) (HFT.out _ HB3.out) ?_
          try simp only [List.getElem_toArray, List.getElem_cons_succ, List.getElem_cons_zero, Act.put, List.setIfInBounds_toArray, List.set_cons_zero, List.set_cons_succ]
          refine anyT_take [12, 13, 14] (i := 11) (v := ptrV gb) rfl (by kernel_rfl) (by kernel_rfl) (by kernel_rfl) (fun _ _ _ h => h) (by kernel_rfl) (Or.inl ⟨by rfl, fun w' hS => by have c := hS.2.1; unfold ptrV at *; go_simp⟩) (HFT.out _ HB3.out) ?_
          try simp only [List.getElem_toArray, List.getElem_cons_succ, List.getElem_cons_zero, Act.put, List.setIfInBounds_toArray, List.set_cons_zero, List.set_cons_succ]
          refine anyT_one (i := 12) (by kernel_rfl) rfl (fun K hK => ?_)
          rw [if_pos (by rfl)]
          try simp only [List.getElem_toArray, List.getElem_cons_succ, List.getElem_cons_zero]
          (unfold ptrV; go_simp; refine (HBAL.out W3 (HTA.out.below HB3.out) (HTB.out.below HB3.out) HHT.out).mono ?_; rintro e W4 ⟨rfl, hb⟩; have HB4 := Lib.hid (HB3.out.trans (hb.mono HB3.out.size)); have HK4 := Lib.hid (show KeepsOthers W3 W4 from ⟨hb.size, fun i o hi _ => (hb.block i (Array.getElem?_eq_some_iff.1 hi).1).trans hi⟩); clear hb)
          refine hK _ _ (fun _ => HFT.out _ HB4.out) ?_
          clear hK K
          try simp only [List.getElem_toArray, List.getElem_cons_succ, List.getElem_cons_zero, Act.put, List.setIfInBounds_toArray, List.set_cons_zero, List.set_cons_succ]
          refine anyT_takeY (i := 13) (v := .bool (!nb)) rfl (by kernel_rfl) (by kernel_rfl) (by kernel_rfl) (fun _ _ _ h => h) (by kernel_rfl) (Or.inl ⟨by rfl, by intro w; go_simp⟩) ?_
          try simp only [List.getElem_toArray, List.getElem_cons_succ, List.getElem_cons_zero, Act.put, List.setIfInBounds_toArray, List.set_cons_zero, List.set_cons_succ]
          refine anyT_takeY (i := 14) (v := .bool (!nb)) rfl (by kernel_rfl) (by kernel_rfl) (by kernel_rfl) (fun _ _ _ h => h) (by kernel_rfl) (Or.inl ⟨by rfl, by intro w; go_simp⟩) ?_
          try simp only [List.getElem_toArray, List.getElem_cons_succ, List.getElem_cons_zero, Act.put, List.setIfInBounds_toArray, List.set_cons_zero, List.set_cons_succ]
          refine anyT_done (by kernel_rfl) ?_ _
          have M4 := Lib.hid (M2.out.call HB4.out)
          have HKO4 := Lib.hid (HKO3.out.trans HK4.out)
          cases nb with
          | false =>
            have hbn : bfold ((pre ++ [(xi, true)]).map (·.2)) ([], L.reverse) = none := by
              rw [List.map_append, List.map_singleton, bfold_snoc, HBF.out]
              simp only [Option.bind_some, bst, ← HNB.out]
              rfl
            have HBN := Lib.hid hbn
            have c4 := M4.out.r.cell
            have d4 := M4.out.r.frozen
            have c5 := M4.out.e.cell
            have d5 := M4.out.e.frozen
            clear hbn
            gi_wp2
            exact ⟨HKO4.out.trans ((KeepsOthers.setCell _ _ _).trans (KeepsOthers.setCell _ _ _)), ⟨rfl, HBN.out⟩, (M4.out.r.set _).kept (grownBy_setCell' _ _ _) (by simp), (M4.out.e.kept (grownBy_setCell' _ _ _) (by simp)).set _, (M4.out.below.setCell (p := ⟨w.heap.size + 1, 0, none⟩) (by show w.heap.size ≤ w.heap.size + 1; omega) _).setCell (p := ⟨w.heap.size + 1 + 1, 0, none⟩) (by show w.heap.size ≤ w.heap.size + 1 + 1; omega) _⟩
          | true =>
            gi_upto_region 16 with (fail)
            refine wpIn_region_T (fun X => X.cell? ⟨w2.heap.size, 0, none⟩ = some (.slice (some ⟨rb, 0, none⟩) (m + 2) pc) ∧ X.cell? ⟨rb, m, none⟩ = some (ptrV gb) ∧ X.cell? ⟨rb, m + 1, none⟩ = some (ptrV ga)) [0, 3, 6, 7, 8, 10, 11, 12, 13] (by kernel_rfl) (by kernel_rfl) (by rintro ⟨a', w', h'⟩; exact h') ?_
            have HB5 := Lib.hid (show Below W.heap.size W W4.drew from HB4.out.drew)
            have HKO5 := Lib.hid (HKO4.out.trans (KeepsOthers.drew W4))
            generalize W4.drew = W5 at *
            have M5 := Lib.hid (M2.out.call HB5.out)
            replace HCUT := Lib.hid (ownsRow_same HCUT.out fun i cs t hi => HB5.out.block i (Array.getElem?_eq_some_iff.1 hi).1)
            replace HCUT := Lib.hid (show W5.ownsRow (w.heap.size + 3) 26 1 (.slice (some ⟨rb, 0, none⟩) m pc) G.length (ptrs G) from by
              have := HCUT.out
              rw [show (ptrs (G ++ [gb, ga])).take m = ptrs G by rw [ptrs_append, List.take_append_of_le_length (by rw [ptrs_length, HMG.out]; exact Nat.le_refl _), List.take_of_length_le (by rw [ptrs_length, HMG.out]; exact Nat.le_refl _)]] at this
              rw [← HMG.out]; exact this)
            refine anyT_takeY (i := 1) (v := .int .i64 (m : Int)) rfl (by kernel_rfl) (by kernel_rfl) (by kernel_rfl) (fun _ _ _ h => h) (by kernel_rfl) (Or.inl ⟨by rfl, by intro w; go_simp⟩) ?_
            try simp only [List.getElem_toArray, List.getElem_cons_succ, List.getElem_cons_zero, Act.put, List.setIfInBounds_toArray, List.set_cons_zero, List.set_cons_succ]
            refine anyT_takeY (i := 4) (v := .int .i64 (m : Int)) rfl (by kernel_rfl) (by kernel_rfl) (by kernel_rfl) (fun _ _ _ h => h) (by kernel_rfl) (Or.inl ⟨by rfl, by intro w; go_simp⟩) ?_
            try simp only [List.getElem_toArray, List.getElem_cons_succ, List.getElem_cons_zero, Act.put, List.setIfInBounds_toArray, List.set_cons_zero, List.set_cons_succ]
            refine anyT_takeY (i := 5) (v := .int .i64 ((m : Int) + 1)) rfl (by kernel_rfl) (by kernel_rfl) (by kernel_rfl) (fun _ _ _ h => h) (by kernel_rfl) (Or.inl ⟨by rfl, by intro w; go_simp⟩) ?_
            try simp only [List.getElem_toArray, List.getElem_cons_succ, List.getElem_cons_zero, Act.put, List.setIfInBounds_toArray, List.set_cons_zero, List.set_cons_succ]
            refine anyT_takeY (i := 9) (v := .int .i64 (m : Int)) rfl (by kernel_rfl) (by kernel_rfl) (by kernel_rfl) (fun _ _ _ h => h) (by kernel_rfl) (Or.inl ⟨by rfl, by intro w; go_simp⟩) ?_
            try simp only [List.getElem_toArray, List.getElem_cons_succ, List.getElem_cons_zero, Act.put, List.setIfInBounds_toArray, List.set_cons_zero, List.set_cons_succ]
            refine anyT_take [2, 14, 15] (i := 0) (v := .slice (some ⟨rb, 0, none⟩) (m + 2) pc) rfl (by kernel_rfl) (by kernel_rfl) (by kernel_rfl) (fun _ _ _ h => h) (by kernel_rfl) (Or.inl ⟨by rfl, fun w' hS => by have c := hS.1; go_simp⟩) (HFT.out _ HB5.out) ?_
            try simp only [List.getElem_toArray, List.getElem_cons_succ, List.getElem_cons_zero, Act.put, List.setIfInBounds_toArray, List.set_cons_zero, List.set_cons_succ]
            refine anyT_takeY (i := 2) (v := .slice (some ⟨rb, 0, none⟩) m pc) rfl (by kernel_rfl) (by kernel_rfl) (by kernel_rfl) (fun _ _ _ h => h) (by kernel_rfl) (Or.inl ⟨by rfl, by intro w; go_simp⟩) ?_
            try simp only [List.getElem_toArray, List.getElem_cons_succ, List.getElem_cons_zero, Act.put, List.setIfInBounds_toArray, List.set_cons_zero, List.set_cons_succ]
            refine anyT_take [6, 7, 12, 13, 14, 15] (i := 3) (v := .slice (some ⟨rb, 0, none⟩) (m + 2) pc) rfl (by kernel_rfl) (by kernel_rfl) (by kernel_rfl) (fun _ _ _ h => h) (by kernel_rfl) (Or.inl ⟨by rfl, fun w' hS => by have c := hS.1; go_simp⟩) (HFT.out _ HB5.out) ?_
            try simp only [List.getElem_toArray, List.getElem_cons_succ, List.getElem_cons_zero, Act.put, List.setIfInBounds_toArray, List.set_cons_zero, List.set_cons_succ]
            refine anyT_take [7, 12, 13, 14, 15] (i := 6) (v := .pointer (some ⟨rb, m + 1, none⟩)) rfl (by kernel_rfl) (by kernel_rfl) (by kernel_rfl) (fun _ _ _ h => h) (by kernel_rfl) (Or.inl ⟨by rfl, fun w' hS => by go_simp⟩) (HFT.out _ HB5.out) ?_
            try simp only [List.getElem_toArray, List.getElem_cons_succ, List.getElem_cons_zero, Act.put, List.setIfInBounds_toArray, List.set_cons_zero, List.set_cons_succ]
            refine anyT_take [12, 13, 14, 15] (i := 7) (v := ptrV ga) rfl (by kernel_rfl) (by kernel_rfl) (by kernel_rfl) (fun _ _ _ h => h) (by kernel_rfl) (Or.inl ⟨by rfl, fun w' hS => by have c := hS.2.2; unfold ptrV at *; go_simp⟩) (HFT.out _ HB5.out) ?_
            try simp only [List.getElem_toArray, List.getElem_cons_succ, List.getElem_cons_zero, Act.put, List.setIfInBounds_toArray, List.set_cons_zero, List.set_cons_succ]
            refine anyT_take [10, 11, 12, 13, 14, 15] (i := 8) (v := .slice (some ⟨rb, 0, none⟩) (m + 2) pc) rfl (by kernel_rfl) (by kernel_rfl) (by kernel_rfl) (fun _ _ _ h => h) (by kernel_rfl) (Or.inl ⟨by rfl, fun w' hS => by have c := hS.1; go_simp⟩) (HFT.out _ HB5.out) ?_
            try simp only [List.getElem_toArray, List.getElem_cons_succ, List.getElem_cons_zero, Act.put, List.setIfInBounds_toArray, List.set_cons_zero, List.set_cons_succ]
            refine anyT_take [11, 12, 13, 14, 15] (i := 10) (v := .pointer (some ⟨rb, m, none⟩)) rfl (by kernel_rfl) (by kernel_rfl) (by kernel_rfl) (fun _ _ _ h => h) (by kernel_rfl) (Or.inl ⟨by rfl, fun w' hS => by go_simp⟩) (HFT.out _ HB5.out) ?_
            try simp only [List.getElem_toArray, List.getElem_cons_succ, List.getElem_cons_zero, Act.put, List.setIfInBounds_toArray, List.set_cons_zero, List.set_cons_succ]
            refine anyT_take [12, 13, 14, 15] (i := 11) (v := ptrV gb) rfl (by kernel_rfl) (by kernel_rfl) (by kernel_rfl) (fun _ _ _ h => h) (by kernel_rfl) (Or.inl ⟨by rfl, fun w' hS => by have c := hS.2.1; unfold ptrV at *; go_simp⟩) (HFT.out _ HB5.out) ?_
            try simp only [List.getElem_toArray, List.getElem_cons_succ, List.getElem_cons_zero, Act.put, List.setIfInBounds_toArray, List.set_cons_zero, List.set_cons_succ]
            refine anyT_one (i := 12) (by kernel_rfl) rfl (fun K hK => ?_)
            rw [if_pos (by rfl)]
            try simp only [List.getElem_toArray, List.getElem_cons_succ, List.getElem_cons_zero]
            (unfold ptrV; go_simp; refine (mkNode_new ga gb a b W5 (HE.out.below M5.out.below HE.out.lt) (HTA.out.below HB5.out) (HTB.out.below HB5.out) (by have := HMY.out; omega)).mono ?_; rintro e W6 ⟨g, rfl, ht, hb⟩; have HT := Lib.hid ht; have HB6 := Lib.hid hb; have HB6W := Lib.hid (HB5.out.trans (hb.mono HB5.out.size)); clear ht hb)
            refine hK _ _ (fun _ => HFT.out _ HB6W.out) ?_
            clear hK K
            try simp only [List.getElem_toArray, List.getElem_cons_succ, List.getElem_cons_zero, Act.put, List.setIfInBounds_toArray, List.set_cons_zero, List.set_cons_succ]
            refine anyT_one (i := 13) (by kernel_rfl) rfl (fun K hK => ?_)
            rw [if_pos (by rfl)]
            try simp only [List.getElem_toArray, List.getElem_cons_succ, List.getElem_cons_zero]
            (refine wp_ptr1 (.tmp 83) rfl g rfl ?_; have HB7W := Lib.hid (HB6W.out.trans ((below_alloc W6 (.cells #[ptrV g] 26)).mono HB6W.out.size)))
            refine hK _ _ (fun _ => HFT.out _ HB7W.out) ?_
            clear hK K
            try simp only [List.getElem_toArray, List.getElem_cons_succ, List.getElem_cons_zero, Act.put, List.setIfInBounds_toArray, List.set_cons_zero, List.set_cons_succ]
            refine anyT_one (i := 14) (by kernel_rfl) rfl (fun K hK => ?_)
            rw [if_pos (by rfl)]
            try simp only [List.getElem_toArray, List.getElem_cons_succ, List.getElem_cons_zero]
            (refine wp_append_ptr (.tmp 73) (.tmp 84) rfl rfl (w.heap.size + 3) (.slice (some ⟨rb, 0, none⟩) m pc) G rfl (ownsRow_same HCUT.out fun i cs t hi => (HB6.out.trans ((below_alloc W6 (.cells #[ptrV g] 26)).mono HB6.out.size)).block i (Array.getElem?_eq_some_iff.1 hi).1) W6.heap.size g rfl (heap_alloc_new W6 _) (by have := HMG.out; omega) (by have h1 := HB7W.out.size; have h2 := M2.out.p.lt; have h3 := M2.out.b6; omega) ?_; intro v8 W8 ho hgr; obtain ⟨xa, xc, hv8⟩ := owns_wide_pt ho; rw [show (G ++ [g]).length = m + 1 from by rw [HMG.out]; simp] at hv8; subst hv8; have HP := Lib.hid (M5.out.push HB6.out HT.out HCUT.out (all2_kt (fun i cs hi => HB5.out.block i (Array.getElem?_eq_some_iff.1 hi).1) HTR.out) hgr ho); clear ho hgr)
            refine hK _ _ (not_mem rfl) ?_
            clear hK K
            try simp only [List.getElem_toArray, List.getElem_cons_succ, List.getElem_cons_zero, Act.put, List.setIfInBounds_toArray, List.set_cons_zero, List.set_cons_succ]
            refine anyT_one (i := 15) (by kernel_rfl) rfl (fun K hK => ?_)
            rw [if_pos (by rfl)]
            try simp only [List.getElem_toArray, List.getElem_cons_succ, List.getElem_cons_zero]
            (have k1 := HP.out.2.2.1.cell; have k2 := HP.out.2.2.1.frozen; go_simp; clear k1 k2)
            refine hK _ _ (not_mem rfl) ?_
            clear hK K
            try simp only [List.getElem_toArray, List.getElem_cons_succ, List.getElem_cons_zero, Act.put, List.setIfInBounds_toArray, List.set_cons_zero, List.set_cons_succ]
            refine anyT_done (by kernel_rfl) ?_ _
            gi_wp2
            have hko := HKO5.out.trans HP.out.2.1
            refine ⟨hko, kpb_of M2.out HP.out.1 hko.size, k, _, G ++ [g], .node a b :: r, ⟨?_, hk⟩, HP.out.1⟩
            rw [List.map_append, List.map_singleton, bfold_snoc, HBF.out]
            simp only [Option.bind_some, bst, ← HNB.out, if_true]
    case done =>
      rintro D ys W hD1 rfl ⟨k, vp, gs, st, ⟨hbf, hk⟩, M⟩ hK
      rw [bwd_vals] at hbf
      have hlen := M.trees.len
      rw [List.length_reverse] at hlen
      obtain ⟨pa, pc, rfl⟩ := owns_wide_pt M.own
      have c6 := M.p.cell
      have c3 := M.l.cell
      have c4 := M.r.cell
      have d4 := M.r.frozen
      have c5 := M.e.cell
      have d5 := M.e.frozen
      have HK := Lib.hid hK
      have HM := Lib.hid M
      have HBF := Lib.hid hbf
      have HLEN := Lib.hid hlen
      have HKL := Lib.hid hk
      clear M hbf hlen hK hk
      by_cases h1 : gs.length = 1
      · cases k with
        | zero =>
          obtain ⟨g, hg⟩ : ∃ g, gs = [g] := List.length_eq_one_iff.1 h1
          subst hg
          obtain ⟨t, rfl⟩ : ∃ t, st = [t] := List.length_eq_one_iff.1 (by rw [← HLEN.out]; exact h1)
          have hown := HM.out.own
          obtain ⟨rb, rfl⟩ : ∃ rb, pa = some ⟨rb, 0, none⟩ := by
            rcases hown.2 with ⟨e, _⟩ | ⟨g, cap, cur, e, _⟩
            · injection e with _ e2 _; cases e2
            · injection e with e1 _ _; exact ⟨g, e1⟩
          have e0 : W.cell? ⟨rb, 0, none⟩ = some (.pointer (some ⟨g, 0, none⟩)) := by
            have := hown.cells (g := rb) rfl 0 (ptrV g) rfl
            rwa [Addr.add_mid, Nat.zero_add] at this
          simp only [List.length_cons, List.length_nil] at c6
          clear h1 hown
          gi_wp2
          have hKf := ((KeepsOthers.setCell W ⟨w.heap.size + 1, 0, none⟩ (.pointer (some ⟨g, 0, none⟩))).trans (KeepsOthers.setCell _ ⟨w.heap.size + 1 + 1, 0, none⟩ .nilIface)).same D _ HK.out rfl
          refine ⟨by simp, .inl ⟨_, _, rfl, run_takeDeferred hKf, ?_⟩⟩
          rw [show buildP s L = some t by unfold buildP; rw [HBF.out]; rfl]
          exact bd_end rfl rfl rfl HM.out.r HM.out.e HM.out.below (Nat.le_trans HD.out hD1) HK.out rfl (fun X hX => ⟨g, rfl, (HM.out.trees.1).kt hX⟩)
        | succ j =>
          have hj0 : ((j : Int) + 1 == 0) = false := by rw [beq_eq_false_iff_ne]; omega
          rw [h1] at c6
          have hbp : buildP s L = none := by
            unfold buildP
            rw [HBF.out]
            have : (L.take (j + 1)).reverse ≠ [] := by
              intro e
              have := congrArg List.length e
              rw [List.length_reverse, List.length_take, List.length_nil] at this
              have h2 := HKL.out
              omega
            split
            · rename_i t' e; injection e with e; injection e with e1 e2; exact absurd e2 this
            · rfl
          have HBP := Lib.hid hbp
          clear h1 hbp
          gi_wp2
          have hKf := ((KeepsOthers.setCell W ⟨w.heap.size + 1, 0, none⟩ (.pointer none)).trans (KeepsOthers.setCell _ ⟨w.heap.size + 1 + 1, 0, none⟩ (errV (some 3)))).same D _ HK.out rfl
          refine ⟨by simp, .inl ⟨_, _, rfl, run_takeDeferred hKf, ?_⟩⟩
          rw [HBP.out]
          exact bd_end rfl rfl rfl HM.out.r HM.out.e HM.out.below (Nat.le_trans HD.out hD1) HK.out rfl (fun X hX => rfl)
      · have h1' : ((gs.length : Int) == 1) = false := by rw [beq_eq_false_iff_ne]; omega
        have hbp : buildP s L = none := by
          unfold buildP
          rw [HBF.out]
          split
          · rename_i t' e; injection e with e; injection e with e1 e2; have := HLEN.out; rw [e1] at this; exact absurd this h1
          · rfl
        have HBP := Lib.hid hbp
        clear h1 hbp
        gi_wp2
        have hKf := ((KeepsOthers.setCell W ⟨w.heap.size + 1, 0, none⟩ (.pointer none)).trans (KeepsOthers.setCell _ ⟨w.heap.size + 1 + 1, 0, none⟩ (errV (some 3)))).same D _ HK.out rfl
        refine ⟨by simp, .inl ⟨_, _, rfl, run_takeDeferred hKf, ?_⟩⟩
        rw [HBP.out]
        exact bd_end rfl rfl rfl HM.out.r HM.out.e HM.out.below (Nat.le_trans HD.out hD1) HK.out rfl (fun X hX => rfl)
    case stop =>
      rintro D c pre W hD1 hpre ⟨⟨rfl, hbf⟩, b1, b2, hb⟩ hK
      have hbp : buildP s L = none := by
        unfold buildP
        obtain ⟨r, hr⟩ := hpre
        rw [← bwd_vals, ← hr, List.map_append, bfold_append, hbf]
        rfl
      gi_wp2
      refine ⟨by simp, .inl ⟨_, _, rfl, run_takeDeferred hK, ?_⟩⟩
      have ap : ∀ {B : Nat} {T : TypeId} {v : Value}, Boxed W B T v → some B ≠ some D := fun hb e => by
        injection e with e; subst e
        rw [show W.heap[_]? = _ from hb] at hK; cases hK
      have g1 := b1.kept (grownBy_putObj' W D (.deferred none)) (ap b1)
      have g2 := b2.kept (grownBy_putObj' W D (.deferred none)) (ap b2)
      refine ⟨_, results_cells2 rfl _ _ ⟨w.heap.size + 1, 0, none⟩ ⟨w.heap.size + 1 + 1, 0, none⟩ _ _ rfl rfl (load_box g1) (load_boxE g2), ?_⟩
      rw [hbp]
      exact ⟨_, rfl, rfl, hb.trans (belowK_b (w := w) (Nat.le_refl _) W D _ _ (by omega) hK rfl rfl)⟩
theorem build_any (vs va : Value) (s : List Bool) (L : List KV) (w : World) (he : Env w) (hs : BlIn w vs s) (ha : KVIn w va L) (hsl : s.length ≤ 1048576) (hll : L.length ≤ 1048576) (hz : ∀ p ∈ L, p.1.size + p.2.size ≤ 140737488351232) :
    Calls Tryd.prog 8 #[vs, va] w (BdPost (buildA s L) w) := by
  unfold buildA
  by_cases h0 : s.length = 0 ∧ L.length = 0
  · rw [if_pos h0]
    obtain ⟨aa, ac, rfl⟩ := ha.len
    obtain ⟨sa, sc, rfl⟩ := hs.len
    rw [h0.1, h0.2]
    exact build_empty _ _ _ _ w
  · rw [if_neg h0]
    by_cases hr : risB L = true
    · rw [if_pos hr]
      exact build_ris vs va s L w he hs ha h0 ((risB_iff L).1 hr) hsl hll hz
    · rw [if_neg hr]
      exact build_fell vs va s L w hs ha h0 fun h => hr ((risB_iff L).2 h)
end Go.Proofs.YtadolfacjolbkaaDoor
