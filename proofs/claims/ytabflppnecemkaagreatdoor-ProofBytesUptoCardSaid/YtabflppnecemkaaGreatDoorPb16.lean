/- Part 16 of the proof. -/
import Derived.Test.YtabflppnecemkaaGreatDoorPb15
namespace Go.Proofs.YtabflppnecemkaaGreatDoor
set_option linter.unusedVariables false
set_option linter.unusedSimpArgs false
open Go.RowKit
set_option maxRecDepth 100000
set_option linter.unusedSimpArgs false
set_option linter.unusedVariables false
def plCells (x : Pl) : List Value := (plC x).toList
theorem plCells_length (x : Pl) : (plCells x).length = 34 := by unfold plCells; rw [Array.length_toList, plC_size]
theorem plCells_one (x : Pl) : ∀ v ∈ plCells x, v.oneCell' = true := fun v hv => (Array.all_eq_true_iff_forall_mem.1 (plC_one x)) v (by simpa [plCells] using hv)
def flatPl (l : List Pl) : List Value := l.flatMap plCells
theorem flatPl_append (a b : List Pl) : flatPl (a ++ b) = flatPl a ++ flatPl b := List.flatMap_append
theorem flatPl_one (l : List Pl) : ∀ u ∈ flatPl l, u.oneCell' = true := by
  intro u hu
  simp only [flatPl, List.mem_flatMap] at hu
  obtain ⟨p, _, hp⟩ := hu
  exact plCells_one p u hp
theorem infoPl : (Tryz.prog.info? 142).map (fun i => (i.zero, i.size, i.bytes)) = some (some (.agg (plC plZ)), 34, 48) := by kernel_rfl
/-- append of one place, in a block of its own, to a slice of one's own -/
theorem wpList_append_pl {w : World} {ops : Array Oper} {rest : List Oper} {o : Oper} {a : Act} {Q : Exit → Act → World → Prop} (hgd : o.guard = none) (s x : Operand)
    (ho : o.op = .call { callee := .builtin .append, args := #[s, x], argTypes := #[147, 147] }) (hty : o.type = 147)
    (base : Nat) (v : Value) (l : List Pl) (hs : a.eval s = v) (hown : w.ownsRow base 142 34 v l.length (flatPl l)) (b : Nat) (st : Pl) (hx : a.eval x = .slice (some ⟨b, 0, none⟩) 1 1) (hy : w.heap[b]? = some (.cells (plC st) 142 (0, 0))) (hl : (l.length + 1) * 48 ≤ 140737488355328) (hb : base ≤ w.heap.size)
    (h : ∀ v' w', w'.ownsRow base 142 34 v' (l ++ [st]).length (flatPl (l ++ [st])) → w.grownBy w' v.ownBlock → wpList Tryz.prog ops Q rest (a.put o.dst v') w') : wpList Tryz.prog ops Q (o :: rest) a w := by
  refine wpList_plain hgd fun K hK => ?_
  obtain ⟨i0, hi, hz0, hz1, hz2⟩ := info_parts infoPl
  obtain ⟨v', w', hr, h1, h2, _, _⟩ := run_append_own_at w base 147 147 142 i0 _ 34 48 Tryz.underlying147 hi hz0 hz1 hz2 (by simp [Value.cells, plC_size]) (by decide) v l.length (flatPl l) hown ⟨b, 0, none⟩ 1 1 (plCells st) (by rw [plCells_length])
    (fun j u hj => by rw [Addr.add_mid, Nat.zero_add, cell_of_row w b j _ _ _ hy]; simpa [plCells] using hj) (plCells_one st) (by unfold maxLen; omega) hl hb
  unfold Oper.wp execOp
  simp only [ho, hty, resolve, invoke, builtin, Sem.run_bind, Sem.run_pure, Result.andThen_ok, List.map_toArray, List.map_cons, List.map_nil, hs, hx, hr]
  exact hK _ _ (h v' w' (by rw [List.length_append, flatPl_append, show flatPl [st] = plCells st from by simp [flatPl]]; exact h1) h2)
theorem pl_fill (s : Pl) : Instr.fill (fun i => some (i * 34, 34)) ((Array.range (1 * 34)).map ((Value.agg (plC plZ)).cells[· % (Value.agg (plC plZ)).cells.size]!)) [(0, .agg (plC s))] = some (plC s) := by kernel_rfl
/-- a slice of one place -/
theorem wpList_pl1 {w : World} {ops : Array Oper} {rest : List Oper} {o : Oper} {a : Act} {Q : Exit → Act → World → Prop} (hgd : o.guard = none) (x : Operand) (ho : o.op = .buildSlice 147 1 #[(0, x)]) (s : Pl) (hx : a.eval x = .agg (plC s))
    (h : wpList Tryz.prog ops Q rest (a.put o.dst (.slice (some ⟨w.heap.size, 0, none⟩) 1 1)) (w.alloc (.cells (plC s) 142))) : wpList Tryz.prog ops Q (o :: rest) a w := by
  refine wpList_plain hgd fun K hK => ?_
  obtain ⟨i0, hi, hz0, hz1, hz2⟩ := info_parts infoPl
  refine wp_buildSlice 147 142 1 #[(0, x)] ho (plC s) i0 _ Tryz.underlying147 hi hz0 (by rw [hz1]; decide) (by rw [hz1]; decide) ?_ (hK _ _ h)
  rw [hz1]
  simpa [hx] using pl_fill s
/-- where all of these proofs lead to, or none where one does not -/
def folAllF (R : Nat → Int) : List PvP → Option (List Pl)
  | [] => some []
  | p :: r => match followF R p, folAllF R r with
    | some x, some l => some (x :: l)
    | _, _ => none
theorem folAll_snoc (R : Nat → Int) (l : List PvP) (acc : List Pl) (p : PvP) (x : Pl) (h : folAllF R l = some acc) (hx : followF R p = some x) : folAllF R (l ++ [p]) = some (acc ++ [x]) := by
  induction l generalizing acc with
  | nil => injection h with h; subst h; simp [folAllF, hx]
  | cons y r ih =>
    rw [List.cons_append]
    unfold folAllF at h ⊢
    cases hy : followF R y with
    | none => rw [hy] at h; cases h
    | some z =>
      cases hr : folAllF R r with
      | none => rw [hy, hr] at h; cases h
      | some a =>
        rw [hy, hr] at h
        injection h with h
        subst h
        rw [ih a hr]
        rfl
theorem folAll_bad (R : Nat → Int) (l : List PvP) (p : PvP) (hp : p ∈ l) (hx : followF R p = none) : folAllF R l = none := by
  induction l with
  | nil => cases hp
  | cons y r ih =>
    unfold folAllF
    rcases List.mem_cons.1 hp with rfl | hp
    · rw [hx]
    · rw [ih hp]
      cases followF R y <;> rfl
def e23o (o : Option (List Pl)) : Option Nat := if o.isSome then none else some 23
theorem pl_base {w : World} {B B' n m : Nat} {ty : TypeId} {v : Value} {vs : List Value} (h : w.ownsRow B ty n v m vs) (hb : B' ≤ B) : w.ownsRow B' ty n v m vs :=
  ⟨h.1, h.2.imp id fun ⟨g, cap, cur, e, hg, r⟩ => ⟨g, cap, cur, e, Nat.le_trans hb hg, r⟩⟩
theorem own_below {w w' : World} {base n m : Nat} {ty : TypeId} {v : Value} {vs : List Value} (h : w.ownsRow base ty n v m vs) (hb : Below w.heap.size w w') : w'.ownsRow base ty n v m vs :=
  ⟨h.1, h.2.imp id fun ⟨g, cap, cur, e, hg, hh, r⟩ => ⟨g, cap, cur, e, hg, (hb.block g (Array.getElem?_eq_some_iff.1 hh).1).trans hh, r⟩⟩
theorem own_blk {w : World} {base n m : Nat} {ty : TypeId} {v : Value} {vs : List Value} (h : w.ownsRow base ty n v m vs) {j : Nat} (hj : v.ownBlock = some j) : base ≤ j := by
  rcases h.2 with ⟨rfl, _⟩ | ⟨g, cap, cur, rfl, hg, _⟩
  · cases hj
  · injection hj with hj; subst hj; exact hg
theorem own_wide34 {w : World} {base n m : Nat} {ty : TypeId} {v : Value} {vs : List Value} (h : w.ownsRow base ty n v m vs) : ∃ a m c, v = .slice a m c := by
  rcases h.2 with ⟨h, _⟩ | ⟨g, cap, _, h, _⟩
  · exact ⟨_, _, _, h⟩
  · exact ⟨_, _, _, h⟩
/-- what followAll answers -/
def FaPost (R : Nat → Int) (ps : List PvP) (w : World) (e : Ending) (w' : World) : Prop :=
  ∃ v', e = .returned (.tuple #[v', errV (e23o (folAllF R ps))]) ∧ (∀ l, folAllF R ps = some l → w'.ownsRow w.heap.size 142 34 v' l.length (flatPl l)) ∧ Below w.heap.size w w'
set_option maxHeartbeats 8000000 in
theorem followAll_any (R : Nat → Int) (ps : List PvP) (v : Value) (w : World) (he : Env w) (hp : PrsIn w v ps) (hz : ∀ p ∈ ps, p.key.size + p.val.size ≤ 140737488351232) (hn : ps.length ≤ 1) :
    Calls Tryz.prog 79 #[.agg (rowOf .u8 32 R), v] w (FaPost R ps w) := by
  obtain ⟨va, vc, rfl, _⟩ := hp.len
  have HE := Lib.hid he
  have HP := Lib.hid hp
  have HZ := Lib.hid hz
  have HN := Lib.hid hn
  have hnI : (ps.length : Int) ≤ 1 := by omega
  clear he hp hz hn
  go_enter Tryz.func79, Tryz.ntmps79
  go_upto_region 1 with (fail)
  have H2 := Lib.hid (heap_alloc_new w (.cells (rowOf .u8 32 R) 62))
  have HB := Lib.hid (below_alloc w (.cells (rowOf .u8 32 R) 62))
  generalize w.alloc (.cells (rowOf .u8 32 R) 62) = w1 at *
  obtain ⟨q, hq⟩ : ∃ q, q = w.heap.size := ⟨_, rfl⟩
  rw [← hq] at H2 ⊢
  have HQ := Lib.hid hq
  clear hq
  have HL2 := Lib.hid (bk_lt H2.out)
  have HW1 := Lib.hid (Below.refl w1.heap.size w1)
  replace HP := Lib.hid (HP.out.below HB.out)
  go_wp2_with (fail)
  go_loopw [6, 13] (fun u x wr => ∃ (k : Nat) (acc : List Pl), k ≤ ps.length ∧ x = .int .i64 (k : Int) ∧ Hid (folAllF R (ps.take k) = some acc ∧ acc.length = k) ∧ Hid (wr.ownsRow w1.heap.size 142 34 u acc.length (flatPl acc)) ∧ Hid (Below w1.heap.size w1 wr)) (fun _ x _ => ps.length - (intOf x).toNat)
  case atStart => exact ⟨0, [], Nat.zero_le _, rfl, Lib.hid ⟨rfl, rfl⟩, Lib.hid (World.ownsRow_nil _ _ _ _), HW1⟩
  case round =>
    clear HW1
    obtain ⟨k, acc, hkl, rfl, HK, HO, HW1⟩ := hrel
    by_cases hlt : k < ps.length
    · obtain ⟨p, hp⟩ : ∃ p, ps[k]? = some p := ⟨_, List.getElem?_eq_getElem hlt⟩
      obtain ⟨b, off, rfl, hpa⟩ := HP.out.at hp
      obtain ⟨sv, hrg, hst⟩ := hpa.below HW1.out
      obtain ⟨sa, sc, rfl⟩ := hst.len
      have HRG := Lib.hid hrg
      have HST := Lib.hid hst
      have HPK := Lib.hid hp
      have hpm : p ∈ ps := List.mem_of_getElem? hp
      have HFO := Lib.hid (fun w' he hst => follow_any R p (.slice sa p.steps.length sc) w' he hst (HZ.out p hpm))
      unfold FoPost at HFO
      have HPM := Lib.hid hpm
      have hltI : (k : Int) < (ps.length : Int) := by omega
      have hk1 : k ≤ 1 := by have := HN.out; omega
      clear hp hpa hrg hst hpm
      obtain ⟨ua, un, uc, rfl⟩ := own_wide34 HO.out
      have H8 := Lib.hid (heap_alloc_new wr (.cells (prC p (.slice sa p.steps.length sc)) 31))
      have HB8 := Lib.hid (below_alloc wr (.cells (prC p (.slice sa p.steps.length sc)) 31))
      go_upto_region 5 with (first
        | (refine wpList_load_rowsz (by rfl) 31 (.tmp 15) rfl b (off + k * 3) rfl (prC p (.slice sa p.steps.length sc)) _ HRG.out Tryz.underlying31 rfl (by kernel_rfl) ?_)
        | (refine wpList_store_row rfl 31 (.tmp 8) (.tmp 16) rfl wr.heap.size (prC p (.slice sa p.steps.length sc)) rfl rfl 31 _ (heap_alloc_new _ _) (by kernel_rfl) rfl (prC_one _ _ _ _) ?_; rw [World.setRow_alloc_new]))
      obtain ⟨g8, hg8⟩ : ∃ g, g = wr.heap.size := ⟨_, rfl⟩
      have HG8 := Lib.hid hg8
      rw [← hg8] at H8 ⊢
      clear hg8
      generalize wr.alloc (.cells (prC p (.slice sa p.steps.length sc)) 31) = w3 at *
      have HB3 := Lib.hid (show Below w1.heap.size w1 w3 from HW1.out.trans (HB8.out.mono HW1.out.size))
      have H2' := Lib.hid ((HB3.out.block _ HL2.out).trans H2.out)
      go_upto_region 6 with (first
        | (refine wpList_load_row rfl 62 (.tmp 2) rfl q rfl 62 _ (0, 0) _ H2'.out Tryz.underlying62 rfl (by rw [rowOf_size]; kernel_rfl) ?_)
        | (refine wpList_load_row rfl 31 (.tmp 8) rfl g8 rfl 31 _ (0, 0) _ H8.out Tryz.underlying31 rfl (by kernel_rfl) ?_)
        | (go_at_call 76; (with_reducible refine (HFO.out _ (HE.out.below (HB.out.trans (HB3.out.mono HB.out.size)) HE.out.lt) (HST.out.below HB8.out)).mono ?_); rintro e w4 ⟨rfl, hb⟩; have HB4 := Lib.hid hb; clear hb)
        | (refine wpList_store_row rfl 142 (.tmp 9) (.tmp 21) rfl w4.heap.size (plC ((followF R p).getD plZ)) rfl rfl 142 _ (heap_alloc_new _ _) (by rw [plC_size]; kernel_rfl) (by rw [plC_size]; rfl) (plC_one _) ?_; rw [World.setRow_alloc_new]))
      have H9 := Lib.hid (heap_alloc_new w4 (.cells (plC ((followF R p).getD plZ)) 142))
      have HB9 := Lib.hid (show Below w1.heap.size w1 (w4.alloc (.cells (plC ((followF R p).getD plZ)) 142)) from (HB3.out.trans (HB4.out.mono HB3.out.size)).trans ((below_alloc w4 _).mono (Nat.le_trans HB3.out.size HB4.out.size)))
      have HBR := Lib.hid (show Below wr.heap.size wr (w4.alloc (.cells (plC ((followF R p).getD plZ)) 142)) from (HB8.out.trans (HB4.out.mono HB8.out.size)).trans ((below_alloc w4 _).mono (Nat.le_trans HB8.out.size HB4.out.size)))
      obtain ⟨g9, hg9⟩ : ∃ g, g = w4.heap.size := ⟨_, rfl⟩
      rw [← hg9] at H9 ⊢
      clear hg9 HFO HST HRG
      generalize w4.alloc (.cells (plC ((followF R p).getD plZ)) 142) = w5 at *
      cases ho : followF R p with
      | none =>
        have HF := Lib.hid (folAll_bad R ps p HPM.out ho)
        rw [ho] at H9
        simp only [e23, errV, Option.isSome_none, Bool.false_eq_true, if_false]
        clear ho
        go_wp2_with (fail)
        go_ret2
        exact ⟨_, by unfold e23o; rw [HF.out]; rfl, (fun l hl => by rw [HF.out] at hl; cases hl), HB.out.trans (HB9.out.mono HB.out.size)⟩
      | some x =>
        have HF := Lib.hid (show folAllF R (ps.take (k + 1)) = some (acc ++ [x]) from by rw [List.take_add_one, HPK.out]; exact folAll_snoc R _ acc p x HK.out.1 ho)
        rw [ho] at H9
        simp only [e23, errV, Option.isSome_some, if_true, Option.getD_some] at H9 ⊢
        clear ho
        have HO5 := Lib.hid (show w5.ownsRow w1.heap.size 142 34 (.slice ua un uc) acc.length (flatPl acc) from own_below HO.out HBR.out)
        go_upto_region 9 with (first
          | (refine wpList_load_row rfl 142 (.tmp 9) rfl g9 rfl 142 _ (0, 0) _ H9.out Tryz.underlying142 rfl (by rw [plC_size]; kernel_rfl) ?_)
          | (refine wpList_pl1 rfl (.tmp 27) rfl x rfl ?_)
          | (refine wpList_append_pl rfl (.tmp 26) (.tmp 28) rfl rfl w1.heap.size (.slice ua un uc) acc rfl (own_below HO5.out (below_alloc w5 _)) w5.heap.size x rfl (heap_alloc_new w5 _) (by have := HK.out.2; omega) (Nat.le_trans HB9.out.size (below_alloc w5 _).size) ?_; intro v6 w6 ho6 hg6; have HO6 := Lib.hid ho6; have HB6 := Lib.hid ((HB9.out.trans ((below_alloc w5 (.cells (plC x) 142)).mono HB9.out.size)).grown hg6 (Nat.le_trans HB9.out.size (below_alloc w5 _).size) (fun j hj => own_blk HO.out hj)); clear ho6 hg6))
        go_wp2_with (fail)
        go_roundw
        case rel => exact ⟨k + 1, acc ++ [x], by omega, by go_num, Lib.hid ⟨HF.out, by rw [List.length_append, HK.out.2]; rfl⟩, HO6, HB6⟩
        case measure => simp [intOf]; omega
    · obtain rfl : k = ps.length := by omega
      rw [List.take_length] at HK
      clear hlt hkl
      go_wp2_with (fail)
      go_ret2
      exact ⟨_, by unfold e23o; rw [HK.out.1]; rfl, fun l hl => by rw [HK.out.1] at hl; injection hl with hl; subst hl; exact pl_base HO.out HB.out.size, HB.out.trans (HW1.out.mono HB.out.size)⟩
end Go.Proofs.YtabflppnecemkaaGreatDoor
namespace Go.Proofs.YtabflppnecemkaaGreatDoor
set_option linter.unusedVariables false
set_option linter.unusedSimpArgs false
open Go.RowKit
set_option maxRecDepth 100000
set_option linter.unusedSimpArgs false
set_option linter.unusedVariables false
/-- one place, or none, in memory -/
def PlsIn (w : World) (v : Value) (l : List Pl) : Prop :=
  (l = [] ∧ ∃ a c, v = .slice a 0 c) ∨ ∃ x g c, l = [x] ∧ v = .slice (some ⟨g, 0, none⟩) 1 c ∧ w.cell? ⟨g, 32, none⟩ = some (.int .i64 x.2.1) ∧ w.cell? ⟨g, 33, none⟩ = some (.int .i64 x.2.2)
theorem PlsIn.below {w w' : World} {v : Value} {l : List Pl} (h : PlsIn w v l) (hb : Below w.heap.size w w') : PlsIn w' v l :=
  h.imp id fun ⟨x, g, c, e1, e2, h1, h2⟩ => ⟨x, g, c, e1, e2, (hb.cell (p := ⟨g, 32, none⟩) (World.block_lt_of_cell? w _ h1)).trans h1, (hb.cell (p := ⟨g, 33, none⟩) (World.block_lt_of_cell? w _ h2)).trans h2⟩
/-- nothing lies between both places -/
def adjF (R Z : Nat → Int) : List Pl → List Pl → Bool
  | [], [] => eqB R Z
  | [], y :: _ => y.2.1 == 0
  | x :: _, [] => x.2.1 == x.2.2 - 1
  | x :: _, y :: _ => x.2.2 == y.2.2 && y.2.1 == x.2.1 + 1
def plB (x : Pl) : Prop := 0 ≤ x.2.1 ∧ x.2.1 ≤ 4611686018427387904 ∧ 0 ≤ x.2.2 ∧ x.2.2 ≤ 4611686018427387904
set_option maxHeartbeats 4000000 in
theorem adjacent_any (R : Nat → Int) (vl vr : Value) (l r : List Pl) (w : World) (he : Env w) (hl : PlsIn w vl l) (hr : PlsIn w vr r) (hbl : ∀ x ∈ l, plB x) (hbr : ∀ x ∈ r, plB x) :
    Calls Tryz.prog 80 #[.agg (rowOf .u8 32 R), vl, vr] w fun e w' => e = .returned (.bool (adjF R (sumF []) l r)) ∧ Below w.heap.size w w' := by
  have HB := Lib.hid (below_alloc w (.cells (rowOf .u8 32 R) 62))
  have HX := Lib.hid (heap_alloc_new w (.cells (rowOf .u8 32 R) 62))
  have HE := Lib.hid (he.below HB.out he.lt)
  replace hl := hl.below HB.out
  replace hr := hr.below HB.out
  have HSM := Lib.hid (fun w (h : Env w) => shSum_any (.slice none 0 0) [] w (nil_in _) h)
  obtain ⟨Z, hZ⟩ : ∃ Z, Z = sumF [] := ⟨_, rfl⟩
  rw [← hZ] at HSM ⊢
  clear hZ he
  rcases hl with ⟨rfl, la, lc, rfl⟩ | ⟨x, g, lc, rfl, rfl, k1, k2⟩
  · rcases hr with ⟨rfl, ra, rc, rfl⟩ | ⟨y, h, rc, rfl, rfl, m1, m2⟩
    · obtain ⟨b, hb⟩ : ∃ b, b = eqB R Z := ⟨_, rfl⟩
      have HEQ := Lib.hid (show ∀ w, _ from fun w => eqIn32 R Z w)
      rw [← hb] at HEQ
      show Calls _ _ _ w fun e w' => e = .returned (.bool (eqB R Z)) ∧ _
      rw [← hb]
      clear hb hbl hbr
      go_enter Tryz.func80, Tryz.ntmps80
      go_upto_region 1 with (fail)
      generalize w.alloc (.cells (rowOf .u8 32 R) 62) = w1 at *
      obtain ⟨q, hq⟩ : ∃ q, q = w.heap.size := ⟨_, rfl⟩
      have HQ := Lib.hid hq
      rw [← hq] at HX ⊢
      clear hq
      go_upto_region 2 with (fail)
      refine wp_region_T (fun w' => w'.heap[q]? = some (.cells (rowOf .u8 32 R) 62 (0, 0))) [0, 1] (by kernel_rfl) ?_
      replace HB := Lib.hid (HB.out.drew)
      replace HX := Lib.hid (show w1.drew.heap[q]? = _ from HX.out)
      replace HE := Lib.hid (HE.out.below ((Below.refl _ w1).drew) HE.out.lt)
      generalize w1.drew = w2 at *
      refine anyT_take [2, 3] (i := 0) (v := .agg (rowOf .u8 32 R)) rfl (by kernel_rfl) (by kernel_rfl) (by kernel_rfl) (fun _ _ _ h => h) (by kernel_rfl) (row_yields' (by rfl) 62 (.tmp 3) rfl q 0 rfl (rowOf .u8 32 R) _ (fun w h j v hv => by rw [Nat.zero_add, cell_of_row w q j _ _ _ h]; simpa using hv) Tryz.underlying62 rfl (by rw [rowOf_size]; kernel_rfl)) HX.out ?_
      try simp only [List.getElem_toArray, List.getElem_cons_succ, List.getElem_cons_zero, Act.put, List.setIfInBounds_toArray, List.set_cons_zero, List.set_cons_succ]
      refine anyT_one (i := 1) (by kernel_rfl) rfl (fun K hK => ?_)
      rw [if_pos (by rfl)]
      try simp only [List.getElem_toArray, List.getElem_cons_succ, List.getElem_cons_zero]
      (go_simp; refine (HSM.out _ HE.out).mono ?_; rintro e w3 ⟨rfl, hb⟩; replace HX := Lib.hid ((hb.block _ (bk_lt HX.out)).trans HX.out); replace HB := Lib.hid (HB.out.trans (hb.mono HB.out.size)); clear hb)
      refine hK _ _ (fun _ => HX.out) ?_
      clear hK K
      try simp only [List.getElem_toArray, List.getElem_cons_succ, List.getElem_cons_zero, Act.put, List.setIfInBounds_toArray, List.set_cons_zero, List.set_cons_succ]
      refine anyT_takeY (i := 2) (v := .bool b) rfl (by kernel_rfl) (by kernel_rfl) (by kernel_rfl) (fun _ _ _ h => h) (by kernel_rfl) (Or.inl ⟨by rfl, by intro w; have h := HEQ.out w; go_simp⟩) ?_
      try simp only [List.getElem_toArray, List.getElem_cons_succ, List.getElem_cons_zero, Act.put, List.setIfInBounds_toArray, List.set_cons_zero, List.set_cons_succ]
      refine anyT_takeY (i := 3) (v := .bool b) rfl (by kernel_rfl) (by kernel_rfl) (by kernel_rfl) (fun _ _ _ h => h) (by kernel_rfl) (Or.inl ⟨by rfl, by intro w; go_simp⟩) ?_
      try simp only [List.getElem_toArray, List.getElem_cons_succ, List.getElem_cons_zero, Act.put, List.setIfInBounds_toArray, List.set_cons_zero, List.set_cons_succ]
      refine anyT_done (by kernel_rfl) ?_ _
      go_wp2_with (fail)
      go_ret
      exact ⟨rfl, HB.out⟩
    · have hy := hbr y (.head _)
      obtain ⟨b, hb⟩ : ∃ b, b = (y.2.1 == 0) := ⟨_, rfl⟩
      show Calls _ _ _ w fun e w' => e = .returned (.bool (y.2.1 == 0)) ∧ _
      clear hbl hbr hb b
      go_enter Tryz.func80, Tryz.ntmps80
      go_upto_region 1 with (fail)
      generalize w.alloc (.cells (rowOf .u8 32 R) 62) = w1 at *
      go_wp2_with (fail)
      go_ret
      exact ⟨rfl, HB.out⟩
  · rcases hr with ⟨rfl, ra, rc, rfl⟩ | ⟨y, h, rc, rfl, rfl, m1, m2⟩
    · have hx := hbl x (.head _)
      unfold plB at hx
      obtain ⟨x1, x2, x3, x4⟩ := hx
      show Calls _ _ _ w fun e w' => e = .returned (.bool (x.2.1 == x.2.2 - 1)) ∧ _
      clear hbl hbr
      go_enter Tryz.func80, Tryz.ntmps80
      go_upto_region 1 with (fail)
      generalize w.alloc (.cells (rowOf .u8 32 R) 62) = w1 at *
      go_upto_region 6 with (fail)
      go_region
      go_wp2_with (fail)
      go_ret
      exact ⟨rfl, HB.out.drew⟩
    · have hx := hbl x (.head _)
      have hy := hbr y (.head _)
      unfold plB at hx hy
      obtain ⟨x1, x2, x3, x4⟩ := hx
      obtain ⟨y1, y2, y3, y4⟩ := hy
      show Calls _ _ _ w fun e w' => e = .returned (.bool (x.2.2 == y.2.2 && y.2.1 == x.2.1 + 1)) ∧ _
      clear hbl hbr
      go_enter Tryz.func80, Tryz.ntmps80
      go_upto_region 1 with (fail)
      generalize w.alloc (.cells (rowOf .u8 32 R) 62) = w1 at *
      cases hc : (x.2.2 == y.2.2) with
      | true =>
        go_upto_region 7 with (fail)
        go_region
        go_wp2_with (fail)
        go_ret
        exact ⟨by rw [hc]; rfl, HB.out.drew⟩
      | false =>
        go_upto_region 7 with (fail)
        go_region
        go_wp2_with (fail)
        go_ret
        exact ⟨by rw [hc]; rfl, HB.out.drew⟩
end Go.Proofs.YtabflppnecemkaaGreatDoor
namespace Go.Proofs.YtabflppnecemkaaGreatDoor
set_option linter.unusedVariables false
set_option linter.unusedSimpArgs false
open Go.RowKit
set_option maxRecDepth 100000
set_option linter.unusedSimpArgs false
set_option linter.unusedVariables false
theorem folAll_len (R : Nat → Int) : ∀ (ps : List PvP) (l : List Pl), folAllF R ps = some l → l.length = ps.length
  | [], l, h => by injection h with h; subst h; rfl
  | p :: r, l, h => by
    unfold folAllF at h
    cases hp : followF R p with
    | none => rw [hp] at h; cases h
    | some x =>
      cases hr : folAllF R r with
      | none => rw [hp, hr] at h; cases h
      | some a =>
        rw [hp, hr] at h
        injection h with h
        subst h
        rw [List.length_cons, List.length_cons, folAll_len R r a hr]
theorem follow_bd {R : Nat → Int} {p : PvP} {x : Pl} (h : followF R p = some x) : plB x := by
  unfold followF showF at h
  by_cases hc : p.steps.length ≤ 64 ∧ p.steps.all okS = true
  · rw [if_pos hc] at h
    dsimp only at h
    split at h
    · injection h with h
      have hb := fold_bd p.steps (pl0 p) 1 hc.2 (by simp [pl0]) (by simp [pl0])
      rw [h] at hb
      unfold plB
      have := hc.1
      obtain ⟨⟨a1, a2⟩, b1, b2⟩ := hb
      have h3 : (p.steps.length : Int) ≤ 64 := by omega
      omega
    · cases h
  · rw [if_neg hc] at h; cases h
theorem folAll_bd (R : Nat → Int) : ∀ (ps : List PvP) (l : List Pl), folAllF R ps = some l → ∀ x ∈ l, plB x
  | [], l, h => by injection h with h; subst h; intro x hx; cases hx
  | p :: r, l, h => by
    unfold folAllF at h
    cases hp : followF R p with
    | none => rw [hp] at h; cases h
    | some x =>
      cases hr : folAllF R r with
      | none => rw [hp, hr] at h; cases h
      | some a =>
        rw [hp, hr] at h
        injection h with h
        subst h
        intro y hy
        rcases List.mem_cons.1 hy with rfl | hy
        · exact follow_bd hp
        · exact folAll_bd R r a hr y hy
theorem pl_idx (x : Pl) : (plCells x)[32]? = some (.int .i64 x.2.1) ∧ (plCells x)[33]? = some (.int .i64 x.2.2) := by
  unfold plCells plC
  constructor
  · rw [Array.getElem?_toList, Array.getElem?_append_right (by rw [rowOf_size]; omega), rowOf_size]; rfl
  · rw [Array.getElem?_toList, Array.getElem?_append_right (by rw [rowOf_size]; omega), rowOf_size]; rfl
theorem own_pls0 {w : World} {B : Nat} {v : Value} {vs : List Value} (h : w.ownsRow B 142 34 v 0 vs) : PlsIn w v [] := by
  rcases h.2 with ⟨e, h0⟩ | ⟨g, cap, cur, e, _⟩
  · exact .inl ⟨rfl, _, _, e⟩
  · exact .inl ⟨rfl, _, _, e⟩
theorem own_pls1 {w : World} {B : Nat} {v : Value} {x : Pl} (h : w.ownsRow B 142 34 v 1 (plCells x)) : PlsIn w v [x] := by
  have h' := h
  rcases h.2 with ⟨e, h0⟩ | ⟨g, cap, cur, e, _⟩
  · cases h0
  · subst e
    have c1 := h'.cells (g := g) rfl 32 _ (pl_idx x).1
    have c2 := h'.cells (g := g) rfl 33 _ (pl_idx x).2
    rw [Addr.add_mid, Nat.zero_add] at c1 c2
    exact .inr ⟨x, g, cap, rfl, rfl, c1, c2⟩
theorem own_pls {w : World} {B : Nat} {v : Value} {l : List Pl} (h : w.ownsRow B 142 34 v l.length (flatPl l)) (hl : l.length ≤ 1) : PlsIn w v l := by
  cases l with
  | nil => exact own_pls0 h
  | cons x r =>
    cases r with
    | nil =>
      rw [show flatPl [x] = plCells x from by simp [flatPl]] at h
      exact own_pls1 h
    | cons y r => simp at hl
/-- VerifyNone's answer -/
def verNF (R Z : Nat → Int) (key : ByteArray) (L Rt : List PvP) : Option Nat :=
  if 1 < L.length ∨ 1 < Rt.length ∨ betF key L Rt = false then some 23 else match folAllF R L, folAllF R Rt with
    | some l, some r => if adjF R Z l r then none else some 23
    | _, _ => some 23
set_option maxHeartbeats 8000000 in
theorem verNone_any (R : Nat → Int) (key : ByteArray) (vl vr : Value) (L Rt : List PvP) (w : World) (he : Env w) (hl : PrsIn w vl L) (hr : PrsIn w vr Rt) (hzl : ∀ p ∈ L, p.key.size + p.val.size ≤ 140737488351232) (hzr : ∀ p ∈ Rt, p.key.size + p.val.size ≤ 140737488351232) :
    Calls Tryz.prog 52 #[.agg (rowOf .u8 32 R), .string key, .agg #[vl, vr]] w fun e w' => e = .returned (errV (verNF R (sumF []) key L Rt)) ∧ Below w.heap.size w w' := by
  obtain ⟨la, lc, rfl, hlm⟩ := hl.len
  obtain ⟨ra, rc, rfl, hrm⟩ := hr.len
  have hlI : (L.length : Int) ≤ 9223372036854775807 := by unfold maxLen at hlm; omega
  have hrI : (Rt.length : Int) ≤ 9223372036854775807 := by unfold maxLen at hrm; omega
  have hb0 : Below w.heap.size w ((w.alloc (.cells (rowOf .u8 32 R) 62)).alloc (.cells #[.slice la L.length lc, .slice ra Rt.length rc] 40)) := ((Below.refl _ w).alloc (Nat.le_refl _) _).alloc (by simp) _
  have H3 := Lib.hid (show ((w.alloc (.cells (rowOf .u8 32 R) 62)).alloc (.cells #[.slice la L.length lc, .slice ra Rt.length rc] 40)).heap[w.heap.size]? = some (.cells (rowOf .u8 32 R) 62 (0, 0)) by rw [(below_alloc _ _).block _ (by simp)]; exact heap_alloc_new _ _)
  have H5 := Lib.hid (show ((w.alloc (.cells (rowOf .u8 32 R) 62)).alloc (.cells #[.slice la L.length lc, .slice ra Rt.length rc] 40)).heap[w.heap.size + 1]? = some (.cells #[.slice la L.length lc, .slice ra Rt.length rc] 40 (0, 0)) by
    have := heap_alloc_new (w.alloc (.cells (rowOf .u8 32 R) 62)) (.cells #[.slice la L.length lc, .slice ra Rt.length rc] 40)
    rw [size_alloc] at this; exact this)
  have HE := Lib.hid (he.below hb0 he.lt)
  have HL := Lib.hid (hl.below hb0)
  have HR := Lib.hid (hr.below hb0)
  have HB := Lib.hid hb0
  have HZL := Lib.hid hzl
  have HZR := Lib.hid hzr
  obtain ⟨VF, hVF⟩ : ∃ x, x = verNF R (sumF []) key L Rt := ⟨_, rfl⟩
  rw [← hVF]
  have HVF := Lib.hid hVF
  clear he hl hr hzl hzr hb0 hlm hrm hVF
  go_enter Tryz.func52, Tryz.ntmps52
  go_upto_region 1 with (fail)
  generalize (w.alloc (.cells (rowOf .u8 32 R) 62)).alloc (.cells #[.slice la L.length lc, .slice ra Rt.length rc] 40) = w1 at *
  obtain ⟨q, hq⟩ : ∃ q, q = w.heap.size := ⟨_, rfl⟩
  rw [← hq] at H3 H5 ⊢
  have HQ := Lib.hid hq
  clear hq
  have c0 : w1.cell? ⟨q + 1, 0, none⟩ = some (.slice la L.length lc) := cell_of_row w1 _ 0 _ _ _ H5.out
  have c1 : w1.cell? ⟨q + 1, 1, none⟩ = some (.slice ra Rt.length rc) := cell_of_row w1 _ 1 _ _ _ H5.out
  by_cases h1 : 1 < L.length
  · have h1I : (1 : Int) < (L.length : Int) := by omega
    have HV := Lib.hid (show VF = some 23 from by rw [HVF.out]; unfold verNF; rw [if_pos (.inl h1)])
    clear h1 HVF
    go_wp2_with (fail)
    go_ret
    exact ⟨by rw [HV.out]; rfl, HB.out⟩
  · have h1I : ¬ (1 : Int) < (L.length : Int) := by omega
    by_cases h2 : 1 < Rt.length
    · have h2I : (1 : Int) < (Rt.length : Int) := by omega
      have HV := Lib.hid (show VF = some 23 from by rw [HVF.out]; unfold verNF; rw [if_pos (.inr (.inl h2))])
      clear h1 h2 HVF
      go_wp2_with (fail)
      go_ret
      exact ⟨by rw [HV.out]; rfl, HB.out⟩
    · have h2I : ¬ (1 : Int) < (Rt.length : Int) := by omega
      have HBT := Lib.hid (fun w' hl hr => between_any key (.slice la L.length lc) (.slice ra Rt.length rc) L Rt w' hl hr)
      have HFL := Lib.hid (fun w' he hl => followAll_any R L (.slice la L.length lc) w' he hl HZL.out (by omega))
      have HFR := Lib.hid (fun w' he hl => followAll_any R Rt (.slice ra Rt.length rc) w' he hl HZR.out (by omega))
      unfold FaPost at HFL HFR
      have HN1 := Lib.hid h1
      have HN2 := Lib.hid h2
      cases hbt : betF key L Rt with
      | false =>
        have HV := Lib.hid (show VF = some 23 from by rw [HVF.out]; unfold verNF; rw [if_pos (.inr (.inr hbt))])
        rw [hbt] at HBT
        clear h1 h2 hbt HVF
        go_wp2_with (go_at_call 78; (with_reducible refine (HBT.out _ HL.out HR.out).mono ?_); rintro e w2 ⟨rfl, hb⟩; replace HB := Lib.hid (HB.out.trans (hb.mono HB.out.size)); clear hb)
        go_ret
        exact ⟨by rw [HV.out]; rfl, HB.out⟩
      | true =>
        have HV0 := Lib.hid (show VF = (match folAllF R L, folAllF R Rt with | some l, some r => if adjF R (sumF []) l r then none else some 23 | _, _ => some 23) from by rw [HVF.out]; unfold verNF; rw [if_neg (by rw [hbt]; simp; omega)])
        rw [hbt] at HBT
        clear h1 h2 hbt HVF
        go_upto_region 3 with (go_at_call 78; (with_reducible refine (HBT.out _ HL.out HR.out).mono ?_); rintro e w2 ⟨rfl, hb⟩; have HB2 := Lib.hid hb; clear hb)
        clear c0 c1
        replace HB := Lib.hid (HB.out.trans (HB2.out.mono HB.out.size))
        replace HE := Lib.hid (HE.out.below HB2.out HE.out.lt)
        replace HL := Lib.hid (HL.out.below HB2.out)
        replace HR := Lib.hid (HR.out.below HB2.out)
        replace H3 := Lib.hid ((HB2.out.block _ (bk_lt H3.out)).trans H3.out)
        replace H5 := Lib.hid ((HB2.out.block _ (bk_lt H5.out)).trans H5.out)
        have c0 : w2.cell? ⟨q + 1, 0, none⟩ = some (.slice la L.length lc) := cell_of_row w2 _ 0 _ _ _ H5.out
        clear HB2
        cases hfl : folAllF R L with
        | none =>
          have HV := Lib.hid (show VF = some 23 from by rw [HV0.out, hfl])
          rw [hfl] at HFL
          simp only [e23o, errV, Option.isSome_none, Bool.false_eq_true, if_false] at HFL
          clear hfl
          go_wp2_with (first
            | (refine wpList_load_row rfl 62 (.tmp 3) rfl q rfl 62 _ (0, 0) _ H3.out Tryz.underlying62 rfl (by rw [rowOf_size]; kernel_rfl) ?_)
            | (go_at_call 79; (with_reducible refine (HFL.out _ HE.out HL.out).mono ?_); rintro e w3 ⟨v3, rfl, ho, hb⟩; replace HB := Lib.hid (HB.out.trans (hb.mono HB.out.size)); clear hb ho))
          go_ret
          exact ⟨by rw [HV.out]; rfl, HB.out⟩
        | some l =>
          have HLL := Lib.hid (folAll_len R L l hfl)
          have HLB := Lib.hid (folAll_bd R L l hfl)
          have HV1 := Lib.hid (show VF = (match folAllF R Rt with | some r => if adjF R (sumF []) l r then none else some 23 | _ => some 23) from by rw [HV0.out, hfl]; cases folAllF R Rt <;> rfl)
          rw [hfl] at HFL
          simp only [e23o, errV, Option.isSome_some, if_true] at HFL
          clear hfl HV0
          go_upto_region 6 with (first
            | (refine wpList_load_row rfl 62 (.tmp 3) rfl q rfl 62 _ (0, 0) _ H3.out Tryz.underlying62 rfl (by rw [rowOf_size]; kernel_rfl) ?_)
            | (go_at_call 79; (with_reducible refine (HFL.out _ HE.out HL.out).mono ?_); rintro e w3 ⟨v3, rfl, ho, hb⟩; have HO3 := Lib.hid (own_pls (ho l rfl) (by have := HLL.out; have := HN1.out; omega)); have HB3 := Lib.hid hb; clear hb ho))
          clear c0
          replace HB := Lib.hid (HB.out.trans (HB3.out.mono HB.out.size))
          replace HE := Lib.hid (HE.out.below HB3.out HE.out.lt)
          replace HR := Lib.hid (HR.out.below HB3.out)
          replace H3 := Lib.hid ((HB3.out.block _ (bk_lt H3.out)).trans H3.out)
          replace H5 := Lib.hid ((HB3.out.block _ (bk_lt H5.out)).trans H5.out)
          have c1 : w3.cell? ⟨q + 1, 1, none⟩ = some (.slice ra Rt.length rc) := cell_of_row w3 _ 1 _ _ _ H5.out
          clear HB3
          cases hfr : folAllF R Rt with
          | none =>
            have HV := Lib.hid (show VF = some 23 from by rw [HV1.out, hfr])
            rw [hfr] at HFR
            simp only [e23o, errV, Option.isSome_none, Bool.false_eq_true, if_false] at HFR
            clear hfr
            go_wp2_with (first
              | (refine wpList_load_row rfl 62 (.tmp 3) rfl q rfl 62 _ (0, 0) _ H3.out Tryz.underlying62 rfl (by rw [rowOf_size]; kernel_rfl) ?_)
              | (go_at_call 79; (with_reducible refine (HFR.out _ HE.out HR.out).mono ?_); rintro e w4 ⟨v4, rfl, ho, hb⟩; replace HB := Lib.hid (HB.out.trans (hb.mono HB.out.size)); clear hb ho))
            go_ret
            exact ⟨by rw [HV.out]; rfl, HB.out⟩
          | some r =>
            have HRL := Lib.hid (folAll_len R Rt r hfr)
            have HRB := Lib.hid (folAll_bd R Rt r hfr)
            have HV2 := Lib.hid (show VF = (if adjF R (sumF []) l r then none else some 23) from by rw [HV1.out, hfr])
            rw [hfr] at HFR
            simp only [e23o, errV, Option.isSome_some, if_true] at HFR
            clear hfr HV1
            obtain ⟨b, hb⟩ : ∃ b, b = adjF R (sumF []) l r := ⟨_, rfl⟩
            have HAD := Lib.hid (fun w' va vb he hl hr => adjacent_any R va vb l r w' he hl hr HLB.out HRB.out)
            rw [← hb] at HV2
            replace HAD := Lib.hid (show ∀ w' va vb, Env w' → PlsIn w' va l → PlsIn w' vb r → Calls Tryz.prog 80 #[.agg (rowOf .u8 32 R), va, vb] w' fun e w'' => e = .returned (.bool b) ∧ Below w'.heap.size w' w'' from fun w' va vb he hl hr => by rw [hb]; exact HAD.out w' va vb he hl hr)
            clear hb
            cases b with
            | true =>
              have HV := Lib.hid (show VF = none from by rw [HV2.out]; rfl)
              go_wp2_with (first
                | (refine wpList_load_row rfl 62 (.tmp 3) rfl q rfl 62 _ (0, 0) _ H3.out Tryz.underlying62 rfl (by rw [rowOf_size]; kernel_rfl) ?_)
                | (go_at_call 79; (with_reducible refine (HFR.out _ HE.out HR.out).mono ?_); rintro e w4 ⟨v4, rfl, ho, hb⟩; have HO4 := Lib.hid (own_pls (ho r rfl) (by have := HRL.out; have := HN2.out; omega)); replace HO3 := Lib.hid (HO3.out.below hb); replace HE := Lib.hid (HE.out.below hb HE.out.lt); replace HB := Lib.hid (HB.out.trans (hb.mono HB.out.size)); replace H3 := Lib.hid ((hb.block _ (bk_lt H3.out)).trans H3.out); clear hb ho)
                | (go_at_call 80; (with_reducible refine (HAD.out _ _ _ HE.out HO3.out HO4.out).mono ?_); rintro e w5 ⟨rfl, hb⟩; replace HB := Lib.hid (HB.out.trans (hb.mono HB.out.size)); clear hb))
              go_ret
              exact ⟨by rw [HV.out]; rfl, HB.out⟩
            | false =>
              have HV := Lib.hid (show VF = some 23 from by rw [HV2.out]; rfl)
              go_wp2_with (first
                | (refine wpList_load_row rfl 62 (.tmp 3) rfl q rfl 62 _ (0, 0) _ H3.out Tryz.underlying62 rfl (by rw [rowOf_size]; kernel_rfl) ?_)
                | (go_at_call 79; (with_reducible refine (HFR.out _ HE.out HR.out).mono ?_); rintro e w4 ⟨v4, rfl, ho, hb⟩; have HO4 := Lib.hid (own_pls (ho r rfl) (by have := HRL.out; have := HN2.out; omega)); replace HO3 := Lib.hid (HO3.out.below hb); replace HE := Lib.hid (HE.out.below hb HE.out.lt); replace HB := Lib.hid (HB.out.trans (hb.mono HB.out.size)); replace H3 := Lib.hid ((hb.block _ (bk_lt H3.out)).trans H3.out); clear hb ho)
                | (go_at_call 80; (with_reducible refine (HAD.out _ _ _ HE.out HO3.out HO4.out).mono ?_); rintro e w5 ⟨rfl, hb⟩; replace HB := Lib.hid (HB.out.trans (hb.mono HB.out.size)); clear hb))
              go_ret
              exact ⟨by rw [HV.out]; rfl, HB.out⟩
end Go.Proofs.YtabflppnecemkaaGreatDoor
