/- Part 30 of the proof. -/
import Derived.Test.YtfmfemmknccfmaaDoorPa29
namespace Go.Proofs.YtfmfemmknccfmaaDoor
set_option linter.unusedVariables false
set_option linter.unusedSimpArgs false
open Go.RowKit
set_option maxRecDepth 100000
set_option linter.unusedSimpArgs false
set_option linter.unusedVariables false
def plCells (x : Pl) : List Value := (plC x).toList
theorem plCells_length (x : Pl) : (plCells x).length = 34 := by unfold plCells; rw [Array.length_toList, plC_size]
theorem plCells_one (x : Pl) : ∀ v ∈ plCells x, v.oneCell' = true := fun v hv => (Array.all_eq_true_iff_forall_mem.1 (plC_one x)) v (by simpa [plCells] using hv)
def flatPl (l : List Pl) : List Value := l.flatMap plCells
theorem flatPl_append (a b : List Pl) : flatPl (a ++ b) = flatPl a ++ flatPl b := List.flatMap_append
theorem flatPl_one (l : List Pl) : ∀ u ∈ flatPl l, u.oneCell' = true := by
  intro u hu
  simp only [flatPl, List.mem_flatMap] at hu
  obtain ⟨p, _, hp⟩ := hu
  exact plCells_one p u hp
theorem infoPl : (Tryd.prog.info? 122).map (fun i => (i.zero, i.size, i.bytes)) = some (some (.agg (plC plZ)), 34, 48) := by kernel_rfl
/-- append of one place, in a block of its own, to a slice of one's own -/
theorem wpList_append_pl {w : World} {ops : Array Oper} {rest : List Oper} {o : Oper} {a : Act} {Q : Exit → Act → World → Prop} (hgd : o.guard = none) (s x : Operand)
    (ho : o.op = .call { callee := .builtin .append, args := #[s, x], argTypes := #[128, 128] }) (hty : o.type = 128)
    (base : Nat) (v : Value) (l : List Pl) (hs : a.eval s = v) (hown : w.ownsRow base 122 34 v l.length (flatPl l)) (b : Nat) (st : Pl) (hx : a.eval x = .slice (some ⟨b, 0, none⟩) 1 1) (hy : w.heap[b]? = some (.cells (plC st) 122 (0, 0))) (hl : (l.length + 1) * 48 ≤ 140737488355328) (hb : base ≤ w.heap.size)
    (h : ∀ v' w', w'.ownsRow base 122 34 v' (l ++ [st]).length (flatPl (l ++ [st])) → w.grownBy w' v.ownBlock → wpList Tryd.prog ops Q rest (a.put o.dst v') w') : wpList Tryd.prog ops Q (o :: rest) a w := by
  refine wpList_plain hgd fun K hK => ?_
  obtain ⟨i0, hi, hz0, hz1, hz2⟩ := info_parts infoPl
  obtain ⟨v', w', hr, h1, h2, _, _⟩ := run_append_own_at w base 128 128 122 i0 _ 34 48 Tryd.underlying128 hi hz0 hz1 hz2 (by simp [Value.cells, plC_size]) (by decide) v l.length (flatPl l) hown ⟨b, 0, none⟩ 1 1 (plCells st) (by rw [plCells_length])
    (fun j u hj => by rw [Addr.add_mid, Nat.zero_add, cell_of_row w b j _ _ _ hy]; simpa [plCells] using hj) (plCells_one st) (by unfold maxLen; omega) hl hb
  unfold Oper.wp execOp
  simp only [ho, hty, resolve, invoke, builtin, Sem.run_bind, Sem.run_pure, Result.andThen_ok, List.map_toArray, List.map_cons, List.map_nil, hs, hx, hr]
  exact hK _ _ (h v' w' (by rw [List.length_append, flatPl_append, show flatPl [st] = plCells st from by simp [flatPl]]; exact h1) h2)
theorem pl_fill (s : Pl) : Instr.fill (fun i => some (i * 34, 34)) ((Array.range (1 * 34)).map ((Value.agg (plC plZ)).cells[· % (Value.agg (plC plZ)).cells.size]!)) [(0, .agg (plC s))] = some (plC s) := by kernel_rfl
/-- a slice of one place -/
theorem wpList_pl1 {w : World} {ops : Array Oper} {rest : List Oper} {o : Oper} {a : Act} {Q : Exit → Act → World → Prop} (hgd : o.guard = none) (x : Operand) (ho : o.op = .buildSlice 128 1 #[(0, x)]) (s : Pl) (hx : a.eval x = .agg (plC s))
    (h : wpList Tryd.prog ops Q rest (a.put o.dst (.slice (some ⟨w.heap.size, 0, none⟩) 1 1)) (w.alloc (.cells (plC s) 122))) : wpList Tryd.prog ops Q (o :: rest) a w := by
  refine wpList_plain hgd fun K hK => ?_
  obtain ⟨i0, hi, hz0, hz1, hz2⟩ := info_parts infoPl
  refine wp_buildSlice 128 122 1 #[(0, x)] ho (plC s) i0 _ Tryd.underlying128 hi hz0 (by rw [hz1]; decide) (by rw [hz1]; decide) ?_ (hK _ _ h)
  rw [hz1]
  simpa [hx] using pl_fill s
/-- where all of these proofs lead to, or none where one does not -/
def folAllF (R : Nat → Int) : List PvP → Option (List Pl)
  | [] => some []
  | p :: r => match followF R p, folAllF R r with
    | some x, some l => some (x :: l)
    | _, _ => none
theorem folAll_snoc (R : Nat → Int) (l : List PvP) (acc : List Pl) (p : PvP) (x : Pl) (h : folAllF R l = some acc) (hx : followF R p = some x) : folAllF R (l ++ [p]) = some (acc ++ [x]) := by
  induction l generalizing acc with
  | nil => injection h with h; subst h; simp [folAllF, hx]
  | cons y r ih =>
    rw [List.cons_append]
    unfold folAllF at h ⊢
    cases hy : followF R y with
    | none => rw [hy] at h; cases h
    | some z =>
      cases hr : folAllF R r with
      | none => rw [hy, hr] at h; cases h
      | some a =>
        rw [hy, hr] at h
        injection h with h
        subst h
        rw [ih a hr]
        rfl
theorem folAll_bad (R : Nat → Int) (l : List PvP) (p : PvP) (hp : p ∈ l) (hx : followF R p = none) : folAllF R l = none := by
  induction l with
  | nil => cases hp
  | cons y r ih =>
    unfold folAllF
    rcases List.mem_cons.1 hp with rfl | hp
    · rw [hx]
    · rw [ih hp]
      cases followF R y <;> rfl
def e23o (o : Option (List Pl)) : Option Nat := if o.isSome then none else some 23
theorem pl_base {w : World} {B B' n m : Nat} {ty : TypeId} {v : Value} {vs : List Value} (h : w.ownsRow B ty n v m vs) (hb : B' ≤ B) : w.ownsRow B' ty n v m vs :=
  ⟨h.1, h.2.imp id fun ⟨g, cap, cur, e, hg, r⟩ => ⟨g, cap, cur, e, Nat.le_trans hb hg, r⟩⟩
theorem own_below {w w' : World} {base n m : Nat} {ty : TypeId} {v : Value} {vs : List Value} (h : w.ownsRow base ty n v m vs) (hb : Below w.heap.size w w') : w'.ownsRow base ty n v m vs :=
  ⟨h.1, h.2.imp id fun ⟨g, cap, cur, e, hg, hh, r⟩ => ⟨g, cap, cur, e, hg, (hb.block g (Array.getElem?_eq_some_iff.1 hh).1).trans hh, r⟩⟩
theorem own_blk {w : World} {base n m : Nat} {ty : TypeId} {v : Value} {vs : List Value} (h : w.ownsRow base ty n v m vs) {j : Nat} (hj : v.ownBlock = some j) : base ≤ j := by
  rcases h.2 with ⟨rfl, _⟩ | ⟨g, cap, cur, rfl, hg, _⟩
  · cases hj
  · injection hj with hj; subst hj; exact hg
theorem own_wide34 {w : World} {base n m : Nat} {ty : TypeId} {v : Value} {vs : List Value} (h : w.ownsRow base ty n v m vs) : ∃ a m c, v = .slice a m c := by
  rcases h.2 with ⟨h, _⟩ | ⟨g, cap, _, h, _⟩
  · exact ⟨_, _, _, h⟩
  · exact ⟨_, _, _, h⟩
/-- what followAll answers -/
def FaPost (R : Nat → Int) (ps : List PvP) (w : World) (e : Ending) (w' : World) : Prop :=
  ∃ v', e = .returned (.tuple #[v', errV (e23o (folAllF R ps))]) ∧ (∀ l, folAllF R ps = some l → w'.ownsRow w.heap.size 122 34 v' l.length (flatPl l)) ∧ Below w.heap.size w w'
set_option maxHeartbeats 8000000 in
theorem followAll_any (R : Nat → Int) (ps : List PvP) (v : Value) (w : World) (he : Env w) (hp : PrsIn w v ps) (hz : ∀ p ∈ ps, p.key.size + p.val.size ≤ 140737488351232) (hn : ps.length ≤ 1) :
    Calls Tryd.prog 62 #[.agg (rowOf .u8 32 R), v] w (FaPost R ps w) := by
  obtain ⟨va, vc, rfl, _⟩ := hp.len
  have HE := Lib.hid he
  have HP := Lib.hid hp
  have HZ := Lib.hid hz
  have HN := Lib.hid hn
  have hnI : (ps.length : Int) ≤ 1 := by omega
  clear he hp hz hn
  go_enter Tryd.func62, Tryd.ntmps62
  go_upto_region 1 with (fail)
  have H2 := Lib.hid (heap_alloc_new w (.cells (rowOf .u8 32 R) 43))
  have HB := Lib.hid (below_alloc w (.cells (rowOf .u8 32 R) 43))
  generalize w.alloc (.cells (rowOf .u8 32 R) 43) = w1 at *
  obtain ⟨q, hq⟩ : ∃ q, q = w.heap.size := ⟨_, rfl⟩
  rw [← hq] at H2 ⊢
  have HQ := Lib.hid hq
  clear hq
  have HL2 := Lib.hid (bk_lt H2.out)
  have HW1 := Lib.hid (Below.refl w1.heap.size w1)
  replace HP := Lib.hid (HP.out.below HB.out)
  go_wp2_with (fail)
  go_loopw [6, 13] (fun u x wr => ∃ (k : Nat) (acc : List Pl), k ≤ ps.length ∧ x = .int .i64 (k : Int) ∧ Hid (folAllF R (ps.take k) = some acc ∧ acc.length = k) ∧ Hid (wr.ownsRow w1.heap.size 122 34 u acc.length (flatPl acc)) ∧ Hid (Below w1.heap.size w1 wr)) (fun _ x _ => ps.length - (intOf x).toNat)
  case atStart => exact ⟨0, [], Nat.zero_le _, rfl, Lib.hid ⟨rfl, rfl⟩, Lib.hid (World.ownsRow_nil _ _ _ _), HW1⟩
  case round =>
    clear HW1
    obtain ⟨k, acc, hkl, rfl, HK, HO, HW1⟩ := hrel
    by_cases hlt : k < ps.length
    · obtain ⟨p, hp⟩ : ∃ p, ps[k]? = some p := ⟨_, List.getElem?_eq_getElem hlt⟩
      obtain ⟨b, off, rfl, hpa⟩ := HP.out.at hp
      obtain ⟨sv, hrg, hst⟩ := hpa.below HW1.out
      obtain ⟨sa, sc, rfl⟩ := hst.len
      have HRG := Lib.hid hrg
      have HST := Lib.hid hst
      have HPK := Lib.hid hp
      have hpm : p ∈ ps := List.mem_of_getElem? hp
      have HFO := Lib.hid (fun w' he hst => follow_any R p (.slice sa p.steps.length sc) w' he hst (HZ.out p hpm))
      unfold FoPost at HFO
      have HPM := Lib.hid hpm
      have hltI : (k : Int) < (ps.length : Int) := by omega
      have hk1 : k ≤ 1 := by have := HN.out; omega
      clear hp hpa hrg hst hpm
      obtain ⟨ua, un, uc, rfl⟩ := own_wide34 HO.out
      have H8 := Lib.hid (heap_alloc_new wr (.cells (prC p (.slice sa p.steps.length sc)) 52))
      have HB8 := Lib.hid (below_alloc wr (.cells (prC p (.slice sa p.steps.length sc)) 52))
      go_upto_region 5 with (first
        | (refine wpList_load_rowsz (by rfl) 52 (.tmp 15) rfl b (off + k * 3) rfl (prC p (.slice sa p.steps.length sc)) _ HRG.out Tryd.underlying52 rfl (by kernel_rfl) ?_)
        | (refine wpList_store_row rfl 52 (.tmp 8) (.tmp 16) rfl wr.heap.size (prC p (.slice sa p.steps.length sc)) rfl rfl 52 _ (heap_alloc_new _ _) (by kernel_rfl) rfl (prC_one _ _ _ _) ?_; rw [World.setRow_alloc_new]))
      obtain ⟨g8, hg8⟩ : ∃ g, g = wr.heap.size := ⟨_, rfl⟩
      have HG8 := Lib.hid hg8
      rw [← hg8] at H8 ⊢
      clear hg8
      generalize wr.alloc (.cells (prC p (.slice sa p.steps.length sc)) 52) = w3 at *
      have HB3 := Lib.hid (show Below w1.heap.size w1 w3 from HW1.out.trans (HB8.out.mono HW1.out.size))
      have H2' := Lib.hid ((HB3.out.block _ HL2.out).trans H2.out)
      go_upto_region 6 with (first
        | (refine wpList_load_row rfl 43 (.tmp 2) rfl q rfl 43 _ (0, 0) _ H2'.out Tryd.underlying43 rfl (by rw [rowOf_size]; kernel_rfl) ?_)
        | (refine wpList_load_row rfl 52 (.tmp 8) rfl g8 rfl 52 _ (0, 0) _ H8.out Tryd.underlying52 rfl (by kernel_rfl) ?_)
        | (go_at_call 59; (with_reducible refine (HFO.out _ (HE.out.below (HB.out.trans (HB3.out.mono HB.out.size)) HE.out.lt) (HST.out.below HB8.out)).mono ?_); rintro e w4 ⟨rfl, hb⟩; have HB4 := Lib.hid hb; clear hb)
        | (refine wpList_store_row rfl 122 (.tmp 9) (.tmp 21) rfl w4.heap.size (plC ((followF R p).getD plZ)) rfl rfl 122 _ (heap_alloc_new _ _) (by rw [plC_size]; kernel_rfl) (by rw [plC_size]; rfl) (plC_one _) ?_; rw [World.setRow_alloc_new]))
      have H9 := Lib.hid (heap_alloc_new w4 (.cells (plC ((followF R p).getD plZ)) 122))
      have HB9 := Lib.hid (show Below w1.heap.size w1 (w4.alloc (.cells (plC ((followF R p).getD plZ)) 122)) from (HB3.out.trans (HB4.out.mono HB3.out.size)).trans ((below_alloc w4 _).mono (Nat.le_trans HB3.out.size HB4.out.size)))
      have HBR := Lib.hid (show Below wr.heap.size wr (w4.alloc (.cells (plC ((followF R p).getD plZ)) 122)) from (HB8.out.trans (HB4.out.mono HB8.out.size)).trans ((below_alloc w4 _).mono (Nat.le_trans HB8.out.size HB4.out.size)))
      obtain ⟨g9, hg9⟩ : ∃ g, g = w4.heap.size := ⟨_, rfl⟩
      rw [← hg9] at H9 ⊢
      clear hg9 HFO HST HRG
      generalize w4.alloc (.cells (plC ((followF R p).getD plZ)) 122) = w5 at *
      cases ho : followF R p with
      | none =>
        have HF := Lib.hid (folAll_bad R ps p HPM.out ho)
        rw [ho] at H9
        simp only [e23, errV, Option.isSome_none, Bool.false_eq_true, if_false]
        clear ho
        go_wp2_with (fail)
        go_ret2
        exact ⟨_, by unfold e23o; rw [HF.out]; rfl, (fun l hl => by rw [HF.out] at hl; cases hl), HB.out.trans (HB9.out.mono HB.out.size)⟩
      | some x =>
        have HF := Lib.hid (show folAllF R (ps.take (k + 1)) = some (acc ++ [x]) from by rw [List.take_add_one, HPK.out]; exact folAll_snoc R _ acc p x HK.out.1 ho)
        rw [ho] at H9
        simp only [e23, errV, Option.isSome_some, if_true, Option.getD_some] at H9 ⊢
        clear ho
        have HO5 := Lib.hid (show w5.ownsRow w1.heap.size 122 34 (.slice ua un uc) acc.length (flatPl acc) from own_below HO.out HBR.out)
        go_upto_region 9 with (first
          | (refine wpList_load_row rfl 122 (.tmp 9) rfl g9 rfl 122 _ (0, 0) _ H9.out Tryd.underlying122 rfl (by rw [plC_size]; kernel_rfl) ?_)
          | (refine wpList_pl1 rfl (.tmp 27) rfl x rfl ?_)
          | (refine wpList_append_pl rfl (.tmp 26) (.tmp 28) rfl rfl w1.heap.size (.slice ua un uc) acc rfl (own_below HO5.out (below_alloc w5 _)) w5.heap.size x rfl (heap_alloc_new w5 _) (by have := HK.out.2; omega) (Nat.le_trans HB9.out.size (below_alloc w5 _).size) ?_; intro v6 w6 ho6 hg6; have HO6 := Lib.hid ho6; have HB6 := Lib.hid ((HB9.out.trans ((below_alloc w5 (.cells (plC x) 122)).mono HB9.out.size)).grown hg6 (Nat.le_trans HB9.out.size (below_alloc w5 _).size) (fun j hj => own_blk HO.out hj)); clear ho6 hg6))
        go_wp2_with (fail)
        go_roundw
        case rel => exact ⟨k + 1, acc ++ [x], by omega, by go_num, Lib.hid ⟨HF.out, by rw [List.length_append, HK.out.2]; rfl⟩, HO6, HB6⟩
        case measure => simp [intOf]; omega
    · obtain rfl : k = ps.length := by omega
      rw [List.take_length] at HK
      clear hlt hkl
      go_wp2_with (fail)
      go_ret2
      exact ⟨_, by unfold e23o; rw [HK.out.1]; rfl, fun l hl => by rw [HK.out.1] at hl; injection hl with hl; subst hl; exact pl_base HO.out HB.out.size, HB.out.trans (HW1.out.mono HB.out.size)⟩
end Go.Proofs.YtfmfemmknccfmaaDoor
