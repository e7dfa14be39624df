/- coin: slices of strings; a trace checked. -/
import Derived.Test.YteokgklfljhcaaaGreatDoorCnC
import Derived.Great.BuildSlice
namespace Go.Proofs.YteokgklfljhcaaaGreatDoor
open Go.RowKit
set_option maxRecDepth 100000
set_option linter.unusedSimpArgs false
set_option linter.unusedVariables false
/-- a slice of strings in memory -/
def SsIn (w : World) (v : Value) (l : List ByteArray) : Prop :=
  ∃ a cap, v = .slice a l.length cap ∧ l.length ≤ cap ∧ l.length ≤ maxLen ∧ (l = [] ∨ ∃ ab ao, a = some ⟨ab, ao, none⟩ ∧ ab < w.heap.size ∧ ∀ i s, l[i]? = some s → w.cell? ⟨ab, ao + i, none⟩ = some (.string s))
theorem SsIn.below {w w' : World} {v : Value} {l : List ByteArray} (h : SsIn w v l) (hb : Below w.heap.size w w') : SsIn w' v l := by
  obtain ⟨a, cap, rfl, h1, h2, h3⟩ := h
  refine ⟨a, cap, rfl, h1, h2, h3.imp id ?_⟩
  rintro ⟨ab, ao, rfl, hlt, hx⟩
  exact ⟨ab, ao, rfl, Nat.lt_of_lt_of_le hlt hb.size, fun i s hi => (hb.cell (p := ⟨ab, ao + i, none⟩) hlt).trans (hx i s hi)⟩
theorem ss_nil (w : World) : SsIn w (.slice none 0 0) [] := ⟨none, 0, rfl, Nat.le_refl _, Nat.zero_le _, .inl rfl⟩
def strV (l : List ByteArray) : List Value := l.map Value.string
theorem strV_one (l : List ByteArray) : ∀ u ∈ strV l, u.oneCell' = true := fun u hu => by
  obtain ⟨s, -, rfl⟩ := List.mem_map.1 hu
  rfl
theorem ss_own {w : World} {B : Nat} {v : Value} {l : List ByteArray} (h : w.ownsRow B 9 1 v l.length (strV l)) (hm : l.length ≤ maxLen) : SsIn w v l := by
  obtain ⟨h0, h⟩ := h
  rcases h with ⟨rfl, hn⟩ | ⟨g, cap, cur, rfl, hg, hh, hc, hcm, hsz, ht⟩
  · obtain rfl := List.eq_nil_of_length_eq_zero hn
    exact ss_nil w
  · refine ⟨some ⟨g, 0, none⟩, cap, rfl, hc, hm, .inr ⟨g, 0, rfl, (Array.getElem?_eq_some_iff.1 hh).1, fun i s hi => ?_⟩⟩
    rw [Nat.zero_add, cell_of_row _ _ _ _ _ _ hh]
    have hi2 : (strV l)[i]? = some (.string s) := by unfold strV; rw [List.getElem?_map, hi]; rfl
    rw [← ht, Nat.mul_one, List.getElem?_take] at hi2
    split at hi2
    · simpa using hi2
    · cases hi2
theorem infoS14 : (Tryz.prog.info? 9).map (fun i => (i.zero, i.size, i.bytes)) = some (some (.string { data := #[] }), 1, 16) := by kernel_rfl
theorem run_append_ss (w : World) (B : Nat) (v : Value) (l : List ByteArray) (hown : w.ownsRow B 9 1 v l.length (strV l)) (y : Value) (m : List ByteArray) (hy : SsIn w y m) (hl : l.length + m.length ≤ 8796093022208) (hb : B ≤ w.heap.size) :
    ∃ v' w', (Builtin.append_ #[60, 60] 60 #[v, y]).run Tryz.prog w = .ok v' w' ∧ w'.ownsRow B 9 1 v' (l ++ m).length (strV (l ++ m)) ∧ w.grownBy w' v.ownBlock ∧ (v'.ownBlock = v.ownBlock ∨ v'.ownBlock = some w.heap.size) := by
  obtain ⟨i0, hi, hz0, hz1, hz2⟩ := info_parts infoS14
  obtain ⟨a, c, rfl, hc, -, hx⟩ := hy
  rcases a with _ | ad
  · have hn : m = [] := by
      rcases hx with hx | ⟨_, _, h, _⟩
      · exact hx
      · cases h
    subst hn
    refine ⟨v, w, ?_, by simpa using hown, ⟨rfl, rfl, rfl, Nat.le_refl _, fun _ _ _ => rfl⟩, .inl rfl⟩
    rcases hown.2 with ⟨rfl, h0⟩ | ⟨g, cap, cur, rfl, _, _, hnc, _⟩
    · simp [Builtin.append_, run_underlying Tryz.underlying60, sizeOf, typeInfo, hi, Builtin.lenOf, Builtin.firstCells]
    · simp [Builtin.append_, run_underlying Tryz.underlying60, sizeOf, typeInfo, hi, Builtin.lenOf, Builtin.firstCells, hnc, storeCells]
  · have hcells : ∀ j u, (strV m)[j]? = some u → w.cell? (ad.add j) = some u := fun j u hu => by
      rcases hx with rfl | ⟨b, off, h, _, hx⟩
      · simp [strV] at hu
      · injection h with h; subst h
        unfold strV at hu
        rw [List.getElem?_map] at hu
        obtain ⟨s, hs, rfl⟩ := Option.map_eq_some_iff.1 hu
        rw [Addr.add_mid]
        exact hx j s hs
    obtain ⟨v', w', hr, h1, h2, _, h4⟩ := run_append_own_at w B 60 60 9 i0 (.string { data := #[] }) 1 16 Tryz.underlying60 hi hz0 hz1 hz2 rfl (by decide) v l.length (strV l) hown ad m.length c (strV m) (by simp [strV]) hcells (strV_one m) (by unfold maxLen; omega) (by omega) hb
    exact ⟨v', w', hr, by rw [List.length_append]; unfold strV at h1 ⊢; rw [List.map_append]; exact h1, h2, h4⟩
theorem wpList_append_ss {w : World} {ops : Array Oper} {rest : List Oper} {o : Oper} {a : Act} {Q : Exit → Act → World → Prop} (hgd : o.guard = none) (s x : Operand)
    (ho : o.op = .call { callee := .builtin .append, args := #[s, x], argTypes := #[60, 60] }) (hty : o.type = 60)
    (B : Nat) (v y : Value) (l m : List ByteArray) (hs : a.eval s = v) (hown : w.ownsRow B 9 1 v l.length (strV l)) (hx : a.eval x = y) (hy : SsIn w y m) (hl : l.length + m.length ≤ 8796093022208) (hb : B ≤ w.heap.size)
    (h : ∀ v' w', w'.ownsRow B 9 1 v' (l ++ m).length (strV (l ++ m)) → w.grownBy w' v.ownBlock → (v'.ownBlock = v.ownBlock ∨ v'.ownBlock = some w.heap.size) → wpList Tryz.prog ops Q rest (a.put o.dst v') w') : wpList Tryz.prog ops Q (o :: rest) a w := by
  refine wpList_plain hgd fun K hK => ?_
  obtain ⟨v', w', hr, h1, h2, h3⟩ := run_append_ss w B v l hown y m hy hl hb
  unfold Oper.wp execOp
  simp only [ho, hty, resolve, invoke, builtin, Sem.run_bind, Sem.run_pure, Result.andThen_ok, List.map_toArray, List.map_cons, List.map_nil, hs, hx, hr]
  exact hK _ _ (h v' w' h1 h2 h3)
theorem step_append_ss {ops : Array Oper} {o : Oper} {a : Act} {w : World} {K : Act → World → Prop} {Q : Exit → Act → World → Prop} {E : Prop} (hw : Region.wanted o (yielded ops a.tmps) = true) (s x : Operand)
    (ho : o.op = .call { callee := .builtin .append, args := #[s, x], argTypes := #[60, 60] }) (hty : o.type = 60)
    (B : Nat) (v y : Value) (l m : List ByteArray) (hs : a.eval s = v) (hown : w.ownsRow B 9 1 v l.length (strV l)) (hx : a.eval x = y) (hy : SsIn w y m) (hl : l.length + m.length ≤ 8796093022208) (hb : B ≤ w.heap.size)
    (h : ∀ v' w', w'.ownsRow B 9 1 v' (l ++ m).length (strV (l ++ m)) → w.grownBy w' v.ownBlock → (v'.ownBlock = v.ownBlock ∨ v'.ownBlock = some w.heap.size) → K (a.put o.dst v') w') :
    if Region.wanted o (yielded ops a.tmps) = true then Oper.wp Tryz.prog o a w K Q else E := by
  rw [if_pos hw]
  obtain ⟨v', w', hr, h1, h2, h3⟩ := run_append_ss w B v l hown y m hy hl hb
  unfold Oper.wp execOp
  simp only [ho, hty, resolve, invoke, builtin, Sem.run_bind, Sem.run_pure, Result.andThen_ok, List.map_toArray, List.map_cons, List.map_nil, hs, hx, hr]
  exact h v' w' h1 h2 h3
/-- no end -/
def noEnd (s : ByteArray) : Bool := !endB s
theorem cnoend_any (s : ByteArray) (w : World) (hs : s.size ≤ 9223372036854775806) : Calls Tryz.prog 128 #[.string s] w fun e w' => e = .returned (.bool (noEnd s)) ∧ Below w.heap.size w w' := by
  have HC := Lib.hid (cend_any s w hs)
  unfold noEnd
  obtain ⟨b, hb⟩ : ∃ b, b = endB s := ⟨_, rfl⟩
  rw [← hb] at HC ⊢
  clear hb
  go_enter Tryz.func128, Tryz.ntmps128
  go_wp2_with (go_at_call 129; (with_reducible refine HC.out.mono ?_); rintro e w1 ⟨rfl, hb⟩; have HB := Lib.hid hb; clear hb)
  go_ret
  exact ⟨rfl, HB.out⟩
def IxR14 (w : World) (l : List ByteArray) (k : Nat) (wr : World) : Prop := Below w.heap.size w wr ∧ (l.take k).any noEnd = false
theorem any_snoc14 {α : Type} {l : List α} {p : α → Bool} {k : Nat} {x : α} (h : l[k]? = some x) : (l.take (k + 1)).any p = ((l.take k).any p || p x) := by
  rw [List.take_add_one, h, List.any_append]; simp
theorem any_hit14 {α : Type} {l : List α} {p : α → Bool} {k : Nat} {x : α} (h : l[k]? = some x) (hp : p x = true) : l.any p = true := List.any_eq_true.2 ⟨x, List.mem_of_getElem? h, hp⟩
theorem cidx_any (l : List ByteArray) (v : Value) (w : World) (hv : SsIn w v l) (hl : l.length ≤ 8796093022208) (hs : ∀ s ∈ l, s.size ≤ 9223372036854775806) :
    Calls Tryz.prog 163 #[v, .func (.func 128) #[] #[]] w fun e w' => ∃ i : Int, e = .returned (.int .i64 i) ∧ decide (0 ≤ i) = l.any noEnd ∧ Below w.heap.size w w' := by
  obtain ⟨a, cap, rfl, -, -, hx⟩ := id hv
  have HX := Lib.hid hx
  have HS := Lib.hid hs
  obtain ⟨n, hn⟩ : ∃ n, n = l.length := ⟨_, rfl⟩
  have HN := Lib.hid hn
  have hn1 : n ≤ 8796093022208 := by omega
  rw [← hn]
  clear hv hl hn hx hs
  go_enter Tryz.func163, Tryz.ntmps163
  go_upto_region 2 with (fail)
  have HR0 := Lib.hid (show IxR14 w l 0 w from ⟨Below.refl _ _, by simp⟩)
  go_wp2_with (fail)
  go_loopw [8] (fun x wr => ∃ k : Nat, k ≤ n ∧ x = .int .i64 (k : Int) ∧ Hid (IxR14 w l k wr)) (fun x _ => n - (intOf x).toNat)
  case atStart => exact ⟨0, Nat.zero_le _, rfl, HR0⟩
  case round =>
    clear HR0
    obtain ⟨k, hkn, rfl, HR⟩ := hrel
    by_cases hlt : k < n
    · have hltI : (k : Int) < (n : Int) := by omega
      obtain ⟨x, hx⟩ : ∃ x, l[k]? = some x := ⟨l[k]'(by have := HN.out; omega), List.getElem?_eq_getElem _⟩
      obtain ⟨ab, ao, rfl, hab, hra⟩ := HX.out.resolve_left (fun e => by rw [e] at hx; simp at hx)
      have hcell : wr.cell? ⟨ab, ao + k, none⟩ = some (.string x) := (HR.out.1.cell (p := ⟨ab, ao + k, none⟩) hab).trans (hra k x hx)
      have HCA := Lib.hid (cnoend_any x wr (HS.out x (List.mem_of_getElem? hx)))
      have HXX := Lib.hid hx
      clear hab hra hx
      cases hp : noEnd x with
      | true =>
        have HP := Lib.hid hp
        rw [hp] at HCA
        clear hp
        go_wp2_with (go_at_call 128; (with_reducible refine HCA.out.mono ?_); rintro e w2 ⟨rfl, hb⟩; have HB2 := Lib.hid hb; clear hb)
        go_ret
        exact ⟨(k : Int), rfl, by rw [any_hit14 HXX.out HP.out]; exact decide_eq_true (by omega), HR.out.1.trans (HB2.out.mono HR.out.1.size)⟩
      | false =>
        have HP := Lib.hid hp
        rw [hp] at HCA
        clear hp
        go_wp2_with (go_at_call 128; (with_reducible refine HCA.out.mono ?_); rintro e w2 ⟨rfl, hb⟩; have HB2 := Lib.hid hb; clear hb)
        go_roundw
        case rel => exact ⟨k + 1, by omega, by go_num, Lib.hid ⟨HR.out.1.trans (HB2.out.mono HR.out.1.size), by rw [any_snoc14 HXX.out, HR.out.2, HP.out]; rfl⟩⟩
        case measure => simp [intOf]; omega
    · obtain rfl : k = n := by omega
      go_wp2_with (fail)
      go_ret
      exact ⟨-1, rfl, by have := HR.out.2; rw [HN.out, List.take_length] at this; rw [this]; rfl, HR.out.1⟩
theorem ccontf_any (l : List ByteArray) (v : Value) (w : World) (hv : SsIn w v l) (hl : l.length ≤ 8796093022208) (hs : ∀ s ∈ l, s.size ≤ 9223372036854775806) :
    Calls Tryz.prog 130 #[v, .func (.func 128) #[] #[]] w fun e w' => e = .returned (.bool (l.any noEnd)) ∧ Below w.heap.size w w' := by
  have HI := Lib.hid (cidx_any l v w hv hl hs)
  obtain ⟨a, cap, rfl, -, -⟩ := hv
  clear hs
  go_enter Tryz.func130, Tryz.ntmps130
  go_wp2_with (go_at_call 163; (with_reducible refine HI.out.mono ?_); rintro e w2 ⟨i, rfl, hi, hb⟩; have HB2 := Lib.hid hb; have HJ := Lib.hid hi; clear hb hi)
  go_ret
  exact ⟨by rw [← HJ.out]; rfl, HB2.out⟩
/-- the error of Full -/
def trE (p : List ByteArray) (b : ByteArray) : Option Nat := if 8 < p.length then some 2 else if p.any noEnd || !baseB b then some 40 else none
def trC (pv : Value) (b : ByteArray) : Array Value := #[pv, .string b]
theorem ctrace_any (p : List ByteArray) (b : ByteArray) (pv : Value) (w : World) (hp : SsIn w pv p) (hl : p.length ≤ 8796093022208) (hs : ∀ s ∈ p, s.size ≤ 9223372036854775806) (hb : b.size ≤ 9223372036854775807) :
    Calls Tryz.prog 80 #[.agg (trC pv b)] w fun e w' => e = .returned (errV (trE p b)) ∧ Below w.heap.size w w' := by
  obtain ⟨pa, pc, rfl, -, -⟩ := id hp
  have HC := Lib.hid (fun w h => ccontf_any p (.slice pa p.length pc) w h hl hs)
  have HBA := Lib.hid (fun w => cbase_any b w hb)
  have HP := Lib.hid hp
  obtain ⟨n, hn⟩ : ∃ n, n = p.length := ⟨_, rfl⟩
  have HB := Lib.hid (below_alloc w (.cells (trC (.slice pa n pc) b) 65))
  have HQ := Lib.hid (heap_alloc_new w (.cells (trC (.slice pa n pc) b) 65))
  obtain ⟨E, hE⟩ : ∃ e, e = trE p b := ⟨_, rfl⟩
  rw [← hE]
  have HE := Lib.hid hE
  unfold trE at HE
  rw [← hn] at HC HP HE ⊢
  obtain ⟨x, hx⟩ : ∃ x, x = p.any noEnd := ⟨_, rfl⟩
  obtain ⟨y, hy⟩ : ∃ x, x = baseB b := ⟨_, rfl⟩
  rw [← hx] at HC HE
  rw [← hy] at HBA HE
  replace HP := Lib.hid (HP.out.below HB.out)
  clear hp hs hb hn hx hy hl hE
  go_enter Tryz.func80, Tryz.ntmps80
  go_upto_region 1 with (fail)
  obtain ⟨q, hq⟩ : ∃ q, q = w.heap.size := ⟨_, rfl⟩
  rw [← hq] at HQ ⊢
  clear hq
  generalize w.alloc (.cells (trC (.slice pa n pc) b) 65) = w1 at *
  have c0 : w1.cell? ⟨q, 0, none⟩ = some (.slice pa n pc) := cell_of_row _ _ _ _ _ _ HQ.out
  by_cases h1 : 8 < n
  · have h1I : (8 : Int) < (n : Int) := by omega
    rw [if_pos h1] at HE
    go_wp2_with (fail)
    go_ret
    exact ⟨by rw [HE.out]; rfl, HB.out⟩
  · have h1I : ¬ (8 : Int) < (n : Int) := by omega
    rw [if_neg h1] at HE
    cases x with
    | true =>
      go_wp2_with (go_at_call 130; (with_reducible refine (HC.out _ HP.out).mono ?_); rintro e w2 ⟨rfl, hb⟩; replace HB := Lib.hid (HB.out.trans (hb.mono HB.out.size)); clear hb)
      go_ret
      exact ⟨by rw [HE.out]; rfl, HB.out⟩
    | false =>
      cases y with
      | true =>
        go_wp2_with (first
          | (go_at_call 130; (with_reducible refine (HC.out _ HP.out).mono ?_); rintro e w2 ⟨rfl, hb⟩; have c1 : w2.cell? ⟨q, 1, none⟩ = some (.string b) := cell_of_row _ _ _ _ _ _ ((hb.block _ (Array.getElem?_eq_some_iff.1 HQ.out).1).trans HQ.out); replace HB := Lib.hid (HB.out.trans (hb.mono HB.out.size)); clear hb)
          | (go_at_call 39; (with_reducible refine (HBA.out _).mono ?_); rintro e w3 ⟨rfl, hb⟩; replace HB := Lib.hid (HB.out.trans (hb.mono HB.out.size)); clear hb))
        go_ret
        exact ⟨by rw [HE.out]; rfl, HB.out⟩
      | false =>
        go_wp2_with (first
          | (go_at_call 130; (with_reducible refine (HC.out _ HP.out).mono ?_); rintro e w2 ⟨rfl, hb⟩; have c1 : w2.cell? ⟨q, 1, none⟩ = some (.string b) := cell_of_row _ _ _ _ _ _ ((hb.block _ (Array.getElem?_eq_some_iff.1 HQ.out).1).trans HQ.out); replace HB := Lib.hid (HB.out.trans (hb.mono HB.out.size)); clear hb)
          | (go_at_call 39; (with_reducible refine (HBA.out _).mono ?_); rintro e w3 ⟨rfl, hb⟩; replace HB := Lib.hid (HB.out.trans (hb.mono HB.out.size)); clear hb))
        go_ret
        exact ⟨by rw [HE.out]; rfl, HB.out⟩
end Go.Proofs.YteokgklfljhcaaaGreatDoor
