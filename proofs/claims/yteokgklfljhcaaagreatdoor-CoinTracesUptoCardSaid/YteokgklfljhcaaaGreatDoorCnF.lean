/- coin: the text of a trace. -/
import Derived.Test.YteokgklfljhcaaaGreatDoorCnT
import Derived.Test.YteokgklfljhcaaaGreatDoorTill
namespace Go.Proofs.YteokgklfljhcaaaGreatDoor
open Go.RowKit
set_option maxRecDepth 100000
set_option linter.unusedSimpArgs false
set_option linter.unusedVariables false
theorem builderX14 : Builder.Extra Tryz.prog Tryz.lays156_ren where
  sizeBuilder := by kernel_rfl
  liesBuilder := by kernel_rfl
  t5 := Tryz.underlying5
  a5 := Tryz.isAgg5
  z5 := Tryz.sizeOf5
  v5 := Tryz.zeroValue5
  infoByte := by kernel_rfl
  cellsByte := by kernel_rfl
  sizeByte := by kernel_rfl
  neB5 := by decide
theorem eqNil14_none (n c : Nat) (w : World) : (binOp .eql 60 (.slice none n c) (.slice none 0 0)).run Tryz.prog w = .ok (.bool true) w := by kernel_rfl
theorem eqNil14_some (ad : Addr) (n c : Nat) (w : World) : (binOp .eql 60 (.slice (some ad) n c) (.slice none 0 0)).run Tryz.prog w = .ok (.bool false) w := by kernel_rfl
theorem own_empty14 (w : World) : (w.alloc (.cells #[] 9)).ownsRow w.heap.size 9 1 (.slice (some ⟨w.heap.size, 0, none⟩) 0 0) ([] : List ByteArray).length (strV []) :=
  ⟨rfl, .inr ⟨w.heap.size, 0, #[], rfl, Nat.le_refl _, heap_alloc_new _ _, Nat.le_refl _, Nat.zero_le _, rfl, rfl⟩⟩
theorem cclone_any (l : List ByteArray) (v : Value) (w : World) (hv : SsIn w v l) (hl : l.length ≤ 8796093022208) :
    Calls Tryz.prog 82 #[v] w fun e w' => ∃ v', e = .returned v' ∧ w'.ownsRow w.heap.size 9 1 v' l.length (strV l) ∧ Below w.heap.size w w' := by
  obtain ⟨a, c, rfl, hc, hm, hx⟩ := id hv
  have HV := Lib.hid hv
  cases a with
  | none =>
    have hn : l = [] := by
      rcases hx with hx | ⟨_, _, h, _⟩
      · exact hx
      · cases h
    subst hn
    clear hx hv HV
    have h1 := eqNil14_none 0 c
    go_enter Tryz.func82, Tryz.ntmps82
    go_wp2_with (fail)
    go_ret
    exact ⟨_, rfl, World.ownsRow_nil _ _ _ _, Below.refl _ _⟩
  | some ad =>
    have HB := Lib.hid (below_alloc w (.cells #[] 9))
    have HL := Lib.hid hl
    have HO := Lib.hid (own_empty14 w)
    have HS := Lib.hid (show w.heap.size ≤ (w.alloc (.cells #[] 9)).heap.size from by simp)
    clear hx hv hc hm hl
    obtain ⟨n, hn⟩ : ∃ n, n = l.length := ⟨_, rfl⟩
    rw [← hn] at HV ⊢
    have HN := Lib.hid hn
    clear hn
    have h1 := eqNil14_some ad n c
    go_enter Tryz.func82, Tryz.ntmps82
    go_wp2_with (first
      | (at_builtin; refine wpList_append_ss rfl (.tmp 5) (.tmp 6) rfl rfl w.heap.size (.slice (some ⟨w.heap.size, 0, none⟩) 0 0) (.slice (some ad) n c) [] l rfl HO.out rfl (HV.out.below HB.out) (by rw [List.length_nil]; have := HL.out; omega) HS.out ?_; intro v4 w4 ho4 hg4 hw4; rw [List.nil_append] at ho4; have HO4 := Lib.hid ho4; have HG4 := Lib.hid hg4; clear ho4 hg4 hw4))
    go_ret
    exact ⟨v4, rfl, by rw [HN.out]; exact HO4.out, HB.out.grown HG4.out (by simp) (fun k hk => (HO.out.lt k hk).1)⟩
def joinS (l : List ByteArray) : ByteArray := ⟨(Lib.join (l.map (·.data.toList)) [47]).toArray⟩
theorem cjoin_any (l : List ByteArray) (v : Value) (w : World) (hv : SsIn w v l) (hl : l.length ≤ 8796093022208) (hj : (joinS l).size ≤ 140737488355328) :
    Calls Tryz.prog 81 #[v, .string { data := #[47] }] w fun e w' => e = .returned (.string (joinS l)) ∧ Below w.heap.size w w' := by
  obtain ⟨a, c, rfl, hc, hm, hx⟩ := id hv
  have hj' : (Lib.join (l.map (·.data.toList)) [47]).length ≤ 140737488355328 := by
    have : (joinS l).size = (Lib.join (l.map (·.data.toList)) [47]).length := by unfold joinS; simp [ByteArray.size]
    omega
  rcases hx with rfl | ⟨ab, ao, rfl, hlt, hx⟩
  · exact (Any.strings_Join_none Tryz.lays156 builderX14 a c { data := #[47] } w).mono fun e w' ⟨he, hw⟩ => ⟨he, hw ▸ Below.refl _ _⟩
  · exact Any.strings_Join Tryz.lays156 builderX14 ab ao c l { data := #[47] } w hx hlt (by omega) hc hj'
theorem one_fillS (s : ByteArray) : Instr.fill (fun i => some (i * 1, 1)) ((Array.range (1 * 1)).map ((Value.string { data := #[] }).cells[· % (Value.string { data := #[] }).cells.size]!)) [(0, .string s)] = some #[.string s] := by kernel_rfl
theorem wpList_str1 {w : World} {ops : Array Oper} {rest : List Oper} {o : Oper} {a : Act} {Q : Exit → Act → World → Prop} (hgd : o.guard = none) (x : Operand) (ho : o.op = .buildSlice 60 1 #[(0, x)]) (s : ByteArray) (hx : a.eval x = .string s)
    (h : wpList Tryz.prog ops Q rest (a.put o.dst (.slice (some ⟨w.heap.size, 0, none⟩) 1 1)) (w.alloc (.cells #[.string s] 9))) : wpList Tryz.prog ops Q (o :: rest) a w := by
  refine wpList_plain hgd fun K hK => ?_
  obtain ⟨i0, hi, hz0, hz1, hz2⟩ := info_parts infoS14
  refine wp_buildSlice 60 9 1 #[(0, x)] ho #[.string s] i0 _ Tryz.underlying60 hi hz0 (by rw [hz1]; decide) (by rw [hz1]; decide) ?_ (hK _ _ h)
  rw [hz1]
  simpa [hx] using one_fillS s
theorem wp_str1 {o : Oper} {a : Act} {w : World} {K : Act → World → Prop} {Q : Exit → Act → World → Prop} (x : Operand) (ho : o.op = .buildSlice 60 1 #[(0, x)]) (s : ByteArray) (hx : a.eval x = .string s)
    (h : K (a.put o.dst (.slice (some ⟨w.heap.size, 0, none⟩) 1 1)) (w.alloc (.cells #[.string s] 9))) : o.wp Tryz.prog a w K Q := by
  obtain ⟨i0, hi, hz0, hz1, hz2⟩ := info_parts infoS14
  refine wp_buildSlice 60 9 1 #[(0, x)] ho #[.string s] i0 _ Tryz.underlying60 hi hz0 (by rw [hz1]; decide) (by rw [hz1]; decide) ?_ h
  rw [hz1]
  simpa [hx] using one_fillS s
theorem ss_one {w : World} {g : Nat} {s : ByteArray} (h : w.heap[g]? = some (.cells #[.string s] 9 (0, 0))) : SsIn w (.slice (some ⟨g, 0, none⟩) 1 1) [s] :=
  ⟨_, _, rfl, Nat.le_refl _, by simp [maxLen], .inr ⟨g, 0, rfl, (Array.getElem?_eq_some_iff.1 h).1, fun i x hi => by
    have hi0 : i = 0 := by
      have := (List.getElem?_eq_some_iff.1 hi).1
      simp at this; omega
    subst hi0
    simp at hi
    subst hi
    rw [cell_of_row _ _ _ _ _ _ h]; rfl⟩⟩
theorem own_stay14 {w w' : World} {B : Nat} {v : Value} {n : Nat} {xs : List Value} (h : w.ownsRow B 9 1 v n xs) (hb : Below w.heap.size w w') : w'.ownsRow B 9 1 v n xs := by
  obtain ⟨h0, h⟩ := h
  refine ⟨h0, h.imp id ?_⟩
  rintro ⟨g, cap, cur, rfl, h1, h2, h3⟩
  exact ⟨g, cap, cur, rfl, h1, (hb.block _ (Array.getElem?_eq_some_iff.1 h2).1).trans h2, h3⟩
theorem wp_append_ss {o : Oper} {a : Act} {w : World} {K : Act → World → Prop} {Q : Exit → Act → World → Prop} (s x : Operand)
    (ho : o.op = .call { callee := .builtin .append, args := #[s, x], argTypes := #[60, 60] }) (hty : o.type = 60)
    (B : Nat) (v y : Value) (l m : List ByteArray) (hs : a.eval s = v) (hown : w.ownsRow B 9 1 v l.length (strV l)) (hx : a.eval x = y) (hy : SsIn w y m) (hl : l.length + m.length ≤ 8796093022208) (hb : B ≤ w.heap.size)
    (h : ∀ v' w', w'.ownsRow B 9 1 v' (l ++ m).length (strV (l ++ m)) → w.grownBy w' v.ownBlock → (v'.ownBlock = v.ownBlock ∨ v'.ownBlock = some w.heap.size) → K (a.put o.dst v') w') : o.wp Tryz.prog a w K Q := by
  obtain ⟨v', w', hr, h1, h2, h3⟩ := run_append_ss w B v l hown y m hy hl hb
  unfold Oper.wp execOp
  simp only [ho, hty, resolve, invoke, builtin, Sem.run_bind, Sem.run_pure, Result.andThen_ok, List.map_toArray, List.map_cons, List.map_nil, hs, hx, hr]
  exact h v' w' h1 h2 h3
/-- what Full answers -/
def fullR (p : List ByteArray) (b : ByteArray) : ByteArray := if trE p b = none then joinS (p ++ [b]) else { data := #[] }
/-- the trace's own block -/
structure TrB (w : World) (q : Nat) (pv : Value) (b : ByteArray) (wr : World) : Prop where
  at_ : wr.heap[q]? = some (.cells (trC pv b) 65 (0, 0))
  below : Below w.heap.size w wr
theorem TrB.call {w : World} {q : Nat} {pv : Value} {b : ByteArray} {wr wr' : World} (m : TrB w q pv b wr) (hb : Below wr.heap.size wr wr') : TrB w q pv b wr' := ⟨(hb.block _ (Array.getElem?_eq_some_iff.1 m.at_).1).trans m.at_, m.below.trans (hb.mono m.below.size)⟩
theorem TrB.c0 {w : World} {q : Nat} {pv : Value} {b : ByteArray} {wr : World} (m : TrB w q pv b wr) : wr.cell? ⟨q, 0, none⟩ = some pv := cell_of_row _ _ _ _ _ _ m.at_
theorem TrB.c1 {w : World} {q : Nat} {pv : Value} {b : ByteArray} {wr : World} (m : TrB w q pv b wr) : wr.cell? ⟨q, 1, none⟩ = some (.string b) := cell_of_row _ _ _ _ _ _ m.at_
theorem TrB.grow {w : World} {q : Nat} {pv : Value} {b : ByteArray} {wr wr' : World} (m : TrB w q pv b wr) {own : Option Nat} (hg : wr.grownBy wr' own) (ho : ∀ k, own = some k → q < k ∧ w.heap.size ≤ k) : TrB w q pv b wr' :=
  ⟨(hg.block q (Array.getElem?_eq_some_iff.1 m.at_).1 (fun e => by have := (ho q e.symm).1; omega)).trans m.at_, m.below.trans ⟨hg.os, hg.tape, hg.output, hg.size, fun k hk => hg.block k (Nat.lt_of_lt_of_le hk m.below.size) (fun e => by have := (ho k e.symm).2; omega)⟩⟩
set_option maxHeartbeats 4000000 in
theorem cfull_any (p : List ByteArray) (b : ByteArray) (pv : Value) (w : World) (hp : SsIn w pv p) (hl : p.length + 1 ≤ 8796093022208) (hs : ∀ s ∈ p, s.size ≤ 9223372036854775806) (hb : b.size ≤ 9223372036854775807) (hj : trE p b = none → (joinS (p ++ [b])).size ≤ 140737488355328) :
    Calls Tryz.prog 30 #[.agg (trC pv b)] w fun e w' => e = .returned (.tuple #[.string (fullR p b), errV (trE p b)]) ∧ Below w.heap.size w w' := by
  obtain ⟨pa, pc, rfl, -, -⟩ := id hp
  have HC := Lib.hid (fun w h => ctrace_any p b (.slice pa p.length pc) w h (by omega) hs hb)
  have HP := Lib.hid hp
  have HJ := Lib.hid hj
  have HLN := Lib.hid hl
  obtain ⟨E, hE⟩ : ∃ e, e = trE p b := ⟨_, rfl⟩
  obtain ⟨R, hR⟩ : ∃ r, r = fullR p b := ⟨_, rfl⟩
  rw [← hR]
  unfold fullR at hR
  rw [← hE] at HC HJ hR ⊢
  have HR := Lib.hid hR
  obtain ⟨n, hn⟩ : ∃ n, n = p.length := ⟨_, rfl⟩
  have M := Lib.hid (show TrB w w.heap.size (.slice pa n pc) b (w.alloc (.cells (trC (.slice pa n pc) b) 65)) from ⟨heap_alloc_new _ _, below_alloc _ _⟩)
  rw [← hn] at HC HP ⊢
  have HN := Lib.hid hn
  clear hp hs hb hj hl hE hR hn
  go_enter Tryz.func30, Tryz.ntmps30
  go_upto_region 1 with (fail)
  obtain ⟨q, hq⟩ : ∃ q, q = w.heap.size := ⟨_, rfl⟩
  rw [← hq] at M ⊢
  clear hq
  generalize w.alloc (.cells (trC (.slice pa n pc) b) 65) = w1 at *
  cases E with
  | some x =>
    go_wp2_with (first
      | (refine wpList_load_row rfl 65 (.tmp 1) rfl q rfl 65 _ (0, 0) _ M.out.at_ Tryz.underlying65 rfl (by kernel_rfl) ?_)
      | (go_at_call 80; (with_reducible refine (HC.out _ (HP.out.below M.out.below)).mono ?_); rintro e w2 ⟨rfl, hb⟩; replace M := Lib.hid (M.out.call hb); clear hb; simp only [errV]))
    first | go_ret | go_ret2
    exact ⟨by rw [HR.out]; rfl, M.out.below⟩
  | none =>
    go_upto_region 4 with (first
      | (refine wpList_load_row rfl 65 (.tmp 1) rfl q rfl 65 _ (0, 0) _ M.out.at_ Tryz.underlying65 rfl (by kernel_rfl) ?_)
      | (go_at_call 80; (with_reducible refine (HC.out _ (HP.out.below M.out.below)).mono ?_); rintro e w2 ⟨rfl, hb⟩; replace M := Lib.hid (M.out.call hb); clear hb; simp only [errV]))
    replace M := Lib.hid (M.out.call (Below.refl _ w2).drew)
    have HCL := Lib.hid (fun w h => cclone_any p (.slice pa n pc) w h (by have := HLN.out; omega))
    have HRJ := Lib.hid (show R = joinS (p ++ [b]) from by rw [HR.out, if_pos rfl])
    have HJN := Lib.hid (show ∀ v w, SsIn w v (p ++ [b]) → Calls Tryz.prog 81 #[v, .string { data := #[47] }] w fun e w' => e = .returned (.string R) ∧ Below w.heap.size w w' from fun v w h => by rw [HRJ.out]; exact cjoin_any _ v w h (by rw [List.length_append]; have := HLN.out; simpa using this) (HJ.out rfl))
    rw [← HN.out] at HCL
    refine wp_region_T (fun W => W.cell? ⟨q, 0, none⟩ = some (.slice pa n pc) ∧ W.cell? ⟨q, 1, none⟩ = some (.string b)) [0, 1, 2, 3, 4, 5, 6, 7, 8, 9] (by kernel_rfl) ?_
    generalize w2.drew = w3 at *
    refine anyT_take [] (i := 0) (v := .pointer (some ⟨q, 0, none⟩)) rfl (by kernel_rfl) (by kernel_rfl) (by kernel_rfl) (fun _ _ _ h => h) (by kernel_rfl) (Or.inl ⟨by rfl, fun w' _ => by go_simp⟩) ⟨M.out.c0, M.out.c1⟩ ?_
    try simp only [List.getElem_toArray, List.getElem_cons_succ, List.getElem_cons_zero, Act.put, List.setIfInBounds_toArray, List.set_cons_zero, List.set_cons_succ]
    refine anyT_take [] (i := 3) (v := .pointer (some ⟨q, 1, none⟩)) rfl (by kernel_rfl) (by kernel_rfl) (by kernel_rfl) (fun _ _ _ h => h) (by kernel_rfl) (Or.inl ⟨by rfl, fun w' _ => by go_simp⟩) ⟨M.out.c0, M.out.c1⟩ ?_
    try simp only [List.getElem_toArray, List.getElem_cons_succ, List.getElem_cons_zero, Act.put, List.setIfInBounds_toArray, List.set_cons_zero, List.set_cons_succ]
    refine anyT_take [] (i := 1) (v := .slice pa n pc) rfl (by kernel_rfl) (by kernel_rfl) (by kernel_rfl) (fun _ _ _ h => h) (by kernel_rfl) (Or.inl ⟨by rfl, fun w' hS => by have c := hS.1; go_simp⟩) ⟨M.out.c0, M.out.c1⟩ ?_
    try simp only [List.getElem_toArray, List.getElem_cons_succ, List.getElem_cons_zero, Act.put, List.setIfInBounds_toArray, List.set_cons_zero, List.set_cons_succ]
    refine anyT_take [] (i := 4) (v := .string b) rfl (by kernel_rfl) (by kernel_rfl) (by kernel_rfl) (fun _ _ _ h => h) (by kernel_rfl) (Or.inl ⟨by rfl, fun w' hS => by have c := hS.2; go_simp⟩) ⟨M.out.c0, M.out.c1⟩ ?_
    try simp only [List.getElem_toArray, List.getElem_cons_succ, List.getElem_cons_zero, Act.put, List.setIfInBounds_toArray, List.set_cons_zero, List.set_cons_succ]
    refine anyT_ready (rs := [2, 5]) (by kernel_rfl) (by simp) ?_
    refine readyT_cons rfl (fun K hK => ?_) (readyT_cons rfl (fun K hK => ?_) readyT_nil)
    · rw [if_pos (by rfl)]
      try simp only [List.getElem_toArray, List.getElem_cons_succ, List.getElem_cons_zero]
      (go_simp; (with_reducible refine (HCL.out _ (HP.out.below M.out.below)).mono ?_); rintro e w4 ⟨v12, rfl, ho, hb⟩; have HO12 := Lib.hid ho; have HB12 := Lib.hid (show w3.heap.size ≤ w4.heap.size from hb.size); have HQ12 := Lib.hid (show q < w3.heap.size ∧ w.heap.size ≤ w3.heap.size from ⟨(Array.getElem?_eq_some_iff.1 M.out.at_).1, M.out.below.size⟩); replace M := Lib.hid (M.out.call hb); clear ho hb)
      refine hK _ _ (fun _ => ⟨M.out.c0, M.out.c1⟩) ?_
      clear hK K
      try simp only [List.getElem_toArray, List.getElem_cons_succ, List.getElem_cons_zero, Act.put, List.setIfInBounds_toArray, List.set_cons_zero, List.set_cons_succ]
      refine anyT_one (i := 5) (by kernel_rfl) rfl (fun K hK => ?_)
      rw [if_pos (by rfl)]
      try simp only [List.getElem_toArray, List.getElem_cons_succ, List.getElem_cons_zero]
      (refine wp_str1 (.tmp 14) rfl b rfl ?_; have HR15 := Lib.hid (heap_alloc_new w4 (.cells #[.string b] 9)); replace HO12 := Lib.hid (own_stay14 HO12.out (below_alloc w4 (.cells #[.string b] 9))); replace HB12 := Lib.hid (Nat.le_trans HB12.out (below_alloc w4 (.cells #[.string b] 9)).size); replace M := Lib.hid (M.out.call (below_alloc w4 (.cells #[.string b] 9))); obtain ⟨g15, hg15⟩ : ∃ g, g = w4.heap.size := ⟨_, rfl⟩; rw [← hg15] at HR15 ⊢; clear hg15; generalize w4.alloc (.cells #[.string b] 9) = w5 at *)
      refine hK _ _ (fun _ => ⟨M.out.c0, M.out.c1⟩) ?_
      clear hK K
      try simp only [List.getElem_toArray, List.getElem_cons_succ, List.getElem_cons_zero, Act.put, List.setIfInBounds_toArray, List.set_cons_zero, List.set_cons_succ]
      refine anyT_one (i := 6) (by kernel_rfl) rfl (fun K hK => ?_)
      rw [if_pos (by rfl)]
      try simp only [List.getElem_toArray, List.getElem_cons_succ, List.getElem_cons_zero]
      (refine wp_append_ss (.tmp 12) (.tmp 15) rfl rfl w3.heap.size v12 (.slice (some ⟨g15, 0, none⟩) 1 1) p [b] rfl (by rw [HN.out] at HO12; exact HO12.out) rfl (ss_one HR15.out) (by have := HLN.out; simpa using this) HB12.out ?_; intro v16 w9 ho hg _; have HI16 := Lib.hid (ss_own ho (by rw [List.length_append]; unfold maxLen; have := HLN.out; simp only [List.length_singleton]; omega)); replace M := Lib.hid (M.out.grow hg (fun k hk => by have h1 := (HO12.out.lt k hk).1; have h2 := HQ12.out; exact ⟨by omega, by omega⟩)); clear ho hg)
      refine hK _ _ (fun _ => ⟨M.out.c0, M.out.c1⟩) ?_
      clear hK K
      try simp only [List.getElem_toArray, List.getElem_cons_succ, List.getElem_cons_zero, Act.put, List.setIfInBounds_toArray, List.set_cons_zero, List.set_cons_succ]
      refine anyT_one (i := 7) (by kernel_rfl) rfl (fun K hK => ?_)
      rw [if_pos (by rfl)]
      try simp only [List.getElem_toArray, List.getElem_cons_succ, List.getElem_cons_zero]
      (go_simp; (with_reducible refine (HJN.out _ _ HI16.out).mono ?_); rintro e w10 ⟨rfl, hb⟩; replace M := Lib.hid (M.out.call hb); clear hb)
      refine hK _ _ (fun _ => ⟨M.out.c0, M.out.c1⟩) ?_
      clear hK K
      try simp only [List.getElem_toArray, List.getElem_cons_succ, List.getElem_cons_zero, Act.put, List.setIfInBounds_toArray, List.set_cons_zero, List.set_cons_succ]
      refine anyT_take [] (i := 8) (v := .string R) rfl (by kernel_rfl) (by kernel_rfl) (by kernel_rfl) (fun _ _ _ h => h) (by kernel_rfl) (Or.inl ⟨by rfl, fun w' _ => by go_simp⟩) ⟨M.out.c0, M.out.c1⟩ ?_
      try simp only [List.getElem_toArray, List.getElem_cons_succ, List.getElem_cons_zero, Act.put, List.setIfInBounds_toArray, List.set_cons_zero, List.set_cons_succ]
      refine anyT_take [] (i := 9) (v := .nilIface) rfl (by kernel_rfl) (by kernel_rfl) (by kernel_rfl) (fun _ _ _ h => h) (by kernel_rfl) (Or.inl ⟨by rfl, fun w' _ => by go_simp⟩) ⟨M.out.c0, M.out.c1⟩ ?_
      try simp only [List.getElem_toArray, List.getElem_cons_succ, List.getElem_cons_zero, Act.put, List.setIfInBounds_toArray, List.set_cons_zero, List.set_cons_succ]
      refine anyT_done (by kernel_rfl) ?_ _
      go_wp2_with (fail)
      first | go_ret | go_ret2
      exact ⟨rfl, M.out.below⟩
    · rw [if_pos (by rfl)]
      try simp only [List.getElem_toArray, List.getElem_cons_succ, List.getElem_cons_zero]
      (refine wp_str1 (.tmp 14) rfl b rfl ?_; have HR15 := Lib.hid (heap_alloc_new w3 (.cells #[.string b] 9)); replace M := Lib.hid (M.out.call (below_alloc w3 (.cells #[.string b] 9))); obtain ⟨g15, hg15⟩ : ∃ g, g = w3.heap.size := ⟨_, rfl⟩; rw [← hg15] at HR15 ⊢; clear hg15; generalize w3.alloc (.cells #[.string b] 9) = w4 at *)
      refine hK _ _ (fun _ => ⟨M.out.c0, M.out.c1⟩) ?_
      clear hK K
      try simp only [List.getElem_toArray, List.getElem_cons_succ, List.getElem_cons_zero, Act.put, List.setIfInBounds_toArray, List.set_cons_zero, List.set_cons_succ]
      refine anyT_one (i := 2) (by kernel_rfl) rfl (fun K hK => ?_)
      rw [if_pos (by rfl)]
      try simp only [List.getElem_toArray, List.getElem_cons_succ, List.getElem_cons_zero]
      (go_simp; (with_reducible refine (HCL.out _ (HP.out.below M.out.below)).mono ?_); rintro e w5 ⟨v12, rfl, ho, hb⟩; have HO12 := Lib.hid ho; have HB12 := Lib.hid (show w4.heap.size ≤ w5.heap.size from hb.size); have HQ12 := Lib.hid (show q < w4.heap.size ∧ w.heap.size ≤ w4.heap.size from ⟨(Array.getElem?_eq_some_iff.1 M.out.at_).1, M.out.below.size⟩); replace HR15 := Lib.hid ((hb.block _ (Array.getElem?_eq_some_iff.1 HR15.out).1).trans HR15.out); replace M := Lib.hid (M.out.call hb); clear ho hb)
      refine hK _ _ (fun _ => ⟨M.out.c0, M.out.c1⟩) ?_
      clear hK K
      try simp only [List.getElem_toArray, List.getElem_cons_succ, List.getElem_cons_zero, Act.put, List.setIfInBounds_toArray, List.set_cons_zero, List.set_cons_succ]
      refine anyT_one (i := 6) (by kernel_rfl) rfl (fun K hK => ?_)
      rw [if_pos (by rfl)]
      try simp only [List.getElem_toArray, List.getElem_cons_succ, List.getElem_cons_zero]
      (refine wp_append_ss (.tmp 12) (.tmp 15) rfl rfl w4.heap.size v12 (.slice (some ⟨g15, 0, none⟩) 1 1) p [b] rfl (by rw [HN.out] at HO12; exact HO12.out) rfl (ss_one HR15.out) (by have := HLN.out; simpa using this) HB12.out ?_; intro v16 w9 ho hg _; have HI16 := Lib.hid (ss_own ho (by rw [List.length_append]; unfold maxLen; have := HLN.out; simp only [List.length_singleton]; omega)); replace M := Lib.hid (M.out.grow hg (fun k hk => by have h1 := (HO12.out.lt k hk).1; have h2 := HQ12.out; exact ⟨by omega, by omega⟩)); clear ho hg)
      refine hK _ _ (fun _ => ⟨M.out.c0, M.out.c1⟩) ?_
      clear hK K
      try simp only [List.getElem_toArray, List.getElem_cons_succ, List.getElem_cons_zero, Act.put, List.setIfInBounds_toArray, List.set_cons_zero, List.set_cons_succ]
      refine anyT_one (i := 7) (by kernel_rfl) rfl (fun K hK => ?_)
      rw [if_pos (by rfl)]
      try simp only [List.getElem_toArray, List.getElem_cons_succ, List.getElem_cons_zero]
      (go_simp; (with_reducible refine (HJN.out _ _ HI16.out).mono ?_); rintro e w10 ⟨rfl, hb⟩; replace M := Lib.hid (M.out.call hb); clear hb)
      refine hK _ _ (fun _ => ⟨M.out.c0, M.out.c1⟩) ?_
      clear hK K
      try simp only [List.getElem_toArray, List.getElem_cons_succ, List.getElem_cons_zero, Act.put, List.setIfInBounds_toArray, List.set_cons_zero, List.set_cons_succ]
      refine anyT_take [] (i := 8) (v := .string R) rfl (by kernel_rfl) (by kernel_rfl) (by kernel_rfl) (fun _ _ _ h => h) (by kernel_rfl) (Or.inl ⟨by rfl, fun w' _ => by go_simp⟩) ⟨M.out.c0, M.out.c1⟩ ?_
      try simp only [List.getElem_toArray, List.getElem_cons_succ, List.getElem_cons_zero, Act.put, List.setIfInBounds_toArray, List.set_cons_zero, List.set_cons_succ]
      refine anyT_take [] (i := 9) (v := .nilIface) rfl (by kernel_rfl) (by kernel_rfl) (by kernel_rfl) (fun _ _ _ h => h) (by kernel_rfl) (Or.inl ⟨by rfl, fun w' _ => by go_simp⟩) ⟨M.out.c0, M.out.c1⟩ ?_
      try simp only [List.getElem_toArray, List.getElem_cons_succ, List.getElem_cons_zero, Act.put, List.setIfInBounds_toArray, List.set_cons_zero, List.set_cons_succ]
      refine anyT_done (by kernel_rfl) ?_ _
      go_wp2_with (fail)
      first | go_ret | go_ret2
      exact ⟨rfl, M.out.below⟩
end Go.Proofs.YteokgklfljhcaaaGreatDoor
