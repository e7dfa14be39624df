/- coin: Port, Into, From (written by gencnp.py). -/
import Derived.Test.YteokgklfljhcaaaDoorCnF
import Derived.Test.YteokgklfljhcaaaDoorRes
namespace Go.Proofs.YteokgklfljhcaaaDoor
open Go.RowKit
set_option maxRecDepth 100000
set_option linter.unusedSimpArgs false
set_option linter.unusedVariables false
def joinP (p c : ByteArray) : ByteArray := p ++ { data := #[47] } ++ c
def okP (p c : ByteArray) : Bool := nameB p && nameB c
def portR (p c : ByteArray) : ByteArray := if okP p c then joinP p c else { data := #[] }
theorem name_size {s : ByteArray} (h : nameB s = true) : 1 ≤ s.size ∧ s.size ≤ 20 := by
  unfold nameB at h
  rw [Bool.and_eq_true, decide_eq_true_eq] at h
  exact h.1
theorem joinP_size (p c : ByteArray) : (joinP p c).size = p.size + 1 + c.size := by
  unfold joinP
  rw [ByteArray.size_append, ByteArray.size_append]
  rfl
theorem portR_size (p c : ByteArray) : (portR p c).size ≤ 41 := by
  unfold portR
  split
  · rename_i h
    unfold okP at h
    rw [Bool.and_eq_true] at h
    have h1 := name_size h.1
    have h2 := name_size h.2
    rw [joinP_size]; omega
  · exact Nat.zero_le _
theorem isEmpty14 (s : ByteArray) : s.toList.isEmpty = decide (s.size = 0) := by
  rw [ByteArray.toList_eq]
  rcases s with ⟨⟨l⟩⟩
  cases l <;> simp [ByteArray.size]
theorem portR_empty (p c : ByteArray) : (portR p c).toList.isEmpty = !okP p c := by
  rw [isEmpty14]
  unfold portR
  cases h : okP p c
  · rfl
  · rw [if_pos rfl, joinP_size, decide_eq_false (by omega)]; rfl
theorem cport_any (p c : ByteArray) (w : World) : Calls Tryd.prog 23 #[.string p, .string c] w fun e w' => e = .returned (.string (portR p c)) ∧ Below w.heap.size w w' := by
  have HP := Lib.hid (fun w => cname_any p w)
  have HQ := Lib.hid (fun w => cname_any c w)
  have hr : portR p c = if nameB p && nameB c then p ++ { data := #[47] } ++ c else { data := #[] } := rfl
  rw [hr]
  clear hr
  obtain ⟨x, hx⟩ : ∃ x, x = nameB p := ⟨_, rfl⟩
  obtain ⟨y, hy⟩ : ∃ x, x = nameB c := ⟨_, rfl⟩
  rw [← hx] at HP ⊢
  rw [← hy] at HQ ⊢
  have HB := Lib.hid (Below.refl w.heap.size w)
  have hz1 : x = true → p.size ≤ 20 := fun h => (name_size (hx ▸ h)).2
  have hz2 : y = true → c.size ≤ 20 := fun h => (name_size (hy ▸ h)).2
  clear hx hy
  cases x
  · go_enter Tryd.func23, Tryd.ntmps23
    go_wp2_with (go_at_call 38; (with_reducible refine (HP.out _).mono ?_); rintro e w2 ⟨rfl, hb⟩; replace HB := Lib.hid (HB.out.trans (hb.mono HB.out.size)); clear hb)
    go_ret
    exact ⟨rfl, HB.out⟩
  · cases y
    · go_enter Tryd.func23, Tryd.ntmps23
      go_wp2_with (first
        | (go_at_call 38; (with_reducible refine (HP.out _).mono ?_); rintro e w2 ⟨rfl, hb⟩; replace HB := Lib.hid (HB.out.trans (hb.mono HB.out.size)); clear hb HP)
        | (go_at_call 38; (with_reducible refine (HQ.out _).mono ?_); rintro e w3 ⟨rfl, hb⟩; replace HB := Lib.hid (HB.out.trans (hb.mono HB.out.size)); clear hb))
      go_ret
      exact ⟨rfl, HB.out⟩
    · have z1 : ¬ 9223372036854775807 < p.size + 1 := by have := hz1 rfl; omega
      have z2 : ¬ 9223372036854775807 < p.size + 1 + c.size := by have := hz1 rfl; have := hz2 rfl; omega
      have z3 : ¬ 9223372036854775807 < (p ++ ({ data := #[47] } : ByteArray)).size + c.size := by rw [ByteArray.size_append]; exact z2
      clear hz1 hz2
      go_enter Tryd.func23, Tryd.ntmps23
      go_wp2_with (first
        | (go_at_call 38; (with_reducible refine (HP.out _).mono ?_); rintro e w2 ⟨rfl, hb⟩; replace HB := Lib.hid (HB.out.trans (hb.mono HB.out.size)); clear hb HP)
        | (go_at_call 38; (with_reducible refine (HQ.out _).mono ?_); rintro e w3 ⟨rfl, hb⟩; replace HB := Lib.hid (HB.out.trans (hb.mono HB.out.size)); clear hb))
      go_ret
      exact ⟨rfl, HB.out⟩
/-- what lies in memory: the trace's block q, the result's behind it -/
structure IoM (T : TypeId) (w : World) (q : Nat) (pv : Value) (b : ByteArray) (wr : World) : Prop where
  at_ : wr.heap[q]? = some (.cells (trC pv b) T (0, 0))
  res : wr.heap[q + 1]? = some (.cells (trC (.slice none 0 0) { data := #[] }) T (0, 0))
  below : Below w.heap.size w wr
  q0 : w.heap.size ≤ q
theorem hlt14 {w : World} {g : Nat} {o : Obj} (h : w.heap[g]? = some o) : g < w.heap.size := (Array.getElem?_eq_some_iff.1 h).1
section
variable {T : TypeId} {w : World} {q : Nat} {pv : Value} {b : ByteArray} {wr wr' : World}
theorem IoM.call (m : IoM T w q pv b wr) (hb : Below wr.heap.size wr wr') : IoM T w q pv b wr' := ⟨(hb.block _ (hlt14 m.at_)).trans m.at_, (hb.block _ (hlt14 m.res)).trans m.res, m.below.trans (hb.mono m.below.size), m.q0⟩
theorem IoM.grow (m : IoM T w q pv b wr) {own : Option Nat} (hg : wr.grownBy wr' own) (ho : ∀ k, own = some k → q + 1 < k) : IoM T w q pv b wr' :=
  ⟨(hg.block q (hlt14 m.at_) (fun e => by have := ho q e.symm; omega)).trans m.at_, (hg.block (q + 1) (hlt14 m.res) (fun e => by have := ho (q + 1) e.symm; omega)).trans m.res, m.below.trans ⟨hg.os, hg.tape, hg.output, hg.size, fun k hk => hg.block k (Nat.lt_of_lt_of_le hk m.below.size) (fun e => by have := ho k e.symm; have := m.q0; omega)⟩, m.q0⟩
theorem IoM.only (m : IoM T w q pv b wr) {g : Nat} (ho : Only g wr wr') (hg : q + 1 < g) : IoM T w q pv b wr' :=
  ⟨(ho.block q (hlt14 m.at_) (by omega)).trans m.at_, (ho.block (q + 1) (hlt14 m.res) (by omega)).trans m.res, m.below.trans (ho.below (by have := m.q0; omega) m.below.size), m.q0⟩
theorem IoM.c0 (m : IoM T w q pv b wr) : wr.cell? ⟨q, 0, none⟩ = some pv := cell_of_row _ _ _ _ _ _ m.at_
theorem IoM.c1 (m : IoM T w q pv b wr) : wr.cell? ⟨q, 1, none⟩ = some (.string b) := cell_of_row _ _ _ _ _ _ m.at_
end
theorem io_start {T : TypeId} {w w1 : World} {pv : Value} {b : ByteArray} (h : (w.alloc (.cells (trC pv b) T)).alloc (.cells (trC (.slice none 0 0) { data := #[] }) T) = w1) : IoM T w w.heap.size pv b w1 := by
  subst h
  have b1 := below_alloc w (.cells (trC pv b) T)
  have b2 := below_alloc (w.alloc (.cells (trC pv b) T)) (.cells (trC (.slice none 0 0) { data := #[] }) T)
  have h2 := heap_alloc_new (w.alloc (.cells (trC pv b) T)) (.cells (trC (.slice none 0 0) { data := #[] }) T)
  rw [show (w.alloc (.cells (trC pv b) T)).heap.size = w.heap.size + 1 from by simp] at h2
  exact ⟨(b2.block _ (by simp)).trans (heap_alloc_new _ _), h2, b1.trans (b2.mono (by simp)), Nat.le_refl _⟩
theorem SsIn.only {w w' : World} {v : Value} {l : List ByteArray} {g : Nat} (h : SsIn w v l) (ho : Only g w w') (hn : ∀ k, v.ownBlock = some k → k ≠ g) : SsIn w' v l := by
  obtain ⟨a, cap, rfl, h1, h2, h3⟩ := h
  refine ⟨a, cap, rfl, h1, h2, h3.imp id ?_⟩
  rintro ⟨ab, ao, rfl, hlt, hx⟩
  exact ⟨ab, ao, rfl, Nat.lt_of_lt_of_le hlt ho.size, fun i s hi => (World.cell?_of_block (ho.block ab hlt (hn ab rfl))).trans (hx i s hi)⟩
theorem own_one14 (w : World) (s : ByteArray) : (w.alloc (.cells #[.string s] 9)).ownsRow w.heap.size 9 1 (.slice (some ⟨w.heap.size, 0, none⟩) 1 1) [s].length (strV [s]) :=
  ⟨rfl, .inr ⟨w.heap.size, 1, #[.string s], rfl, Nat.le_refl _, heap_alloc_new _ _, Nat.le_refl _, by simp [maxLen], rfl, rfl⟩⟩
theorem own_sl14 {w : World} {B : Nat} {v : Value} {n : Nat} {xs : List Value} (h : w.ownsRow B 9 1 v n xs) : ∃ a m c, v = .slice a m c := by
  rcases h.2 with ⟨rfl, -⟩ | ⟨g, cap, cur, rfl, -⟩
  · exact ⟨_, _, _, rfl⟩
  · exact ⟨_, _, _, rfl⟩
theorem only_setRow14 (w : World) (q : Nat) (cs : Array Value) : Only q w (w.setRow q cs) := ⟨rfl, rfl, rfl, by simp [World.setRow], fun k hk hg => setRow_other _ _ _ _ hg⟩
theorem trC_one (a : Option Addr) (n c : Nat) (b : ByteArray) : (trC (.slice a n c) b).all (·.oneCell') = true := by simp [trC, Value.oneCell']
def intoE (t : List ByteArray) (b p c : ByteArray) : Option Nat := if okP p c then trE (portR p c :: t) b else some 40
def intoP (t : List ByteArray) (b p c : ByteArray) : List ByteArray := if intoE t b p c = none then portR p c :: t else []
def intoB (t : List ByteArray) (b p c : ByteArray) : ByteArray := if intoE t b p c = none then b else { data := #[] }
set_option maxHeartbeats 4000000 in
theorem cinto_any (t : List ByteArray) (b p c : ByteArray) (pv : Value) (w : World) (hp : SsIn w pv t) (hl : t.length + 1 ≤ 8796093022208) (hs : ∀ s ∈ t, s.size ≤ 9223372036854775806) (hb : b.size ≤ 9223372036854775807) :
    Calls Tryd.prog 13 #[.agg (trC pv b), .string p, .string c] w fun e w' => ∃ pv', e = .returned (.tuple #[.agg (trC pv' (intoB t b p c)), errV (intoE t b p c)]) ∧ SsIn w' pv' (intoP t b p c) ∧ Below w.heap.size w w' := by
  obtain ⟨pa, pc, rfl, -, -⟩ := id hp
  have HPO := Lib.hid (fun w => cport_any p c w)
  have HEM := portR_empty p c
  obtain ⟨R, hR⟩ : ∃ r, r = portR p c := ⟨_, rfl⟩
  have hRs := portR_size p c
  rw [← hR] at HPO HEM hRs
  have HC := Lib.hid (fun v w h => ctrace_any (R :: t) b v w h (by simpa using hl) (fun s m => (List.mem_cons.1 m).elim (fun e => by rw [e]; omega) (hs s)) hb)
  have HP := Lib.hid hp
  have HLN := Lib.hid hl
  obtain ⟨E, hE⟩ : ∃ e, e = intoE t b p c := ⟨_, rfl⟩
  obtain ⟨RP, hRP⟩ : ∃ e, e = intoP t b p c := ⟨_, rfl⟩
  obtain ⟨RB, hRB⟩ : ∃ e, e = intoB t b p c := ⟨_, rfl⟩
  rw [← hE, ← hRP, ← hRB]
  unfold intoP at hRP
  unfold intoB at hRB
  rw [← hE, ← hR] at hRP
  rw [← hE] at hRB
  unfold intoE at hE
  rw [← hR] at hE
  obtain ⟨E1, hE1⟩ : ∃ e, e = trE (R :: t) b := ⟨_, rfl⟩
  rw [← hE1] at HC hE
  obtain ⟨n, hn⟩ : ∃ n, n = t.length := ⟨_, rfl⟩
  have HST := Lib.hid (fun w1 h => io_start (T := 35) (w := w) (w1 := w1) (pv := .slice pa n pc) (b := b) h)
  rw [← hn] at HP ⊢
  have HN := Lib.hid hn
  have HRB := Lib.hid hRB
  have HRP := Lib.hid hRP
  clear hp hs hb hl hRP hRB hR hRs hE1 hn
  go_enter Tryd.func13, Tryd.ntmps13
  go_upto_region 1 with (fail)
  generalize hA : World.alloc (World.alloc w _) _ = w1
  have M := Lib.hid (HST.out w1 hA)
  clear hA HST
  obtain ⟨q, hq⟩ : ∃ q, q = w.heap.size := ⟨_, rfl⟩
  have hq1 : w.heap.size + 1 = q + 1 := by rw [hq]
  rw [← hq] at M ⊢
  clear hq hq1
  cases hk : okP p c with
  | false =>
    rw [hk] at HEM hE
    have HE := Lib.hid (show E = some 40 from hE)
    clear hE hk
    simp only [Bool.not_false] at HEM
    go_wp2_with (first
      | (go_at_call 23; (with_reducible refine (HPO.out _).mono ?_); rintro e w2 ⟨rfl, hb⟩; replace M := Lib.hid (M.out.call hb); clear hb)
      | (refine wpList_buildTo rfl 35 #[] rfl (some 16) rfl (trC (.slice none 0 0) { data := #[] }) (by kernel_rfl) ?_)
      | (refine wpList_store_row rfl 35 (.tmp 6) (.tmp 16) rfl (q + 1) (trC (.slice none 0 0) { data := #[] }) rfl rfl 35 _ M.out.res (by kernel_rfl) (by rfl) (trC_one _ _ _ _) ?_))
    refine bodyPost_ret (results_cell_tmp_row rfl _ _ (q + 1) 35 _ (0, 0) _ rfl (setRow_heap _ _ _ _ _ _ M.out.res) Tryd.underlying35 rfl (by kernel_rfl)) rfl ?_
    exact ⟨.slice none 0 0, by rw [HRB.out, HE.out]; rfl, by rw [HRP.out, HE.out]; exact ss_nil _, below_setRow M.out.below (by have := M.out.q0; omega) _⟩
  | true =>
    rw [hk] at HEM hE
    have HE := Lib.hid (show E = E1 from hE)
    clear hE hk
    simp only [Bool.not_true] at HEM
    go_upto_region 4 with (go_at_call 23; (with_reducible refine (HPO.out _).mono ?_); rintro e w2 ⟨rfl, hb⟩; replace M := Lib.hid (M.out.call hb); clear hb)
    replace M := Lib.hid (M.out.call (Below.refl _ w2).drew)
    replace HP := Lib.hid (HP.out.below M.out.below)
    refine wp_region_T (fun W => W.cell? ⟨q, 0, none⟩ = some (.slice pa n pc) ∧ W.cell? ⟨q, 1, none⟩ = some (.string b)) [0, 1, 2, 3, 4, 5, 6, 7, 8, 9] (by kernel_rfl) ?_
    generalize w2.drew = w3 at *
    refine anyT_take [] (i := 0) (v := .string R) rfl (by kernel_rfl) (by kernel_rfl) (by kernel_rfl) (fun _ _ _ h => h) (by kernel_rfl) (Or.inl ⟨by rfl, fun w' _ => by go_simp⟩) ⟨M.out.c0, M.out.c1⟩ ?_
    try simp only [List.getElem_toArray, List.getElem_cons_succ, List.getElem_cons_zero, Act.put, List.setIfInBounds_toArray, List.set_cons_zero, List.set_cons_succ]
    refine anyT_take [] (i := 2) (v := .pointer (some ⟨q, 0, none⟩)) rfl (by kernel_rfl) (by kernel_rfl) (by kernel_rfl) (fun _ _ _ h => h) (by kernel_rfl) (Or.inl ⟨by rfl, fun w' _ => by go_simp⟩) ⟨M.out.c0, M.out.c1⟩ ?_
    try simp only [List.getElem_toArray, List.getElem_cons_succ, List.getElem_cons_zero, Act.put, List.setIfInBounds_toArray, List.set_cons_zero, List.set_cons_succ]
    refine anyT_take [] (i := 5) (v := .pointer (some ⟨q, 1, none⟩)) rfl (by kernel_rfl) (by kernel_rfl) (by kernel_rfl) (fun _ _ _ h => h) (by kernel_rfl) (Or.inl ⟨by rfl, fun w' _ => by go_simp⟩) ⟨M.out.c0, M.out.c1⟩ ?_
    try simp only [List.getElem_toArray, List.getElem_cons_succ, List.getElem_cons_zero, Act.put, List.setIfInBounds_toArray, List.set_cons_zero, List.set_cons_succ]
    refine anyT_take [] (i := 3) (v := .slice pa n pc) rfl (by kernel_rfl) (by kernel_rfl) (by kernel_rfl) (fun _ _ _ h => h) (by kernel_rfl) (Or.inl ⟨by rfl, fun w' hS => by have c := hS.1; go_simp⟩) ⟨M.out.c0, M.out.c1⟩ ?_
    try simp only [List.getElem_toArray, List.getElem_cons_succ, List.getElem_cons_zero, Act.put, List.setIfInBounds_toArray, List.set_cons_zero, List.set_cons_succ]
    refine anyT_take [] (i := 6) (v := .string b) rfl (by kernel_rfl) (by kernel_rfl) (by kernel_rfl) (fun _ _ _ h => h) (by kernel_rfl) (Or.inl ⟨by rfl, fun w' hS => by have c := hS.2; go_simp⟩) ⟨M.out.c0, M.out.c1⟩ ?_
    try simp only [List.getElem_toArray, List.getElem_cons_succ, List.getElem_cons_zero, Act.put, List.setIfInBounds_toArray, List.set_cons_zero, List.set_cons_succ]
    refine anyT_ready (rs := [1, 8]) (by kernel_rfl) (by simp) ?_
    refine readyT_cons rfl (fun K hK => ?_) (readyT_cons rfl (fun K hK => ?_) readyT_nil)
    · rw [if_pos (by rfl)]
      try simp only [List.getElem_toArray, List.getElem_cons_succ, List.getElem_cons_zero]
      (refine wp_str1 (.tmp 18) rfl R rfl ?_; have HO19 := Lib.hid (own_one14 w3 R); have HG19 := Lib.hid (show q + 1 < w3.heap.size from hlt14 M.out.res); replace HP := Lib.hid (HP.out.below (below_alloc w3 (.cells #[.string R] 9))); replace M := Lib.hid (M.out.call (below_alloc w3 (.cells #[.string R] 9))); have HS19 := Lib.hid (show w3.heap.size ≤ (w3.alloc (.cells #[.string R] 9)).heap.size from (below_alloc _ _).size); obtain ⟨g19, hg19⟩ : ∃ g, g = w3.heap.size := ⟨_, rfl⟩; rw [← hg19] at HO19 HG19 HS19 ⊢; clear hg19; generalize w3.alloc (.cells #[.string R] 9) = w4 at *)
      refine hK _ _ (fun _ => ⟨M.out.c0, M.out.c1⟩) ?_
      clear hK K
      try simp only [List.getElem_toArray, List.getElem_cons_succ, List.getElem_cons_zero, Act.put, List.setIfInBounds_toArray, List.set_cons_zero, List.set_cons_succ]
      refine anyT_ready (rs := [4, 8]) (by kernel_rfl) (by simp) ?_
      refine readyT_cons rfl (fun K hK => ?_) (readyT_cons rfl (fun K hK => ?_) readyT_nil)
      · rw [if_pos (by rfl)]
        try simp only [List.getElem_toArray, List.getElem_cons_succ, List.getElem_cons_zero]
        (refine wp_append_ss (.tmp 19) (.tmp 21) rfl rfl g19 (.slice (some ⟨g19, 0, none⟩) 1 1) (.slice pa n pc) [R] t rfl HO19.out rfl HP.out (by have := HLN.out; rw [List.length_singleton]; omega) HS19.out ?_; intro v22 w5 ho hg hw; obtain ⟨va, vl, vc, rfl⟩ : ∃ a n c, v22 = .slice a n c := own_sl14 ho; have HI22 := Lib.hid (ss_own ho (by rw [List.length_append, List.length_singleton]; unfold maxLen; have := HLN.out; omega)); have HO22 := Lib.hid (fun k (hk : (Value.slice va vl vc).ownBlock = some k) => ho.lt k hk); replace M := Lib.hid (M.out.grow hg (fun k hk => by injection hk with hk; subst hk; exact HG19.out)); clear ho hg hw)
        refine hK _ _ (fun _ => ⟨M.out.c0, M.out.c1⟩) ?_
        clear hK K
        try simp only [List.getElem_toArray, List.getElem_cons_succ, List.getElem_cons_zero, Act.put, List.setIfInBounds_toArray, List.set_cons_zero, List.set_cons_succ]
        refine anyT_take [] (i := 7) (v := .agg #[.slice va vl vc, .string b]) rfl (by kernel_rfl) (by kernel_rfl) (by kernel_rfl) (fun _ _ _ h => h) (by kernel_rfl) (Or.inl ⟨by rfl, fun w' _ => by go_simp⟩) ⟨M.out.c0, M.out.c1⟩ ?_
        try simp only [List.getElem_toArray, List.getElem_cons_succ, List.getElem_cons_zero, Act.put, List.setIfInBounds_toArray, List.set_cons_zero, List.set_cons_succ]
        refine anyT_one (i := 8) (by kernel_rfl) rfl (fun K hK => ?_)
        rw [if_pos (by rfl)]
        try simp only [List.getElem_toArray, List.getElem_cons_succ, List.getElem_cons_zero]
        (go_simp; have R9 := Lib.hid (show (w5.alloc (.cells #[.slice none 0 0, .string { data := #[] }] 35)).heap[w5.heap.size]? = some (.cells (trC (.slice none 0 0) { data := #[] }) 35 (0, 0)) from heap_alloc_new _ _); have Q9 := Lib.hid (show q + 1 < w5.heap.size from hlt14 M.out.res); replace HI22 := Lib.hid (HI22.out.below (below_alloc w5 (.cells #[.slice none 0 0, .string { data := #[] }] 35))); have K22 := Lib.hid (show ∀ k, (Value.slice va vl vc).ownBlock = some k → k ≠ w5.heap.size from fun k hk e => by have := (HO22.out k hk).2; omega); replace M := Lib.hid (M.out.call (below_alloc w5 (.cells #[.slice none 0 0, .string { data := #[] }] 35))))
        refine hK _ _ (fun _ => ⟨M.out.c0, M.out.c1⟩) ?_
        clear hK K
        try simp only [List.getElem_toArray, List.getElem_cons_succ, List.getElem_cons_zero, Act.put, List.setIfInBounds_toArray, List.set_cons_zero, List.set_cons_succ]
        obtain ⟨g9, hg9⟩ : ∃ g, g = w5.heap.size := ⟨_, rfl⟩
        rw [← hg9] at R9 Q9 K22 ⊢
        clear hg9
        generalize w5.alloc (.cells #[.slice none 0 0, .string { data := #[] }] 35) = w6 at *
        refine anyT_one (i := 9) (by kernel_rfl) rfl (fun K hK => ?_)
        rw [if_pos (by rfl)]
        try simp only [List.getElem_toArray, List.getElem_cons_succ, List.getElem_cons_zero]
        (refine wp_store_row 35 (.tmp 9) (.tmp 25) rfl g9 (trC (.slice va vl vc) b) rfl rfl 35 _ R9.out (by kernel_rfl) (by rfl) (trC_one _ _ _ _) ?_); (have ho9 := only_setRow14 w6 g9 (trC (.slice va vl vc) b)); (replace R9 := Lib.hid (show (w6.setRow g9 (trC (.slice va vl vc) b)).heap[g9]? = some (.cells (trC (.slice va vl vc) b) 35 (0, 0)) from setRow_heap _ _ _ _ _ _ R9.out)); (replace HI22 := Lib.hid (HI22.out.only ho9 K22.out)); (replace M := Lib.hid (M.out.only ho9 Q9.out)); clear ho9; generalize w6.setRow g9 (trC (.slice va vl vc) b) = w20 at *
        refine hK _ _ (fun _ => ⟨M.out.c0, M.out.c1⟩) ?_
        clear hK K
        try simp only [List.getElem_toArray, List.getElem_cons_succ, List.getElem_cons_zero, Act.put, List.setIfInBounds_toArray, List.set_cons_zero, List.set_cons_succ]
        refine anyT_done (by kernel_rfl) ?_ _
        cases E1 with
        | some x =>
          go_wp2_with (first
            | (refine wpList_load_row rfl 35 (.tmp 9) rfl g9 rfl 35 _ (0, 0) _ R9.out Tryd.underlying35 rfl (by kernel_rfl) ?_)
            | (go_at_call 28; (with_reducible refine (HC.out _ _ HI22.out).mono ?_); rintro e w21 ⟨rfl, hb⟩; replace M := Lib.hid (M.out.call hb); replace HI22 := Lib.hid (HI22.out.below hb); replace R9 := Lib.hid ((hb.block _ (hlt14 R9.out)).trans R9.out); clear hb; try simp only [errV])
            | (refine wpList_buildTo rfl 35 #[] rfl (some 30) rfl (trC (.slice none 0 0) { data := #[] }) (by kernel_rfl) ?_)
            | (refine wpList_store_row rfl 35 (.tmp 6) (.tmp 30) rfl (q + 1) (trC (.slice none 0 0) { data := #[] }) rfl rfl 35 _ M.out.res (by kernel_rfl) (by rfl) (trC_one _ _ _ _) ?_)
            | (refine wpList_store_row rfl 35 (.tmp 6) (.tmp 32) rfl (q + 1) (trC (.slice va vl vc) b) rfl rfl 35 _ M.out.res (by kernel_rfl) (by rfl) (trC_one _ _ _ _) ?_))
          refine bodyPost_ret (results_cell_tmp_row rfl _ _ (q + 1) 35 _ (0, 0) _ rfl (setRow_heap _ _ _ _ _ _ M.out.res) Tryd.underlying35 rfl (by kernel_rfl)) rfl ?_
          exact ⟨.slice none 0 0, by rw [HRB.out, HE.out]; rfl, by rw [HRP.out, HE.out]; exact ss_nil _, below_setRow M.out.below (by have := M.out.q0; omega) _⟩
        | none =>
          go_wp2_with (first
            | (refine wpList_load_row rfl 35 (.tmp 9) rfl g9 rfl 35 _ (0, 0) _ R9.out Tryd.underlying35 rfl (by kernel_rfl) ?_)
            | (go_at_call 28; (with_reducible refine (HC.out _ _ HI22.out).mono ?_); rintro e w21 ⟨rfl, hb⟩; replace M := Lib.hid (M.out.call hb); replace HI22 := Lib.hid (HI22.out.below hb); replace R9 := Lib.hid ((hb.block _ (hlt14 R9.out)).trans R9.out); clear hb; try simp only [errV])
            | (refine wpList_buildTo rfl 35 #[] rfl (some 30) rfl (trC (.slice none 0 0) { data := #[] }) (by kernel_rfl) ?_)
            | (refine wpList_store_row rfl 35 (.tmp 6) (.tmp 30) rfl (q + 1) (trC (.slice none 0 0) { data := #[] }) rfl rfl 35 _ M.out.res (by kernel_rfl) (by rfl) (trC_one _ _ _ _) ?_)
            | (refine wpList_store_row rfl 35 (.tmp 6) (.tmp 32) rfl (q + 1) (trC (.slice va vl vc) b) rfl rfl 35 _ M.out.res (by kernel_rfl) (by rfl) (trC_one _ _ _ _) ?_))
          refine bodyPost_ret (results_cell_tmp_row rfl _ _ (q + 1) 35 _ (0, 0) _ rfl (setRow_heap _ _ _ _ _ _ M.out.res) Tryd.underlying35 rfl (by kernel_rfl)) rfl ?_
          have hk := M.out.q0
          exact ⟨.slice va vl vc, by rw [HRB.out, HE.out]; rfl, by rw [HRP.out, HE.out]; exact HI22.out.only (only_setRow14 _ _ _) (fun k hk => by have := (HO22.out k hk).1; have := HG19.out; omega), below_setRow M.out.below (by omega) _⟩
      · rw [if_pos (by rfl)]
        try simp only [List.getElem_toArray, List.getElem_cons_succ, List.getElem_cons_zero]
        (have LT19 := Lib.hid (show g19 < w4.heap.size from (HO19.out.lt g19 rfl).2); go_simp; have R9 := Lib.hid (show (w4.alloc (.cells #[.slice none 0 0, .string { data := #[] }] 35)).heap[w4.heap.size]? = some (.cells (trC (.slice none 0 0) { data := #[] }) 35 (0, 0)) from heap_alloc_new _ _); have Q9 := Lib.hid (show q + 1 < w4.heap.size from hlt14 M.out.res); replace HO19 := Lib.hid (own_stay14 HO19.out (below_alloc w4 (.cells #[.slice none 0 0, .string { data := #[] }] 35))); replace HS19 := Lib.hid (Nat.le_trans HS19.out (below_alloc w4 (.cells #[.slice none 0 0, .string { data := #[] }] 35)).size); have G9 := Lib.hid (show g19 < w4.heap.size from (HO19.out.lt g19 rfl).2 |> fun _ => LT19.out); replace HP := Lib.hid (HP.out.below (below_alloc w4 (.cells #[.slice none 0 0, .string { data := #[] }] 35))); replace M := Lib.hid (M.out.call (below_alloc w4 (.cells #[.slice none 0 0, .string { data := #[] }] 35))))
        refine hK _ _ (fun _ => ⟨M.out.c0, M.out.c1⟩) ?_
        clear hK K
        try simp only [List.getElem_toArray, List.getElem_cons_succ, List.getElem_cons_zero, Act.put, List.setIfInBounds_toArray, List.set_cons_zero, List.set_cons_succ]
        obtain ⟨g9, hg9⟩ : ∃ g, g = w4.heap.size := ⟨_, rfl⟩
        rw [← hg9] at R9 Q9 G9 ⊢
        clear hg9
        generalize w4.alloc (.cells #[.slice none 0 0, .string { data := #[] }] 35) = w5 at *
        refine anyT_one (i := 4) (by kernel_rfl) rfl (fun K hK => ?_)
        rw [if_pos (by rfl)]
        try simp only [List.getElem_toArray, List.getElem_cons_succ, List.getElem_cons_zero]
        (have LT9 := Lib.hid (show g9 < w5.heap.size from hlt14 R9.out); refine wp_append_ss (.tmp 19) (.tmp 21) rfl rfl g19 (.slice (some ⟨g19, 0, none⟩) 1 1) (.slice pa n pc) [R] t rfl HO19.out rfl HP.out (by have := HLN.out; rw [List.length_singleton]; omega) HS19.out ?_; intro v22 w6 ho hg hw; obtain ⟨va, vl, vc, rfl⟩ : ∃ a n c, v22 = .slice a n c := own_sl14 ho; have HI22 := Lib.hid (ss_own ho (by rw [List.length_append, List.length_singleton]; unfold maxLen; have := HLN.out; omega)); have HO22 := Lib.hid (fun k (hk : (Value.slice va vl vc).ownBlock = some k) => ho.lt k hk); replace R9 := Lib.hid ((hg.block g9 (hlt14 R9.out) (fun e => by have e2 : g9 = g19 := (by injection e); have := G9.out; omega)).trans R9.out); have K22 := Lib.hid (show ∀ k, (Value.slice va vl vc).ownBlock = some k → k ≠ g9 from fun k hk e => by (rcases hw with hw | hw; (have hk2 := hw.symm.trans hk; have hk3 : g19 = k := Option.some.inj hk2; have := G9.out; omega); (have hk2 := hw.symm.trans hk; have hk3 := Option.some.inj hk2; have := LT9.out; omega))); replace M := Lib.hid (M.out.grow hg (fun k hk => by injection hk with hk; subst hk; exact HG19.out)); clear ho hg hw)
        refine hK _ _ (fun _ => ⟨M.out.c0, M.out.c1⟩) ?_
        clear hK K
        try simp only [List.getElem_toArray, List.getElem_cons_succ, List.getElem_cons_zero, Act.put, List.setIfInBounds_toArray, List.set_cons_zero, List.set_cons_succ]
        refine anyT_take [] (i := 7) (v := .agg #[.slice va vl vc, .string b]) rfl (by kernel_rfl) (by kernel_rfl) (by kernel_rfl) (fun _ _ _ h => h) (by kernel_rfl) (Or.inl ⟨by rfl, fun w' _ => by go_simp⟩) ⟨M.out.c0, M.out.c1⟩ ?_
        try simp only [List.getElem_toArray, List.getElem_cons_succ, List.getElem_cons_zero, Act.put, List.setIfInBounds_toArray, List.set_cons_zero, List.set_cons_succ]
        refine anyT_one (i := 9) (by kernel_rfl) rfl (fun K hK => ?_)
        rw [if_pos (by rfl)]
        try simp only [List.getElem_toArray, List.getElem_cons_succ, List.getElem_cons_zero]
        (refine wp_store_row 35 (.tmp 9) (.tmp 25) rfl g9 (trC (.slice va vl vc) b) rfl rfl 35 _ R9.out (by kernel_rfl) (by rfl) (trC_one _ _ _ _) ?_); (have ho9 := only_setRow14 w6 g9 (trC (.slice va vl vc) b)); (replace R9 := Lib.hid (show (w6.setRow g9 (trC (.slice va vl vc) b)).heap[g9]? = some (.cells (trC (.slice va vl vc) b) 35 (0, 0)) from setRow_heap _ _ _ _ _ _ R9.out)); (replace HI22 := Lib.hid (HI22.out.only ho9 K22.out)); (replace M := Lib.hid (M.out.only ho9 Q9.out)); clear ho9; generalize w6.setRow g9 (trC (.slice va vl vc) b) = w20 at *
        refine hK _ _ (fun _ => ⟨M.out.c0, M.out.c1⟩) ?_
        clear hK K
        try simp only [List.getElem_toArray, List.getElem_cons_succ, List.getElem_cons_zero, Act.put, List.setIfInBounds_toArray, List.set_cons_zero, List.set_cons_succ]
        refine anyT_done (by kernel_rfl) ?_ _
        cases E1 with
        | some x =>
          go_wp2_with (first
            | (refine wpList_load_row rfl 35 (.tmp 9) rfl g9 rfl 35 _ (0, 0) _ R9.out Tryd.underlying35 rfl (by kernel_rfl) ?_)
            | (go_at_call 28; (with_reducible refine (HC.out _ _ HI22.out).mono ?_); rintro e w21 ⟨rfl, hb⟩; replace M := Lib.hid (M.out.call hb); replace HI22 := Lib.hid (HI22.out.below hb); replace R9 := Lib.hid ((hb.block _ (hlt14 R9.out)).trans R9.out); clear hb; try simp only [errV])
            | (refine wpList_buildTo rfl 35 #[] rfl (some 30) rfl (trC (.slice none 0 0) { data := #[] }) (by kernel_rfl) ?_)
            | (refine wpList_store_row rfl 35 (.tmp 6) (.tmp 30) rfl (q + 1) (trC (.slice none 0 0) { data := #[] }) rfl rfl 35 _ M.out.res (by kernel_rfl) (by rfl) (trC_one _ _ _ _) ?_)
            | (refine wpList_store_row rfl 35 (.tmp 6) (.tmp 32) rfl (q + 1) (trC (.slice va vl vc) b) rfl rfl 35 _ M.out.res (by kernel_rfl) (by rfl) (trC_one _ _ _ _) ?_))
          refine bodyPost_ret (results_cell_tmp_row rfl _ _ (q + 1) 35 _ (0, 0) _ rfl (setRow_heap _ _ _ _ _ _ M.out.res) Tryd.underlying35 rfl (by kernel_rfl)) rfl ?_
          exact ⟨.slice none 0 0, by rw [HRB.out, HE.out]; rfl, by rw [HRP.out, HE.out]; exact ss_nil _, below_setRow M.out.below (by have := M.out.q0; omega) _⟩
        | none =>
          go_wp2_with (first
            | (refine wpList_load_row rfl 35 (.tmp 9) rfl g9 rfl 35 _ (0, 0) _ R9.out Tryd.underlying35 rfl (by kernel_rfl) ?_)
            | (go_at_call 28; (with_reducible refine (HC.out _ _ HI22.out).mono ?_); rintro e w21 ⟨rfl, hb⟩; replace M := Lib.hid (M.out.call hb); replace HI22 := Lib.hid (HI22.out.below hb); replace R9 := Lib.hid ((hb.block _ (hlt14 R9.out)).trans R9.out); clear hb; try simp only [errV])
            | (refine wpList_buildTo rfl 35 #[] rfl (some 30) rfl (trC (.slice none 0 0) { data := #[] }) (by kernel_rfl) ?_)
            | (refine wpList_store_row rfl 35 (.tmp 6) (.tmp 30) rfl (q + 1) (trC (.slice none 0 0) { data := #[] }) rfl rfl 35 _ M.out.res (by kernel_rfl) (by rfl) (trC_one _ _ _ _) ?_)
            | (refine wpList_store_row rfl 35 (.tmp 6) (.tmp 32) rfl (q + 1) (trC (.slice va vl vc) b) rfl rfl 35 _ M.out.res (by kernel_rfl) (by rfl) (trC_one _ _ _ _) ?_))
          refine bodyPost_ret (results_cell_tmp_row rfl _ _ (q + 1) 35 _ (0, 0) _ rfl (setRow_heap _ _ _ _ _ _ M.out.res) Tryd.underlying35 rfl (by kernel_rfl)) rfl ?_
          have hk := M.out.q0
          exact ⟨.slice va vl vc, by rw [HRB.out, HE.out]; rfl, by rw [HRP.out, HE.out]; exact HI22.out.only (only_setRow14 _ _ _) (fun k hk => by have := (HO22.out k hk).1; have := HG19.out; omega), below_setRow M.out.below (by omega) _⟩
    · rw [if_pos (by rfl)]
      try simp only [List.getElem_toArray, List.getElem_cons_succ, List.getElem_cons_zero]
      (go_simp; have R9 := Lib.hid (show (w3.alloc (.cells #[.slice none 0 0, .string { data := #[] }] 35)).heap[w3.heap.size]? = some (.cells (trC (.slice none 0 0) { data := #[] }) 35 (0, 0)) from heap_alloc_new _ _); have Q9 := Lib.hid (show q + 1 < w3.heap.size from hlt14 M.out.res); replace HP := Lib.hid (HP.out.below (below_alloc w3 (.cells #[.slice none 0 0, .string { data := #[] }] 35))); replace M := Lib.hid (M.out.call (below_alloc w3 (.cells #[.slice none 0 0, .string { data := #[] }] 35))))
      refine hK _ _ (fun _ => ⟨M.out.c0, M.out.c1⟩) ?_
      clear hK K
      try simp only [List.getElem_toArray, List.getElem_cons_succ, List.getElem_cons_zero, Act.put, List.setIfInBounds_toArray, List.set_cons_zero, List.set_cons_succ]
      obtain ⟨g9, hg9⟩ : ∃ g, g = w3.heap.size := ⟨_, rfl⟩
      rw [← hg9] at R9 Q9 ⊢
      clear hg9
      generalize w3.alloc (.cells #[.slice none 0 0, .string { data := #[] }] 35) = w4 at *
      refine anyT_one (i := 1) (by kernel_rfl) rfl (fun K hK => ?_)
      rw [if_pos (by rfl)]
      try simp only [List.getElem_toArray, List.getElem_cons_succ, List.getElem_cons_zero]
      (refine wp_str1 (.tmp 18) rfl R rfl ?_; have G9 := Lib.hid (show g9 < w4.heap.size from hlt14 R9.out); have HO19 := Lib.hid (own_one14 w4 R); have HG19 := Lib.hid (show q + 1 < w4.heap.size from hlt14 M.out.res); replace R9 := Lib.hid (((below_alloc w4 (.cells #[.string R] 9)).block _ (hlt14 R9.out)).trans R9.out); replace HP := Lib.hid (HP.out.below (below_alloc w4 (.cells #[.string R] 9))); replace M := Lib.hid (M.out.call (below_alloc w4 (.cells #[.string R] 9))); have HS19 := Lib.hid (show w4.heap.size ≤ (w4.alloc (.cells #[.string R] 9)).heap.size from (below_alloc _ _).size); obtain ⟨g19, hg19⟩ : ∃ g, g = w4.heap.size := ⟨_, rfl⟩; rw [← hg19] at HO19 HG19 HS19 G9 ⊢; clear hg19; generalize w4.alloc (.cells #[.string R] 9) = w5 at *)
      refine hK _ _ (fun _ => ⟨M.out.c0, M.out.c1⟩) ?_
      clear hK K
      try simp only [List.getElem_toArray, List.getElem_cons_succ, List.getElem_cons_zero, Act.put, List.setIfInBounds_toArray, List.set_cons_zero, List.set_cons_succ]
      refine anyT_one (i := 4) (by kernel_rfl) rfl (fun K hK => ?_)
      rw [if_pos (by rfl)]
      try simp only [List.getElem_toArray, List.getElem_cons_succ, List.getElem_cons_zero]
      (have LT9 := Lib.hid (show g9 < w5.heap.size from hlt14 R9.out); refine wp_append_ss (.tmp 19) (.tmp 21) rfl rfl g19 (.slice (some ⟨g19, 0, none⟩) 1 1) (.slice pa n pc) [R] t rfl HO19.out rfl HP.out (by have := HLN.out; rw [List.length_singleton]; omega) HS19.out ?_; intro v22 w6 ho hg hw; obtain ⟨va, vl, vc, rfl⟩ : ∃ a n c, v22 = .slice a n c := own_sl14 ho; have HI22 := Lib.hid (ss_own ho (by rw [List.length_append, List.length_singleton]; unfold maxLen; have := HLN.out; omega)); have HO22 := Lib.hid (fun k (hk : (Value.slice va vl vc).ownBlock = some k) => ho.lt k hk); replace R9 := Lib.hid ((hg.block g9 (hlt14 R9.out) (fun e => by have e2 : g9 = g19 := (by injection e); have := G9.out; omega)).trans R9.out); have K22 := Lib.hid (show ∀ k, (Value.slice va vl vc).ownBlock = some k → k ≠ g9 from fun k hk e => by (rcases hw with hw | hw; (have hk2 := hw.symm.trans hk; have hk3 : g19 = k := Option.some.inj hk2; have := G9.out; omega); (have hk2 := hw.symm.trans hk; have hk3 := Option.some.inj hk2; have := LT9.out; omega))); replace M := Lib.hid (M.out.grow hg (fun k hk => by injection hk with hk; subst hk; exact HG19.out)); clear ho hg hw)
      refine hK _ _ (fun _ => ⟨M.out.c0, M.out.c1⟩) ?_
      clear hK K
      try simp only [List.getElem_toArray, List.getElem_cons_succ, List.getElem_cons_zero, Act.put, List.setIfInBounds_toArray, List.set_cons_zero, List.set_cons_succ]
      refine anyT_take [] (i := 7) (v := .agg #[.slice va vl vc, .string b]) rfl (by kernel_rfl) (by kernel_rfl) (by kernel_rfl) (fun _ _ _ h => h) (by kernel_rfl) (Or.inl ⟨by rfl, fun w' _ => by go_simp⟩) ⟨M.out.c0, M.out.c1⟩ ?_
      try simp only [List.getElem_toArray, List.getElem_cons_succ, List.getElem_cons_zero, Act.put, List.setIfInBounds_toArray, List.set_cons_zero, List.set_cons_succ]
      refine anyT_one (i := 9) (by kernel_rfl) rfl (fun K hK => ?_)
      rw [if_pos (by rfl)]
      try simp only [List.getElem_toArray, List.getElem_cons_succ, List.getElem_cons_zero]
      (refine wp_store_row 35 (.tmp 9) (.tmp 25) rfl g9 (trC (.slice va vl vc) b) rfl rfl 35 _ R9.out (by kernel_rfl) (by rfl) (trC_one _ _ _ _) ?_); (have ho9 := only_setRow14 w6 g9 (trC (.slice va vl vc) b)); (replace R9 := Lib.hid (show (w6.setRow g9 (trC (.slice va vl vc) b)).heap[g9]? = some (.cells (trC (.slice va vl vc) b) 35 (0, 0)) from setRow_heap _ _ _ _ _ _ R9.out)); (replace HI22 := Lib.hid (HI22.out.only ho9 K22.out)); (replace M := Lib.hid (M.out.only ho9 Q9.out)); clear ho9; generalize w6.setRow g9 (trC (.slice va vl vc) b) = w20 at *
      refine hK _ _ (fun _ => ⟨M.out.c0, M.out.c1⟩) ?_
      clear hK K
      try simp only [List.getElem_toArray, List.getElem_cons_succ, List.getElem_cons_zero, Act.put, List.setIfInBounds_toArray, List.set_cons_zero, List.set_cons_succ]
      refine anyT_done (by kernel_rfl) ?_ _
      cases E1 with
      | some x =>
        go_wp2_with (first
          | (refine wpList_load_row rfl 35 (.tmp 9) rfl g9 rfl 35 _ (0, 0) _ R9.out Tryd.underlying35 rfl (by kernel_rfl) ?_)
          | (go_at_call 28; (with_reducible refine (HC.out _ _ HI22.out).mono ?_); rintro e w21 ⟨rfl, hb⟩; replace M := Lib.hid (M.out.call hb); replace HI22 := Lib.hid (HI22.out.below hb); replace R9 := Lib.hid ((hb.block _ (hlt14 R9.out)).trans R9.out); clear hb; try simp only [errV])
          | (refine wpList_buildTo rfl 35 #[] rfl (some 30) rfl (trC (.slice none 0 0) { data := #[] }) (by kernel_rfl) ?_)
          | (refine wpList_store_row rfl 35 (.tmp 6) (.tmp 30) rfl (q + 1) (trC (.slice none 0 0) { data := #[] }) rfl rfl 35 _ M.out.res (by kernel_rfl) (by rfl) (trC_one _ _ _ _) ?_)
          | (refine wpList_store_row rfl 35 (.tmp 6) (.tmp 32) rfl (q + 1) (trC (.slice va vl vc) b) rfl rfl 35 _ M.out.res (by kernel_rfl) (by rfl) (trC_one _ _ _ _) ?_))
        refine bodyPost_ret (results_cell_tmp_row rfl _ _ (q + 1) 35 _ (0, 0) _ rfl (setRow_heap _ _ _ _ _ _ M.out.res) Tryd.underlying35 rfl (by kernel_rfl)) rfl ?_
        exact ⟨.slice none 0 0, by rw [HRB.out, HE.out]; rfl, by rw [HRP.out, HE.out]; exact ss_nil _, below_setRow M.out.below (by have := M.out.q0; omega) _⟩
      | none =>
        go_wp2_with (first
          | (refine wpList_load_row rfl 35 (.tmp 9) rfl g9 rfl 35 _ (0, 0) _ R9.out Tryd.underlying35 rfl (by kernel_rfl) ?_)
          | (go_at_call 28; (with_reducible refine (HC.out _ _ HI22.out).mono ?_); rintro e w21 ⟨rfl, hb⟩; replace M := Lib.hid (M.out.call hb); replace HI22 := Lib.hid (HI22.out.below hb); replace R9 := Lib.hid ((hb.block _ (hlt14 R9.out)).trans R9.out); clear hb; try simp only [errV])
          | (refine wpList_buildTo rfl 35 #[] rfl (some 30) rfl (trC (.slice none 0 0) { data := #[] }) (by kernel_rfl) ?_)
          | (refine wpList_store_row rfl 35 (.tmp 6) (.tmp 30) rfl (q + 1) (trC (.slice none 0 0) { data := #[] }) rfl rfl 35 _ M.out.res (by kernel_rfl) (by rfl) (trC_one _ _ _ _) ?_)
          | (refine wpList_store_row rfl 35 (.tmp 6) (.tmp 32) rfl (q + 1) (trC (.slice va vl vc) b) rfl rfl 35 _ M.out.res (by kernel_rfl) (by rfl) (trC_one _ _ _ _) ?_))
        refine bodyPost_ret (results_cell_tmp_row rfl _ _ (q + 1) 35 _ (0, 0) _ rfl (setRow_heap _ _ _ _ _ _ M.out.res) Tryd.underlying35 rfl (by kernel_rfl)) rfl ?_
        have hk := M.out.q0
        exact ⟨.slice va vl vc, by rw [HRB.out, HE.out]; rfl, by rw [HRP.out, HE.out]; exact HI22.out.only (only_setRow14 _ _ _) (fun k hk => by have := (HO22.out k hk).1; have := HG19.out; omega), below_setRow M.out.below (by omega) _⟩

end Go.Proofs.YteokgklfljhcaaaDoor
