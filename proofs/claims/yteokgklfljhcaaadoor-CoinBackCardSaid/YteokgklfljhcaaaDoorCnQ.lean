/- coin: From; the law's give and same (written by gencnq.py). -/
import Derived.Test.YteokgklfljhcaaaDoorCnP
namespace Go.Proofs.YteokgklfljhcaaaDoor
open Go.RowKit
set_option maxRecDepth 100000
set_option linter.unusedSimpArgs false
set_option linter.unusedVariables false
theorem sliceS14 (a : Option Addr) (n cap p : Nat) (hp : p ≤ n) (w : World) : (Instr.slice 32 (.slice a n cap) (some (.int .i64 (p : Int))) none none).run Tryd.prog w = .ok (.slice (cutA a cap p) (n - p) (cap - p)) w := by
  have he : Tryd.prog.elem 32 = 9 := by kernel_rfl
  have hs : (sizeOf 9).run Tryd.prog w = .ok 1 w := by kernel_rfl
  rw [run_slice_l w 32 a n cap (by rw [he]; exact Tryd.underlying32) .i64 (p : Int) (by omega) (by omega), he, hs]
  simp [Result.andThen_ok, sliced, cutA]
theorem SsIn.tail {w : World} {a : Option Addr} {n cap : Nat} {x : ByteArray} {t : List ByteArray} (h : SsIn w (.slice a n cap) (x :: t)) : SsIn w (.slice (cutA a cap 1) (n - 1) (cap - 1)) t := by
  obtain ⟨a', c', e, h1, h2, h3⟩ := h
  injection e with e1 e2 e3
  subst e1 e2 e3
  simp only [List.length_cons, Nat.add_sub_cancel] at *
  refine ⟨_, _, rfl, by omega, by omega, ?_⟩
  rcases h3 with h3 | ⟨ab, ao, rfl, hlt, hx⟩
  · cases h3
  · by_cases hc : cap = 1
    · left
      exact List.eq_nil_of_length_eq_zero (by omega)
    · right
      refine ⟨ab, ao + 1, by unfold cutA; rw [if_neg hc]; rfl, hlt, fun i s hi => ?_⟩
      have := hx (i + 1) s (by simpa using hi)
      rwa [show ao + 1 + i = ao + (i + 1) from by omega]
def cameB (t : List ByteArray) (p c : ByteArray) : Bool := okP p c && (match t with | [] => false | x :: _ => decide (x = portR p c))
def fromP (t : List ByteArray) (p c : ByteArray) : List ByteArray := if cameB t p c then t.tail else t
def FromP (t : List ByteArray) (b p c : ByteArray) (w : World) (e : Ending) (w' : World) : Prop := ∃ pv', e = .returned (.tuple #[.agg (trC pv' b), .bool (cameB t p c)]) ∧ SsIn w' pv' (fromP t p c) ∧ Below w.heap.size w w'
set_option maxHeartbeats 4000000 in
theorem cfrom_any (t : List ByteArray) (b p c : ByteArray) (pv : Value) (w : World) (hp : SsIn w pv t) (hl : t.length ≤ 8796093022208) :
    Calls Tryd.prog 15 #[.agg (trC pv b), .string p, .string c] w (FromP t b p c w) := by
  obtain ⟨pa, pc, rfl, -, -⟩ := id hp
  unfold FromP
  have HPO := Lib.hid (fun w => cport_any p c w)
  have HEM := portR_empty p c
  obtain ⟨CM, hCM⟩ : ∃ x, x = cameB t p c := ⟨_, rfl⟩
  have hCM2 := hCM
  rw [← hCM]
  unfold cameB at hCM
  obtain ⟨R, hR⟩ : ∃ r, r = portR p c := ⟨_, rfl⟩
  rw [← hR] at HPO HEM hCM
  have HP := Lib.hid hp
  have HLN := Lib.hid hl
  obtain ⟨n, hn⟩ : ∃ n, n = t.length := ⟨_, rfl⟩
  have HST := Lib.hid (fun w1 h => io_start (T := 35) (w := w) (w1 := w1) (pv := .slice pa n pc) (b := b) h)
  have HCM := Lib.hid hCM2.symm
  rw [← hn] at HP ⊢
  have HN := Lib.hid hn
  clear hp hl hR hCM2 hn
  go_enter Tryd.func15, Tryd.ntmps15
  go_upto_region 1 with (fail)
  generalize hA : World.alloc (World.alloc w _) _ = w1
  have M := Lib.hid (HST.out w1 hA)
  clear hA HST
  obtain ⟨q, hq⟩ : ∃ q, q = w.heap.size := ⟨_, rfl⟩
  have hq1 : w.heap.size + 1 = q + 1 := by rw [hq]
  rw [← hq] at M ⊢
  clear hq hq1
  go_upto_region 2 with (go_at_call 23; (with_reducible refine (HPO.out _).mono ?_); rintro e w2 ⟨rfl, hb⟩; replace M := Lib.hid (M.out.call hb); clear hb)
  replace HP := Lib.hid (HP.out.below M.out.below)
  have c0 := M.out.c0
  cases hk : okP p c with
  | false =>
    rw [hk] at HEM hCM
    simp only [Bool.not_false, Bool.false_and] at HEM hCM
    subst hCM
    go_upto_region 6 with (fail)
    replace M := Lib.hid (M.out.call (Below.refl _ w2).drew)
    replace HP := Lib.hid (HP.out.below (Below.refl _ w2).drew)
    refine wp_region_T (fun W => W.cell? ⟨q, 0, none⟩ = some (.slice pa n pc) ∧ W.cell? ⟨q, 1, none⟩ = some (.string b)) [0, 1, 2, 3, 4, 5, 6, 7] (by kernel_rfl) ?_
    generalize w2.drew = w8 at *
    refine anyT_take [] (i := 0) (v := .slice pa n pc) rfl (by kernel_rfl) (by kernel_rfl) (by kernel_rfl) (fun _ _ _ h => h) (by kernel_rfl) (Or.inl ⟨by rfl, fun w' _ => by go_simp⟩) ⟨M.out.c0, M.out.c1⟩ ?_
    try simp only [List.getElem_toArray, List.getElem_cons_succ, List.getElem_cons_zero, Act.put, List.setIfInBounds_toArray, List.set_cons_zero, List.set_cons_succ]
    refine anyT_take [] (i := 2) (v := .pointer (some ⟨q, 1, none⟩)) rfl (by kernel_rfl) (by kernel_rfl) (by kernel_rfl) (fun _ _ _ h => h) (by kernel_rfl) (Or.inl ⟨by rfl, fun w' _ => by go_simp⟩) ⟨M.out.c0, M.out.c1⟩ ?_
    try simp only [List.getElem_toArray, List.getElem_cons_succ, List.getElem_cons_zero, Act.put, List.setIfInBounds_toArray, List.set_cons_zero, List.set_cons_succ]
    refine anyT_take [] (i := 5) (v := .bool false) rfl (by kernel_rfl) (by kernel_rfl) (by kernel_rfl) (fun _ _ _ h => h) (by kernel_rfl) (Or.inl ⟨by rfl, fun w' _ => by go_simp⟩) ⟨M.out.c0, M.out.c1⟩ ?_
    try simp only [List.getElem_toArray, List.getElem_cons_succ, List.getElem_cons_zero, Act.put, List.setIfInBounds_toArray, List.set_cons_zero, List.set_cons_succ]
    refine anyT_take [] (i := 3) (v := .string b) rfl (by kernel_rfl) (by kernel_rfl) (by kernel_rfl) (fun _ _ _ h => h) (by kernel_rfl) (Or.inl ⟨by rfl, fun w' hS => by have c := hS.2; go_simp⟩) ⟨M.out.c0, M.out.c1⟩ ?_
    try simp only [List.getElem_toArray, List.getElem_cons_succ, List.getElem_cons_zero, Act.put, List.setIfInBounds_toArray, List.set_cons_zero, List.set_cons_succ]
    refine anyT_one (i := 1) (by kernel_rfl) rfl (fun K hK => ?_)
    rw [if_pos (by rfl)]
    try simp only [List.getElem_toArray, List.getElem_cons_succ, List.getElem_cons_zero]
    (go_simp; (with_reducible refine (cclone_any t (.slice pa n pc) _ HP.out (HLN.out)).mono ?_); rintro e w9 ⟨v12, rfl, ho, hb⟩; obtain ⟨va, vl, vc, rfl⟩ : ∃ a n c, v12 = .slice a n c := own_sl14 ho; have HI := Lib.hid (ss_own ho (Nat.le_trans (HLN.out) (show (8796093022208 : Nat) ≤ maxLen from by simp [maxLen]))); have HO := Lib.hid (fun k (hk : (Value.slice va vl vc).ownBlock = some k) => ho.lt k hk); have HQ := Lib.hid (show q + 1 < w8.heap.size from hlt14 M.out.res); replace M := Lib.hid (M.out.call hb); clear ho hb)
    refine hK _ _ (fun _ => ⟨M.out.c0, M.out.c1⟩) ?_
    clear hK K
    try simp only [List.getElem_toArray, List.getElem_cons_succ, List.getElem_cons_zero, Act.put, List.setIfInBounds_toArray, List.set_cons_zero, List.set_cons_succ]
    refine anyT_take [] (i := 4) (v := .agg #[.slice va vl vc, .string b]) rfl (by kernel_rfl) (by kernel_rfl) (by kernel_rfl) (fun _ _ _ h => h) (by kernel_rfl) (Or.inl ⟨by rfl, fun w' _ => by go_simp⟩) ⟨M.out.c0, M.out.c1⟩ ?_
    try simp only [List.getElem_toArray, List.getElem_cons_succ, List.getElem_cons_zero, Act.put, List.setIfInBounds_toArray, List.set_cons_zero, List.set_cons_succ]
    refine anyT_one (i := 6) (by kernel_rfl) rfl (fun K hK => ?_)
    rw [if_pos (by rfl)]
    try simp only [List.getElem_toArray, List.getElem_cons_succ, List.getElem_cons_zero]
    (refine wp_store_row 35 (.tmp 6) (.tmp 39) rfl (q + 1) (trC (.slice va vl vc) b) rfl rfl 35 _ M.out.res (by kernel_rfl) (by rfl) (trC_one _ _ _ _) ?_; have h0 := cell_of_row; have HC0 := Lib.hid (show (w9.setRow (q + 1) (trC (.slice va vl vc) b)).cell? ⟨q, 0, none⟩ = some (.slice pa n pc) ∧ (w9.setRow (q + 1) (trC (.slice va vl vc) b)).cell? ⟨q, 1, none⟩ = some (.string b) from ⟨cell_of_row _ _ _ _ _ _ ((setRow_other _ _ _ _ (by omega)).trans M.out.at_), cell_of_row _ _ _ _ _ _ ((setRow_other _ _ _ _ (by omega)).trans M.out.at_)⟩); clear h0)
    refine hK _ _ (fun _ => HC0.out) ?_
    clear hK K
    try simp only [List.getElem_toArray, List.getElem_cons_succ, List.getElem_cons_zero, Act.put, List.setIfInBounds_toArray, List.set_cons_zero, List.set_cons_succ]
    refine anyT_take [] (i := 7) (v := .bool false) rfl (by kernel_rfl) (by kernel_rfl) (by kernel_rfl) (fun _ _ _ h => h) (by kernel_rfl) (Or.inl ⟨by rfl, fun w' _ => by go_simp⟩) HC0.out ?_
    try simp only [List.getElem_toArray, List.getElem_cons_succ, List.getElem_cons_zero, Act.put, List.setIfInBounds_toArray, List.set_cons_zero, List.set_cons_succ]
    refine anyT_done (by kernel_rfl) ?_ _
    go_wp2_with (fail)
    refine bodyPost_ret (results_cell_tmp_row rfl _ _ (q + 1) 35 _ (0, 0) _ rfl (setRow_heap _ _ _ _ _ _ M.out.res) Tryd.underlying35 rfl (by kernel_rfl)) rfl ?_
    have hk := M.out.q0
    exact ⟨.slice va vl vc, rfl, by unfold fromP; rw [HCM.out]; exact HI.out.only (only_setRow14 _ _ _) (fun k hk => by have := (HO.out k hk).1; have := HQ.out; omega), below_setRow M.out.below (by omega) _⟩
  | true =>
    rw [hk] at HEM hCM
    simp only [Bool.not_true, Bool.true_and] at HEM hCM
    cases t with
    | nil =>
      simp only at hCM
      subst hCM
      have hn0 : n = 0 := HN.out
      subst hn0
      go_upto_region 6 with (fail)
      replace M := Lib.hid (M.out.call (Below.refl _ w2).drew)
      replace HP := Lib.hid (HP.out.below (Below.refl _ w2).drew)
      refine wp_region_T (fun W => W.cell? ⟨q, 0, none⟩ = some (.slice pa 0 pc) ∧ W.cell? ⟨q, 1, none⟩ = some (.string b)) [0, 1, 2, 3, 4, 5, 6, 7] (by kernel_rfl) ?_
      generalize w2.drew = w8 at *
      refine anyT_take [] (i := 0) (v := .slice pa 0 pc) rfl (by kernel_rfl) (by kernel_rfl) (by kernel_rfl) (fun _ _ _ h => h) (by kernel_rfl) (Or.inl ⟨by rfl, fun w' _ => by go_simp⟩) ⟨M.out.c0, M.out.c1⟩ ?_
      try simp only [List.getElem_toArray, List.getElem_cons_succ, List.getElem_cons_zero, Act.put, List.setIfInBounds_toArray, List.set_cons_zero, List.set_cons_succ]
      refine anyT_take [] (i := 2) (v := .pointer (some ⟨q, 1, none⟩)) rfl (by kernel_rfl) (by kernel_rfl) (by kernel_rfl) (fun _ _ _ h => h) (by kernel_rfl) (Or.inl ⟨by rfl, fun w' _ => by go_simp⟩) ⟨M.out.c0, M.out.c1⟩ ?_
      try simp only [List.getElem_toArray, List.getElem_cons_succ, List.getElem_cons_zero, Act.put, List.setIfInBounds_toArray, List.set_cons_zero, List.set_cons_succ]
      refine anyT_take [] (i := 5) (v := .bool false) rfl (by kernel_rfl) (by kernel_rfl) (by kernel_rfl) (fun _ _ _ h => h) (by kernel_rfl) (Or.inl ⟨by rfl, fun w' _ => by go_simp⟩) ⟨M.out.c0, M.out.c1⟩ ?_
      try simp only [List.getElem_toArray, List.getElem_cons_succ, List.getElem_cons_zero, Act.put, List.setIfInBounds_toArray, List.set_cons_zero, List.set_cons_succ]
      refine anyT_take [] (i := 3) (v := .string b) rfl (by kernel_rfl) (by kernel_rfl) (by kernel_rfl) (fun _ _ _ h => h) (by kernel_rfl) (Or.inl ⟨by rfl, fun w' hS => by have c := hS.2; go_simp⟩) ⟨M.out.c0, M.out.c1⟩ ?_
      try simp only [List.getElem_toArray, List.getElem_cons_succ, List.getElem_cons_zero, Act.put, List.setIfInBounds_toArray, List.set_cons_zero, List.set_cons_succ]
      refine anyT_one (i := 1) (by kernel_rfl) rfl (fun K hK => ?_)
      rw [if_pos (by rfl)]
      try simp only [List.getElem_toArray, List.getElem_cons_succ, List.getElem_cons_zero]
      (go_simp; (with_reducible refine (cclone_any [] (.slice pa 0 pc) _ HP.out (Nat.zero_le _)).mono ?_); rintro e w9 ⟨v12, rfl, ho, hb⟩; obtain ⟨va, vl, vc, rfl⟩ : ∃ a n c, v12 = .slice a n c := own_sl14 ho; have HI := Lib.hid (ss_own ho (Nat.le_trans (Nat.zero_le _) (show (8796093022208 : Nat) ≤ maxLen from by simp [maxLen]))); have HO := Lib.hid (fun k (hk : (Value.slice va vl vc).ownBlock = some k) => ho.lt k hk); have HQ := Lib.hid (show q + 1 < w8.heap.size from hlt14 M.out.res); replace M := Lib.hid (M.out.call hb); clear ho hb)
      refine hK _ _ (fun _ => ⟨M.out.c0, M.out.c1⟩) ?_
      clear hK K
      try simp only [List.getElem_toArray, List.getElem_cons_succ, List.getElem_cons_zero, Act.put, List.setIfInBounds_toArray, List.set_cons_zero, List.set_cons_succ]
      refine anyT_take [] (i := 4) (v := .agg #[.slice va vl vc, .string b]) rfl (by kernel_rfl) (by kernel_rfl) (by kernel_rfl) (fun _ _ _ h => h) (by kernel_rfl) (Or.inl ⟨by rfl, fun w' _ => by go_simp⟩) ⟨M.out.c0, M.out.c1⟩ ?_
      try simp only [List.getElem_toArray, List.getElem_cons_succ, List.getElem_cons_zero, Act.put, List.setIfInBounds_toArray, List.set_cons_zero, List.set_cons_succ]
      refine anyT_one (i := 6) (by kernel_rfl) rfl (fun K hK => ?_)
      rw [if_pos (by rfl)]
      try simp only [List.getElem_toArray, List.getElem_cons_succ, List.getElem_cons_zero]
      (refine wp_store_row 35 (.tmp 6) (.tmp 39) rfl (q + 1) (trC (.slice va vl vc) b) rfl rfl 35 _ M.out.res (by kernel_rfl) (by rfl) (trC_one _ _ _ _) ?_; have h0 := cell_of_row; have HC0 := Lib.hid (show (w9.setRow (q + 1) (trC (.slice va vl vc) b)).cell? ⟨q, 0, none⟩ = some (.slice pa 0 pc) ∧ (w9.setRow (q + 1) (trC (.slice va vl vc) b)).cell? ⟨q, 1, none⟩ = some (.string b) from ⟨cell_of_row _ _ _ _ _ _ ((setRow_other _ _ _ _ (by omega)).trans M.out.at_), cell_of_row _ _ _ _ _ _ ((setRow_other _ _ _ _ (by omega)).trans M.out.at_)⟩); clear h0)
      refine hK _ _ (fun _ => HC0.out) ?_
      clear hK K
      try simp only [List.getElem_toArray, List.getElem_cons_succ, List.getElem_cons_zero, Act.put, List.setIfInBounds_toArray, List.set_cons_zero, List.set_cons_succ]
      refine anyT_take [] (i := 7) (v := .bool false) rfl (by kernel_rfl) (by kernel_rfl) (by kernel_rfl) (fun _ _ _ h => h) (by kernel_rfl) (Or.inl ⟨by rfl, fun w' _ => by go_simp⟩) HC0.out ?_
      try simp only [List.getElem_toArray, List.getElem_cons_succ, List.getElem_cons_zero, Act.put, List.setIfInBounds_toArray, List.set_cons_zero, List.set_cons_succ]
      refine anyT_done (by kernel_rfl) ?_ _
      go_wp2_with (fail)
      refine bodyPost_ret (results_cell_tmp_row rfl _ _ (q + 1) 35 _ (0, 0) _ rfl (setRow_heap _ _ _ _ _ _ M.out.res) Tryd.underlying35 rfl (by kernel_rfl)) rfl ?_
      have hk := M.out.q0
      exact ⟨.slice va vl vc, rfl, by unfold fromP; rw [HCM.out]; exact HI.out.only (only_setRow14 _ _ _) (fun k hk => by have := (HO.out k hk).1; have := HQ.out; omega), below_setRow M.out.below (by omega) _⟩
    | cons x t =>
      simp only at hCM
      have hnI : (0 : Int) < (n : Int) := by rw [HN.out, List.length_cons]; omega
      have hn1 : 1 ≤ n := by rw [HN.out, List.length_cons]; omega
      obtain ⟨ab, ao, hpa, hx⟩ : ∃ ab ao, pa = some ⟨ab, ao, none⟩ ∧ w2.cell? ⟨ab, ao, none⟩ = some (.string x) := by
        obtain ⟨a', c', e, -, -, h3⟩ := HP.out
        injection e with e1 e2 e3
        subst e1
        rcases h3 with h3 | ⟨ab, ao, rfl, -, hx⟩
        · cases h3
        · exact ⟨ab, ao, rfl, by have := hx 0 x rfl; rwa [Nat.add_zero] at this⟩
      subst hpa
      have hxr := beq14 x R
      by_cases he : x = R
      · rw [decide_eq_true he] at hxr hCM
        subst hCM
        clear he
        have HLT := Lib.hid (show t.length ≤ 8796093022208 from by have h := HLN.out; rw [List.length_cons] at h; omega)
        obtain ⟨p1, hp1⟩ : ∃ z, z = cutA (some ⟨ab, ao, none⟩) pc 1 := ⟨_, rfl⟩
        have HTL := Lib.hid HP.out.tail
        rw [← hp1] at HTL
        have HP1 := Lib.hid (show (if pc = 1 then some (⟨ab, ao, none⟩ : Addr) else some ⟨ab, ao + 1, none⟩) = p1 from by rw [hp1]; rfl)
        clear hp1
        go_upto_region 6 with (fail)
        rw [HP1.out]
        replace M := Lib.hid (M.out.call (Below.refl _ w2).drew)
        replace HTL := Lib.hid (HTL.out.below (Below.refl _ w2).drew)
        refine wp_region_T (fun W => W.cell? ⟨q, 0, none⟩ = some (.slice (some ⟨ab, ao, none⟩) n pc) ∧ W.cell? ⟨q, 1, none⟩ = some (.string b)) [0, 1, 2, 3, 4, 5, 6, 7] (by kernel_rfl) ?_
        generalize w2.drew = w8 at *
        refine anyT_take [] (i := 0) (v := .slice p1 (n - 1) (pc - 1)) rfl (by kernel_rfl) (by kernel_rfl) (by kernel_rfl) (fun _ _ _ h => h) (by kernel_rfl) (Or.inl ⟨by rfl, fun w' _ => by go_simp⟩) ⟨M.out.c0, M.out.c1⟩ ?_
        try simp only [List.getElem_toArray, List.getElem_cons_succ, List.getElem_cons_zero, Act.put, List.setIfInBounds_toArray, List.set_cons_zero, List.set_cons_succ]
        refine anyT_take [] (i := 2) (v := .pointer (some ⟨q, 1, none⟩)) rfl (by kernel_rfl) (by kernel_rfl) (by kernel_rfl) (fun _ _ _ h => h) (by kernel_rfl) (Or.inl ⟨by rfl, fun w' _ => by go_simp⟩) ⟨M.out.c0, M.out.c1⟩ ?_
        try simp only [List.getElem_toArray, List.getElem_cons_succ, List.getElem_cons_zero, Act.put, List.setIfInBounds_toArray, List.set_cons_zero, List.set_cons_succ]
        refine anyT_take [] (i := 5) (v := .bool true) rfl (by kernel_rfl) (by kernel_rfl) (by kernel_rfl) (fun _ _ _ h => h) (by kernel_rfl) (Or.inl ⟨by rfl, fun w' _ => by go_simp⟩) ⟨M.out.c0, M.out.c1⟩ ?_
        try simp only [List.getElem_toArray, List.getElem_cons_succ, List.getElem_cons_zero, Act.put, List.setIfInBounds_toArray, List.set_cons_zero, List.set_cons_succ]
        refine anyT_take [] (i := 3) (v := .string b) rfl (by kernel_rfl) (by kernel_rfl) (by kernel_rfl) (fun _ _ _ h => h) (by kernel_rfl) (Or.inl ⟨by rfl, fun w' hS => by have c := hS.2; go_simp⟩) ⟨M.out.c0, M.out.c1⟩ ?_
        try simp only [List.getElem_toArray, List.getElem_cons_succ, List.getElem_cons_zero, Act.put, List.setIfInBounds_toArray, List.set_cons_zero, List.set_cons_succ]
        refine anyT_one (i := 1) (by kernel_rfl) rfl (fun K hK => ?_)
        rw [if_pos (by rfl)]
        try simp only [List.getElem_toArray, List.getElem_cons_succ, List.getElem_cons_zero]
        (go_simp; (with_reducible refine (cclone_any t (.slice p1 (n - 1) (pc - 1)) _ HTL.out (HLT.out)).mono ?_); rintro e w9 ⟨v12, rfl, ho, hb⟩; obtain ⟨va, vl, vc, rfl⟩ : ∃ a n c, v12 = .slice a n c := own_sl14 ho; have HI := Lib.hid (ss_own ho (Nat.le_trans (HLT.out) (show (8796093022208 : Nat) ≤ maxLen from by simp [maxLen]))); have HO := Lib.hid (fun k (hk : (Value.slice va vl vc).ownBlock = some k) => ho.lt k hk); have HQ := Lib.hid (show q + 1 < w8.heap.size from hlt14 M.out.res); replace M := Lib.hid (M.out.call hb); clear ho hb)
        refine hK _ _ (fun _ => ⟨M.out.c0, M.out.c1⟩) ?_
        clear hK K
        try simp only [List.getElem_toArray, List.getElem_cons_succ, List.getElem_cons_zero, Act.put, List.setIfInBounds_toArray, List.set_cons_zero, List.set_cons_succ]
        refine anyT_take [] (i := 4) (v := .agg #[.slice va vl vc, .string b]) rfl (by kernel_rfl) (by kernel_rfl) (by kernel_rfl) (fun _ _ _ h => h) (by kernel_rfl) (Or.inl ⟨by rfl, fun w' _ => by go_simp⟩) ⟨M.out.c0, M.out.c1⟩ ?_
        try simp only [List.getElem_toArray, List.getElem_cons_succ, List.getElem_cons_zero, Act.put, List.setIfInBounds_toArray, List.set_cons_zero, List.set_cons_succ]
        refine anyT_one (i := 6) (by kernel_rfl) rfl (fun K hK => ?_)
        rw [if_pos (by rfl)]
        try simp only [List.getElem_toArray, List.getElem_cons_succ, List.getElem_cons_zero]
        (refine wp_store_row 35 (.tmp 6) (.tmp 39) rfl (q + 1) (trC (.slice va vl vc) b) rfl rfl 35 _ M.out.res (by kernel_rfl) (by rfl) (trC_one _ _ _ _) ?_; have h0 := cell_of_row; have HC0 := Lib.hid (show (w9.setRow (q + 1) (trC (.slice va vl vc) b)).cell? ⟨q, 0, none⟩ = some (.slice (some ⟨ab, ao, none⟩) n pc) ∧ (w9.setRow (q + 1) (trC (.slice va vl vc) b)).cell? ⟨q, 1, none⟩ = some (.string b) from ⟨cell_of_row _ _ _ _ _ _ ((setRow_other _ _ _ _ (by omega)).trans M.out.at_), cell_of_row _ _ _ _ _ _ ((setRow_other _ _ _ _ (by omega)).trans M.out.at_)⟩); clear h0)
        refine hK _ _ (fun _ => HC0.out) ?_
        clear hK K
        try simp only [List.getElem_toArray, List.getElem_cons_succ, List.getElem_cons_zero, Act.put, List.setIfInBounds_toArray, List.set_cons_zero, List.set_cons_succ]
        refine anyT_take [] (i := 7) (v := .bool true) rfl (by kernel_rfl) (by kernel_rfl) (by kernel_rfl) (fun _ _ _ h => h) (by kernel_rfl) (Or.inl ⟨by rfl, fun w' _ => by go_simp⟩) HC0.out ?_
        try simp only [List.getElem_toArray, List.getElem_cons_succ, List.getElem_cons_zero, Act.put, List.setIfInBounds_toArray, List.set_cons_zero, List.set_cons_succ]
        refine anyT_done (by kernel_rfl) ?_ _
        go_wp2_with (fail)
        refine bodyPost_ret (results_cell_tmp_row rfl _ _ (q + 1) 35 _ (0, 0) _ rfl (setRow_heap _ _ _ _ _ _ M.out.res) Tryd.underlying35 rfl (by kernel_rfl)) rfl ?_
        have hk := M.out.q0
        exact ⟨.slice va vl vc, rfl, by unfold fromP; rw [HCM.out]; exact HI.out.only (only_setRow14 _ _ _) (fun k hk => by have := (HO.out k hk).1; have := HQ.out; omega), below_setRow M.out.below (by omega) _⟩
      · rw [decide_eq_false he] at hxr hCM
        subst hCM
        clear he
        go_upto_region 6 with (fail)
        replace M := Lib.hid (M.out.call (Below.refl _ w2).drew)
        replace HP := Lib.hid (HP.out.below (Below.refl _ w2).drew)
        refine wp_region_T (fun W => W.cell? ⟨q, 0, none⟩ = some (.slice (some ⟨ab, ao, none⟩) n pc) ∧ W.cell? ⟨q, 1, none⟩ = some (.string b)) [0, 1, 2, 3, 4, 5, 6, 7] (by kernel_rfl) ?_
        generalize w2.drew = w8 at *
        refine anyT_take [] (i := 0) (v := .slice (some ⟨ab, ao, none⟩) n pc) rfl (by kernel_rfl) (by kernel_rfl) (by kernel_rfl) (fun _ _ _ h => h) (by kernel_rfl) (Or.inl ⟨by rfl, fun w' _ => by go_simp⟩) ⟨M.out.c0, M.out.c1⟩ ?_
        try simp only [List.getElem_toArray, List.getElem_cons_succ, List.getElem_cons_zero, Act.put, List.setIfInBounds_toArray, List.set_cons_zero, List.set_cons_succ]
        refine anyT_take [] (i := 2) (v := .pointer (some ⟨q, 1, none⟩)) rfl (by kernel_rfl) (by kernel_rfl) (by kernel_rfl) (fun _ _ _ h => h) (by kernel_rfl) (Or.inl ⟨by rfl, fun w' _ => by go_simp⟩) ⟨M.out.c0, M.out.c1⟩ ?_
        try simp only [List.getElem_toArray, List.getElem_cons_succ, List.getElem_cons_zero, Act.put, List.setIfInBounds_toArray, List.set_cons_zero, List.set_cons_succ]
        refine anyT_take [] (i := 5) (v := .bool false) rfl (by kernel_rfl) (by kernel_rfl) (by kernel_rfl) (fun _ _ _ h => h) (by kernel_rfl) (Or.inl ⟨by rfl, fun w' _ => by go_simp⟩) ⟨M.out.c0, M.out.c1⟩ ?_
        try simp only [List.getElem_toArray, List.getElem_cons_succ, List.getElem_cons_zero, Act.put, List.setIfInBounds_toArray, List.set_cons_zero, List.set_cons_succ]
        refine anyT_take [] (i := 3) (v := .string b) rfl (by kernel_rfl) (by kernel_rfl) (by kernel_rfl) (fun _ _ _ h => h) (by kernel_rfl) (Or.inl ⟨by rfl, fun w' hS => by have c := hS.2; go_simp⟩) ⟨M.out.c0, M.out.c1⟩ ?_
        try simp only [List.getElem_toArray, List.getElem_cons_succ, List.getElem_cons_zero, Act.put, List.setIfInBounds_toArray, List.set_cons_zero, List.set_cons_succ]
        refine anyT_one (i := 1) (by kernel_rfl) rfl (fun K hK => ?_)
        rw [if_pos (by rfl)]
        try simp only [List.getElem_toArray, List.getElem_cons_succ, List.getElem_cons_zero]
        (go_simp; (with_reducible refine (cclone_any (x :: t) (.slice (some ⟨ab, ao, none⟩) n pc) _ HP.out (HLN.out)).mono ?_); rintro e w9 ⟨v12, rfl, ho, hb⟩; obtain ⟨va, vl, vc, rfl⟩ : ∃ a n c, v12 = .slice a n c := own_sl14 ho; have HI := Lib.hid (ss_own ho (Nat.le_trans (HLN.out) (show (8796093022208 : Nat) ≤ maxLen from by simp [maxLen]))); have HO := Lib.hid (fun k (hk : (Value.slice va vl vc).ownBlock = some k) => ho.lt k hk); have HQ := Lib.hid (show q + 1 < w8.heap.size from hlt14 M.out.res); replace M := Lib.hid (M.out.call hb); clear ho hb)
        refine hK _ _ (fun _ => ⟨M.out.c0, M.out.c1⟩) ?_
        clear hK K
        try simp only [List.getElem_toArray, List.getElem_cons_succ, List.getElem_cons_zero, Act.put, List.setIfInBounds_toArray, List.set_cons_zero, List.set_cons_succ]
        refine anyT_take [] (i := 4) (v := .agg #[.slice va vl vc, .string b]) rfl (by kernel_rfl) (by kernel_rfl) (by kernel_rfl) (fun _ _ _ h => h) (by kernel_rfl) (Or.inl ⟨by rfl, fun w' _ => by go_simp⟩) ⟨M.out.c0, M.out.c1⟩ ?_
        try simp only [List.getElem_toArray, List.getElem_cons_succ, List.getElem_cons_zero, Act.put, List.setIfInBounds_toArray, List.set_cons_zero, List.set_cons_succ]
        refine anyT_one (i := 6) (by kernel_rfl) rfl (fun K hK => ?_)
        rw [if_pos (by rfl)]
        try simp only [List.getElem_toArray, List.getElem_cons_succ, List.getElem_cons_zero]
        (refine wp_store_row 35 (.tmp 6) (.tmp 39) rfl (q + 1) (trC (.slice va vl vc) b) rfl rfl 35 _ M.out.res (by kernel_rfl) (by rfl) (trC_one _ _ _ _) ?_; have h0 := cell_of_row; have HC0 := Lib.hid (show (w9.setRow (q + 1) (trC (.slice va vl vc) b)).cell? ⟨q, 0, none⟩ = some (.slice (some ⟨ab, ao, none⟩) n pc) ∧ (w9.setRow (q + 1) (trC (.slice va vl vc) b)).cell? ⟨q, 1, none⟩ = some (.string b) from ⟨cell_of_row _ _ _ _ _ _ ((setRow_other _ _ _ _ (by omega)).trans M.out.at_), cell_of_row _ _ _ _ _ _ ((setRow_other _ _ _ _ (by omega)).trans M.out.at_)⟩); clear h0)
        refine hK _ _ (fun _ => HC0.out) ?_
        clear hK K
        try simp only [List.getElem_toArray, List.getElem_cons_succ, List.getElem_cons_zero, Act.put, List.setIfInBounds_toArray, List.set_cons_zero, List.set_cons_succ]
        refine anyT_take [] (i := 7) (v := .bool false) rfl (by kernel_rfl) (by kernel_rfl) (by kernel_rfl) (fun _ _ _ h => h) (by kernel_rfl) (Or.inl ⟨by rfl, fun w' _ => by go_simp⟩) HC0.out ?_
        try simp only [List.getElem_toArray, List.getElem_cons_succ, List.getElem_cons_zero, Act.put, List.setIfInBounds_toArray, List.set_cons_zero, List.set_cons_succ]
        refine anyT_done (by kernel_rfl) ?_ _
        go_wp2_with (fail)
        refine bodyPost_ret (results_cell_tmp_row rfl _ _ (q + 1) 35 _ (0, 0) _ rfl (setRow_heap _ _ _ _ _ _ M.out.res) Tryd.underlying35 rfl (by kernel_rfl)) rfl ?_
        have hk := M.out.q0
        exact ⟨.slice va vl vc, rfl, by unfold fromP; rw [HCM.out]; exact HI.out.only (only_setRow14 _ _ _) (fun k hk => by have := (HO.out k hk).1; have := HQ.out; omega), below_setRow M.out.below (by omega) _⟩

end Go.Proofs.YteokgklfljhcaaaDoor
