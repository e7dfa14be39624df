/- Part 35 of the proof. -/
import Derived.Test.YtejglhlodfhgkaaGreatDoorXv30
import Derived.Test.YtejglhlodfhgkaaGreatDoorXv31
import Derived.Test.YtejglhlodfhgkaaGreatDoorXv32
import Derived.Test.YtejglhlodfhgkaaGreatDoorXv34
namespace Go.Proofs.YtejglhlodfhgkaaGreatDoor
set_option linter.unusedVariables false
set_option linter.unusedSimpArgs false
open Go.RowKit
set_option maxRecDepth 100000
theorem rsteps_any (i n : Nat) (w : World) (hi : i < n) (hn : n ≤ 9223372036854775807) : Calls Tryz.prog 211 #[.int .i64 (i : Int), .int .i64 (n : Int)] w fun e w' => e = .returned (.int .i64 ((turnsF i n).length : Int)) ∧ w = w' := by
  have H63 := Lib.hid (turns_len n i hn hi)
  have HI := Lib.hid hi
  clear hi
  go_enter Tryz.func211, Tryz.ntmps211
  go_wp2_with (fail)
  go_loop [0, 1, 5] (fun a b s => ∃ j m c : Nat, a = .int .i64 (j : Int) ∧ b = .int .i64 (m : Int) ∧ s = .int .i64 (c : Int) ∧ j < m ∧ m ≤ n ∧ Hid (c + (turnsF j m).length = (turnsF i n).length)) (fun _ b _ => (intOf b).toNat)
  case atStart => exact ⟨i, n, 0, rfl, rfl, rfl, HI.out, Nat.le_refl _, Lib.hid (by omega)⟩
  case round =>
    obtain ⟨j, m, c, rfl, rfl, rfl, hjm, hmn, hc⟩ := hrel
    by_cases h1 : m = 1
    · subst h1
      have hcc : c = (turnsF i n).length := by have := hc.out; rw [turnsF_one] at this; simpa using this
      replace hcc := Lib.hid hcc
      clear hc
      go_wp2_with (fail)
      go_ret
      exact ⟨by rw [← hcc.out]; rfl, rfl⟩
    · have hm1 : (1 : Int) < (m : Int) := by omega
      obtain ⟨k, hk⟩ : ∃ k, k = splitF m := ⟨_, rfl⟩
      have sp := splitF_spec m (by omega) (by omega)
      rw [← hk] at sp
      have hkm := sp.2.1
      have hk1 := sp.1
      have HS := Lib.hid (show ∀ w : World, Calls Tryz.prog 146 #[.int .i64 (m : Int)] w fun e w' => e = .returned (.int .i64 (k : Int)) ∧ w = w' from fun w => by rw [hk]; exact rsplit_any m w (by omega) (by omega))
      have HK := Lib.hid hk
      clear hk sp
      have HC63 := Lib.hid (show c ≤ 63 by have := hc.out; have := H63.out; omega)
      have hc63 : (c : Int) ≤ 63 := by have := HC63.out; omega
      by_cases hjk : (j : Int) < (k : Int)
      · go_wp2_with (go_at_call 146; (with_reducible refine (HS.out _).mono ?_); rintro e w' ⟨rfl, rfl⟩)
        go_round
        case rel =>
          refine ⟨j, k, c + 1, rfl, rfl, by go_num, by omega, by omega, Lib.hid ?_⟩
          have := hc.out
          rw [turnsF_lo j m ⟨by rw [← HK.out]; omega, by rw [← HK.out]; omega⟩ (by rw [← HK.out]; omega), List.length_cons, ← HK.out] at this
          omega
        case measure => simp [intOf]; omega
      · go_wp2_with (go_at_call 146; (with_reducible refine (HS.out _).mono ?_); rintro e w' ⟨rfl, rfl⟩)
        go_round
        case rel =>
          refine ⟨j - k, m - k, c + 1, by go_num, by go_num, by go_num, by omega, by omega, Lib.hid ?_⟩
          have := hc.out
          rw [turnsF_hi j m ⟨by rw [← HK.out]; omega, by rw [← HK.out]; omega⟩ (by rw [← HK.out]; omega), List.length_cons, ← HK.out] at this
          omega
        case measure => simp [intOf]; omega
def RowPost (f : Nat → Int) (w : World) (e : Ending) (w' : World) : Prop := e = .returned (.agg (rowOf .u8 32 f)) ∧ Below w.heap.size w w'
/-- a leaf and a result's zeros -/
theorem two_rows (w : World) (s0 : Nat → Int) : Below w.heap.size w ((w.alloc (.cells (rowOf .u8 32 s0) 53)).alloc (.cells (rowOf .u8 32 (fun _ => 0)) 53)) ∧ RowAt ((w.alloc (.cells (rowOf .u8 32 s0) 53)).alloc (.cells (rowOf .u8 32 (fun _ => 0)) 53)) w.heap.size .u8 32 53 s0 ∧ RowAt ((w.alloc (.cells (rowOf .u8 32 s0) 53)).alloc (.cells (rowOf .u8 32 (fun _ => 0)) 53)) (w.heap.size + 1) .u8 32 53 (fun _ => 0) := by
  refine ⟨(below_alloc w _).trans ((below_alloc _ _).mono (by simp)), (RowAt.new w _ _ _ _).alloc _, ?_⟩
  have := RowAt.new (w.alloc (.cells (rowOf .u8 32 s0) 53)) .u8 32 53 (fun _ => 0)
  rw [shSize_alloc] at this; exact this
theorem rfold_one (s0 : Nat → Int) (i : Int) (v : Value) (w : World) : Calls Tryz.prog 212 #[.agg (rowOf .u8 32 s0), .int .i64 i, .int .i64 1, v] w (RowPost s0 w) := by
  obtain ⟨hb, h0, h1⟩ := two_rows w s0
  have HB := Lib.hid hb
  have H0 := Lib.hid h0
  have H1 := Lib.hid h1
  clear hb h0 h1
  go_enter Tryz.func212, Tryz.ntmps212
  go_upto_region 1 with (fail)
  rw [zeros32]
  generalize (w.alloc (.cells (rowOf .u8 32 s0) 53)).alloc (.cells (rowOf .u8 32 (fun _ => 0)) 53) = w1 at *
  go_wp2_with (first
    | (refine wpList_load_row rfl 53 (.tmp 4) rfl w.heap.size rfl 53 _ (0, 0) _ H0.out Tryz.underlying53 rfl (by rw [rowOf_size]; kernel_rfl) ?_)
    | (refine wpList_store_row rfl 53 (.tmp 8) (.tmp 13) rfl (w.heap.size + 1) _ rfl rfl 53 _ H1.out (by rw [rowOf_size]; kernel_rfl) (by rw [rowOf_size, rowOf_size]) (rowOf_one _ _ _) ?_))
  refine bodyPost_ret (results_cell_row rfl _ _ (w.heap.size + 1) 53 _ (0, 0) _ rfl (setRow_heap _ _ _ _ _ _ H1.out) Tryz.underlying53 rfl (by rw [rowOf_size]; kernel_rfl)) rfl ?_
  exact ⟨rfl, below_setRow HB.out (by omega) _⟩
set_option maxHeartbeats 2000000 in
theorem rfold_lo (s0 r1 p : Nat → Int) (i n k q : Nat) (ps : List (Nat → Int)) (v : Value) (w : World) (hp : HashesIn w v (ps ++ [p])) (hq : ps.length = q) (hk : k = splitF n) (hn : 2 ≤ n) (hn2 : n ≤ 9223372036854775807) (hik : i < k)
    (ih : ∀ (v : Value) (w : World), HashesIn w v ps → Calls Tryz.prog 212 #[.agg (rowOf .u8 32 s0), .int .i64 (i : Int), .int .i64 (k : Int), v] w (RowPost r1 w)) :
    Calls Tryz.prog 212 #[.agg (rowOf .u8 32 s0), .int .i64 (i : Int), .int .i64 (n : Int), v] w (RowPost (nodeF r1 p) w) := by
  have HP := Lib.hid hp
  obtain ⟨a, cap, rfl, hc, hm, hx⟩ := hp
  obtain ⟨ab, ao, rfl, hlt, hx⟩ := hx.resolve_left (by simp)
  obtain ⟨L, hL⟩ : ∃ L, L = (ps ++ [p]).length := ⟨_, rfl⟩
  have hLq : L = q + 1 := by rw [hL]; simp [hq]
  have hr := hx q (by rw [← hL]; omega)
  have hg : (ps ++ [p]).getD q zeroH = p := by rw [← hq]; simp [List.getD]
  rw [hg] at hr
  rw [← hL] at HP hc ⊢
  unfold maxLen at hm
  have hsl := slice43hi (some ⟨ab, ao, none⟩) L cap q (by omega)
  have HT := Lib.hid (show HashesIn w (.slice (cutH (some ⟨ab, ao, none⟩) cap 0) q cap) ps by
    have h := HP.out.take q (by omega)
    rw [← hq, List.take_left] at h
    rw [← hq]; exact h)
  have hLI : ((L : Int) - 1) = (q : Int) := by omega
  have hqL : (q : Int) < (L : Int) := by omega
  have HS := Lib.hid (show ∀ w : World, Calls Tryz.prog 146 #[.int .i64 (n : Int)] w fun e w' => e = .returned (.int .i64 (k : Int)) ∧ w = w' from fun w => by rw [hk]; exact rsplit_any n w hn hn2)
  have hn1 : ((n : Int) == 1) = false := by rw [beq_eq_false_iff_ne]; omega
  have hikI : (i : Int) < (k : Int) := by omega
  obtain ⟨hb, h0, h1⟩ := two_rows w s0
  have HB := Lib.hid hb
  have HR := Lib.hid h1
  have M := Lib.hid (show RowAt ((w.alloc (.cells (rowOf .u8 32 s0) 53)).alloc (.cells (rowOf .u8 32 (fun _ => 0)) 53)) w.heap.size .u8 32 53 s0 ∧ World.rangeAt ((w.alloc (.cells (rowOf .u8 32 s0) 53)).alloc (.cells (rowOf .u8 32 (fun _ => 0)) 53)) ab (ao + q * 32) (rowOf .u8 32 p).toList from ⟨h0, rangeAt_below hr hb hlt⟩)
  have HAB := Lib.hid hlt
  replace hL := Lib.hid hL
  replace hLq := Lib.hid hLq
  replace hq := Lib.hid hq
  clear hb h0 h1 hx hr hg hk hlt
  go_enter Tryz.func212, Tryz.ntmps212
  go_upto_region 1 with (fail)
  rw [zeros32]
  generalize (w.alloc (.cells (rowOf .u8 32 s0) 53)).alloc (.cells (rowOf .u8 32 (fun _ => 0)) 53) = w1 at *
  go_upto_region 5 with (go_at_call 146; (with_reducible refine (HS.out _).mono ?_); rintro e w' ⟨rfl, rfl⟩)
  refine wp_region_T (fun w' => RowAt w' w.heap.size .u8 32 53 s0 ∧ w'.rangeAt ab (ao + q * 32) (rowOf .u8 32 p).toList) [0, 6, 10, 11] (by kernel_rfl) ?_
  replace M := Lib.hid (show RowAt w1.drew w.heap.size .u8 32 53 s0 ∧ World.rangeAt w1.drew ab (ao + q * 32) (rowOf .u8 32 p).toList from M.out)
  replace HR := Lib.hid (show RowAt w1.drew (w.heap.size + 1) .u8 32 53 (fun _ => 0) from HR.out)
  replace HB := Lib.hid (HB.out.drew)
  generalize w1.drew = w2 at *
  refine anyT_takeY (i := 1) (v := .int .i64 (i : Int)) rfl (by kernel_rfl) (by kernel_rfl) (by kernel_rfl) (fun _ _ _ h => h) (by kernel_rfl) (Or.inl ⟨by rfl, by intro w; go_simp⟩) ?_
  try simp only [List.getElem_toArray, List.getElem_cons_succ, List.getElem_cons_zero, Act.put, List.setIfInBounds_toArray, List.set_cons_zero, List.set_cons_succ]
  refine anyT_takeY (i := 2) (v := .int .i64 (k : Int)) rfl (by kernel_rfl) (by kernel_rfl) (by kernel_rfl) (fun _ _ _ h => h) (by kernel_rfl) (Or.inl ⟨by rfl, by intro w; go_simp⟩) ?_
  try simp only [List.getElem_toArray, List.getElem_cons_succ, List.getElem_cons_zero, Act.put, List.setIfInBounds_toArray, List.set_cons_zero, List.set_cons_succ]
  refine anyT_takeY (i := 3) (v := .slice (some ⟨ab, ao, none⟩) L cap) rfl (by kernel_rfl) (by kernel_rfl) (by kernel_rfl) (fun _ _ _ h => h) (by kernel_rfl) (Or.inl ⟨by rfl, by intro w; go_simp⟩) ?_
  try simp only [List.getElem_toArray, List.getElem_cons_succ, List.getElem_cons_zero, Act.put, List.setIfInBounds_toArray, List.set_cons_zero, List.set_cons_succ]
  refine anyT_takeY (i := 4) (v := .int .i64 (q : Int)) rfl (by kernel_rfl) (by kernel_rfl) (by kernel_rfl) (fun _ _ _ h => h) (by kernel_rfl) (Or.inl ⟨by rfl, by intro w; go_simp⟩) ?_
  try simp only [List.getElem_toArray, List.getElem_cons_succ, List.getElem_cons_zero, Act.put, List.setIfInBounds_toArray, List.set_cons_zero, List.set_cons_succ]
  refine anyT_takeY (i := 5) (v := .slice (cutH (some ⟨ab, ao, none⟩) cap 0) q cap) rfl (by kernel_rfl) (by kernel_rfl) (by kernel_rfl) (fun _ _ _ h => h) (by kernel_rfl) (Or.inl ⟨by rfl, by intro w; go_simp⟩) ?_
  try simp only [List.getElem_toArray, List.getElem_cons_succ, List.getElem_cons_zero, Act.put, List.setIfInBounds_toArray, List.set_cons_zero, List.set_cons_succ]
  refine anyT_takeY (i := 7) (v := .slice (some ⟨ab, ao, none⟩) L cap) rfl (by kernel_rfl) (by kernel_rfl) (by kernel_rfl) (fun _ _ _ h => h) (by kernel_rfl) (Or.inl ⟨by rfl, by intro w; go_simp⟩) ?_
  try simp only [List.getElem_toArray, List.getElem_cons_succ, List.getElem_cons_zero, Act.put, List.setIfInBounds_toArray, List.set_cons_zero, List.set_cons_succ]
  refine anyT_takeY (i := 8) (v := .int .i64 (q : Int)) rfl (by kernel_rfl) (by kernel_rfl) (by kernel_rfl) (fun _ _ _ h => h) (by kernel_rfl) (Or.inl ⟨by rfl, by intro w; go_simp⟩) ?_
  try simp only [List.getElem_toArray, List.getElem_cons_succ, List.getElem_cons_zero, Act.put, List.setIfInBounds_toArray, List.set_cons_zero, List.set_cons_succ]
  refine anyT_takeY (i := 9) (v := .pointer (some ⟨ab, ao + q * 32, none⟩)) rfl (by kernel_rfl) (by kernel_rfl) (by kernel_rfl) (fun _ _ _ h => h) (by kernel_rfl) (Or.inl ⟨by rfl, by intro w; go_simp⟩) ?_
  try simp only [List.getElem_toArray, List.getElem_cons_succ, List.getElem_cons_zero, Act.put, List.setIfInBounds_toArray, List.set_cons_zero, List.set_cons_succ]
  refine anyT_take [6, 11, 12] (i := 0) (v := .agg (rowOf .u8 32 s0)) rfl (by kernel_rfl) (by kernel_rfl) (by kernel_rfl) (fun _ _ _ h => h) (by kernel_rfl) (row_yields (by rfl) 53 (.tmp 4) rfl w.heap.size rfl .u8 32 s0 _ (fun _ h => h.1) Tryz.underlying53 rfl (by kernel_rfl)) M.out ?_
  try simp only [List.getElem_toArray, List.getElem_cons_succ, List.getElem_cons_zero, Act.put, List.setIfInBounds_toArray, List.set_cons_zero, List.set_cons_succ]
  refine anyT_take [11, 12] (i := 10) (v := .agg (rowOf .u8 32 p)) rfl (by kernel_rfl) (by kernel_rfl) (by kernel_rfl) (fun _ _ _ h => h) (by kernel_rfl) (row_yields_mid (by rfl) 53 (.tmp 31) rfl ab (ao + q * 32) rfl .u8 32 p _ (fun _ h => h.2) Tryz.underlying53 rfl (by kernel_rfl)) M.out ?_
  try simp only [List.getElem_toArray, List.getElem_cons_succ, List.getElem_cons_zero, Act.put, List.setIfInBounds_toArray, List.set_cons_zero, List.set_cons_succ]
  refine anyT_one (i := 6) (by kernel_rfl) rfl (fun K hK => ?_)
  rw [if_pos (by rfl)]
  try simp only [List.getElem_toArray, List.getElem_cons_succ, List.getElem_cons_zero]
  (go_simp; refine (ih _ _ (HT.out.below HB.out)).mono ?_; rintro e w3 ⟨rfl, hb⟩; replace M := Lib.hid (show RowAt w3 w.heap.size .u8 32 53 s0 ∧ World.rangeAt w3 ab (ao + q * 32) (rowOf .u8 32 p).toList from ⟨M.out.1.below hb M.out.1.lt, rangeAt_below M.out.2 hb (Nat.lt_of_lt_of_le HAB.out HB.out.size)⟩); replace HR := Lib.hid (HR.out.below hb HR.out.lt); replace HB := Lib.hid (HB.out.trans (hb.mono HB.out.size)); clear hb)
  refine hK _ _ (fun _ => M.out) ?_
  clear hK K
  try simp only [List.getElem_toArray, List.getElem_cons_succ, List.getElem_cons_zero, Act.put, List.setIfInBounds_toArray, List.set_cons_zero, List.set_cons_succ]
  refine anyT_one (i := 11) (by kernel_rfl) rfl (fun K hK => ?_)
  rw [if_pos (by rfl)]
  try simp only [List.getElem_toArray, List.getElem_cons_succ, List.getElem_cons_zero]
  (go_simp; refine (rnode_any r1 p _).mono ?_; rintro e w4 ⟨rfl, hb⟩; replace M := Lib.hid (show RowAt w4 w.heap.size .u8 32 53 s0 ∧ World.rangeAt w4 ab (ao + q * 32) (rowOf .u8 32 p).toList from ⟨M.out.1.below hb M.out.1.lt, rangeAt_below M.out.2 hb (Nat.lt_of_lt_of_le HAB.out HB.out.size)⟩); replace HR := Lib.hid (HR.out.below hb HR.out.lt); replace HB := Lib.hid (HB.out.trans (hb.mono HB.out.size)); clear hb)
  refine hK _ _ (fun _ => M.out) ?_
  clear hK K
  try simp only [List.getElem_toArray, List.getElem_cons_succ, List.getElem_cons_zero, Act.put, List.setIfInBounds_toArray, List.set_cons_zero, List.set_cons_succ]
  refine anyT_one (i := 12) (by kernel_rfl) rfl (fun K hK => ?_)
  rw [if_pos (by rfl)]
  try simp only [List.getElem_toArray, List.getElem_cons_succ, List.getElem_cons_zero]
  (refine wp_store_row 53 (.tmp 8) (.tmp 33) rfl (w.heap.size + 1) _ rfl rfl 53 _ HR.out (by rw [rowOf_size]; kernel_rfl) (by rw [rowOf_size, rowOf_size]) (rowOf_one _ _ _) ?_)
  refine hK _ _ (not_mem rfl) ?_
  clear hK K
  try simp only [List.getElem_toArray, List.getElem_cons_succ, List.getElem_cons_zero, Act.put, List.setIfInBounds_toArray, List.set_cons_zero, List.set_cons_succ]
  refine anyT_done (by kernel_rfl) ?_ _
  go_wp2_with (fail)
  refine bodyPost_ret (results_cell_row rfl _ _ (w.heap.size + 1) 53 _ (0, 0) _ rfl (setRow_heap _ _ _ _ _ _ HR.out) Tryz.underlying53 rfl (by rw [rowOf_size]; kernel_rfl)) rfl ?_
  exact ⟨rfl, below_setRow HB.out (by omega) _⟩
set_option maxHeartbeats 2000000 in
theorem rfold_hi (s0 r1 p : Nat → Int) (i n k q : Nat) (ps : List (Nat → Int)) (v : Value) (w : World) (hp : HashesIn w v (ps ++ [p])) (hq : ps.length = q) (hk : k = splitF n) (hn : 2 ≤ n) (hn2 : n ≤ 9223372036854775807) (hin : i < n) (hik : ¬ i < k)
    (ih : ∀ (v : Value) (w : World), HashesIn w v ps → Calls Tryz.prog 212 #[.agg (rowOf .u8 32 s0), .int .i64 ((i - k : Nat) : Int), .int .i64 ((n - k : Nat) : Int), v] w (RowPost r1 w)) :
    Calls Tryz.prog 212 #[.agg (rowOf .u8 32 s0), .int .i64 (i : Int), .int .i64 (n : Int), v] w (RowPost (nodeF p r1) w) := by
  have HP := Lib.hid hp
  obtain ⟨a, cap, rfl, hc, hm, hx⟩ := hp
  obtain ⟨ab, ao, rfl, hlt, hx⟩ := hx.resolve_left (by simp)
  obtain ⟨L, hL⟩ : ∃ L, L = (ps ++ [p]).length := ⟨_, rfl⟩
  have hLq : L = q + 1 := by rw [hL]; simp [hq]
  have hr := hx q (by rw [← hL]; omega)
  have hg : (ps ++ [p]).getD q zeroH = p := by rw [← hq]; simp [List.getD]
  rw [hg] at hr
  rw [← hL] at HP hc ⊢
  unfold maxLen at hm
  have hsl := slice43hi (some ⟨ab, ao, none⟩) L cap q (by omega)
  have HT := Lib.hid (show HashesIn w (.slice (cutH (some ⟨ab, ao, none⟩) cap 0) q cap) ps by
    have h := HP.out.take q (by omega)
    rw [← hq, List.take_left] at h
    rw [← hq]; exact h)
  have hLI : ((L : Int) - 1) = (q : Int) := by omega
  have hqL : (q : Int) < (L : Int) := by omega
  have HS := Lib.hid (show ∀ w : World, Calls Tryz.prog 146 #[.int .i64 (n : Int)] w fun e w' => e = .returned (.int .i64 (k : Int)) ∧ w = w' from fun w => by rw [hk]; exact rsplit_any n w hn hn2)
  have hn1 : ((n : Int) == 1) = false := by rw [beq_eq_false_iff_ne]; omega
  have hikI : ¬ (i : Int) < (k : Int) := by omega
  have hkn : k < n := by
    have := splitF_spec n hn (by omega)
    omega
  have HW1 := Lib.hid (IntWalk.i64_in ((i - k : Nat) : Int) (by omega))
  have HW2 := Lib.hid (IntWalk.i64_in ((n - k : Nat) : Int) (by omega))
  have hs1 : ((i : Int) - (k : Int)) = ((i - k : Nat) : Int) := by omega
  have hs2 : ((n : Int) - (k : Int)) = ((n - k : Nat) : Int) := by omega
  obtain ⟨hb, h0, h1⟩ := two_rows w s0
  have HB := Lib.hid hb
  have HR := Lib.hid h1
  have M := Lib.hid (show RowAt ((w.alloc (.cells (rowOf .u8 32 s0) 53)).alloc (.cells (rowOf .u8 32 (fun _ => 0)) 53)) w.heap.size .u8 32 53 s0 ∧ World.rangeAt ((w.alloc (.cells (rowOf .u8 32 s0) 53)).alloc (.cells (rowOf .u8 32 (fun _ => 0)) 53)) ab (ao + q * 32) (rowOf .u8 32 p).toList from ⟨h0, rangeAt_below hr hb hlt⟩)
  have HAB := Lib.hid hlt
  replace hL := Lib.hid hL
  replace hLq := Lib.hid hLq
  replace hq := Lib.hid hq
  clear hb h0 h1 hx hr hg hk hlt hin hik hkn
  go_enter Tryz.func212, Tryz.ntmps212
  go_upto_region 1 with (fail)
  rw [zeros32]
  generalize (w.alloc (.cells (rowOf .u8 32 s0) 53)).alloc (.cells (rowOf .u8 32 (fun _ => 0)) 53) = w1 at *
  go_upto_region 6 with (go_at_call 146; (with_reducible refine (HS.out _).mono ?_); rintro e w' ⟨rfl, rfl⟩)
  refine wp_region_T (fun w' => RowAt w' w.heap.size .u8 32 53 s0 ∧ w'.rangeAt ab (ao + q * 32) (rowOf .u8 32 p).toList) [3, 4, 14, 15] (by kernel_rfl) ?_
  replace M := Lib.hid (show RowAt w1.drew w.heap.size .u8 32 53 s0 ∧ World.rangeAt w1.drew ab (ao + q * 32) (rowOf .u8 32 p).toList from M.out)
  replace HR := Lib.hid (show RowAt w1.drew (w.heap.size + 1) .u8 32 53 (fun _ => 0) from HR.out)
  replace HB := Lib.hid (HB.out.drew)
  generalize w1.drew = w2 at *
  refine anyT_takeY (i := 0) (v := .slice (some ⟨ab, ao, none⟩) L cap) rfl (by kernel_rfl) (by kernel_rfl) (by kernel_rfl) (fun _ _ _ h => h) (by kernel_rfl) (Or.inl ⟨by rfl, by intro w; go_simp⟩) ?_
  try simp only [List.getElem_toArray, List.getElem_cons_succ, List.getElem_cons_zero, Act.put, List.setIfInBounds_toArray, List.set_cons_zero, List.set_cons_succ]
  refine anyT_takeY (i := 1) (v := .int .i64 (q : Int)) rfl (by kernel_rfl) (by kernel_rfl) (by kernel_rfl) (fun _ _ _ h => h) (by kernel_rfl) (Or.inl ⟨by rfl, by intro w; go_simp⟩) ?_
  try simp only [List.getElem_toArray, List.getElem_cons_succ, List.getElem_cons_zero, Act.put, List.setIfInBounds_toArray, List.set_cons_zero, List.set_cons_succ]
  refine anyT_takeY (i := 2) (v := .pointer (some ⟨ab, ao + q * 32, none⟩)) rfl (by kernel_rfl) (by kernel_rfl) (by kernel_rfl) (fun _ _ _ h => h) (by kernel_rfl) (Or.inl ⟨by rfl, by intro w; go_simp⟩) ?_
  try simp only [List.getElem_toArray, List.getElem_cons_succ, List.getElem_cons_zero, Act.put, List.setIfInBounds_toArray, List.set_cons_zero, List.set_cons_succ]
  refine anyT_takeY (i := 5) (v := .int .i64 (i : Int)) rfl (by kernel_rfl) (by kernel_rfl) (by kernel_rfl) (fun _ _ _ h => h) (by kernel_rfl) (Or.inl ⟨by rfl, by intro w; go_simp⟩) ?_
  try simp only [List.getElem_toArray, List.getElem_cons_succ, List.getElem_cons_zero, Act.put, List.setIfInBounds_toArray, List.set_cons_zero, List.set_cons_succ]
  refine anyT_takeY (i := 6) (v := .int .i64 (k : Int)) rfl (by kernel_rfl) (by kernel_rfl) (by kernel_rfl) (fun _ _ _ h => h) (by kernel_rfl) (Or.inl ⟨by rfl, by intro w; go_simp⟩) ?_
  try simp only [List.getElem_toArray, List.getElem_cons_succ, List.getElem_cons_zero, Act.put, List.setIfInBounds_toArray, List.set_cons_zero, List.set_cons_succ]
  refine anyT_takeY (i := 7) (v := .int .i64 ((i - k : Nat) : Int)) rfl (by kernel_rfl) (by kernel_rfl) (by kernel_rfl) (fun _ _ _ h => h) (by kernel_rfl) (Or.inl ⟨by rfl, by intro w; go_simp; exact HW1.out⟩) ?_
  try simp only [List.getElem_toArray, List.getElem_cons_succ, List.getElem_cons_zero, Act.put, List.setIfInBounds_toArray, List.set_cons_zero, List.set_cons_succ]
  refine anyT_takeY (i := 8) (v := .int .i64 (n : Int)) rfl (by kernel_rfl) (by kernel_rfl) (by kernel_rfl) (fun _ _ _ h => h) (by kernel_rfl) (Or.inl ⟨by rfl, by intro w; go_simp⟩) ?_
  try simp only [List.getElem_toArray, List.getElem_cons_succ, List.getElem_cons_zero, Act.put, List.setIfInBounds_toArray, List.set_cons_zero, List.set_cons_succ]
  refine anyT_takeY (i := 9) (v := .int .i64 (k : Int)) rfl (by kernel_rfl) (by kernel_rfl) (by kernel_rfl) (fun _ _ _ h => h) (by kernel_rfl) (Or.inl ⟨by rfl, by intro w; go_simp⟩) ?_
  try simp only [List.getElem_toArray, List.getElem_cons_succ, List.getElem_cons_zero, Act.put, List.setIfInBounds_toArray, List.set_cons_zero, List.set_cons_succ]
  refine anyT_takeY (i := 10) (v := .int .i64 ((n - k : Nat) : Int)) rfl (by kernel_rfl) (by kernel_rfl) (by kernel_rfl) (fun _ _ _ h => h) (by kernel_rfl) (Or.inl ⟨by rfl, by intro w; go_simp; exact HW2.out⟩) ?_
  try simp only [List.getElem_toArray, List.getElem_cons_succ, List.getElem_cons_zero, Act.put, List.setIfInBounds_toArray, List.set_cons_zero, List.set_cons_succ]
  refine anyT_takeY (i := 11) (v := .slice (some ⟨ab, ao, none⟩) L cap) rfl (by kernel_rfl) (by kernel_rfl) (by kernel_rfl) (fun _ _ _ h => h) (by kernel_rfl) (Or.inl ⟨by rfl, by intro w; go_simp⟩) ?_
  try simp only [List.getElem_toArray, List.getElem_cons_succ, List.getElem_cons_zero, Act.put, List.setIfInBounds_toArray, List.set_cons_zero, List.set_cons_succ]
  refine anyT_takeY (i := 12) (v := .int .i64 (q : Int)) rfl (by kernel_rfl) (by kernel_rfl) (by kernel_rfl) (fun _ _ _ h => h) (by kernel_rfl) (Or.inl ⟨by rfl, by intro w; go_simp⟩) ?_
  try simp only [List.getElem_toArray, List.getElem_cons_succ, List.getElem_cons_zero, Act.put, List.setIfInBounds_toArray, List.set_cons_zero, List.set_cons_succ]
  refine anyT_takeY (i := 13) (v := .slice (cutH (some ⟨ab, ao, none⟩) cap 0) q cap) rfl (by kernel_rfl) (by kernel_rfl) (by kernel_rfl) (fun _ _ _ h => h) (by kernel_rfl) (Or.inl ⟨by rfl, by intro w; go_simp⟩) ?_
  try simp only [List.getElem_toArray, List.getElem_cons_succ, List.getElem_cons_zero, Act.put, List.setIfInBounds_toArray, List.set_cons_zero, List.set_cons_succ]
  refine anyT_take [15, 16] (i := 3) (v := .agg (rowOf .u8 32 p)) rfl (by kernel_rfl) (by kernel_rfl) (by kernel_rfl) (fun _ _ _ h => h) (by kernel_rfl) (row_yields_mid (by rfl) 53 (.tmp 36) rfl ab (ao + q * 32) rfl .u8 32 p _ (fun _ h => h.2) Tryz.underlying53 rfl (by kernel_rfl)) M.out ?_
  try simp only [List.getElem_toArray, List.getElem_cons_succ, List.getElem_cons_zero, Act.put, List.setIfInBounds_toArray, List.set_cons_zero, List.set_cons_succ]
  refine anyT_take [14, 15, 16] (i := 4) (v := .agg (rowOf .u8 32 s0)) rfl (by kernel_rfl) (by kernel_rfl) (by kernel_rfl) (fun _ _ _ h => h) (by kernel_rfl) (row_yields (by rfl) 53 (.tmp 4) rfl w.heap.size rfl .u8 32 s0 _ (fun _ h => h.1) Tryz.underlying53 rfl (by kernel_rfl)) M.out ?_
  try simp only [List.getElem_toArray, List.getElem_cons_succ, List.getElem_cons_zero, Act.put, List.setIfInBounds_toArray, List.set_cons_zero, List.set_cons_succ]
  refine anyT_one (i := 14) (by kernel_rfl) rfl (fun K hK => ?_)
  rw [if_pos (by rfl)]
  try simp only [List.getElem_toArray, List.getElem_cons_succ, List.getElem_cons_zero]
  (go_simp; refine (ih _ _ (HT.out.below HB.out)).mono ?_; rintro e w3 ⟨rfl, hb⟩; replace M := Lib.hid (show RowAt w3 w.heap.size .u8 32 53 s0 ∧ World.rangeAt w3 ab (ao + q * 32) (rowOf .u8 32 p).toList from ⟨M.out.1.below hb M.out.1.lt, rangeAt_below M.out.2 hb (Nat.lt_of_lt_of_le HAB.out HB.out.size)⟩); replace HR := Lib.hid (HR.out.below hb HR.out.lt); replace HB := Lib.hid (HB.out.trans (hb.mono HB.out.size)); clear hb)
  refine hK _ _ (fun _ => M.out) ?_
  clear hK K
  try simp only [List.getElem_toArray, List.getElem_cons_succ, List.getElem_cons_zero, Act.put, List.setIfInBounds_toArray, List.set_cons_zero, List.set_cons_succ]
  refine anyT_one (i := 15) (by kernel_rfl) rfl (fun K hK => ?_)
  rw [if_pos (by rfl)]
  try simp only [List.getElem_toArray, List.getElem_cons_succ, List.getElem_cons_zero]
  (go_simp; refine (rnode_any p r1 _).mono ?_; rintro e w4 ⟨rfl, hb⟩; replace M := Lib.hid (show RowAt w4 w.heap.size .u8 32 53 s0 ∧ World.rangeAt w4 ab (ao + q * 32) (rowOf .u8 32 p).toList from ⟨M.out.1.below hb M.out.1.lt, rangeAt_below M.out.2 hb (Nat.lt_of_lt_of_le HAB.out HB.out.size)⟩); replace HR := Lib.hid (HR.out.below hb HR.out.lt); replace HB := Lib.hid (HB.out.trans (hb.mono HB.out.size)); clear hb)
  refine hK _ _ (fun _ => M.out) ?_
  clear hK K
  try simp only [List.getElem_toArray, List.getElem_cons_succ, List.getElem_cons_zero, Act.put, List.setIfInBounds_toArray, List.set_cons_zero, List.set_cons_succ]
  refine anyT_one (i := 16) (by kernel_rfl) rfl (fun K hK => ?_)
  rw [if_pos (by rfl)]
  try simp only [List.getElem_toArray, List.getElem_cons_succ, List.getElem_cons_zero]
  (refine wp_store_row 53 (.tmp 8) (.tmp 49) rfl (w.heap.size + 1) _ rfl rfl 53 _ HR.out (by rw [rowOf_size]; kernel_rfl) (by rw [rowOf_size, rowOf_size]) (rowOf_one _ _ _) ?_)
  refine hK _ _ (not_mem rfl) ?_
  clear hK K
  try simp only [List.getElem_toArray, List.getElem_cons_succ, List.getElem_cons_zero, Act.put, List.setIfInBounds_toArray, List.set_cons_zero, List.set_cons_succ]
  refine anyT_done (by kernel_rfl) ?_ _
  go_wp2_with (fail)
  refine bodyPost_ret (results_cell_row rfl _ _ (w.heap.size + 1) 53 _ (0, 0) _ rfl (setRow_heap _ _ _ _ _ _ HR.out) Tryz.underlying53 rfl (by rw [rowOf_size]; kernel_rfl)) rfl ?_
  exact ⟨rfl, below_setRow HB.out (by omega) _⟩
theorem snoc_of {α : Type} {l : List α} {n : Nat} (h : l.length = n + 1) : ∃ a b, l = a ++ [b] ∧ a.length = n := by
  have hne : l ≠ [] := by intro e; rw [e] at h; cases h
  exact ⟨l.dropLast, l.getLast hne, (List.dropLast_concat_getLast hne).symm, by rw [List.length_dropLast, h]; rfl⟩
theorem rfold_ok : ∀ (n : Nat) (s0 : Nat → Int) (i : Nat) (ps : List (Nat → Int)), n ≤ 9223372036854775807 → i < n → ps.length = (turnsF i n).length → ∀ (v : Value) (w : World), HashesIn w v ps →
    Calls Tryz.prog 212 #[.agg (rowOf .u8 32 s0), .int .i64 (i : Int), .int .i64 (n : Int), v] w (RowPost (foldT s0 ((turnsF i n).reverse.zip ps)) w) := by
  intro n
  induction n using Nat.strongRecOn with
  | _ n ih =>
    intro s0 i ps hn hi hl v w hx
    by_cases h1 : n = 1
    · subst h1
      rw [turnsF_one]
      exact rfold_one s0 _ v w
    · have sp := splitF_spec n (by omega) (by omega)
      by_cases hik : i < splitF n
      · rw [turnsF_lo i n ⟨sp.1, sp.2.1⟩ hik, List.length_cons] at hl
        obtain ⟨a, b, rfl, ha⟩ := snoc_of hl
        have hz : foldT s0 ((turnsF i n).reverse.zip (a ++ [b])) = nodeF (foldT s0 ((turnsF i (splitF n)).reverse.zip a)) b := by
          rw [turnsF_lo i n ⟨sp.1, sp.2.1⟩ hik, List.reverse_cons, List.zip_append (by rw [List.length_reverse, ha]), foldT, List.foldl_append]; rfl
        rw [hz]
        exact rfold_lo s0 _ b i n (splitF n) a.length a v w hx rfl rfl (by omega) hn hik (fun v w => ih (splitF n) sp.2.1 s0 i a (by omega) hik ha v w)
      · rw [turnsF_hi i n ⟨sp.1, sp.2.1⟩ hik, List.length_cons] at hl
        obtain ⟨a, b, rfl, ha⟩ := snoc_of hl
        have hz : foldT s0 ((turnsF i n).reverse.zip (a ++ [b])) = nodeF b (foldT s0 ((turnsF (i - splitF n) (n - splitF n)).reverse.zip a)) := by
          rw [turnsF_hi i n ⟨sp.1, sp.2.1⟩ hik, List.reverse_cons, List.zip_append (by rw [List.length_reverse, ha]), foldT, List.foldl_append]; rfl
        rw [hz]
        exact rfold_hi s0 _ b i n (splitF n) a.length a v w hx rfl rfl (by omega) hn hi hik (fun v w => ih (n - splitF n) (by omega) s0 (i - splitF n) a (by omega) (by omega) ha v w)
/-- Fold in all cases -/
def foldR (s0 : Nat → Int) (i : Int) (n : Nat) (ps : List (Nat → Int)) : (Nat → Int) × Option Nat :=
  if 0 ≤ i ∧ i < n then (if ps.length = (turnsF i.toNat n).length then (foldT s0 ((turnsF i.toNat n).reverse.zip ps), none) else (fun _ => 0, some 2)) else (fun _ => 0, some 1)
def ErrPost (r : (Nat → Int) × Option Nat) (f : Option Nat → Value) (w : World) (e : Ending) (w' : World) : Prop := e = .returned (.tuple #[.agg (rowOf .u8 32 r.1), f r.2]) ∧ Below w.heap.size w w'
theorem owns_wideB {w : World} {base n : Nat} {v : Value} {vs : List Value} (h : w.ownsRow base 4 1 v n vs) : ∃ a c, v = .slice a n c := by
  rcases h.2 with ⟨rfl, h0⟩ | ⟨g, c, _, rfl, _⟩
  · exact ⟨none, 0, by rw [h0]⟩
  · exact ⟨_, c, rfl⟩
theorem d1Fold_no (s0 : Nat → Int) (i : Int) (n : Nat) (v : Value) (w : World) (h : ¬ (0 ≤ i ∧ i < n)) : Calls Tryz.prog 155 #[.agg (rowOf .u8 32 s0), .int .i64 i, .int .i64 (n : Int), v] w (ErrPost (fun _ => 0, some 1) (fun o => .int .i64 (numE o)) w) := by
  obtain ⟨hb, h0, h1⟩ := two_rows w s0
  have HB := Lib.hid hb
  have HR := Lib.hid h1
  clear hb h0 h1
  by_cases hi : i < 0
  · clear h
    go_enter Tryz.func155, Tryz.ntmps155
    go_upto_region 1 with (fail)
    rw [zeros32]
    generalize (w.alloc (.cells (rowOf .u8 32 s0) 53)).alloc (.cells (rowOf .u8 32 (fun _ => 0)) 53) = w1 at *
    go_wp2_with (refine wpList_store_row rfl 53 (.tmp 8) (.tmp 17) rfl (w.heap.size + 1) (rowOf .u8 32 (fun _ => 0)) rfl rfl 53 _ HR.out (by rw [rowOf_size]; kernel_rfl) rfl (rowOf_one _ _ _) ?_)
    refine bodyPost_ret (results_cell_tmp_row rfl _ _ (w.heap.size + 1) 53 (rowOf .u8 32 (fun _ => 0)) (0, 0) _ rfl (setRow_heap _ _ _ _ _ _ HR.out) Tryz.underlying53 rfl (by rw [rowOf_size]; kernel_rfl)) rfl ?_
    exact ⟨rfl, below_setRow HB.out (by omega) _⟩
  · have hi2 : (n : Int) ≤ i := by omega
    clear h
    go_enter Tryz.func155, Tryz.ntmps155
    go_upto_region 1 with (fail)
    rw [zeros32]
    generalize (w.alloc (.cells (rowOf .u8 32 s0) 53)).alloc (.cells (rowOf .u8 32 (fun _ => 0)) 53) = w1 at *
    go_wp2_with (refine wpList_store_row rfl 53 (.tmp 8) (.tmp 17) rfl (w.heap.size + 1) (rowOf .u8 32 (fun _ => 0)) rfl rfl 53 _ HR.out (by rw [rowOf_size]; kernel_rfl) rfl (rowOf_one _ _ _) ?_)
    refine bodyPost_ret (results_cell_tmp_row rfl _ _ (w.heap.size + 1) 53 (rowOf .u8 32 (fun _ => 0)) (0, 0) _ rfl (setRow_heap _ _ _ _ _ _ HR.out) Tryz.underlying53 rfl (by rw [rowOf_size]; kernel_rfl)) rfl ?_
    exact ⟨rfl, below_setRow HB.out (by omega) _⟩
theorem shFold_no (s0 : Nat → Int) (i : Int) (n : Nat) (v : Value) (w : World) (h : ¬ (0 ≤ i ∧ i < n)) : Calls Tryz.prog 207 #[.agg (rowOf .u8 32 s0), .int .i64 i, .int .i64 (n : Int), v] w (ErrPost (fun _ => 0, some 1) errV w) := by
  obtain ⟨hb, h0, h1⟩ := two_rows w s0
  have HB := Lib.hid hb
  have HR := Lib.hid h1
  clear hb h0 h1
  by_cases hi : i < 0
  · clear h
    go_enter Tryz.func207, Tryz.ntmps207
    go_upto_region 1 with (fail)
    rw [zeros32]
    generalize (w.alloc (.cells (rowOf .u8 32 s0) 53)).alloc (.cells (rowOf .u8 32 (fun _ => 0)) 53) = w1 at *
    go_wp2_with (refine wpList_store_row rfl 53 (.tmp 8) (.tmp 21) rfl (w.heap.size + 1) (rowOf .u8 32 (fun _ => 0)) rfl rfl 53 _ HR.out (by rw [rowOf_size]; kernel_rfl) rfl (rowOf_one _ _ _) ?_)
    refine bodyPost_ret (results_cell_tmp_row rfl _ _ (w.heap.size + 1) 53 (rowOf .u8 32 (fun _ => 0)) (0, 0) _ rfl (setRow_heap _ _ _ _ _ _ HR.out) Tryz.underlying53 rfl (by rw [rowOf_size]; kernel_rfl)) rfl ?_
    exact ⟨rfl, below_setRow HB.out (by omega) _⟩
  · have hi2 : (n : Int) ≤ i := by omega
    clear h
    go_enter Tryz.func207, Tryz.ntmps207
    go_upto_region 1 with (fail)
    rw [zeros32]
    generalize (w.alloc (.cells (rowOf .u8 32 s0) 53)).alloc (.cells (rowOf .u8 32 (fun _ => 0)) 53) = w1 at *
    go_wp2_with (refine wpList_store_row rfl 53 (.tmp 8) (.tmp 21) rfl (w.heap.size + 1) (rowOf .u8 32 (fun _ => 0)) rfl rfl 53 _ HR.out (by rw [rowOf_size]; kernel_rfl) rfl (rowOf_one _ _ _) ?_)
    refine bodyPost_ret (results_cell_tmp_row rfl _ _ (w.heap.size + 1) 53 (rowOf .u8 32 (fun _ => 0)) (0, 0) _ rfl (setRow_heap _ _ _ _ _ _ HR.out) Tryz.underlying53 rfl (by rw [rowOf_size]; kernel_rfl)) rfl ?_
    exact ⟨rfl, below_setRow HB.out (by omega) _⟩
theorem d1Fold_long (s0 : Nat → Int) (i n : Nat) (a : Option Addr) (m cap : Nat) (w : World) (hi : i < n) (hn : n ≤ 9223372036854775807) (hm : m ≤ 9223372036854775807) (h : ¬ m = (turnsF i n).length) : Calls Tryz.prog 155 #[.agg (rowOf .u8 32 s0), .int .i64 (i : Int), .int .i64 (n : Int), .slice a m cap] w (ErrPost (fun _ => 0, some 2) (fun o => .int .i64 (numE o)) w) := by
  obtain ⟨hb, h0, h1⟩ := two_rows w s0
  have HB := Lib.hid hb
  have HR := Lib.hid h1
  clear hb h0 h1
  have HI := Lib.hid hi
  have HN := Lib.hid hn
  obtain ⟨t, ht⟩ : ∃ t, t = (turnsF i n).length := ⟨_, rfl⟩
  rw [← ht] at h
  have hneI : ((m : Int) == (t : Int)) = false := by rw [beq_eq_false_iff_ne]; omega
  have hneJ : ¬ (m : Int) = (t : Int) := by omega
  have HT := Lib.hid ht
  have hinI : (i : Int) < (n : Int) := by omega
  have hi0 : ¬ (i : Int) < 0 := by omega
  have H63 := Lib.hid (turns_len n i hn hi)
  clear hi h ht
  go_enter Tryz.func155, Tryz.ntmps155
  go_upto_region 1 with (fail)
  rw [zeros32]
  generalize (w.alloc (.cells (rowOf .u8 32 s0) 53)).alloc (.cells (rowOf .u8 32 (fun _ => 0)) 53) = w1 at *
  go_wp2_with (first
    | (go_at_call 211; (with_reducible refine (rsteps_any i n _ HI.out HN.out).mono ?_); rintro e w' ⟨rfl, rfl⟩; rw [← HT.out])
    | (refine wpList_store_row rfl 53 (.tmp 8) (.tmp 24) rfl (w.heap.size + 1) (rowOf .u8 32 (fun _ => 0)) rfl rfl 53 _ HR.out (by rw [rowOf_size]; kernel_rfl) rfl (rowOf_one _ _ _) ?_))
  refine bodyPost_ret (results_cell_tmp_row rfl _ _ (w.heap.size + 1) 53 (rowOf .u8 32 (fun _ => 0)) (0, 0) _ rfl (setRow_heap _ _ _ _ _ _ HR.out) Tryz.underlying53 rfl (by rw [rowOf_size]; kernel_rfl)) rfl ?_
  exact ⟨rfl, below_setRow HB.out (by omega) _⟩
theorem shFold_long (s0 : Nat → Int) (i n : Nat) (a : Option Addr) (m cap : Nat) (w : World) (hi : i < n) (hn : n ≤ 9223372036854775807) (hm : m ≤ 9223372036854775807) (h : ¬ m = (turnsF i n).length) : Calls Tryz.prog 207 #[.agg (rowOf .u8 32 s0), .int .i64 (i : Int), .int .i64 (n : Int), .slice a m cap] w (ErrPost (fun _ => 0, some 2) errV w) := by
  obtain ⟨hb, h0, h1⟩ := two_rows w s0
  have HB := Lib.hid hb
  have HR := Lib.hid h1
  clear hb h0 h1
  have HI := Lib.hid hi
  have HN := Lib.hid hn
  obtain ⟨t, ht⟩ : ∃ t, t = (turnsF i n).length := ⟨_, rfl⟩
  rw [← ht] at h
  have hneI : ((m : Int) == (t : Int)) = false := by rw [beq_eq_false_iff_ne]; omega
  have hneJ : ¬ (m : Int) = (t : Int) := by omega
  have HT := Lib.hid ht
  have hinI : (i : Int) < (n : Int) := by omega
  have hi0 : ¬ (i : Int) < 0 := by omega
  have H63 := Lib.hid (turns_len n i hn hi)
  clear hi h ht
  go_enter Tryz.func207, Tryz.ntmps207
  go_upto_region 1 with (fail)
  rw [zeros32]
  generalize (w.alloc (.cells (rowOf .u8 32 s0) 53)).alloc (.cells (rowOf .u8 32 (fun _ => 0)) 53) = w1 at *
  go_wp2_with (first
    | (go_at_call 240; (with_reducible refine (turns_any i n _ HI.out HN.out).mono ?_); rintro e w2 ⟨r, rfl, HO, hb⟩; obtain ⟨ra, rc, rfl⟩ := owns_wideB HO; rw [← HT.out]; replace HR := Lib.hid (HR.out.below hb HR.out.lt); replace HB := Lib.hid (HB.out.trans (hb.mono HB.out.size)); clear hb HO)
    | (refine wpList_store_row rfl 53 (.tmp 8) (.tmp 31) rfl (w.heap.size + 1) (rowOf .u8 32 (fun _ => 0)) rfl rfl 53 _ HR.out (by rw [rowOf_size]; kernel_rfl) rfl (rowOf_one _ _ _) ?_))
  refine bodyPost_ret (results_cell_tmp_row rfl _ _ (w.heap.size + 1) 53 (rowOf .u8 32 (fun _ => 0)) (0, 0) _ rfl (setRow_heap _ _ _ _ _ _ HR.out) Tryz.underlying53 rfl (by rw [rowOf_size]; kernel_rfl)) rfl ?_
  exact ⟨rfl, below_setRow HB.out (by omega) _⟩
theorem d1Fold_ok (s0 : Nat → Int) (i n : Nat) (ps : List (Nat → Int)) (v : Value) (w : World) (hi : i < n) (hn : n ≤ 9223372036854775807) (hx : HashesIn w v ps) (hl : ps.length = (turnsF i n).length) :
    Calls Tryz.prog 155 #[.agg (rowOf .u8 32 s0), .int .i64 (i : Int), .int .i64 (n : Int), v] w (ErrPost (foldT s0 ((turnsF i n).reverse.zip ps), none) (fun o => .int .i64 (numE o)) w) := by
  obtain ⟨hb, h0, h1⟩ := two_rows w s0
  have HB := Lib.hid hb
  have H0 := Lib.hid h0
  have HR := Lib.hid h1
  clear hb h0 h1
  have HX := Lib.hid hx
  obtain ⟨a, cap, rfl, _, hm, _⟩ := hx
  have HI := Lib.hid hi
  have HN := Lib.hid hn
  have HL := Lib.hid hl
  have hinI : (i : Int) < (n : Int) := by omega
  have hi0 : ¬ (i : Int) < 0 := by omega
  have H63 := Lib.hid (turns_len n i hn hi)
  obtain ⟨t, ht⟩ : ∃ t, t = ps.length := ⟨_, rfl⟩
  rw [← ht] at HX ⊢
  have HT := Lib.hid (show (turnsF i n).length = t by rw [ht, hl])
  clear hi hl ht hm
  go_enter Tryz.func155, Tryz.ntmps155
  go_upto_region 1 with (fail)
  rw [zeros32]
  generalize (w.alloc (.cells (rowOf .u8 32 s0) 53)).alloc (.cells (rowOf .u8 32 (fun _ => 0)) 53) = w1 at *
  go_wp2_with (first
    | (go_at_call 211; (with_reducible refine (rsteps_any i n _ HI.out HN.out).mono ?_); rintro e w' ⟨rfl, rfl⟩; rw [HT.out])
    | (refine wpList_load_row rfl 53 (.tmp 4) rfl w.heap.size rfl 53 _ (0, 0) _ H0.out Tryz.underlying53 rfl (by rw [rowOf_size]; kernel_rfl) ?_)
    | (go_at_call 212; (with_reducible refine (rfold_ok n s0 i ps HN.out HI.out HL.out _ _ (HX.out.below HB.out)).mono ?_); rintro e w3 ⟨rfl, hb⟩; replace HR := Lib.hid (HR.out.below hb HR.out.lt); replace HB := Lib.hid (HB.out.trans (hb.mono HB.out.size)); clear hb)
    | (refine wpList_store_row rfl 53 (.tmp 8) (.tmp 29) rfl (w.heap.size + 1) _ rfl rfl 53 _ HR.out (by rw [rowOf_size]; kernel_rfl) (by rw [rowOf_size, rowOf_size]) (rowOf_one _ _ _) ?_))
  refine bodyPost_ret (results_cell_tmp_row rfl _ _ (w.heap.size + 1) 53 (rowOf .u8 32 (foldT s0 ((turnsF i n).reverse.zip ps))) (0, 0) _ rfl (setRow_heap _ _ _ _ _ _ HR.out) Tryz.underlying53 rfl (by rw [rowOf_size]; kernel_rfl)) rfl ?_
  exact ⟨rfl, below_setRow HB.out (by omega) _⟩
theorem rFold_any (s0 : Nat → Int) (i : Int) (n : Nat) (ps : List (Nat → Int)) (v : Value) (w : World) (hn : n ≤ 9223372036854775807) (hx : HashesIn w v ps) :
    Calls Tryz.prog 155 #[.agg (rowOf .u8 32 s0), .int .i64 i, .int .i64 (n : Int), v] w (ErrPost (foldR s0 i n ps) (fun o => .int .i64 (numE o)) w) := by
  unfold foldR
  by_cases h : 0 ≤ i ∧ i < n
  · rw [if_pos h]
    obtain ⟨k, rfl⟩ : ∃ k : Nat, i = (k : Int) := ⟨i.toNat, by omega⟩
    rw [Int.toNat_natCast]
    by_cases h2 : ps.length = (turnsF k n).length
    · rw [if_pos h2]
      exact d1Fold_ok s0 k n ps v w (by omega) hn hx h2
    · rw [if_neg h2]
      obtain ⟨a, cap, rfl, hc, hm, _⟩ := hx
      exact d1Fold_long s0 k n a ps.length cap w (by omega) hn (by unfold maxLen at hm; omega) h2
  · rw [if_neg h]
    exact d1Fold_no s0 i n v w h
theorem sFold_any (s0 : Nat → Int) (i : Int) (n : Nat) (ps : List (Nat → Int)) (v : Value) (w : World) (hn : n ≤ 9223372036854775807) (hx : HashesIn w v ps) (he : Env w) :
    Calls Tryz.prog 207 #[.agg (rowOf .u8 32 s0), .int .i64 i, .int .i64 (n : Int), v] w (ErrPost (foldR s0 i n ps) errV w) := by
  unfold foldR
  by_cases h : 0 ≤ i ∧ i < n
  · rw [if_pos h]
    obtain ⟨k, rfl⟩ : ∃ k : Nat, i = (k : Int) := ⟨i.toNat, by omega⟩
    rw [Int.toNat_natCast]
    by_cases h2 : ps.length = (turnsF k n).length
    · rw [if_pos h2]
      exact fold_any s0 k n v ps w (by omega) hn hx h2 he
    · rw [if_neg h2]
      obtain ⟨a, cap, rfl, hc, hm, _⟩ := hx
      exact shFold_long s0 k n a ps.length cap w (by omega) hn (by unfold maxLen at hm; omega) h2
  · rw [if_neg h]
    exact shFold_no s0 i n v w h
end Go.Proofs.YtejglhlodfhgkaaGreatDoor
namespace Go.Proofs.YtejglhlodfhgkaaGreatDoor
set_option linter.unusedVariables false
set_option linter.unusedSimpArgs false
open Go.RowKit
set_option maxRecDepth 100000
theorem All32.foldR {ps qs : List (Nat → Int)} (h : All32 ps qs) (s : Nat → Int) (i : Int) (n : Nat) : foldR s i n ps = foldR s i n qs := by
  unfold Go.Proofs.YtejglhlodfhgkaaGreatDoor.foldR
  rw [h.length, h.fold]
/-- the root of whom signed text so, or the error -/
def signerR (s : Sg) (D E : Int) (text : List Int) : (Nat → Int) × Option Nat :=
  match (digR text D).2 with
  | some x => (zF, some x)
  | none => match (fromR s.once (s.leaf : Int) (digR text D).1).2 with
    | some x => (zF, some x)
    | none => foldR (fromR s.once (s.leaf : Int) (digR text D).1).1 (s.leaf : Int) (2 ^ E.toNat) s.path
end Go.Proofs.YtejglhlodfhgkaaGreatDoor
namespace Go.Proofs.YtejglhlodfhgkaaGreatDoor
set_option linter.unusedVariables false
set_option linter.unusedSimpArgs false
open Go.RowKit
set_option maxRecDepth 100000
theorem kagg_yields {P : Program} {ops : Array Oper} {S : World → Prop} {op : Oper} {a : Act} (hw : Region.wanted op (yielded ops a.tmps) = true) (ty : TypeId) (x : Operand) (ho : op.op = .load ty x)
    (b : Nat) (hx : a.eval x = .pointer (some ⟨b, 0, none⟩)) (cs : Array Value) (d : TypeDesc) (hS : ∀ w, S w → w.heap[b]? = some (.cells cs ty (0, 0)))
    (hu : P.underlying ty = some d) (hd : d.isRow = true) (hi : (P.info? ty).map (·.size) = some cs.size) : YieldsIf P ops S op (.agg cs) a := by
  have h := yieldsIf_load_mid (P := P) (S := S) hw ty x ho b 0 hx cs.toList d (fun w h j v hv => by rw [Nat.zero_add, cell_of_row w b j _ ty _ (hS w h)]; simpa using hv) hu hd (by rw [hi]; simp)
  simpa using h
structure KgM (w w' : World) (leaf : Nat) (vo vp : Value) (on : List Int) (ps : List (Nat → Int)) (D E : Int) : Prop where
  below : Below w.heap.size w w'
  sig : w'.heap[w.heap.size]? = some (.cells (sgC leaf vo vp) 226 (0, 0))
  par : w'.heap[w.heap.size + 1]? = some (.cells (parC D E) 57 (0, 0))
  res : RowAt w' (w.heap.size + 1 + 1) .u8 32 53 (fun _ => 0)
  oin : BytesIn w' vo on
  pin : HashesIn w' vp ps
  env : Env w'
theorem heap_lt' {w : World} {g : Nat} {o : Obj} (h : w.heap[g]? = some o) : g < w.heap.size := (Array.getElem?_eq_some_iff.1 h).1
theorem KgM.call {w w' w2 : World} {leaf : Nat} {vo vp : Value} {on : List Int} {ps : List (Nat → Int)} {D E : Int} (m : KgM w w' leaf vo vp on ps D E) (h : Below w'.heap.size w' w2) : KgM w w2 leaf vo vp on ps D E :=
  ⟨m.below.trans (h.mono m.below.size), (h.block _ (heap_lt' m.sig)).trans m.sig, (h.block _ (heap_lt' m.par)).trans m.par, m.res.below h m.res.lt, m.oin.below h, m.pin.below h, m.env.below h m.env.lt⟩
def signW (w : World) (leaf : Nat) (vo vp : Value) (D E : Int) : World := ((w.alloc (.cells (sgC leaf vo vp) 226)).alloc (.cells (parC D E) 57)).alloc (.cells (rowOf .u8 32 (fun _ => 0)) 53)
theorem kgM_start {w : World} {leaf : Nat} {vo vp : Value} {on : List Int} {ps : List (Nat → Int)} (D E : Int) (he : Env w) (ho : BytesIn w vo on) (hp : HashesIn w vp ps) : KgM w (signW w leaf vo vp D E) leaf vo vp on ps D E := by
  have hb : Below w.heap.size w (signW w leaf vo vp D E) := (below_alloc w _).trans (((below_alloc _ _).mono (by simp)).trans ((below_alloc _ _).mono (by simp; omega)))
  refine ⟨hb, ?_, ?_, ?_, ho.below hb, hp.below hb, he.below hb he.lt⟩
  · have h1 := heap_alloc_new w (.cells (sgC leaf vo vp) 226)
    have h2 := ((below_alloc (w.alloc (.cells (sgC leaf vo vp) 226)) (.cells (parC D E) 57)).block _ (heap_lt' h1)).trans h1
    exact ((below_alloc _ (.cells (rowOf .u8 32 (fun _ => 0)) 53)).block _ (heap_lt' h2)).trans h2
  · have h1 := heap_alloc_new (w.alloc (.cells (sgC leaf vo vp) 226)) (.cells (parC D E) 57)
    have h2 := ((below_alloc _ (.cells (rowOf .u8 32 (fun _ => 0)) 53)).block _ (heap_lt' h1)).trans h1
    rw [shSize_alloc] at h2
    exact h2
  · have h1 := RowAt.new ((w.alloc (.cells (sgC leaf vo vp) 226)).alloc (.cells (parC D E) 57)) .u8 32 53 (fun _ => 0)
    rw [shSize_alloc, shSize_alloc] at h1
    exact h1
theorem KgM.cell {w w' : World} {leaf : Nat} {vo vp : Value} {on : List Int} {ps : List (Nat → Int)} {D E : Int} (m : KgM w w' leaf vo vp on ps D E) : w'.cell? ⟨w.heap.size, 0, none⟩ = some (.int .i64 (leaf : Int)) ∧ w'.cell? ⟨w.heap.size, 1, none⟩ = some vo ∧ w'.cell? ⟨w.heap.size, 2, none⟩ = some vp ∧ w'.cell? ⟨w.heap.size + 1, 0, none⟩ = some (.int .i64 D) :=
  ⟨(sig_cells _ _ _ _ _ m.sig).1, (sig_cells _ _ _ _ _ m.sig).2.1, (sig_cells _ _ _ _ _ m.sig).2.2.1, by rw [cell_of_row _ _ _ _ _ _ m.par]; rfl⟩
theorem digR_ok {xs : List Int} {D : Int} (h : 1 ≤ D ∧ D ≤ 32) : (digR xs D).2 = none ∧ bytesOk (digR xs D).1 ∧ (digR xs D).1.length = D.toNat := by
  unfold digR
  rw [if_pos h]
  refine ⟨rfl, fun x hx => ?_, ?_⟩
  · simp only [digestF, rowL, List.mem_map, List.mem_range] at hx
    obtain ⟨i, _, rfl⟩ := hx
    unfold sumF; unfold hsum; unfold outF; omega
  · simp [digestF, rowL]
set_option maxHeartbeats 4000000 in
theorem ksigner_ok (s : Sg) (vo vp v : Value) (xs : List Int) (D : Int) (k : Nat) (w : World) (he : Env w) (ho : BytesIn w vo s.once) (hp : HashesIn w vp s.path) (hx : BytesIn w v xs) (hD : 1 ≤ D ∧ D ≤ 32) (hk : k ≤ 10) :
    Calls Tryz.prog 151 #[.agg (sgC s.leaf vo vp), .agg (parC D k), v] w fun e w' => e = .returned (.tuple #[.agg (rowOf .u8 32 (signerR s D k xs).1), errV (signerR s D k xs).2]) ∧ Below w.heap.size w w' := by
  obtain ⟨hd0, hd1, hd2⟩ := digR_ok (xs := xs) hD
  obtain ⟨ds, hds⟩ : ∃ ds, ds = (digR xs D).1 := ⟨_, rfl⟩
  have HDG := Lib.hid (show ∀ w v, BytesIn w v xs → Env w → Calls Tryz.prog 205 #[v, .int .i64 D] w fun e w' => ∃ v', e = .returned (.tuple #[v', .nilIface]) ∧ BytesIn w' v' ds ∧ Below w.heap.size w w' from fun w v h1 h2 => by
    have := wdigest_any v xs D w h1 h2; rw [hd0, ← hds] at this; exact this)
  rw [← hds] at hd1 hd2
  have HDB := Lib.hid hd1
  have HX := Lib.hid hx
  have HK := Lib.hid hk
  have HSR := Lib.hid (show signerR s D k xs = match (fromR s.once (s.leaf : Int) ds).2 with | some x => (zF, some x) | none => foldR (fromR s.once (s.leaf : Int) ds).1 (s.leaf : Int) (2 ^ k) s.path by
    unfold signerR; rw [hd0, ← hds]; simp only [Int.toNat_natCast]; try rfl)
  have M := Lib.hid (kgM_start (leaf := s.leaf) D (k : Int) he ho hp)
  have HG := Lib.hid he.lt
  have HKK := Lib.hid (show 2 ^ k ≤ 1024 from Nat.pow_le_pow_right (n := 2) (by omega) hk)
  obtain ⟨F, hF⟩ : ∃ F, F = (fromR s.once (s.leaf : Int) ds).1 := ⟨_, rfl⟩
  have HFR := Lib.hid (show ∀ w v, BytesIn w v ds → BytesIn w vo s.once → Env w → Calls Tryz.prog 206 #[vo, .int .i64 (s.leaf : Int), v] w fun e w' => e = .returned (.tuple #[.agg (rowOf .u8 32 F), errV (fromR s.once (s.leaf : Int) ds).2]) ∧ Below w.heap.size w w' from fun w v h1 h2 h3 => by
    rw [hF]; exact wfrom_any vo s.once _ v ds w h3 h2 h1 HDB.out)
  rw [← hF] at HSR
  clear hd0 hd1 hd2 hds ho hp hx hk he hF
  obtain ⟨lf, hlf⟩ : ∃ lf, lf = s.leaf := ⟨_, rfl⟩
  rw [← hlf] at HSR HFR M ⊢
  clear hlf
  go_enter Tryz.func151, Tryz.ntmps151
  go_upto_region 1 with (fail)
  rw [zeros32]
  have e0 : ((w.alloc (.cells (sgC lf vo vp) 226)).alloc (.cells (parC D k) 57)).alloc (.cells (rowOf .u8 32 (fun _ => 0)) 53) = signW w lf vo vp D k := rfl
  rw [e0]
  clear e0
  generalize signW w lf vo vp D k = w1 at *
  obtain ⟨-, -, -, cp0⟩ := M.out.cell
  go_upto_region 4 with (go_at_call 205; (with_reducible refine (HDG.out _ _ (HX.out.below M.out.below) M.out.env).mono ?_); rintro e w2 ⟨vd, rfl, hd, hb⟩; replace M := Lib.hid (M.out.call hb); have HV := Lib.hid hd; clear hd hb cp0)
  obtain ⟨cs0, cs1, -, -⟩ := M.out.cell
  cases hfr : (fromR s.once (lf : Int) ds).2 with
  | some x =>
    rw [hfr] at HFR HSR
    go_wp2_with (first
      | (go_at_call 206; (with_reducible refine (HFR.out _ _ HV.out M.out.oin M.out.env).mono ?_); rintro e w3 ⟨rfl, hb⟩; rw [show errV (some x) = Value.iface 107 (.int .i64 (x : Int)) from rfl]; replace M := Lib.hid (M.out.call hb); clear hb cs0 cs1)
      | (refine wpList_store_row rfl 53 (.tmp 10) (.tmp 29) rfl w3.heap.size (rowOf .u8 32 F) rfl rfl 53 _ (heap_alloc_new _ _) (by rw [rowOf_size]; kernel_rfl) (by rw [rowOf_size]; rfl) (rowOf_one _ _ _) ?_; rw [World.setRow_alloc_new]; replace M := Lib.hid (M.out.call (below_alloc w3 (.cells (rowOf .u8 32 F) 53))); generalize w3.alloc (.cells (rowOf .u8 32 F) 53) = w4 at *)
      | (refine wpList_store_row rfl 53 (.tmp 6) (.tmp 33) rfl (w.heap.size + 1 + 1) (rowOf .u8 32 (fun _ => 0)) rfl rfl 53 _ M.out.res (by rw [rowOf_size]; kernel_rfl) rfl (rowOf_one _ _ _) ?_))
    refine bodyPost_ret (results_cell_tmp_row rfl _ _ (w.heap.size + 1 + 1) 53 (rowOf .u8 32 (fun _ => 0)) (0, 0) _ rfl (setRow_heap _ _ _ _ _ _ M.out.res) Tryz.underlying53 rfl (by rw [rowOf_size]; kernel_rfl)) rfl ?_
    rw [HSR.out]
    exact ⟨rfl, below_setRow M.out.below (by omega) _⟩
  | none =>
    rw [hfr] at HFR HSR
    go_upto_region 7 with (first
      | (go_at_call 206; (with_reducible refine (HFR.out _ _ HV.out M.out.oin M.out.env).mono ?_); rintro e w3 ⟨rfl, hb⟩; rw [show errV none = Value.nilIface from rfl]; replace M := Lib.hid (M.out.call hb); clear hb cs0 cs1)
      | (refine wpList_store_row rfl 53 (.tmp 10) (.tmp 29) rfl w3.heap.size (rowOf .u8 32 F) rfl rfl 53 _ (heap_alloc_new _ _) (by rw [rowOf_size]; kernel_rfl) (by rw [rowOf_size]; rfl) (rowOf_one _ _ _) ?_; rw [World.setRow_alloc_new]; replace M := Lib.hid (M.out.call (below_alloc w3 (.cells (rowOf .u8 32 F) 53))); have PU := Lib.hid (RowAt.new w3 .u8 32 53 F); generalize w3.alloc (.cells (rowOf .u8 32 F) 53) = w4 at *))
    obtain ⟨g, hg⟩ : ∃ g, g = w3.heap.size := ⟨_, rfl⟩
    rw [← hg] at PU ⊢
    replace hg := Lib.hid hg
    obtain ⟨RF, er, hrf⟩ : ∃ RF er, foldR F (lf : Int) (2 ^ k) s.path = (RF, er) := ⟨_, _, rfl⟩
    have HFO := Lib.hid (show ∀ w, HashesIn w vp s.path → Env w → Calls Tryz.prog 207 #[.agg (rowOf .u8 32 F), .int .i64 (lf : Int), .int .i64 ((2 ^ k : Nat) : Int), vp] w fun e w' => e = .returned (.tuple #[.agg (rowOf .u8 32 RF), errV er]) ∧ Below w.heap.size w w' from fun w h1 h2 => by
      have h := sFold_any F (lf : Int) (2 ^ k) s.path vp w (by have := HKK.out; omega) h1 h2
      rw [hrf] at h; exact h)
    replace HSR := Lib.hid (show signerR s D k xs = (RF, er) from HSR.out.trans hrf)
    obtain ⟨ev, hev⟩ : ∃ ev, ev = errV er := ⟨_, rfl⟩
    rw [← hev] at HFO
    obtain ⟨N, hN⟩ : ∃ N : Nat, N = 2 ^ k := ⟨_, rfl⟩
    have HSZ := Lib.hid (show ∀ w, Calls Tryz.prog 208 #[.agg (parC D k)] w fun e w' => e = .returned (.int .i64 (N : Int)) ∧ Below w.heap.size w w' from fun w => by rw [hN]; exact ksize_any D k w HK.out)
    rw [← hN] at HFO
    clear hN hrf HKK
    replace hev := Lib.hid hev
    refine wp_region_T (fun w' => w'.heap[w.heap.size]? = some (.cells (sgC lf vo vp) 226 (0, 0)) ∧ w'.heap[w.heap.size + 1]? = some (.cells (parC D k) 57 (0, 0)) ∧ RowAt w' g .u8 32 53 F) [0, 2, 4, 6] (by kernel_rfl) ?_
    replace M := Lib.hid (M.out.call ((Below.refl _ w4).drew))
    replace PU := Lib.hid (PU.out.drew)
    generalize w4.drew = w5 at *
    refine anyT_takeY (i := 1) (v := .pointer (some ⟨w.heap.size, 0, none⟩)) rfl (by kernel_rfl) (by kernel_rfl) (by kernel_rfl) (fun _ _ _ h => h) (by kernel_rfl) (Or.inl ⟨by rfl, by intro w; go_simp⟩) ?_
    try simp only [List.getElem_toArray, List.getElem_cons_succ, List.getElem_cons_zero, Act.put, List.setIfInBounds_toArray, List.set_cons_zero, List.set_cons_succ]
    refine anyT_takeY (i := 5) (v := .pointer (some ⟨w.heap.size, 2, none⟩)) rfl (by kernel_rfl) (by kernel_rfl) (by kernel_rfl) (fun _ _ _ h => h) (by kernel_rfl) (Or.inl ⟨by rfl, by intro w; go_simp⟩) ?_
    try simp only [List.getElem_toArray, List.getElem_cons_succ, List.getElem_cons_zero, Act.put, List.setIfInBounds_toArray, List.set_cons_zero, List.set_cons_succ]
    refine anyT_take [4, 7, 8, 9, 10, 11] (i := 3) (v := .agg (parC D k)) rfl (by kernel_rfl) (by kernel_rfl) (by kernel_rfl) (fun _ _ _ h => h) (by kernel_rfl) (kagg_yields (by rfl) 57 (.tmp 4) rfl (w.heap.size + 1) rfl (parC D k) _ (fun _ h => h.2.1) Tryz.underlying57 rfl (by kernel_rfl)) ⟨M.out.sig, M.out.par, PU.out⟩ ?_
    try simp only [List.getElem_toArray, List.getElem_cons_succ, List.getElem_cons_zero, Act.put, List.setIfInBounds_toArray, List.set_cons_zero, List.set_cons_succ]
    refine anyT_take [7, 8, 9, 10, 11] (i := 0) (v := .agg (rowOf .u8 32 F)) rfl (by kernel_rfl) (by kernel_rfl) (by kernel_rfl) (fun _ _ _ h => h) (by kernel_rfl) (row_yields (by rfl) 53 (.tmp 10) rfl g rfl .u8 32 F _ (fun _ h => h.2.2) Tryz.underlying53 rfl (by kernel_rfl)) ⟨M.out.sig, M.out.par, PU.out⟩ ?_
    try simp only [List.getElem_toArray, List.getElem_cons_succ, List.getElem_cons_zero, Act.put, List.setIfInBounds_toArray, List.set_cons_zero, List.set_cons_succ]
    refine anyT_take [7, 8, 9, 10, 11] (i := 2) (v := .int .i64 (lf : Int)) rfl (by kernel_rfl) (by kernel_rfl) (by kernel_rfl) (fun _ _ _ h => h) (by kernel_rfl) (Or.inl ⟨by rfl, fun w' hS => by have c1 := (sig_cells w' _ _ _ _ hS.1).1; go_simp⟩) ⟨M.out.sig, M.out.par, PU.out⟩ ?_
    try simp only [List.getElem_toArray, List.getElem_cons_succ, List.getElem_cons_zero, Act.put, List.setIfInBounds_toArray, List.set_cons_zero, List.set_cons_succ]
    refine anyT_take [7, 8, 9, 10, 11] (i := 6) (v := vp) rfl (by kernel_rfl) (by kernel_rfl) (by kernel_rfl) (fun _ _ _ h => h) (by kernel_rfl) (Or.inl ⟨by rfl, fun w' hS => by have c1 := (sig_cells w' _ _ _ _ hS.1).2.2.1; go_simp⟩) ⟨M.out.sig, M.out.par, PU.out⟩ ?_
    try simp only [List.getElem_toArray, List.getElem_cons_succ, List.getElem_cons_zero, Act.put, List.setIfInBounds_toArray, List.set_cons_zero, List.set_cons_succ]
    refine anyT_one (i := 4) (by kernel_rfl) rfl (fun K hK => ?_)
    rw [if_pos (by rfl)]
    try simp only [List.getElem_toArray, List.getElem_cons_succ, List.getElem_cons_zero]
    (go_simp; refine (HSZ.out _).mono ?_; rintro e w6 ⟨rfl, hb⟩; replace M := Lib.hid (M.out.call hb); replace PU := Lib.hid (PU.out.below hb PU.out.lt); clear hb)
    refine hK _ _ (fun _ => ⟨M.out.sig, M.out.par, PU.out⟩) ?_
    clear hK K
    try simp only [List.getElem_toArray, List.getElem_cons_succ, List.getElem_cons_zero, Act.put, List.setIfInBounds_toArray, List.set_cons_zero, List.set_cons_succ]
    refine anyT_one (i := 7) (by kernel_rfl) rfl (fun K hK => ?_)
    rw [if_pos (by rfl)]
    try simp only [List.getElem_toArray, List.getElem_cons_succ, List.getElem_cons_zero]
    (go_simp; refine (HFO.out _ M.out.pin M.out.env).mono ?_; rintro e w7 ⟨rfl, hb⟩; replace M := Lib.hid (M.out.call hb); clear hb)
    refine hK _ _ (not_mem rfl) ?_
    clear hK K
    try simp only [List.getElem_toArray, List.getElem_cons_succ, List.getElem_cons_zero, Act.put, List.setIfInBounds_toArray, List.set_cons_zero, List.set_cons_succ]
    refine anyT_takeY (i := 8) (v := .agg (rowOf .u8 32 RF)) rfl (by kernel_rfl) (by kernel_rfl) (by kernel_rfl) (fun _ _ _ h => h) (by kernel_rfl) (Or.inl ⟨by rfl, by intro w; go_simp⟩) ?_
    try simp only [List.getElem_toArray, List.getElem_cons_succ, List.getElem_cons_zero, Act.put, List.setIfInBounds_toArray, List.set_cons_zero, List.set_cons_succ]
    refine anyT_takeY (i := 9) (v := ev) rfl (by kernel_rfl) (by kernel_rfl) (by kernel_rfl) (fun _ _ _ h => h) (by kernel_rfl) (Or.inl ⟨by rfl, by intro w; go_simp⟩) ?_
    try simp only [List.getElem_toArray, List.getElem_cons_succ, List.getElem_cons_zero, Act.put, List.setIfInBounds_toArray, List.set_cons_zero, List.set_cons_succ]
    refine anyT_one (i := 10) (by kernel_rfl) rfl (fun K hK => ?_)
    rw [if_pos (by rfl)]
    try simp only [List.getElem_toArray, List.getElem_cons_succ, List.getElem_cons_zero]
    (refine wp_store_row 53 (.tmp 6) (.tmp 43) rfl (w.heap.size + 1 + 1) _ rfl rfl 53 _ M.out.res (by rw [rowOf_size]; kernel_rfl) (by rw [rowOf_size, rowOf_size]) (rowOf_one _ _ _) ?_)
    refine hK _ _ (not_mem rfl) ?_
    clear hK K
    try simp only [List.getElem_toArray, List.getElem_cons_succ, List.getElem_cons_zero, Act.put, List.setIfInBounds_toArray, List.set_cons_zero, List.set_cons_succ]
    refine anyT_takeY (i := 11) (v := ev) rfl (by kernel_rfl) (by kernel_rfl) (by kernel_rfl) (fun _ _ _ h => h) (by kernel_rfl) (Or.inl ⟨by rfl, by intro w; go_simp⟩) ?_
    try simp only [List.getElem_toArray, List.getElem_cons_succ, List.getElem_cons_zero, Act.put, List.setIfInBounds_toArray, List.set_cons_zero, List.set_cons_succ]
    refine anyT_done (by kernel_rfl) ?_ _
    go_wp2_with (fail)
    refine bodyPost_ret (results_cell_tmp_row rfl _ _ (w.heap.size + 1 + 1) 53 (rowOf .u8 32 RF) (0, 0) _ rfl (setRow_heap _ _ _ _ _ _ M.out.res) Tryz.underlying53 rfl (by rw [rowOf_size]; kernel_rfl)) rfl ?_
    rw [HSR.out, ← hev.out]
    exact ⟨rfl, below_setRow M.out.below (by omega) _⟩
end Go.Proofs.YtejglhlodfhgkaaGreatDoor
