/- Part 31 of the proof. -/
import Derived.Test.YtejglhlodfhgkaaGreatDoorXb27
import Derived.Test.YtejglhlodfhgkaaGreatDoorXb28
import Derived.Test.YtejglhlodfhgkaaGreatDoorXb30
namespace Go.Proofs.YtejglhlodfhgkaaGreatDoor
set_option linter.unusedVariables false
set_option linter.unusedSimpArgs false
open Go.RowKit
set_option maxRecDepth 100000
set_option linter.unusedSimpArgs false
set_option linter.unusedVariables false
structure TxB15 (w : World) (q : Nat) (C : Array Value) (x : Tr) (wr : World) : Prop where
  r : wr.heap[q]? = some (.cells C 27 (0, 0))
  x : TrE wr x
  b : Below w.heap.size w wr
theorem TxB15.call {w : World} {q : Nat} {C : Array Value} {x : Tr} {wr wr' : World} (m : TxB15 w q C x wr) (h : Below wr.heap.size wr wr') : TxB15 w q C x wr' := ⟨(h.block q (bkT_lt m.r)).trans m.r, m.x.below h, m.b.trans (h.mono m.b.size)⟩
theorem pT0 (s : ByteArray) (w : World) (hl : (st1 s).length + 100 ≤ 140737488355328) : Calls Tryz.prog 64 #[.slice none 0 0, .string s] w (BsPost11 (st1 s) w) := pT15 (.slice none 0 0) [] s w (nil_in w) (by simp; omega)

set_option maxHeartbeats 8000000 in
theorem rbytes15_any (c : ByteArray) (x : Tr) (w : World) (hx : TrE w x) (hf : TrFl x) (hl : (trS c x).length + 500 ≤ 140737488355328) :
    Calls Tryz.prog 17 #[.string c, .agg (trC15 x)] w (BsPost11 (trS c x) w) := by
  have hba := below_alloc w (.cells (trC15 x) 27)
  have M := Lib.hid (show TxB15 w w.heap.size (trC15 x) x (w.alloc (.cells (trC15 x) 27)) from ⟨heap_alloc_new _ _, hx.below hba, hba⟩)
  have HCS := Lib.hid (trC15_size x)
  have hLN : (trS c x).length = (st1 { data := #[116, 120] }).length + (st1 c).length + (tr1 x).length := by simp only [trS, List.length_append]
  have HTX := Lib.hid (show (st1 { data := #[116, 120] }).length + 100 ≤ 140737488355328 from by omega)
  have HTC := Lib.hid (show (st1 { data := #[116, 120] }).length + (st1 c).length + 100 ≤ 140737488355328 from by omega)
  have HPU := Lib.hid (fun b w (hb : BytesIn w b (st1 { data := #[116, 120] } ++ st1 c)) (he : TrE w x) => show Calls Tryz.prog 56 #[b, .agg (trC15 x)] w (BsPost11 (trS c x) w) from rput15_any b _ x w hb he hf (by rw [List.length_append]; omega))
  obtain ⟨CC, hCC⟩ : ∃ z, z = trC15 x := ⟨_, rfl⟩
  rw [← hCC] at M HCS HPU ⊢
  obtain ⟨LS, hLS⟩ : ∃ z, z = trS c x := ⟨_, rfl⟩
  rw [← hLS] at HPU ⊢
  clear hl hCC hLS hx hf hba hLN
  go_enter Tryz.func17, Tryz.ntmps17
  go_upto_region 1 with (fail)
  obtain ⟨q, hq⟩ : ∃ q, q = w.heap.size := ⟨_, rfl⟩
  rw [← hq] at M ⊢
  clear hq
  generalize w.alloc (.cells CC 27) = w1 at *
  refine wp_region_T (fun W => TxB15 w q CC x W) [0, 1, 2, 3, 4, 5] (by kernel_rfl) ?_
  replace M := Lib.hid (M.out.call (Below.refl _ _).drew)
  generalize World.drew _ = d0 at *
  refine anyT_take [2, 4, 5] (i := 1) (v := .string c) rfl (by kernel_rfl) (by kernel_rfl) (by kernel_rfl) (fun _ _ _ h => h) (by kernel_rfl) (Or.inl ⟨by rfl, fun w' _ => by go_simp⟩) M.out ?_
  try simp only [List.getElem_toArray, List.getElem_cons_succ, List.getElem_cons_zero, Act.put, List.setIfInBounds_toArray, List.set_cons_zero, List.set_cons_succ]
  refine anyT_take [4, 5] (i := 3) (v := .agg CC) rfl (by kernel_rfl) (by kernel_rfl) (by kernel_rfl) (fun _ _ _ h => h) (by kernel_rfl) (rowT_yields (by rfl) 27 (.tmp 3) rfl q 0 rfl _ _ (fun _ h => rowT_range h.r) Tryz.underlying27 rfl (by rw [HCS.out]; kernel_rfl)) M.out ?_
  try simp only [List.getElem_toArray, List.getElem_cons_succ, List.getElem_cons_zero, Act.put, List.setIfInBounds_toArray, List.set_cons_zero, List.set_cons_succ]
  refine anyT_one (i := 0) (by kernel_rfl) rfl (fun K hK => ?_)
  rw [if_pos (by rfl)]
  try simp only [List.getElem_toArray, List.getElem_cons_succ, List.getElem_cons_zero]
  (go_simp; (with_reducible refine (pT0 { data := #[116, 120] } d0 HTX.out).mono ?_); rintro e x1 ⟨vx1, rfl, hx, hb⟩; have HX := Lib.hid hx; replace M := Lib.hid (M.out.call hb); clear hx hb)
  refine hK _ _ (fun _ => M.out) ?_
  clear hK K
  try simp only [List.getElem_toArray, List.getElem_cons_succ, List.getElem_cons_zero, Act.put, List.setIfInBounds_toArray, List.set_cons_zero, List.set_cons_succ]
  refine anyT_one (i := 2) (by kernel_rfl) rfl (fun K hK => ?_)
  rw [if_pos (by rfl)]
  try simp only [List.getElem_toArray, List.getElem_cons_succ, List.getElem_cons_zero]
  (go_simp; (with_reducible refine (pT15 vx1 _ c x1 HX.out HTC.out).mono ?_); rintro e x2 ⟨vx2, rfl, hx, hb⟩; replace HX := Lib.hid hx; replace M := Lib.hid (M.out.call hb); clear hx hb)
  refine hK _ _ (fun _ => M.out) ?_
  clear hK K
  try simp only [List.getElem_toArray, List.getElem_cons_succ, List.getElem_cons_zero, Act.put, List.setIfInBounds_toArray, List.set_cons_zero, List.set_cons_succ]
  refine anyT_one (i := 4) (by kernel_rfl) rfl (fun K hK => ?_)
  rw [if_pos (by rfl)]
  try simp only [List.getElem_toArray, List.getElem_cons_succ, List.getElem_cons_zero]
  (go_simp; (with_reducible refine (HPU.out vx2 x2 HX.out M.out.x).mono ?_); rintro e x3 ⟨vx3, rfl, hx, hb⟩; replace HX := Lib.hid hx; replace M := Lib.hid (M.out.call hb); clear hx hb)
  refine hK _ _ (fun _ => M.out) ?_
  clear hK K
  try simp only [List.getElem_toArray, List.getElem_cons_succ, List.getElem_cons_zero, Act.put, List.setIfInBounds_toArray, List.set_cons_zero, List.set_cons_succ]
  refine anyT_take [] (i := 5) (v := vx3) rfl (by kernel_rfl) (by kernel_rfl) (by kernel_rfl) (fun _ _ _ h => h) (by kernel_rfl) (Or.inl ⟨by rfl, fun w' _ => by go_simp⟩) M.out ?_
  try simp only [List.getElem_toArray, List.getElem_cons_succ, List.getElem_cons_zero, Act.put, List.setIfInBounds_toArray, List.set_cons_zero, List.set_cons_succ]
  refine anyT_done (by kernel_rfl) ?_ _
  go_wp2_with (fail)
  go_ret
  exact ⟨_, rfl, HX.out, M.out.b⟩
theorem chkX_ne {x : Px} {e : Nat} (h : chkX x = some e) : e ≠ 0 := by
  intro he
  subst he
  have hM : ∀ m, chkM m ≠ some 0 := fun m => by unfold chkM; repeat' split <;> simp
  have hMs : ∀ l, chkMs l ≠ some 0 := fun l => by
    induction l with
    | nil => simp [chkMs]
    | cons m r ih =>
      unfold chkMs
      cases hm : chkM m with
      | none => exact ih
      | some e => intro h2; injection h2 with h2; subst h2; exact hM m hm
  have hL : ∀ l, chkL l ≠ some 0 := fun l => by
    unfold chkL; split
    · simp
    · exact hMs l
  have hD : ∀ s, chkD s ≠ some 0 := fun s => by rcases chkD_cases s with h2 | h2 <;> rw [h2] <;> simp
  have hF : ∀ d a, chkF d a ≠ some 0 := fun d a => by
    unfold chkF
    cases hd : chkD d with
    | none => simp only; split <;> simp
    | some e => intro h2; injection h2 with h2; subst h2; exact hD d hd
  unfold chkX at h
  split at h
  · split at h
    · cases h
    · cases hf : chkF x.den x.amt with
      | some e => rw [hf] at h; simp only at h; injection h with h; subst h; exact hF _ _ hf
      | none =>
        rw [hf] at h
        simp only at h
        cases hl : chkL x.ms with
        | some e => rw [hl] at h; simp only at h; injection h with h; subst h; exact hL _ hl
        | none =>
          rw [hl] at h
          simp only at h
          split at h <;> cases h
  · cases h

set_option maxHeartbeats 8000000 in
theorem renc15_any (x : Tr) (w : World) (hx : TrE w x) (hf : TrFl x) (ha : x.acc.size ≤ 9223372036854775807) (hd : x.den.size ≤ 140737488351232) (hl : (trB x).length + 600 ≤ 140737488355328) :
    Calls Tryz.prog 12 #[.agg (trC15 x)] w fun e w' => ∃ vb, e = .returned (.tuple #[vb, .int .i64 (numE (encE (pxP x)))]) ∧ BytesIn w' vb (encL (pxP x)) ∧ Below w.heap.size w w' := by
  have hLN : (trB x).length = (tr1 x).length + (varint x.sg.length ++ x.sg).length := by simp only [trB, List.length_append]
  have hba := below_alloc w (.cells (trC15 x) 27)
  have M := Lib.hid (show TxB15 w w.heap.size (trC15 x) x (w.alloc (.cells (trC15 x) 27)) from ⟨heap_alloc_new _ _, hx.below hba, hba⟩)
  have HCS := Lib.hid (trC15_size x)
  obtain ⟨⟨ma, mc, e1⟩, ⟨sa, sc, e2⟩⟩ := hx.v
  obtain ⟨ns, hns⟩ : ∃ n, n = x.sg.length := ⟨_, rfl⟩
  have HCH := Lib.hid (fun w (h : TrE w x) => rcheck15_any x w h ha hd)
  have HPU := Lib.hid (fun w (he : TrE w x) => show Calls Tryz.prog 56 #[.slice none 0 0, .agg (trC15 x)] w (BsPost11 (tr1 x) w) from by have h := rput15_any (.slice none 0 0) [] x w (nil_in w) he hf (by simp; omega); rw [List.nil_append] at h; exact h)
  have HBY := Lib.hid (fun b w (hb : BytesIn w b (tr1 x)) (he : TrE w x) => show Calls Tryz.prog 55 #[b, .slice sa ns sc] w (BsPost11 (trB x) w) from by have h := pB15 b x.sv (tr1 x) ⟨x.sv, x.sg⟩ w hb he.s (by show (tr1 x).length + (varint x.sg.length ++ x.sg).length + 100 ≤ _; omega); rw [e2, ← hns] at h; unfold tb1 at h; unfold trB; exact h)
  have HCL := Lib.hid (fun (W : World) {g : Nat} (h : W.heap[g]? = some (.cells (trC15 x) 27 (0, 0))) => show W.cell? ⟨g, 5, none⟩ = some (.slice sa ns sc) from by rw [cell_of_row _ _ _ _ _ _ h]; unfold trC15; rw [e2, hns]; rfl)
  have HTP := Lib.hid (trB_P x)
  obtain ⟨CC, hCC⟩ : ∃ z, z = trC15 x := ⟨_, rfl⟩
  rw [← hCC] at M HCS HCH HPU HCL ⊢
  obtain ⟨X, hX⟩ : ∃ z, z = pxP x := ⟨_, rfl⟩
  rw [← hX] at HCH HTP ⊢
  obtain ⟨TB, hTB⟩ : ∃ z, z = trB x := ⟨_, rfl⟩
  have HTL := Lib.hid (show TB.length + 600 ≤ 140737488355328 from by rw [hTB]; exact hl)
  rw [← hTB] at HTP HBY
  obtain ⟨Z, hZ⟩ : ∃ z, z = chkX X := ⟨_, rfl⟩
  have HZ := Lib.hid hZ
  rw [← hZ] at HCH
  clear hl hCC hx hf hba hLN ha hd e1 e2 hns hTB hX hZ
  cases Z with
  | some e1 =>
    have hne := chkX_ne HZ.out.symm
    have HE := Lib.hid (encE_chk HZ.out.symm)
    have hz1 : ((e1 : Int) != 0) = true := by rw [bne_iff_ne]; omega
    simp only [numE] at HCH
    rw [HE.out.1, HE.out.2]
    clear hne
    go_enter Tryz.func12, Tryz.ntmps12
    go_upto_region 1 with (fail)
    obtain ⟨q, hq⟩ : ∃ q, q = w.heap.size := ⟨_, rfl⟩
    rw [← hq] at M ⊢
    clear hq
    generalize w.alloc (.cells CC 27) = w1 at *
    go_wp2_with (first
      | (refine wpList_load_rowT (by rfl) 27 (.tmp 1) rfl q 0 rfl CC _ (rowT_range M.out.r) Tryz.underlying27 rfl (by rw [HCS.out]; kernel_rfl) ?_)
      | (go_at_call 15; (with_reducible refine (HCH.out _ M.out.x).mono ?_); rintro e w2 ⟨rfl, hb⟩; replace M := Lib.hid (M.out.call hb); clear hb))
    go_ret2
    exact ⟨_, rfl, nil_in _, M.out.b⟩
  | none =>
    simp only [numE] at HCH
    have HLG := Lib.hid (fun h => encE_long HZ.out.symm h)
    have HOK := Lib.hid (fun h => encE_ok HZ.out.symm h)
    go_enter Tryz.func12, Tryz.ntmps12
    go_upto_region 1 with (fail)
    obtain ⟨q, hq⟩ : ∃ q, q = w.heap.size := ⟨_, rfl⟩
    rw [← hq] at M ⊢
    clear hq
    generalize w.alloc (.cells CC 27) = w1 at *
    go_upto_region 4 with (first
      | (refine wpList_load_rowT (by rfl) 27 (.tmp 1) rfl q 0 rfl CC _ (rowT_range M.out.r) Tryz.underlying27 rfl (by rw [HCS.out]; kernel_rfl) ?_)
      | (go_at_call 15; (with_reducible refine (HCH.out _ M.out.x).mono ?_); rintro e w2 ⟨rfl, hb⟩; replace M := Lib.hid (M.out.call hb); clear hb))
    refine wp_region_T (fun W => TxB15 w q CC x W) [0, 1, 2, 3, 4, 5] (by kernel_rfl) ?_
    replace M := Lib.hid (M.out.call (Below.refl _ _).drew)
    generalize World.drew _ = d0 at *
    refine anyT_take [3, 4, 5] (i := 2) (v := .pointer (some ⟨q, 5, none⟩)) rfl (by kernel_rfl) (by kernel_rfl) (by kernel_rfl) (fun _ _ _ h => h) (by kernel_rfl) (Or.inl ⟨by rfl, fun w' _ => by go_simp⟩) M.out ?_
    try simp only [List.getElem_toArray, List.getElem_cons_succ, List.getElem_cons_zero, Act.put, List.setIfInBounds_toArray, List.set_cons_zero, List.set_cons_succ]
    refine anyT_take [1, 4, 5] (i := 0) (v := .agg CC) rfl (by kernel_rfl) (by kernel_rfl) (by kernel_rfl) (fun _ _ _ h => h) (by kernel_rfl) (rowT_yields (by rfl) 27 (.tmp 1) rfl q 0 rfl _ _ (fun _ h => rowT_range h.r) Tryz.underlying27 rfl (by rw [HCS.out]; kernel_rfl)) M.out ?_
    try simp only [List.getElem_toArray, List.getElem_cons_succ, List.getElem_cons_zero, Act.put, List.setIfInBounds_toArray, List.set_cons_zero, List.set_cons_succ]
    refine anyT_take [4, 5] (i := 3) (v := .slice sa ns sc) rfl (by kernel_rfl) (by kernel_rfl) (by kernel_rfl) (fun _ _ _ h => h) (by kernel_rfl) (Or.inl ⟨by rfl, fun w' hS => by have c := HCL.out w' hS.r; go_simp⟩) M.out ?_
    try simp only [List.getElem_toArray, List.getElem_cons_succ, List.getElem_cons_zero, Act.put, List.setIfInBounds_toArray, List.set_cons_zero, List.set_cons_succ]
    refine anyT_one (i := 1) (by kernel_rfl) rfl (fun K hK => ?_)
    rw [if_pos (by rfl)]
    try simp only [List.getElem_toArray, List.getElem_cons_succ, List.getElem_cons_zero]
    (go_simp; (with_reducible refine (HPU.out d0 M.out.x).mono ?_); rintro e x1 ⟨vx1, rfl, hx, hb⟩; have HX := Lib.hid hx; replace M := Lib.hid (M.out.call hb); clear hx hb)
    refine hK _ _ (fun _ => M.out) ?_
    clear hK K
    try simp only [List.getElem_toArray, List.getElem_cons_succ, List.getElem_cons_zero, Act.put, List.setIfInBounds_toArray, List.set_cons_zero, List.set_cons_succ]
    refine anyT_one (i := 4) (by kernel_rfl) rfl (fun K hK => ?_)
    rw [if_pos (by rfl)]
    try simp only [List.getElem_toArray, List.getElem_cons_succ, List.getElem_cons_zero]
    (go_simp; (with_reducible refine (HBY.out vx1 x1 HX.out M.out.x).mono ?_); rintro e x2 ⟨vx2, rfl, hx, hb⟩; replace HX := Lib.hid hx; replace M := Lib.hid (M.out.call hb); clear hx hb)
    refine hK _ _ (fun _ => M.out) ?_
    clear hK K
    try simp only [List.getElem_toArray, List.getElem_cons_succ, List.getElem_cons_zero, Act.put, List.setIfInBounds_toArray, List.set_cons_zero, List.set_cons_succ]
    refine anyT_take [] (i := 5) (v := vx2) rfl (by kernel_rfl) (by kernel_rfl) (by kernel_rfl) (fun _ _ _ h => h) (by kernel_rfl) (Or.inl ⟨by rfl, fun w' _ => by go_simp⟩) M.out ?_
    try simp only [List.getElem_toArray, List.getElem_cons_succ, List.getElem_cons_zero, Act.put, List.setIfInBounds_toArray, List.set_cons_zero, List.set_cons_succ]
    refine anyT_done (by kernel_rfl) ?_ _
    obtain ⟨ya, yc, rfl, -⟩ := id HX.out
    obtain ⟨nb, hnb⟩ : ∃ n, n = TB.length := ⟨_, rfl⟩
    rw [← hnb] at HX ⊢
    have hnbI : (nb : Int) ≤ 9223372036854775807 := by have := HTL.out; omega
    by_cases hz : 65536 < nb
    · have hzI : (65536 : Int) < (nb : Int) := by omega
      have HE := Lib.hid (HLG.out (by rw [← HTP.out, ← hnb]; exact hz))
      clear hnb
      go_wp2_with (fail)
      go_ret2
      rw [HE.out.1, HE.out.2]
      exact ⟨_, rfl, nil_in _, M.out.b⟩
    · have hzI : ¬ (65536 : Int) < (nb : Int) := by omega
      have HE := Lib.hid (HOK.out (by rw [← HTP.out, ← hnb]; exact hz))
      clear hnb
      go_wp2_with (fail)
      go_ret2
      rw [HE.out.1, HE.out.2]
      exact ⟨_, rfl, by rw [← HTP.out]; exact HX.out, M.out.b⟩
/-- what lies in memory: the key, the numbers, the transaction -/
structure VrB (T : TypeId) (w : World) (q : Nat) (F : Nat → Int) (D E : Int) (C : Array Value) (x : Tr) (wr : World) : Prop where
  f : wr.heap[q]? = some (.cells (rowOf .u8 32 F) 53 (0, 0))
  p : wr.heap[q + 1]? = some (.cells (parC D E) 57 (0, 0))
  r : wr.heap[q + 2]? = some (.cells C T (0, 0))
  x : TrE wr x
  b : Below w.heap.size w wr
theorem VrB.call {T : TypeId} {w : World} {q : Nat} {F : Nat → Int} {D E : Int} {C : Array Value} {x : Tr} {wr wr' : World} (m : VrB T w q F D E C x wr) (h : Below wr.heap.size wr wr') : VrB T w q F D E C x wr' := ⟨(h.block q (bkT_lt m.f)).trans m.f, (h.block _ (bkT_lt m.p)).trans m.p, (h.block _ (bkT_lt m.r)).trans m.r, m.x.below h, m.b.trans (h.mono m.b.size)⟩
end Go.Proofs.YtejglhlodfhgkaaGreatDoor
