/- Part 39 of the proof. -/
import Derived.Test.YtejglhlodfhgkaaGreatDoorXv28
import Derived.Test.YtejglhlodfhgkaaGreatDoorXv29
import Derived.Test.YtejglhlodfhgkaaGreatDoorXv36
import Derived.Test.YtejglhlodfhgkaaGreatDoorXv38
namespace Go.Proofs.YtejglhlodfhgkaaGreatDoor
set_option linter.unusedVariables false
set_option linter.unusedSimpArgs false
open Go.RowKit
set_option maxRecDepth 100000
set_option linter.unusedSimpArgs false
set_option linter.unusedVariables false
structure TxB15 (w : World) (q : Nat) (C : Array Value) (x : Tr) (wr : World) : Prop where
  r : wr.heap[q]? = some (.cells C 27 (0, 0))
  x : TrE wr x
  b : Below w.heap.size w wr
theorem TxB15.call {w : World} {q : Nat} {C : Array Value} {x : Tr} {wr wr' : World} (m : TxB15 w q C x wr) (h : Below wr.heap.size wr wr') : TxB15 w q C x wr' := ⟨(h.block q (bkT_lt m.r)).trans m.r, m.x.below h, m.b.trans (h.mono m.b.size)⟩
theorem pT0 (s : ByteArray) (w : World) (hl : (st1 s).length + 100 ≤ 140737488355328) : Calls Tryz.prog 64 #[.slice none 0 0, .string s] w (BsPost11 (st1 s) w) := pT15 (.slice none 0 0) [] s w (nil_in w) (by simp; omega)

set_option maxHeartbeats 8000000 in
theorem rbytes15_any (c : ByteArray) (x : Tr) (w : World) (hx : TrE w x) (hf : TrFl x) (hl : (trS c x).length + 500 ≤ 140737488355328) :
    Calls Tryz.prog 17 #[.string c, .agg (trC15 x)] w (BsPost11 (trS c x) w) := by
  have hba := below_alloc w (.cells (trC15 x) 27)
  have M := Lib.hid (show TxB15 w w.heap.size (trC15 x) x (w.alloc (.cells (trC15 x) 27)) from ⟨heap_alloc_new _ _, hx.below hba, hba⟩)
  have HCS := Lib.hid (trC15_size x)
  have hLN : (trS c x).length = (st1 { data := #[116, 120] }).length + (st1 c).length + (tr1 x).length := by simp only [trS, List.length_append]
  have HTX := Lib.hid (show (st1 { data := #[116, 120] }).length + 100 ≤ 140737488355328 from by omega)
  have HTC := Lib.hid (show (st1 { data := #[116, 120] }).length + (st1 c).length + 100 ≤ 140737488355328 from by omega)
  have HPU := Lib.hid (fun b w (hb : BytesIn w b (st1 { data := #[116, 120] } ++ st1 c)) (he : TrE w x) => show Calls Tryz.prog 56 #[b, .agg (trC15 x)] w (BsPost11 (trS c x) w) from rput15_any b _ x w hb he hf (by rw [List.length_append]; omega))
  obtain ⟨CC, hCC⟩ : ∃ z, z = trC15 x := ⟨_, rfl⟩
  rw [← hCC] at M HCS HPU ⊢
  obtain ⟨LS, hLS⟩ : ∃ z, z = trS c x := ⟨_, rfl⟩
  rw [← hLS] at HPU ⊢
  clear hl hCC hLS hx hf hba hLN
  go_enter Tryz.func17, Tryz.ntmps17
  go_upto_region 1 with (fail)
  obtain ⟨q, hq⟩ : ∃ q, q = w.heap.size := ⟨_, rfl⟩
  rw [← hq] at M ⊢
  clear hq
  generalize w.alloc (.cells CC 27) = w1 at *
  refine wp_region_T (fun W => TxB15 w q CC x W) [0, 1, 2, 3, 4, 5] (by kernel_rfl) ?_
  replace M := Lib.hid (M.out.call (Below.refl _ _).drew)
  generalize World.drew _ = d0 at *
  refine anyT_take [2, 4, 5] (i := 1) (v := .string c) rfl (by kernel_rfl) (by kernel_rfl) (by kernel_rfl) (fun _ _ _ h => h) (by kernel_rfl) (Or.inl ⟨by rfl, fun w' _ => by go_simp⟩) M.out ?_
  try simp only [List.getElem_toArray, List.getElem_cons_succ, List.getElem_cons_zero, Act.put, List.setIfInBounds_toArray, List.set_cons_zero, List.set_cons_succ]
  refine anyT_take [4, 5] (i := 3) (v := .agg CC) rfl (by kernel_rfl) (by kernel_rfl) (by kernel_rfl) (fun _ _ _ h => h) (by kernel_rfl) (rowT_yields (by rfl) 27 (.tmp 3) rfl q 0 rfl _ _ (fun _ h => rowT_range h.r) Tryz.underlying27 rfl (by rw [HCS.out]; kernel_rfl)) M.out ?_
  try simp only [List.getElem_toArray, List.getElem_cons_succ, List.getElem_cons_zero, Act.put, List.setIfInBounds_toArray, List.set_cons_zero, List.set_cons_succ]
  refine anyT_one (i := 0) (by kernel_rfl) rfl (fun K hK => ?_)
  rw [if_pos (by rfl)]
  try simp only [List.getElem_toArray, List.getElem_cons_succ, List.getElem_cons_zero]
  (go_simp; (with_reducible refine (pT0 { data := #[116, 120] } d0 HTX.out).mono ?_); rintro e x1 ⟨vx1, rfl, hx, hb⟩; have HX := Lib.hid hx; replace M := Lib.hid (M.out.call hb); clear hx hb)
  refine hK _ _ (fun _ => M.out) ?_
  clear hK K
  try simp only [List.getElem_toArray, List.getElem_cons_succ, List.getElem_cons_zero, Act.put, List.setIfInBounds_toArray, List.set_cons_zero, List.set_cons_succ]
  refine anyT_one (i := 2) (by kernel_rfl) rfl (fun K hK => ?_)
  rw [if_pos (by rfl)]
  try simp only [List.getElem_toArray, List.getElem_cons_succ, List.getElem_cons_zero]
  (go_simp; (with_reducible refine (pT15 vx1 _ c x1 HX.out HTC.out).mono ?_); rintro e x2 ⟨vx2, rfl, hx, hb⟩; replace HX := Lib.hid hx; replace M := Lib.hid (M.out.call hb); clear hx hb)
  refine hK _ _ (fun _ => M.out) ?_
  clear hK K
  try simp only [List.getElem_toArray, List.getElem_cons_succ, List.getElem_cons_zero, Act.put, List.setIfInBounds_toArray, List.set_cons_zero, List.set_cons_succ]
  refine anyT_one (i := 4) (by kernel_rfl) rfl (fun K hK => ?_)
  rw [if_pos (by rfl)]
  try simp only [List.getElem_toArray, List.getElem_cons_succ, List.getElem_cons_zero]
  (go_simp; (with_reducible refine (HPU.out vx2 x2 HX.out M.out.x).mono ?_); rintro e x3 ⟨vx3, rfl, hx, hb⟩; replace HX := Lib.hid hx; replace M := Lib.hid (M.out.call hb); clear hx hb)
  refine hK _ _ (fun _ => M.out) ?_
  clear hK K
  try simp only [List.getElem_toArray, List.getElem_cons_succ, List.getElem_cons_zero, Act.put, List.setIfInBounds_toArray, List.set_cons_zero, List.set_cons_succ]
  refine anyT_take [] (i := 5) (v := vx3) rfl (by kernel_rfl) (by kernel_rfl) (by kernel_rfl) (fun _ _ _ h => h) (by kernel_rfl) (Or.inl ⟨by rfl, fun w' _ => by go_simp⟩) M.out ?_
  try simp only [List.getElem_toArray, List.getElem_cons_succ, List.getElem_cons_zero, Act.put, List.setIfInBounds_toArray, List.set_cons_zero, List.set_cons_succ]
  refine anyT_done (by kernel_rfl) ?_ _
  go_wp2_with (fail)
  go_ret
  exact ⟨_, rfl, HX.out, M.out.b⟩
theorem chkX_ne {x : Px} {e : Nat} (h : chkX x = some e) : e ≠ 0 := by
  intro he
  subst he
  have hM : ∀ m, chkM m ≠ some 0 := fun m => by unfold chkM; repeat' split <;> simp
  have hMs : ∀ l, chkMs l ≠ some 0 := fun l => by
    induction l with
    | nil => simp [chkMs]
    | cons m r ih =>
      unfold chkMs
      cases hm : chkM m with
      | none => exact ih
      | some e => intro h2; injection h2 with h2; subst h2; exact hM m hm
  have hL : ∀ l, chkL l ≠ some 0 := fun l => by
    unfold chkL; split
    · simp
    · exact hMs l
  have hD : ∀ s, chkD s ≠ some 0 := fun s => by rcases chkD_cases s with h2 | h2 <;> rw [h2] <;> simp
  have hF : ∀ d a, chkF d a ≠ some 0 := fun d a => by
    unfold chkF
    cases hd : chkD d with
    | none => simp only; split <;> simp
    | some e => intro h2; injection h2 with h2; subst h2; exact hD d hd
  unfold chkX at h
  split at h
  · split at h
    · cases h
    · cases hf : chkF x.den x.amt with
      | some e => rw [hf] at h; simp only at h; injection h with h; subst h; exact hF _ _ hf
      | none =>
        rw [hf] at h
        simp only at h
        cases hl : chkL x.ms with
        | some e => rw [hl] at h; simp only at h; injection h with h; subst h; exact hL _ hl
        | none =>
          rw [hl] at h
          simp only at h
          split at h <;> cases h
  · cases h

def verX (c : ByteArray) (F : Nat → Int) (D E : Int) (x : Px) : Option Nat := match chkX x with
  | some e => some e
  | none => if (verR F D E (pxS c x) x.sg).isNone then none else some 21
/-- what lies in memory: the key, the numbers, the transaction -/
structure VrB (T : TypeId) (w : World) (q : Nat) (F : Nat → Int) (D E : Int) (C : Array Value) (x : Tr) (wr : World) : Prop where
  f : wr.heap[q]? = some (.cells (rowOf .u8 32 F) 53 (0, 0))
  p : wr.heap[q + 1]? = some (.cells (parC D E) 57 (0, 0))
  r : wr.heap[q + 2]? = some (.cells C T (0, 0))
  x : TrE wr x
  b : Below w.heap.size w wr
theorem VrB.call {T : TypeId} {w : World} {q : Nat} {F : Nat → Int} {D E : Int} {C : Array Value} {x : Tr} {wr wr' : World} (m : VrB T w q F D E C x wr) (h : Below wr.heap.size wr wr') : VrB T w q F D E C x wr' := ⟨(h.block q (bkT_lt m.f)).trans m.f, (h.block _ (bkT_lt m.p)).trans m.p, (h.block _ (bkT_lt m.r)).trans m.r, m.x.below h, m.b.trans (h.mono m.b.size)⟩
theorem vrB_start (T : TypeId) (w : World) (F : Nat → Int) (D E : Int) (C : Array Value) (x : Tr) (hx : TrE w x) : VrB T w w.heap.size F D E C x (((w.alloc (.cells (rowOf .u8 32 F) 53)).alloc (.cells (parC D E) 57)).alloc (.cells C T)) := by
  have b1 := below_alloc w (.cells (rowOf .u8 32 F) 53)
  have b2 := below_alloc (w.alloc (.cells (rowOf .u8 32 F) 53)) (.cells (parC D E) 57)
  have b3 := below_alloc ((w.alloc (.cells (rowOf .u8 32 F) 53)).alloc (.cells (parC D E) 57)) (.cells C T)
  have h1 := heap_alloc_new w (.cells (rowOf .u8 32 F) 53)
  have h2 := heap_alloc_new (w.alloc (.cells (rowOf .u8 32 F) 53)) (.cells (parC D E) 57)
  have h3 := heap_alloc_new ((w.alloc (.cells (rowOf .u8 32 F) 53)).alloc (.cells (parC D E) 57)) (.cells C T)
  rw [size_alloc] at h2
  rw [size_alloc, size_alloc] at h3
  have hb := b1.trans ((b2.mono b1.size).trans (b3.mono (by simp; omega)))
  exact ⟨(b3.block _ (by simp only [size_alloc]; omega)).trans ((b2.block _ (by simp only [size_alloc]; omega)).trans h1), (b3.block _ (by simp only [size_alloc]; omega)).trans h2, h3, hx.below hb, hb⟩
theorem parC_size (D E : Int) : (parC D E).size = 2 := rfl

theorem verR_ne (F : Nat → Int) (D E : Int) (t s : List Int) : verR F D E t s ≠ some 0 := by
  unfold verR
  split
  · cases h : (decS s).2 with
    | some x => rw [decS_err h]; simp
    | none => simp only; split <;> simp
  · simp

set_option maxHeartbeats 8000000 in
theorem rver15_any (c : ByteArray) (F : Nat → Int) (D E : Int) (x : Tr) (w : World) (hx : TrE w x) (hf : TrFl x) (hb : bytesOk x.sg) (ha : x.acc.size ≤ 9223372036854775807) (hd : x.den.size ≤ 140737488351232) (hl : (trS c x).length + 600 ≤ 140737488355328) (hs : x.sg.length ≤ 140737488351232) :
    Calls Tryz.prog 29 #[.string c, .agg (rowOf .u8 32 F), .agg (parC D E), .agg (trC15 x)] w fun e w' => e = .returned (.int .i64 (numE (verX c F D E (pxP x)))) ∧ Below w.heap.size w w' := by
  have M := Lib.hid (vrB_start 27 w F D E (trC15 x) x hx)
  have HCS := Lib.hid (trC15_size x)
  obtain ⟨⟨ma, mc, e1⟩, ⟨sa, sc, e2⟩⟩ := hx.v
  obtain ⟨ns, hns⟩ : ∃ n, n = x.sg.length := ⟨_, rfl⟩
  have HCH := Lib.hid (fun w (h : TrE w x) => rcheck15_any x w h ha hd)
  have HBY := Lib.hid (fun w (h : TrE w x) => rbytes15_any c x w h hf (by omega))
  have HKV := Lib.hid (fun vt w (hb1 : BytesIn w vt (trS c x)) (h : TrE w x) => show Calls Tryz.prog 80 #[.agg (rowOf .u8 32 F), .agg (parC D E), vt, .slice sa ns sc] w fun e w' => e = .returned (.int .i64 (numE (verR F D E (trS c x) x.sg))) ∧ Below w.heap.size w w' from by have h2 := rkverify_any F D E vt x.sv (trS c x) x.sg w hb1 (by omega) h.s hb (by omega); rw [e2, ← hns] at h2; exact h2)
  have HCL := Lib.hid (fun (W : World) {g : Nat} (h : W.heap[g]? = some (.cells (trC15 x) 27 (0, 0))) => show W.cell? ⟨g, 5, none⟩ = some (.slice sa ns sc) from by rw [cell_of_row _ _ _ _ _ _ h]; unfold trC15; rw [e2, hns]; rfl)
  have HVX := Lib.hid (show verX c F D E (pxP x) = (match chkX (pxP x) with
    | some e => some e
    | none => if (verR F D E (trS c x) x.sg).isNone then none else some 21) from by unfold verX; rw [trS_P]; rfl)
  obtain ⟨CC, hCC⟩ : ∃ z, z = trC15 x := ⟨_, rfl⟩
  rw [← hCC] at M HCS HCH HBY HCL ⊢
  obtain ⟨VR, hVR⟩ : ∃ z, z = verR F D E (trS c x) x.sg := ⟨_, rfl⟩
  rw [← hVR] at HKV HVX
  have HNE := Lib.hid (fun e (h : chkX (pxP x) = some e) => chkX_ne h)
  have HNV := Lib.hid (show VR ≠ some 0 from by rw [hVR]; exact verR_ne _ _ _ _ _)
  obtain ⟨Z, hZ⟩ : ∃ z, z = chkX (pxP x) := ⟨_, rfl⟩
  rw [← hZ] at HCH HVX HNE
  obtain ⟨LS, hLS⟩ : ∃ z, z = trS c x := ⟨_, rfl⟩
  rw [← hLS] at HBY HKV
  obtain ⟨R, hR⟩ : ∃ z, z = verX c F D E (pxP x) := ⟨_, rfl⟩
  rw [← hR] at HVX ⊢
  clear hl hCC hx hf ha hd e1 e2 hns hVR hZ hLS hR hb hs
  go_enter Tryz.func29, Tryz.ntmps29
  go_upto_region 1 with (fail)
  obtain ⟨q, hq⟩ : ∃ q, q = w.heap.size := ⟨_, rfl⟩
  rw [← hq] at M ⊢
  generalize hA : ((w.alloc (.cells (rowOf .u8 32 F) 53)).alloc (.cells (parC D E) 57)).alloc (.cells CC 27) = w1 at *
  clear hA hq

  cases Z with
  | some e1 =>
    have HF := Lib.hid (show R = some e1 from HVX.out)
    have hne := HNE.out e1 rfl
    have hz1 : ((e1 : Int) != 0) = true := by rw [bne_iff_ne]; omega
    clear hne
    simp only [numE] at HCH
    go_wp2_with (first
      | (refine wpList_load_rowT (by rfl) 27 (.tmp 7) rfl (q + 2) 0 rfl CC _ (rowT_range M.out.r) Tryz.underlying27 rfl (by rw [HCS.out]; kernel_rfl) ?_)
      | (go_at_call 15; (with_reducible refine (HCH.out _ M.out.x).mono ?_); rintro e w2 ⟨rfl, hb⟩; replace M := Lib.hid (M.out.call hb); clear hb))
    go_ret
    exact ⟨by rw [HF.out]; rfl, M.out.b⟩
  | none =>
    simp only [numE] at HCH
    go_upto_region 4 with (first
      | (refine wpList_load_rowT (by rfl) 27 (.tmp 7) rfl (q + 2) 0 rfl CC _ (rowT_range M.out.r) Tryz.underlying27 rfl (by rw [HCS.out]; kernel_rfl) ?_)
      | (go_at_call 15; (with_reducible refine (HCH.out _ M.out.x).mono ?_); rintro e w2 ⟨rfl, hb⟩; replace M := Lib.hid (M.out.call hb); clear hb))
    refine wp_region_T (fun W => VrB 27 w q F D E CC x W) [0, 1, 2, 3, 4, 5, 6, 7, 8] (by kernel_rfl) ?_
    replace M := Lib.hid (M.out.call (Below.refl _ _).drew)
    generalize World.drew _ = d0 at *
    cases VR with
    | some v1 =>
      have HF := Lib.hid (show R = some 21 from HVX.out)
      have hnv : v1 ≠ 0 := fun h => HNV.out (by rw [h])
      have hz2 : ((v1 : Int) != 0) = true := by rw [bne_iff_ne]; omega
      clear hnv
      simp only [numE] at HKV
      refine anyT_take [6, 7, 8] (i := 5) (v := .pointer (some ⟨q + 2, 5, none⟩)) rfl (by kernel_rfl) (by kernel_rfl) (by kernel_rfl) (fun _ _ _ h => h) (by kernel_rfl) (Or.inl ⟨by rfl, fun w' _ => by go_simp⟩) M.out ?_
      try simp only [List.getElem_toArray, List.getElem_cons_succ, List.getElem_cons_zero, Act.put, List.setIfInBounds_toArray, List.set_cons_zero, List.set_cons_succ]
      refine anyT_take [4, 7, 8] (i := 2) (v := .string c) rfl (by kernel_rfl) (by kernel_rfl) (by kernel_rfl) (fun _ _ _ h => h) (by kernel_rfl) (Or.inl ⟨by rfl, fun w' _ => by go_simp⟩) M.out ?_
      try simp only [List.getElem_toArray, List.getElem_cons_succ, List.getElem_cons_zero, Act.put, List.setIfInBounds_toArray, List.set_cons_zero, List.set_cons_succ]
      refine anyT_take [7, 8] (i := 0) (v := .agg (rowOf .u8 32 F)) rfl (by kernel_rfl) (by kernel_rfl) (by kernel_rfl) (fun _ _ _ h => h) (by kernel_rfl) (rowT_yields (by rfl) 53 (.tmp 5) rfl q 0 rfl _ _ (fun _ h => rowT_range h.f) Tryz.underlying53 rfl (by rw [rowOf_size]; kernel_rfl)) M.out ?_
      try simp only [List.getElem_toArray, List.getElem_cons_succ, List.getElem_cons_zero, Act.put, List.setIfInBounds_toArray, List.set_cons_zero, List.set_cons_succ]
      refine anyT_take [7, 8] (i := 1) (v := .agg (parC D E)) rfl (by kernel_rfl) (by kernel_rfl) (by kernel_rfl) (fun _ _ _ h => h) (by kernel_rfl) (rowT_yields (by rfl) 57 (.tmp 6) rfl (q + 1) 0 rfl _ _ (fun _ h => rowT_range h.p) Tryz.underlying57 rfl (by rw [parC_size]; kernel_rfl)) M.out ?_
      try simp only [List.getElem_toArray, List.getElem_cons_succ, List.getElem_cons_zero, Act.put, List.setIfInBounds_toArray, List.set_cons_zero, List.set_cons_succ]
      refine anyT_take [4, 7, 8] (i := 3) (v := .agg CC) rfl (by kernel_rfl) (by kernel_rfl) (by kernel_rfl) (fun _ _ _ h => h) (by kernel_rfl) (rowT_yields (by rfl) 27 (.tmp 7) rfl (q + 2) 0 rfl _ _ (fun _ h => rowT_range h.r) Tryz.underlying27 rfl (by rw [HCS.out]; kernel_rfl)) M.out ?_
      try simp only [List.getElem_toArray, List.getElem_cons_succ, List.getElem_cons_zero, Act.put, List.setIfInBounds_toArray, List.set_cons_zero, List.set_cons_succ]
      refine anyT_take [7, 8] (i := 6) (v := .slice sa ns sc) rfl (by kernel_rfl) (by kernel_rfl) (by kernel_rfl) (fun _ _ _ h => h) (by kernel_rfl) (Or.inl ⟨by rfl, fun w' hS => by have c := HCL.out w' hS.r; go_simp⟩) M.out ?_
      try simp only [List.getElem_toArray, List.getElem_cons_succ, List.getElem_cons_zero, Act.put, List.setIfInBounds_toArray, List.set_cons_zero, List.set_cons_succ]
      refine anyT_one (i := 4) (by kernel_rfl) rfl (fun K hK => ?_)
      rw [if_pos (by rfl)]
      try simp only [List.getElem_toArray, List.getElem_cons_succ, List.getElem_cons_zero]
      (go_simp; (with_reducible refine (HBY.out d0 M.out.x).mono ?_); rintro e x1 ⟨vx1, rfl, hx, hb⟩; have HX := Lib.hid hx; replace M := Lib.hid (M.out.call hb); clear hx hb)
      refine hK _ _ (fun _ => M.out) ?_
      clear hK K
      try simp only [List.getElem_toArray, List.getElem_cons_succ, List.getElem_cons_zero, Act.put, List.setIfInBounds_toArray, List.set_cons_zero, List.set_cons_succ]
      refine anyT_one (i := 7) (by kernel_rfl) rfl (fun K hK => ?_)
      rw [if_pos (by rfl)]
      try simp only [List.getElem_toArray, List.getElem_cons_succ, List.getElem_cons_zero]
      (go_simp; (with_reducible refine (HKV.out vx1 x1 HX.out M.out.x).mono ?_); rintro e x2 ⟨rfl, hb⟩; replace M := Lib.hid (M.out.call hb); clear hb)
      refine hK _ _ (fun _ => M.out) ?_
      clear hK K
      try simp only [List.getElem_toArray, List.getElem_cons_succ, List.getElem_cons_zero, Act.put, List.setIfInBounds_toArray, List.set_cons_zero, List.set_cons_succ]
      refine anyT_take [] (i := 8) (v := .bool true) rfl (by kernel_rfl) (by kernel_rfl) (by kernel_rfl) (fun _ _ _ h => h) (by kernel_rfl) (Or.inl ⟨by rfl, fun w' _ => by go_simp⟩) M.out ?_
      try simp only [List.getElem_toArray, List.getElem_cons_succ, List.getElem_cons_zero, Act.put, List.setIfInBounds_toArray, List.set_cons_zero, List.set_cons_succ]
      refine anyT_done (by kernel_rfl) ?_ _
      go_wp2_with (fail)
      go_ret
      exact ⟨by rw [HF.out]; rfl, M.out.b⟩
    | none =>
      have HF := Lib.hid (show R = none from HVX.out)
      simp only [numE] at HKV
      refine anyT_take [6, 7, 8] (i := 5) (v := .pointer (some ⟨q + 2, 5, none⟩)) rfl (by kernel_rfl) (by kernel_rfl) (by kernel_rfl) (fun _ _ _ h => h) (by kernel_rfl) (Or.inl ⟨by rfl, fun w' _ => by go_simp⟩) M.out ?_
      try simp only [List.getElem_toArray, List.getElem_cons_succ, List.getElem_cons_zero, Act.put, List.setIfInBounds_toArray, List.set_cons_zero, List.set_cons_succ]
      refine anyT_take [4, 7, 8] (i := 2) (v := .string c) rfl (by kernel_rfl) (by kernel_rfl) (by kernel_rfl) (fun _ _ _ h => h) (by kernel_rfl) (Or.inl ⟨by rfl, fun w' _ => by go_simp⟩) M.out ?_
      try simp only [List.getElem_toArray, List.getElem_cons_succ, List.getElem_cons_zero, Act.put, List.setIfInBounds_toArray, List.set_cons_zero, List.set_cons_succ]
      refine anyT_take [7, 8] (i := 0) (v := .agg (rowOf .u8 32 F)) rfl (by kernel_rfl) (by kernel_rfl) (by kernel_rfl) (fun _ _ _ h => h) (by kernel_rfl) (rowT_yields (by rfl) 53 (.tmp 5) rfl q 0 rfl _ _ (fun _ h => rowT_range h.f) Tryz.underlying53 rfl (by rw [rowOf_size]; kernel_rfl)) M.out ?_
      try simp only [List.getElem_toArray, List.getElem_cons_succ, List.getElem_cons_zero, Act.put, List.setIfInBounds_toArray, List.set_cons_zero, List.set_cons_succ]
      refine anyT_take [7, 8] (i := 1) (v := .agg (parC D E)) rfl (by kernel_rfl) (by kernel_rfl) (by kernel_rfl) (fun _ _ _ h => h) (by kernel_rfl) (rowT_yields (by rfl) 57 (.tmp 6) rfl (q + 1) 0 rfl _ _ (fun _ h => rowT_range h.p) Tryz.underlying57 rfl (by rw [parC_size]; kernel_rfl)) M.out ?_
      try simp only [List.getElem_toArray, List.getElem_cons_succ, List.getElem_cons_zero, Act.put, List.setIfInBounds_toArray, List.set_cons_zero, List.set_cons_succ]
      refine anyT_take [4, 7, 8] (i := 3) (v := .agg CC) rfl (by kernel_rfl) (by kernel_rfl) (by kernel_rfl) (fun _ _ _ h => h) (by kernel_rfl) (rowT_yields (by rfl) 27 (.tmp 7) rfl (q + 2) 0 rfl _ _ (fun _ h => rowT_range h.r) Tryz.underlying27 rfl (by rw [HCS.out]; kernel_rfl)) M.out ?_
      try simp only [List.getElem_toArray, List.getElem_cons_succ, List.getElem_cons_zero, Act.put, List.setIfInBounds_toArray, List.set_cons_zero, List.set_cons_succ]
      refine anyT_take [7, 8] (i := 6) (v := .slice sa ns sc) rfl (by kernel_rfl) (by kernel_rfl) (by kernel_rfl) (fun _ _ _ h => h) (by kernel_rfl) (Or.inl ⟨by rfl, fun w' hS => by have c := HCL.out w' hS.r; go_simp⟩) M.out ?_
      try simp only [List.getElem_toArray, List.getElem_cons_succ, List.getElem_cons_zero, Act.put, List.setIfInBounds_toArray, List.set_cons_zero, List.set_cons_succ]
      refine anyT_one (i := 4) (by kernel_rfl) rfl (fun K hK => ?_)
      rw [if_pos (by rfl)]
      try simp only [List.getElem_toArray, List.getElem_cons_succ, List.getElem_cons_zero]
      (go_simp; (with_reducible refine (HBY.out d0 M.out.x).mono ?_); rintro e x1 ⟨vx1, rfl, hx, hb⟩; have HX := Lib.hid hx; replace M := Lib.hid (M.out.call hb); clear hx hb)
      refine hK _ _ (fun _ => M.out) ?_
      clear hK K
      try simp only [List.getElem_toArray, List.getElem_cons_succ, List.getElem_cons_zero, Act.put, List.setIfInBounds_toArray, List.set_cons_zero, List.set_cons_succ]
      refine anyT_one (i := 7) (by kernel_rfl) rfl (fun K hK => ?_)
      rw [if_pos (by rfl)]
      try simp only [List.getElem_toArray, List.getElem_cons_succ, List.getElem_cons_zero]
      (go_simp; (with_reducible refine (HKV.out vx1 x1 HX.out M.out.x).mono ?_); rintro e x2 ⟨rfl, hb⟩; replace M := Lib.hid (M.out.call hb); clear hb)
      refine hK _ _ (fun _ => M.out) ?_
      clear hK K
      try simp only [List.getElem_toArray, List.getElem_cons_succ, List.getElem_cons_zero, Act.put, List.setIfInBounds_toArray, List.set_cons_zero, List.set_cons_succ]
      refine anyT_take [] (i := 8) (v := .bool false) rfl (by kernel_rfl) (by kernel_rfl) (by kernel_rfl) (fun _ _ _ h => h) (by kernel_rfl) (Or.inl ⟨by rfl, fun w' _ => by go_simp⟩) M.out ?_
      try simp only [List.getElem_toArray, List.getElem_cons_succ, List.getElem_cons_zero, Act.put, List.setIfInBounds_toArray, List.set_cons_zero, List.set_cons_succ]
      refine anyT_done (by kernel_rfl) ?_ _
      go_wp2_with (fail)
      go_ret
      exact ⟨by rw [HF.out]; rfl, M.out.b⟩

set_option maxHeartbeats 8000000 in
theorem tver_any (c : ByteArray) (F : Nat → Int) (D E : Int) (x : Tr) (w : World) (he : Env w) (hT : ShTab w) (hx : TrE w x) (hf : TrFl x) (hb : bytesOk x.sg) (ha : x.acc.size ≤ 9223372036854775807) (hd : x.den.size ≤ 140737488351232) (hl : (trS c x).length + 600 ≤ 140737488355328) (hs : x.sg.length ≤ 140737488351232) :
    Calls Tryz.prog 28 #[.string c, .agg (rowOf .u8 32 F), .agg (parC D E), .agg (trC15 x)] w fun e w' => e = .returned (errV (verX c F D E (pxP x))) ∧ Below w.heap.size w w' := by
  have M := Lib.hid (vrB_start 34 w F D E (trC15 x) x hx)
  have HCS := Lib.hid (trC15_size x)
  obtain ⟨⟨ma, mc, e1⟩, ⟨sa, sc, e2⟩⟩ := hx.v
  obtain ⟨ns, hns⟩ : ∃ n, n = x.sg.length := ⟨_, rfl⟩
  have HCH := Lib.hid (fun w (hT : ShTab w) (h : TrE w x) => tcheck_any x w hT h ha hd)
  have HEN := Lib.hid (he.below M.out.b he.lt)
  have HTT := Lib.hid (hT.below M.out.b hT.lt)
  have HBY := Lib.hid (fun w (h : TrE w x) => show Calls Tryz.prog 16 #[.string c, .agg (trC15 x)] w (BsPost11 (trS c x) w) from tbytes_any c x w h hf (by omega))
  have HKV := Lib.hid (fun vt w (he : Env w) (hb1 : BytesIn w vt (trS c x)) (h : TrE w x) => show Calls Tryz.prog 79 #[.agg (rowOf .u8 32 F), .agg (parC D E), vt, .slice sa ns sc] w fun e w' => e = .returned (errV (verR F D E (trS c x) x.sg)) ∧ Below w.heap.size w w' from by have h2 := kverify_any F D E vt x.sv (trS c x) x.sg w he hb1 h.s hb (by omega); rw [e2, ← hns] at h2; exact h2)
  have HCL := Lib.hid (fun (W : World) {g : Nat} (h : W.heap[g]? = some (.cells (trC15 x) 34 (0, 0))) => show W.cell? ⟨g, 5, none⟩ = some (.slice sa ns sc) from by rw [cell_of_row _ _ _ _ _ _ h]; unfold trC15; rw [e2, hns]; rfl)
  have HVX := Lib.hid (show verX c F D E (pxP x) = (match chkX (pxP x) with
    | some e => some e
    | none => if (verR F D E (trS c x) x.sg).isNone then none else some 21) from by unfold verX; rw [trS_P]; rfl)
  obtain ⟨CC, hCC⟩ : ∃ z, z = trC15 x := ⟨_, rfl⟩
  rw [← hCC] at M HCS HCH HBY HCL HEN HTT ⊢
  obtain ⟨VR, hVR⟩ : ∃ z, z = verR F D E (trS c x) x.sg := ⟨_, rfl⟩
  rw [← hVR] at HKV HVX
  have HNE := Lib.hid (fun e (h : chkX (pxP x) = some e) => chkX_ne h)
  have HNV := Lib.hid (show VR ≠ some 0 from by rw [hVR]; exact verR_ne _ _ _ _ _)
  obtain ⟨Z, hZ⟩ : ∃ z, z = chkX (pxP x) := ⟨_, rfl⟩
  rw [← hZ] at HCH HVX HNE
  obtain ⟨LS, hLS⟩ : ∃ z, z = trS c x := ⟨_, rfl⟩
  rw [← hLS] at HBY HKV
  obtain ⟨R, hR⟩ : ∃ z, z = verX c F D E (pxP x) := ⟨_, rfl⟩
  rw [← hR] at HVX ⊢
  clear hl hCC hx hf ha hd e1 e2 hns hVR hZ hLS hR hb hs he hT
  go_enter Tryz.func28, Tryz.ntmps28
  go_upto_region 1 with (fail)
  obtain ⟨q, hq⟩ : ∃ q, q = w.heap.size := ⟨_, rfl⟩
  rw [← hq] at M ⊢
  generalize hA : ((w.alloc (.cells (rowOf .u8 32 F) 53)).alloc (.cells (parC D E) 57)).alloc (.cells CC 34) = w1 at *
  clear hA hq

  cases Z with
  | some e1 =>
    have HF := Lib.hid (show R = some e1 from HVX.out)
    have hne := HNE.out e1 rfl
    have hz1 : ((e1 : Int) != 0) = true := by rw [bne_iff_ne]; omega
    clear hne
    simp only [errV] at HCH
    go_wp2_with (first
      | (refine wpList_load_rowT (by rfl) 34 (.tmp 7) rfl (q + 2) 0 rfl CC _ (rowT_range M.out.r) Tryz.underlying34 rfl (by rw [HCS.out]; kernel_rfl) ?_)
      | (go_at_call 14; (with_reducible refine (HCH.out _ HTT.out M.out.x).mono ?_); rintro e w2 ⟨rfl, hb⟩; replace M := Lib.hid (M.out.call hb); replace HEN := Lib.hid (HEN.out.below hb HEN.out.lt); clear hb))
    go_ret
    exact ⟨by rw [HF.out]; rfl, M.out.b⟩
  | none =>
    simp only [errV] at HCH
    go_upto_region 4 with (first
      | (refine wpList_load_rowT (by rfl) 34 (.tmp 7) rfl (q + 2) 0 rfl CC _ (rowT_range M.out.r) Tryz.underlying34 rfl (by rw [HCS.out]; kernel_rfl) ?_)
      | (go_at_call 14; (with_reducible refine (HCH.out _ HTT.out M.out.x).mono ?_); rintro e w2 ⟨rfl, hb⟩; replace M := Lib.hid (M.out.call hb); replace HEN := Lib.hid (HEN.out.below hb HEN.out.lt); clear hb))
    refine wp_region_T (fun W => VrB 34 w q F D E CC x W) [0, 1, 2, 3, 4, 5, 6, 7, 8] (by kernel_rfl) ?_
    replace M := Lib.hid (M.out.call (Below.refl _ _).drew)
    replace HEN := Lib.hid (HEN.out.below (Below.refl _ _).drew HEN.out.lt)
    generalize World.drew _ = d0 at *
    cases VR with
    | some v1 =>
      have HF := Lib.hid (show R = some 21 from HVX.out)
      have hnv : v1 ≠ 0 := fun h => HNV.out (by rw [h])
      have hz2 : ((v1 : Int) != 0) = true := by rw [bne_iff_ne]; omega
      clear hnv
      simp only [errV] at HKV
      refine anyT_take [6, 7, 8] (i := 5) (v := .pointer (some ⟨q + 2, 5, none⟩)) rfl (by kernel_rfl) (by kernel_rfl) (by kernel_rfl) (fun _ _ _ h => h) (by kernel_rfl) (Or.inl ⟨by rfl, fun w' _ => by go_simp⟩) M.out ?_
      try simp only [List.getElem_toArray, List.getElem_cons_succ, List.getElem_cons_zero, Act.put, List.setIfInBounds_toArray, List.set_cons_zero, List.set_cons_succ]
      refine anyT_take [4, 7, 8] (i := 2) (v := .string c) rfl (by kernel_rfl) (by kernel_rfl) (by kernel_rfl) (fun _ _ _ h => h) (by kernel_rfl) (Or.inl ⟨by rfl, fun w' _ => by go_simp⟩) M.out ?_
      try simp only [List.getElem_toArray, List.getElem_cons_succ, List.getElem_cons_zero, Act.put, List.setIfInBounds_toArray, List.set_cons_zero, List.set_cons_succ]
      refine anyT_take [7, 8] (i := 0) (v := .agg (rowOf .u8 32 F)) rfl (by kernel_rfl) (by kernel_rfl) (by kernel_rfl) (fun _ _ _ h => h) (by kernel_rfl) (rowT_yields (by rfl) 53 (.tmp 5) rfl q 0 rfl _ _ (fun _ h => rowT_range h.f) Tryz.underlying53 rfl (by rw [rowOf_size]; kernel_rfl)) M.out ?_
      try simp only [List.getElem_toArray, List.getElem_cons_succ, List.getElem_cons_zero, Act.put, List.setIfInBounds_toArray, List.set_cons_zero, List.set_cons_succ]
      refine anyT_take [7, 8] (i := 1) (v := .agg (parC D E)) rfl (by kernel_rfl) (by kernel_rfl) (by kernel_rfl) (fun _ _ _ h => h) (by kernel_rfl) (rowT_yields (by rfl) 57 (.tmp 6) rfl (q + 1) 0 rfl _ _ (fun _ h => rowT_range h.p) Tryz.underlying57 rfl (by rw [parC_size]; kernel_rfl)) M.out ?_
      try simp only [List.getElem_toArray, List.getElem_cons_succ, List.getElem_cons_zero, Act.put, List.setIfInBounds_toArray, List.set_cons_zero, List.set_cons_succ]
      refine anyT_take [4, 7, 8] (i := 3) (v := .agg CC) rfl (by kernel_rfl) (by kernel_rfl) (by kernel_rfl) (fun _ _ _ h => h) (by kernel_rfl) (rowT_yields (by rfl) 34 (.tmp 7) rfl (q + 2) 0 rfl _ _ (fun _ h => rowT_range h.r) Tryz.underlying34 rfl (by rw [HCS.out]; kernel_rfl)) M.out ?_
      try simp only [List.getElem_toArray, List.getElem_cons_succ, List.getElem_cons_zero, Act.put, List.setIfInBounds_toArray, List.set_cons_zero, List.set_cons_succ]
      refine anyT_take [7, 8] (i := 6) (v := .slice sa ns sc) rfl (by kernel_rfl) (by kernel_rfl) (by kernel_rfl) (fun _ _ _ h => h) (by kernel_rfl) (Or.inl ⟨by rfl, fun w' hS => by have c := HCL.out w' hS.r; go_simp⟩) M.out ?_
      try simp only [List.getElem_toArray, List.getElem_cons_succ, List.getElem_cons_zero, Act.put, List.setIfInBounds_toArray, List.set_cons_zero, List.set_cons_succ]
      refine anyT_one (i := 4) (by kernel_rfl) rfl (fun K hK => ?_)
      rw [if_pos (by rfl)]
      try simp only [List.getElem_toArray, List.getElem_cons_succ, List.getElem_cons_zero]
      (go_simp; (with_reducible refine (HBY.out d0 M.out.x).mono ?_); rintro e x1 ⟨vx1, rfl, hx, hb⟩; have HX := Lib.hid hx; replace M := Lib.hid (M.out.call hb); replace HEN := Lib.hid (HEN.out.below hb HEN.out.lt); clear hx hb)
      refine hK _ _ (fun _ => M.out) ?_
      clear hK K
      try simp only [List.getElem_toArray, List.getElem_cons_succ, List.getElem_cons_zero, Act.put, List.setIfInBounds_toArray, List.set_cons_zero, List.set_cons_succ]
      refine anyT_one (i := 7) (by kernel_rfl) rfl (fun K hK => ?_)
      rw [if_pos (by rfl)]
      try simp only [List.getElem_toArray, List.getElem_cons_succ, List.getElem_cons_zero]
      (go_simp; (with_reducible refine (HKV.out vx1 x1 HEN.out HX.out M.out.x).mono ?_); rintro e x2 ⟨rfl, hb⟩; replace M := Lib.hid (M.out.call hb); clear hb)
      refine hK _ _ (fun _ => M.out) ?_
      clear hK K
      try simp only [List.getElem_toArray, List.getElem_cons_succ, List.getElem_cons_zero, Act.put, List.setIfInBounds_toArray, List.set_cons_zero, List.set_cons_succ]
      refine anyT_take [] (i := 8) (v := .bool true) rfl (by kernel_rfl) (by kernel_rfl) (by kernel_rfl) (fun _ _ _ h => h) (by kernel_rfl) (Or.inl ⟨by rfl, fun w' _ => by go_simp⟩) M.out ?_
      try simp only [List.getElem_toArray, List.getElem_cons_succ, List.getElem_cons_zero, Act.put, List.setIfInBounds_toArray, List.set_cons_zero, List.set_cons_succ]
      refine anyT_done (by kernel_rfl) ?_ _
      go_wp2_with (fail)
      go_ret
      exact ⟨by rw [HF.out]; rfl, M.out.b⟩
    | none =>
      have HF := Lib.hid (show R = none from HVX.out)
      simp only [errV] at HKV
      refine anyT_take [6, 7, 8] (i := 5) (v := .pointer (some ⟨q + 2, 5, none⟩)) rfl (by kernel_rfl) (by kernel_rfl) (by kernel_rfl) (fun _ _ _ h => h) (by kernel_rfl) (Or.inl ⟨by rfl, fun w' _ => by go_simp⟩) M.out ?_
      try simp only [List.getElem_toArray, List.getElem_cons_succ, List.getElem_cons_zero, Act.put, List.setIfInBounds_toArray, List.set_cons_zero, List.set_cons_succ]
      refine anyT_take [4, 7, 8] (i := 2) (v := .string c) rfl (by kernel_rfl) (by kernel_rfl) (by kernel_rfl) (fun _ _ _ h => h) (by kernel_rfl) (Or.inl ⟨by rfl, fun w' _ => by go_simp⟩) M.out ?_
      try simp only [List.getElem_toArray, List.getElem_cons_succ, List.getElem_cons_zero, Act.put, List.setIfInBounds_toArray, List.set_cons_zero, List.set_cons_succ]
      refine anyT_take [7, 8] (i := 0) (v := .agg (rowOf .u8 32 F)) rfl (by kernel_rfl) (by kernel_rfl) (by kernel_rfl) (fun _ _ _ h => h) (by kernel_rfl) (rowT_yields (by rfl) 53 (.tmp 5) rfl q 0 rfl _ _ (fun _ h => rowT_range h.f) Tryz.underlying53 rfl (by rw [rowOf_size]; kernel_rfl)) M.out ?_
      try simp only [List.getElem_toArray, List.getElem_cons_succ, List.getElem_cons_zero, Act.put, List.setIfInBounds_toArray, List.set_cons_zero, List.set_cons_succ]
      refine anyT_take [7, 8] (i := 1) (v := .agg (parC D E)) rfl (by kernel_rfl) (by kernel_rfl) (by kernel_rfl) (fun _ _ _ h => h) (by kernel_rfl) (rowT_yields (by rfl) 57 (.tmp 6) rfl (q + 1) 0 rfl _ _ (fun _ h => rowT_range h.p) Tryz.underlying57 rfl (by rw [parC_size]; kernel_rfl)) M.out ?_
      try simp only [List.getElem_toArray, List.getElem_cons_succ, List.getElem_cons_zero, Act.put, List.setIfInBounds_toArray, List.set_cons_zero, List.set_cons_succ]
      refine anyT_take [4, 7, 8] (i := 3) (v := .agg CC) rfl (by kernel_rfl) (by kernel_rfl) (by kernel_rfl) (fun _ _ _ h => h) (by kernel_rfl) (rowT_yields (by rfl) 34 (.tmp 7) rfl (q + 2) 0 rfl _ _ (fun _ h => rowT_range h.r) Tryz.underlying34 rfl (by rw [HCS.out]; kernel_rfl)) M.out ?_
      try simp only [List.getElem_toArray, List.getElem_cons_succ, List.getElem_cons_zero, Act.put, List.setIfInBounds_toArray, List.set_cons_zero, List.set_cons_succ]
      refine anyT_take [7, 8] (i := 6) (v := .slice sa ns sc) rfl (by kernel_rfl) (by kernel_rfl) (by kernel_rfl) (fun _ _ _ h => h) (by kernel_rfl) (Or.inl ⟨by rfl, fun w' hS => by have c := HCL.out w' hS.r; go_simp⟩) M.out ?_
      try simp only [List.getElem_toArray, List.getElem_cons_succ, List.getElem_cons_zero, Act.put, List.setIfInBounds_toArray, List.set_cons_zero, List.set_cons_succ]
      refine anyT_one (i := 4) (by kernel_rfl) rfl (fun K hK => ?_)
      rw [if_pos (by rfl)]
      try simp only [List.getElem_toArray, List.getElem_cons_succ, List.getElem_cons_zero]
      (go_simp; (with_reducible refine (HBY.out d0 M.out.x).mono ?_); rintro e x1 ⟨vx1, rfl, hx, hb⟩; have HX := Lib.hid hx; replace M := Lib.hid (M.out.call hb); replace HEN := Lib.hid (HEN.out.below hb HEN.out.lt); clear hx hb)
      refine hK _ _ (fun _ => M.out) ?_
      clear hK K
      try simp only [List.getElem_toArray, List.getElem_cons_succ, List.getElem_cons_zero, Act.put, List.setIfInBounds_toArray, List.set_cons_zero, List.set_cons_succ]
      refine anyT_one (i := 7) (by kernel_rfl) rfl (fun K hK => ?_)
      rw [if_pos (by rfl)]
      try simp only [List.getElem_toArray, List.getElem_cons_succ, List.getElem_cons_zero]
      (go_simp; (with_reducible refine (HKV.out vx1 x1 HEN.out HX.out M.out.x).mono ?_); rintro e x2 ⟨rfl, hb⟩; replace M := Lib.hid (M.out.call hb); clear hb)
      refine hK _ _ (fun _ => M.out) ?_
      clear hK K
      try simp only [List.getElem_toArray, List.getElem_cons_succ, List.getElem_cons_zero, Act.put, List.setIfInBounds_toArray, List.set_cons_zero, List.set_cons_succ]
      refine anyT_take [] (i := 8) (v := .bool false) rfl (by kernel_rfl) (by kernel_rfl) (by kernel_rfl) (fun _ _ _ h => h) (by kernel_rfl) (Or.inl ⟨by rfl, fun w' _ => by go_simp⟩) M.out ?_
      try simp only [List.getElem_toArray, List.getElem_cons_succ, List.getElem_cons_zero, Act.put, List.setIfInBounds_toArray, List.set_cons_zero, List.set_cons_succ]
      refine anyT_done (by kernel_rfl) ?_ _
      go_wp2_with (fail)
      go_ret
      exact ⟨by rw [HF.out]; rfl, M.out.b⟩

end Go.Proofs.YtejglhlodfhgkaaGreatDoor
