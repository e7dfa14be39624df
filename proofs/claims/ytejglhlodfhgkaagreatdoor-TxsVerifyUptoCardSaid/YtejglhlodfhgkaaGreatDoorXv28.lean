/- Part 28 of the proof. -/
import Derived.Test.YtejglhlodfhgkaaGreatDoorXv24
import Derived.Test.YtejglhlodfhgkaaGreatDoorXv26
import Derived.Test.YtejglhlodfhgkaaGreatDoorXv27
namespace Go.Proofs.YtejglhlodfhgkaaGreatDoor
set_option linter.unusedVariables false
set_option linter.unusedSimpArgs false
open Go.RowKit
set_option maxRecDepth 100000
set_option linter.unusedSimpArgs false
set_option linter.unusedVariables false
theorem pT15 (b : Value) (bs : List Int) (s : ByteArray) (w : World) (hb : BytesIn w b bs) (hl : bs.length + (st1 s).length + 100 ≤ 140737488355328) : Calls Tryz.prog 64 #[b, .string s] w (BsPost11 (bs ++ st1 s) w) := dText11_any b bs s w hb (by rw [st1_len] at hl; omega)
theorem pI15 (b : Value) (bs : List Int) (i : Int) (w : World) (hb : BytesIn w b bs) (hi : i64b i) (hl : bs.length + (it1 i).length + 100 ≤ 140737488355328) : Calls Tryz.prog 123 #[b, .int .i64 i] w (BsPost11 (bs ++ it1 i) w) :=
  (dInt_any b bs i w hb hi.1 hi.2 (by omega)).mono fun e w' hp => refL_next hp (by rw [List.length_append]; unfold maxLen; first | omega | (unfold it1 at hl; omega))
theorem pU15 (b : Value) (bs : List Int) (n : Nat) (w : World) (hb : BytesIn w b bs) (hn : n < 18446744073709551616) (hl : bs.length + (varint n).length + 100 ≤ 140737488355328) : Calls Tryz.prog 122 #[b, .int .u64 (n : Int)] w (BsPost11 (bs ++ varint n) w) :=
  (dUint_any b bs n w hb hn (by omega)).mono fun e w' hp => refL_next hp (by rw [List.length_append]; unfold maxLen; omega)
theorem pB15 (b y : Value) (bs : List Int) (t : Tb) (w : World) (hb : BytesIn w b bs) (hy : BytesIn w y t.bs) (hl : bs.length + (tb1 t).length + 100 ≤ 140737488355328) : Calls Tryz.prog 55 #[b, y] w (BsPost11 (bs ++ tb1 t) w) :=
  (dBytes_any b y bs t.bs w hb hy (by unfold tb1 at hl; rw [List.length_append] at hl; omega)).mono fun e w' hp => refL_next hp (by rw [List.length_append]; unfold maxLen; omega)
/-- what lies in memory while a message is laid -/
structure PuM15 (w : World) (q g : Nat) (C MC : Array Value) (mv : Value) (ms : List Mg) (m : Mg) (wr : World) : Prop where
  k : CkM15 w q C mv ms wr
  g : wr.heap[g]? = some (.cells MC 112 (0, 0))
  e : MgE wr m
theorem PuM15.call {w : World} {q g : Nat} {C MC : Array Value} {mv : Value} {ms : List Mg} {m : Mg} {wr w' : World} (h : PuM15 w q g C MC mv ms m wr) (hb : Below wr.heap.size wr w') : PuM15 w q g C MC mv ms m w' := ⟨h.k.call hb, (hb.block g (bkT_lt h.g)).trans h.g, h.e.below hb⟩
def PuR15 (w : World) (q : Nat) (C : Array Value) (mv : Value) (ms : List Mg) (Z : List Int) (k : Nat) (y : Value) (wr : World) : Prop := CkM15 w q C mv ms wr ∧ BytesIn wr y (Z ++ catL mg1 (ms.take k))
def PuL15 {α : Type} (w : World) (q g : Nat) (C MC : Array Value) (mv : Value) (ms : List Mg) (m : Mg) (f : α → List Int) (l : List α) (Z : List Int) (j : Nat) (y : Value) (wr : World) : Prop := PuM15 w q g C MC mv ms m wr ∧ BytesIn wr y (Z ++ catL f (l.take j))

set_option maxHeartbeats 16000000 in
theorem rput15_any (b : Value) (bs : List Int) (x : Tr) (w : World) (hb : BytesIn w b bs) (hx : TrE w x) (hf : TrFl x) (room : bs.length + (tr1 x).length + 400 ≤ 140737488355328) :
    Calls Tryz.prog 56 #[b, .agg (trC15 x)] w (BsPost11 (bs ++ tr1 x) w) := by
  obtain ⟨ac, S, dn, A, mv, ms, sv, sg⟩ := x
  obtain ⟨⟨a1, c1, e1⟩, ⟨a2, c2, e2⟩⟩ := hx.v
  simp only at e1 e2
  subst e1 e2
  obtain ⟨n1, hn1⟩ : ∃ z, z = ms.length := ⟨_, rfl⟩
  obtain ⟨n2, hn2⟩ : ∃ z, z = sg.length := ⟨_, rfl⟩
  have hCe : trC15 ⟨ac, S, dn, A, .slice a1 ms.length c1, ms, .slice a2 sg.length c2, sg⟩ = #[.string ac, .int .i64 S, .string dn, .int .i64 A, .slice a1 n1 c1, .slice a2 n2 c2] := by rw [hn1, hn2]; rfl
  rw [hCe]
  have hba := below_alloc w (.cells #[.string ac, .int .i64 S, .string dn, .int .i64 A, .slice a1 n1 c1, .slice a2 n2 c2] 27)
  have M := Lib.hid (show CkM15 w w.heap.size #[.string ac, .int .i64 S, .string dn, .int .i64 A, .slice a1 n1 c1, .slice a2 n2 c2] (.slice a1 n1 c1) ms (w.alloc (.cells #[.string ac, .int .i64 S, .string dn, .int .i64 A, .slice a1 n1 c1, .slice a2 n2 c2] 27)) from ⟨hba, heap_alloc_new w _, MsK.below ⟨by rw [hn1]; exact hx.m, hx.e⟩ hba⟩)
  have HX := Lib.hid (hb.below hba)
  have hn1m : n1 ≤ 9223372036854775807 := by
    obtain ⟨_, _, _, _, h2⟩ := hx.m.len
    simp only at h2
    unfold maxLen at h2
    omega
  have hn1I : (n1 : Int) ≤ 9223372036854775807 := by omega
  have hn64 : n1 < 18446744073709551616 := by omega
  have hu : IntKind.u64.wrap (n1 : Int) = (n1 : Int) := IntWalk.u64_in _ (by omega)
  have HN1 := Lib.hid hn1
  have HFL := Lib.hid (show i64b S ∧ i64b A from ⟨hf.s, hf.a⟩)
  have HFM := Lib.hid hf.m
  have HTR := Lib.hid (show tr1 ⟨ac, S, dn, A, .slice a1 ms.length c1, ms, .slice a2 sg.length c2, sg⟩ = (((st1 ac ++ it1 S) ++ st1 dn) ++ it1 A) ++ (varint n1 ++ catL mg1 ms) from by rw [hn1]; rfl)
  have HRO := Lib.hid (show bs.length + (st1 ac).length + (it1 S).length + (st1 dn).length + (it1 A).length + (varint n1).length + (catL mg1 ms).length + 400 ≤ 140737488355328 from by have h := room; rw [HTR.out] at h; simp only [List.length_append] at h; omega)
  rw [HTR.out]
  obtain ⟨CC, hCC⟩ : ∃ z : Array Value, z = #[.string ac, .int .i64 S, .string dn, .int .i64 A, .slice a1 n1 c1, .slice a2 n2 c2] := ⟨_, rfl⟩
  have HTC := Lib.hid (fun (W : World) (h : CkM15 w w.heap.size CC (.slice a1 n1 c1) ms W) => tx_cells (show W.heap[w.heap.size]? = some (.cells #[.string ac, .int .i64 S, .string dn, .int .i64 A, .slice a1 n1 c1, .slice a2 n2 c2] 27 (0, 0)) from by rw [← hCC]; exact h.r))
  rw [← hCC] at M HX ⊢
  obtain ⟨PO, hPO⟩ : ∃ z, z = BsPost11 (bs ++ ((((st1 ac ++ it1 S) ++ st1 dn) ++ it1 A) ++ (varint n1 ++ catL mg1 ms))) w := ⟨_, rfl⟩
  have HPO := Lib.hid hPO
  rw [← hPO]
  clear hn1 hn2 hCe hx hba hb hf room hCC HTR hn1m hPO
  go_enter Tryz.func56, Tryz.ntmps56
  go_upto_region 1 with (fail)
  obtain ⟨q, hq⟩ : ∃ z, z = w.heap.size := ⟨_, rfl⟩
  rw [← hq] at M HTC ⊢
  have HWQ := Lib.hid hq
  clear hq
  generalize w.alloc (.cells CC 27) = w1 at *
  refine wp_region_T (fun W => CkM15 w q CC (.slice a1 n1 c1) ms W) [0, 1, 2, 3, 4, 5, 6, 7, 8, 9, 10, 11, 12, 13, 14, 15] (by kernel_rfl) ?_
  replace M := Lib.hid (M.out.call (Below.refl _ _).drew)
  replace HX := Lib.hid (HX.out.below (Below.refl _ _).drew)
  generalize World.drew _ = d0 at *
  refine anyT_take [3, 6, 10, 14, 15] (i := 0) (v := b) rfl (by kernel_rfl) (by kernel_rfl) (by kernel_rfl) (fun _ _ _ h => h) (by kernel_rfl) (Or.inl ⟨by rfl, fun w' _ => by go_simp⟩) M.out ?_
  try simp only [List.getElem_toArray, List.getElem_cons_succ, List.getElem_cons_zero, Act.put, List.setIfInBounds_toArray, List.set_cons_zero, List.set_cons_succ]
  refine anyT_take [2, 3, 6, 10, 14, 15] (i := 1) (v := .pointer (some ⟨q, 0, none⟩)) rfl (by kernel_rfl) (by kernel_rfl) (by kernel_rfl) (fun _ _ _ h => h) (by kernel_rfl) (Or.inl ⟨by rfl, fun w' _ => by go_simp⟩) M.out ?_
  try simp only [List.getElem_toArray, List.getElem_cons_succ, List.getElem_cons_zero, Act.put, List.setIfInBounds_toArray, List.set_cons_zero, List.set_cons_succ]
  refine anyT_take [5, 6, 10, 14, 15] (i := 4) (v := .pointer (some ⟨q, 1, none⟩)) rfl (by kernel_rfl) (by kernel_rfl) (by kernel_rfl) (fun _ _ _ h => h) (by kernel_rfl) (Or.inl ⟨by rfl, fun w' _ => by go_simp⟩) M.out ?_
  try simp only [List.getElem_toArray, List.getElem_cons_succ, List.getElem_cons_zero, Act.put, List.setIfInBounds_toArray, List.set_cons_zero, List.set_cons_succ]
  refine anyT_take [8, 9, 10, 14, 15] (i := 7) (v := .pointer (some ⟨q, 2, none⟩)) rfl (by kernel_rfl) (by kernel_rfl) (by kernel_rfl) (fun _ _ _ h => h) (by kernel_rfl) (Or.inl ⟨by rfl, fun w' _ => by go_simp⟩) M.out ?_
  try simp only [List.getElem_toArray, List.getElem_cons_succ, List.getElem_cons_zero, Act.put, List.setIfInBounds_toArray, List.set_cons_zero, List.set_cons_succ]
  refine anyT_take [9, 10, 14, 15] (i := 8) (v := .pointer (some ⟨q, 2, none⟩)) rfl (by kernel_rfl) (by kernel_rfl) (by kernel_rfl) (fun _ _ _ h => h) (by kernel_rfl) (Or.inl ⟨by rfl, fun w' _ => by go_simp⟩) M.out ?_
  try simp only [List.getElem_toArray, List.getElem_cons_succ, List.getElem_cons_zero, Act.put, List.setIfInBounds_toArray, List.set_cons_zero, List.set_cons_succ]
  refine anyT_take [12, 13, 14, 15] (i := 11) (v := .pointer (some ⟨q, 2, none⟩)) rfl (by kernel_rfl) (by kernel_rfl) (by kernel_rfl) (fun _ _ _ h => h) (by kernel_rfl) (Or.inl ⟨by rfl, fun w' _ => by go_simp⟩) M.out ?_
  try simp only [List.getElem_toArray, List.getElem_cons_succ, List.getElem_cons_zero, Act.put, List.setIfInBounds_toArray, List.set_cons_zero, List.set_cons_succ]
  refine anyT_take [13, 14, 15] (i := 12) (v := .pointer (some ⟨q, 3, none⟩)) rfl (by kernel_rfl) (by kernel_rfl) (by kernel_rfl) (fun _ _ _ h => h) (by kernel_rfl) (Or.inl ⟨by rfl, fun w' _ => by go_simp⟩) M.out ?_
  try simp only [List.getElem_toArray, List.getElem_cons_succ, List.getElem_cons_zero, Act.put, List.setIfInBounds_toArray, List.set_cons_zero, List.set_cons_succ]
  refine anyT_take [3, 6, 10, 14, 15] (i := 2) (v := .string ac) rfl (by kernel_rfl) (by kernel_rfl) (by kernel_rfl) (fun _ _ _ h => h) (by kernel_rfl) (Or.inl ⟨by rfl, fun w' hS => by have c := (HTC.out w' hS).1; go_simp⟩) M.out ?_
  try simp only [List.getElem_toArray, List.getElem_cons_succ, List.getElem_cons_zero, Act.put, List.setIfInBounds_toArray, List.set_cons_zero, List.set_cons_succ]
  refine anyT_take [6, 10, 14, 15] (i := 5) (v := .int .i64 S) rfl (by kernel_rfl) (by kernel_rfl) (by kernel_rfl) (fun _ _ _ h => h) (by kernel_rfl) (Or.inl ⟨by rfl, fun w' hS => by have c := (HTC.out w' hS).2.1; go_simp⟩) M.out ?_
  try simp only [List.getElem_toArray, List.getElem_cons_succ, List.getElem_cons_zero, Act.put, List.setIfInBounds_toArray, List.set_cons_zero, List.set_cons_succ]
  refine anyT_take [10, 14, 15] (i := 9) (v := .string dn) rfl (by kernel_rfl) (by kernel_rfl) (by kernel_rfl) (fun _ _ _ h => h) (by kernel_rfl) (Or.inl ⟨by rfl, fun w' hS => by have c := (HTC.out w' hS).2.2.2.1; go_simp⟩) M.out ?_
  try simp only [List.getElem_toArray, List.getElem_cons_succ, List.getElem_cons_zero, Act.put, List.setIfInBounds_toArray, List.set_cons_zero, List.set_cons_succ]
  refine anyT_take [14, 15] (i := 13) (v := .int .i64 A) rfl (by kernel_rfl) (by kernel_rfl) (by kernel_rfl) (fun _ _ _ h => h) (by kernel_rfl) (Or.inl ⟨by rfl, fun w' hS => by have c := (HTC.out w' hS).2.2.2.2.1; go_simp⟩) M.out ?_
  try simp only [List.getElem_toArray, List.getElem_cons_succ, List.getElem_cons_zero, Act.put, List.setIfInBounds_toArray, List.set_cons_zero, List.set_cons_succ]
  refine anyT_one (i := 3) (by kernel_rfl) rfl (fun K hK => ?_)
  rw [if_pos (by rfl)]
  try simp only [List.getElem_toArray, List.getElem_cons_succ, List.getElem_cons_zero]
  (go_simp; (with_reducible refine (pT15 b _ ac d0 HX.out (by have h0 := HRO.out; (try simp only [List.length_append]); omega)).mono ?_); rintro e x1 ⟨vx1, rfl, hx, hb⟩; replace HX := Lib.hid hx; replace M := Lib.hid (M.out.call hb); clear hx hb)
  refine hK _ _ (fun _ => M.out) ?_
  clear hK K
  try simp only [List.getElem_toArray, List.getElem_cons_succ, List.getElem_cons_zero, Act.put, List.setIfInBounds_toArray, List.set_cons_zero, List.set_cons_succ]
  refine anyT_one (i := 6) (by kernel_rfl) rfl (fun K hK => ?_)
  rw [if_pos (by rfl)]
  try simp only [List.getElem_toArray, List.getElem_cons_succ, List.getElem_cons_zero]
  (go_simp; (with_reducible refine (pI15 vx1 _ S x1 HX.out HFL.out.1 (by have h0 := HRO.out; (try simp only [List.length_append]); omega)).mono ?_); rintro e x2 ⟨vx2, rfl, hx, hb⟩; replace HX := Lib.hid hx; replace M := Lib.hid (M.out.call hb); clear hx hb)
  refine hK _ _ (fun _ => M.out) ?_
  clear hK K
  try simp only [List.getElem_toArray, List.getElem_cons_succ, List.getElem_cons_zero, Act.put, List.setIfInBounds_toArray, List.set_cons_zero, List.set_cons_succ]
  refine anyT_one (i := 10) (by kernel_rfl) rfl (fun K hK => ?_)
  rw [if_pos (by rfl)]
  try simp only [List.getElem_toArray, List.getElem_cons_succ, List.getElem_cons_zero]
  (go_simp; (with_reducible refine (pT15 vx2 _ dn x2 HX.out (by have h0 := HRO.out; (try simp only [List.length_append]); omega)).mono ?_); rintro e x3 ⟨vx3, rfl, hx, hb⟩; replace HX := Lib.hid hx; replace M := Lib.hid (M.out.call hb); clear hx hb)
  refine hK _ _ (fun _ => M.out) ?_
  clear hK K
  try simp only [List.getElem_toArray, List.getElem_cons_succ, List.getElem_cons_zero, Act.put, List.setIfInBounds_toArray, List.set_cons_zero, List.set_cons_succ]
  refine anyT_one (i := 14) (by kernel_rfl) rfl (fun K hK => ?_)
  rw [if_pos (by rfl)]
  try simp only [List.getElem_toArray, List.getElem_cons_succ, List.getElem_cons_zero]
  (go_simp; (with_reducible refine (pI15 vx3 _ A x3 HX.out HFL.out.2 (by have h0 := HRO.out; (try simp only [List.length_append]); omega)).mono ?_); rintro e x4 ⟨vx4, rfl, hx, hb⟩; replace HX := Lib.hid hx; replace M := Lib.hid (M.out.call hb); clear hx hb)
  refine hK _ _ (fun _ => M.out) ?_
  clear hK K
  try simp only [List.getElem_toArray, List.getElem_cons_succ, List.getElem_cons_zero, Act.put, List.setIfInBounds_toArray, List.set_cons_zero, List.set_cons_succ]
  refine anyT_take [] (i := 15) (v := vx4) rfl (by kernel_rfl) (by kernel_rfl) (by kernel_rfl) (fun _ _ _ h => h) (by kernel_rfl) (Or.inl ⟨by rfl, fun w' _ => by go_simp⟩) M.out ?_
  try simp only [List.getElem_toArray, List.getElem_cons_succ, List.getElem_cons_zero, Act.put, List.setIfInBounds_toArray, List.set_cons_zero, List.set_cons_succ]
  refine anyT_done (by kernel_rfl) ?_ _
  have c4_ := (HTC.out x4 M.out).2.2.2.2.2.1
  go_upto_region 3 with (go_at_call 122; (with_reducible refine (pU15 vx4 _ n1 x4 HX.out hn64 (by have h0 := HRO.out; (try simp only [List.length_append]); omega)).mono ?_); rintro e x5 ⟨vx5, rfl, hx, hb⟩; replace HX := Lib.hid hx; replace M := Lib.hid (M.out.call hb); clear hx hb)
  clear c4_
  obtain ⟨Z, hZ⟩ : ∃ Z, Z = ((((bs ++ st1 ac) ++ it1 S) ++ st1 dn) ++ it1 A) ++ varint n1 := ⟨_, rfl⟩
  have HZ := Lib.hid hZ
  rw [← hZ] at HX
  have HZL := Lib.hid (show Z.length + (catL mg1 ms).length + 400 ≤ 140737488355328 from by rw [hZ]; have h0 := HRO.out; simp only [List.length_append]; omega)
  have HR0 := Lib.hid (show PuR15 w q CC (.slice a1 n1 c1) ms Z 0 vx5 x5 from ⟨M.out, by simpa [catL] using HX.out⟩)
  clear HX M HRO hZ
  go_wp2_with (fail)
  go_loopw [0, 5] (fun y v wr => ∃ k : Nat, k ≤ n1 ∧ v = .int .i64 (k : Int) ∧ Hid (PuR15 w q CC (.slice a1 n1 c1) ms Z k y wr)) (fun _ v _ => n1 - (intOf v).toNat)
  case atStart => exact ⟨0, Nat.zero_le _, rfl, HR0⟩
  case round =>
    clear HR0
    obtain ⟨wx, hwx⟩ : ∃ z, z = wr := ⟨_, rfl⟩
    subst hwx
    obtain ⟨k, hkn, rfl, HM⟩ := hrel
    have M := Lib.hid HM.out.1
    have HX := Lib.hid HM.out.2
    obtain ⟨ya, yc, rfl, -⟩ := id HX.out
    clear HM
    have c4_ := (HTC.out wx M.out).2.2.2.2.2.1
    by_cases hlt : k < n1
    · have hltI : (k : Int) < (n1 : Int) := by omega
      obtain ⟨m, hm⟩ : ∃ x, ms[k]? = some x := ⟨ms[k]'(by have := HN1.out; omega), List.getElem?_eq_getElem _⟩
      have hv := M.out.m.1
      rw [HN1.out] at hv
      obtain ⟨ab, ao, rfl, hab, hra⟩ := hv.at hm
      have HRA := Lib.hid (show wx.rangeAt ab (ao + k * 4) (mgC m).toList from hra)
      have HME := Lib.hid (M.out.m.2 m (List.mem_of_getElem? hm))
      have HMF := Lib.hid (HFM.out m (List.mem_of_getElem? hm))
      obtain ⟨⟨ta, tc, he1⟩, ⟨ia, ic, he2⟩, ⟨da, dc, he3⟩⟩ := HME.out.v
      have HT := Lib.hid (catL_take mg1 ms k m hm)
      have HONE := Lib.hid (mgC_one HME.out.v)
      obtain ⟨KD, hKD⟩ : ∃ z, z = m.kind := ⟨_, rfl⟩
      obtain ⟨nt, hnt⟩ : ∃ z, z = m.ts.length := ⟨_, rfl⟩
      obtain ⟨ni, hni⟩ : ∃ z, z = m.is.length := ⟨_, rfl⟩
      obtain ⟨nd, hnd⟩ : ∃ z, z = m.ds.length := ⟨_, rfl⟩
      have hMC : mgC m = #[.int .i64 KD, .slice ta nt tc, .slice ia ni ic, .slice da nd dc] := by unfold mgC; rw [he1, he2, he3, hKD, hnt, hni, hnd]
      have HM1 := Lib.hid (show mg1 m = it1 KD ++ ((varint nt ++ catL st1 m.ts) ++ ((varint ni ++ catL it1 m.is) ++ (varint nd ++ catL tb1 m.ds))) from by unfold mg1 listL; rw [hKD, hnt, hni, hnd])
      have HKF := Lib.hid (show i64b KD from by rw [hKD]; exact HMF.out.k)
      have HIF := Lib.hid HMF.out.i
      have HTX := Lib.hid (fun (W : World) (h : MgE W m) => show StIn W (.slice ta nt tc) m.ts from by have h2 := h.t; rw [he1, ← hnt] at h2; exact h2)
      have HIX := Lib.hid (fun (W : World) (h : MgE W m) => show ItIn W (.slice ia ni ic) m.is from by have h2 := h.i; rw [he2, ← hni] at h2; exact h2)
      have HDX := Lib.hid (fun (W : World) (h : MgE W m) => show TbIn W (.slice da nd dc) m.ds from by have h2 := h.d; rw [he3, ← hnd] at h2; exact h2)
      have HNT := Lib.hid (show nt = m.ts.length ∧ ni = m.is.length ∧ nd = m.ds.length from ⟨hnt, hni, hnd⟩)
      have hntm : nt ≤ 9223372036854775807 := by have := (HTX.out wx HME.out).len_le; unfold maxLen at this; rw [← hnt] at this; omega
      have hnim : ni ≤ 9223372036854775807 := by have := (HIX.out wx HME.out).len_le; unfold maxLen at this; rw [← hni] at this; omega
      have hndm : nd ≤ 9223372036854775807 := by have := (HDX.out wx HME.out).len_le; unfold maxLen at this; rw [← hnd] at this; omega
      have hntI : (nt : Int) ≤ 9223372036854775807 := by omega
      have hniI : (ni : Int) ≤ 9223372036854775807 := by omega
      have hndI : (nd : Int) ≤ 9223372036854775807 := by omega
      have hnt64 : nt < 18446744073709551616 := by omega
      have hni64 : ni < 18446744073709551616 := by omega
      have hnd64 : nd < 18446744073709551616 := by omega
      have hut : IntKind.u64.wrap (nt : Int) = (nt : Int) := IntWalk.u64_in _ (by omega)
      have hui : IntKind.u64.wrap (ni : Int) = (ni : Int) := IntWalk.u64_in _ (by omega)
      have hud : IntKind.u64.wrap (nd : Int) = (nd : Int) := IntWalk.u64_in _ (by omega)
      obtain ⟨Z0, hZ0⟩ : ∃ z, z = Z ++ catL mg1 (ms.take k) := ⟨_, rfl⟩
      have HZ0 := Lib.hid hZ0
      have HRO := Lib.hid (show Z0.length + (it1 KD).length + (varint nt).length + (catL st1 m.ts).length + (varint ni).length + (catL it1 m.is).length + (varint nd).length + (catL tb1 m.ds).length + 400 ≤ 140737488355328 from by
        have h1 := HZL.out
        have h2 := catL_room mg1 ms (k + 1)
        rw [HT.out, HM1.out] at h2
        rw [hZ0]
        simp only [List.length_append] at h2 ⊢
        omega)
      rw [← hZ0] at HX
      obtain ⟨MC, hMCe⟩ : ∃ z, z = mgC m := ⟨_, rfl⟩
      have HMS := Lib.hid (show MC.size = 4 from by rw [hMCe]; rfl)
      have HMG := Lib.hid (fun (W : World) {g : Nat} (h : W.heap[g]? = some (.cells MC 112 (0, 0))) => mg_cells (show W.heap[g]? = some (.cells #[.int .i64 KD, .slice ta nt tc, .slice ia ni ic, .slice da nd dc] 112 (0, 0)) from by rw [← hMC, ← hMCe]; exact h))
      rw [← hMCe] at HRA HONE
      obtain ⟨yl, hyl⟩ : ∃ n, n = Z0.length := ⟨_, rfl⟩
      rw [← hZ0, ← hyl]
      rw [← hyl] at HX
      clear hv hab hra hm he1 he2 he3 hKD hnt hni hnd hMC hMCe hyl hZ0
      go_upto_region 7 with (first
        | (refine wpList_load_rowT (by rfl) 112 (.tmp 41) rfl ab (ao + k * 4) rfl MC _ HRA.out Tryz.underlying112 rfl (by rw [HMS.out]; kernel_rfl) ?_)
        | (refine wpList_store_row rfl 112 (.tmp 6) (.tmp 42) rfl wx.heap.size MC rfl rfl 112 _ (heap_alloc_new _ _) (by rw [HMS.out]; kernel_rfl) (by rw [HMS.out]; rfl) HONE.out ?_; rw [World.setRow_alloc_new]))
      clear c4_ HRA HONE
      have hb1 := below_alloc wx (.cells MC 112)
      have hg1 := heap_alloc_new wx (.cells MC 112)
      obtain ⟨g, hg⟩ : ∃ z, z = wx.heap.size := ⟨_, rfl⟩
      rw [← hg] at hg1 ⊢
      have hMM : PuM15 w q g CC MC (.slice (some ⟨ab, ao, none⟩) n1 c1) ms m (wx.alloc (.cells MC 112)) := ⟨M.out.call hb1, hg1, HME.out.below hb1⟩
      clear M
      have M := Lib.hid hMM
      replace HX := Lib.hid (HX.out.below hb1)
      clear hb1 hg1 hg hMM HME
      generalize wx.alloc (.cells MC 112) = wy at *
      obtain ⟨y, hy⟩ : ∃ z : Value, z = .slice ya yl yc := ⟨_, rfl⟩
      rw [← hy] at HX ⊢
      clear hy
      refine wp_region_T (fun W => PuM15 w q g CC MC (.slice (some ⟨ab, ao, none⟩) n1 c1) ms m W) [0, 1, 2, 3, 4, 5, 6, 7, 8, 9] (by kernel_rfl) ?_
      replace M := Lib.hid (M.out.call (Below.refl _ _).drew)
      replace HX := Lib.hid (HX.out.below (Below.refl _ _).drew)
      generalize World.drew _ = d1 at *
      refine anyT_take [3, 8, 9] (i := 0) (v := y) rfl (by kernel_rfl) (by kernel_rfl) (by kernel_rfl) (fun _ _ _ h => h) (by kernel_rfl) (Or.inl ⟨by rfl, fun w' _ => by go_simp⟩) M.out ?_
      try simp only [List.getElem_toArray, List.getElem_cons_succ, List.getElem_cons_zero, Act.put, List.setIfInBounds_toArray, List.set_cons_zero, List.set_cons_succ]
      refine anyT_take [2, 3, 8, 9] (i := 1) (v := .pointer (some ⟨g, 0, none⟩)) rfl (by kernel_rfl) (by kernel_rfl) (by kernel_rfl) (fun _ _ _ h => h) (by kernel_rfl) (Or.inl ⟨by rfl, fun w' _ => by go_simp⟩) M.out ?_
      try simp only [List.getElem_toArray, List.getElem_cons_succ, List.getElem_cons_zero, Act.put, List.setIfInBounds_toArray, List.set_cons_zero, List.set_cons_succ]
      refine anyT_take [5, 6, 7, 8, 9] (i := 4) (v := .pointer (some ⟨g, 1, none⟩)) rfl (by kernel_rfl) (by kernel_rfl) (by kernel_rfl) (fun _ _ _ h => h) (by kernel_rfl) (Or.inl ⟨by rfl, fun w' _ => by go_simp⟩) M.out ?_
      try simp only [List.getElem_toArray, List.getElem_cons_succ, List.getElem_cons_zero, Act.put, List.setIfInBounds_toArray, List.set_cons_zero, List.set_cons_succ]
      refine anyT_take [3, 8, 9] (i := 2) (v := .int .i64 KD) rfl (by kernel_rfl) (by kernel_rfl) (by kernel_rfl) (fun _ _ _ h => h) (by kernel_rfl) (Or.inl ⟨by rfl, fun w' hS => by have c := (HMG.out w' hS.g).1; go_simp⟩) M.out ?_
      try simp only [List.getElem_toArray, List.getElem_cons_succ, List.getElem_cons_zero, Act.put, List.setIfInBounds_toArray, List.set_cons_zero, List.set_cons_succ]
      refine anyT_take [6, 7, 8, 9] (i := 5) (v := .slice ta nt tc) rfl (by kernel_rfl) (by kernel_rfl) (by kernel_rfl) (fun _ _ _ h => h) (by kernel_rfl) (Or.inl ⟨by rfl, fun w' hS => by have c := (HMG.out w' hS.g).2.1; go_simp⟩) M.out ?_
      try simp only [List.getElem_toArray, List.getElem_cons_succ, List.getElem_cons_zero, Act.put, List.setIfInBounds_toArray, List.set_cons_zero, List.set_cons_succ]
      refine anyT_take [7, 8, 9] (i := 6) (v := .int .i64 (nt : Int)) rfl (by kernel_rfl) (by kernel_rfl) (by kernel_rfl) (fun _ _ _ h => h) (by kernel_rfl) (Or.inl ⟨by rfl, fun w' _ => by go_simp⟩) M.out ?_
      try simp only [List.getElem_toArray, List.getElem_cons_succ, List.getElem_cons_zero, Act.put, List.setIfInBounds_toArray, List.set_cons_zero, List.set_cons_succ]
      refine anyT_take [8, 9] (i := 7) (v := .int .u64 (nt : Int)) rfl (by kernel_rfl) (by kernel_rfl) (by kernel_rfl) (fun _ _ _ h => h) (by kernel_rfl) (Or.inl ⟨by rfl, fun w' _ => by go_simp⟩) M.out ?_
      try simp only [List.getElem_toArray, List.getElem_cons_succ, List.getElem_cons_zero, Act.put, List.setIfInBounds_toArray, List.set_cons_zero, List.set_cons_succ]
      refine anyT_one (i := 3) (by kernel_rfl) rfl (fun K hK => ?_)
      rw [if_pos (by rfl)]
      try simp only [List.getElem_toArray, List.getElem_cons_succ, List.getElem_cons_zero]
      (go_simp; (with_reducible refine (pI15 y _ KD d1 HX.out HKF.out (by have h0 := HRO.out; (try simp only [List.length_append]); omega)).mono ?_); rintro e x1 ⟨vx1, rfl, hx, hb⟩; replace HX := Lib.hid hx; replace M := Lib.hid (M.out.call hb); clear hx hb)
      refine hK _ _ (fun _ => M.out) ?_
      clear hK K
      try simp only [List.getElem_toArray, List.getElem_cons_succ, List.getElem_cons_zero, Act.put, List.setIfInBounds_toArray, List.set_cons_zero, List.set_cons_succ]
      refine anyT_one (i := 8) (by kernel_rfl) rfl (fun K hK => ?_)
      rw [if_pos (by rfl)]
      try simp only [List.getElem_toArray, List.getElem_cons_succ, List.getElem_cons_zero]
      (go_simp; (with_reducible refine (pU15 vx1 _ nt x1 HX.out hnt64 (by have h0 := HRO.out; (try simp only [List.length_append]); omega)).mono ?_); rintro e x2 ⟨vx2, rfl, hx, hb⟩; replace HX := Lib.hid hx; replace M := Lib.hid (M.out.call hb); clear hx hb)
      refine hK _ _ (fun _ => M.out) ?_
      clear hK K
      try simp only [List.getElem_toArray, List.getElem_cons_succ, List.getElem_cons_zero, Act.put, List.setIfInBounds_toArray, List.set_cons_zero, List.set_cons_succ]
      refine anyT_take [] (i := 9) (v := vx2) rfl (by kernel_rfl) (by kernel_rfl) (by kernel_rfl) (fun _ _ _ h => h) (by kernel_rfl) (Or.inl ⟨by rfl, fun w' _ => by go_simp⟩) M.out ?_
      try simp only [List.getElem_toArray, List.getElem_cons_succ, List.getElem_cons_zero, Act.put, List.setIfInBounds_toArray, List.set_cons_zero, List.set_cons_succ]
      refine anyT_done (by kernel_rfl) ?_ _

      obtain ⟨Z1, hZ1⟩ : ∃ z, z = (Z0 ++ it1 KD) ++ varint nt := ⟨_, rfl⟩
      have HZ1 := Lib.hid hZ1
      rw [← hZ1] at HX
      have HRL := Lib.hid (show Z1.length + (catL st1 m.ts).length + (varint ni).length + (catL it1 m.is).length + (varint nd).length + (catL tb1 m.ds).length + 400 ≤ 140737488355328 from by rw [hZ1]; have h0 := HRO.out; simp only [List.length_append]; omega)
      have HL0 := Lib.hid (show PuL15 w q g CC MC (.slice (some ⟨ab, ao, none⟩) n1 c1) ms m st1 m.ts Z1 0 vx2 x2 from ⟨M.out, by simpa [catL] using HX.out⟩)
      clear HX M hZ1 HRO
      go_wp2_with (fail)
      go_loopw [0, 7] (fun y v wr_ => ∃ j : Nat, j ≤ nt ∧ v = .int .i64 (j : Int) ∧ Hid (PuL15 w q g CC MC (.slice (some ⟨ab, ao, none⟩) n1 c1) ms m st1 m.ts Z1 j y wr_)) (fun _ v _ => nt - (intOf v).toNat)
      case atStart => exact ⟨0, Nat.zero_le _, rfl, HL0⟩
      case round =>
        clear HL0
        obtain ⟨j, hjn, rfl, HM⟩ := hrel
        have M := Lib.hid HM.out.1
        have HX := Lib.hid HM.out.2
        obtain ⟨ya, yc, rfl, -⟩ := id HX.out
        clear HM
        have kc := (HMG.out wr M.out.g).2.1
        by_cases hjl : j < nt
        · have hjlI : (j : Int) < (nt : Int) := by omega
          obtain ⟨s, hs⟩ : ∃ x, m.ts[j]? = some x := ⟨m.ts[j]'(by have := HNT.out; omega), List.getElem?_eq_getElem _⟩
          have hv := HTX.out wr M.out.e
          rw [HNT.out.1] at hv
          obtain ⟨sb, so, rfl, hsb, hsr⟩ := hv.at hs
          
          have cs : wr.cell? ⟨sb, so + j, none⟩ = some (.string s) := by have := hsr 0 _ rfl; rw [Nat.mul_one] at this; exact this
          have HTJ := Lib.hid (catL_take st1 m.ts j s hs)
          have HRJ := Lib.hid (show (Z1 ++ catL st1 (m.ts.take j)).length + (st1 s).length + 100 ≤ 140737488355328 from by
            have h1 := HRL.out
            have h2 := catL_room st1 m.ts (j + 1)
            rw [HTJ.out] at h2
            simp only [List.length_append] at h2 ⊢
            omega)
          obtain ⟨yl, hyl⟩ : ∃ n, n = (Z1 ++ catL st1 (m.ts.take j)).length := ⟨_, rfl⟩
          rw [← hyl] at HX ⊢
          clear hv hsb hsr hs hyl
          go_wp2_with (go_at_call 64; (with_reducible refine (pT15 _ _ s wr HX.out (by have h0 := HRJ.out; omega)).mono ?_); rintro e w2 ⟨vb, rfl, hx, hb⟩; replace HX := Lib.hid hx; replace M := Lib.hid (M.out.call hb); clear hx hb)
          go_roundw
          case rel => exact ⟨j + 1, by omega, by go_num, Lib.hid ⟨M.out, by have h := HX.out; rw [HTJ.out, ← List.append_assoc]; exact h⟩⟩
          case measure => simp [intOf]; omega
        · obtain rfl : j = nt := by omega
          obtain ⟨yl, hyl⟩ : ∃ n, n = (Z1 ++ catL st1 (m.ts.take j)).length := ⟨_, rfl⟩
          rw [← hyl] at HX ⊢
          clear hyl
          rw [show m.ts.take j = m.ts from by rw [HNT.out.1, List.take_length]] at HX
          have HRL2 := Lib.hid (show Z1.length + (catL st1 m.ts).length + (varint ni).length + (catL it1 m.is).length + (varint nd).length + (catL tb1 m.ds).length + 400 ≤ 140737488355328 from by have h0 := HRL.out; omega)
          have kc2 := (HMG.out wr M.out.g).2.2.1
          go_upto_region 13 with (go_at_call 122; (with_reducible refine (pU15 _ _ ni wr HX.out hni64 (by have h0 := HRL2.out; simp only [List.length_append]; omega)).mono ?_); rintro e w7 ⟨vb7, rfl, hx, hb⟩; replace HX := Lib.hid hx; replace M := Lib.hid (M.out.call hb); clear hx hb)
          clear kc kc2 HRL
          have HRL := HRL2
          clear HRL2
          obtain ⟨Z2, hZ2⟩ : ∃ z, z = (Z1 ++ catL st1 m.ts) ++ varint ni := ⟨_, rfl⟩
          have HZ2 := Lib.hid hZ2
          rw [← hZ2] at HX
          replace HRL := Lib.hid (show Z2.length + (catL it1 m.is).length + (varint nd).length + (catL tb1 m.ds).length + 400 ≤ 140737488355328 from by rw [hZ2]; have h0 := HRL.out; simp only [List.length_append]; omega)
          have HL0 := Lib.hid (show PuL15 w q g CC MC (.slice (some ⟨ab, ao, none⟩) n1 c1) ms m it1 m.is Z2 0 vb7 w7 from ⟨M.out, by simpa [catL] using HX.out⟩)
          clear HX M hZ2
          go_wp2_with (fail)
          go_loopw [0, 8] (fun y v wr_ => ∃ j : Nat, j ≤ ni ∧ v = .int .i64 (j : Int) ∧ Hid (PuL15 w q g CC MC (.slice (some ⟨ab, ao, none⟩) n1 c1) ms m it1 m.is Z2 j y wr_)) (fun _ v _ => ni - (intOf v).toNat)
          case atStart => exact ⟨0, Nat.zero_le _, rfl, HL0⟩
          case round =>
            clear HL0
            obtain ⟨j, hjn, rfl, HM⟩ := hrel
            have M := Lib.hid HM.out.1
            have HX := Lib.hid HM.out.2
            obtain ⟨ya, yc, rfl, -⟩ := id HX.out
            clear HM
            have kc := (HMG.out wr M.out.g).2.2.1
            by_cases hjl : j < ni
            · have hjlI : (j : Int) < (ni : Int) := by omega
              obtain ⟨s, hs⟩ : ∃ x, m.is[j]? = some x := ⟨m.is[j]'(by have := HNT.out; omega), List.getElem?_eq_getElem _⟩
              have hv := HIX.out wr M.out.e
              rw [HNT.out.2.1] at hv
              obtain ⟨sb, so, rfl, hsb, hsr⟩ := hv.at hs
              have HSI := Lib.hid (HIF.out s (List.mem_of_getElem? hs))
              have cs : wr.cell? ⟨sb, so + j, none⟩ = some (.int .i64 s) := by have := hsr 0 _ rfl; rw [Nat.mul_one] at this; exact this
              have HTJ := Lib.hid (catL_take it1 m.is j s hs)
              have HRJ := Lib.hid (show (Z2 ++ catL it1 (m.is.take j)).length + (it1 s).length + 100 ≤ 140737488355328 from by
                have h1 := HRL.out
                have h2 := catL_room it1 m.is (j + 1)
                rw [HTJ.out] at h2
                simp only [List.length_append] at h2 ⊢
                omega)
              obtain ⟨yl, hyl⟩ : ∃ n, n = (Z2 ++ catL it1 (m.is.take j)).length := ⟨_, rfl⟩
              rw [← hyl] at HX ⊢
              clear hv hsb hsr hs hyl
              go_wp2_with (go_at_call 123; (with_reducible refine (pI15 _ _ s wr HX.out HSI.out (by have h0 := HRJ.out; omega)).mono ?_); rintro e w2 ⟨vb, rfl, hx, hb⟩; replace HX := Lib.hid hx; replace M := Lib.hid (M.out.call hb); clear hx hb)
              go_roundw
              case rel => exact ⟨j + 1, by omega, by go_num, Lib.hid ⟨M.out, by have h := HX.out; rw [HTJ.out, ← List.append_assoc]; exact h⟩⟩
              case measure => simp [intOf]; omega
            · obtain rfl : j = ni := by omega
              obtain ⟨yl, hyl⟩ : ∃ n, n = (Z2 ++ catL it1 (m.is.take j)).length := ⟨_, rfl⟩
              rw [← hyl] at HX ⊢
              clear hyl
              rw [show m.is.take j = m.is from by rw [HNT.out.2.1, List.take_length]] at HX
              have HRL2 := Lib.hid (show Z2.length + (catL it1 m.is).length + (varint nd).length + (catL tb1 m.ds).length + 400 ≤ 140737488355328 from by have h0 := HRL.out; omega)
              have kc2 := (HMG.out wr M.out.g).2.2.2
              go_upto_region 18 with (go_at_call 122; (with_reducible refine (pU15 _ _ nd wr HX.out hnd64 (by have h0 := HRL2.out; simp only [List.length_append]; omega)).mono ?_); rintro e w8 ⟨vb8, rfl, hx, hb⟩; replace HX := Lib.hid hx; replace M := Lib.hid (M.out.call hb); clear hx hb)
              clear kc kc2 HRL
              have HRL := HRL2
              clear HRL2
              obtain ⟨Z3, hZ3⟩ : ∃ z, z = (Z2 ++ catL it1 m.is) ++ varint nd := ⟨_, rfl⟩
              have HZ3 := Lib.hid hZ3
              rw [← hZ3] at HX
              replace HRL := Lib.hid (show Z3.length + (catL tb1 m.ds).length + 400 ≤ 140737488355328 from by rw [hZ3]; have h0 := HRL.out; simp only [List.length_append]; omega)
              have HL0 := Lib.hid (show PuL15 w q g CC MC (.slice (some ⟨ab, ao, none⟩) n1 c1) ms m tb1 m.ds Z3 0 vb8 w8 from ⟨M.out, by simpa [catL] using HX.out⟩)
              clear HX M hZ3
              go_wp2_with (fail)
              go_loopw [0, 9] (fun y v wr_ => ∃ j : Nat, j ≤ nd ∧ v = .int .i64 (j : Int) ∧ Hid (PuL15 w q g CC MC (.slice (some ⟨ab, ao, none⟩) n1 c1) ms m tb1 m.ds Z3 j y wr_)) (fun _ v _ => nd - (intOf v).toNat)
              case atStart => exact ⟨0, Nat.zero_le _, rfl, HL0⟩
              case round =>
                clear HL0
                obtain ⟨j, hjn, rfl, HM⟩ := hrel
                have M := Lib.hid HM.out.1
                have HX := Lib.hid HM.out.2
                obtain ⟨ya, yc, rfl, -⟩ := id HX.out
                clear HM
                have kc := (HMG.out wr M.out.g).2.2.2
                by_cases hjl : j < nd
                · have hjlI : (j : Int) < (nd : Int) := by omega
                  obtain ⟨s, hs⟩ : ∃ x, m.ds[j]? = some x := ⟨m.ds[j]'(by have := HNT.out; omega), List.getElem?_eq_getElem _⟩
                  have hv := HDX.out wr M.out.e
                  rw [HNT.out.2.2] at hv
                  obtain ⟨sb, so, rfl, hsb, hsr⟩ := hv.at hs
                  obtain ⟨sv_, hsv⟩ : ∃ z, z = s.bv := ⟨_, rfl⟩; have HSB := Lib.hid (show BytesIn wr sv_ s.bs from by rw [hsv]; exact M.out.e.b s (List.mem_of_getElem? hs))
                  have cs : wr.cell? ⟨sb, so + j, none⟩ = some sv_ := by have := hsr 0 _ rfl; rw [Nat.mul_one] at this; rw [hsv]; exact this
                  have HTJ := Lib.hid (catL_take tb1 m.ds j s hs)
                  have HRJ := Lib.hid (show (Z3 ++ catL tb1 (m.ds.take j)).length + (tb1 s).length + 100 ≤ 140737488355328 from by
                    have h1 := HRL.out
                    have h2 := catL_room tb1 m.ds (j + 1)
                    rw [HTJ.out] at h2
                    simp only [List.length_append] at h2 ⊢
                    omega)
                  obtain ⟨yl, hyl⟩ : ∃ n, n = (Z3 ++ catL tb1 (m.ds.take j)).length := ⟨_, rfl⟩
                  rw [← hyl] at HX ⊢
                  clear hv hsb hsr hs hyl hsv
                  go_wp2_with (go_at_call 55; (with_reducible refine (pB15 _ sv_ _ s wr HX.out HSB.out HRJ.out).mono ?_); rintro e w2 ⟨vb, rfl, hx, hb⟩; replace HX := Lib.hid hx; replace M := Lib.hid (M.out.call hb); clear hx hb)
                  go_roundw
                  case rel => exact ⟨j + 1, by omega, by go_num, Lib.hid ⟨M.out, by have h := HX.out; rw [HTJ.out, ← List.append_assoc]; exact h⟩⟩
                  case measure => simp [intOf]; omega
                · obtain rfl : j = nd := by omega
                  obtain ⟨yl, hyl⟩ : ∃ n, n = (Z3 ++ catL tb1 (m.ds.take j)).length := ⟨_, rfl⟩
                  rw [← hyl] at HX ⊢
                  clear hyl
                  rw [show m.ds.take j = m.ds from by rw [HNT.out.2.2, List.take_length]] at HX
                  have HFIN := Lib.hid (show Z ++ catL mg1 (ms.take (k + 1)) = Z3 ++ catL tb1 m.ds from by rw [HT.out, HM1.out, HZ3.out, HZ2.out, HZ1.out, HZ0.out]; simp only [List.append_assoc])
                  go_wp2_with (fail)
                  go_roundw
                  case rel => exact ⟨k + 1, by omega, by go_num, Lib.hid ⟨M.out.k, by rw [HFIN.out]; exact HX.out⟩⟩
                  case measure => simp [intOf]; omega
    · obtain rfl : k = n1 := by omega
      obtain ⟨yl, hyl⟩ : ∃ n, n = (Z ++ catL mg1 (ms.take k)).length := ⟨_, rfl⟩
      rw [← hyl] at HX ⊢
      clear hyl
      go_wp2_with (fail)
      rw [HPO.out]
      refine ⟨_, rfl, ?_, M.out.b⟩
      have h := HX.out
      rw [show ms.take k = ms from by rw [HN1.out, List.take_length], HZ.out] at h
      simp only [List.append_assoc] at h ⊢
      exact h
end Go.Proofs.YtejglhlodfhgkaaGreatDoor
