/- Part 24 of the proof. -/
import Derived.Lib.AppendStr
import Derived.Test.YteokgklfljhcaaaGreatDoorSe14
import Derived.Test.YteokgklfljhcaaaGreatDoorSe22
import Derived.Test.YteokgklfljhcaaaGreatDoorSe23
namespace Go.Proofs.YteokgklfljhcaaaGreatDoor
set_option linter.unusedVariables false
set_option linter.unusedSimpArgs false
open Go.RowKit
set_option maxRecDepth 100000
set_option linter.unusedSimpArgs false
set_option linter.unusedVariables false
theorem t11cells_nums (s : ByteArray) : Lib.strCells s = byteVals (numsOf s) := by
  unfold Lib.strCells byteVals numsOf
  rw [List.map_map]
  rfl
theorem t11run_append (w : World) (base : Nat) (v : Value) (n : Nat) (vs : List Value) (hown : w.ownsRow base 5 1 v n vs) (s : ByteArray) (hl : n + s.size ≤ 140737488355328) (hb : base ≤ w.heap.size) :
    ∃ v' w', (Builtin.append_ #[39, 9] 39 #[v, .string s]).run Tryz.prog w = .ok v' w' ∧ w'.ownsRow base 5 1 v' (n + s.size) (vs ++ byteVals (numsOf s)) ∧ w.grownBy w' v.ownBlock := by
  obtain ⟨i0, hi, hz0, hz1, hz2⟩ := info_parts infoU8
  obtain ⟨v', w', h1, h2, h3, _⟩ := Lib.run_append_own_string (P := Tryz.prog) w base 39 9 39 5 i0 Tryz.underlying39 Tryz.underlying9 hi hz0 hz1 hz2 v n vs hown s (by unfold maxLen; omega) hl hb
  rw [t11cells_nums] at h2
  exact ⟨v', w', h1, h2, h3⟩
theorem wpList_append_s11 {w : World} {ops : Array Oper} {rest : List Oper} {o : Oper} {a : Act} {Q : Exit → Act → World → Prop} (hgd : o.guard = none) (s x : Operand)
    (ho : o.op = .call { callee := .builtin .append, args := #[s, x], argTypes := #[39, 9] }) (hty : o.type = 39)
    (base : Nat) (v : Value) (n : Nat) (vs : List Value) (hs : a.eval s = v) (hown : w.ownsRow base 5 1 v n vs) (y : ByteArray) (hx : a.eval x = .string y) (hl : n + y.size ≤ 140737488355328) (hb : base ≤ w.heap.size)
    (h : ∀ v' w', w'.ownsRow base 5 1 v' (n + y.size) (vs ++ byteVals (numsOf y)) → w.grownBy w' v.ownBlock → wpList Tryz.prog ops Q rest (a.put o.dst v') w') : wpList Tryz.prog ops Q (o :: rest) a w := by
  refine wpList_plain hgd fun K hK => ?_
  obtain ⟨v', w', hr, h1, h2⟩ := t11run_append w base v n vs hown y hl hb
  unfold Oper.wp execOp
  simp only [ho, hty, resolve, invoke, builtin, Sem.run_bind, Sem.run_pure, Result.andThen_ok, List.map_toArray, List.map_cons, List.map_nil, hs, hx, hr]
  exact hK _ _ (h v' w' h1 h2)
theorem dUint_m11 (b : Value) (bs : List Int) (m : Int) (n : Nat) (hm : m = (n : Int)) (w : World) (hb : BytesIn w b bs) (hn : n < 18446744073709551616) (hl : bs.length + 10 ≤ 140737488355328) :
    Calls Tryz.prog 57 #[b, .int .u64 m] w (RefPost bs (varint n) w) := by
  subst hm
  exact dUint_any b bs n w hb hn hl
def BsPost11 (xs : List Int) (w : World) (e : Ending) (w' : World) : Prop := ∃ v', e = .returned v' ∧ BytesIn w' v' xs ∧ Below w.heap.size w w'
theorem dText11_any (b : Value) (bs : List Int) (s : ByteArray) (w : World) (hb : BytesIn w b bs) (hl : bs.length + s.size + 10 ≤ 140737488355328) :
    Calls Tryz.prog 62 #[b, .string s] w (BsPost11 (bs ++ (varint s.size ++ numsOf s)) w) := by
  have hu : IntKind.u64.wrap (s.size : Int) = (s.size : Int) := IntWalk.u64_in _ (by omega)
  have HU := Lib.hid (dUint_m11 b bs (IntKind.u64.wrap (s.size : Int)) s.size hu w hb (by omega) (by omega))
  have HU2 := Lib.hid (dUint_m11 b bs (s.size : Int) s.size rfl w hb (by omega) (by omega))
  have HG := Lib.hid (glenT (n := s.size) (by omega))
  have HL := Lib.hid hl
  clear hb hl
  unfold RefPost at HU HU2
  unfold BsPost11
  go_enter Tryz.func62, Tryz.ntmps62
  go_wp2_with (first
    | (go_at_call 57; (with_reducible refine HU.out.mono ?_); rintro e w3 ⟨v3, rfl, ho, hb⟩; have HO := Lib.hid ho; have HB := Lib.hid hb; clear ho hb)
    | (go_at_call 57; (with_reducible refine HU2.out.mono ?_); rintro e w3 ⟨v3, rfl, ho, hb⟩; have HO := Lib.hid ho; have HB := Lib.hid hb; clear ho hb)
    | (at_builtin; refine wpList_append_s11 rfl (.tmp 9) (.tmp 10) rfl rfl w.heap.size v3 _ _ rfl HO.out s rfl (by have := HL.out; have := HG.out; rw [List.length_append]; omega) HB.out.size ?_; intro v4 w4 ho hg; have HO4 := Lib.hid ho; have HB4 := Lib.hid (HB.out.grown hg HB.out.size (fun k hk => (HO.out.lt k hk).1)); clear ho hg))
  go_ret
  refine ⟨v4, rfl, ?_, HB4.out⟩
  have h := HO4.out
  rw [← byteVals_append] at h
  have h1 := HL.out
  have h2 := HG.out
  have e1 : (bs ++ varint s.size).length + s.size = (bs ++ (varint s.size ++ numsOf s)).length := by simp only [List.length_append, numsOf_length]; omega
  rw [e1, List.append_assoc] at h
  exact owns_in h (by simp only [List.length_append, numsOf_length]; unfold maxLen; omega)
end Go.Proofs.YteokgklfljhcaaaGreatDoor
namespace Go.Proofs.YteokgklfljhcaaaGreatDoor
set_option linter.unusedVariables false
set_option linter.unusedSimpArgs false
open Go.RowKit
set_option maxRecDepth 100000
set_option linter.unusedSimpArgs false
set_option linter.unusedVariables false
set_option maxHeartbeats 8000000 in
theorem rrefval_any (b : Value) (bs : List Int) (NM : ByteArray) (KE : Nat → Int) (PW : Int) (w : World) (hb : BytesIn w b bs) (hPW : -9223372036854775808 ≤ PW ∧ PW ≤ 9223372036854775807) (hl : bs.length + (vaL NM KE PW).length + 400 ≤ 140737488355328) :
    Calls Tryz.prog 77 #[b, .agg (vaD NM KE PW)] w fun e w' => ∃ vb, e = .returned vb ∧ BytesIn w' vb (bs ++ vaL NM KE PW) ∧ Below w.heap.size w w' := by
  have HB := Lib.hid (below_alloc w (.cells (vaD NM KE PW) 54))
  have HQ := Lib.hid (heap_alloc_new w (.cells (vaD NM KE PW) 54))
  have HX := Lib.hid (hb.below HB.out)
  have HR := Lib.hid (show bs.length + (((varint NM.size).length + NM.size) + 32 + (varint (zig PW)).length) + 400 ≤ 140737488355328 from by simp only [vaL, List.length_append, rowL32, numsOf_length] at hl; omega)
  have VPW := Lib.hid (glenT (zig_lt hPW.1 hPW.2))
  have IPW := Lib.hid hPW
  have VNM := Lib.hid (glenT (n := NM.size) (by have := HR.out; omega))
  clear hb hl hPW
  go_enter Tryz.func77, Tryz.ntmps77
  go_upto_region 1 with (fail)
  obtain ⟨q, hq⟩ : ∃ q, q = w.heap.size := ⟨_, rfl⟩
  rw [← hq] at HQ ⊢
  clear hq
  generalize w.alloc (.cells (vaD NM KE PW) 54) = w0 at *
  refine wp_region_T (fun w => w.heap[q]? = some (.cells (vaD NM KE PW) 54 (0, 0))) [0, 1, 2, 3, 4, 5, 6, 7, 8, 9, 10] (by kernel_rfl) ?_
  replace HQ := Lib.hid (kept_blk _ _ _ _ HQ.out (Below.refl _ _).drew)
  replace HX := Lib.hid (HX.out.below (Below.refl _ _).drew)
  replace HB := Lib.hid (HB.out.drew)
  generalize World.drew _ = d0 at *
  refine anyT_take [] (i := 0) (v := b) rfl (by kernel_rfl) (by kernel_rfl) (by kernel_rfl) (fun _ _ _ h => h) (by kernel_rfl) (Or.inl ⟨by rfl, fun w' _ => by go_simp⟩) HQ.out ?_
  try simp only [List.getElem_toArray, List.getElem_cons_succ, List.getElem_cons_zero, Act.put, List.setIfInBounds_toArray, List.set_cons_zero, List.set_cons_succ]
  refine anyT_take [] (i := 1) (v := .pointer (some ⟨q, 0, none⟩)) rfl (by kernel_rfl) (by kernel_rfl) (by kernel_rfl) (fun _ _ _ h => h) (by kernel_rfl) (Or.inl ⟨by rfl, fun w' _ => by go_simp⟩) HQ.out ?_
  try simp only [List.getElem_toArray, List.getElem_cons_succ, List.getElem_cons_zero, Act.put, List.setIfInBounds_toArray, List.set_cons_zero, List.set_cons_succ]
  refine anyT_take [] (i := 4) (v := .pointer (some ⟨q, 1, none⟩)) rfl (by kernel_rfl) (by kernel_rfl) (by kernel_rfl) (fun _ _ _ h => h) (by kernel_rfl) (Or.inl ⟨by rfl, fun w' _ => by go_simp⟩) HQ.out ?_
  try simp only [List.getElem_toArray, List.getElem_cons_succ, List.getElem_cons_zero, Act.put, List.setIfInBounds_toArray, List.set_cons_zero, List.set_cons_succ]
  refine anyT_take [] (i := 7) (v := .pointer (some ⟨q, 33, none⟩)) rfl (by kernel_rfl) (by kernel_rfl) (by kernel_rfl) (fun _ _ _ h => h) (by kernel_rfl) (Or.inl ⟨by rfl, fun w' _ => by go_simp⟩) HQ.out ?_
  try simp only [List.getElem_toArray, List.getElem_cons_succ, List.getElem_cons_zero, Act.put, List.setIfInBounds_toArray, List.set_cons_zero, List.set_cons_succ]
  refine anyT_take [] (i := 2) (v := .string NM) rfl (by kernel_rfl) (by kernel_rfl) (by kernel_rfl) (fun _ _ _ h => h) (by kernel_rfl) (Or.inl ⟨by rfl, fun w' hS => by have c := (vaD_cells hS).1; go_simp⟩) HQ.out ?_
  try simp only [List.getElem_toArray, List.getElem_cons_succ, List.getElem_cons_zero, Act.put, List.setIfInBounds_toArray, List.set_cons_zero, List.set_cons_succ]
  refine anyT_take [] (i := 5) (v := .agg (rowOf .u8 32 KE)) rfl (by kernel_rfl) (by kernel_rfl) (by kernel_rfl) (fun _ _ _ h => h) (by kernel_rfl) (rowT_yields (by rfl) 23 (.tmp 9) rfl q 1 rfl _ _ (fun _ h => (vaD_cells h).2.1) Tryz.underlying23 rfl (by rw [rowOf_size]; kernel_rfl)) HQ.out ?_
  try simp only [List.getElem_toArray, List.getElem_cons_succ, List.getElem_cons_zero, Act.put, List.setIfInBounds_toArray, List.set_cons_zero, List.set_cons_succ]
  refine anyT_take [] (i := 8) (v := .int .i64 PW) rfl (by kernel_rfl) (by kernel_rfl) (by kernel_rfl) (fun _ _ _ h => h) (by kernel_rfl) (Or.inl ⟨by rfl, fun w' hS => by have c := (vaD_cells hS).2.2; go_simp⟩) HQ.out ?_
  try simp only [List.getElem_toArray, List.getElem_cons_succ, List.getElem_cons_zero, Act.put, List.setIfInBounds_toArray, List.set_cons_zero, List.set_cons_succ]
  refine anyT_one (i := 3) (by kernel_rfl) rfl (fun K hK => ?_)
  rw [if_pos (by rfl)]
  try simp only [List.getElem_toArray, List.getElem_cons_succ, List.getElem_cons_zero]
  (go_simp; (with_reducible refine (dText11_any b _ NM d0 HX.out (by have h0 := HR.out; have aPW := VPW.out; have aNM := VNM.out; (try simp only [List.length_append, rowL32, numsOf_length]); omega)).mono ?_); rintro e x1 ⟨vx1, rfl, hx, hb⟩; replace HX := Lib.hid hx; replace HQ := Lib.hid (kept_blk _ _ _ _ HQ.out hb); replace HB := Lib.hid (HB.out.trans (hb.mono HB.out.size)); clear hx hb)
  refine hK _ _ (fun _ => HQ.out) ?_
  clear hK K
  try simp only [List.getElem_toArray, List.getElem_cons_succ, List.getElem_cons_zero, Act.put, List.setIfInBounds_toArray, List.set_cons_zero, List.set_cons_succ]
  refine anyT_one (i := 6) (by kernel_rfl) rfl (fun K hK => ?_)
  rw [if_pos (by rfl)]
  try simp only [List.getElem_toArray, List.getElem_cons_succ, List.getElem_cons_zero]
  (go_simp; (with_reducible refine (dHash_any vx1 _ KE x1 HX.out (by have h0 := HR.out; have aPW := VPW.out; have aNM := VNM.out; (try simp only [List.length_append, rowL32, numsOf_length]); omega)).mono ?_); rintro e x2 hp; obtain ⟨vx2, rfl, hx, hb⟩ := refL_next hp (by have h0 := HR.out; have aPW := VPW.out; have aNM := VNM.out; simp only [List.length_append, rowL32, numsOf_length]; unfold maxLen; omega); replace HX := Lib.hid hx; replace HQ := Lib.hid (kept_blk _ _ _ _ HQ.out hb); replace HB := Lib.hid (HB.out.trans (hb.mono HB.out.size)); clear hp hx hb)
  refine hK _ _ (fun _ => HQ.out) ?_
  clear hK K
  try simp only [List.getElem_toArray, List.getElem_cons_succ, List.getElem_cons_zero, Act.put, List.setIfInBounds_toArray, List.set_cons_zero, List.set_cons_succ]
  refine anyT_one (i := 9) (by kernel_rfl) rfl (fun K hK => ?_)
  rw [if_pos (by rfl)]
  try simp only [List.getElem_toArray, List.getElem_cons_succ, List.getElem_cons_zero]
  (go_simp; (with_reducible refine (dInt_any vx2 _ PW x2 HX.out IPW.out.1 IPW.out.2 (by have h0 := HR.out; have aPW := VPW.out; have aNM := VNM.out; (try simp only [List.length_append, rowL32, numsOf_length]); omega)).mono ?_); rintro e x3 hp; obtain ⟨vx3, rfl, hx, hb⟩ := refL_next hp (by have h0 := HR.out; have aPW := VPW.out; have aNM := VNM.out; simp only [List.length_append, rowL32, numsOf_length]; unfold maxLen; omega); replace HX := Lib.hid hx; replace HQ := Lib.hid (kept_blk _ _ _ _ HQ.out hb); replace HB := Lib.hid (HB.out.trans (hb.mono HB.out.size)); clear hp hx hb)
  refine hK _ _ (fun _ => HQ.out) ?_
  clear hK K
  try simp only [List.getElem_toArray, List.getElem_cons_succ, List.getElem_cons_zero, Act.put, List.setIfInBounds_toArray, List.set_cons_zero, List.set_cons_succ]
  refine anyT_take [] (i := 10) (v := vx3) rfl (by kernel_rfl) (by kernel_rfl) (by kernel_rfl) (fun _ _ _ h => h) (by kernel_rfl) (Or.inl ⟨by rfl, fun w' _ => by go_simp⟩) HQ.out ?_
  try simp only [List.getElem_toArray, List.getElem_cons_succ, List.getElem_cons_zero, Act.put, List.setIfInBounds_toArray, List.set_cons_zero, List.set_cons_succ]
  refine anyT_done (by kernel_rfl) ?_ _
  go_wp2_with (fail)
  go_ret
  exact ⟨vx3, rfl, by have h := HX.out; simpa only [vaL, List.append_assoc] using h, HB.out⟩
def RlR {α : Type} (X : World → Prop) (w : World) (f : List α → List Int) (Z : List Int) (l : List α) (k : Nat) (y : Value) (wr : World) : Prop := Kp w wr X ∧ BytesIn wr y (Z ++ f (l.take k))
/-- a commit as an argument in memory -/
structure RcX (q : Nat) (c : Cm) (vv : Value) (l : List Vo) (w : World) : Prop where
  h : w.heap[q]? = some (.cells (cmC c vv) 29 (0, 0))
  v : VoIn w vv l
  s : ∀ t ∈ l, BytesIn w t.sv t.sign
end Go.Proofs.YteokgklfljhcaaaGreatDoor
namespace Go.Proofs.YteokgklfljhcaaaGreatDoor
set_option linter.unusedVariables false
set_option linter.unusedSimpArgs false
open Go.RowKit
set_option maxRecDepth 100000
set_option linter.unusedSimpArgs false
set_option linter.unusedVariables false
/-- a block as an argument in memory -/
structure RkX (q : Nat) (HC CC : Array Value) (tv vv : Value) (ts : List Tb) (l : List Vo) (w : World) : Prop where
  h : w.heap[q]? = some (.cells (bkD HC tv CC) 31 (0, 0))
  t : TbIn w tv ts
  tb : ∀ t ∈ ts, BytesIn w t.bv t.bs
  v : VoIn w vv l
  s : ∀ t ∈ l, BytesIn w t.sv t.sign
end Go.Proofs.YteokgklfljhcaaaGreatDoor
namespace Go.Proofs.YteokgklfljhcaaaGreatDoor
set_option linter.unusedVariables false
set_option linter.unusedSimpArgs false
open Go.RowKit
set_option maxRecDepth 100000
set_option linter.unusedSimpArgs false
set_option linter.unusedVariables false
theorem index_str11 (s : ByteArray) (i : Nat) (h : i < s.size) : (numsOf s)[i]? = some (s[i].toNat : Int) := by
  unfold numsOf
  rw [List.getElem?_map, Array.getElem?_toList]
  show Option.map _ (s.data[i]?) = _
  rw [Array.getElem?_eq_getElem h]
  rfl
theorem nm_endB (s : ByteArray) (h : NmRel s s.size) : nmB s = (decide (0 < s.size) && decide (s.size ≤ 64)) := by
  by_cases h1 : s.size < 1
  · rw [nm_short h1, decide_eq_false (by omega)]; rfl
  · by_cases h2 : 64 < s.size
    · rw [nm_long h2, decide_eq_false (by omega : ¬ s.size ≤ 64), Bool.and_false]
    · rw [nm_good (by omega) (by omega) h, decide_eq_true (by omega), decide_eq_true (by omega)]; rfl
set_option maxHeartbeats 4000000 in
theorem rnamed_any (s : ByteArray) (w : World) (hs : s.size ≤ 140737488351232) : Calls Tryz.prog 48 #[.string s] w fun e w' => e = .returned (.bool (nmB s)) ∧ Below w.heap.size w w' := by
  obtain ⟨b, hb⟩ : ∃ b, b = nmB s := ⟨_, rfl⟩
  have HBB := Lib.hid hb
  rw [← hb]
  obtain ⟨n, hn⟩ : ∃ n, n = s.size := ⟨_, rfl⟩
  have HN := Lib.hid hn
  have hnI : (n : Int) ≤ 140737488351232 := by omega
  have HE := Lib.hid (nm_endB s)
  rw [← hn] at HE
  have HR0 := Lib.hid (show NmRel s 0 from fun j c h => by omega)
  have HSZ := Lib.hid (show (s.size : Int) = n by omega)
  clear hb hn hs
  go_enter Tryz.func48, Tryz.ntmps48
  go_wp2_with (fail)
  go_loopw [3] (fun x wr => ∃ k : Nat, k ≤ n ∧ x = .int .i64 (k : Int) ∧ wr = w ∧ Hid (NmRel s k)) (fun x _ => n - (intOf x).toNat)
  case atStart => exact ⟨0, Nat.zero_le _, rfl, rfl, HR0⟩
  case round =>
    clear HR0
    obtain ⟨k, hkn, rfl, rfl, HR⟩ := hrel
    by_cases hlt : k < n
    · have hltI : (k : Int) < (n : Int) := by omega
      have g0 : (k : Int) < s.size := by have := HN.out; omega
      have l0 : k < s.size := by have := HN.out; omega
      have HC := Lib.hid (index_str11 s k l0)
      by_cases hc1 : (s[k].toNat : Int) < 33
      · have HF := Lib.hid (nm_bad HC.out (.inl hc1))
        go_wp2_with (fail)
        go_ret
        exact ⟨by rw [HBB.out, HF.out]; rfl, Below.refl _ _⟩
      by_cases hc2 : 126 < (s[k].toNat : Int)
      · have HF := Lib.hid (nm_bad HC.out (.inr hc2))
        go_wp2_with (fail)
        go_ret
        exact ⟨by rw [HBB.out, HF.out]; rfl, Below.refl _ _⟩
      have HC12 := Lib.hid (show 33 ≤ (s[k].toNat : Int) ∧ (s[k].toNat : Int) ≤ 126 by omega)
      go_wp2_with (fail)
      go_roundw
      case rel =>
        refine ⟨k + 1, by omega, by go_num, trivial, Lib.hid fun j x hj hx => ?_⟩
        rcases (by omega : j < k ∨ j = k) with h | rfl
        · exact HR.out j x h hx
        · rw [HC.out] at hx; injection hx with hx; rw [← hx]; exact HC12.out
      case measure => simp [intOf]; omega
    · obtain rfl : k = n := by omega
      have HF := Lib.hid (HE.out HR.out)
      have hszk : (s.size : Int) = (k : Int) := HSZ.out
      by_cases h0 : 0 < k
      · have h0I : (0 : Int) < (k : Int) := by omega
        by_cases h64 : k ≤ 64
        · have h64I : (k : Int) ≤ 64 := by omega
          have HF2 := Lib.hid (show nmB s = true from by rw [HF.out, decide_eq_true h0, decide_eq_true h64]; rfl)
          go_wp2_with (fail)
          go_ret
          exact ⟨by rw [HBB.out, HF2.out]; first | rfl | (simp; omega), Below.refl _ _⟩
        · have h64I : ¬ (k : Int) ≤ 64 := by omega
          have HF2 := Lib.hid (show nmB s = false from by rw [HF.out, decide_eq_false h64, Bool.and_false])
          go_wp2_with (fail)
          go_ret
          exact ⟨by rw [HBB.out, HF2.out]; first | rfl | (simp; omega), Below.refl _ _⟩
      · have h0I : ¬ (0 : Int) < (k : Int) := by omega
        have HF2 := Lib.hid (show nmB s = false from by rw [HF.out, decide_eq_false h0, Bool.false_and])
        go_wp2_with (fail)
        go_ret
        exact ⟨by rw [HBB.out, HF2.out]; first | rfl | (simp; omega), Below.refl _ _⟩
end Go.Proofs.YteokgklfljhcaaaGreatDoor
namespace Go.Proofs.YteokgklfljhcaaaGreatDoor
set_option linter.unusedVariables false
set_option linter.unusedSimpArgs false
open Go.RowKit
set_option maxRecDepth 100000
set_option linter.unusedSimpArgs false
set_option linter.unusedVariables false
theorem va_range {w : World} {ab o : Nat} {x : Va} (h : w.rangeAt ab o (vaC x).toList) : w.cell? ⟨ab, o, none⟩ = some (.string x.name) ∧ w.cell? ⟨ab, o + 33, none⟩ = some (.int .i64 x.pow) := by
  constructor
  · have := h 0 (.string x.name) (by unfold vaC; simp)
    simpa using this
  · exact h 33 _ (by unfold vaC; rw [Array.getElem?_toList, Array.getElem?_append_right (by simp [rowOf_size])]; simp [rowOf_size])
/-- what the reference asks of one -/
structure OkR (l : List Va) (i : Nat) (x : Va) : Prop where
  nm : nmB x.name = true
  p1 : 1 ≤ x.pow
  p2 : x.pow ≤ 1099511627776
  no : (l.take i).any (nmP x.name) = false
def okRTo (l : List Va) (k : Nat) : Prop := ∀ i x, i < k → l[i]? = some x → OkR l i x
theorem okR_nil (l : List Va) : okRTo l 0 := fun i x h => absurd h (Nat.not_lt_zero _)
theorem okR_snoc {l : List Va} {k : Nat} {x : Va} (hx : l[k]? = some x) (h : okRTo l k) (ho : OkR l k x) : okRTo l (k + 1) := fun i y hi hy => by
  by_cases hk : i < k
  · exact h i y hk hy
  · obtain rfl : i = k := by omega
    rw [hx] at hy; cases hy; exact ho
theorem okR_sum {l : List Va} : ∀ {k : Nat}, okRTo l k → k ≤ l.length → (k : Int) ≤ sumV (l.take k) ∧ sumV (l.take k) ≤ 1099511627776 * k
  | 0, _, _ => by simp [sumV]
  | k + 1, h, hk => by
    have hx : l[k]? = some l[k] := List.getElem?_eq_getElem (by omega)
    have := okR_sum (fun i y hi hy => h i y (by omega) hy) (show k ≤ l.length by omega)
    have ho := h k _ (by omega) hx
    have h1 := ho.p1
    have h2 := ho.p2
    rw [sumV_snoc hx]
    omega
theorem okR_bad {l : List Va} {k : Nat} {x : Va} (hx : l[k]? = some x) (h : okRTo l k) (hb : nmB x.name = false ∨ x.pow < 1 ∨ 1099511627776 < x.pow ∨ (l.take k).any (nmP x.name) = true) : ckE l = some 30 := by
  have := okR_sum h (Nat.le_of_lt (List.getElem?_eq_some_iff.1 hx).1)
  refine ck_bad hx (okAt_no ?_)
  rcases hb with hb | hb | hb | hb
  · exact Or.inl hb
  · exact Or.inr (Or.inr (Or.inl hb))
  · exact Or.inr (Or.inr (Or.inr (by omega)))
  · exact Or.inr (Or.inl hb)
theorem sum_mono {l : List Va} : ∀ {m k : Nat}, okRTo l (k + m) → k + m ≤ l.length → sumV (l.take k) ≤ sumV (l.take (k + m))
  | 0, _, _, _ => Int.le_refl _
  | m + 1, k, h, hk => by
    have hx : l[k + m]? = some l[k + m] := List.getElem?_eq_getElem (by omega)
    have h1 := sum_mono (m := m) (k := k) (fun i y hi hy => h i y (by omega) hy) (by omega)
    have h2 := (h (k + m) _ (by omega) hx).p1
    rw [show k + (m + 1) = k + m + 1 from rfl, sumV_snoc hx]
    omega
theorem okR_good {l : List Va} (h1 : 1 ≤ l.length) (h2 : l.length ≤ 32) (h : okRTo l l.length) : ckE l = if sumV l ≤ 1099511627776 then none else some 30 := by
  by_cases hs : sumV l ≤ 1099511627776
  · rw [if_pos hs]
    refine ck_good h1 h2 fun i x hi hx => ?_
    have ho := h i x hi hx
    have := sum_mono (l := l) (k := i + 1) (m := l.length - (i + 1)) (by rw [Nat.add_sub_cancel' hi]; exact h) (by omega)
    rw [Nat.add_sub_cancel' hi, List.take_length, sumV_snoc hx] at this
    exact okAt_yes ho.nm ho.no ho.p1 (by omega)
  · rw [if_neg hs]
    cases hc : ckE l with
    | none =>
      exfalso
      obtain ⟨-, -, ho⟩ := ck_spec hc
      have hx : l[l.length - 1]? = some l[l.length - 1] := List.getElem?_eq_getElem (by omega)
      have := ho (l.length - 1) _ (by omega) hx
      unfold okAt at this
      simp only [Bool.and_eq_true, decide_eq_true_eq] at this
      have h3 := this.2.2.2
      have h4 := sumV_snoc hx
      rw [show l.length - 1 + 1 = l.length by omega, List.take_length] at h4
      omega
    | some e =>
      unfold ckE at hc
      split at hc
      · cases hc
      · injection hc with hc; rw [hc]
theorem any_snoc2 {l : List Va} {k : Nat} {x : Va} {nm : ByteArray} (h : l[k]? = some x) (ha : (l.take k).any (nmP nm) = false) (hn : x.name ≠ nm) : (l.take (k + 1)).any (nmP nm) = false := by
  rw [List.take_add_one, h, List.any_append, ha]
  simp [nmP, hn]
theorem any_hit2 {l : List Va} {k j : Nat} {x : Va} {nm : ByteArray} (h : l[j]? = some x) (hj : j < k) (hn : x.name = nm) : (l.take k).any (nmP nm) = true := by
  rw [List.any_eq_true]
  exact ⟨x, List.mem_of_getElem? (i := j) (by rw [List.getElem?_take_of_lt hj]; exact h), by simp [nmP, hn]⟩
set_option maxHeartbeats 2000000 in
theorem rtotal_any (l : List Va) (v : Value) (w : World) (hv : VaIn w v l) :
    Calls Tryz.prog 25 #[v] w fun e w' => e = .returned (.int .i64 (totV l)) ∧ Below w.heap.size w w' := by
  obtain ⟨a, cap, rfl, -, hmax⟩ := hv.len
  have HV := Lib.hid hv
  obtain ⟨T, hT⟩ : ∃ T, T = totV l := ⟨_, rfl⟩
  have HT := Lib.hid hT
  obtain ⟨n, hn⟩ : ∃ n, n = l.length := ⟨_, rfl⟩
  have HN := Lib.hid hn
  have hn1 : n ≤ 9223372036854775807 := by unfold maxLen at hmax; omega
  rw [← hn] at HV ⊢
  rw [← hT]
  clear hv hT hn hmax
  go_enter Tryz.func25, Tryz.ntmps25
  go_upto_region 3 with (fail)
  have HR0 := Lib.hid (show (0 : Int) = totV (l.take 0) from rfl)
  have HB0 := Lib.hid (Below.refl w.heap.size w)
  go_wp2_with (fail)
  go_loopw [3, 4] (fun y x wr => ∃ (k : Nat) (s : Int), k ≤ n ∧ y = .int .i64 s ∧ x = .int .i64 (k : Int) ∧ Hid (s = totV (l.take k)) ∧ Hid (Below w.heap.size w wr)) (fun _ x _ => n - (intOf x).toNat)
  case atStart => exact ⟨0, _, Nat.zero_le _, rfl, rfl, HR0, HB0⟩
  case round =>
    clear HR0 HB0
    obtain ⟨k, s, hkn, rfl, rfl, HR, HB⟩ := hrel
    by_cases hlt : k < n
    · have hltI : (k : Int) < (n : Int) := by omega
      obtain ⟨x, hx⟩ : ∃ x, l[k]? = some x := ⟨l[k]'(by have := HN.out; omega), List.getElem?_eq_getElem _⟩
      have hv := HV.out.below HB.out
      rw [HN.out] at hv
      obtain ⟨ab, ao, rfl, hab, hra⟩ := hv.at hx
      obtain ⟨-, c33⟩ := va_range hra
      have HSN := Lib.hid (totV_snoc hx)
      clear hv hab hra hx
      go_wp2_with (fail)
      go_roundw
      case rel => exact ⟨k + 1, wrap64 (s + x.pow), by omega, rfl, by go_num, Lib.hid (by rw [HSN.out, HR.out]), HB⟩
      case measure => simp [intOf]; omega
    · obtain rfl : k = n := by omega
      go_wp2_with (fail)
      go_ret
      exact ⟨by rw [HT.out]; have := HR.out; rw [HN.out, List.take_length] at this; rw [← this]; rfl, HB.out⟩
theorem beqN (a b : ByteArray) : (a.toList == b.toList) = decide (a = b) := by
  rw [Bool.eq_iff_iff]
  simp only [beq_iff_eq, decide_eq_true_eq]
  refine ⟨fun h => ?_, fun h => by rw [h]⟩
  rw [ByteArray.toList_eq, ByteArray.toList_eq] at h
  cases a; cases b; congr; exact Array.toList_inj.1 h
set_option maxHeartbeats 8000000 in
theorem rckset_any (l : List Va) (v : Value) (w : World) (hv : VaIn w v l) (hnm : ∀ x ∈ l, x.name.size ≤ 140737488351232) :
    Calls Tryz.prog 23 #[v] w fun e w' => e = .returned (.int .i64 (numE (ckE l))) ∧ Below w.heap.size w w' := by
  obtain ⟨a, cap, rfl, -, hmax⟩ := hv.len
  have HV := Lib.hid hv
  obtain ⟨E, hE⟩ : ∃ E, E = numE (ckE l) := ⟨_, rfl⟩
  have HE := Lib.hid hE
  obtain ⟨n, hn⟩ : ∃ n, n = l.length := ⟨_, rfl⟩
  have HN := Lib.hid hn
  have HNM := Lib.hid (fun (i : Nat) (x : Va) (h : l[i]? = some x) (W : World) => rnamed_any x.name W (hnm x (List.mem_of_getElem? h)))
  have hnI : (n : Int) ≤ 9223372036854775807 := by unfold maxLen at hmax; omega
  rw [← hn] at HV ⊢
  rw [← hE]
  clear hv hE hn hmax hnm
  by_cases h1 : 1 ≤ n
  · have h1I : ¬ (n : Int) < 1 := by omega
    by_cases h2 : n ≤ 32
    · have h2I : ¬ (32 : Int) < (n : Int) := by omega
      obtain ⟨x0, hx0⟩ : ∃ x, l[0]? = some x := ⟨l[0]'(by have := HN.out; omega), List.getElem?_eq_getElem _⟩
      have hv := HV.out
      rw [HN.out] at hv
      obtain ⟨ab, ao, rfl, hab, -⟩ := hv.at hx0
      have HC := Lib.hid (show ∀ (W : World), Below w.heap.size w W → ∀ i x, l[i]? = some x → W.cell? ⟨ab, ao + i * 34, none⟩ = some (.string x.name) ∧ W.cell? ⟨ab, ao + i * 34 + 33, none⟩ = some (.int .i64 x.pow) from fun W hB i x hx => by
        obtain ⟨ab2, ao2, he, -, hra⟩ := (hv.below hB).at hx
        cases he
        exact va_range hra)
      clear hv hab hx0 x0
      go_enter Tryz.func23, Tryz.ntmps23
      have HR0 := Lib.hid (okR_nil l)
      have HS0 := Lib.hid (show (0 : Int) = sumV (l.take 0) from rfl)
      have HB0 := Lib.hid (Below.refl w.heap.size w)
      go_wp2_with (fail)
      go_loopw [3, 4] (fun y x wr => ∃ (k : Nat) (s : Int), k ≤ n ∧ y = .int .i64 s ∧ x = .int .i64 (k : Int) ∧ Hid (s = sumV (l.take k)) ∧ Hid (okRTo l k) ∧ Hid (Below w.heap.size w wr)) (fun _ x _ => n - (intOf x).toNat)
      case atStart => exact ⟨0, _, Nat.zero_le _, rfl, rfl, HS0, HR0, HB0⟩
      case round =>
        clear HR0 HB0 HS0
        obtain ⟨k, s, hkn, rfl, rfl, HS, HR, HB⟩ := hrel
        by_cases hlt : k < n
        · have hltI : (k : Int) < (n : Int) := by omega
          obtain ⟨x, hx⟩ : ∃ x, l[k]? = some x := ⟨l[k]'(by have := HN.out; omega), List.getElem?_eq_getElem _⟩
          have HX := Lib.hid hx
          obtain ⟨c0, c33⟩ := HC.out wr HB.out k x hx
          have HNA := Lib.hid (HNM.out k x hx wr)
          have HSN := Lib.hid (sumV_snoc hx)
          have HSB := Lib.hid (okR_sum HR.out (by rw [← HN.out]; exact hkn))
          have hsb : 0 ≤ s ∧ s ≤ 35184372088832 := by have h := HSB.out; rw [← HS.out] at h; omega
          have HBAD := Lib.hid (okR_bad hx HR.out)
          obtain ⟨nb, hnb⟩ : ∃ b, b = nmB x.name := ⟨_, rfl⟩
          have HNB := Lib.hid hnb
          rw [← hnb] at HNA HBAD
          obtain ⟨PW, hPW⟩ : ∃ z, z = x.pow := ⟨_, rfl⟩
          have HPW := Lib.hid hPW
          rw [← hPW] at HBAD HSN c33
          obtain ⟨NM, hNM⟩ : ∃ z, z = x.name := ⟨_, rfl⟩
          have HNMx := Lib.hid hNM
          rw [← hNM] at HBAD HNA c0
          clear hx hnb hPW hNM
          cases nb with
          | false =>
            have HF := Lib.hid (show E = 30 from by rw [HE.out, HBAD.out (Or.inl rfl)]; rfl)
            go_wp2_with (go_at_call 48; (with_reducible refine HNA.out.mono ?_); rintro e w2 ⟨rfl, hb⟩; have HB2 := Lib.hid (HB.out.trans (hb.mono HB.out.size)); clear hb; have c33b := (HC.out w2 HB2.out k x HX.out).2)
            go_ret
            exact ⟨by rw [HF.out]; rfl, HB2.out⟩
          | true =>
            go_upto_region 7 with (fail)
            go_cut [42] from 14 to 65 (fun z wx => z = .bool (!decide (1 ≤ PW ∧ PW ≤ 1099511627776)) ∧ Hid (Below w.heap.size w wx))
            case first =>
              by_cases p1 : 1 ≤ PW
              · by_cases p2 : PW ≤ 1099511627776
                · have d1 : decide (PW < 1) = false := decide_eq_false (by omega)
                  have d2 : decide (1099511627776 < PW) = false := decide_eq_false (by omega)
                  have HD := Lib.hid (show decide (1 ≤ PW ∧ PW ≤ 1099511627776) = true from by exact decide_eq_true ⟨p1, p2⟩)
                  clear p1 p2
                  go_wp2_with (go_at_call 48; (with_reducible refine HNA.out.mono ?_); rintro e w2 ⟨rfl, hb⟩; have HB2 := Lib.hid (HB.out.trans (hb.mono HB.out.size)); clear hb; have c33b := (HC.out w2 HB2.out k x HX.out).2; rw [← HPW.out] at c33b)
                  go_meet
                  exact ⟨by rw [HD.out]; rfl, HB2⟩
                · have d1 : decide (PW < 1) = false := decide_eq_false (by omega)
                  have d2 : decide (1099511627776 < PW) = true := decide_eq_true (by omega)
                  have HD := Lib.hid (show decide (1 ≤ PW ∧ PW ≤ 1099511627776) = false from by exact decide_eq_false (fun h => p2 h.2))
                  clear p1 p2
                  go_wp2_with (go_at_call 48; (with_reducible refine HNA.out.mono ?_); rintro e w2 ⟨rfl, hb⟩; have HB2 := Lib.hid (HB.out.trans (hb.mono HB.out.size)); clear hb; have c33b := (HC.out w2 HB2.out k x HX.out).2; rw [← HPW.out] at c33b)
                  go_meet
                  exact ⟨by rw [HD.out]; rfl, HB2⟩
              · have d1 : decide (PW < 1) = true := decide_eq_true (by omega)
                have HD := Lib.hid (show decide (1 ≤ PW ∧ PW ≤ 1099511627776) = false from by exact decide_eq_false (fun h => p1 h.1))
                clear p1
                go_wp2_with (go_at_call 48; (with_reducible refine HNA.out.mono ?_); rintro e w2 ⟨rfl, hb⟩; have HB2 := Lib.hid (HB.out.trans (hb.mono HB.out.size)); clear hb; have c33b := (HC.out w2 HB2.out k x HX.out).2; rw [← HPW.out] at c33b)
                go_meet
                exact ⟨by rw [HD.out]; rfl, HB2⟩
            case rest =>
              obtain ⟨rfl, HB2⟩ := hcut
              by_cases hp : 1 ≤ PW ∧ PW ≤ 1099511627776
              · rw [decide_eq_true hp]
                have HP := Lib.hid hp
                have HT0 := Lib.hid (show (l.take 0).any (nmP NM) = false from rfl)
                clear hp c33 c0
                go_wp2_with (fail)
                go_loopw [5] (fun y wr => ∃ j : Nat, j ≤ k ∧ y = .int .i64 (j : Int) ∧ Hid ((l.take j).any (nmP NM) = false) ∧ Hid (Below w.heap.size w wr)) (fun y _ => k - (intOf y).toNat)
                case atStart => exact ⟨0, Nat.zero_le _, rfl, HT0, HB2⟩
                case round =>
                  clear HT0 HB2
                  obtain ⟨j, hjk, rfl, HT, HB2⟩ := hrel
                  by_cases hj : j < k
                  · have hjI : (j : Int) < (k : Int) := by omega
                    have hjn : (j : Int) < (n : Int) := by omega
                    obtain ⟨y, hy⟩ : ∃ y, l[j]? = some y := ⟨l[j]'(by have := HN.out; omega), List.getElem?_eq_getElem _⟩
                    obtain ⟨c0, -⟩ := HC.out wr HB2.out k x HX.out
                    obtain ⟨e0, -⟩ := HC.out wr HB2.out j y hy
                    rw [← HNMx.out] at c0
                    by_cases hp : y.name = NM
                    · have HF := Lib.hid (show E = 30 from by rw [HE.out, HBAD.out (Or.inr (Or.inr (Or.inr (any_hit2 hy hj hp))))]; rfl)
                      have hd : (y.name.toList == NM.toList) = true := by rw [beqN]; simp [hp]
                      obtain ⟨YN, hYN⟩ : ∃ z, z = y.name := ⟨_, rfl⟩
                      rw [← hYN] at hd e0
                      clear hp hYN hy
                      go_wp2_with (go_region)
                      go_ret
                      exact ⟨by rw [HF.out]; rfl, HB2.out.trans ((Below.refl _ _).drew.mono HB2.out.size)⟩
                    · have HA2 := Lib.hid (any_snoc2 hy HT.out hp)
                      have hd : (y.name.toList == NM.toList) = false := by rw [beqN]; simp [hp]
                      obtain ⟨YN, hYN⟩ : ∃ z, z = y.name := ⟨_, rfl⟩
                      rw [← hYN] at hd e0
                      clear hp hYN hy
                      go_wp2_with (go_region)
                      go_roundw
                      case rel => exact ⟨j + 1, by omega, by go_num, HA2, Lib.hid (HB2.out.trans ((Below.refl _ _).drew.mono HB2.out.size))⟩
                      case measure => simp [intOf]; omega
                  · obtain rfl : j = k := by omega
                    have c33 := (HC.out wr HB2.out j x HX.out).2
                    rw [← HPW.out] at c33
                    have HOK := Lib.hid (okR_snoc HX.out HR.out ⟨by rw [← HNB.out], by rw [← HPW.out]; exact HP.out.1, by rw [← HPW.out]; exact HP.out.2, by rw [← HNMx.out]; exact HT.out⟩)
                    have hpb : 1 ≤ PW ∧ PW ≤ 1099511627776 := HP.out
                    have hw : wrap64 (s + PW) = s + PW := IntWalk.wrap64_in _ ⟨by omega, by omega⟩
                    have HW := Lib.hid hw
                    clear hpb hw
                    go_wp2_with (fail)
                    go_roundw
                    case rel => exact ⟨j + 1, wrap64 (s + PW), by omega, rfl, by go_num, Lib.hid (by rw [HW.out, HSN.out, HS.out]), HOK, HB2⟩
                    case measure => simp [intOf]; omega
              · rw [decide_eq_false hp]
                have HF := Lib.hid (show E = 30 from by rw [HE.out, HBAD.out (by omega)]; rfl)
                go_wp2_with (fail)
                go_ret
                exact ⟨by rw [HF.out]; rfl, HB2.out⟩
        · obtain rfl : k = n := by omega
          have HGD := Lib.hid (okR_good (by rw [← HN.out]; exact h1) (by rw [← HN.out]; exact h2) (by rw [← HN.out]; exact HR.out))
          have HSL := Lib.hid (show s = sumV l from by rw [HS.out, HN.out, List.take_length])
          by_cases hs : s ≤ 1099511627776
          · have hsI : ¬ 1099511627776 < s := by omega
            have HF := Lib.hid (show E = 0 from by rw [HE.out, HGD.out, if_pos (by rw [← HSL.out]; exact hs)]; rfl)
            go_wp2_with (fail)
            go_ret
            exact ⟨by rw [HF.out]; rfl, HB.out⟩
          · have hsI : 1099511627776 < s := by omega
            have HF := Lib.hid (show E = 30 from by rw [HE.out, HGD.out, if_neg (by rw [← HSL.out]; exact hs)]; rfl)
            go_wp2_with (fail)
            go_ret
            exact ⟨by rw [HF.out]; rfl, HB.out⟩
    · have h2I : (32 : Int) < (n : Int) := by omega
      have HF := Lib.hid (show E = 30 from by rw [HE.out, ck_len (by rw [← HN.out]; omega)]; rfl)
      go_enter Tryz.func23, Tryz.ntmps23
      go_wp2_with (fail)
      go_ret
      exact ⟨by rw [HF.out]; rfl, Below.refl _ _⟩
  · have h1I : (n : Int) < 1 := by omega
    have HF := Lib.hid (show E = 30 from by rw [HE.out, ck_len (by rw [← HN.out]; omega)]; rfl)
    go_enter Tryz.func23, Tryz.ntmps23
    go_wp2_with (fail)
    go_ret
    exact ⟨by rw [HF.out]; rfl, Below.refl _ _⟩
end Go.Proofs.YteokgklfljhcaaaGreatDoor
