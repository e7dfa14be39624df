/- Part 11 of the proof. -/
import Derived.Test.YtjnpcmfpiejmjaaGreatDoorVo3
import Derived.Test.YtjnpcmfpiejmjaaGreatDoorVo5
import Derived.Test.YtjnpcmfpiejmjaaGreatDoorVo10
namespace Go.Proofs.YtjnpcmfpiejmjaaGreatDoor
set_option linter.unusedVariables false
set_option linter.unusedSimpArgs false
open Go.RowKit
set_option maxRecDepth 100000
theorem wlen_ok (n : Nat) (w : World) (h1 : 1 ≤ n) (h2 : n ≤ 32) : Calls Tryz.prog 190 #[.int .i64 (n : Int)] w fun e w' => e = .returned (.int .i64 (2 * (n : Int) + 3)) ∧ w = w' := by
  go_enter Tryz.func190, Tryz.ntmps190
  go_wp2
  go_ret
  exact ⟨rfl, rfl⟩
theorem wlen_no (n : Int) (w : World) (h : n < 1 ∨ 32 < n) : Calls Tryz.prog 190 #[.int .i64 n] w fun e w' => e = .returned (.int .i64 0) ∧ w = w' := by
  rcases h with h | h
  · go_enter Tryz.func190, Tryz.ntmps190
    go_wp2
    go_ret
    exact ⟨rfl, rfl⟩
  · have h' : ¬ n < 1 := by omega
    go_enter Tryz.func190, Tryz.ntmps190
    go_wp2
    go_ret
    exact ⟨rfl, rfl⟩
theorem wleaf_ok (n : Int) (w : World) (h1 : 0 ≤ n) (h2 : n < 1024) : Calls Tryz.prog 191 #[.int .i64 n] w fun e w' => e = .returned (.bool true) ∧ w = w' := by
  have e1 : decide (n < 1024) = true := by simpa using h2
  go_enter Tryz.func191, Tryz.ntmps191
  go_wp2
  go_ret
  exact ⟨by simp, rfl⟩
theorem wleaf_no (n : Int) (w : World) (h : n < 0 ∨ 1024 ≤ n) : Calls Tryz.prog 191 #[.int .i64 n] w fun e w' => e = .returned (.bool false) ∧ w = w' := by
  rcases h with h | h
  · have e1 : decide (0 ≤ n) = false := by simpa using h
    go_enter Tryz.func191, Tryz.ntmps191
    go_wp2
    go_ret
    exact ⟨by simp, rfl⟩
  · have e1 : decide (n < 1024) = false := by simpa using h
    have e2 : 0 ≤ n := by omega
    go_enter Tryz.func191, Tryz.ntmps191
    go_wp2
    go_ret
    exact ⟨by simp, rfl⟩
theorem and15 (n : Nat) (h : n < 1024) : bits .and .i64 (n : Int) 15 = ((n % 16 : Nat) : Int) := by
  have : ∀ b : Fin 1024, bits .and .i64 (b.val : Int) 15 = ((b.val % 16 : Nat) : Int) := by decide +kernel
  exact this ⟨n, h⟩
theorem wup_any (n : Nat) (w : World) (h : n < 1024) : Calls Tryz.prog 196 #[.int .i64 (n : Int)] w fun e w' => e = .returned (.int .i64 ((n / 16 : Nat) : Int)) ∧ w = w' := by
  go_enter Tryz.func196, Tryz.ntmps196
  go_wp2
  go_ret
  exact ⟨by simp, rfl⟩
theorem wlow_any (n : Nat) (w : World) (h : n < 1024) : Calls Tryz.prog 197 #[.int .i64 (n : Int)] w fun e w' => e = .returned (.int .i64 ((n % 16 : Nat) : Int)) ∧ w = w' := by
  have hb := and15 n h
  go_enter Tryz.func197, Tryz.ntmps197
  go_wp2
  go_ret
  exact ⟨by simp, rfl⟩
end Go.Proofs.YtjnpcmfpiejmjaaGreatDoor
namespace Go.Proofs.YtjnpcmfpiejmjaaGreatDoor
set_option linter.unusedVariables false
set_option linter.unusedSimpArgs false
open Go.RowKit
set_option maxRecDepth 100000
theorem RowAt.range {w : World} {g n : Nat} {k : IntKind} {t : TypeId} {f : Nat → Int} (h : RowAt w g k n t f) : w.rangeAt g 0 (rowOf k n f).toList := fun j v hv => by
  rw [Nat.zero_add, cell_of_row w g j _ t _ h]
  simpa using hv
theorem row_yields {ops : Array Oper} {S : World → Prop} {op : Oper} {a : Act} (hw : Region.wanted op (yielded ops a.tmps) = true) (ty : TypeId) (x : Operand) (ho : op.op = .load ty x)
    (b : Nat) (hx : a.eval x = .pointer (some ⟨b, 0, none⟩)) (k : IntKind) (n : Nat) (f : Nat → Int) (d : TypeDesc) (hS : ∀ w, S w → RowAt w b k n ty f)
    (hu : Tryz.prog.underlying ty = some d) (hd : d.isRow = true) (hi : (Tryz.prog.info? ty).map (·.size) = some n) : YieldsIf Tryz.prog ops S op (.agg (rowOf k n f)) a := by
  have h := yieldsIf_load_mid (P := Tryz.prog) (S := S) hw ty x ho b 0 hx (rowOf k n f).toList d (fun w h => (hS w h).range) hu hd (by rw [hi]; simp [rowOf])
  simpa using h
theorem row_yields_mid {ops : Array Oper} {S : World → Prop} {op : Oper} {a : Act} (hw : Region.wanted op (yielded ops a.tmps) = true) (ty : TypeId) (x : Operand) (ho : op.op = .load ty x)
    (b o : Nat) (hx : a.eval x = .pointer (some ⟨b, o, none⟩)) (k : IntKind) (n : Nat) (f : Nat → Int) (d : TypeDesc) (hS : ∀ w, S w → w.rangeAt b o (rowOf k n f).toList)
    (hu : Tryz.prog.underlying ty = some d) (hd : d.isRow = true) (hi : (Tryz.prog.info? ty).map (·.size) = some n) : YieldsIf Tryz.prog ops S op (.agg (rowOf k n f)) a := by
  have h := yieldsIf_load_mid (P := Tryz.prog) (S := S) hw ty x ho b o hx (rowOf k n f).toList d hS hu hd (by rw [hi]; simp [rowOf])
  simpa using h
end Go.Proofs.YtjnpcmfpiejmjaaGreatDoor
namespace Go.Proofs.YtjnpcmfpiejmjaaGreatDoor
set_option linter.unusedVariables false
set_option linter.unusedSimpArgs false
open Go.RowKit
set_option maxRecDepth 100000
/-- behind a call of a Writer that was made above the mark B -/
theorem wpost_on {p B : Nat} {v : Value} {xs ys : List Int} {w0 w w' : World} {e : Ending} (h : WPost p v xs ys w e w') (hw : WAt w p v xs) (hb : Below B w0 w) (hB : B ≤ p) :
    e = .returned (.pointer (some ⟨p, 0, none⟩)) ∧ ∃ v', WAt w' p v' (xs ++ ys) ∧ Below B w0 w' := by
  obtain ⟨he, v', h1, h2⟩ := h
  exact ⟨he, v', h1, hb.trans (h2.below hw hB)⟩
theorem wuint_on (p B : Nat) (v : Value) (xs : List Int) (n : Nat) (w0 w : World) (hw : WAt w p v xs) (hb : Below B w0 w) (hB : B ≤ p) (hn : n < 18446744073709551616) (hl : xs.length + 10 ≤ 140737488355328) :
    Calls Tryz.prog 144 #[.pointer (some ⟨p, 0, none⟩), .int .u64 (n : Int)] w fun e w' => e = .returned (.pointer (some ⟨p, 0, none⟩)) ∧ ∃ v', WAt w' p v' (xs ++ varint n) ∧ Below B w0 w' :=
  (wuint_any p v xs n w hw hn hl).mono fun _ _ h => wpost_on h hw hb hB
theorem wuint_lit (p B : Nat) (v : Value) (xs : List Int) (n : Nat) (m : Int) (hm : m = (n : Int)) (w0 w : World) (hw : WAt w p v xs) (hb : Below B w0 w) (hB : B ≤ p) (hn : n < 18446744073709551616) (hl : xs.length + 10 ≤ 140737488355328) :
    Calls Tryz.prog 144 #[.pointer (some ⟨p, 0, none⟩), .int .u64 m] w fun e w' => e = .returned (.pointer (some ⟨p, 0, none⟩)) ∧ ∃ v', WAt w' p v' (xs ++ varint n) ∧ Below B w0 w' := by
  subst hm; exact wuint_on p B v xs n w0 w hw hb hB hn hl
theorem whash_on (p B : Nat) (v : Value) (xs : List Int) (f : Nat → Int) (w0 w : World) (hw : WAt w p v xs) (hb : Below B w0 w) (hB : B ≤ p) (hl : xs.length + 32 ≤ 140737488355328) :
    Calls Tryz.prog 81 #[.pointer (some ⟨p, 0, none⟩), .agg (rowOf .u8 32 f)] w fun e w' => e = .returned (.pointer (some ⟨p, 0, none⟩)) ∧ ∃ v', WAt w' p v' (xs ++ rowL 32 f) ∧ Below B w0 w' :=
  (whash_any p v xs f w hw hl).mono fun _ _ h => wpost_on h hw hb hB
theorem wdone_on (p B : Nat) (v : Value) (xs : List Int) (w0 w : World) (hw : WAt w p v xs) (hb : Below B w0 w) (hB : B ≤ p) (hl : xs.length ≤ 140737488355328) :
    Calls Tryz.prog 82 #[.pointer (some ⟨p, 0, none⟩)] w fun e w' => ∃ v', e = .returned v' ∧ BytesIn w' v' xs ∧ Below B w0 w' :=
  (done_any p v xs w hw hl).mono fun _ _ ⟨v', he, ho, hb'⟩ => ⟨v', he, owns_in ho (by unfold maxLen; omega), hb.trans (hb'.mono (by have := hw.lt; omega))⟩
theorem shSum_on (B : Nat) (v : Value) (xs : List Int) (w0 w : World) (hx : BytesIn w v xs) (hb : Below B w0 w) (hB : B ≤ w.heap.size) (he : Env w) :
    Calls Tryz.prog 89 #[v] w fun e w' => e = .returned (.agg (rowOf .u8 32 (sumF xs))) ∧ Below B w0 w' :=
  (shSum_any v xs w hx he).mono fun _ _ ⟨h1, h2⟩ => ⟨h1, hb.trans (h2.mono hB)⟩
theorem new_on (w : World) : Calls Tryz.prog 78 #[] w fun e w' => e = .returned (.pointer (some ⟨w.heap.size, 0, none⟩)) ∧ WAt w' w.heap.size (.slice none 0 0) [] ∧ Below w.heap.size w w' := new_any w
theorem rowL32 (f : Nat → Int) : (rowL 32 f).length = 32 := rowL_length 32 f
theorem vlen (n : Nat) (h : n < 18446744073709551616) : (varint n).length ≤ 10 := by rw [varint_length]; exact glen_le h
theorem row32_list (f : Nat → Int) : (rowOf .u8 32 f).toList.length = 32 := by simp [rowOf]
/-- what lies in memory while a chain's value is made: the value v in block b, the result's zeros in block r, all above the mark m -/
structure HaveM (w w' : World) (b r B : Nat) (v : Nat → Int) : Prop where
  below : Below w.heap.size w w'
  val : RowAt w' b .u8 32 32 v
  res : RowAt w' r .u8 32 32 (fun _ => 0)
  env : Env w'
  size : B ≤ w'.heap.size
  lo : 2 < B
  hb : b < B
  hr : r < B
theorem HaveM.calls {w w' w2 : World} {b r B : Nat} {v : Nat → Int} (m : HaveM w w' b r B v) (hw : w.heap.size ≤ B) (h : Below B w' w2) : HaveM w w2 b r B v :=
  ⟨m.below.trans (h.mono hw), m.val.below h m.hb, m.res.below h m.hr, m.env.below h m.lo, Nat.le_trans m.size h.size, m.lo, m.hb, m.hr⟩
theorem HaveM.put {w w' : World} {b r B : Nat} {v : Nat → Int} (m : HaveM w w' b r B v) (h : w.heap.size ≤ b ∧ b ≠ r ∧ 2 < b) (v' : Nat → Int) : HaveM w (w'.setRow b (rowOf .u8 32 v')) b r B v' :=
  ⟨below_setRow m.below h.1 _, setRow_heap _ _ _ _ _ _ m.val, (setRow_other _ _ _ _ (Ne.symm h.2.1)).trans m.res, m.env.below (B := b) (below_setRow (Below.refl _ _) (Nat.le_refl _) _) h.2.2, by simpa [World.setRow] using m.size, m.lo, m.hb, m.hr⟩
set_option maxHeartbeats 1000000 in
theorem wstep_any (v : Nat → Int) (leaf chain from_ to_ : Int) (w : World) (he : Env w) :
    Calls Tryz.prog 193 #[.agg (rowOf .u8 32 v), .int .i64 leaf, .int .i64 chain, .int .i64 from_, .int .i64 to_] w fun e w' => e = .returned (.agg (rowOf .u8 32 (stepF v leaf chain from_ to_))) ∧ Below w.heap.size w w' := by
  have HE := Lib.hid he
  clear he
  have HU1 := Lib.hid (uN_wrap leaf)
  have HU2 := Lib.hid (uN_wrap chain)
  have HL1 := Lib.hid (uN_lt leaf)
  have HL2 := Lib.hid (uN_lt chain)
  have HG1 := Lib.hid (vlen _ (uN_lt leaf))
  have HG2 := Lib.hid (vlen _ (uN_lt chain))
  have HG0 := Lib.hid (vlen 3 (by decide))
  have HGL := Lib.hid HE.out.lt
  obtain ⟨a, ha⟩ : ∃ a : Nat, max from_ 0 = (a : Int) := ⟨(max from_ 0).toNat, by omega⟩
  obtain ⟨b, hb⟩ : ∃ b : Int, min to_ 15 = b := ⟨_, rfl⟩
  have HF := Lib.hid (show stepF v leaf chain from_ to_ = stepN leaf chain v a (b.toNat - a) by unfold stepF; rw [ha, hb]; rfl)
  have HA := Lib.hid ha
  have HB15 := Lib.hid (show b ≤ 15 by omega)
  have HBM := Lib.hid hb
  clear ha hb
  go_enter Tryz.func193, Tryz.ntmps193
  go_wp2_with (refine wpList_max2 rfl (.tmp 12) (.const (.int .i64 0)) 3 rfl from_ 0 rfl rfl (a : Int) HA.out ?_)
  rw [zeros32]
  have HB := Lib.hid ((below_alloc w (.cells (rowOf .u8 32 v) 32)).trans ((below_alloc _ (.cells (rowOf .u8 32 (fun _ => 0)) 32)).mono (by simp)))
  have M : Hid (HaveM w ((w.alloc (.cells (rowOf .u8 32 v) 32)).alloc (.cells (rowOf .u8 32 (fun _ => 0)) 32)) w.heap.size (w.heap.size + 1) (w.heap.size + 1 + 1) (stepN leaf chain v a 0)) := Lib.hid ⟨HB.out, (RowAt.new w .u8 32 32 v).alloc _, by
    have := RowAt.new (w.alloc (.cells (rowOf .u8 32 v) 32)) .u8 32 32 (fun _ => 0)
    rw [shSize_alloc] at this; exact this, HE.out.below HB.out HE.out.lt, by simp, by have := HE.out.lt; omega, by omega, by omega⟩
  clear HB HE
  generalize (w.alloc (.cells (rowOf .u8 32 v) 32)).alloc (.cells (rowOf .u8 32 (fun _ => 0)) 32) = w1 at *
  go_loopw [11] (fun p wr => ∃ q k : Nat, k ≤ b.toNat - a ∧ q = a + k ∧ p = .int .i64 (q : Int) ∧ Hid (HaveM w wr w.heap.size (w.heap.size + 1) (w.heap.size + 1 + 1) (stepN leaf chain v a k))) (fun p _ => (15 - intOf p).toNat)
  case atStart => exact ⟨a, 0, Nat.zero_le _, rfl, rfl, M⟩
  case round =>
    clear M w1
    obtain ⟨q, k, hk, hq, rfl, M⟩ := hrel
    by_cases hlt : (q : Int) < b
    · have hq15 : q < 15 := by have := HB15.out; omega
      have HQ := Lib.hid (show IntKind.u64.wrap (q : Int) = (q : Int) from IntWalk.u64_in _ (by omega))
      have HQL := Lib.hid (show q < 18446744073709551616 by omega)
      have HGQ := Lib.hid (vlen q (by omega))
      have HK := Lib.hid (show k + 1 ≤ b.toNat - a by omega)
      replace hq := Lib.hid hq
      go_upto_region 4 with (refine wpList_min2 rfl (.tmp 15) (.const (.int .i64 15)) 3 rfl to_ 15 rfl rfl b HBM.out ?_)
      refine wp_region_T (fun w' => RowAt w' w.heap.size .u8 32 32 (stepN leaf chain v a k)) [0, 1, 4, 7, 10] (by kernel_rfl) ?_
      replace M := Lib.hid (show HaveM w wr.drew w.heap.size (w.heap.size + 1) (w.heap.size + 1 + 1) (stepN leaf chain v a k) from M.out.calls (by omega) ((Below.refl _ _).drew))
      generalize wr.drew = w2 at *
      clear wr
      refine anyT_takeY (i := 2) (v := .int .i64 leaf) rfl (by kernel_rfl) (by kernel_rfl) (by kernel_rfl) (fun _ _ _ h => h) (by kernel_rfl) (Or.inl ⟨by rfl, by intro w; go_simp⟩) ?_
      try simp only [List.getElem_toArray, List.getElem_cons_succ, List.getElem_cons_zero, Act.put, List.setIfInBounds_toArray, List.set_cons_zero, List.set_cons_succ]
      refine anyT_takeY (i := 3) (v := .int .u64 (IntKind.u64.wrap leaf)) rfl (by kernel_rfl) (by kernel_rfl) (by kernel_rfl) (fun _ _ _ h => h) (by kernel_rfl) (Or.inl ⟨by rfl, by intro w; go_simp⟩) ?_
      try simp only [List.getElem_toArray, List.getElem_cons_succ, List.getElem_cons_zero, Act.put, List.setIfInBounds_toArray, List.set_cons_zero, List.set_cons_succ]
      refine anyT_takeY (i := 5) (v := .int .i64 chain) rfl (by kernel_rfl) (by kernel_rfl) (by kernel_rfl) (fun _ _ _ h => h) (by kernel_rfl) (Or.inl ⟨by rfl, by intro w; go_simp⟩) ?_
      try simp only [List.getElem_toArray, List.getElem_cons_succ, List.getElem_cons_zero, Act.put, List.setIfInBounds_toArray, List.set_cons_zero, List.set_cons_succ]
      refine anyT_takeY (i := 6) (v := .int .u64 (IntKind.u64.wrap chain)) rfl (by kernel_rfl) (by kernel_rfl) (by kernel_rfl) (fun _ _ _ h => h) (by kernel_rfl) (Or.inl ⟨by rfl, by intro w; go_simp⟩) ?_
      try simp only [List.getElem_toArray, List.getElem_cons_succ, List.getElem_cons_zero, Act.put, List.setIfInBounds_toArray, List.set_cons_zero, List.set_cons_succ]
      refine anyT_takeY (i := 8) (v := .int .i64 (q : Int)) rfl (by kernel_rfl) (by kernel_rfl) (by kernel_rfl) (fun _ _ _ h => h) (by kernel_rfl) (Or.inl ⟨by rfl, by intro w; go_simp⟩) ?_
      try simp only [List.getElem_toArray, List.getElem_cons_succ, List.getElem_cons_zero, Act.put, List.setIfInBounds_toArray, List.set_cons_zero, List.set_cons_succ]
      refine anyT_takeY (i := 9) (v := .int .u64 (IntKind.u64.wrap (q : Int))) rfl (by kernel_rfl) (by kernel_rfl) (by kernel_rfl) (fun _ _ _ h => h) (by kernel_rfl) (Or.inl ⟨by rfl, by intro w; go_simp⟩) ?_
      try simp only [List.getElem_toArray, List.getElem_cons_succ, List.getElem_cons_zero, Act.put, List.setIfInBounds_toArray, List.set_cons_zero, List.set_cons_succ]
      rw [HU1.out, HU2.out, HQ.out]
      refine anyT_take [12, 13, 14, 15] (i := 11) (v := .agg (rowOf .u8 32 (stepN leaf chain v a k))) rfl (by kernel_rfl) (by kernel_rfl) (by kernel_rfl) (fun _ _ _ h => h) (by kernel_rfl) (row_yields (by rfl) 32 (.tmp 5) rfl w.heap.size rfl .u8 32 _ _ (fun _ h => h) Tryz.underlying32 rfl (by kernel_rfl)) M.out.val ?_
      try simp only [List.getElem_toArray, List.getElem_cons_succ, List.getElem_cons_zero, Act.put, List.setIfInBounds_toArray, List.set_cons_zero, List.set_cons_succ]
      refine anyT_one (i := 0) (by kernel_rfl) rfl (fun K hK => ?_)
      rw [if_pos (by rfl)]
      try simp only [List.getElem_toArray, List.getElem_cons_succ, List.getElem_cons_zero]
      (go_simp; refine (new_on _).mono ?_; rintro e w3 ⟨rfl, HW, HB2⟩; have HP := Lib.hid M.out.size; replace M := Lib.hid (M.out.calls (by omega) (HB2.mono HP.out)); replace HW := Lib.hid HW; clear HB2)
      refine hK _ _ (fun _ => M.out.val) ?_
      clear hK K
      try simp only [List.getElem_toArray, List.getElem_cons_succ, List.getElem_cons_zero, Act.put, List.setIfInBounds_toArray, List.set_cons_zero, List.set_cons_succ]
      generalize w2.heap.size = p at *
      clear w2
      refine anyT_one (i := 1) (by kernel_rfl) rfl (fun K hK => ?_)
      rw [if_pos (by rfl)]
      try simp only [List.getElem_toArray, List.getElem_cons_succ, List.getElem_cons_zero]
      (go_simp; refine (wuint_lit p (w.heap.size + 1 + 1) _ _ 3 3 rfl _ _ HW.out (Below.refl _ _) HP.out (by decide) (by simp)).mono ?_; rintro e w4 ⟨rfl, v4, hw4, HB4⟩; replace M := Lib.hid (M.out.calls (by omega) HB4); replace HW := Lib.hid hw4; clear hw4 HB4 w3)
      refine hK _ _ (fun _ => M.out.val) ?_
      clear hK K
      try simp only [List.getElem_toArray, List.getElem_cons_succ, List.getElem_cons_zero, Act.put, List.setIfInBounds_toArray, List.set_cons_zero, List.set_cons_succ]
      refine anyT_one (i := 4) (by kernel_rfl) rfl (fun K hK => ?_)
      rw [if_pos (by rfl)]
      try simp only [List.getElem_toArray, List.getElem_cons_succ, List.getElem_cons_zero]
      (go_simp; refine (wuint_on p (w.heap.size + 1 + 1) _ _ (uN leaf) _ _ HW.out (Below.refl _ _) HP.out HL1.out (by have := HG0.out; simp only [List.length_append, List.length_nil]; omega)).mono ?_; rintro e w6 ⟨rfl, v6, hw6, HB6⟩; replace M := Lib.hid (M.out.calls (by omega) HB6); replace HW := Lib.hid hw6; clear hw6 HB6 w4)
      refine hK _ _ (fun _ => M.out.val) ?_
      clear hK K
      try simp only [List.getElem_toArray, List.getElem_cons_succ, List.getElem_cons_zero, Act.put, List.setIfInBounds_toArray, List.set_cons_zero, List.set_cons_succ]
      refine anyT_one (i := 7) (by kernel_rfl) rfl (fun K hK => ?_)
      rw [if_pos (by rfl)]
      try simp only [List.getElem_toArray, List.getElem_cons_succ, List.getElem_cons_zero]
      (go_simp; refine (wuint_on p (w.heap.size + 1 + 1) _ _ (uN chain) _ _ HW.out (Below.refl _ _) HP.out HL2.out (by have := HG0.out; have := HG1.out; simp only [List.length_append, List.length_nil]; omega)).mono ?_; rintro e w7 ⟨rfl, v7, hw7, HB7⟩; replace M := Lib.hid (M.out.calls (by omega) HB7); replace HW := Lib.hid hw7; clear hw7 HB7 w6)
      refine hK _ _ (fun _ => M.out.val) ?_
      clear hK K
      try simp only [List.getElem_toArray, List.getElem_cons_succ, List.getElem_cons_zero, Act.put, List.setIfInBounds_toArray, List.set_cons_zero, List.set_cons_succ]
      refine anyT_one (i := 10) (by kernel_rfl) rfl (fun K hK => ?_)
      rw [if_pos (by rfl)]
      try simp only [List.getElem_toArray, List.getElem_cons_succ, List.getElem_cons_zero]
      (go_simp; refine (wuint_on p (w.heap.size + 1 + 1) _ _ q _ _ HW.out (Below.refl _ _) HP.out HQL.out (by have := HG0.out; have := HG1.out; have := HG2.out; simp only [List.length_append, List.length_nil]; omega)).mono ?_; rintro e w5 ⟨rfl, v5, hw5, HB5⟩; replace M := Lib.hid (M.out.calls (by omega) HB5); replace HW := Lib.hid hw5; clear hw5 HB5 w7)
      refine hK _ _ (fun _ => M.out.val) ?_
      clear hK K
      try simp only [List.getElem_toArray, List.getElem_cons_succ, List.getElem_cons_zero, Act.put, List.setIfInBounds_toArray, List.set_cons_zero, List.set_cons_succ]
      refine anyT_one (i := 12) (by kernel_rfl) rfl (fun K hK => ?_)
      rw [if_pos (by rfl)]
      try simp only [List.getElem_toArray, List.getElem_cons_succ, List.getElem_cons_zero]
      (go_simp; refine (whash_on p (w.heap.size + 1 + 1) _ _ (stepN leaf chain v a k) _ _ HW.out (Below.refl _ _) HP.out (by have := HG0.out; have := HG1.out; have := HG2.out; have := HGQ.out; simp only [List.length_append, List.length_nil]; omega)).mono ?_; rintro e w8 ⟨rfl, v8, hw8, HB8⟩; replace M := Lib.hid (M.out.calls (by omega) HB8); replace HW := Lib.hid hw8; clear hw8 HB8 w5)
      refine hK _ _ (not_mem rfl) ?_
      clear hK K
      try simp only [List.getElem_toArray, List.getElem_cons_succ, List.getElem_cons_zero, Act.put, List.setIfInBounds_toArray, List.set_cons_zero, List.set_cons_succ]
      refine anyT_one (i := 13) (by kernel_rfl) rfl (fun K hK => ?_)
      rw [if_pos (by rfl)]
      try simp only [List.getElem_toArray, List.getElem_cons_succ, List.getElem_cons_zero]
      (go_simp; refine (wdone_on p (w.heap.size + 1 + 1) _ _ _ _ HW.out (Below.refl _ _) HP.out (by have := HG0.out; have := HG1.out; have := HG2.out; have := HGQ.out; have := rowL32 (stepN leaf chain v a k); simp only [List.length_append, List.length_nil]; omega)).mono ?_; rintro e w9 ⟨v9, rfl, hw9, HB9⟩; replace M := Lib.hid (M.out.calls (by omega) HB9); have HX := Lib.hid hw9; clear hw9 HB9 HW w8)
      refine hK _ _ (not_mem rfl) ?_
      clear hK K
      try simp only [List.getElem_toArray, List.getElem_cons_succ, List.getElem_cons_zero, Act.put, List.setIfInBounds_toArray, List.set_cons_zero, List.set_cons_succ]
      refine anyT_one (i := 14) (by kernel_rfl) rfl (fun K hK => ?_)
      rw [if_pos (by rfl)]
      try simp only [List.getElem_toArray, List.getElem_cons_succ, List.getElem_cons_zero]
      (go_simp; refine (shSum_on (w.heap.size + 1 + 1) _ _ _ _ HX.out (Below.refl _ _) M.out.size M.out.env).mono ?_; rintro e w10 ⟨rfl, HB10⟩; replace M := Lib.hid (M.out.calls (by omega) HB10); clear HB10 HX w9)
      refine hK _ _ (not_mem rfl) ?_
      clear hK K
      try simp only [List.getElem_toArray, List.getElem_cons_succ, List.getElem_cons_zero, Act.put, List.setIfInBounds_toArray, List.set_cons_zero, List.set_cons_succ]
      rw [show sumF ([] ++ varint 3 ++ varint (uN leaf) ++ varint (uN chain) ++ varint q ++ rowL 32 (stepN leaf chain v a k)) = stepN leaf chain v a (k + 1) from by rw [List.nil_append, hq.out]; rfl]
      refine anyT_one (i := 15) (by kernel_rfl) rfl (fun K hK => ?_)
      rw [if_pos (by rfl)]
      try simp only [List.getElem_toArray, List.getElem_cons_succ, List.getElem_cons_zero]
      (refine wp_store_row 32 (.tmp 5) (.tmp 34) rfl w.heap.size _ rfl rfl 32 _ M.out.val (by rw [rowOf_size]; kernel_rfl) (by rw [rowOf_size, rowOf_size]) (rowOf_one _ _ _) ?_)
      refine hK _ _ (not_mem rfl) ?_
      clear hK K
      try simp only [List.getElem_toArray, List.getElem_cons_succ, List.getElem_cons_zero, Act.put, List.setIfInBounds_toArray, List.set_cons_zero, List.set_cons_succ]
      refine anyT_done (by kernel_rfl) ?_ _
      replace M := Lib.hid (M.out.put ⟨Nat.le_refl _, by omega, HGL.out⟩ (stepN leaf chain v a (k + 1)))
      generalize w10.setRow w.heap.size (rowOf .u8 32 (stepN leaf chain v a (k + 1))) = w11 at *
      go_wp2_with (fail)
      go_roundw
      case rel => exact ⟨q + 1, k + 1, HK.out, by rw [hq.out]; omega, by go_num, M⟩
      case measure => simp [intOf]; omega
    · have HK := Lib.hid (show k = b.toNat - a by omega)
      replace hq := Lib.hid hq
      go_wp2_with (first
        | (refine wpList_min2 rfl (.tmp 15) (.const (.int .i64 15)) 3 rfl to_ 15 rfl rfl b HBM.out ?_)
        | (refine wpList_load_row rfl 32 (.tmp 5) rfl w.heap.size rfl 32 _ (0, 0) _ M.out.val Tryz.underlying32 rfl (by rw [rowOf_size]; kernel_rfl) ?_)
        | (refine wpList_store_row rfl 32 (.tmp 10) (.tmp 35) rfl (w.heap.size + 1) _ rfl rfl 32 _ M.out.res (by rw [rowOf_size]; kernel_rfl) (by rw [rowOf_size, rowOf_size]) (rowOf_one _ _ _) ?_))
      refine bodyPost_ret (results_cell_row rfl _ _ (w.heap.size + 1) 32 (rowOf .u8 32 (stepN leaf chain v a k)) (0, 0) _ rfl (setRow_heap _ _ _ _ _ _ M.out.res) Tryz.underlying32 rfl (by rw [rowOf_size]; kernel_rfl)) rfl ?_
      exact ⟨by rw [HF.out, ← HK.out], below_setRow M.out.below (by omega) _⟩
#print axioms wstep_any
end Go.Proofs.YtjnpcmfpiejmjaaGreatDoor
namespace Go.Proofs.YtjnpcmfpiejmjaaGreatDoor
set_option linter.unusedVariables false
set_option linter.unusedSimpArgs false
open Go.RowKit
set_option maxRecDepth 100000
def natInts (l : List Nat) : List Int := l.map fun d : Nat => (d : Int)
theorem natInts_length (l : List Nat) : (natInts l).length = l.length := by simp [natInts]
theorem natInts_append (a b : List Nat) : natInts (a ++ b) = natInts a ++ natInts b := by simp [natInts]
theorem digs_snoc (xs : List Int) (k : Nat) (x : Int) (h : xs[k]? = some x) : digs (xs.take (k + 1)) = digs (xs.take k) ++ [x.toNat / 16, x.toNat % 16] := by
  rw [List.take_add_one, h, Option.toList_some, digs_append]
  rfl
theorem lacks_snoc (l : List Nat) (k d : Nat) (h : l[k]? = some d) : lacks (l.take (k + 1)) = lacks (l.take k) + (15 - d) := by
  rw [List.take_add_one, h, Option.toList_some, lacks_append]
  simp [lacks]
theorem wkept_below {w w' : World} {B n : Nat} {e : TypeId} {v : Value} {vs : List Value} (h : w.ownsRow B e 1 v n vs) (hb : Below w.heap.size w w') : w'.ownsRow B e 1 v n vs := by
  refine h.kept (row := none) ⟨hb.os, hb.tape, hb.output, hb.size, fun k hk _ => hb.block k hk⟩ ?_
  cases v.ownBlock <;> simp
structure DigM (w wr : World) (v : Value) (xs : List Int) (v' : Value) (l : List Nat) : Prop where
  arg : BytesIn wr v xs
  row : wr.ownsRow w.heap.size 3 1 v' (natInts l).length (intVals (natInts l))
  below : Below w.heap.size w wr
theorem DigM.grow {w wr w2 w3 : World} {v v' v2 : Value} {xs : List Int} {l m : List Nat} (h : DigM w wr v xs v' l) (hb : Below wr.heap.size wr w2) (hg : w2.grownBy w3 v'.ownBlock)
    (ho : w3.ownsRow w.heap.size 3 1 v2 (natInts l ++ natInts m).length (intVals (natInts l ++ natInts m))) (hx : BytesIn w v xs) : DigM w w3 v xs v2 (l ++ m) := by
  have h1 := (h.below.trans (hb.mono h.below.size)).grown hg (Nat.le_trans h.below.size hb.size) (fun k hk => (h.row.lt k hk).1)
  exact ⟨hx.below h1, by rw [natInts_append]; exact ho, h1⟩
set_option maxHeartbeats 2000000 in
theorem wdigits_ok (v : Value) (xs : List Int) (w : World) (hx : BytesIn w v xs) (hb : bytesOk xs) (h1 : 1 ≤ xs.length) (h2 : xs.length ≤ 32) :
    Calls Tryz.prog 192 #[v] w fun e w' => ∃ v', e = .returned v' ∧ w'.ownsRow w.heap.size 3 1 v' (natInts (digF xs)).length (intVals (natInts (digF xs))) ∧ Below w.heap.size w w' := by
  have HX := Lib.hid hx
  have HB := Lib.hid hb
  have HL := Lib.hid (And.intro h1 h2)
  have hxx := hx
  obtain ⟨a, cap, rfl, hc, hm, hcell⟩ := hx
  rcases hcell with rfl | ⟨ab, ao, rfl, hcell⟩
  · simp at h1
  have HCE := Lib.hid hcell
  obtain ⟨n, hn⟩ : ∃ n, n = xs.length := ⟨_, rfl⟩
  rw [← hn] at HX hxx h1 h2 hc hm HL ⊢
  have HN := Lib.hid hn
  clear hcell hb hxx hc hm hn
  obtain ⟨iI, hI, hI0, hI1, hI2⟩ := info_parts infoInt
  have HI := Lib.hid (And.intro hI (And.intro hI0 (And.intro hI1 hI2)))
  clear hI hI0 hI1 hI2
  have hln : (2 * (n : Int) + 3) = ((2 * n + 3 : Nat) : Int) := by omega
  have HLN := Lib.hid hln
  clear hln
  have hn0 : ¬ (2 * (n : Int) + 3 = 0) := by omega
  go_enter Tryz.func192, Tryz.ntmps192
  go_wp2_with (first
    | (go_at_call 190; (with_reducible refine (wlen_ok n _ HL.out.1 HL.out.2).mono ?_); rintro e w' ⟨rfl, rfl⟩)
    | (refine wpList_make_own w rfl (.const (.int .i64 0)) (.tmp 15) 270 rfl w.heap.size 3 iI (.int .i64 0) 1 Tryz.underlying270 HI.out.1 HI.out.2.1 HI.out.2.2.1 .i64 .i64 _ (2 * n + 3) rfl rfl HLN.out (by rw [HI.out.2.2.2]; have := HL.out; omega) (by unfold maxLen; have := HL.out; omega) (Nat.le_refl _) ?_; intro w1 ho hg; have M : Hid (DigM w w1 (.slice (some ⟨ab, ao, none⟩) n cap) xs (.slice (some ⟨w.heap.size, 0, none⟩) 0 (2 * n + 3)) []) := Lib.hid ⟨HX.out.below ((Below.refl _ _).grown hg (Nat.le_refl _) (fun k hk => by cases hk)), ho, (Below.refl _ _).grown hg (Nat.le_refl _) (fun k hk => by cases hk)⟩; clear ho hg))
  go_loopw [3, 19] (fun s i wr => ∃ k : Nat, k ≤ n ∧ i = .int .i64 (k : Int) ∧ Hid (DigM w wr (.slice (some ⟨ab, ao, none⟩) n cap) xs s (digs (xs.take k)))) (fun _ i _ => n - (intOf i).toNat)
  case atStart => exact ⟨0, Nat.zero_le _, rfl, M⟩
  case round =>
    clear M w1
    obtain ⟨k, hk, rfl, M⟩ := hrel
    by_cases hlt : k < n
    · obtain ⟨x, hx⟩ : ∃ x, xs[k]? = some x := ⟨_, List.getElem?_eq_getElem (by rw [← HN.out]; exact hlt)⟩
      have hxb := HB.out x (List.mem_of_getElem? hx)
      obtain ⟨m, rfl⟩ : ∃ m : Nat, x = (m : Int) := ⟨x.toNat, by omega⟩
      have hm : m < 1024 := by omega
      have HD := Lib.hid (digs_snoc xs k _ hx)
      have c0 := M.out.below.cell (p := ⟨ab, ao + k, none⟩) (World.block_lt_of_cell? w _ (HCE.out k _ hx))
      rw [HCE.out k _ hx] at c0
      replace hx := Lib.hid hx
      have HA := Lib.hid (below_alloc wr (.cells (intVals (natInts [m / 16, m % 16])).toArray 3))
      have HY := Lib.hid (lits_in wr (natInts [m / 16, m % 16]) (by simp [natInts, maxLen]))
      have HLN2 := Lib.hid (show (natInts (digs (xs.take k))).length ≤ 64 by rw [natInts_length, digs_length, List.length_take]; have := HL.out; omega)
      go_wp2_with (first
        | (go_at_call 196; (with_reducible refine (wup_any m _ (by omega)).mono ?_); rintro e w' ⟨rfl, rfl⟩)
        | (go_at_call 197; (with_reducible refine (wlow_any m _ (by omega)).mono ?_); rintro e w' ⟨rfl, rfl⟩)
        | (at_builtin; refine wpList_append_ints rfl (.tmp 23) (.tmp 30) rfl rfl w.heap.size _ _ rfl (wkept_below M.out.row HA.out) _ (natInts [m / 16, m % 16]) rfl HY.out (by simp [natInts]) (by rw [natInts_length [m / 16, m % 16]]; have := HLN2.out; simp; omega) (Nat.le_trans M.out.below.size HA.out.size) ?_; intro v2 w3 ho hg; have M2 := Lib.hid (M.out.grow HA.out hg ho HX.out); clear ho hg))
      go_roundw
      case rel => exact ⟨k + 1, by omega, by go_num, by rw [HD.out]; exact M2⟩
      case measure => simp [intOf]; omega
    · have hkn : k = n := by omega
      obtain ⟨s, rfl⟩ : ∃ s, s = u3 := ⟨_, rfl⟩
      have HD := Lib.hid (show xs.take k = xs by rw [hkn, HN.out, List.take_length])
      rw [HD.out] at M
      replace hkn := Lib.hid hkn
      clear HD
      obtain ⟨L, hL⟩ : ∃ L, L = digs xs := ⟨_, rfl⟩
      have HLL := Lib.hid (show L.length = 2 * n by rw [hL, digs_length, HN.out])
      have HLE := Lib.hid (show ∀ d ∈ L, d ≤ 15 by rw [hL]; exact digs_le HB.out)
      have HLS := Lib.hid (show lacks L ≤ 960 by rw [hL]; exact lacks_bound (by have := HL.out; have := HN.out; omega))
      have HDF := Lib.hid (show digF xs = L ++ [lacks L / 256, lacks L / 16 % 16, lacks L % 16] by rw [hL]; rfl)
      rw [← hL] at M
      replace hL := Lib.hid hL
      have hi := owns_ints M.out.row (by rw [natInts_length]; unfold maxLen; have := HLL.out; have := HL.out; omega)
      obtain ⟨a2, cap2, rfl, hc2, hm2, hcell⟩ := hi
      rcases hcell with h0 | ⟨gb, go, rfl, hcell⟩
      · exfalso; have h3 := natInts_length L; rw [h0] at h3; have := HLL.out; simp at h3; omega
      have HC2 := Lib.hid hcell
      obtain ⟨N, hN⟩ : ∃ N, N = (natInts L).length := ⟨_, rfl⟩
      have HN2 := Lib.hid (show N = L.length by rw [hN, natInts_length])
      rw [← hN] at M hc2 hm2 ⊢
      have HN3 := Lib.hid hN
      clear hcell hN hc2 hm2
      have hN64 : N ≤ 64 := by have := HN2.out; have := HLL.out; have := HL.out; omega
      go_wp2_with (fail)
      go_loop [6, 35] (fun s i => ∃ k : Nat, k ≤ N ∧ i = .int .i64 (k : Int) ∧ s = .int .i64 ((lacks (L.take k) : Nat) : Int)) (fun _ i => N - (intOf i).toNat)
      case atStart => exact ⟨0, Nat.zero_le _, rfl, rfl⟩
      case round =>
        clear hk hlt
        obtain ⟨k2, hk2, rfl, rfl⟩ := hrel
        by_cases hlt2 : k2 < N
        · obtain ⟨d, hd⟩ : ∃ d, L[k2]? = some d := ⟨_, List.getElem?_eq_getElem (by rw [← HN2.out]; exact hlt2)⟩
          have hd15 := HLE.out d (List.mem_of_getElem? hd)
          have HS := Lib.hid (lacks_snoc L k2 d hd)
          have hb2 : lacks (L.take k2) ≤ 960 := by
            have := lacks_le (L.take k2)
            rw [List.length_take] at this
            omega
          have c0 := HC2.out k2 (d : Int) (by simp [natInts, hd])
          replace hd := Lib.hid hd
          obtain ⟨S, hS⟩ : ∃ S, S = lacks (L.take k2) := ⟨_, rfl⟩
          rw [← hS] at HS hb2 ⊢
          replace hS := Lib.hid hS
          go_wp2_with (fail)
          go_round
          case rel => exact ⟨k2 + 1, by omega, by go_num, by rw [HS.out]; congr 1; omega⟩
          case measure => simp [intOf]; omega
        · have HE := Lib.hid (show L.take k2 = L by rw [show k2 = L.length by have := HN2.out; omega, List.take_length])
          rw [HE.out]
          clear HE
          obtain ⟨S, hS⟩ : ∃ S, S = lacks L := ⟨_, rfl⟩
          rw [← hS] at HLS HDF ⊢
          replace hS := Lib.hid hS
          have hs9 := HLS.out
          have hs1 : S < 1024 := by omega
          have hs2 : S / 16 < 1024 := by omega
          have HA := Lib.hid (below_alloc wr (.cells (intVals (natInts [S / 256, S / 16 % 16, S % 16])).toArray 3))
          have HY := Lib.hid (lits_in wr (natInts [S / 256, S / 16 % 16, S % 16]) (by simp [natInts, maxLen]))
          have H256 := Lib.hid (show S / 16 / 16 = S / 256 by omega)
          clear hs9
          go_wp2_with (first
            | (go_at_call 196; (with_reducible refine (wup_any S _ hs1).mono ?_); rintro e w' ⟨rfl, rfl⟩)
            | (go_at_call 196; (refine (wup_any (S / 16) _ hs2).mono ?_); rintro e w' ⟨rfl, rfl⟩; rw [H256.out])
            | (go_at_call 197; (with_reducible refine (wlow_any S _ hs1).mono ?_); rintro e w' ⟨rfl, rfl⟩)
            | (go_at_call 197; (refine (wlow_any (S / 16) _ hs2).mono ?_); rintro e w' ⟨rfl, rfl⟩)
            | (at_builtin; refine wpList_append_ints rfl (.tmp 44) (.tmp 53) rfl rfl w.heap.size _ (natInts L) rfl (wkept_below (HN3.out ▸ M.out.row) HA.out) _ (natInts [S / 256, S / 16 % 16, S % 16]) rfl HY.out (by simp [natInts]) (by rw [natInts_length, natInts_length]; have := HN2.out; simp; omega) (Nat.le_trans M.out.below.size HA.out.size) ?_; intro v2 w3 ho hg; have M2 := Lib.hid (M.out.grow HA.out hg ho HX.out); clear ho hg))
          go_ret
          refine ⟨_, rfl, ?_, M2.out.below⟩
          rw [HDF.out]
          exact M2.out.row
end Go.Proofs.YtjnpcmfpiejmjaaGreatDoor
