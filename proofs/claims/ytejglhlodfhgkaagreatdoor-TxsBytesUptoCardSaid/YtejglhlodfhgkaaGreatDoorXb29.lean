/- Part 29 of the proof. -/
import Derived.Lib.ItoaNum
import Derived.Shelf.Small.Bits
import Derived.Shelf.Small.Strs
import Derived.Shelf.Strconv.Itoa0
import Derived.Shelf.Strings.Search1
import Derived.Test.YtejglhlodfhgkaaGreatDoorProg
import Derived.Deep.RegionLaw
import Derived.Laws.ResultCell
import Derived.Laws.IdiomCopy
import Derived.Laws.MakeOwn
import Derived.Lib.AppendStr
import Derived.Maps.AppendAt
import Derived.Laws.BitsAllLaws
import Derived.LaidEql
import Derived.Stop.Asserts
import Derived.RowKitTokens
import Derived.Lib.IfaceEq
import Derived.Test.YtejglhlodfhgkaaGreatDoorXb1
import Derived.Test.YtejglhlodfhgkaaGreatDoorXb3
import Derived.Test.YtejglhlodfhgkaaGreatDoorXb4
import Derived.Test.YtejglhlodfhgkaaGreatDoorXb5
import Derived.Test.YtejglhlodfhgkaaGreatDoorXb12
import Derived.Test.YtejglhlodfhgkaaGreatDoorXb20
namespace Go.Proofs.YtejglhlodfhgkaaGreatDoor
set_option linter.unusedVariables false
set_option linter.unusedSimpArgs false
/-- a number as the unsigned one of the same 64 bits -/
def uN (i : Int) : Nat := (IntKind.u64.wrap i).toNat
theorem uN_wrap (i : Int) : IntKind.u64.wrap i = ((uN i : Nat) : Int) := by
  unfold uN
  have : IntKind.u64.wrap i = i % 18446744073709551616 := rfl
  rw [this]; omega
theorem uN_lt (i : Int) : uN i < 18446744073709551616 := by
  unfold uN
  have : IntKind.u64.wrap i = i % 18446744073709551616 := rfl
  rw [this]; omega
/-- a chain's beginning -/
def startF (seed : Nat → Int) (leaf chain : Int) : Nat → Int := sumF (varint 2 ++ rowL 32 seed ++ varint (uN leaf) ++ varint (uN chain))
/-- one step further, from place p on -/
def step1 (leaf chain : Int) (v : Nat → Int) (p : Nat) : Nat → Int := sumF (varint 3 ++ varint (uN leaf) ++ varint (uN chain) ++ varint p ++ rowL 32 v)
/-- n steps from place p on -/
def stepN (leaf chain : Int) (v : Nat → Int) (p : Nat) : Nat → (Nat → Int)
  | 0 => v
  | n + 1 => step1 leaf chain (stepN leaf chain v p n) (p + n)
/-- a chain's value brought from place a to place b -/
def stepF (v : Nat → Int) (leaf chain a b : Int) : Nat → Int := stepN leaf chain v (max a 0).toNat ((min b 15).toNat - (max a 0).toNat)
/-- the values of all chains, brought to their places, one behind the other -/
def chainsF (seed : Nat → Int) (leaf : Int) : Nat → List Nat → List Int
  | _, [] => []
  | c, d :: r => rowL 32 (stepF (startF seed leaf (c : Int)) leaf (c : Int) 0 (d : Int)) ++ chainsF seed leaf (c + 1) r
theorem rowL_congr {n : Nat} {f g : Nat → Int} (h : ∀ i, i < n → f i = g i) : rowL n f = rowL n g := by
  unfold rowL
  exact List.map_congr_left fun i hi => h i (by simpa using hi)
/-- a leaf's sum -/
def leafF (xs : List Int) : Nat → Int := sumF (0 :: xs)
def pubF (seed : Nat → Int) (leaf : Int) (n : Nat) : Nat → Int := leafF (chainsF seed leaf 0 (List.replicate (2 * n + 3) 15))
end Go.Proofs.YtejglhlodfhgkaaGreatDoor
namespace Go.Proofs.YtejglhlodfhgkaaGreatDoor
set_option linter.unusedVariables false
set_option linter.unusedSimpArgs false
open Go.RowKit
set_option maxRecDepth 100000
end Go.Proofs.YtejglhlodfhgkaaGreatDoor
namespace Go.Proofs.YtejglhlodfhgkaaGreatDoor
set_option linter.unusedVariables false
set_option linter.unusedSimpArgs false
open Go.RowKit
set_option maxRecDepth 100000
theorem RowAt.range {w : World} {g n : Nat} {k : IntKind} {t : TypeId} {f : Nat → Int} (h : RowAt w g k n t f) : w.rangeAt g 0 (rowOf k n f).toList := fun j v hv => by
  rw [Nat.zero_add, cell_of_row w g j _ t _ h]
  simpa using hv
theorem row_yields {ops : Array Oper} {S : World → Prop} {op : Oper} {a : Act} (hw : Region.wanted op (yielded ops a.tmps) = true) (ty : TypeId) (x : Operand) (ho : op.op = .load ty x)
    (b : Nat) (hx : a.eval x = .pointer (some ⟨b, 0, none⟩)) (k : IntKind) (n : Nat) (f : Nat → Int) (d : TypeDesc) (hS : ∀ w, S w → RowAt w b k n ty f)
    (hu : Tryz.prog.underlying ty = some d) (hd : d.isRow = true) (hi : (Tryz.prog.info? ty).map (·.size) = some n) : YieldsIf Tryz.prog ops S op (.agg (rowOf k n f)) a := by
  have h := yieldsIf_load_mid (P := Tryz.prog) (S := S) hw ty x ho b 0 hx (rowOf k n f).toList d (fun w h => (hS w h).range) hu hd (by rw [hi]; simp [rowOf])
  simpa using h
end Go.Proofs.YtejglhlodfhgkaaGreatDoor
namespace Go.Proofs.YtejglhlodfhgkaaGreatDoor
set_option linter.unusedVariables false
set_option linter.unusedSimpArgs false
open Go.RowKit
set_option maxRecDepth 100000
/-- behind a call of a Writer that was made above the mark B -/
theorem wpost_on {p B : Nat} {v : Value} {xs ys : List Int} {w0 w w' : World} {e : Ending} (h : WPost p v xs ys w e w') (hw : WAt w p v xs) (hb : Below B w0 w) (hB : B ≤ p) :
    e = .returned (.pointer (some ⟨p, 0, none⟩)) ∧ ∃ v', WAt w' p v' (xs ++ ys) ∧ Below B w0 w' := by
  obtain ⟨he, v', h1, h2⟩ := h
  exact ⟨he, v', h1, hb.trans (h2.below hw hB)⟩
theorem wuint_on (p B : Nat) (v : Value) (xs : List Int) (n : Nat) (w0 w : World) (hw : WAt w p v xs) (hb : Below B w0 w) (hB : B ≤ p) (hn : n < 18446744073709551616) (hl : xs.length + 10 ≤ 140737488355328) :
    Calls Tryz.prog 119 #[.pointer (some ⟨p, 0, none⟩), .int .u64 (n : Int)] w fun e w' => e = .returned (.pointer (some ⟨p, 0, none⟩)) ∧ ∃ v', WAt w' p v' (xs ++ varint n) ∧ Below B w0 w' :=
  (wuint_any p v xs n w hw hn hl).mono fun _ _ h => wpost_on h hw hb hB
theorem wuint_lit (p B : Nat) (v : Value) (xs : List Int) (n : Nat) (m : Int) (hm : m = (n : Int)) (w0 w : World) (hw : WAt w p v xs) (hb : Below B w0 w) (hB : B ≤ p) (hn : n < 18446744073709551616) (hl : xs.length + 10 ≤ 140737488355328) :
    Calls Tryz.prog 119 #[.pointer (some ⟨p, 0, none⟩), .int .u64 m] w fun e w' => e = .returned (.pointer (some ⟨p, 0, none⟩)) ∧ ∃ v', WAt w' p v' (xs ++ varint n) ∧ Below B w0 w' := by
  subst hm; exact wuint_on p B v xs n w0 w hw hb hB hn hl
theorem whash_on (p B : Nat) (v : Value) (xs : List Int) (f : Nat → Int) (w0 w : World) (hw : WAt w p v xs) (hb : Below B w0 w) (hB : B ≤ p) (hl : xs.length + 32 ≤ 140737488355328) :
    Calls Tryz.prog 176 #[.pointer (some ⟨p, 0, none⟩), .agg (rowOf .u8 32 f)] w fun e w' => e = .returned (.pointer (some ⟨p, 0, none⟩)) ∧ ∃ v', WAt w' p v' (xs ++ rowL 32 f) ∧ Below B w0 w' :=
  (whash_any p v xs f w hw hl).mono fun _ _ h => wpost_on h hw hb hB
theorem wdone_on (p B : Nat) (v : Value) (xs : List Int) (w0 w : World) (hw : WAt w p v xs) (hb : Below B w0 w) (hB : B ≤ p) (hl : xs.length ≤ 140737488355328) :
    Calls Tryz.prog 54 #[.pointer (some ⟨p, 0, none⟩)] w fun e w' => ∃ v', e = .returned v' ∧ BytesIn w' v' xs ∧ Below B w0 w' :=
  (done_any p v xs w hw hl).mono fun _ _ ⟨v', he, ho, hb'⟩ => ⟨v', he, owns_in ho (by unfold maxLen; omega), hb.trans (hb'.mono (by have := hw.lt; omega))⟩
theorem shSum_on (B : Nat) (v : Value) (xs : List Int) (w0 w : World) (hx : BytesIn w v xs) (hb : Below B w0 w) (hB : B ≤ w.heap.size) (he : Env w) :
    Calls Tryz.prog 74 #[v] w fun e w' => e = .returned (.agg (rowOf .u8 32 (sumF xs))) ∧ Below B w0 w' :=
  (shSum_any v xs w hx he).mono fun _ _ ⟨h1, h2⟩ => ⟨h1, hb.trans (h2.mono hB)⟩
theorem new_on (w : World) : Calls Tryz.prog 51 #[] w fun e w' => e = .returned (.pointer (some ⟨w.heap.size, 0, none⟩)) ∧ WAt w' w.heap.size (.slice none 0 0) [] ∧ Below w.heap.size w w' := new_any w
theorem vlen (n : Nat) (h : n < 18446744073709551616) : (varint n).length ≤ 10 := by rw [varint_length]; exact glen_le h
/-- what lies in memory while a chain's value is made: the value v in block b, the result's zeros in block r, all above the mark m -/
structure HaveM (w w' : World) (b r B : Nat) (v : Nat → Int) : Prop where
  below : Below w.heap.size w w'
  val : RowAt w' b .u8 32 53 v
  res : RowAt w' r .u8 32 53 (fun _ => 0)
  env : Env w'
  size : B ≤ w'.heap.size
  lo : 3 < B
  hb : b < B
  hr : r < B
theorem HaveM.calls {w w' w2 : World} {b r B : Nat} {v : Nat → Int} (m : HaveM w w' b r B v) (hw : w.heap.size ≤ B) (h : Below B w' w2) : HaveM w w2 b r B v :=
  ⟨m.below.trans (h.mono hw), m.val.below h m.hb, m.res.below h m.hr, m.env.below h m.lo, Nat.le_trans m.size h.size, m.lo, m.hb, m.hr⟩
theorem HaveM.put {w w' : World} {b r B : Nat} {v : Nat → Int} (m : HaveM w w' b r B v) (h : w.heap.size ≤ b ∧ b ≠ r ∧ 3 < b) (v' : Nat → Int) : HaveM w (w'.setRow b (rowOf .u8 32 v')) b r B v' :=
  ⟨below_setRow m.below h.1 _, setRow_heap _ _ _ _ _ _ m.val, (setRow_other _ _ _ _ (Ne.symm h.2.1)).trans m.res, m.env.below (B := b) (below_setRow (Below.refl _ _) (Nat.le_refl _) _) h.2.2, by simpa [World.setRow] using m.size, m.lo, m.hb, m.hr⟩
set_option maxHeartbeats 1000000 in
theorem wstep_any (v : Nat → Int) (leaf chain from_ to_ : Int) (w : World) (he : Env w) :
    Calls Tryz.prog 238 #[.agg (rowOf .u8 32 v), .int .i64 leaf, .int .i64 chain, .int .i64 from_, .int .i64 to_] w fun e w' => e = .returned (.agg (rowOf .u8 32 (stepF v leaf chain from_ to_))) ∧ Below w.heap.size w w' := by
  have HE := Lib.hid he
  clear he
  have HU1 := Lib.hid (uN_wrap leaf)
  have HU2 := Lib.hid (uN_wrap chain)
  have HL1 := Lib.hid (uN_lt leaf)
  have HL2 := Lib.hid (uN_lt chain)
  have HG1 := Lib.hid (vlen _ (uN_lt leaf))
  have HG2 := Lib.hid (vlen _ (uN_lt chain))
  have HG0 := Lib.hid (vlen 3 (by decide))
  have HGL := Lib.hid HE.out.lt
  obtain ⟨a, ha⟩ : ∃ a : Nat, max from_ 0 = (a : Int) := ⟨(max from_ 0).toNat, by omega⟩
  obtain ⟨b, hb⟩ : ∃ b : Int, min to_ 15 = b := ⟨_, rfl⟩
  have HF := Lib.hid (show stepF v leaf chain from_ to_ = stepN leaf chain v a (b.toNat - a) by unfold stepF; rw [ha, hb]; rfl)
  have HA := Lib.hid ha
  have HB15 := Lib.hid (show b ≤ 15 by omega)
  have HBM := Lib.hid hb
  clear ha hb
  go_enter Tryz.func238, Tryz.ntmps238
  go_wp2_with (refine wpList_max2 rfl (.tmp 12) (.const (.int .i64 0)) 3 rfl from_ 0 rfl rfl (a : Int) HA.out ?_)
  rw [zeros32]
  have HB := Lib.hid ((below_alloc w (.cells (rowOf .u8 32 v) 53)).trans ((below_alloc _ (.cells (rowOf .u8 32 (fun _ => 0)) 53)).mono (by simp)))
  have M : Hid (HaveM w ((w.alloc (.cells (rowOf .u8 32 v) 53)).alloc (.cells (rowOf .u8 32 (fun _ => 0)) 53)) w.heap.size (w.heap.size + 1) (w.heap.size + 1 + 1) (stepN leaf chain v a 0)) := Lib.hid ⟨HB.out, (RowAt.new w .u8 32 53 v).alloc _, by
    have := RowAt.new (w.alloc (.cells (rowOf .u8 32 v) 53)) .u8 32 53 (fun _ => 0)
    rw [shSize_alloc] at this; exact this, HE.out.below HB.out HE.out.lt, by simp, by have := HE.out.lt; omega, by omega, by omega⟩
  clear HB HE
  generalize (w.alloc (.cells (rowOf .u8 32 v) 53)).alloc (.cells (rowOf .u8 32 (fun _ => 0)) 53) = w1 at *
  go_loopw [11] (fun p wr => ∃ q k : Nat, k ≤ b.toNat - a ∧ q = a + k ∧ p = .int .i64 (q : Int) ∧ Hid (HaveM w wr w.heap.size (w.heap.size + 1) (w.heap.size + 1 + 1) (stepN leaf chain v a k))) (fun p _ => (15 - intOf p).toNat)
  case atStart => exact ⟨a, 0, Nat.zero_le _, rfl, rfl, M⟩
  case round =>
    clear M w1
    obtain ⟨q, k, hk, hq, rfl, M⟩ := hrel
    by_cases hlt : (q : Int) < b
    · have hq15 : q < 15 := by have := HB15.out; omega
      have HQ := Lib.hid (show IntKind.u64.wrap (q : Int) = (q : Int) from IntWalk.u64_in _ (by omega))
      have HQL := Lib.hid (show q < 18446744073709551616 by omega)
      have HGQ := Lib.hid (vlen q (by omega))
      have HK := Lib.hid (show k + 1 ≤ b.toNat - a by omega)
      replace hq := Lib.hid hq
      go_upto_region 4 with (refine wpList_min2 rfl (.tmp 15) (.const (.int .i64 15)) 3 rfl to_ 15 rfl rfl b HBM.out ?_)
      refine wp_region_T (fun w' => RowAt w' w.heap.size .u8 32 53 (stepN leaf chain v a k)) [0, 1, 4, 7, 10] (by kernel_rfl) ?_
      replace M := Lib.hid (show HaveM w wr.drew w.heap.size (w.heap.size + 1) (w.heap.size + 1 + 1) (stepN leaf chain v a k) from M.out.calls (by omega) ((Below.refl _ _).drew))
      generalize wr.drew = w2 at *
      clear wr
      refine anyT_takeY (i := 2) (v := .int .i64 leaf) rfl (by kernel_rfl) (by kernel_rfl) (by kernel_rfl) (fun _ _ _ h => h) (by kernel_rfl) (Or.inl ⟨by rfl, by intro w; go_simp⟩) ?_
      try simp only [List.getElem_toArray, List.getElem_cons_succ, List.getElem_cons_zero, Act.put, List.setIfInBounds_toArray, List.set_cons_zero, List.set_cons_succ]
      refine anyT_takeY (i := 3) (v := .int .u64 (IntKind.u64.wrap leaf)) rfl (by kernel_rfl) (by kernel_rfl) (by kernel_rfl) (fun _ _ _ h => h) (by kernel_rfl) (Or.inl ⟨by rfl, by intro w; go_simp⟩) ?_
      try simp only [List.getElem_toArray, List.getElem_cons_succ, List.getElem_cons_zero, Act.put, List.setIfInBounds_toArray, List.set_cons_zero, List.set_cons_succ]
      refine anyT_takeY (i := 5) (v := .int .i64 chain) rfl (by kernel_rfl) (by kernel_rfl) (by kernel_rfl) (fun _ _ _ h => h) (by kernel_rfl) (Or.inl ⟨by rfl, by intro w; go_simp⟩) ?_
      try simp only [List.getElem_toArray, List.getElem_cons_succ, List.getElem_cons_zero, Act.put, List.setIfInBounds_toArray, List.set_cons_zero, List.set_cons_succ]
      refine anyT_takeY (i := 6) (v := .int .u64 (IntKind.u64.wrap chain)) rfl (by kernel_rfl) (by kernel_rfl) (by kernel_rfl) (fun _ _ _ h => h) (by kernel_rfl) (Or.inl ⟨by rfl, by intro w; go_simp⟩) ?_
      try simp only [List.getElem_toArray, List.getElem_cons_succ, List.getElem_cons_zero, Act.put, List.setIfInBounds_toArray, List.set_cons_zero, List.set_cons_succ]
      refine anyT_takeY (i := 8) (v := .int .i64 (q : Int)) rfl (by kernel_rfl) (by kernel_rfl) (by kernel_rfl) (fun _ _ _ h => h) (by kernel_rfl) (Or.inl ⟨by rfl, by intro w; go_simp⟩) ?_
      try simp only [List.getElem_toArray, List.getElem_cons_succ, List.getElem_cons_zero, Act.put, List.setIfInBounds_toArray, List.set_cons_zero, List.set_cons_succ]
      refine anyT_takeY (i := 9) (v := .int .u64 (IntKind.u64.wrap (q : Int))) rfl (by kernel_rfl) (by kernel_rfl) (by kernel_rfl) (fun _ _ _ h => h) (by kernel_rfl) (Or.inl ⟨by rfl, by intro w; go_simp⟩) ?_
      try simp only [List.getElem_toArray, List.getElem_cons_succ, List.getElem_cons_zero, Act.put, List.setIfInBounds_toArray, List.set_cons_zero, List.set_cons_succ]
      rw [HU1.out, HU2.out, HQ.out]
      refine anyT_take [12, 13, 14, 15] (i := 11) (v := .agg (rowOf .u8 32 (stepN leaf chain v a k))) rfl (by kernel_rfl) (by kernel_rfl) (by kernel_rfl) (fun _ _ _ h => h) (by kernel_rfl) (row_yields (by rfl) 53 (.tmp 5) rfl w.heap.size rfl .u8 32 _ _ (fun _ h => h) Tryz.underlying53 rfl (by kernel_rfl)) M.out.val ?_
      try simp only [List.getElem_toArray, List.getElem_cons_succ, List.getElem_cons_zero, Act.put, List.setIfInBounds_toArray, List.set_cons_zero, List.set_cons_succ]
      refine anyT_one (i := 0) (by kernel_rfl) rfl (fun K hK => ?_)
      rw [if_pos (by rfl)]
      try simp only [List.getElem_toArray, List.getElem_cons_succ, List.getElem_cons_zero]
      (go_simp; refine (new_on _).mono ?_; rintro e w3 ⟨rfl, HW, HB2⟩; have HP := Lib.hid M.out.size; replace M := Lib.hid (M.out.calls (by omega) (HB2.mono HP.out)); replace HW := Lib.hid HW; clear HB2)
      refine hK _ _ (fun _ => M.out.val) ?_
      clear hK K
      try simp only [List.getElem_toArray, List.getElem_cons_succ, List.getElem_cons_zero, Act.put, List.setIfInBounds_toArray, List.set_cons_zero, List.set_cons_succ]
      generalize w2.heap.size = p at *
      clear w2
      refine anyT_one (i := 1) (by kernel_rfl) rfl (fun K hK => ?_)
      rw [if_pos (by rfl)]
      try simp only [List.getElem_toArray, List.getElem_cons_succ, List.getElem_cons_zero]
      (go_simp; refine (wuint_lit p (w.heap.size + 1 + 1) _ _ 3 3 rfl _ _ HW.out (Below.refl _ _) HP.out (by decide) (by simp)).mono ?_; rintro e w4 ⟨rfl, v4, hw4, HB4⟩; replace M := Lib.hid (M.out.calls (by omega) HB4); replace HW := Lib.hid hw4; clear hw4 HB4 w3)
      refine hK _ _ (fun _ => M.out.val) ?_
      clear hK K
      try simp only [List.getElem_toArray, List.getElem_cons_succ, List.getElem_cons_zero, Act.put, List.setIfInBounds_toArray, List.set_cons_zero, List.set_cons_succ]
      refine anyT_one (i := 4) (by kernel_rfl) rfl (fun K hK => ?_)
      rw [if_pos (by rfl)]
      try simp only [List.getElem_toArray, List.getElem_cons_succ, List.getElem_cons_zero]
      (go_simp; refine (wuint_on p (w.heap.size + 1 + 1) _ _ (uN leaf) _ _ HW.out (Below.refl _ _) HP.out HL1.out (by have := HG0.out; simp only [List.length_append, List.length_nil]; omega)).mono ?_; rintro e w6 ⟨rfl, v6, hw6, HB6⟩; replace M := Lib.hid (M.out.calls (by omega) HB6); replace HW := Lib.hid hw6; clear hw6 HB6 w4)
      refine hK _ _ (fun _ => M.out.val) ?_
      clear hK K
      try simp only [List.getElem_toArray, List.getElem_cons_succ, List.getElem_cons_zero, Act.put, List.setIfInBounds_toArray, List.set_cons_zero, List.set_cons_succ]
      refine anyT_one (i := 7) (by kernel_rfl) rfl (fun K hK => ?_)
      rw [if_pos (by rfl)]
      try simp only [List.getElem_toArray, List.getElem_cons_succ, List.getElem_cons_zero]
      (go_simp; refine (wuint_on p (w.heap.size + 1 + 1) _ _ (uN chain) _ _ HW.out (Below.refl _ _) HP.out HL2.out (by have := HG0.out; have := HG1.out; simp only [List.length_append, List.length_nil]; omega)).mono ?_; rintro e w7 ⟨rfl, v7, hw7, HB7⟩; replace M := Lib.hid (M.out.calls (by omega) HB7); replace HW := Lib.hid hw7; clear hw7 HB7 w6)
      refine hK _ _ (fun _ => M.out.val) ?_
      clear hK K
      try simp only [List.getElem_toArray, List.getElem_cons_succ, List.getElem_cons_zero, Act.put, List.setIfInBounds_toArray, List.set_cons_zero, List.set_cons_succ]
      refine anyT_one (i := 10) (by kernel_rfl) rfl (fun K hK => ?_)
      rw [if_pos (by rfl)]
      try simp only [List.getElem_toArray, List.getElem_cons_succ, List.getElem_cons_zero]
      (go_simp; refine (wuint_on p (w.heap.size + 1 + 1) _ _ q _ _ HW.out (Below.refl _ _) HP.out HQL.out (by have := HG0.out; have := HG1.out; have := HG2.out; simp only [List.length_append, List.length_nil]; omega)).mono ?_; rintro e w5 ⟨rfl, v5, hw5, HB5⟩; replace M := Lib.hid (M.out.calls (by omega) HB5); replace HW := Lib.hid hw5; clear hw5 HB5 w7)
      refine hK _ _ (fun _ => M.out.val) ?_
      clear hK K
      try simp only [List.getElem_toArray, List.getElem_cons_succ, List.getElem_cons_zero, Act.put, List.setIfInBounds_toArray, List.set_cons_zero, List.set_cons_succ]
      refine anyT_one (i := 12) (by kernel_rfl) rfl (fun K hK => ?_)
      rw [if_pos (by rfl)]
      try simp only [List.getElem_toArray, List.getElem_cons_succ, List.getElem_cons_zero]
      (go_simp; refine (whash_on p (w.heap.size + 1 + 1) _ _ (stepN leaf chain v a k) _ _ HW.out (Below.refl _ _) HP.out (by have := HG0.out; have := HG1.out; have := HG2.out; have := HGQ.out; simp only [List.length_append, List.length_nil]; omega)).mono ?_; rintro e w8 ⟨rfl, v8, hw8, HB8⟩; replace M := Lib.hid (M.out.calls (by omega) HB8); replace HW := Lib.hid hw8; clear hw8 HB8 w5)
      refine hK _ _ (not_mem rfl) ?_
      clear hK K
      try simp only [List.getElem_toArray, List.getElem_cons_succ, List.getElem_cons_zero, Act.put, List.setIfInBounds_toArray, List.set_cons_zero, List.set_cons_succ]
      refine anyT_one (i := 13) (by kernel_rfl) rfl (fun K hK => ?_)
      rw [if_pos (by rfl)]
      try simp only [List.getElem_toArray, List.getElem_cons_succ, List.getElem_cons_zero]
      (go_simp; refine (wdone_on p (w.heap.size + 1 + 1) _ _ _ _ HW.out (Below.refl _ _) HP.out (by have := HG0.out; have := HG1.out; have := HG2.out; have := HGQ.out; have := rowL32 (stepN leaf chain v a k); simp only [List.length_append, List.length_nil]; omega)).mono ?_; rintro e w9 ⟨v9, rfl, hw9, HB9⟩; replace M := Lib.hid (M.out.calls (by omega) HB9); have HX := Lib.hid hw9; clear hw9 HB9 HW w8)
      refine hK _ _ (not_mem rfl) ?_
      clear hK K
      try simp only [List.getElem_toArray, List.getElem_cons_succ, List.getElem_cons_zero, Act.put, List.setIfInBounds_toArray, List.set_cons_zero, List.set_cons_succ]
      refine anyT_one (i := 14) (by kernel_rfl) rfl (fun K hK => ?_)
      rw [if_pos (by rfl)]
      try simp only [List.getElem_toArray, List.getElem_cons_succ, List.getElem_cons_zero]
      (go_simp; refine (shSum_on (w.heap.size + 1 + 1) _ _ _ _ HX.out (Below.refl _ _) M.out.size M.out.env).mono ?_; rintro e w10 ⟨rfl, HB10⟩; replace M := Lib.hid (M.out.calls (by omega) HB10); clear HB10 HX w9)
      refine hK _ _ (not_mem rfl) ?_
      clear hK K
      try simp only [List.getElem_toArray, List.getElem_cons_succ, List.getElem_cons_zero, Act.put, List.setIfInBounds_toArray, List.set_cons_zero, List.set_cons_succ]
      rw [show sumF ([] ++ varint 3 ++ varint (uN leaf) ++ varint (uN chain) ++ varint q ++ rowL 32 (stepN leaf chain v a k)) = stepN leaf chain v a (k + 1) from by rw [List.nil_append, hq.out]; rfl]
      refine anyT_one (i := 15) (by kernel_rfl) rfl (fun K hK => ?_)
      rw [if_pos (by rfl)]
      try simp only [List.getElem_toArray, List.getElem_cons_succ, List.getElem_cons_zero]
      (refine wp_store_row 53 (.tmp 5) (.tmp 34) rfl w.heap.size _ rfl rfl 53 _ M.out.val (by rw [rowOf_size]; kernel_rfl) (by rw [rowOf_size, rowOf_size]) (rowOf_one _ _ _) ?_)
      refine hK _ _ (not_mem rfl) ?_
      clear hK K
      try simp only [List.getElem_toArray, List.getElem_cons_succ, List.getElem_cons_zero, Act.put, List.setIfInBounds_toArray, List.set_cons_zero, List.set_cons_succ]
      refine anyT_done (by kernel_rfl) ?_ _
      replace M := Lib.hid (M.out.put ⟨Nat.le_refl _, by omega, HGL.out⟩ (stepN leaf chain v a (k + 1)))
      generalize w10.setRow w.heap.size (rowOf .u8 32 (stepN leaf chain v a (k + 1))) = w11 at *
      go_wp2_with (fail)
      go_roundw
      case rel => exact ⟨q + 1, k + 1, HK.out, by rw [hq.out]; omega, by go_num, M⟩
      case measure => simp [intOf]; omega
    · have HK := Lib.hid (show k = b.toNat - a by omega)
      replace hq := Lib.hid hq
      go_wp2_with (first
        | (refine wpList_min2 rfl (.tmp 15) (.const (.int .i64 15)) 3 rfl to_ 15 rfl rfl b HBM.out ?_)
        | (refine wpList_load_row rfl 53 (.tmp 5) rfl w.heap.size rfl 53 _ (0, 0) _ M.out.val Tryz.underlying53 rfl (by rw [rowOf_size]; kernel_rfl) ?_)
        | (refine wpList_store_row rfl 53 (.tmp 10) (.tmp 35) rfl (w.heap.size + 1) _ rfl rfl 53 _ M.out.res (by rw [rowOf_size]; kernel_rfl) (by rw [rowOf_size, rowOf_size]) (rowOf_one _ _ _) ?_))
      refine bodyPost_ret (results_cell_row rfl _ _ (w.heap.size + 1) 53 (rowOf .u8 32 (stepN leaf chain v a k)) (0, 0) _ rfl (setRow_heap _ _ _ _ _ _ M.out.res) Tryz.underlying53 rfl (by rw [rowOf_size]; kernel_rfl)) rfl ?_
      exact ⟨by rw [HF.out, ← HK.out], below_setRow M.out.below (by omega) _⟩
#print axioms wstep_any
end Go.Proofs.YtejglhlodfhgkaaGreatDoor
namespace Go.Proofs.YtejglhlodfhgkaaGreatDoor
set_option linter.unusedVariables false
set_option linter.unusedSimpArgs false
open Go.RowKit
set_option maxRecDepth 100000
def natInts (l : List Nat) : List Int := l.map fun d : Nat => (d : Int)
theorem natInts_append (a b : List Nat) : natInts (a ++ b) = natInts a ++ natInts b := by simp [natInts]
structure DigM (w wr : World) (v : Value) (xs : List Int) (v' : Value) (l : List Nat) : Prop where
  arg : BytesIn wr v xs
  row : wr.ownsRow w.heap.size 3 1 v' (natInts l).length (intVals (natInts l))
  below : Below w.heap.size w wr
theorem DigM.grow {w wr w2 w3 : World} {v v' v2 : Value} {xs : List Int} {l m : List Nat} (h : DigM w wr v xs v' l) (hb : Below wr.heap.size wr w2) (hg : w2.grownBy w3 v'.ownBlock)
    (ho : w3.ownsRow w.heap.size 3 1 v2 (natInts l ++ natInts m).length (intVals (natInts l ++ natInts m))) (hx : BytesIn w v xs) : DigM w w3 v xs v2 (l ++ m) := by
  have h1 := (h.below.trans (hb.mono h.below.size)).grown hg (Nat.le_trans h.below.size hb.size) (fun k hk => (h.row.lt k hk).1)
  exact ⟨hx.below h1, by rw [natInts_append]; exact ho, h1⟩
end Go.Proofs.YtejglhlodfhgkaaGreatDoor
namespace Go.Proofs.YtejglhlodfhgkaaGreatDoor
set_option linter.unusedVariables false
set_option linter.unusedSimpArgs false
open Go.RowKit
set_option maxRecDepth 100000
structure LeafM (w w' : World) (g : Nat) (h : HS) : Prop where
  re : RowAt w' w.heap.size .u8 32 53 (fun _ => 0)
  hash : HashAt w' g h.s h.b h.n
  gg : w.heap.size < g
  bounds : 0 ≤ h.n ∧ h.n < 18446744073709551616
  below : Below w.heap.size w w'
  env : Env w'
theorem LeafM.wrote {w w' w2 : World} {g : Nat} {h : HS} (m : LeafM w w' g h) {xs : List Int} (hh : HashAt w2 g (putF h xs).s (putF h xs).b (putF h xs).n) (ho : Only g w' w2) (hc : 3 < w.heap.size) : LeafM w w2 g (putF h xs) :=
  ⟨(ho.block _ m.re.lt (by have := m.gg; omega)).trans m.re, hh, m.gg, putF_bounds h m.bounds.1 m.bounds.2 xs, m.below.trans (ho.below (by have := m.gg; omega) m.below.size), ho.env m.env (by have := m.gg; omega)⟩
theorem LeafM.calls {w w' w2 : World} {g : Nat} {h : HS} (m : LeafM w w' g h) (hb : Below w'.heap.size w' w2) : LeafM w w2 g h :=
  ⟨m.re.below hb m.re.lt, m.hash.below hb m.hash.lt, m.gg, m.bounds, m.below.trans (hb.mono m.below.size), m.env.below hb m.env.lt⟩
end Go.Proofs.YtejglhlodfhgkaaGreatDoor
namespace Go.Proofs.YtejglhlodfhgkaaGreatDoor
set_option linter.unusedVariables false
set_option linter.unusedSimpArgs false
open Go.RowKit
set_option maxRecDepth 100000
/-- rows of 32 bytes in memory, below the mark B; above it what calls make -/
structure HasR (w w' : World) (B : Nat) (rows : List (Nat × (Nat → Int))) : Prop where
  below : Below w.heap.size w w'
  row : ∀ p ∈ rows, RowAt w' p.1 .u8 32 53 p.2 ∧ p.1 < B
  env : Env w'
  size : B ≤ w'.heap.size
  lo : 3 < B
  wB : w.heap.size ≤ B
theorem HasR.calls {w w' w2 : World} {B : Nat} {rows : List (Nat × (Nat → Int))} (m : HasR w w' B rows) (h : Below B w' w2) : HasR w w2 B rows :=
  ⟨m.below.trans (h.mono m.wB), fun p hp => ⟨(m.row p hp).1.below h (m.row p hp).2, (m.row p hp).2⟩, m.env.below h m.lo, Nat.le_trans m.size h.size, m.lo, m.wB⟩
theorem HasR.call {w w' w2 : World} {B : Nat} {rows : List (Nat × (Nat → Int))} (m : HasR w w' B rows) (h : Below w'.heap.size w' w2) : HasR w w2 B rows := m.calls (h.mono m.size)
theorem HasR.grown {w w' w2 : World} {B n : Nat} {v : Value} {vs : List Value} {rows : List (Nat × (Nat → Int))} (m : HasR w w' B rows) (hg : w'.grownBy w2 v.ownBlock) (ho : w'.ownsRow B 5 1 v n vs) : HasR w w2 B rows :=
  m.calls ((Below.refl _ _).grown hg m.size (fun k hk => (ho.lt k hk).1))
def zF : Nat → Int := fun _ => 0
end Go.Proofs.YtejglhlodfhgkaaGreatDoor
namespace Go.Proofs.YtejglhlodfhgkaaGreatDoor
set_option linter.unusedVariables false
set_option linter.unusedSimpArgs false
open Go.RowKit
def bytesOf (h : Nat → Int) : List Int := (List.range 32).map h
/-- the hash of a node -/
def nodeF (a b : Nat → Int) : Nat → Int := sumF (1 :: (bytesOf a ++ bytesOf b))
/-- how many leaves stand in the first part -/
def splitF (n : Nat) : Nat := 2 ^ (Lib.bitLen (n - 1) - 1)
def turnsF (i n : Nat) : List Bool :=
  if _h : 1 ≤ splitF n ∧ splitF n < n then
    if i < splitF n then false :: turnsF i (splitF n) else true :: turnsF (i - splitF n) (n - splitF n)
  else []
termination_by n
decreasing_by
  · omega
  · omega
def foldStep (s : Nat → Int) (x : Bool × (Nat → Int)) : Nat → Int := if x.1 then nodeF x.2 s else nodeF s x.2
def foldT (s : Nat → Int) (l : List (Bool × (Nat → Int))) : Nat → Int := l.foldl foldStep s
end Go.Proofs.YtejglhlodfhgkaaGreatDoor
namespace Go.Proofs
set_option linter.unusedVariables false
set_option linter.unusedSimpArgs false
open Go.Shelf
end Go.Proofs
namespace Go.Proofs.YtejglhlodfhgkaaGreatDoor
set_option linter.unusedVariables false
set_option linter.unusedSimpArgs false
open Go.RowKit
theorem bytesOf_length (a : Nat → Int) : (bytesOf a).length = 32 := by simp [bytesOf]
theorem RowAt.bytes {w : World} {b g : Nat} {a : Nat → Int} (h : RowAt w b .u8 32 53 a) (hne : b ≠ g) : BytesAt w g (.slice (some ⟨b, 0, none⟩) 32 32) (bytesOf a) := by
  refine ⟨_, _, by rw [bytesOf_length], by rw [bytesOf_length]; omega, by rw [bytesOf_length]; unfold maxLen; omega, .inr ⟨b, 0, rfl, hne, fun i x hi => ?_⟩⟩
  have hil : i < 32 := by have := (List.getElem?_eq_some_iff.1 hi).1; rw [bytesOf_length] at this; exact this
  rw [Nat.zero_add, h.cell i hil]
  simp [bytesOf, hil] at hi
  rw [hi]
/-- what Node knows of memory -/
structure NodeM (w w' : World) (g : Nat) (a b : Nat → Int) (h : HS) : Prop where
  ra : RowAt w' w.heap.size .u8 32 53 a
  rb : RowAt w' (w.heap.size + 1) .u8 32 53 b
  re : RowAt w' (w.heap.size + 1 + 1) .u8 32 53 (fun _ => 0)
  hash : HashAt w' g h.s h.b h.n
  gg : w.heap.size + 1 + 1 < g
  bounds : 0 ≤ h.n ∧ h.n < 18446744073709551616
  below : Below w.heap.size w w'
  env : Env w'
theorem NodeM.wrote {w w' w2 : World} {g : Nat} {a b : Nat → Int} {h : HS} (HC : 3 < w.heap.size) (m : NodeM w w' g a b h) {xs : List Int} (hh : HashAt w2 g (putF h xs).s (putF h xs).b (putF h xs).n) (ho : Only g w' w2) : NodeM w w2 g a b (putF h xs) :=
  ⟨(ho.block _ m.ra.lt (by have := m.gg; omega)).trans m.ra, (ho.block _ m.rb.lt (by have := m.gg; omega)).trans m.rb, (ho.block _ m.re.lt (by have := m.gg; omega)).trans m.re, hh, m.gg, putF_bounds h m.bounds.1 m.bounds.2 xs,
   m.below.trans (ho.below (by have := m.gg; omega) m.below.size), ho.env m.env (by have := m.gg; have := HC; omega)⟩
theorem NodeM.calls {w w' w2 : World} {g : Nat} {a b : Nat → Int} {h : HS} (m : NodeM w w' g a b h) (hb : Below w'.heap.size w' w2) : NodeM w w2 g a b h :=
  ⟨m.ra.below hb m.ra.lt, m.rb.below hb m.rb.lt, m.re.below hb m.re.lt, m.hash.below hb m.hash.lt, m.gg, m.bounds, m.below.trans (hb.mono m.below.size), m.env.below hb m.env.lt⟩
end Go.Proofs.YtejglhlodfhgkaaGreatDoor
namespace Go.Proofs.YtejglhlodfhgkaaGreatDoor
set_option linter.unusedVariables false
set_option linter.unusedSimpArgs false
open Go.RowKit
def zeroH : Nat → Int := fun _ => 0
/-- v is a slice of the hashes hs -/
def HashesIn (w : World) (v : Value) (hs : List (Nat → Int)) : Prop :=
  ∃ a cap, v = .slice a hs.length cap ∧ hs.length ≤ cap ∧ cap ≤ maxLen ∧ (hs = [] ∨ ∃ ab ao, a = some ⟨ab, ao, none⟩ ∧ ab < w.heap.size ∧ ∀ i, i < hs.length → w.rangeAt ab (ao + i * 32) (rowOf .u8 32 (hs.getD i zeroH)).toList)
theorem rangeAt_below {w w' : World} {B b o : Nat} {cs : List Value} (h : w.rangeAt b o cs) (hb : Below B w w') (hB : b < B) : w'.rangeAt b o cs := fun j v hv => (hb.cell (p := ⟨b, o + j, none⟩) hB).trans (h j v hv)
theorem HashesIn.below {w w' : World} {v : Value} {hs : List (Nat → Int)} (h : HashesIn w v hs) (hb : Below w.heap.size w w') : HashesIn w' v hs := by
  obtain ⟨a, cap, rfl, hc, hm, hx⟩ := h
  refine ⟨a, cap, rfl, hc, hm, ?_⟩
  rcases hx with hx | ⟨ab, ao, rfl, hl, hx⟩
  · exact .inl hx
  · exact .inr ⟨ab, ao, rfl, Nat.lt_of_lt_of_le hl hb.size, fun i hi => rangeAt_below (hx i hi) hb hl⟩
def cutH (a : Option Addr) (cap p : Nat) : Option Addr := if cap = p then a else a.map (·.add (p * 32))
theorem HashesIn.take {w : World} {a : Option Addr} {n cap : Nat} {hs : List (Nat → Int)} (h : HashesIn w (.slice a n cap) hs) (q : Nat) (hq : q ≤ n) : HashesIn w (.slice (cutH a cap 0) q cap) (hs.take q) := by
  obtain ⟨a', cap', e, hc, hm, hx⟩ := h
  injection e with e1 e2 e3
  subst e1 e2 e3
  have hl : (hs.take q).length = q := by rw [List.length_take]; omega
  refine ⟨_, _, by rw [hl], by rw [hl]; omega, hm, ?_⟩
  by_cases h0 : q = 0
  · left; subst h0; rfl
  · rcases hx with hx | ⟨ab, ao, rfl, hlt, hx⟩
    · subst hx; simp at hq; omega
    · refine .inr ⟨ab, ao, ?_, hlt, fun i hi => ?_⟩
      · unfold cutH
        rw [if_neg (by omega)]
        show some (Addr.add ⟨ab, ao, none⟩ (0 * 32)) = _
        rw [Addr.add_mid]; simp
      · rw [hl] at hi
        have := hx i (by omega)
        have e : (hs.take q).getD i zeroH = hs.getD i zeroH := by simp [List.getD, hi]
        rw [e]; exact this
theorem HashesIn.drop {w : World} {a : Option Addr} {n cap : Nat} {hs : List (Nat → Int)} (h : HashesIn w (.slice a n cap) hs) (p : Nat) (hp : p ≤ n) : HashesIn w (.slice (cutH a cap p) (n - p) (cap - p)) (hs.drop p) := by
  obtain ⟨a', cap', e, hc, hm, hx⟩ := h
  injection e with e1 e2 e3
  subst e1 e2 e3
  have hl : (hs.drop p).length = hs.length - p := by rw [List.length_drop]
  refine ⟨_, _, by rw [hl], by rw [hl]; omega, by omega, ?_⟩
  by_cases h0 : hs.length = p
  · left; exact List.drop_eq_nil_of_le (by omega)
  · rcases hx with hx | ⟨ab, ao, rfl, hlt, hx⟩
    · left; subst hx; simp
    · refine .inr ⟨ab, ao + p * 32, ?_, hlt, fun i hi => ?_⟩
      · unfold cutH
        rw [if_neg (by omega)]
        show some (Addr.add ⟨ab, ao, none⟩ (p * 32)) = _
        rw [Addr.add_mid]
      · rw [hl] at hi
        have := hx (p + i) (by omega)
        have e : (hs.drop p).getD i zeroH = hs.getD (p + i) zeroH := by simp [List.getD, List.getElem?_drop]
        rw [e, show ao + p * 32 + i * 32 = ao + (p + i) * 32 by omega]
        exact this
end Go.Proofs.YtejglhlodfhgkaaGreatDoor
namespace Go.Proofs.YtejglhlodfhgkaaGreatDoor
set_option linter.unusedVariables false
set_option linter.unusedSimpArgs false
open Go.RowKit
def flatC (ps : List (Nat → Int)) : List Value := ps.flatMap fun h => (rowOf .u8 32 h).toList
theorem flatC_snoc (ps : List (Nat → Int)) (h : Nat → Int) : flatC (ps ++ [h]) = flatC ps ++ (rowOf .u8 32 h).toList := by simp [flatC]
theorem grown_of_below {w w' : World} (h : Below w.heap.size w w') : w.grownBy w' none := ⟨h.os, h.tape, h.output, h.size, fun k hk _ => h.block k hk⟩
theorem own_ne {w : World} {B n : Nat} {v : Value} {xs : List Value} (_h : w.ownsRow B 53 32 v n xs) : v.ownBlock = none ∨ v.ownBlock ≠ none := by
  cases v.ownBlock with
  | none => exact .inl rfl
  | some k => exact .inr (by simp)
end Go.Proofs.YtejglhlodfhgkaaGreatDoor
namespace Go.Proofs.YtejglhlodfhgkaaGreatDoor
set_option linter.unusedVariables false
set_option linter.unusedSimpArgs false
open Go.RowKit
end Go.Proofs.YtejglhlodfhgkaaGreatDoor
namespace Go.Proofs.YtejglhlodfhgkaaGreatDoor
set_option linter.unusedVariables false
set_option linter.unusedSimpArgs false
open Go.RowKit
/-- r is a slice of the turns ts, apart from block g -/
def TurnsAt (w : World) (g : Nat) (r : Value) (ts : List Bool) : Prop :=
  ∃ a cap, r = .slice a ts.length cap ∧ (ts = [] ∨ ∃ tb, a = some ⟨tb, 0, none⟩ ∧ tb ≠ g ∧ ∀ x b, ts[x]? = some b → w.cell? ⟨tb, x, none⟩ = some (.bool b))
theorem TurnsAt.of_own {w : World} {B : Nat} {r : Value} {ts : List Bool} (h : w.ownsRow B 4 1 r ts.length (ts.map Value.bool)) (g : Nat) (hg : w.heap.size ≤ g) : TurnsAt w g r ts := by
  rcases h.2 with ⟨rfl, h0⟩ | ⟨tb, cap, cur, rfl, _, hh, _⟩
  · exact ⟨none, 0, by rw [h0], .inl (List.eq_nil_of_length_eq_zero h0)⟩
  · refine ⟨_, cap, rfl, .inr ⟨tb, rfl, ?_, fun x b hx => ?_⟩⟩
    · have := (Array.getElem?_eq_some_iff.1 hh).1; omega
    · have := h.cells (g := tb) rfl x (.bool b) (by rw [List.getElem?_map, hx]; rfl)
      rw [Addr.add_mid, Nat.zero_add] at this; exact this
theorem TurnsAt.only {w w' : World} {g : Nat} {r : Value} {ts : List Bool} (h : TurnsAt w g r ts) (ho : Only g w w') : TurnsAt w' g r ts := by
  obtain ⟨a, cap, rfl, hx⟩ := h
  refine ⟨a, cap, rfl, ?_⟩
  rcases hx with hx | ⟨tb, rfl, hne, hx⟩
  · exact .inl hx
  · exact .inr ⟨tb, rfl, hne, fun x b hb => ho.cell (hx x b hb) hne⟩
/-- what Fold knows of memory -/
structure FoldM (w wr : World) (g : Nat) (r : Value) (ts : List Bool) (s : Nat → Int) : Prop where
  res : RowAt wr (w.heap.size + 1) .u8 32 53 (fun _ => 0)
  sum : RowAt wr g .u8 32 53 s
  gg : w.heap.size + 1 < g
  turns : TurnsAt wr g r ts
  below : Below w.heap.size w wr
  env : Env wr
  lo : 3 < w.heap.size
theorem FoldM.only {w wr w2 : World} {g : Nat} {r : Value} {ts : List Bool} {s s' : Nat → Int} (m : FoldM w wr g r ts s) (ho : Only g wr w2) (hs : RowAt w2 g .u8 32 53 s') : FoldM w w2 g r ts s' :=
  ⟨(ho.block _ m.res.lt (by have := m.gg; omega)).trans m.res, hs, m.gg, m.turns.only ho, m.below.trans (ho.below (by have := m.gg; omega) m.below.size), ho.env m.env (by have := m.gg; have := m.lo; omega), m.lo⟩
theorem FoldM.calls {w wr w2 : World} {g : Nat} {r : Value} {ts : List Bool} {s : Nat → Int} (m : FoldM w wr g r ts s) (hb : Below wr.heap.size wr w2) : FoldM w w2 g r ts s :=
  m.only (Only.of_below hb) (m.sum.below hb m.sum.lt)
end Go.Proofs.YtejglhlodfhgkaaGreatDoor
namespace Go.Proofs.YtejglhlodfhgkaaGreatDoor
set_option linter.unusedVariables false
set_option linter.unusedSimpArgs false
open Go.RowKit
set_option maxRecDepth 100000
theorem setCells_cells (g : Nat) (t : TypeId) : ∀ (vs : List Value) (o : Nat) (w : World) (cs : Array Value), w.heap[g]? = some (.cells cs t (0, 0)) → o + vs.length ≤ cs.size →
    ∃ cs' : Array Value, (w.setCells g o vs).heap[g]? = some (.cells cs' t (0, 0)) ∧ cs'.size = cs.size ∧ ∀ j, cs'[j]? = if o ≤ j ∧ j < o + vs.length then vs[j - o]? else cs[j]?
  | [], o, w, cs, h, _ => ⟨cs, h, rfl, fun j => by rw [if_neg (by simp)]⟩
  | v :: r, o, w, cs, h, hl => by
    have h1 := heap_setCell_same w g o _ t v h
    obtain ⟨cs', h2, h3, h4⟩ := setCells_cells g t r (o + 1) (w.setCell ⟨g, o, none⟩ v) _ h1 (by simp at hl ⊢; omega)
    refine ⟨cs', h2, by rw [h3]; simp, fun j => ?_⟩
    rw [h4 j]
    simp only [List.length_cons] at hl ⊢
    by_cases e : j = o
    · subst e
      rw [if_neg (by omega), if_pos (by omega)]
      have : j < cs.size := by omega
      simp [this]
    · by_cases e2 : o + 1 ≤ j ∧ j < o + 1 + r.length
      · rw [if_pos e2, if_pos (by omega), show j - o = (j - (o + 1)) + 1 by omega]; simp
      · rw [if_neg e2, if_neg (by omega), Array.getElem?_setIfInBounds_ne (by omega)]
/-- block g has room for n hashes; the first m are L -/
def Leaves (w : World) (g n m : Nat) (L : Nat → Nat → Int) : Prop := ∃ cs : Array Value, w.heap[g]? = some (.cells cs 53 (0, 0)) ∧ cs.size = n * 32 ∧ ∀ i, i < m → ∀ j, j < 32 → cs[i * 32 + j]? = some (.int .u8 (L i j))
theorem Leaves.put {w : World} {g n m : Nat} {L : Nat → Nat → Int} (h : Leaves w g n m L) (hm : m < n) : Leaves (w.setCells g (m * 32) (rowOf .u8 32 (L m)).toList) g n (m + 1) L := by
  obtain ⟨cs, h1, h2, h3⟩ := h
  have hl : (rowOf .u8 32 (L m)).toList.length = 32 := (rowOf_list _ _ _).2
  obtain ⟨cs', a, b, c⟩ := setCells_cells g 53 (rowOf .u8 32 (L m)).toList (m * 32) w cs h1 (by rw [hl, h2]; omega)
  refine ⟨cs', a, b.trans h2, fun k hk j hj => ?_⟩
  rw [c, hl]
  by_cases e : k = m
  · subst e
    rw [if_pos (by omega), show k * 32 + j - k * 32 = j by omega, Array.getElem?_toList, rowOf_get _ _ _ _ hj]
  · rw [if_neg (by omega)]
    exact h3 k (by omega) j hj
theorem Leaves.below {w w' : World} {B g n m : Nat} {L : Nat → Nat → Int} (h : Leaves w g n m L) (hb : Below B w w') (hg : g < B) : Leaves w' g n m L := by
  obtain ⟨cs, h1, h2, h3⟩ := h
  exact ⟨cs, (hb.block g hg).trans h1, h2, h3⟩
theorem Leaves.lt {w : World} {g n m : Nat} {L : Nat → Nat → Int} (h : Leaves w g n m L) : g < w.heap.size := by
  obtain ⟨cs, h1, _⟩ := h
  exact (Array.getElem?_eq_some_iff.1 h1).1
theorem Leaves.there {w : World} {g n m : Nat} {L : Nat → Nat → Int} (h : Leaves w g n m L) (i : Nat) (hi : i < n) {s : Nat} (hs : s = 32) : w.there g (i * 32) s := fun j hj => by
  obtain ⟨cs, h1, h2, h3⟩ := h
  subst hs
  have : i * 32 + j < cs.size := by rw [h2]; omega
  exact ⟨by rw [cell_of_row _ _ _ _ _ _ h1]; simp [this], frozen_of_row _ _ _ _ _ h1⟩
def leavesL (n : Nat) (L : Nat → Nat → Int) : List (Nat → Int) := (List.range n).map L
theorem Leaves.hashes {w : World} {g n : Nat} {L : Nat → Nat → Int} (h : Leaves w g n n L) (hn : n ≤ maxLen) : HashesIn w (.slice (some ⟨g, 0, none⟩) n n) (leavesL n L) := by
  have hl : (leavesL n L).length = n := by simp [leavesL]
  have hlt := h.lt
  obtain ⟨cs, h1, h2, h3⟩ := h
  refine ⟨_, n, by rw [hl], by omega, hn, .inr ⟨g, 0, rfl, hlt, fun i hi j v hv => ?_⟩⟩
  rw [hl] at hi
  have hj : j < 32 := by have := (List.getElem?_eq_some_iff.1 hv).1; rw [(rowOf_list _ _ _).2] at this; exact this
  have e : (leavesL n L).getD i zeroH = L i := by simp [leavesL, List.getD, hi]
  rw [e, Array.getElem?_toList, rowOf_get _ _ _ _ hj] at hv
  rw [cell_of_row _ _ _ _ _ _ h1, Nat.zero_add, h3 i hi j hj]; exact hv
theorem Leaves.store {w : World} {g n m : Nat} {L : Nat → Nat → Int} (h : Leaves w g n m L) (hm : m < n) (P : Nat → Int) : (storeCells ⟨g, m * 32, none⟩ (rowOf .u8 32 P).toList).run Tryz.prog w = .ok () (w.setCells g (m * 32) (rowOf .u8 32 P).toList) := by
  have ht := h.there m hm rfl
  have hl : (rowOf .u8 32 P).toList.length = 32 := (rowOf_list _ _ _).2
  exact run_storeCells_cells g (m * 32) (rowOf .u8 32 P).toList 0 w (fun j hj => (ht j (by omega)).1) (fun j hj => (ht j (by omega)).2) (fun v hv => (Array.all_eq_true_iff_forall_mem.1 (rowOf_one _ _ _)) v (by simpa using hv))
structure PubM (w wr : World) (F : Nat → Int) (D k : Nat) (g n m : Nat) : Prop where
  below : Below w.heap.size w wr
  seed : RowAt wr w.heap.size .u8 32 53 F
  par : wr.heap[w.heap.size + 1]? = some (.cells #[.int .i64 (D : Int), .int .i64 (k : Int)] 57 (0, 0))
  lv : Leaves wr g n m (fun i => pubF F (i : Int) D)
  hg : w.heap.size + 1 < g
theorem PubM.call {w wr w2 : World} {F : Nat → Int} {D k g n m : Nat} (h : PubM w wr F D k g n m) (hb : Below wr.heap.size wr w2) : PubM w w2 F D k g n m :=
  ⟨h.below.trans (hb.mono h.below.size), h.seed.below hb h.seed.lt, (hb.block _ (Array.getElem?_eq_some_iff.1 h.par).1).trans h.par, h.lv.below hb h.lv.lt, h.hg⟩
theorem PubM.put {w wr : World} {F : Nat → Int} {D k g n m : Nat} (h : PubM w wr F D k g n m) (hm : m < n) : PubM w (wr.setCells g (m * 32) (rowOf .u8 32 (pubF F (m : Int) D)).toList) F D k g n (m + 1) := by
  have ho := Only.setCells g (rowOf .u8 32 (pubF F (m : Int) D)).toList (m * 32) wr
  have hg := h.hg
  exact ⟨h.below.trans (ho.below (by omega) h.below.size), (ho.block _ h.seed.lt (by omega)).trans h.seed, (ho.block _ (Array.getElem?_eq_some_iff.1 h.par).1 (by omega)).trans h.par, h.lv.put hm, h.hg⟩
end Go.Proofs.YtejglhlodfhgkaaGreatDoor
namespace Go.Proofs.YtejglhlodfhgkaaGreatDoor
set_option linter.unusedVariables false
set_option linter.unusedSimpArgs false
open Go.RowKit
set_option maxRecDepth 100000
end Go.Proofs.YtejglhlodfhgkaaGreatDoor
namespace Go.Proofs.YtejglhlodfhgkaaGreatDoor
set_option linter.unusedVariables false
set_option linter.unusedSimpArgs false
open Go.RowKit
set_option maxRecDepth 100000
end Go.Proofs.YtejglhlodfhgkaaGreatDoor
namespace Go.Proofs.YtejglhlodfhgkaaGreatDoor
set_option linter.unusedVariables false
set_option linter.unusedSimpArgs false
open Go.RowKit
set_option maxRecDepth 100000
/-- equal in the first 32 places -/
def E32 (p q : Nat → Int) : Prop := ∀ j, j < 32 → p j = q j
theorem E32.bytes {p q : Nat → Int} (h : E32 p q) : bytesOf p = bytesOf q := by
  unfold bytesOf
  exact List.map_congr_left fun j hj => h j (List.mem_range.1 hj)
theorem E32.rowL {p q : Nat → Int} (h : E32 p q) : rowL 32 p = rowL 32 q := rowL_congr h
theorem E32.node1 {p q s : Nat → Int} (h : E32 p q) : nodeF p s = nodeF q s := by unfold nodeF; rw [h.bytes]
theorem E32.node2 {p q s : Nat → Int} (h : E32 p q) : nodeF s p = nodeF s q := by unfold nodeF; rw [h.bytes]
theorem E32.step {p q s : Nat → Int} {b : Bool} (h : E32 p q) : foldStep s (b, p) = foldStep s (b, q) := by
  unfold foldStep
  cases b
  · exact h.node2
  · exact h.node1
inductive All32 : List (Nat → Int) → List (Nat → Int) → Prop
  | nil : All32 [] []
  | cons {p q : Nat → Int} {ps qs : List (Nat → Int)} : E32 p q → All32 ps qs → All32 (p :: ps) (q :: qs)
theorem All32.length {ps qs : List (Nat → Int)} (h : All32 ps qs) : ps.length = qs.length := by
  induction h with
  | nil => rfl
  | cons _ _ ih => simp [ih]
theorem All32.refl : ∀ ps : List (Nat → Int), All32 ps ps
  | [] => .nil
  | _ :: r => .cons (fun _ _ => rfl) (All32.refl r)
theorem All32.fold {ps qs : List (Nat → Int)} (h : All32 ps qs) : ∀ (ts : List Bool) (s : Nat → Int), foldT s (ts.zip ps) = foldT s (ts.zip qs) := by
  induction h with
  | nil => intro ts s; rfl
  | cons e _ ih =>
    intro ts s
    cases ts with
    | nil => rfl
    | cons b ts =>
      show foldT (foldStep s (b, _)) (ts.zip _) = foldT (foldStep s (b, _)) (ts.zip _)
      rw [e.step, ih]
structure Sg where
  leaf : Nat
  once : List Int
  path : List (Nat → Int)
end Go.Proofs.YtejglhlodfhgkaaGreatDoor
namespace Go.Proofs.YtejglhlodfhgkaaGreatDoor
set_option linter.unusedVariables false
set_option linter.unusedSimpArgs false
open Go.RowKit
set_option maxRecDepth 100000
theorem flatC_get : ∀ (ps : List (Nat → Int)) (i j : Nat), i < ps.length → j < 32 → (flatC ps)[i * 32 + j]? = (rowOf .u8 32 (ps.getD i zeroH)).toList[j]?
  | [], i, j, h, _ => by simp at h
  | p :: ps, 0, j, _, hj => by
    show ((rowOf .u8 32 p).toList ++ flatC ps)[0 * 32 + j]? = _
    rw [Nat.zero_mul, Nat.zero_add, List.getElem?_append_left (by rw [(rowOf_list _ _ _).2]; exact hj)]; rfl
  | p :: ps, i + 1, j, h, hj => by
    show ((rowOf .u8 32 p).toList ++ flatC ps)[(i + 1) * 32 + j]? = _
    rw [List.getElem?_append_right (by rw [(rowOf_list _ _ _).2]; omega), (rowOf_list _ _ _).2, show (i + 1) * 32 + j - 32 = i * 32 + j by omega, flatC_get ps i j (by simpa using h) hj]; rfl
theorem HashesIn.of_own {w : World} {B : Nat} {r : Value} {ps : List (Nat → Int)} (h : w.ownsRow B 53 32 r ps.length (flatC ps)) : HashesIn w r ps := by
  rcases h.2 with ⟨rfl, h0⟩ | ⟨tb, cap, cur, rfl, _, hh, hc, hm, _⟩
  · exact ⟨none, 0, by rw [h0], by omega, by simp [maxLen], .inl (List.eq_nil_of_length_eq_zero h0)⟩
  · refine ⟨_, cap, rfl, hc, hm, .inr ⟨tb, 0, rfl, (Array.getElem?_eq_some_iff.1 hh).1, fun i hi j u hj => ?_⟩⟩
    have hj32 : j < 32 := by have := (List.getElem?_eq_some_iff.1 hj).1; rw [(rowOf_list _ _ _).2] at this; exact this
    have := h.cells (g := tb) rfl (i * 32 + j) u (by rw [flatC_get ps i j hi hj32]; exact hj)
    rw [Addr.add_mid] at this
    rw [show 0 + i * 32 + j = 0 + (i * 32 + j) by omega]; exact this
theorem HashesIn.len {w : World} {r : Value} {ps : List (Nat → Int)} (h : HashesIn w r ps) : ∃ a cap, r = .slice a ps.length cap := by
  obtain ⟨a, cap, e, _⟩ := h
  exact ⟨a, cap, e⟩
theorem HashesIn.at {w : World} {a : Option Addr} {n cap : Nat} {ps : List (Nat → Int)} (h : HashesIn w (.slice a n cap) ps) (k : Nat) (hk : k < ps.length) : ∃ ab ao, a = some ⟨ab, ao, none⟩ ∧ ab < w.heap.size ∧ w.rangeAt ab (ao + k * 32) (rowOf .u8 32 (ps.getD k zeroH)).toList := by
  obtain ⟨a', cap', e, hc, hm, hx⟩ := h
  injection e with e1 e2 e3
  subst e1
  rcases hx with rfl | ⟨ab, ao, rfl, hlt, hx⟩
  · simp at hk
  · exact ⟨ab, ao, rfl, hlt, hx k hk⟩
end Go.Proofs.YtejglhlodfhgkaaGreatDoor
namespace Go.Proofs.YtejglhlodfhgkaaGreatDoor
set_option linter.unusedVariables false
set_option linter.unusedSimpArgs false
open Go.RowKit
set_option maxRecDepth 100000
theorem bytes_own_lt {w : World} {y : Value} {ys : List Int} (h : BytesIn w y ys) (hn : ys ≠ []) : ∀ k, y.ownBlock = some k → k < w.heap.size := by
  obtain ⟨a, c, rfl, _, _, hx⟩ := h
  rcases hx with hx | ⟨ab, ao, rfl, hx⟩
  · exact absurd hx hn
  · intro k hk
    cases ys with
    | nil => exact absurd rfl hn
    | cons x r =>
      have := World.block_lt_of_cell? w _ (hx 0 x rfl)
      have e : ab = k := by simpa [Value.ownBlock] using hk
      show k < w.heap.size
      rw [← e]; exact this
/-- what lies in memory while a signature is encoded -/
structure EncM (w w' : World) (B : Nat) (leaf : Nat) (vo vp : Value) (once : List Int) (ps : List (Nat → Int)) : Prop where
  below : Below w.heap.size w w'
  sig : w'.heap[w.heap.size]? = some (.cells #[.int .i64 (leaf : Int), vo, vp] 226 (0, 0))
  once : BytesIn w' vo once
  path : HashesIn w' vp ps
  size : B ≤ w'.heap.size
  lo : w.heap.size < B
theorem EncM.call {w w' w2 : World} {B leaf : Nat} {vo vp : Value} {once : List Int} {ps : List (Nat → Int)} (m : EncM w w' B leaf vo vp once ps) (h : Below w'.heap.size w' w2) : EncM w w2 B leaf vo vp once ps :=
  ⟨m.below.trans (h.mono m.below.size), (h.block _ (Array.getElem?_eq_some_iff.1 m.sig).1).trans m.sig, m.once.below h, m.path.below h, Nat.le_trans m.size h.size, m.lo⟩
end Go.Proofs.YtejglhlodfhgkaaGreatDoor
namespace Go.Proofs.YtejglhlodfhgkaaGreatDoor
set_option linter.unusedVariables false
set_option linter.unusedSimpArgs false
def tabL : List Nat := [0, 498536548, 997073096, 651767980, 1994146192, 1802195444, 1303535960, 1342533948, 3988292384, 4027552580, 3604390888, 3412177804, 2607071920, 2262029012, 2685067896, 3183342108]
def tabN (i : Nat) : Nat := tabL.getD i 0
/-- four bits -/
def nib (r : Nat) : Nat := r / 16 ^^^ tabN (r % 16)
/-- a byte -/
def byteS (r x : Nat) : Nat := nib (nib (r ^^^ x))
theorem bytesOk.cons {x : Int} {xs : List Int} (h : bytesOk (x :: xs)) : (0 ≤ x ∧ x < 256) ∧ bytesOk xs := ⟨h x (by simp), fun y hy => h y (by simp [hy])⟩
theorem bytesOk.append {xs ys : List Int} (h1 : bytesOk xs) (h2 : bytesOk ys) : bytesOk (xs ++ ys) := fun x hx => by
  rcases List.mem_append.1 hx with h | h
  · exact h1 x h
  · exact h2 x h
theorem bytesOk.take {xs : List Int} (h : bytesOk xs) (n : Nat) : bytesOk (xs.take n) := fun x hx => h x (List.mem_of_mem_take hx)
theorem bytesOk.drop {xs : List Int} (h : bytesOk xs) (n : Nat) : bytesOk (xs.drop n) := fun x hx => h x (List.mem_of_mem_drop hx)
theorem bytesOk.set {xs : List Int} (h : bytesOk xs) (i : Nat) (y : Int) (hy : 0 ≤ y ∧ y < 256) : bytesOk (xs.set i y) := fun x hx => by
  rcases List.mem_or_eq_of_mem_set hx with h1 | h1
  · exact h x h1
  · rw [h1]; exact hy
/-- the register behind xs -/
def regF (r : Nat) : List Int → Nat
  | [] => r
  | x :: xs => regF (byteS r x.toNat) xs
/-- the checksum -/
def crcF (xs : List Int) : Nat := 4294967295 ^^^ regF 4294967295 xs
/-- four bytes as a number -/
def rdW (xs : List Int) : Nat := (xs.getD 0 0).toNat * 16777216 + (xs.getD 1 0).toNat * 65536 + (xs.getD 2 0).toNat * 256 + (xs.getD 3 0).toNat
/-- what bytes begin with: an error, or a payload -/
def oneF (b : List Int) : Option Nat × List Int :=
  if b.length = 0 then (some 8, [])
  else if b.length < 8 then (some 12, [])
  else if rdW (b.drop 4) ≠ crcF (b.take 4) ∨ rdW b = 0 ∨ 1048576 < rdW b then (some 11, [])
  else if b.length < rdW b + 12 then (some 12, [])
  else if rdW (b.drop (rdW b + 8)) ≠ crcF ((b.take (rdW b + 8)).drop 8) then (some 11, [])
  else (none, (b.take (rdW b + 8)).drop 8)
end Go.Proofs.YtejglhlodfhgkaaGreatDoor
namespace Go.Proofs.YtejglhlodfhgkaaGreatDoor
set_option linter.unusedVariables false
set_option linter.unusedSimpArgs false
open Go.RowKit
set_option maxRecDepth 100000
theorem BytesIn.cell {w : World} {a : Option Addr} {n cap : Nat} {xs : List Int} (h : BytesIn w (.slice a n cap) xs) : n = xs.length ∧ (xs = [] ∨ ∃ ab ao, a = some ⟨ab, ao, none⟩ ∧ ∀ i x, xs[i]? = some x → w.cell? ⟨ab, ao + i, none⟩ = some (.int .u8 x)) := by
  obtain ⟨a', c', e, _, _, hx⟩ := h
  injection e with e1 e2 e3
  subst e1 e2
  exact ⟨rfl, hx⟩
end Go.Proofs.YtejglhlodfhgkaaGreatDoor
namespace Go.Proofs.YtejglhlodfhgkaaGreatDoor
set_option linter.unusedVariables false
set_option linter.unusedSimpArgs false
open Go.RowKit
set_option maxRecDepth 100000
theorem OwnOf.alloc {v v' : Value} {w : World} {o : Obj} (h : OwnOf v v' (w.alloc o)) : OwnOf v v' w := by
  rcases h with h | ⟨k, h1, h2⟩
  · exact .inl h
  · exact .inr ⟨k, h1, by simp at h2; omega⟩
end Go.Proofs.YtejglhlodfhgkaaGreatDoor
namespace Go.Proofs.YtejglhlodfhgkaaGreatDoor
set_option linter.unusedVariables false
set_option linter.unusedSimpArgs false
open Go.RowKit
set_option maxRecDepth 100000
end Go.Proofs.YtejglhlodfhgkaaGreatDoor
namespace Go.Proofs.YtejglhlodfhgkaaGreatDoor
set_option linter.unusedVariables false
set_option linter.unusedSimpArgs false
open Go.RowKit
set_option maxRecDepth 100000
theorem BytesIn.drewN {w : World} {y : Value} {ys : List Int} (h : BytesIn w y ys) (n : Nat) : BytesIn (w.drewN n) y ys := h
theorem BytesIn.from {w : World} {a : Option Addr} {n cap : Nat} {xs : List Int} (h : BytesIn w (.slice a n cap) xs) (p : Nat) (hp : p ≤ n) : BytesIn w (.slice (cutA a cap p) (n - p) (cap - p)) (xs.drop p) := by
  have h1 := h.cut p n hp (Nat.le_refl _)
  rw [List.take_of_length_le (by have := h.cell.1; omega)] at h1
  exact h1
theorem BytesIn.upto {w : World} {a : Option Addr} {n cap : Nat} {xs : List Int} (h : BytesIn w (.slice a n cap) xs) (q : Nat) (hq : q ≤ n) : BytesIn w (.slice (cutA a cap 0) q cap) (xs.take q) := h.cut 0 q (Nat.zero_le _) hq
end Go.Proofs.YtejglhlodfhgkaaGreatDoor
namespace Go.Proofs.YtejglhlodfhgkaaGreatDoor
set_option linter.unusedVariables false
set_option linter.unusedSimpArgs false
open Go.RowKit Go.Extern.Stop Go.Stop Go.Extern
set_option maxRecDepth 100000
end Go.Proofs.YtejglhlodfhgkaaGreatDoor
