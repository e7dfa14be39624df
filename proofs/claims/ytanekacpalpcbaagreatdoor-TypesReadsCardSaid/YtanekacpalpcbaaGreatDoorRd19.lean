/- Part 19 of the proof. -/
import Derived.Laws.BitsAllLaws
import Derived.Test.YtanekacpalpcbaaGreatDoorRd1
import Derived.Test.YtanekacpalpcbaaGreatDoorRd3
import Derived.Test.YtanekacpalpcbaaGreatDoorRd18
namespace Go.Proofs.YtanekacpalpcbaaGreatDoor
set_option linter.unusedVariables false
set_option linter.unusedSimpArgs false
open Go.RowKit
set_option maxRecDepth 100000
set_option linter.unusedSimpArgs false
set_option linter.unusedVariables false
def nilV : Value := .slice none 0 0
def setSv (t : Vo) (v : Value) : Vo := ⟨t.kind, t.height, t.round, t.blk, t.val, v, t.sign⟩
def coreV (t : Vo) : Vo := setSv t nilV
def zVo : Vo := ⟨0, 0, 0, fun _ => 0, 0, nilV, []⟩
def dvo (xs : List Int) : Vo := if (doneE (vtR (xs, none))).isNone then vtV (xs, none) nilV else zVo
def dvoE (xs : List Int) : Option Nat := if (doneE (vtR (xs, none))).isNone then none else some 3
def dhA (xs : List Int) : Array Value := if (doneE (hdR (xs, none))).isNone then hdV (xs, none) else (hdD { data := #[] } 0 0 (fun _ => 0) (fun _ => 0) (fun _ => 0) (fun _ => 0) (fun _ => 0) 0)
def dhE (xs : List Int) : Option Nat := if (doneE (hdR (xs, none))).isNone then none else some 3
def dcm (xs : List Int) : Cm := if (doneE (cmR (xs, none))).isNone then cmV (xs, none) else ⟨0, 0, fun _ => 0⟩
def dcl (xs : List Int) : List Vo := if (doneE (cmR (xs, none))).isNone then vts (countS (cmT (xs, none)) 32).2 (List.replicate (countS (cmT (xs, none)) 32).1 nilV) else []
def dcE (xs : List Int) : Option Nat := if (doneE (cmR (xs, none))).isNone then none else some 3
def dbh (xs : List Int) : Array Value := if (doneE (cmR (bkT (xs, none)))).isNone then hdV (xs, none) else (hdD { data := #[] } 0 0 (fun _ => 0) (fun _ => 0) (fun _ => 0) (fun _ => 0) (fun _ => 0) 0)
def dbc (xs : List Int) : Cm := if (doneE (cmR (bkT (xs, none)))).isNone then cmV (bkT (xs, none)) else ⟨0, 0, fun _ => 0⟩
def dbt (xs : List Int) : List (List Int) := if (doneE (cmR (bkT (xs, none)))).isNone then (txs (countS (hdR (xs, none)) 64).2 (List.replicate (countS (hdR (xs, none)) 64).1 nilV)).map Tb.bs else []
def dbl (xs : List Int) : List Vo := if (doneE (cmR (bkT (xs, none)))).isNone then vts (countS (cmT (bkT (xs, none))) 32).2 (List.replicate (countS (cmT (bkT (xs, none))) 32).1 nilV) else []
def dbE (xs : List Int) : Option Nat := if (doneE (cmR (bkT (xs, none)))).isNone then none else some 3
theorem vtsF_core (s : RSt) : ∀ (l : List Value) (k : Nat), (vtsF k s l).map coreV = vtsF k s (List.replicate l.length nilV)
  | [], k => rfl
  | v :: r, k => by
    show coreV (vtV (vtN k s) v) :: (vtsF (k + 1) s r).map coreV = _
    rw [vtsF_core s r]
    rfl
theorem vts_core (s : RSt) {l : List Value} {n : Nat} (h : l.length = n) : (vts s l).map coreV = vts s (List.replicate n nilV) := by rw [← h]; exact vtsF_core s l 0
theorem txsF_bs (s : RSt) : ∀ (l : List Value) (k : Nat), (txsF k s l).map Tb.bs = (txsF k s (List.replicate l.length nilV)).map Tb.bs
  | [], k => rfl
  | v :: r, k => by
    show (partS (txN k s) 65536).1 :: (txsF (k + 1) s r).map Tb.bs = (partS (txN k s) 65536).1 :: (txsF (k + 1) s (List.replicate r.length nilV)).map Tb.bs
    rw [txsF_bs s r]
theorem txs_bs (s : RSt) {l : List Value} {n : Nat} (h : l.length = n) : (txs s l).map Tb.bs = (txs s (List.replicate n nilV)).map Tb.bs := by rw [← h]; exact txsF_bs s l 0
theorem dvoA (xs : List Int) (h : doneE (vtR (xs, none)) = none) : dvo xs = vtV (xs, none) nilV ∧ dvoE xs = none := by unfold dvo dvoE; rw [h]; exact ⟨rfl, rfl⟩
theorem dvoB (xs : List Int) (h : ¬ doneE (vtR (xs, none)) = none) : dvo xs = zVo ∧ dvoE xs = some 3 := by
  obtain ⟨x, hx⟩ := Option.ne_none_iff_exists'.1 h
  unfold dvo dvoE; rw [hx]; exact ⟨rfl, rfl⟩
theorem dhAA (xs : List Int) (h : doneE (hdR (xs, none)) = none) : dhA xs = hdV (xs, none) ∧ dhE xs = none := by unfold dhA dhE; rw [h]; exact ⟨rfl, rfl⟩
theorem dhAB (xs : List Int) (h : ¬ doneE (hdR (xs, none)) = none) : dhA xs = (hdD { data := #[] } 0 0 (fun _ => 0) (fun _ => 0) (fun _ => 0) (fun _ => 0) (fun _ => 0) 0) ∧ dhE xs = some 3 := by
  obtain ⟨x, hx⟩ := Option.ne_none_iff_exists'.1 h
  unfold dhA dhE; rw [hx]; exact ⟨rfl, rfl⟩
theorem dcA (xs : List Int) (h : doneE (cmR (xs, none)) = none) : dcm xs = cmV (xs, none) ∧ dcl xs = vts (countS (cmT (xs, none)) 32).2 (List.replicate (countS (cmT (xs, none)) 32).1 nilV) ∧ dcE xs = none := by unfold dcm dcl dcE; rw [h]; exact ⟨rfl, rfl, rfl⟩
theorem dcB (xs : List Int) (h : ¬ doneE (cmR (xs, none)) = none) : dcm xs = ⟨0, 0, fun _ => 0⟩ ∧ dcl xs = [] ∧ dcE xs = some 3 := by
  obtain ⟨x, hx⟩ := Option.ne_none_iff_exists'.1 h
  unfold dcm dcl dcE; rw [hx]; exact ⟨rfl, rfl, rfl⟩
theorem dbA (xs : List Int) (h : doneE (cmR (bkT (xs, none))) = none) : dbh xs = hdV (xs, none) ∧ dbc xs = cmV (bkT (xs, none)) ∧ dbt xs = (txs (countS (hdR (xs, none)) 64).2 (List.replicate (countS (hdR (xs, none)) 64).1 nilV)).map Tb.bs ∧ dbl xs = vts (countS (cmT (bkT (xs, none))) 32).2 (List.replicate (countS (cmT (bkT (xs, none))) 32).1 nilV) ∧ dbE xs = none := by unfold dbh dbc dbt dbl dbE; rw [h]; exact ⟨rfl, rfl, rfl, rfl, rfl⟩
theorem dbB (xs : List Int) (h : ¬ doneE (cmR (bkT (xs, none))) = none) : dbh xs = (hdD { data := #[] } 0 0 (fun _ => 0) (fun _ => 0) (fun _ => 0) (fun _ => 0) (fun _ => 0) 0) ∧ dbc xs = ⟨0, 0, fun _ => 0⟩ ∧ dbt xs = [] ∧ dbl xs = [] ∧ dbE xs = some 3 := by
  obtain ⟨x, hx⟩ := Option.ne_none_iff_exists'.1 h
  unfold dbh dbc dbt dbl dbE; rw [hx]; exact ⟨rfl, rfl, rfl, rfl, rfl⟩
def DvP (f : Option Nat → Value) (xs : List Int) (w : World) (e : Ending) (w' : World) : Prop := ∃ sv, e = .returned (.tuple #[.agg (voC (setSv (dvo xs) sv)), f (dvoE xs)]) ∧ BytesIn w' sv (dvo xs).sign ∧ Below w.heap.size w w'
def DhP (f : Option Nat → Value) (xs : List Int) (w : World) (e : Ending) (w' : World) : Prop := e = .returned (.tuple #[.agg (dhA xs), f (dhE xs)]) ∧ Below w.heap.size w w'
def DcP (f : Option Nat → Value) (xs : List Int) (w : World) (e : Ending) (w' : World) : Prop := ∃ cv l, e = .returned (.tuple #[.agg (cmC (dcm xs) cv), f (dcE xs)]) ∧ VoIn w' cv l ∧ (∀ t ∈ l, BytesIn w' t.sv t.sign) ∧ l.map coreV = dcl xs ∧ Below w.heap.size w w'
def DbP (f : Option Nat → Value) (xs : List Int) (w : World) (e : Ending) (w' : World) : Prop := ∃ tv ts cv l, e = .returned (.tuple #[.agg (bkD (dbh xs) tv (cmC (dbc xs) cv)), f (dbE xs)]) ∧ TbIn w' tv ts ∧ (∀ t ∈ ts, BytesIn w' t.bv t.bs) ∧ ts.map Tb.bs = dbt xs ∧ VoIn w' cv l ∧ (∀ t ∈ l, BytesIn w' t.sv t.sign) ∧ l.map coreV = dbl xs ∧ Below w.heap.size w w'
theorem rows_nil11 {α : Type} {n : Nat} {C : α → List Value} (w : World) : RowsIn n C w nilV [] := ⟨none, 0, rfl, by simp, by simp [maxLen], .inl rfl⟩
theorem pdv_any (vb : Value) (xs : List Int) (w : World) (hy : BytesIn w vb xs) (hok : bytesOk xs) (hl : xs.length ≤ 140737488355328) : Calls Tryz.prog 51 #[vb] w (DvP errV xs w) := by
  by_cases hd : doneE (vtR (xs, none)) = none
  · obtain ⟨h1, h2⟩ := dvoA xs hd
    unfold DvP
    rw [h1, h2]
    refine (dV_ok vb xs w hy hok hl hd).mono ?_
    rintro e w' ⟨sa, sc, rfl, hb, -, hbl⟩
    exact ⟨_, rfl, hb, hbl⟩
  · obtain ⟨h1, h2⟩ := dvoB xs hd
    obtain ⟨x, hx⟩ := Option.ne_none_iff_exists'.1 hd
    unfold DvP
    rw [h1, h2]
    refine (dV_no vb xs w hy hok hl x hx).mono ?_
    rintro e w' ⟨rfl, hbl⟩
    exact ⟨nilV, rfl, nil_in _, hbl⟩
theorem pdh_any (vb : Value) (xs : List Int) (w : World) (hy : BytesIn w vb xs) (hok : bytesOk xs) (hl : xs.length ≤ 140737488355328) : Calls Tryz.prog 55 #[vb] w (DhP errV xs w) := by
  by_cases hd : doneE (hdR (xs, none)) = none
  · obtain ⟨h1, h2⟩ := dhAA xs hd
    unfold DhP
    rw [h1, h2]
    exact dH_ok vb xs w hy hok hl hd
  · obtain ⟨h1, h2⟩ := dhAB xs hd
    obtain ⟨x, hx⟩ := Option.ne_none_iff_exists'.1 hd
    unfold DhP
    rw [h1, h2]
    exact dH_no vb xs w hy hok hl x hx
theorem pdc_any (vb : Value) (xs : List Int) (w : World) (hy : BytesIn w vb xs) (hok : bytesOk xs) (hl : xs.length ≤ 140737488355328) : Calls Tryz.prog 53 #[vb] w (DcP errV xs w) := by
  by_cases hd : doneE (cmR (xs, none)) = none
  · obtain ⟨h1, h2, h3⟩ := dcA xs hd
    unfold DcP
    rw [h1, h2, h3]
    refine (dC_ok vb xs w hy hok hl hd).mono ?_
    rintro e w' ⟨va, vc, svs, rfl, hs, hv, hbl⟩
    exact ⟨_, _, rfl, hv.rows, fun t m => (hv.el t m).1, vts_core _ hs, hbl⟩
  · obtain ⟨h1, h2, h3⟩ := dcB xs hd
    obtain ⟨x, hx⟩ := Option.ne_none_iff_exists'.1 hd
    unfold DcP
    rw [h1, h2, h3]
    refine (dC_no vb xs w hy hok hl x hx).mono ?_
    rintro e w' ⟨rfl, hbl⟩
    exact ⟨nilV, [], rfl, rows_nil11 _, (fun t m => by cases m), rfl, hbl⟩
theorem pdb_any (vb : Value) (xs : List Int) (w : World) (hy : BytesIn w vb xs) (hok : bytesOk xs) (hl : xs.length ≤ 140737488355328) : Calls Tryz.prog 57 #[vb] w (DbP errV xs w) := by
  by_cases hd : doneE (cmR (bkT (xs, none))) = none
  · obtain ⟨h1, h2, h3, h4, h5⟩ := dbA xs hd
    unfold DbP
    rw [h1, h2, h3, h4, h5]
    refine (dB_ok vb xs w hy hok hl hd).mono ?_
    rintro e w' ⟨ta, tc, tvs, va, vc, svs, rfl, ht, hs, htl, hvl, hbl⟩
    exact ⟨_, _, _, _, rfl, htl.rows, fun t m => (htl.el t m).1, txs_bs _ ht, hvl.rows, fun t m => (hvl.el t m).1, vts_core _ hs, hbl⟩
  · obtain ⟨h1, h2, h3, h4, h5⟩ := dbB xs hd
    obtain ⟨x, hx⟩ := Option.ne_none_iff_exists'.1 hd
    unfold DbP
    rw [h1, h2, h3, h4, h5]
    refine (dB_no vb xs w hy hok hl x hx).mono ?_
    rintro e w' ⟨rfl, hbl⟩
    exact ⟨nilV, [], nilV, [], rfl, rows_nil11 _, (fun t m => by cases m), rfl, rows_nil11 _, (fun t m => by cases m), rfl, hbl⟩
end Go.Proofs.YtanekacpalpcbaaGreatDoor
namespace Go.Proofs.YtanekacpalpcbaaGreatDoor
set_option linter.unusedVariables false
set_option linter.unusedSimpArgs false
open Go.RowKit
set_option maxRecDepth 100000
def dgt (xs : List Int) (i : Nat) : Nat := (xs.getD i 0).toNat % 128
/-- what the first i groups add up to -/
def accN (xs : List Int) : Nat → Nat
  | 0 => 0
  | i + 1 => accN xs i + dgt xs i * 128 ^ i
/-- what m groups from place j on add up to, the first the least -/
def hor (xs : List Int) : Nat → Nat → Nat
  | 0, _ => 0
  | m + 1, j => dgt xs j + 128 * hor xs m (j + 1)
theorem dgt_lt (xs : List Int) (i : Nat) : dgt xs i < 128 := Nat.mod_lt _ (by decide)
theorem accN_hor (xs : List Int) : ∀ m j, accN xs (j + m) = accN xs j + 128 ^ j * hor xs m j
  | 0, j => by simp [hor]
  | m + 1, j => by
    rw [show j + (m + 1) = (j + 1) + m by omega, accN_hor xs m (j + 1)]
    simp only [accN, hor, Nat.pow_succ, Nat.mul_add]
    rw [Nat.mul_comm (dgt xs j), Nat.mul_assoc, Nat.add_assoc]
theorem accN_lt (xs : List Int) : ∀ i, accN xs i < 128 ^ i
  | 0 => by simp [accN]
  | i + 1 => by
    have h1 := accN_lt xs i
    have h2 : dgt xs i * 128 ^ i ≤ 127 * 128 ^ i := Nat.mul_le_mul_right _ (by have := dgt_lt xs i; omega)
    simp only [accN, Nat.pow_succ]
    omega
theorem accF_accN (xs : List Int) : ∀ i, i ≤ 9 → accF xs i = accN xs i
  | 0, _ => rfl
  | i + 1, h => by
    have hp : (128 : Nat) ^ i ≤ 128 ^ 8 := Nat.pow_le_pow_right (by decide) (by omega)
    have h8 : (128 : Nat) ^ 8 = 72057594037927936 := by decide
    have h2 : dgt xs i * 128 ^ i ≤ 127 * 128 ^ i := Nat.mul_le_mul_right _ (by have := dgt_lt xs i; omega)
    show accF xs i + (dgt xs i * 128 ^ i) % 18446744073709551616 = accN xs i + dgt xs i * 128 ^ i
    rw [accF_accN xs i (by omega), Nat.mod_eq_of_lt (by omega)]
/-- a number of at most ten groups, the tenth of which is 0 or 1 -/
theorem acc_ok (xs : List Int) (i : Nat) (hi : i ≤ 9) (h : i = 9 → dgt xs i ≤ 1) : accF xs (i + 1) = accN xs (i + 1) ∧ accN xs (i + 1) < 18446744073709551616 := by
  have hl := accN_lt xs (i + 1)
  rcases Nat.lt_or_ge i 9 with h9 | h9
  · have hp : (128 : Nat) ^ (i + 1) ≤ 128 ^ 9 := Nat.pow_le_pow_right (by decide) (by omega)
    have e9 : (128 : Nat) ^ 9 = 9223372036854775808 := by decide
    exact ⟨accF_accN xs (i + 1) (by omega), by omega⟩
  · obtain rfl : i = 9 := by omega
    have h1 := h rfl
    have hn := accN_lt xs 9
    have e9 : (128 : Nat) ^ 9 = 9223372036854775808 := by decide
    have hd : dgt xs 9 * 128 ^ 9 ≤ 1 * 128 ^ 9 := Nat.mul_le_mul_right _ h1
    have e : accN xs (9 + 1) = accN xs 9 + dgt xs 9 * 128 ^ 9 := rfl
    refine ⟨?_, by omega⟩
    show accF xs 9 + (dgt xs 9 * 128 ^ 9) % 18446744073709551616 = accN xs (9 + 1)
    rw [accF_accN xs 9 (by omega), Nat.mod_eq_of_lt (by omega), e]
theorem hor_le (xs : List Int) (m j : Nat) : hor xs m j ≤ accN xs (j + m) := by
  rw [accN_hor]
  have : 1 ≤ (128 : Nat) ^ j := Nat.one_le_pow _ _ (by decide)
  have := Nat.mul_le_mul_right (hor xs m j) this
  omega
theorem hor_all (xs : List Int) (m : Nat) : hor xs m 0 = accN xs m := by
  have := accN_hor xs m 0
  simp [accN] at this
  exact this.symm
/-- an error's number once more: the first one stays -/
def firstE : Option Nat → Nat → Option Nat
  | none, x => some x
  | some y, _ => some y
end Go.Proofs.YtanekacpalpcbaaGreatDoor
namespace Go.Proofs.YtanekacpalpcbaaGreatDoor
set_option linter.unusedVariables false
set_option linter.unusedSimpArgs false
def tabL : List Nat := [0, 498536548, 997073096, 651767980, 1994146192, 1802195444, 1303535960, 1342533948, 3988292384, 4027552580, 3604390888, 3412177804, 2607071920, 2262029012, 2685067896, 3183342108]
def tabN (i : Nat) : Nat := tabL.getD i 0
theorem tabN_lt (i : Nat) (h : i < 16) : tabN i < 4294967296 := by
  have : ∀ i : Fin 16, tabN i.val < 4294967296 := by decide
  exact this ⟨i, h⟩
theorem tabN_top (i j : Nat) (hi : i < 16) (hj : j < 16) (h : tabN i / 268435456 = tabN j / 268435456) : i = j := by
  have : ∀ i j : Fin 16, tabN i.val / 268435456 = tabN j.val / 268435456 → i.val = j.val := by decide
  exact this ⟨i, hi⟩ ⟨j, hj⟩ h
/-- four bits -/
def nib (r : Nat) : Nat := r / 16 ^^^ tabN (r % 16)
/-- a byte -/
def byteS (r x : Nat) : Nat := nib (nib (r ^^^ x))
theorem xor_lt32 {a b : Nat} (ha : a < 4294967296) (hb : b < 4294967296) : a ^^^ b < 4294967296 := Nat.xor_lt_two_pow (n := 32) ha hb
theorem nib_lt {r : Nat} (h : r < 4294967296) : nib r < 4294967296 := xor_lt32 (by omega) (tabN_lt _ (by omega))
theorem byteS_lt {r x : Nat} (h : r < 4294967296) (hx : x < 256) : byteS r x < 4294967296 := nib_lt (nib_lt (xor_lt32 h (by omega)))
theorem xor_top (a t : Nat) (ha : a < 268435456) : (a ^^^ t) / 268435456 = t / 268435456 := by
  have h := Nat.shiftRight_xor_distrib (a := a) (b := t) (i := 28)
  simp only [Nat.shiftRight_eq_div_pow] at h
  rw [show (2 : Nat) ^ 28 = 268435456 from rfl, Nat.div_eq_of_lt ha, Nat.zero_xor] at h
  exact h
theorem xor_cancel {a b t : Nat} (h : a ^^^ t = b ^^^ t) : a = b := by
  have := congrArg (· ^^^ t) h
  simpa [Nat.xor_assoc] using this
theorem xor_cancel_l {a b t : Nat} (h : t ^^^ a = t ^^^ b) : a = b := by
  rw [Nat.xor_comm t a, Nat.xor_comm t b] at h
  exact xor_cancel h
theorem nib_inj {a b : Nat} (ha : a < 4294967296) (hb : b < 4294967296) (h : nib a = nib b) : a = b := by
  have h1 : tabN (a % 16) / 268435456 = tabN (b % 16) / 268435456 := by
    rw [← xor_top (a / 16) _ (by omega), ← xor_top (b / 16) (tabN (b % 16)) (by omega)]
    exact congrArg (· / 268435456) h
  have h2 := tabN_top _ _ (by omega) (by omega) h1
  unfold nib at h
  rw [h2] at h
  have h3 := xor_cancel h
  omega
theorem byteS_inj_r {a b x : Nat} (ha : a < 4294967296) (hb : b < 4294967296) (hx : x < 256) (h : byteS a x = byteS b x) : a = b :=
  xor_cancel (nib_inj (xor_lt32 ha (by omega)) (xor_lt32 hb (by omega)) (nib_inj (nib_lt (xor_lt32 ha (by omega))) (nib_lt (xor_lt32 hb (by omega))) h))
theorem byteS_inj_x {r x y : Nat} (hr : r < 4294967296) (hx : x < 256) (hy : y < 256) (h : byteS r x = byteS r y) : x = y :=
  xor_cancel_l (nib_inj (xor_lt32 hr (by omega)) (xor_lt32 hr (by omega)) (nib_inj (nib_lt (xor_lt32 hr (by omega))) (nib_lt (xor_lt32 hr (by omega))) h))
theorem bytesOk_nil : bytesOk [] := fun _ h => by cases h
theorem bytesOk.cons {x : Int} {xs : List Int} (h : bytesOk (x :: xs)) : (0 ≤ x ∧ x < 256) ∧ bytesOk xs := ⟨h x (by simp), fun y hy => h y (by simp [hy])⟩
theorem bytesOk.append {xs ys : List Int} (h1 : bytesOk xs) (h2 : bytesOk ys) : bytesOk (xs ++ ys) := fun x hx => by
  rcases List.mem_append.1 hx with h | h
  · exact h1 x h
  · exact h2 x h
theorem bytesOk.take {xs : List Int} (h : bytesOk xs) (n : Nat) : bytesOk (xs.take n) := fun x hx => h x (List.mem_of_mem_take hx)
theorem bytesOk.drop {xs : List Int} (h : bytesOk xs) (n : Nat) : bytesOk (xs.drop n) := fun x hx => h x (List.mem_of_mem_drop hx)
theorem bytesOk.set {xs : List Int} (h : bytesOk xs) (i : Nat) (y : Int) (hy : 0 ≤ y ∧ y < 256) : bytesOk (xs.set i y) := fun x hx => by
  rcases List.mem_or_eq_of_mem_set hx with h1 | h1
  · exact h x h1
  · rw [h1]; exact hy
/-- the register behind xs -/
def regF (r : Nat) : List Int → Nat
  | [] => r
  | x :: xs => regF (byteS r x.toNat) xs
theorem regF_lt : ∀ (xs : List Int) (r : Nat), r < 4294967296 → bytesOk xs → regF r xs < 4294967296
  | [], _, h, _ => h
  | _ :: xs, _, h, ho => regF_lt xs _ (byteS_lt h (by have := ho.cons.1; omega)) ho.cons.2
theorem regF_append : ∀ (xs ys : List Int) (r : Nat), regF r (xs ++ ys) = regF (regF r xs) ys
  | [], _, _ => rfl
  | _ :: xs, ys, _ => regF_append xs ys _
theorem regF_inj : ∀ (xs : List Int) (a b : Nat), a < 4294967296 → b < 4294967296 → bytesOk xs → regF a xs = regF b xs → a = b
  | [], _, _, _, _, _, h => h
  | x :: xs, a, b, ha, hb, ho, h => by
    have hx := ho.cons.1
    have hx' : x.toNat < 256 := by omega
    exact byteS_inj_r ha hb hx' (regF_inj xs _ _ (byteS_lt ha hx') (byteS_lt hb hx') ho.cons.2 h)
/-- the checksum -/
def crcF (xs : List Int) : Nat := 4294967295 ^^^ regF 4294967295 xs
theorem crcF_lt {xs : List Int} (h : bytesOk xs) : crcF xs < 4294967296 := xor_lt32 (by decide) (regF_lt xs _ (by decide) h)
theorem set_split (xs : List Int) (i : Nat) (h : i < xs.length) (y : Int) : xs.set i y = xs.take i ++ y :: xs.drop (i + 1) := List.set_eq_take_append_cons_drop.trans (if_pos h)
theorem get_split (xs : List Int) (i : Nat) (x : Int) (h : xs[i]? = some x) : xs = xs.take i ++ x :: xs.drop (i + 1) := by
  obtain ⟨hl, hx⟩ := List.getElem?_eq_some_iff.1 h
  have := List.take_append_drop i xs
  rw [List.drop_eq_getElem_cons hl, hx] at this
  exact this.symm
/-- another byte makes another checksum -/
theorem crcF_set {xs : List Int} (ho : bytesOk xs) (i : Nat) (x y : Int) (hx : xs[i]? = some x) (hy : 0 ≤ y ∧ y < 256) (hne : x ≠ y) : crcF (xs.set i y) ≠ crcF xs := by
  have hl : i < xs.length := (List.getElem?_eq_some_iff.1 hx).1
  have hxo : 0 ≤ x ∧ x < 256 := ho x (List.mem_of_getElem? hx)
  intro h
  have h1 := xor_cancel_l h
  rw [set_split xs i hl y] at h1
  rw [get_split xs i x hx] at h1
  have hlen : (xs.take i).length = i := by rw [List.length_take]; omega
  have e1 : (xs.take i ++ x :: xs.drop (i + 1)).take i = xs.take i := by rw [List.take_append_of_le_length (by omega), List.take_of_length_le (by omega)]
  have e2 : (xs.take i ++ x :: xs.drop (i + 1)).drop (i + 1) = xs.drop (i + 1) := by
    rw [List.drop_append, hlen, show i + 1 - i = 1 by omega, List.drop_of_length_le (by omega)]; rfl
  rw [e1, e2, regF_append, regF_append] at h1
  have hr : regF 4294967295 (xs.take i) < 4294967296 := regF_lt _ _ (by decide) (ho.take i)
  have h2 := regF_inj (xs.drop (i + 1)) _ _ (byteS_lt hr (by omega)) (byteS_lt hr (by omega)) (ho.drop _) h1
  have h3 := byteS_inj_x hr (by omega) (by omega) h2
  omega
/-- a number as four bytes -/
def wordL (n : Nat) : List Int := [((n / 16777216 % 256 : Nat) : Int), ((n / 65536 % 256 : Nat) : Int), ((n / 256 % 256 : Nat) : Int), ((n % 256 : Nat) : Int)]
theorem wordL_length (n : Nat) : (wordL n).length = 4 := rfl
theorem wordL_ok (n : Nat) : bytesOk (wordL n) := fun x hx => by
  simp only [wordL, List.mem_cons, List.not_mem_nil, or_false] at hx
  omega
/-- four bytes as a number -/
def rdW (xs : List Int) : Nat := (xs.getD 0 0).toNat * 16777216 + (xs.getD 1 0).toNat * 65536 + (xs.getD 2 0).toNat * 256 + (xs.getD 3 0).toNat
theorem four_sum (n : Nat) (h : n < 4294967296) : n / 16777216 % 256 * 16777216 + n / 65536 % 256 * 65536 + n / 256 % 256 * 256 + n % 256 = n := by omega
theorem rdW_wordL (n : Nat) (h : n < 4294967296) (ys : List Int) : rdW (wordL n ++ ys) = n := by
  simp only [rdW, wordL, List.cons_append, List.nil_append, List.getD_cons_zero, List.getD_cons_succ, Int.toNat_natCast]
  exact four_sum n h
theorem rdW_lt {xs : List Int} (h : bytesOk xs) : rdW xs < 4294967296 := by
  have hg : ∀ i, (xs.getD i 0).toNat < 256 := fun i => by
    rcases Nat.lt_or_ge i xs.length with hi | hi
    · have := h _ (List.getElem_mem hi)
      simp only [List.getD, List.getElem?_eq_getElem hi, Option.getD_some]
      omega
    · simp [List.getD, List.getElem?_eq_none hi]
  have h0 := hg 0
  have h1 := hg 1
  have h2 := hg 2
  have h3 := hg 3
  unfold rdW
  generalize (xs.getD 0 0).toNat = a at *
  generalize (xs.getD 1 0).toNat = b at *
  generalize (xs.getD 2 0).toNat = c at *
  generalize (xs.getD 3 0).toNat = d at *
  omega
theorem list4 (xs : List Int) (h : xs.length = 4) : ∃ a b c d, xs = [a, b, c, d] := by
  rcases xs with _ | ⟨a, _ | ⟨b, _ | ⟨c, _ | ⟨d, _ | ⟨e, l⟩⟩⟩⟩⟩
  · simp at h
  · simp at h
  · simp at h
  · simp at h
  · exact ⟨a, b, c, d, rfl⟩
  · simp at h
theorem four_inj (a b c d a' b' c' d' : Int) (h1 : 0 ≤ a ∧ a < 256) (h2 : 0 ≤ b ∧ b < 256) (h3 : 0 ≤ c ∧ c < 256) (h4 : 0 ≤ d ∧ d < 256) (h5 : 0 ≤ a' ∧ a' < 256) (h6 : 0 ≤ b' ∧ b' < 256) (h7 : 0 ≤ c' ∧ c' < 256) (h8 : 0 ≤ d' ∧ d' < 256)
    (h : a.toNat * 16777216 + b.toNat * 65536 + c.toNat * 256 + d.toNat = a'.toNat * 16777216 + b'.toNat * 65536 + c'.toNat * 256 + d'.toNat) : a = a' ∧ b = b' ∧ c = c' ∧ d = d' := by omega
/-- the same four bytes, if the numbers are the same -/
theorem rdW_inj {xs ys : List Int} (hx : bytesOk xs) (hy : bytesOk ys) (lx : xs.length = 4) (ly : ys.length = 4) (h : rdW xs = rdW ys) : xs = ys := by
  obtain ⟨a, b, c, d, rfl⟩ := list4 xs lx
  obtain ⟨a', b', c', d', rfl⟩ := list4 ys ly
  obtain ⟨e1, e2, e3, e4⟩ := four_inj a b c d a' b' c' d' (hx a (by simp)) (hx b (by simp)) (hx c (by simp)) (hx d (by simp)) (hy a' (by simp)) (hy b' (by simp)) (hy c' (by simp)) (hy d' (by simp)) h
  rw [e1, e2, e3, e4]
/-- the record of p -/
def recF (p : List Int) : List Int := wordL p.length ++ wordL (crcF (wordL p.length)) ++ p ++ wordL (crcF p)
theorem recF_length (p : List Int) : (recF p).length = p.length + 12 := by simp [recF, wordL_length]; omega
theorem recF_ok {p : List Int} (h : bytesOk p) : bytesOk (recF p) := (((wordL_ok _).append (wordL_ok _)).append h).append (wordL_ok _)
/-- what bytes begin with: an error, or a payload -/
def oneF (b : List Int) : Option Nat × List Int :=
  if b.length = 0 then (some 8, [])
  else if b.length < 8 then (some 12, [])
  else if rdW (b.drop 4) ≠ crcF (b.take 4) ∨ rdW b = 0 ∨ 1048576 < rdW b then (some 11, [])
  else if b.length < rdW b + 12 then (some 12, [])
  else if rdW (b.drop (rdW b + 8)) ≠ crcF ((b.take (rdW b + 8)).drop 8) then (some 11, [])
  else (none, (b.take (rdW b + 8)).drop 8)
/-- a record is read as its payload -/
theorem oneF_rec (p r : List Int) (hp : bytesOk p) (h1 : p.length ≠ 0) (h2 : p.length ≤ 1048576) : oneF (recF p ++ r) = (none, p) := by
  have hl : (recF p ++ r).length = p.length + 12 + r.length := by rw [List.length_append, recF_length]
  have e0 : recF p ++ r = wordL p.length ++ (wordL (crcF (wordL p.length)) ++ (p ++ (wordL (crcF p) ++ r))) := by simp [recF]
  have e1 : rdW (recF p ++ r) = p.length := by rw [e0]; exact rdW_wordL _ (by omega) _
  have e2 : (recF p ++ r).take 4 = wordL p.length := by rw [e0, List.take_append_of_le_length (by rw [wordL_length]; omega), List.take_of_length_le (by rw [wordL_length]; omega)]
  have e3 : rdW ((recF p ++ r).drop 4) = crcF (wordL p.length) := by
    rw [e0, List.drop_append, wordL_length, Nat.sub_self, List.drop_of_length_le (by rw [wordL_length]; omega), List.nil_append, List.drop_zero]
    exact rdW_wordL _ (crcF_lt (wordL_ok _)) _
  have e4 : (recF p ++ r).drop 8 = p ++ (wordL (crcF p) ++ r) := by
    rw [e0, ← List.append_assoc, List.drop_append, List.length_append, wordL_length, wordL_length, List.drop_of_length_le (by simp [wordL_length])]; simp
  have e5 : ((recF p ++ r).take (p.length + 8)).drop 8 = p := by
    rw [List.drop_take, e4, Nat.add_sub_cancel, List.take_append_of_le_length (by omega), List.take_of_length_le (by omega)]
  have e6 : rdW ((recF p ++ r).drop (p.length + 8)) = crcF p := by
    rw [Nat.add_comm, ← List.drop_drop, e4, List.drop_append, Nat.sub_self, List.drop_of_length_le (by omega), List.nil_append, List.drop_zero]
    exact rdW_wordL _ (crcF_lt hp) _
  unfold oneF
  rw [if_neg (by omega), if_neg (by omega), e1, e2, e3, if_neg (by omega), if_neg (by omega), e5, e6, if_neg (by simp)]
end Go.Proofs.YtanekacpalpcbaaGreatDoor
namespace Go.Proofs.YtanekacpalpcbaaGreatDoor
set_option linter.unusedVariables false
set_option linter.unusedSimpArgs false
open Go.RowKit
set_option maxRecDepth 100000
/-- the table of package frame, as it is laid -/
def NibAt (w : World) : Prop := ∀ i, i < 16 → w.cell? ⟨3, i, none⟩ = some (.int .u32 ((tabN i : Nat) : Int))
theorem NibAt.lt {w : World} (h : NibAt w) : 3 < w.heap.size := World.block_lt_of_cell? w _ (h 0 (by decide))
theorem NibAt.below {w w' : World} {B : Nat} (h : NibAt w) (hb : Below B w w') (hB : 3 < B) : NibAt w' := fun i hi => (hb.cell (p := ⟨3, i, none⟩) hB).trans (h i hi)
theorem NibAt.only {p : Nat} {w w' : World} (h : NibAt w) (ho : Only p w w') (hp : 3 < p) : NibAt w' := fun i hi => ho.cell (h i hi) (show 3 ≠ p by omega)
theorem BytesIn.cell {w : World} {a : Option Addr} {n cap : Nat} {xs : List Int} (h : BytesIn w (.slice a n cap) xs) : n = xs.length ∧ (xs = [] ∨ ∃ ab ao, a = some ⟨ab, ao, none⟩ ∧ ∀ i x, xs[i]? = some x → w.cell? ⟨ab, ao + i, none⟩ = some (.int .u8 x)) := by
  obtain ⟨a', c', e, _, _, hx⟩ := h
  injection e with e1 e2 e3
  subst e1 e2
  exact ⟨rfl, hx⟩
theorem regF_snoc (r : Nat) (xs : List Int) (x : Int) : regF r (xs ++ [x]) = byteS (regF r xs) x.toNat := by rw [regF_append]; rfl
theorem take_snoc {xs : List Int} {k : Nat} {x : Int} (h : xs[k]? = some x) : xs.take (k + 1) = xs.take k ++ [x] := by
  rw [List.take_add_one, h]; rfl
theorem nib_and (m : Nat) (h : m < 4294967296) : bits .and .u32 (m : Int) 15 = ((m % 16 : Nat) : Int) := by
  have := u32_and_nat m 15 h (by decide)
  rw [show m &&& 15 = m % 16 from Nat.and_two_pow_sub_one_eq_mod m 4] at this
  exact this
theorem nib_not (m : Nat) (h : m < 4294967296) : bits .xor .u32 IntKind.u32.max (m : Int) = ((4294967295 ^^^ m : Nat) : Int) := u32_xor_nat 4294967295 m (by decide) h
set_option maxHeartbeats 1000000 in
theorem sumc_any (y : Value) (ys : List Int) (w : World) (hT : NibAt w) (hy : BytesIn w y ys) (ho : bytesOk ys) (hl : ys.length ≤ 140737488355328) :
    Calls Tryz.prog 203 #[y] w fun e w' => e = .returned (.int .u32 ((crcF ys : Nat) : Int)) ∧ w = w' := by
  have HY := Lib.hid hy
  have HT := Lib.hid hT
  have HO := Lib.hid ho
  obtain ⟨a, c, rfl, hc, hm, hx⟩ := hy
  have HX := Lib.hid hx
  clear hT ho hx hm hc
  go_enter Tryz.func203, Tryz.ntmps203
  go_wp2
  go_loop [3, 8] (fun r i => ∃ k : Nat, k ≤ ys.length ∧ i = .int .i64 k ∧ r = .int .u32 ((regF 4294967295 (ys.take k) : Nat) : Int)) (fun _ i => ys.length - (intOf i).toNat)
  case atStart => exact ⟨0, Nat.zero_le _, rfl, rfl⟩
  case round =>
    obtain ⟨k, hk, rfl, rfl⟩ := hrel
    by_cases hlt : k < ys.length
    · obtain ⟨x, hxk⟩ : ∃ x, ys[k]? = some x := ⟨_, List.getElem?_eq_getElem hlt⟩
      have hxo := HO.out x (List.mem_of_getElem? hxk)
      rcases HX.out with h0 | ⟨ab, ao, rfl, hx⟩
      · rw [h0] at hlt; simp at hlt
      · have hcell := hx k x hxk
        have HS := Lib.hid (show regF 4294967295 (ys.take (k + 1)) = byteS (regF 4294967295 (ys.take k)) x.toNat by rw [take_snoc hxk, regF_snoc])
        have hr := regF_lt (ys.take k) 4294967295 (by decide) (HO.out.take k)
        obtain ⟨z, rfl⟩ : ∃ z : Nat, x = (z : Int) := ⟨x.toNat, by omega⟩
        have hz : z < 256 := by omega
        clear hx hxo hxk
        generalize regF 4294967295 (ys.take k) = r at *
        have e1 := u32_xor_nat r z hr (by omega)
        have l1 : r ^^^ z < 4294967296 := xor_lt32 hr (by omega)
        have HB := Lib.hid (show byteS r z = nib (nib (r ^^^ z)) from rfl)
        generalize r ^^^ z = m at *
        have e2 := nib_and m l1
        have e3 := u32_xor_nat (m / 16) (tabN (m % 16)) (by omega) (tabN_lt _ (by omega))
        have l3 : nib m < 4294967296 := nib_lt l1
        have HN := Lib.hid (show nib m = m / 16 ^^^ tabN (m % 16) from rfl)
        rw [← HN.out] at e3
        have c2 := HT.out (m % 16) (by omega)
        have b2 : m % 16 < 16 := by omega
        generalize nib m = m2 at *
        have e4 := nib_and m2 l3
        have e5 := u32_xor_nat (m2 / 16) (tabN (m2 % 16)) (by omega) (tabN_lt _ (by omega))
        have c4 := HT.out (m2 % 16) (by omega)
        have b4 : m2 % 16 < 16 := by omega
        have HM := Lib.hid (show nib m2 = m2 / 16 ^^^ tabN (m2 % 16) from rfl)
        generalize m % 16 = p at *
        generalize m2 % 16 = q at *
        clear HN
        rw [show ((m / 16 : Nat) : Int) = (m : Int) / 16 by omega] at e3
        rw [show ((m2 / 16 : Nat) : Int) = (m2 : Int) / 16 by omega] at e5
        go_wp2
        go_round
        case rel => exact ⟨k + 1, by omega, by go_num, by rw [HS.out, Int.toNat_natCast, HB.out, ← HM.out]⟩
        case measure => simp [intOf]; omega
    · have HK := Lib.hid (show k = ys.length by omega)
      have hr := regF_lt (ys.take k) 4294967295 (by decide) (HO.out.take k)
      have hn := nib_not _ hr
      have HC := Lib.hid (show crcF ys = 4294967295 ^^^ regF 4294967295 (ys.take k) by rw [HK.out, List.take_length]; rfl)
      rw [← HC.out] at hn
      go_wp2
      go_ret
      exact ⟨rfl, rfl⟩
end Go.Proofs.YtanekacpalpcbaaGreatDoor
namespace Go.Proofs.YtanekacpalpcbaaGreatDoor
set_option linter.unusedVariables false
set_option linter.unusedSimpArgs false
open Go.RowKit
set_option maxRecDepth 100000
theorem or_add (a b i : Nat) (h : b < 2 ^ i) : a * 2 ^ i ||| b = a * 2 ^ i + b := by
  rw [Nat.mul_comm]; exact (Nat.two_pow_add_eq_or_of_lt h a).symm
theorem or4 (a b c d : Nat) (ha : a < 256) (hb : b < 256) (hc : c < 256) (hd : d < 256) :
    bits .or .u32 (bits .or .u32 (bits .or .u32 ((a : Int) * 16777216) ((b : Int) * 65536)) ((c : Int) * 256)) (d : Int) = ((a * 16777216 + b * 65536 + c * 256 + d : Nat) : Int) := by
  have e1 := u32_or_nat (a * 16777216) (b * 65536) (by omega) (by omega)
  have o1 := or_add a (b * 65536) 24 (by omega)
  rw [show (2 : Nat) ^ 24 = 16777216 from rfl] at o1
  rw [o1] at e1
  have e2 := u32_or_nat (a * 16777216 + b * 65536) (c * 256) (by omega) (by omega)
  have o2 := or_add (a * 256 + b) (c * 256) 16 (by omega)
  rw [show (2 : Nat) ^ 16 = 65536 from rfl, show (a * 256 + b) * 65536 = a * 16777216 + b * 65536 by omega] at o2
  rw [o2] at e2
  have e3 := u32_or_nat (a * 16777216 + b * 65536 + c * 256) d (by omega) (by omega)
  have o3 := or_add (a * 65536 + b * 256 + c) d 8 (by omega)
  rw [show (2 : Nat) ^ 8 = 256 from rfl, show (a * 65536 + b * 256 + c) * 256 = a * 16777216 + b * 65536 + c * 256 by omega] at o3
  rw [o3] at e3
  rw [show ((a : Int) * 16777216) = ((a * 16777216 : Nat) : Int) by omega, show ((b : Int) * 65536) = ((b * 65536 : Nat) : Int) by omega, show ((c : Int) * 256) = ((c * 256 : Nat) : Int) by omega, e1, e2, e3]
set_option maxHeartbeats 1000000 in
theorem readw_any (y : Value) (ys : List Int) (w : World) (hy : BytesIn w y ys) (ho : bytesOk ys) (hl : 4 ≤ ys.length) :
    Calls Tryz.prog 236 #[y] w fun e w' => e = .returned (.int .u32 ((rdW ys : Nat) : Int)) ∧ ∃ n, w' = w.drewN n := by
  obtain ⟨a, c, rfl, hc, hm, hx⟩ := hy
  rcases hx with h0 | ⟨ab, ao, rfl, hx⟩
  · rw [h0] at hl; simp at hl
  have g : ∀ i, i < ys.length → ∃ z : Nat, z < 256 ∧ ys.getD i 0 = (z : Int) ∧ w.cell? ⟨ab, ao + i, none⟩ = some (.int .u8 (z : Int)) := fun i hi => by
    have h1 := ho _ (List.getElem_mem hi)
    refine ⟨ys[i].toNat, by omega, by simp [List.getD, List.getElem?_eq_getElem hi]; omega, ?_⟩
    rw [show ((ys[i].toNat : Nat) : Int) = ys[i] by omega]
    exact hx i _ (List.getElem?_eq_getElem hi)
  obtain ⟨z0, b0, g0, c0⟩ := g 0 (by omega)
  obtain ⟨z1, b1, g1, c1⟩ := g 1 (by omega)
  obtain ⟨z2, b2, g2, c2⟩ := g 2 (by omega)
  obtain ⟨z3, b3, g3, c3⟩ := g 3 (by omega)
  have HR := Lib.hid (show rdW ys = z0 * 16777216 + z1 * 65536 + z2 * 256 + z3 by unfold rdW; rw [g0, g1, g2, g3]; rfl)
  have q0 : (0 : Int) < ys.length := by omega
  have q1 : (1 : Int) < ys.length := by omega
  have q2 : (2 : Int) < ys.length := by omega
  have q3 : (3 : Int) < ys.length := by omega
  rw [Nat.add_zero] at c0
  have m0 : 0 < ys.length := by omega
  have m1 : 1 < ys.length := by omega
  have m2 : 2 < ys.length := by omega
  have m3 : 3 < ys.length := by omega
  clear g g0 g1 g2 g3 hx ho hc hm
  go_enter Tryz.func236, Tryz.ntmps236
  go_wp2
  go_quiet (fail)
  go_wp2
  go_ret
  refine ⟨?_, _, rfl⟩
  rw [HR.out, ← or4 z0 z1 z2 z3 b0 b1 b2 b3]
  rfl
theorem lit4_in (w : World) (a b c d : Int) : BytesIn (w.alloc (.cells #[.int .u8 a, .int .u8 b, .int .u8 c, .int .u8 d] 5)) (.slice (some ⟨w.heap.size, 0, none⟩) 4 4) [a, b, c, d] := by
  refine ⟨_, _, rfl, by simp, by simp [maxLen], .inr ⟨_, _, rfl, fun i x hi => ?_⟩⟩
  rw [Nat.zero_add, cell_of_row _ _ _ _ _ _ (heap_alloc_new w _)]
  match i, hi with
  | 0, hi => cases hi; rfl
  | 1, hi => cases hi; rfl
  | 2, hi => cases hi; rfl
  | 3, hi => cases hi; rfl
theorem grown_alloc {w w' : World} {o : Obj} {r : Option Nat} (h : (w.alloc o).grownBy w' r) : w.grownBy w' r :=
  ⟨h.os, h.tape, h.output, Nat.le_trans (by simp) h.size, fun k hk hne => (h.block k (by simp; omega) hne).trans (Below.heap_alloc w o k hk)⟩
theorem OwnOf.alloc {v v' : Value} {w : World} {o : Obj} (h : OwnOf v v' (w.alloc o)) : OwnOf v v' w := by
  rcases h with h | ⟨k, h1, h2⟩
  · exact .inl h
  · exact .inr ⟨k, h1, by simp at h2; omega⟩
theorem wordI (m : Nat) (h : m < 4294967296) : [(m : Int) / 16777216, (m : Int) / 65536 % 256, (m : Int) / 256 % 256, (m : Int) % 256] = wordL m := by
  unfold wordL
  rw [Nat.mod_eq_of_lt (show m / 16777216 < 256 by omega), Int.natCast_ediv, Int.natCast_emod, Int.natCast_ediv, Int.natCast_emod, Int.natCast_ediv, Int.natCast_emod]
  rfl
set_option maxHeartbeats 1000000 in
theorem appw_any (v : Value) (base n m : Nat) (vs : List Value) (w : World) (hown : w.ownsRow base 5 1 v n vs) (hm : m < 4294967296) (hl : n + 4 ≤ 140737488355328) (hb : base ≤ w.heap.size) :
    Calls Tryz.prog 202 #[v, .int .u32 (m : Int)] w fun e w' => ∃ v', e = .returned v' ∧ w'.ownsRow base 5 1 v' (n + 4) (vs ++ byteVals (wordL m)) ∧ w.grownBy w' v.ownBlock ∧ OwnOf v v' w := by
  have HO := Lib.hid hown
  have HL := Lib.hid hl
  have HB := Lib.hid hb
  clear hl hb hown
  go_enter Tryz.func202, Tryz.ntmps202
  go_wp2_with (at_builtin; refine wpList_append_bytes rfl (.tmp 5) (.tmp 17) rfl rfl base v n vs rfl (HO.out.alloc _) _ _ rfl (lit4_in _ _ _ _ _) HL.out (Nat.le_trans HB.out (by simp)) ?_; intro v' w1 ho hg hof; have H := Lib.hid (And.intro ho (And.intro (grown_alloc hg) hof.alloc)); clear ho hg hof)
  go_ret
  obtain ⟨h1, h2, h3⟩ := H.out
  rw [wordI m hm] at h1
  exact ⟨_, rfl, h1, h2, h3⟩
end Go.Proofs.YtanekacpalpcbaaGreatDoor
