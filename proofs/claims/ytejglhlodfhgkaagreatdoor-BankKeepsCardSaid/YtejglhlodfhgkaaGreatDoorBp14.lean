/- Part 14 of the proof. -/
import Derived.Test.YtejglhlodfhgkaaGreatDoorBp6
import Derived.Test.YtejglhlodfhgkaaGreatDoorBp12
import Derived.Test.YtejglhlodfhgkaaGreatDoorBp13
namespace Go.Proofs.YtejglhlodfhgkaaGreatDoor
set_option linter.unusedVariables false
set_option linter.unusedSimpArgs false
open Go.RowKit
set_option maxRecDepth 100000
set_option linter.unusedSimpArgs false
set_option linter.unusedVariables false
abbrev NmIn (w : World) (v : Value) (l : List ByteArray) : Prop := RowsIn 1 (fun s : ByteArray => [.string s]) w v l
def ckN (l : List ByteArray) : Option Nat := if l.all bkN then none else some 42
theorem ckN_bad {l : List ByteArray} {k : Nat} {s : ByteArray} (hs : l[k]? = some s) (h : bkN s = false) : ckN l = some 42 := by
  unfold ckN
  rw [show l.all bkN = false from by rw [List.all_eq_false]; exact ⟨s, List.mem_of_getElem? hs, by rw [h]; simp⟩]
  rfl
theorem ckN_ok {l : List ByteArray} (h : ∀ i s, i < l.length → l[i]? = some s → bkN s = true) : ckN l = none := by
  unfold ckN
  rw [if_pos]
  rw [List.all_eq_true]
  intro s hs
  obtain ⟨i, hi, e⟩ := List.getElem_of_mem hs
  exact h i s hi (by rw [List.getElem?_eq_getElem hi, e])
def BkK (l : List ByteArray) (w : World) (k : Nat) (wr : World) : Prop := Below w.heap.size w wr ∧ ∀ i s, i < k → l[i]? = some s → bkN s = true
set_option maxHeartbeats 2000000 in
theorem bkcn_any (l : List ByteArray) (v : Value) (w : World) (hv : NmIn w v l) (hs : ∀ s ∈ l, s.size ≤ 140737488351232) : Calls Tryz.prog 90 #[v] w fun e w' => e = .returned (errV (ckN l)) ∧ Below w.heap.size w w' := by
  obtain ⟨a, cap, rfl, -, hmax⟩ := hv.len
  have HV := Lib.hid hv
  obtain ⟨E, hE⟩ : ∃ E, E = ckN l := ⟨_, rfl⟩
  have HE := Lib.hid hE
  obtain ⟨n, hn⟩ : ∃ n, n = l.length := ⟨_, rfl⟩
  have HN := Lib.hid hn
  have HNM := Lib.hid (fun (i : Nat) (x : ByteArray) (h : l[i]? = some x) (W : World) => bkname_any x W (hs x (List.mem_of_getElem? h)))
  have hnI : (n : Int) ≤ 9223372036854775807 := by unfold maxLen at hmax; omega
  rw [← hn] at HV ⊢
  rw [← hE]
  clear hv hE hn hmax hs
  go_enter Tryz.func90, Tryz.ntmps90
  go_upto_region 2 with (fail)
  have HR0 := Lib.hid (show BkK l w 0 w from ⟨Below.refl _ _, fun i s h => by omega⟩)
  go_wp2_with (fail)
  go_loopw [7] (fun v wr => ∃ k : Nat, k ≤ n ∧ v = .int .i64 (k : Int) ∧ Hid (BkK l w k wr)) (fun v _ => n - (intOf v).toNat)
  case atStart => exact ⟨0, Nat.zero_le _, rfl, HR0⟩
  case round =>
    clear HR0
    obtain ⟨k, hkn, rfl, HR⟩ := hrel
    by_cases hlt : k < n
    · have hltI : (k : Int) < (n : Int) := by omega
      obtain ⟨x, hx⟩ : ∃ x, l[k]? = some x := ⟨l[k]'(by have := HN.out; omega), List.getElem?_eq_getElem _⟩
      have hv := HV.out.below HR.out.1
      rw [HN.out] at hv
      obtain ⟨ab, ao, rfl, hab, hra⟩ := hv.at hx
      have cs : wr.cell? ⟨ab, ao + k, none⟩ = some (.string x) := by have := hra 0 _ rfl; rw [Nat.mul_one] at this; exact this
      have HX := Lib.hid hx
      have HNA := Lib.hid (HNM.out k x hx)
      obtain ⟨b, hb⟩ : ∃ b, b = bkN x := ⟨_, rfl⟩
      have HBX := Lib.hid hb
      rw [← hb] at HNA
      clear hv hab hra hx hb
      cases b with
      | false =>
        have HF := Lib.hid (show E = some 42 from by rw [HE.out, ckN_bad HX.out HBX.out.symm])
        go_wp2_with (go_at_call 166; (with_reducible refine (HNA.out _).mono ?_); rintro e w2 ⟨rfl, hb⟩; have HB := Lib.hid (HR.out.1.trans (hb.mono HR.out.1.size)); clear hb)
        go_ret
        exact ⟨by rw [HF.out]; rfl, HB.out⟩
      | true =>
        go_wp2_with (go_at_call 166; (with_reducible refine (HNA.out _).mono ?_); rintro e w2 ⟨rfl, hb⟩; have HB := Lib.hid (HR.out.1.trans (hb.mono HR.out.1.size)); clear hb)
        go_roundw
        case rel => exact ⟨k + 1, by omega, by go_num, Lib.hid ⟨HB.out, fun i s hi hs => by
          by_cases e : i = k
          · subst e; rw [HX.out] at hs; cases hs; exact HBX.out.symm
          · exact HR.out.2 i s (by omega) hs⟩⟩
        case measure => simp [intOf]; omega
    · obtain rfl : k = n := by omega
      have HF := Lib.hid (show E = none from by rw [HE.out, ckN_ok (fun i s hi hs => HR.out.2 i s (by rw [HN.out]; exact hi) hs)])
      go_wp2_with (fail)
      go_ret
      exact ⟨by rw [HF.out]; rfl, HR.out.1⟩
def ckC (d : ByteArray) (l : List ByteArray) : Option Nat := match ckN l with
  | some e => some e
  | none => chkD d
theorem cn_cells16 {w : World} {q : Nat} {d : ByteArray} {a : Int} {T : TypeId} (h : w.heap[q]? = some (.cells #[.string d, .int .i64 a] T (0, 0))) : w.cell? ⟨q, 0, none⟩ = some (.string d) ∧ w.cell? ⟨q, 1, none⟩ = some (.int .i64 a) := ⟨by rw [cell_of_row _ _ _ _ _ _ h]; rfl, by rw [cell_of_row _ _ _ _ _ _ h]; rfl⟩
theorem bkck_any (d : ByteArray) (a : Int) (l : List ByteArray) (v : Value) (w : World) (hv : NmIn w v l) (hs : ∀ s ∈ l, s.size ≤ 140737488351232) (hd : d.size ≤ 140737488351232) : Calls Tryz.prog 112 #[.agg #[.string d, .int .i64 a], v] w fun e w' => e = .returned (errV (ckC d l)) ∧ Below w.heap.size w w' := by
  have HB := Lib.hid (below_alloc w (.cells #[.string d, .int .i64 a] 23))
  have HQ := Lib.hid (heap_alloc_new w (.cells #[.string d, .int .i64 a] 23))
  have HN := Lib.hid (bkcn_any l v _ (hv.below HB.out) hs)
  have HD := Lib.hid (fun w => ccheck_any d w hd)
  have HE := Lib.hid (show ckC d l = (match ckN l with
    | some e => some e
    | none => chkD d) from rfl)
  obtain ⟨E, hE⟩ : ∃ E, E = ckC d l := ⟨_, rfl⟩
  obtain ⟨E1, hE1⟩ : ∃ E, E = ckN l := ⟨_, rfl⟩
  obtain ⟨E2, hE2⟩ : ∃ E, E = chkD d := ⟨_, rfl⟩
  rw [← hE, ← hE1, ← hE2] at HE
  rw [← hE1] at HN
  rw [← hE2] at HD
  rw [← hE]
  clear hE hE1 hE2 hv hs hd
  cases E1 with
  | some e =>
    have HF := Lib.hid (show E = some e from HE.out)
    simp only [errV] at HN
    go_enter Tryz.func112, Tryz.ntmps112
    go_wp2_with (go_at_call 90; (with_reducible refine HN.out.mono ?_); rintro e w2 ⟨rfl, hb⟩; replace HB := Lib.hid (HB.out.trans (hb.mono HB.out.size)); clear hb)
    go_ret
    exact ⟨by rw [HF.out]; rfl, HB.out⟩
  | none =>
    have HF := Lib.hid (show E = E2 from HE.out)
    simp only [errV] at HN
    go_enter Tryz.func112, Tryz.ntmps112
    go_wp2_with (first
      | (go_at_call 90; (with_reducible refine HN.out.mono ?_); rintro e w2 ⟨rfl, hb⟩; have HQ2 := Lib.hid ((hb.block _ (bkT_lt HQ.out)).trans HQ.out); replace HB := Lib.hid (HB.out.trans (hb.mono HB.out.size)); clear hb; have k0 := (cn_cells16 HQ2.out).1)
      | (go_at_call 129; (with_reducible refine (HD.out _).mono ?_); rintro e w3 ⟨rfl, hb⟩; replace HB := Lib.hid (HB.out.trans (hb.mono HB.out.size)); clear hb))
    go_ret
    exact ⟨by rw [HF.out]; rfl, HB.out⟩
theorem vou_size16 {s : ByteArray} (h : vouB s = true) : s.size = 68 := by
  unfold vouB at h
  rw [Bool.and_eq_true] at h
  have h1 := h.1
  have h2 := h.2
  unfold parR at h2
  split at h2
  · rename_i h3
    have hr : (restS s).size = s.size - 4 := by
      unfold restS Lib.trimPrefix
      rw [if_pos (show Lib.hasPrefix s.data.toList [105, 98, 99, 47] = true from h1)]
      show ((s.data.toList.drop 4).toArray).size = _
      rw [List.size_toArray, List.length_drop, Array.length_toList]
      rfl
    rw [numsOf_length, hr] at h3
    omega
  · simp at h2
/-- the value of a key in a tree that grew is not long -/
theorem GT.val {N n : Nat} {t : Option AvT} (h : GT N n t) (k : ByteArray) : (strO (getO t k)).size ≤ N := by
  cases hg : getO t k with
  | none => show 0 ≤ N; omega
  | some v =>
    cases t with
    | none => cases hg
    | some t =>
      have := h.size (k, v) ((get_mem k t h.srt v).1 hg)
      show v.size ≤ N
      simp only at this
      omega
theorem bkbalance_any (va : Value) (t : Option AvT) (n d : ByteArray) (w : World) (ht : TreeO w va t) (hs : (strO (getO t (balK n d))).size ≤ 140737488351232) (hz : n.size + d.size ≤ 281474976710656) : Calls Tryz.prog 36 #[va, .string n, .string d] w fun e w' => e = .returned (.int .i64 (bkV t (balK n d))) ∧ Below w.heap.size w w' := by
  have HK := Lib.hid (fun w => bkbal_any n d w hz)
  have HN := Lib.hid (bknum_any va t (balK n d) w ht hs)
  obtain ⟨k, hk⟩ : ∃ k, k = balK n d := ⟨_, rfl⟩
  obtain ⟨r, hr⟩ : ∃ r, r = bkV t k := ⟨_, rfl⟩
  rw [← hk] at HK
  rw [← hk, ← hr] at HN
  rw [← hk, ← hr]
  clear hk hr ht hs hz
  go_enter Tryz.func36, Tryz.ntmps36
  go_wp2_with (first
    | (go_at_call 98; (with_reducible refine (HK.out _).mono ?_); rintro e w1 ⟨rfl, hw⟩; obtain rfl := hw.symm; clear hw)
    | (go_at_call 97; (with_reducible refine HN.out.mono ?_); rintro e w2 ⟨rfl, hb⟩; have HB := Lib.hid hb; clear hb))
  go_ret
  exact ⟨rfl, HB.out⟩
theorem bksupply_any (va : Value) (t : Option AvT) (d : ByteArray) (w : World) (ht : TreeO w va t) (hs : (strO (getO t (supK d))).size ≤ 140737488351232) (hz : d.size ≤ 281474976710656) : Calls Tryz.prog 38 #[va, .string d] w fun e w' => e = .returned (.int .i64 (bkV t (supK d))) ∧ Below w.heap.size w w' := by
  have HK := Lib.hid (fun w => bksup_any d w hz)
  have HN := Lib.hid (bknum_any va t (supK d) w ht hs)
  obtain ⟨k, hk⟩ : ∃ k, k = supK d := ⟨_, rfl⟩
  obtain ⟨r, hr⟩ : ∃ r, r = bkV t k := ⟨_, rfl⟩
  rw [← hk] at HK
  rw [← hk, ← hr] at HN
  rw [← hk, ← hr]
  clear hk hr ht hs hz
  go_enter Tryz.func38, Tryz.ntmps38
  go_wp2_with (first
    | (go_at_call 100; (with_reducible refine (HK.out _).mono ?_); rintro e w1 ⟨rfl, hw⟩; obtain rfl := hw.symm; clear hw)
    | (go_at_call 97; (with_reducible refine HN.out.mono ?_); rintro e w2 ⟨rfl, hb⟩; have HB := Lib.hid hb; clear hb))
  go_ret
  exact ⟨rfl, HB.out⟩
theorem info16S : (Tryz.prog.info? 9).map (fun i => (i.zero, i.size, i.bytes)) = some (some (.string { data := #[] }), 1, 16) := by kernel_rfl
theorem fill16_1 (s : ByteArray) : Instr.fill (fun i => some (i * 1, 1)) ((Array.range (1 * 1)).map ((Value.string { data := #[] }).cells[· % (Value.string { data := #[] }).cells.size]!)) [(0, .string s)] = some #[.string s] := by kernel_rfl
theorem fill16_2 (s t : ByteArray) : Instr.fill (fun i => some (i * 1, 1)) ((Array.range (2 * 1)).map ((Value.string { data := #[] }).cells[· % (Value.string { data := #[] }).cells.size]!)) [(0, .string s), (1, .string t)] = some #[.string s, .string t] := by kernel_rfl
theorem wpList_nm1 {w : World} {ops : Array Oper} {rest : List Oper} {o : Oper} {a : Act} {Q : Exit → Act → World → Prop} (hgd : o.guard = none) (x : Operand) (ho : o.op = .buildSlice 108 1 #[(0, x)]) (s : ByteArray) (hx : a.eval x = .string s)
    (h : wpList Tryz.prog ops Q rest (a.put o.dst (.slice (some ⟨w.heap.size, 0, none⟩) 1 1)) (w.alloc (.cells #[.string s] 9))) : wpList Tryz.prog ops Q (o :: rest) a w := by
  refine wpList_plain hgd fun K hK => ?_
  obtain ⟨i0, hi, hz0, hz1, hz2⟩ := info_parts info16S
  refine wp_buildSlice 108 9 1 #[(0, x)] ho #[.string s] i0 _ Tryz.underlying108 hi hz0 (by rw [hz1]; decide) (by rw [hz1]; decide) ?_ (hK _ _ h)
  rw [hz1]
  simpa [hx] using fill16_1 s
theorem wpList_nm2 {w : World} {ops : Array Oper} {rest : List Oper} {o : Oper} {a : Act} {Q : Exit → Act → World → Prop} (hgd : o.guard = none) (x y : Operand) (ho : o.op = .buildSlice 108 2 #[(0, x), (1, y)]) (s t : ByteArray) (hx : a.eval x = .string s) (hy : a.eval y = .string t)
    (h : wpList Tryz.prog ops Q rest (a.put o.dst (.slice (some ⟨w.heap.size, 0, none⟩) 2 2)) (w.alloc (.cells #[.string s, .string t] 9))) : wpList Tryz.prog ops Q (o :: rest) a w := by
  refine wpList_plain hgd fun K hK => ?_
  obtain ⟨i0, hi, hz0, hz1, hz2⟩ := info_parts info16S
  refine wp_buildSlice 108 9 2 #[(0, x), (1, y)] ho #[.string s, .string t] i0 _ Tryz.underlying108 hi hz0 (by rw [hz1]; decide) (by rw [hz1]; decide) ?_ (hK _ _ h)
  rw [hz1]
  simpa [hx, hy] using fill16_2 s t
theorem nm1_in (w : World) (s : ByteArray) : NmIn (w.alloc (.cells #[.string s] 9)) (.slice (some ⟨w.heap.size, 0, none⟩) 1 1) [s] := by
  refine ⟨_, _, rfl, Nat.le_refl _, by unfold maxLen; simp, .inr ⟨_, 0, rfl, by simp, fun i x hi j u hu => ?_⟩⟩
  rw [Nat.zero_add, cell_of_row _ _ _ _ _ _ (heap_alloc_new w _)]
  match i, hi with
  | 0, hi => cases hi; match j, hu with
    | 0, hu => exact hu
theorem nm2_in (w : World) (s t : ByteArray) : NmIn (w.alloc (.cells #[.string s, .string t] 9)) (.slice (some ⟨w.heap.size, 0, none⟩) 2 2) [s, t] := by
  refine ⟨_, _, rfl, Nat.le_refl _, by unfold maxLen; simp, .inr ⟨_, 0, rfl, by simp, fun i x hi j u hu => ?_⟩⟩
  rw [Nat.zero_add, cell_of_row _ _ _ _ _ _ (heap_alloc_new w _)]
  match i, hi with
  | 0, hi => cases hi; match j, hu with
    | 0, hu => exact hu
  | 1, hi => cases hi; match j, hu with
    | 0, hu => exact hu
theorem ckN_one {n : ByteArray} (h : ckN [n] = none) : n.size ≤ 64 := by
  unfold ckN at h
  split at h
  · rename_i h1
    simp only [List.all_cons, List.all_nil, Bool.and_true] at h1
    unfold bkN at h1
    rw [Bool.and_eq_true, decide_eq_true_eq] at h1
    exact h1.1.2
  · cases h
theorem ckN_two {n m : ByteArray} (h : ckN [n, m] = none) : n.size ≤ 64 ∧ m.size ≤ 64 := by
  unfold ckN at h
  split at h
  · rename_i h1
    simp only [List.all_cons, List.all_nil, Bool.and_true, Bool.and_eq_true] at h1
    obtain ⟨h1, h2⟩ := h1
    unfold bkN at h1 h2
    rw [Bool.and_eq_true, decide_eq_true_eq] at h1 h2
    exact ⟨h1.1.2, h2.1.2⟩
  · cases h
theorem chkD_size {d : ByteArray} (h : chkD d = none) : d.size ≤ 68 := by
  unfold chkD at h
  split at h
  · rename_i h1
    rw [Bool.or_eq_true] at h1
    rcases h1 with h1 | h1
    · unfold baseB at h1
      rw [Bool.and_eq_true, decide_eq_true_eq] at h1
      omega
    · have := (vou_size16 h1); omega
  · cases h
theorem ckC_parts {d : ByteArray} {l : List ByteArray} (h : ckC d l = none) : ckN l = none ∧ chkD d = none := by
  unfold ckC at h
  cases hl : ckN l with
  | some e => rw [hl] at h; cases h
  | none => rw [hl] at h; exact ⟨rfl, h⟩
def chgQ (E : Option Nat) (T : Option AvT) : Option AvT := match E with
  | none => T
  | some _ => none
theorem chgO_Q (E : Option Nat) (t : Option AvT) (k : ByteArray) (n : Int) : chgO E t k n = chgQ E (chgT t k n) := by cases E <;> rfl
def st2E (c E1 E2 : Option Nat) : Option Nat := match c with
  | some e => some e
  | none => match E1 with
    | some e => some e
    | none => E2
def st2T (c E1 : Option Nat) (T2 : Option AvT) : Option AvT := match c with
  | some _ => none
  | none => match E1 with
    | some _ => none
    | none => T2
/-- what Mint, Burn and Send answer: the checks, then two changes -/
structure StpR where
  e : Option Nat
  t : Option AvT
def stp2 (c : Option Nat) (t : Option AvT) (k1 k2 : ByteArray) (E1 E2 : Int → Int → Option Nat) (R1 R2 : Int → Int → Int) (a : Int) : StpR :=
  ⟨st2E c (E1 (bkV t k1) a) (E2 (bkV (chgT t k1 (R1 (bkV t k1) a)) k2) a), st2T c (E1 (bkV t k1) a) (chgO (E2 (bkV (chgT t k1 (R1 (bkV t k1) a)) k2) a) (chgT t k1 (R1 (bkV t k1) a)) k2 (R2 (bkV (chgT t k1 (R1 (bkV t k1) a)) k2) a))⟩
def mintR (t : Option AvT) (n d : ByteArray) (a : Int) : StpR := stp2 (ckC d [n]) t (supK d) (balK n d) addE addE addR addR a
def burnR (t : Option AvT) (n d : ByteArray) (a : Int) : StpR := stp2 (ckC d [n]) t (balK n d) (supK d) subE subE subR subR a
def sendR (t : Option AvT) (n m d : ByteArray) (a : Int) : StpR := stp2 (ckC d [n, m]) t (balK n d) (balK m d) subE addE subR addR a
theorem encI_size {n : Int} (h : -9223372036854775808 ≤ n ∧ n ≤ 9223372036854775807) : (encI n).size ≤ 10 := by unfold encI; rw [strOfNums_size]; exact vlen _ (zig_lt h.1 h.2)
theorem GT.chg {N n : Nat} {t : Option AvT} (h : GT N n t) (k : ByteArray) {x : Int} (hx : -9223372036854775808 ≤ x ∧ x ≤ 9223372036854775807) (hk : k.size + 10 ≤ N) : GT N (n + 1) (chgT t k x) := by
  unfold chgT
  split
  · exact (h.drop k).mono (Nat.le_succ _)
  · exact h.set k _ (by have := encI_size hx; omega)
theorem addR_amt {a b : Int} : -9223372036854775808 ≤ addR a b ∧ addR a b ≤ 9223372036854775807 := by
  unfold addR
  split
  · rename_i h
    unfold addE at h
    split at h
    · rename_i h1
      obtain ⟨⟨_, _⟩, _, _⟩ := h1
      omega
    · cases h
  · omega
theorem subR_amt {a b : Int} : -9223372036854775808 ≤ subR a b ∧ subR a b ≤ 9223372036854775807 := by
  unfold subR
  split
  · rename_i h
    unfold subE at h
    split at h
    · rename_i h1
      obtain ⟨⟨_, _⟩, _, _⟩ := h1
      omega
    · cases h
  · omega
/-- what lies in memory: the coin's block, the tree -/
structure BkM (w : World) (q : Nat) (d : ByteArray) (a : Int) (va : Value) (t : Option AvT) (wr : World) : Prop where
  b : Below w.heap.size w wr
  r : wr.heap[q]? = some (.cells #[.string d, .int .i64 a] 23 (0, 0))
  t : TreeO wr va t
  e : Env wr
theorem BkM.call {w : World} {q : Nat} {d : ByteArray} {a : Int} {va : Value} {t : Option AvT} {wr w' : World} (m : BkM w q d a va t wr) (h : Below wr.heap.size wr w') : BkM w q d a va t w' := ⟨m.b.trans (h.mono m.b.size), (h.block q (bkT_lt m.r)).trans m.r, m.t.below h, m.e.below h m.e.lt⟩
theorem BkM.tree {w : World} {q : Nat} {d : ByteArray} {a : Int} {va vb : Value} {t u : Option AvT} {wr : World} (m : BkM w q d a va t wr) (h : TreeO wr vb u) : BkM w q d a vb u wr := ⟨m.b, m.r, h, m.e⟩

set_option maxHeartbeats 8000000 in
theorem bkmint_bad (va : Value) (t : Option AvT) (n d : ByteArray) (a : Int) (w : World) (c : Nat) (he : Env w) (ht : TreeO w va t) (hn0 : n.size ≤ 140737488351232) (hd0 : d.size ≤ 140737488351232) (hc : ckC d [n] = some c) :
    Calls Tryz.prog 46 #[va, .string n, .agg #[.string d, .int .i64 a]] w (ChgPost (mintR t n d a).e (mintR t n d a).t w) := by
  have hba := below_alloc w (.cells #[.string d, .int .i64 a] 23)
  have M := Lib.hid (show BkM w w.heap.size d a va t (w.alloc (.cells #[.string d, .int .i64 a] 23)) from ⟨hba, heap_alloc_new w _, ht.below hba, he.below hba he.lt⟩)
  have HCK := Lib.hid (fun (W : World) (v : Value) (h : NmIn W v [n]) => bkck_any d a [n] v W h (by intro s hs; simp only [List.mem_cons, List.not_mem_nil, or_false] at hs; subst hs; omega) hd0)
  rw [hc] at HCK
  have HF := Lib.hid (show (mintR t n d a).e = some c ∧ (mintR t n d a).t = none from ⟨by unfold mintR stp2 st2E; rw [hc], by unfold mintR stp2 st2T; rw [hc]⟩)
  rw [HF.out.1, HF.out.2]
  unfold ChgPost
  clear HF hc hba he ht hn0 hd0
  simp only [errV] at HCK
  go_enter Tryz.func46, Tryz.ntmps46
  go_upto_region 1 with (fail)
  obtain ⟨q, hq⟩ : ∃ q, q = w.heap.size := ⟨_, rfl⟩
  rw [← hq] at M ⊢
  clear hq
  generalize w.alloc (.cells #[.string d, .int .i64 a] 23) = w1 at *
  go_wp2_with (first
    | (refine wpList_load_rowT (by rfl) 23 (.tmp 5) rfl q 0 rfl #[.string d, .int .i64 a] _ (rowT_range M.out.r) Tryz.underlying23 rfl (by kernel_rfl) ?_)
    | (refine wpList_nm1 rfl _ rfl n rfl ?_; have HNI := Lib.hid (nm1_in w1 n); have hb := below_alloc w1 (.cells #[.string n] 9); replace M := Lib.hid (M.out.call hb); clear hb)
    | (go_at_call 112; (with_reducible refine (HCK.out _ _ HNI.out).mono ?_); rintro e w2 ⟨rfl, hb⟩; replace M := Lib.hid (M.out.call hb); clear hb))
  go_ret2
  exact ⟨_, rfl, rfl, M.out.b⟩
set_option maxHeartbeats 8000000 in
theorem bkmint_any (va : Value) (t : Option AvT) (n d : ByteArray) (a : Int) (w : World) (g : Nat) (he : Env w) (ht : TreeO w va t) (hg : GT 140737488351232 g t) (hgn : g + 2 ≤ 4611686018427387904) (hn0 : n.size ≤ 140737488351232) (hd0 : d.size ≤ 140737488351232) :
    Calls Tryz.prog 46 #[va, .string n, .agg #[.string d, .int .i64 a]] w (ChgPost (mintR t n d a).e (mintR t n d a).t w) := by
  by_cases hC0 : ckC d [n] = none
  case neg =>
    obtain ⟨c, hc⟩ : ∃ c, ckC d [n] = some c := by
      cases h : ckC d [n] with
      | none => exact absurd h hC0
      | some c => exact ⟨c, rfl⟩
    exact bkmint_bad va t n d a w c he ht hn0 hd0 hc
  have hz : n.size + d.size ≤ 140737488350000 := by
    obtain ⟨h1, h2⟩ := ckC_parts hC0
    have := chkD_size h2
    have := ckN_one h1
    omega
  have hba := below_alloc w (.cells #[.string d, .int .i64 a] 23)
  have M := Lib.hid (show BkM w w.heap.size d a va t (w.alloc (.cells #[.string d, .int .i64 a] 23)) from ⟨hba, heap_alloc_new w _, ht.below hba, he.below hba he.lt⟩)
  have HCK := Lib.hid (fun (W : World) (v : Value) (h : NmIn W v [n]) => bkck_any d a [n] v W h (by intro s hs; simp only [List.mem_cons, List.not_mem_nil, or_false] at hs; subst hs; omega) (by omega))
  have HK1 := Lib.hid (fun W => show Calls Tryz.prog 100 #[.string d] W fun e w' => e = .returned (.string (supK d)) ∧ w' = W from bksup_any d W (by omega))
  have HK2 := Lib.hid (fun W => show Calls Tryz.prog 98 #[.string n, .string d] W fun e w' => e = .returned (.string (balK n d)) ∧ w' = W from bkbal_any n d W (by omega))
  have HC1 := Lib.hid (fun (W : World) (v : Value) (h : Env W) (k : TreeO W v t) => bkchgadd_any v t (supK d) a W h k (hg.val _) (by rw [supK_size]; omega) (by have := hg.many; omega))
  have hg1 : GT 140737488351232 (g + 1) (chgT t (supK d) (addR (bkV t (supK d)) a)) := hg.chg _ addR_amt (by rw [supK_size]; omega)
  have HC2 := Lib.hid (fun (W : World) (v : Value) (h : Env W) (k : TreeO W v (chgT t (supK d) (addR (bkV t (supK d)) a))) => bkchgadd_any v (chgT t (supK d) (addR (bkV t (supK d)) a)) (balK n d) a W h k (hg1.val _) (by rw [balK_size]; omega) (by have := hg1.many; omega))
  obtain ⟨C, hC⟩ : ∃ c, c = ckC d [n] := ⟨_, rfl⟩
  obtain ⟨E1, hE1⟩ : ∃ c, c = addE (bkV t (supK d)) a := ⟨_, rfl⟩
  obtain ⟨T1, hT1⟩ : ∃ c, c = chgT t (supK d) (addR (bkV t (supK d)) a) := ⟨_, rfl⟩
  obtain ⟨E2, hE2⟩ : ∃ c, c = addE (bkV T1 (balK n d)) a := ⟨_, rfl⟩
  obtain ⟨T2, hT2⟩ : ∃ c, c = chgO E2 T1 (balK n d) (addR (bkV T1 (balK n d)) a) := ⟨_, rfl⟩
  obtain ⟨TE, hTE⟩ : ∃ c, c = (mintR t n d a).e := ⟨_, rfl⟩
  obtain ⟨TT, hTT⟩ : ∃ c, c = (mintR t n d a).t := ⟨_, rfl⟩
  have HRE := Lib.hid (show TE = st2E C E1 E2 from by rw [hTE, hC, hE1, hE2, hT1]; rfl)
  have HRT := Lib.hid (show TT = st2T C E1 T2 from by rw [hTT, hC, hE1, hT2, hE2, hT1]; rfl)
  have HC1' := Lib.hid (show ∀ (W : World) (v : Value), Env W → TreeO W v t → Calls Tryz.prog 113 #[v, .string (supK d), .func (.func 103) #[] #[], .int .i64 a] W (ChgPost E1 (chgQ E1 T1) W) from fun W v h k => by
    have h2 := HC1.out W v h k
    rw [← hE1] at h2
    rw [chgO_Q, ← hT1] at h2
    exact h2)
  have HC2' := Lib.hid (show ∀ (W : World) (v : Value), Env W → TreeO W v T1 → Calls Tryz.prog 113 #[v, .string (balK n d), .func (.func 103) #[] #[], .int .i64 a] W (ChgPost E2 T2 W) from fun W v h k => by
    rw [hT1] at k
    have h2 := HC2.out W v h k
    rw [← hT1, ← hE2, ← hT2] at h2
    exact h2)
  rw [← hTE, ← hTT]
  rw [← hC] at HCK
  clear HC1 HC2 hg1
  obtain ⟨K1, hK1⟩ : ∃ k, k = supK d := ⟨_, rfl⟩
  obtain ⟨K2, hK2⟩ : ∃ k, k = balK n d := ⟨_, rfl⟩
  rw [← hK1] at HK1 HC1'
  rw [← hK2] at HK2 HC2'
  have HC1 := HC1'
  have HC2 := HC2'
  clear hE1 hT1 hE2 hT2 hTE hTT hK1 hK2 hba he ht hg hgn hz HC1' HC2' hn0 hd0
  unfold ChgPost at HC1 HC2 ⊢
  obtain rfl : C = none := hC.trans hC0
  clear hC hC0
  simp only [errV] at HCK
  go_enter Tryz.func46, Tryz.ntmps46
  go_upto_region 1 with (fail)
  obtain ⟨q, hq⟩ : ∃ q, q = w.heap.size := ⟨_, rfl⟩
  rw [← hq] at M ⊢
  clear hq
  generalize w.alloc (.cells #[.string d, .int .i64 a] 23) = w1 at *
  go_upto_region 4 with (first
    | (refine wpList_load_rowT (by rfl) 23 (.tmp 5) rfl q 0 rfl #[.string d, .int .i64 a] _ (rowT_range M.out.r) Tryz.underlying23 rfl (by kernel_rfl) ?_)
    | (refine wpList_nm1 rfl _ rfl n rfl ?_; have HNI := Lib.hid (nm1_in w1 n); have hb := below_alloc w1 (.cells #[.string n] 9); replace M := Lib.hid (M.out.call hb); clear hb)
    | (go_at_call 112; (with_reducible refine (HCK.out _ _ HNI.out).mono ?_); rintro e w2 ⟨rfl, hb⟩; replace M := Lib.hid (M.out.call hb); clear hb HNI))

  cases E1 with
  | some e1 =>
    have HF := Lib.hid (show TE = some e1 ∧ TT = none from ⟨HRE.out, HRT.out⟩)
    simp only [errV, chgQ] at HC1
    clear HRE HRT HC2 HK2
    refine wp_region_T (fun W => BkM w q d a va t W) [0, 1, 2, 3, 4, 5, 6, 7, 8, 9, 10, 11] (by kernel_rfl) ?_
    replace M := Lib.hid (M.out.call (Below.refl _ _).drew)
    generalize World.drew _ = d0 at *
    refine anyT_take [6, 7, 8, 9, 10, 11] (i := 0) (v := va) rfl (by kernel_rfl) (by kernel_rfl) (by kernel_rfl) (fun _ _ _ h => h) (by kernel_rfl) (Or.inl ⟨by rfl, fun w' _ => by go_simp⟩) M.out ?_
    try simp only [List.getElem_toArray, List.getElem_cons_succ, List.getElem_cons_zero, Act.put, List.setIfInBounds_toArray, List.set_cons_zero, List.set_cons_succ]
    refine anyT_take [2, 3, 6, 7, 8, 9, 10, 11] (i := 1) (v := .pointer (some ⟨q, 0, none⟩)) rfl (by kernel_rfl) (by kernel_rfl) (by kernel_rfl) (fun _ _ _ h => h) (by kernel_rfl) (Or.inl ⟨by rfl, fun w' _ => by go_simp⟩) M.out ?_
    try simp only [List.getElem_toArray, List.getElem_cons_succ, List.getElem_cons_zero, Act.put, List.setIfInBounds_toArray, List.set_cons_zero, List.set_cons_succ]
    refine anyT_take [5, 6, 7, 8, 9, 10, 11] (i := 4) (v := .pointer (some ⟨q, 1, none⟩)) rfl (by kernel_rfl) (by kernel_rfl) (by kernel_rfl) (fun _ _ _ h => h) (by kernel_rfl) (Or.inl ⟨by rfl, fun w' _ => by go_simp⟩) M.out ?_
    try simp only [List.getElem_toArray, List.getElem_cons_succ, List.getElem_cons_zero, Act.put, List.setIfInBounds_toArray, List.set_cons_zero, List.set_cons_succ]
    refine anyT_take [3, 6, 7, 8, 9, 10, 11] (i := 2) (v := .string d) rfl (by kernel_rfl) (by kernel_rfl) (by kernel_rfl) (fun _ _ _ h => h) (by kernel_rfl) (Or.inl ⟨by rfl, fun w' hS => by have c := (cn_cells16 hS.r).1; go_simp⟩) M.out ?_
    try simp only [List.getElem_toArray, List.getElem_cons_succ, List.getElem_cons_zero, Act.put, List.setIfInBounds_toArray, List.set_cons_zero, List.set_cons_succ]
    refine anyT_take [6, 7, 8, 9, 10, 11] (i := 5) (v := .int .i64 a) rfl (by kernel_rfl) (by kernel_rfl) (by kernel_rfl) (fun _ _ _ h => h) (by kernel_rfl) (Or.inl ⟨by rfl, fun w' hS => by have c := (cn_cells16 hS.r).2; go_simp⟩) M.out ?_
    try simp only [List.getElem_toArray, List.getElem_cons_succ, List.getElem_cons_zero, Act.put, List.setIfInBounds_toArray, List.set_cons_zero, List.set_cons_succ]
    refine anyT_one (i := 3) (by kernel_rfl) rfl (fun K hK => ?_)
    rw [if_pos (by rfl)]
    try simp only [List.getElem_toArray, List.getElem_cons_succ, List.getElem_cons_zero]
    (go_simp; (with_reducible refine (HK1.out _).mono ?_); rintro e x1a ⟨rfl, hw⟩; obtain rfl := hw.symm; clear hw)
    refine hK _ _ (fun _ => M.out) ?_
    clear hK K
    try simp only [List.getElem_toArray, List.getElem_cons_succ, List.getElem_cons_zero, Act.put, List.setIfInBounds_toArray, List.set_cons_zero, List.set_cons_succ]
    refine anyT_one (i := 6) (by kernel_rfl) rfl (fun K hK => ?_)
    rw [if_pos (by rfl)]
    try simp only [List.getElem_toArray, List.getElem_cons_succ, List.getElem_cons_zero]
    (go_simp; (with_reducible refine (HC1.out _ _ M.out.e M.out.t).mono ?_); rintro e x1 ⟨v1, rfl, ht, hb⟩; have HT1 := Lib.hid ht; replace M := Lib.hid (M.out.call hb); clear ht hb)
    refine hK _ _ (fun _ => M.out) ?_
    clear hK K
    try simp only [List.getElem_toArray, List.getElem_cons_succ, List.getElem_cons_zero, Act.put, List.setIfInBounds_toArray, List.set_cons_zero, List.set_cons_succ]
    refine anyT_take [8, 9, 10, 11] (i := 7) (v := .tuple #[v1, .iface 107 (.int .i64 (e1 : Int))]) rfl (by kernel_rfl) (by kernel_rfl) (by kernel_rfl) (fun _ _ _ h => h) (by kernel_rfl) (Or.inl ⟨by rfl, fun w' _ => by go_simp⟩) M.out ?_
    try simp only [List.getElem_toArray, List.getElem_cons_succ, List.getElem_cons_zero, Act.put, List.setIfInBounds_toArray, List.set_cons_zero, List.set_cons_succ]
    refine anyT_take [10, 11] (i := 8) (v := v1) rfl (by kernel_rfl) (by kernel_rfl) (by kernel_rfl) (fun _ _ _ h => h) (by kernel_rfl) (Or.inl ⟨by rfl, fun w' _ => by go_simp⟩) M.out ?_
    try simp only [List.getElem_toArray, List.getElem_cons_succ, List.getElem_cons_zero, Act.put, List.setIfInBounds_toArray, List.set_cons_zero, List.set_cons_succ]
    refine anyT_take [11] (i := 9) (v := .iface 107 (.int .i64 (e1 : Int))) rfl (by kernel_rfl) (by kernel_rfl) (by kernel_rfl) (fun _ _ _ h => h) (by kernel_rfl) (Or.inl ⟨by rfl, fun w' _ => by go_simp⟩) M.out ?_
    try simp only [List.getElem_toArray, List.getElem_cons_succ, List.getElem_cons_zero, Act.put, List.setIfInBounds_toArray, List.set_cons_zero, List.set_cons_succ]
    refine anyT_take [11] (i := 10) (v := v1) rfl (by kernel_rfl) (by kernel_rfl) (by kernel_rfl) (fun _ _ _ h => h) (by kernel_rfl) (Or.inl ⟨by rfl, fun w' _ => by go_simp⟩) M.out ?_
    try simp only [List.getElem_toArray, List.getElem_cons_succ, List.getElem_cons_zero, Act.put, List.setIfInBounds_toArray, List.set_cons_zero, List.set_cons_succ]
    refine anyT_take [] (i := 11) (v := .iface 107 (.int .i64 (e1 : Int))) rfl (by kernel_rfl) (by kernel_rfl) (by kernel_rfl) (fun _ _ _ h => h) (by kernel_rfl) (Or.inl ⟨by rfl, fun w' _ => by go_simp⟩) M.out ?_
    try simp only [List.getElem_toArray, List.getElem_cons_succ, List.getElem_cons_zero, Act.put, List.setIfInBounds_toArray, List.set_cons_zero, List.set_cons_succ]
    refine anyT_done (by kernel_rfl) ?_ _
    go_wp2_with (fail)
    go_ret2
    rw [HF.out.1, HF.out.2]
    exact ⟨_, rfl, rfl, M.out.b⟩

  | none =>
    have HF := Lib.hid (show TE = E2 ∧ TT = T2 from ⟨HRE.out, HRT.out⟩)
    simp only [errV, chgQ] at HC1
    clear HRE HRT
    refine wp_region_T (fun W => BkM w q d a va t W) [0, 1, 2, 3, 4, 5, 6, 7, 8, 9, 10, 11] (by kernel_rfl) ?_
    replace M := Lib.hid (M.out.call (Below.refl _ _).drew)
    generalize World.drew _ = d0 at *
    refine anyT_take [6, 7, 8, 9, 10, 11] (i := 0) (v := va) rfl (by kernel_rfl) (by kernel_rfl) (by kernel_rfl) (fun _ _ _ h => h) (by kernel_rfl) (Or.inl ⟨by rfl, fun w' _ => by go_simp⟩) M.out ?_
    try simp only [List.getElem_toArray, List.getElem_cons_succ, List.getElem_cons_zero, Act.put, List.setIfInBounds_toArray, List.set_cons_zero, List.set_cons_succ]
    refine anyT_take [2, 3, 6, 7, 8, 9, 10, 11] (i := 1) (v := .pointer (some ⟨q, 0, none⟩)) rfl (by kernel_rfl) (by kernel_rfl) (by kernel_rfl) (fun _ _ _ h => h) (by kernel_rfl) (Or.inl ⟨by rfl, fun w' _ => by go_simp⟩) M.out ?_
    try simp only [List.getElem_toArray, List.getElem_cons_succ, List.getElem_cons_zero, Act.put, List.setIfInBounds_toArray, List.set_cons_zero, List.set_cons_succ]
    refine anyT_take [5, 6, 7, 8, 9, 10, 11] (i := 4) (v := .pointer (some ⟨q, 1, none⟩)) rfl (by kernel_rfl) (by kernel_rfl) (by kernel_rfl) (fun _ _ _ h => h) (by kernel_rfl) (Or.inl ⟨by rfl, fun w' _ => by go_simp⟩) M.out ?_
    try simp only [List.getElem_toArray, List.getElem_cons_succ, List.getElem_cons_zero, Act.put, List.setIfInBounds_toArray, List.set_cons_zero, List.set_cons_succ]
    refine anyT_take [3, 6, 7, 8, 9, 10, 11] (i := 2) (v := .string d) rfl (by kernel_rfl) (by kernel_rfl) (by kernel_rfl) (fun _ _ _ h => h) (by kernel_rfl) (Or.inl ⟨by rfl, fun w' hS => by have c := (cn_cells16 hS.r).1; go_simp⟩) M.out ?_
    try simp only [List.getElem_toArray, List.getElem_cons_succ, List.getElem_cons_zero, Act.put, List.setIfInBounds_toArray, List.set_cons_zero, List.set_cons_succ]
    refine anyT_take [6, 7, 8, 9, 10, 11] (i := 5) (v := .int .i64 a) rfl (by kernel_rfl) (by kernel_rfl) (by kernel_rfl) (fun _ _ _ h => h) (by kernel_rfl) (Or.inl ⟨by rfl, fun w' hS => by have c := (cn_cells16 hS.r).2; go_simp⟩) M.out ?_
    try simp only [List.getElem_toArray, List.getElem_cons_succ, List.getElem_cons_zero, Act.put, List.setIfInBounds_toArray, List.set_cons_zero, List.set_cons_succ]
    refine anyT_one (i := 3) (by kernel_rfl) rfl (fun K hK => ?_)
    rw [if_pos (by rfl)]
    try simp only [List.getElem_toArray, List.getElem_cons_succ, List.getElem_cons_zero]
    (go_simp; (with_reducible refine (HK1.out _).mono ?_); rintro e x1a ⟨rfl, hw⟩; obtain rfl := hw.symm; clear hw)
    refine hK _ _ (fun _ => M.out) ?_
    clear hK K
    try simp only [List.getElem_toArray, List.getElem_cons_succ, List.getElem_cons_zero, Act.put, List.setIfInBounds_toArray, List.set_cons_zero, List.set_cons_succ]
    refine anyT_one (i := 6) (by kernel_rfl) rfl (fun K hK => ?_)
    rw [if_pos (by rfl)]
    try simp only [List.getElem_toArray, List.getElem_cons_succ, List.getElem_cons_zero]
    (go_simp; (with_reducible refine (HC1.out _ _ M.out.e M.out.t).mono ?_); rintro e x1 ⟨v1, rfl, ht, hb⟩; have HT1 := Lib.hid ht; replace M := Lib.hid (M.out.call hb); clear ht hb)
    refine hK _ _ (fun _ => M.out) ?_
    clear hK K
    try simp only [List.getElem_toArray, List.getElem_cons_succ, List.getElem_cons_zero, Act.put, List.setIfInBounds_toArray, List.set_cons_zero, List.set_cons_succ]
    refine anyT_take [8, 9, 10, 11] (i := 7) (v := .tuple #[v1, .nilIface]) rfl (by kernel_rfl) (by kernel_rfl) (by kernel_rfl) (fun _ _ _ h => h) (by kernel_rfl) (Or.inl ⟨by rfl, fun w' _ => by go_simp⟩) M.out ?_
    try simp only [List.getElem_toArray, List.getElem_cons_succ, List.getElem_cons_zero, Act.put, List.setIfInBounds_toArray, List.set_cons_zero, List.set_cons_succ]
    refine anyT_take [10, 11] (i := 8) (v := v1) rfl (by kernel_rfl) (by kernel_rfl) (by kernel_rfl) (fun _ _ _ h => h) (by kernel_rfl) (Or.inl ⟨by rfl, fun w' _ => by go_simp⟩) M.out ?_
    try simp only [List.getElem_toArray, List.getElem_cons_succ, List.getElem_cons_zero, Act.put, List.setIfInBounds_toArray, List.set_cons_zero, List.set_cons_succ]
    refine anyT_take [11] (i := 9) (v := .nilIface) rfl (by kernel_rfl) (by kernel_rfl) (by kernel_rfl) (fun _ _ _ h => h) (by kernel_rfl) (Or.inl ⟨by rfl, fun w' _ => by go_simp⟩) M.out ?_
    try simp only [List.getElem_toArray, List.getElem_cons_succ, List.getElem_cons_zero, Act.put, List.setIfInBounds_toArray, List.set_cons_zero, List.set_cons_succ]
    refine anyT_take [11] (i := 10) (v := v1) rfl (by kernel_rfl) (by kernel_rfl) (by kernel_rfl) (fun _ _ _ h => h) (by kernel_rfl) (Or.inl ⟨by rfl, fun w' _ => by go_simp⟩) M.out ?_
    try simp only [List.getElem_toArray, List.getElem_cons_succ, List.getElem_cons_zero, Act.put, List.setIfInBounds_toArray, List.set_cons_zero, List.set_cons_succ]
    refine anyT_take [] (i := 11) (v := .nilIface) rfl (by kernel_rfl) (by kernel_rfl) (by kernel_rfl) (fun _ _ _ h => h) (by kernel_rfl) (Or.inl ⟨by rfl, fun w' _ => by go_simp⟩) M.out ?_
    try simp only [List.getElem_toArray, List.getElem_cons_succ, List.getElem_cons_zero, Act.put, List.setIfInBounds_toArray, List.set_cons_zero, List.set_cons_succ]
    refine anyT_done (by kernel_rfl) ?_ _
    replace M := Lib.hid (M.out.tree HT1.out)
    clear HT1 HC1 HK1
    obtain ⟨E2v, hE2v⟩ : ∃ z, z = errV E2 := ⟨_, rfl⟩
    rw [← hE2v] at HC2
    have HEV := Lib.hid hE2v
    clear hE2v
    go_upto_region 7 with (fail)
    refine wp_region_T (fun W => BkM w q d a v1 T1 W) [0, 1, 2, 3, 4, 5, 6, 7, 8, 9, 10, 11] (by kernel_rfl) ?_
    replace M := Lib.hid (M.out.call (Below.refl _ _).drew)
    generalize World.drew _ = d1 at *
    refine anyT_take [7, 8, 9, 10, 11] (i := 0) (v := v1) rfl (by kernel_rfl) (by kernel_rfl) (by kernel_rfl) (fun _ _ _ h => h) (by kernel_rfl) (Or.inl ⟨by rfl, fun w' _ => by go_simp⟩) M.out ?_
    try simp only [List.getElem_toArray, List.getElem_cons_succ, List.getElem_cons_zero, Act.put, List.setIfInBounds_toArray, List.set_cons_zero, List.set_cons_succ]
    refine anyT_take [4, 7, 8, 9, 10, 11] (i := 1) (v := .string n) rfl (by kernel_rfl) (by kernel_rfl) (by kernel_rfl) (fun _ _ _ h => h) (by kernel_rfl) (Or.inl ⟨by rfl, fun w' _ => by go_simp⟩) M.out ?_
    try simp only [List.getElem_toArray, List.getElem_cons_succ, List.getElem_cons_zero, Act.put, List.setIfInBounds_toArray, List.set_cons_zero, List.set_cons_succ]
    refine anyT_take [3, 4, 7, 8, 9, 10, 11] (i := 2) (v := .pointer (some ⟨q, 0, none⟩)) rfl (by kernel_rfl) (by kernel_rfl) (by kernel_rfl) (fun _ _ _ h => h) (by kernel_rfl) (Or.inl ⟨by rfl, fun w' _ => by go_simp⟩) M.out ?_
    try simp only [List.getElem_toArray, List.getElem_cons_succ, List.getElem_cons_zero, Act.put, List.setIfInBounds_toArray, List.set_cons_zero, List.set_cons_succ]
    refine anyT_take [6, 7, 8, 9, 10, 11] (i := 5) (v := .pointer (some ⟨q, 1, none⟩)) rfl (by kernel_rfl) (by kernel_rfl) (by kernel_rfl) (fun _ _ _ h => h) (by kernel_rfl) (Or.inl ⟨by rfl, fun w' _ => by go_simp⟩) M.out ?_
    try simp only [List.getElem_toArray, List.getElem_cons_succ, List.getElem_cons_zero, Act.put, List.setIfInBounds_toArray, List.set_cons_zero, List.set_cons_succ]
    refine anyT_take [4, 7, 8, 9, 10, 11] (i := 3) (v := .string d) rfl (by kernel_rfl) (by kernel_rfl) (by kernel_rfl) (fun _ _ _ h => h) (by kernel_rfl) (Or.inl ⟨by rfl, fun w' hS => by have c := (cn_cells16 hS.r).1; go_simp⟩) M.out ?_
    try simp only [List.getElem_toArray, List.getElem_cons_succ, List.getElem_cons_zero, Act.put, List.setIfInBounds_toArray, List.set_cons_zero, List.set_cons_succ]
    refine anyT_take [7, 8, 9, 10, 11] (i := 6) (v := .int .i64 a) rfl (by kernel_rfl) (by kernel_rfl) (by kernel_rfl) (fun _ _ _ h => h) (by kernel_rfl) (Or.inl ⟨by rfl, fun w' hS => by have c := (cn_cells16 hS.r).2; go_simp⟩) M.out ?_
    try simp only [List.getElem_toArray, List.getElem_cons_succ, List.getElem_cons_zero, Act.put, List.setIfInBounds_toArray, List.set_cons_zero, List.set_cons_succ]
    refine anyT_one (i := 4) (by kernel_rfl) rfl (fun K hK => ?_)
    rw [if_pos (by rfl)]
    try simp only [List.getElem_toArray, List.getElem_cons_succ, List.getElem_cons_zero]
    (go_simp; (with_reducible refine (HK2.out _).mono ?_); rintro e x2a ⟨rfl, hw⟩; obtain rfl := hw.symm; clear hw)
    refine hK _ _ (fun _ => M.out) ?_
    clear hK K
    try simp only [List.getElem_toArray, List.getElem_cons_succ, List.getElem_cons_zero, Act.put, List.setIfInBounds_toArray, List.set_cons_zero, List.set_cons_succ]
    refine anyT_one (i := 7) (by kernel_rfl) rfl (fun K hK => ?_)
    rw [if_pos (by rfl)]
    try simp only [List.getElem_toArray, List.getElem_cons_succ, List.getElem_cons_zero]
    (go_simp; (with_reducible refine (HC2.out _ _ M.out.e M.out.t).mono ?_); rintro e x2 ⟨v2, rfl, ht, hb⟩; have HT2 := Lib.hid ht; replace M := Lib.hid (M.out.call hb); clear ht hb)
    refine hK _ _ (fun _ => M.out) ?_
    clear hK K
    try simp only [List.getElem_toArray, List.getElem_cons_succ, List.getElem_cons_zero, Act.put, List.setIfInBounds_toArray, List.set_cons_zero, List.set_cons_succ]
    refine anyT_take [10, 11] (i := 8) (v := v2) rfl (by kernel_rfl) (by kernel_rfl) (by kernel_rfl) (fun _ _ _ h => h) (by kernel_rfl) (Or.inl ⟨by rfl, fun w' _ => by go_simp⟩) M.out ?_
    try simp only [List.getElem_toArray, List.getElem_cons_succ, List.getElem_cons_zero, Act.put, List.setIfInBounds_toArray, List.set_cons_zero, List.set_cons_succ]
    refine anyT_take [10, 11] (i := 9) (v := E2v) rfl (by kernel_rfl) (by kernel_rfl) (by kernel_rfl) (fun _ _ _ h => h) (by kernel_rfl) (Or.inl ⟨by rfl, fun w' _ => by go_simp⟩) M.out ?_
    try simp only [List.getElem_toArray, List.getElem_cons_succ, List.getElem_cons_zero, Act.put, List.setIfInBounds_toArray, List.set_cons_zero, List.set_cons_succ]
    refine anyT_take [11] (i := 10) (v := v2) rfl (by kernel_rfl) (by kernel_rfl) (by kernel_rfl) (fun _ _ _ h => h) (by kernel_rfl) (Or.inl ⟨by rfl, fun w' _ => by go_simp⟩) M.out ?_
    try simp only [List.getElem_toArray, List.getElem_cons_succ, List.getElem_cons_zero, Act.put, List.setIfInBounds_toArray, List.set_cons_zero, List.set_cons_succ]
    refine anyT_take [] (i := 11) (v := E2v) rfl (by kernel_rfl) (by kernel_rfl) (by kernel_rfl) (fun _ _ _ h => h) (by kernel_rfl) (Or.inl ⟨by rfl, fun w' _ => by go_simp⟩) M.out ?_
    try simp only [List.getElem_toArray, List.getElem_cons_succ, List.getElem_cons_zero, Act.put, List.setIfInBounds_toArray, List.set_cons_zero, List.set_cons_succ]
    refine anyT_done (by kernel_rfl) ?_ _
    go_wp2_with (fail)
    go_ret2
    rw [HF.out.1, HF.out.2, ← HEV.out]
    exact ⟨_, rfl, HT2.out, M.out.b⟩

set_option maxHeartbeats 8000000 in
theorem bkburn_bad (va : Value) (t : Option AvT) (n d : ByteArray) (a : Int) (w : World) (c : Nat) (he : Env w) (ht : TreeO w va t) (hn0 : n.size ≤ 140737488351232) (hd0 : d.size ≤ 140737488351232) (hc : ckC d [n] = some c) :
    Calls Tryz.prog 47 #[va, .string n, .agg #[.string d, .int .i64 a]] w (ChgPost (burnR t n d a).e (burnR t n d a).t w) := by
  have hba := below_alloc w (.cells #[.string d, .int .i64 a] 23)
  have M := Lib.hid (show BkM w w.heap.size d a va t (w.alloc (.cells #[.string d, .int .i64 a] 23)) from ⟨hba, heap_alloc_new w _, ht.below hba, he.below hba he.lt⟩)
  have HCK := Lib.hid (fun (W : World) (v : Value) (h : NmIn W v [n]) => bkck_any d a [n] v W h (by intro s hs; simp only [List.mem_cons, List.not_mem_nil, or_false] at hs; subst hs; omega) hd0)
  rw [hc] at HCK
  have HF := Lib.hid (show (burnR t n d a).e = some c ∧ (burnR t n d a).t = none from ⟨by unfold burnR stp2 st2E; rw [hc], by unfold burnR stp2 st2T; rw [hc]⟩)
  rw [HF.out.1, HF.out.2]
  unfold ChgPost
  clear HF hc hba he ht hn0 hd0
  simp only [errV] at HCK
  go_enter Tryz.func47, Tryz.ntmps47
  go_upto_region 1 with (fail)
  obtain ⟨q, hq⟩ : ∃ q, q = w.heap.size := ⟨_, rfl⟩
  rw [← hq] at M ⊢
  clear hq
  generalize w.alloc (.cells #[.string d, .int .i64 a] 23) = w1 at *
  go_wp2_with (first
    | (refine wpList_load_rowT (by rfl) 23 (.tmp 5) rfl q 0 rfl #[.string d, .int .i64 a] _ (rowT_range M.out.r) Tryz.underlying23 rfl (by kernel_rfl) ?_)
    | (refine wpList_nm1 rfl _ rfl n rfl ?_; have HNI := Lib.hid (nm1_in w1 n); have hb := below_alloc w1 (.cells #[.string n] 9); replace M := Lib.hid (M.out.call hb); clear hb)
    | (go_at_call 112; (with_reducible refine (HCK.out _ _ HNI.out).mono ?_); rintro e w2 ⟨rfl, hb⟩; replace M := Lib.hid (M.out.call hb); clear hb))
  go_ret2
  exact ⟨_, rfl, rfl, M.out.b⟩
set_option maxHeartbeats 8000000 in
theorem bkburn_any (va : Value) (t : Option AvT) (n d : ByteArray) (a : Int) (w : World) (g : Nat) (he : Env w) (ht : TreeO w va t) (hg : GT 140737488351232 g t) (hgn : g + 2 ≤ 4611686018427387904) (hn0 : n.size ≤ 140737488351232) (hd0 : d.size ≤ 140737488351232) :
    Calls Tryz.prog 47 #[va, .string n, .agg #[.string d, .int .i64 a]] w (ChgPost (burnR t n d a).e (burnR t n d a).t w) := by
  by_cases hC0 : ckC d [n] = none
  case neg =>
    obtain ⟨c, hc⟩ : ∃ c, ckC d [n] = some c := by
      cases h : ckC d [n] with
      | none => exact absurd h hC0
      | some c => exact ⟨c, rfl⟩
    exact bkburn_bad va t n d a w c he ht hn0 hd0 hc
  have hz : n.size + d.size ≤ 140737488350000 := by
    obtain ⟨h1, h2⟩ := ckC_parts hC0
    have := chkD_size h2
    have := ckN_one h1
    omega
  have hba := below_alloc w (.cells #[.string d, .int .i64 a] 23)
  have M := Lib.hid (show BkM w w.heap.size d a va t (w.alloc (.cells #[.string d, .int .i64 a] 23)) from ⟨hba, heap_alloc_new w _, ht.below hba, he.below hba he.lt⟩)
  have HCK := Lib.hid (fun (W : World) (v : Value) (h : NmIn W v [n]) => bkck_any d a [n] v W h (by intro s hs; simp only [List.mem_cons, List.not_mem_nil, or_false] at hs; subst hs; omega) (by omega))
  have HK1 := Lib.hid (fun W => show Calls Tryz.prog 98 #[.string n, .string d] W fun e w' => e = .returned (.string (balK n d)) ∧ w' = W from bkbal_any n d W (by omega))
  have HK2 := Lib.hid (fun W => show Calls Tryz.prog 100 #[.string d] W fun e w' => e = .returned (.string (supK d)) ∧ w' = W from bksup_any d W (by omega))
  have HC1 := Lib.hid (fun (W : World) (v : Value) (h : Env W) (k : TreeO W v t) => bkchgsub_any v t (balK n d) a W h k (hg.val _) (by rw [balK_size]; omega) (by have := hg.many; omega))
  have hg1 : GT 140737488351232 (g + 1) (chgT t (balK n d) (subR (bkV t (balK n d)) a)) := hg.chg _ subR_amt (by rw [balK_size]; omega)
  have HC2 := Lib.hid (fun (W : World) (v : Value) (h : Env W) (k : TreeO W v (chgT t (balK n d) (subR (bkV t (balK n d)) a))) => bkchgsub_any v (chgT t (balK n d) (subR (bkV t (balK n d)) a)) (supK d) a W h k (hg1.val _) (by rw [supK_size]; omega) (by have := hg1.many; omega))
  obtain ⟨C, hC⟩ : ∃ c, c = ckC d [n] := ⟨_, rfl⟩
  obtain ⟨E1, hE1⟩ : ∃ c, c = subE (bkV t (balK n d)) a := ⟨_, rfl⟩
  obtain ⟨T1, hT1⟩ : ∃ c, c = chgT t (balK n d) (subR (bkV t (balK n d)) a) := ⟨_, rfl⟩
  obtain ⟨E2, hE2⟩ : ∃ c, c = subE (bkV T1 (supK d)) a := ⟨_, rfl⟩
  obtain ⟨T2, hT2⟩ : ∃ c, c = chgO E2 T1 (supK d) (subR (bkV T1 (supK d)) a) := ⟨_, rfl⟩
  obtain ⟨TE, hTE⟩ : ∃ c, c = (burnR t n d a).e := ⟨_, rfl⟩
  obtain ⟨TT, hTT⟩ : ∃ c, c = (burnR t n d a).t := ⟨_, rfl⟩
  have HRE := Lib.hid (show TE = st2E C E1 E2 from by rw [hTE, hC, hE1, hE2, hT1]; rfl)
  have HRT := Lib.hid (show TT = st2T C E1 T2 from by rw [hTT, hC, hE1, hT2, hE2, hT1]; rfl)
  have HC1' := Lib.hid (show ∀ (W : World) (v : Value), Env W → TreeO W v t → Calls Tryz.prog 113 #[v, .string (balK n d), .func (.func 114) #[] #[], .int .i64 a] W (ChgPost E1 (chgQ E1 T1) W) from fun W v h k => by
    have h2 := HC1.out W v h k
    rw [← hE1] at h2
    rw [chgO_Q, ← hT1] at h2
    exact h2)
  have HC2' := Lib.hid (show ∀ (W : World) (v : Value), Env W → TreeO W v T1 → Calls Tryz.prog 113 #[v, .string (supK d), .func (.func 114) #[] #[], .int .i64 a] W (ChgPost E2 T2 W) from fun W v h k => by
    rw [hT1] at k
    have h2 := HC2.out W v h k
    rw [← hT1, ← hE2, ← hT2] at h2
    exact h2)
  rw [← hTE, ← hTT]
  rw [← hC] at HCK
  clear HC1 HC2 hg1
  obtain ⟨K1, hK1⟩ : ∃ k, k = balK n d := ⟨_, rfl⟩
  obtain ⟨K2, hK2⟩ : ∃ k, k = supK d := ⟨_, rfl⟩
  rw [← hK1] at HK1 HC1'
  rw [← hK2] at HK2 HC2'
  have HC1 := HC1'
  have HC2 := HC2'
  clear hE1 hT1 hE2 hT2 hTE hTT hK1 hK2 hba he ht hg hgn hz HC1' HC2' hn0 hd0
  unfold ChgPost at HC1 HC2 ⊢
  obtain rfl : C = none := hC.trans hC0
  clear hC hC0
  simp only [errV] at HCK
  go_enter Tryz.func47, Tryz.ntmps47
  go_upto_region 1 with (fail)
  obtain ⟨q, hq⟩ : ∃ q, q = w.heap.size := ⟨_, rfl⟩
  rw [← hq] at M ⊢
  clear hq
  generalize w.alloc (.cells #[.string d, .int .i64 a] 23) = w1 at *
  go_upto_region 4 with (first
    | (refine wpList_load_rowT (by rfl) 23 (.tmp 5) rfl q 0 rfl #[.string d, .int .i64 a] _ (rowT_range M.out.r) Tryz.underlying23 rfl (by kernel_rfl) ?_)
    | (refine wpList_nm1 rfl _ rfl n rfl ?_; have HNI := Lib.hid (nm1_in w1 n); have hb := below_alloc w1 (.cells #[.string n] 9); replace M := Lib.hid (M.out.call hb); clear hb)
    | (go_at_call 112; (with_reducible refine (HCK.out _ _ HNI.out).mono ?_); rintro e w2 ⟨rfl, hb⟩; replace M := Lib.hid (M.out.call hb); clear hb HNI))

  cases E1 with
  | some e1 =>
    have HF := Lib.hid (show TE = some e1 ∧ TT = none from ⟨HRE.out, HRT.out⟩)
    simp only [errV, chgQ] at HC1
    clear HRE HRT HC2 HK2
    refine wp_region_T (fun W => BkM w q d a va t W) [0, 1, 2, 3, 4, 5, 6, 7, 8, 9, 10, 11, 12] (by kernel_rfl) ?_
    replace M := Lib.hid (M.out.call (Below.refl _ _).drew)
    generalize World.drew _ = d0 at *
    refine anyT_take [7, 8, 9, 10, 11, 12] (i := 0) (v := va) rfl (by kernel_rfl) (by kernel_rfl) (by kernel_rfl) (fun _ _ _ h => h) (by kernel_rfl) (Or.inl ⟨by rfl, fun w' _ => by go_simp⟩) M.out ?_
    try simp only [List.getElem_toArray, List.getElem_cons_succ, List.getElem_cons_zero, Act.put, List.setIfInBounds_toArray, List.set_cons_zero, List.set_cons_succ]
    refine anyT_take [4, 7, 8, 9, 10, 11, 12] (i := 1) (v := .string n) rfl (by kernel_rfl) (by kernel_rfl) (by kernel_rfl) (fun _ _ _ h => h) (by kernel_rfl) (Or.inl ⟨by rfl, fun w' _ => by go_simp⟩) M.out ?_
    try simp only [List.getElem_toArray, List.getElem_cons_succ, List.getElem_cons_zero, Act.put, List.setIfInBounds_toArray, List.set_cons_zero, List.set_cons_succ]
    refine anyT_take [3, 4, 7, 8, 9, 10, 11, 12] (i := 2) (v := .pointer (some ⟨q, 0, none⟩)) rfl (by kernel_rfl) (by kernel_rfl) (by kernel_rfl) (fun _ _ _ h => h) (by kernel_rfl) (Or.inl ⟨by rfl, fun w' _ => by go_simp⟩) M.out ?_
    try simp only [List.getElem_toArray, List.getElem_cons_succ, List.getElem_cons_zero, Act.put, List.setIfInBounds_toArray, List.set_cons_zero, List.set_cons_succ]
    refine anyT_take [6, 7, 8, 9, 10, 11, 12] (i := 5) (v := .pointer (some ⟨q, 1, none⟩)) rfl (by kernel_rfl) (by kernel_rfl) (by kernel_rfl) (fun _ _ _ h => h) (by kernel_rfl) (Or.inl ⟨by rfl, fun w' _ => by go_simp⟩) M.out ?_
    try simp only [List.getElem_toArray, List.getElem_cons_succ, List.getElem_cons_zero, Act.put, List.setIfInBounds_toArray, List.set_cons_zero, List.set_cons_succ]
    refine anyT_take [4, 7, 8, 9, 10, 11, 12] (i := 3) (v := .string d) rfl (by kernel_rfl) (by kernel_rfl) (by kernel_rfl) (fun _ _ _ h => h) (by kernel_rfl) (Or.inl ⟨by rfl, fun w' hS => by have c := (cn_cells16 hS.r).1; go_simp⟩) M.out ?_
    try simp only [List.getElem_toArray, List.getElem_cons_succ, List.getElem_cons_zero, Act.put, List.setIfInBounds_toArray, List.set_cons_zero, List.set_cons_succ]
    refine anyT_take [7, 8, 9, 10, 11, 12] (i := 6) (v := .int .i64 a) rfl (by kernel_rfl) (by kernel_rfl) (by kernel_rfl) (fun _ _ _ h => h) (by kernel_rfl) (Or.inl ⟨by rfl, fun w' hS => by have c := (cn_cells16 hS.r).2; go_simp⟩) M.out ?_
    try simp only [List.getElem_toArray, List.getElem_cons_succ, List.getElem_cons_zero, Act.put, List.setIfInBounds_toArray, List.set_cons_zero, List.set_cons_succ]
    refine anyT_one (i := 4) (by kernel_rfl) rfl (fun K hK => ?_)
    rw [if_pos (by rfl)]
    try simp only [List.getElem_toArray, List.getElem_cons_succ, List.getElem_cons_zero]
    (go_simp; (with_reducible refine (HK1.out _).mono ?_); rintro e x1a ⟨rfl, hw⟩; obtain rfl := hw.symm; clear hw)
    refine hK _ _ (fun _ => M.out) ?_
    clear hK K
    try simp only [List.getElem_toArray, List.getElem_cons_succ, List.getElem_cons_zero, Act.put, List.setIfInBounds_toArray, List.set_cons_zero, List.set_cons_succ]
    refine anyT_one (i := 7) (by kernel_rfl) rfl (fun K hK => ?_)
    rw [if_pos (by rfl)]
    try simp only [List.getElem_toArray, List.getElem_cons_succ, List.getElem_cons_zero]
    (go_simp; (with_reducible refine (HC1.out _ _ M.out.e M.out.t).mono ?_); rintro e x1 ⟨v1, rfl, ht, hb⟩; have HT1 := Lib.hid ht; replace M := Lib.hid (M.out.call hb); clear ht hb)
    refine hK _ _ (fun _ => M.out) ?_
    clear hK K
    try simp only [List.getElem_toArray, List.getElem_cons_succ, List.getElem_cons_zero, Act.put, List.setIfInBounds_toArray, List.set_cons_zero, List.set_cons_succ]
    refine anyT_take [9, 10, 11, 12] (i := 8) (v := .tuple #[v1, .iface 107 (.int .i64 (e1 : Int))]) rfl (by kernel_rfl) (by kernel_rfl) (by kernel_rfl) (fun _ _ _ h => h) (by kernel_rfl) (Or.inl ⟨by rfl, fun w' _ => by go_simp⟩) M.out ?_
    try simp only [List.getElem_toArray, List.getElem_cons_succ, List.getElem_cons_zero, Act.put, List.setIfInBounds_toArray, List.set_cons_zero, List.set_cons_succ]
    refine anyT_take [11, 12] (i := 9) (v := v1) rfl (by kernel_rfl) (by kernel_rfl) (by kernel_rfl) (fun _ _ _ h => h) (by kernel_rfl) (Or.inl ⟨by rfl, fun w' _ => by go_simp⟩) M.out ?_
    try simp only [List.getElem_toArray, List.getElem_cons_succ, List.getElem_cons_zero, Act.put, List.setIfInBounds_toArray, List.set_cons_zero, List.set_cons_succ]
    refine anyT_take [12] (i := 10) (v := .iface 107 (.int .i64 (e1 : Int))) rfl (by kernel_rfl) (by kernel_rfl) (by kernel_rfl) (fun _ _ _ h => h) (by kernel_rfl) (Or.inl ⟨by rfl, fun w' _ => by go_simp⟩) M.out ?_
    try simp only [List.getElem_toArray, List.getElem_cons_succ, List.getElem_cons_zero, Act.put, List.setIfInBounds_toArray, List.set_cons_zero, List.set_cons_succ]
    refine anyT_take [12] (i := 11) (v := v1) rfl (by kernel_rfl) (by kernel_rfl) (by kernel_rfl) (fun _ _ _ h => h) (by kernel_rfl) (Or.inl ⟨by rfl, fun w' _ => by go_simp⟩) M.out ?_
    try simp only [List.getElem_toArray, List.getElem_cons_succ, List.getElem_cons_zero, Act.put, List.setIfInBounds_toArray, List.set_cons_zero, List.set_cons_succ]
    refine anyT_take [] (i := 12) (v := .iface 107 (.int .i64 (e1 : Int))) rfl (by kernel_rfl) (by kernel_rfl) (by kernel_rfl) (fun _ _ _ h => h) (by kernel_rfl) (Or.inl ⟨by rfl, fun w' _ => by go_simp⟩) M.out ?_
    try simp only [List.getElem_toArray, List.getElem_cons_succ, List.getElem_cons_zero, Act.put, List.setIfInBounds_toArray, List.set_cons_zero, List.set_cons_succ]
    refine anyT_done (by kernel_rfl) ?_ _
    go_wp2_with (fail)
    go_ret2
    rw [HF.out.1, HF.out.2]
    exact ⟨_, rfl, rfl, M.out.b⟩

  | none =>
    have HF := Lib.hid (show TE = E2 ∧ TT = T2 from ⟨HRE.out, HRT.out⟩)
    simp only [errV, chgQ] at HC1
    clear HRE HRT
    refine wp_region_T (fun W => BkM w q d a va t W) [0, 1, 2, 3, 4, 5, 6, 7, 8, 9, 10, 11, 12] (by kernel_rfl) ?_
    replace M := Lib.hid (M.out.call (Below.refl _ _).drew)
    generalize World.drew _ = d0 at *
    refine anyT_take [7, 8, 9, 10, 11, 12] (i := 0) (v := va) rfl (by kernel_rfl) (by kernel_rfl) (by kernel_rfl) (fun _ _ _ h => h) (by kernel_rfl) (Or.inl ⟨by rfl, fun w' _ => by go_simp⟩) M.out ?_
    try simp only [List.getElem_toArray, List.getElem_cons_succ, List.getElem_cons_zero, Act.put, List.setIfInBounds_toArray, List.set_cons_zero, List.set_cons_succ]
    refine anyT_take [4, 7, 8, 9, 10, 11, 12] (i := 1) (v := .string n) rfl (by kernel_rfl) (by kernel_rfl) (by kernel_rfl) (fun _ _ _ h => h) (by kernel_rfl) (Or.inl ⟨by rfl, fun w' _ => by go_simp⟩) M.out ?_
    try simp only [List.getElem_toArray, List.getElem_cons_succ, List.getElem_cons_zero, Act.put, List.setIfInBounds_toArray, List.set_cons_zero, List.set_cons_succ]
    refine anyT_take [3, 4, 7, 8, 9, 10, 11, 12] (i := 2) (v := .pointer (some ⟨q, 0, none⟩)) rfl (by kernel_rfl) (by kernel_rfl) (by kernel_rfl) (fun _ _ _ h => h) (by kernel_rfl) (Or.inl ⟨by rfl, fun w' _ => by go_simp⟩) M.out ?_
    try simp only [List.getElem_toArray, List.getElem_cons_succ, List.getElem_cons_zero, Act.put, List.setIfInBounds_toArray, List.set_cons_zero, List.set_cons_succ]
    refine anyT_take [6, 7, 8, 9, 10, 11, 12] (i := 5) (v := .pointer (some ⟨q, 1, none⟩)) rfl (by kernel_rfl) (by kernel_rfl) (by kernel_rfl) (fun _ _ _ h => h) (by kernel_rfl) (Or.inl ⟨by rfl, fun w' _ => by go_simp⟩) M.out ?_
    try simp only [List.getElem_toArray, List.getElem_cons_succ, List.getElem_cons_zero, Act.put, List.setIfInBounds_toArray, List.set_cons_zero, List.set_cons_succ]
    refine anyT_take [4, 7, 8, 9, 10, 11, 12] (i := 3) (v := .string d) rfl (by kernel_rfl) (by kernel_rfl) (by kernel_rfl) (fun _ _ _ h => h) (by kernel_rfl) (Or.inl ⟨by rfl, fun w' hS => by have c := (cn_cells16 hS.r).1; go_simp⟩) M.out ?_
    try simp only [List.getElem_toArray, List.getElem_cons_succ, List.getElem_cons_zero, Act.put, List.setIfInBounds_toArray, List.set_cons_zero, List.set_cons_succ]
    refine anyT_take [7, 8, 9, 10, 11, 12] (i := 6) (v := .int .i64 a) rfl (by kernel_rfl) (by kernel_rfl) (by kernel_rfl) (fun _ _ _ h => h) (by kernel_rfl) (Or.inl ⟨by rfl, fun w' hS => by have c := (cn_cells16 hS.r).2; go_simp⟩) M.out ?_
    try simp only [List.getElem_toArray, List.getElem_cons_succ, List.getElem_cons_zero, Act.put, List.setIfInBounds_toArray, List.set_cons_zero, List.set_cons_succ]
    refine anyT_one (i := 4) (by kernel_rfl) rfl (fun K hK => ?_)
    rw [if_pos (by rfl)]
    try simp only [List.getElem_toArray, List.getElem_cons_succ, List.getElem_cons_zero]
    (go_simp; (with_reducible refine (HK1.out _).mono ?_); rintro e x1a ⟨rfl, hw⟩; obtain rfl := hw.symm; clear hw)
    refine hK _ _ (fun _ => M.out) ?_
    clear hK K
    try simp only [List.getElem_toArray, List.getElem_cons_succ, List.getElem_cons_zero, Act.put, List.setIfInBounds_toArray, List.set_cons_zero, List.set_cons_succ]
    refine anyT_one (i := 7) (by kernel_rfl) rfl (fun K hK => ?_)
    rw [if_pos (by rfl)]
    try simp only [List.getElem_toArray, List.getElem_cons_succ, List.getElem_cons_zero]
    (go_simp; (with_reducible refine (HC1.out _ _ M.out.e M.out.t).mono ?_); rintro e x1 ⟨v1, rfl, ht, hb⟩; have HT1 := Lib.hid ht; replace M := Lib.hid (M.out.call hb); clear ht hb)
    refine hK _ _ (fun _ => M.out) ?_
    clear hK K
    try simp only [List.getElem_toArray, List.getElem_cons_succ, List.getElem_cons_zero, Act.put, List.setIfInBounds_toArray, List.set_cons_zero, List.set_cons_succ]
    refine anyT_take [9, 10, 11, 12] (i := 8) (v := .tuple #[v1, .nilIface]) rfl (by kernel_rfl) (by kernel_rfl) (by kernel_rfl) (fun _ _ _ h => h) (by kernel_rfl) (Or.inl ⟨by rfl, fun w' _ => by go_simp⟩) M.out ?_
    try simp only [List.getElem_toArray, List.getElem_cons_succ, List.getElem_cons_zero, Act.put, List.setIfInBounds_toArray, List.set_cons_zero, List.set_cons_succ]
    refine anyT_take [11, 12] (i := 9) (v := v1) rfl (by kernel_rfl) (by kernel_rfl) (by kernel_rfl) (fun _ _ _ h => h) (by kernel_rfl) (Or.inl ⟨by rfl, fun w' _ => by go_simp⟩) M.out ?_
    try simp only [List.getElem_toArray, List.getElem_cons_succ, List.getElem_cons_zero, Act.put, List.setIfInBounds_toArray, List.set_cons_zero, List.set_cons_succ]
    refine anyT_take [12] (i := 10) (v := .nilIface) rfl (by kernel_rfl) (by kernel_rfl) (by kernel_rfl) (fun _ _ _ h => h) (by kernel_rfl) (Or.inl ⟨by rfl, fun w' _ => by go_simp⟩) M.out ?_
    try simp only [List.getElem_toArray, List.getElem_cons_succ, List.getElem_cons_zero, Act.put, List.setIfInBounds_toArray, List.set_cons_zero, List.set_cons_succ]
    refine anyT_take [12] (i := 11) (v := v1) rfl (by kernel_rfl) (by kernel_rfl) (by kernel_rfl) (fun _ _ _ h => h) (by kernel_rfl) (Or.inl ⟨by rfl, fun w' _ => by go_simp⟩) M.out ?_
    try simp only [List.getElem_toArray, List.getElem_cons_succ, List.getElem_cons_zero, Act.put, List.setIfInBounds_toArray, List.set_cons_zero, List.set_cons_succ]
    refine anyT_take [] (i := 12) (v := .nilIface) rfl (by kernel_rfl) (by kernel_rfl) (by kernel_rfl) (fun _ _ _ h => h) (by kernel_rfl) (Or.inl ⟨by rfl, fun w' _ => by go_simp⟩) M.out ?_
    try simp only [List.getElem_toArray, List.getElem_cons_succ, List.getElem_cons_zero, Act.put, List.setIfInBounds_toArray, List.set_cons_zero, List.set_cons_succ]
    refine anyT_done (by kernel_rfl) ?_ _
    replace M := Lib.hid (M.out.tree HT1.out)
    clear HT1 HC1 HK1
    obtain ⟨E2v, hE2v⟩ : ∃ z, z = errV E2 := ⟨_, rfl⟩
    rw [← hE2v] at HC2
    have HEV := Lib.hid hE2v
    clear hE2v
    go_upto_region 7 with (fail)
    refine wp_region_T (fun W => BkM w q d a v1 T1 W) [0, 1, 2, 3, 4, 5, 6, 7, 8, 9, 10] (by kernel_rfl) ?_
    replace M := Lib.hid (M.out.call (Below.refl _ _).drew)
    generalize World.drew _ = d1 at *
    refine anyT_take [6, 7, 8, 9, 10] (i := 0) (v := v1) rfl (by kernel_rfl) (by kernel_rfl) (by kernel_rfl) (fun _ _ _ h => h) (by kernel_rfl) (Or.inl ⟨by rfl, fun w' _ => by go_simp⟩) M.out ?_
    try simp only [List.getElem_toArray, List.getElem_cons_succ, List.getElem_cons_zero, Act.put, List.setIfInBounds_toArray, List.set_cons_zero, List.set_cons_succ]
    refine anyT_take [2, 3, 6, 7, 8, 9, 10] (i := 1) (v := .pointer (some ⟨q, 0, none⟩)) rfl (by kernel_rfl) (by kernel_rfl) (by kernel_rfl) (fun _ _ _ h => h) (by kernel_rfl) (Or.inl ⟨by rfl, fun w' _ => by go_simp⟩) M.out ?_
    try simp only [List.getElem_toArray, List.getElem_cons_succ, List.getElem_cons_zero, Act.put, List.setIfInBounds_toArray, List.set_cons_zero, List.set_cons_succ]
    refine anyT_take [5, 6, 7, 8, 9, 10] (i := 4) (v := .pointer (some ⟨q, 1, none⟩)) rfl (by kernel_rfl) (by kernel_rfl) (by kernel_rfl) (fun _ _ _ h => h) (by kernel_rfl) (Or.inl ⟨by rfl, fun w' _ => by go_simp⟩) M.out ?_
    try simp only [List.getElem_toArray, List.getElem_cons_succ, List.getElem_cons_zero, Act.put, List.setIfInBounds_toArray, List.set_cons_zero, List.set_cons_succ]
    refine anyT_take [3, 6, 7, 8, 9, 10] (i := 2) (v := .string d) rfl (by kernel_rfl) (by kernel_rfl) (by kernel_rfl) (fun _ _ _ h => h) (by kernel_rfl) (Or.inl ⟨by rfl, fun w' hS => by have c := (cn_cells16 hS.r).1; go_simp⟩) M.out ?_
    try simp only [List.getElem_toArray, List.getElem_cons_succ, List.getElem_cons_zero, Act.put, List.setIfInBounds_toArray, List.set_cons_zero, List.set_cons_succ]
    refine anyT_take [6, 7, 8, 9, 10] (i := 5) (v := .int .i64 a) rfl (by kernel_rfl) (by kernel_rfl) (by kernel_rfl) (fun _ _ _ h => h) (by kernel_rfl) (Or.inl ⟨by rfl, fun w' hS => by have c := (cn_cells16 hS.r).2; go_simp⟩) M.out ?_
    try simp only [List.getElem_toArray, List.getElem_cons_succ, List.getElem_cons_zero, Act.put, List.setIfInBounds_toArray, List.set_cons_zero, List.set_cons_succ]
    refine anyT_one (i := 3) (by kernel_rfl) rfl (fun K hK => ?_)
    rw [if_pos (by rfl)]
    try simp only [List.getElem_toArray, List.getElem_cons_succ, List.getElem_cons_zero]
    (go_simp; (with_reducible refine (HK2.out _).mono ?_); rintro e x2a ⟨rfl, hw⟩; obtain rfl := hw.symm; clear hw)
    refine hK _ _ (fun _ => M.out) ?_
    clear hK K
    try simp only [List.getElem_toArray, List.getElem_cons_succ, List.getElem_cons_zero, Act.put, List.setIfInBounds_toArray, List.set_cons_zero, List.set_cons_succ]
    refine anyT_one (i := 6) (by kernel_rfl) rfl (fun K hK => ?_)
    rw [if_pos (by rfl)]
    try simp only [List.getElem_toArray, List.getElem_cons_succ, List.getElem_cons_zero]
    (go_simp; (with_reducible refine (HC2.out _ _ M.out.e M.out.t).mono ?_); rintro e x2 ⟨v2, rfl, ht, hb⟩; have HT2 := Lib.hid ht; replace M := Lib.hid (M.out.call hb); clear ht hb)
    refine hK _ _ (fun _ => M.out) ?_
    clear hK K
    try simp only [List.getElem_toArray, List.getElem_cons_succ, List.getElem_cons_zero, Act.put, List.setIfInBounds_toArray, List.set_cons_zero, List.set_cons_succ]
    refine anyT_take [9, 10] (i := 7) (v := v2) rfl (by kernel_rfl) (by kernel_rfl) (by kernel_rfl) (fun _ _ _ h => h) (by kernel_rfl) (Or.inl ⟨by rfl, fun w' _ => by go_simp⟩) M.out ?_
    try simp only [List.getElem_toArray, List.getElem_cons_succ, List.getElem_cons_zero, Act.put, List.setIfInBounds_toArray, List.set_cons_zero, List.set_cons_succ]
    refine anyT_take [9, 10] (i := 8) (v := E2v) rfl (by kernel_rfl) (by kernel_rfl) (by kernel_rfl) (fun _ _ _ h => h) (by kernel_rfl) (Or.inl ⟨by rfl, fun w' _ => by go_simp⟩) M.out ?_
    try simp only [List.getElem_toArray, List.getElem_cons_succ, List.getElem_cons_zero, Act.put, List.setIfInBounds_toArray, List.set_cons_zero, List.set_cons_succ]
    refine anyT_take [10] (i := 9) (v := v2) rfl (by kernel_rfl) (by kernel_rfl) (by kernel_rfl) (fun _ _ _ h => h) (by kernel_rfl) (Or.inl ⟨by rfl, fun w' _ => by go_simp⟩) M.out ?_
    try simp only [List.getElem_toArray, List.getElem_cons_succ, List.getElem_cons_zero, Act.put, List.setIfInBounds_toArray, List.set_cons_zero, List.set_cons_succ]
    refine anyT_take [] (i := 10) (v := E2v) rfl (by kernel_rfl) (by kernel_rfl) (by kernel_rfl) (fun _ _ _ h => h) (by kernel_rfl) (Or.inl ⟨by rfl, fun w' _ => by go_simp⟩) M.out ?_
    try simp only [List.getElem_toArray, List.getElem_cons_succ, List.getElem_cons_zero, Act.put, List.setIfInBounds_toArray, List.set_cons_zero, List.set_cons_succ]
    refine anyT_done (by kernel_rfl) ?_ _
    go_wp2_with (fail)
    go_ret2
    rw [HF.out.1, HF.out.2, ← HEV.out]
    exact ⟨_, rfl, HT2.out, M.out.b⟩

set_option maxHeartbeats 8000000 in
theorem bksend_bad (va : Value) (t : Option AvT) (n m d : ByteArray) (a : Int) (w : World) (c : Nat) (he : Env w) (ht : TreeO w va t) (hn0 : n.size ≤ 140737488351232 ∧ m.size ≤ 140737488351232) (hd0 : d.size ≤ 140737488351232) (hc : ckC d [n, m] = some c) :
    Calls Tryz.prog 48 #[va, .string n, .string m, .agg #[.string d, .int .i64 a]] w (ChgPost (sendR t n m d a).e (sendR t n m d a).t w) := by
  have hba := below_alloc w (.cells #[.string d, .int .i64 a] 23)
  have M := Lib.hid (show BkM w w.heap.size d a va t (w.alloc (.cells #[.string d, .int .i64 a] 23)) from ⟨hba, heap_alloc_new w _, ht.below hba, he.below hba he.lt⟩)
  have HCK := Lib.hid (fun (W : World) (v : Value) (h : NmIn W v [n, m]) => bkck_any d a [n, m] v W h (by intro s hs; simp only [List.mem_cons, List.not_mem_nil, or_false] at hs; rcases hs with rfl | rfl <;> omega) hd0)
  rw [hc] at HCK
  have HF := Lib.hid (show (sendR t n m d a).e = some c ∧ (sendR t n m d a).t = none from ⟨by unfold sendR stp2 st2E; rw [hc], by unfold sendR stp2 st2T; rw [hc]⟩)
  rw [HF.out.1, HF.out.2]
  unfold ChgPost
  clear HF hc hba he ht hn0 hd0
  simp only [errV] at HCK
  go_enter Tryz.func48, Tryz.ntmps48
  go_upto_region 1 with (fail)
  obtain ⟨q, hq⟩ : ∃ q, q = w.heap.size := ⟨_, rfl⟩
  rw [← hq] at M ⊢
  clear hq
  generalize w.alloc (.cells #[.string d, .int .i64 a] 23) = w1 at *
  go_wp2_with (first
    | (refine wpList_load_rowT (by rfl) 23 (.tmp 7) rfl q 0 rfl #[.string d, .int .i64 a] _ (rowT_range M.out.r) Tryz.underlying23 rfl (by kernel_rfl) ?_)
    | (refine wpList_nm2 rfl _ _ rfl n m rfl rfl ?_; have HNI := Lib.hid (nm2_in w1 n m); have hb := below_alloc w1 (.cells #[.string n, .string m] 9); replace M := Lib.hid (M.out.call hb); clear hb)
    | (go_at_call 112; (with_reducible refine (HCK.out _ _ HNI.out).mono ?_); rintro e w2 ⟨rfl, hb⟩; replace M := Lib.hid (M.out.call hb); clear hb))
  go_ret2
  exact ⟨_, rfl, rfl, M.out.b⟩
set_option maxHeartbeats 8000000 in
theorem bksend_any (va : Value) (t : Option AvT) (n m d : ByteArray) (a : Int) (w : World) (g : Nat) (he : Env w) (ht : TreeO w va t) (hg : GT 140737488351232 g t) (hgn : g + 2 ≤ 4611686018427387904) (hn0 : n.size ≤ 140737488351232 ∧ m.size ≤ 140737488351232) (hd0 : d.size ≤ 140737488351232) :
    Calls Tryz.prog 48 #[va, .string n, .string m, .agg #[.string d, .int .i64 a]] w (ChgPost (sendR t n m d a).e (sendR t n m d a).t w) := by
  by_cases hC0 : ckC d [n, m] = none
  case neg =>
    obtain ⟨c, hc⟩ : ∃ c, ckC d [n, m] = some c := by
      cases h : ckC d [n, m] with
      | none => exact absurd h hC0
      | some c => exact ⟨c, rfl⟩
    exact bksend_bad va t n m d a w c he ht hn0 hd0 hc
  have hz : n.size + m.size + d.size ≤ 140737488350000 := by
    obtain ⟨h1, h2⟩ := ckC_parts hC0
    have := chkD_size h2
    have := ckN_two h1
    omega
  have hba := below_alloc w (.cells #[.string d, .int .i64 a] 23)
  have M := Lib.hid (show BkM w w.heap.size d a va t (w.alloc (.cells #[.string d, .int .i64 a] 23)) from ⟨hba, heap_alloc_new w _, ht.below hba, he.below hba he.lt⟩)
  have HCK := Lib.hid (fun (W : World) (v : Value) (h : NmIn W v [n, m]) => bkck_any d a [n, m] v W h (by intro s hs; simp only [List.mem_cons, List.not_mem_nil, or_false] at hs; rcases hs with rfl | rfl <;> omega) (by omega))
  have HK1 := Lib.hid (fun W => show Calls Tryz.prog 98 #[.string n, .string d] W fun e w' => e = .returned (.string (balK n d)) ∧ w' = W from bkbal_any n d W (by omega))
  have HK2 := Lib.hid (fun W => show Calls Tryz.prog 98 #[.string m, .string d] W fun e w' => e = .returned (.string (balK m d)) ∧ w' = W from bkbal_any m d W (by omega))
  have HC1 := Lib.hid (fun (W : World) (v : Value) (h : Env W) (k : TreeO W v t) => bkchgsub_any v t (balK n d) a W h k (hg.val _) (by rw [balK_size]; omega) (by have := hg.many; omega))
  have hg1 : GT 140737488351232 (g + 1) (chgT t (balK n d) (subR (bkV t (balK n d)) a)) := hg.chg _ subR_amt (by rw [balK_size]; omega)
  have HC2 := Lib.hid (fun (W : World) (v : Value) (h : Env W) (k : TreeO W v (chgT t (balK n d) (subR (bkV t (balK n d)) a))) => bkchgadd_any v (chgT t (balK n d) (subR (bkV t (balK n d)) a)) (balK m d) a W h k (hg1.val _) (by rw [balK_size]; omega) (by have := hg1.many; omega))
  obtain ⟨C, hC⟩ : ∃ c, c = ckC d [n, m] := ⟨_, rfl⟩
  obtain ⟨E1, hE1⟩ : ∃ c, c = subE (bkV t (balK n d)) a := ⟨_, rfl⟩
  obtain ⟨T1, hT1⟩ : ∃ c, c = chgT t (balK n d) (subR (bkV t (balK n d)) a) := ⟨_, rfl⟩
  obtain ⟨E2, hE2⟩ : ∃ c, c = addE (bkV T1 (balK m d)) a := ⟨_, rfl⟩
  obtain ⟨T2, hT2⟩ : ∃ c, c = chgO E2 T1 (balK m d) (addR (bkV T1 (balK m d)) a) := ⟨_, rfl⟩
  obtain ⟨TE, hTE⟩ : ∃ c, c = (sendR t n m d a).e := ⟨_, rfl⟩
  obtain ⟨TT, hTT⟩ : ∃ c, c = (sendR t n m d a).t := ⟨_, rfl⟩
  have HRE := Lib.hid (show TE = st2E C E1 E2 from by rw [hTE, hC, hE1, hE2, hT1]; rfl)
  have HRT := Lib.hid (show TT = st2T C E1 T2 from by rw [hTT, hC, hE1, hT2, hE2, hT1]; rfl)
  have HC1' := Lib.hid (show ∀ (W : World) (v : Value), Env W → TreeO W v t → Calls Tryz.prog 113 #[v, .string (balK n d), .func (.func 114) #[] #[], .int .i64 a] W (ChgPost E1 (chgQ E1 T1) W) from fun W v h k => by
    have h2 := HC1.out W v h k
    rw [← hE1] at h2
    rw [chgO_Q, ← hT1] at h2
    exact h2)
  have HC2' := Lib.hid (show ∀ (W : World) (v : Value), Env W → TreeO W v T1 → Calls Tryz.prog 113 #[v, .string (balK m d), .func (.func 103) #[] #[], .int .i64 a] W (ChgPost E2 T2 W) from fun W v h k => by
    rw [hT1] at k
    have h2 := HC2.out W v h k
    rw [← hT1, ← hE2, ← hT2] at h2
    exact h2)
  rw [← hTE, ← hTT]
  rw [← hC] at HCK
  clear HC1 HC2 hg1
  obtain ⟨K1, hK1⟩ : ∃ k, k = balK n d := ⟨_, rfl⟩
  obtain ⟨K2, hK2⟩ : ∃ k, k = balK m d := ⟨_, rfl⟩
  rw [← hK1] at HK1 HC1'
  rw [← hK2] at HK2 HC2'
  have HC1 := HC1'
  have HC2 := HC2'
  clear hE1 hT1 hE2 hT2 hTE hTT hK1 hK2 hba he ht hg hgn hz HC1' HC2' hn0 hd0
  unfold ChgPost at HC1 HC2 ⊢
  obtain rfl : C = none := hC.trans hC0
  clear hC hC0
  simp only [errV] at HCK
  go_enter Tryz.func48, Tryz.ntmps48
  go_upto_region 1 with (fail)
  obtain ⟨q, hq⟩ : ∃ q, q = w.heap.size := ⟨_, rfl⟩
  rw [← hq] at M ⊢
  clear hq
  generalize w.alloc (.cells #[.string d, .int .i64 a] 23) = w1 at *
  go_upto_region 4 with (first
    | (refine wpList_load_rowT (by rfl) 23 (.tmp 7) rfl q 0 rfl #[.string d, .int .i64 a] _ (rowT_range M.out.r) Tryz.underlying23 rfl (by kernel_rfl) ?_)
    | (refine wpList_nm2 rfl _ _ rfl n m rfl rfl ?_; have HNI := Lib.hid (nm2_in w1 n m); have hb := below_alloc w1 (.cells #[.string n, .string m] 9); replace M := Lib.hid (M.out.call hb); clear hb)
    | (go_at_call 112; (with_reducible refine (HCK.out _ _ HNI.out).mono ?_); rintro e w2 ⟨rfl, hb⟩; replace M := Lib.hid (M.out.call hb); clear hb HNI))

  cases E1 with
  | some e1 =>
    have HF := Lib.hid (show TE = some e1 ∧ TT = none from ⟨HRE.out, HRT.out⟩)
    simp only [errV, chgQ] at HC1
    clear HRE HRT HC2 HK2
    refine wp_region_T (fun W => BkM w q d a va t W) [0, 1, 2, 3, 4, 5, 6, 7, 8, 9, 10, 11, 12] (by kernel_rfl) ?_
    replace M := Lib.hid (M.out.call (Below.refl _ _).drew)
    generalize World.drew _ = d0 at *
    refine anyT_take [7, 8, 9, 10, 11, 12] (i := 0) (v := va) rfl (by kernel_rfl) (by kernel_rfl) (by kernel_rfl) (fun _ _ _ h => h) (by kernel_rfl) (Or.inl ⟨by rfl, fun w' _ => by go_simp⟩) M.out ?_
    try simp only [List.getElem_toArray, List.getElem_cons_succ, List.getElem_cons_zero, Act.put, List.setIfInBounds_toArray, List.set_cons_zero, List.set_cons_succ]
    refine anyT_take [4, 7, 8, 9, 10, 11, 12] (i := 1) (v := .string n) rfl (by kernel_rfl) (by kernel_rfl) (by kernel_rfl) (fun _ _ _ h => h) (by kernel_rfl) (Or.inl ⟨by rfl, fun w' _ => by go_simp⟩) M.out ?_
    try simp only [List.getElem_toArray, List.getElem_cons_succ, List.getElem_cons_zero, Act.put, List.setIfInBounds_toArray, List.set_cons_zero, List.set_cons_succ]
    refine anyT_take [3, 4, 7, 8, 9, 10, 11, 12] (i := 2) (v := .pointer (some ⟨q, 0, none⟩)) rfl (by kernel_rfl) (by kernel_rfl) (by kernel_rfl) (fun _ _ _ h => h) (by kernel_rfl) (Or.inl ⟨by rfl, fun w' _ => by go_simp⟩) M.out ?_
    try simp only [List.getElem_toArray, List.getElem_cons_succ, List.getElem_cons_zero, Act.put, List.setIfInBounds_toArray, List.set_cons_zero, List.set_cons_succ]
    refine anyT_take [6, 7, 8, 9, 10, 11, 12] (i := 5) (v := .pointer (some ⟨q, 1, none⟩)) rfl (by kernel_rfl) (by kernel_rfl) (by kernel_rfl) (fun _ _ _ h => h) (by kernel_rfl) (Or.inl ⟨by rfl, fun w' _ => by go_simp⟩) M.out ?_
    try simp only [List.getElem_toArray, List.getElem_cons_succ, List.getElem_cons_zero, Act.put, List.setIfInBounds_toArray, List.set_cons_zero, List.set_cons_succ]
    refine anyT_take [4, 7, 8, 9, 10, 11, 12] (i := 3) (v := .string d) rfl (by kernel_rfl) (by kernel_rfl) (by kernel_rfl) (fun _ _ _ h => h) (by kernel_rfl) (Or.inl ⟨by rfl, fun w' hS => by have c := (cn_cells16 hS.r).1; go_simp⟩) M.out ?_
    try simp only [List.getElem_toArray, List.getElem_cons_succ, List.getElem_cons_zero, Act.put, List.setIfInBounds_toArray, List.set_cons_zero, List.set_cons_succ]
    refine anyT_take [7, 8, 9, 10, 11, 12] (i := 6) (v := .int .i64 a) rfl (by kernel_rfl) (by kernel_rfl) (by kernel_rfl) (fun _ _ _ h => h) (by kernel_rfl) (Or.inl ⟨by rfl, fun w' hS => by have c := (cn_cells16 hS.r).2; go_simp⟩) M.out ?_
    try simp only [List.getElem_toArray, List.getElem_cons_succ, List.getElem_cons_zero, Act.put, List.setIfInBounds_toArray, List.set_cons_zero, List.set_cons_succ]
    refine anyT_one (i := 4) (by kernel_rfl) rfl (fun K hK => ?_)
    rw [if_pos (by rfl)]
    try simp only [List.getElem_toArray, List.getElem_cons_succ, List.getElem_cons_zero]
    (go_simp; (with_reducible refine (HK1.out _).mono ?_); rintro e x1a ⟨rfl, hw⟩; obtain rfl := hw.symm; clear hw)
    refine hK _ _ (fun _ => M.out) ?_
    clear hK K
    try simp only [List.getElem_toArray, List.getElem_cons_succ, List.getElem_cons_zero, Act.put, List.setIfInBounds_toArray, List.set_cons_zero, List.set_cons_succ]
    refine anyT_one (i := 7) (by kernel_rfl) rfl (fun K hK => ?_)
    rw [if_pos (by rfl)]
    try simp only [List.getElem_toArray, List.getElem_cons_succ, List.getElem_cons_zero]
    (go_simp; (with_reducible refine (HC1.out _ _ M.out.e M.out.t).mono ?_); rintro e x1 ⟨v1, rfl, ht, hb⟩; have HT1 := Lib.hid ht; replace M := Lib.hid (M.out.call hb); clear ht hb)
    refine hK _ _ (fun _ => M.out) ?_
    clear hK K
    try simp only [List.getElem_toArray, List.getElem_cons_succ, List.getElem_cons_zero, Act.put, List.setIfInBounds_toArray, List.set_cons_zero, List.set_cons_succ]
    refine anyT_take [9, 10, 11, 12] (i := 8) (v := .tuple #[v1, .iface 107 (.int .i64 (e1 : Int))]) rfl (by kernel_rfl) (by kernel_rfl) (by kernel_rfl) (fun _ _ _ h => h) (by kernel_rfl) (Or.inl ⟨by rfl, fun w' _ => by go_simp⟩) M.out ?_
    try simp only [List.getElem_toArray, List.getElem_cons_succ, List.getElem_cons_zero, Act.put, List.setIfInBounds_toArray, List.set_cons_zero, List.set_cons_succ]
    refine anyT_take [11, 12] (i := 9) (v := v1) rfl (by kernel_rfl) (by kernel_rfl) (by kernel_rfl) (fun _ _ _ h => h) (by kernel_rfl) (Or.inl ⟨by rfl, fun w' _ => by go_simp⟩) M.out ?_
    try simp only [List.getElem_toArray, List.getElem_cons_succ, List.getElem_cons_zero, Act.put, List.setIfInBounds_toArray, List.set_cons_zero, List.set_cons_succ]
    refine anyT_take [12] (i := 10) (v := .iface 107 (.int .i64 (e1 : Int))) rfl (by kernel_rfl) (by kernel_rfl) (by kernel_rfl) (fun _ _ _ h => h) (by kernel_rfl) (Or.inl ⟨by rfl, fun w' _ => by go_simp⟩) M.out ?_
    try simp only [List.getElem_toArray, List.getElem_cons_succ, List.getElem_cons_zero, Act.put, List.setIfInBounds_toArray, List.set_cons_zero, List.set_cons_succ]
    refine anyT_take [12] (i := 11) (v := v1) rfl (by kernel_rfl) (by kernel_rfl) (by kernel_rfl) (fun _ _ _ h => h) (by kernel_rfl) (Or.inl ⟨by rfl, fun w' _ => by go_simp⟩) M.out ?_
    try simp only [List.getElem_toArray, List.getElem_cons_succ, List.getElem_cons_zero, Act.put, List.setIfInBounds_toArray, List.set_cons_zero, List.set_cons_succ]
    refine anyT_take [] (i := 12) (v := .iface 107 (.int .i64 (e1 : Int))) rfl (by kernel_rfl) (by kernel_rfl) (by kernel_rfl) (fun _ _ _ h => h) (by kernel_rfl) (Or.inl ⟨by rfl, fun w' _ => by go_simp⟩) M.out ?_
    try simp only [List.getElem_toArray, List.getElem_cons_succ, List.getElem_cons_zero, Act.put, List.setIfInBounds_toArray, List.set_cons_zero, List.set_cons_succ]
    refine anyT_done (by kernel_rfl) ?_ _
    go_wp2_with (fail)
    go_ret2
    rw [HF.out.1, HF.out.2]
    exact ⟨_, rfl, rfl, M.out.b⟩

  | none =>
    have HF := Lib.hid (show TE = E2 ∧ TT = T2 from ⟨HRE.out, HRT.out⟩)
    simp only [errV, chgQ] at HC1
    clear HRE HRT
    refine wp_region_T (fun W => BkM w q d a va t W) [0, 1, 2, 3, 4, 5, 6, 7, 8, 9, 10, 11, 12] (by kernel_rfl) ?_
    replace M := Lib.hid (M.out.call (Below.refl _ _).drew)
    generalize World.drew _ = d0 at *
    refine anyT_take [7, 8, 9, 10, 11, 12] (i := 0) (v := va) rfl (by kernel_rfl) (by kernel_rfl) (by kernel_rfl) (fun _ _ _ h => h) (by kernel_rfl) (Or.inl ⟨by rfl, fun w' _ => by go_simp⟩) M.out ?_
    try simp only [List.getElem_toArray, List.getElem_cons_succ, List.getElem_cons_zero, Act.put, List.setIfInBounds_toArray, List.set_cons_zero, List.set_cons_succ]
    refine anyT_take [4, 7, 8, 9, 10, 11, 12] (i := 1) (v := .string n) rfl (by kernel_rfl) (by kernel_rfl) (by kernel_rfl) (fun _ _ _ h => h) (by kernel_rfl) (Or.inl ⟨by rfl, fun w' _ => by go_simp⟩) M.out ?_
    try simp only [List.getElem_toArray, List.getElem_cons_succ, List.getElem_cons_zero, Act.put, List.setIfInBounds_toArray, List.set_cons_zero, List.set_cons_succ]
    refine anyT_take [3, 4, 7, 8, 9, 10, 11, 12] (i := 2) (v := .pointer (some ⟨q, 0, none⟩)) rfl (by kernel_rfl) (by kernel_rfl) (by kernel_rfl) (fun _ _ _ h => h) (by kernel_rfl) (Or.inl ⟨by rfl, fun w' _ => by go_simp⟩) M.out ?_
    try simp only [List.getElem_toArray, List.getElem_cons_succ, List.getElem_cons_zero, Act.put, List.setIfInBounds_toArray, List.set_cons_zero, List.set_cons_succ]
    refine anyT_take [6, 7, 8, 9, 10, 11, 12] (i := 5) (v := .pointer (some ⟨q, 1, none⟩)) rfl (by kernel_rfl) (by kernel_rfl) (by kernel_rfl) (fun _ _ _ h => h) (by kernel_rfl) (Or.inl ⟨by rfl, fun w' _ => by go_simp⟩) M.out ?_
    try simp only [List.getElem_toArray, List.getElem_cons_succ, List.getElem_cons_zero, Act.put, List.setIfInBounds_toArray, List.set_cons_zero, List.set_cons_succ]
    refine anyT_take [4, 7, 8, 9, 10, 11, 12] (i := 3) (v := .string d) rfl (by kernel_rfl) (by kernel_rfl) (by kernel_rfl) (fun _ _ _ h => h) (by kernel_rfl) (Or.inl ⟨by rfl, fun w' hS => by have c := (cn_cells16 hS.r).1; go_simp⟩) M.out ?_
    try simp only [List.getElem_toArray, List.getElem_cons_succ, List.getElem_cons_zero, Act.put, List.setIfInBounds_toArray, List.set_cons_zero, List.set_cons_succ]
    refine anyT_take [7, 8, 9, 10, 11, 12] (i := 6) (v := .int .i64 a) rfl (by kernel_rfl) (by kernel_rfl) (by kernel_rfl) (fun _ _ _ h => h) (by kernel_rfl) (Or.inl ⟨by rfl, fun w' hS => by have c := (cn_cells16 hS.r).2; go_simp⟩) M.out ?_
    try simp only [List.getElem_toArray, List.getElem_cons_succ, List.getElem_cons_zero, Act.put, List.setIfInBounds_toArray, List.set_cons_zero, List.set_cons_succ]
    refine anyT_one (i := 4) (by kernel_rfl) rfl (fun K hK => ?_)
    rw [if_pos (by rfl)]
    try simp only [List.getElem_toArray, List.getElem_cons_succ, List.getElem_cons_zero]
    (go_simp; (with_reducible refine (HK1.out _).mono ?_); rintro e x1a ⟨rfl, hw⟩; obtain rfl := hw.symm; clear hw)
    refine hK _ _ (fun _ => M.out) ?_
    clear hK K
    try simp only [List.getElem_toArray, List.getElem_cons_succ, List.getElem_cons_zero, Act.put, List.setIfInBounds_toArray, List.set_cons_zero, List.set_cons_succ]
    refine anyT_one (i := 7) (by kernel_rfl) rfl (fun K hK => ?_)
    rw [if_pos (by rfl)]
    try simp only [List.getElem_toArray, List.getElem_cons_succ, List.getElem_cons_zero]
    (go_simp; (with_reducible refine (HC1.out _ _ M.out.e M.out.t).mono ?_); rintro e x1 ⟨v1, rfl, ht, hb⟩; have HT1 := Lib.hid ht; replace M := Lib.hid (M.out.call hb); clear ht hb)
    refine hK _ _ (fun _ => M.out) ?_
    clear hK K
    try simp only [List.getElem_toArray, List.getElem_cons_succ, List.getElem_cons_zero, Act.put, List.setIfInBounds_toArray, List.set_cons_zero, List.set_cons_succ]
    refine anyT_take [9, 10, 11, 12] (i := 8) (v := .tuple #[v1, .nilIface]) rfl (by kernel_rfl) (by kernel_rfl) (by kernel_rfl) (fun _ _ _ h => h) (by kernel_rfl) (Or.inl ⟨by rfl, fun w' _ => by go_simp⟩) M.out ?_
    try simp only [List.getElem_toArray, List.getElem_cons_succ, List.getElem_cons_zero, Act.put, List.setIfInBounds_toArray, List.set_cons_zero, List.set_cons_succ]
    refine anyT_take [11, 12] (i := 9) (v := v1) rfl (by kernel_rfl) (by kernel_rfl) (by kernel_rfl) (fun _ _ _ h => h) (by kernel_rfl) (Or.inl ⟨by rfl, fun w' _ => by go_simp⟩) M.out ?_
    try simp only [List.getElem_toArray, List.getElem_cons_succ, List.getElem_cons_zero, Act.put, List.setIfInBounds_toArray, List.set_cons_zero, List.set_cons_succ]
    refine anyT_take [12] (i := 10) (v := .nilIface) rfl (by kernel_rfl) (by kernel_rfl) (by kernel_rfl) (fun _ _ _ h => h) (by kernel_rfl) (Or.inl ⟨by rfl, fun w' _ => by go_simp⟩) M.out ?_
    try simp only [List.getElem_toArray, List.getElem_cons_succ, List.getElem_cons_zero, Act.put, List.setIfInBounds_toArray, List.set_cons_zero, List.set_cons_succ]
    refine anyT_take [12] (i := 11) (v := v1) rfl (by kernel_rfl) (by kernel_rfl) (by kernel_rfl) (fun _ _ _ h => h) (by kernel_rfl) (Or.inl ⟨by rfl, fun w' _ => by go_simp⟩) M.out ?_
    try simp only [List.getElem_toArray, List.getElem_cons_succ, List.getElem_cons_zero, Act.put, List.setIfInBounds_toArray, List.set_cons_zero, List.set_cons_succ]
    refine anyT_take [] (i := 12) (v := .nilIface) rfl (by kernel_rfl) (by kernel_rfl) (by kernel_rfl) (fun _ _ _ h => h) (by kernel_rfl) (Or.inl ⟨by rfl, fun w' _ => by go_simp⟩) M.out ?_
    try simp only [List.getElem_toArray, List.getElem_cons_succ, List.getElem_cons_zero, Act.put, List.setIfInBounds_toArray, List.set_cons_zero, List.set_cons_succ]
    refine anyT_done (by kernel_rfl) ?_ _
    replace M := Lib.hid (M.out.tree HT1.out)
    clear HT1 HC1 HK1
    obtain ⟨E2v, hE2v⟩ : ∃ z, z = errV E2 := ⟨_, rfl⟩
    rw [← hE2v] at HC2
    have HEV := Lib.hid hE2v
    clear hE2v
    go_upto_region 7 with (fail)
    refine wp_region_T (fun W => BkM w q d a v1 T1 W) [0, 1, 2, 3, 4, 5, 6, 7, 8, 9, 10, 11] (by kernel_rfl) ?_
    replace M := Lib.hid (M.out.call (Below.refl _ _).drew)
    generalize World.drew _ = d1 at *
    refine anyT_take [7, 8, 9, 10, 11] (i := 0) (v := v1) rfl (by kernel_rfl) (by kernel_rfl) (by kernel_rfl) (fun _ _ _ h => h) (by kernel_rfl) (Or.inl ⟨by rfl, fun w' _ => by go_simp⟩) M.out ?_
    try simp only [List.getElem_toArray, List.getElem_cons_succ, List.getElem_cons_zero, Act.put, List.setIfInBounds_toArray, List.set_cons_zero, List.set_cons_succ]
    refine anyT_take [4, 7, 8, 9, 10, 11] (i := 1) (v := .string m) rfl (by kernel_rfl) (by kernel_rfl) (by kernel_rfl) (fun _ _ _ h => h) (by kernel_rfl) (Or.inl ⟨by rfl, fun w' _ => by go_simp⟩) M.out ?_
    try simp only [List.getElem_toArray, List.getElem_cons_succ, List.getElem_cons_zero, Act.put, List.setIfInBounds_toArray, List.set_cons_zero, List.set_cons_succ]
    refine anyT_take [3, 4, 7, 8, 9, 10, 11] (i := 2) (v := .pointer (some ⟨q, 0, none⟩)) rfl (by kernel_rfl) (by kernel_rfl) (by kernel_rfl) (fun _ _ _ h => h) (by kernel_rfl) (Or.inl ⟨by rfl, fun w' _ => by go_simp⟩) M.out ?_
    try simp only [List.getElem_toArray, List.getElem_cons_succ, List.getElem_cons_zero, Act.put, List.setIfInBounds_toArray, List.set_cons_zero, List.set_cons_succ]
    refine anyT_take [6, 7, 8, 9, 10, 11] (i := 5) (v := .pointer (some ⟨q, 1, none⟩)) rfl (by kernel_rfl) (by kernel_rfl) (by kernel_rfl) (fun _ _ _ h => h) (by kernel_rfl) (Or.inl ⟨by rfl, fun w' _ => by go_simp⟩) M.out ?_
    try simp only [List.getElem_toArray, List.getElem_cons_succ, List.getElem_cons_zero, Act.put, List.setIfInBounds_toArray, List.set_cons_zero, List.set_cons_succ]
    refine anyT_take [4, 7, 8, 9, 10, 11] (i := 3) (v := .string d) rfl (by kernel_rfl) (by kernel_rfl) (by kernel_rfl) (fun _ _ _ h => h) (by kernel_rfl) (Or.inl ⟨by rfl, fun w' hS => by have c := (cn_cells16 hS.r).1; go_simp⟩) M.out ?_
    try simp only [List.getElem_toArray, List.getElem_cons_succ, List.getElem_cons_zero, Act.put, List.setIfInBounds_toArray, List.set_cons_zero, List.set_cons_succ]
    refine anyT_take [7, 8, 9, 10, 11] (i := 6) (v := .int .i64 a) rfl (by kernel_rfl) (by kernel_rfl) (by kernel_rfl) (fun _ _ _ h => h) (by kernel_rfl) (Or.inl ⟨by rfl, fun w' hS => by have c := (cn_cells16 hS.r).2; go_simp⟩) M.out ?_
    try simp only [List.getElem_toArray, List.getElem_cons_succ, List.getElem_cons_zero, Act.put, List.setIfInBounds_toArray, List.set_cons_zero, List.set_cons_succ]
    refine anyT_one (i := 4) (by kernel_rfl) rfl (fun K hK => ?_)
    rw [if_pos (by rfl)]
    try simp only [List.getElem_toArray, List.getElem_cons_succ, List.getElem_cons_zero]
    (go_simp; (with_reducible refine (HK2.out _).mono ?_); rintro e x2a ⟨rfl, hw⟩; obtain rfl := hw.symm; clear hw)
    refine hK _ _ (fun _ => M.out) ?_
    clear hK K
    try simp only [List.getElem_toArray, List.getElem_cons_succ, List.getElem_cons_zero, Act.put, List.setIfInBounds_toArray, List.set_cons_zero, List.set_cons_succ]
    refine anyT_one (i := 7) (by kernel_rfl) rfl (fun K hK => ?_)
    rw [if_pos (by rfl)]
    try simp only [List.getElem_toArray, List.getElem_cons_succ, List.getElem_cons_zero]
    (go_simp; (with_reducible refine (HC2.out _ _ M.out.e M.out.t).mono ?_); rintro e x2 ⟨v2, rfl, ht, hb⟩; have HT2 := Lib.hid ht; replace M := Lib.hid (M.out.call hb); clear ht hb)
    refine hK _ _ (fun _ => M.out) ?_
    clear hK K
    try simp only [List.getElem_toArray, List.getElem_cons_succ, List.getElem_cons_zero, Act.put, List.setIfInBounds_toArray, List.set_cons_zero, List.set_cons_succ]
    refine anyT_take [10, 11] (i := 8) (v := v2) rfl (by kernel_rfl) (by kernel_rfl) (by kernel_rfl) (fun _ _ _ h => h) (by kernel_rfl) (Or.inl ⟨by rfl, fun w' _ => by go_simp⟩) M.out ?_
    try simp only [List.getElem_toArray, List.getElem_cons_succ, List.getElem_cons_zero, Act.put, List.setIfInBounds_toArray, List.set_cons_zero, List.set_cons_succ]
    refine anyT_take [10, 11] (i := 9) (v := E2v) rfl (by kernel_rfl) (by kernel_rfl) (by kernel_rfl) (fun _ _ _ h => h) (by kernel_rfl) (Or.inl ⟨by rfl, fun w' _ => by go_simp⟩) M.out ?_
    try simp only [List.getElem_toArray, List.getElem_cons_succ, List.getElem_cons_zero, Act.put, List.setIfInBounds_toArray, List.set_cons_zero, List.set_cons_succ]
    refine anyT_take [11] (i := 10) (v := v2) rfl (by kernel_rfl) (by kernel_rfl) (by kernel_rfl) (fun _ _ _ h => h) (by kernel_rfl) (Or.inl ⟨by rfl, fun w' _ => by go_simp⟩) M.out ?_
    try simp only [List.getElem_toArray, List.getElem_cons_succ, List.getElem_cons_zero, Act.put, List.setIfInBounds_toArray, List.set_cons_zero, List.set_cons_succ]
    refine anyT_take [] (i := 11) (v := E2v) rfl (by kernel_rfl) (by kernel_rfl) (by kernel_rfl) (fun _ _ _ h => h) (by kernel_rfl) (Or.inl ⟨by rfl, fun w' _ => by go_simp⟩) M.out ?_
    try simp only [List.getElem_toArray, List.getElem_cons_succ, List.getElem_cons_zero, Act.put, List.setIfInBounds_toArray, List.set_cons_zero, List.set_cons_succ]
    refine anyT_done (by kernel_rfl) ?_ _
    go_wp2_with (fail)
    go_ret2
    rw [HF.out.1, HF.out.2, ← HEV.out]
    exact ⟨_, rfl, HT2.out, M.out.b⟩

end Go.Proofs.YtejglhlodfhgkaaGreatDoor
