/- Part 11 of the proof. -/
import Derived.Test.YtejglhlodfhgkaaGreatDoorXv10
namespace Go.Proofs.YtejglhlodfhgkaaGreatDoor
set_option linter.unusedVariables false
set_option linter.unusedSimpArgs false
open Go.RowKit
set_option maxRecDepth 100000
set_option linter.unusedSimpArgs false
set_option linter.unusedVariables false
def sV15 (s : RSt) : ByteArray := strOfNums (partS s 65536).1
def pR15 (s : RSt) : RSt := (partS s 65536).2
def iV15 (s : RSt) : Int := (intS s).1
def iR15 (s : RSt) : RSt := (intS s).2
def dV15 (s : RSt) : List Int := (partS s 65536).1
theorem pE15 : ∀ s : RSt, s.1 = [] → (pR15 s).1 = [] := fun s h => partE11 h
theorem iE15 : ∀ s : RSt, s.1 = [] → (iR15 s).1 = [] := fun s h => intE11 h
abbrev stL (s : ByteArray) : List Value := [.string s]
abbrev itL (i : Int) : List Value := [.int .i64 i]
abbrev tdL (t : Tb) : List Value := [t.bv]
abbrev noI {α : Type} (_ : World) (_ : α) : Prop := True
abbrev noF {α : Type} (_ : α) (_ : Nat) : Prop := False
def tdI (w : World) (t : Tb) : Prop := BytesIn w t.bv t.bs
def tdF (t : Tb) (k : Nat) : Prop := t.bv.ownBlock = some k
theorem noK {α : Type} : ∀ (w w' : World) (x : α), noI w x → w.heap.size ≤ w'.heap.size → (∀ k, noF x k → w'.heap[k]? = w.heap[k]?) → noI w' x := fun _ _ _ _ _ _ => trivial
theorem tdK : ∀ (w w' : World) (x : Tb), tdI w x → w.heap.size ≤ w'.heap.size → (∀ k, tdF x k → w'.heap[k]? = w.heap[k]?) → tdI w' x := fun w w' x h hs hk => by
  obtain ⟨a, c, e, h1, h2, h3⟩ := h
  refine ⟨a, c, e, h1, h2, h3.imp id ?_⟩
  rintro ⟨ab, ao, rfl, hx⟩
  exact ⟨ab, ao, rfl, fun i x hi => (World.cell?_of_block (hk ab (by unfold tdF; rw [e]; rfl))).trans (hx i x hi)⟩
/-- what a message is read as -/
def mgV15 (s : RSt) : Pm := ⟨(intS s).1, lstV sV15 pR15 65536 (intS s).2, lstV iV15 iR15 65536 (lstR pR15 65536 (intS s).2), lstV dV15 pR15 65536 (lstR iR15 65536 (lstR pR15 65536 (intS s).2))⟩
def mgR15 (s : RSt) : RSt := lstR pR15 65536 (lstR iR15 65536 (lstR pR15 65536 (intS s).2))
theorem mgE15 : ∀ s : RSt, s.1 = [] → (mgR15 s).1 = [] := fun s h => lstE pE15 (lstE iE15 (lstE pE15 (intE11 h)))
theorem mgK : ∀ (w w' : World) (x : Mg), MgE w x → w.heap.size ≤ w'.heap.size → (∀ k, mgF x k → w'.heap[k]? = w.heap[k]?) → MgE w' x := fun _ _ _ h hs hk => h.keep hs hk
def mgZ15 : Value := .agg #[.int .i64 0, .slice none 0 0, .slice none 0 0, .slice none 0 0]
theorem mgP_built (k : Int) (a1 a2 a3 : Option Addr) (n1 n2 n3 c1 c2 c3 : Nat) : Tryz.prog.built 113 [(0, .int .i64 k), (1, .slice a1 n1 c1), (2, .slice a2 n2 c2), (3, .slice a3 n3 c3)] = some #[.int .i64 k, .slice a1 n1 c1, .slice a2 n2 c2, .slice a3 n3 c3] := by kernel_rfl
theorem rtext15_any (p : Nat) (ob : Option Nat) (s : RSt) (w : World) (h : RO w p ob s) :
    Calls Tryz.prog 195 #[.pointer (some ⟨p, 0, none⟩)] w fun r w' => r = .returned (.string (sV15 s)) ∧ RO w' p ob (pR15 s) ∧ Only p w w' := by
  have HC := Lib.hid (show Calls Tryz.prog 133 #[.pointer (some ⟨p, 0, none⟩), .int .i64 65536] w fun r w' => r = .returned (.string (sV15 s)) ∧ RO w' p ob (pR15 s) ∧ Only p w w' from rtextO_any p ob s 65536 w h (by omega) (by omega))
  clear h
  go_enter Tryz.func195, Tryz.ntmps195
  go_wp2_with (go_at_call 133; (with_reducible refine HC.out.mono ?_); rintro e w1 ⟨rfl, hr, ho⟩; have HR := Lib.hid hr; have HO := Lib.hid ho; clear hr ho)
  go_ret
  exact ⟨rfl, HR.out, HO.out⟩
theorem rint15_any (p : Nat) (ob : Option Nat) (s : RSt) (w : World) (h : RO w p ob s) :
    Calls Tryz.prog 197 #[.pointer (some ⟨p, 0, none⟩)] w fun r w' => r = .returned (.int .i64 (iV15 s)) ∧ RO w' p ob (iR15 s) ∧ Only p w w' := by
  have HC := Lib.hid (show Calls Tryz.prog 93 #[.pointer (some ⟨p, 0, none⟩)] w fun r w' => r = .returned (.int .i64 (iV15 s)) ∧ RO w' p ob (iR15 s) ∧ Only p w w' from intO_any p ob s w h)
  clear h
  go_enter Tryz.func197, Tryz.ntmps197
  go_wp2_with (go_at_call 93; (with_reducible refine HC.out.mono ?_); rintro e w1 ⟨rfl, hr, ho⟩; have HR := Lib.hid hr; have HO := Lib.hid ho; clear hr ho)
  go_ret
  exact ⟨rfl, HR.out, HO.out⟩
theorem rdata15_any (p : Nat) (ob : Option Nat) (s : RSt) (w : World) (h : RO w p ob s) :
    Calls Tryz.prog 199 #[.pointer (some ⟨p, 0, none⟩)] w fun r w' => ∃ x : Tb, r = .returned x.bv ∧ tdI w' x ∧ (∀ j, tdF x j → w.heap.size ≤ j ∧ j < w'.heap.size) ∧ x.bs = dV15 s ∧ (∃ a n c, x.bv = .slice a n c) ∧ RO w' p ob (pR15 s) ∧ Only p w w' := by
  have HC := Lib.hid (rbytesO_any p ob s 65536 w h (by omega) (by omega))
  clear h
  go_enter Tryz.func199, Tryz.ntmps199
  go_wp2_with (go_at_call 136; (with_reducible refine HC.out.mono ?_); rintro e w1 ⟨bv, rfl, hb, hn, hr, ho⟩; have HB := Lib.hid hb; have HN := Lib.hid hn; have HR := Lib.hid hr; have HO := Lib.hid ho; clear hb hn hr ho)
  go_ret
  exact ⟨⟨bv, (partS s 65536).1⟩, rfl, HB.out, HN.out, rfl, (by obtain ⟨a, c, e, _⟩ := HB.out; exact ⟨_, _, _, e⟩), HR.out, HO.out⟩
theorem info15S : (Tryz.prog.info? 9).map (fun i => (i.zero, i.size, i.bytes)) = some (some (.string { data := #[] }), 1, 16) := by kernel_rfl
theorem fill15S (x : ByteArray) (hx : True) : Instr.fill (fun i => some (i * 1, 1)) ((Array.range (1 * 1)).map (((.string { data := #[] }) : Value).cells[· % ((.string { data := #[] }) : Value).cells.size]!)) [(0, .string x)] = some (stL x).toArray := by
  kernel_rfl
theorem wpList_one15S {w : World} {ops : Array Oper} {rest : List Oper} {o : Oper} {a : Act} {Q : Exit → Act → World → Prop} (hgd : o.guard = none) (y : Operand) (ho : o.op = .buildSlice 108 1 #[(0, y)]) (d : Option Tmp) (hd : o.dst = d) (x : ByteArray) (hok : True) (v : Value) (hv : v = .string x) (hx : a.eval y = v)
    (h : wpList Tryz.prog ops Q rest (a.put d (.slice (some ⟨w.heap.size, 0, none⟩) 1 1)) (w.alloc (.cells (stL x).toArray 9))) : wpList Tryz.prog ops Q (o :: rest) a w := by
  subst hd hv
  refine wpList_plain hgd fun K hK => ?_
  obtain ⟨i0, hi, hz0, hz1, hz2⟩ := info_parts info15S
  refine wp_buildSlice 108 9 1 #[(0, y)] ho (stL x).toArray i0 _ Tryz.underlying108 hi hz0 (by rw [hz1]; decide) (by rw [hz1]; decide) ?_ (hK _ _ h)
  rw [hz1]
  simpa [hx] using fill15S x hok
theorem one15S (x : ByteArray) (hx : True) : ∀ u ∈ stL x, u.oneCell' = true := fun u hu => by rw [List.mem_singleton.1 hu]; rfl
set_option maxHeartbeats 8000000 in
theorem rlist15S (p : Nat) (ob : Option Nat) (s : RSt) (w : World) (h : RO w p ob s) :
    Calls Tryz.prog 194 #[.pointer (some ⟨p, 0, none⟩), .func (.func 195) #[] #[]] w fun r w' => ∃ vv xs, r = .returned vv ∧ LgO 1 stL noI noF w' w.heap.size vv xs ∧ xs.map id = lstV sV15 pR15 65536 s ∧ xs.length ≤ 65536 ∧ RO w' p ob (lstR pR15 65536 s) ∧ Only p w w' := by
  have HC := Lib.hid (show Calls Tryz.prog 193 #[.pointer (some ⟨p, 0, none⟩), .int .i64 65536] w fun r w' => r = .returned (.int .i64 ((countS s 65536).1 : Int)) ∧ RO w' p ob (countS s 65536).2 ∧ Only p w w' from rcountO_any p ob s 65536 (by omega) w h)
  have HLT := Lib.hid h.lt11
  have HM := Lib.hid (cnt_le15 s 65536)
  unfold lstV lstR
  obtain ⟨n, hn⟩ : ∃ n, n = (countS s 65536).1 := ⟨_, rfl⟩
  obtain ⟨s1, hs1⟩ : ∃ n, n = (countS s 65536).2 := ⟨_, rfl⟩
  rw [← hn] at HC HM ⊢
  rw [← hs1] at HC ⊢
  have hnm : n ≤ 65536 := HM.out
  clear h hn hs1 HM
  go_enter Tryz.func194, Tryz.ntmps194
  go_wp2_with (go_at_call 193; (with_reducible refine HC.out.mono ?_); rintro e w1 ⟨rfl, hr, ho⟩; have HR := Lib.hid hr; have HO := Lib.hid ho; clear hr ho)
  have HM0 := Lib.hid (LgM.start (n := 1) (C := stL) (E := 9) (In := noI) (F := noF) (pu := id) (V := sV15) (R := pR15) HR.out HO.out HLT.out)
  obtain ⟨B, hB⟩ : ∃ B, B = w1.heap.size := ⟨_, rfl⟩
  rw [← hB] at HM0
  clear hB HR HO HC
  go_loopw [5, 8] (fun y x wr => ∃ k : Nat, k ≤ n ∧ x = .int .i64 (k : Int) ∧ Hid (LgR 1 stL 9 noI noF id sV15 pR15 w p ob s1 B k y wr)) (fun _ x _ => n - (intOf x).toNat)
  case atStart => exact ⟨0, Nat.zero_le _, rfl, HM0⟩
  case round =>
    clear HM0
    obtain ⟨k, hkn, rfl, HM⟩ := hrel
    obtain ⟨xs, hm⟩ := HM.out
    obtain ⟨va, vc, hvv⟩ := own_slice11 hm.row
    rw [hm.len] at hvv
    subst hvv
    by_cases hlt : k < n
    · have hltI : (k : Int) < (n : Int) := by omega
      have M := Lib.hid hm
      have HRD := Lib.hid hm.rd
      clear HM hm
      obtain ⟨sk, hsk⟩ : ∃ z, z = rN pR15 k s1 := ⟨_, rfl⟩
      have HSK := Lib.hid hsk
      rw [← hsk] at HRD
      clear hsk
      go_upto_region 5 with (first
        | (go_at_call 195; (with_reducible refine (rtext15_any p ob sk wr HRD.out).mono ?_); rintro e w2 ⟨rfl, hr, ho⟩; have HR2 := Lib.hid hr; have HO2 := Lib.hid ho; obtain ⟨x, hx⟩ : ∃ x, x = sV15 sk := ⟨_, rfl⟩; have HPU := Lib.hid (show id x = sV15 sk from hx); rw [← hx]; clear hx; have HIN := Lib.hid (show noI w2 x from trivial); have HNW := Lib.hid (show ∀ j, noF x j → wr.heap.size ≤ j ∧ j < w2.heap.size from fun j h => h.elim); have HOK := Lib.hid trivial; obtain ⟨TV, hTV⟩ : ∃ t, t = Value.string x := ⟨_, rfl⟩; have HTV := Lib.hid hTV; rw [← hTV]; clear hTV; clear hr ho)
        | (refine wpList_one15S rfl (.tmp 13) rfl (some 14) rfl x HOK.out TV HTV.out rfl ?_; have HQ := Lib.hid (heap_alloc_new w2 (.cells (stL x).toArray 9)); have hb2 := below_alloc w2 (.cells (stL x).toArray 9); have HB2 := Lib.hid hb2; clear hb2; obtain ⟨q, hq⟩ : ∃ q, q = w2.heap.size := ⟨_, rfl⟩; rw [← hq] at HQ ⊢; clear hq; generalize w2.alloc (.cells (stL x).toArray 9) = w3 at *)
        | (at_builtin; refine wpList_append_row11 (n := 1) (C := stL) (fun _ => rfl) 108 9 (.string { data := #[] }) Tryz.underlying108 info15S (by kernel_rfl) (by omega) rfl (.tmp 10) (.tmp 14) rfl rfl B (.slice va k vc) xs rfl (M.out.row3 HO2.out HB2.out) q x (one15S x HOK.out) rfl HQ.out (by rw [M.out.len]; omega) (by rw [M.out.len]; omega) (Nat.le_trans M.out.B1 (Nat.le_trans HO2.out.size HB2.out.size)) ?_; intro v4 w4 ho4 hg4 hw4; have HR4 := Lib.hid (LgM.next noK pE15 M.out HO2.out HB2.out ho4 hg4 hw4 HIN.out HNW.out (by rw [← HSK.out]; exact HPU.out) (by rw [← HSK.out]; exact HR2.out)); clear ho4 hg4 hw4))
      go_wp2_with (fail)
      go_roundw
      case rel => exact ⟨k + 1, by omega, by go_num, HR4⟩
      case measure => simp [intOf]; omega
    · obtain rfl : k = n := by omega
      have M := Lib.hid hm
      clear HM hm
      go_wp2_with (fail)
      go_ret
      exact ⟨_, xs, rfl, M.out.fin (fun _ => rfl) (by unfold maxLen; omega), M.out.eq, by rw [M.out.len]; exact hnm, M.out.rd, M.out.only⟩
theorem info15I : (Tryz.prog.info? 3).map (fun i => (i.zero, i.size, i.bytes)) = some (some (.int .i64 0), 1, 8) := by kernel_rfl
theorem fill15I (x : Int) (hx : True) : Instr.fill (fun i => some (i * 1, 1)) ((Array.range (1 * 1)).map (((.int .i64 0) : Value).cells[· % ((.int .i64 0) : Value).cells.size]!)) [(0, .int .i64 x)] = some (itL x).toArray := by
  kernel_rfl
theorem wpList_one15I {w : World} {ops : Array Oper} {rest : List Oper} {o : Oper} {a : Act} {Q : Exit → Act → World → Prop} (hgd : o.guard = none) (y : Operand) (ho : o.op = .buildSlice 109 1 #[(0, y)]) (d : Option Tmp) (hd : o.dst = d) (x : Int) (hok : True) (v : Value) (hv : v = .int .i64 x) (hx : a.eval y = v)
    (h : wpList Tryz.prog ops Q rest (a.put d (.slice (some ⟨w.heap.size, 0, none⟩) 1 1)) (w.alloc (.cells (itL x).toArray 3))) : wpList Tryz.prog ops Q (o :: rest) a w := by
  subst hd hv
  refine wpList_plain hgd fun K hK => ?_
  obtain ⟨i0, hi, hz0, hz1, hz2⟩ := info_parts info15I
  refine wp_buildSlice 109 3 1 #[(0, y)] ho (itL x).toArray i0 _ Tryz.underlying109 hi hz0 (by rw [hz1]; decide) (by rw [hz1]; decide) ?_ (hK _ _ h)
  rw [hz1]
  simpa [hx] using fill15I x hok
theorem one15I (x : Int) (hx : True) : ∀ u ∈ itL x, u.oneCell' = true := fun u hu => by rw [List.mem_singleton.1 hu]; rfl
set_option maxHeartbeats 8000000 in
theorem rlist15I (p : Nat) (ob : Option Nat) (s : RSt) (w : World) (h : RO w p ob s) :
    Calls Tryz.prog 196 #[.pointer (some ⟨p, 0, none⟩), .func (.func 197) #[] #[]] w fun r w' => ∃ vv xs, r = .returned vv ∧ LgO 1 itL noI noF w' w.heap.size vv xs ∧ xs.map id = lstV iV15 iR15 65536 s ∧ xs.length ≤ 65536 ∧ RO w' p ob (lstR iR15 65536 s) ∧ Only p w w' := by
  have HC := Lib.hid (show Calls Tryz.prog 193 #[.pointer (some ⟨p, 0, none⟩), .int .i64 65536] w fun r w' => r = .returned (.int .i64 ((countS s 65536).1 : Int)) ∧ RO w' p ob (countS s 65536).2 ∧ Only p w w' from rcountO_any p ob s 65536 (by omega) w h)
  have HLT := Lib.hid h.lt11
  have HM := Lib.hid (cnt_le15 s 65536)
  unfold lstV lstR
  obtain ⟨n, hn⟩ : ∃ n, n = (countS s 65536).1 := ⟨_, rfl⟩
  obtain ⟨s1, hs1⟩ : ∃ n, n = (countS s 65536).2 := ⟨_, rfl⟩
  rw [← hn] at HC HM ⊢
  rw [← hs1] at HC ⊢
  have hnm : n ≤ 65536 := HM.out
  clear h hn hs1 HM
  go_enter Tryz.func196, Tryz.ntmps196
  go_wp2_with (go_at_call 193; (with_reducible refine HC.out.mono ?_); rintro e w1 ⟨rfl, hr, ho⟩; have HR := Lib.hid hr; have HO := Lib.hid ho; clear hr ho)
  have HM0 := Lib.hid (LgM.start (n := 1) (C := itL) (E := 3) (In := noI) (F := noF) (pu := id) (V := iV15) (R := iR15) HR.out HO.out HLT.out)
  obtain ⟨B, hB⟩ : ∃ B, B = w1.heap.size := ⟨_, rfl⟩
  rw [← hB] at HM0
  clear hB HR HO HC
  go_loopw [5, 8] (fun y x wr => ∃ k : Nat, k ≤ n ∧ x = .int .i64 (k : Int) ∧ Hid (LgR 1 itL 3 noI noF id iV15 iR15 w p ob s1 B k y wr)) (fun _ x _ => n - (intOf x).toNat)
  case atStart => exact ⟨0, Nat.zero_le _, rfl, HM0⟩
  case round =>
    clear HM0
    obtain ⟨k, hkn, rfl, HM⟩ := hrel
    obtain ⟨xs, hm⟩ := HM.out
    obtain ⟨va, vc, hvv⟩ := own_slice11 hm.row
    rw [hm.len] at hvv
    subst hvv
    by_cases hlt : k < n
    · have hltI : (k : Int) < (n : Int) := by omega
      have M := Lib.hid hm
      have HRD := Lib.hid hm.rd
      clear HM hm
      obtain ⟨sk, hsk⟩ : ∃ z, z = rN iR15 k s1 := ⟨_, rfl⟩
      have HSK := Lib.hid hsk
      rw [← hsk] at HRD
      clear hsk
      go_upto_region 5 with (first
        | (go_at_call 197; (with_reducible refine (rint15_any p ob sk wr HRD.out).mono ?_); rintro e w2 ⟨rfl, hr, ho⟩; have HR2 := Lib.hid hr; have HO2 := Lib.hid ho; obtain ⟨x, hx⟩ : ∃ x, x = iV15 sk := ⟨_, rfl⟩; have HPU := Lib.hid (show id x = iV15 sk from hx); rw [← hx]; clear hx; have HIN := Lib.hid (show noI w2 x from trivial); have HNW := Lib.hid (show ∀ j, noF x j → wr.heap.size ≤ j ∧ j < w2.heap.size from fun j h => h.elim); have HOK := Lib.hid trivial; obtain ⟨TV, hTV⟩ : ∃ t, t = Value.int .i64 x := ⟨_, rfl⟩; have HTV := Lib.hid hTV; rw [← hTV]; clear hTV; clear hr ho)
        | (refine wpList_one15I rfl (.tmp 13) rfl (some 14) rfl x HOK.out TV HTV.out rfl ?_; have HQ := Lib.hid (heap_alloc_new w2 (.cells (itL x).toArray 3)); have hb2 := below_alloc w2 (.cells (itL x).toArray 3); have HB2 := Lib.hid hb2; clear hb2; obtain ⟨q, hq⟩ : ∃ q, q = w2.heap.size := ⟨_, rfl⟩; rw [← hq] at HQ ⊢; clear hq; generalize w2.alloc (.cells (itL x).toArray 3) = w3 at *)
        | (at_builtin; refine wpList_append_row11 (n := 1) (C := itL) (fun _ => rfl) 109 3 (.int .i64 0) Tryz.underlying109 info15I (by kernel_rfl) (by omega) rfl (.tmp 10) (.tmp 14) rfl rfl B (.slice va k vc) xs rfl (M.out.row3 HO2.out HB2.out) q x (one15I x HOK.out) rfl HQ.out (by rw [M.out.len]; omega) (by rw [M.out.len]; omega) (Nat.le_trans M.out.B1 (Nat.le_trans HO2.out.size HB2.out.size)) ?_; intro v4 w4 ho4 hg4 hw4; have HR4 := Lib.hid (LgM.next noK iE15 M.out HO2.out HB2.out ho4 hg4 hw4 HIN.out HNW.out (by rw [← HSK.out]; exact HPU.out) (by rw [← HSK.out]; exact HR2.out)); clear ho4 hg4 hw4))
      go_wp2_with (fail)
      go_roundw
      case rel => exact ⟨k + 1, by omega, by go_num, HR4⟩
      case measure => simp [intOf]; omega
    · obtain rfl : k = n := by omega
      have M := Lib.hid hm
      clear HM hm
      go_wp2_with (fail)
      go_ret
      exact ⟨_, xs, rfl, M.out.fin (fun _ => rfl) (by unfold maxLen; omega), M.out.eq, by rw [M.out.len]; exact hnm, M.out.rd, M.out.only⟩
theorem info15D : (Tryz.prog.info? 25).map (fun i => (i.zero, i.size, i.bytes)) = some (some (.slice none 0 0), 1, 24) := by kernel_rfl
theorem fill15D (x : Tb) (hx : ∃ a n c, x.bv = .slice a n c) : Instr.fill (fun i => some (i * 1, 1)) ((Array.range (1 * 1)).map (((.slice none 0 0) : Value).cells[· % ((.slice none 0 0) : Value).cells.size]!)) [(0, x.bv)] = some (tdL x).toArray := by
  obtain ⟨bv, bs⟩ := x
  obtain ⟨a, n, c, rfl⟩ := hx
  kernel_rfl
theorem wpList_one15D {w : World} {ops : Array Oper} {rest : List Oper} {o : Oper} {a : Act} {Q : Exit → Act → World → Prop} (hgd : o.guard = none) (y : Operand) (ho : o.op = .buildSlice 110 1 #[(0, y)]) (d : Option Tmp) (hd : o.dst = d) (x : Tb) (hok : ∃ a n c, x.bv = .slice a n c) (v : Value) (hv : v = x.bv) (hx : a.eval y = v)
    (h : wpList Tryz.prog ops Q rest (a.put d (.slice (some ⟨w.heap.size, 0, none⟩) 1 1)) (w.alloc (.cells (tdL x).toArray 25))) : wpList Tryz.prog ops Q (o :: rest) a w := by
  subst hd hv
  refine wpList_plain hgd fun K hK => ?_
  obtain ⟨i0, hi, hz0, hz1, hz2⟩ := info_parts info15D
  refine wp_buildSlice 110 25 1 #[(0, y)] ho (tdL x).toArray i0 _ Tryz.underlying110 hi hz0 (by rw [hz1]; decide) (by rw [hz1]; decide) ?_ (hK _ _ h)
  rw [hz1]
  simpa [hx] using fill15D x hok
theorem one15D (x : Tb) (hx : ∃ a n c, x.bv = .slice a n c) : ∀ u ∈ tdL x, u.oneCell' = true := fun u hu => by obtain ⟨a, n, c, e⟩ := hx; rw [List.mem_singleton.1 hu, e]; rfl
set_option maxHeartbeats 8000000 in
theorem rlist15D (p : Nat) (ob : Option Nat) (s : RSt) (w : World) (h : RO w p ob s) :
    Calls Tryz.prog 198 #[.pointer (some ⟨p, 0, none⟩), .func (.func 199) #[] #[]] w fun r w' => ∃ vv xs, r = .returned vv ∧ LgO 1 tdL tdI tdF w' w.heap.size vv xs ∧ xs.map Tb.bs = lstV dV15 pR15 65536 s ∧ xs.length ≤ 65536 ∧ RO w' p ob (lstR pR15 65536 s) ∧ Only p w w' := by
  have HC := Lib.hid (show Calls Tryz.prog 193 #[.pointer (some ⟨p, 0, none⟩), .int .i64 65536] w fun r w' => r = .returned (.int .i64 ((countS s 65536).1 : Int)) ∧ RO w' p ob (countS s 65536).2 ∧ Only p w w' from rcountO_any p ob s 65536 (by omega) w h)
  have HLT := Lib.hid h.lt11
  have HM := Lib.hid (cnt_le15 s 65536)
  unfold lstV lstR
  obtain ⟨n, hn⟩ : ∃ n, n = (countS s 65536).1 := ⟨_, rfl⟩
  obtain ⟨s1, hs1⟩ : ∃ n, n = (countS s 65536).2 := ⟨_, rfl⟩
  rw [← hn] at HC HM ⊢
  rw [← hs1] at HC ⊢
  have hnm : n ≤ 65536 := HM.out
  clear h hn hs1 HM
  go_enter Tryz.func198, Tryz.ntmps198
  go_wp2_with (go_at_call 193; (with_reducible refine HC.out.mono ?_); rintro e w1 ⟨rfl, hr, ho⟩; have HR := Lib.hid hr; have HO := Lib.hid ho; clear hr ho)
  have HM0 := Lib.hid (LgM.start (n := 1) (C := tdL) (E := 25) (In := tdI) (F := tdF) (pu := Tb.bs) (V := dV15) (R := pR15) HR.out HO.out HLT.out)
  obtain ⟨B, hB⟩ : ∃ B, B = w1.heap.size := ⟨_, rfl⟩
  rw [← hB] at HM0
  clear hB HR HO HC
  go_loopw [5, 8] (fun y x wr => ∃ k : Nat, k ≤ n ∧ x = .int .i64 (k : Int) ∧ Hid (LgR 1 tdL 25 tdI tdF Tb.bs dV15 pR15 w p ob s1 B k y wr)) (fun _ x _ => n - (intOf x).toNat)
  case atStart => exact ⟨0, Nat.zero_le _, rfl, HM0⟩
  case round =>
    clear HM0
    obtain ⟨k, hkn, rfl, HM⟩ := hrel
    obtain ⟨xs, hm⟩ := HM.out
    obtain ⟨va, vc, hvv⟩ := own_slice11 hm.row
    rw [hm.len] at hvv
    subst hvv
    by_cases hlt : k < n
    · have hltI : (k : Int) < (n : Int) := by omega
      have M := Lib.hid hm
      have HRD := Lib.hid hm.rd
      clear HM hm
      obtain ⟨sk, hsk⟩ : ∃ z, z = rN pR15 k s1 := ⟨_, rfl⟩
      have HSK := Lib.hid hsk
      rw [← hsk] at HRD
      clear hsk
      go_upto_region 5 with (first
        | (go_at_call 199; (with_reducible refine (rdata15_any p ob sk wr HRD.out).mono ?_); rintro e w2 ⟨x, rfl, hin, hnw, hpu, hok, hr, ho⟩; have HR2 := Lib.hid hr; have HO2 := Lib.hid ho; have HPU := Lib.hid hpu; have HIN := Lib.hid hin; have HNW := Lib.hid hnw; have HOK := Lib.hid hok; clear hpu hin hnw hok; obtain ⟨TV, hTV⟩ : ∃ t, t = x.bv := ⟨_, rfl⟩; have HTV := Lib.hid hTV; rw [← hTV]; clear hTV; clear hr ho)
        | (refine wpList_one15D rfl (.tmp 13) rfl (some 14) rfl x HOK.out TV HTV.out rfl ?_; have HQ := Lib.hid (heap_alloc_new w2 (.cells (tdL x).toArray 25)); have hb2 := below_alloc w2 (.cells (tdL x).toArray 25); have HB2 := Lib.hid hb2; clear hb2; obtain ⟨q, hq⟩ : ∃ q, q = w2.heap.size := ⟨_, rfl⟩; rw [← hq] at HQ ⊢; clear hq; generalize w2.alloc (.cells (tdL x).toArray 25) = w3 at *)
        | (at_builtin; refine wpList_append_row11 (n := 1) (C := tdL) (fun _ => rfl) 110 25 (.slice none 0 0) Tryz.underlying110 info15D (by kernel_rfl) (by omega) rfl (.tmp 10) (.tmp 14) rfl rfl B (.slice va k vc) xs rfl (M.out.row3 HO2.out HB2.out) q x (one15D x HOK.out) rfl HQ.out (by rw [M.out.len]; omega) (by rw [M.out.len]; omega) (Nat.le_trans M.out.B1 (Nat.le_trans HO2.out.size HB2.out.size)) ?_; intro v4 w4 ho4 hg4 hw4; have HR4 := Lib.hid (LgM.next tdK pE15 M.out HO2.out HB2.out ho4 hg4 hw4 HIN.out HNW.out (by rw [← HSK.out]; exact HPU.out) (by rw [← HSK.out]; exact HR2.out)); clear ho4 hg4 hw4))
      go_wp2_with (fail)
      go_roundw
      case rel => exact ⟨k + 1, by omega, by go_num, HR4⟩
      case measure => simp [intOf]; omega
    · obtain rfl : k = n := by omega
      have M := Lib.hid hm
      clear HM hm
      go_wp2_with (fail)
      go_ret
      exact ⟨_, xs, rfl, M.out.fin (fun _ => rfl) (by unfold maxLen; omega), M.out.eq, by rw [M.out.len]; exact hnm, M.out.rd, M.out.only⟩
set_option maxHeartbeats 4000000 in
theorem rmsg15_any (p : Nat) (ob : Option Nat) (s : RSt) (w : World) (h : RO w p ob s) :
    Calls Tryz.prog 135 #[.pointer (some ⟨p, 0, none⟩)] w fun r w' => ∃ x : Mg, r = .returned (.agg (mgC x)) ∧ MgE w' x ∧ (∀ j, mgF x j → w.heap.size ≤ j ∧ j < w'.heap.size) ∧ mgP x = mgV15 s ∧ RO w' p ob (mgR15 s) ∧ Only p w w' := by
  have HLT := Lib.hid h.lt11
  have HOB := Lib.hid h.own11
  have HR0' := Lib.hid (fun o => h.below11 (below_alloc w o))
  clear h
  go_enter Tryz.func135, Tryz.ntmps135
  go_upto_region 1 with (fail)
  generalize hA : World.alloc w _ = w1
  obtain ⟨cz, hcz, hq⟩ : ∃ cz : Array Value, cz.size = 4 ∧ w1.heap[w.heap.size]? = some (.cells cz 113 (0, 0)) := ⟨_, by kernel_rfl, by rw [← hA]; exact heap_alloc_new _ _⟩
  have HCZ := Lib.hid hcz
  have HQ := Lib.hid hq
  have HR0 := Lib.hid (show RO w1 p ob s from by rw [← hA]; exact HR0'.out _)
  have HO0 := Lib.hid (show Only p w w1 from by rw [← hA]; exact Only.of_below (below_alloc _ _))
  have HS1 := Lib.hid (show w1.heap.size = w.heap.size + 1 from by rw [← hA]; simp)
  clear hA hcz hq HR0'
  obtain ⟨q, hqe⟩ : ∃ q, q = w.heap.size := ⟨_, rfl⟩
  have HQE := Lib.hid hqe
  rw [← hqe] at HQ ⊢
  clear hqe
  go_wp2_with (first
    | (go_at_call 93; (with_reducible refine (intO_any p ob _ w1 HR0.out).mono ?_); rintro e w2 ⟨rfl, hr, ho⟩; have HR1 := Lib.hid hr; have HO1 := Lib.hid (HO0.out.trans ho); have HG2 := Lib.hid ho.size; replace HQ := Lib.hid ((ho.block q (Array.getElem?_eq_some_iff.1 HQ.out).1 (by have := HLT.out; have := HQE.out; omega)).trans HQ.out); clear hr ho)
    | (go_at_call 194; (with_reducible refine (rlist15S p ob _ w2 HR1.out).mono ?_); rintro e w3 ⟨tv, ts, rfl, ht, hte, htn, hr, ho⟩; have HT3 := Lib.hid ht; have HTE := Lib.hid hte; have HR2 := Lib.hid hr; have HO2 := Lib.hid (HO1.out.trans ho); have HG3 := Lib.hid ho.size; replace HQ := Lib.hid ((ho.block q (Array.getElem?_eq_some_iff.1 HQ.out).1 (by have := HLT.out; have := HQE.out; omega)).trans HQ.out); clear ht hte htn hr ho)
    | (go_at_call 196; (with_reducible refine (rlist15I p ob _ w3 HR2.out).mono ?_); rintro e w4 ⟨iv, is, rfl, ht, hte, htn, hr, ho⟩; have HT4 := Lib.hid ht; have HIE := Lib.hid hte; have HR3 := Lib.hid hr; have HO3 := Lib.hid (HO2.out.trans ho); have HG4 := Lib.hid ho.size; have HT3' := Lib.hid (LgO.only noK HT3.out ho (by have := HLT.out; have := HS1.out; have := HG2.out; omega)); replace HQ := Lib.hid ((ho.block q (Array.getElem?_eq_some_iff.1 HQ.out).1 (by have := HLT.out; have := HQE.out; omega)).trans HQ.out); clear ht hte htn hr ho)
    | (go_at_call 198; (with_reducible refine (rlist15D p ob _ w4 HR3.out).mono ?_); rintro e w5 ⟨dv, ds, rfl, ht, hte, htn, hr, ho⟩; have HT5 := Lib.hid ht; have HDE := Lib.hid hte; have HR4 := Lib.hid hr; have HO4 := Lib.hid (HO3.out.trans ho); have HG5 := Lib.hid ho.size; have HT3x := Lib.hid (LgO.only noK HT3'.out ho (by have := HLT.out; have := HS1.out; have := HG2.out; omega)); have HT4x := Lib.hid (LgO.only noK HT4.out ho (by have := HLT.out; have := HS1.out; have := HG2.out; have := HG3.out; omega)); replace HQ := Lib.hid ((ho.block q (Array.getElem?_eq_some_iff.1 HQ.out).1 (by have := HLT.out; have := HQE.out; omega)).trans HQ.out); clear ht hte htn hr ho; obtain ⟨a1, c1, htv, -⟩ := HT3x.out.rows.len; obtain ⟨a2, c2, hiv, -⟩ := HT4x.out.rows.len; obtain ⟨a3, c3, hdv, -⟩ := HT5.out.rows.len; obtain ⟨n1, hn1⟩ : ∃ n, n = ts.length := ⟨_, rfl⟩; obtain ⟨n2, hn2⟩ : ∃ n, n = is.length := ⟨_, rfl⟩; obtain ⟨n3, hn3⟩ : ∃ n, n = ds.length := ⟨_, rfl⟩; rw [← hn1] at htv; rw [← hn2] at hiv; rw [← hn3] at hdv; subst htv hiv hdv; clear hn1 hn2 hn3; obtain ⟨KI, hKI⟩ : ∃ k, k = (intS s).1 := ⟨_, rfl⟩; have HKI := Lib.hid hKI; rw [← hKI]; clear hKI; obtain ⟨CV, hCV⟩ : ∃ x : Array Value, x = #[.int .i64 KI, .slice a1 n1 c1, .slice a2 n2 c2, .slice a3 n3 c3] := ⟨_, rfl⟩; have HBU := Lib.hid ((mgP_built KI a1 a2 a3 n1 n2 n3 c1 c2 c3).trans (congrArg some hCV.symm)); have HOC := Lib.hid (show CV.all (·.oneCell') = true from by rw [hCV]; simp [Value.oneCell']); have HZC := Lib.hid (show CV.size = 4 from by rw [hCV]; rfl); have HCV := Lib.hid hCV; clear hCV)
    | (refine wpList_buildTo rfl 113 #[(0, .tmp 4), (1, .tmp 6), (2, .tmp 8), (3, .tmp 10)] rfl (some 11) rfl CV (by refine Eq.trans (congrArg (Tryz.prog.built 113) ?_) HBU.out; kernel_rfl) ?_)
    | (refine wpList_store_row rfl 113 (.tmp 2) (.tmp 11) rfl q CV rfl rfl 113 _ HQ.out (by rw [HZC.out]; kernel_rfl) (by rw [HZC.out, HCZ.out]) HOC.out ?_))
  refine bodyPost_ret (results_cell_row rfl _ _ q 113 CV (0, 0) _ rfl (setRow_heap _ _ _ _ _ _ HQ.out) Tryz.underlying113 rfl (by rw [HZC.out]; kernel_rfl)) rfl ?_
  have hlt := HLT.out
  have hqe := HQE.out
  have hs1 := HS1.out
  have hg2 := HG2.out
  have hg3 := HG3.out
  have hg4 := HG4.out
  have hg5 := HG5.out
  have hpq : p ≠ q := by omega
  have hoq := only_setRow11 w5 q CV
  have hwq : w.heap.size ≤ q := by omega
  have hHO : Only p w (w5.setRow q CV) := HO4.out.behind hwq CV
  have o3 := LgO.only noK HT3x.out hoq (by omega)
  have o4 := LgO.only noK HT4x.out hoq (by omega)
  have o5 := LgO.only tdK HT5.out hoq (by omega)
  refine ⟨⟨KI, .slice a1 n1 c1, ts, .slice a2 n2 c2, is, .slice a3 n3 c3, ds⟩, (by first | (rw [HCV.out]; rfl) | rw [HCV.out]), ⟨o3.rows, o4.rows, o5.rows, fun t ht => (o5.el t ht).1⟩, fun j hj => ?_, ?_, HR4.out.stay11 hoq hpq (fun hn k hk => ?_), hHO⟩
  · rcases hj with hj | hj | hj | ⟨t, ht, hj⟩
    · have := o3.own j hj; omega
    · have := o4.own j hj; omega
    · have := o5.own j hj; omega
    · have := (o5.el t ht).2 j hj; omega
  · have h1 := HTE.out
    have h2 := HIE.out
    have h3 := HDE.out
    rw [List.map_id] at h1 h2
    unfold mgP mgV15
    simp only
    rw [HKI.out, h1, h2, h3]
  · have := HOB.out (fun e => hn (mgE15 _ e)) k hk
    omega
theorem info15M : (Tryz.prog.info? 113).map (fun i => (i.zero, i.size, i.bytes)) = some (some mgZ15, 4, 80) := by kernel_rfl
theorem fill15M (x : Mg) (hx : MgV x) : Instr.fill (fun i => some (i * 4, 4)) ((Array.range (1 * 4)).map ((mgZ15 : Value).cells[· % (mgZ15 : Value).cells.size]!)) [(0, .agg (mgC x))] = some (mgL x).toArray := by
  obtain ⟨k, tv, ts, iv, is, dv, ds⟩ := x
  obtain ⟨⟨a1, c1, e1⟩, ⟨a2, c2, e2⟩, ⟨a3, c3, e3⟩⟩ := hx
  simp only at e1 e2 e3
  subst e1 e2 e3
  kernel_rfl
theorem wpList_one15M {w : World} {ops : Array Oper} {rest : List Oper} {o : Oper} {a : Act} {Q : Exit → Act → World → Prop} (hgd : o.guard = none) (y : Operand) (ho : o.op = .buildSlice 32 1 #[(0, y)]) (d : Option Tmp) (hd : o.dst = d) (x : Mg) (hok : MgV x) (v : Value) (hv : v = .agg (mgC x)) (hx : a.eval y = v)
    (h : wpList Tryz.prog ops Q rest (a.put d (.slice (some ⟨w.heap.size, 0, none⟩) 1 1)) (w.alloc (.cells (mgL x).toArray 113))) : wpList Tryz.prog ops Q (o :: rest) a w := by
  subst hd hv
  refine wpList_plain hgd fun K hK => ?_
  obtain ⟨i0, hi, hz0, hz1, hz2⟩ := info_parts info15M
  refine wp_buildSlice 32 113 1 #[(0, y)] ho (mgL x).toArray i0 _ Tryz.underlying32 hi hz0 (by rw [hz1]; decide) (by rw [hz1]; decide) ?_ (hK _ _ h)
  rw [hz1]
  simpa [hx] using fill15M x hok
theorem one15M (x : Mg) (hx : MgV x) : ∀ u ∈ mgL x, u.oneCell' = true := mgC_nest hx
set_option maxHeartbeats 8000000 in
theorem rlist15M (p : Nat) (ob : Option Nat) (s : RSt) (w : World) (h : RO w p ob s) :
    Calls Tryz.prog 134 #[.pointer (some ⟨p, 0, none⟩), .func (.func 135) #[] #[]] w fun r w' => ∃ vv xs, r = .returned vv ∧ LgO 4 mgL MgE mgF w' w.heap.size vv xs ∧ xs.map mgP = lstV mgV15 mgR15 65536 s ∧ xs.length ≤ 65536 ∧ RO w' p ob (lstR mgR15 65536 s) ∧ Only p w w' := by
  have HC := Lib.hid (show Calls Tryz.prog 193 #[.pointer (some ⟨p, 0, none⟩), .int .i64 65536] w fun r w' => r = .returned (.int .i64 ((countS s 65536).1 : Int)) ∧ RO w' p ob (countS s 65536).2 ∧ Only p w w' from rcountO_any p ob s 65536 (by omega) w h)
  have HLT := Lib.hid h.lt11
  have HM := Lib.hid (cnt_le15 s 65536)
  unfold lstV lstR
  obtain ⟨n, hn⟩ : ∃ n, n = (countS s 65536).1 := ⟨_, rfl⟩
  obtain ⟨s1, hs1⟩ : ∃ n, n = (countS s 65536).2 := ⟨_, rfl⟩
  rw [← hn] at HC HM ⊢
  rw [← hs1] at HC ⊢
  have hnm : n ≤ 65536 := HM.out
  clear h hn hs1 HM
  go_enter Tryz.func134, Tryz.ntmps134
  go_wp2_with (go_at_call 193; (with_reducible refine HC.out.mono ?_); rintro e w1 ⟨rfl, hr, ho⟩; have HR := Lib.hid hr; have HO := Lib.hid ho; clear hr ho)
  have HM0 := Lib.hid (LgM.start (n := 4) (C := mgL) (E := 113) (In := MgE) (F := mgF) (pu := mgP) (V := mgV15) (R := mgR15) HR.out HO.out HLT.out)
  obtain ⟨B, hB⟩ : ∃ B, B = w1.heap.size := ⟨_, rfl⟩
  rw [← hB] at HM0
  clear hB HR HO HC
  go_loopw [5, 8] (fun y x wr => ∃ k : Nat, k ≤ n ∧ x = .int .i64 (k : Int) ∧ Hid (LgR 4 mgL 113 MgE mgF mgP mgV15 mgR15 w p ob s1 B k y wr)) (fun _ x _ => n - (intOf x).toNat)
  case atStart => exact ⟨0, Nat.zero_le _, rfl, HM0⟩
  case round =>
    clear HM0
    obtain ⟨k, hkn, rfl, HM⟩ := hrel
    obtain ⟨xs, hm⟩ := HM.out
    obtain ⟨va, vc, hvv⟩ := own_slice11 hm.row
    rw [hm.len] at hvv
    subst hvv
    by_cases hlt : k < n
    · have hltI : (k : Int) < (n : Int) := by omega
      have M := Lib.hid hm
      have HRD := Lib.hid hm.rd
      clear HM hm
      obtain ⟨sk, hsk⟩ : ∃ z, z = rN mgR15 k s1 := ⟨_, rfl⟩
      have HSK := Lib.hid hsk
      rw [← hsk] at HRD
      clear hsk
      go_upto_region 5 with (first
        | (go_at_call 135; (with_reducible refine (rmsg15_any p ob sk wr HRD.out).mono ?_); rintro e w2 ⟨x, rfl, hin, hnw, hpu, hr, ho⟩; have HR2 := Lib.hid hr; have HO2 := Lib.hid ho; have HPU := Lib.hid hpu; have HIN := Lib.hid hin; have HNW := Lib.hid hnw; have HOK := Lib.hid hin.v; clear hpu hin hnw; obtain ⟨TV, hTV⟩ : ∃ t, t = Value.agg (mgC x) := ⟨_, rfl⟩; have HTV := Lib.hid hTV; rw [← hTV]; clear hTV; clear hr ho)
        | (refine wpList_one15M rfl (.tmp 13) rfl (some 14) rfl x HOK.out TV HTV.out rfl ?_; have HQ := Lib.hid (heap_alloc_new w2 (.cells (mgL x).toArray 113)); have hb2 := below_alloc w2 (.cells (mgL x).toArray 113); have HB2 := Lib.hid hb2; clear hb2; obtain ⟨q, hq⟩ : ∃ q, q = w2.heap.size := ⟨_, rfl⟩; rw [← hq] at HQ ⊢; clear hq; generalize w2.alloc (.cells (mgL x).toArray 113) = w3 at *)
        | (at_builtin; refine wpList_append_row11 (n := 4) (C := mgL) (fun _ => rfl) 32 113 mgZ15 Tryz.underlying32 info15M (by kernel_rfl) (by omega) rfl (.tmp 10) (.tmp 14) rfl rfl B (.slice va k vc) xs rfl (M.out.row3 HO2.out HB2.out) q x (one15M x HOK.out) rfl HQ.out (by rw [M.out.len]; omega) (by rw [M.out.len]; omega) (Nat.le_trans M.out.B1 (Nat.le_trans HO2.out.size HB2.out.size)) ?_; intro v4 w4 ho4 hg4 hw4; have HR4 := Lib.hid (LgM.next mgK mgE15 M.out HO2.out HB2.out ho4 hg4 hw4 HIN.out HNW.out (by rw [← HSK.out]; exact HPU.out) (by rw [← HSK.out]; exact HR2.out)); clear ho4 hg4 hw4))
      go_wp2_with (fail)
      go_roundw
      case rel => exact ⟨k + 1, by omega, by go_num, HR4⟩
      case measure => simp [intOf]; omega
    · obtain rfl : k = n := by omega
      have M := Lib.hid hm
      clear HM hm
      go_wp2_with (fail)
      go_ret
      exact ⟨_, xs, rfl, M.out.fin (fun _ => rfl) (by unfold maxLen; omega), M.out.eq, by rw [M.out.len]; exact hnm, M.out.rd, M.out.only⟩
end Go.Proofs.YtejglhlodfhgkaaGreatDoor
