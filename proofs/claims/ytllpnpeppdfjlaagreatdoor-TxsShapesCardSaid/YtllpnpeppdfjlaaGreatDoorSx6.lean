/- Part 6 of the proof. -/
import Derived.BigQuiet
import Derived.OwnWalk
import Derived.Test.YtllpnpeppdfjlaaGreatDoorSx2
import Derived.Test.YtllpnpeppdfjlaaGreatDoorSx5
namespace Go.Proofs.YtllpnpeppdfjlaaGreatDoor
set_option linter.unusedVariables false
set_option linter.unusedSimpArgs false
open Go.RowKit
set_option maxRecDepth 100000
set_option linter.unusedSimpArgs false
set_option linter.unusedVariables false
def sV15 (s : RSt) : ByteArray := strOfNums (partS s 65536).1
def pR15 (s : RSt) : RSt := (partS s 65536).2
def iV15 (s : RSt) : Int := (intS s).1
def iR15 (s : RSt) : RSt := (intS s).2
def dV15 (s : RSt) : List Int := (partS s 65536).1
theorem pE15 : ∀ s : RSt, s.1 = [] → (pR15 s).1 = [] := fun s h => partE11 h
theorem iE15 : ∀ s : RSt, s.1 = [] → (iR15 s).1 = [] := fun s h => intE11 h
abbrev stL (s : ByteArray) : List Value := [.string s]
abbrev itL (i : Int) : List Value := [.int .i64 i]
abbrev tdL (t : Tb) : List Value := [t.bv]
abbrev noI {α : Type} (_ : World) (_ : α) : Prop := True
abbrev noF {α : Type} (_ : α) (_ : Nat) : Prop := False
def tdI (w : World) (t : Tb) : Prop := BytesIn w t.bv t.bs
def tdF (t : Tb) (k : Nat) : Prop := t.bv.ownBlock = some k
theorem noK {α : Type} : ∀ (w w' : World) (x : α), noI w x → w.heap.size ≤ w'.heap.size → (∀ k, noF x k → w'.heap[k]? = w.heap[k]?) → noI w' x := fun _ _ _ _ _ _ => trivial
theorem tdK : ∀ (w w' : World) (x : Tb), tdI w x → w.heap.size ≤ w'.heap.size → (∀ k, tdF x k → w'.heap[k]? = w.heap[k]?) → tdI w' x := fun w w' x h hs hk => by
  obtain ⟨a, c, e, h1, h2, h3⟩ := h
  refine ⟨a, c, e, h1, h2, h3.imp id ?_⟩
  rintro ⟨ab, ao, rfl, hx⟩
  exact ⟨ab, ao, rfl, fun i x hi => (World.cell?_of_block (hk ab (by unfold tdF; rw [e]; rfl))).trans (hx i x hi)⟩
/-- what a message is read as -/
def mgV15 (s : RSt) : Pm := ⟨(intS s).1, lstV sV15 pR15 65536 (intS s).2, lstV iV15 iR15 65536 (lstR pR15 65536 (intS s).2), lstV dV15 pR15 65536 (lstR iR15 65536 (lstR pR15 65536 (intS s).2))⟩
def mgR15 (s : RSt) : RSt := lstR pR15 65536 (lstR iR15 65536 (lstR pR15 65536 (intS s).2))
theorem mgE15 : ∀ s : RSt, s.1 = [] → (mgR15 s).1 = [] := fun s h => lstE pE15 (lstE iE15 (lstE pE15 (intE11 h)))
theorem mgK : ∀ (w w' : World) (x : Mg), MgE w x → w.heap.size ≤ w'.heap.size → (∀ k, mgF x k → w'.heap[k]? = w.heap[k]?) → MgE w' x := fun _ _ _ h hs hk => h.keep hs hk
def mgZ15 : Value := .agg #[.int .i64 0, .slice none 0 0, .slice none 0 0, .slice none 0 0]
theorem mgP_built (k : Int) (a1 a2 a3 : Option Addr) (n1 n2 n3 c1 c2 c3 : Nat) : Tryz.prog.built 100 [(0, .int .i64 k), (1, .slice a1 n1 c1), (2, .slice a2 n2 c2), (3, .slice a3 n3 c3)] = some #[.int .i64 k, .slice a1 n1 c1, .slice a2 n2 c2, .slice a3 n3 c3] := by kernel_rfl
theorem rtext15_any (p : Nat) (ob : Option Nat) (s : RSt) (w : World) (h : RO w p ob s) :
    Calls Tryz.prog 202 #[.pointer (some ⟨p, 0, none⟩)] w fun r w' => r = .returned (.string (sV15 s)) ∧ RO w' p ob (pR15 s) ∧ Only p w w' := by
  have HC := Lib.hid (show Calls Tryz.prog 134 #[.pointer (some ⟨p, 0, none⟩), .int .i64 65536] w fun r w' => r = .returned (.string (sV15 s)) ∧ RO w' p ob (pR15 s) ∧ Only p w w' from rtextO_any p ob s 65536 w h (by omega) (by omega))
  clear h
  go_enter Tryz.func202, Tryz.ntmps202
  go_wp2_with (go_at_call 134; (with_reducible refine HC.out.mono ?_); rintro e w1 ⟨rfl, hr, ho⟩; have HR := Lib.hid hr; have HO := Lib.hid ho; clear hr ho)
  go_ret
  exact ⟨rfl, HR.out, HO.out⟩
theorem rint15_any (p : Nat) (ob : Option Nat) (s : RSt) (w : World) (h : RO w p ob s) :
    Calls Tryz.prog 204 #[.pointer (some ⟨p, 0, none⟩)] w fun r w' => r = .returned (.int .i64 (iV15 s)) ∧ RO w' p ob (iR15 s) ∧ Only p w w' := by
  have HC := Lib.hid (show Calls Tryz.prog 135 #[.pointer (some ⟨p, 0, none⟩)] w fun r w' => r = .returned (.int .i64 (iV15 s)) ∧ RO w' p ob (iR15 s) ∧ Only p w w' from intO_any p ob s w h)
  clear h
  go_enter Tryz.func204, Tryz.ntmps204
  go_wp2_with (go_at_call 135; (with_reducible refine HC.out.mono ?_); rintro e w1 ⟨rfl, hr, ho⟩; have HR := Lib.hid hr; have HO := Lib.hid ho; clear hr ho)
  go_ret
  exact ⟨rfl, HR.out, HO.out⟩
theorem rdata15_any (p : Nat) (ob : Option Nat) (s : RSt) (w : World) (h : RO w p ob s) :
    Calls Tryz.prog 206 #[.pointer (some ⟨p, 0, none⟩)] w fun r w' => ∃ x : Tb, r = .returned x.bv ∧ tdI w' x ∧ (∀ j, tdF x j → w.heap.size ≤ j ∧ j < w'.heap.size) ∧ x.bs = dV15 s ∧ (∃ a n c, x.bv = .slice a n c) ∧ RO w' p ob (pR15 s) ∧ Only p w w' := by
  have HC := Lib.hid (rbytesO_any p ob s 65536 w h (by omega) (by omega))
  clear h
  go_enter Tryz.func206, Tryz.ntmps206
  go_wp2_with (go_at_call 138; (with_reducible refine HC.out.mono ?_); rintro e w1 ⟨bv, rfl, hb, hn, hr, ho⟩; have HB := Lib.hid hb; have HN := Lib.hid hn; have HR := Lib.hid hr; have HO := Lib.hid ho; clear hb hn hr ho)
  go_ret
  exact ⟨⟨bv, (partS s 65536).1⟩, rfl, HB.out, HN.out, rfl, (by obtain ⟨a, c, e, _⟩ := HB.out; exact ⟨_, _, _, e⟩), HR.out, HO.out⟩
theorem info15S : (Tryz.prog.info? 9).map (fun i => (i.zero, i.size, i.bytes)) = some (some (.string { data := #[] }), 1, 16) := by kernel_rfl
theorem fill15S (x : ByteArray) (hx : True) : Instr.fill (fun i => some (i * 1, 1)) ((Array.range (1 * 1)).map (((.string { data := #[] }) : Value).cells[· % ((.string { data := #[] }) : Value).cells.size]!)) [(0, .string x)] = some (stL x).toArray := by
  kernel_rfl
theorem wpList_one15S {w : World} {ops : Array Oper} {rest : List Oper} {o : Oper} {a : Act} {Q : Exit → Act → World → Prop} (hgd : o.guard = none) (y : Operand) (ho : o.op = .buildSlice 51 1 #[(0, y)]) (d : Option Tmp) (hd : o.dst = d) (x : ByteArray) (hok : True) (v : Value) (hv : v = .string x) (hx : a.eval y = v)
    (h : wpList Tryz.prog ops Q rest (a.put d (.slice (some ⟨w.heap.size, 0, none⟩) 1 1)) (w.alloc (.cells (stL x).toArray 9))) : wpList Tryz.prog ops Q (o :: rest) a w := by
  subst hd hv
  refine wpList_plain hgd fun K hK => ?_
  obtain ⟨i0, hi, hz0, hz1, hz2⟩ := info_parts info15S
  refine wp_buildSlice 51 9 1 #[(0, y)] ho (stL x).toArray i0 _ Tryz.underlying51 hi hz0 (by rw [hz1]; decide) (by rw [hz1]; decide) ?_ (hK _ _ h)
  rw [hz1]
  simpa [hx] using fill15S x hok
theorem one15S (x : ByteArray) (hx : True) : ∀ u ∈ stL x, u.oneCell' = true := fun u hu => by rw [List.mem_singleton.1 hu]; rfl
set_option maxHeartbeats 8000000 in
theorem rlist15S (p : Nat) (ob : Option Nat) (s : RSt) (w : World) (h : RO w p ob s) :
    Calls Tryz.prog 201 #[.pointer (some ⟨p, 0, none⟩), .func (.func 202) #[] #[]] w fun r w' => ∃ vv xs, r = .returned vv ∧ LgO 1 stL noI noF w' w.heap.size vv xs ∧ xs.map id = lstV sV15 pR15 65536 s ∧ xs.length ≤ 65536 ∧ RO w' p ob (lstR pR15 65536 s) ∧ Only p w w' := by
  have HC := Lib.hid (show Calls Tryz.prog 162 #[.pointer (some ⟨p, 0, none⟩), .int .i64 65536] w fun r w' => r = .returned (.int .i64 ((countS s 65536).1 : Int)) ∧ RO w' p ob (countS s 65536).2 ∧ Only p w w' from rcountO_any p ob s 65536 (by omega) w h)
  have HLT := Lib.hid h.lt11
  have HM := Lib.hid (cnt_le15 s 65536)
  unfold lstV lstR
  obtain ⟨n, hn⟩ : ∃ n, n = (countS s 65536).1 := ⟨_, rfl⟩
  obtain ⟨s1, hs1⟩ : ∃ n, n = (countS s 65536).2 := ⟨_, rfl⟩
  rw [← hn] at HC HM ⊢
  rw [← hs1] at HC ⊢
  have hnm : n ≤ 65536 := HM.out
  clear h hn hs1 HM
  go_enter Tryz.func201, Tryz.ntmps201
  go_wp2_with (go_at_call 162; (with_reducible refine HC.out.mono ?_); rintro e w1 ⟨rfl, hr, ho⟩; have HR := Lib.hid hr; have HO := Lib.hid ho; clear hr ho)
  have HM0 := Lib.hid (LgM.start (n := 1) (C := stL) (E := 9) (In := noI) (F := noF) (pu := id) (V := sV15) (R := pR15) HR.out HO.out HLT.out)
  obtain ⟨B, hB⟩ : ∃ B, B = w1.heap.size := ⟨_, rfl⟩
  rw [← hB] at HM0
  clear hB HR HO HC
  go_loopw [5, 8] (fun y x wr => ∃ k : Nat, k ≤ n ∧ x = .int .i64 (k : Int) ∧ Hid (LgR 1 stL 9 noI noF id sV15 pR15 w p ob s1 B k y wr)) (fun _ x _ => n - (intOf x).toNat)
  case atStart => exact ⟨0, Nat.zero_le _, rfl, HM0⟩
  case round =>
    clear HM0
    obtain ⟨k, hkn, rfl, HM⟩ := hrel
    obtain ⟨xs, hm⟩ := HM.out
    obtain ⟨va, vc, hvv⟩ := own_slice11 hm.row
    rw [hm.len] at hvv
    subst hvv
    by_cases hlt : k < n
    · have hltI : (k : Int) < (n : Int) := by omega
      have M := Lib.hid hm
      have HRD := Lib.hid hm.rd
      clear HM hm
      obtain ⟨sk, hsk⟩ : ∃ z, z = rN pR15 k s1 := ⟨_, rfl⟩
      have HSK := Lib.hid hsk
      rw [← hsk] at HRD
      clear hsk
      go_upto_region 5 with (first
        | (go_at_call 202; (with_reducible refine (rtext15_any p ob sk wr HRD.out).mono ?_); rintro e w2 ⟨rfl, hr, ho⟩; have HR2 := Lib.hid hr; have HO2 := Lib.hid ho; obtain ⟨x, hx⟩ : ∃ x, x = sV15 sk := ⟨_, rfl⟩; have HPU := Lib.hid (show id x = sV15 sk from hx); rw [← hx]; clear hx; have HIN := Lib.hid (show noI w2 x from trivial); have HNW := Lib.hid (show ∀ j, noF x j → wr.heap.size ≤ j ∧ j < w2.heap.size from fun j h => h.elim); have HOK := Lib.hid trivial; obtain ⟨TV, hTV⟩ : ∃ t, t = Value.string x := ⟨_, rfl⟩; have HTV := Lib.hid hTV; rw [← hTV]; clear hTV; clear hr ho)
        | (refine wpList_one15S rfl (.tmp 13) rfl (some 14) rfl x HOK.out TV HTV.out rfl ?_; have HQ := Lib.hid (heap_alloc_new w2 (.cells (stL x).toArray 9)); have hb2 := below_alloc w2 (.cells (stL x).toArray 9); have HB2 := Lib.hid hb2; clear hb2; obtain ⟨q, hq⟩ : ∃ q, q = w2.heap.size := ⟨_, rfl⟩; rw [← hq] at HQ ⊢; clear hq; generalize w2.alloc (.cells (stL x).toArray 9) = w3 at *)
        | (at_builtin; refine wpList_append_row11 (n := 1) (C := stL) (fun _ => rfl) 51 9 (.string { data := #[] }) Tryz.underlying51 info15S (by kernel_rfl) (by omega) rfl (.tmp 10) (.tmp 14) rfl rfl B (.slice va k vc) xs rfl (M.out.row3 HO2.out HB2.out) q x (one15S x HOK.out) rfl HQ.out (by rw [M.out.len]; omega) (by rw [M.out.len]; omega) (Nat.le_trans M.out.B1 (Nat.le_trans HO2.out.size HB2.out.size)) ?_; intro v4 w4 ho4 hg4 hw4; have HR4 := Lib.hid (LgM.next noK pE15 M.out HO2.out HB2.out ho4 hg4 hw4 HIN.out HNW.out (by rw [← HSK.out]; exact HPU.out) (by rw [← HSK.out]; exact HR2.out)); clear ho4 hg4 hw4))
      go_wp2_with (fail)
      go_roundw
      case rel => exact ⟨k + 1, by omega, by go_num, HR4⟩
      case measure => simp [intOf]; omega
    · obtain rfl : k = n := by omega
      have M := Lib.hid hm
      clear HM hm
      go_wp2_with (fail)
      go_ret
      exact ⟨_, xs, rfl, M.out.fin (fun _ => rfl) (by unfold maxLen; omega), M.out.eq, by rw [M.out.len]; exact hnm, M.out.rd, M.out.only⟩
theorem info15I : (Tryz.prog.info? 3).map (fun i => (i.zero, i.size, i.bytes)) = some (some (.int .i64 0), 1, 8) := by kernel_rfl
theorem fill15I (x : Int) (hx : True) : Instr.fill (fun i => some (i * 1, 1)) ((Array.range (1 * 1)).map (((.int .i64 0) : Value).cells[· % ((.int .i64 0) : Value).cells.size]!)) [(0, .int .i64 x)] = some (itL x).toArray := by
  kernel_rfl
theorem wpList_one15I {w : World} {ops : Array Oper} {rest : List Oper} {o : Oper} {a : Act} {Q : Exit → Act → World → Prop} (hgd : o.guard = none) (y : Operand) (ho : o.op = .buildSlice 35 1 #[(0, y)]) (d : Option Tmp) (hd : o.dst = d) (x : Int) (hok : True) (v : Value) (hv : v = .int .i64 x) (hx : a.eval y = v)
    (h : wpList Tryz.prog ops Q rest (a.put d (.slice (some ⟨w.heap.size, 0, none⟩) 1 1)) (w.alloc (.cells (itL x).toArray 3))) : wpList Tryz.prog ops Q (o :: rest) a w := by
  subst hd hv
  refine wpList_plain hgd fun K hK => ?_
  obtain ⟨i0, hi, hz0, hz1, hz2⟩ := info_parts info15I
  refine wp_buildSlice 35 3 1 #[(0, y)] ho (itL x).toArray i0 _ Tryz.underlying35 hi hz0 (by rw [hz1]; decide) (by rw [hz1]; decide) ?_ (hK _ _ h)
  rw [hz1]
  simpa [hx] using fill15I x hok
theorem one15I (x : Int) (hx : True) : ∀ u ∈ itL x, u.oneCell' = true := fun u hu => by rw [List.mem_singleton.1 hu]; rfl
set_option maxHeartbeats 8000000 in
theorem rlist15I (p : Nat) (ob : Option Nat) (s : RSt) (w : World) (h : RO w p ob s) :
    Calls Tryz.prog 203 #[.pointer (some ⟨p, 0, none⟩), .func (.func 204) #[] #[]] w fun r w' => ∃ vv xs, r = .returned vv ∧ LgO 1 itL noI noF w' w.heap.size vv xs ∧ xs.map id = lstV iV15 iR15 65536 s ∧ xs.length ≤ 65536 ∧ RO w' p ob (lstR iR15 65536 s) ∧ Only p w w' := by
  have HC := Lib.hid (show Calls Tryz.prog 162 #[.pointer (some ⟨p, 0, none⟩), .int .i64 65536] w fun r w' => r = .returned (.int .i64 ((countS s 65536).1 : Int)) ∧ RO w' p ob (countS s 65536).2 ∧ Only p w w' from rcountO_any p ob s 65536 (by omega) w h)
  have HLT := Lib.hid h.lt11
  have HM := Lib.hid (cnt_le15 s 65536)
  unfold lstV lstR
  obtain ⟨n, hn⟩ : ∃ n, n = (countS s 65536).1 := ⟨_, rfl⟩
  obtain ⟨s1, hs1⟩ : ∃ n, n = (countS s 65536).2 := ⟨_, rfl⟩
  rw [← hn] at HC HM ⊢
  rw [← hs1] at HC ⊢
  have hnm : n ≤ 65536 := HM.out
  clear h hn hs1 HM
  go_enter Tryz.func203, Tryz.ntmps203
  go_wp2_with (go_at_call 162; (with_reducible refine HC.out.mono ?_); rintro e w1 ⟨rfl, hr, ho⟩; have HR := Lib.hid hr; have HO := Lib.hid ho; clear hr ho)
  have HM0 := Lib.hid (LgM.start (n := 1) (C := itL) (E := 3) (In := noI) (F := noF) (pu := id) (V := iV15) (R := iR15) HR.out HO.out HLT.out)
  obtain ⟨B, hB⟩ : ∃ B, B = w1.heap.size := ⟨_, rfl⟩
  rw [← hB] at HM0
  clear hB HR HO HC
  go_loopw [5, 8] (fun y x wr => ∃ k : Nat, k ≤ n ∧ x = .int .i64 (k : Int) ∧ Hid (LgR 1 itL 3 noI noF id iV15 iR15 w p ob s1 B k y wr)) (fun _ x _ => n - (intOf x).toNat)
  case atStart => exact ⟨0, Nat.zero_le _, rfl, HM0⟩
  case round =>
    clear HM0
    obtain ⟨k, hkn, rfl, HM⟩ := hrel
    obtain ⟨xs, hm⟩ := HM.out
    obtain ⟨va, vc, hvv⟩ := own_slice11 hm.row
    rw [hm.len] at hvv
    subst hvv
    by_cases hlt : k < n
    · have hltI : (k : Int) < (n : Int) := by omega
      have M := Lib.hid hm
      have HRD := Lib.hid hm.rd
      clear HM hm
      obtain ⟨sk, hsk⟩ : ∃ z, z = rN iR15 k s1 := ⟨_, rfl⟩
      have HSK := Lib.hid hsk
      rw [← hsk] at HRD
      clear hsk
      go_upto_region 5 with (first
        | (go_at_call 204; (with_reducible refine (rint15_any p ob sk wr HRD.out).mono ?_); rintro e w2 ⟨rfl, hr, ho⟩; have HR2 := Lib.hid hr; have HO2 := Lib.hid ho; obtain ⟨x, hx⟩ : ∃ x, x = iV15 sk := ⟨_, rfl⟩; have HPU := Lib.hid (show id x = iV15 sk from hx); rw [← hx]; clear hx; have HIN := Lib.hid (show noI w2 x from trivial); have HNW := Lib.hid (show ∀ j, noF x j → wr.heap.size ≤ j ∧ j < w2.heap.size from fun j h => h.elim); have HOK := Lib.hid trivial; obtain ⟨TV, hTV⟩ : ∃ t, t = Value.int .i64 x := ⟨_, rfl⟩; have HTV := Lib.hid hTV; rw [← hTV]; clear hTV; clear hr ho)
        | (refine wpList_one15I rfl (.tmp 13) rfl (some 14) rfl x HOK.out TV HTV.out rfl ?_; have HQ := Lib.hid (heap_alloc_new w2 (.cells (itL x).toArray 3)); have hb2 := below_alloc w2 (.cells (itL x).toArray 3); have HB2 := Lib.hid hb2; clear hb2; obtain ⟨q, hq⟩ : ∃ q, q = w2.heap.size := ⟨_, rfl⟩; rw [← hq] at HQ ⊢; clear hq; generalize w2.alloc (.cells (itL x).toArray 3) = w3 at *)
        | (at_builtin; refine wpList_append_row11 (n := 1) (C := itL) (fun _ => rfl) 35 3 (.int .i64 0) Tryz.underlying35 info15I (by kernel_rfl) (by omega) rfl (.tmp 10) (.tmp 14) rfl rfl B (.slice va k vc) xs rfl (M.out.row3 HO2.out HB2.out) q x (one15I x HOK.out) rfl HQ.out (by rw [M.out.len]; omega) (by rw [M.out.len]; omega) (Nat.le_trans M.out.B1 (Nat.le_trans HO2.out.size HB2.out.size)) ?_; intro v4 w4 ho4 hg4 hw4; have HR4 := Lib.hid (LgM.next noK iE15 M.out HO2.out HB2.out ho4 hg4 hw4 HIN.out HNW.out (by rw [← HSK.out]; exact HPU.out) (by rw [← HSK.out]; exact HR2.out)); clear ho4 hg4 hw4))
      go_wp2_with (fail)
      go_roundw
      case rel => exact ⟨k + 1, by omega, by go_num, HR4⟩
      case measure => simp [intOf]; omega
    · obtain rfl : k = n := by omega
      have M := Lib.hid hm
      clear HM hm
      go_wp2_with (fail)
      go_ret
      exact ⟨_, xs, rfl, M.out.fin (fun _ => rfl) (by unfold maxLen; omega), M.out.eq, by rw [M.out.len]; exact hnm, M.out.rd, M.out.only⟩
theorem info15D : (Tryz.prog.info? 34).map (fun i => (i.zero, i.size, i.bytes)) = some (some (.slice none 0 0), 1, 24) := by kernel_rfl
theorem fill15D (x : Tb) (hx : ∃ a n c, x.bv = .slice a n c) : Instr.fill (fun i => some (i * 1, 1)) ((Array.range (1 * 1)).map (((.slice none 0 0) : Value).cells[· % ((.slice none 0 0) : Value).cells.size]!)) [(0, x.bv)] = some (tdL x).toArray := by
  obtain ⟨bv, bs⟩ := x
  obtain ⟨a, n, c, rfl⟩ := hx
  kernel_rfl
theorem wpList_one15D {w : World} {ops : Array Oper} {rest : List Oper} {o : Oper} {a : Act} {Q : Exit → Act → World → Prop} (hgd : o.guard = none) (y : Operand) (ho : o.op = .buildSlice 98 1 #[(0, y)]) (d : Option Tmp) (hd : o.dst = d) (x : Tb) (hok : ∃ a n c, x.bv = .slice a n c) (v : Value) (hv : v = x.bv) (hx : a.eval y = v)
    (h : wpList Tryz.prog ops Q rest (a.put d (.slice (some ⟨w.heap.size, 0, none⟩) 1 1)) (w.alloc (.cells (tdL x).toArray 34))) : wpList Tryz.prog ops Q (o :: rest) a w := by
  subst hd hv
  refine wpList_plain hgd fun K hK => ?_
  obtain ⟨i0, hi, hz0, hz1, hz2⟩ := info_parts info15D
  refine wp_buildSlice 98 34 1 #[(0, y)] ho (tdL x).toArray i0 _ Tryz.underlying98 hi hz0 (by rw [hz1]; decide) (by rw [hz1]; decide) ?_ (hK _ _ h)
  rw [hz1]
  simpa [hx] using fill15D x hok
theorem one15D (x : Tb) (hx : ∃ a n c, x.bv = .slice a n c) : ∀ u ∈ tdL x, u.oneCell' = true := fun u hu => by obtain ⟨a, n, c, e⟩ := hx; rw [List.mem_singleton.1 hu, e]; rfl
set_option maxHeartbeats 8000000 in
theorem rlist15D (p : Nat) (ob : Option Nat) (s : RSt) (w : World) (h : RO w p ob s) :
    Calls Tryz.prog 205 #[.pointer (some ⟨p, 0, none⟩), .func (.func 206) #[] #[]] w fun r w' => ∃ vv xs, r = .returned vv ∧ LgO 1 tdL tdI tdF w' w.heap.size vv xs ∧ xs.map Tb.bs = lstV dV15 pR15 65536 s ∧ xs.length ≤ 65536 ∧ RO w' p ob (lstR pR15 65536 s) ∧ Only p w w' := by
  have HC := Lib.hid (show Calls Tryz.prog 162 #[.pointer (some ⟨p, 0, none⟩), .int .i64 65536] w fun r w' => r = .returned (.int .i64 ((countS s 65536).1 : Int)) ∧ RO w' p ob (countS s 65536).2 ∧ Only p w w' from rcountO_any p ob s 65536 (by omega) w h)
  have HLT := Lib.hid h.lt11
  have HM := Lib.hid (cnt_le15 s 65536)
  unfold lstV lstR
  obtain ⟨n, hn⟩ : ∃ n, n = (countS s 65536).1 := ⟨_, rfl⟩
  obtain ⟨s1, hs1⟩ : ∃ n, n = (countS s 65536).2 := ⟨_, rfl⟩
  rw [← hn] at HC HM ⊢
  rw [← hs1] at HC ⊢
  have hnm : n ≤ 65536 := HM.out
  clear h hn hs1 HM
  go_enter Tryz.func205, Tryz.ntmps205
  go_wp2_with (go_at_call 162; (with_reducible refine HC.out.mono ?_); rintro e w1 ⟨rfl, hr, ho⟩; have HR := Lib.hid hr; have HO := Lib.hid ho; clear hr ho)
  have HM0 := Lib.hid (LgM.start (n := 1) (C := tdL) (E := 34) (In := tdI) (F := tdF) (pu := Tb.bs) (V := dV15) (R := pR15) HR.out HO.out HLT.out)
  obtain ⟨B, hB⟩ : ∃ B, B = w1.heap.size := ⟨_, rfl⟩
  rw [← hB] at HM0
  clear hB HR HO HC
  go_loopw [5, 8] (fun y x wr => ∃ k : Nat, k ≤ n ∧ x = .int .i64 (k : Int) ∧ Hid (LgR 1 tdL 34 tdI tdF Tb.bs dV15 pR15 w p ob s1 B k y wr)) (fun _ x _ => n - (intOf x).toNat)
  case atStart => exact ⟨0, Nat.zero_le _, rfl, HM0⟩
  case round =>
    clear HM0
    obtain ⟨k, hkn, rfl, HM⟩ := hrel
    obtain ⟨xs, hm⟩ := HM.out
    obtain ⟨va, vc, hvv⟩ := own_slice11 hm.row
    rw [hm.len] at hvv
    subst hvv
    by_cases hlt : k < n
    · have hltI : (k : Int) < (n : Int) := by omega
      have M := Lib.hid hm
      have HRD := Lib.hid hm.rd
      clear HM hm
      obtain ⟨sk, hsk⟩ : ∃ z, z = rN pR15 k s1 := ⟨_, rfl⟩
      have HSK := Lib.hid hsk
      rw [← hsk] at HRD
      clear hsk
      go_upto_region 5 with (first
        | (go_at_call 206; (with_reducible refine (rdata15_any p ob sk wr HRD.out).mono ?_); rintro e w2 ⟨x, rfl, hin, hnw, hpu, hok, hr, ho⟩; have HR2 := Lib.hid hr; have HO2 := Lib.hid ho; have HPU := Lib.hid hpu; have HIN := Lib.hid hin; have HNW := Lib.hid hnw; have HOK := Lib.hid hok; clear hpu hin hnw hok; obtain ⟨TV, hTV⟩ : ∃ t, t = x.bv := ⟨_, rfl⟩; have HTV := Lib.hid hTV; rw [← hTV]; clear hTV; clear hr ho)
        | (refine wpList_one15D rfl (.tmp 13) rfl (some 14) rfl x HOK.out TV HTV.out rfl ?_; have HQ := Lib.hid (heap_alloc_new w2 (.cells (tdL x).toArray 34)); have hb2 := below_alloc w2 (.cells (tdL x).toArray 34); have HB2 := Lib.hid hb2; clear hb2; obtain ⟨q, hq⟩ : ∃ q, q = w2.heap.size := ⟨_, rfl⟩; rw [← hq] at HQ ⊢; clear hq; generalize w2.alloc (.cells (tdL x).toArray 34) = w3 at *)
        | (at_builtin; refine wpList_append_row11 (n := 1) (C := tdL) (fun _ => rfl) 98 34 (.slice none 0 0) Tryz.underlying98 info15D (by kernel_rfl) (by omega) rfl (.tmp 10) (.tmp 14) rfl rfl B (.slice va k vc) xs rfl (M.out.row3 HO2.out HB2.out) q x (one15D x HOK.out) rfl HQ.out (by rw [M.out.len]; omega) (by rw [M.out.len]; omega) (Nat.le_trans M.out.B1 (Nat.le_trans HO2.out.size HB2.out.size)) ?_; intro v4 w4 ho4 hg4 hw4; have HR4 := Lib.hid (LgM.next tdK pE15 M.out HO2.out HB2.out ho4 hg4 hw4 HIN.out HNW.out (by rw [← HSK.out]; exact HPU.out) (by rw [← HSK.out]; exact HR2.out)); clear ho4 hg4 hw4))
      go_wp2_with (fail)
      go_roundw
      case rel => exact ⟨k + 1, by omega, by go_num, HR4⟩
      case measure => simp [intOf]; omega
    · obtain rfl : k = n := by omega
      have M := Lib.hid hm
      clear HM hm
      go_wp2_with (fail)
      go_ret
      exact ⟨_, xs, rfl, M.out.fin (fun _ => rfl) (by unfold maxLen; omega), M.out.eq, by rw [M.out.len]; exact hnm, M.out.rd, M.out.only⟩
set_option maxHeartbeats 4000000 in
theorem rmsg15_any (p : Nat) (ob : Option Nat) (s : RSt) (w : World) (h : RO w p ob s) :
    Calls Tryz.prog 137 #[.pointer (some ⟨p, 0, none⟩)] w fun r w' => ∃ x : Mg, r = .returned (.agg (mgC x)) ∧ MgE w' x ∧ (∀ j, mgF x j → w.heap.size ≤ j ∧ j < w'.heap.size) ∧ mgP x = mgV15 s ∧ RO w' p ob (mgR15 s) ∧ Only p w w' := by
  have HLT := Lib.hid h.lt11
  have HOB := Lib.hid h.own11
  have HR0' := Lib.hid (fun o => h.below11 (below_alloc w o))
  clear h
  go_enter Tryz.func137, Tryz.ntmps137
  go_upto_region 1 with (fail)
  generalize hA : World.alloc w _ = w1
  obtain ⟨cz, hcz, hq⟩ : ∃ cz : Array Value, cz.size = 4 ∧ w1.heap[w.heap.size]? = some (.cells cz 100 (0, 0)) := ⟨_, by kernel_rfl, by rw [← hA]; exact heap_alloc_new _ _⟩
  have HCZ := Lib.hid hcz
  have HQ := Lib.hid hq
  have HR0 := Lib.hid (show RO w1 p ob s from by rw [← hA]; exact HR0'.out _)
  have HO0 := Lib.hid (show Only p w w1 from by rw [← hA]; exact Only.of_below (below_alloc _ _))
  have HS1 := Lib.hid (show w1.heap.size = w.heap.size + 1 from by rw [← hA]; simp)
  clear hA hcz hq HR0'
  obtain ⟨q, hqe⟩ : ∃ q, q = w.heap.size := ⟨_, rfl⟩
  have HQE := Lib.hid hqe
  rw [← hqe] at HQ ⊢
  clear hqe
  go_wp2_with (first
    | (go_at_call 135; (with_reducible refine (intO_any p ob _ w1 HR0.out).mono ?_); rintro e w2 ⟨rfl, hr, ho⟩; have HR1 := Lib.hid hr; have HO1 := Lib.hid (HO0.out.trans ho); have HG2 := Lib.hid ho.size; replace HQ := Lib.hid ((ho.block q (Array.getElem?_eq_some_iff.1 HQ.out).1 (by have := HLT.out; have := HQE.out; omega)).trans HQ.out); clear hr ho)
    | (go_at_call 201; (with_reducible refine (rlist15S p ob _ w2 HR1.out).mono ?_); rintro e w3 ⟨tv, ts, rfl, ht, hte, htn, hr, ho⟩; have HT3 := Lib.hid ht; have HTE := Lib.hid hte; have HR2 := Lib.hid hr; have HO2 := Lib.hid (HO1.out.trans ho); have HG3 := Lib.hid ho.size; replace HQ := Lib.hid ((ho.block q (Array.getElem?_eq_some_iff.1 HQ.out).1 (by have := HLT.out; have := HQE.out; omega)).trans HQ.out); clear ht hte htn hr ho)
    | (go_at_call 203; (with_reducible refine (rlist15I p ob _ w3 HR2.out).mono ?_); rintro e w4 ⟨iv, is, rfl, ht, hte, htn, hr, ho⟩; have HT4 := Lib.hid ht; have HIE := Lib.hid hte; have HR3 := Lib.hid hr; have HO3 := Lib.hid (HO2.out.trans ho); have HG4 := Lib.hid ho.size; have HT3' := Lib.hid (LgO.only noK HT3.out ho (by have := HLT.out; have := HS1.out; have := HG2.out; omega)); replace HQ := Lib.hid ((ho.block q (Array.getElem?_eq_some_iff.1 HQ.out).1 (by have := HLT.out; have := HQE.out; omega)).trans HQ.out); clear ht hte htn hr ho)
    | (go_at_call 205; (with_reducible refine (rlist15D p ob _ w4 HR3.out).mono ?_); rintro e w5 ⟨dv, ds, rfl, ht, hte, htn, hr, ho⟩; have HT5 := Lib.hid ht; have HDE := Lib.hid hte; have HR4 := Lib.hid hr; have HO4 := Lib.hid (HO3.out.trans ho); have HG5 := Lib.hid ho.size; have HT3x := Lib.hid (LgO.only noK HT3'.out ho (by have := HLT.out; have := HS1.out; have := HG2.out; omega)); have HT4x := Lib.hid (LgO.only noK HT4.out ho (by have := HLT.out; have := HS1.out; have := HG2.out; have := HG3.out; omega)); replace HQ := Lib.hid ((ho.block q (Array.getElem?_eq_some_iff.1 HQ.out).1 (by have := HLT.out; have := HQE.out; omega)).trans HQ.out); clear ht hte htn hr ho; obtain ⟨a1, c1, htv, -⟩ := HT3x.out.rows.len; obtain ⟨a2, c2, hiv, -⟩ := HT4x.out.rows.len; obtain ⟨a3, c3, hdv, -⟩ := HT5.out.rows.len; obtain ⟨n1, hn1⟩ : ∃ n, n = ts.length := ⟨_, rfl⟩; obtain ⟨n2, hn2⟩ : ∃ n, n = is.length := ⟨_, rfl⟩; obtain ⟨n3, hn3⟩ : ∃ n, n = ds.length := ⟨_, rfl⟩; rw [← hn1] at htv; rw [← hn2] at hiv; rw [← hn3] at hdv; subst htv hiv hdv; clear hn1 hn2 hn3; obtain ⟨KI, hKI⟩ : ∃ k, k = (intS s).1 := ⟨_, rfl⟩; have HKI := Lib.hid hKI; rw [← hKI]; clear hKI; obtain ⟨CV, hCV⟩ : ∃ x : Array Value, x = #[.int .i64 KI, .slice a1 n1 c1, .slice a2 n2 c2, .slice a3 n3 c3] := ⟨_, rfl⟩; have HBU := Lib.hid ((mgP_built KI a1 a2 a3 n1 n2 n3 c1 c2 c3).trans (congrArg some hCV.symm)); have HOC := Lib.hid (show CV.all (·.oneCell') = true from by rw [hCV]; simp [Value.oneCell']); have HZC := Lib.hid (show CV.size = 4 from by rw [hCV]; rfl); have HCV := Lib.hid hCV; clear hCV)
    | (refine wpList_buildTo rfl 100 #[(0, .tmp 4), (1, .tmp 6), (2, .tmp 8), (3, .tmp 10)] rfl (some 11) rfl CV (by refine Eq.trans (congrArg (Tryz.prog.built 100) ?_) HBU.out; kernel_rfl) ?_)
    | (refine wpList_store_row rfl 100 (.tmp 2) (.tmp 11) rfl q CV rfl rfl 100 _ HQ.out (by rw [HZC.out]; kernel_rfl) (by rw [HZC.out, HCZ.out]) HOC.out ?_))
  refine bodyPost_ret (results_cell_row rfl _ _ q 100 CV (0, 0) _ rfl (setRow_heap _ _ _ _ _ _ HQ.out) Tryz.underlying100 rfl (by rw [HZC.out]; kernel_rfl)) rfl ?_
  have hlt := HLT.out
  have hqe := HQE.out
  have hs1 := HS1.out
  have hg2 := HG2.out
  have hg3 := HG3.out
  have hg4 := HG4.out
  have hg5 := HG5.out
  have hpq : p ≠ q := by omega
  have hoq := only_setRow11 w5 q CV
  have hwq : w.heap.size ≤ q := by omega
  have hHO : Only p w (w5.setRow q CV) := HO4.out.behind hwq CV
  have o3 := LgO.only noK HT3x.out hoq (by omega)
  have o4 := LgO.only noK HT4x.out hoq (by omega)
  have o5 := LgO.only tdK HT5.out hoq (by omega)
  refine ⟨⟨KI, .slice a1 n1 c1, ts, .slice a2 n2 c2, is, .slice a3 n3 c3, ds⟩, (by first | (rw [HCV.out]; rfl) | rw [HCV.out]), ⟨o3.rows, o4.rows, o5.rows, fun t ht => (o5.el t ht).1⟩, fun j hj => ?_, ?_, HR4.out.stay11 hoq hpq (fun hn k hk => ?_), hHO⟩
  · rcases hj with hj | hj | hj | ⟨t, ht, hj⟩
    · have := o3.own j hj; omega
    · have := o4.own j hj; omega
    · have := o5.own j hj; omega
    · have := (o5.el t ht).2 j hj; omega
  · have h1 := HTE.out
    have h2 := HIE.out
    have h3 := HDE.out
    rw [List.map_id] at h1 h2
    unfold mgP mgV15
    simp only
    rw [HKI.out, h1, h2, h3]
  · have := HOB.out (fun e => hn (mgE15 _ e)) k hk
    omega
theorem info15M : (Tryz.prog.info? 100).map (fun i => (i.zero, i.size, i.bytes)) = some (some mgZ15, 4, 80) := by kernel_rfl
theorem fill15M (x : Mg) (hx : MgV x) : Instr.fill (fun i => some (i * 4, 4)) ((Array.range (1 * 4)).map ((mgZ15 : Value).cells[· % (mgZ15 : Value).cells.size]!)) [(0, .agg (mgC x))] = some (mgL x).toArray := by
  obtain ⟨k, tv, ts, iv, is, dv, ds⟩ := x
  obtain ⟨⟨a1, c1, e1⟩, ⟨a2, c2, e2⟩, ⟨a3, c3, e3⟩⟩ := hx
  simp only at e1 e2 e3
  subst e1 e2 e3
  kernel_rfl
theorem wpList_one15M {w : World} {ops : Array Oper} {rest : List Oper} {o : Oper} {a : Act} {Q : Exit → Act → World → Prop} (hgd : o.guard = none) (y : Operand) (ho : o.op = .buildSlice 65 1 #[(0, y)]) (d : Option Tmp) (hd : o.dst = d) (x : Mg) (hok : MgV x) (v : Value) (hv : v = .agg (mgC x)) (hx : a.eval y = v)
    (h : wpList Tryz.prog ops Q rest (a.put d (.slice (some ⟨w.heap.size, 0, none⟩) 1 1)) (w.alloc (.cells (mgL x).toArray 100))) : wpList Tryz.prog ops Q (o :: rest) a w := by
  subst hd hv
  refine wpList_plain hgd fun K hK => ?_
  obtain ⟨i0, hi, hz0, hz1, hz2⟩ := info_parts info15M
  refine wp_buildSlice 65 100 1 #[(0, y)] ho (mgL x).toArray i0 _ Tryz.underlying65 hi hz0 (by rw [hz1]; decide) (by rw [hz1]; decide) ?_ (hK _ _ h)
  rw [hz1]
  simpa [hx] using fill15M x hok
theorem one15M (x : Mg) (hx : MgV x) : ∀ u ∈ mgL x, u.oneCell' = true := mgC_nest hx
set_option maxHeartbeats 8000000 in
theorem rlist15M (p : Nat) (ob : Option Nat) (s : RSt) (w : World) (h : RO w p ob s) :
    Calls Tryz.prog 136 #[.pointer (some ⟨p, 0, none⟩), .func (.func 137) #[] #[]] w fun r w' => ∃ vv xs, r = .returned vv ∧ LgO 4 mgL MgE mgF w' w.heap.size vv xs ∧ xs.map mgP = lstV mgV15 mgR15 65536 s ∧ xs.length ≤ 65536 ∧ RO w' p ob (lstR mgR15 65536 s) ∧ Only p w w' := by
  have HC := Lib.hid (show Calls Tryz.prog 162 #[.pointer (some ⟨p, 0, none⟩), .int .i64 65536] w fun r w' => r = .returned (.int .i64 ((countS s 65536).1 : Int)) ∧ RO w' p ob (countS s 65536).2 ∧ Only p w w' from rcountO_any p ob s 65536 (by omega) w h)
  have HLT := Lib.hid h.lt11
  have HM := Lib.hid (cnt_le15 s 65536)
  unfold lstV lstR
  obtain ⟨n, hn⟩ : ∃ n, n = (countS s 65536).1 := ⟨_, rfl⟩
  obtain ⟨s1, hs1⟩ : ∃ n, n = (countS s 65536).2 := ⟨_, rfl⟩
  rw [← hn] at HC HM ⊢
  rw [← hs1] at HC ⊢
  have hnm : n ≤ 65536 := HM.out
  clear h hn hs1 HM
  go_enter Tryz.func136, Tryz.ntmps136
  go_wp2_with (go_at_call 162; (with_reducible refine HC.out.mono ?_); rintro e w1 ⟨rfl, hr, ho⟩; have HR := Lib.hid hr; have HO := Lib.hid ho; clear hr ho)
  have HM0 := Lib.hid (LgM.start (n := 4) (C := mgL) (E := 100) (In := MgE) (F := mgF) (pu := mgP) (V := mgV15) (R := mgR15) HR.out HO.out HLT.out)
  obtain ⟨B, hB⟩ : ∃ B, B = w1.heap.size := ⟨_, rfl⟩
  rw [← hB] at HM0
  clear hB HR HO HC
  go_loopw [5, 8] (fun y x wr => ∃ k : Nat, k ≤ n ∧ x = .int .i64 (k : Int) ∧ Hid (LgR 4 mgL 100 MgE mgF mgP mgV15 mgR15 w p ob s1 B k y wr)) (fun _ x _ => n - (intOf x).toNat)
  case atStart => exact ⟨0, Nat.zero_le _, rfl, HM0⟩
  case round =>
    clear HM0
    obtain ⟨k, hkn, rfl, HM⟩ := hrel
    obtain ⟨xs, hm⟩ := HM.out
    obtain ⟨va, vc, hvv⟩ := own_slice11 hm.row
    rw [hm.len] at hvv
    subst hvv
    by_cases hlt : k < n
    · have hltI : (k : Int) < (n : Int) := by omega
      have M := Lib.hid hm
      have HRD := Lib.hid hm.rd
      clear HM hm
      obtain ⟨sk, hsk⟩ : ∃ z, z = rN mgR15 k s1 := ⟨_, rfl⟩
      have HSK := Lib.hid hsk
      rw [← hsk] at HRD
      clear hsk
      go_upto_region 5 with (first
        | (go_at_call 137; (with_reducible refine (rmsg15_any p ob sk wr HRD.out).mono ?_); rintro e w2 ⟨x, rfl, hin, hnw, hpu, hr, ho⟩; have HR2 := Lib.hid hr; have HO2 := Lib.hid ho; have HPU := Lib.hid hpu; have HIN := Lib.hid hin; have HNW := Lib.hid hnw; have HOK := Lib.hid hin.v; clear hpu hin hnw; obtain ⟨TV, hTV⟩ : ∃ t, t = Value.agg (mgC x) := ⟨_, rfl⟩; have HTV := Lib.hid hTV; rw [← hTV]; clear hTV; clear hr ho)
        | (refine wpList_one15M rfl (.tmp 13) rfl (some 14) rfl x HOK.out TV HTV.out rfl ?_; have HQ := Lib.hid (heap_alloc_new w2 (.cells (mgL x).toArray 100)); have hb2 := below_alloc w2 (.cells (mgL x).toArray 100); have HB2 := Lib.hid hb2; clear hb2; obtain ⟨q, hq⟩ : ∃ q, q = w2.heap.size := ⟨_, rfl⟩; rw [← hq] at HQ ⊢; clear hq; generalize w2.alloc (.cells (mgL x).toArray 100) = w3 at *)
        | (at_builtin; refine wpList_append_row11 (n := 4) (C := mgL) (fun _ => rfl) 65 100 mgZ15 Tryz.underlying65 info15M (by kernel_rfl) (by omega) rfl (.tmp 10) (.tmp 14) rfl rfl B (.slice va k vc) xs rfl (M.out.row3 HO2.out HB2.out) q x (one15M x HOK.out) rfl HQ.out (by rw [M.out.len]; omega) (by rw [M.out.len]; omega) (Nat.le_trans M.out.B1 (Nat.le_trans HO2.out.size HB2.out.size)) ?_; intro v4 w4 ho4 hg4 hw4; have HR4 := Lib.hid (LgM.next mgK mgE15 M.out HO2.out HB2.out ho4 hg4 hw4 HIN.out HNW.out (by rw [← HSK.out]; exact HPU.out) (by rw [← HSK.out]; exact HR2.out)); clear ho4 hg4 hw4))
      go_wp2_with (fail)
      go_roundw
      case rel => exact ⟨k + 1, by omega, by go_num, HR4⟩
      case measure => simp [intOf]; omega
    · obtain rfl : k = n := by omega
      have M := Lib.hid hm
      clear HM hm
      go_wp2_with (fail)
      go_ret
      exact ⟨_, xs, rfl, M.out.fin (fun _ => rfl) (by unfold maxLen; omega), M.out.eq, by rw [M.out.len]; exact hnm, M.out.rd, M.out.only⟩
end Go.Proofs.YtllpnpeppdfjlaaGreatDoor
namespace Go.Proofs.YtllpnpeppdfjlaaGreatDoor
set_option linter.unusedVariables false
set_option linter.unusedSimpArgs false
theorem getD_varint (n i : Nat) (r : List Int) (h : i < glen n) : (varint n ++ r).getD i 0 = ((gby n i : Nat) : Int) := by
  simp [List.getD, List.getElem?_append_left (by rw [varint_length]; exact h : i < (varint n).length), varint_get h]
theorem rdFrom_varint (n most : Nat) (r : List Int) (hn : n < 18446744073709551616) : ∀ (d i k : Nat), i + d + 1 = glen n → d < k →
    rdFrom (varint n ++ r) most k i = if most < n then (0, 0, some 4) else (n, glen n, none) := by
  intro d
  induction d with
  | zero =>
    intro i k h hk
    obtain ⟨k, rfl⟩ : ∃ j, k = j + 1 := ⟨k - 1, by omega⟩
    have hl := gby_last (by omega : i + 1 = glen n)
    rw [rdFrom, getD_varint n i r (by omega), if_pos (by omega), Int.toNat_natCast, show i + 1 = glen n by omega, accF_varint n r hn (glen n) (Nat.le_refl _), mod_glen]
    unfold chk
    rw [if_neg]
    rintro (⟨h1, h2⟩ | ⟨h1, h2⟩)
    · rw [hl.1] at h2
      have h3 := glen_lo n (i - 1) (by omega)
      obtain ⟨j, rfl⟩ : ∃ j, i = j + 1 := ⟨i - 1, by omega⟩
      rw [Nat.add_sub_cancel] at h3
      rw [div_pow_step] at h2
      omega
    · rw [hl.1, show i = 9 by omega] at h2
      have e : (128 : Nat) ^ 9 = 9223372036854775808 := by decide
      rw [e] at h2
      omega
  | succ d ih =>
    intro i k h hk
    obtain ⟨k, rfl⟩ : ∃ j, k = j + 1 := ⟨k - 1, by omega⟩
    have hm := gby_more (by omega : i + 1 < glen n)
    rw [rdFrom, getD_varint n i r (by omega), if_neg (by omega)]
    exact ih (i + 1) k (by omega) (by omega)
theorem rdF_varint (n most : Nat) (r : List Int) (hn : n < 18446744073709551616) : rdF (varint n ++ r) most = if most < n then (0, 0, some 4) else (n, glen n, none) := by
  have h1 := glen_pos n
  have h2 := glen_le hn
  unfold rdF
  exact rdFrom_varint n most r hn (glen n - 1) 0 _ (by omega) (by rw [List.length_append, varint_length]; omega)
theorem drop_varint (n : Nat) (r : List Int) : (varint n ++ r).drop (glen n) = r := by rw [← varint_length n]; exact List.drop_left
theorem uintS_varint (n most : Nat) (r : List Int) (hn : n < 18446744073709551616) (hm : n ≤ most) : uintS (varint n ++ r, none) most = (n, r, none) := by
  have h := rdF_varint n most r hn
  rw [if_neg (by omega)] at h
  rw [uintS_good (by rw [h]), h]
  show (n, (varint n ++ r).drop (glen n), none) = _
  rw [drop_varint]
theorem intS_varint (i : Int) (r : List Int) (h0 : -9223372036854775808 ≤ i) (h1 : i ≤ 9223372036854775807) : intS (varint (zig i) ++ r, none) = (i, r, none) := by
  have hz := zig_lt h0 h1
  unfold intS
  rw [uintS_varint (zig i) 18446744073709551615 r hz (by omega)]
  simp only [unzig_zig]
theorem partS_bytes (l r : List Int) (most : Int) (hl : l.length < 18446744073709551616) (h0 : 0 ≤ most) (hm : (l.length : Int) ≤ most) : partS (varint l.length ++ (l ++ r), none) most = (l, r, none) := by
  have h := rdF_varint l.length 18446744073709551615 (l ++ r) hl
  rw [if_neg (by omega)] at h
  unfold partS
  simp only [h]
  rw [if_neg (by omega), if_neg (by omega), if_neg (by rw [List.length_append, List.length_append, varint_length]; omega), drop_varint, List.take_left, List.drop_left]
end Go.Proofs.YtllpnpeppdfjlaaGreatDoor
namespace Go.Proofs.YtllpnpeppdfjlaaGreatDoor
set_option linter.unusedVariables false
set_option linter.unusedSimpArgs false
open Go.RowKit
set_option maxRecDepth 100000
set_option linter.unusedSimpArgs false
set_option linter.unusedVariables false
def by1 (b : List Int) : List Int := varint b.length ++ b
def pm1 (m : Pm) : List Int := it1 m.kind ++ (listL st1 m.ts ++ (listL it1 m.is ++ listL by1 m.ds))
def px1 (x : Px) : List Int := (((st1 x.acc ++ it1 x.seq) ++ st1 x.den) ++ it1 x.amt) ++ listL pm1 x.ms
def pxB (x : Px) : List Int := px1 x ++ by1 x.sg
theorem catL_map {α β : Type} (f : β → List Int) (g : α → β) : ∀ l : List α, catL f (l.map g) = catL (fun x => f (g x)) l
  | [] => rfl
  | x :: r => by rw [List.map_cons, catL, catL, catL_map f g r]
theorem listL_map {α β : Type} (f : β → List Int) (g : α → β) (l : List α) : listL f (l.map g) = listL (fun x => f (g x)) l := by unfold listL; rw [catL_map, List.length_map]
theorem mg1_P (m : Mg) : mg1 m = pm1 (mgP m) := by
  unfold mg1 pm1 mgP
  simp only
  rw [listL_map]; rfl
theorem tr1_P (x : Tr) : tr1 x = px1 (pxP x) := by
  unfold tr1 px1 pxP
  simp only
  rw [listL_map, show (fun m => pm1 (mgP m)) = mg1 from funext fun m => (mg1_P m).symm]
theorem trB_P (x : Tr) : trB x = pxB (pxP x) := by unfold trB pxB; rw [tr1_P]; rfl
/-- reading a transaction -/
def tx4 (s : RSt) : RSt := iR15 (pR15 (iR15 (pR15 s)))
def txV15 (s : RSt) : Px := ⟨sV15 s, iV15 (pR15 s), sV15 (iR15 (pR15 s)), iV15 (pR15 (iR15 (pR15 s))), lstV mgV15 mgR15 65536 (tx4 s), dV15 (lstR mgR15 65536 (tx4 s))⟩
def txR15 (s : RSt) : RSt := pR15 (lstR mgR15 65536 (tx4 s))
theorem txE15 {s : RSt} (h : s.1 = []) : (txR15 s).1 = [] := pE15 _ (lstE mgE15 (iE15 _ (pE15 _ (iE15 _ (pE15 _ h)))))
/-- what Decode and Encode answer -/
def decOk (xs : List Int) : Bool := decide (xs.length ≤ 65536) && ((doneE (txR15 (xs, none))).isNone && (chkX (txV15 (xs, none))).isNone)
def encE (x : Px) : Option Nat := match chkX x with
  | some e => some e
  | none => if 65536 < (pxB x).length then some 2 else none
/-- reading back -/
theorem st_back (s : ByteArray) (h : s.size ≤ 65536) (r : List Int) : sV15 (st1 s ++ r, none) = s ∧ pR15 (st1 s ++ r, none) = (r, none) := by
  have h1 := partS_bytes (numsOf s) r 65536 (by rw [numsOf_length]; omega) (by omega) (by rw [numsOf_length]; omega)
  rw [numsOf_length] at h1
  have e : st1 s ++ r = varint s.size ++ (numsOf s ++ r) := by unfold st1; rw [List.append_assoc]
  unfold sV15 pR15
  rw [e, h1]
  exact ⟨str_numsOf s, rfl⟩
theorem it_back (i : Int) (h : i64b i) (r : List Int) : iV15 (it1 i ++ r, none) = i ∧ iR15 (it1 i ++ r, none) = (r, none) := by
  unfold iV15 iR15 it1
  rw [intS_varint i r h.1 h.2]
  exact ⟨rfl, rfl⟩
theorem by_back (b : List Int) (h : b.length ≤ 65536) (r : List Int) : dV15 (by1 b ++ r, none) = b ∧ pR15 (by1 b ++ r, none) = (r, none) := by
  have h1 := partS_bytes b r 65536 (by omega) (by omega) (by omega)
  have e : by1 b ++ r = varint b.length ++ (b ++ r) := by unfold by1; rw [List.append_assoc]
  unfold dV15 pR15
  rw [e, h1]
  exact ⟨rfl, rfl⟩
theorem catL_ge15 {α : Type} (f : α → List Int) : ∀ l : List α, (∀ t ∈ l, 1 ≤ (f t).length) → l.length ≤ (catL f l).length
  | [], _ => Nat.le_refl _
  | t :: l, h => by
    have := h t List.mem_cons_self
    have := catL_ge15 f l (fun u hu => h u (List.mem_cons_of_mem _ hu))
    rw [catL, List.length_append, List.length_cons]; omega
theorem catL_mem {α : Type} (f : α → List Int) : ∀ (l : List α) (t : α), t ∈ l → (f t).length ≤ (catL f l).length
  | x :: l, t, h => by
    rw [catL, List.length_append]
    rcases List.mem_cons.1 h with rfl | h
    · omega
    · have := catL_mem f l t h; omega
theorem cnt_back15 {α : Type} (f : α → List Int) (l : List α) (most : Nat) (r : List Int) (h1 : ∀ t ∈ l, 1 ≤ (f t).length) (hm : l.length ≤ most) (hl : l.length ≤ 1048576) : countS (listL f l ++ r, none) most = (l.length, catL f l ++ r, none) := by
  have e : listL f l ++ r = varint l.length ++ (catL f l ++ r) := by simp only [listL, List.append_assoc]
  have u := uintS_varint l.length most (catL f l ++ r) (by omega) hm
  rw [e, countS_good (by rw [u]) (by rw [u]; have := catL_ge15 f l h1; simp only [List.length_append]; omega), u]
theorem rdk_back {β : Type} (f : β → List Int) (V : RSt → β) (R : RSt → RSt) : ∀ (l : List β), (∀ x ∈ l, ∀ r, V (f x ++ r, none) = x ∧ R (f x ++ r, none) = (r, none)) → ∀ r, rL V R l.length (catL f l ++ r, none) = l ∧ rN R l.length (catL f l ++ r, none) = (r, none)
  | [], _, r => ⟨rfl, rfl⟩
  | x :: l, h, r => by
    obtain ⟨h1, h2⟩ := h x List.mem_cons_self (catL f l ++ r)
    obtain ⟨h3, h4⟩ := rdk_back f V R l (fun y hy => h y (List.mem_cons_of_mem _ hy)) r
    have e : catL f (x :: l) ++ r = f x ++ (catL f l ++ r) := by rw [catL, List.append_assoc]
    rw [List.length_cons, rL_front, rN_front, e, h1, h2, h3, h4]
    exact ⟨rfl, rfl⟩
theorem lst_back {β : Type} (f : β → List Int) (V : RSt → β) (R : RSt → RSt) (l : List β) (h : ∀ x ∈ l, ∀ r, V (f x ++ r, none) = x ∧ R (f x ++ r, none) = (r, none)) (h1 : ∀ t ∈ l, 1 ≤ (f t).length) (hm : l.length ≤ 65536) (r : List Int) : lstV V R 65536 (listL f l ++ r, none) = l ∧ lstR R 65536 (listL f l ++ r, none) = (r, none) := by
  unfold lstV lstR
  rw [cnt_back15 f l 65536 r h1 hm (by omega)]
  exact rdk_back f V R l h r
theorem varint_ge (n : Nat) : 1 ≤ (varint n).length := by rw [varint_length]; exact glen_pos _
theorem st1_ge (s : ByteArray) : 1 ≤ (st1 s).length := by have := varint_ge s.size; rw [st1_len]; omega
theorem it1_ge (i : Int) : 1 ≤ (it1 i).length := varint_ge _
theorem by1_ge (b : List Int) : 1 ≤ (by1 b).length := by have := varint_ge b.length; unfold by1; rw [List.length_append]; omega
theorem pm1_ge (m : Pm) : 1 ≤ (pm1 m).length := by have := it1_ge m.kind; unfold pm1; rw [List.length_append]; omega
theorem listL_ge {α : Type} (f : α → List Int) (l : List α) (h : ∀ t ∈ l, 1 ≤ (f t).length) : l.length ≤ (listL f l).length := by have := catL_ge15 f l h; unfold listL; rw [List.length_append]; omega
theorem listL_mem {α : Type} (f : α → List Int) (l : List α) (t : α) (h : t ∈ l) : (f t).length ≤ (listL f l).length := by have := catL_mem f l t h; unfold listL; rw [List.length_append]; omega
structure PmFl (m : Pm) : Prop where
  k : i64b m.kind
  i : ∀ i ∈ m.is, i64b i
theorem mg_back (m : Pm) (hf : PmFl m) (hl : (pm1 m).length ≤ 65536) (r : List Int) : mgV15 (pm1 m ++ r, none) = m ∧ mgR15 (pm1 m ++ r, none) = (r, none) := by
  have hL : (pm1 m).length = (it1 m.kind).length + ((listL st1 m.ts).length + ((listL it1 m.is).length + (listL by1 m.ds).length)) := by simp only [pm1, List.length_append]
  have e : pm1 m ++ r = it1 m.kind ++ (listL st1 m.ts ++ (listL it1 m.is ++ (listL by1 m.ds ++ r))) := by simp only [pm1, List.append_assoc]
  have a1 := it_back m.kind hf.k (listL st1 m.ts ++ (listL it1 m.is ++ (listL by1 m.ds ++ r)))
  have g1 := listL_ge st1 m.ts (fun t _ => st1_ge t)
  have g2 := listL_ge it1 m.is (fun t _ => it1_ge t)
  have g3 := listL_ge by1 m.ds (fun t _ => by1_ge t)
  have a2 := lst_back st1 sV15 pR15 m.ts (fun s hs r => st_back s (by have := listL_mem st1 m.ts s hs; rw [st1_len] at this; omega) r) (fun t _ => st1_ge t) (by omega) (listL it1 m.is ++ (listL by1 m.ds ++ r))
  have a3 := lst_back it1 iV15 iR15 m.is (fun s hs r => it_back s (hf.i s hs) r) (fun t _ => it1_ge t) (by omega) (listL by1 m.ds ++ r)
  have a4 := lst_back by1 dV15 pR15 m.ds (fun s hs r => by_back s (by have := listL_mem by1 m.ds s hs; unfold by1 at this; rw [List.length_append] at this; unfold by1 at hL; omega) r) (fun t _ => by1_ge t) (by omega) r
  unfold iV15 iR15 at a1
  unfold mgV15 mgR15
  rw [e, a1.1, a1.2, a2.1, a2.2, a3.1, a3.2, a4.1, a4.2]
  exact ⟨rfl, rfl⟩
structure PxFl (x : Px) : Prop where
  s : i64b x.seq
  a : i64b x.amt
  m : ∀ m ∈ x.ms, PmFl m
theorem tx_back (x : Px) (hf : PxFl x) (hl : (pxB x).length ≤ 65536) : txV15 (pxB x, none) = x ∧ txR15 (pxB x, none) = ([], none) := by
  have hL : (pxB x).length = (st1 x.acc).length + (it1 x.seq).length + (st1 x.den).length + (it1 x.amt).length + (listL pm1 x.ms).length + (by1 x.sg).length := by simp only [pxB, px1, List.length_append]
  have e : pxB x = st1 x.acc ++ (it1 x.seq ++ (st1 x.den ++ (it1 x.amt ++ (listL pm1 x.ms ++ (by1 x.sg ++ []))))) := by simp only [pxB, px1, List.append_assoc, List.append_nil]
  have a1 := st_back x.acc (by rw [st1_len] at hL; omega) (it1 x.seq ++ (st1 x.den ++ (it1 x.amt ++ (listL pm1 x.ms ++ (by1 x.sg ++ [])))))
  have a2 := it_back x.seq hf.s (st1 x.den ++ (it1 x.amt ++ (listL pm1 x.ms ++ (by1 x.sg ++ []))))
  have a3 := st_back x.den (by have := st1_len x.den; omega) (it1 x.amt ++ (listL pm1 x.ms ++ (by1 x.sg ++ [])))
  have a4 := it_back x.amt hf.a (listL pm1 x.ms ++ (by1 x.sg ++ []))
  have g := listL_ge pm1 x.ms (fun t _ => pm1_ge t)
  have a5 := lst_back pm1 mgV15 mgR15 x.ms (fun m hm r => mg_back m (hf.m m hm) (by have := listL_mem pm1 x.ms m hm; omega) r) (fun t _ => pm1_ge t) (by omega) (by1 x.sg ++ [])
  have a6 := by_back x.sg (by have : (by1 x.sg).length = (varint x.sg.length).length + x.sg.length := by unfold by1; rw [List.length_append]
                              omega) []
  unfold txV15 txR15 tx4
  rw [e, a1.1, a1.2, a2.1, a2.2, a3.1, a3.2, a4.1, a4.2, a5.1, a5.2, a6.1, a6.2]
  exact ⟨rfl, rfl⟩
theorem dec_enc (x : Px) (hf : PxFl x) (h : encE x = none) : decOk (pxB x) = true ∧ txV15 (pxB x, none) = x := by
  have hc : chkX x = none := by
    unfold encE at h
    cases hx : chkX x with
    | none => rfl
    | some e => rw [hx] at h; cases h
  have hl : (pxB x).length ≤ 65536 := by
    unfold encE at h
    rw [hc] at h
    simp only at h
    split at h
    · cases h
    · omega
  obtain ⟨h1, h2⟩ := tx_back x hf hl
  refine ⟨?_, h1⟩
  unfold decOk
  rw [h1, h2, hc, decide_eq_true hl]
  rfl
end Go.Proofs.YtllpnpeppdfjlaaGreatDoor
namespace Go.Proofs.YtllpnpeppdfjlaaGreatDoor
set_option linter.unusedVariables false
set_option linter.unusedSimpArgs false
open Go.RowKit
set_option maxRecDepth 100000
set_option linter.unusedSimpArgs false
set_option linter.unusedVariables false
def shV (k : Int) : Value := .tuple #[.int .i64 ((shp k).1 : Int), .int .i64 ((shp k).2.1 : Int), .int .i64 ((shp k).2.2 : Int)]
set_option maxHeartbeats 4000000 in
theorem tshape_at (k : Nat) (r : Nat × Nat × Nat) (hk : 1 ≤ k ∧ k ≤ 18) (hr : shpL[k]? = some r) (w : World) (h : ShTab w) : Calls Tryz.prog 39 #[.int .i64 (k : Int)] w fun e w' => e = .returned (.tuple #[.int .i64 (r.1 : Int), .int .i64 (r.2.1 : Int), .int .i64 (r.2.2 : Int)]) ∧ Below w.heap.size w w' := by
  have HK := Lib.hid (fun w => tkind_any (k : Int) w)
  rw [show kindB (k : Int) = true from by unfold kindB; rw [decide_eq_true (by omega), decide_eq_true (by omega)]; rfl] at HK
  obtain ⟨a, b, c⟩ := r
  have HC := Lib.hid (show w.rangeAt 0 (k * 3) (#[.int .i64 (a : Int), .int .i64 (b : Int), .int .i64 (c : Int)] : Array Value).toList from fun j v hv => by
    obtain ⟨h0, h1, h2⟩ := h k _ hr
    match j, hv with
    | 0, hv => injection hv with hv; subst hv; exact h0
    | 1, hv => injection hv with hv; subst hv; exact h1
    | 2, hv => injection hv with hv; subst hv; exact h2)
  have k1 : (0 : Int) ≤ (k : Int) := by omega
  have k2 : (k : Int) < 19 := by omega
  clear h hr hk
  go_enter Tryz.func39, Tryz.ntmps39
  go_upto_region 4 with (first
    | (go_at_call 88; (with_reducible refine (HK.out _).mono ?_); rintro e w1 ⟨rfl, hw⟩; obtain rfl := hw.symm)
    | (refine wpList_load_rowT (by rfl) 163 (.tmp 10) rfl 0 (k * 3) rfl #[.int .i64 (a : Int), .int .i64 (b : Int), .int .i64 (c : Int)] _ HC.out Tryz.underlying163 rfl (by kernel_rfl) ?_)
    | (refine wpList_store_row rfl 163 (.tmp 5) (.tmp 11) rfl w.heap.size #[.int .i64 (a : Int), .int .i64 (b : Int), .int .i64 (c : Int)] rfl rfl 163 _ (heap_alloc_new _ _) (by kernel_rfl) (by rfl) (by simp [Value.oneCell']) ?_; rw [World.setRow_alloc_new]))
  have hq := heap_alloc_new w (.cells #[.int .i64 (a : Int), .int .i64 (b : Int), .int .i64 (c : Int)] 163)
  have hb := below_alloc w (.cells #[.int .i64 (a : Int), .int .i64 (b : Int), .int .i64 (c : Int)] 163)
  generalize w.alloc (.cells #[.int .i64 (a : Int), .int .i64 (b : Int), .int .i64 (c : Int)] 163) = w1 at *
  have HB := Lib.hid hb
  have c0 := cell_of_row w1 w.heap.size 0 _ _ _ hq
  have c1 := cell_of_row w1 w.heap.size 1 _ _ _ hq
  have c2 := cell_of_row w1 w.heap.size 2 _ _ _ hq
  clear hq hb
  simp only [List.getElem?_toArray, List.getElem?_cons_zero, List.getElem?_cons_succ] at c0 c1 c2
  go_quiet (fail)
  generalize hwr : World.drewN _ _ = w2
  have HB2 := Lib.hid (show Below w.heap.size w w2 from by rw [← hwr]; exact HB.out.trans ⟨rfl, rfl, rfl, Nat.le_refl _, fun _ _ => rfl⟩)
  go_wp2_with (fail)
  go_ret3
  exact ⟨rfl, HB2.out⟩
theorem tshape_no (k : Int) (hk : kindB k = false) (w : World) : Calls Tryz.prog 39 #[.int .i64 k] w fun e w' => e = .returned (.tuple #[.int .i64 0, .int .i64 0, .int .i64 0]) ∧ Below w.heap.size w w' := by
  have HK := Lib.hid (fun w => tkind_any k w)
  rw [hk] at HK
  clear hk
  go_enter Tryz.func39, Tryz.ntmps39
  go_wp2_with (go_at_call 88; (with_reducible refine (HK.out _).mono ?_); rintro e w1 ⟨rfl, hw⟩; obtain rfl := hw.symm)
  go_ret3
  exact ⟨rfl, Below.refl _ _⟩
theorem tshape_any (k : Int) (w : World) (h : ShTab w) : Calls Tryz.prog 39 #[.int .i64 k] w fun e w' => e = .returned (shV k) ∧ Below w.heap.size w w' := by
  unfold shV
  cases hk : kindB k with
  | false =>
    have e : shp k = (0, 0, 0) := by unfold shp; rw [hk]; rfl
    rw [e]
    exact tshape_no k hk w
  | true =>
    have h1 : 1 ≤ k ∧ k ≤ 18 := by unfold kindB at hk; simpa using hk
    obtain ⟨n, rfl⟩ : ∃ n : Nat, k = (n : Int) := ⟨k.toNat, by omega⟩
    have e : shpL[n]? = some (shp (n : Int)) := by
      unfold shp
      rw [hk, if_pos rfl, Int.toNat_natCast, List.getD_eq_getElem?_getD, List.getElem?_eq_getElem (by simp [shpL]; omega)]
      rfl
    exact tshape_at n _ (by omega) e w h
end Go.Proofs.YtllpnpeppdfjlaaGreatDoor
