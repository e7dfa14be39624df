/- Part 26 of the proof. -/
import Derived.Test.YtabflppnecemkaaGreatDoorPb9
import Derived.Test.YtabflppnecemkaaGreatDoorPb20
import Derived.Test.YtabflppnecemkaaGreatDoorPb22
import Derived.Test.YtabflppnecemkaaGreatDoorPb23
import Derived.Test.YtabflppnecemkaaGreatDoorPb25
namespace Go.Proofs.YtabflppnecemkaaGreatDoor
set_option linter.unusedVariables false
set_option linter.unusedSimpArgs false
open Go.RowKit
set_option maxRecDepth 100000
set_option linter.unusedSimpArgs false
set_option linter.unusedVariables false
def stpS (s : RSt) : AvS × RSt := (⟨(boolS s).1, (intS (boolS s).2).1, (hashS (intS (boolS s).2).2).1⟩, (hashS (intS (boolS s).2).2).2)
def decS : Nat → RSt → List AvS × RSt
  | 0, s => ([], s)
  | k + 1, s => ((decS k s).1 ++ [(stpS (decS k s).2).1], (stpS (decS k s).2).2)
theorem decS_len : ∀ (k : Nat) (s : RSt), (decS k s).1.length = k
  | 0, _ => rfl
  | k + 1, s => by unfold decS; simp [decS_len k s]
def decK (xs : List Int) : List Int × RSt := partS (xs, none) 1048576
def decV (xs : List Int) : List Int × RSt := partS (decK xs).2 1048576
def decC (xs : List Int) : Nat × RSt := countS (decV xs).2 64
def decL (xs : List Int) : List AvS × RSt := decS (decC xs).1 (decC xs).2
def zP : PvP := ⟨{ data := #[] }, { data := #[] }, []⟩
/-- the proof that has these bytes, or the zero one -/
def decP (xs : List Int) : PvP := if (doneE (decL xs).2).isNone then ⟨strOfNums (decK xs).1, strOfNums (decV xs).1, (decL xs).1⟩ else zP
def decE (xs : List Int) : Option Nat := if (doneE (decL xs).2).isNone then none else some 3
theorem countS_le (s : RSt) (most : Nat) : (countS s most).1 ≤ most := by
  unfold countS
  split
  · exact Nat.zero_le _
  · split
    · exact Nat.zero_le _
    · obtain ⟨ys, e⟩ := s
      cases e with
      | some x => exact Nat.zero_le _
      | none =>
        cases h : (rdF ys most).2.2 with
        | some x => rw [uintS_bad h]; exact Nat.zero_le _
        | none => rw [uintS_good h]; exact (rdF_ok h).2.2
theorem boolS_e {s : RSt} (h : s.1 = []) : (boolS s).2.1 = [] := by
  obtain ⟨ys, e⟩ := s
  simp only at h
  subst h
  cases e <;> rfl
theorem intS_e {s : RSt} (h : s.1 = []) : (intS s).2.1 = [] := by
  obtain ⟨ys, e⟩ := s
  simp only at h
  subst h
  unfold intS
  cases e with
  | some x => rfl
  | none =>
    cases hr : (rdF [] 18446744073709551615).2.2 with
    | some x => rw [uintS_bad hr]
    | none => rw [uintS_good hr]; simp
theorem hashS_e {s : RSt} (h : s.1 = []) : (hashS s).2.1 = [] := by
  obtain ⟨ys, e⟩ := s
  simp only at h
  subst h
  cases e <;> rfl
theorem own_lt {w : World} {base n m : Nat} {ty : TypeId} {v : Value} {vs : List Value} (h : w.ownsRow base ty n v m vs) {j : Nat} (hj : v.ownBlock = some j) : j < w.heap.size := (h.lt j hj).2
theorem bytes_setCell3 {w : World} {v : Value} {xs : List Int} (h : BytesIn w v xs) {g i : Nat} {x y : Value} (hc : w.cell? ⟨g, i, none⟩ = some x) (hx : ∀ n, x ≠ .int .u8 n) : BytesIn (w.setCell ⟨g, i, none⟩ y) v xs := by
  obtain ⟨a, c, rfl, h1, h2, h3⟩ := h
  refine ⟨a, c, rfl, h1, h2, ?_⟩
  rcases h3 with h3 | ⟨ab, ao, rfl, h3⟩
  · exact .inl h3
  · right
    refine ⟨ab, ao, rfl, fun j z hz => ?_⟩
    have h4 := h3 j z hz
    rw [World.cell?_setCell_other _ _ _ _ (fun e => by rw [← e, hc] at h4; injection h4 with h4; exact hx z h4)]
    exact h4
structure DcM (w : World) (B g q : Nat) (KK V : ByteArray) (ob : Option Nat) (s : RSt) (v0 v : Value) (l : List AvS) (wr : World) : Prop where
  below : Below w.heap.size w wr
  res : wr.heap[w.heap.size]? = some (.cells prZ 31 (0, 0))
  at_ : wr.heap[q]? = some (.cells #[.string KK, .string V, v0] 31 (0, 0))
  own : wr.ownsRow B 65 34 v l.length (flatSt l)
  rd : RO wr g ob s
  obB : s.1 ≠ [] → ∀ k, ob = some k → k < B
  le : B ≤ wr.heap.size
  rg : w.heap.size < g
  gq : g < q
  qB : q < B
theorem DcM.only {w : World} {B g q : Nat} {KK V : ByteArray} {ob : Option Nat} {s s' : RSt} {v0 v : Value} {l : List AvS} {wr wr' : World} (m : DcM w B g q KK V ob s v0 v l wr) (ho : Only g wr wr') (hr : RO wr' g ob s') (hs : s.1 = [] → s'.1 = []) : DcM w B g q KK V ob s' v0 v l wr' := by
  have h1 := m.rg; have h2 := m.gq; have h3 := m.qB
  exact ⟨m.below.trans (ho.below (Nat.le_of_lt h1) m.below.size), (ho.block _ (bk_lt m.res) (by omega)).trans m.res, (ho.block _ (bk_lt m.at_) (by omega)).trans m.at_,
    own_stay m.own fun k hk => ho.block k (own_lt m.own hk) (by have := own_ge m.own hk; omega), hr, fun hn => m.obB fun e => hn (hs e), Nat.le_trans m.le ho.size, h1, h2, h3⟩
theorem DcM.call {w : World} {B g q : Nat} {KK V : ByteArray} {ob : Option Nat} {s : RSt} {v0 v : Value} {l : List AvS} {wr wr' : World} (m : DcM w B g q KK V ob s v0 v l wr) (hb : Below wr.heap.size wr wr') : DcM w B g q KK V ob s v0 v l wr' := by
  obtain ⟨y, hy, hyb⟩ := m.rd
  exact ⟨m.below.trans (hb.mono m.below.size), (hb.block _ (bk_lt m.res)).trans m.res, (hb.block _ (bk_lt m.at_)).trans m.at_, own_stay m.own fun k hk => hb.block k (own_lt m.own hk), ⟨y, hy.below hb, hyb⟩, m.obB, Nat.le_trans m.le hb.size, m.rg, m.gq, m.qB⟩
theorem DcM.grow {w : World} {B g q : Nat} {KK V : ByteArray} {ob : Option Nat} {s : RSt} {v0 v v' : Value} {l l' : List AvS} {wr wr' : World} (m : DcM w B g q KK V ob s v0 v l wr) (ho : wr'.ownsRow B 65 34 v' l'.length (flatSt l')) (hg : wr.grownBy wr' v.ownBlock) : DcM w B g q KK V ob s v0 v' l' wr' := by
  have h1 := m.rg; have h2 := m.gq; have h3 := m.qB
  obtain ⟨y, hy, hyb⟩ := m.rd
  have hne : ∀ k, k < B → some k ≠ v.ownBlock := fun k hk e => by have := own_ge m.own e.symm; omega
  exact ⟨m.below.trans ⟨hg.os, hg.tape, hg.output, hg.size, fun k hk => hg.block k (Nat.lt_of_lt_of_le hk m.below.size) (hne k (by omega))⟩, (hg.block _ (bk_lt m.res) (hne _ (by omega))).trans m.res, (hg.block _ (bk_lt m.at_) (hne _ h3)).trans m.at_, ho,
    ⟨y, hy.keep (hg.block _ hy.lt (hne _ (by omega))) (fun hn k hk => hg.block k (hy.own_lt hn k hk) (hne k (m.obB hn k (hyb ▸ hk)))), hyb⟩, m.obB, Nat.le_trans m.le hg.size, h1, h2, h3⟩
theorem DcM.set {w : World} {B g q : Nat} {KK V : ByteArray} {ob : Option Nat} {s : RSt} {v0 v : Value} {l : List AvS} {wr : World} (m : DcM w B g q KK V ob s v0 v l wr) (hv : ∀ n, v0 ≠ .int .u8 n) : DcM w B g q KK V ob s v v l (wr.setCell ⟨q, 2, none⟩ v) := by
  have h1 := m.rg; have h2 := m.gq; have h3 := m.qB
  have hO := Only.setCell wr ⟨q, 2, none⟩ v
  obtain ⟨y, hy, hyb⟩ := m.rd
  refine ⟨m.below.trans (hO.below (by show _ ≤ q; omega) m.below.size), (hO.block _ (bk_lt m.res) (by show _ ≠ q; omega)).trans m.res, by rw [heap_setCell_same wr q 2 _ _ _ m.at_]; rfl,
    own_stay m.own fun k hk => hO.block k (own_lt m.own hk) (by have := own_ge m.own hk; show _ ≠ q; omega), ⟨y, ⟨(hO.block _ hy.lt (by show _ ≠ q; omega)).trans hy.at_, bytes_setCell3 hy.in_ (by rw [cell_of_row _ _ 2 _ _ _ m.at_]; rfl) hv, hy.ok, hy.le, hy.ne⟩, hyb⟩, m.obB, by rw [setCell_size]; exact m.le, h1, h2, h3⟩
end Go.Proofs.YtabflppnecemkaaGreatDoor
namespace Go.Proofs.YtabflppnecemkaaGreatDoor
set_option linter.unusedVariables false
set_option linter.unusedSimpArgs false
open Go.RowKit
set_option maxRecDepth 100000
set_option linter.unusedSimpArgs false
set_option linter.unusedVariables false
theorem pr_zero_built : Tryz.prog.built 31 [] = some #[.string { data := #[] }, .string { data := #[] }, .slice none 0 0] := by kernel_rfl
def PdPost (P : PvP) (E : Option Nat) (w : World) (e : Ending) (w' : World) : Prop :=
  ∃ sa c, e = .returned (.tuple #[.agg (prC P (.slice sa P.steps.length c)), errV E]) ∧ w'.ownsRow w.heap.size 65 34 (.slice sa P.steps.length c) P.steps.length (flatSt P.steps) ∧ Below w.heap.size w w'
theorem hashO_any (p : Nat) (ob : Option Nat) (s : RSt) (w : World) (h : RO w p ob s) :
    Calls Tryz.prog 23 #[.pointer (some ⟨p, 0, none⟩)] w fun r w' => r = .returned (.agg (rowOf .u8 32 (hashS s).1)) ∧ RO w' p ob (hashS s).2 ∧ Only p w w' := by
  obtain ⟨ys, e⟩ := s
  obtain ⟨y, hy, rfl⟩ := h
  exact rhash_own p y ys e w hy
def DcRel (w : World) (B g q : Nat) (KK V : ByteArray) (ob : Option Nat) (s0 : RSt) (k : Nat) (wr : World) : Prop := ∃ v, DcM w B g q KK V ob (decS k s0).2 v v (decS k s0).1 wr
theorem stp_e {s : RSt} : (s.1 = [] → (boolS s).2.1 = []) ∧ ((boolS s).2.1 = [] → (intS (boolS s).2).2.1 = []) ∧ ((intS (boolS s).2).2.1 = [] → (hashS (intS (boolS s).2).2).2.1 = []) := ⟨boolS_e, intS_e, hashS_e⟩
set_option maxHeartbeats 4000000 in
theorem pdecode_any (vb : Value) (xs : List Int) (w : World) (hy : BytesIn w vb xs) (hok : bytesOk xs) (hl : xs.length ≤ 140737488355328) :
    Calls Tryz.prog 4 #[vb] w (PdPost (decP xs) (decE xs) w) := by
  have HC1 := Lib.hid (heap_alloc_new w (.cells #[.string { data := #[] }, .string { data := #[] }, .slice none 0 0] 31))
  have HB1 := Lib.hid (below_alloc w (.cells #[.string { data := #[] }, .string { data := #[] }, .slice none 0 0] 31))
  have HY := Lib.hid (hy.below HB1.out)
  have HOK := Lib.hid hok
  have HL := Lib.hid hl
  clear hy hok hl
  obtain ⟨K, hK⟩ : ∃ x, x = strOfNums (decK xs).1 := ⟨_, rfl⟩
  obtain ⟨V, hV⟩ : ∃ x, x = strOfNums (decV xs).1 := ⟨_, rfl⟩
  have HK := Lib.hid hK
  have HV := Lib.hid hV
  have hbu := pr_row_built K V
  clear hK hV
  have HN := Lib.hid (countS_le (decV xs).2 64)
  unfold PdPost
  go_enter Tryz.func4, Tryz.ntmps4
  go_upto_region 1 with (fail)
  generalize w.alloc (.cells #[.string { data := #[] }, .string { data := #[] }, .slice none 0 0] 31) = w1 at *
  go_upto_region 2 with (go_at_call 18; (with_reducible refine (read_any vb xs w1 HY.out HOK.out HL.out).mono ?_); rintro e w2 ⟨g, y, rfl, hg, hra, hb⟩; have HG := Lib.hid hg; have HR := Lib.hid (show RS w2 g (xs, none) from ⟨y, hra⟩); have HB2 := Lib.hid hb; clear hg hra hb)
  go_upto_region 3 with (first
    | (refine wpList_store_row rfl 31 (.tmp 5) (.tmp 12) rfl w4.heap.size #[.string K, .string V, .slice none 0 0] rfl rfl 31 _ (heap_alloc_new _ _) (by kernel_rfl) rfl (by simp [Value.oneCell']) ?_; rw [World.setRow_alloc_new])
    | (go_at_call 19; (with_reducible refine (rtext_any g (decK xs).2 1048576 w3 HR3.out (by omega) (by omega)).mono ?_); rintro e w4 ⟨rfl, hr, ho⟩; have HR4 := Lib.hid (show RS w4 g (decV xs).2 from hr); have HO4 := Lib.hid ho; clear hr ho; rw [show strOfNums (partS (decK xs).2 1048576).1 = V from HV.out.symm])
    | (go_at_call 19; (with_reducible refine (rtext_any g (xs, none) 1048576 w2 HR.out (by omega) (by omega)).mono ?_); rintro e w3 ⟨rfl, hr, ho⟩; have HR3 := Lib.hid (show RS w3 g (decK xs).2 from hr); have HO3 := Lib.hid ho; clear hr ho; rw [show strOfNums (partS (xs, none) 1048576).1 = K from HK.out.symm]))
  clear hbu
  have HQ5 := Lib.hid (heap_alloc_new w4 (.cells #[.string K, .string V, .slice none 0 0] 31))
  have HB5 := Lib.hid (below_alloc w4 (.cells #[.string K, .string V, .slice none 0 0] 31))
  have HR5 := Lib.hid (show RS (w4.alloc (.cells #[.string K, .string V, .slice none 0 0] 31)) g (decV xs).2 from by obtain ⟨y, hy⟩ := HR4.out; exact ⟨y, hy.below HB5.out⟩)
  have HGL := Lib.hid (show g < w4.heap.size from by obtain ⟨y, hy⟩ := HR4.out; exact hy.lt)
  have HS5 := Lib.hid (show (w4.alloc (.cells #[.string K, .string V, .slice none 0 0] 31)).heap.size = w4.heap.size + 1 by simp)
  obtain ⟨q, hq⟩ : ∃ q, q = w4.heap.size := ⟨_, rfl⟩
  rw [← hq] at HQ5 HGL HS5 ⊢
  have HQ := Lib.hid hq
  clear hq
  generalize w4.alloc (.cells #[.string K, .string V, .slice none 0 0] 31) = w5 at *
  obtain ⟨n, hn⟩ : ∃ n, n = (decC xs).1 := ⟨_, rfl⟩
  have HNN := Lib.hid hn
  have hn64 : n ≤ 64 := by rw [hn]; exact HN.out
  have HCN := Lib.hid (show Calls Tryz.prog 20 #[.pointer (some ⟨g, 0, none⟩), .int .i64 64] w5 fun r w' => r = .returned (.int .i64 (n : Int)) ∧ RS w' g (decC xs).2 ∧ Only g w5 w' from by rw [hn]; exact rcount_any g (decV xs).2 64 (by omega) w5 HR5.out)
  clear hn
  go_upto_region 4 with (go_at_call 20; (with_reducible refine HCN.out.mono ?_); rintro e w6 ⟨rfl, hr, ho⟩; have HR6 := Lib.hid hr; have HO6 := Lib.hid ho; clear hr ho)
  obtain ⟨y6, hy6⟩ := HR6.out
  have HM0 := Lib.hid (show DcRel w w6.heap.size g q K V y6.ownBlock (decC xs).2 0 w6 from by
    have h1 := HB1.out.size
    have hrl : w.heap.size < w1.heap.size := (Array.getElem?_eq_some_iff.1 HC1.out).1
    have hg := HG.out
    have hgl := HGL.out
    have hs5 := HS5.out
    have b12 := HB2.out
    have b13 : Below w1.heap.size w1 w3 := b12.trans (HO3.out.below hg b12.size)
    have b14 : Below w1.heap.size w1 w4 := b13.trans (HO4.out.below hg b13.size)
    have b15 : Below w1.heap.size w1 w5 := b14.trans (HB5.out.mono b14.size)
    have b16 : Below w1.heap.size w1 w6 := b15.trans (HO6.out.below hg b15.size)
    exact ⟨.slice none 0 0, HB1.out.trans (b16.mono h1), (b16.block _ hrl).trans HC1.out, (HO6.out.block q (by omega) (by omega)).trans HQ5.out, World.ownsRow_nil _ _ _ _, ⟨y6, hy6, rfl⟩, fun hn k hk => hy6.own_lt hn k hk, Nat.le_refl _, by omega, hgl, by have := HO6.out.size; omega⟩)
  obtain ⟨B, hB⟩ : ∃ B, B = w6.heap.size := ⟨_, rfl⟩
  rw [← hB] at HM0
  obtain ⟨ob, hob⟩ : ∃ ob, ob = y6.ownBlock := ⟨_, rfl⟩
  rw [← hob] at HM0
  clear hB hob hy6 HCN HR6 HO6 HR5 HQ HQ5 HB5 HS5 HGL HR4 HO4 HR3 HO3 HR HB2 HG HY HN
  go_wp2_with (fail)
  go_loopw [15] (fun x wr => ∃ k : Nat, k ≤ n ∧ x = .int .i64 (k : Int) ∧ Hid (DcRel w B g q K V ob (decC xs).2 k wr)) (fun x _ => n - (intOf x).toNat)
  case atStart => exact ⟨0, Nat.zero_le _, rfl, HM0⟩
  case round =>
    clear HM0
    obtain ⟨k, hkn, rfl, HM⟩ := hrel
    obtain ⟨v, hm⟩ := HM.out
    have M := Lib.hid hm
    obtain ⟨va, vc, rfl⟩ := own_slice hm.own
    clear hm HM
    have HSK := Lib.hid (show decS (k + 1) (decC xs).2 = ((decS k (decC xs).2).1 ++ [(stpS (decS k (decC xs).2).2).1], (stpS (decS k (decC xs).2).2).2) from rfl)
    have HLK := Lib.hid (decS_len k (decC xs).2)
    by_cases hlt : k < n
    · have hltI : (k : Int) < (n : Int) := by omega
      obtain ⟨s, hs⟩ : ∃ s, s = (decS k (decC xs).2).2 := ⟨_, rfl⟩
      obtain ⟨l, hll⟩ : ∃ l, l = (decS k (decC xs).2).1 := ⟨_, rfl⟩
      rw [← hs, ← hll] at HSK
      rw [← hll] at HLK
      rw [← hs, ← hll] at M
      clear hs hll
      go_upto_region 5 with (fail)
      refine wp_region_T (fun X => X.cell? ⟨q, 2, none⟩ = some (.slice va l.length vc)) [1, 3, 5, 7, 8, 9] (by kernel_rfl) ?_
      replace M := Lib.hid (M.out.call (Below.refl _ _).drew)
      generalize wr.drew = w7 at *
      have HSX := Lib.hid (show ∀ s' X, DcM w B g q K V ob s' (.slice va l.length vc) (.slice va l.length vc) l X → X.cell? ⟨q, 2, none⟩ = some (.slice va l.length vc) from fun s' X m => cell_of_row _ _ 2 _ _ _ m.at_)
      refine anyT_takeY (i := 0) (v := .pointer (some ⟨q, 2, none⟩)) rfl (by kernel_rfl) (by kernel_rfl) (by kernel_rfl) (fun _ _ _ h => h) (by kernel_rfl) (Or.inl ⟨by rfl, by intro w; go_simp⟩) ?_
      try simp only [List.getElem_toArray, List.getElem_cons_succ, List.getElem_cons_zero, Act.put, List.setIfInBounds_toArray, List.set_cons_zero, List.set_cons_succ]
      refine anyT_takeY (i := 2) (v := .pointer (some ⟨g, 0, none⟩)) rfl (by kernel_rfl) (by kernel_rfl) (by kernel_rfl) (fun _ _ _ h => h) (by kernel_rfl) (Or.inl ⟨by rfl, by intro w; go_simp⟩) ?_
      try simp only [List.getElem_toArray, List.getElem_cons_succ, List.getElem_cons_zero, Act.put, List.setIfInBounds_toArray, List.set_cons_zero, List.set_cons_succ]
      refine anyT_takeY (i := 4) (v := .pointer (some ⟨g, 0, none⟩)) rfl (by kernel_rfl) (by kernel_rfl) (by kernel_rfl) (fun _ _ _ h => h) (by kernel_rfl) (Or.inl ⟨by rfl, by intro w; go_simp⟩) ?_
      try simp only [List.getElem_toArray, List.getElem_cons_succ, List.getElem_cons_zero, Act.put, List.setIfInBounds_toArray, List.set_cons_zero, List.set_cons_succ]
      refine anyT_takeY (i := 6) (v := .pointer (some ⟨g, 0, none⟩)) rfl (by kernel_rfl) (by kernel_rfl) (by kernel_rfl) (fun _ _ _ h => h) (by kernel_rfl) (Or.inl ⟨by rfl, by intro w; go_simp⟩) ?_
      try simp only [List.getElem_toArray, List.getElem_cons_succ, List.getElem_cons_zero, Act.put, List.setIfInBounds_toArray, List.set_cons_zero, List.set_cons_succ]
      refine anyT_take [10, 11, 12] (i := 1) (v := .slice va l.length vc) rfl (by kernel_rfl) (by kernel_rfl) (by kernel_rfl) (fun _ _ _ h => h) (by kernel_rfl) (Or.inl ⟨by rfl, fun w' hS => by have c := hS; go_simp⟩) (HSX.out _ _ M.out) ?_
      try simp only [List.getElem_toArray, List.getElem_cons_succ, List.getElem_cons_zero, Act.put, List.setIfInBounds_toArray, List.set_cons_zero, List.set_cons_succ]
      refine anyT_one (i := 3) (by kernel_rfl) rfl (fun K hK => ?_)
      rw [if_pos (by rfl)]
      try simp only [List.getElem_toArray, List.getElem_cons_succ, List.getElem_cons_zero]
      (go_simp; refine (boolO_any g ob s w7 M.out.rd).mono ?_; rintro e w8 ⟨rfl, hr, ho⟩; replace M := Lib.hid (M.out.only ho hr stp_e.1); clear hr ho)
      refine hK _ _ (fun _ => HSX.out _ _ M.out) ?_
      clear hK K
      try simp only [List.getElem_toArray, List.getElem_cons_succ, List.getElem_cons_zero, Act.put, List.setIfInBounds_toArray, List.set_cons_zero, List.set_cons_succ]
      refine anyT_one (i := 5) (by kernel_rfl) rfl (fun K hK => ?_)
      rw [if_pos (by rfl)]
      try simp only [List.getElem_toArray, List.getElem_cons_succ, List.getElem_cons_zero]
      (go_simp; refine (intO_any g ob _ w8 M.out.rd).mono ?_; rintro e w9 ⟨rfl, hr, ho⟩; replace M := Lib.hid (M.out.only ho hr stp_e.2.1); clear hr ho)
      refine hK _ _ (fun _ => HSX.out _ _ M.out) ?_
      clear hK K
      try simp only [List.getElem_toArray, List.getElem_cons_succ, List.getElem_cons_zero, Act.put, List.setIfInBounds_toArray, List.set_cons_zero, List.set_cons_succ]
      refine anyT_one (i := 7) (by kernel_rfl) rfl (fun K hK => ?_)
      rw [if_pos (by rfl)]
      try simp only [List.getElem_toArray, List.getElem_cons_succ, List.getElem_cons_zero]
      (go_simp; refine (hashO_any g ob _ w9 M.out.rd).mono ?_; rintro e w10 ⟨rfl, hr, ho⟩; replace M := Lib.hid (M.out.only ho hr stp_e.2.2); clear hr ho)
      refine hK _ _ (fun _ => HSX.out _ _ M.out) ?_
      clear hK K
      try simp only [List.getElem_toArray, List.getElem_cons_succ, List.getElem_cons_zero, Act.put, List.setIfInBounds_toArray, List.set_cons_zero, List.set_cons_succ]
      refine anyT_take [9, 10, 11, 12] (i := 8) (v := .agg (stC (stpS s).1)) rfl (by kernel_rfl) (by kernel_rfl) (by kernel_rfl) (fun _ _ _ h => h) (by kernel_rfl) ((build_yields (by rfl) 65 #[(0, .tmp 20), (1, .tmp 22), (2, .tmp 24)] rfl (stC (stpS s).1) (by refine Eq.trans (congrArg (Tryz.prog.built 65) ?_) (st_built (boolS s).1 (intS (boolS s).2).1 (hashS (intS (boolS s).2).2).1); kernel_rfl)).yieldsIf) (HSX.out _ _ M.out) ?_
      try simp only [List.getElem_toArray, List.getElem_cons_succ, List.getElem_cons_zero, Act.put, List.setIfInBounds_toArray, List.set_cons_zero, List.set_cons_succ]
      refine anyT_one (i := 9) (by kernel_rfl) rfl (fun K hK => ?_)
      rw [if_pos (by rfl)]
      try simp only [List.getElem_toArray, List.getElem_cons_succ, List.getElem_cons_zero]
      (refine wp_step1 (.tmp 25) rfl (stpS s).1 rfl ?_; have HA := Lib.hid (heap_alloc_new w10 (.cells (stC (stpS s).1) 65)); replace M := Lib.hid (M.out.call (below_alloc w10 (.cells (stC (stpS s).1) 65))); obtain ⟨qa, hqa⟩ : ∃ x, x = w10.heap.size := ⟨_, rfl⟩; rw [← hqa] at HA ⊢; clear hqa; generalize w10.alloc (.cells (stC (stpS s).1) 65) = w11 at *)
      refine hK _ _ (fun _ => HSX.out _ _ M.out) ?_
      clear hK K
      try simp only [List.getElem_toArray, List.getElem_cons_succ, List.getElem_cons_zero, Act.put, List.setIfInBounds_toArray, List.set_cons_zero, List.set_cons_succ]
      refine anyT_one (i := 10) (by kernel_rfl) rfl (fun K hK => ?_)
      rw [if_pos (by rfl)]
      try simp only [List.getElem_toArray, List.getElem_cons_succ, List.getElem_cons_zero]
      (refine wp_append_step (.tmp 18) (.tmp 26) rfl rfl B (.slice va l.length vc) l rfl M.out.own qa (stpS s).1 rfl HA.out (by rw [HLK.out]; omega) M.out.le ?_; intro v12 w12 ho hg; obtain ⟨xa, xc, hxe⟩ := own_slice ho; rw [show (l ++ [(stpS s).1]).length = l.length + 1 from by simp] at hxe; subst hxe; replace M := Lib.hid (M.out.grow ho hg); clear ho hg)
      refine hK _ _ (not_mem rfl) ?_
      clear hK K
      try simp only [List.getElem_toArray, List.getElem_cons_succ, List.getElem_cons_zero, Act.put, List.setIfInBounds_toArray, List.set_cons_zero, List.set_cons_succ]
      refine anyT_takeY (i := 11) (v := .pointer (some ⟨q, 2, none⟩)) rfl (by kernel_rfl) (by kernel_rfl) (by kernel_rfl) (fun _ _ _ h => h) (by kernel_rfl) (Or.inl ⟨by rfl, by intro w; go_simp⟩) ?_
      try simp only [List.getElem_toArray, List.getElem_cons_succ, List.getElem_cons_zero, Act.put, List.setIfInBounds_toArray, List.set_cons_zero, List.set_cons_succ]
      refine anyT_one (i := 12) (by kernel_rfl) rfl (fun K hK => ?_)
      rw [if_pos (by rfl)]
      try simp only [List.getElem_toArray, List.getElem_cons_succ, List.getElem_cons_zero]
      (have k1 : w12.cell? ⟨q, 2, none⟩ = some (.slice va l.length vc) := cell_of_row _ _ 2 _ _ _ M.out.at_; have k2 : w12.frozen? ⟨q, 2, none⟩ = false := frozen_of_row _ _ _ _ _ M.out.at_; go_simp; clear k1 k2)
      refine hK _ _ (not_mem rfl) ?_
      clear hK K
      try simp only [List.getElem_toArray, List.getElem_cons_succ, List.getElem_cons_zero, Act.put, List.setIfInBounds_toArray, List.set_cons_zero, List.set_cons_succ]
      refine anyT_done (by kernel_rfl) ?_ _
      replace M := Lib.hid (M.out.set (fun n => by simp))
      generalize w12.setCell ⟨q, 2, none⟩ (.slice xa (l.length + 1) xc) = w13 at *
      go_wp2_with (fail)
      go_roundw
      case rel => exact ⟨k + 1, by omega, by go_num, Lib.hid ⟨_, by rw [HSK.out]; exact M.out⟩⟩
      case measure => simp [intOf]; omega
    · obtain rfl : k = n := by omega
      have HE := Lib.hid (rdone_any g _ wr M.out.rd.rs)
      rw [HNN.out] at M HE HLK
      cases hd : doneE (decL xs).2 with
      | some x =>
        have HP := Lib.hid (show decP xs = zP ∧ decE xs = some 3 from ⟨by unfold decP; rw [hd]; rfl, by unfold decE; rw [hd]; rfl⟩)
        have HE2 := Lib.hid (show Calls Tryz.prog 24 #[.pointer (some ⟨g, 0, none⟩)] wr fun r w' => r = .returned (errV (some x)) ∧ w' = wr from by have := HE.out; rw [show doneE (decS (decC xs).1 (decC xs).2).2 = some x from hd] at this; exact this)
        have hbz := pr_zero_built
        clear hd HE hkn hlt
        simp only [errV] at HE2
        go_wp2_with (first
          | (go_at_call 24; (with_reducible refine HE2.out.mono ?_); rintro e w7 ⟨rfl, rfl⟩)
          | (refine wpList_store_row rfl 31 (.tmp 2) (.tmp 33) rfl w.heap.size _ rfl rfl 31 _ M.out.res (by kernel_rfl) rfl (by simp [Value.oneCell']) ?_))
        refine bodyPost_ret (results_cell_tmp_row rfl _ _ w.heap.size 31 prZ (0, 0) _ rfl (setRow_heap _ _ _ _ _ _ M.out.res) Tryz.underlying31 rfl (by kernel_rfl)) rfl ?_
        rw [HP.out.1, HP.out.2]
        exact ⟨none, 0, rfl, World.ownsRow_nil _ _ _ _, below_setRow M.out.below (Nat.le_refl _) _⟩
      | none =>
        have HP := Lib.hid (show decP xs = ⟨K, V, (decS (decC xs).1 (decC xs).2).1⟩ ∧ decE xs = none from ⟨by unfold decP; rw [hd, HK.out, HV.out]; rfl, by unfold decE; rw [hd]; rfl⟩)
        have HE2 := Lib.hid (show Calls Tryz.prog 24 #[.pointer (some ⟨g, 0, none⟩)] wr fun r w' => r = .returned (errV none) ∧ w' = wr from by have := HE.out; rw [show doneE (decS (decC xs).1 (decC xs).2).2 = none from hd] at this; exact this)
        clear hd HE hkn hlt
        simp only [errV] at HE2
        obtain ⟨l, hll⟩ : ∃ l, l = (decS (decC xs).1 (decC xs).2).1 := ⟨_, rfl⟩
        rw [← hll] at M HP
        clear hll
        go_wp2_with (first
          | (go_at_call 24; (with_reducible refine HE2.out.mono ?_); rintro e w7 ⟨rfl, rfl⟩)
          | (refine wpList_load_row rfl 31 (.tmp 5) rfl q rfl 31 _ (0, 0) _ M.out.at_ Tryz.underlying31 rfl (by kernel_rfl) ?_)
          | (refine wpList_store_row rfl 31 (.tmp 2) (.tmp 35) rfl w.heap.size _ rfl rfl 31 _ M.out.res (by kernel_rfl) rfl (by simp [Value.oneCell']) ?_))
        refine bodyPost_ret (results_cell_tmp_row rfl _ _ w.heap.size 31 #[.string K, .string V, .slice va l.length vc] (0, 0) _ rfl (setRow_heap _ _ _ _ _ _ M.out.res) Tryz.underlying31 rfl (by kernel_rfl)) rfl ?_
        rw [HP.out.1, HP.out.2]
        have h1 := M.out.rg; have h2 := M.out.gq; have h3 := M.out.qB
        exact ⟨va, vc, rfl, own_base (own_stay M.out.own fun k hk => setRow_other _ _ _ _ (by have := own_ge M.out.own hk; omega)) (by omega), below_setRow M.out.below (Nat.le_refl _) _⟩
end Go.Proofs.YtabflppnecemkaaGreatDoor
namespace Go.Proofs.YtabflppnecemkaaGreatDoor
set_option linter.unusedVariables false
set_option linter.unusedSimpArgs false
open Go.RowKit
set_option maxRecDepth 100000
set_option linter.unusedSimpArgs false
set_option linter.unusedVariables false
/-- a side's number of proofs, and the Reader behind it -/
def sdN (s : RSt) : Nat := (countS s 1).1
def sdC (s : RSt) : RSt := (countS s 1).2
/-- a proof's bytes, and the Reader behind them; m: what a part may have at most -/
def sdB (m : Int) (s : RSt) : List Int × RSt := partS (sdC s) m
def sdOk (m : Int) (s : RSt) : Bool := sdN s == 0 || (decE (sdB m s).1).isNone
def sdL (m : Int) (s : RSt) : List PvP := if sdN s = 0 then [] else [decP (sdB m s).1]
def sdT (m : Int) (s : RSt) : RSt := if sdN s = 0 then sdC s else (sdB m s).2
theorem sdN_le (s : RSt) : sdN s ≤ 1 := countS_le s 1
theorem uintS_len (s : RSt) (most : Nat) : (uintS s most).2.1.length ≤ s.1.length := by
  obtain ⟨ys, e⟩ := s
  cases e with
  | some x => exact Nat.le_refl _
  | none =>
    cases h : (rdF ys most).2.2 with
    | some x => rw [uintS_bad h]; exact Nat.le_refl _
    | none => rw [uintS_good h]; simp
theorem countS_len (s : RSt) (most : Nat) : (countS s most).2.1.length ≤ s.1.length := by
  unfold countS
  split
  · exact Nat.le_refl _
  · split
    · exact Nat.le_refl _
    · exact uintS_len s most
theorem partS_len (s : RSt) (m : Int) : (partS s m).2.1.length ≤ s.1.length := by
  obtain ⟨ys, e⟩ := s
  cases e with
  | some x => exact Nat.le_refl _
  | none =>
    unfold partS
    simp only
    split
    · exact Nat.le_refl _
    · split
      · exact Nat.le_refl _
      · split
        · exact Nat.le_refl _
        · split
          · exact Nat.le_refl _
          · simp only [List.length_drop]; omega
theorem partS_len1 (s : RSt) (m : Int) : (partS s m).1.length ≤ s.1.length := by
  obtain ⟨ys, e⟩ := s
  cases e with
  | some x => exact Nat.zero_le _
  | none =>
    unfold partS
    simp only
    split
    · exact Nat.zero_le _
    · split
      · exact Nat.zero_le _
      · split
        · exact Nat.zero_le _
        · split
          · exact Nat.zero_le _
          · simp only [List.length_take, List.length_drop]; omega
theorem partS_ok1 {s : RSt} (m : Int) (h : bytesOk s.1) : bytesOk (partS s m).1 := by
  obtain ⟨ys, e⟩ := s
  have hn : bytesOk [] := fun x hx => by cases hx
  cases e with
  | some x => exact hn
  | none =>
    unfold partS
    simp only
    split
    · exact hn
    · split
      · exact hn
      · split
        · exact hn
        · split
          · exact hn
          · exact bytesOk_take (bytesOk_drop h _) _
theorem sdT_len (m : Int) (s : RSt) : (sdT m s).1.length ≤ s.1.length := by
  unfold sdT sdB sdC
  split
  · exact countS_len s 1
  · exact Nat.le_trans (partS_len _ _) (countS_len s 1)
theorem partS_at {ys : List Int} {m : Int} (h : (ys.length : Int) ≤ m) : (∃ x, (rdF ys 18446744073709551615).2.2 = some x ∧ partS (ys, none) m = ([], ys, some x)) ∨
    ((rdF ys 18446744073709551615).2.2 = none ∧ ys.length - (rdF ys 18446744073709551615).2.1 < (rdF ys 18446744073709551615).1 ∧ (partS (ys, none) m).1 = []) ∨
    ((rdF ys 18446744073709551615).2.2 = none ∧ ¬ ys.length - (rdF ys 18446744073709551615).2.1 < (rdF ys 18446744073709551615).1 ∧ partS (ys, none) m = ((ys.drop (rdF ys 18446744073709551615).2.1).take (rdF ys 18446744073709551615).1, (ys.drop (rdF ys 18446744073709551615).2.1).drop (rdF ys 18446744073709551615).1, none)) := by
  unfold partS
  simp only
  rw [if_neg (show ¬ m < 0 by omega)]
  cases hx : (rdF ys 18446744073709551615).2.2 with
  | some x => exact .inl ⟨x, rfl, rfl⟩
  | none =>
    right
    by_cases hend : ys.length - (rdF ys 18446744073709551615).2.1 < (rdF ys 18446744073709551615).1
    · refine .inl ⟨rfl, hend, ?_⟩
      simp only
      split
      · rfl
      · rfl
    · refine .inr ⟨rfl, hend, ?_⟩
      simp only
      rw [if_neg (show ¬ m < ((rdF ys 18446744073709551615).1 : Int) by omega), if_neg hend]
/-- where all that is left may be taken, the bound is one -/
theorem partS_wide (s : RSt) (m m' : Int) (h : (s.1.length : Int) ≤ m) (h' : (s.1.length : Int) ≤ m') : (partS s m).1 = (partS s m').1 ∧ ((partS s m).1 ≠ [] → partS s m = partS s m') := by
  obtain ⟨ys, e⟩ := s
  cases e with
  | some x => exact ⟨rfl, fun _ => rfl⟩
  | none =>
    rcases partS_at h with ⟨x, h1, h2⟩ | ⟨h1, h2, h3⟩ | ⟨h1, h2, h3⟩ <;> rcases partS_at h' with ⟨y, k1, k2⟩ | ⟨k1, k2, k3⟩ | ⟨k1, k2, k3⟩
    · rw [h1] at k1; injection k1 with k1; subst k1; rw [h2, k2]; exact ⟨rfl, fun _ => rfl⟩
    · rw [h1] at k1; cases k1
    · rw [h1] at k1; cases k1
    · rw [h1] at k1; cases k1
    · rw [h3, k3]; exact ⟨rfl, fun hc => absurd rfl hc⟩
    · exact absurd h2 k2
    · rw [h1] at k1; cases k1
    · exact absurd k2 h2
    · rw [h3, k3]; exact ⟨rfl, fun _ => rfl⟩
theorem prs_nil8 (w : World) : PrsIn w (.slice none 0 0) [] := ⟨none, 0, rfl, by simp, .inl rfl⟩
theorem decE_nil : decE [] = some 3 := by kernel_rfl
theorem sd_wide (s : RSt) (m m' : Int) (h : ((sdC s).1.length : Int) ≤ m) (h' : ((sdC s).1.length : Int) ≤ m') : (sdB m s).1 = (sdB m' s).1 ∧ (decE (sdB m s).1 = none → sdB m s = sdB m' s) := by
  obtain ⟨h1, h2⟩ := partS_wide (sdC s) m m' h h'
  exact ⟨h1, fun he => h2 fun e => by rw [show (sdB m s).1 = [] from e, decE_nil] at he; cases he⟩
theorem sd_zero {s : RSt} (m : Int) (h : sdN s = 0) : sdOk m s = true ∧ sdL m s = [] ∧ sdT m s = sdC s := by
  unfold sdOk sdL sdT
  rw [h]
  exact ⟨rfl, rfl, rfl⟩
theorem sd_one {s : RSt} {m : Int} (h : sdN s = 1) (he : decE (sdB m s).1 = none) : sdOk m s = true ∧ sdL m s = [decP (sdB m s).1] ∧ sdT m s = (sdB m s).2 := by
  unfold sdOk sdL sdT
  rw [h, he]
  exact ⟨rfl, rfl, rfl⟩
theorem sd_bad {s : RSt} {m : Int} {x : Nat} (h : sdN s = 1) (he : decE (sdB m s).1 = some x) : sdOk m s = false := by
  unfold sdOk
  rw [h, he]
  rfl
/-- DecodeNone: the Reader behind the first side, and behind both -/
def dnS1 (xs : List Int) : RSt := sdT xs.length (xs, none)
def dnS2 (xs : List Int) : RSt := sdT xs.length (dnS1 xs)
def dnOk (xs : List Int) : Bool := sdOk xs.length (xs, none) && (sdOk xs.length (dnS1 xs) && (doneE (dnS2 xs)).isNone)
def dnL (xs : List Int) : List PvP := if dnOk xs then sdL xs.length (xs, none) else []
def dnR (xs : List Int) : List PvP := if dnOk xs then sdL xs.length (dnS1 xs) else []
def dnE (xs : List Int) : Option Nat := if dnOk xs then none else some 3
/-- behind so many sides -/
def dnZ (xs : List Int) : Nat → RSt
  | 0 => (xs, none)
  | 1 => dnS1 xs
  | _ => dnS2 xs
def dnA (xs : List Int) : Nat → List PvP
  | 0 => []
  | _ => sdL xs.length (xs, none)
def dnB (xs : List Int) : Nat → List PvP
  | 0 => []
  | 1 => []
  | _ => sdL xs.length (dnS1 xs)
theorem dn_bad1 {xs : List Int} (h : sdOk xs.length (xs, none) = false) : dnL xs = [] ∧ dnR xs = [] ∧ dnE xs = some 3 := by
  have : dnOk xs = false := by unfold dnOk; rw [h]; rfl
  unfold dnL dnR dnE
  rw [this]
  exact ⟨rfl, rfl, rfl⟩
theorem dn_bad2 {xs : List Int} (h : sdOk xs.length (dnS1 xs) = false) : dnL xs = [] ∧ dnR xs = [] ∧ dnE xs = some 3 := by
  have : dnOk xs = false := by unfold dnOk; rw [h]; simp
  unfold dnL dnR dnE
  rw [this]
  exact ⟨rfl, rfl, rfl⟩
theorem dn_bad3 {xs : List Int} {x : Nat} (h : doneE (dnS2 xs) = some x) : dnL xs = [] ∧ dnR xs = [] ∧ dnE xs = some 3 := by
  have : dnOk xs = false := by unfold dnOk; rw [h]; simp
  unfold dnL dnR dnE
  rw [this]
  exact ⟨rfl, rfl, rfl⟩
theorem dn_good {xs : List Int} (h1 : sdOk xs.length (xs, none) = true) (h2 : sdOk xs.length (dnS1 xs) = true) (h3 : doneE (dnS2 xs) = none) : dnL xs = sdL xs.length (xs, none) ∧ dnR xs = sdL xs.length (dnS1 xs) ∧ dnE xs = none := by
  have : dnOk xs = true := by unfold dnOk; rw [h1, h2, h3]; rfl
  unfold dnL dnR dnE
  rw [this]
  exact ⟨rfl, rfl, rfl⟩
end Go.Proofs.YtabflppnecemkaaGreatDoor
