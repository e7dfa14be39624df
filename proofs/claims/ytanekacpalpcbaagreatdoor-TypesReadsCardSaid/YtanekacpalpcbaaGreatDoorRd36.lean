/- Part 36 of the proof. -/
import Derived.Test.YtanekacpalpcbaaGreatDoorRd1
import Derived.Test.YtanekacpalpcbaaGreatDoorRd2
import Derived.Test.YtanekacpalpcbaaGreatDoorRd7
import Derived.Test.YtanekacpalpcbaaGreatDoorRd8
import Derived.Test.YtanekacpalpcbaaGreatDoorRd12
import Derived.Test.YtanekacpalpcbaaGreatDoorRd16
import Derived.Test.YtanekacpalpcbaaGreatDoorRd33
import Derived.Test.YtanekacpalpcbaaGreatDoorRd35
namespace Go.Proofs.YtanekacpalpcbaaGreatDoor
set_option linter.unusedVariables false
set_option linter.unusedSimpArgs false
open Go.RowKit
set_option maxRecDepth 100000
set_option linter.unusedSimpArgs false
set_option linter.unusedVariables false
theorem row_get11 {f g : Nat → Int} (h : rowOf .u8 32 f = rowOf .u8 32 g) : ∀ i, i < 32 → f i = g i := fun i hi => by
  have h1 := rowOf_get .u8 32 f i hi
  rw [h, rowOf_get .u8 32 g i hi] at h1
  injection h1 with h1
  injection h1 with _ h1
  exact h1.symm
theorem rowL_of11 {f g : Nat → Int} (h : rowOf .u8 32 f = rowOf .u8 32 g) : rowL 32 f = rowL 32 g := by
  unfold rowL
  exact List.map_congr_left fun i hi => row_get11 h i (List.mem_range.1 hi)
theorem vt_back {t : Vo} (hf : VoFl t) (hz : t.sign.length ≤ 65536) (r : List Int) :
    vtR (vo1 t ++ r, none) = (r, none) ∧ vtG (vo1 t ++ r, none) = t.sign ∧ ∀ sv, vo1 (vtV (vo1 t ++ r, none) sv) = vo1 t ∧ VoFl (vtV (vo1 t ++ r, none) sv) ∧ (vtV (vo1 t ++ r, none) sv).sign = t.sign := by
  have e : vo1 t ++ r = varint (zig t.kind) ++ (varint (zig t.height) ++ (varint (zig t.round) ++ (rowL 32 t.blk ++ (varint (zig t.val) ++ (varint t.sign.length ++ (t.sign ++ r)))))) := by
    simp only [vo1, voL, List.append_assoc]
  have i1 := intS_varint t.kind (varint (zig t.height) ++ (varint (zig t.round) ++ (rowL 32 t.blk ++ (varint (zig t.val) ++ (varint t.sign.length ++ (t.sign ++ r)))))) hf.k.1 hf.k.2
  have i2 := intS_varint t.height (varint (zig t.round) ++ (rowL 32 t.blk ++ (varint (zig t.val) ++ (varint t.sign.length ++ (t.sign ++ r))))) hf.h.1 hf.h.2
  have i3 := intS_varint t.round (rowL 32 t.blk ++ (varint (zig t.val) ++ (varint t.sign.length ++ (t.sign ++ r)))) hf.r.1 hf.r.2
  obtain ⟨i4, i5⟩ := hashS_row t.blk (varint (zig t.val) ++ (varint t.sign.length ++ (t.sign ++ r)))
  have i6 := intS_varint t.val (varint t.sign.length ++ (t.sign ++ r)) hf.vl.1 hf.vl.2
  have i7 := partS_bytes t.sign r 65536 (by omega) (by omega) (by omega)
  have hg : vtG (vo1 t ++ r, none) = t.sign := by simp only [vtG, vt5, e, i1, i2, i3, i4, i6, i7]
  refine ⟨by simp only [vtR, vt5, e, i1, i2, i3, i4, i6, i7], hg, fun sv => ?_⟩
  have hv : vtV (vo1 t ++ r, none) sv = ⟨t.kind, t.height, t.round, (hashS (rowL 32 t.blk ++ (varint (zig t.val) ++ (varint t.sign.length ++ (t.sign ++ r))), none)).1, t.val, sv, t.sign⟩ := by
    rw [vtV, hg]
    simp only [e, i1, i2, i3, i4, i6]
  rw [hv]
  refine ⟨?_, ⟨hf.k, hf.h, hf.r, hf.vl⟩, rfl⟩
  simp only [vo1, voL, rowL_of11 i5]
theorem vtN_front (s : RSt) : ∀ k, vtN (k + 1) s = vtN k (vtR s)
  | 0 => rfl
  | k + 1 => by rw [vtN, vtN_front s k]; rfl
theorem vtsF_front (s : RSt) : ∀ (l : List Value) (k : Nat), vtsF (k + 1) s l = vtsF k (vtR s) l
  | [], k => rfl
  | v :: l, k => by rw [vtsF, vtsF, vtsF_front s l (k + 1), vtN_front]
theorem vts_cons (s : RSt) (v : Value) (l : List Value) : vts s (v :: l) = vtV s v :: vts (vtR s) l := by
  show vtV (vtN 0 s) v :: vtsF 1 s l = _
  rw [vtsF_front]; rfl
structure VoSm (v : Vo) : Prop where
  f : VoFl v
  z : v.sign.length ≤ 65536
theorem vts_back : ∀ (l : List Vo), (∀ t ∈ l, VoSm t) → ∀ r : List Int, vtN l.length (catL vo1 l ++ r, none) = (r, none) ∧ ∀ svs : List Value, svs.length = l.length → ∀ (i : Nat) (x y : Vo), (vts (catL vo1 l ++ r, none) svs)[i]? = some x → l[i]? = some y → vo1 x = vo1 y ∧ VoFl x ∧ x.sign = y.sign
  | [], _, r => ⟨rfl, fun svs hs i x y h1 h2 => by simp at h2⟩
  | t :: l, h, r => by
    obtain ⟨b1, b2, b3⟩ := vt_back (h t List.mem_cons_self).f (h t List.mem_cons_self).z (catL vo1 l ++ r)
    obtain ⟨c1, c2⟩ := vts_back l (fun u hu => h u (List.mem_cons_of_mem _ hu)) r
    rw [catL, List.append_assoc]
    refine ⟨by rw [List.length_cons, vtN_front, b1, c1], fun svs hs i x y h1 h2 => ?_⟩
    cases svs with
    | nil => simp at hs
    | cons v svs =>
      rw [vts_cons, b1] at h1
      cases i with
      | zero =>
        injection h1 with h1
        injection h2 with h2
        subst h1 h2
        exact b3 v
      | succ i => exact c2 svs (by simpa using hs) i x y (by simpa using h1) (by simpa using h2)
theorem tx_back {t : Tb} (hz : t.bs.length ≤ 65536) (r : List Int) : partS (tb1 t ++ r, none) 65536 = (t.bs, r, none) := by
  rw [show tb1 t ++ r = varint t.bs.length ++ (t.bs ++ r) from by simp only [tb1, List.append_assoc]]
  exact partS_bytes t.bs r 65536 (by omega) (by omega) (by omega)
theorem txN_front (s : RSt) : ∀ k, txN (k + 1) s = txN k ((partS s 65536).2)
  | 0 => rfl
  | k + 1 => by rw [txN, txN_front s k]; rfl
theorem txsF_front (s : RSt) : ∀ (l : List Value) (k : Nat), txsF (k + 1) s l = txsF k ((partS s 65536).2) l
  | [], k => rfl
  | v :: l, k => by rw [txsF, txsF, txsF_front s l (k + 1), txN_front]
theorem txs_cons (s : RSt) (v : Value) (l : List Value) : txs s (v :: l) = ⟨v, (partS s 65536).1⟩ :: txs (partS s 65536).2 l := by
  show ⟨v, (partS (txN 0 s) 65536).1⟩ :: txsF 1 s l = _
  rw [txsF_front]; rfl
theorem txs_back : ∀ (l : List Tb), (∀ t ∈ l, t.bs.length ≤ 65536) → ∀ r : List Int, txN l.length (catL tb1 l ++ r, none) = (r, none) ∧ ∀ svs : List Value, svs.length = l.length → ∀ (i : Nat) (x y : Tb), (txs (catL tb1 l ++ r, none) svs)[i]? = some x → l[i]? = some y → x.bs = y.bs
  | [], _, r => ⟨rfl, fun svs hs i x y h1 h2 => by simp at h2⟩
  | t :: l, h, r => by
    have b1 := tx_back (h t List.mem_cons_self) (catL tb1 l ++ r)
    obtain ⟨c1, c2⟩ := txs_back l (fun u hu => h u (List.mem_cons_of_mem _ hu)) r
    rw [catL, List.append_assoc]
    refine ⟨by rw [List.length_cons, txN_front, b1]; exact c1, fun svs hs i x y h1 h2 => ?_⟩
    cases svs with
    | nil => simp at hs
    | cons v svs =>
      rw [txs_cons, b1] at h1
      cases i with
      | zero =>
        injection h1 with h1
        injection h2 with h2
        subst h1 h2
        rfl
      | succ i => exact c2 svs (by simpa using hs) i x y (by simpa using h1) (by simpa using h2)
theorem catL_ge {α : Type} (f : α → List Int) : ∀ l : List α, (∀ t ∈ l, 1 ≤ (f t).length) → l.length ≤ (catL f l).length
  | [], _ => Nat.le_refl _
  | t :: l, h => by
    have := h t List.mem_cons_self
    have := catL_ge f l (fun u hu => h u (List.mem_cons_of_mem _ hu))
    rw [catL, List.length_append, List.length_cons]; omega
theorem cnt_back {α : Type} (f : α → List Int) (l : List α) (most : Nat) (r : List Int) (h1 : ∀ t ∈ l, 1 ≤ (f t).length) (hm : l.length ≤ most) (hl : l.length ≤ 1048576) : countS (listL f l ++ r, none) most = (l.length, catL f l ++ r, none) := by
  have e : listL f l ++ r = varint l.length ++ (catL f l ++ r) := by simp only [listL, List.append_assoc]
  have u := uintS_varint l.length most (catL f l ++ r) (by omega) hm
  rw [e, countS_good (by rw [u]) (by rw [u]; have := catL_ge f l h1; simp only [List.length_append]; omega), u]
theorem vo1_ge (t : Vo) : 1 ≤ (vo1 t).length := by
  simp only [vo1, voL, List.length_append, rowL32]; omega
theorem tb1_ge (t : Tb) : 1 ≤ (tb1 t).length := by
  have h : 1 ≤ (varint t.bs.length).length := by
    rw [varint_length]
    exact glen_pos _
  simp only [tb1, List.length_append]; omega
theorem hd_back (h : Hd) (hf : HdFl h) (hn : h.CH.size ≤ 64) (r : List Int) : hdR (hdL h.CH h.HT h.TM h.LA h.AP h.TX h.VA h.NX h.PR ++ r, none) = (r, none) ∧ hdV (hdL h.CH h.HT h.TM h.LA h.AP h.TX h.VA h.NX h.PR ++ r, none) = hdD h.CH h.HT h.TM h.LA h.AP h.TX h.VA h.NX h.PR := by
  obtain ⟨CH, HT, TM, LA, AP, TX, VA, NX, PR⟩ := h
  simp only at hn ⊢
  have e : hdL CH HT TM LA AP TX VA NX PR ++ r = varint CH.size ++ (numsOf CH ++ (varint (zig HT) ++ (varint (zig TM) ++ (rowL 32 LA ++ (rowL 32 AP ++ (rowL 32 TX ++ (rowL 32 VA ++ (rowL 32 NX ++ (varint (zig PR) ++ r))))))))) := by
    simp only [hdL, List.append_assoc]
  have i0 : partS (varint CH.size ++ (numsOf CH ++ (varint (zig HT) ++ (varint (zig TM) ++ (rowL 32 LA ++ (rowL 32 AP ++ (rowL 32 TX ++ (rowL 32 VA ++ (rowL 32 NX ++ (varint (zig PR) ++ r))))))))), none) 64 = (numsOf CH, varint (zig HT) ++ (varint (zig TM) ++ (rowL 32 LA ++ (rowL 32 AP ++ (rowL 32 TX ++ (rowL 32 VA ++ (rowL 32 NX ++ (varint (zig PR) ++ r))))))), none) := by
    have := partS_bytes (numsOf CH) (varint (zig HT) ++ (varint (zig TM) ++ (rowL 32 LA ++ (rowL 32 AP ++ (rowL 32 TX ++ (rowL 32 VA ++ (rowL 32 NX ++ (varint (zig PR) ++ r)))))))) 64 (by rw [numsOf_length]; omega) (by omega) (by rw [numsOf_length]; omega)
    rwa [numsOf_length] at this
  have i1 := intS_varint HT (varint (zig TM) ++ (rowL 32 LA ++ (rowL 32 AP ++ (rowL 32 TX ++ (rowL 32 VA ++ (rowL 32 NX ++ (varint (zig PR) ++ r))))))) hf.ht.1 hf.ht.2
  have i2 := intS_varint TM (rowL 32 LA ++ (rowL 32 AP ++ (rowL 32 TX ++ (rowL 32 VA ++ (rowL 32 NX ++ (varint (zig PR) ++ r)))))) hf.tm.1 hf.tm.2
  obtain ⟨a3, b3⟩ := hashS_row LA (rowL 32 AP ++ (rowL 32 TX ++ (rowL 32 VA ++ (rowL 32 NX ++ (varint (zig PR) ++ r)))))
  obtain ⟨a4, b4⟩ := hashS_row AP (rowL 32 TX ++ (rowL 32 VA ++ (rowL 32 NX ++ (varint (zig PR) ++ r))))
  obtain ⟨a5, b5⟩ := hashS_row TX (rowL 32 VA ++ (rowL 32 NX ++ (varint (zig PR) ++ r)))
  obtain ⟨a6, b6⟩ := hashS_row VA (rowL 32 NX ++ (varint (zig PR) ++ r))
  obtain ⟨a7, b7⟩ := hashS_row NX (varint (zig PR) ++ r)
  have i8 := intS_varint PR r hf.pr.1 hf.pr.2
  refine ⟨by simp only [hdR, hdT7, hdT6, hdT5, hdT4, hdT3, hdT2, hdT1, hdT0, e, i0, i1, i2, a3, a4, a5, a6, a7, i8], ?_⟩
  simp only [hdV, hdT7, hdT6, hdT5, hdT4, hdT3, hdT2, hdT1, hdT0, e, i0, i1, i2, a3, a4, a5, a6, a7, i8, hdD, b3, b4, b5, b6, b7, str_numsOf]
theorem cm_back (c : Cm) (hc : CmFl c) (X r : List Int) : cmT (((varint (zig c.height) ++ varint (zig c.round)) ++ rowL 32 c.blk) ++ X, none) = (X, none) ∧ ∀ v, cmC (cmV (((varint (zig c.height) ++ varint (zig c.round)) ++ rowL 32 c.blk) ++ X, none)) v = cmC c v := by
  have e : ((varint (zig c.height) ++ varint (zig c.round)) ++ rowL 32 c.blk) ++ X = varint (zig c.height) ++ (varint (zig c.round) ++ (rowL 32 c.blk ++ X)) := by simp only [List.append_assoc]
  have i1 := intS_varint c.height (varint (zig c.round) ++ (rowL 32 c.blk ++ X)) hc.h.1 hc.h.2
  have i2 := intS_varint c.round (rowL 32 c.blk ++ X) hc.r.1 hc.r.2
  obtain ⟨a3, b3⟩ := hashS_row c.blk X
  refine ⟨by simp only [cmT, e, i1, i2, a3], fun v => ?_⟩
  simp only [cmV, cmC, e, i1, i2, b3]
/-- what a block that was encoded is read as -/
theorem bk_back (h : Hd) (hf : HdFl h) (hn : h.CH.size ≤ 64) (ts : List Tb) (c : Cm) (hc : CmFl c) (l : List Vo) (ht : ts.length ≤ 64) (hts : ∀ t ∈ ts, t.bs.length ≤ 65536) (hl : l.length ≤ 32) (hls : ∀ t ∈ l, VoSm t) :
    hdV (bkL h ts c l, none) = hdD h.CH h.HT h.TM h.LA h.AP h.TX h.VA h.NX h.PR ∧ countS (hdR (bkL h ts c l, none)) 64 = (ts.length, catL tb1 ts ++ cmL c l, none) ∧ bkT (bkL h ts c l, none) = (cmL c l, none) ∧
    (∀ v, cmC (cmV (cmL c l, none)) v = cmC c v) ∧ countS (cmT (cmL c l, none)) 32 = (l.length, catL vo1 l ++ [], none) ∧ cmR (cmL c l, none) = ([], none) := by
  obtain ⟨h1, h2⟩ := hd_back h hf hn (listL tb1 ts ++ cmL c l)
  have c1 := cnt_back tb1 ts 64 (cmL c l) (fun t _ => tb1_ge t) ht (by omega)
  have e : cmL c l = ((varint (zig c.height) ++ varint (zig c.round)) ++ rowL 32 c.blk) ++ listL vo1 l := rfl
  obtain ⟨m1, m2⟩ := cm_back c hc (listL vo1 l) []
  rw [← e] at m1 m2
  have c2 := cnt_back vo1 l 32 [] (fun t _ => vo1_ge t) hl (by omega)
  rw [List.append_nil] at c2
  have hh : countS (hdR (bkL h ts c l, none)) 64 = (ts.length, catL tb1 ts ++ cmL c l, none) := by rw [bkL, h1, c1]
  have hm : countS (cmT (cmL c l, none)) 32 = (l.length, catL vo1 l ++ [], none) := by rw [m1, c2]
  refine ⟨h2, hh, ?_, m2, hm, ?_⟩
  · rw [bkT, hh]; exact (txs_back ts hts _).1
  · rw [cmR, hm]; exact (vts_back l hls _).1
theorem done_nil11 : doneE (([], none) : RSt) = none := rfl
end Go.Proofs.YtanekacpalpcbaaGreatDoor
namespace Go.Proofs.YtanekacpalpcbaaGreatDoor
set_option linter.unusedVariables false
set_option linter.unusedSimpArgs false
open Go.RowKit
set_option maxRecDepth 100000
set_option linter.unusedSimpArgs false
set_option linter.unusedVariables false
theorem eqItems32h (f g : Nat → Int) (d : Nat) (w : World) : ∀ is : List Nat, (∀ i ∈ is, i < 32) → (Op.eqItems (d + 1) 5 1 (rowOf .u8 32 f) (rowOf .u8 32 g) is).run Tryz.prog w = .ok (is.all fun i => f i == g i) w
  | [], _ => by simp [Op.eqItems]
  | i :: is, h => by
    have hi : i < 32 := h i (by simp)
    have ha : (isAgg 5).run Tryz.prog w = .ok false w := by kernel_rfl
    have hp : ∀ f : Nat → Int, (part 5 (rowOf .u8 32 f) (i * 1)).run Tryz.prog w = .ok (.int .u8 (f i)) w := fun f => by
      simp [part, Sem.run_bind, ha, rowOf_get .u8 32 f i hi]
    have ih := eqItems32h f g d w is (fun j hj => h j (by simp [hj]))
    have pe : (Op.equalIn (d + 1) 5 (.int .u8 (f i)) (.int .u8 (g i))).run Tryz.prog w = .ok (f i == g i) w := run_equalIn_int w d 5 .u8 .u8 _ _ Tryz.underlying5
    simp only [Op.eqItems, Sem.run_bind, hp, pe, Result.andThen_ok, List.all_cons]
    cases hb : (f i == g i)
    · simp
    · simpa using ih
theorem eqIn32h (f : Nat → Int) (w : World) : (Op.equalIn 9999 65 (.agg (rowOf .u8 32 f)) (.agg (rowOf .u8 32 f))).run Tryz.prog w = .ok true w := by
  rw [run_equalIn_array w 9998 (i := (Tryz.prog.info? 5).getD default) _ _ Tryz.underlying65 (by kernel_rfl), show Tryz.prog.cellsOf 5 = 1 by kernel_rfl, eqItems32h f f 9997 w _ (fun i hi => by simpa using hi)]
  simp
theorem eqFields_self (D : Nat) (A : Array Value) (w : World) : ∀ l : List Field, (∀ f ∈ l, f.name ≠ "_" ∧ ∃ u, (part f.type A f.offset).run Tryz.prog w = .ok u w ∧ (Op.equalIn D f.type u u).run Tryz.prog w = .ok true w) → (Op.eqFields D A A l).run Tryz.prog w = .ok true w
  | [], _ => by simp [Op.eqFields]
  | f :: l, h => by
    obtain ⟨n, u, hp, he⟩ := h f List.mem_cons_self
    have ih := eqFields_self D A w l fun g hg => h g (List.mem_cons_of_mem _ hg)
    rw [Op.eqFields, if_pos n]
    simp only [Sem.run_bind, hp, he, Result.andThen_ok, Bool.not_true, Bool.false_eq_true, if_false, ih]
theorem headerFields : (Tryz.prog.fieldsOf 74).toList.map (fun f => (f.type, f.offset, f.name != "_")) = [(9, 0, true), (3, 1, true), (3, 2, true), (65, 3, true), (65, 35, true), (65, 67, true), (65, 99, true), (65, 131, true), (3, 163, true)] := by kernel_rfl
theorem eqInHeader_self (CH : ByteArray) (HT TM : Int) (LA AP TX VA NX : Nat → Int) (PR : Int) (w : World) : (Op.equalIn 10000 74 (.agg (hdD CH HT TM LA AP TX VA NX PR)) (.agg (hdD CH HT TM LA AP TX VA NX PR))).run Tryz.prog w = .ok true w := by
  rw [run_equalIn_struct w 9999 74 _ _ (by kernel_rfl) (by kernel_rfl)]
  have eS : (Op.equalIn 9999 9 (.string CH) (.string CH)).run Tryz.prog w = .ok true w := by
    have h := run_equalIn_string (P := Tryz.prog) w 9998 9 CH CH Tryz.underlying9
    rw [beq_self_eq_true] at h; exact h
  have eI : ∀ n : Int, (Op.equalIn 9999 3 (.int .i64 n) (.int .i64 n)).run Tryz.prog w = .ok true w := fun n => by
    have h := run_equalIn_int (P := Tryz.prog) w 9998 3 .i64 .i64 n n Tryz.underlying3
    rw [beq_self_eq_true] at h; exact h
  have eH := fun f => eqIn32h f w
  have hf := headerFields
  refine eqFields_self _ _ w _ fun f hm => ?_
  have hk : (f.type, f.offset, f.name != "_") ∈ (Tryz.prog.fieldsOf 74).toList.map (fun f => (f.type, f.offset, f.name != "_")) := List.mem_map.2 ⟨f, hm, rfl⟩
  rw [hf] at hk
  have hn : ∀ {t : TypeId} {o : Nat}, (f.type, f.offset, f.name != "_") = (t, o, true) → f.name ≠ "_" ∧ f.type = t ∧ f.offset = o := fun h => by
    simp only [Prod.mk.injEq, bne_iff_ne] at h
    exact ⟨h.2.2, h.1, h.2.1⟩
  simp only [List.mem_cons, List.not_mem_nil, or_false] at hk
  rcases hk with h | h | h | h | h | h | h | h | h <;> obtain ⟨h1, h2, h3⟩ := hn h <;> refine ⟨h1, ?_⟩ <;> rw [h2, h3]
  · exact ⟨.string CH, by kernel_rfl, eS⟩
  · exact ⟨.int .i64 HT, by kernel_rfl, eI _⟩
  · exact ⟨.int .i64 TM, by kernel_rfl, eI _⟩
  · exact ⟨.agg (rowOf .u8 32 LA), by kernel_rfl, eH _⟩
  · exact ⟨.agg (rowOf .u8 32 AP), by kernel_rfl, eH _⟩
  · exact ⟨.agg (rowOf .u8 32 TX), by kernel_rfl, eH _⟩
  · exact ⟨.agg (rowOf .u8 32 VA), by kernel_rfl, eH _⟩
  · exact ⟨.agg (rowOf .u8 32 NX), by kernel_rfl, eH _⟩
  · exact ⟨.int .i64 PR, by kernel_rfl, eI _⟩
theorem eqlHeader_self (CH : ByteArray) (HT TM : Int) (LA AP TX VA NX : Nat → Int) (PR : Int) (w : World) : (binOp .eql 74 (.agg (hdD CH HT TM LA AP TX VA NX PR)) (.agg (hdD CH HT TM LA AP TX VA NX PR))).run Tryz.prog w = .ok (.bool true) w := by
  rw [run_eql_struct, eqInHeader_self]
  rfl
theorem guardHeader (x y : Operand) (u v : Array Value) (w : World) : (eqGuard .eql 74 x y (.agg u) (.agg v)).run Tryz.prog w = .ok () w := by
  have h1 : Tryz.prog.eqGuardType Tryz.prog.depth 74 = false := by kernel_rfl
  unfold eqGuard
  go_simp
theorem wpList_eqH {w : World} {ops : Array Oper} {rest : List Oper} {o : Oper} {a : Act} {Q : Exit → Act → World → Prop} (hgd : Region.wanted o (yielded ops a.tmps) = true) (x y : Operand) (ho : o.op = .binOp .eql 74 x y 74) (HC : Array Value) (heq : ∀ w : World, (binOp .eql 74 (.agg HC) (.agg HC)).run Tryz.prog w = .ok (.bool true) w)
    (hx : a.eval x = .agg HC) (hy : a.eval y = .agg HC) (h : wpList Tryz.prog ops Q rest (a.put o.dst (.bool true)) w) : wpList Tryz.prog ops Q (o :: rest) a w := by
  refine BigFrame.wpList_want hgd fun K hK => ?_
  have hg := guardHeader x y HC HC w
  unfold Oper.wp execOp
  simp only [ho, hx, hy, Sem.run_bind, hg, heq w, Result.andThen_ok, Sem.run_pure]
  exact hK _ _ h
end Go.Proofs.YtanekacpalpcbaaGreatDoor
namespace Go.Proofs.YtanekacpalpcbaaGreatDoor
set_option linter.unusedVariables false
set_option linter.unusedSimpArgs false
/-- a number as the unsigned one of the same 64 bits -/
def uN (i : Int) : Nat := (IntKind.u64.wrap i).toNat
theorem uN_wrap (i : Int) : IntKind.u64.wrap i = ((uN i : Nat) : Int) := by
  unfold uN
  have : IntKind.u64.wrap i = i % 18446744073709551616 := rfl
  rw [this]; omega
theorem uN_lt (i : Int) : uN i < 18446744073709551616 := by
  unfold uN
  have : IntKind.u64.wrap i = i % 18446744073709551616 := rfl
  rw [this]; omega
/-- a chain's beginning -/
def startF (seed : Nat → Int) (leaf chain : Int) : Nat → Int := sumF (varint 2 ++ rowL 32 seed ++ varint (uN leaf) ++ varint (uN chain))
/-- one step further, from place p on -/
def step1 (leaf chain : Int) (v : Nat → Int) (p : Nat) : Nat → Int := sumF (varint 3 ++ varint (uN leaf) ++ varint (uN chain) ++ varint p ++ rowL 32 v)
/-- n steps from place p on -/
def stepN (leaf chain : Int) (v : Nat → Int) (p : Nat) : Nat → (Nat → Int)
  | 0 => v
  | n + 1 => step1 leaf chain (stepN leaf chain v p n) (p + n)
theorem stepN_add (leaf chain : Int) (v : Nat → Int) (p m : Nat) : ∀ n, stepN leaf chain (stepN leaf chain v p m) (p + m) n = stepN leaf chain v p (m + n)
  | 0 => rfl
  | n + 1 => by
    show step1 leaf chain (stepN leaf chain (stepN leaf chain v p m) (p + m) n) (p + m + n) = step1 leaf chain (stepN leaf chain v p (m + n)) (p + (m + n))
    rw [stepN_add leaf chain v p m n, Nat.add_assoc]
/-- a chain's value brought from place a to place b -/
def stepF (v : Nat → Int) (leaf chain a b : Int) : Nat → Int := stepN leaf chain v (max a 0).toNat ((min b 15).toNat - (max a 0).toNat)
theorem stepF_nat (v : Nat → Int) (leaf chain : Int) (a b : Nat) (hb : b ≤ 15) : stepF v leaf chain (a : Int) (b : Int) = stepN leaf chain v a (b - a) := by
  unfold stepF
  rw [show (max (a : Int) 0).toNat = a by omega, show (min (b : Int) 15).toNat = b by omega]
/-- on, and on again -/
theorem stepF_on (v : Nat → Int) (leaf chain : Int) (a b c : Nat) (hab : a ≤ b) (hbc : b ≤ c) (hc : c ≤ 15) : stepF (stepF v leaf chain a b) leaf chain b c = stepF v leaf chain a c := by
  rw [stepF_nat v _ _ a b (by omega), stepF_nat _ _ _ b c hc, stepF_nat v _ _ a c hc]
  have h := stepN_add leaf chain v a (b - a) (c - b)
  rw [show a + (b - a) = b by omega, show b - a + (c - b) = c - a by omega] at h
  exact h
theorem stepF_stay (v : Nat → Int) (leaf chain : Int) (b : Nat) (hb : b ≤ 15) : stepF v leaf chain b b = v := by
  rw [stepF_nat _ _ _ _ _ hb, Nat.sub_self]; rfl
/-- the digits of the bytes of a digest -/
def digs : List Int → List Nat
  | [] => []
  | x :: r => x.toNat / 16 :: x.toNat % 16 :: digs r
theorem digs_length : ∀ xs, (digs xs).length = 2 * xs.length
  | [] => rfl
  | x :: r => by simp only [digs, List.length_cons, digs_length r]; omega
theorem digs_append : ∀ xs ys, digs (xs ++ ys) = digs xs ++ digs ys
  | [], _ => rfl
  | x :: r, ys => by simp only [digs, List.cons_append, digs_append r ys]
theorem digs_le : ∀ {xs : List Int}, bytesOk xs → ∀ d ∈ digs xs, d ≤ 15
  | [], _, d, h => by cases h
  | x :: r, hb, d, h => by
    have hx := hb x (by simp)
    simp only [digs, List.mem_cons] at h
    rcases h with rfl | rfl | h
    · omega
    · omega
    · exact digs_le (fun y hy => hb y (by simp [hy])) d h
/-- what digits lack to 15, together -/
def lacks : List Nat → Nat
  | [] => 0
  | d :: r => (15 - d) + lacks r
theorem lacks_append : ∀ a b, lacks (a ++ b) = lacks a + lacks b
  | [], b => by simp [lacks]
  | d :: r, b => by simp only [lacks, List.cons_append, lacks_append r b]; omega
theorem lacks_le : ∀ l, lacks l ≤ 15 * l.length
  | [] => by simp [lacks]
  | d :: r => by have := lacks_le r; simp only [lacks, List.length_cons]; omega
/-- the digits of a digest, with those of the sum -/
def digF (xs : List Int) : List Nat := digs xs ++ [lacks (digs xs) / 256, lacks (digs xs) / 16 % 16, lacks (digs xs) % 16]
theorem digF_length (xs : List Int) : (digF xs).length = 2 * xs.length + 3 := by simp [digF, digs_length]
theorem lacks_bound {xs : List Int} (h : xs.length ≤ 32) : lacks (digs xs) ≤ 960 := by
  have := lacks_le (digs xs); rw [digs_length] at this; omega
theorem digF_le {xs : List Int} (hb : bytesOk xs) (hl : xs.length ≤ 32) : ∀ d ∈ digF xs, d ≤ 15 := by
  intro d h
  have := lacks_bound hl
  simp only [digF, List.mem_append, List.mem_cons, List.not_mem_nil, or_false] at h
  rcases h with h | rfl | rfl | rfl
  · exact digs_le hb d h
  all_goals omega
/-- the digest's digits say the digest -/
theorem digs_inj : ∀ {xs ys : List Int}, bytesOk xs → bytesOk ys → digs xs = digs ys → xs = ys
  | [], [], _, _, _ => rfl
  | [], y :: s, _, _, h => by simp [digs] at h
  | x :: r, [], _, _, h => by simp [digs] at h
  | x :: r, y :: s, hx, hy, h => by
    simp only [digs, List.cons.injEq] at h
    have h1 := hx x (by simp)
    have h2 := hy y (by simp)
    rw [digs_inj (fun z hz => hx z (by simp [hz])) (fun z hz => hy z (by simp [hz])) h.2.2, show x = y by omega]
/-- a digit of a that is greater than b's -/
def gtB : List Nat → List Nat → Bool
  | x :: a, y :: b => decide (y < x) || gtB a b
  | _, _ => false
theorem gtB_append : ∀ {a b : List Nat} (c d : List Nat), a.length = b.length → gtB (a ++ c) (b ++ d) = (gtB a b || gtB c d)
  | [], [], c, d, _ => by simp [gtB]
  | [], _ :: _, _, _, h => by cases h
  | _ :: _, [], _, _, h => by cases h
  | x :: a, y :: b, c, d, h => by simp only [List.cons_append, gtB, gtB_append c d (by simpa using h), Bool.or_assoc]
/-- where none of a is greater than b's, a lacks at least as much; as much only where they are the same -/
theorem lacks_mono : ∀ {a b : List Nat}, a.length = b.length → (∀ d ∈ b, d ≤ 15) → gtB a b = false → lacks b ≤ lacks a ∧ (lacks a = lacks b → a = b)
  | [], [], _, _, _ => by simp [lacks]
  | [], _ :: _, h, _, _ => by cases h
  | _ :: _, [], h, _, _ => by cases h
  | x :: a, y :: b, h, hb, hg => by
    simp only [gtB, Bool.or_eq_false_iff, decide_eq_false_iff_not, Nat.not_lt] at hg
    obtain ⟨h1, h2⟩ := lacks_mono (by simpa using h) (fun d hd => hb d (by simp [hd])) hg.2
    have hy := hb y (by simp)
    simp only [lacks]
    refine ⟨by omega, fun he => ?_⟩
    rw [show x = y by omega, h2 (by omega)]
theorem gt3 (m n : Nat) (h : n < m) : gtB [m / 256, m / 16 % 16, m % 16] [n / 256, n / 16 % 16, n % 16] = true := by
  simp only [gtB, Bool.or_eq_true, decide_eq_true_eq, Bool.or_false]
  omega
/-- of two unlike digests of one length each has a digit that is greater than the other's -/
theorem digF_gt {xs ys : List Int} (hx : bytesOk xs) (hy : bytesOk ys) (hl : xs.length = ys.length) (hne : xs ≠ ys) : gtB (digF xs) (digF ys) = true := by
  unfold digF
  rw [gtB_append _ _ (by rw [digs_length, digs_length, hl]), Bool.or_eq_true]
  by_cases hg : gtB (digs xs) (digs ys) = true
  · exact .inl hg
  · right
    obtain ⟨h1, h2⟩ := lacks_mono (a := digs xs) (b := digs ys) (by rw [digs_length, digs_length, hl]) (digs_le hy) (by simpa using hg)
    refine gt3 _ _ ?_
    rcases Nat.lt_or_ge (lacks (digs ys)) (lacks (digs xs)) with h | h
    · exact h
    · exact absurd (digs_inj hx hy (h2 (by omega))) hne
/-- the values of all chains, brought to their places, one behind the other -/
def chainsF (seed : Nat → Int) (leaf : Int) : Nat → List Nat → List Int
  | _, [] => []
  | c, d :: r => rowL 32 (stepF (startF seed leaf (c : Int)) leaf (c : Int) 0 (d : Int)) ++ chainsF seed leaf (c + 1) r
theorem chainsF_length (seed : Nat → Int) (leaf : Int) : ∀ (l : List Nat) (c : Nat), (chainsF seed leaf c l).length = 32 * l.length
  | [], _ => rfl
  | d :: r, c => by simp only [chainsF, List.length_append, rowL_length, chainsF_length seed leaf r (c + 1), List.length_cons]; omega
theorem chainsF_append (seed : Nat → Int) (leaf : Int) : ∀ (l m : List Nat) (c : Nat), chainsF seed leaf c (l ++ m) = chainsF seed leaf c l ++ chainsF seed leaf (c + l.length) m
  | [], m, c => by simp [chainsF]
  | d :: r, m, c => by
    simp only [List.cons_append, chainsF, chainsF_append seed leaf r m (c + 1), List.append_assoc, List.length_cons]
    rw [show c + 1 + r.length = c + (r.length + 1) by omega]
theorem chainsF_snoc (seed : Nat → Int) (leaf : Int) (l : List Nat) (k : Nat) (d : Nat) (h : l[k]? = some d) : chainsF seed leaf 0 (l.take (k + 1)) = chainsF seed leaf 0 (l.take k) ++ rowL 32 (stepF (startF seed leaf (k : Int)) leaf (k : Int) 0 (d : Int)) := by
  have hlt : k < l.length := (List.getElem?_eq_some_iff.1 h).1
  rw [List.take_add_one, h, Option.toList_some, chainsF_append, List.length_take, Nat.min_eq_left (by omega), Nat.zero_add]
  simp [chainsF]
/-- what a signature's values make, brought on from their digits to the end -/
def endsF (leaf : Int) : Nat → List Nat → List Int → List Int
  | _, [], _ => []
  | c, d :: r, s => rowL 32 (stepF (fun i => (s.take 32).getD i 0) leaf (c : Int) (d : Int) 15) ++ endsF leaf (c + 1) r (s.drop 32)
theorem endsF_length (leaf : Int) : ∀ (l : List Nat) (c : Nat) (s : List Int), (endsF leaf c l s).length = 32 * l.length
  | [], _, _ => rfl
  | d :: r, c, s => by simp only [endsF, List.length_append, rowL_length, endsF_length leaf r (c + 1), List.length_cons]; omega
theorem endsF_append (leaf : Int) : ∀ (l m : List Nat) (c : Nat) (s : List Int), endsF leaf c (l ++ m) s = endsF leaf c l s ++ endsF leaf (c + l.length) m (s.drop (32 * l.length))
  | [], m, c, s => by simp [endsF]
  | d :: r, m, c, s => by
    simp only [List.cons_append, endsF, endsF_append leaf r m (c + 1), List.append_assoc, List.length_cons, List.drop_drop]
    rw [show c + 1 + r.length = c + (r.length + 1) by omega, show 32 + 32 * r.length = 32 * (r.length + 1) by omega]
theorem endsF_snoc (leaf : Int) (l : List Nat) (k : Nat) (d : Nat) (s : List Int) (h : l[k]? = some d) : endsF leaf 0 (l.take (k + 1)) s = endsF leaf 0 (l.take k) s ++ rowL 32 (stepF (fun i => ((s.drop (32 * k)).take 32).getD i 0) leaf (k : Int) (d : Int) 15) := by
  have hlt : k < l.length := (List.getElem?_eq_some_iff.1 h).1
  rw [List.take_add_one, h, Option.toList_some, endsF_append, List.length_take, Nat.min_eq_left (by omega), Nat.zero_add]
  simp [endsF]
theorem rowL_congr {n : Nat} {f g : Nat → Int} (h : ∀ i, i < n → f i = g i) : rowL n f = rowL n g := by
  unfold rowL
  exact List.map_congr_left fun i hi => h i (by simpa using hi)
theorem step1_congr {leaf chain : Int} {f g : Nat → Int} {p : Nat} (h : ∀ i, i < 32 → f i = g i) : step1 leaf chain f p = step1 leaf chain g p := by
  unfold step1; rw [rowL_congr h]
theorem stepN_congr {leaf chain : Int} {f g : Nat → Int} {p : Nat} (h : ∀ i, i < 32 → f i = g i) : ∀ n i, i < 32 → stepN leaf chain f p n i = stepN leaf chain g p n i
  | 0, i, hi => h i hi
  | n + 1, i, hi => by
    show step1 leaf chain (stepN leaf chain f p n) (p + n) i = step1 leaf chain (stepN leaf chain g p n) (p + n) i
    rw [step1_congr (stepN_congr h n)]
theorem stepF_congr {leaf chain a b : Int} {f g : Nat → Int} (h : ∀ i, i < 32 → f i = g i) : rowL 32 (stepF f leaf chain a b) = rowL 32 (stepF g leaf chain a b) :=
  rowL_congr (stepN_congr h _)
theorem rowL_getD (n : Nat) (f : Nat → Int) (i : Nat) (h : i < n) : (rowL n f).getD i 0 = f i := by simp [rowL, List.getD, h]
/-- a signature makes the public sum -/
theorem ends_chains (seed : Nat → Int) (leaf : Int) : ∀ (l : List Nat) (c : Nat), (∀ d ∈ l, d ≤ 15) → endsF leaf c l (chainsF seed leaf c l) = chainsF seed leaf c (List.replicate l.length 15)
  | [], _, _ => rfl
  | d :: r, c, h => by
    have hl := rowL_length 32 (stepF (startF seed leaf (c : Int)) leaf (c : Int) 0 (d : Int))
    simp only [chainsF, endsF, List.length_cons, List.replicate_succ]
    rw [List.take_left' hl, List.drop_left' hl, ends_chains seed leaf r (c + 1) (fun x hx => h x (by simp [hx]))]
    have e := stepF_on (startF seed leaf (c : Int)) leaf (c : Int) 0 d 15 (Nat.zero_le _) (h d (by simp)) (Nat.le_refl _)
    rw [stepF_congr (g := stepF (startF seed leaf (c : Int)) leaf (c : Int) 0 (d : Int)) (fun i hi => rowL_getD _ _ _ hi)]
    rw [show ((0 : Nat) : Int) = 0 from rfl] at e
    rw [show ((15 : Nat) : Int) = 15 from rfl] at e ⊢
    rw [e]
/-- a leaf's sum -/
def leafF (xs : List Int) : Nat → Int := sumF (0 :: xs)
def pubF (seed : Nat → Int) (leaf : Int) (n : Nat) : Nat → Int := leafF (chainsF seed leaf 0 (List.replicate (2 * n + 3) 15))
def signF (seed : Nat → Int) (leaf : Int) (d : List Int) : List Int := chainsF seed leaf 0 (digF d)
def fromF (s : List Int) (leaf : Int) (d : List Int) : Nat → Int := leafF (endsF leaf 0 (digF d) s)
theorem from_sign (seed : Nat → Int) (leaf : Int) (d : List Int) (hb : bytesOk d) (hl : d.length ≤ 32) : fromF (signF seed leaf d) leaf d = pubF seed leaf d.length := by
  unfold fromF signF pubF
  rw [ends_chains seed leaf _ _ (digF_le hb hl), digF_length]
/-- may a leaf and a digest's length be? -/
def leafOk (leaf : Int) : Prop := 0 ≤ leaf ∧ leaf < 1024
end Go.Proofs.YtanekacpalpcbaaGreatDoor
namespace Go.Proofs.YtanekacpalpcbaaGreatDoor
set_option linter.unusedVariables false
set_option linter.unusedSimpArgs false
open Go.RowKit
theorem wpList_min2 {P : Program} {w : World} {ops : Array Oper} {rest : List Oper} {o : Oper} {a : Act} {Q : Exit → Act → World → Prop} (hgd : o.guard = none) (x y : Operand) (t : TypeId)
    (ho : o.op = .call { callee := .builtin .min, args := #[x, y], argTypes := #[t, t] }) (p q : Int) (hx : a.eval x = .int .i64 p) (hy : a.eval y = .int .i64 q) (r : Int) (hr : min p q = r)
    (h : wpList P ops Q rest (a.put o.dst (.int .i64 r)) w) : wpList P ops Q (o :: rest) a w := by
  refine wpList_plain hgd fun K hK => ?_
  have hrun := run_min_int2 (P := P) (w := w) #[t, t] o.type .i64 .i64 p q
  rw [show (if q < p then q else p) = r by rw [← hr]; split <;> omega] at hrun
  unfold Oper.wp
  simp only [execOp, ho, resolve, invoke, builtin, Sem.run_bind, Sem.run_pure, Result.andThen_ok, List.map_toArray, List.map_cons, List.map_nil, hx, hy, hrun]
  exact hK _ _ h
theorem wpList_max2 {P : Program} {w : World} {ops : Array Oper} {rest : List Oper} {o : Oper} {a : Act} {Q : Exit → Act → World → Prop} (hgd : o.guard = none) (x y : Operand) (t : TypeId)
    (ho : o.op = .call { callee := .builtin .max, args := #[x, y], argTypes := #[t, t] }) (p q : Int) (hx : a.eval x = .int .i64 p) (hy : a.eval y = .int .i64 q) (r : Int) (hr : max p q = r)
    (h : wpList P ops Q rest (a.put o.dst (.int .i64 r)) w) : wpList P ops Q (o :: rest) a w := by
  refine wpList_plain hgd fun K hK => ?_
  have hrun := run_max_int2 (P := P) (w := w) #[t, t] o.type .i64 .i64 p q
  rw [show (if p < q then q else p) = r by rw [← hr]; split <;> omega] at hrun
  unfold Oper.wp
  simp only [execOp, ho, resolve, invoke, builtin, Sem.run_bind, Sem.run_pure, Result.andThen_ok, List.map_toArray, List.map_cons, List.map_nil, hx, hy, hrun]
  exact hK _ _ h
end Go.Proofs.YtanekacpalpcbaaGreatDoor
namespace Go.Proofs.YtanekacpalpcbaaGreatDoor
set_option linter.unusedVariables false
set_option linter.unusedSimpArgs false
open Go.RowKit
set_option maxRecDepth 100000
theorem and15 (n : Nat) (h : n < 1024) : bits .and .i64 (n : Int) 15 = ((n % 16 : Nat) : Int) := by
  have : ∀ b : Fin 1024, bits .and .i64 (b.val : Int) 15 = ((b.val % 16 : Nat) : Int) := by decide +kernel
  exact this ⟨n, h⟩
end Go.Proofs.YtanekacpalpcbaaGreatDoor
