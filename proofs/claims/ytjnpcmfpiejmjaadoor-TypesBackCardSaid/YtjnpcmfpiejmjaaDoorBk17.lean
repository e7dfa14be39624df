/- Part 17 of the proof. -/
import Derived.Test.YtjnpcmfpiejmjaaDoorBk14
import Derived.Test.YtjnpcmfpiejmjaaDoorBk16
namespace Go.Proofs.YtjnpcmfpiejmjaaDoor
set_option linter.unusedVariables false
set_option linter.unusedSimpArgs false
open Go.RowKit
set_option maxRecDepth 100000
set_option linter.unusedSimpArgs false
set_option linter.unusedVariables false
theorem row_get11 {f g : Nat → Int} (h : rowOf .u8 32 f = rowOf .u8 32 g) : ∀ i, i < 32 → f i = g i := fun i hi => by
  have h1 := rowOf_get .u8 32 f i hi
  rw [h, rowOf_get .u8 32 g i hi] at h1
  injection h1 with h1
  injection h1 with _ h1
  exact h1.symm
theorem rowL_of11 {f g : Nat → Int} (h : rowOf .u8 32 f = rowOf .u8 32 g) : rowL 32 f = rowL 32 g := by
  unfold rowL
  exact List.map_congr_left fun i hi => row_get11 h i (List.mem_range.1 hi)
theorem vt_back {t : Vo} (hf : VoFl t) (hz : t.sign.length ≤ 65536) (r : List Int) :
    vtR (vo1 t ++ r, none) = (r, none) ∧ vtG (vo1 t ++ r, none) = t.sign ∧ ∀ sv, vo1 (vtV (vo1 t ++ r, none) sv) = vo1 t ∧ VoFl (vtV (vo1 t ++ r, none) sv) ∧ (vtV (vo1 t ++ r, none) sv).sign = t.sign := by
  have e : vo1 t ++ r = varint (zig t.kind) ++ (varint (zig t.height) ++ (varint (zig t.round) ++ (rowL 32 t.blk ++ (varint (zig t.val) ++ (varint t.sign.length ++ (t.sign ++ r)))))) := by
    simp only [vo1, voL, List.append_assoc]
  have i1 := intS_varint t.kind (varint (zig t.height) ++ (varint (zig t.round) ++ (rowL 32 t.blk ++ (varint (zig t.val) ++ (varint t.sign.length ++ (t.sign ++ r)))))) hf.k.1 hf.k.2
  have i2 := intS_varint t.height (varint (zig t.round) ++ (rowL 32 t.blk ++ (varint (zig t.val) ++ (varint t.sign.length ++ (t.sign ++ r))))) hf.h.1 hf.h.2
  have i3 := intS_varint t.round (rowL 32 t.blk ++ (varint (zig t.val) ++ (varint t.sign.length ++ (t.sign ++ r)))) hf.r.1 hf.r.2
  obtain ⟨i4, i5⟩ := hashS_row t.blk (varint (zig t.val) ++ (varint t.sign.length ++ (t.sign ++ r)))
  have i6 := intS_varint t.val (varint t.sign.length ++ (t.sign ++ r)) hf.vl.1 hf.vl.2
  have i7 := partS_bytes t.sign r 65536 (by omega) (by omega) (by omega)
  have hg : vtG (vo1 t ++ r, none) = t.sign := by simp only [vtG, vt5, e, i1, i2, i3, i4, i6, i7]
  refine ⟨by simp only [vtR, vt5, e, i1, i2, i3, i4, i6, i7], hg, fun sv => ?_⟩
  have hv : vtV (vo1 t ++ r, none) sv = ⟨t.kind, t.height, t.round, (hashS (rowL 32 t.blk ++ (varint (zig t.val) ++ (varint t.sign.length ++ (t.sign ++ r))), none)).1, t.val, sv, t.sign⟩ := by
    rw [vtV, hg]
    simp only [e, i1, i2, i3, i4, i6]
  rw [hv]
  refine ⟨?_, ⟨hf.k, hf.h, hf.r, hf.vl⟩, rfl⟩
  simp only [vo1, voL, rowL_of11 i5]
theorem vtN_front (s : RSt) : ∀ k, vtN (k + 1) s = vtN k (vtR s)
  | 0 => rfl
  | k + 1 => by rw [vtN, vtN_front s k]; rfl
theorem vtsF_front (s : RSt) : ∀ (l : List Value) (k : Nat), vtsF (k + 1) s l = vtsF k (vtR s) l
  | [], k => rfl
  | v :: l, k => by rw [vtsF, vtsF, vtsF_front s l (k + 1), vtN_front]
theorem vts_cons (s : RSt) (v : Value) (l : List Value) : vts s (v :: l) = vtV s v :: vts (vtR s) l := by
  show vtV (vtN 0 s) v :: vtsF 1 s l = _
  rw [vtsF_front]; rfl
structure VoSm (v : Vo) : Prop where
  f : VoFl v
  z : v.sign.length ≤ 65536
theorem vts_back : ∀ (l : List Vo), (∀ t ∈ l, VoSm t) → ∀ r : List Int, vtN l.length (catL vo1 l ++ r, none) = (r, none) ∧ ∀ svs : List Value, svs.length = l.length → ∀ (i : Nat) (x y : Vo), (vts (catL vo1 l ++ r, none) svs)[i]? = some x → l[i]? = some y → vo1 x = vo1 y ∧ VoFl x ∧ x.sign = y.sign
  | [], _, r => ⟨rfl, fun svs hs i x y h1 h2 => by simp at h2⟩
  | t :: l, h, r => by
    obtain ⟨b1, b2, b3⟩ := vt_back (h t List.mem_cons_self).f (h t List.mem_cons_self).z (catL vo1 l ++ r)
    obtain ⟨c1, c2⟩ := vts_back l (fun u hu => h u (List.mem_cons_of_mem _ hu)) r
    rw [catL, List.append_assoc]
    refine ⟨by rw [List.length_cons, vtN_front, b1, c1], fun svs hs i x y h1 h2 => ?_⟩
    cases svs with
    | nil => simp at hs
    | cons v svs =>
      rw [vts_cons, b1] at h1
      cases i with
      | zero =>
        injection h1 with h1
        injection h2 with h2
        subst h1 h2
        exact b3 v
      | succ i => exact c2 svs (by simpa using hs) i x y (by simpa using h1) (by simpa using h2)
theorem tx_back {t : Tb} (hz : t.bs.length ≤ 65536) (r : List Int) : partS (tb1 t ++ r, none) 65536 = (t.bs, r, none) := by
  rw [show tb1 t ++ r = varint t.bs.length ++ (t.bs ++ r) from by simp only [tb1, List.append_assoc]]
  exact partS_bytes t.bs r 65536 (by omega) (by omega) (by omega)
theorem txN_front (s : RSt) : ∀ k, txN (k + 1) s = txN k ((partS s 65536).2)
  | 0 => rfl
  | k + 1 => by rw [txN, txN_front s k]; rfl
theorem txsF_front (s : RSt) : ∀ (l : List Value) (k : Nat), txsF (k + 1) s l = txsF k ((partS s 65536).2) l
  | [], k => rfl
  | v :: l, k => by rw [txsF, txsF, txsF_front s l (k + 1), txN_front]
theorem txs_cons (s : RSt) (v : Value) (l : List Value) : txs s (v :: l) = ⟨v, (partS s 65536).1⟩ :: txs (partS s 65536).2 l := by
  show ⟨v, (partS (txN 0 s) 65536).1⟩ :: txsF 1 s l = _
  rw [txsF_front]; rfl
theorem txs_back : ∀ (l : List Tb), (∀ t ∈ l, t.bs.length ≤ 65536) → ∀ r : List Int, txN l.length (catL tb1 l ++ r, none) = (r, none) ∧ ∀ svs : List Value, svs.length = l.length → ∀ (i : Nat) (x y : Tb), (txs (catL tb1 l ++ r, none) svs)[i]? = some x → l[i]? = some y → x.bs = y.bs
  | [], _, r => ⟨rfl, fun svs hs i x y h1 h2 => by simp at h2⟩
  | t :: l, h, r => by
    have b1 := tx_back (h t List.mem_cons_self) (catL tb1 l ++ r)
    obtain ⟨c1, c2⟩ := txs_back l (fun u hu => h u (List.mem_cons_of_mem _ hu)) r
    rw [catL, List.append_assoc]
    refine ⟨by rw [List.length_cons, txN_front, b1]; exact c1, fun svs hs i x y h1 h2 => ?_⟩
    cases svs with
    | nil => simp at hs
    | cons v svs =>
      rw [txs_cons, b1] at h1
      cases i with
      | zero =>
        injection h1 with h1
        injection h2 with h2
        subst h1 h2
        rfl
      | succ i => exact c2 svs (by simpa using hs) i x y (by simpa using h1) (by simpa using h2)
theorem catL_ge {α : Type} (f : α → List Int) : ∀ l : List α, (∀ t ∈ l, 1 ≤ (f t).length) → l.length ≤ (catL f l).length
  | [], _ => Nat.le_refl _
  | t :: l, h => by
    have := h t List.mem_cons_self
    have := catL_ge f l (fun u hu => h u (List.mem_cons_of_mem _ hu))
    rw [catL, List.length_append, List.length_cons]; omega
theorem cnt_back {α : Type} (f : α → List Int) (l : List α) (most : Nat) (r : List Int) (h1 : ∀ t ∈ l, 1 ≤ (f t).length) (hm : l.length ≤ most) (hl : l.length ≤ 1048576) : countS (listL f l ++ r, none) most = (l.length, catL f l ++ r, none) := by
  have e : listL f l ++ r = varint l.length ++ (catL f l ++ r) := by simp only [listL, List.append_assoc]
  have u := uintS_varint l.length most (catL f l ++ r) (by omega) hm
  rw [e, countS_good (by rw [u]) (by rw [u]; have := catL_ge f l h1; simp only [List.length_append]; omega), u]
theorem vo1_ge (t : Vo) : 1 ≤ (vo1 t).length := by
  simp only [vo1, voL, List.length_append, rowL32]; omega
theorem tb1_ge (t : Tb) : 1 ≤ (tb1 t).length := by
  have h : 1 ≤ (varint t.bs.length).length := by
    rw [varint_length]
    exact glen_pos _
  simp only [tb1, List.length_append]; omega
theorem hd_back (h : Hd) (hf : HdFl h) (hn : h.CH.size ≤ 64) (r : List Int) : hdR (hdL h.CH h.HT h.TM h.LA h.AP h.TX h.VA h.NX h.PR ++ r, none) = (r, none) ∧ hdV (hdL h.CH h.HT h.TM h.LA h.AP h.TX h.VA h.NX h.PR ++ r, none) = hdD h.CH h.HT h.TM h.LA h.AP h.TX h.VA h.NX h.PR := by
  obtain ⟨CH, HT, TM, LA, AP, TX, VA, NX, PR⟩ := h
  simp only at hn ⊢
  have e : hdL CH HT TM LA AP TX VA NX PR ++ r = varint CH.size ++ (numsOf CH ++ (varint (zig HT) ++ (varint (zig TM) ++ (rowL 32 LA ++ (rowL 32 AP ++ (rowL 32 TX ++ (rowL 32 VA ++ (rowL 32 NX ++ (varint (zig PR) ++ r))))))))) := by
    simp only [hdL, List.append_assoc]
  have i0 : partS (varint CH.size ++ (numsOf CH ++ (varint (zig HT) ++ (varint (zig TM) ++ (rowL 32 LA ++ (rowL 32 AP ++ (rowL 32 TX ++ (rowL 32 VA ++ (rowL 32 NX ++ (varint (zig PR) ++ r))))))))), none) 64 = (numsOf CH, varint (zig HT) ++ (varint (zig TM) ++ (rowL 32 LA ++ (rowL 32 AP ++ (rowL 32 TX ++ (rowL 32 VA ++ (rowL 32 NX ++ (varint (zig PR) ++ r))))))), none) := by
    have := partS_bytes (numsOf CH) (varint (zig HT) ++ (varint (zig TM) ++ (rowL 32 LA ++ (rowL 32 AP ++ (rowL 32 TX ++ (rowL 32 VA ++ (rowL 32 NX ++ (varint (zig PR) ++ r)))))))) 64 (by rw [numsOf_length]; omega) (by omega) (by rw [numsOf_length]; omega)
    rwa [numsOf_length] at this
  have i1 := intS_varint HT (varint (zig TM) ++ (rowL 32 LA ++ (rowL 32 AP ++ (rowL 32 TX ++ (rowL 32 VA ++ (rowL 32 NX ++ (varint (zig PR) ++ r))))))) hf.ht.1 hf.ht.2
  have i2 := intS_varint TM (rowL 32 LA ++ (rowL 32 AP ++ (rowL 32 TX ++ (rowL 32 VA ++ (rowL 32 NX ++ (varint (zig PR) ++ r)))))) hf.tm.1 hf.tm.2
  obtain ⟨a3, b3⟩ := hashS_row LA (rowL 32 AP ++ (rowL 32 TX ++ (rowL 32 VA ++ (rowL 32 NX ++ (varint (zig PR) ++ r)))))
  obtain ⟨a4, b4⟩ := hashS_row AP (rowL 32 TX ++ (rowL 32 VA ++ (rowL 32 NX ++ (varint (zig PR) ++ r))))
  obtain ⟨a5, b5⟩ := hashS_row TX (rowL 32 VA ++ (rowL 32 NX ++ (varint (zig PR) ++ r)))
  obtain ⟨a6, b6⟩ := hashS_row VA (rowL 32 NX ++ (varint (zig PR) ++ r))
  obtain ⟨a7, b7⟩ := hashS_row NX (varint (zig PR) ++ r)
  have i8 := intS_varint PR r hf.pr.1 hf.pr.2
  refine ⟨by simp only [hdR, hdT7, hdT6, hdT5, hdT4, hdT3, hdT2, hdT1, hdT0, e, i0, i1, i2, a3, a4, a5, a6, a7, i8], ?_⟩
  simp only [hdV, hdT7, hdT6, hdT5, hdT4, hdT3, hdT2, hdT1, hdT0, e, i0, i1, i2, a3, a4, a5, a6, a7, i8, hdD, b3, b4, b5, b6, b7, str_numsOf]
theorem cm_back (c : Cm) (hc : CmFl c) (X r : List Int) : cmT (((varint (zig c.height) ++ varint (zig c.round)) ++ rowL 32 c.blk) ++ X, none) = (X, none) ∧ ∀ v, cmC (cmV (((varint (zig c.height) ++ varint (zig c.round)) ++ rowL 32 c.blk) ++ X, none)) v = cmC c v := by
  have e : ((varint (zig c.height) ++ varint (zig c.round)) ++ rowL 32 c.blk) ++ X = varint (zig c.height) ++ (varint (zig c.round) ++ (rowL 32 c.blk ++ X)) := by simp only [List.append_assoc]
  have i1 := intS_varint c.height (varint (zig c.round) ++ (rowL 32 c.blk ++ X)) hc.h.1 hc.h.2
  have i2 := intS_varint c.round (rowL 32 c.blk ++ X) hc.r.1 hc.r.2
  obtain ⟨a3, b3⟩ := hashS_row c.blk X
  refine ⟨by simp only [cmT, e, i1, i2, a3], fun v => ?_⟩
  simp only [cmV, cmC, e, i1, i2, b3]
/-- what a block that was encoded is read as -/
theorem bk_back (h : Hd) (hf : HdFl h) (hn : h.CH.size ≤ 64) (ts : List Tb) (c : Cm) (hc : CmFl c) (l : List Vo) (ht : ts.length ≤ 64) (hts : ∀ t ∈ ts, t.bs.length ≤ 65536) (hl : l.length ≤ 32) (hls : ∀ t ∈ l, VoSm t) :
    hdV (bkL h ts c l, none) = hdD h.CH h.HT h.TM h.LA h.AP h.TX h.VA h.NX h.PR ∧ countS (hdR (bkL h ts c l, none)) 64 = (ts.length, catL tb1 ts ++ cmL c l, none) ∧ bkT (bkL h ts c l, none) = (cmL c l, none) ∧
    (∀ v, cmC (cmV (cmL c l, none)) v = cmC c v) ∧ countS (cmT (cmL c l, none)) 32 = (l.length, catL vo1 l ++ [], none) ∧ cmR (cmL c l, none) = ([], none) := by
  obtain ⟨h1, h2⟩ := hd_back h hf hn (listL tb1 ts ++ cmL c l)
  have c1 := cnt_back tb1 ts 64 (cmL c l) (fun t _ => tb1_ge t) ht (by omega)
  have e : cmL c l = ((varint (zig c.height) ++ varint (zig c.round)) ++ rowL 32 c.blk) ++ listL vo1 l := rfl
  obtain ⟨m1, m2⟩ := cm_back c hc (listL vo1 l) []
  rw [← e] at m1 m2
  have c2 := cnt_back vo1 l 32 [] (fun t _ => vo1_ge t) hl (by omega)
  rw [List.append_nil] at c2
  have hh : countS (hdR (bkL h ts c l, none)) 64 = (ts.length, catL tb1 ts ++ cmL c l, none) := by rw [bkL, h1, c1]
  have hm : countS (cmT (cmL c l, none)) 32 = (l.length, catL vo1 l ++ [], none) := by rw [m1, c2]
  refine ⟨h2, hh, ?_, m2, hm, ?_⟩
  · rw [bkT, hh]; exact (txs_back ts hts _).1
  · rw [cmR, hm]; exact (vts_back l hls _).1
theorem done_nil11 : doneE (([], none) : RSt) = none := rfl
end Go.Proofs.YtjnpcmfpiejmjaaDoor
