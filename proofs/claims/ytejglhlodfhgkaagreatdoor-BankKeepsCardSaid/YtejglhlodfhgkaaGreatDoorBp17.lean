/- Part 17 of the proof. -/
import Derived.ProofKit
import Derived.OpenShut
import Derived.Deep.Slices
import Derived.SizedLaws
import Derived.Lib.SmallJoins
import Derived.Deep.Fields
import Derived.ChangeSame
import Derived.Test.YtejglhlodfhgkaaGreatDoorBp1
import Derived.Test.YtejglhlodfhgkaaGreatDoorBp6
import Derived.Test.YtejglhlodfhgkaaGreatDoorBp12
import Derived.Test.YtejglhlodfhgkaaGreatDoorBp15
import Derived.Test.YtejglhlodfhgkaaGreatDoorBp16
namespace Go.Proofs.YtejglhlodfhgkaaGreatDoor
set_option linter.unusedVariables false
set_option linter.unusedSimpArgs false
open Go.RowKit
set_option maxRecDepth 100000
set_option linter.unusedSimpArgs false
set_option linter.unusedVariables false
theorem kv_range16 {w : World} {ab o : Nat} {p : KV} (h1 : w.cell? ⟨ab, o, none⟩ = some (.string p.1)) (h2 : w.cell? ⟨ab, o + 1, none⟩ = some (.string p.2)) : w.rangeAt ab o (kvC p).toList := fun j v hv => by
  match j, hv with
  | 0, hv => cases hv; rw [Nat.add_zero]; exact h1
  | 1, hv => cases hv; exact h2
theorem bkzero_any (p : KV) (w : World) (hs : p.2.size ≤ 140737488351232) : Calls Tryz.prog 110 #[.agg (kvC p)] w fun e w' => e = .returned (.bool (decide (bkDec p.2 = 0))) ∧ Below w.heap.size w w' := by
  have HB := Lib.hid (below_alloc w (.cells (kvC p) 70))
  have HQ := Lib.hid (heap_alloc_new w (.cells (kvC p) 70))
  have HD := Lib.hid (fun w => bkdec_any p.2 w hs)
  obtain ⟨n, hn⟩ : ∃ n, n = bkDec p.2 := ⟨_, rfl⟩
  rw [← hn] at HD ⊢
  have HC := Lib.hid (fun (W : World) {g : Nat} (h : W.heap[g]? = some (.cells (kvC p) 70 (0, 0))) => show W.cell? ⟨g, 1, none⟩ = some (.string p.2) from by rw [cell_of_row _ _ _ _ _ _ h]; rfl)
  clear hn hs
  obtain ⟨C, hC⟩ : ∃ c, c = kvC p := ⟨_, rfl⟩
  rw [← hC] at HB HQ HC ⊢
  obtain ⟨V, hV⟩ : ∃ v, v = p.2 := ⟨_, rfl⟩
  rw [← hV] at HC HD
  clear hC hV
  by_cases h0 : n = 0
  · subst h0
    go_enter Tryz.func110, Tryz.ntmps110
    go_upto_region 1 with (fail)
    generalize w.alloc (.cells C 70) = w1 at *
    have k1 := HC.out w1 HQ.out
    go_wp2_with (go_at_call 104; (with_reducible refine (HD.out _).mono ?_); rintro e w2 ⟨rfl, hb⟩; replace HB := Lib.hid (HB.out.trans (hb.mono HB.out.size)); clear hb)
    go_ret
    exact ⟨rfl, HB.out⟩
  · have h0B : (n == 0) = false := by rw [beq_eq_false_iff_ne]; exact h0
    rw [decide_eq_false h0]
    go_enter Tryz.func110, Tryz.ntmps110
    go_upto_region 1 with (fail)
    generalize w.alloc (.cells C 70) = w1 at *
    have k1 := HC.out w1 HQ.out
    go_wp2_with (go_at_call 104; (with_reducible refine (HD.out _).mono ?_); rintro e w2 ⟨rfl, hb⟩; replace HB := Lib.hid (HB.out.trans (hb.mono HB.out.size)); clear hb)
    go_ret
    exact ⟨rfl, HB.out⟩
set_option maxHeartbeats 2000000 in
theorem bkidx_any (l : List KV) (v : Value) (w : World) (hv : KVIn w v l) (hs : ∀ p ∈ l, p.2.size ≤ 140737488351232) (hz : ∀ p ∈ l, bkDec p.2 ≠ 0) :
    Calls Tryz.prog 173 #[v, .func (.func 110) #[] #[]] w fun e w' => e = .returned (.int .i64 (-1)) ∧ Below w.heap.size w w' := by
  have hmax : l.length ≤ maxLen := by obtain ⟨_, _, _, _, h, _⟩ := hv; exact h
  obtain ⟨a, cap, rfl⟩ := hv.len
  have HV := Lib.hid hv
  obtain ⟨n, hn⟩ : ∃ n, n = l.length := ⟨_, rfl⟩
  have HN := Lib.hid hn
  have hnI : (n : Int) ≤ 9223372036854775807 := by unfold maxLen at hmax; omega
  have HZ := Lib.hid (fun (p : KV) (hp : p ∈ l) (W : World) => show Calls Tryz.prog 110 #[.agg (kvC p)] W fun e w' => e = .returned (.bool false) ∧ Below W.heap.size W w' from by
    have h := bkzero_any p W (hs p hp)
    rw [decide_eq_false (hz p hp)] at h
    exact h)
  rw [← hn] at HV ⊢
  clear hv hn hmax hs hz
  go_enter Tryz.func173, Tryz.ntmps173
  go_upto_region 2 with (fail)
  have HR0 := Lib.hid (Below.refl w.heap.size w)
  go_wp2_with (fail)
  go_loopw [8] (fun v wr => ∃ k : Nat, k ≤ n ∧ v = .int .i64 (k : Int) ∧ Hid (Below w.heap.size w wr)) (fun v _ => n - (intOf v).toNat)
  case atStart => exact ⟨0, Nat.zero_le _, rfl, HR0⟩
  case round =>
    clear HR0
    obtain ⟨k, hkn, rfl, HR⟩ := hrel
    by_cases hlt : k < n
    · have hltI : (k : Int) < (n : Int) := by omega
      obtain ⟨p, hp⟩ : ∃ x, l[k]? = some x := ⟨l[k]'(by have := HN.out; omega), List.getElem?_eq_getElem _⟩
      have hv := HV.out.below HR.out
      rw [HN.out] at hv
      obtain ⟨ab, ao, rfl, hab, h1, h2⟩ := hv.at k p hp
      have HRA := Lib.hid (kv_range16 h1 h2)
      have HZP := Lib.hid (HZ.out p (List.mem_of_getElem? hp))
      have HS2 := Lib.hid (show (kvC p).size = 2 from rfl)
      obtain ⟨C, hC⟩ : ∃ c, c = kvC p := ⟨_, rfl⟩
      rw [← hC] at HRA HZP HS2
      clear hv hab h1 h2 hp hC
      go_wp2_with (first
        | (refine wpList_load_rowT (by rfl) 70 (.tmp 14) rfl ab (ao + k * 2) rfl C _ HRA.out Tryz.underlying70 rfl (by rw [HS2.out]; kernel_rfl) ?_)
        | (go_at_call 110; (with_reducible refine (HZP.out _).mono ?_); rintro e w2 ⟨rfl, hb⟩; have HR2 := Lib.hid (HR.out.trans (hb.mono HR.out.size)); clear hb))
      go_roundw
      case rel => exact ⟨k + 1, by omega, by go_num, HR2⟩
      case measure => simp [intOf]; omega
    · obtain rfl : k = n := by omega
      go_wp2_with (fail)
      go_ret
      exact ⟨rfl, HR.out⟩
theorem bkdel_any (l : List KV) (v : Value) (w : World) (hv : KVIn w v l) (hs : ∀ p ∈ l, p.2.size ≤ 140737488351232) (hz : ∀ p ∈ l, bkDec p.2 ≠ 0) :
    Calls Tryz.prog 108 #[v, .func (.func 110) #[] #[]] w fun e w' => e = .returned v ∧ Below w.heap.size w w' := by
  have HI := Lib.hid (bkidx_any l v w hv hs hz)
  clear hv hs hz
  go_enter Tryz.func108, Tryz.ntmps108
  go_wp2_with (go_at_call 173; (with_reducible refine HI.out.mono ?_); rintro e w2 ⟨rfl, hb⟩; have HB := Lib.hid hb; clear hb)
  go_ret
  exact ⟨rfl, HB.out⟩
abbrev loK : ByteArray := { data := #[98, 97, 110, 107, 47] }
abbrev hiK : ByteArray := { data := #[98, 97, 110, 107, 48] }
def balsO (t : Option AvT) : List KV := rangeO t loK hiK
theorem TreeO.ptr {w : World} {v : Value} {t : Option AvT} (h : TreeO w v t) : ∃ p, v = .pointer p := by
  cases t with
  | none => exact ⟨none, h⟩
  | some t => obtain ⟨g, e, _⟩ := h; exact ⟨_, e⟩
theorem bals_mem {t : Option AvT} (h : Srt (pairsO t)) {p : KV} (hp : p ∈ balsO t) : p ∈ pairsO t := by
  unfold balsO at hp
  rw [range_eq h] at hp
  exact (List.mem_filter.1 hp).1
theorem bkbals_any (va : Value) (t : Option AvT) (w : World) (g : Nat) (ht : TreeO w va t) (hg : GT 140737488351232 g t) (hgn : g ≤ 1048576) (hz : ∀ p ∈ balsO t, bkDec p.2 ≠ 0) :
    Calls Tryz.prog 43 #[va] w fun e w' => ∃ v, e = .returned v ∧ KVIn w' v (balsO t) ∧ Below w.heap.size w w' := by
  obtain ⟨p, rfl⟩ := ht.ptr
  have HR := Lib.hid (range_kv p t loK hiK w ht hg.srt (Nat.le_trans hg.many hgn))
  have HD := Lib.hid (fun (W : World) (v : Value) (h : KVIn W v (balsO t)) => bkdel_any (balsO t) v W h (fun p hp => by have := hg.size p (bals_mem hg.srt hp); omega) hz)
  have HBL := Lib.hid (show rangeO t loK hiK = balsO t from rfl)
  rw [HBL.out] at HR
  obtain ⟨L, hL⟩ : ∃ l, l = balsO t := ⟨_, rfl⟩
  rw [← hL] at HR HD ⊢
  clear hL HBL ht hg hgn hz
  go_enter Tryz.func43, Tryz.ntmps43
  go_wp2_with (first
    | (go_at_call 109; (with_reducible refine HR.out.mono ?_); rintro e w1 ⟨v1, rfl, hk, hb⟩; have HK := Lib.hid hk; have HB := Lib.hid hb; clear hk hb)
    | (go_at_call 108; (with_reducible refine (HD.out _ _ HK.out).mono ?_); rintro e w2 ⟨rfl, hb⟩; replace HK := Lib.hid (HK.out.below hb); replace HB := Lib.hid (HB.out.trans (hb.mono HB.out.size)); clear hb))
  go_ret
  exact ⟨_, rfl, HK.out, HB.out⟩
end Go.Proofs.YtejglhlodfhgkaaGreatDoor
namespace Go.Proofs.YtejglhlodfhgkaaGreatDoor
set_option linter.unusedVariables false
set_option linter.unusedSimpArgs false
open Go.RowKit
set_option maxRecDepth 100000
set_option linter.unusedSimpArgs false
set_option linter.unusedVariables false
theorem balK_list (n d : ByteArray) : (balK n d).toList = 98 :: 97 :: 110 :: 107 :: 47 :: (n.data.toList ++ 47 :: d.data.toList) := by
  rw [ByteArray.toList_eq]
  unfold balK
  rw [ByteArray.data_append, ByteArray.data_append, ByteArray.data_append]
  simp only [Array.toList_append]
  simp
theorem supK_list (d : ByteArray) : (supK d).toList = 115 :: 117 :: 112 :: 112 :: 108 :: 121 :: 47 :: d.data.toList := by
  rw [ByteArray.toList_eq]
  unfold supK
  rw [ByteArray.data_append, Array.toList_append]
  simp
theorem loK_list : loK.toList = [98, 97, 110, 107, 47] := by decide +kernel
theorem hiK_list : hiK.toList = [98, 97, 110, 107, 48] := by decide +kernel
theorem bal_lo (n d : ByteArray) : bl (balK n d) loK = false := by
  unfold bl
  rw [balK_list, loK_list]
  simp [Op.bytesLess]
theorem bal_hi (n d e : ByteArray) : upTo hiK (balK n d, e) = true := by
  unfold upTo bl
  simp only
  rw [balK_list, hiK_list]
  simp [Op.bytesLess]
theorem sup_hi (d e : ByteArray) : upTo hiK (supK d, e) = false := by
  unfold upTo bl
  simp only
  rw [supK_list, hiK_list]
  simp [Op.bytesLess]
structure SfF where
  T : Option AvT
  V : Option AvT
/-- what the law's calls answer where Mint went well -/
structure SfH (s o : ByteArray) (n : Int) (F : SfF) : Prop where
  n0 : amt n
  t : (mintR none s atD n).t = F.T
  g : GT 140737488351232 2 F.T
  yes : ∀ m, 0 ≤ m → m ≤ n → (sendR F.T s s atD m).e = none ∧ (sendR F.T s s atD m).t = F.T
  no : ∀ m, ¬ (0 ≤ m ∧ m ≤ n) → ∃ e, (sendR F.T s s atD m).e = some e ∧ (sendR F.T s s atD m).t = none
  bad : bkN o = false → (sendR F.T s o atD n).e = some 42 ∧ (sendR F.T s o atD n).t = none
  ok : bkN o = true → (sendR F.T s o atD n).e = none ∧ (sendR F.T s o atD n).t = F.V ∧ GT 140737488351232 4 F.V ∧ bkV F.V (balK o atD) = n ∧ (s ≠ o → bkV F.V (balK s atD) = 0) ∧ bkV F.V (supK atD) = n ∧ (n ≠ 0 → (balsO F.V).length = 1 ∧ ∀ p ∈ balsO F.V, bkDec p.2 ≠ 0)
end Go.Proofs.YtejglhlodfhgkaaGreatDoor
namespace Go.Proofs.YtejglhlodfhgkaaGreatDoor
set_option linter.unusedVariables false
set_option linter.unusedSimpArgs false
open Go.RowKit
set_option maxRecDepth 100000
set_option linter.unusedSimpArgs false
set_option linter.unusedVariables false
def trK (k : ByteArray) : ByteArray := { data := (Lib.trimPrefix k.data.toList [98, 97, 110, 107, 47]).toArray }
theorem bk_noslash {n : ByteArray} (h : bkN n = true) : ∀ b ∈ n.data.toList, b ≠ 47 := fun b hb e => by
  unfold bkN at h
  rw [Bool.and_eq_true, List.all_eq_true] at h
  have h2 := h.2 47 (by unfold numsOf; rw [List.mem_map]; exact ⟨b, hb, by rw [e]; rfl⟩)
  unfold bkC at h2
  simp at h2
theorem trK_bal (n d : ByteArray) : (trK (balK n d)).data.toList = n.data.toList ++ 47 :: d.data.toList := by
  have h := balK_list n d
  rw [ByteArray.toList_eq] at h
  unfold trK
  rw [h]
  unfold Lib.trimPrefix Lib.hasPrefix
  simp
theorem ix_first (c : UInt8) (r : List UInt8) : ∀ l : List UInt8, (∀ b ∈ l, b ≠ c) → Lib.indexByte (l ++ c :: r) c = l.length
  | [], _ => by simp [Lib.indexByte]
  | b :: l, h => by
    have ih := ix_first c r l (fun b hb => h b (List.mem_cons_of_mem _ hb))
    have hb : (b == c) = false := by simpa using h b (List.mem_cons_self ..)
    rw [List.cons_append]
    unfold Lib.indexByte
    rw [hb, ih]
    have : ((l.length : Int) == -1) = false := by rw [beq_eq_false_iff_ne]; omega
    simp [this]
theorem ix_bal {n : ByteArray} (h : bkN n = true) (d : ByteArray) : ixB (trK (balK n d)) = n.data.toList.length := by
  unfold ixB
  rw [trK_bal]
  exact ix_first 47 _ _ (bk_noslash h)
theorem chan_bal {n : ByteArray} (h : bkN n = true) (d : ByteArray) : chanS (trK (balK n d)) = d := by
  have hi := ix_bal h d
  unfold chanS
  rw [hi, if_neg (by omega)]
  have hs : (trK (balK n d)).size = n.data.toList.length + 1 + d.data.toList.length := by
    have := congrArg List.length (trK_bal n d)
    rw [List.length_append, List.length_cons] at this
    rw [show (trK (balK n d)).size = (trK (balK n d)).data.toList.length from (Array.length_toList).symm]
    omega
  apply ByteArray.ext
  apply Array.toList_inj.1
  rw [ByteArray.data_extract, Array.toList_extract, trK_bal, hs]
  rw [show ((n.data.toList.length : Int).toNat) = n.data.toList.length from by omega]
  have e1 : n.data.toList ++ 47 :: d.data.toList = (n.data.toList ++ [47]) ++ d.data.toList := by simp
  rw [e1, List.extract_eq_take_drop, List.drop_left' (by simp), List.take_of_length_le (by omega)]
/-- what Sum finds: whether a key's denomination is d -/
def ofB (d k : ByteArray) : Bool := decide (¬ ixB (trK k) = -1) && decide (chanS (trK k) = d)
theorem ofB_bal {n : ByteArray} (h : bkN n = true) (d e : ByteArray) : ofB d (balK n e) = decide (e = d) := by
  unfold ofB
  rw [chan_bal h, ix_bal h]
  rw [decide_eq_true (show ¬ ((n.data.toList.length : Int) = -1) by omega), Bool.true_and]
def inK (k : ByteArray) : Bool := !bl k loK && upTo hiK (k, { data := #[] })
theorem inK_bal (n d : ByteArray) : inK (balK n d) = true := by unfold inK; rw [bal_lo, bal_hi]; rfl
theorem inK_sup (d : ByteArray) : inK (supK d) = false := by unfold inK; rw [sup_hi, Bool.and_false]
def kd (d k : ByteArray) : Bool := inK k && ofB d k
theorem kd_bal {n : ByteArray} (h : bkN n = true) (d e : ByteArray) : kd d (balK n e) = decide (e = d) := by unfold kd; rw [inK_bal, ofB_bal h, Bool.true_and]
theorem kd_sup (d e : ByteArray) : kd d (supK e) = false := by unfold kd; rw [inK_sup, Bool.false_and]
/-- sums over pairs -/
def wO (q : ByteArray → Bool) (p : KV) : Int := if q p.1 = true then bkDec p.2 else 0
def sumQ (q : ByteArray → Bool) : List KV → Int
  | [] => 0
  | p :: l => wO q p + sumQ q l
theorem sumQ_app (q : ByteArray → Bool) : ∀ a b : List KV, sumQ q (a ++ b) = sumQ q a + sumQ q b
  | [], b => by simp [sumQ]
  | p :: a, b => by
    rw [List.cons_append]
    have := sumQ_app q a b
    simp only [sumQ]
    omega
theorem sumQ_two (q f g h : ByteArray → Bool) : ∀ l : List KV, (∀ p ∈ l, (h p.1 = true ↔ f p.1 = true ∨ g p.1 = true) ∧ ¬ (f p.1 = true ∧ g p.1 = true)) → sumQ q (l.filter fun p => f p.1) + sumQ q (l.filter fun p => g p.1) = sumQ q (l.filter fun p => h p.1)
  | [], _ => rfl
  | p :: l, hh => by
    have ih := sumQ_two q f g h l (fun p hp => hh p (List.mem_cons_of_mem _ hp))
    obtain ⟨h1, h2⟩ := hh p (List.mem_cons_self ..)
    cases hf : f p.1 <;> cases hg : g p.1 <;> cases hH : h p.1 <;> simp [hf, hg, hH] at h1 h2 <;> simp only [List.filter_cons, hf, hg, hH, if_true, if_false, Bool.false_eq_true] <;> first | exact ih | (simp only [sumQ]; omega)
theorem sumQ_in (q r : ByteArray → Bool) : ∀ l : List KV, sumQ q (l.filter fun p => r p.1) = sumQ (fun k => r k && q k) l
  | [] => rfl
  | p :: l => by
    have ih := sumQ_in q r l
    cases hr : r p.1
    · simp only [List.filter_cons, hr, Bool.false_eq_true, if_false]
      rw [ih]
      simp [sumQ, wO, hr]
    · simp only [List.filter_cons, hr, if_true]
      unfold sumQ
      rw [ih]
      simp [wO, hr]
theorem sumQ_ne (q : ByteArray → Bool) (k : ByteArray) : ∀ l : List KV, Srt l → ∀ v, (k, v) ∈ l → sumQ q l = sumQ q (l.filter fun p => !decide (p.1 = k)) + wO q (k, v)
  | [], _, _, h => by cases h
  | p :: l, hs, v, h => by
    have hc := List.pairwise_cons.1 hs
    rcases List.mem_cons.1 h with h | h
    · subst h
      have hn : ∀ p ∈ l, (!decide (p.1 = k)) = true := fun p hp => by have := bl_ne (hc.1 p hp); simp; exact fun e => this e.symm
      simp only [List.filter_cons, decide_true, Bool.not_true, Bool.false_eq_true, if_false]
      rw [List.filter_eq_self.2 hn]
      simp only [sumQ]
      omega
    · have hne : p.1 ≠ k := bl_ne (hc.1 _ h)
      have ih := sumQ_ne q k l hc.2 v h
      simp only [List.filter_cons, hne, decide_false, Bool.not_false, if_true]
      simp only [sumQ]
      omega
theorem sumQ_at {t : Option AvT} (h : Srt (pairsO t)) (q : ByteArray → Bool) (k : ByteArray) : sumQ q (pairsO t) = sumQ q ((pairsO t).filter fun p => !decide (p.1 = k)) + (if q k = true then bkV t k else 0) := by
  cases hg : getO t k with
  | none =>
    have hn : ∀ p ∈ pairsO t, (!decide (p.1 = k)) = true := fun p hp => by
      simp
      intro e
      have : getO t k = some p.2 := (getO_mem h k p.2).2 (by rw [← e]; exact hp)
      rw [hg] at this; cases this
    rw [List.filter_eq_self.2 hn, bkV_none hg]
    split <;> omega
  | some v =>
    rw [sumQ_ne q k _ h v ((getO_mem h k v).1 hg)]
    unfold wO bkV
    rw [hg]
    rfl
theorem chg_pairs {t : Option AvT} (h : Srt (pairsO t)) (k : ByteArray) (x : Int) : pairsO (chgT t k x) = if x = 0 then (pairsO t).filter fun p => !decide (p.1 = k) else insL k (encI x) (pairsO t) := by
  unfold chgT
  split
  · exact dropO_pairs h k
  · exact setO_pairs h k _
theorem sumQ_chg {t : Option AvT} (h : Srt (pairsO t)) (q : ByteArray → Bool) (k : ByteArray) {x : Int} (hx : -9223372036854775808 ≤ x ∧ x ≤ 9223372036854775807) : sumQ q (pairsO (chgT t k x)) = sumQ q (pairsO t) + (if q k = true then x - bkV t k else 0) := by
  rw [chg_pairs h, sumQ_at h q k]
  by_cases h0 : x = 0
  · rw [if_pos h0, h0]
    split <;> omega
  · rw [if_neg h0]
    unfold insL
    rw [sumQ_app]
    have e := sumQ_two q (fun a => bl a k) (fun a => bl k a) (fun a => !decide (a = k)) (pairsO t) (fun p hp => by
      constructor
      · constructor
        · intro h1
          by_cases h2 : bl p.1 k = true
          · exact .inl h2
          · refine .inr ?_
            cases h3 : bl k p.1 with
            | true => rfl
            | false => exact absurd (bl_total (by simpa using h2) h3) (by simpa using h1)
        · rintro (h1 | h1)
          · simpa using bl_ne h1
          · simp; exact fun e => bl_ne h1 e.symm
      · rintro ⟨h1, h2⟩
        rw [bl_asymm h1] at h2; cases h2)
    have e2 : wO q (k, encI x) = if q k = true then x else 0 := by unfold wO; rw [bkDec_enc hx]
    have e3 : sumQ q ((k, encI x) :: (pairsO t).filter fun p => bl k p.1) = wO q (k, encI x) + sumQ q ((pairsO t).filter fun p => bl k p.1) := rfl
    rw [e3, e2]
    split at e2 <;> rename_i hq <;> simp only [hq] <;> simp <;> omega
/-- what holds of every tree that the law comes by -/
structure BkI (t : Option AvT) : Prop where
  srt : Srt (pairsO t)
  key : ∀ p ∈ pairsO t, (∃ n d, bkN n = true ∧ p.1 = balK n d) ∨ ∃ d, p.1 = supK d
  am : ∀ p ∈ pairsO t, bkDec p.2 ≠ 0 ∧ amt (bkDec p.2)
  sum : ∀ d, sumQ (kd d) (pairsO t) = bkV t (supK d)
theorem bkI_nil : BkI none := ⟨srt_nil, fun p hp => (nomatch hp), fun p hp => (nomatch hp), fun d => by rw [bkV_nil]; rfl⟩
theorem BkI.val {t : Option AvT} (h : BkI t) (k : ByteArray) : amt (bkV t k) := by
  cases hg : getO t k with
  | none => rw [bkV_none hg]; decide
  | some v =>
    have := (h.am (k, v) ((getO_mem h.srt k v).1 hg)).2
    unfold bkV; rw [hg]; exact this
theorem chg_key {t : Option AvT} (h : Srt (pairsO t)) (k : ByteArray) (x : Int) {p : KV} (hp : p ∈ pairsO (chgT t k x)) : (x ≠ 0 ∧ p = (k, encI x)) ∨ p ∈ pairsO t := by
  rw [chg_pairs h] at hp
  by_cases h0 : x = 0
  · rw [if_pos h0] at hp; exact .inr (List.mem_filter.1 hp).1
  · rw [if_neg h0] at hp
    rcases insL_mem.1 hp with h1 | h1
    · exact .inl ⟨h0, h1⟩
    · exact .inr h1.1
theorem chg_am {t : Option AvT} (h : Srt (pairsO t)) (hk : ∀ p ∈ pairsO t, (∃ n d, bkN n = true ∧ p.1 = balK n d) ∨ ∃ d, p.1 = supK d) (ha : ∀ p ∈ pairsO t, bkDec p.2 ≠ 0 ∧ amt (bkDec p.2)) {k : ByteArray} (hkk : (∃ n d, bkN n = true ∧ k = balK n d) ∨ ∃ d, k = supK d) {x : Int} (hx : amt x) :
    (∀ p ∈ pairsO (chgT t k x), (∃ n d, bkN n = true ∧ p.1 = balK n d) ∨ ∃ d, p.1 = supK d) ∧ ∀ p ∈ pairsO (chgT t k x), bkDec p.2 ≠ 0 ∧ amt (bkDec p.2) := by
  constructor
  · intro p hp
    rcases chg_key h k x hp with ⟨-, rfl⟩ | h2
    · exact hkk
    · exact hk p h2
  · intro p hp
    rcases chg_key h k x hp with ⟨h0, rfl⟩ | h2
    · show bkDec (encI x) ≠ 0 ∧ amt (bkDec (encI x))
      rw [bkDec_enc (amt_i64 hx)]; exact ⟨h0, hx⟩
    · exact ha p h2
theorem ckN_bk {n : ByteArray} (h : ckN [n] = none) : bkN n = true := by
  unfold ckN at h
  cases hb : bkN n with
  | true => rfl
  | false => simp [hb] at h
theorem ckN_bk2 {n m : ByteArray} (h : ckN [n, m] = none) : bkN n = true ∧ bkN m = true := by
  unfold ckN at h
  cases hb : bkN n <;> cases hm : bkN m <;> simp [hb, hm] at h ⊢
theorem supK_inj {d e : ByteArray} (h : supK d = supK e) : d = e := by
  have h1 := congrArg ByteArray.toList h
  rw [supK_list, supK_list] at h1
  apply ByteArray.ext
  apply Array.toList_inj.1
  have h2 := congrArg (List.drop 7) h1
  exact h2
theorem amt_add {a b : Int} (ha : amt a) (hb : amt b) (h : a + b ≤ 1152921504606846976) : amt (a + b) := by obtain ⟨_, _⟩ := ha; obtain ⟨_, _⟩ := hb; constructor <;> omega
theorem amt_sub {a b : Int} (ha : amt a) (hb : amt b) (h : b ≤ a) : amt (a - b) := by obtain ⟨_, _⟩ := ha; obtain ⟨_, _⟩ := hb; constructor <;> omega
theorem mint_I {t : Option AvT} (h : BkI t) {n d : ByteArray} {a : Int} (he : (mintR t n d a).e = none) : BkI (mintR t n d a).t := by
  obtain ⟨hc, h1, h2, e⟩ := stp2_ok he
  rw [show (mintR t n d a).t = _ from e]
  have hn := ckN_bk (ckC_parts hc).1
  obtain ⟨a1, a2, a3, a4⟩ := addE_ok h1
  rw [a4] at h2 ⊢
  have hx1 := amt_add a1 a2 a3
  have s1 := srt_chg h.srt (supK d) (bkV t (supK d) + a)
  rw [bkV_other h.srt _ (bal_sup n d d)] at h2 ⊢
  obtain ⟨b1, b2, b3, b4⟩ := addE_ok h2
  rw [b4]
  have hx2 := amt_add b1 b2 b3
  obtain ⟨k1, m1⟩ := chg_am h.srt h.key h.am (.inr ⟨d, rfl⟩ : (∃ n e, bkN n = true ∧ supK d = balK n e) ∨ _) hx1
  obtain ⟨k2, m2⟩ := chg_am s1 k1 m1 (.inl ⟨n, d, hn, rfl⟩) hx2
  refine ⟨srt_chg s1 _ _, k2, m2, fun e => ?_⟩
  rw [sumQ_chg s1 _ _ (amt_i64 hx2), sumQ_chg h.srt _ _ (amt_i64 hx1), h.sum, kd_sup, kd_bal hn, bkV_other s1 _ (sup_bal n d e), bkV_other h.srt _ (bal_sup n d d)]
  by_cases hd : d = e
  · subst hd
    rw [bkV_same h.srt _ (amt_i64 hx1)]
    simp; omega
  · rw [bkV_other h.srt _ (fun h2 => hd (supK_inj h2).symm)]
    simp [hd]
theorem burn_I {t : Option AvT} (h : BkI t) {n d : ByteArray} {a : Int} (he : (burnR t n d a).e = none) : BkI (burnR t n d a).t := by
  obtain ⟨hc, h1, h2, e⟩ := stp2_ok he
  rw [show (burnR t n d a).t = _ from e]
  have hn := ckN_bk (ckC_parts hc).1
  obtain ⟨a1, a2, a3, a4⟩ := subE_ok h1
  rw [a4] at h2 ⊢
  have hx1 := amt_sub a1 a2 a3
  have s1 := srt_chg h.srt (balK n d) (bkV t (balK n d) - a)
  rw [bkV_other h.srt _ (sup_bal n d d)] at h2 ⊢
  obtain ⟨b1, b2, b3, b4⟩ := subE_ok h2
  rw [b4]
  have hx2 := amt_sub b1 b2 b3
  obtain ⟨k1, m1⟩ := chg_am h.srt h.key h.am (.inl ⟨n, d, hn, rfl⟩) hx1
  obtain ⟨k2, m2⟩ := chg_am s1 k1 m1 (.inr ⟨d, rfl⟩ : (∃ n e, bkN n = true ∧ supK d = balK n e) ∨ _) hx2
  refine ⟨srt_chg s1 _ _, k2, m2, fun e => ?_⟩
  rw [sumQ_chg s1 _ _ (amt_i64 hx2), sumQ_chg h.srt _ _ (amt_i64 hx1), h.sum, kd_sup, kd_bal hn]
  by_cases hd : d = e
  · subst hd
    rw [bkV_same s1 _ (amt_i64 hx2)]
    simp; omega
  · rw [bkV_other s1 _ (fun h2 => hd (supK_inj h2).symm), bkV_other h.srt _ (sup_bal n d e)]
    simp [hd]
theorem send_I {t : Option AvT} (h : BkI t) {n m d : ByteArray} {a : Int} (he : (sendR t n m d a).e = none) : BkI (sendR t n m d a).t := by
  obtain ⟨hc, h1, h2, e⟩ := stp2_ok he
  rw [show (sendR t n m d a).t = _ from e]
  obtain ⟨hn, hm⟩ := ckN_bk2 (ckC_parts hc).1
  obtain ⟨a1, a2, a3, a4⟩ := subE_ok h1
  rw [a4] at h2 ⊢
  have hx1 := amt_sub a1 a2 a3
  have s1 := srt_chg h.srt (balK n d) (bkV t (balK n d) - a)
  obtain ⟨b1, b2, b3, b4⟩ := addE_ok h2
  rw [b4]
  have hx2 := amt_add b1 b2 b3
  obtain ⟨k1, m1⟩ := chg_am h.srt h.key h.am (.inl ⟨n, d, hn, rfl⟩) hx1
  obtain ⟨k2, m2⟩ := chg_am s1 k1 m1 (.inl ⟨m, d, hm, rfl⟩) hx2
  refine ⟨srt_chg s1 _ _, k2, m2, fun e => ?_⟩
  rw [sumQ_chg s1 _ _ (amt_i64 hx2), sumQ_chg h.srt _ _ (amt_i64 hx1), h.sum, kd_bal hn, kd_bal hm, bkV_other s1 _ (sup_bal m d e), bkV_other h.srt _ (sup_bal n d e)]
  by_cases hd : d = e
  · subst hd
    simp; omega
  · simp [hd]
/-- what Sum goes over -/
theorem bals_in {t : Option AvT} (h : Srt (pairsO t)) : balsO t = (pairsO t).filter fun p => inK p.1 := by
  unfold balsO
  rw [range_eq h]
  rfl
theorem BkI.sumB {t : Option AvT} (h : BkI t) (d : ByteArray) : sumQ (ofB d) (balsO t) = bkV t (supK d) := by
  rw [bals_in h.srt, sumQ_in, ← h.sum d]
  rfl
theorem sumQ_pos (q : ByteArray → Bool) : ∀ l : List KV, (∀ p ∈ l, 0 ≤ bkDec p.2) → 0 ≤ sumQ q l
  | [], _ => by simp [sumQ]
  | p :: l, h => by
    have := sumQ_pos q l (fun p hp => h p (List.mem_cons_of_mem _ hp))
    have h2 := h p (List.mem_cons_self ..)
    simp only [sumQ, wO]
    split <;> omega
end Go.Proofs.YtejglhlodfhgkaaGreatDoor
namespace Go.Proofs.YtejglhlodfhgkaaGreatDoor
set_option linter.unusedVariables false
set_option linter.unusedSimpArgs false
open Go.RowKit
set_option maxRecDepth 100000
set_option linter.unusedSimpArgs false
set_option linter.unusedVariables false
theorem beq16 (a b : ByteArray) : (a.toList == b.toList) = decide (a = b) := by
  rw [Bool.eq_iff_iff, beq_iff_eq, decide_eq_true_iff, ByteArray.toList_eq, ByteArray.toList_eq]
  constructor
  · intro e; cases a; cases b; simp at e; rw [e]
  · intro e; rw [e]
end Go.Proofs.YtejglhlodfhgkaaGreatDoor
namespace Go.Proofs.YtejglhlodfhgkaaGreatDoor
set_option linter.unusedVariables false
set_option linter.unusedSimpArgs false
open Go.RowKit
set_option maxRecDepth 100000
set_option linter.unusedSimpArgs false
set_option linter.unusedVariables false
/-- what Sum answers -/
def sumK16 (d : ByteArray) : List KV → Int → Int
  | [], n => n
  | p :: l, n => if ofB d p.1 = true then (if addE n (bkDec p.2) = none then sumK16 d l (addR n (bkDec p.2)) else 1152921504606846977) else sumK16 d l n
theorem sumK16_eq (d : ByteArray) : ∀ (l : List KV) (n : Int), (∀ p ∈ l, amt (bkDec p.2)) → amt n → n + sumQ (ofB d) l ≤ 1152921504606846976 → sumK16 d l n = n + sumQ (ofB d) l
  | [], n, _, _, _ => by simp [sumK16, sumQ]
  | p :: l, n, ha, hn, hs => by
    have hp := ha p (List.mem_cons_self ..)
    have hl := fun q hq => ha q (List.mem_cons_of_mem p hq)
    have h0 := sumQ_pos (ofB d) l (fun q hq => (hl q hq).1)
    unfold sumK16
    simp only [sumQ, wO] at hs ⊢
    by_cases ho : ofB d p.1 = true
    · rw [if_pos ho] at hs
      rw [if_pos ho, if_pos ho]
      have e1 := addE_yes hn hp (by omega)
      obtain ⟨-, -, -, e2⟩ := addE_ok e1
      rw [if_pos e1, e2, sumK16_eq d l _ hl (amt_add hn hp (by omega)) (by omega)]
      omega
    · rw [if_neg ho] at hs
      rw [if_neg ho, if_neg ho, sumK16_eq d l n hl hn (by omega)]
      omega
theorem BkI.sumR {t : Option AvT} (h : BkI t) (d : ByteArray) : sumK16 d (balsO t) 0 = bkV t (supK d) := by
  have hb := h.sumB d
  have hv := h.val (supK d)
  rw [sumK16_eq d (balsO t) 0 (fun p hp => (h.am p (bals_mem h.srt hp)).2) ⟨by decide, by decide⟩ (by rw [hb]; have := hv.2; omega), hb]
  omega
theorem sumK16_hit {d : ByteArray} {l : List KV} {k : Nat} {p : KV} (hp : l[k]? = some p) (n : Int) : sumK16 d (l.drop k) n = if ofB d p.1 = true then (if addE n (bkDec p.2) = none then sumK16 d (l.drop (k + 1)) (addR n (bkDec p.2)) else 1152921504606846977) else sumK16 d (l.drop (k + 1)) n := by
  have hk : k < l.length := (List.getElem?_eq_some_iff.1 hp).1
  rw [List.drop_eq_getElem_cons hk, show l[k] = p from (List.getElem?_eq_some_iff.1 hp).2]
  rfl
theorem trim16_any (k : ByteArray) (w : World) : Calls Tryz.prog 102 #[.string k, .string loK] w fun e w' => e = .returned (.string (trK k)) ∧ w' = w := Any.strings_TrimPrefix Tryz.lays101 k loK w
theorem trK_size (k : ByteArray) : (trK k).size ≤ k.size := by
  unfold trK Lib.trimPrefix
  split
  · show ((k.data.toList.drop _).toArray).size ≤ _
    rw [List.size_toArray, List.length_drop, Array.length_toList]
    show _ ≤ k.data.size
    omega
  · show (k.data.toList.toArray).size ≤ _
    rw [List.size_toArray, Array.length_toList]
    exact Nat.le_refl _
def SumR (w : World) (d : ByteArray) (L : List KV) (R : Int) (n : Nat) (s i : Value) (wr : World) : Prop :=
  ∃ (k : Nat) (z : Int), k ≤ n ∧ i = .int .i64 (k : Int) ∧ s = .int .i64 z ∧ Below w.heap.size w wr ∧ sumK16 d (L.drop k) z = R
theorem kvC_one16 (p : KV) : (kvC p).all (·.oneCell') = true := by simp [kvC, Value.oneCell']
theorem ofB_split (d k : ByteArray) (b : Bool) (hb : b = decide (¬ ixB (trK k) = -1)) : ofB d k = (b && decide (chanS (trK k) = d)) := by unfold ofB; rw [hb]
set_option maxHeartbeats 4000000 in
theorem bksum_of (va : Value) (L : List KV) (d : ByteArray) (w : World) (hbal : Calls Tryz.prog 43 #[va] w fun e w' => ∃ v, e = .returned v ∧ KVIn w' v L ∧ Below w.heap.size w w') (hz : ∀ p ∈ L, p.1.size ≤ 140737488351232 ∧ p.2.size ≤ 140737488351232) :
    Calls Tryz.prog 40 #[va, .string d] w fun e w' => e = .returned (.int .i64 (sumK16 d L 0)) ∧ Below w.heap.size w w' := by
  have HBAL := Lib.hid hbal
  have HZ := Lib.hid hz
  obtain ⟨R, hR⟩ : ∃ R, R = sumK16 d L 0 := ⟨_, rfl⟩
  have HR0 := Lib.hid hR.symm
  rw [← hR]
  obtain ⟨n, hn⟩ : ∃ n, n = L.length := ⟨_, rfl⟩
  have HN := Lib.hid hn
  have HST := Lib.hid (fun a b => beq16 a b)
  clear hbal hz hR hn
  go_enter Tryz.func40, Tryz.ntmps40
  go_upto_region 3 with (go_at_call 43; (with_reducible refine HBAL.out.mono ?_); rintro e w1 ⟨v, rfl, hk, hb⟩; have HK := Lib.hid hk; have HB := Lib.hid hb; obtain ⟨sa, sc, hsv⟩ := hk.len; rw [← HN.out] at hsv; have hmax : L.length ≤ maxLen := (by obtain ⟨_, _, _, _, h, _⟩ := hk; exact h); clear hk hb; subst hsv)
  have hnI : (n : Int) ≤ 9223372036854775807 := by have := HN.out; unfold maxLen at hmax; omega
  have HRS := Lib.hid (show SumR w d L R n (.int .i64 0) (.int .i64 0) w1 from ⟨0, 0, Nat.zero_le _, rfl, rfl, HB.out, HR0.out⟩)
  clear HBAL hmax
  go_loopw [5, 16] (fun s i wr => SumR w d L R n s i wr ∧ Hid (Below w1.heap.size w1 wr)) (fun _ i _ => n - (intOf i).toNat)
  case atStart => exact ⟨HRS.out, Lib.hid (Below.refl _ _)⟩
  case round =>
    clear HRS HR0
    obtain ⟨⟨k, z, hkn, rfl, rfl, hbw, hs⟩, HB1⟩ := hrel
    have HBW := Lib.hid hbw
    have HS := Lib.hid hs
    clear hbw hs
    by_cases hlt : k < n
    · have hltI : (k : Int) < (n : Int) := by omega
      obtain ⟨p, hp⟩ : ∃ x, L[k]? = some x := ⟨L[k]'(by have := HN.out; omega), List.getElem?_eq_getElem _⟩
      have hv := HK.out.below HB1.out
      obtain ⟨ab, ao, rfl, hab, h1, h2⟩ := hv.at k p hp
      have HRA := Lib.hid (kv_range16 h1 h2)
      have HZP := Lib.hid (HZ.out p (List.mem_of_getElem? hp))
      have HIT := Lib.hid (fun z => sumK16_hit (d := d) hp z)
      have HS2 := Lib.hid (show (kvC p).size = 2 from rfl)
      have HO2 := Lib.hid (kvC_one16 p)
      have HC0 := Lib.hid (fun (W : World) (g : Nat) (h : W.heap[g]? = some (.cells (kvC p) 70 (0, 0))) => show W.cell? ⟨g, 0, none⟩ = some (.string p.1) ∧ W.cell? ⟨g, 1, none⟩ = some (.string p.2) from ⟨by rw [cell_of_row _ _ _ _ _ _ h]; rfl, by rw [cell_of_row _ _ _ _ _ _ h]; rfl⟩)
      obtain ⟨C, hC⟩ : ∃ c, c = kvC p := ⟨_, rfl⟩
      rw [← hC] at HRA HS2 HO2 HC0
      have HTR := Lib.hid (fun w => trim16_any p.1 w)
      have HCU := Lib.hid (fun w => scut_any (trK p.1) w (by have := trK_size p.1; have := HZP.out.1; omega))
      have HDE := Lib.hid (fun w => bkdec_any p.2 w HZP.out.2)
      have HAD := Lib.hid (fun w => cadd_any z (bkDec p.2) w)
      obtain ⟨X, hX⟩ : ∃ c, c = portS (trK p.1) := ⟨_, rfl⟩
      obtain ⟨Y, hY⟩ : ∃ c, c = chanS (trK p.1) := ⟨_, rfl⟩
      obtain ⟨b, hbb⟩ : ∃ c, c = decide (¬ ixB (trK p.1) = -1) := ⟨_, rfl⟩
      have HOF := Lib.hid (ofB_split d p.1 b hbb)
      rw [← hY] at HOF
      rw [← hX, ← hY, ← hbb] at HCU
      obtain ⟨TK, hTK⟩ : ∃ c, c = trK p.1 := ⟨_, rfl⟩
      rw [← hTK] at HTR HCU
      obtain ⟨D, hD⟩ : ∃ c, c = bkDec p.2 := ⟨_, rfl⟩
      rw [← hD] at HDE HAD HIT
      obtain ⟨E, hE⟩ : ∃ c, c = addE z D := ⟨_, rfl⟩
      obtain ⟨A, hA⟩ : ∃ c, c = addR z D := ⟨_, rfl⟩
      rw [← hE, ← hA] at HAD
      have HEE := Lib.hid hE
      have HAA := Lib.hid hA
      obtain ⟨ks, hks⟩ : ∃ c, c = p.1 := ⟨_, rfl⟩
      obtain ⟨vs, hvs⟩ : ∃ c, c = p.2 := ⟨_, rfl⟩
      rw [← hks] at HTR HC0
      rw [← hvs] at HDE HC0
      clear hv hab h1 h2 hp hC hX hY hbb hTK hD hE hA hks hvs
      go_upto_region 5 with (first
        | (refine wpList_load_rowT (by rfl) 70 (.tmp 18) rfl ab (ao + k * 2) rfl C _ HRA.out Tryz.underlying70 rfl (by rw [HS2.out]; kernel_rfl) ?_)
        | (refine wpList_store_row rfl 70 (.tmp 7) (.tmp 19) rfl wr.heap.size C rfl rfl 70 _ (heap_alloc_new _ _) (by rw [HS2.out]; kernel_rfl) (by rw [HS2.out]; rfl) HO2.out ?_; rw [World.setRow_alloc_new]))
      have hba := below_alloc wr (.cells C 70)
      have HQ := Lib.hid (heap_alloc_new wr (.cells C 70))
      replace HBW := Lib.hid (HBW.out.trans (hba.mono HBW.out.size))
      replace HB1 := Lib.hid (HB1.out.trans (hba.mono HB1.out.size))
      obtain ⟨g, hg⟩ : ∃ z, z = wr.heap.size := ⟨_, rfl⟩
      rw [← hg] at HQ ⊢
      clear hba hg HRA
      generalize wr.alloc (.cells C 70) = wq at *
      obtain ⟨c0, c1⟩ := HC0.out wq g HQ.out
      cases b with
      | false =>
        have HF := Lib.hid (show ofB d p.1 = false from HOF.out)
        go_wp2_with (first
          | (go_at_call 102; (with_reducible refine (HTR.out _).mono ?_); rintro e w2 ⟨rfl, hw⟩; obtain rfl := hw.symm; clear hw)
          | (go_at_call 101; (with_reducible refine (HCU.out _).mono ?_); rintro e w3 ⟨rfl, hb⟩; replace HBW := Lib.hid (HBW.out.trans (hb.mono HBW.out.size)); replace HB1 := Lib.hid (HB1.out.trans (hb.mono HB1.out.size)); clear hb))
        go_roundw
        case rel => exact ⟨⟨k + 1, z, by omega, by go_num, rfl, HBW.out, by have h := HIT.out z; rw [HF.out, if_neg (by decide)] at h; rw [← h]; exact HS.out⟩, HB1⟩
        case measure => simp [intOf]; omega
      | true =>
        by_cases hyd : Y = d
        · have hyb : (Y.toList == d.toList) = true := by rw [HST.out, decide_eq_true hyd]
          have HF := Lib.hid (show ofB d p.1 = true from by rw [HOF.out, decide_eq_true hyd]; rfl)
          clear hyd
          cases E with
          | some e1 =>
            have HFF := Lib.hid (show R = 1152921504606846977 from by have h := HIT.out z; rw [HF.out, if_pos rfl, ← HEE.out, if_neg (by simp)] at h; rw [← h]; exact HS.out.symm)
            simp only [errV] at HAD
            go_wp2_with (first
              | (go_at_call 102; (with_reducible refine (HTR.out _).mono ?_); rintro e w2 ⟨rfl, hw⟩; obtain rfl := hw.symm; clear hw)
              | (go_at_call 101; (with_reducible refine (HCU.out _).mono ?_); rintro e w3 ⟨rfl, hb⟩; have HC3 := Lib.hid ((hb.block g (bkT_lt HQ.out)).trans HQ.out); replace HBW := Lib.hid (HBW.out.trans (hb.mono HBW.out.size)); clear hb; obtain ⟨d0, d1⟩ := HC0.out w3 g HC3.out)
              | (go_at_call 104; (with_reducible refine (HDE.out _).mono ?_); rintro e w4 ⟨rfl, hb⟩; replace HBW := Lib.hid (HBW.out.trans (hb.mono HBW.out.size)); clear hb)
              | (go_at_call 103; (with_reducible refine (HAD.out _).mono ?_); rintro e w5 ⟨rfl, hb⟩; replace HBW := Lib.hid (HBW.out.trans (hb.mono HBW.out.size)); clear hb))
            go_ret
            exact ⟨by rw [HFF.out]; rfl, HBW.out⟩
          | none =>
            have HFF := Lib.hid (show sumK16 d (L.drop (k + 1)) A = R from by have h := HIT.out z; rw [HF.out, if_pos rfl, ← HEE.out, if_pos rfl, ← HAA.out] at h; rw [← h]; exact HS.out)
            simp only [errV] at HAD
            go_wp2_with (first
              | (go_at_call 102; (with_reducible refine (HTR.out _).mono ?_); rintro e w2 ⟨rfl, hw⟩; obtain rfl := hw.symm; clear hw)
              | (go_at_call 101; (with_reducible refine (HCU.out _).mono ?_); rintro e w3 ⟨rfl, hb⟩; have HC3 := Lib.hid ((hb.block g (bkT_lt HQ.out)).trans HQ.out); replace HBW := Lib.hid (HBW.out.trans (hb.mono HBW.out.size)); replace HB1 := Lib.hid (HB1.out.trans (hb.mono HB1.out.size)); clear hb; obtain ⟨d0, d1⟩ := HC0.out w3 g HC3.out)
              | (go_at_call 104; (with_reducible refine (HDE.out _).mono ?_); rintro e w4 ⟨rfl, hb⟩; replace HBW := Lib.hid (HBW.out.trans (hb.mono HBW.out.size)); replace HB1 := Lib.hid (HB1.out.trans (hb.mono HB1.out.size)); clear hb)
              | (go_at_call 103; (with_reducible refine (HAD.out _).mono ?_); rintro e w5 ⟨rfl, hb⟩; replace HBW := Lib.hid (HBW.out.trans (hb.mono HBW.out.size)); replace HB1 := Lib.hid (HB1.out.trans (hb.mono HB1.out.size)); clear hb))
            go_roundw
            case rel => exact ⟨⟨k + 1, A, by omega, by go_num, rfl, HBW.out, HFF.out⟩, HB1⟩
            case measure => simp [intOf]; omega
        · have hyb : (Y.toList == d.toList) = false := by rw [HST.out, decide_eq_false hyd]
          have HF := Lib.hid (show ofB d p.1 = false from by rw [HOF.out, decide_eq_false hyd]; rfl)
          clear hyd
          go_wp2_with (first
            | (go_at_call 102; (with_reducible refine (HTR.out _).mono ?_); rintro e w2 ⟨rfl, hw⟩; obtain rfl := hw.symm; clear hw)
            | (go_at_call 101; (with_reducible refine (HCU.out _).mono ?_); rintro e w3 ⟨rfl, hb⟩; replace HBW := Lib.hid (HBW.out.trans (hb.mono HBW.out.size)); replace HB1 := Lib.hid (HB1.out.trans (hb.mono HB1.out.size)); clear hb))
          go_roundw
          case rel => exact ⟨⟨k + 1, z, by omega, by go_num, rfl, HBW.out, by have h := HIT.out z; rw [HF.out, if_neg (by decide)] at h; rw [← h]; exact HS.out⟩, HB1⟩
          case measure => simp [intOf]; omega
    · obtain rfl : k = n := by omega
      have HFF := Lib.hid (show R = z from by have h := HS.out; rw [List.drop_of_length_le (by rw [HN.out]; exact Nat.le_refl _)] at h; exact h.symm)
      go_wp2_with (fail)
      go_ret
      exact ⟨by rw [HFF.out]; rfl, HBW.out⟩
end Go.Proofs.YtejglhlodfhgkaaGreatDoor
namespace Go.Proofs.YtejglhlodfhgkaaGreatDoor
set_option linter.unusedVariables false
set_option linter.unusedSimpArgs false
open Go.ChangeShapes Go.WideShapes Go.ChangeAt Go.RowKit
/-- a slice of slices of bytes -/
def BssIn (w : World) (v : Value) (ps : List (List Int)) : Prop :=
  ∃ a c, v = .slice a ps.length c ∧ ps.length ≤ c ∧ ps.length ≤ maxLen ∧ (ps = [] ∨ ∃ ab ao, a = some ⟨ab, ao, none⟩ ∧ ∀ i p, ps[i]? = some p → ∃ u, w.cell? ⟨ab, ao + i, none⟩ = some u ∧ BytesIn w u p)
theorem BssIn.below {w w' : World} {v : Value} {ps : List (List Int)} (h : BssIn w v ps) (hb : Below w.heap.size w w') : BssIn w' v ps := by
  obtain ⟨a, c, rfl, hc, hm, hx⟩ := h
  refine ⟨a, c, rfl, hc, hm, ?_⟩
  rcases hx with hx | ⟨ab, ao, rfl, hx⟩
  · exact .inl hx
  · refine .inr ⟨ab, ao, rfl, fun i p hi => ?_⟩
    obtain ⟨u, hu, hp⟩ := hx i p hi
    exact ⟨u, (hb.cell (p := ⟨ab, ao + i, none⟩) (World.block_lt_of_cell? w _ hu)).trans hu, hp.below hb⟩
end Go.Proofs.YtejglhlodfhgkaaGreatDoor
namespace Go.Proofs.YtejglhlodfhgkaaGreatDoor
set_option linter.unusedVariables false
set_option linter.unusedSimpArgs false
open Go.ChangeShapes Go.WideShapes Go.ChangeAt Go.RowKit Go.Proofs
set_option maxRecDepth 100000
set_option linter.unusedSimpArgs false
set_option linter.unusedVariables false
end Go.Proofs.YtejglhlodfhgkaaGreatDoor
