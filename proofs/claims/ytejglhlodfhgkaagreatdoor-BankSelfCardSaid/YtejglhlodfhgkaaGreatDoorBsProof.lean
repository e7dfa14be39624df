/- For every two names and every two amounts, BankSelf returns true and leaves its arguments as they were. Conditions: errors.errorType, the two tables of package sha and the two tables of package unicode/utf8 read as their texts lay them, which the card ties to those texts; each string takes at most 2^47 - 4096 bytes. -/
import Derived.ProofKit
import Derived.OpenShut
import Derived.Deep.Slices
import Derived.SizedLaws
import Derived.LaidMore
import Derived.Stop.Joined
import Derived.Stop.LaidErr
import Derived.Lib.LaidTab
import Derived.LaidHandle
import Derived.Carry
import Derived.Lay
import Derived.ChangeMaps5
import Derived.Test.YtejglhlodfhgkaaGreatDoorTie
import Derived.Test.YtejglhlodfhgkaaGreatDoorCards
import Derived.SevenTiedAt
import Derived.Test.YtejglhlodfhgkaaGreatDoorBs1
import Derived.Test.YtejglhlodfhgkaaGreatDoorBs2
import Derived.Test.YtejglhlodfhgkaaGreatDoorBs5
import Derived.Test.YtejglhlodfhgkaaGreatDoorBs6
import Derived.Test.YtejglhlodfhgkaaGreatDoorBs15
import Derived.Test.YtejglhlodfhgkaaGreatDoorBs16
import Derived.Test.YtejglhlodfhgkaaGreatDoorBs17
namespace Go.Proofs.YtejglhlodfhgkaaGreatDoor
set_option linter.unusedVariables false
set_option linter.unusedSimpArgs false
open Go.RowKit
set_option maxRecDepth 100000
set_option linter.unusedSimpArgs false
set_option linter.unusedVariables false
theorem beq16 (a b : ByteArray) : (a.toList == b.toList) = decide (a = b) := by
  rw [Bool.eq_iff_iff, beq_iff_eq, decide_eq_true_iff, ByteArray.toList_eq, ByteArray.toList_eq]
  constructor
  · intro e; cases a; cases b; simp at e; rw [e]
  · intro e; rw [e]
theorem two_cells {w : World} {q : Nat} {n m : Int} {T : TypeId} (h : w.heap[q]? = some (.cells #[.int .i64 n, .int .i64 m] T (0, 0))) : w.cell? ⟨q, 0, none⟩ = some (.int .i64 n) ∧ w.cell? ⟨q, 1, none⟩ = some (.int .i64 m) := ⟨by rw [cell_of_row _ _ _ _ _ _ h]; rfl, by rw [cell_of_row _ _ _ _ _ _ h]; rfl⟩
theorem KVIn.len2 {w : World} {v : Value} {l : List KV} (h : KVIn w v l) {n : Nat} (hn : l.length = n) : ∃ a cap, v = .slice a n cap := by
  obtain ⟨a, cap, e, _⟩ := h
  exact ⟨a, cap, by rw [e, hn]⟩
set_option maxHeartbeats 16000000 in
theorem lbkself_any (s o : ByteArray) (n m : Int) (w : World) (he : Env w) (hg : ErrType w) (hs : s.size ≤ 140737488351232) (ho : o.size ≤ 140737488351232) :
    Calls Tryz.prog 8 #[.string s, .string o, .agg #[.int .i64 n, .int .i64 m]] w fun e w' => e = .returned (.bool true) ∧ Below w.heap.size w w' := by
  have HE := Lib.hid he
  have HEL := Lib.hid he.lt
  have HGE := Lib.hid hg
  have HSU := Lib.hid (fun w h k => bksure_any w h k)
  have HB := Lib.hid (below_alloc w (.cells #[.int .i64 n, .int .i64 m] 97))
  have HQ := Lib.hid (heap_alloc_new w (.cells #[.int .i64 n, .int .i64 m] 97))
  have HMI := Lib.hid (fun (W : World) (h : Env W) => show Calls Tryz.prog 46 #[.pointer none, .string s, .agg #[.string atD, .int .i64 n]] W (ChgPost (mintR none s atD n).e (mintR none s atD n).t W) from bkmint_any (.pointer none) none s atD n W 0 h rfl (GT.none _) (by decide) hs (by decide))
  have HO := Lib.hid ho
  have HBN := Lib.hid (cn_built16 atD n)
  have HBM := Lib.hid (cn_built16 atD m)
  unfold ChgPost at HMI
  clear he hg
  obtain ⟨E0, hE0⟩ : ∃ e, e = (mintR none s atD n).e := ⟨_, rfl⟩
  rw [← hE0] at HMI
  have HE0 := Lib.hid hE0
  clear hE0
  go_enter Tryz.func8, Tryz.ntmps8
  go_upto_region 1 with (fail)
  obtain ⟨q, hq⟩ : ∃ q, q = w.heap.size := ⟨_, rfl⟩
  rw [← hq] at HQ ⊢
  clear hq
  generalize w.alloc (.cells #[.int .i64 n, .int .i64 m] 97) = w1 at *
  refine wp_region_T (fun w => w.heap[q]? = some (.cells #[.int .i64 n, .int .i64 m] 97 (0, 0))) [0, 1, 2, 3, 4, 5] (by kernel_rfl) ?_
  replace HQ := Lib.hid (show w1.drew.heap[q]? = some (.cells #[.int .i64 n, .int .i64 m] 97 (0, 0)) from HQ.out)
  replace HB := Lib.hid (HB.out.drew)
  generalize World.drew _ = d0 at *
  refine anyT_take [1, 4, 5] (i := 0) (v := .pointer (some ⟨q, 0, none⟩)) rfl (by kernel_rfl) (by kernel_rfl) (by kernel_rfl) (fun _ _ _ h => h) (by kernel_rfl) (Or.inl ⟨by rfl, fun w' _ => by go_simp⟩) HQ.out ?_
  try simp only [List.getElem_toArray, List.getElem_cons_succ, List.getElem_cons_zero, Act.put, List.setIfInBounds_toArray, List.set_cons_zero, List.set_cons_succ]
  refine anyT_take [3, 5] (i := 2) (v := .pointer (some ⟨q, 1, none⟩)) rfl (by kernel_rfl) (by kernel_rfl) (by kernel_rfl) (fun _ _ _ h => h) (by kernel_rfl) (Or.inl ⟨by rfl, fun w' _ => by go_simp⟩) HQ.out ?_
  try simp only [List.getElem_toArray, List.getElem_cons_succ, List.getElem_cons_zero, Act.put, List.setIfInBounds_toArray, List.set_cons_zero, List.set_cons_succ]
  refine anyT_take [4, 5] (i := 1) (v := .int .i64 n) rfl (by kernel_rfl) (by kernel_rfl) (by kernel_rfl) (fun _ _ _ h => h) (by kernel_rfl) (Or.inl ⟨by rfl, fun w' hS => by have c := (two_cells hS).1; go_simp⟩) HQ.out ?_
  try simp only [List.getElem_toArray, List.getElem_cons_succ, List.getElem_cons_zero, Act.put, List.setIfInBounds_toArray, List.set_cons_zero, List.set_cons_succ]
  refine anyT_take [5] (i := 3) (v := .int .i64 m) rfl (by kernel_rfl) (by kernel_rfl) (by kernel_rfl) (fun _ _ _ h => h) (by kernel_rfl) (Or.inl ⟨by rfl, fun w' hS => by have c := (two_cells hS).2; go_simp⟩) HQ.out ?_
  try simp only [List.getElem_toArray, List.getElem_cons_succ, List.getElem_cons_zero, Act.put, List.setIfInBounds_toArray, List.set_cons_zero, List.set_cons_succ]
  refine anyT_take [5] (i := 4) (v := .int .i64 n) rfl (by kernel_rfl) (by kernel_rfl) (by kernel_rfl) (fun _ _ _ h => h) (by kernel_rfl) (Or.inl ⟨by rfl, fun w' _ => by go_simp⟩) HQ.out ?_
  try simp only [List.getElem_toArray, List.getElem_cons_succ, List.getElem_cons_zero, Act.put, List.setIfInBounds_toArray, List.set_cons_zero, List.set_cons_succ]
  refine anyT_take [] (i := 5) (v := .int .i64 m) rfl (by kernel_rfl) (by kernel_rfl) (by kernel_rfl) (fun _ _ _ h => h) (by kernel_rfl) (Or.inl ⟨by rfl, fun w' _ => by go_simp⟩) HQ.out ?_
  try simp only [List.getElem_toArray, List.getElem_cons_succ, List.getElem_cons_zero, Act.put, List.setIfInBounds_toArray, List.set_cons_zero, List.set_cons_succ]
  refine anyT_done (by kernel_rfl) ?_ _
  have HC0 := Lib.hid (show ({ data := #[97, 116, 111, 109] } : ByteArray) = atD from rfl)
  cases E0 with
  | some e0 =>
    simp only [errV] at HMI
    go_wp2_with (first
      | (refine wpList_buildTo rfl 23 #[(0, .const (.string atD)), (1, .tmp 21)] rfl (some 22) rfl #[.string atD, .int .i64 n] (by refine Eq.trans (congrArg (Tryz.prog.built 23) ?_) HBN.out; kernel_rfl) ?_)
      | (go_at_call 46; (with_reducible refine (HMI.out _ (HE.out.below HB.out HEL.out)).mono ?_); rintro e w2 ⟨v1, rfl, ht, hb⟩; replace HB := Lib.hid (HB.out.trans (hb.mono HB.out.size)); clear ht hb)
      | (go_at_call 45; (with_reducible refine (HSU.out _ (HE.out.below HB.out HEL.out) (HGE.out.below HB.out)).mono ?_); rintro e w7 ⟨rfl, hb⟩; replace HB := Lib.hid (HB.out.trans (hb.mono HB.out.size)); clear hb))
    go_ret
    exact ⟨rfl, HB.out⟩
  | none =>
  obtain ⟨F, hF⟩ := sf_yes (o := o) HE0.out.symm
  have hz : s.size ≤ 64 := ckN_one (ckC_parts (stp2_ok HE0.out.symm).1).1
  have hz4 : atD.size = 4 := rfl
  rw [hF.t] at HMI
  simp only [errV] at HMI
  have HSS := Lib.hid (fun (W : World) (v : Value) (h : Env W) (k : TreeO W v F.T) => show Calls Tryz.prog 48 #[v, .string s, .string s, .agg #[.string atD, .int .i64 m]] W (ChgPost (sendR F.T s s atD m).e (sendR F.T s s atD m).t W) from bksend_any v F.T s s atD m W 2 h k hF.g (by decide) ⟨hs, hs⟩ (by decide))
  have HSO := Lib.hid (fun (W : World) (v : Value) (h : Env W) (k : TreeO W v F.T) => show Calls Tryz.prog 48 #[v, .string s, .string o, .agg #[.string atD, .int .i64 n]] W (ChgPost (sendR F.T s o atD n).e (sendR F.T s o atD n).t W) from bksend_any v F.T s o atD n W 2 h k hF.g (by decide) ⟨hs, HO.out⟩ (by decide))
  have HRT := Lib.hid (fun (W : World) (v : Value) (h : Env W) (k : TreeO W v F.T) => avroot_any v F.T W h k)
  unfold ChgPost at HSS HSO
  obtain ⟨hn0, hn1⟩ := hF.n0
  obtain ⟨T, hT⟩ : ∃ t, t = F.T := ⟨_, rfl⟩
  obtain ⟨R, hR⟩ : ∃ t, t = rootO F.T := ⟨_, rfl⟩
  rw [← hR] at HRT
  have hneq := neq32_self R
  have HYES := Lib.hid hF.yes
  have HNO := Lib.hid hF.no
  have HBAD := Lib.hid hF.bad
  have HOK := Lib.hid hF.ok
  rw [← hT] at HMI HSS HSO HRT HYES HNO HBAD HOK
  clear hT hR hs ho HE0
  go_upto_region 5 with (first
    | (refine wpList_buildTo rfl 23 #[(0, .const (.string atD)), (1, .tmp 21)] rfl (some 22) rfl #[.string atD, .int .i64 n] (by refine Eq.trans (congrArg (Tryz.prog.built 23) ?_) HBN.out; kernel_rfl) ?_)
    | (go_at_call 46; (with_reducible refine (HMI.out _ (HE.out.below HB.out HEL.out)).mono ?_); rintro e w2 ⟨v1, rfl, ht, hb⟩; have HT := Lib.hid ht; replace HB := Lib.hid (HB.out.trans (hb.mono HB.out.size)); clear ht hb))
  clear HMI HQ
  by_cases hm : 0 ≤ m ∧ m ≤ n
  case' pos =>
    have hy := HYES.out m hm.1 hm.2
    rw [hy.1, hy.2] at HSS
    simp only [errV] at HSS
    obtain ⟨hm0, hm1⟩ := hm
    clear hy
    go_upto_region 8 with (first
      | (refine wpList_buildTo rfl 23 #[(0, .const (.string atD)), (1, .tmp 33)] rfl (some 34) rfl #[.string atD, .int .i64 m] (by refine Eq.trans (congrArg (Tryz.prog.built 23) ?_) HBM.out; kernel_rfl) ?_)
      | (go_at_call 48; (with_reducible refine (HSS.out _ v1 (HE.out.below HB.out HEL.out) HT.out).mono ?_); rintro e w3 ⟨v2, rfl, ht, hb⟩; have HT2 := Lib.hid ht; replace HT := Lib.hid (HT.out.below hb); replace HB := Lib.hid (HB.out.trans (hb.mono HB.out.size)); clear ht hb)
      | (go_at_call 32; (with_reducible refine (HRT.out _ v2 (HE.out.below HB.out HEL.out) HT2.out).mono ?_); rintro e w4 ⟨rfl, hb⟩; replace HT := Lib.hid (HT.out.below hb); replace HB := Lib.hid (HB.out.trans (hb.mono HB.out.size)); clear hb HT2)
      | (go_at_call 32; (with_reducible refine (HRT.out _ v1 (HE.out.below HB.out HEL.out) HT.out).mono ?_); rintro e w5 ⟨rfl, hb⟩; replace HT := Lib.hid (HT.out.below hb); replace HB := Lib.hid (HB.out.trans (hb.mono HB.out.size)); clear hb))
  case' neg =>
    obtain ⟨e1, he1, he2⟩ := HNO.out m hm
    rw [he1, he2] at HSS
    simp only [errV] at HSS
    clear he1 he2
    have hm2 : 0 ≤ m → ¬ m ≤ n := fun h0 h => hm ⟨h0, h⟩
    have HM2 := Lib.hid hm2
    clear hm hm2
    by_cases hm0 : 0 ≤ m
    case' pos => have hm1 : ¬ m ≤ n := HM2.out hm0
    all_goals
      go_upto_region 8 with (first
        | (refine wpList_buildTo rfl 23 #[(0, .const (.string atD)), (1, .tmp 33)] rfl (some 34) rfl #[.string atD, .int .i64 m] (by refine Eq.trans (congrArg (Tryz.prog.built 23) ?_) HBM.out; kernel_rfl) ?_)
        | (go_at_call 48; (with_reducible refine (HSS.out _ v1 (HE.out.below HB.out HEL.out) HT.out).mono ?_); rintro e w3 ⟨v2, rfl, ht, hb⟩; replace HT := Lib.hid (HT.out.below hb); replace HB := Lib.hid (HB.out.trans (hb.mono HB.out.size)); clear ht hb))
  all_goals
    have HT3 := HT
    have HB3 := HB
    clear HT HB HSS HYES HNO HRT
    cases hbo : bkN o with
    | false =>
      have hy := HBAD.out hbo
      rw [hy.1, hy.2] at HSO
      have HN := Lib.hid (fun (W : World) (h : ErrType W) => show Calls Tryz.prog 31 #[errV (some 42)] W (fun e w' => e = .returned (.int .i64 42) ∧ Below W.heap.size W w') from num16_any (some 42) W h)
      simp only [errV, Int.cast_ofNat_Int] at HSO HN
      clear hy
      go_wp2_with (first
        | (refine wpList_buildTo rfl 23 #[(0, .const (.string atD)), (1, .tmp 63)] rfl (some 64) rfl #[.string atD, .int .i64 n] (by refine Eq.trans (congrArg (Tryz.prog.built 23) ?_) HBN.out; kernel_rfl) ?_)
        | (go_at_call 48; (with_reducible refine (HSO.out _ v1 (HE.out.below HB3.out HEL.out) HT3.out).mono ?_); rintro e w3 ⟨v2, rfl, ht, hb⟩; replace HB3 := Lib.hid (HB3.out.trans (hb.mono HB3.out.size)); clear ht hb)
        | (go_at_call 31; (with_reducible refine (HN.out _ (HGE.out.below HB3.out)).mono ?_); rintro e w6 ⟨rfl, hb⟩; replace HB3 := Lib.hid (HB3.out.trans (hb.mono HB3.out.size)); clear hb)
        | (go_at_call 45; (with_reducible refine (HSU.out _ (HE.out.below HB3.out HEL.out) (HGE.out.below HB3.out)).mono ?_); rintro e w7 ⟨rfl, hb⟩; replace HB3 := Lib.hid (HB3.out.trans (hb.mono HB3.out.size)); clear hb))
      go_ret
      exact ⟨rfl, HB3.out⟩
    | true =>
      obtain ⟨y1, y2, gv, yo, ys, yp, yb⟩ := HOK.out hbo
      have hoz := ckN_one (ckN_of hbo)
      rw [y1, y2] at HSO
      simp only [errV] at HSO
      have HBO := Lib.hid (fun (W : World) (v : Value) (h : TreeO W v F.V) => show Calls Tryz.prog 36 #[v, .string o, .string atD] W (fun e w' => e = .returned (.int .i64 n) ∧ Below W.heap.size W w') from by
        have h2 := bkbalance_any v F.V o atD W h (gv.val _) (by omega)
        rw [yo] at h2
        exact h2)
      have HSP := Lib.hid (fun (W : World) (v : Value) (h : TreeO W v F.V) => show Calls Tryz.prog 38 #[v, .string atD] W (fun e w' => e = .returned (.int .i64 n) ∧ Below W.heap.size W w') from by
        have h2 := bksupply_any v F.V atD W h (gv.val _) (by decide)
        rw [yp] at h2
        exact h2)
      have HBS := Lib.hid (fun (hso : s ≠ o) (W : World) (v : Value) (h : TreeO W v F.V) => show Calls Tryz.prog 36 #[v, .string s, .string atD] W (fun e w' => e = .returned (.int .i64 0) ∧ Below W.heap.size W w') from by
        have h2 := bkbalance_any v F.V s atD W h (gv.val _) (by omega)
        rw [ys hso] at h2
        exact h2)
      have HBL := Lib.hid (fun (h0 : n ≠ 0) (W : World) (v : Value) (h : TreeO W v F.V) => show Calls Tryz.prog 43 #[v] W (fun e w' => ∃ a c, e = .returned (.slice a 1 c) ∧ Below W.heap.size W w') from (bkbals_any v F.V W 4 h gv (by decide) (yb h0).2).mono fun e w' ⟨v', e1, e2, e3⟩ => by
        obtain ⟨a, c, rfl⟩ := e2.len2 (yb h0).1
        exact ⟨a, c, e1, e3⟩)
      have hnn : (n == n) = true := by simp
      obtain ⟨V, hV⟩ : ∃ t, t = F.V := ⟨_, rfl⟩
      rw [← hV] at HSO HBO HSP HBS HBL
      clear hV y1 y2 gv yo ys yp yb hF hbo HBAD HOK
      have HST := Lib.hid (beq16 s o)
      go_upto_region 11 with (first
        | (refine wpList_buildTo rfl 23 #[(0, .const (.string atD)), (1, .tmp 63)] rfl (some 64) rfl #[.string atD, .int .i64 n] (by refine Eq.trans (congrArg (Tryz.prog.built 23) ?_) HBN.out; kernel_rfl) ?_)
        | (go_at_call 48; (with_reducible refine (HSO.out _ v1 (HE.out.below HB3.out HEL.out) HT3.out).mono ?_); rintro e w3 ⟨v2, rfl, ht, hb⟩; have HV := Lib.hid ht; replace HB3 := Lib.hid (HB3.out.trans (hb.mono HB3.out.size)); clear ht hb))
      clear HSO HT3
      by_cases hso : s = o
      · have hsb : (s.toList == o.toList) = true := by rw [HST.out, decide_eq_true hso]
        clear HBS HBL hso
        go_wp2_with (first
          | (go_at_call 36; (with_reducible refine (HBO.out _ v2 HV.out).mono ?_); rintro e w5 ⟨rfl, hb⟩; replace HV := Lib.hid (HV.out.below hb); replace HB3 := Lib.hid (HB3.out.trans (hb.mono HB3.out.size)); clear hb)
          | (go_at_call 38; (with_reducible refine (HSP.out _ v2 HV.out).mono ?_); rintro e w6 ⟨rfl, hb⟩; replace HB3 := Lib.hid (HB3.out.trans (hb.mono HB3.out.size)); clear hb)
          | (go_at_call 45; (with_reducible refine (HSU.out _ (HE.out.below HB3.out HEL.out) (HGE.out.below HB3.out)).mono ?_); rintro e w7 ⟨rfl, hb⟩; replace HB3 := Lib.hid (HB3.out.trans (hb.mono HB3.out.size)); clear hb))
        go_ret
        exact ⟨rfl, HB3.out⟩
      · have hsb : (s.toList == o.toList) = false := by rw [HST.out, decide_eq_false hso]
        have HBS2 := Lib.hid (HBS.out hso)
        clear HBS hso
        by_cases h0 : n = 0
        · have h0B : (n == 0) = true := by rw [h0]; rfl
          clear HBL h0
          go_wp2_with (first
            | (go_at_call 36; (with_reducible refine (HBO.out _ v2 HV.out).mono ?_); rintro e w5 ⟨rfl, hb⟩; replace HV := Lib.hid (HV.out.below hb); replace HB3 := Lib.hid (HB3.out.trans (hb.mono HB3.out.size)); clear hb)
            | (go_at_call 36; (with_reducible refine (HBS2.out _ v2 HV.out).mono ?_); rintro e w8 ⟨rfl, hb⟩; replace HV := Lib.hid (HV.out.below hb); replace HB3 := Lib.hid (HB3.out.trans (hb.mono HB3.out.size)); clear hb)
            | (go_at_call 38; (with_reducible refine (HSP.out _ v2 HV.out).mono ?_); rintro e w6 ⟨rfl, hb⟩; replace HB3 := Lib.hid (HB3.out.trans (hb.mono HB3.out.size)); clear hb)
            | (go_at_call 45; (with_reducible refine (HSU.out _ (HE.out.below HB3.out HEL.out) (HGE.out.below HB3.out)).mono ?_); rintro e w7 ⟨rfl, hb⟩; replace HB3 := Lib.hid (HB3.out.trans (hb.mono HB3.out.size)); clear hb))
          go_ret
          exact ⟨rfl, HB3.out⟩
        · have h0B : (n == 0) = false := by rw [beq_eq_false_iff_ne]; exact h0
          have HBL2 := Lib.hid (HBL.out h0)
          clear HBL h0
          go_wp2_with (first
            | (go_at_call 36; (with_reducible refine (HBO.out _ v2 HV.out).mono ?_); rintro e w5 ⟨rfl, hb⟩; replace HV := Lib.hid (HV.out.below hb); replace HB3 := Lib.hid (HB3.out.trans (hb.mono HB3.out.size)); clear hb)
            | (go_at_call 36; (with_reducible refine (HBS2.out _ v2 HV.out).mono ?_); rintro e w8 ⟨rfl, hb⟩; replace HV := Lib.hid (HV.out.below hb); replace HB3 := Lib.hid (HB3.out.trans (hb.mono HB3.out.size)); clear hb)
            | (go_at_call 43; (with_reducible refine (HBL2.out _ v2 HV.out).mono ?_); rintro e w9 ⟨ba, bc, rfl, hb⟩; replace HV := Lib.hid (HV.out.below hb); replace HB3 := Lib.hid (HB3.out.trans (hb.mono HB3.out.size)); clear hb)
            | (go_at_call 38; (with_reducible refine (HSP.out _ v2 HV.out).mono ?_); rintro e w6 ⟨rfl, hb⟩; replace HB3 := Lib.hid (HB3.out.trans (hb.mono HB3.out.size)); clear hb)
            | (go_at_call 45; (with_reducible refine (HSU.out _ (HE.out.below HB3.out HEL.out) (HGE.out.below HB3.out)).mono ?_); rintro e w7 ⟨rfl, hb⟩; replace HB3 := Lib.hid (HB3.out.trans (hb.mono HB3.out.size)); clear hb))
          go_ret
          exact ⟨rfl, HB3.out⟩
end Go.Proofs.YtejglhlodfhgkaaGreatDoor
namespace Go.Proofs.YtejglhlodfhgkaaGreatDoor
set_option linter.unusedVariables false
set_option linter.unusedSimpArgs false
open Go.ChangeShapes Go.WideShapes Go.ChangeAt Go.RowKit
/-- a slice of slices of bytes -/
def BssIn (w : World) (v : Value) (ps : List (List Int)) : Prop :=
  ∃ a c, v = .slice a ps.length c ∧ ps.length ≤ c ∧ ps.length ≤ maxLen ∧ (ps = [] ∨ ∃ ab ao, a = some ⟨ab, ao, none⟩ ∧ ∀ i p, ps[i]? = some p → ∃ u, w.cell? ⟨ab, ao + i, none⟩ = some u ∧ BytesIn w u p)
theorem BssIn.below {w w' : World} {v : Value} {ps : List (List Int)} (h : BssIn w v ps) (hb : Below w.heap.size w w') : BssIn w' v ps := by
  obtain ⟨a, c, rfl, hc, hm, hx⟩ := h
  refine ⟨a, c, rfl, hc, hm, ?_⟩
  rcases hx with hx | ⟨ab, ao, rfl, hx⟩
  · exact .inl hx
  · refine .inr ⟨ab, ao, rfl, fun i p hi => ?_⟩
    obtain ⟨u, hu, hp⟩ := hx i p hi
    exact ⟨u, (hb.cell (p := ⟨ab, ao + i, none⟩) (World.block_lt_of_cell? w _ hu)).trans hu, hp.below hb⟩
end Go.Proofs.YtejglhlodfhgkaaGreatDoor
namespace Go.Proofs.YtejglhlodfhgkaaGreatDoor
set_option linter.unusedVariables false
set_option linter.unusedSimpArgs false
open Go.ChangeShapes Go.WideShapes Go.ChangeAt Go.RowKit
set_option maxRecDepth 100000
theorem doorOwn : ownKnob Tryz.prog.godebug = none := by kernel_rfl
theorem doorLaidOut : laidOutB Tryz.prog = true := by kernel_rfl
theorem nBegin : Tryz.prog.globalNamed "isthmus/sha.begin" = some 2 := by kernel_rfl
theorem nConst : Tryz.prog.globalNamed "isthmus/sha.constants" = some 3 := by kernel_rfl
theorem tyBegin : (Tryz.prog.globals[2]?).map (·.type) = some 217 := by kernel_rfl
theorem tyConst : (Tryz.prog.globals[3]?).map (·.type) = some 216 := by kernel_rfl
def laidCt : List (String × DataW Unit) := [("unicode/utf8.acceptRanges", Rows.laid_unicode_utf8_acceptRanges), ("errors.errorType", Rows.laid_errors_errorType), ("isthmus/sha.begin", Rows.laid_isthmus_sha_begin), ("isthmus/sha.constants", Rows.laid_isthmus_sha_constants), ("unicode/utf8.first", Rows.laid_unicode_utf8_first)]
def laidCd : List (String × DataW Unit) := [("unicode/utf8.acceptRanges", Rows.laid_unicode_utf8_acceptRanges), ("isthmus/sha.begin", Rows.laid_isthmus_sha_begin), ("isthmus/sha.constants", Rows.laid_isthmus_sha_constants), ("unicode/utf8.first", Rows.laid_unicode_utf8_first)]
def laidEr : List (String × DataW Unit) := [("errors.errorType", Rows.laid_errors_errorType)]
theorem doorEt : Tryz.prog.globalNamed "errors.errorType" = some 1 := by kernel_rfl
theorem doorRt : (Tryz.prog.cutTypes.find? (·.1 == "internal/reflectlite.rtype")).map (·.2) = some 260 := by kernel_rfl
theorem doorOneRow : ((List.range Tryz.prog.types.size).filter fun t => Tryz.prog.rowNamed t [101, 114, 114, 111, 114]) = [29] := by kernel_rfl
theorem toList_getD (f : Nat → Int) (n i : Nat) (h : i < n) : ((List.range n).map f).getD i 0 = f i := by simp [List.getD, h]
theorem dBegin {H : Type} : (Rows.laid_isthmus_sha_begin : DataW H) = Lib.tabData .u32 ((List.range 8).map BT) := by rfl
theorem dConst {H : Type} : (Rows.laid_isthmus_sha_constants : DataW H) = Lib.tabData .u32 ((List.range 64).map KT) := by rfl
theorem env_of_tabs {W : World} (hb : Lib.TabIs Tryz.prog W "isthmus/sha.begin" .u32 ((List.range 8).map BT)) (hc : Lib.TabIs Tryz.prog W "isthmus/sha.constants" .u32 ((List.range 64).map KT)) : Env W :=
  ⟨fun i hi => by
    have := hb.cell nBegin i (by simpa using hi)
    rw [toList_getD _ _ _ hi] at this; exact this,
   fun i hi => by
    have := hc.cell nConst i (by simpa using hi)
    rw [toList_getD _ _ _ hi] at this; exact this⟩
theorem ct_env {W : World} (h : laidMetH Tryz.prog laidCt W) : Env W := by
  have h' : laidMet Tryz.prog laidCd W ∧ handlesMet Tryz.prog laidEr W := h
  have h := h'.1
  unfold laidCd at h
  rw [dBegin, dConst] at h
  exact env_of_tabs (Lib.tabIs_of_head nBegin tyBegin Tryz.underlying217 Tryz.underlying215 (by kernel_rfl) (by kernel_rfl) h.tail)
    (Lib.tabIs_of_head nConst tyConst Tryz.underlying216 Tryz.underlying215 (by kernel_rfl) (by kernel_rfl) h.tail.tail)
theorem ct_err {W : World} (h : laidMetH Tryz.prog laidCt W) : ErrType W := by
  have h' : laidMet Tryz.prog laidCd W ∧ handlesMet Tryz.prog laidEr W := h
  obtain ⟨name, u, ty, e1, e2, e3, e4, e5⟩ := h'.2 _ (List.mem_singleton.2 rfl)
  have en : name = [101, 114, 114, 111, 114] := (Option.some.inj e1).symm
  subst en
  obtain rfl := Option.some.inj (doorRt.symm.trans e2)
  have hm : ty ∈ (List.range Tryz.prog.types.size).filter fun t => Tryz.prog.rowNamed t [101, 114, 114, 111, 114] := List.mem_filter.2 ⟨List.mem_range.2 e3, e4⟩
  rw [doorOneRow] at hm
  obtain rfl := List.mem_singleton.1 hm
  have hh : typeHandle Tryz.prog 29 = .pointer (some ⟨7, 29, none⟩) := by kernel_rfl
  rw [hh] at e5
  unfold ErrType
  simpa using World.var?_cell doorEt e5 0
noncomputable def ctWorld (os : Os) : World := (World.doorLaid Tryz.prog 400 os).layVars Tryz.prog laidCd
theorem ct_os (os : Os) : (ctWorld os).os = os := World.layVars_os _ _ _
theorem ct_met (os : Os) (args : Array Value) : laidMetH Tryz.prog laidCt ((ctWorld os).forCall (fun _ _ => 0) ⟨#[], args, []⟩).memory :=
  laidMetH_of_parts3 (fuel := 8)
    ((laidMet_layVars (w0 := World.doorLaid Tryz.prog 400 os) (w' := ctWorld os) (laid := laidCd) ["unicode/utf8.acceptRanges", "isthmus/sha.begin", "isthmus/sha.constants", "unicode/utf8.first"] [] (by rfl) (by kernel_rfl) (by kernel_rfl) LaidIn.none).of_heap (by simp [World.memory, World.forCall, Input.heap]))
    (by kernel_rfl) (by kernel_rfl)
end Go.Proofs.YtejglhlodfhgkaaGreatDoor
namespace Go.Proofs.YtejglhlodfhgkaaGreatDoor
set_option linter.unusedVariables false
set_option linter.unusedSimpArgs false
open Go.ChangeShapes Go.WideShapes Go.ChangeAt Go.RowKit
theorem okWide_arr {P : Program} {w : World} {r : Reach} {base : Nat} {t e : TypeId} {n : Nat} {v : Value} (ht : P.underlying t = some (.array n e)) (h : Value.okWide P w r base t v) : ∃ cs, v = .agg cs ∧ cs.size = P.cellsOf t := by
  simp only [Value.okWide, ht] at h
  obtain ⟨cs, h1, h2, _⟩ := h
  exact ⟨cs, h1, h2⟩
theorem one_take {α : Type} {l : List α} {k : Nat} {v : α} (h : (l.drop k).take 1 = [v]) : l[k]? = some v := by
  have h1 : ((l.drop k).take 1)[0]? = some v := by rw [h]; rfl
  rw [List.getElem?_take, if_pos (by omega), List.getElem?_drop, Nat.add_zero] at h1
  exact h1
theorem arr_raw {H : Type} {enc : TypeId × Value → H} {W : World} {t e : TypeId} {k : IntKind} {n fuel : Nat} {cs : List Value} {x : DataW H × List MemPlace} (ht : Tryz.prog.underlying t = some (.array n e)) (he : Tryz.prog.underlying e = some (.int k)) (hc : Tryz.prog.cellsOf e = 1) (hct : Tryz.prog.cellsOf t = n)
    (h : DataW.trod enc Tryz.prog W 0 (fun _ => true) true fuel t cs = some x) : ∃ F : Nat → Int, cs = (rowOf k n F).toList ∧ ∀ i, i < n → (Lit.int k (F i)).wf = true := by
  obtain ⟨zs, m', _, _, hl, hzl, hzs⟩ := DataW.trod_array ht h
  have key : ∃ F : Nat → Int, ∀ j, j < n → cs[j]? = some (.int k (F j)) ∧ (Lit.int k (F j)).wf = true := by
    refine Deep.choose_lt (p := fun j v => cs[j]? = some (.int k v) ∧ (Lit.int k v).wf = true) fun j hj => ?_
    have h3 := hzs j hj
    rw [hc, Nat.mul_one, List.getElem?_eq_getElem (by omega)] at h3
    obtain ⟨v, hv, _, hw⟩ := DataW.trod_int he h3
    exact ⟨v, one_take hv, hw⟩
  obtain ⟨F, hF⟩ := key
  refine ⟨F, ?_, fun i hi => (hF i hi).2⟩
  apply List.ext_getElem?
  intro i
  rcases Nat.lt_or_ge i n with h1 | h1
  · rw [(hF i h1).1]; simp [rowOf, h1]
  · rw [List.getElem?_eq_none (by rw [hl, hct]; exact h1), List.getElem?_eq_none (by simpa [rowOf] using h1)]
theorem arr_arg {H : Type} {enc : TypeId × Value → H} {W : World} {t e : TypeId} {k : IntKind} {n : Nat} {cs : Array Value} {d : DataW H} {p : List MemPlace} (ht : Tryz.prog.underlying t = some (.array n e)) (he : Tryz.prog.underlying e = some (.int k)) (hc : Tryz.prog.cellsOf e = 1) (hct : Tryz.prog.cellsOf t = n)
    (h : DataW.Trod enc Tryz.prog W 0 (fun _ => true) true t (.agg cs) d p) : ∃ F : Nat → Int, cs = rowOf k n F ∧ ∀ i, i < n → (Lit.int k (F i)).wf = true := by
  obtain ⟨fuel, hf⟩ := h
  obtain ⟨F, h1, h2⟩ := arr_raw ht he hc hct hf
  refine ⟨F, ?_, h2⟩
  have h3 : cs.toList = (rowOf k n F).toList := by simpa [Value.cells] using h1
  exact Array.toList_inj.1 h3
end Go.Proofs.YtejglhlodfhgkaaGreatDoor
namespace Go.Proofs.YtejglhlodfhgkaaGreatDoor
set_option linter.unusedVariables false
set_option linter.unusedSimpArgs false
open Go.ChangeShapes Go.WideShapes Go.ChangeAt Go.RowKit
set_option maxRecDepth 100000
theorem bankself_lifted (os : Os) (started : os.Started) (H : Type) (enc : TypeId × Value → H) :
    ReturnsInHanded {} Tryz.checked os 8 .any (fun w args => (Rows.bankSelfSpec.pre enc Tryz.prog Tryz.f8 [] false w args ∧ laidMetH Tryz.prog laidCt w) ∧ sizedMet enc Tryz.prog Tryz.f8 (OpenSpec.ofChange Rows.bankSelfSpec) false w args)
      (Rows.bankSelfSpec.post enc Tryz.prog Tryz.f8 false true false false) := by
  refine returnsInHanded_of_change_and (C := Tryz.checked) (X := fun w _ => laidMetH Tryz.prog laidCt w) (fun _ _ _ hh h => h.of_heap hh) doorOwn started (by kernel_rfl) Tryz.func8
    (ChangeSpec.witness_shaped (enc := enc) (C := Tryz.checked) (os := os) (X := fun w _ => laidMetH Tryz.prog laidCt w) false (ctWorld os) #[.string { data := #[] }, .string { data := #[] }, .agg (Array.replicate 2 (.int .i64 0))] 8 (ct_os os) (World.shaped_of_RefB (by kernel_rfl) (by kernel_rfl)) (by kernel_rfl) (by kernel_rfl) (by kernel_rfl) (ct_met os _)) ?_
  intro W base args ds gs before hval0 hW _ hsz0 hL _
  have hsz : (DataW.weightsEach Tryz.prog (Tryz.f8.params.toList ++ Rows.bankSelfSpec.plain.varTypes Tryz.prog) (ds ++ gs)).all (· ≤ reachBytes) = true := hsz0
  clear hsz0
  have hval : ∀ (j : Nat) t v, Tryz.f8.params[j]? = some t → args[j]? = some v → Value.okWide Tryz.prog W .any base t v := hval0
  have hW' := hW
  obtain ⟨p, q, hA0, hV, rfl, hfz, hnd⟩ := hW
  have hA : DataW.TrodAll enc Tryz.prog W 0 (fun _ => true) true Tryz.f8.params.toList args.toList ds p := hA0
  rw [Tryz.params8] at hA hval hsz
  obtain ⟨v0, vs0, d0, ds0, p0, q0, hargs, rfl, rfl, h0, r0⟩ := trodAll_cons hA
  obtain ⟨v1, vs1, d1, ds1, p1, q1, rfl, rfl, rfl, h1, r1⟩ := trodAll_cons r0
  obtain ⟨v2, vs2, d2, ds2, p2, q2, rfl, rfl, rfl, h2, r2⟩ := trodAll_cons r1
  obtain ⟨rfl, rfl, rfl⟩ := trodAll_nil r2
  obtain rfl : args = #[v0, v1, v2] := by cases args; simp_all
  obtain ⟨rfl, rfl⟩ := trodVars_none hV
  obtain ⟨s0, rfl, rfl, rfl, hs0⟩ := Go.ChangeMaps.open_string Tryz.underlying9 (hval 0 9 v0 rfl rfl) h0
  obtain ⟨s1, rfl, rfl, rfl, hs1⟩ := Go.ChangeMaps.open_string Tryz.underlying9 (hval 1 9 v1 rfl rfl) h1
  obtain ⟨cs2, rfl, -⟩ := okWide_arr Tryz.underlying97 (hval 2 97 v2 rfl rfl)
  have k2 := h2
  have lt2 : ∀ x ∈ p2, x.block < W.heap.size := by obtain ⟨m, hm⟩ := k2; exact DataW.trod_lt m _ _ _ hm
  obtain ⟨F2, rfl, wf2⟩ := arr_arg Tryz.underlying97 Tryz.underlying3 (by kernel_rfl) (by kernel_rfl) h2
  have hlen0 : s0.size ≤ 140737488351232 := by have h := sized_string hsz (j := 0) (t := 9) (by rfl) (by rfl); rw [Array.length_toList] at h; exact h
  have hlen1 : s1.size ≤ 140737488351232 := by have h := sized_string hsz (j := 1) (t := 9) (by rfl) (by rfl); rw [Array.length_toList] at h; exact h
  clear hA0 hval0
  refine (lbkself_any s0 s1 (F2 0) (F2 1) W (ct_env hL) (ct_err hL) hlen0 hlen1).mono fun e W' ⟨he, bel⟩ => ?_
  subst he
  exact ⟨_, rfl, _, _, _, [], _, [], hW', trodAll_mk1 (shut_bool Tryz.underlying4 _), (trodAll_cons_mk (Go.ChangeMaps.shut_string Tryz.underlying9 hs0) (trodAll_cons_mk (Go.ChangeMaps.shut_string Tryz.underlying9 hs1) (trodAll_cons_mk (Below.trod doorLaidOut (by kernel_rfl) (of_decide_eq_true (by kernel_rfl)) k2 bel lt2) trodAll_mk0))), rfl, bel.frame _, fun h => by cases h⟩
theorem bankself_holds : Rows.BankSelfSaid :=
  OpenClaim.holds_of_wide 8 Tryz.f8 rfl rfl rfl rfl rfl rfl rfl ⟨rfl, rfl, rfl, rfl, rfl⟩ rfl rfl rfl rfl rfl (by kernel_rfl) Tryz.func8 (by kernel_rfl)
    (of_decide_eq_true (by kernel_rfl)) (by unfold Func.isWrapper; first | (rw [if_pos (by decide +kernel)]; kernel_rfl) | (rw [if_neg (by decide +kernel)]; exact ⟨rfl, rfl⟩))
    (fun os started H enc _ => bankself_lifted os started H enc)
theorem bankself_card : Rows.BankSelfCardSaid :=
  Claim7.holds_tied_plain_at .later [] [.data, .handle, .data, .data, .pinned] true _ true
    bankself_holds (fun _ h => by cases h) (by kernel_rfl) (fun _ h => by cases h) bankSelf_row_tie rfl ⟨rfl, rfl⟩ (by kernel_rfl) rfl
    (fun f fn hf hfn => by
      obtain rfl : f = 8 := Option.some.inj ((show Tryz.prog.funcNamed "isthmus/isthmuslaw16.BankSelf" = some 8 by kernel_rfl).symm.trans hf) |>.symm
      obtain rfl : fn = Tryz.f8 := (Option.some.inj (Tryz.func8.symm.trans hfn)).symm
      exact ⟨by kernel_rfl, fun j t ht => by
        rw [Tryz.params8] at ht
        have hm : t ∈ [9, 9, 97] := by simpa using Array.mem_of_getElem? ht
        have hall : ([9, 9, 97].all fun u => !Tryz.prog.wantsStandIn u) = true := by kernel_rfl
        exact (show Tryz.prog.wantsStandIn t = false by simpa using List.all_eq_true.1 hall t hm)⟩)
    (by kernel_rfl)
#print axioms bankself_card
end Go.Proofs.YtejglhlodfhgkaaGreatDoor
