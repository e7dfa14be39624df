/- Part 33 of the proof. -/
import Derived.BigQuiet
import Derived.Test.YtjocbpabbbdkcaaDoorRu4
import Derived.Test.YtjocbpabbbdkcaaDoorRu23
import Derived.Test.YtjocbpabbbdkcaaDoorRu29
import Derived.Test.YtjocbpabbbdkcaaDoorRu32
namespace Go.Proofs.YtjocbpabbbdkcaaDoor
set_option linter.unusedVariables false
set_option linter.unusedSimpArgs false
open Go.RowKit
set_option maxRecDepth 100000
set_option linter.unusedSimpArgs false
set_option linter.unusedVariables false
theorem count_snoc (l : List KV) (f : KV → Bool) (k : Nat) (x : KV) (h : l[k]? = some x) : ((l.take (k + 1)).filter f).length = ((l.take k).filter f).length + (if f x then 1 else 0) := by
  have hk : k < l.length := (List.getElem?_eq_some_iff.1 h).1
  rw [List.take_succ_eq_append_getElem hk, List.filter_append, List.length_append]
  rw [List.getElem?_eq_getElem hk] at h
  injection h with h
  rw [h, List.filter_cons]
  split <;> rfl
theorem TreeO.ptr {w : World} {v : Value} {t : Option AvT} (h : TreeO w v t) : ∃ p, v = .pointer p := by
  cases t with
  | none => exact ⟨none, h⟩
  | some t => obtain ⟨g, e, _⟩ := h; exact ⟨_, e⟩
/-- between two keys -/
def between (fr hi : ByteArray) (p : KV) : Bool := !bl p.1 fr && upTo hi p
end Go.Proofs.YtjocbpabbbdkcaaDoor
namespace Go.Proofs.YtjocbpabbbdkcaaDoor
set_option linter.unusedVariables false
set_option linter.unusedSimpArgs false
open Go.RowKit
set_option maxRecDepth 100000
set_option linter.unusedSimpArgs false
set_option linter.unusedVariables false
set_option maxHeartbeats 2000000 in
theorem pairs_same (va vb : Value) (l : List KV) (w : World) (ha : KVIn w va l) (hb : KVIn w vb l) : Calls Tryd.prog 20 #[va, vb] w fun e w' => e = .returned (.bool true) ∧ Below w.heap.size w w' := by
  obtain ⟨aa, ca, rfl⟩ := ha.len
  obtain ⟨ab, cb, rfl⟩ := hb.len
  have hlen : l.length ≤ maxLen := by obtain ⟨_, _, _, _, hm, _⟩ := ha; exact hm
  unfold maxLen at hlen
  have HA := Lib.hid ha
  have HB := Lib.hid hb
  clear ha hb
  go_enter Tryd.func20, Tryd.ntmps20
  go_wp2_with (fail)
  go_loopw [5] (fun x wr => ∃ k : Nat, k ≤ l.length ∧ x = .int .i64 (k : Int) ∧ Hid (Below w.heap.size w wr)) (fun x _ => l.length - (intOf x).toNat)
  case atStart => exact ⟨0, by omega, rfl, Lib.hid (Below.refl _ _)⟩
  case round =>
    obtain ⟨k, hkl, rfl, HBS⟩ := hrel
    by_cases hlt : k < l.length
    · obtain ⟨x, hx⟩ : ∃ x, l[k]? = some x := ⟨l[k], List.getElem?_eq_getElem hlt⟩
      obtain ⟨b1, o1, rfl, l1, p0, p1⟩ := HA.out.at k x hx
      obtain ⟨b2, o2, rfl, l2, q0, q1⟩ := HB.out.at k x hx
      have c0 := (HBS.out.cell (p := ⟨b1, o1 + k * 2, none⟩) l1).trans p0
      have c1 := (HBS.out.cell (p := ⟨b1, o1 + k * 2 + 1, none⟩) l1).trans p1
      have d0 := (HBS.out.cell (p := ⟨b2, o2 + k * 2, none⟩) l2).trans q0
      have d1 := (HBS.out.cell (p := ⟨b2, o2 + k * 2 + 1, none⟩) l2).trans q1
      have hltI : (k : Int) < (l.length : Int) := by omega
      clear p0 p1 q0 q1 hx
      go_upto_region 6 with (fail)
      go_quiet (fail)
      replace HBS := Lib.hid (below_drewN HBS.out nq)
      generalize wr.drewN nq = w5 at *
      clear c0 c1 d0 d1
      go_wp2_with (fail)
      go_roundw
      case rel => exact ⟨k + 1, by omega, by go_num, HBS⟩
      case measure => simp [intOf]; omega
    · obtain rfl : k = l.length := by omega
      go_wp2_with (fail)
      go_ret
      exact ⟨rfl, HBS.out⟩
end Go.Proofs.YtjocbpabbbdkcaaDoor
namespace Go.Proofs.YtjocbpabbbdkcaaDoor
set_option linter.unusedVariables false
set_option linter.unusedSimpArgs false
open Go.RowKit
set_option maxRecDepth 100000
set_option linter.unusedSimpArgs false
set_option linter.unusedVariables false
def leadN (k : ByteArray) (l : List KV) : Nat := (l.takeWhile fun p => bl p.1 k).length
theorem lead_srt (k : ByteArray) : ∀ l : List KV, Srt l → leadN k l = (l.filter fun p => bl p.1 k).length
  | [], _ => rfl
  | p :: l, h => by
    obtain ⟨h1, h2⟩ := List.pairwise_cons.1 h
    unfold leadN
    cases e : bl p.1 k with
    | true =>
      have ih := lead_srt k l h2
      unfold leadN at ih
      rw [List.takeWhile_cons, if_pos e, List.filter_cons, if_pos e, List.length_cons, List.length_cons, ih]
    | false =>
      rw [List.takeWhile_cons, if_neg (by rw [e]; simp), List.filter_cons, if_neg (by rw [e]; simp), filter_no fun q hq => ?_]
      refine Bool.eq_false_iff.2 fun hq2 => ?_
      have := bl_trans (h1 q hq) hq2
      rw [e] at this; cases this
theorem lead_hit {k : ByteArray} {l : List KV} {i : Nat} {p : KV} (h : l[i]? = some p) (hp : bl p.1 k = true) : i + leadN k (l.drop i) = i + 1 + leadN k (l.drop (i + 1)) := by
  have hk : i < l.length := (List.getElem?_eq_some_iff.1 h).1
  have e : l.drop i = p :: l.drop (i + 1) := by
    rw [List.drop_eq_getElem_cons hk]
    rw [List.getElem?_eq_getElem hk] at h
    injection h with h
    rw [h]
  unfold leadN
  rw [e, List.takeWhile_cons, if_pos hp, List.length_cons]; omega
theorem lead_miss {k : ByteArray} {l : List KV} {i : Nat} {p : KV} (h : l[i]? = some p) (hp : bl p.1 k = false) : i + leadN k (l.drop i) = i := by
  have hk : i < l.length := (List.getElem?_eq_some_iff.1 h).1
  have e : l.drop i = p :: l.drop (i + 1) := by
    rw [List.drop_eq_getElem_cons hk]
    rw [List.getElem?_eq_getElem hk] at h
    injection h with h
    rw [h]
  unfold leadN
  rw [e, List.takeWhile_cons, if_neg (by rw [hp]; simp)]; rfl
theorem findO_lead {t : Option AvT} (h : Srt (pairsO t)) (k : ByteArray) : findO t k = leadN k (pairsO t) := by
  rw [lead_srt k _ h]
  cases t with
  | none => rfl
  | some t => exact find_eq k t h
set_option maxHeartbeats 2000000 in
theorem rfind_any (t : Option AvT) (cs : Array Value) (k : ByteArray) (w : World) (h : RO w cs t) (hm : manyO t ≤ 1099511627776) : Calls Tryd.prog 19 #[.agg cs, .string k] w fun e w' => e = .returned (.int .i64 (leadN k (pairsO t) : Int)) ∧ Below w.heap.size w w' := by
  have hml : (pairsO t).length ≤ 1099511627776 := by rw [manyO_eq]; exact hm
  obtain ⟨is, k0, v0, a0, n0, c0', rfl⟩ := h.form
  have HB := Lib.hid (below_alloc w (.cells #[.bool is, .string k0, .string v0, .slice a0 n0 c0'] 28))
  have HP := Lib.hid (heap_alloc_new w (.cells #[.bool is, .string k0, .string v0, .slice a0 n0 c0'] 28))
  have HR := Lib.hid (h.below HB.out)
  have HPS := Lib.hid (rpairs_any t _ _ HR.out hm)
  obtain ⟨l, hl⟩ : ∃ l, l = pairsO t := ⟨_, rfl⟩
  rw [← hl] at HPS hml ⊢
  have HG := Lib.hid (show leadN k l = 0 + leadN k (l.drop 0) by rw [List.drop_zero, Nat.zero_add])
  obtain ⟨G, hG⟩ : ∃ G, G = leadN k l := ⟨_, rfl⟩
  rw [← hG] at HG ⊢
  have HML := Lib.hid hml
  clear h hl hG hm hml
  unfold PsPost at HPS
  go_enter Tryd.func19, Tryd.ntmps19
  go_upto_region 1 with (fail)
  generalize w.alloc (.cells #[.bool is, .string k0, .string v0, .slice a0 n0 c0'] 28) = w1 at *
  go_upto_region 3 with (first
    | (refine wpList_load_row rfl 28 (.tmp 2) rfl w.heap.size rfl 28 _ (0, 0) _ HP.out Tryd.underlying28 rfl (by kernel_rfl) ?_)
    | (go_at_call 9; (with_reducible refine HPS.out.mono ?_); rintro e w4 ⟨r, rfl, ho, hb⟩; have HK := Lib.hid (KVIn.of_own ho); replace HB := Lib.hid (HB.out.trans (hb.mono HB.out.size)); clear ho hb))
  obtain ⟨ra, rc, rfl⟩ := HK.out.len
  go_loop [6] (fun x => ∃ i : Nat, i ≤ l.length ∧ x = .int .i64 (i : Int) ∧ Hid (G = i + leadN k (l.drop i))) (fun x => l.length - (intOf x).toNat)
  case atStart => exact ⟨0, Nat.zero_le _, rfl, HG⟩
  case round =>
    clear HG
    obtain ⟨i, hi, rfl, HG⟩ := hrel
    have hib : i ≤ 1099511627776 := by have := HML.out; omega
    by_cases hlt : i < l.length
    · obtain ⟨p, hp⟩ : ∃ p, l[i]? = some p := ⟨l[i], List.getElem?_eq_getElem hlt⟩
      obtain ⟨ab, ao, rfl, -, c1, c2⟩ := HK.out.at i p hp
      have hltI : (i : Int) < (l.length : Int) := by omega
      cases he : bl p.1 k with
      | true =>
        have hk : Op.bytesLess p.1.toList k.toList = true := he
        have HF := Lib.hid (HG.out.trans (lead_hit hp he))
        clear he HG hp
        go_wp2_with (fail)
        go_round
        case rel => exact ⟨i + 1, by omega, by go_num, HF⟩
        case measure => simp [intOf]; omega
      | false =>
        have hk : Op.bytesLess p.1.toList k.toList = false := he
        have HF := Lib.hid (HG.out.trans (lead_miss hp he))
        clear he HG hp
        go_wp2_with (fail)
        go_ret
        rw [HF.out]
        exact ⟨rfl, HB.out⟩
    · obtain rfl : i = l.length := by omega
      have HF := Lib.hid (show G = l.length by rw [HG.out, List.drop_length]; rfl)
      clear HG
      go_wp2_with (fail)
      go_ret
      rw [HF.out]
      exact ⟨rfl, HB.out⟩
theorem filter_snoc (l : List KV) (f : KV → Bool) (k : Nat) (x : KV) (h : l[k]? = some x) : (l.take (k + 1)).filter f = (l.take k).filter f ++ (if f x then [x] else []) := by
  have hk : k < l.length := (List.getElem?_eq_some_iff.1 h).1
  rw [List.take_succ_eq_append_getElem hk, List.filter_append]
  rw [List.getElem?_eq_getElem hk] at h
  injection h with h
  rw [h, List.filter_cons]
  split <;> rfl
set_option maxHeartbeats 4000000 in
theorem rrange_any (t : Option AvT) (cs : Array Value) (fr hi : ByteArray) (w : World) (h : RO w cs t) (hm : manyO t ≤ 1048576) : Calls Tryd.prog 22 #[.agg cs, .string fr, .string hi] w (PsPost ((pairsO t).filter (between fr hi)) w) := by
  have hml : (pairsO t).length ≤ 1048576 := by rw [manyO_eq]; exact hm
  obtain ⟨is, k0, v0, a0, n0, c0', rfl⟩ := h.form
  have HB := Lib.hid (below_alloc w (.cells #[.bool is, .string k0, .string v0, .slice a0 n0 c0'] 28))
  have HP := Lib.hid (heap_alloc_new w (.cells #[.bool is, .string k0, .string v0, .slice a0 n0 c0'] 28))
  have HR := Lib.hid (h.below HB.out)
  have HPS := Lib.hid (rpairs_any t _ _ HR.out (by omega))
  obtain ⟨l, hl⟩ : ∃ l, l = pairsO t := ⟨_, rfl⟩
  rw [← hl] at HPS hml ⊢
  have HML := Lib.hid hml
  clear h hl hm hml
  unfold PsPost at HPS ⊢
  go_enter Tryd.func22, Tryd.ntmps22
  go_upto_region 1 with (fail)
  generalize w.alloc (.cells #[.bool is, .string k0, .string v0, .slice a0 n0 c0'] 28) = w1 at *
  go_upto_region 3 with (first
    | (refine wpList_load_row rfl 28 (.tmp 3) rfl w.heap.size rfl 28 _ (0, 0) _ HP.out Tryd.underlying28 rfl (by kernel_rfl) ?_)
    | (go_at_call 9; (with_reducible refine HPS.out.mono ?_); rintro e w4 ⟨r, rfl, ho, hb⟩; have HK := Lib.hid (KVIn.of_own ho); replace HB := Lib.hid (HB.out.trans (hb.mono HB.out.size)); clear ho hb))
  obtain ⟨ra, rc, rfl⟩ := HK.out.len
  have HO := Lib.hid (World.ownsRow_nil w4 w.heap.size 35 2)
  have HBS := Lib.hid (Below.refl w4.heap.size w4)
  go_wp2_with (fail)
  go_loopw [8, 9] (fun v x wr => ∃ k : Nat, k ≤ l.length ∧ x = .int .i64 (k : Int) ∧ Hid (wr.ownsRow w4.heap.size 35 2 v ((l.take k).filter (between fr hi)).length (flatKV ((l.take k).filter (between fr hi)))) ∧ Hid (Below w4.heap.size w4 wr)) (fun _ x _ => l.length - (intOf x).toNat)
  case atStart => exact ⟨0, Nat.zero_le _, rfl, Lib.hid (World.ownsRow_nil w4 w4.heap.size 35 2), HBS⟩
  case round =>
    clear HO HBS
    obtain ⟨k, hkl, rfl, HO, HBS⟩ := hrel
    have hib : k ≤ 1048576 := by have := HML.out; omega
    by_cases hlt : k < l.length
    · obtain ⟨x, hx⟩ : ∃ x, l[k]? = some x := ⟨l[k], List.getElem?_eq_getElem hlt⟩
      obtain ⟨ab, ao, rfl, hab, q1, q2⟩ := HK.out.at k x hx
      have hltI : (k : Int) < (l.length : Int) := by omega
      have HF := Lib.hid (filter_snoc l (between fr hi) k x hx)
      have c1 := (HBS.out.cell (p := ⟨ab, ao + k * 2, none⟩) hab).trans q1
      have c2 := (HBS.out.cell (p := ⟨ab, ao + k * 2 + 1, none⟩) hab).trans q2
      have HFL := Lib.hid (show ((l.take k).filter (between fr hi)).length ≤ 1048576 from Nat.le_trans (List.length_filter_le _ _) (by rw [List.length_take]; omega))
      obtain ⟨kx, vx⟩ := x
      simp only at c1 c2
      clear hx q1 q2
      cases h1 : bl kx fr with
      | true =>
        have hb1 : between fr hi (kx, vx) = false := by unfold between; rw [h1]; rfl
        have hk1 : Op.bytesLess kx.toList fr.toList = true := h1
        clear h1
        go_wp2_with (fail)
        go_roundw
        case rel => exact ⟨k + 1, by omega, by go_num, by rw [HF.out, if_neg (by rw [hb1]; simp), List.append_nil]; exact HO, HBS⟩
        case measure => simp [intOf]; omega
      | false =>
        have hk1 : Op.bytesLess kx.toList fr.toList = false := h1
        by_cases he : hi.toList = []
        · have he2 : hi.toList.isEmpty = true := by rw [he]; rfl
          have hb1 : between fr hi (kx, vx) = true := by unfold between upTo; rw [h1, he2]; rfl
          clear h1
          go_wp2_with (at_builtin; refine wpList_append_kvs rfl (.tmp 38) (.tmp 43) rfl rfl w4.heap.size _ _ _ rfl (ownsRow_below HO.out (below_alloc _ _)) _ [(kx, vx)] rfl (KVIn.of_own (kv_new wr (kx, vx))) (by have := HFL.out; simp only [List.length_singleton]; omega) (by have := HBS.out.size; rw [size_alloc]; omega) ?_; intro v' w5 ho hg; have HO2 := Lib.hid ho; have HB2 := Lib.hid (HBS.out.trans (((below_alloc wr (.cells #[.string kx, .string vx] 35)).mono HBS.out.size).grown hg (by have := HBS.out.size; rw [size_alloc]; omega) (fun k' hk' => (HO.out.lt k' hk').1))); clear ho hg)
          go_roundw
          case rel => exact ⟨k + 1, by omega, by go_num, by rw [HF.out, if_pos hb1, List.length_append, flatKV_append]; exact HO2, HB2⟩
          case measure => simp [intOf]; omega
        · have he2 : hi.toList.isEmpty = false := by simpa using he
          cases h2 : bl kx hi with
          | true =>
            have hb1 : between fr hi (kx, vx) = true := by unfold between upTo; rw [h1, h2]; simp
            have hk2 : Op.bytesLess kx.toList hi.toList = true := h2
            clear h1 h2
            go_wp2_with (at_builtin; refine wpList_append_kvs rfl (.tmp 38) (.tmp 43) rfl rfl w4.heap.size _ _ _ rfl (ownsRow_below HO.out (below_alloc _ _)) _ [(kx, vx)] rfl (KVIn.of_own (kv_new wr (kx, vx))) (by have := HFL.out; simp only [List.length_singleton]; omega) (by have := HBS.out.size; rw [size_alloc]; omega) ?_; intro v' w5 ho hg; have HO2 := Lib.hid ho; have HB2 := Lib.hid (HBS.out.trans (((below_alloc wr (.cells #[.string kx, .string vx] 35)).mono HBS.out.size).grown hg (by have := HBS.out.size; rw [size_alloc]; omega) (fun k' hk' => (HO.out.lt k' hk').1))); clear ho hg)
            go_roundw
            case rel => exact ⟨k + 1, by omega, by go_num, by rw [HF.out, if_pos hb1, List.length_append, flatKV_append]; exact HO2, HB2⟩
            case measure => simp [intOf]; omega
          | false =>
            have hb1 : between fr hi (kx, vx) = false := by unfold between upTo; rw [h1, h2, he2]; rfl
            have hk2 : Op.bytesLess kx.toList hi.toList = false := h2
            clear h1 h2
            go_wp2_with (fail)
            go_roundw
            case rel => exact ⟨k + 1, by omega, by go_num, by rw [HF.out, if_neg (by rw [hb1]; simp), List.append_nil]; exact HO, HBS⟩
            case measure => simp [intOf]; omega
    · obtain rfl : k = l.length := by omega
      rw [List.take_length] at HO
      go_wp2_with (fail)
      go_ret
      exact ⟨u8, rfl, ownsRow_base HO.out HB.out.size, HB.out.trans (HBS.out.mono HB.out.size)⟩
end Go.Proofs.YtjocbpabbbdkcaaDoor
