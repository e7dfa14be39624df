/- AvlOrder: the walk. -/
import Derived.BigQuiet
import Derived.Test.YtlhfdkkeanchcaaDoorAvGr
import Derived.Test.YtlhfdkkeanchcaaDoorAvOrd
namespace Go.Proofs.YtlhfdkkeanchcaaDoor
open Go.RowKit
set_option maxRecDepth 100000
set_option linter.unusedSimpArgs false
set_option linter.unusedVariables false
theorem count_snoc (l : List KV) (f : KV → Bool) (k : Nat) (x : KV) (h : l[k]? = some x) : ((l.take (k + 1)).filter f).length = ((l.take k).filter f).length + (if f x then 1 else 0) := by
  have hk : k < l.length := (List.getElem?_eq_some_iff.1 h).1
  rw [List.take_succ_eq_append_getElem hk, List.filter_append, List.length_append]
  rw [List.getElem?_eq_getElem hk] at h
  injection h with h
  rw [h, List.filter_cons]
  split <;> rfl
theorem TreeO.ptr {w : World} {v : Value} {t : Option AvT} (h : TreeO w v t) : ∃ p, v = .pointer p := by
  cases t with
  | none => exact ⟨none, h⟩
  | some t => obtain ⟨g, e, _⟩ := h; exact ⟨_, e⟩
/-- between two keys -/
def between (fr hi : ByteArray) (p : KV) : Bool := !bl p.1 fr && upTo hi p
set_option maxRecDepth 1000000 in
set_option maxHeartbeats 8000000 in
theorem lorder_any (va : Value) (ts : List AvA) (fr hi : ByteArray) (N : Nat) (w : World) (he : Env w) (hx : AvActs w va ts) (hk : ∀ t ∈ ts, t.kOk) (hs : ∀ t ∈ ts, t.key.size + t.val.size ≤ N) (hN : N ≤ 1048576) :
    Calls Tryd.prog 7 #[va, .string fr, .string hi] w fun e w' => e = .returned (.bool true) ∧ Below w.heap.size w w' := by
  have HGR := Lib.hid (grown_any va ts N w he hx hk hs hN)
  have HE := Lib.hid he
  clear he hx hk hs hN
  unfold GrPost at HGR
  go_enter Tryd.func7, Tryd.ntmps7
  go_upto_region 2 with (first
    | (go_at_call 8; (with_reducible refine HGR.out.mono ?_); rintro e w1 ⟨v, cs, t, rfl, ht, hr, hg, hb⟩; have HT := Lib.hid ht; have HG := Lib.hid hg; have HBT := Lib.hid hb; have csZ := Lib.hid hr.size; have csO := Lib.hid hr.one; clear ht hr hg hb)
    | (refine wpList_store_row rfl 28 (.tmp 8) (.tmp 24) rfl w1.heap.size cs rfl rfl 28 _ (heap_alloc_new _ _) (by rw [csZ.out]; kernel_rfl) (by rw [csZ.out]; rfl) csO.out ?_; rw [World.setRow_alloc_new]))
  replace HT := Lib.hid (HT.out.below (below_alloc w1 (.cells cs 28)))
  replace HBT := Lib.hid (HBT.out.trans ((below_alloc w1 (.cells cs 28)).mono HBT.out.size))
  generalize w1.alloc (.cells cs 28) = w2 at *
  obtain ⟨p, rfl⟩ := HT.out.ptr
  have hsrt : Srt (pairsO t) := HG.out.srt
  have hmany : manyO t ≤ 60 := HG.out.many
  obtain ⟨L, hL⟩ : ∃ L, L = pairsO t := ⟨_, rfl⟩
  have HRF := Lib.hid (show ∀ w, TreeO w (.pointer p) t → Calls Tryd.prog 24 #[.pointer p, .string { data := #[] }, .string { data := #[] }] w fun e w' => ∃ v, e = .returned v ∧ KVIn w' v L ∧ Below w.heap.size w w' from fun w h => by
    have := range_kv p t eBA eBA w h hsrt (by omega)
    rw [range_full hsrt, ← hL] at this; exact this)
  have HRG := Lib.hid (show ∀ w, TreeO w (.pointer p) t → Calls Tryd.prog 24 #[.pointer p, .string fr, .string hi] w fun e w' => ∃ v, e = .returned v ∧ KVIn w' v (L.filter (between fr hi)) ∧ Below w.heap.size w w' from fun w h => by
    have := range_kv p t fr hi w h hsrt (by omega)
    rw [range_eq hsrt, ← hL] at this; exact this)
  have HGE := Lib.hid (show ∀ (i : Nat) (x : KV), L[i]? = some x → ∀ w, TreeO w (.pointer p) t → Calls Tryd.prog 9 #[.pointer p, .string x.1] w fun e w' => e = .returned (.tuple #[.string x.2, .bool true]) ∧ w = w' from fun i x hx w h => by
    have := get_any (.pointer p) x.1 t w h
    rw [(find_place hsrt (by rw [← hL]; exact hx)).2] at this; exact this)
  have HFI := Lib.hid (show ∀ (i : Nat) (x : KV), L[i]? = some x → ∀ w, TreeO w (.pointer p) t → Calls Tryd.prog 21 #[.pointer p, .string x.1] w fun e w' => e = .returned (.int .i64 (i : Int)) ∧ w = w' from fun i x hx w h => by
    have := find_any (.pointer p) x.1 t w h (by omega)
    rw [(find_place hsrt (by rw [← hL]; exact hx)).1] at this; exact this)
  have HLL := Lib.hid (show L.length = manyO t by rw [hL, manyO_eq])
  have HSR := Lib.hid (show Srt L by rw [hL]; exact hsrt)
  have hLb : L.length ≤ 60 := by rw [HLL.out]; exact hmany
  clear hsrt hmany hL
  go_wp2_with (first
    | (go_at_call 24; (with_reducible refine (HRF.out _ HT.out).mono ?_); rintro e w3 ⟨v, rfl, hkv, hb⟩; have HX := Lib.hid hkv; replace HT := Lib.hid (HT.out.below hb); replace HBT := Lib.hid (HBT.out.trans (hb.mono HBT.out.size)); obtain ⟨sa, sc, rfl⟩ := hkv.len; clear hkv hb))
  have HBS := Lib.hid (Below.refl w3.heap.size w3)
  go_loopw [10, 11] (fun x y wr => ∃ c k : Nat, k ≤ L.length ∧ x = .int .i64 (c : Int) ∧ y = .int .i64 (k : Int) ∧ Hid (c = ((L.take k).filter (between fr hi)).length) ∧ Hid (Below w3.heap.size w3 wr)) (fun _ y _ => L.length - (intOf y).toNat)
  case atStart => exact ⟨0, 0, by omega, rfl, rfl, Lib.hid rfl, HBS⟩
  case round =>
    clear HBS
    obtain ⟨c, k, hkl, rfl, rfl, HC, HBS⟩ := hrel
    have hcb : c ≤ 60 := by
      have := List.length_filter_le (between fr hi) (L.take k)
      rw [← HC.out, List.length_take] at this; omega
    by_cases hlt : k < L.length
    · obtain ⟨x, hx⟩ : ∃ x, L[k]? = some x := ⟨L[k], List.getElem?_eq_getElem hlt⟩
      obtain ⟨ab, ao, rfl, hab, q0, q1⟩ := HX.out.at k x hx
      have HGX := Lib.hid (HGE.out k x hx)
      have HFX := Lib.hid (HFI.out k x hx)
      have hltI : (k : Int) < (L.length : Int) := by omega
      have HCN := Lib.hid ((count_snoc L (between fr hi) k x hx).trans (by rw [← HC.out]))
      obtain ⟨kx, vx⟩ := x
      simp only at q0 q1 HGX HFX
      have HCA := Lib.hid (fun (w' : World) (hb : Below w3.heap.size w3 w') => (⟨(hb.cell (p := ⟨ab, ao + k * 2, none⟩) hab).trans q0, (hb.cell (p := ⟨ab, ao + k * 2 + 1, none⟩) hab).trans q1⟩ : w'.cell? ⟨ab, ao + k * 2, none⟩ = some (.string kx) ∧ w'.cell? ⟨ab, ao + k * 2 + 1, none⟩ = some (.string vx)))
      have c0 := (HCA.out wr HBS.out).1
      by_cases hk0 : 0 < k
      · obtain ⟨j, hj⟩ : ∃ j, k = j + 1 := ⟨k - 1, by omega⟩
        obtain ⟨y, hy⟩ : ∃ y, L[j]? = some y := ⟨L[j], List.getElem?_eq_getElem (by omega)⟩
        obtain ⟨ab', ao', e', hab', r0, r1⟩ := HX.out.at j y hy
        injection e' with e'
        injection e' with e1 e2
        subst e1 e2
        have hord : bl y.1 kx = true := by
          have := List.pairwise_iff_getElem.1 HSR.out j k (by omega) (by omega) (by omega)
          rw [List.getElem?_eq_getElem (by omega)] at hy hx
          injection hy with hy
          injection hx with hx
          rw [hy, hx] at this; exact this
        have d0 := (HBS.out.cell (p := ⟨ab, ao + j * 2, none⟩) hab).trans r0
        obtain ⟨ky, vy⟩ := y
        simp only at d0 hord
        have hlss : Op.bytesLess ky.toList kx.toList = true := hord
        have hd : decide ((0 : Int) < (k : Int)) = true := by rw [decide_eq_true_eq]; omega
        have hsub : (k : Int) - 1 = (j : Int) := by omega
        have hjI : (j : Int) < (L.length : Int) := by omega
        have hw : IntKind.i64.wrap ((k : Int) - 1) = (j : Int) := by rw [hsub]; exact IntWalk.i64_in _ (by omega)
        clear hy r0 r1 hord hx hj hsub q0 q1
        go_upto_region 7 with (fail)
        go_quiet (fail)
        clear c0
        replace HBS := Lib.hid (below_drewN HBS.out nq)
        generalize wr.drewN nq = w5 at *
        have c0 := (HCA.out w5 HBS.out).1
        have c1 := (HCA.out w5 HBS.out).2
        clear d0 hlss hd hw hjI
        cases h1 : bl kx fr with
        | true =>
          have hb1 : between fr hi (kx, vx) = false := by unfold between; rw [h1]; rfl
          have hk1 : Op.bytesLess kx.toList fr.toList = true := h1
          clear h1
          go_wp2_with (first
            | (go_at_call 9; (with_reducible refine (HGX.out _ (HT.out.below HBS.out)).mono ?_); rintro e w' ⟨rfl, rfl⟩)
            | (go_at_call 21; (with_reducible refine (HFX.out _ (HT.out.below HBS.out)).mono ?_); rintro e w' ⟨rfl, rfl⟩))
          go_roundw
          case rel => exact ⟨c, k + 1, by omega, rfl, by go_num, Lib.hid (by rw [HCN.out, hb1]; rfl), HBS⟩
          case measure => simp [intOf]; omega
        | false =>
          have hk1 : Op.bytesLess kx.toList fr.toList = false := h1
          by_cases he : hi.toList = []
          · have he2 : hi.toList.isEmpty = true := by rw [he]; rfl
            have hb1 : between fr hi (kx, vx) = true := by unfold between upTo; rw [h1, he2]; rfl
            clear h1
            go_wp2_with (first
              | (go_at_call 9; (with_reducible refine (HGX.out _ (HT.out.below HBS.out)).mono ?_); rintro e w' ⟨rfl, rfl⟩)
              | (go_at_call 21; (with_reducible refine (HFX.out _ (HT.out.below HBS.out)).mono ?_); rintro e w' ⟨rfl, rfl⟩))
            go_roundw
            case rel => exact ⟨c + 1, k + 1, by omega, by go_num, by go_num, Lib.hid (by rw [HCN.out, hb1]; rfl), HBS⟩
            case measure => simp [intOf]; omega
          · have he2 : hi.toList.isEmpty = false := by simpa using he
            cases h2 : bl kx hi with
            | true =>
              have hb1 : between fr hi (kx, vx) = true := by unfold between upTo; rw [h1, h2]; simp
              have hk2 : Op.bytesLess kx.toList hi.toList = true := h2
              clear h1 h2
              go_wp2_with (first
                | (go_at_call 9; (with_reducible refine (HGX.out _ (HT.out.below HBS.out)).mono ?_); rintro e w' ⟨rfl, rfl⟩)
                | (go_at_call 21; (with_reducible refine (HFX.out _ (HT.out.below HBS.out)).mono ?_); rintro e w' ⟨rfl, rfl⟩))
              go_roundw
              case rel => exact ⟨c + 1, k + 1, by omega, by go_num, by go_num, Lib.hid (by rw [HCN.out, hb1]; rfl), HBS⟩
              case measure => simp [intOf]; omega
            | false =>
              have hb1 : between fr hi (kx, vx) = false := by unfold between upTo; rw [h1, h2, he2]; rfl
              have hk2 : Op.bytesLess kx.toList hi.toList = false := h2
              clear h1 h2
              go_wp2_with (first
                | (go_at_call 9; (with_reducible refine (HGX.out _ (HT.out.below HBS.out)).mono ?_); rintro e w' ⟨rfl, rfl⟩)
                | (go_at_call 21; (with_reducible refine (HFX.out _ (HT.out.below HBS.out)).mono ?_); rintro e w' ⟨rfl, rfl⟩))
              go_roundw
              case rel => exact ⟨c, k + 1, by omega, rfl, by go_num, Lib.hid (by rw [HCN.out, hb1]; rfl), HBS⟩
              case measure => simp [intOf]; omega
      · have hd : decide ((0 : Int) < (k : Int)) = false := by rw [decide_eq_false_iff_not]; omega
        clear hx q0 q1
        go_upto_region 7 with (fail)
        go_quiet (fail)
        clear c0
        replace HBS := Lib.hid (below_drewN HBS.out nq)
        generalize wr.drewN nq = w5 at *
        have c0 := (HCA.out w5 HBS.out).1
        have c1 := (HCA.out w5 HBS.out).2
        clear hd
        cases h1 : bl kx fr with
        | true =>
          have hb1 : between fr hi (kx, vx) = false := by unfold between; rw [h1]; rfl
          have hk1 : Op.bytesLess kx.toList fr.toList = true := h1
          clear h1
          go_wp2_with (first
            | (go_at_call 9; (with_reducible refine (HGX.out _ (HT.out.below HBS.out)).mono ?_); rintro e w' ⟨rfl, rfl⟩)
            | (go_at_call 21; (with_reducible refine (HFX.out _ (HT.out.below HBS.out)).mono ?_); rintro e w' ⟨rfl, rfl⟩))
          go_roundw
          case rel => exact ⟨c, k + 1, by omega, rfl, by go_num, Lib.hid (by rw [HCN.out, hb1]; rfl), HBS⟩
          case measure => simp [intOf]; omega
        | false =>
          have hk1 : Op.bytesLess kx.toList fr.toList = false := h1
          by_cases he : hi.toList = []
          · have he2 : hi.toList.isEmpty = true := by rw [he]; rfl
            have hb1 : between fr hi (kx, vx) = true := by unfold between upTo; rw [h1, he2]; rfl
            clear h1
            go_wp2_with (first
              | (go_at_call 9; (with_reducible refine (HGX.out _ (HT.out.below HBS.out)).mono ?_); rintro e w' ⟨rfl, rfl⟩)
              | (go_at_call 21; (with_reducible refine (HFX.out _ (HT.out.below HBS.out)).mono ?_); rintro e w' ⟨rfl, rfl⟩))
            go_roundw
            case rel => exact ⟨c + 1, k + 1, by omega, by go_num, by go_num, Lib.hid (by rw [HCN.out, hb1]; rfl), HBS⟩
            case measure => simp [intOf]; omega
          · have he2 : hi.toList.isEmpty = false := by simpa using he
            cases h2 : bl kx hi with
            | true =>
              have hb1 : between fr hi (kx, vx) = true := by unfold between upTo; rw [h1, h2]; simp
              have hk2 : Op.bytesLess kx.toList hi.toList = true := h2
              clear h1 h2
              go_wp2_with (first
                | (go_at_call 9; (with_reducible refine (HGX.out _ (HT.out.below HBS.out)).mono ?_); rintro e w' ⟨rfl, rfl⟩)
                | (go_at_call 21; (with_reducible refine (HFX.out _ (HT.out.below HBS.out)).mono ?_); rintro e w' ⟨rfl, rfl⟩))
              go_roundw
              case rel => exact ⟨c + 1, k + 1, by omega, by go_num, by go_num, Lib.hid (by rw [HCN.out, hb1]; rfl), HBS⟩
              case measure => simp [intOf]; omega
            | false =>
              have hb1 : between fr hi (kx, vx) = false := by unfold between upTo; rw [h1, h2, he2]; rfl
              have hk2 : Op.bytesLess kx.toList hi.toList = false := h2
              clear h1 h2
              go_wp2_with (first
                | (go_at_call 9; (with_reducible refine (HGX.out _ (HT.out.below HBS.out)).mono ?_); rintro e w' ⟨rfl, rfl⟩)
                | (go_at_call 21; (with_reducible refine (HFX.out _ (HT.out.below HBS.out)).mono ?_); rintro e w' ⟨rfl, rfl⟩))
              go_roundw
              case rel => exact ⟨c, k + 1, by omega, rfl, by go_num, Lib.hid (by rw [HCN.out, hb1]; rfl), HBS⟩
              case measure => simp [intOf]; omega
    · obtain rfl : k = L.length := by omega
      have hcl : c = (L.filter (between fr hi)).length := by rw [HC.out, List.take_length]
      have HDR := Lib.hid (fun w h1 h2 => drop_any (.pointer p) t fr w h1 h2 (by have := HG.out.many; omega))
      have HMD := manyO_drop HG.out.srt fr
      have HGD := getO_drop HG.out.srt fr
      have HGT := Lib.hid (fun w h => get_any (.pointer p) fr t w h)
      have HLT := Lib.hid (fun w h => len_any (v := .pointer p) (t := t) w h)
      obtain ⟨d, hd⟩ : ∃ d, d = dropO t fr := ⟨_, rfl⟩
      rw [← hd] at HMD HGD HDR
      rw [← HLL.out] at HMD HLT
      obtain ⟨was, hwas⟩ : ∃ b, b = (getO t fr).isSome := ⟨_, rfl⟩
      rw [← hwas] at HGT HMD
      obtain ⟨md, hmd⟩ : ∃ m, m = manyO d := ⟨_, rfl⟩
      have HLV := Lib.hid (show ∀ (w : World) (v : Value), TreeO w v d → Calls Tryd.prog 18 #[v] w fun e w' => e = .returned (.int .i64 (md : Int)) ∧ w = w' from fun w v h => by rw [hmd]; exact len_any w h)
      rw [← hmd] at HMD
      have HGV := Lib.hid (show ∀ (w : World) (v : Value), TreeO w v d → Calls Tryd.prog 9 #[v, .string fr] w fun e w' => e = .returned (.tuple #[.string eBA, .bool false]) ∧ w = w' from fun w v h => by
        have := get_any v fr d w h
        rw [HGD] at this; exact this)
      unfold NewO at HDR
      subst hcl
      clear hd hmd hwas HGD HC HX HGE HFI hkl hlt HG HLL HSR
      cases was with
      | true =>
        have hmm : L.length = md + 1 := by simp at HMD; omega
        have hw : IntKind.i64.wrap ((L.length : Int) - 1) = (md : Int) := by rw [hmm]; exact (IntWalk.i64_in _ (by omega)).trans (by omega)
        clear HMD hmm
        go_wp2_with (first
          | (go_at_call 31; (with_reducible refine (HDR.out _ (HE.out.below (HBT.out.trans (HBS.out.mono HBT.out.size)) HE.out.lt) (HT.out.below HBS.out)).mono ?_); rintro e w5 ⟨v5, rfl, ht, hb⟩; have HD := Lib.hid ht; replace HBS := Lib.hid (HBS.out.trans (hb.mono HBS.out.size)); clear ht hb)
          | (go_at_call 9; (with_reducible refine (HGV.out _ v5 HD.out).mono ?_); rintro e w' ⟨rfl, rfl⟩)
          | (go_at_call 9; (with_reducible refine (HGT.out _ (HT.out.below HBS.out)).mono ?_); rintro e w' ⟨rfl, rfl⟩)
          | (go_at_call 24; (with_reducible refine (HRG.out _ (HT.out.below HBS.out)).mono ?_); rintro e w6 ⟨v6, rfl, hkv, hb⟩; obtain ⟨sa6, sc6, rfl⟩ := hkv.len; replace HD := Lib.hid (HD.out.below hb); replace HBS := Lib.hid (HBS.out.trans (hb.mono HBS.out.size)); clear hkv hb)
          | (go_at_call 18; (with_reducible refine (HLV.out _ v5 HD.out).mono ?_); rintro e w' ⟨rfl, rfl⟩)
          | (go_at_call 18; (with_reducible refine (HLT.out _ (HT.out.below HBS.out)).mono ?_); rintro e w' ⟨rfl, rfl⟩)
          | (go_at_call 30; (with_reducible refine (avsure_any _ (HE.out.below (HBT.out.trans (HBS.out.mono HBT.out.size)) HE.out.lt)).mono ?_); rintro e w10 ⟨rfl, hb⟩; replace HBS := Lib.hid (HBS.out.trans (hb.mono HBS.out.size)); clear hb))
        go_ret
        exact ⟨rfl, HBT.out.trans (HBS.out.mono HBT.out.size)⟩
      | false =>
        have hmm : md = L.length := by simp at HMD; omega
        subst hmm
        have hw : IntKind.i64.wrap ((L.length : Int) - 0) = (L.length : Int) := by exact (IntWalk.i64_in _ (by omega)).trans (by omega)
        clear HMD
        go_wp2_with (first
          | (go_at_call 31; (with_reducible refine (HDR.out _ (HE.out.below (HBT.out.trans (HBS.out.mono HBT.out.size)) HE.out.lt) (HT.out.below HBS.out)).mono ?_); rintro e w5 ⟨v5, rfl, ht, hb⟩; have HD := Lib.hid ht; replace HBS := Lib.hid (HBS.out.trans (hb.mono HBS.out.size)); clear ht hb)
          | (go_at_call 9; (with_reducible refine (HGV.out _ v5 HD.out).mono ?_); rintro e w' ⟨rfl, rfl⟩)
          | (go_at_call 9; (with_reducible refine (HGT.out _ (HT.out.below HBS.out)).mono ?_); rintro e w' ⟨rfl, rfl⟩)
          | (go_at_call 24; (with_reducible refine (HRG.out _ (HT.out.below HBS.out)).mono ?_); rintro e w6 ⟨v6, rfl, hkv, hb⟩; obtain ⟨sa6, sc6, rfl⟩ := hkv.len; replace HD := Lib.hid (HD.out.below hb); replace HBS := Lib.hid (HBS.out.trans (hb.mono HBS.out.size)); clear hkv hb)
          | (go_at_call 18; (with_reducible refine (HLV.out _ v5 HD.out).mono ?_); rintro e w' ⟨rfl, rfl⟩)
          | (go_at_call 18; (with_reducible refine (HLT.out _ (HT.out.below HBS.out)).mono ?_); rintro e w' ⟨rfl, rfl⟩)
          | (go_at_call 30; (with_reducible refine (avsure_any _ (HE.out.below (HBT.out.trans (HBS.out.mono HBT.out.size)) HE.out.lt)).mono ?_); rintro e w10 ⟨rfl, hb⟩; replace HBS := Lib.hid (HBS.out.trans (hb.mono HBS.out.size)); clear hb))
        go_ret
        exact ⟨rfl, HBT.out.trans (HBS.out.mono HBT.out.size)⟩
end Go.Proofs.YtlhfdkkeanchcaaDoor
