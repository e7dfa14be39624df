/- coin, the reference: Full, Into, From (written by gencnx.py). -/
import Derived.Test.YteokgklfljhcaaaGreatDoorCnZ
namespace Go.Proofs.YteokgklfljhcaaaGreatDoor
open Go.RowKit
set_option maxRecDepth 100000
set_option linter.unusedSimpArgs false
set_option linter.unusedVariables false
def accF (a x : ByteArray) : ByteArray := a ++ x ++ { data := #[47] }
def accS (p : List ByteArray) (k : Nat) : ByteArray := (p.take k).foldl accF { data := #[] }
theorem accS_succ {p : List ByteArray} {k : Nat} {x : ByteArray} (h : p[k]? = some x) : accS p (k + 1) = accS p k ++ x ++ { data := #[47] } := by
  unfold accS
  rw [List.take_add_one, h, List.foldl_append]
  rfl
theorem accF_join (b : ByteArray) : ∀ (p : List ByteArray) (a : ByteArray), (p.foldl accF a ++ b).data.toList = a.data.toList ++ Lib.join ((p ++ [b]).map (·.data.toList)) [47]
  | [], a => by
    simp only [List.foldl_nil, List.nil_append, List.map_cons, List.map_nil, Lib.join_one, ByteArray.data_append, Array.toList_append]
  | x :: p, a => by
    rw [List.foldl_cons, accF_join b p (accF a x), List.cons_append, List.map_cons, Lib.join_cons]
    unfold accF
    have hj : ∀ l : List (List UInt8), l ≠ [] → Lib.joinTail [47] l = [47] ++ Lib.join l [47] := fun l hl => by
      cases l with
      | nil => exact absurd rfl hl
      | cons y r => rw [Lib.join_cons]; simp [Lib.joinTail]
    rw [hj _ (by simp)]
    simp only [ByteArray.data_append, Array.toList_append, List.append_assoc]
theorem acc_join (p : List ByteArray) (b : ByteArray) : accS p p.length ++ b = joinS (p ++ [b]) := by
  have h := accF_join b p { data := #[] }
  unfold accS joinS
  rw [List.take_length]
  have e : ∀ c : ByteArray, c = ⟨c.data.toList.toArray⟩ := fun c => by simp
  rw [e (p.foldl accF { data := #[] } ++ b), h]
  rfl
theorem end_size {s : ByteArray} (h : endB s = true) : s.size ≤ 41 := by
  unfold endB at h
  rw [Bool.and_eq_true] at h
  have h1 := name_size h.1
  have h2 := name_size h.2
  unfold portS at h1
  unfold chanS at h2
  rcases ix_cases 47 s.data.toList with hx | ⟨i, hx, hi⟩
  · have : ixB s = -1 := hx
    rw [if_pos this] at h1
    omega
  · have hx2 : ixB s = i := hx
    rw [size14] at hi
    rw [if_neg (by omega), hx2, ByteArray.size_extract] at h1
    rw [if_neg (by omega), hx2, ByteArray.size_extract] at h2
    simp only [Int.toNat_natCast] at h1 h2
    omega
theorem acc_size (p : List ByteArray) (h : ∀ s ∈ p, s.size ≤ 41) : ∀ k, (accS p k).size ≤ 42 * k
  | 0 => by
    show (({ data := #[] } : ByteArray)).size ≤ 0
    exact Nat.le_refl _
  | k + 1 => by
    cases hk : p[k]? with
    | none =>
      have e : accS p (k + 1) = accS p k := by unfold accS; rw [List.take_add_one, hk]; simp
      rw [e]
      have := acc_size p h k
      omega
    | some x =>
      rw [accS_succ hk, ByteArray.size_append, ByteArray.size_append]
      have h1 := acc_size p h k
      have h2 := h x (List.mem_of_getElem? hk)
      have h3 : (({ data := #[47] } : ByteArray)).size = 1 := rfl
      omega
def EnK (p : List ByteArray) (k : Nat) : Prop := ∀ i x, i < k → p[i]? = some x → endB x = true
theorem enk_take {p : List ByteArray} {k : Nat} (h : EnK p k) : ∀ s ∈ p.take k, s.size ≤ 41 := fun s hs => by
  obtain ⟨i, hi, e⟩ := List.getElem_of_mem hs
  rw [List.length_take] at hi
  rw [List.getElem_take] at e
  exact end_size (h i s (by omega) (by rw [← e]; exact List.getElem?_eq_getElem _))
theorem acc_take (p : List ByteArray) (k : Nat) : accS (p.take k) k = accS p k := by unfold accS; rw [List.take_take, Nat.min_self]
theorem enk_any {p : List ByteArray} (h : EnK p p.length) : p.any noEnd = false := by
  rw [List.any_eq_false]
  intro x hx
  obtain ⟨i, hi, e⟩ := List.getElem_of_mem hx
  unfold noEnd
  rw [h i x hi (by rw [← e]; exact List.getElem?_eq_getElem _)]
  simp
set_option maxHeartbeats 4000000 in
theorem rfull_any (p : List ByteArray) (b : ByteArray) (pv : Value) (w : World) (hp : SsIn w pv p) (hs : ∀ s ∈ p, s.size ≤ 9223372036854775806) (hb : b.size ≤ 9223372036854775807) :
    Calls Tryz.prog 32 #[.agg (trC pv b)] w fun e w' => e = .returned (.tuple #[.string (fullR p b), .int .i64 (numE (trE p b))]) ∧ Below w.heap.size w w' := by
  obtain ⟨pa, pc, rfl, -, -⟩ := id hp
  have HBS := Lib.hid (fun w => rbase_any b w hb)
  have HEN := Lib.hid (fun x w (h : x ∈ p) => rend_any x w (hs x h))
  obtain ⟨E, hE⟩ : ∃ e, e = trE p b := ⟨_, rfl⟩
  obtain ⟨R, hR⟩ : ∃ r, r = fullR p b := ⟨_, rfl⟩
  rw [← hR]
  unfold fullR at hR
  rw [← hE] at hR ⊢
  unfold trE at hE
  have HE := Lib.hid hE
  have HR := Lib.hid hR
  obtain ⟨n, hn⟩ : ∃ n, n = p.length := ⟨_, rfl⟩
  have HN := Lib.hid hn
  have HP := Lib.hid hp
  rw [← hn] at HP HE ⊢
  have HB := Lib.hid (below_alloc w (.cells (trC (.slice pa n pc) b) 62))
  have HQ := Lib.hid (heap_alloc_new w (.cells (trC (.slice pa n pc) b) 62))
  replace HP := Lib.hid (HP.out.below HB.out)
  clear hp hs hb hE hR hn
  go_enter Tryz.func32, Tryz.ntmps32
  go_upto_region 1 with (fail)
  obtain ⟨q, hq⟩ : ∃ q, q = w.heap.size := ⟨_, rfl⟩
  rw [← hq] at HQ ⊢
  clear hq
  generalize w.alloc (.cells (trC (.slice pa n pc) b) 62) = w1 at *
  have c0 : w1.cell? ⟨q, 0, none⟩ = some (.slice pa n pc) := cell_of_row _ _ _ _ _ _ HQ.out
  have c1 : w1.cell? ⟨q, 1, none⟩ = some (.string b) := cell_of_row _ _ _ _ _ _ HQ.out
  by_cases h8 : 8 < n
  · have h8I : (8 : Int) < (n : Int) := by omega
    have HF := Lib.hid (show E = some 2 from by rw [HE.out, if_pos h8])
    go_wp2_with (fail)
    first | go_ret | go_ret2
    exact ⟨by rw [HR.out, HF.out]; rfl, HB.out⟩
  have h8I : ¬ (8 : Int) < (n : Int) := by omega
  have HE2 := Lib.hid (show E = if p.any noEnd || !baseB b then some 40 else none from by rw [HE.out, if_neg h8])
  go_upto_region 5 with (fail)
  go_loopw [4, 5] (fun y x wr => ∃ k : Nat, k ≤ n ∧ x = .int .i64 (k : Int) ∧ y = .string (accS p k) ∧ wr = w1 ∧ Hid (EnK p k)) (fun _ x _ => n - (intOf x).toNat)
  case atStart => exact ⟨0, Nat.zero_le _, rfl, rfl, rfl, Lib.hid (fun i x h => by omega)⟩
  case round =>
    obtain ⟨k, hkn, rfl, rfl, rfl, H⟩ := hrel
    by_cases hlt : k < n
    · have hltI : (k : Int) < (n : Int) := by omega
      obtain ⟨x, hx⟩ : ∃ x, p[k]? = some x := ⟨p[k]'(by have := HN.out; omega), List.getElem?_eq_getElem _⟩
      obtain ⟨ab, ao, rfl, hc⟩ := HP.out.get hx
      have HC := Lib.hid (fun w => HEN.out x w (List.mem_of_getElem? hx))
      have HX := Lib.hid hx
      have hz : (accS p k).size ≤ 336 := by
        rw [← acc_take]
        have := acc_size (p.take k) (enk_take H.out) k
        omega
      have HS := Lib.hid (show accS p (k + 1) = accS p k ++ x ++ { data := #[47] } from accS_succ hx)
      obtain ⟨A, hA⟩ : ∃ a, a = accS p k := ⟨_, rfl⟩
      rw [← hA] at HS hz ⊢
      clear hx hA
      cases he : endB x with
      | true =>
        rw [he] at HC
        have HK := Lib.hid (show EnK p (k + 1) from fun i y hi hy => by
          by_cases e : i = k
          · subst e
            rw [HX.out] at hy
            rw [← Option.some.inj hy]; exact he
          · exact H.out i y (by omega) hy)
        have hxz := end_size he
        have z1 : ¬ 9223372036854775807 < A.size + x.size := by omega
        have z2 : ¬ 9223372036854775807 < A.size + x.size + 1 := by omega
        have z3 : ¬ 9223372036854775807 < (A ++ x).size + 1 := by rw [ByteArray.size_append]; omega
        clear he
        go_wp2_with (go_at_call 83; (with_reducible refine (HC.out _).mono ?_); rintro e w2 ⟨rfl, rfl⟩)
        go_roundw
        case rel => exact ⟨k + 1, by omega, by go_num, by rw [HS.out], by trivial, HK⟩
        case measure => simp [intOf]; omega
      | false =>
        rw [he] at HC
        have HF := Lib.hid (show E = some 40 from by
          rw [HE2.out, show p.any noEnd = true from any_hit14 HX.out (by unfold noEnd; rw [he]; rfl)]; rfl)
        clear he
        go_wp2_with (go_at_call 83; (with_reducible refine (HC.out _).mono ?_); rintro e w2 ⟨rfl, rfl⟩)
        first | go_ret | go_ret2
        exact ⟨by rw [HR.out, HF.out]; rfl, HB.out⟩
    · obtain rfl : k = n := by omega
      have HA := Lib.hid (enk_any (by rw [← HN.out]; exact H.out))
      have HJ := Lib.hid (show accS p k ++ b = joinS (p ++ [b]) from by rw [HN.out]; exact acc_join p b)
      have hz : (accS p k).size ≤ 336 := by
        rw [← acc_take]
        have := acc_size (p.take k) (enk_take H.out) k
        omega
      obtain ⟨A, hA⟩ : ∃ a, a = accS p k := ⟨_, rfl⟩
      rw [← hA] at HJ hz ⊢
      cases hbb : baseB b with
      | true =>
        rw [hbb] at HBS
        have HF := Lib.hid (show E = none from by rw [HE2.out, HA.out, hbb]; rfl)
        have hb16 : b.size ≤ 16 := by
          unfold baseB at hbb
          rw [Bool.and_eq_true, decide_eq_true_eq] at hbb
          exact hbb.1.2
        have z1 : ¬ 9223372036854775807 < A.size + b.size := by omega
        clear hbb hA
        go_wp2_with (go_at_call 40; (with_reducible refine (HBS.out _).mono ?_); rintro e w2 ⟨rfl, rfl⟩)
        first | go_ret | go_ret2
        exact ⟨by rw [HR.out, HF.out, if_pos rfl, ← HJ.out]; rfl, HB.out⟩
      | false =>
        rw [hbb] at HBS
        have HF := Lib.hid (show E = some 40 from by rw [HE2.out, hbb]; simp)
        clear hbb hA
        go_wp2_with (go_at_call 40; (with_reducible refine (HBS.out _).mono ?_); rintro e w2 ⟨rfl, rfl⟩)
        first | go_ret | go_ret2
        exact ⟨by rw [HR.out, HF.out]; rfl, HB.out⟩
end Go.Proofs.YteokgklfljhcaaaGreatDoor
