/- Part 25 of the proof. -/
import Derived.Test.YtejglhlodfhgkaaGreatDoorXv7
namespace Go.Proofs.YtejglhlodfhgkaaGreatDoor
set_option linter.unusedVariables false
set_option linter.unusedSimpArgs false
open Go.RowKit
set_option maxRecDepth 100000
set_option linter.unusedSimpArgs false
set_option linter.unusedVariables false
theorem wtext15_any (g : Nat) (v : Value) (s : ByteArray) (XS : List Int) (w : World) (hw : WAt w g v XS) (hl : XS.length + (st1 s).length + 10 ≤ 140737488355328) :
    Calls Tryz.prog 178 #[.pointer (some ⟨g, 0, none⟩), .string s] w fun e w' => e = .returned (.tuple #[]) ∧ WsR g v w (XS ++ st1 s) w' := by
  have HC := Lib.hid (wtext_any g v s XS w hw (by rw [st1_len] at hl; omega))
  clear hw hl
  go_enter Tryz.func178, Tryz.ntmps178
  go_wp2_with (go_at_call 63; (with_reducible refine HC.out.mono ?_); rintro e w1 hp; obtain ⟨rfl, v1, hw1, hs1⟩ := wpS_next hp; have HW := Lib.hid hw1; have HS := Lib.hid hs1; clear hp hw1 hs1)
  go_end0
  exact ⟨rfl, _, HW.out, HS.out⟩
theorem wint15_any (g : Nat) (v : Value) (i : Int) (XS : List Int) (w : World) (hw : WAt w g v XS) (hi : i64b i) (hl : XS.length + (it1 i).length + 10 ≤ 140737488355328) :
    Calls Tryz.prog 180 #[.pointer (some ⟨g, 0, none⟩), .int .i64 i] w fun e w' => e = .returned (.tuple #[]) ∧ WsR g v w (XS ++ it1 i) w' := by
  have HC := Lib.hid (wint_any g v i XS w hw hi.1 hi.2 (by omega))
  clear hw hl hi
  go_enter Tryz.func180, Tryz.ntmps180
  go_wp2_with (go_at_call 116; (with_reducible refine HC.out.mono ?_); rintro e w1 hp; obtain ⟨rfl, v1, hw1, hs1⟩ := wpS_next hp; have HW := Lib.hid hw1; have HS := Lib.hid hs1; clear hp hw1 hs1)
  go_end0
  exact ⟨rfl, _, HW.out, HS.out⟩
theorem wdata15_any (g : Nat) (v : Value) (t : Tb) (XS : List Int) (w : World) (hw : WAt w g v XS) (w0 : World) (hg : w0.heap.size ≤ g) (hB : Below w0.heap.size w0 w) (hsv : BytesIn w0 t.bv t.bs) (hl : XS.length + (tb1 t).length + 10 ≤ 140737488355328) :
    Calls Tryz.prog 182 #[.pointer (some ⟨g, 0, none⟩), t.bv] w fun e w' => e = .returned (.tuple #[]) ∧ WsR g v w (XS ++ tb1 t) w' := by
  obtain ⟨bv, bs⟩ := t
  have HC := Lib.hid (wbytes_any g v bv XS bs w hw (hsv.below hB) (fun hn => apart_of hsv hn hg hw) (by simp only [tb1, List.length_append] at hl; omega))
  clear hw hB hsv hl
  go_enter Tryz.func182, Tryz.ntmps182
  go_wp2_with (go_at_call 53; (with_reducible refine HC.out.mono ?_); rintro e w1 hp; obtain ⟨rfl, v1, hw1, hs1⟩ := wpS_next hp; have HW := Lib.hid hw1; have HS := Lib.hid hs1; clear hp hw1 hs1)
  go_end0
  exact ⟨rfl, _, HW.out, HS.out⟩
theorem vlen15 (n : Nat) (h : n < 18446744073709551616) : 0 ≤ (varint n).length ∧ (varint n).length ≤ 10 := ⟨Nat.zero_le _, glenT h⟩
set_option maxHeartbeats 8000000 in
theorem wlist15S_any (w0 : World) (g : Nat) (hg : w0.heap.size ≤ g) (l : List ByteArray) (vv : Value) (hl : StIn w0 vv l)  (v : Value) (XS : List Int) (w : World) (hw : WAt w g v XS) (hB : Below w0.heap.size w0 w) (room : XS.length + (listL st1 l).length + 10 ≤ 140737488355328) :
    Calls Tryz.prog 177 #[.pointer (some ⟨g, 0, none⟩), vv, .func (.func 178) #[] #[]] w fun e w' => e = .returned (.tuple #[]) ∧ WsR g v w (XS ++ listL st1 l) w' := by
  obtain ⟨la, lc, rfl, -, hlm⟩ := hl.len
  have hl64 : l.length < 18446744073709551616 := by unfold maxLen at hlm; omega
  have HU := Lib.hid (wuint_any g v XS l.length w hw hl64 (by simp only [listL, List.length_append] at room; have := vlen15 l.length hl64; omega))
  have hu : IntKind.u64.wrap (l.length : Int) = (l.length : Int) := IntWalk.u64_in _ (by omega)
  have HLA := Lib.hid hl
  have HG := Lib.hid hg
  have HB := Lib.hid hB
  have HW := Lib.hid hw
  have HY := Lib.hid (show True from trivial)
  have HR := Lib.hid room
  obtain ⟨nl, hnl⟩ : ∃ n, n = l.length := ⟨_, rfl⟩
  have HNL := Lib.hid hnl
  rw [← hnl] at hlm hl64 HU hu HLA ⊢
  have hnlI : (nl : Int) ≤ 9223372036854775807 := by unfold maxLen at hlm; omega
  clear hl hg hB hw  room hnl hlm
  go_enter Tryz.func177, Tryz.ntmps177
  go_upto_region 1 with (go_at_call 119; (with_reducible refine HU.out.mono ?_); rintro e w1 hp; obtain ⟨rfl, v1, hw1, hs1⟩ := wpS_next hp; have HM := Lib.hid (show WlR st1 g v w (XS ++ varint nl) l 0 w1 from ⟨v1, by simpa [catL] using hw1, hs1⟩); clear hp hw1 hs1)
  go_wp2_with (fail)
  go_loopw [15] (fun x wr => ∃ k : Nat, k ≤ nl ∧ x = .int .i64 (k : Int) ∧ Hid (WlR st1 g v w (XS ++ varint nl) l k wr)) (fun x _ => nl - (intOf x).toNat)
  case atStart => exact ⟨0, Nat.zero_le _, rfl, HM⟩
  case round =>
    clear HM HU
    obtain ⟨k, hkn, rfl, HM⟩ := hrel
    obtain ⟨v2, hw2, hs2⟩ := HM.out
    by_cases hlt : k < nl
    · have hltI : (k : Int) < (nl : Int) := by omega
      obtain ⟨x, hx⟩ : ∃ x, l[k]? = some x := ⟨l[k]'(by have := HNL.out; omega), List.getElem?_eq_getElem _⟩
      have HX := Lib.hid (HY.out)
      have HT := Lib.hid (catL_take st1 l k x hx)
      have HBr := Lib.hid (HB.out.trans (hs2.below HW.out HG.out))
      have hv := HLA.out.below HBr.out
      rw [HNL.out] at hv
      obtain ⟨ab, ao, rfl, hab, hra⟩ := hv.at hx
      have HWr := Lib.hid hw2
      have HSr := Lib.hid hs2
      have HRM := Lib.hid (show (XS ++ varint nl ++ catL st1 (l.take k)).length + (st1 x).length + 10 ≤ 140737488355328 from by
        have h1 := HR.out
        have h2 := catL_room st1 l (k + 1)
        rw [HT.out] at h2
        rw [List.length_append] at h2
        simp only [listL, List.length_append, ← HNL.out] at h1 ⊢
        omega)
      have hc : wr.cell? ⟨ab, ao + k, none⟩ = some (.string x) := by have := hra 0 _ rfl; rw [Nat.mul_one] at this; exact this
      clear hv hra hx hw2 hs2 HM
      go_upto_region 5 with (first
        | (go_at_call 178; (with_reducible refine (wtext15_any g v2 x _ wr HWr.out HRM.out).mono ?_); rintro e w4 ⟨rfl, v4, hw4, hs4⟩; replace HWr := Lib.hid hw4; replace HSr := Lib.hid (HSr.out.trans hs4); clear hw4 hs4))
      go_wp2_with (fail)
      go_roundw
      case rel => exact ⟨k + 1, by omega, by go_num, Lib.hid ⟨v4, by have h := HWr.out; rw [List.append_assoc] at h; rw [HT.out]; exact h, HSr.out⟩⟩
      case measure => simp [intOf]; omega
    · obtain rfl : k = nl := by omega
      go_wp2_with (fail)
      go_end0
      refine ⟨rfl, v2, ?_, hs2⟩
      rw [show listL st1 l = varint k ++ catL st1 (l.take k) from by unfold listL; rw [← HNL.out, HNL.out, List.take_length], ← List.append_assoc]
      exact hw2
set_option maxHeartbeats 8000000 in
theorem wlist15I_any (w0 : World) (g : Nat) (hg : w0.heap.size ≤ g) (l : List Int) (vv : Value) (hl : ItIn w0 vv l) (ho : ∀ i ∈ l, i64b i) (v : Value) (XS : List Int) (w : World) (hw : WAt w g v XS) (hB : Below w0.heap.size w0 w) (room : XS.length + (listL it1 l).length + 10 ≤ 140737488355328) :
    Calls Tryz.prog 179 #[.pointer (some ⟨g, 0, none⟩), vv, .func (.func 180) #[] #[]] w fun e w' => e = .returned (.tuple #[]) ∧ WsR g v w (XS ++ listL it1 l) w' := by
  obtain ⟨la, lc, rfl, -, hlm⟩ := hl.len
  have hl64 : l.length < 18446744073709551616 := by unfold maxLen at hlm; omega
  have HU := Lib.hid (wuint_any g v XS l.length w hw hl64 (by simp only [listL, List.length_append] at room; have := vlen15 l.length hl64; omega))
  have hu : IntKind.u64.wrap (l.length : Int) = (l.length : Int) := IntWalk.u64_in _ (by omega)
  have HLA := Lib.hid hl
  have HG := Lib.hid hg
  have HB := Lib.hid hB
  have HW := Lib.hid hw
  have HY := Lib.hid (show ∀ i ∈ l, i64b i from ho)
  have HR := Lib.hid room
  obtain ⟨nl, hnl⟩ : ∃ n, n = l.length := ⟨_, rfl⟩
  have HNL := Lib.hid hnl
  rw [← hnl] at hlm hl64 HU hu HLA ⊢
  have hnlI : (nl : Int) ≤ 9223372036854775807 := by unfold maxLen at hlm; omega
  clear hl hg hB hw ho room hnl hlm
  go_enter Tryz.func179, Tryz.ntmps179
  go_upto_region 1 with (go_at_call 119; (with_reducible refine HU.out.mono ?_); rintro e w1 hp; obtain ⟨rfl, v1, hw1, hs1⟩ := wpS_next hp; have HM := Lib.hid (show WlR it1 g v w (XS ++ varint nl) l 0 w1 from ⟨v1, by simpa [catL] using hw1, hs1⟩); clear hp hw1 hs1)
  go_wp2_with (fail)
  go_loopw [15] (fun x wr => ∃ k : Nat, k ≤ nl ∧ x = .int .i64 (k : Int) ∧ Hid (WlR it1 g v w (XS ++ varint nl) l k wr)) (fun x _ => nl - (intOf x).toNat)
  case atStart => exact ⟨0, Nat.zero_le _, rfl, HM⟩
  case round =>
    clear HM HU
    obtain ⟨k, hkn, rfl, HM⟩ := hrel
    obtain ⟨v2, hw2, hs2⟩ := HM.out
    by_cases hlt : k < nl
    · have hltI : (k : Int) < (nl : Int) := by omega
      obtain ⟨x, hx⟩ : ∃ x, l[k]? = some x := ⟨l[k]'(by have := HNL.out; omega), List.getElem?_eq_getElem _⟩
      have HX := Lib.hid (HY.out x (List.mem_of_getElem? hx))
      have HT := Lib.hid (catL_take it1 l k x hx)
      have HBr := Lib.hid (HB.out.trans (hs2.below HW.out HG.out))
      have hv := HLA.out.below HBr.out
      rw [HNL.out] at hv
      obtain ⟨ab, ao, rfl, hab, hra⟩ := hv.at hx
      have HWr := Lib.hid hw2
      have HSr := Lib.hid hs2
      have HRM := Lib.hid (show (XS ++ varint nl ++ catL it1 (l.take k)).length + (it1 x).length + 10 ≤ 140737488355328 from by
        have h1 := HR.out
        have h2 := catL_room it1 l (k + 1)
        rw [HT.out] at h2
        rw [List.length_append] at h2
        simp only [listL, List.length_append, ← HNL.out] at h1 ⊢
        omega)
      have hc : wr.cell? ⟨ab, ao + k, none⟩ = some (.int .i64 x) := by have := hra 0 _ rfl; rw [Nat.mul_one] at this; exact this
      clear hv hra hx hw2 hs2 HM
      go_upto_region 5 with (first
        | (go_at_call 180; (with_reducible refine (wint15_any g v2 x _ wr HWr.out HX.out HRM.out).mono ?_); rintro e w4 ⟨rfl, v4, hw4, hs4⟩; replace HWr := Lib.hid hw4; replace HSr := Lib.hid (HSr.out.trans hs4); clear hw4 hs4))
      go_wp2_with (fail)
      go_roundw
      case rel => exact ⟨k + 1, by omega, by go_num, Lib.hid ⟨v4, by have h := HWr.out; rw [List.append_assoc] at h; rw [HT.out]; exact h, HSr.out⟩⟩
      case measure => simp [intOf]; omega
    · obtain rfl : k = nl := by omega
      go_wp2_with (fail)
      go_end0
      refine ⟨rfl, v2, ?_, hs2⟩
      rw [show listL it1 l = varint k ++ catL it1 (l.take k) from by unfold listL; rw [← HNL.out, HNL.out, List.take_length], ← List.append_assoc]
      exact hw2
set_option maxHeartbeats 8000000 in
theorem wlist15D_any (w0 : World) (g : Nat) (hg : w0.heap.size ≤ g) (l : List Tb) (vv : Value) (hl : TbIn w0 vv l) (hs : ∀ t ∈ l, BytesIn w0 t.bv t.bs) (v : Value) (XS : List Int) (w : World) (hw : WAt w g v XS) (hB : Below w0.heap.size w0 w) (room : XS.length + (listL tb1 l).length + 10 ≤ 140737488355328) :
    Calls Tryz.prog 181 #[.pointer (some ⟨g, 0, none⟩), vv, .func (.func 182) #[] #[]] w fun e w' => e = .returned (.tuple #[]) ∧ WsR g v w (XS ++ listL tb1 l) w' := by
  obtain ⟨la, lc, rfl, -, hlm⟩ := hl.len
  have hl64 : l.length < 18446744073709551616 := by unfold maxLen at hlm; omega
  have HU := Lib.hid (wuint_any g v XS l.length w hw hl64 (by simp only [listL, List.length_append] at room; have := vlen15 l.length hl64; omega))
  have hu : IntKind.u64.wrap (l.length : Int) = (l.length : Int) := IntWalk.u64_in _ (by omega)
  have HLA := Lib.hid hl
  have HG := Lib.hid hg
  have HB := Lib.hid hB
  have HW := Lib.hid hw
  have HY := Lib.hid (show ∀ t ∈ l, BytesIn w0 t.bv t.bs from hs)
  have HR := Lib.hid room
  obtain ⟨nl, hnl⟩ : ∃ n, n = l.length := ⟨_, rfl⟩
  have HNL := Lib.hid hnl
  rw [← hnl] at hlm hl64 HU hu HLA ⊢
  have hnlI : (nl : Int) ≤ 9223372036854775807 := by unfold maxLen at hlm; omega
  clear hl hg hB hw hs room hnl hlm
  go_enter Tryz.func181, Tryz.ntmps181
  go_upto_region 1 with (go_at_call 119; (with_reducible refine HU.out.mono ?_); rintro e w1 hp; obtain ⟨rfl, v1, hw1, hs1⟩ := wpS_next hp; have HM := Lib.hid (show WlR tb1 g v w (XS ++ varint nl) l 0 w1 from ⟨v1, by simpa [catL] using hw1, hs1⟩); clear hp hw1 hs1)
  go_wp2_with (fail)
  go_loopw [15] (fun x wr => ∃ k : Nat, k ≤ nl ∧ x = .int .i64 (k : Int) ∧ Hid (WlR tb1 g v w (XS ++ varint nl) l k wr)) (fun x _ => nl - (intOf x).toNat)
  case atStart => exact ⟨0, Nat.zero_le _, rfl, HM⟩
  case round =>
    clear HM HU
    obtain ⟨k, hkn, rfl, HM⟩ := hrel
    obtain ⟨v2, hw2, hs2⟩ := HM.out
    by_cases hlt : k < nl
    · have hltI : (k : Int) < (nl : Int) := by omega
      obtain ⟨x, hx⟩ : ∃ x, l[k]? = some x := ⟨l[k]'(by have := HNL.out; omega), List.getElem?_eq_getElem _⟩
      have HX := Lib.hid (HY.out x (List.mem_of_getElem? hx))
      have HT := Lib.hid (catL_take tb1 l k x hx)
      have HBr := Lib.hid (HB.out.trans (hs2.below HW.out HG.out))
      have hv := HLA.out.below HBr.out
      rw [HNL.out] at hv
      obtain ⟨ab, ao, rfl, hab, hra⟩ := hv.at hx
      have HWr := Lib.hid hw2
      have HSr := Lib.hid hs2
      have HRM := Lib.hid (show (XS ++ varint nl ++ catL tb1 (l.take k)).length + (tb1 x).length + 10 ≤ 140737488355328 from by
        have h1 := HR.out
        have h2 := catL_room tb1 l (k + 1)
        rw [HT.out] at h2
        rw [List.length_append] at h2
        simp only [listL, List.length_append, ← HNL.out] at h1 ⊢
        omega)
      have hc : wr.cell? ⟨ab, ao + k, none⟩ = some x.bv := by have := hra 0 _ rfl; rw [Nat.mul_one] at this; exact this
      clear hv hra hx hw2 hs2 HM
      go_upto_region 5 with (first
        | (go_at_call 182; (with_reducible refine (wdata15_any g v2 x _ wr HWr.out w0 HG.out HBr.out HX.out HRM.out).mono ?_); rintro e w4 ⟨rfl, v4, hw4, hs4⟩; replace HWr := Lib.hid hw4; replace HSr := Lib.hid (HSr.out.trans hs4); clear hw4 hs4))
      go_wp2_with (fail)
      go_roundw
      case rel => exact ⟨k + 1, by omega, by go_num, Lib.hid ⟨v4, by have h := HWr.out; rw [List.append_assoc] at h; rw [HT.out]; exact h, HSr.out⟩⟩
      case measure => simp [intOf]; omega
    · obtain rfl : k = nl := by omega
      go_wp2_with (fail)
      go_end0
      refine ⟨rfl, v2, ?_, hs2⟩
      rw [show listL tb1 l = varint k ++ catL tb1 (l.take k) from by unfold listL; rw [← HNL.out, HNL.out, List.take_length], ← List.append_assoc]
      exact hw2
set_option maxHeartbeats 8000000 in
theorem wmsg15_any (m : Mg) (g : Nat) (v : Value) (XS : List Int) (w : World) (hw : WAt w g v XS) (w0 : World) (hg : w0.heap.size ≤ g) (hB : Below w0.heap.size w0 w) (hm : MgE w0 m) (hf : MgFl m) (hl : XS.length + (mg1 m).length + 10 ≤ 140737488355328) :
    Calls Tryz.prog 118 #[.pointer (some ⟨g, 0, none⟩), .agg (mgC m)] w fun e w' => e = .returned (.tuple #[]) ∧ WsR g v w (XS ++ mg1 m) w' := by
  obtain ⟨KI, tv, ts, iv, is, dv, ds⟩ := m
  obtain ⟨⟨a1, c1, e1⟩, ⟨a2, c2, e2⟩, ⟨a3, c3, e3⟩⟩ := hm.v
  simp only at e1 e2 e3
  subst e1 e2 e3
  have HLN := Lib.hid (show (mg1 ⟨KI, .slice a1 ts.length c1, ts, .slice a2 is.length c2, is, .slice a3 ds.length c3, ds⟩).length = (it1 KI).length + ((listL st1 ts).length + ((listL it1 is).length + (listL tb1 ds).length)) from by simp only [mg1, List.length_append])
  have HME := Lib.hid (show mg1 ⟨KI, .slice a1 ts.length c1, ts, .slice a2 is.length c2, is, .slice a3 ds.length c3, ds⟩ = it1 KI ++ (listL st1 ts ++ (listL it1 is ++ listL tb1 ds)) from rfl)
  have HL := Lib.hid hl
  have HK := Lib.hid (show i64b KI from hf.k)
  have HKL := Lib.hid (show (it1 KI).length = (varint (zig KI)).length from rfl)
  have HWS := Lib.hid (fun v XS w hw hB room => wlist15S_any w0 g hg ts (.slice a1 ts.length c1) hm.t v XS w hw hB room)
  have HWI := Lib.hid (fun v XS w hw hB room => wlist15I_any w0 g hg is (.slice a2 is.length c2) hm.i hf.i v XS w hw hB room)
  have HWD := Lib.hid (fun v XS w hw hB room => wlist15D_any w0 g hg ds (.slice a3 ds.length c3) hm.d hm.b v XS w hw hB room)
  have HWN := Lib.hid (fun v XS w hw room => wint_any g v KI XS w hw hf.k.1 hf.k.2 room)
  have HB := Lib.hid hB
  have HG := Lib.hid hg
  have HW0 := Lib.hid hw
  obtain ⟨M1, hM1⟩ : ∃ x, x = mg1 ⟨KI, .slice a1 ts.length c1, ts, .slice a2 is.length c2, is, .slice a3 ds.length c3, ds⟩ := ⟨_, rfl⟩
  rw [← hM1] at HLN HME HL ⊢
  obtain ⟨n1, hn1⟩ : ∃ x, x = ts.length := ⟨_, rfl⟩
  obtain ⟨n2, hn2⟩ : ∃ x, x = is.length := ⟨_, rfl⟩
  obtain ⟨n3, hn3⟩ : ∃ x, x = ds.length := ⟨_, rfl⟩
  rw [← hn1] at HWS
  rw [← hn2] at HWI
  rw [← hn3] at HWD
  have hCe : mgC ⟨KI, .slice a1 ts.length c1, ts, .slice a2 is.length c2, is, .slice a3 ds.length c3, ds⟩ = #[.int .i64 KI, .slice a1 n1 c1, .slice a2 n2 c2, .slice a3 n3 c3] := by rw [hn1, hn2, hn3]; rfl
  rw [hCe]
  clear hM1 hn1 hn2 hn3 hCe hm hf hg hl hB
  have HBA := Lib.hid (below_alloc w (.cells #[.int .i64 KI, .slice a1 n1 c1, .slice a2 n2 c2, .slice a3 n3 c3] 113))
  have HQ := Lib.hid (heap_alloc_new w (.cells #[.int .i64 KI, .slice a1 n1 c1, .slice a2 n2 c2, .slice a3 n3 c3] 113))
  have HW := Lib.hid (hw.below HBA.out)
  have HS := Lib.hid (WStep.of_below (p := g) (v := v) HBA.out)
  have HNE := Lib.hid (show w.heap.size ≠ g ∧ some w.heap.size ≠ v.ownBlock from ⟨by have := hw.lt; omega, fun e => by have := (hw.ne _ e.symm).2; omega⟩)
  have HQB := Lib.hid (show w.heap.size < (w.alloc (.cells #[.int .i64 KI, .slice a1 n1 c1, .slice a2 n2 c2, .slice a3 n3 c3] 113)).heap.size by simp)
  clear hw
  go_enter Tryz.func118, Tryz.ntmps118
  go_upto_region 1 with (fail)
  obtain ⟨q, hq⟩ : ∃ q, q = w.heap.size := ⟨_, rfl⟩
  rw [← hq] at HQ HNE HQB ⊢
  clear hq HBA
  generalize w.alloc (.cells #[.int .i64 KI, .slice a1 n1 c1, .slice a2 n2 c2, .slice a3 n3 c3] 113) = w1 at *
  have HSX := Lib.hid (show ∀ v' X, WStep g v v' w1 X → X.heap[q]? = some (.cells #[.int .i64 KI, .slice a1 n1 c1, .slice a2 n2 c2, .slice a3 n3 c3] 113 (0, 0)) from fun v' X hs => (hs.block q HQB.out HNE.out.1 HNE.out.2).trans HQ.out)
  have HZ := Lib.hid (WStep.refl g v w1)
  have k0 := cell_of_row w1 q 0 _ _ _ HQ.out
  simp only [List.getElem?_toArray, List.getElem?_cons_zero, Nat.zero_add] at k0
  go_upto_region 2 with (go_at_call 116; (with_reducible refine (HWN.out v XS w1 HW.out (by have := HL.out; have := HLN.out; omega)).mono ?_); rintro e w2 hp; obtain ⟨rfl, v2, hw, hs⟩ := wpS_next hp; replace HW := Lib.hid hw; replace HS := Lib.hid (HS.out.trans hs); replace HZ := Lib.hid (HZ.out.trans hs); clear hp hw hs)
  clear k0
  have k1 := cell_of_row w2 q 1 _ _ _ (HSX.out _ _ HZ.out)
  simp only [List.getElem?_toArray, List.getElem?_cons_zero, List.getElem?_cons_succ] at k1
  go_upto_region 3 with (go_at_call 177; (with_reducible refine (HWS.out _ _ w2 HW.out (HB.out.trans (HS.out.below HW0.out HG.out)) (by have := HL.out; have := HLN.out; have := HKL.out; simp only [List.length_append]; omega)).mono ?_); rintro e w3 ⟨rfl, v3, hw, hs⟩; replace HW := Lib.hid hw; replace HS := Lib.hid (HS.out.trans hs); replace HZ := Lib.hid (HZ.out.trans hs); clear hw hs)
  clear k1
  have k2 := cell_of_row w3 q 2 _ _ _ (HSX.out _ _ HZ.out)
  simp only [List.getElem?_toArray, List.getElem?_cons_zero, List.getElem?_cons_succ] at k2
  go_upto_region 4 with (go_at_call 179; (with_reducible refine (HWI.out _ _ w3 HW.out (HB.out.trans (HS.out.below HW0.out HG.out)) (by have := HL.out; have := HLN.out; have := HKL.out; simp only [List.length_append]; omega)).mono ?_); rintro e w4 ⟨rfl, v4, hw, hs⟩; replace HW := Lib.hid hw; replace HS := Lib.hid (HS.out.trans hs); replace HZ := Lib.hid (HZ.out.trans hs); clear hw hs)
  clear k2
  have k3 := cell_of_row w4 q 3 _ _ _ (HSX.out _ _ HZ.out)
  simp only [List.getElem?_toArray, List.getElem?_cons_zero, List.getElem?_cons_succ] at k3
  go_upto_region 5 with (go_at_call 181; (with_reducible refine (HWD.out _ _ w4 HW.out (HB.out.trans (HS.out.below HW0.out HG.out)) (by have := HL.out; have := HLN.out; have := HKL.out; simp only [List.length_append]; omega)).mono ?_); rintro e w5 ⟨rfl, v5, hw, hs⟩; replace HW := Lib.hid hw; replace HS := Lib.hid (HS.out.trans hs); replace HZ := Lib.hid (HZ.out.trans hs); clear hw hs)
  go_wp2_with (fail)
  go_end0
  refine ⟨rfl, v5, ?_, HS.out⟩
  have h := HW.out
  rw [HME.out]
  simpa only [it1, List.append_assoc] using h
set_option maxHeartbeats 8000000 in
theorem wlist15M_any (w0 : World) (g : Nat) (hg : w0.heap.size ≤ g) (l : List Mg) (vv : Value) (hl : MgIn w0 vv l) (hs : ∀ m ∈ l, MgE w0 m) (ho : ∀ m ∈ l, MgFl m) (v : Value) (XS : List Int) (w : World) (hw : WAt w g v XS) (hB : Below w0.heap.size w0 w) (room : XS.length + (listL mg1 l).length + 10 ≤ 140737488355328) :
    Calls Tryz.prog 117 #[.pointer (some ⟨g, 0, none⟩), vv, .func (.func 118) #[] #[]] w fun e w' => e = .returned (.tuple #[]) ∧ WsR g v w (XS ++ listL mg1 l) w' := by
  obtain ⟨la, lc, rfl, -, hlm⟩ := hl.len
  have hl64 : l.length < 18446744073709551616 := by unfold maxLen at hlm; omega
  have HU := Lib.hid (wuint_any g v XS l.length w hw hl64 (by simp only [listL, List.length_append] at room; have := vlen15 l.length hl64; omega))
  have hu : IntKind.u64.wrap (l.length : Int) = (l.length : Int) := IntWalk.u64_in _ (by omega)
  have HLA := Lib.hid hl
  have HG := Lib.hid hg
  have HB := Lib.hid hB
  have HW := Lib.hid hw
  have HY := Lib.hid (show ∀ m ∈ l, MgFl m ∧ MgE w0 m from fun m h => ⟨ho m h, hs m h⟩)
  have HR := Lib.hid room
  obtain ⟨nl, hnl⟩ : ∃ n, n = l.length := ⟨_, rfl⟩
  have HNL := Lib.hid hnl
  rw [← hnl] at hlm hl64 HU hu HLA ⊢
  have hnlI : (nl : Int) ≤ 9223372036854775807 := by unfold maxLen at hlm; omega
  clear hl hg hB hw hs ho room hnl hlm
  go_enter Tryz.func117, Tryz.ntmps117
  go_upto_region 1 with (go_at_call 119; (with_reducible refine HU.out.mono ?_); rintro e w1 hp; obtain ⟨rfl, v1, hw1, hs1⟩ := wpS_next hp; have HM := Lib.hid (show WlR mg1 g v w (XS ++ varint nl) l 0 w1 from ⟨v1, by simpa [catL] using hw1, hs1⟩); clear hp hw1 hs1)
  go_wp2_with (fail)
  go_loopw [15] (fun x wr => ∃ k : Nat, k ≤ nl ∧ x = .int .i64 (k : Int) ∧ Hid (WlR mg1 g v w (XS ++ varint nl) l k wr)) (fun x _ => nl - (intOf x).toNat)
  case atStart => exact ⟨0, Nat.zero_le _, rfl, HM⟩
  case round =>
    clear HM HU
    obtain ⟨k, hkn, rfl, HM⟩ := hrel
    obtain ⟨v2, hw2, hs2⟩ := HM.out
    by_cases hlt : k < nl
    · have hltI : (k : Int) < (nl : Int) := by omega
      obtain ⟨x, hx⟩ : ∃ x, l[k]? = some x := ⟨l[k]'(by have := HNL.out; omega), List.getElem?_eq_getElem _⟩
      have HX := Lib.hid (HY.out x (List.mem_of_getElem? hx))
      have HT := Lib.hid (catL_take mg1 l k x hx)
      have HBr := Lib.hid (HB.out.trans (hs2.below HW.out HG.out))
      have hv := HLA.out.below HBr.out
      rw [HNL.out] at hv
      obtain ⟨ab, ao, rfl, hab, hra⟩ := hv.at hx
      have HWr := Lib.hid hw2
      have HSr := Lib.hid hs2
      have HRM := Lib.hid (show (XS ++ varint nl ++ catL mg1 (l.take k)).length + (mg1 x).length + 10 ≤ 140737488355328 from by
        have h1 := HR.out
        have h2 := catL_room mg1 l (k + 1)
        rw [HT.out] at h2
        rw [List.length_append] at h2
        simp only [listL, List.length_append, ← HNL.out] at h1 ⊢
        omega)
      have HRA := Lib.hid hra
      obtain ⟨CV, hCV⟩ : ∃ c, c = mgC x := ⟨_, rfl⟩
      have HCV := Lib.hid hCV
      have HCS := Lib.hid (show CV.size = 4 from by rw [hCV]; rfl)
      have HCO := Lib.hid (show CV.all (·.oneCell') = true from by rw [hCV]; exact mgC_one HX.out.2.v)
      have HRC := Lib.hid (show wr.rangeAt ab (ao + k * 4) CV.toList from by rw [hCV]; exact hra)
      clear hv hra hx hw2 hs2 HM hCV
      go_upto_region 5 with (first
        | (refine wpList_load_rowT (by rfl) 113 (.tmp 17) rfl ab (ao + k * 4) rfl CV _ HRC.out Tryz.underlying113 rfl (by rw [HCS.out]; kernel_rfl) ?_)
        | (refine wpList_store_row rfl 113 (.tmp 7) (.tmp 18) rfl wr.heap.size CV rfl rfl 113 _ (heap_alloc_new _ _) (by rw [HCS.out]; kernel_rfl) (by rw [HCS.out]; rfl) HCO.out ?_; rw [World.setRow_alloc_new]; have HQ := Lib.hid (heap_alloc_new wr (.cells CV 113)); have hb := below_alloc wr (.cells CV 113); replace HWr := Lib.hid (HWr.out.below hb); replace HSr := Lib.hid (HSr.out.trans (WStep.of_below hb)); replace HBr := Lib.hid (HBr.out.trans (hb.mono HBr.out.size)); clear hb; obtain ⟨q, hq⟩ : ∃ q, q = wr.heap.size := ⟨_, rfl⟩; rw [← hq] at HQ ⊢; clear hq; generalize wr.alloc (.cells CV 113) = w3 at *)
        | (refine wpList_load_rowT (by rfl) 113 (.tmp 7) rfl q 0 rfl CV _ (rowT_range HQ.out) Tryz.underlying113 rfl (by rw [HCS.out]; kernel_rfl) ?_)
        | (rw [HCV.out]; go_at_call 118; (with_reducible refine (wmsg15_any x g v2 _ w3 HWr.out w0 HG.out HBr.out HX.out.2 HX.out.1 HRM.out).mono ?_); rintro e w4 ⟨rfl, v4, hw4, hs4⟩; replace HWr := Lib.hid hw4; replace HSr := Lib.hid (HSr.out.trans hs4); clear hw4 hs4))
      go_wp2_with (fail)
      go_roundw
      case rel => exact ⟨k + 1, by omega, by go_num, Lib.hid ⟨v4, by have h := HWr.out; rw [List.append_assoc] at h; rw [HT.out]; exact h, HSr.out⟩⟩
      case measure => simp [intOf]; omega
    · obtain rfl : k = nl := by omega
      go_wp2_with (fail)
      go_end0
      refine ⟨rfl, v2, ?_, hs2⟩
      rw [show listL mg1 l = varint k ++ catL mg1 (l.take k) from by unfold listL; rw [← HNL.out, HNL.out, List.take_length], ← List.append_assoc]
      exact hw2
end Go.Proofs.YtejglhlodfhgkaaGreatDoor
