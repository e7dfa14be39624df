/- Part 12 of the proof. -/
import Derived.Shelf.Strings.SlTrimAscii
import Derived.Shelf.Strings.OnBuilder
import Derived.Shelf.Strings.Search2
import Derived.Test.YtejglhlodfhgkaaGreatDoorProg
import Derived.Great.BuildSlice
import Derived.Shelf.Small.Wraps
import Derived.Shelf.Strings.Split
import Derived.Laws.BytesArg
import Derived.Test.YtejglhlodfhgkaaGreatDoorBp1
import Derived.Test.YtejglhlodfhgkaaGreatDoorBp2
import Derived.Test.YtejglhlodfhgkaaGreatDoorBp5
import Derived.Test.YtejglhlodfhgkaaGreatDoorBp6
import Derived.Test.YtejglhlodfhgkaaGreatDoorBp7
import Derived.Test.YtejglhlodfhgkaaGreatDoorBp11
namespace Go.Proofs.YtejglhlodfhgkaaGreatDoor
set_option linter.unusedVariables false
set_option linter.unusedSimpArgs false
open Go.RowKit
set_option maxRecDepth 100000
set_option linter.unusedSimpArgs false
set_option linter.unusedVariables false
def balK (n d : ByteArray) : ByteArray := (({ data := #[98, 97, 110, 107, 47] } ++ n) ++ { data := #[47] }) ++ d
def supK (d : ByteArray) : ByteArray := { data := #[115, 117, 112, 112, 108, 121, 47] } ++ d
theorem size_app16 (a b : ByteArray) : (a ++ b).size = a.size + b.size := ByteArray.size_append
theorem balK_size (n d : ByteArray) : (balK n d).size = 6 + n.size + d.size := by
  unfold balK
  rw [size_app16, size_app16, size_app16]
  show 5 + n.size + 1 + d.size = _
  omega
theorem supK_size (d : ByteArray) : (supK d).size = 7 + d.size := by unfold supK; rw [size_app16]; rfl
theorem bkbal_any (n d : ByteArray) (w : World) (hs : n.size + d.size ≤ 281474976710656) : Calls Tryz.prog 98 #[.string n, .string d] w fun e w' => e = .returned (.string (balK n d)) ∧ w' = w := by
  have s1 : ({ data := #[98, 97, 110, 107, 47] } ++ n : ByteArray).size = 5 + n.size := by rw [size_app16]; rfl
  have s2 : (({ data := #[98, 97, 110, 107, 47] } ++ n : ByteArray) ++ { data := #[47] }).size = 6 + n.size := by rw [size_app16, s1]; show 5 + n.size + 1 = _; omega
  have z1 : ¬ 9223372036854775807 < 5 + n.size := by omega
  have z1' : ¬ 9223372036854775807 < ({ data := #[98, 97, 110, 107, 47] } : ByteArray).size + n.size := z1
  have z2 : ¬ 9223372036854775807 < ({ data := #[98, 97, 110, 107, 47] } ++ n : ByteArray).size + 1 := by rw [s1]; omega
  have z2' : ¬ 9223372036854775807 < ({ data := #[98, 97, 110, 107, 47] } ++ n : ByteArray).size + ({ data := #[47] } : ByteArray).size := z2
  have z3 : ¬ 9223372036854775807 < (({ data := #[98, 97, 110, 107, 47] } ++ n : ByteArray) ++ { data := #[47] }).size + d.size := by rw [s2]; omega
  clear s1 s2 hs
  go_enter Tryz.func98, Tryz.ntmps98
  go_wp2_with (fail)
  go_ret
  exact ⟨rfl, rfl⟩
theorem bksup_any (d : ByteArray) (w : World) (hs : d.size ≤ 281474976710656) : Calls Tryz.prog 100 #[.string d] w fun e w' => e = .returned (.string (supK d)) ∧ w' = w := by
  have z1 : ¬ 9223372036854775807 < 7 + d.size := by omega
  have z1' : ¬ 9223372036854775807 < ({ data := #[115, 117, 112, 112, 108, 121, 47] } : ByteArray).size + d.size := z1
  clear hs
  go_enter Tryz.func100, Tryz.ntmps100
  go_wp2_with (fail)
  go_ret
  exact ⟨rfl, rfl⟩
def bkDec (s : ByteArray) : Int := if (doneE (intS (numsOf s, none)).2).isNone then (intS (numsOf s, none)).1 else 0
def bkV (t : Option AvT) (k : ByteArray) : Int := bkDec (strO (getO t k))
theorem numsOf_ok (s : ByteArray) : bytesOk (numsOf s) := fun x hx => by
  unfold numsOf at hx
  obtain ⟨b, -, e⟩ := List.mem_map.1 hx
  have := b.toNat_lt
  omega
set_option maxHeartbeats 1000000 in
theorem bkdec_any (s : ByteArray) (w : World) (hs : s.size ≤ 140737488351232) : Calls Tryz.prog 104 #[.string s] w fun e w' => e = .returned (.int .i64 (bkDec s)) ∧ Below w.heap.size w w' := by
  have HB := Lib.hid (bytesW_below w s)
  have HY := Lib.hid (bytesW_in w s (by unfold maxLen; omega))
  have hcv : ∀ w : World, (convert 9 25 (.string s)).run Tryz.prog w = .ok (.slice (some ⟨w.heap.size, 0, none⟩) s.size (grownCap w s.size 0 5)) (bytesW w s) :=
    fun w => run_bytes_of_string w 9 25 5 s Tryz.underlying9 Tryz.underlying25 Tryz.underlying5
  have HOK := Lib.hid (numsOf_ok s)
  have HL := Lib.hid (show (numsOf s).length ≤ 140737488355328 from by rw [numsOf_length]; omega)
  obtain ⟨n, s1, h1⟩ : ∃ n s1, intS (numsOf s, none) = (n, s1) := ⟨_, _, rfl⟩
  obtain ⟨r, hr⟩ : ∃ r, r = bkDec s := ⟨_, rfl⟩
  rw [← hr]
  have HR := Lib.hid (show r = if (doneE s1).isNone then n else 0 from by rw [hr]; unfold bkDec; rw [h1])
  have HI := Lib.hid (show ∀ w p, RS w p (numsOf s, none) → Calls Tryz.prog 93 #[.pointer (some ⟨p, 0, none⟩)] w fun r w' => r = .returned (.int .i64 n) ∧ RS w' p s1 ∧ Only p w w' from fun w p h => by
    have := int_any p (numsOf s, none) w h; rw [h1] at this; exact this)
  obtain ⟨E, hE⟩ : ∃ E, E = doneE s1 := ⟨_, rfl⟩
  have HD := Lib.hid (show ∀ w p, RS w p s1 → Calls Tryz.prog 68 #[.pointer (some ⟨p, 0, none⟩)] w fun r w' => r = .returned (errV E) ∧ w' = w from fun w p h => by
    have := rdone_any p s1 w h; rw [← hE] at this; exact this)
  rw [← hE] at HR
  clear h1 hr hE hs
  cases E with
  | none =>
    have HF := Lib.hid (show r = n from by rw [HR.out]; rfl)
    simp only [errV] at HD
    clear HR
    go_enter Tryz.func104, Tryz.ntmps104
    go_wp2_with (first
      | (go_at_call 66; (with_reducible refine (read_any _ (numsOf s) _ HY.out HOK.out HL.out).mono ?_); rintro e w2 ⟨p, y, rfl, hp, hr, hb2⟩; have HP := Lib.hid hp; have RS0 := Lib.hid (show RS w2 p (numsOf s, none) from ⟨y, hr⟩); replace HB := Lib.hid (HB.out.trans (hb2.mono HB.out.size)); clear hp hr hb2)
      | (go_at_call 93; (with_reducible refine (HI.out _ p RS0.out).mono ?_); rintro e w3 ⟨rfl, hrs, ho⟩; replace RS0 := Lib.hid hrs; replace HB := Lib.hid (HB.out.trans (ho.below (by have := HP.out; have := HB.out.size; have := (bytesW_below w s).size; omega) HB.out.size)); clear hrs ho)
      | (go_at_call 68; (with_reducible refine (HD.out _ p RS0.out).mono ?_); rintro e w4 ⟨rfl, rfl⟩))
    go_ret
    exact ⟨by rw [HF.out]; rfl, HB.out⟩
  | some x =>
    have HF := Lib.hid (show r = 0 from by rw [HR.out]; rfl)
    simp only [errV] at HD
    clear HR
    go_enter Tryz.func104, Tryz.ntmps104
    go_wp2_with (first
      | (go_at_call 66; (with_reducible refine (read_any _ (numsOf s) _ HY.out HOK.out HL.out).mono ?_); rintro e w2 ⟨p, y, rfl, hp, hr, hb2⟩; have HP := Lib.hid hp; have RS0 := Lib.hid (show RS w2 p (numsOf s, none) from ⟨y, hr⟩); replace HB := Lib.hid (HB.out.trans (hb2.mono HB.out.size)); clear hp hr hb2)
      | (go_at_call 93; (with_reducible refine (HI.out _ p RS0.out).mono ?_); rintro e w3 ⟨rfl, hrs, ho⟩; replace RS0 := Lib.hid hrs; replace HB := Lib.hid (HB.out.trans (ho.below (by have := HP.out; have := HB.out.size; have := (bytesW_below w s).size; omega) HB.out.size)); clear hrs ho)
      | (go_at_call 68; (with_reducible refine (HD.out _ p RS0.out).mono ?_); rintro e w4 ⟨rfl, rfl⟩))
    go_ret
    exact ⟨by rw [HF.out]; rfl, HB.out⟩
theorem bknum_any (va : Value) (t : Option AvT) (k : ByteArray) (w : World) (ht : TreeO w va t) (hs : (strO (getO t k)).size ≤ 140737488351232) : Calls Tryz.prog 97 #[va, .string k] w fun e w' => e = .returned (.int .i64 (bkV t k)) ∧ Below w.heap.size w w' := by
  have HG := Lib.hid (get_any va k t w ht)
  have HD := Lib.hid (fun w => bkdec_any (strO (getO t k)) w hs)
  obtain ⟨s, hS⟩ : ∃ s, s = strO (getO t k) := ⟨_, rfl⟩
  obtain ⟨b, hb⟩ : ∃ b, b = (getO t k).isSome := ⟨_, rfl⟩
  obtain ⟨r, hr⟩ : ∃ r, r = bkDec s := ⟨_, rfl⟩
  have HR := Lib.hid (show r = bkV t k from by rw [hr, hS]; rfl)
  rw [← hS, ← hb] at HG
  rw [← hS, ← hr] at HD
  rw [← HR.out]
  clear hs ht hS hb hr
  go_enter Tryz.func97, Tryz.ntmps97
  go_wp2_with (first
    | (go_at_call 91; (with_reducible refine HG.out.mono ?_); rintro e w1 ⟨rfl, rfl⟩)
    | (go_at_call 104; (with_reducible refine (HD.out _).mono ?_); rintro e w2 ⟨rfl, hb⟩; have HB := Lib.hid hb; clear hb))
  go_ret
  exact ⟨rfl, HB.out⟩
def encI (n : Int) : ByteArray := strOfNums (varint (zig n))
def chgT (t : Option AvT) (k : ByteArray) (n : Int) : Option AvT := if n = 0 then dropO t k else some (setO t k (encI n))
def chgO (E : Option Nat) (t : Option AvT) (k : ByteArray) (n : Int) : Option AvT := match E with
  | none => chgT t k n
  | some _ => none
def ChgPost (E : Option Nat) (T : Option AvT) (w : World) (e : Ending) (w' : World) : Prop := ∃ v, e = .returned (.tuple #[v, errV E]) ∧ TreeO w' v T ∧ Below w.heap.size w w'
theorem varint_ok (n : Nat) : bytesOk (varint n) := fun x hx => by
  unfold varint at hx
  obtain ⟨i, hi, rfl⟩ := List.mem_map.1 hx
  have := gby_lt (List.mem_range.1 hi)
  omega
set_option maxHeartbeats 2000000 in
theorem bkchgadd_any (va : Value) (t : Option AvT) (k : ByteArray) (x : Int) (w : World) (he : Env w) (ht : TreeO w va t) (hs : (strO (getO t k)).size ≤ 140737488351232) (hk : k.size ≤ 140737488351000) (hm : manyO t + 1 ≤ 4611686018427387904) :
    Calls Tryz.prog 113 #[va, .string k, .func (.func 103) #[] #[], .int .i64 x] w (ChgPost (addE (bkV t k) x) (chgO (addE (bkV t k) x) t k (addR (bkV t k) x)) w) := by
  have HN := Lib.hid (bknum_any va t k w ht hs)
  obtain ⟨n, hn⟩ : ∃ n, n = bkV t k := ⟨_, rfl⟩
  rw [← hn] at HN ⊢
  have HA := Lib.hid (fun w => cadd_any n x w)
  have HAM := Lib.hid (show addE n x = none → 0 ≤ addR n x ∧ addR n x ≤ 1152921504606846976 from fun h => by
    unfold addR; rw [if_pos h]
    unfold addE at h
    by_cases h1 : amt n ∧ amt x
    · rw [if_pos h1] at h
      obtain ⟨⟨a1, a2⟩, b1, b2⟩ := h1
      split at h
      · omega
      · cases h
    · rw [if_neg h1] at h; cases h)
  obtain ⟨E, hE⟩ : ∃ E, E = addE n x := ⟨_, rfl⟩
  obtain ⟨R, hR⟩ : ∃ R, R = addR n x := ⟨_, rfl⟩
  rw [← hE, ← hR] at HA HAM ⊢
  have HT := Lib.hid ht
  have HE := Lib.hid he
  have HL := Lib.hid he.lt
  clear hn hE hR ht he hs
  unfold ChgPost
  cases E with
  | some e =>
    simp only [errV, chgO] at HA ⊢
    go_enter Tryz.func113, Tryz.ntmps113
    go_wp2_with (first
      | (go_at_call 97; (with_reducible refine HN.out.mono ?_); rintro e w1 ⟨rfl, hb⟩; have HB := Lib.hid hb; clear hb)
      | (go_at_call 103; (with_reducible refine (HA.out _).mono ?_); rintro e w2 ⟨rfl, hb⟩; replace HB := Lib.hid (HB.out.trans (hb.mono HB.out.size)); clear hb))
    go_ret2
    exact ⟨_, rfl, rfl, HB.out⟩
  | none =>
    obtain ⟨r0, r1⟩ := HAM.out rfl
    simp only [errV, chgO] at HA ⊢
    by_cases hz : R = 0
    · have HC := Lib.hid (show chgT t k R = dropO t k from if_pos hz)
      rw [HC.out]
      clear HC r0 r1
      subst hz
      go_enter Tryz.func113, Tryz.ntmps113
      go_wp2_with (first
        | (go_at_call 97; (with_reducible refine HN.out.mono ?_); rintro e w1 ⟨rfl, hb⟩; have HB := Lib.hid hb; clear hb)
        | (go_at_call 103; (with_reducible refine (HA.out _).mono ?_); rintro e w2 ⟨rfl, hb⟩; replace HB := Lib.hid (HB.out.trans (hb.mono HB.out.size)); clear hb)
        | (go_at_call 175; (with_reducible refine (drop_any va t k _ (HE.out.below HB.out HL.out) (HT.out.below HB.out) (by omega)).mono ?_); rintro e w3 ⟨v3, rfl, ht3, hb⟩; have HT3 := Lib.hid ht3; replace HB := Lib.hid (HB.out.trans (hb.mono HB.out.size)); clear hb ht3))
      go_ret2
      exact ⟨_, rfl, HT3.out, HB.out⟩
    · have HC := Lib.hid (show chgT t k R = some (setO t k (encI R)) from if_neg hz)
      rw [HC.out]
      have HZL := Lib.hid (show (varint (zig R)).length ≤ 10 from vlen _ (zig_lt (by omega) (by omega)))
      have HES := Lib.hid (show (encI R).size ≤ 10 from by unfold encI; rw [strOfNums_size]; exact HZL.out)
      have HEN := Lib.hid (show encI R = strOfNums (varint (zig R)) from rfl)
      obtain ⟨XS, hXS⟩ : ∃ X, X = varint (zig R) := ⟨_, rfl⟩
      obtain ⟨V, hV⟩ : ∃ X, X = encI R := ⟨_, rfl⟩
      have HRR := Lib.hid (show -9223372036854775808 ≤ R ∧ R ≤ 9223372036854775807 from by omega)
      have HWI := Lib.hid (show ∀ p B w0 w, WAt w p (.slice none 0 0) [] → Below B w0 w → B ≤ p → Calls Tryz.prog 116 #[.pointer (some ⟨p, 0, none⟩), .int .i64 R] w fun e w' => e = .returned (.pointer (some ⟨p, 0, none⟩)) ∧ ∃ v', WAt w' p v' XS ∧ Below B w0 w' from fun p B w0 w hw hb hB => by
        have h := (wint_any p _ R [] w hw HRR.out.1 HRR.out.2 (by simp)).mono fun _ _ h => wpost_on h hw hb hB
        rw [List.nil_append, ← hXS] at h; exact h)
      rw [← hXS] at HZL HEN
      rw [← hV] at HES HEN ⊢
      clear HC r0 r1 hXS hV
      go_enter Tryz.func113, Tryz.ntmps113
      go_wp2_with (first
        | (go_at_call 97; (with_reducible refine HN.out.mono ?_); rintro e w1 ⟨rfl, hb⟩; have HB := Lib.hid hb; clear hb)
        | (go_at_call 103; (with_reducible refine (HA.out _).mono ?_); rintro e w2 ⟨rfl, hb⟩; replace HB := Lib.hid (HB.out.trans (hb.mono HB.out.size)); clear hb)
        | (go_at_call 51; (with_reducible refine (new_on w2).mono ?_); rintro e w3 ⟨rfl, HW, HB2⟩; replace HW := Lib.hid HW; replace HB2 := Lib.hid HB2)
        | (go_at_call 116; (with_reducible refine (HWI.out w2.heap.size w2.heap.size w2 _ HW.out HB2.out (Nat.le_refl _)).mono ?_); rintro e w4 ⟨rfl, v4, hw4, hb4⟩; replace HW := Lib.hid hw4; replace HB2 := Lib.hid hb4; clear hw4 hb4)
        | (go_at_call 54; (with_reducible refine (wdone_on w2.heap.size w2.heap.size _ _ _ _ HW.out HB2.out (Nat.le_refl _) (by have := HZL.out; omega)).mono ?_); rintro e w5 ⟨v5, rfl, hw5, hb5⟩; replace HB2 := Lib.hid hb5; replace HB := Lib.hid (HB.out.trans (hb5.mono HB.out.size)); have hcv : (convert 25 9 v5).run Tryz.prog w5 = .ok (.string V) w5 := (conv_bytes w5 v5 _ hw5).trans (by rw [HEN.out]); clear hw5 hb5)
        | (go_at_call 84; (with_reducible refine (set_any va t k V _ (HE.out.below HB.out HL.out) (HT.out.below HB.out) (by have := HES.out; omega) hm).mono ?_); rintro e w6 hn6; obtain ⟨g6, rfl, ht6, hb6⟩ := hn6; have HT6 := Lib.hid ht6; replace HB := Lib.hid (HB.out.trans (hb6.mono HB.out.size)); clear ht6 hb6))
      go_ret2
      exact ⟨_, rfl, HT6.out.toO, HB.out⟩
set_option maxHeartbeats 2000000 in
theorem bkchgsub_any (va : Value) (t : Option AvT) (k : ByteArray) (x : Int) (w : World) (he : Env w) (ht : TreeO w va t) (hs : (strO (getO t k)).size ≤ 140737488351232) (hk : k.size ≤ 140737488351000) (hm : manyO t + 1 ≤ 4611686018427387904) :
    Calls Tryz.prog 113 #[va, .string k, .func (.func 114) #[] #[], .int .i64 x] w (ChgPost (subE (bkV t k) x) (chgO (subE (bkV t k) x) t k (subR (bkV t k) x)) w) := by
  have HN := Lib.hid (bknum_any va t k w ht hs)
  obtain ⟨n, hn⟩ : ∃ n, n = bkV t k := ⟨_, rfl⟩
  rw [← hn] at HN ⊢
  have HA := Lib.hid (fun w => csub_any n x w)
  have HAM := Lib.hid (show subE n x = none → 0 ≤ subR n x ∧ subR n x ≤ 1152921504606846976 from fun h => by
    unfold subR; rw [if_pos h]
    unfold subE at h
    by_cases h1 : amt n ∧ amt x
    · rw [if_pos h1] at h
      obtain ⟨⟨a1, a2⟩, b1, b2⟩ := h1
      split at h
      · omega
      · cases h
    · rw [if_neg h1] at h; cases h)
  obtain ⟨E, hE⟩ : ∃ E, E = subE n x := ⟨_, rfl⟩
  obtain ⟨R, hR⟩ : ∃ R, R = subR n x := ⟨_, rfl⟩
  rw [← hE, ← hR] at HA HAM ⊢
  have HT := Lib.hid ht
  have HE := Lib.hid he
  have HL := Lib.hid he.lt
  clear hn hE hR ht he hs
  unfold ChgPost
  cases E with
  | some e =>
    simp only [errV, chgO] at HA ⊢
    go_enter Tryz.func113, Tryz.ntmps113
    go_wp2_with (first
      | (go_at_call 97; (with_reducible refine HN.out.mono ?_); rintro e w1 ⟨rfl, hb⟩; have HB := Lib.hid hb; clear hb)
      | (go_at_call 114; (with_reducible refine (HA.out _).mono ?_); rintro e w2 ⟨rfl, hb⟩; replace HB := Lib.hid (HB.out.trans (hb.mono HB.out.size)); clear hb))
    go_ret2
    exact ⟨_, rfl, rfl, HB.out⟩
  | none =>
    obtain ⟨r0, r1⟩ := HAM.out rfl
    simp only [errV, chgO] at HA ⊢
    by_cases hz : R = 0
    · have HC := Lib.hid (show chgT t k R = dropO t k from if_pos hz)
      rw [HC.out]
      clear HC r0 r1
      subst hz
      go_enter Tryz.func113, Tryz.ntmps113
      go_wp2_with (first
        | (go_at_call 97; (with_reducible refine HN.out.mono ?_); rintro e w1 ⟨rfl, hb⟩; have HB := Lib.hid hb; clear hb)
        | (go_at_call 114; (with_reducible refine (HA.out _).mono ?_); rintro e w2 ⟨rfl, hb⟩; replace HB := Lib.hid (HB.out.trans (hb.mono HB.out.size)); clear hb)
        | (go_at_call 175; (with_reducible refine (drop_any va t k _ (HE.out.below HB.out HL.out) (HT.out.below HB.out) (by omega)).mono ?_); rintro e w3 ⟨v3, rfl, ht3, hb⟩; have HT3 := Lib.hid ht3; replace HB := Lib.hid (HB.out.trans (hb.mono HB.out.size)); clear hb ht3))
      go_ret2
      exact ⟨_, rfl, HT3.out, HB.out⟩
    · have HC := Lib.hid (show chgT t k R = some (setO t k (encI R)) from if_neg hz)
      rw [HC.out]
      have HZL := Lib.hid (show (varint (zig R)).length ≤ 10 from vlen _ (zig_lt (by omega) (by omega)))
      have HES := Lib.hid (show (encI R).size ≤ 10 from by unfold encI; rw [strOfNums_size]; exact HZL.out)
      have HEN := Lib.hid (show encI R = strOfNums (varint (zig R)) from rfl)
      obtain ⟨XS, hXS⟩ : ∃ X, X = varint (zig R) := ⟨_, rfl⟩
      obtain ⟨V, hV⟩ : ∃ X, X = encI R := ⟨_, rfl⟩
      have HRR := Lib.hid (show -9223372036854775808 ≤ R ∧ R ≤ 9223372036854775807 from by omega)
      have HWI := Lib.hid (show ∀ p B w0 w, WAt w p (.slice none 0 0) [] → Below B w0 w → B ≤ p → Calls Tryz.prog 116 #[.pointer (some ⟨p, 0, none⟩), .int .i64 R] w fun e w' => e = .returned (.pointer (some ⟨p, 0, none⟩)) ∧ ∃ v', WAt w' p v' XS ∧ Below B w0 w' from fun p B w0 w hw hb hB => by
        have h := (wint_any p _ R [] w hw HRR.out.1 HRR.out.2 (by simp)).mono fun _ _ h => wpost_on h hw hb hB
        rw [List.nil_append, ← hXS] at h; exact h)
      rw [← hXS] at HZL HEN
      rw [← hV] at HES HEN ⊢
      clear HC r0 r1 hXS hV
      go_enter Tryz.func113, Tryz.ntmps113
      go_wp2_with (first
        | (go_at_call 97; (with_reducible refine HN.out.mono ?_); rintro e w1 ⟨rfl, hb⟩; have HB := Lib.hid hb; clear hb)
        | (go_at_call 114; (with_reducible refine (HA.out _).mono ?_); rintro e w2 ⟨rfl, hb⟩; replace HB := Lib.hid (HB.out.trans (hb.mono HB.out.size)); clear hb)
        | (go_at_call 51; (with_reducible refine (new_on w2).mono ?_); rintro e w3 ⟨rfl, HW, HB2⟩; replace HW := Lib.hid HW; replace HB2 := Lib.hid HB2)
        | (go_at_call 116; (with_reducible refine (HWI.out w2.heap.size w2.heap.size w2 _ HW.out HB2.out (Nat.le_refl _)).mono ?_); rintro e w4 ⟨rfl, v4, hw4, hb4⟩; replace HW := Lib.hid hw4; replace HB2 := Lib.hid hb4; clear hw4 hb4)
        | (go_at_call 54; (with_reducible refine (wdone_on w2.heap.size w2.heap.size _ _ _ _ HW.out HB2.out (Nat.le_refl _) (by have := HZL.out; omega)).mono ?_); rintro e w5 ⟨v5, rfl, hw5, hb5⟩; replace HB2 := Lib.hid hb5; replace HB := Lib.hid (HB.out.trans (hb5.mono HB.out.size)); have hcv : (convert 25 9 v5).run Tryz.prog w5 = .ok (.string V) w5 := (conv_bytes w5 v5 _ hw5).trans (by rw [HEN.out]); clear hw5 hb5)
        | (go_at_call 84; (with_reducible refine (set_any va t k V _ (HE.out.below HB.out HL.out) (HT.out.below HB.out) (by have := HES.out; omega) hm).mono ?_); rintro e w6 hn6; obtain ⟨g6, rfl, ht6, hb6⟩ := hn6; have HT6 := Lib.hid ht6; replace HB := Lib.hid (HB.out.trans (hb6.mono HB.out.size)); clear ht6 hb6))
      go_ret2
      exact ⟨_, rfl, HT6.out.toO, HB.out⟩
end Go.Proofs.YtejglhlodfhgkaaGreatDoor
namespace Go.Proofs.YtejglhlodfhgkaaGreatDoor
set_option linter.unusedVariables false
set_option linter.unusedSimpArgs false
open Go.RowKit
set_option maxRecDepth 100000
set_option linter.unusedSimpArgs false
set_option linter.unusedVariables false
/-- a tree as the law grows it -/
structure GT (N n : Nat) (t : Option AvT) : Prop where
  bal : balO t
  srt : Srt (pairsO t)
  many : manyO t ≤ n
  size : ∀ p ∈ pairsO t, p.1.size + p.2.size ≤ N
theorem GT.none (N : Nat) : GT N 0 .none := ⟨trivial, List.Pairwise.nil, Nat.le_refl _, fun p hp => by cases hp⟩
theorem GT.mono {N n m : Nat} {t : Option AvT} (h : GT N n t) (hm : n ≤ m) : GT N m t := ⟨h.bal, h.srt, Nat.le_trans h.many hm, h.size⟩
theorem GT.set {N n : Nat} {t : Option AvT} (h : GT N n t) (k v : ByteArray) (hs : k.size + v.size ≤ N) : GT N (n + 1) (some (setO t k v)) := by
  refine ⟨setO_bal h.bal k v, setO_srt h.srt k v, ?_, ?_⟩
  · have := h.many
    cases t with
    | none => show (1 : Nat) ≤ _; omega
    | some t => have h2 := set_many k v t; show (t.set k v).many ≤ _; simp only [manyO] at this; omega
  · intro p hp
    have hz := h.size
    cases t with
    | none =>
      have : p = (k, v) := by simpa [pairsO, setO, AvT.pairs] using hp
      subst this; exact hs
    | some t =>
      have hp' : p ∈ (t.set k v).pairs := hp
      rw [set_pairs k v t h.srt] at hp'
      unfold insL at hp'
      rcases List.mem_append.1 hp' with hp' | hp'
      · exact hz p (List.mem_filter.1 hp').1
      · rcases List.mem_cons.1 hp' with rfl | hp'
        · exact hs
        · exact hz p (List.mem_filter.1 hp').1
theorem GT.drop {N n : Nat} {t : Option AvT} (h : GT N n t) (k : ByteArray) : GT N n (dropO t k) := by
  refine ⟨dropO_bal h.bal k, dropO_srt h.srt k, ?_, ?_⟩
  · have := h.many
    cases t with
    | none => exact this
    | some t =>
      unfold dropO
      dsimp only
      split
      · exact Nat.le_trans (without_many k t) this
      · exact this
  · intro p hp
    rw [dropO_pairs h.srt] at hp
    exact h.size p (List.mem_filter.1 hp).1
end Go.Proofs.YtejglhlodfhgkaaGreatDoor
namespace Go.Proofs
set_option linter.unusedVariables false
set_option linter.unusedSimpArgs false
open Go.Shelf
def Tryz.lays161_ren : Go.Shelf.Ren := ⟨fun | 161 => 186 | 231 => 226 | 227 => 227 | 233 => 228 | 235 => 229 | 228 => 249 | 197 => 250 | 151 => 251 | 260 => 259 | 152 => 260 | 137 => 253 | 119 => 262 | 224 => 246 | 225 => 245 | 217 => 244 | 266 => 257 | n => n, fun | 9 => 9 | 4 => 4 | 3 => 3 | 5 => 5 | 117 => 304 | 116 => 303 | 0 => 0 | 124 => 307 | 105 => 317 | 21 => 21 | 119 => 324 | 46 => 93 | 139 => 327 | 138 => 326 | n => n, fun | 3 => 5 | 4 => 6 | n => n⟩
theorem Tryz.lays161 : Go.Proofs.Lays.n161 Tryz.prog Tryz.lays161_ren := {
  mixed := by kernel_rfl
  f119 := Tryz.func262.trans (congrArg some (by kernel_rfl))
  f137 := Tryz.func253.trans (congrArg some (by kernel_rfl))
  f151 := Tryz.func251.trans (congrArg some (by kernel_rfl))
  f152 := Tryz.func260.trans (congrArg some (by kernel_rfl))
  f161 := Tryz.func186.trans (congrArg some (by kernel_rfl))
  f197 := Tryz.func250.trans (congrArg some (by kernel_rfl))
  f217 := Tryz.func244.trans (congrArg some (by kernel_rfl))
  f224 := Tryz.func246.trans (congrArg some (by kernel_rfl))
  f225 := Tryz.func245.trans (congrArg some (by kernel_rfl))
  f227 := Tryz.func227.trans (congrArg some (by kernel_rfl))
  f228 := Tryz.func249.trans (congrArg some (by kernel_rfl))
  f231 := Tryz.func226.trans (congrArg some (by kernel_rfl))
  f233 := Tryz.func228.trans (congrArg some (by kernel_rfl))
  f235 := Tryz.func229.trans (congrArg some (by kernel_rfl))
  f260 := Tryz.func259.trans (congrArg some (by kernel_rfl))
  f266 := Tryz.func257.trans (congrArg some (by kernel_rfl))
  t0 := Tryz.underlying0
  a0 := Tryz.isAgg0
  z0 := Tryz.sizeOf0
  v0 := Tryz.zeroValue0
  t3 := Tryz.underlying3
  a3 := Tryz.isAgg3
  z3 := Tryz.sizeOf3
  v3 := Tryz.zeroValue3
  t4 := Tryz.underlying4
  a4 := Tryz.isAgg4
  z4 := Tryz.sizeOf4
  v4 := Tryz.zeroValue4
  t5 := Tryz.underlying5
  a5 := Tryz.isAgg5
  z5 := Tryz.sizeOf5
  v5 := Tryz.zeroValue5
  t9 := Tryz.underlying9
  a9 := Tryz.isAgg9
  z9 := Tryz.sizeOf9
  v9 := Tryz.zeroValue9
  t21 := Tryz.underlying21
  a21 := Tryz.isAgg21
  z21 := Tryz.sizeOf21
  v21 := Tryz.zeroValue21
  t46 := Tryz.underlying93
  a46 := Tryz.isAgg93
  z46 := Tryz.sizeOf93
  v46 := Tryz.zeroValue93
  t105 := Tryz.underlying317
  a105 := Tryz.isAgg317
  z105 := Tryz.sizeOf317
  v105 := Tryz.zeroValue317
  t116 := Tryz.underlying303
  a116 := Tryz.isAgg303
  z116 := Tryz.sizeOf303
  t117 := Tryz.underlying304
  a117 := Tryz.isAgg304
  z117 := Tryz.sizeOf304
  v117 := Tryz.zeroValue304
  t119 := Tryz.underlying324
  a119 := Tryz.isAgg324
  z119 := Tryz.sizeOf324
  t124 := Tryz.underlying307
  a124 := Tryz.isAgg307
  z124 := Tryz.sizeOf307
  v124 := Tryz.zeroValue307
  t138 := Tryz.underlying326
  a138 := Tryz.isAgg326
  z138 := Tryz.sizeOf326
  v138 := Tryz.zeroValue326
  t139 := Tryz.underlying327
  a139 := Tryz.isAgg327
  z139 := Tryz.sizeOf327
  v139 := Tryz.zeroValue327
  g3 := by kernel_rfl
  g4 := by kernel_rfl }
def Tryz.lays219_ren : Go.Shelf.Ren := ⟨fun | 219 => 221 | 217 => 244 | 225 => 245 | 224 => 246 | 267 => 247 | 266 => 257 | 314 => 258 | n => n, fun | 9 => 9 | 3 => 3 | 4 => 4 | 5 => 5 | 46 => 93 | 146 => 320 | 51 => 215 | n => n, fun | 1 => 4 | n => n⟩
theorem Tryz.lays219 : Go.Proofs.Lays.n219 Tryz.prog Tryz.lays219_ren := {
  mixed := by kernel_rfl
  f217 := Tryz.func244.trans (congrArg some (by kernel_rfl))
  f219 := Tryz.func221.trans (congrArg some (by kernel_rfl))
  f224 := Tryz.func246.trans (congrArg some (by kernel_rfl))
  f225 := Tryz.func245.trans (congrArg some (by kernel_rfl))
  f266 := Tryz.func257.trans (congrArg some (by kernel_rfl))
  f267 := Tryz.func247.trans (congrArg some (by kernel_rfl))
  f314 := Tryz.func258.trans (congrArg some (by kernel_rfl))
  t3 := Tryz.underlying3
  a3 := Tryz.isAgg3
  z3 := Tryz.sizeOf3
  v3 := Tryz.zeroValue3
  t4 := Tryz.underlying4
  a4 := Tryz.isAgg4
  z4 := Tryz.sizeOf4
  v4 := Tryz.zeroValue4
  t5 := Tryz.underlying5
  a5 := Tryz.isAgg5
  z5 := Tryz.sizeOf5
  v5 := Tryz.zeroValue5
  t9 := Tryz.underlying9
  a9 := Tryz.isAgg9
  z9 := Tryz.sizeOf9
  v9 := Tryz.zeroValue9
  t46 := Tryz.underlying93
  a46 := Tryz.isAgg93
  z46 := Tryz.sizeOf93
  v46 := Tryz.zeroValue93
  t51 := Tryz.underlying215
  a51 := Tryz.isAgg215
  z51 := Tryz.sizeOf215
  v51 := Tryz.zeroValue215
  t146 := Tryz.underlying320
  a146 := Tryz.isAgg320
  z146 := Tryz.sizeOf320
  v146 := Tryz.zeroValue320
  g1 := by kernel_rfl }
end Go.Proofs
namespace Go.Proofs.YtejglhlodfhgkaaGreatDoor
set_option linter.unusedVariables false
set_option linter.unusedSimpArgs false
open Go.RowKit
set_option maxRecDepth 100000
set_option linter.unusedSimpArgs false
set_option linter.unusedVariables false
def letL : List UInt8 := [97, 98, 99, 100, 101, 102, 103, 104, 105, 106, 107, 108, 109, 110, 111, 112, 113, 114, 115, 116, 117, 118, 119, 120, 121, 122]
def alnL : List UInt8 := [97, 98, 99, 100, 101, 102, 103, 104, 105, 106, 107, 108, 109, 110, 111, 112, 113, 114, 115, 116, 117, 118, 119, 120, 121, 122, 48, 49, 50, 51, 52, 53, 54, 55, 56, 57]
def consB (s : ByteArray) (t : List UInt8) : Bool := s.data.toList.all (t.contains ·)
def baseB (s : ByteArray) : Bool := decide (3 ≤ s.size ∧ s.size ≤ 16) && (consB (s.extract 0 1) letL && consB s alnL)
theorem beq14 (a b : ByteArray) : (a.toList == b.toList) = decide (a = b) := by
  rw [Bool.eq_iff_iff]
  simp only [beq_iff_eq, decide_eq_true_eq]
  refine ⟨fun h => ?_, fun h => by rw [h]⟩
  rw [ByteArray.toList_eq, ByteArray.toList_eq] at h
  cases a; cases b; congr; exact Array.toList_inj.1 h
theorem drop_nil14 {α : Type} (p : α → Bool) : ∀ l : List α, l.dropWhile p = [] ↔ l.all p = true
  | [] => by simp
  | x :: l => by
    rw [List.dropWhile_cons, List.all_cons]
    cases hp : p x
    · simp
    · simp only [if_true, Bool.true_and]
      exact drop_nil14 p l
theorem trim_nil (s : ByteArray) (t : List UInt8) : (({ data := (Lib.trimLeftS s.data.toList t).toArray } : ByteArray).toList == ({ data := #[] } : ByteArray).toList) = consB s t := by
  rw [beq14]
  unfold consB
  rw [Bool.eq_iff_iff, decide_eq_true_eq]
  constructor
  · intro h
    have h1 : (Lib.trimLeftS s.data.toList t) = [] := by
      have := congrArg (fun b : ByteArray => b.data.toList) h
      simpa using this
    unfold Lib.trimLeftS at h1
    exact (drop_nil14 _ _).1 h1
  · intro h
    have h1 : (Lib.trimLeftS s.data.toList t) = [] := by unfold Lib.trimLeftS; exact (drop_nil14 _ _).2 h
    rw [h1]
theorem trim_nilE (s : ByteArray) (t : List UInt8) : ({ data := (Lib.trimLeftS s.data.toList t).toArray } : ByteArray).toList.isEmpty = consB s t := by
  rw [← trim_nil]
  have h : ∀ l : List UInt8, l.isEmpty = (l == []) := fun l => by cases l <;> rfl
  rw [h, show ({ data := #[] } : ByteArray).toList = [] from by rw [ByteArray.toList_eq]]
theorem ccons_any (s t : ByteArray) (w : World) (hts : t.size < 4294967281) (ha : t.data.toList.all (fun b => decide (b.toNat < 128)) = true) :
    Calls Tryz.prog 230 #[.string s, .string t] w fun e w' => e = .returned (.bool (consB s t.data.toList)) ∧ Below w.heap.size w w' := by
  have HC := Lib.hid (show Calls Tryz.prog 186 #[.string s, .string t] w fun e w' => e = .returned (.string ⟨(Lib.trimLeftS s.data.toList t.data.toList).toArray⟩) ∧ Below w.heap.size w w' from Any.strings_TrimLeft_laid Tryz.lays161 (by kernel_rfl) s t w hts (ascii_of_all ha))
  have k0 := trim_nilE s t.data.toList
  obtain ⟨r, hr⟩ : ∃ r : ByteArray, r = ⟨(Lib.trimLeftS s.data.toList t.data.toList).toArray⟩ := ⟨_, rfl⟩
  rw [← hr] at HC k0
  obtain ⟨b, hb⟩ : ∃ b, b = consB s t.data.toList := ⟨_, rfl⟩
  rw [← hb] at k0 ⊢
  clear hr hb hts ha
  go_enter Tryz.func230, Tryz.ntmps230
  go_wp2_with (go_at_call 186; (with_reducible refine HC.out.mono ?_); rintro e w1 ⟨rfl, hb⟩; have HB := Lib.hid hb; clear hb)
  go_ret
  exact ⟨rfl, HB.out⟩
theorem cbase_any (s : ByteArray) (w : World) (hs : s.size ≤ 9223372036854775807) : Calls Tryz.prog 187 #[.string s] w fun e w' => e = .returned (.bool (baseB s)) ∧ Below w.heap.size w w' := by
  have HC1 := Lib.hid (show ∀ s w, Calls Tryz.prog 230 #[.string s, .string { data := #[97, 98, 99, 100, 101, 102, 103, 104, 105, 106, 107, 108, 109, 110, 111, 112, 113, 114, 115, 116, 117, 118, 119, 120, 121, 122] }] w fun e w' => e = .returned (.bool (consB s letL)) ∧ Below w.heap.size w w' from fun s w => ccons_any s { data := #[97, 98, 99, 100, 101, 102, 103, 104, 105, 106, 107, 108, 109, 110, 111, 112, 113, 114, 115, 116, 117, 118, 119, 120, 121, 122] } w (by decide) (by decide))
  have HC2 := Lib.hid (show ∀ w, Calls Tryz.prog 230 #[.string s, .string { data := #[97, 98, 99, 100, 101, 102, 103, 104, 105, 106, 107, 108, 109, 110, 111, 112, 113, 114, 115, 116, 117, 118, 119, 120, 121, 122, 48, 49, 50, 51, 52, 53, 54, 55, 56, 57] }] w fun e w' => e = .returned (.bool (consB s alnL)) ∧ Below w.heap.size w w' from fun w => ccons_any s { data := #[97, 98, 99, 100, 101, 102, 103, 104, 105, 106, 107, 108, 109, 110, 111, 112, 113, 114, 115, 116, 117, 118, 119, 120, 121, 122, 48, 49, 50, 51, 52, 53, 54, 55, 56, 57] } w (by decide) (by decide))
  by_cases h1 : 3 ≤ s.size
  · have h1I : ¬ (s.size : Int) < 3 := by omega
    by_cases h2 : s.size ≤ 16
    · have h2I : ¬ (16 : Int) < (s.size : Int) := by omega
      rw [show baseB s = (consB (s.extract 0 1) letL && consB s alnL) from by unfold baseB; rw [decide_eq_true ⟨h1, h2⟩]; rfl]
      replace HC1 := Lib.hid (HC1.out (s.extract 0 1))
      obtain ⟨b, hb⟩ : ∃ b, b = consB (s.extract 0 1) letL := ⟨_, rfl⟩
      obtain ⟨c, hc⟩ : ∃ b, b = consB s alnL := ⟨_, rfl⟩
      rw [← hb] at HC1 ⊢
      rw [← hc] at HC2 ⊢
      have h3I : (1 : Int) ≤ (s.size : Int) := by omega
      clear hb hc h1 h2
      cases b
      · go_enter Tryz.func187, Tryz.ntmps187
        go_wp2_with (go_at_call 230; (with_reducible refine (HC1.out _).mono ?_); rintro e w1 ⟨rfl, hb⟩; have HB := Lib.hid hb; clear hb)
        go_ret
        exact ⟨rfl, HB.out⟩
      · go_enter Tryz.func187, Tryz.ntmps187
        go_wp2_with (first
          | (go_at_call 230; (with_reducible refine (HC1.out _).mono ?_); rintro e w1 ⟨rfl, hb⟩; have HB := Lib.hid hb; clear hb)
          | (go_at_call 230; (with_reducible refine (HC2.out _).mono ?_); rintro e w2 ⟨rfl, hb⟩; have HB2 := Lib.hid (HB.out.trans (hb.mono HB.out.size)); clear hb))
        go_ret
        exact ⟨rfl, HB2.out⟩
    · have h2I : (16 : Int) < (s.size : Int) := by omega
      rw [show baseB s = false from by unfold baseB; rw [decide_eq_false (by omega)]; rfl]
      clear h1 h2 HC1 HC2
      go_enter Tryz.func187, Tryz.ntmps187
      go_wp2_with (fail)
      go_ret
      exact ⟨rfl, Below.refl _ _⟩
  · have h1I : (s.size : Int) < 3 := by omega
    rw [show baseB s = false from by unfold baseB; rw [decide_eq_false (by omega)]; rfl]
    clear h1 HC1 HC2
    go_enter Tryz.func187, Tryz.ntmps187
    go_wp2_with (fail)
    go_ret
    exact ⟨rfl, Below.refl _ _⟩
end Go.Proofs.YtejglhlodfhgkaaGreatDoor
namespace Go.Proofs.YtejglhlodfhgkaaGreatDoor
set_option linter.unusedVariables false
set_option linter.unusedSimpArgs false
open Go.RowKit
set_option maxRecDepth 100000
set_option linter.unusedSimpArgs false
set_option linter.unusedVariables false
def ixB (s : ByteArray) : Int := Lib.indexByte s.data.toList 47
def portS (s : ByteArray) : ByteArray := if ixB s = -1 then s else s.extract 0 (ixB s).toNat
def chanS (s : ByteArray) : ByteArray := if ixB s = -1 then { data := #[] } else s.extract ((ixB s).toNat + 1) s.size
theorem ix_cases (c : UInt8) : ∀ l : List UInt8, Lib.indexByte l c = -1 ∨ ∃ i : Nat, Lib.indexByte l c = i ∧ i < l.length
  | [] => .inl rfl
  | b :: l => by
    unfold Lib.indexByte
    cases hb : b == c
    · rcases ix_cases c l with h | ⟨i, h, hi⟩
      · left; rw [h]; rfl
      · right
        refine ⟨i + 1, ?_, by simpa using hi⟩
        rw [h]
        have : ((i : Int) == -1) = false := by rw [beq_eq_false_iff_ne]; omega
        simp [this]
    · right
      exact ⟨0, by simp, by simp⟩
theorem size14 (s : ByteArray) : s.data.toList.length = s.size := Array.length_toList
theorem slcut_any (s : ByteArray) (w : World) (hs : s.size ≤ 9223372036854775806) : Calls Tryz.prog 169 #[.string s, .string { data := #[47] }] w fun e w' => e = .returned (.tuple #[.string (portS s), .string (chanS s), .bool (decide (¬ ixB s = -1))]) ∧ Below w.heap.size w w' := by
  have HC := Lib.hid (show ∀ w, Calls Tryz.prog 221 #[.string s, .string { data := #[47] }] w fun e w' => e = .returned (.int .i64 (ixB s)) ∧ w' = w from fun w => Any.stringslite_Index_one Tryz.lays219 s 47 w)
  rcases ix_cases 47 s.data.toList with h | ⟨i, h, hi⟩
  · have hx : ixB s = -1 := h
    have e1 : portS s = s := by unfold portS; rw [if_pos hx]
    have e2 : chanS s = { data := #[] } := by unfold chanS; rw [if_pos hx]
    rw [e1, e2, decide_eq_false (by simpa using hx)]
    rw [hx] at HC
    clear h hx e1 e2
    go_enter Tryz.func169, Tryz.ntmps169
    go_wp2_with (go_at_call 221; (with_reducible refine (HC.out _).mono ?_); rintro e w1 ⟨rfl, rfl⟩)
    first | go_ret3 | go_ret | go_ret2
    exact ⟨rfl, Below.refl _ _⟩
  · have hx : ixB s = i := h
    rw [size14] at hi
    have e1 : portS s = s.extract 0 i := by unfold portS; rw [if_neg (by rw [hx]; omega), hx]; rfl
    have e2 : chanS s = s.extract (i + 1) s.size := by unfold chanS; rw [if_neg (by rw [hx]; omega), hx]; rfl
    rw [e1, e2, decide_eq_true (by rw [hx]; omega)]
    rw [hx] at HC
    have c1 : (0 : Int) ≤ (i : Int) := by omega
    have c2 : (i : Int) ≤ (s.size : Int) := by omega
    have c3 : (0 : Int) ≤ (i : Int) + 1 := by omega
    have c4 : (i : Int) + 1 ≤ (s.size : Int) := by omega
    clear h hx e1 e2
    go_enter Tryz.func169, Tryz.ntmps169
    go_upto_region 3 with (go_at_call 221; (with_reducible refine (HC.out _).mono ?_); rintro e w1 ⟨rfl, rfl⟩)
    go_region
    go_wp2_with (fail)
    first | go_ret3 | go_ret | go_ret2
    exact ⟨rfl, (Below.refl _ _).drew⟩
theorem scut_any (s : ByteArray) (w : World) (hs : s.size ≤ 9223372036854775806) : Calls Tryz.prog 101 #[.string s, .string { data := #[47] }] w fun e w' => e = .returned (.tuple #[.string (portS s), .string (chanS s), .bool (decide (¬ ixB s = -1))]) ∧ Below w.heap.size w w' := by
  have HC := Lib.hid (slcut_any s w hs)
  obtain ⟨p, hp⟩ : ∃ x, x = portS s := ⟨_, rfl⟩
  obtain ⟨c, hc⟩ : ∃ x, x = chanS s := ⟨_, rfl⟩
  obtain ⟨b, hb⟩ : ∃ x, x = decide (¬ ixB s = -1) := ⟨_, rfl⟩
  rw [← hp, ← hc, ← hb] at HC ⊢
  clear hp hc hb
  go_enter Tryz.func101, Tryz.ntmps101
  go_wp2_with (go_at_call 169; (with_reducible refine HC.out.mono ?_); rintro e w1 ⟨rfl, hb⟩; have HB := Lib.hid hb; clear hb)
  first | go_ret3 | go_ret | go_ret2
  exact ⟨rfl, HB.out⟩
end Go.Proofs.YtejglhlodfhgkaaGreatDoor
namespace Go.Proofs.YtejglhlodfhgkaaGreatDoor
set_option linter.unusedVariables false
set_option linter.unusedSimpArgs false
open Go.RowKit
set_option maxRecDepth 100000
set_option linter.unusedSimpArgs false
set_option linter.unusedVariables false
/-- a slice of strings in memory -/
def SsIn (w : World) (v : Value) (l : List ByteArray) : Prop :=
  ∃ a cap, v = .slice a l.length cap ∧ l.length ≤ cap ∧ l.length ≤ maxLen ∧ (l = [] ∨ ∃ ab ao, a = some ⟨ab, ao, none⟩ ∧ ab < w.heap.size ∧ ∀ i s, l[i]? = some s → w.cell? ⟨ab, ao + i, none⟩ = some (.string s))
theorem SsIn.below {w w' : World} {v : Value} {l : List ByteArray} (h : SsIn w v l) (hb : Below w.heap.size w w') : SsIn w' v l := by
  obtain ⟨a, cap, rfl, h1, h2, h3⟩ := h
  refine ⟨a, cap, rfl, h1, h2, h3.imp id ?_⟩
  rintro ⟨ab, ao, rfl, hlt, hx⟩
  exact ⟨ab, ao, rfl, Nat.lt_of_lt_of_le hlt hb.size, fun i s hi => (hb.cell (p := ⟨ab, ao + i, none⟩) hlt).trans (hx i s hi)⟩
end Go.Proofs.YtejglhlodfhgkaaGreatDoor
namespace Go.Proofs.YtejglhlodfhgkaaGreatDoor
set_option linter.unusedVariables false
set_option linter.unusedSimpArgs false
open Go.RowKit
set_option maxRecDepth 100000
set_option linter.unusedSimpArgs false
set_option linter.unusedVariables false
end Go.Proofs.YtejglhlodfhgkaaGreatDoor
namespace Go.Proofs
set_option linter.unusedVariables false
set_option linter.unusedSimpArgs false
open Go.Shelf
def Tryz.lays103_ren : Go.Shelf.Ren := ⟨fun | 103 => 231 | 210 => 252 | 206 => 222 | n => n, fun | 9 => 9 | 4 => 4 | 24 => 157 | 3 => 3 | n => n, fun | n => n⟩
theorem Tryz.lays103 : Go.Proofs.Lays.n103 Tryz.prog Tryz.lays103_ren := {
  mixed := by kernel_rfl
  f103 := Tryz.func231.trans (congrArg some (by kernel_rfl))
  f206 := Tryz.func222.trans (congrArg some (by kernel_rfl))
  f210 := Tryz.func252.trans (congrArg some (by kernel_rfl))
  t3 := Tryz.underlying3
  a3 := Tryz.isAgg3
  z3 := Tryz.sizeOf3
  v3 := Tryz.zeroValue3
  t4 := Tryz.underlying4
  a4 := Tryz.isAgg4
  z4 := Tryz.sizeOf4
  v4 := Tryz.zeroValue4
  t9 := Tryz.underlying9
  a9 := Tryz.isAgg9
  z9 := Tryz.sizeOf9
  v9 := Tryz.zeroValue9
  t24 := Tryz.underlying157
  a24 := Tryz.isAgg157
  z24 := Tryz.sizeOf157
  v24 := Tryz.zeroValue157 }
end Go.Proofs
namespace Go.Proofs.YtejglhlodfhgkaaGreatDoor
set_option linter.unusedVariables false
set_option linter.unusedSimpArgs false
open Go.RowKit
end Go.Proofs.YtejglhlodfhgkaaGreatDoor
