/- Part 22 of the proof. -/
import Derived.Test.YtilpohdidekenaaGreatDoorKl18
import Derived.Test.YtilpohdidekenaaGreatDoorKl21
namespace Go.Proofs.YtilpohdidekenaaGreatDoor
set_option linter.unusedVariables false
set_option linter.unusedSimpArgs false
open Go.RowKit
def flatC (ps : List (Nat → Int)) : List Value := ps.flatMap fun h => (rowOf .u8 32 h).toList
theorem flatC_snoc (ps : List (Nat → Int)) (h : Nat → Int) : flatC (ps ++ [h]) = flatC ps ++ (rowOf .u8 32 h).toList := by simp [flatC]
theorem grown_of_below {w w' : World} (h : Below w.heap.size w w') : w.grownBy w' none := ⟨h.os, h.tape, h.output, h.size, fun k hk _ => h.block k hk⟩
theorem own_ne {w : World} {B n : Nat} {v : Value} {xs : List Value} (_h : w.ownsRow B 23 32 v n xs) : v.ownBlock = none ∨ v.ownBlock ≠ none := by
  cases v.ownBlock with
  | none => exact .inl rfl
  | some k => exact .inr (by simp)
/-- the post of siblings -/
def SibPost (ps : List (Nat → Int)) (w : World) (e : Ending) (w' : World) : Prop := ∃ r, e = .returned r ∧ w'.ownsRow w.heap.size 23 32 r ps.length (flatC ps) ∧ Below w.heap.size w w'
theorem Tryz.info25 : (Tryz.prog.info? 23).map (fun i => (i.zero, i.size, i.bytes)) = some (some (.agg (rowOf .u8 32 (fun _ => 0))), 32, 32) := by kernel_rfl
theorem build32 (f : Nat → Int) : Array.foldl (fun (cs : Array Value) (x : Value × Nat) => cs.setIfInBounds x.snd x.fst) #[Value.int IntKind.u8 0, Value.int IntKind.u8 0, Value.int IntKind.u8 0, Value.int IntKind.u8 0, Value.int IntKind.u8 0, Value.int IntKind.u8 0, Value.int IntKind.u8 0, Value.int IntKind.u8 0, Value.int IntKind.u8 0, Value.int IntKind.u8 0, Value.int IntKind.u8 0, Value.int IntKind.u8 0, Value.int IntKind.u8 0, Value.int IntKind.u8 0, Value.int IntKind.u8 0, Value.int IntKind.u8 0, Value.int IntKind.u8 0, Value.int IntKind.u8 0, Value.int IntKind.u8 0, Value.int IntKind.u8 0, Value.int IntKind.u8 0, Value.int IntKind.u8 0, Value.int IntKind.u8 0, Value.int IntKind.u8 0, Value.int IntKind.u8 0, Value.int IntKind.u8 0, Value.int IntKind.u8 0, Value.int IntKind.u8 0, Value.int IntKind.u8 0, Value.int IntKind.u8 0, Value.int IntKind.u8 0, Value.int IntKind.u8 0] ((rowOf IntKind.u8 32 f).zipIdx 0) 0 (rowOf IntKind.u8 32 f).size = rowOf .u8 32 f := by kernel_rfl
theorem sib_one (v : Value) (hs : List (Nat → Int)) (i : Nat) (w : World) (h1 : hs.length = 1) (hx : HashesIn w v hs) :
    Calls Tryz.prog 129 #[v, .int .i64 (i : Int)] w (SibPost (pathF hs i) w) := by
  obtain ⟨a, cap, rfl, _⟩ := hx
  rw [h1, pathF_one hs h1]
  clear h1
  go_enter Tryz.func129, Tryz.ntmps129
  go_wp2_with (fail)
  go_ret
  exact ⟨_, rfl, World.ownsRow_nil _ _ _ _, Below.refl _ _⟩
set_option maxRecDepth 100000 in
set_option maxHeartbeats 400000 in
theorem sib_lo (a : Option Addr) (n cap k i : Nat) (hs ps : List (Nat → Int)) (w : World) (hx : HashesIn w (.slice a n cap) hs) (he : Env w) (hn : 2 ≤ n) (hn2 : n ≤ 9223372036854775807) (hnc : n ≤ cap) (hk : k = splitF n) (hkn : k ≤ n) (_hin : i < n) (hik : i < k) (hps : ps.length < 64)
    (ih1 : ∀ (v : Value) (w : World), HashesIn w v (hs.take k) → Env w → Calls Tryz.prog 129 #[v, .int .i64 (i : Int)] w (SibPost ps w)) :
    Calls Tryz.prog 129 #[.slice a n cap, .int .i64 (i : Int)] w (SibPost (ps ++ [rootF (hs.drop k)]) w) := by
  obtain ⟨i0, hi, hz0, hz1, hz2⟩ := info_parts Tryz.info25
  have HE := Lib.hid he
  have HX := Lib.hid hx
  have HK := Lib.hid (show k ≤ n ∧ k ≤ cap from ⟨hkn, by omega⟩)
  have HL := Lib.hid hps
  have hsl1 := slice43hi a n cap k HK.out.2
  have hsl2 := slice43lo a n cap k HK.out.1
  have HS := Lib.hid (show ∀ w : World, Calls Tryz.prog 50 #[.int .i64 (n : Int)] w fun e w' => e = .returned (.int .i64 (k : Int)) ∧ w = w' from fun w => by rw [hk]; exact split_any n w hn (by omega))
  have hn1 : ((n : Int) == 1) = false := by rw [beq_eq_false_iff_ne]; omega
  have hdec : decide ((i : Int) < (k : Int)) = true := by simpa using hik
  clear he hx hk hps
  go_enter Tryz.func129, Tryz.ntmps129
  go_upto_region 5 with (go_at_call 50; (with_reducible refine (HS.out _).mono ?_); rintro e w' ⟨rfl, rfl⟩)
  refine wp_region_any (by kernel_rfl) ?_
  change wpAny _ _ _ _ _ _ _ w.drew
  refine wpAny_take (i := 0) (v := .slice a n cap) rfl (by kernel_rfl) (by kernel_rfl) (by kernel_rfl) (fun _ _ _ h => h) (Or.inl ⟨by rfl, by intro w; go_simp⟩) ?_
  try simp only [List.getElem_toArray, List.getElem_cons_zero, Act.put, List.setIfInBounds_toArray, List.set_cons_zero, List.set_cons_succ]
  refine wpAny_take (i := 1) (v := .int .i64 (k : Int)) rfl (by kernel_rfl) (by kernel_rfl) (by kernel_rfl) (fun _ _ _ h => h) (Or.inl ⟨by rfl, by intro w; go_simp⟩) ?_
  try simp only [List.getElem_toArray, List.getElem_cons_succ, List.getElem_cons_zero, Act.put, List.setIfInBounds_toArray, List.set_cons_zero, List.set_cons_succ]
  refine wpAny_take (i := 2) (v := .slice (cutH a cap 0) k cap) rfl (by kernel_rfl) (by kernel_rfl) (by kernel_rfl) (fun _ _ _ h => h) (Or.inl ⟨by rfl, by intro w; go_simp⟩) ?_
  try simp only [List.getElem_toArray, List.getElem_cons_succ, List.getElem_cons_zero, Act.put, List.setIfInBounds_toArray, List.set_cons_zero, List.set_cons_succ]
  refine wpAny_take (i := 3) (v := .int .i64 (i : Int)) rfl (by kernel_rfl) (by kernel_rfl) (by kernel_rfl) (fun _ _ _ h => h) (Or.inl ⟨by rfl, by intro w; go_simp⟩) ?_
  try simp only [List.getElem_toArray, List.getElem_cons_succ, List.getElem_cons_zero, Act.put, List.setIfInBounds_toArray, List.set_cons_zero, List.set_cons_succ]
  refine wpAny_take (i := 5) (v := .slice a n cap) rfl (by kernel_rfl) (by kernel_rfl) (by kernel_rfl) (fun _ _ _ h => h) (Or.inl ⟨by rfl, by intro w; go_simp⟩) ?_
  try simp only [List.getElem_toArray, List.getElem_cons_succ, List.getElem_cons_zero, Act.put, List.setIfInBounds_toArray, List.set_cons_zero, List.set_cons_succ]
  refine wpAny_take (i := 6) (v := .int .i64 (k : Int)) rfl (by kernel_rfl) (by kernel_rfl) (by kernel_rfl) (fun _ _ _ h => h) (Or.inl ⟨by rfl, by intro w; go_simp⟩) ?_
  try simp only [List.getElem_toArray, List.getElem_cons_succ, List.getElem_cons_zero, Act.put, List.setIfInBounds_toArray, List.set_cons_zero, List.set_cons_succ]
  refine wpAny_take (i := 7) (v := .slice (cutH a cap k) (n - k) (cap - k)) rfl (by kernel_rfl) (by kernel_rfl) (by kernel_rfl) (fun _ _ _ h => h) (Or.inl ⟨by rfl, by intro w; go_simp⟩) ?_
  try simp only [List.getElem_toArray, List.getElem_cons_succ, List.getElem_cons_zero, Act.put, List.setIfInBounds_toArray, List.set_cons_zero, List.set_cons_succ]
  have HB := Lib.hid (show Below w.heap.size w w.drew from (Below.refl _ _).drew)
  have HSZ := Lib.hid (show w.drew.heap.size = w.heap.size from rfl)
  replace HE : Hid (Env w.drew) := Lib.hid ⟨HE.out.begin, HE.out.consts⟩
  generalize w.drew = w2 at *
  refine wpAny_ready (rs := [4]) (by kernel_rfl) (by simp) ?_; refine AllReady.cons rfl (fun K hK => ?_) AllReady.nil; rw [if_pos (by rfl)]
  try simp only [List.getElem_toArray, List.getElem_cons_succ, List.getElem_cons_zero]
  go_simp
  refine (ih1 (.slice (cutH a cap 0) k cap) _ ((HX.out.take k HK.out.1).below HB.out) HE.out).mono ?_
  rintro e w3 ⟨r, rfl, HO, HB3⟩
  replace HO : Hid (w3.ownsRow w.heap.size 23 32 r ps.length (flatC ps)) := Lib.hid (by rw [← HSZ.out]; exact HO)
  replace HE := Lib.hid (HE.out.below HB3 HE.out.lt)
  replace HB := Lib.hid (HB.out.trans (HB3.mono HB.out.size))
  clear HB3 HSZ
  refine hK _ _ ?_
  clear hK K
  try simp only [List.getElem_toArray, List.getElem_cons_succ, List.getElem_cons_zero, Act.put, List.setIfInBounds_toArray, List.set_cons_zero, List.set_cons_succ]
  refine wpAny_ready (rs := [8]) (by kernel_rfl) (by simp) ?_; refine AllReady.cons rfl (fun K hK => ?_) AllReady.nil; rw [if_pos (by rfl)]
  try simp only [List.getElem_toArray, List.getElem_cons_succ, List.getElem_cons_zero]
  go_simp
  refine (root_any _ (hs.drop k) rfl (.slice (cutH a cap k) (n - k) (cap - k)) _ ((HX.out.drop k HK.out.1).below HB.out) HE.out).mono ?_
  rintro e w4 ⟨rfl, HB3⟩
  replace HO := Lib.hid (HO.out.kept (grown_of_below HB3) (own_ne HO.out))
  replace HB := Lib.hid (HB.out.trans (HB3.mono HB.out.size))
  clear HB3
  refine hK _ _ ?_
  clear hK K
  try simp only [List.getElem_toArray, List.getElem_cons_succ, List.getElem_cons_zero, Act.put, List.setIfInBounds_toArray, List.set_cons_zero, List.set_cons_succ]
  refine wpAny_ready (rs := [9]) (by kernel_rfl) (by simp) ?_; refine AllReady.cons rfl (fun K hK => ?_) AllReady.nil; rw [if_pos (by rfl)]
  try simp only [List.getElem_toArray, List.getElem_cons_succ, List.getElem_cons_zero]
  go_simp
  refine hK _ _ ?_
  clear hK K
  try simp only [Act.put, List.setIfInBounds_toArray, List.set_cons_zero, List.set_cons_succ]
  simp only [build32]
  change wpAny _ _ _ _ _ _ _ (w4.alloc (.cells (rowOf .u8 32 (rootF (hs.drop k))) 23))
  have HR := Lib.hid (RowAt.new w4 .u8 32 23 (rootF (hs.drop k)))
  replace HO := Lib.hid (HO.out.alloc (.cells (rowOf .u8 32 (rootF (hs.drop k))) 23))
  replace HB := Lib.hid (HB.out.trans ((below_alloc w4 (.cells (rowOf .u8 32 (rootF (hs.drop k))) 23)).mono HB.out.size))
  have HA := Lib.hid (show w.heap.size ≤ (w4.alloc (.cells (rowOf .u8 32 (rootF (hs.drop k))) 23)).heap.size from HB.out.size)
  obtain ⟨g, hg⟩ : ∃ g, g = w4.heap.size := ⟨_, rfl⟩
  rw [← hg] at HR ⊢
  generalize w4.alloc (.cells (rowOf .u8 32 (rootF (hs.drop k))) 23) = w5 at *
  refine wpAny_ready (rs := [10]) (by kernel_rfl) (by simp) ?_; refine AllReady.cons rfl (fun K hK => ?_) AllReady.nil; rw [if_pos (by rfl)]
  refine wp_append_own w5 (.tmp 19) (.tmp 24) 37 rfl w.heap.size 23 i0 (.agg (rowOf .u8 32 (fun _ => 0))) 32 32 Tryz.underlying37 hi hz0 hz1 hz2 (by simp [Value.cells, rowOf_size]) (by decide) r ps.length (flatC ps) rfl HO.out ⟨g, 0, none⟩ 1 1 (rowOf .u8 32 (rootF (hs.drop k))).toList rfl (by rw [(rowOf_list _ _ _).2]) (fun j u hj => by rw [Addr.add_mid]; exact HR.out.range j u hj) (fun u hu => (Array.all_eq_true_iff_forall_mem.1 (rowOf_one _ _ _)) u (by simpa using hu)) (by unfold maxLen; have := HL.out; omega) (by have := HL.out; omega) HA.out ?_
  intro v' w6 HO6 HG6 _
  replace HO6 : Hid (w6.ownsRow w.heap.size 23 32 v' (ps.length + 1) (flatC ps ++ (rowOf .u8 32 (rootF (hs.drop k))).toList)) := HO6
  have HB6 := Lib.hid (HB.out.grown HG6 HB.out.size (fun k hk => (HO.out.lt k hk).1))
  clear HG6
  refine hK _ _ ?_
  clear hK K
  try simp only [List.getElem_toArray, List.getElem_cons_succ, List.getElem_cons_zero, Act.put, List.setIfInBounds_toArray, List.set_cons_zero, List.set_cons_succ]
  refine wpAny_ready (rs := [11]) (by kernel_rfl) (by simp) ?_; refine AllReady.cons rfl (fun K hK => ?_) AllReady.nil; rw [if_pos (by rfl)]
  try simp only [List.getElem_toArray, List.getElem_cons_succ, List.getElem_cons_zero]
  go_simp
  refine hK _ _ ?_
  clear hK K
  try simp only [List.getElem_toArray, List.getElem_cons_succ, List.getElem_cons_zero, Act.put, List.setIfInBounds_toArray, List.set_cons_zero, List.set_cons_succ]
  refine wpAny_done (by kernel_rfl) ?_ _
  go_wp2_with (fail)
  go_ret
  exact ⟨v', rfl, by rw [List.length_append, flatC_snoc]; exact HO6.out, HB6.out⟩
set_option maxRecDepth 100000 in
set_option maxHeartbeats 400000 in
theorem sib_hi (a : Option Addr) (n cap k i : Nat) (hs ps : List (Nat → Int)) (w : World) (hx : HashesIn w (.slice a n cap) hs) (he : Env w) (hn : 2 ≤ n) (hn2 : n ≤ 9223372036854775807) (hnc : n ≤ cap) (hk : k = splitF n) (hkn : k ≤ n) (hin : i < n) (hik : ¬ i < k) (hps : ps.length < 64)
    (ih1 : ∀ (v : Value) (w : World), HashesIn w v (hs.drop k) → Env w → Calls Tryz.prog 129 #[v, .int .i64 ((i - k : Nat) : Int)] w (SibPost ps w)) :
    Calls Tryz.prog 129 #[.slice a n cap, .int .i64 (i : Int)] w (SibPost (ps ++ [rootF (hs.take k)]) w) := by
  obtain ⟨i0, hi, hz0, hz1, hz2⟩ := info_parts Tryz.info25
  have HE := Lib.hid he
  have HX := Lib.hid hx
  have HK := Lib.hid (show k ≤ n ∧ k ≤ cap from ⟨hkn, by omega⟩)
  have HL := Lib.hid hps
  have hsl1 := slice43hi a n cap k HK.out.2
  have hsl2 := slice43lo a n cap k HK.out.1
  have HS := Lib.hid (show ∀ w : World, Calls Tryz.prog 50 #[.int .i64 (n : Int)] w fun e w' => e = .returned (.int .i64 (k : Int)) ∧ w = w' from fun w => by rw [hk]; exact split_any n w hn (by omega))
  have hn1 : ((n : Int) == 1) = false := by rw [beq_eq_false_iff_ne]; omega
  have hdec : decide ((i : Int) < (k : Int)) = false := by simpa using hik
  have hsub : IntKind.i64.wrap ((i : Int) - (k : Int)) = ((i - k : Nat) : Int) := by rw [IntWalk.i64_in _ (by omega)]; omega
  clear he hx hk hps
  go_enter Tryz.func129, Tryz.ntmps129
  go_upto_region 6 with (go_at_call 50; (with_reducible refine (HS.out _).mono ?_); rintro e w' ⟨rfl, rfl⟩)
  refine wp_region_any (by kernel_rfl) ?_
  change wpAny _ _ _ _ _ _ _ w.drew
  refine wpAny_take (i := 0) (v := .slice a n cap) rfl (by kernel_rfl) (by kernel_rfl) (by kernel_rfl) (fun _ _ _ h => h) (Or.inl ⟨by rfl, by intro w; go_simp⟩) ?_
  try simp only [List.getElem_toArray, List.getElem_cons_zero, Act.put, List.setIfInBounds_toArray, List.set_cons_zero, List.set_cons_succ]
  refine wpAny_take (i := 1) (v := .int .i64 (k : Int)) rfl (by kernel_rfl) (by kernel_rfl) (by kernel_rfl) (fun _ _ _ h => h) (Or.inl ⟨by rfl, by intro w; go_simp⟩) ?_
  try simp only [List.getElem_toArray, List.getElem_cons_succ, List.getElem_cons_zero, Act.put, List.setIfInBounds_toArray, List.set_cons_zero, List.set_cons_succ]
  refine wpAny_take (i := 2) (v := .slice (cutH a cap k) (n - k) (cap - k)) rfl (by kernel_rfl) (by kernel_rfl) (by kernel_rfl) (fun _ _ _ h => h) (Or.inl ⟨by rfl, by intro w; go_simp⟩) ?_
  try simp only [List.getElem_toArray, List.getElem_cons_succ, List.getElem_cons_zero, Act.put, List.setIfInBounds_toArray, List.set_cons_zero, List.set_cons_succ]
  refine wpAny_take (i := 3) (v := .int .i64 (i : Int)) rfl (by kernel_rfl) (by kernel_rfl) (by kernel_rfl) (fun _ _ _ h => h) (Or.inl ⟨by rfl, by intro w; go_simp⟩) ?_
  try simp only [List.getElem_toArray, List.getElem_cons_succ, List.getElem_cons_zero, Act.put, List.setIfInBounds_toArray, List.set_cons_zero, List.set_cons_succ]
  refine wpAny_take (i := 4) (v := .int .i64 (k : Int)) rfl (by kernel_rfl) (by kernel_rfl) (by kernel_rfl) (fun _ _ _ h => h) (Or.inl ⟨by rfl, by intro w; go_simp⟩) ?_
  try simp only [List.getElem_toArray, List.getElem_cons_succ, List.getElem_cons_zero, Act.put, List.setIfInBounds_toArray, List.set_cons_zero, List.set_cons_succ]
  refine wpAny_take (i := 5) (v := .int .i64 ((i - k : Nat) : Int)) rfl (by kernel_rfl) (by kernel_rfl) (by kernel_rfl) (fun _ _ _ h => h) (Or.inl ⟨by rfl, by intro w; go_simp⟩) ?_
  try simp only [List.getElem_toArray, List.getElem_cons_succ, List.getElem_cons_zero, Act.put, List.setIfInBounds_toArray, List.set_cons_zero, List.set_cons_succ]
  refine wpAny_take (i := 7) (v := .slice a n cap) rfl (by kernel_rfl) (by kernel_rfl) (by kernel_rfl) (fun _ _ _ h => h) (Or.inl ⟨by rfl, by intro w; go_simp⟩) ?_
  try simp only [List.getElem_toArray, List.getElem_cons_succ, List.getElem_cons_zero, Act.put, List.setIfInBounds_toArray, List.set_cons_zero, List.set_cons_succ]
  refine wpAny_take (i := 8) (v := .int .i64 (k : Int)) rfl (by kernel_rfl) (by kernel_rfl) (by kernel_rfl) (fun _ _ _ h => h) (Or.inl ⟨by rfl, by intro w; go_simp⟩) ?_
  try simp only [List.getElem_toArray, List.getElem_cons_succ, List.getElem_cons_zero, Act.put, List.setIfInBounds_toArray, List.set_cons_zero, List.set_cons_succ]
  refine wpAny_take (i := 9) (v := .slice (cutH a cap 0) k cap) rfl (by kernel_rfl) (by kernel_rfl) (by kernel_rfl) (fun _ _ _ h => h) (Or.inl ⟨by rfl, by intro w; go_simp⟩) ?_
  try simp only [List.getElem_toArray, List.getElem_cons_succ, List.getElem_cons_zero, Act.put, List.setIfInBounds_toArray, List.set_cons_zero, List.set_cons_succ]
  have HB := Lib.hid (show Below w.heap.size w w.drew from (Below.refl _ _).drew)
  have HSZ := Lib.hid (show w.drew.heap.size = w.heap.size from rfl)
  replace HE : Hid (Env w.drew) := Lib.hid ⟨HE.out.begin, HE.out.consts⟩
  generalize w.drew = w2 at *
  refine wpAny_ready (rs := [6]) (by kernel_rfl) (by simp) ?_; refine AllReady.cons rfl (fun K hK => ?_) AllReady.nil; rw [if_pos (by rfl)]
  try simp only [List.getElem_toArray, List.getElem_cons_succ, List.getElem_cons_zero]
  go_simp
  refine (ih1 (.slice (cutH a cap k) (n - k) (cap - k)) _ ((HX.out.drop k HK.out.1).below HB.out) HE.out).mono ?_
  rintro e w3 ⟨r, rfl, HO, HB3⟩
  replace HO : Hid (w3.ownsRow w.heap.size 23 32 r ps.length (flatC ps)) := Lib.hid (by rw [← HSZ.out]; exact HO)
  replace HE := Lib.hid (HE.out.below HB3 HE.out.lt)
  replace HB := Lib.hid (HB.out.trans (HB3.mono HB.out.size))
  clear HB3 HSZ
  refine hK _ _ ?_
  clear hK K
  try simp only [List.getElem_toArray, List.getElem_cons_succ, List.getElem_cons_zero, Act.put, List.setIfInBounds_toArray, List.set_cons_zero, List.set_cons_succ]
  refine wpAny_ready (rs := [10]) (by kernel_rfl) (by simp) ?_; refine AllReady.cons rfl (fun K hK => ?_) AllReady.nil; rw [if_pos (by rfl)]
  try simp only [List.getElem_toArray, List.getElem_cons_succ, List.getElem_cons_zero]
  go_simp
  refine (root_any _ (hs.take k) rfl (.slice (cutH a cap 0) k cap) _ ((HX.out.take k HK.out.1).below HB.out) HE.out).mono ?_
  rintro e w4 ⟨rfl, HB3⟩
  replace HO := Lib.hid (HO.out.kept (grown_of_below HB3) (own_ne HO.out))
  replace HB := Lib.hid (HB.out.trans (HB3.mono HB.out.size))
  clear HB3
  refine hK _ _ ?_
  clear hK K
  try simp only [List.getElem_toArray, List.getElem_cons_succ, List.getElem_cons_zero, Act.put, List.setIfInBounds_toArray, List.set_cons_zero, List.set_cons_succ]
  refine wpAny_ready (rs := [11]) (by kernel_rfl) (by simp) ?_; refine AllReady.cons rfl (fun K hK => ?_) AllReady.nil; rw [if_pos (by rfl)]
  try simp only [List.getElem_toArray, List.getElem_cons_succ, List.getElem_cons_zero]
  go_simp
  refine hK _ _ ?_
  clear hK K
  try simp only [Act.put, List.setIfInBounds_toArray, List.set_cons_zero, List.set_cons_succ]
  simp only [build32]
  change wpAny _ _ _ _ _ _ _ (w4.alloc (.cells (rowOf .u8 32 (rootF (hs.take k))) 23))
  have HR := Lib.hid (RowAt.new w4 .u8 32 23 (rootF (hs.take k)))
  replace HO := Lib.hid (HO.out.alloc (.cells (rowOf .u8 32 (rootF (hs.take k))) 23))
  replace HB := Lib.hid (HB.out.trans ((below_alloc w4 (.cells (rowOf .u8 32 (rootF (hs.take k))) 23)).mono HB.out.size))
  have HA := Lib.hid (show w.heap.size ≤ (w4.alloc (.cells (rowOf .u8 32 (rootF (hs.take k))) 23)).heap.size from HB.out.size)
  obtain ⟨g, hg⟩ : ∃ g, g = w4.heap.size := ⟨_, rfl⟩
  rw [← hg] at HR ⊢
  generalize w4.alloc (.cells (rowOf .u8 32 (rootF (hs.take k))) 23) = w5 at *
  refine wpAny_ready (rs := [12]) (by kernel_rfl) (by simp) ?_; refine AllReady.cons rfl (fun K hK => ?_) AllReady.nil; rw [if_pos (by rfl)]
  refine wp_append_own w5 (.tmp 32) (.tmp 37) 37 rfl w.heap.size 23 i0 (.agg (rowOf .u8 32 (fun _ => 0))) 32 32 Tryz.underlying37 hi hz0 hz1 hz2 (by simp [Value.cells, rowOf_size]) (by decide) r ps.length (flatC ps) rfl HO.out ⟨g, 0, none⟩ 1 1 (rowOf .u8 32 (rootF (hs.take k))).toList rfl (by rw [(rowOf_list _ _ _).2]) (fun j u hj => by rw [Addr.add_mid]; exact HR.out.range j u hj) (fun u hu => (Array.all_eq_true_iff_forall_mem.1 (rowOf_one _ _ _)) u (by simpa using hu)) (by unfold maxLen; have := HL.out; omega) (by have := HL.out; omega) HA.out ?_
  intro v' w6 HO6 HG6 _
  replace HO6 : Hid (w6.ownsRow w.heap.size 23 32 v' (ps.length + 1) (flatC ps ++ (rowOf .u8 32 (rootF (hs.take k))).toList)) := HO6
  have HB6 := Lib.hid (HB.out.grown HG6 HB.out.size (fun k hk => (HO.out.lt k hk).1))
  clear HG6
  refine hK _ _ ?_
  clear hK K
  try simp only [List.getElem_toArray, List.getElem_cons_succ, List.getElem_cons_zero, Act.put, List.setIfInBounds_toArray, List.set_cons_zero, List.set_cons_succ]
  refine wpAny_ready (rs := [13]) (by kernel_rfl) (by simp) ?_; refine AllReady.cons rfl (fun K hK => ?_) AllReady.nil; rw [if_pos (by rfl)]
  try simp only [List.getElem_toArray, List.getElem_cons_succ, List.getElem_cons_zero]
  go_simp
  refine hK _ _ ?_
  clear hK K
  try simp only [List.getElem_toArray, List.getElem_cons_succ, List.getElem_cons_zero, Act.put, List.setIfInBounds_toArray, List.set_cons_zero, List.set_cons_succ]
  refine wpAny_done (by kernel_rfl) ?_ _
  go_wp2_with (fail)
  go_ret
  exact ⟨v', rfl, by rw [List.length_append, flatC_snoc]; exact HO6.out, HB6.out⟩
theorem sib_any : ∀ (n : Nat) (hs : List (Nat → Int)), hs.length = n → ∀ (i : Nat), i < n → ∀ (v : Value) (w : World), HashesIn w v hs → Env w →
    Calls Tryz.prog 129 #[v, .int .i64 (i : Int)] w (SibPost (pathF hs i) w) := by
  intro n
  induction n using Nat.strongRecOn with
  | _ n ih =>
    intro hs hl i hi v w hx he
    have hx0 := hx
    obtain ⟨a, cap, rfl, hc, hm, _⟩ := hx
    unfold maxLen at hm
    by_cases h1 : n = 1
    · exact sib_one _ hs i w (by omega) hx0
    · have sp := splitF_spec hs.length (by omega) (by omega)
      have hk := sp.2.1
      by_cases hik : i < splitF hs.length
      · have hlk : (hs.take (splitF hs.length)).length = splitF hs.length := by rw [List.length_take]; omega
        rw [pathF_lo hs ⟨sp.1, sp.2.1⟩ i hik]
        exact sib_lo a hs.length cap (splitF hs.length) i hs _ w hx0 he (by omega) (by omega) hc rfl (by omega) (by omega) hik
          (Nat.lt_succ_of_le (path_depth 63 _ i (by rw [hlk]; omega) (by rw [hlk]; omega) (by rw [hlk]; exact hik)))
          (fun v w => ih (splitF hs.length) (by omega) (hs.take (splitF hs.length)) hlk i hik v w)
      · have hlk : (hs.drop (splitF hs.length)).length = hs.length - splitF hs.length := by rw [List.length_drop]
        rw [pathF_hi hs ⟨sp.1, sp.2.1⟩ i hik]
        exact sib_hi a hs.length cap (splitF hs.length) i hs _ w hx0 he (by omega) (by omega) hc rfl (by omega) (by omega) hik
          (Nat.lt_succ_of_le (path_depth 63 _ (i - splitF hs.length) (by rw [hlk]; omega) (by rw [hlk]; omega) (by rw [hlk]; omega)))
          (fun v w => ih (hs.length - splitF hs.length) (by omega) (hs.drop (splitF hs.length)) hlk (i - splitF hs.length) (by omega) v w)
/-- the post of Path -/
def PathPost (ps : List (Nat → Int)) (w : World) (e : Ending) (w' : World) : Prop := ∃ r, e = .returned (.tuple #[r, .nilIface]) ∧ w'.ownsRow w.heap.size 23 32 r ps.length (flatC ps) ∧ Below w.heap.size w w'
theorem path_any (hs : List (Nat → Int)) (i : Nat) (hi : i < hs.length) (v : Value) (w : World) (hx : HashesIn w v hs) (he : Env w) :
    Calls Tryz.prog 90 #[v, .int .i64 (i : Int)] w (PathPost (pathF hs i) w) := by
  have HX := Lib.hid hx
  have HE := Lib.hid he
  have HI := Lib.hid hi
  obtain ⟨a, cap, rfl, hc, hm, _⟩ := hx
  unfold maxLen at hm
  obtain ⟨n, hn⟩ : ∃ n, n = hs.length := ⟨_, rfl⟩
  rw [← hn] at HX hc hi ⊢
  replace hn := Lib.hid hn
  have hd : decide ((n : Int) ≤ (i : Int)) = false := by simp; omega
  clear he
  go_enter Tryz.func90, Tryz.ntmps90
  go_wp2_with (go_at_call 129; (with_reducible refine (sib_any _ hs rfl i HI.out _ _ HX.out HE.out).mono ?_); rintro e w' ⟨r, rfl, HO, HB⟩)
  go_ret2
  exact ⟨r, rfl, HO, HB⟩
end Go.Proofs.YtilpohdidekenaaGreatDoor
namespace Go.Proofs.YtilpohdidekenaaGreatDoor
set_option linter.unusedVariables false
set_option linter.unusedSimpArgs false
open Go.RowKit
theorem turns_len (n i : Nat) (hn : n ≤ 9223372036854775807) (hi : i < n) : (turnsF i n).length ≤ 63 := by
  have h := path_turns n (List.replicate n zeroH) i (by simp) (by omega) hi
  rw [← h]
  exact path_depth 63 _ i (by simp; omega) (by simp; omega) (by simpa using hi)
def TurnsPost (ts : List Bool) (w : World) (e : Ending) (w' : World) : Prop := ∃ r, e = .returned r ∧ w'.ownsRow w.heap.size 4 1 r ts.length (ts.map Value.bool) ∧ Below w.heap.size w w'
theorem Tryz.info4 : (Tryz.prog.info? 4).map (fun i => (i.zero, i.size, i.bytes)) = some (some (.bool false), 1, 1) := by kernel_rfl
/-- what holds at the head of each round -/
def TurnsRel (i n : Nat) (w : World) (a b v : Value) (wr : World) : Prop :=
  ∃ (j m : Nat) (ts : List Bool), a = .int .i64 (j : Int) ∧ b = .int .i64 (m : Int) ∧ j < m ∧ m ≤ n ∧ ts ++ turnsF j m = turnsF i n ∧ wr.ownsRow w.heap.size 4 1 v ts.length (ts.map Value.bool) ∧ Below w.heap.size w wr
theorem new_bool (w : World) (b : Bool) (x : Nat) (u : Value) (h : ([.bool b] : List Value)[x]? = some u) : (w.alloc (.cells #[.bool b] 4)).cell? ((⟨w.heap.size, 0, none⟩ : Addr).add x) = some u := by
  rw [Addr.add_mid, Nat.zero_add, cell_of_row _ _ _ _ _ _ (heap_alloc_new w _)]
  match x, h with
  | 0, h => cases h; rfl
set_option maxRecDepth 100000 in
set_option maxHeartbeats 400000 in
theorem turns_any (i n : Nat) (w : World) (hi : i < n) (hn : n ≤ 9223372036854775807) : Calls Tryz.prog 116 #[.int .i64 (i : Int), .int .i64 (n : Int)] w (TurnsPost (turnsF i n) w) := by
  obtain ⟨i0, hi0, hz0, hz1, hz2⟩ := info_parts Tryz.info4
  have HN := Lib.hid (show i < n ∧ n ≤ 9223372036854775807 from ⟨hi, hn⟩)
  clear hi
  go_enter Tryz.func116, Tryz.ntmps116
  go_wp2_with (fail)
  go_loopw [0, 1, 5] (fun a b v wr => TurnsRel i n w a b v wr) (fun _ b _ _ => (intOf b).toNat)
  case atStart => exact ⟨i, n, [], rfl, rfl, HN.out.1, Nat.le_refl _, rfl, World.ownsRow_nil _ _ _ _, Below.refl _ _⟩
  case round =>
    obtain ⟨j, m, ts, rfl, rfl, hjm, hmn, hts, HO, HB⟩ := hrel
    replace HO := Lib.hid HO
    replace HB := Lib.hid HB
    replace hts := Lib.hid hts
    by_cases h1 : m = 1
    · subst h1
      have ht : turnsF i n = ts := by rw [← hts.out, turnsF_one, List.append_nil]
      replace ht := Lib.hid ht
      clear hts hjm hmn
      go_wp2_with (fail)
      go_ret
      exact ⟨u5, rfl, by rw [ht.out]; exact HO.out, HB.out⟩
    · have hm1 : ¬ m ≤ 1 := by omega
      obtain ⟨k, hk⟩ : ∃ k, k = splitF m := ⟨_, rfl⟩
      have sp := splitF_spec m (by omega) (by omega)
      rw [← hk] at sp
      have hkm := sp.2.1
      have hk1 := sp.1
      have HS := Lib.hid (show ∀ w : World, Calls Tryz.prog 50 #[.int .i64 (m : Int)] w fun e w' => e = .returned (.int .i64 (k : Int)) ∧ w = w' from fun w => by rw [hk]; exact split_any m w (by omega) (by omega))
      have HK := Lib.hid (show k = splitF m from hk)
      clear hk sp
      by_cases hjk : j < k
      · have hd : decide (k ≤ j) = false := by simp; omega
        have HL := Lib.hid (show ts.length + 1 ≤ 63 from by
          have h1 := turns_len n i HN.out.2 HN.out.1
          rw [← hts.out, List.length_append, turnsF_lo j m ⟨by rw [← HK.out]; omega, by rw [← HK.out]; omega⟩ (by rw [← HK.out]; omega), List.length_cons] at h1
          omega)
        have HA := Lib.hid (show w.heap.size ≤ (wr.alloc (.cells #[.bool false] 4)).heap.size from by rw [shSize_alloc]; have := HB.out.size; omega)
        go_wp2_with (first
          | (go_at_call 50; (with_reducible refine (HS.out _).mono ?_); rintro e w' ⟨rfl, rfl⟩)
          | (at_builtin; refine wpList_append_own _ rfl (.tmp 15) (.tmp 17) 57 rfl w.heap.size 4 i0 (.bool false) 1 1 Tryz.underlying57 hi0 hz0 hz1 hz2 rfl (by decide) u5 ts.length (ts.map Value.bool) rfl (HO.out.alloc _) ⟨wr.heap.size, 0, none⟩ 1 1 [.bool false] rfl rfl (fun x u hx => new_bool wr false x u hx) (fun u hu => by simp at hu; subst hu; rfl) (by unfold maxLen; have := HL.out; omega) (by have := HL.out; omega) HA.out ?_; intro v' w6 HO6 HG6 _; replace HO6 := Lib.hid HO6; have HB6 := Lib.hid ((HB.out.trans ((below_alloc wr (.cells #[.bool false] 4)).mono HB.out.size)).grown HG6 HA.out (fun x hx => (HO.out.lt x hx).1)); clear HG6))
        go_roundw
        case rel => exact ⟨j, k, ts ++ [false], rfl, rfl, by omega, by omega, by rw [List.append_assoc, List.singleton_append, ← hts.out, turnsF_lo j m ⟨by rw [← HK.out]; omega, by rw [← HK.out]; omega⟩ (by rw [← HK.out]; omega), HK.out], by rw [List.length_append, List.map_append]; exact HO6.out, HB6.out⟩
        case measure => simp [intOf]; omega
      · have hd : decide (k ≤ j) = true := by simp; omega
        have HL := Lib.hid (show ts.length + 1 ≤ 63 from by
          have h1 := turns_len n i HN.out.2 HN.out.1
          rw [← hts.out, List.length_append, turnsF_hi j m ⟨by rw [← HK.out]; omega, by rw [← HK.out]; omega⟩ (by rw [← HK.out]; omega), List.length_cons] at h1
          omega)
        have HA := Lib.hid (show w.heap.size ≤ (wr.alloc (.cells #[.bool true] 4)).heap.size from by rw [shSize_alloc]; have := HB.out.size; omega)
        go_wp2_with (first
          | (go_at_call 50; (with_reducible refine (HS.out _).mono ?_); rintro e w' ⟨rfl, rfl⟩)
          | (at_builtin; refine wpList_append_own _ rfl (.tmp 15) (.tmp 17) 57 rfl w.heap.size 4 i0 (.bool false) 1 1 Tryz.underlying57 hi0 hz0 hz1 hz2 rfl (by decide) u5 ts.length (ts.map Value.bool) rfl (HO.out.alloc _) ⟨wr.heap.size, 0, none⟩ 1 1 [.bool true] rfl rfl (fun x u hx => new_bool wr true x u hx) (fun u hu => by simp at hu; subst hu; rfl) (by unfold maxLen; have := HL.out; omega) (by have := HL.out; omega) HA.out ?_; intro v' w6 HO6 HG6 _; replace HO6 := Lib.hid HO6; have HB6 := Lib.hid ((HB.out.trans ((below_alloc wr (.cells #[.bool true] 4)).mono HB.out.size)).grown HG6 HA.out (fun x hx => (HO.out.lt x hx).1)); clear HG6))
        go_roundw
        case rel => exact ⟨j - k, m - k, ts ++ [true], by rw [Int.ofNat_sub (by omega)], by rw [Int.ofNat_sub (by omega)], by omega, by omega, by rw [List.append_assoc, List.singleton_append, ← hts.out, turnsF_hi j m ⟨by rw [← HK.out]; omega, by rw [← HK.out]; omega⟩ (by rw [← HK.out]; omega), HK.out], by rw [List.length_append, List.map_append]; exact HO6.out, HB6.out⟩
        case measure => simp [intOf]; omega
end Go.Proofs.YtilpohdidekenaaGreatDoor
