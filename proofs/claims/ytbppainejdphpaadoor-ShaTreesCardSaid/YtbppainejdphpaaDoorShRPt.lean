/- The reference's Path; Path in all cases, in one word. -/
import Derived.Test.YtbppainejdphpaaDoorShRSp
import Derived.Test.YtbppainejdphpaaDoorShFold
import Derived.Test.YtbppainejdphpaaDoorNum
import Derived.Maps.AppendAt
namespace Go.Proofs.YtbppainejdphpaaDoor
open Go.RowKit
set_option maxRecDepth 100000
theorem build32s (f : Nat → Int) : Array.foldl (fun (cs : Array Value) (x : Value × Nat) => cs.setIfInBounds x.snd x.fst) #[Value.int IntKind.u8 0, Value.int IntKind.u8 0, Value.int IntKind.u8 0, Value.int IntKind.u8 0, Value.int IntKind.u8 0, Value.int IntKind.u8 0, Value.int IntKind.u8 0, Value.int IntKind.u8 0, Value.int IntKind.u8 0, Value.int IntKind.u8 0, Value.int IntKind.u8 0, Value.int IntKind.u8 0, Value.int IntKind.u8 0, Value.int IntKind.u8 0, Value.int IntKind.u8 0, Value.int IntKind.u8 0, Value.int IntKind.u8 0, Value.int IntKind.u8 0, Value.int IntKind.u8 0, Value.int IntKind.u8 0, Value.int IntKind.u8 0, Value.int IntKind.u8 0, Value.int IntKind.u8 0, Value.int IntKind.u8 0, Value.int IntKind.u8 0, Value.int IntKind.u8 0, Value.int IntKind.u8 0, Value.int IntKind.u8 0, Value.int IntKind.u8 0, Value.int IntKind.u8 0, Value.int IntKind.u8 0, Value.int IntKind.u8 0] ((rowOf IntKind.u8 32 f).zipIdx 0) 0 32 = rowOf .u8 32 f := by kernel_rfl
def RPathPost (ps : List (Nat → Int)) (w : World) (e : Ending) (w' : World) : Prop := ∃ r, e = .returned (.tuple #[r, .int .i64 0]) ∧ w'.ownsRow w.heap.size 25 32 r ps.length (flatC ps) ∧ Below w.heap.size w w'
theorem rpath_one (v : Value) (hs : List (Nat → Int)) (w : World) (h1 : hs.length = 1) (hx : HashesIn w v hs) :
    Calls Tryd.prog 19 #[v, .int .i64 (0 : Int)] w (RPathPost (pathF hs 0) w) := by
  obtain ⟨a, cap, rfl, _⟩ := hx
  rw [h1, pathF_one hs h1]
  clear h1
  go_enter Tryd.func19, Tryd.ntmps19
  go_wp2_with (fail)
  go_ret2
  exact ⟨_, rfl, World.ownsRow_nil _ _ _ _, Below.refl _ _⟩
theorem rpath_no (a : Option Addr) (n cap : Nat) (i : Int) (w : World) (hn : n ≤ 9223372036854775807) (h : ¬ (0 ≤ i ∧ i < n)) :
    Calls Tryd.prog 19 #[.slice a n cap, .int .i64 i] w fun e w' => e = .returned (.tuple #[.slice none 0 0, .int .i64 1]) ∧ w = w' := by
  by_cases h0 : i < 0
  · clear h
    go_enter Tryd.func19, Tryd.ntmps19
    go_wp2_with (fail)
    go_ret2
    exact ⟨rfl, rfl⟩
  · have h1 : (n : Int) ≤ i := by omega
    clear h
    go_enter Tryd.func19, Tryd.ntmps19
    go_wp2_with (fail)
    go_ret2
    exact ⟨rfl, rfl⟩
set_option maxHeartbeats 1000000 in
theorem rpath_lo (a : Option Addr) (n cap k i : Nat) (hs ps : List (Nat → Int)) (w : World) (hx : HashesIn w (.slice a n cap) hs) (hn : 2 ≤ n) (hn2 : n ≤ 9223372036854775807) (hnc : n ≤ cap) (hk : k = splitF n) (hkn : k ≤ n) (hik : i < k) (hps : ps.length < 64)
    (ih1 : ∀ (v : Value) (w : World), HashesIn w v (hs.take k) → Calls Tryd.prog 19 #[v, .int .i64 (i : Int)] w (RPathPost ps w)) :
    Calls Tryd.prog 19 #[.slice a n cap, .int .i64 (i : Int)] w (RPathPost (ps ++ [rootF (hs.drop k)]) w) := by
  obtain ⟨i0, hi, hz0, hz1, hz2⟩ := info_parts Tryd.info25
  have HX := Lib.hid hx
  have HK := Lib.hid (show k ≤ n ∧ k ≤ cap from ⟨hkn, by omega⟩)
  have HL := Lib.hid hps
  have hsl1 := slice43hi a n cap k HK.out.2
  have hsl2 := slice43lo a n cap k HK.out.1
  have HS := Lib.hid (show ∀ w : World, Calls Tryd.prog 36 #[.int .i64 (n : Int)] w fun e w' => e = .returned (.int .i64 (k : Int)) ∧ w = w' from fun w => by rw [hk]; exact rsplit_any n w hn hn2)
  have hn1 : ((n : Int) == 1) = false := by rw [beq_eq_false_iff_ne]; omega
  have hin : (i : Int) < (n : Int) := by omega
  have hikI : (i : Int) < (k : Int) := by omega
  have hsz32 : (rowOf .u8 32 (rootF (hs.drop k))).size = 32 := rowOf_size _ _ _
  have hi0 : ¬ (i : Int) < 0 := by omega
  clear hx hk hps
  go_enter Tryd.func19, Tryd.ntmps19
  go_upto_region 8 with (first
    | (go_at_call 36; (with_reducible refine (HS.out _).mono ?_); rintro e w' ⟨rfl, rfl⟩)
    | (go_at_call 19; (with_reducible refine (ih1 (.slice (cutH a cap 0) k cap) _ (HX.out.take k HK.out.1)).mono ?_); rintro e w3 ⟨r, rfl, HO, HB⟩; replace HO := Lib.hid HO; replace HB := Lib.hid HB))
  go_wp2_with (first
    | (go_at_call 27; (with_reducible refine (rroot_any _ (hs.drop k) rfl (.slice (cutH a cap k) (n - k) (cap - k)) _ ((HX.out.drop k HK.out.1).below HB.out)).mono ?_); rintro e w4 ⟨rfl, hb⟩; replace HO := Lib.hid (HO.out.kept (grown_of_below hb) (own_ne HO.out)); replace HB := Lib.hid (HB.out.trans (hb.mono HB.out.size)); clear hb; have HR := Lib.hid (RowAt.new w4 .u8 32 25 (rootF (hs.drop k))); have HO5 := Lib.hid (HO.out.alloc (.cells (rowOf .u8 32 (rootF (hs.drop k))) 25)); have HB5 := Lib.hid (HB.out.trans ((below_alloc w4 (.cells (rowOf .u8 32 (rootF (hs.drop k))) 25)).mono HB.out.size)))
    | (at_builtin; (first | rw [build32s] | rw [build32]); refine wpList_append_own_at _ rfl (.tmp 36) (.tmp 41) 43 rfl w.heap.size 25 i0 (.agg (rowOf .u8 32 (fun _ => 0))) 32 32 Tryd.underlying43 hi hz0 hz1 hz2 (by simp [Value.cells, rowOf_size]) (by decide) r ps.length (flatC ps) rfl HO5.out ⟨w4.heap.size, 0, none⟩ 1 1 (rowOf .u8 32 (rootF (hs.drop k))).toList rfl (by rw [(rowOf_list _ _ _).2]) (fun j u hj => by rw [Addr.add_mid]; exact HR.out.range j u hj) (fun u hu => (Array.all_eq_true_iff_forall_mem.1 (rowOf_one _ _ _)) u (by simpa using hu)) (by unfold maxLen; have := HL.out; omega) (by have := HL.out; omega) HB5.out.size ?_; intro v' w6 HO6 HG6 _ _; replace HO6 := Lib.hid HO6; have HB6 := Lib.hid (HB5.out.grown HG6 HB5.out.size (fun k hk => (HO5.out.lt k hk).1)); clear HG6))
  go_ret2
  exact ⟨v', rfl, by rw [List.length_append, flatC_snoc]; exact HO6.out, HB6.out⟩
set_option maxHeartbeats 1000000 in
theorem rpath_hi (a : Option Addr) (n cap k i : Nat) (hs ps : List (Nat → Int)) (w : World) (hx : HashesIn w (.slice a n cap) hs) (hn : 2 ≤ n) (hn2 : n ≤ 9223372036854775807) (hnc : n ≤ cap) (hk : k = splitF n) (hkn : k ≤ n) (hin : i < n) (hik : ¬ i < k) (hps : ps.length < 64)
    (ih1 : ∀ (v : Value) (w : World), HashesIn w v (hs.drop k) → Calls Tryd.prog 19 #[v, .int .i64 ((i - k : Nat) : Int)] w (RPathPost ps w)) :
    Calls Tryd.prog 19 #[.slice a n cap, .int .i64 (i : Int)] w (RPathPost (ps ++ [rootF (hs.take k)]) w) := by
  obtain ⟨i0, hi, hz0, hz1, hz2⟩ := info_parts Tryd.info25
  have HX := Lib.hid hx
  have HK := Lib.hid (show k ≤ n ∧ k ≤ cap from ⟨hkn, by omega⟩)
  have HL := Lib.hid hps
  have hsl1 := slice43hi a n cap k HK.out.2
  have hsl2 := slice43lo a n cap k HK.out.1
  have HS := Lib.hid (show ∀ w : World, Calls Tryd.prog 36 #[.int .i64 (n : Int)] w fun e w' => e = .returned (.int .i64 (k : Int)) ∧ w = w' from fun w => by rw [hk]; exact rsplit_any n w hn hn2)
  have hn1 : ((n : Int) == 1) = false := by rw [beq_eq_false_iff_ne]; omega
  have hinI : (i : Int) < (n : Int) := by omega
  have hikI : ¬ (i : Int) < (k : Int) := by omega
  have hsub : ((i : Int) - (k : Int)) = ((i - k : Nat) : Int) := by omega
  have hsz32 : (rowOf .u8 32 (rootF (hs.take k))).size = 32 := rowOf_size _ _ _
  have hi0 : ¬ (i : Int) < 0 := by omega
  clear hx hk hps hin hik
  go_enter Tryd.func19, Tryd.ntmps19
  go_upto_region 10 with (first
    | (go_at_call 36; (with_reducible refine (HS.out _).mono ?_); rintro e w' ⟨rfl, rfl⟩)
    | (go_at_call 19; (with_reducible refine (ih1 (.slice (cutH a cap k) (n - k) (cap - k)) _ (HX.out.drop k HK.out.1)).mono ?_); rintro e w3 ⟨r, rfl, HO, HB⟩; replace HO := Lib.hid HO; replace HB := Lib.hid HB))
  go_wp2_with (first
    | (go_at_call 27; (with_reducible refine (rroot_any _ (hs.take k) rfl (.slice (cutH a cap 0) k cap) _ ((HX.out.take k HK.out.1).below HB.out)).mono ?_); rintro e w4 ⟨rfl, hb⟩; replace HO := Lib.hid (HO.out.kept (grown_of_below hb) (own_ne HO.out)); replace HB := Lib.hid (HB.out.trans (hb.mono HB.out.size)); clear hb; have HR := Lib.hid (RowAt.new w4 .u8 32 25 (rootF (hs.take k))); have HO5 := Lib.hid (HO.out.alloc (.cells (rowOf .u8 32 (rootF (hs.take k))) 25)); have HB5 := Lib.hid (HB.out.trans ((below_alloc w4 (.cells (rowOf .u8 32 (rootF (hs.take k))) 25)).mono HB.out.size)))
    | (at_builtin; (first | rw [build32s] | rw [build32]); refine wpList_append_own_at _ rfl (.tmp 53) (.tmp 58) 43 rfl w.heap.size 25 i0 (.agg (rowOf .u8 32 (fun _ => 0))) 32 32 Tryd.underlying43 hi hz0 hz1 hz2 (by simp [Value.cells, rowOf_size]) (by decide) r ps.length (flatC ps) rfl HO5.out ⟨w4.heap.size, 0, none⟩ 1 1 (rowOf .u8 32 (rootF (hs.take k))).toList rfl (by rw [(rowOf_list _ _ _).2]) (fun j u hj => by rw [Addr.add_mid]; exact HR.out.range j u hj) (fun u hu => (Array.all_eq_true_iff_forall_mem.1 (rowOf_one _ _ _)) u (by simpa using hu)) (by unfold maxLen; have := HL.out; omega) (by have := HL.out; omega) HB5.out.size ?_; intro v' w6 HO6 HG6 _ _; replace HO6 := Lib.hid HO6; have HB6 := Lib.hid (HB5.out.grown HG6 HB5.out.size (fun k hk => (HO5.out.lt k hk).1)); clear HG6))
  go_ret2
  exact ⟨v', rfl, by rw [List.length_append, flatC_snoc]; exact HO6.out, HB6.out⟩
theorem rpath_ok : ∀ (n : Nat) (hs : List (Nat → Int)), hs.length = n → ∀ (i : Nat), i < n → ∀ (v : Value) (w : World), HashesIn w v hs →
    Calls Tryd.prog 19 #[v, .int .i64 (i : Int)] w (RPathPost (pathF hs i) w) := by
  intro n
  induction n using Nat.strongRecOn with
  | _ n ih =>
    intro hs hl i hi v w hx
    have hx0 := hx
    obtain ⟨a, cap, rfl, hc, hm, _⟩ := hx
    unfold maxLen at hm
    by_cases h1 : n = 1
    · obtain rfl : i = 0 := by omega
      exact rpath_one _ hs w (by omega) hx0
    · have sp := splitF_spec hs.length (by omega) (by omega)
      have hk := sp.2.1
      by_cases hik : i < splitF hs.length
      · have hlk : (hs.take (splitF hs.length)).length = splitF hs.length := by rw [List.length_take]; omega
        rw [pathF_lo hs ⟨sp.1, sp.2.1⟩ i hik]
        exact rpath_lo a hs.length cap (splitF hs.length) i hs _ w hx0 (by omega) (by omega) hc rfl (by omega) hik
          (Nat.lt_succ_of_le (path_depth 63 _ i (by rw [hlk]; omega) (by rw [hlk]; omega) (by rw [hlk]; exact hik)))
          (fun v w => ih (splitF hs.length) (by omega) (hs.take (splitF hs.length)) hlk i hik v w)
      · have hlk : (hs.drop (splitF hs.length)).length = hs.length - splitF hs.length := by rw [List.length_drop]
        rw [pathF_hi hs ⟨sp.1, sp.2.1⟩ i hik]
        exact rpath_hi a hs.length cap (splitF hs.length) i hs _ w hx0 (by omega) (by omega) hc rfl (by omega) (by omega) hik
          (Nat.lt_succ_of_le (path_depth 63 _ (i - splitF hs.length) (by rw [hlk]; omega) (by rw [hlk]; omega) (by rw [hlk]; omega)))
          (fun v w => ih (hs.length - splitF hs.length) (by omega) (hs.drop (splitF hs.length)) hlk (i - splitF hs.length) (by omega) v w)
/-- Path in all cases -/
def pathR (hs : List (Nat → Int)) (i : Int) : List (Nat → Int) × Option Nat := if 0 ≤ i ∧ i < hs.length then (pathF hs i.toNat, none) else ([], some 1)
theorem pathR_len (hs : List (Nat → Int)) (i : Int) (h : hs.length ≤ 9223372036854775807) : (pathR hs i).1.length ≤ 63 := by
  unfold pathR
  split
  · exact path_depth 63 _ _ (by omega) (by omega) (by omega)
  · simp
theorem rpath_any (hs : List (Nat → Int)) (i : Int) (v : Value) (w : World) (hx : HashesIn w v hs) :
    Calls Tryd.prog 19 #[v, .int .i64 i] w fun e w' => ∃ r, e = .returned (.tuple #[r, .int .i64 (numE (pathR hs i).2)]) ∧ w'.ownsRow w.heap.size 25 32 r (pathR hs i).1.length (flatC (pathR hs i).1) ∧ Below w.heap.size w w' := by
  unfold pathR
  by_cases h : 0 ≤ i ∧ i < hs.length
  · rw [if_pos h]
    obtain ⟨k, rfl⟩ : ∃ k : Nat, i = (k : Int) := ⟨i.toNat, by omega⟩
    exact rpath_ok hs.length hs rfl k (by omega) v w hx
  · rw [if_neg h]
    obtain ⟨a, cap, rfl, hc, hm, _⟩ := hx
    refine (rpath_no a hs.length cap i w (by unfold maxLen at hm; omega) h).mono ?_
    rintro e w' ⟨rfl, rfl⟩
    exact ⟨_, rfl, World.ownsRow_nil _ _ _ _, Below.refl _ _⟩
theorem path_no (a : Option Addr) (n cap : Nat) (i : Int) (w : World) (hn : n ≤ 9223372036854775807) (h : ¬ (0 ≤ i ∧ i < n)) :
    Calls Tryd.prog 18 #[.slice a n cap, .int .i64 i] w fun e w' => e = .returned (.tuple #[.slice none 0 0, errV (some 1)]) ∧ w = w' := by
  by_cases h0 : i < 0
  · clear h
    go_enter Tryd.func18, Tryd.ntmps18
    go_wp2_with (fail)
    go_ret2
    exact ⟨rfl, rfl⟩
  · have h1 : (n : Int) ≤ i := by omega
    clear h
    go_enter Tryd.func18, Tryd.ntmps18
    go_wp2_with (fail)
    go_ret2
    exact ⟨rfl, rfl⟩
theorem spath_any (hs : List (Nat → Int)) (i : Int) (v : Value) (w : World) (hx : HashesIn w v hs) (he : Env w) :
    Calls Tryd.prog 18 #[v, .int .i64 i] w fun e w' => ∃ r, e = .returned (.tuple #[r, errV (pathR hs i).2]) ∧ w'.ownsRow w.heap.size 25 32 r (pathR hs i).1.length (flatC (pathR hs i).1) ∧ Below w.heap.size w w' := by
  unfold pathR
  by_cases h : 0 ≤ i ∧ i < hs.length
  · rw [if_pos h]
    obtain ⟨k, rfl⟩ : ∃ k : Nat, i = (k : Int) := ⟨i.toNat, by omega⟩
    exact path_any hs k (by omega) v w hx he
  · rw [if_neg h]
    obtain ⟨a, cap, rfl, hc, hm, _⟩ := hx
    refine (path_no a hs.length cap i w (by unfold maxLen at hm; omega) h).mono ?_
    rintro e w' ⟨rfl, rfl⟩
    exact ⟨_, rfl, World.ownsRow_nil _ _ _ _, Below.refl _ _⟩
end Go.Proofs.YtbppainejdphpaaDoor
