/- turnsTo: the way down to a leaf. -/
import Derived.Test.YtbppainejdphpaaDoorShSib
namespace Go.Proofs.YtbppainejdphpaaDoor
open Go.RowKit
theorem turns_len (n i : Nat) (hn : n ≤ 9223372036854775807) (hi : i < n) : (turnsF i n).length ≤ 63 := by
  have h := path_turns n (List.replicate n zeroH) i (by simp) (by omega) hi
  rw [← h]
  exact path_depth 63 _ i (by simp; omega) (by simp; omega) (by simpa using hi)
def TurnsPost (ts : List Bool) (w : World) (e : Ending) (w' : World) : Prop := ∃ r, e = .returned r ∧ w'.ownsRow w.heap.size 4 1 r ts.length (ts.map Value.bool) ∧ Below w.heap.size w w'
theorem Tryd.info4 : (Tryd.prog.info? 4).map (fun i => (i.zero, i.size, i.bytes)) = some (some (.bool false), 1, 1) := by kernel_rfl
/-- what holds at the head of each round -/
def TurnsRel (i n : Nat) (w : World) (a b v : Value) (wr : World) : Prop :=
  ∃ (j m : Nat) (ts : List Bool), a = .int .i64 (j : Int) ∧ b = .int .i64 (m : Int) ∧ j < m ∧ m ≤ n ∧ ts ++ turnsF j m = turnsF i n ∧ wr.ownsRow w.heap.size 4 1 v ts.length (ts.map Value.bool) ∧ Below w.heap.size w wr
theorem new_bool (w : World) (b : Bool) (x : Nat) (u : Value) (h : ([.bool b] : List Value)[x]? = some u) : (w.alloc (.cells #[.bool b] 4)).cell? ((⟨w.heap.size, 0, none⟩ : Addr).add x) = some u := by
  rw [Addr.add_mid, Nat.zero_add, cell_of_row _ _ _ _ _ _ (heap_alloc_new w _)]
  match x, h with
  | 0, h => cases h; rfl
set_option maxRecDepth 100000 in
set_option maxHeartbeats 400000 in
theorem turns_any (i n : Nat) (w : World) (hi : i < n) (hn : n ≤ 9223372036854775807) : Calls Tryd.prog 37 #[.int .i64 (i : Int), .int .i64 (n : Int)] w (TurnsPost (turnsF i n) w) := by
  obtain ⟨i0, hi0, hz0, hz1, hz2⟩ := info_parts Tryd.info4
  have HN := Lib.hid (show i < n ∧ n ≤ 9223372036854775807 from ⟨hi, hn⟩)
  clear hi
  go_enter Tryd.func37, Tryd.ntmps37
  go_wp2_with (fail)
  go_loopw [0, 1, 5] (fun a b v wr => TurnsRel i n w a b v wr) (fun _ b _ _ => (intOf b).toNat)
  case atStart => exact ⟨i, n, [], rfl, rfl, HN.out.1, Nat.le_refl _, rfl, World.ownsRow_nil _ _ _ _, Below.refl _ _⟩
  case round =>
    obtain ⟨j, m, ts, rfl, rfl, hjm, hmn, hts, HO, HB⟩ := hrel
    replace HO := Lib.hid HO
    replace HB := Lib.hid HB
    replace hts := Lib.hid hts
    by_cases h1 : m = 1
    · subst h1
      have ht : turnsF i n = ts := by rw [← hts.out, turnsF_one, List.append_nil]
      replace ht := Lib.hid ht
      clear hts hjm hmn
      go_wp2_with (fail)
      go_ret
      exact ⟨u5, rfl, by rw [ht.out]; exact HO.out, HB.out⟩
    · have hm1 : ¬ m ≤ 1 := by omega
      obtain ⟨k, hk⟩ : ∃ k, k = splitF m := ⟨_, rfl⟩
      have sp := splitF_spec m (by omega) (by omega)
      rw [← hk] at sp
      have hkm := sp.2.1
      have hk1 := sp.1
      have HS := Lib.hid (show ∀ w : World, Calls Tryd.prog 40 #[.int .i64 (m : Int)] w fun e w' => e = .returned (.int .i64 (k : Int)) ∧ w = w' from fun w => by rw [hk]; exact split_any m w (by omega) (by omega))
      have HK := Lib.hid (show k = splitF m from hk)
      clear hk sp
      by_cases hjk : j < k
      · have hd : decide (k ≤ j) = false := by simp; omega
        have HL := Lib.hid (show ts.length + 1 ≤ 63 from by
          have h1 := turns_len n i HN.out.2 HN.out.1
          rw [← hts.out, List.length_append, turnsF_lo j m ⟨by rw [← HK.out]; omega, by rw [← HK.out]; omega⟩ (by rw [← HK.out]; omega), List.length_cons] at h1
          omega)
        have HA := Lib.hid (show w.heap.size ≤ (wr.alloc (.cells #[.bool false] 4)).heap.size from by rw [shSize_alloc]; have := HB.out.size; omega)
        go_wp2_with (first
          | (go_at_call 40; (with_reducible refine (HS.out _).mono ?_); rintro e w' ⟨rfl, rfl⟩)
          | (at_builtin; refine wpList_append_own _ rfl (.tmp 15) (.tmp 17) 72 rfl w.heap.size 4 i0 (.bool false) 1 1 Tryd.underlying72 hi0 hz0 hz1 hz2 rfl (by decide) u5 ts.length (ts.map Value.bool) rfl (HO.out.alloc _) ⟨wr.heap.size, 0, none⟩ 1 1 [.bool false] rfl rfl (fun x u hx => new_bool wr false x u hx) (fun u hu => by simp at hu; subst hu; rfl) (by unfold maxLen; have := HL.out; omega) (by have := HL.out; omega) HA.out ?_; intro v' w6 HO6 HG6 _; replace HO6 := Lib.hid HO6; have HB6 := Lib.hid ((HB.out.trans ((below_alloc wr (.cells #[.bool false] 4)).mono HB.out.size)).grown HG6 HA.out (fun x hx => (HO.out.lt x hx).1)); clear HG6))
        go_roundw
        case rel => exact ⟨j, k, ts ++ [false], rfl, rfl, by omega, by omega, by rw [List.append_assoc, List.singleton_append, ← hts.out, turnsF_lo j m ⟨by rw [← HK.out]; omega, by rw [← HK.out]; omega⟩ (by rw [← HK.out]; omega), HK.out], by rw [List.length_append, List.map_append]; exact HO6.out, HB6.out⟩
        case measure => simp [intOf]; omega
      · have hd : decide (k ≤ j) = true := by simp; omega
        have HL := Lib.hid (show ts.length + 1 ≤ 63 from by
          have h1 := turns_len n i HN.out.2 HN.out.1
          rw [← hts.out, List.length_append, turnsF_hi j m ⟨by rw [← HK.out]; omega, by rw [← HK.out]; omega⟩ (by rw [← HK.out]; omega), List.length_cons] at h1
          omega)
        have HA := Lib.hid (show w.heap.size ≤ (wr.alloc (.cells #[.bool true] 4)).heap.size from by rw [shSize_alloc]; have := HB.out.size; omega)
        go_wp2_with (first
          | (go_at_call 40; (with_reducible refine (HS.out _).mono ?_); rintro e w' ⟨rfl, rfl⟩)
          | (at_builtin; refine wpList_append_own _ rfl (.tmp 15) (.tmp 17) 72 rfl w.heap.size 4 i0 (.bool false) 1 1 Tryd.underlying72 hi0 hz0 hz1 hz2 rfl (by decide) u5 ts.length (ts.map Value.bool) rfl (HO.out.alloc _) ⟨wr.heap.size, 0, none⟩ 1 1 [.bool true] rfl rfl (fun x u hx => new_bool wr true x u hx) (fun u hu => by simp at hu; subst hu; rfl) (by unfold maxLen; have := HL.out; omega) (by have := HL.out; omega) HA.out ?_; intro v' w6 HO6 HG6 _; replace HO6 := Lib.hid HO6; have HB6 := Lib.hid ((HB.out.trans ((below_alloc wr (.cells #[.bool true] 4)).mono HB.out.size)).grown HG6 HA.out (fun x hx => (HO.out.lt x hx).1)); clear HG6))
        go_roundw
        case rel => exact ⟨j - k, m - k, ts ++ [true], by rw [Int.ofNat_sub (by omega)], by rw [Int.ofNat_sub (by omega)], by omega, by omega, by rw [List.append_assoc, List.singleton_append, ← hts.out, turnsF_hi j m ⟨by rw [← HK.out]; omega, by rw [← HK.out]; omega⟩ (by rw [← HK.out]; omega), HK.out], by rw [List.length_append, List.map_append]; exact HO6.out, HB6.out⟩
        case measure => simp [intOf]; omega
end Go.Proofs.YtbppainejdphpaaDoor
