/- Part 8 of the proof. -/
import Derived.Test.YtggcodobkmhkgaaDoorFc7
namespace Go.Proofs.YtggcodobkmhkgaaDoor
set_option linter.unusedVariables false
set_option linter.unusedSimpArgs false
open Go.RowKit Go.Maps
set_option maxRecDepth 100000
def freshR (w : World) : FsR := ⟨w.heap.size + 1, w.heap.size, [], 0, false, 0, false⟩
theorem fs_made (w : World) : FsAt ((w.alloc (.map #[] 0)).alloc (.cells #[.map (some w.heap.size), .int .i64 0, .bool false, .int .i64 0, .bool false] 98)) (freshR w) where
  own := by
    have := heap_alloc_new (w.alloc (.map #[] 0)) (.cells #[.map (some w.heap.size), .int .i64 0, .bool false, .int .i64 0, .bool false] 98)
    rwa [size_alloc] at this
  map := (World.ownsMap_made w Tryd.prog 9 heldE).alloc _
  ents := by intro e he; cases he
  sorted := List.Pairwise.nil
  apart := List.Pairwise.nil
  many := by simp [freshR]
  leftOk := by simp [freshR]
def NewPost (w : World) (e : Ending) (w' : World) : Prop := e = .returned (.pointer (some ⟨w.heap.size + 1, 0, none⟩)) ∧ FsAt w' (freshR w) ∧ Below w.heap.size w w'
theorem fnew_any (w : World) : Calls Tryd.prog 8 #[] w (NewPost w) := by
  have hmm := @run_makeMap Tryd.prog
  go_enter Tryd.func8, Tryd.ntmps8
  go_wp2_with (fail)
  go_ret
  exact ⟨rfl, fs_made w, Below.alloc0 (Below.alloc0 (Below.refl _ _) _) _⟩
/-- the first k bytes of a file's slice -/
def firstV (v : Value) (k : Nat) : Value := match v with | .slice a _ _ => .slice a k k | x => x
def FirstPost (w : World) (v : Value) (k : Nat) (e : Ending) (w' : World) : Prop := e = .returned (firstV v k) ∧ Below w.heap.size w w'
theorem first_view {w : World} {v : Value} {xs : List Int} (h : ViewAt w v xs) (k : Nat) (hk : k ≤ xs.length) : ViewAt w (firstV v k) (xs.take k) := by
  rcases h with ⟨rfl, rfl⟩ | ⟨g, cap, cur, rfl, hg, h1, h2, h3, h4⟩
  · obtain rfl : k = 0 := by simpa using hk
    exact .inl ⟨rfl, rfl⟩
  · have hl : (xs.take k).length = k := by rw [List.length_take]; omega
    refine .inr ⟨g, k, cur, by rw [hl]; rfl, hg, by rw [hl]; omega, by omega, by omega, ?_⟩
    rw [hl]
    have : cur.toList.take k = (cur.toList.take xs.length).take k := by rw [List.take_take]; congr 1; omega
    rw [this, h4]
    simp [byteVals, List.map_take]
theorem first_used {v : Value} {k : Nat} {i o : Nat} {xs : List Int} {w : World} (h : ViewAt w v xs) (hk : k ≤ xs.length) (hu : Used (firstV v k) i o) : Used v i o := by
  rcases h with ⟨rfl, rfl⟩ | ⟨g, cap, cur, rfl, hg, h1, h2, h3, h4⟩
  · obtain ⟨a, n, c, e, _⟩ := hu; cases e
  · obtain ⟨a, n, c, e, rfl, ho⟩ := hu
    injection e with e1 e2 e3; injection e1 with e1; subst e1 e2 e3
    exact ⟨_, _, _, rfl, rfl, by omega⟩
theorem first_spare {v : Value} {k : Nat} {i o : Nat} (hu : Spare (firstV v k) i o) : False := by
  obtain ⟨a, n, c, e, rfl, h1, h2⟩ := hu
  unfold firstV at e
  split at e
  · injection e with _ e2 e3; omega
  · subst e; rename_i hn; exact hn _ _ _ rfl
theorem first_any (v : Value) (xs : List Int) (safe : Nat) (k : Nat) (w : World) (h : ViewAt w v xs) (hk : k ≤ xs.length) : Calls Tryd.prog 48 #[.agg #[v, .int .i64 safe], .int .i64 k] w (FirstPost w v k) := by
  rcases h with ⟨rfl, rfl⟩ | ⟨g, cap, cur, rfl, hg, h1, h2, h3, h4⟩
  · obtain rfl : k = 0 := by simpa using hk
    go_enter Tryd.func48, Tryd.ntmps48
    go_wp2_with (fail)
    go_ret
    exact ⟨rfl, Below.alloc0 (Below.refl _ _) _⟩
  · have hkc : (k : Int) ≤ cap := by omega
    have hk0 : (0 : Int) ≤ k := by omega
    clear hg h1 h2 h3 h4 hk
    go_enter Tryd.func48, Tryd.ntmps48
    go_wp2_with (fail)
    go_ret
    exact ⟨rfl, Below.alloc0 (Below.refl _ _) _⟩
theorem down_any (R : FsR) (w : World) (H : FsAt w R) : Calls Tryd.prog 18 #[.pointer (some ⟨R.pb, 0, none⟩)] w fun e w' => e = .returned (.bool R.down) ∧ w = w' := by
  have c4 : w.cell? ⟨R.pb, 0 + 4, none⟩ = some (.bool R.down) := by rw [Nat.zero_add, H.cell]; rfl
  have c4' : w.cell? ⟨R.pb, 4, none⟩ = some (.bool R.down) := by rw [H.cell]; rfl
  clear H
  go_enter Tryd.func18, Tryd.ntmps18
  go_wp2_with (fail)
  go_ret
  exact ⟨rfl, rfl⟩
theorem down_none (w : World) : Calls Tryd.prog 18 #[.pointer none] w fun e w' => e = .returned (.bool false) ∧ w = w' := by
  go_enter Tryd.func18, Tryd.ntmps18
  go_wp2_with (fail)
  go_ret
  exact ⟨rfl, rfl⟩
theorem fsteps_any (R : FsR) (w : World) (H : FsAt w R) : Calls Tryd.prog 20 #[.pointer (some ⟨R.pb, 0, none⟩)] w fun e w' => e = .returned (.int .i64 R.steps) ∧ w = w' := by
  have c4 : w.cell? ⟨R.pb, 0 + 1, none⟩ = some (.int .i64 R.steps) := by rw [Nat.zero_add, H.cell]; rfl
  have c4' : w.cell? ⟨R.pb, 1, none⟩ = some (.int .i64 R.steps) := by rw [H.cell]; rfl
  clear H
  go_enter Tryd.func20, Tryd.ntmps20
  go_wp2_with (fail)
  go_ret
  exact ⟨rfl, rfl⟩
theorem steps_none (w : World) : Calls Tryd.prog 20 #[.pointer none] w fun e w' => e = .returned (.int .i64 0) ∧ w = w' := by
  go_enter Tryd.func20, Tryd.ntmps20
  go_wp2_with (fail)
  go_ret
  exact ⟨rfl, rfl⟩
theorem findR_mem {R : FsR} {s : ByteArray} {er : Option Nat} {e : Ent} (h : findR R s = (er, some e)) : er = none ∧ getE s.data.toList R.es = some e := by
  unfold findR at h
  split at h
  · injection h with _ h; cases h
  · split at h
    · injection h with h1 h2; injection h2 with h2; subst h2; exact ⟨h1.symm, by assumption⟩
    · injection h with _ h; cases h
def fileXs : Option Ent → List Int
  | some e => e.xs
  | none => []
def fileSafe : Option Ent → Nat
  | some e => e.safe
  | none => 0
def SafePost (w : World) (r : Option Nat × Option Ent) (e : Ending) (w' : World) : Prop := e = .returned (.tuple #[.int .i64 (fileSafe r.2), errV r.1]) ∧ Below w.heap.size w w'
set_option maxHeartbeats 1000000 in
theorem safe_any (R : FsR) (w : World) (H : FsAt w R) (s : ByteArray) (hs : s.size ≤ maxLen) : Calls Tryd.prog 46 #[.pointer (some ⟨R.pb, 0, none⟩), .string s] w (SafePost w (findR R s)) := by
  have hf := find_any R w H s hs
  obtain ⟨er, oe, hr⟩ : ∃ er oe, findR R s = (er, oe) := ⟨_, _, rfl⟩
  rw [hr] at hf ⊢
  cases oe with
  | none =>
    have HF := Lib.hid hf
    clear hf H hs hr
    go_enter Tryd.func46, Tryd.ntmps46
    go_wp2_with (go_at_call 52; (with_reducible refine HF.out.mono ?_); rintro e w1 ⟨rfl, hb⟩; simp only [fileV]; have HB := Lib.hid hb; clear hb)
    go_ret2
    exact ⟨rfl, Below.alloc0 HB.out _⟩
  | some en =>
    obtain ⟨rfl, hm⟩ := findR_mem hr
    obtain ⟨a, cap, hv⟩ := (H.ents en (getE_some hm).1).1.len
    have HF := Lib.hid hf
    obtain ⟨nm, v, xs, sf⟩ := en
    simp only at hv; subst hv
    clear hf H hs hr hm
    go_enter Tryd.func46, Tryd.ntmps46
    go_wp2_with (go_at_call 52; (with_reducible refine HF.out.mono ?_); rintro e w1 ⟨rfl, hb⟩; simp only [fileV, entV]; have HB := Lib.hid hb; clear hb)
    go_ret2
    exact ⟨rfl, Below.alloc0 HB.out _⟩
theorem ownsRow_base_le {w : World} {base base' : Nat} {e : TypeId} {size : Nat} {v : Value} {n : Nat} {xs : List Value} (h : w.ownsRow base e size v n xs) (hb : base' ≤ base) : w.ownsRow base' e size v n xs := by
  obtain ⟨h1, h2⟩ := h
  refine ⟨h1, h2.imp id ?_⟩
  rintro ⟨g, cap, cur, a, b, r⟩
  exact ⟨g, cap, cur, a, Nat.le_trans hb b, r⟩
def ReadPost (w : World) (r : Option Nat × Option Ent) (e : Ending) (w' : World) : Prop :=
  ∃ v, e = .returned (.tuple #[v, errV r.1]) ∧ w'.ownsRow w.heap.size 5 1 v (fileXs r.2).length (byteVals (fileXs r.2)) ∧ Below w.heap.size w w'
set_option maxHeartbeats 1000000 in
theorem fread_any (R : FsR) (w : World) (H : FsAt w R) (s : ByteArray) (hs : s.size ≤ maxLen) : Calls Tryd.prog 14 #[.pointer (some ⟨R.pb, 0, none⟩), .string s] w (ReadPost w (findR R s)) := by
  have hf := find_any R w H s hs
  obtain ⟨er, oe, hr⟩ : ∃ er oe, findR R s = (er, oe) := ⟨_, _, rfl⟩
  rw [hr] at hf ⊢
  cases oe with
  | none =>
    have HF := Lib.hid hf
    clear hf H hs hr
    go_enter Tryd.func14, Tryd.ntmps14
    go_wp2_with (first | (go_at_call 52; (with_reducible refine HF.out.mono ?_); rintro e w1 ⟨rfl, hb⟩; simp only [fileV]; have HB := Lib.hid hb; clear hb) | (go_at_call 53; (with_reducible refine (clone_any _ [] _ (nil_in _) (by simp)).mono ?_); rintro e w2 ⟨v', rfl, ho, hb⟩; have HO := Lib.hid ho; have HB2 := Lib.hid hb; clear ho hb))
    go_ret2
    refine ⟨v', rfl, ?_, (Below.alloc0 HB.out _).trans (HB2.out.mono (by rw [size_alloc]; have := HB.out.size; omega))⟩
    exact ownsRow_base_le HO.out (by rw [size_alloc]; have := HB.out.size; omega)
  | some en =>
    obtain ⟨rfl, hm⟩ := findR_mem hr
    obtain ⟨hvw, _, hlen, _⟩ := H.ents en (getE_some hm).1
    obtain ⟨a, cap, hv⟩ := hvw.len
    have HF := Lib.hid hf
    obtain ⟨nm, v, xs, sf⟩ := en
    simp only at hv hvw hlen; subst hv
    have HW := Lib.hid hvw
    have HLN : Hid (xs.length ≤ 16777216) := Lib.hid hlen
    clear hf H hs hr hm hvw hlen
    go_enter Tryd.func14, Tryd.ntmps14
    go_wp2_with (first | (go_at_call 52; (with_reducible refine HF.out.mono ?_); rintro e w1 ⟨rfl, hb⟩; simp only [fileV, entV]; have HB := Lib.hid hb; clear hb) | (go_at_call 53; (with_reducible refine (clone_any _ xs _ ((HW.out.below (Below.alloc0 HB.out _)).bytes (by have := HLN.out; unfold maxLen; omega)) (by have := HLN.out; omega)).mono ?_); rintro e w2 ⟨v', rfl, ho, hb⟩; have HO := Lib.hid ho; have HB2 := Lib.hid hb; clear ho hb))
    go_ret2
    refine ⟨v', rfl, ?_, (Below.alloc0 HB.out _).trans (HB2.out.mono (by rw [size_alloc]; have := HB.out.size; omega))⟩
    exact ownsRow_base_le HO.out (by rw [size_alloc]; have := HB.out.size; omega)
end Go.Proofs.YtggcodobkmhkgaaDoor
