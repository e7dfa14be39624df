/- Part 35 of the proof. -/
import Derived.Great.BuildSlice
import Derived.Test.YtilpohdidekenaaGreatDoorKl16
import Derived.Test.YtilpohdidekenaaGreatDoorKl17
import Derived.Test.YtilpohdidekenaaGreatDoorKl34
namespace Go.Proofs.YtilpohdidekenaaGreatDoor
set_option linter.unusedVariables false
set_option linter.unusedSimpArgs false
open Go.RowKit Go.Maps Go.Proofs
set_option maxRecDepth 100000
theorem oneF_ok {b p : List Int} (hb : bytesOk b) (h : oneF b = (none, p)) : bytesOk p ∧ p.length ≤ b.length := by
  unfold oneF at h
  repeat' split at h
  all_goals first | (cases h; done) | skip
  injection h with _ h
  subst h
  exact ⟨(hb.take _).drop _, by simp; omega⟩
theorem scanG_okB : ∀ (f : Nat) (b : List Int), bytesOk b → ∀ p ∈ (scanG f b).1, bytesOk p ∧ p.length ≤ b.length
  | 0, _, _ => fun p hp => by cases hp
  | f + 1, b, hb => by
    intro p hp
    unfold scanG at hp
    split at hp
    · rename_i q h1
      have h2 := oneF_ok hb h1
      rcases List.mem_cons.1 hp with rfl | hp
      · exact h2
      · have h3 := scanG_okB f (b.drop (q.length + 12)) (hb.drop _) p hp
        exact ⟨h3.1, by have := h3.2; rw [List.length_drop] at this; omega⟩
    · cases hp
theorem scanG_few2 : ∀ (f : Nat) (b : List Int), (scanG f b).1.length ≤ f
  | 0, _ => by simp [scanG]
  | f + 1, b => by
    unfold scanG
    split
    · rename_i q _
      have := scanG_few2 f (b.drop (q.length + 12))
      simp only [List.length_cons]
      omega
    · simp
theorem owns_cellsB {w : World} {B n : Nat} {e : TypeId} {v : Value} {vs : List Value} (h : w.ownsRow B e 1 v n vs) : ∃ a c, v = .slice a n c ∧ n ≤ c ∧ ∀ (j : Nat) (x : Value), vs[j]? = some x → j < n → ∃ g, a = some ⟨g, 0, none⟩ ∧ w.cell? ⟨g, j, none⟩ = some x := by
  rcases h.2 with ⟨rfl, h0⟩ | ⟨g, c, cur, rfl, hb, hg, hc, hm, hs, ht⟩
  · exact ⟨none, 0, by rw [h0], by omega, fun j x _ hj => by omega⟩
  · refine ⟨_, c, rfl, hc, fun j x hx _ => ⟨g, rfl, ?_⟩⟩
    have := h.cells (g := g) rfl j x hx
    rw [Addr.add_mid, Nat.zero_add] at this
    exact this
theorem bss_of_own {w : World} {B B' : Nat} {own : Option Nat} {v : Value} {vs : List Value} {ps : List (List Int)} (h : w.ownsRow B 26 1 v vs.length vs) (hl : ListsIn w B' own vs ps) (hm : ps.length ≤ maxLen) : BssIn w v ps := by
  obtain ⟨a, c, rfl, hc, hx⟩ := owns_cellsB h
  refine ⟨a, c, by rw [hl.1], by rw [← hl.1]; exact hc, hm, ?_⟩
  cases ps with
  | nil => exact .inl rfl
  | cons q r =>
    right
    have h0 : 0 < vs.length := by rw [hl.1]; simp
    obtain ⟨g, rfl, _⟩ := hx 0 vs[0] (by simp [h0]) h0
    refine ⟨g, 0, rfl, fun i p hp => ?_⟩
    have hi : i < vs.length := by rw [hl.1]; exact (List.getElem?_eq_some_iff.1 hp).1
    obtain ⟨g', e, hcell⟩ := hx i vs[i] (by simp [hi]) hi
    injection e with e; injection e with e; subst e
    refine ⟨vs[i], by rw [Nat.zero_add]; exact hcell, (hl.2 i vs[i] p (by simp [hi]) hp).1⟩
theorem BssIn.len {w : World} {v : Value} {ps : List (List Int)} (h : BssIn w v ps) : ∃ a c, v = .slice a ps.length c := by
  obtain ⟨a, c, h, _⟩ := h
  exact ⟨a, c, h⟩
theorem BssIn.at {w : World} {a : Option Addr} {n c : Nat} {ps : List (List Int)} (h : BssIn w (.slice a n c) ps) (i : Nat) (p : List Int) (hp : ps[i]? = some p) : ∃ ab ao, a = some ⟨ab, ao, none⟩ ∧ ∃ u, w.cell? ⟨ab, ao + i, none⟩ = some u ∧ BytesIn w u p := by
  obtain ⟨a', c', e, _, _, hx⟩ := h
  injection e with e1 e2 e3
  subst e1
  rcases hx with hx | ⟨ab, ao, rfl, hx⟩
  · rw [hx] at hp; cases hp
  · exact ⟨ab, ao, rfl, hx i p hp⟩
theorem lastG_at (k j u : Nat) (ps : List (List Int)) (p : List Int) (hp : ps[j]? = some p) : lastG k u (ps.drop j) = if doneE (uintS (p, none) k).2 = none ∧ u < (uintS (p, none) k).1 then lastG k (uintS (p, none) k).1 (ps.drop (j + 1)) else (0, some 14) := by
  have hj := (List.getElem?_eq_some_iff.1 hp).1
  rw [List.drop_eq_getElem_cons hj]
  have : ps[j] = p := (List.getElem?_eq_some_iff.1 hp).2
  rw [this]
  rfl
def LastPost (r : Nat × Option Nat) (w : World) (e : Ending) (w' : World) : Prop := e = .returned (.tuple #[.int .i64 (r.1 : Int), errV r.2]) ∧ Below w.heap.size w w'
set_option maxHeartbeats 1000000 in
theorem klast_any (v : Value) (ps : List (List Int)) (k : Nat) (w : World) (hv : BssIn w v ps) (hok : ∀ p ∈ ps, bytesOk p ∧ p.length ≤ 140737488355328) (hk : k ≤ 1048576) (hn : ps.length ≤ 140737488355328) :
    Calls Tryz.prog 80 #[v, .int .i64 (k : Int)] w (LastPost (lastS k ps) w) := by
  obtain ⟨a, c, rfl⟩ := hv.len
  have HV := Lib.hid hv
  have HOK := Lib.hid hok
  have HN := Lib.hid hn
  have HKU := Lib.hid (show IntKind.u64.wrap (k : Int) = (k : Int) from IntWalk.u64_in _ (by omega))
  have HK := Lib.hid hk
  have HS := Lib.hid (show lastS k ps = lastG k 0 (ps.drop 0) from rfl)
  clear hv hok hn hk
  go_enter Tryz.func80, Tryz.ntmps80
  go_wp2_with (fail)
  go_loopw [6, 13] (fun q i wr => ∃ (j u : Nat), j ≤ ps.length ∧ u ≤ k ∧ i = .int .i64 (j : Int) ∧ q = .int .i64 (u : Int) ∧ Hid (lastS k ps = lastG k u (ps.drop j)) ∧ Hid (Below w.heap.size w wr)) (fun _ i _ => ps.length - (intOf i).toNat)
  case atStart => exact ⟨0, 0, Nat.zero_le _, Nat.zero_le _, rfl, rfl, HS, Lib.hid (Below.refl _ _)⟩
  case round =>
    obtain ⟨j, u, hj, hu, rfl, rfl, HS, HB⟩ := hrel
    by_cases hlt : j < ps.length
    · obtain ⟨p, hp⟩ : ∃ p, ps[j]? = some p := ⟨ps[j], by simp [hlt]⟩
      have HL := Lib.hid (HS.out.trans (lastG_at k j u ps p hp))
      obtain ⟨ab, ao, rfl, x, hcell, hx⟩ := (HV.out.below HB.out).at j p hp
      have HX := Lib.hid hx
      have HP := Lib.hid (HOK.out p (List.mem_of_getElem? hp))
      obtain ⟨n, s1, h1⟩ : ∃ n s1, uintS (p, none) k = (n, s1) := ⟨_, _, rfl⟩
      have hnk : n ≤ k := by have := uintS_le (p, none) k; rw [h1] at this; exact this
      have hnk2 : (n : Int) ≤ 1048576 := by have := HK.out; omega
      have U1 := Lib.hid (show ∀ w q, RS w q (p, none) → Calls Tryz.prog 57 #[.pointer (some ⟨q, 0, none⟩), .int .u64 (k : Int)] w fun r w' => r = .returned (.int .u64 (n : Int)) ∧ RS w' q s1 ∧ Only q w w' from fun w q h => by
        have := uint_any q (p, none) k w h; rw [h1] at this; exact this)
      rw [h1] at HL
      simp only at HL
      clear h1 hx HS hp
      have hltI : (j : Int) < (ps.length : Int) := by omega
      have hjI : (j : Int) + 1 ≤ 140737488355328 := by have := HN.out; omega
      have hkI : (k : Int) ≤ 1048576 := by have := HK.out; omega
      cases hd : doneE s1 with
      | some y =>
        rw [hd, if_neg (by simp)] at HL
        go_wp2_with (first
          | (go_at_call 56; (with_reducible refine (read_any x p _ HX.out HP.out.1 HP.out.2).mono ?_); rintro e w2 ⟨q, y2, rfl, hq, hr, hb⟩; have HQ := Lib.hid (Nat.le_trans HB.out.size hq); have HR := Lib.hid (show RS w2 q (p, none) from ⟨y2, hr⟩); replace HB := Lib.hid (HB.out.trans (hb.mono HB.out.size)); clear hq hr hb)
          | (go_at_call 57; (with_reducible refine (U1.out _ q HR.out).mono ?_); rintro e w3 ⟨rfl, hr, ho⟩; replace HR := Lib.hid hr; replace HB := Lib.hid (HB.out.trans (ho.below HQ.out HB.out.size)); clear hr ho)
          | (go_at_call 60; (with_reducible refine (rdone_any q s1 _ HR.out).mono ?_); rintro e w4 ⟨rfl, rfl⟩; rw [hd, show errV (some y) = Value.iface 87 (.int .i64 (y : Int)) from rfl]))
        go_ret2
        rw [LastPost, HL.out]
        exact ⟨rfl, HB.out⟩
      | none =>
        by_cases hun : u < n
        · rw [hd, if_pos ⟨rfl, hun⟩] at HL
          have hd1 : decide ((n : Int) ≤ (u : Int)) = false := by simp; omega
          have hd2 : decide (n ≤ u) = false := by simpa using hun
          clear hun
          go_wp2_with (first
            | (go_at_call 56; (with_reducible refine (read_any x p _ HX.out HP.out.1 HP.out.2).mono ?_); rintro e w2 ⟨q, y2, rfl, hq, hr, hb⟩; have HQ := Lib.hid (Nat.le_trans HB.out.size hq); have HR := Lib.hid (show RS w2 q (p, none) from ⟨y2, hr⟩); replace HB := Lib.hid (HB.out.trans (hb.mono HB.out.size)); clear hq hr hb)
            | (go_at_call 57; (with_reducible refine (U1.out _ q HR.out).mono ?_); rintro e w3 ⟨rfl, hr, ho⟩; replace HR := Lib.hid hr; replace HB := Lib.hid (HB.out.trans (ho.below HQ.out HB.out.size)); clear hr ho)
            | (go_at_call 60; (with_reducible refine (rdone_any q s1 _ HR.out).mono ?_); rintro e w4 ⟨rfl, rfl⟩; rw [hd, show errV none = Value.nilIface from rfl]))
          go_roundw
          case rel => exact ⟨j + 1, n, by omega, hnk, by go_num, rfl, HL, HB⟩
          case measure => simp [intOf]; omega
        · rw [hd, if_neg (by simp [hun])] at HL
          have hd1 : decide ((n : Int) ≤ (u : Int)) = true := by simp; omega
          have hd2 : decide (n ≤ u) = true := by simpa using hun
          clear hun
          go_wp2_with (first
            | (go_at_call 56; (with_reducible refine (read_any x p _ HX.out HP.out.1 HP.out.2).mono ?_); rintro e w2 ⟨q, y2, rfl, hq, hr, hb⟩; have HQ := Lib.hid (Nat.le_trans HB.out.size hq); have HR := Lib.hid (show RS w2 q (p, none) from ⟨y2, hr⟩); replace HB := Lib.hid (HB.out.trans (hb.mono HB.out.size)); clear hq hr hb)
            | (go_at_call 57; (with_reducible refine (U1.out _ q HR.out).mono ?_); rintro e w3 ⟨rfl, hr, ho⟩; replace HR := Lib.hid hr; replace HB := Lib.hid (HB.out.trans (ho.below HQ.out HB.out.size)); clear hr ho)
            | (go_at_call 60; (with_reducible refine (rdone_any q s1 _ HR.out).mono ?_); rintro e w4 ⟨rfl, rfl⟩; rw [hd, show errV none = Value.nilIface from rfl]))
          go_ret2
          rw [LastPost, HL.out]
          exact ⟨rfl, HB.out⟩
    · obtain rfl : j = ps.length := by omega
      have HL := Lib.hid (show lastS k ps = (u, none) by rw [HS.out, List.drop_length]; rfl)
      have hltI : ¬ ((ps.length : Int) < (ps.length : Int)) := by omega
      go_wp2_with (fail)
      go_ret2
      rw [LastPost, HL.out]
      exact ⟨rfl, HB.out⟩
end Go.Proofs.YtilpohdidekenaaGreatDoor
namespace Go.Proofs.YtilpohdidekenaaGreatDoor
set_option linter.unusedVariables false
set_option linter.unusedSimpArgs false
open Go.RowKit Go.Maps Go.Proofs
set_option maxRecDepth 100000
variable {B : Nat} {w : World} {p : Nat} {st : St} {nm : ByteArray} {bs : List (Value × List Int)}
def CountedPost (B p : Nat) (bs : List (Value × List Int)) (u : Nat) (st' : St) (w : World) (e : Ending) (w' : World) : Prop := e = .returned (.tuple #[.int .i64 (u : Int), .nilIface]) ∧ FsX B w' p st' bs ∧ Below B w w' ∧ KeepT w w'
theorem kcounted_none (h : FsX B w p st bs) (hn : nm.size ≤ maxLen) (k : Nat) (hf : aFind st nm = (some 8, none)) :
    Calls Tryz.prog 41 #[.pointer (some ⟨p, 0, none⟩), .string nm, .int .i64 (k : Int)] w (CountedPost B p bs 0 st w) := by
  have HR := Lib.hid (show Calls Tryz.prog 76 #[.pointer (some ⟨p, 0, none⟩), .string nm] w fun r w' => ∃ a c, r = .returned (.tuple #[.slice a 0 c, .iface 87 (.int .i64 8)]) ∧ Below w.heap.size w w' from (read_own h.own nm hn _ _ hf).mono fun r w' ⟨a, c, h1, _, h3⟩ => ⟨a, c, h1, h3⟩)
  have H := Lib.hid h
  clear h hf
  go_enter Tryz.func41, Tryz.ntmps41
  go_wp2_with (first
    | (go_at_call 76; (with_reducible refine HR.out.mono ?_); rintro e w2 ⟨a, c, rfl, hb⟩; have HB := Lib.hid hb; clear hb)
    | (go_at_call 77; (with_reducible refine (is_num 8 8 _).mono ?_); rintro e w3 ⟨rfl, rfl⟩))
  go_ret2
  exact ⟨rfl, H.out.below HB.out, HB.out.mono H.out.le, KeepT.of_below HB.out⟩
theorem scan_of {b : List Int} {ps : List (List Int)} {n : Nat} {g : Option Nat} (hs : scanF b = (ps, n, g)) (hb : bytesOk b) (hl : b.length ≤ 16777216) : (∀ q ∈ ps, bytesOk q ∧ q.length ≤ 140737488355328) ∧ ps.length ≤ 16777216 := by
  have h1 := scanG_okB b.length b hb
  have h2 := scanG_few2 b.length b
  rw [show scanG b.length b = (ps, n, g) from hs] at h1 h2
  exact ⟨fun q hq => ⟨(h1 q hq).1, by have := (h1 q hq).2; omega⟩, by simp only at h2; omega⟩
set_option maxHeartbeats 1000000 in
theorem kcounted_whole (h : FsX B w p st bs) (he : KEnv B w) (hn : nm.size ≤ maxLen) (k : Nat) (hk : k ≤ 1048576) (f : AF) (hf : aFind st nm = (none, some f)) (hfb : bytesOk f.xs) (hfl : f.xs.length ≤ 16777216) (ps : List (List Int)) (n : Nat) (hs : scanF f.xs = (ps, n, none)) (u : Nat) (hl : lastS k ps = (u, none)) :
    Calls Tryz.prog 41 #[.pointer (some ⟨p, 0, none⟩), .string nm, .int .i64 (k : Int)] w (CountedPost B p bs u st w) := by
  have HR := Lib.hid (show Calls Tryz.prog 76 #[.pointer (some ⟨p, 0, none⟩), .string nm] w fun r w' => ∃ v, r = .returned (.tuple #[v, .nilIface]) ∧ BytesIn w' v f.xs ∧ Below w.heap.size w w' from (read_own h.own nm hn _ _ hf).mono fun r w' ⟨a, c, h1, h2, h3⟩ => ⟨_, h1, owns_in h2 (by show f.xs.length ≤ maxLen; unfold maxLen; omega), h3⟩)
  obtain ⟨hp1, hp2⟩ := scan_of hs hfb hfl
  have HSC := Lib.hid (show ∀ w v, NibAt w → BytesIn w v f.xs → Calls Tryz.prog 78 #[v] w fun e w' => ∃ v', e = .returned (.tuple #[v', .int .i64 (n : Int), .nilIface]) ∧ BssIn w' v' ps ∧ Below w.heap.size w w' from fun w v h1 h2 => by
    refine (scan_any v f.xs w h1 h2 hfb (by omega)).mono ?_
    rintro e w' ⟨v', vs, h1, h2, h3, h4⟩
    rw [hs] at h1 h3
    exact ⟨v', h1, bss_of_own h2 h3 (by unfold maxLen; omega), h4⟩)
  have HLA := Lib.hid (show ∀ w v, BssIn w v ps → Calls Tryz.prog 80 #[v, .int .i64 (k : Int)] w fun e w' => e = .returned (.tuple #[.int .i64 (u : Int), .nilIface]) ∧ Below w.heap.size w w' from fun w v h1 => by
    have := klast_any v ps k w h1 hp1 hk (by omega)
    rw [hl] at this
    exact this)
  have H := Lib.hid h
  have HE := Lib.hid he
  clear h hf he hfb hfl hs hl hp1 hp2
  go_enter Tryz.func41, Tryz.ntmps41
  go_wp2_with (first
    | (go_at_call 76; (with_reducible refine HR.out.mono ?_); rintro e w2 ⟨v, rfl, hx, hb⟩; obtain ⟨va, vc, rfl, -⟩ := id hx; have HX := Lib.hid hx; have HB := Lib.hid hb; clear hb hx)
    | (go_at_call 77; (with_reducible refine (is_nil 8 _).mono ?_); rintro e w3 ⟨rfl, rfl⟩)
    | (go_at_call 78; (with_reducible refine (HSC.out _ _ (HE.out.below (HB.out.mono H.out.le)).nib HX.out).mono ?_); rintro e w4 ⟨v4, rfl, hx, hb⟩; obtain ⟨wa, wc, rfl⟩ := hx.len; have HBS := Lib.hid hx; replace HB := Lib.hid (HB.out.trans (hb.mono HB.out.size)); clear hb hx)
    | (go_at_call 80; (with_reducible refine (HLA.out _ _ HBS.out).mono ?_); rintro e w5 ⟨rfl, hb⟩; replace HB := Lib.hid (HB.out.trans (hb.mono HB.out.size)); clear hb))
  go_ret2
  exact ⟨rfl, H.out.below HB.out, HB.out.mono H.out.le, KeepT.of_below HB.out⟩
set_option maxHeartbeats 1000000 in
theorem kcounted_torn (h : FsX B w p st bs) (he : KEnv B w) (hn : nm.size ≤ maxLen) (k : Nat) (hk : k ≤ 1048576) (f : AF) (hf : aFind st nm = (none, some f)) (hfb : bytesOk f.xs) (hfl : f.xs.length ≤ 16777216) (ps : List (List Int)) (n : Nat) (hs : scanF f.xs = (ps, n, some 12)) (u : Nat) (hl : lastS k ps = (u, none)) (st' : St) (hc : aCut st nm (n : Int) = (none, st')) (hsp : st.steps < 4611686018427387904) :
    Calls Tryz.prog 41 #[.pointer (some ⟨p, 0, none⟩), .string nm, .int .i64 (k : Int)] w (CountedPost B p bs u st' w) := by
  have HR := Lib.hid (show Calls Tryz.prog 76 #[.pointer (some ⟨p, 0, none⟩), .string nm] w fun r w' => ∃ v, r = .returned (.tuple #[v, .nilIface]) ∧ BytesIn w' v f.xs ∧ Below w.heap.size w w' from (read_own h.own nm hn _ _ hf).mono fun r w' ⟨a, c, h1, h2, h3⟩ => ⟨_, h1, owns_in h2 (by show f.xs.length ≤ maxLen; unfold maxLen; omega), h3⟩)
  obtain ⟨hp1, hp2⟩ := scan_of hs hfb hfl
  have HSC := Lib.hid (show ∀ w v, NibAt w → BytesIn w v f.xs → Calls Tryz.prog 78 #[v] w fun e w' => ∃ v', e = .returned (.tuple #[v', .int .i64 (n : Int), .iface 87 (.int .i64 12)]) ∧ BssIn w' v' ps ∧ Below w.heap.size w w' from fun w v h1 h2 => by
    refine (scan_any v f.xs w h1 h2 hfb (by omega)).mono ?_
    rintro e w' ⟨v', vs, h1, h2, h3, h4⟩
    rw [hs] at h1 h3
    exact ⟨v', h1, bss_of_own h2 h3 (by unfold maxLen; omega), h4⟩)
  have HLA := Lib.hid (show ∀ w v, BssIn w v ps → Calls Tryz.prog 80 #[v, .int .i64 (k : Int)] w fun e w' => e = .returned (.tuple #[.int .i64 (u : Int), .nilIface]) ∧ Below w.heap.size w w' from fun w v h1 => by
    have := klast_any v ps k w h1 hp1 hk (by omega)
    rw [hl] at this
    exact this)
  have HCU := Lib.hid (show ∀ w, FsX B w p st bs → Calls Tryz.prog 81 #[.pointer (some ⟨p, 0, none⟩), .string nm, .int .i64 (n : Int)] w (FsPost B p bs w none st') from fun w h => by
    have := cut_x h nm hn (n : Int) hsp
    rw [hc] at this
    exact this)
  have H := Lib.hid h
  have HE := Lib.hid he
  clear h hf he hfb hfl hs hl hp1 hp2 hc hsp
  go_enter Tryz.func41, Tryz.ntmps41
  go_wp2_with (first
    | (go_at_call 76; (with_reducible refine HR.out.mono ?_); rintro e w2 ⟨v, rfl, hx, hb⟩; obtain ⟨va, vc, rfl, -⟩ := id hx; have HX := Lib.hid hx; have HB := Lib.hid hb; clear hb hx)
    | (go_at_call 77; (with_reducible refine (is_nil 8 _).mono ?_); rintro e w3 ⟨rfl, rfl⟩)
    | (go_at_call 78; (with_reducible refine (HSC.out _ _ (HE.out.below (HB.out.mono H.out.le)).nib HX.out).mono ?_); rintro e w4 ⟨v4, rfl, hx, hb⟩; obtain ⟨wa, wc, rfl⟩ := hx.len; have HBS := Lib.hid hx; replace HB := Lib.hid (HB.out.trans (hb.mono HB.out.size)); clear hb hx)
    | (go_at_call 79; (with_reducible refine (torn_num 12 true rfl _).mono ?_); rintro e w4' ⟨rfl, rfl⟩)
    | (go_at_call 80; (with_reducible refine (HLA.out _ _ HBS.out).mono ?_); rintro e w5 ⟨rfl, hb⟩; replace HB := Lib.hid (HB.out.trans (hb.mono HB.out.size)); clear hb)
    | (go_at_call 81; (with_reducible refine (HCU.out _ (H.out.below HB.out)).mono ?_); rintro e w6 ⟨rfl, hx, hb, ht⟩; rw [show errV none = Value.nilIface from rfl]; have HZ := Lib.hid (And.intro hx (And.intro ((HB.out.mono H.out.le).trans hb) ((KeepT.of_below HB.out).trans ht))); clear hx hb ht))
  go_ret2
  exact ⟨rfl, HZ.out.1, HZ.out.2.1, HZ.out.2.2⟩
theorem built_sg (p : Nat) (nm : ByteArray) (F : Nat → Int) (D : Nat) (a : Option Addr) (n c : Nat) (u : Nat) : Tryz.prog.built 101 [(0, .pointer (some ⟨p, 0, none⟩)), (1, .string nm), (2, .agg (rowOf .u8 32 F)), (3, .int .i64 (D : Int)), (4, .slice a n c), (5, .int .i64 (u : Int))] =
    some ([Value.pointer (some ⟨p, 0, none⟩), .string nm] ++ ((rowOf .u8 32 F).toList ++ [Value.int .i64 (D : Int), .slice a n c, .int .i64 (u : Int), .nilIface])).toArray := by kernel_rfl
set_option maxHeartbeats 1000000 in
theorem kopen_ok (h : FsX B w p st bs) (he : KEnv B w) (hn : nm.size ≤ maxLen) (F : Nat → Int) (D k u : Nat) (hD : 1 ≤ D ∧ D ≤ 32) (hk : k ≤ 10) (hu : u ≤ 2 ^ k) (st' : St)
    (hc : ∀ w, KEnv B w → FsX B w p st bs → Calls Tryz.prog 41 #[.pointer (some ⟨p, 0, none⟩), .string nm, .int .i64 ((2 ^ k : Nat) : Int)] w (CountedPost B p bs u st' w)) :
    Calls Tryz.prog 18 #[.pointer (some ⟨p, 0, none⟩), .string nm, .agg (rowOf .u8 32 F), .agg (parC D k)] w fun e w' => ∃ g gl, e = .returned (.tuple #[.pointer (some ⟨g, 0, none⟩), .nilIface]) ∧ SgX B w' g p st' nm F D k gl u none bs ∧ Below B w w' ∧ KeepT w w' := by
  have hok : kOk (D : Int) (k : Int) := by unfold kOk; omega
  have HC := Lib.hid (show ∀ w, Calls Tryz.prog 12 #[.agg (parC D k)] w fun e w' => e = .returned .nilIface ∧ Below w.heap.size w w' from fun w => by
    have h2 := kcheck_any D k w; rw [show ckR D k = none by unfold ckR; rw [if_pos hok]] at h2; exact h2)
  have HPB := Lib.hid (show ∀ w, Env w → Calls Tryz.prog 26 #[.agg (rowOf .u8 32 F), .agg (parC D k)] w fun e w' => ∃ g, e = .returned (.tuple #[.slice (some ⟨g, 0, none⟩) (2 ^ k) (2 ^ k), .nilIface]) ∧ w.heap.size ≤ g ∧ Leaves w' g (2 ^ k) (2 ^ k) (fun i => pubF F (i : Int) D) ∧ Below w.heap.size w w' from fun w he => kpublics_ok F D k w he hD hk)
  have M := Lib.hid (kvM_start w F D k he.env)
  have H := Lib.hid (h.below M.out.below)
  have HK := Lib.hid (KeepT.of_below M.out.below)
  have HB := Lib.hid (M.out.below.mono h.le)
  have HE := Lib.hid (he.below HB.out)
  have HLE := Lib.hid h.le
  have HX := Lib.hid (show nm.size ≤ maxLen ∧ (1 ≤ D ∧ D ≤ 32) ∧ k ≤ 10 ∧ u ≤ 2 ^ k from ⟨hn, hD, hk, hu⟩)
  obtain ⟨N, hN⟩ : ∃ N : Nat, N = 2 ^ k := ⟨_, rfl⟩
  have HSZ := Lib.hid (show ∀ w, Calls Tryz.prog 42 #[.agg (parC D k)] w fun e w' => e = .returned (.int .i64 (N : Int)) ∧ Below w.heap.size w w' from fun w => by rw [hN]; exact ksize_any D k w hk)
  rw [← hN] at hc HPB
  have HCO := Lib.hid hc
  have HN := Lib.hid hN
  have HBU := Lib.hid (fun gl => built_sg p nm F D (some ⟨gl, 0, none⟩) N N u)
  clear h he hn hD hk hu hc hok hN
  go_enter Tryz.func18, Tryz.ntmps18
  go_upto_region 1 with (fail)
  have e0 : (w.alloc (.cells (rowOf .u8 32 F) 23)).alloc (.cells (parC D k) 25) = verW w F D k := rfl
  rw [e0]; clear e0
  generalize verW w F D k = w1 at *
  go_upto_region 10 with (first
    | (refine wpList_load_row rfl 25 (.tmp 7) rfl (w.heap.size + 1) rfl 25 _ (0, 0) _ M.out.par Tryz.underlying25 rfl (by kernel_rfl) ?_)
    | (refine wpList_load_row rfl 23 (.tmp 6) rfl w.heap.size rfl 23 _ (0, 0) _ M.out.row Tryz.underlying23 rfl (by rw [rowOf_size]; kernel_rfl) ?_)
    | (go_at_call 12; (with_reducible refine (HC.out _).mono ?_); rintro e w2 ⟨rfl, hb⟩; replace HK := Lib.hid (HK.out.trans (KeepT.of_below hb)); replace M := Lib.hid (M.out.call hb); replace H := Lib.hid (H.out.below hb); replace HE := Lib.hid (HE.out.below (hb.mono (Nat.le_trans HLE.out HB.out.size))); replace HB := Lib.hid (HB.out.trans (hb.mono (Nat.le_trans HLE.out HB.out.size))); clear hb)
    | (go_at_call 42; (with_reducible refine (HSZ.out _).mono ?_); rintro e w3 ⟨rfl, hb⟩; replace HK := Lib.hid (HK.out.trans (KeepT.of_below hb)); replace M := Lib.hid (M.out.call hb); replace H := Lib.hid (H.out.below hb); replace HE := Lib.hid (HE.out.below (hb.mono (Nat.le_trans HLE.out HB.out.size))); replace HB := Lib.hid (HB.out.trans (hb.mono (Nat.le_trans HLE.out HB.out.size))); clear hb)
    | (go_at_call 41; (with_reducible refine (HCO.out _ HE.out H.out).mono ?_); rintro e w4 ⟨rfl, hx, hb, ht⟩; replace HK := Lib.hid (HK.out.trans ht); replace H := Lib.hid hx; replace HE := Lib.hid (HE.out.below hb); replace HB := Lib.hid (HB.out.trans hb); have MR := Lib.hid (ht _ _ _ M.out.row (by decide) (by decide)); have MP := Lib.hid (ht _ _ _ M.out.par (by decide) (by decide)); clear hx hb ht M)
    | (refine wpList_load_row rfl 25 (.tmp 7) rfl (w.heap.size + 1) rfl 25 _ (0, 0) _ MP.out Tryz.underlying25 rfl (by kernel_rfl) ?_)
    | (refine wpList_load_row rfl 23 (.tmp 6) rfl w.heap.size rfl 23 _ (0, 0) _ MR.out Tryz.underlying23 rfl (by rw [rowOf_size]; kernel_rfl) ?_)
    | (go_at_call 26; (with_reducible refine (HPB.out _ HE.out.env).mono ?_); rintro e w5 ⟨gl, rfl, hgl, hlv, hb⟩; replace HK := Lib.hid (HK.out.trans (KeepT.of_below hb)); have HLV := Lib.hid hlv; replace MR := Lib.hid ((hb.block _ (heap_lt' MR.out)).trans MR.out); replace MP := Lib.hid ((hb.block _ (heap_lt' MP.out)).trans MP.out); replace H := Lib.hid (H.out.below hb); replace HE := Lib.hid (HE.out.below (hb.mono (Nat.le_trans HLE.out HB.out.size))); replace HB := Lib.hid (HB.out.trans (hb.mono (Nat.le_trans HLE.out HB.out.size))); clear hb hgl hlv))
  have cD : w5.cell? ⟨w.heap.size + 1, 0, none⟩ = some (.int .i64 (D : Int)) := by rw [cell_of_row _ _ _ _ _ _ MP.out]; rfl
  go_wp2_with (first
    | (refine wpList_load_row rfl 23 (.tmp 6) rfl w.heap.size rfl 23 _ (0, 0) _ MR.out Tryz.underlying23 rfl (by rw [rowOf_size]; kernel_rfl) ?_)
    | (refine wpList_buildTo rfl 101 #[(0, .tmp 39), (1, .tmp 40), (2, .tmp 41), (3, .tmp 43), (4, .tmp 44), (5, .tmp 45)] rfl (some 46) rfl ([Value.pointer (some ⟨p, 0, none⟩), .string nm] ++ ((rowOf .u8 32 F).toList ++ [Value.int .i64 (D : Int), .slice (some ⟨gl, 0, none⟩) N N, .int .i64 (u : Int), .nilIface])).toArray (by refine Eq.trans (congrArg (Tryz.prog.built 101) ?_) (HBU.out gl); kernel_rfl) ?_; generalize hcs : ([Value.pointer (some ⟨p, 0, none⟩), .string nm] ++ ((rowOf .u8 32 F).toList ++ [Value.int .i64 (D : Int), .slice (some ⟨gl, 0, none⟩) N N, .int .i64 (u : Int), .nilIface])).toArray = cs))
  have hcs2 : cs = sgCells p nm F D k gl u none := by rw [← hcs, HN.out]; rfl
  have hb := below_alloc w5 (.cells cs 101)
  have hlv := HLV.out.below hb HLV.out.lt
  rw [HN.out] at hlv
  go_ret2
  exact ⟨w5.heap.size, gl, rfl, ⟨HE.out.below (hb.mono H.out.le), H.out.below hb, by rw [← hcs2]; exact heap_alloc_new w5 _, hlv, H.out.le, HX.out.1, HX.out.2.1, HX.out.2.2.1, HX.out.2.2.2⟩, HB.out.trans (hb.mono H.out.le), HK.out.trans (KeepT.of_below hb)⟩
end Go.Proofs.YtilpohdidekenaaGreatDoor
namespace Go.Proofs.YtilpohdidekenaaGreatDoor
set_option linter.unusedVariables false
set_option linter.unusedSimpArgs false
open Go.RowKit
set_option maxRecDepth 100000
/-- u leaves are counted, safely -/
def CInv (nm : ByteArray) (st : St) (u : Nat) : Prop := st.down = false ∧ ((st.L = [] ∧ u = 0) ∨ st.L = [⟨nm.data.toList, cntX u, (cntX u).length⟩])
/-- the next one was being counted when the files crashed -/
def CBrk (nm : ByteArray) (st : St) (u : Nat) : Prop := st.down = true ∧ st.L = [⟨nm.data.toList, cntX (u + 1), (cntX u).length⟩]
theorem cntX_zero : cntX 0 = [] := rfl
theorem aput_nil (f : AF) : aput f [] = [f] := rfl
theorem aput_one (f g : AF) (h : g.nm = f.nm) : aput f [g] = [f] := by
  unfold aput adel
  rw [List.filter_cons_of_neg (by simp [h])]
  rfl
theorem aget_one (n : List UInt8) (xs : List Int) (s : Nat) : aget n [⟨n, xs, s⟩] = some ⟨n, xs, s⟩ := by
  unfold aget
  rw [List.find?_cons_of_pos (by simp)]
theorem aput_at (n : List UInt8) (xs ys : List Int) (s t : Nat) : aput ⟨n, xs, s⟩ [⟨n, ys, t⟩] = [⟨n, xs, s⟩] := aput_one _ _ rfl
theorem chk_one {d : Bool} {nm : ByteArray} (hn : nmOk nm.data.toList = true) : checkE d [nm] = if d then some 13 else none :=
  checkE_ok fun s hs => by simp only [List.mem_cons, List.not_mem_nil, or_false] at hs; rw [hs]; exact hn
/-- what the file holds -/
theorem CInv.holds {nm : ByteArray} {st : St} {u : Nat} (h : CInv nm st u) : afXs (aget nm.data.toList st.L) = cntX u ∧ afSafe (aget nm.data.toList st.L) = (cntX u).length ∧ st.L.length ≤ 1 ∧ ∀ f : AF, f.nm = nm.data.toList → aput f st.L = [f] := by
  obtain ⟨_, ⟨h, rfl⟩ | h⟩ := h
  · rw [h]; exact ⟨rfl, rfl, by simp, fun f _ => aput_nil f⟩
  · rw [h, aget_one]; exact ⟨rfl, rfl, by simp, fun f hf => aput_one f _ hf.symm⟩
theorem count_all {nm : ByteArray} {st : St} {u : Nat} (hn : nmOk nm.data.toList = true) (hu : u ≤ 1024) (h : CInv nm st u) :
    (∃ st', countS st nm (u + 1) = (none, st') ∧ CInv nm st' (u + 1) ∧ st'.steps = st.steps + 2 ∧ st'.armed = st.armed) ∨
    (st.armed = true ∧ ∃ st', countS st nm (u + 1) = (some 13, st') ∧ CBrk nm st' u ∧ st'.steps ≤ st.steps + 1) := by
  obtain ⟨hx, hs, hl, hp⟩ := h.holds
  have hd := h.1
  have hlen := cntX_length (u + 1) (by omega)
  rw [cntX_succ, List.length_append] at hlen
  have hE : aApE st nm (recF (varint (u + 1))).length = none := by
    unfold aApE
    rw [chk_one hn, hd]
    show (if _ then _ else _) = _
    rw [if_neg (by omega), if_neg (by rw [hx]; omega)]
  have hA : aAppend st nm (recF (varint (u + 1))) = if st.armed = true ∧ st.left = 0 then (some 13, { st with L := [⟨nm.data.toList, cntX (u + 1), (cntX u).length⟩], down := true }) else (none, aStepped st [⟨nm.data.toList, cntX (u + 1), (cntX u).length⟩]) := by
    unfold aAppend
    rw [hE]
    simp only
    rw [hx, hs, hp _ rfl, ← cntX_succ]
  unfold countS
  rw [hA]
  by_cases hc : st.armed = true ∧ st.left = 0
  · rw [if_pos hc]
    exact .inr ⟨hc.1, _, rfl, ⟨rfl, rfl⟩, by simp⟩
  · rw [if_neg hc]
    simp only
    have hS : aSync (aStepped st [⟨nm.data.toList, cntX (u + 1), (cntX u).length⟩]) nm = aStep (aStepped st [⟨nm.data.toList, cntX (u + 1), (cntX u).length⟩]) [⟨nm.data.toList, cntX (u + 1), (cntX (u + 1)).length⟩] := by
      unfold aSync aFind
      rw [show (aStepped st [⟨nm.data.toList, cntX (u + 1), (cntX u).length⟩]).down = false from hd, chk_one hn]
      rw [show (aStepped st [⟨nm.data.toList, cntX (u + 1), (cntX u).length⟩]).L = [⟨nm.data.toList, cntX (u + 1), (cntX u).length⟩] from rfl]
      rw [aget_one]
      simp only [Bool.false_eq_true, if_false, afXs]
      rw [aput_at]
    rw [hS]
    unfold aStep
    by_cases hc2 : (aStepped st [⟨nm.data.toList, cntX (u + 1), (cntX u).length⟩]).armed = true ∧ (aStepped st [⟨nm.data.toList, cntX (u + 1), (cntX u).length⟩]).left = 0
    · rw [if_pos hc2]
      exact .inr ⟨hc2.1, _, rfl, ⟨rfl, rfl⟩, by simp [aStepped]⟩
    · rw [if_neg hc2]
      exact .inl ⟨_, rfl, ⟨hd, .inr rfl⟩, by simp [aStepped], rfl⟩
/-- a start keeps a begin that has all that is safe -/
theorem start_brk {nm : ByteArray} {st : St} {u : Nat} (h : CBrk nm st u) (ks : List Int) :
    ∃ m, (cntX u).length ≤ m ∧ m ≤ (cntX (u + 1)).length ∧ (aStart st ks).L = [⟨nm.data.toList, (cntX (u + 1)).take m, m⟩] ∧ (aStart st ks).down = false ∧ (aStart st ks).armed = false ∧ (aStart st ks).steps = st.steps := by
  have hlt : (cntX u).length ≤ (cntX (u + 1)).length := by rw [cntX_succ, List.length_append]; omega
  have hne : ¬ (cntX (u + 1)).length = (cntX u).length := by rw [cntX_succ, List.length_append, recF_length]; omega
  have hL : (aStart st ks).L = aStartL st.L ks := rfl
  cases ks with
  | nil =>
    refine ⟨(cntX u).length, Nat.le_refl _, hlt, ?_, rfl, rfl, rfl⟩
    rw [hL, h.2]
    simp only [aStartL, if_neg hne, aCutF]
  | cons k t =>
    refine ⟨aKept ⟨nm.data.toList, cntX (u + 1), (cntX u).length⟩ k, ?_, ?_, ?_, rfl, rfl, rfl⟩
    · unfold aKept; simp
    · unfold aKept; simp only; omega
    · rw [hL, h.2]
      simp only [aStartL, if_neg hne, aCutF]
/-- opened again: u leaves are counted, or one more -/
theorem counted_start {nm : ByteArray} {st : St} {u m k : Nat} (hn : nmOk nm.data.toList = true) (hk : k ≤ 1024) (hu : u + 1 ≤ k) (hd : st.down = false) (ha : st.armed = false)
    (h1 : (cntX u).length ≤ m) (h2 : m ≤ (cntX (u + 1)).length) (hL : st.L = [⟨nm.data.toList, (cntX (u + 1)).take m, m⟩]) :
    ∃ v st', countedS st nm k = ((v, none), st') ∧ (v = u ∨ v = u + 1) ∧ CInv nm st' v ∧ st'.steps ≤ st.steps + 1 ∧ st'.armed = false := by
  have hG := cntL_ok (u + 1) (by omega)
  have hsc := scanF_cut (cntL (u + 1)) m hG h2
  have hj : cutJ (cntL (u + 1)) m = u ∨ cutJ (cntL (u + 1)) m = u + 1 := by
    have hle := cutJ_le (cntL (u + 1)) m
    rw [cntL_length] at hle
    rcases Nat.lt_or_ge (cutJ (cntL (u + 1)) m) u with hlt | hge
    · exfalso
      have := (cutJ_iff (cntL (u + 1)) m (u - 1) (by rw [cntL_length]; omega)).1 (by rw [show u - 1 + 1 = u by omega, cntL_take _ _ (by omega)]; exact h1)
      omega
    · omega
  obtain ⟨v, hv⟩ : ∃ v, v = cutJ (cntL (u + 1)) m := ⟨_, rfl⟩
  rw [← hv] at hj hsc
  have hvu : v ≤ u + 1 := by omega
  rw [cntL_take _ _ hvu] at hsc
  have hF : aFind st nm = (none, some ⟨nm.data.toList, (cntX (u + 1)).take m, m⟩) := by
    unfold aFind
    rw [chk_one hn, hd, hL, aget_one]
    rfl
  have hlast := lastS_cnt k (by omega) v (by omega)
  have hvm : (cntX v).length ≤ m := by
    rcases Nat.eq_zero_or_pos v with h0 | h0
    · rw [h0, cntX_zero]; simp
    · have := (cutJ_iff (cntL (u + 1)) m (v - 1) (by rw [cntL_length]; omega)).2 (by omega)
      rw [show v - 1 + 1 = v by omega, cntL_take _ _ hvu] at this
      exact this
  have hpre : ((cntX (u + 1)).take m).take (cntX v).length = cntX v := by
    rw [List.take_take, Nat.min_eq_left hvm]
    rcases hj with rfl | rfl
    · rw [cntX_succ]; exact List.take_left
    · exact List.take_length
  have hlm : ((cntX (u + 1)).take m).length = m := by rw [List.length_take]; omega
  unfold countedS
  rw [hF]
  simp only [afXs]
  rw [show (cntX (u + 1)).take m = (catR (cntL (u + 1))).take m from rfl, hsc]
  by_cases he : (catR (cntL v)).length = m
  · rw [if_pos he]
    simp only
    rw [hlast]
    have hx : (cntX (u + 1)).take m = cntX v := by
      have := hpre; rw [show (cntX v).length = m from he, List.take_take, Nat.min_self] at this; exact this
    refine ⟨v, st, rfl, hj, ⟨hd, .inr ?_⟩, by omega, ha⟩
    rw [hL, hx, ← he]; rfl
  · rw [if_neg he]
    simp only [if_true]
    rw [hlast]
    simp only
    have hC : aCut st nm (((catR (cntL v)).length : Nat) : Int) = (none, aStepped st [⟨nm.data.toList, cntX v, (cntX v).length⟩]) := by
      unfold aCut
      rw [hF]
      have hno : ¬ ((((catR (cntL v)).length : Nat) : Int) < 0 ∨ ((afXs (some (⟨nm.data.toList, (cntX (u + 1)).take m, m⟩ : AF))).length : Int) < (((catR (cntL v)).length : Nat) : Int)) := by
        show ¬ (_ ∨ ((((cntX (u + 1)).take m).length : Nat) : Int) < ((cntX v).length : Int))
        rw [hlm]; omega
      simp only
      rw [if_neg hno]
      unfold aStep
      rw [if_neg (by rw [ha]; simp), hL, aput_at, Int.toNat_natCast, show (catR (cntL v)).length = (cntX v).length from rfl]
      show (none, aStepped st [⟨nm.data.toList, ((cntX (u + 1)).take m).take (cntX v).length, _⟩]) = _
      rw [hpre]
    rw [hC]
    exact ⟨v, _, rfl, hj, ⟨hd, .inr rfl⟩, Nat.le_refl _, ha⟩
/-- opened at first -/
theorem counted_first {nm : ByteArray} {st : St} {k : Nat} (hn : nmOk nm.data.toList = true) (hd : st.down = false) (hL : st.L = []) : countedS st nm k = ((0, none), st) := by
  have hF : aFind st nm = (some 8, none) := by
    unfold aFind
    rw [chk_one hn, hd, hL]
    rfl
  unfold countedS
  rw [hF]
  rfl
end Go.Proofs.YtilpohdidekenaaGreatDoor
