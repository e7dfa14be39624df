/- Part 6 of the proof. -/
import Derived.Test.YtggcodobkmhkgaaDoorFc5
namespace Go.Proofs.YtggcodobkmhkgaaDoor
set_option linter.unusedVariables false
set_option linter.unusedSimpArgs false
open Go.RowKit Go.Maps
set_option maxRecDepth 100000
def okB (b : UInt8) : Bool := decide (33 ≤ b.toNat) && decide (b.toNat ≤ 126)
theorem nmOk_eq (l : List UInt8) : nmOk l = (decide (0 < l.length) && decide (l.length ≤ 64) && l.all okB) := rfl
theorem nmOk_short {l : List UInt8} (h : l.length = 0) : nmOk l = false := by rw [nmOk_eq]; simp [h]
theorem nmOk_long {l : List UInt8} (h : 64 < l.length) : nmOk l = false := by
  rw [nmOk_eq]
  have : decide (l.length ≤ 64) = false := by simpa using h
  rw [this]; simp
theorem nmOk_bad {l : List UInt8} {b : UInt8} (h : b ∈ l) (hb : okB b = false) : nmOk l = false := by
  rw [nmOk_eq]
  have : l.all okB = false := by rw [List.all_eq_false]; exact ⟨b, h, by simp [hb]⟩
  rw [this]; simp
theorem nmOk_len {l : List UInt8} (h : nmOk l = true) : 0 < l.length ∧ l.length ≤ 64 := by
  rw [nmOk_eq] at h
  simp at h
  exact h.1
theorem okB_false_of {b : UInt8} (h : b.toNat < 33 ∨ 126 < b.toNat) : okB b = false := by
  unfold okB
  rcases h with h | h
  · have : decide (33 ≤ b.toNat) = false := by simpa using h
    rw [this]; rfl
  · have : decide (b.toNat ≤ 126) = false := by simpa using h
    rw [this]; simp
theorem okB_of {b : UInt8} (h1 : 33 ≤ b.toNat) (h2 : b.toNat ≤ 126) : okB b = true := by simp [okB, h1, h2]
set_option maxHeartbeats 1000000 in
theorem valid_any (s : ByteArray) (w : World) (hs : s.size ≤ maxLen) : Calls Tryd.prog 83 #[.string s] w fun e w' => e = .returned (.bool (nmOk s.data.toList)) ∧ w = w' := by
  unfold maxLen at hs
  have hsz : s.data.toList.length = s.size := rfl
  by_cases h0 : s.size = 0
  · have HR : Hid (nmOk s.data.toList = false) := Lib.hid (nmOk_short (by rw [hsz]; exact h0))
    have hd : decide ((s.size : Int) = 0) = true := by simp [h0]
    have hd' : ((s.size : Int) == 0) = true := by simp [h0]
    clear hsz hs
    go_enter Tryd.func83, Tryd.ntmps83
    go_wp2_with (fail)
    go_ret
    exact ⟨by rw [HR.out]; rfl, rfl⟩
  · have hd' : ((s.size : Int) == 0) = false := beq_eq_false_iff_ne.2 (by omega)
    by_cases h64 : 64 < s.size
    · have HR : Hid (nmOk s.data.toList = false) := Lib.hid (nmOk_long (by rw [hsz]; exact h64))
      have hd : decide ((64 : Int) < s.size) = true := by simp; omega
      clear hsz h0
      go_enter Tryd.func83, Tryd.ntmps83
      go_wp2_with (fail)
      go_ret
      exact ⟨by rw [HR.out]; rfl, rfl⟩
    · have hd : decide ((64 : Int) < s.size) = false := by simp; omega
      have HL : Hid (0 < s.size ∧ s.size ≤ 64) := Lib.hid ⟨by omega, by omega⟩
      have HSZ := Lib.hid hsz
      clear hsz h0 h64
      go_enter Tryd.func83, Tryd.ntmps83
      go_wp2_with (fail)
      go_loop [3, 14] (fun _ i => ∃ k : Nat, k ≤ s.size ∧ i = .int .i64 k ∧ ∀ j, j < k → ∀ b, s.data.toList[j]? = some b → okB b = true) (fun _ i => s.size - (intOf i).toNat)
      case atStart => exact ⟨0, Nat.zero_le _, rfl, fun j hj => by omega⟩
      case round =>
        obtain ⟨k, hk, rfl, hall⟩ := hrel
        have HA := Lib.hid hall
        clear hall
        by_cases hlt : k < s.size
        · have HB : Hid (s.data.toList[k]? = some s[k]) := Lib.hid (by rw [List.getElem?_eq_getElem (by rw [HSZ.out]; exact hlt)]; rfl)
          by_cases hlo : s[k].toNat < 33
          · have HR : Hid (nmOk s.data.toList = false) := Lib.hid (nmOk_bad (List.mem_of_getElem? HB.out) (okB_false_of (.inl hlo)))
            go_wp2_with (fail)
            go_ret
            exact ⟨by rw [HR.out]; rfl, rfl⟩
          · by_cases hhi : 126 < s[k].toNat
            · have HR : Hid (nmOk s.data.toList = false) := Lib.hid (nmOk_bad (List.mem_of_getElem? HB.out) (okB_false_of (.inr hhi)))
              go_wp2_with (fail)
              go_ret
              exact ⟨by rw [HR.out]; rfl, rfl⟩
            · have HO := Lib.hid (okB_of (b := s[k]) (by omega) (by omega))
              go_wp2_with (fail)
              go_round
              case rel => exact ⟨k + 1, by omega, by go_num, fun j hj b hb => by
                rcases Nat.lt_or_ge j k with h | h
                · exact HA.out j h b hb
                · obtain rfl : j = k := by omega
                  rw [HB.out] at hb; cases hb; exact HO.out⟩
              case measure => simp [intOf]; omega
        · obtain rfl : k = s.size := by omega
          have HR : Hid (nmOk s.data.toList = true) := Lib.hid (by
            rw [nmOk_eq]
            have h1 := HL.out
            have h2 := HSZ.out
            have : s.data.toList.all okB = true := by
              rw [List.all_eq_true]
              intro b hb
              obtain ⟨j, hj⟩ := List.getElem?_of_mem hb
              exact HA.out j (by rw [← h2]; exact (List.getElem?_eq_some_iff.1 hj).1) b hj
            rw [this, h2]
            simp [h1.1, h1.2])
          go_wp2_with (fail)
          go_ret
          exact ⟨by rw [HR.out]; rfl, rfl⟩
end Go.Proofs.YtggcodobkmhkgaaDoor
namespace Go.Proofs.YtggcodobkmhkgaaDoor
set_option linter.unusedVariables false
set_option linter.unusedSimpArgs false
open Go.RowKit Go.Maps
set_option maxRecDepth 100000
def okNames (ns : List ByteArray) : Bool := ns.all fun s => nmOk s.data.toList
def checkE (down : Bool) (ns : List ByteArray) : Option Nat := if okNames ns then (if down then some 13 else none) else some 1
theorem checkE_bad {d : Bool} {ns : List ByteArray} {s : ByteArray} (hm : s ∈ ns) (h : nmOk s.data.toList = false) : checkE d ns = some 1 := by
  unfold checkE
  have : okNames ns = false := by unfold okNames; rw [List.all_eq_false]; exact ⟨s, hm, by simp [h]⟩
  rw [this]; rfl
theorem checkE_ok {d : Bool} {ns : List ByteArray} (h : ∀ s ∈ ns, nmOk s.data.toList = true) : checkE d ns = if d then some 13 else none := by
  unfold checkE
  have : okNames ns = true := by unfold okNames; rw [List.all_eq_true]; exact h
  rw [this]; rfl
theorem check_none (v : Value) (w : World) : Calls Tryd.prog 49 #[.pointer none, v] w fun e w' => e = .returned (errV (some 1)) ∧ w = w' := by
  go_enter Tryd.func49, Tryd.ntmps49
  go_wp2_with (fail)
  go_ret
  exact ⟨rfl, rfl⟩
set_option maxHeartbeats 1000000 in
theorem check_any (R : FsR) (w : World) (H : FsAt w R) (a : Option Addr) (n cap : Nat) (ns : List ByteArray) (hn : n = ns.length) (hlen : ns.length ≤ 64)
    (hcell : ∀ i s, ns[i]? = some s → ∃ g, a = some ⟨g, 0, none⟩ ∧ w.cell? ⟨g, i, none⟩ = some (.string s)) (hs : ∀ s ∈ ns, s.size ≤ maxLen) :
    Calls Tryd.prog 49 #[.pointer (some ⟨R.pb, 0, none⟩), .slice a n cap] w fun e w' => e = .returned (errV (checkE R.down ns)) ∧ w = w' := by
  subst hn
  have c4 : w.cell? ⟨R.pb, 0 + 4, none⟩ = some (.bool R.down) := by rw [Nat.zero_add, H.cell]; rfl
  have c4' : w.cell? ⟨R.pb, 4, none⟩ = some (.bool R.down) := by rw [H.cell]; rfl
  have HC := Lib.hid hcell
  have HS := Lib.hid hs
  clear hcell hs H
  generalize R.down = d at c4 c4'
  generalize R.pb = pb at c4 c4'
  go_enter Tryd.func49, Tryd.ntmps49
  go_wp2_with (fail)
  go_loop [6, 12] (fun _ i => ∃ k : Nat, k ≤ ns.length ∧ i = .int .i64 k ∧ ∀ j s, j < k → ns[j]? = some s → nmOk s.data.toList = true) (fun _ i => ns.length - (intOf i).toNat)
  case atStart => exact ⟨0, Nat.zero_le _, rfl, fun j s hj => by omega⟩
  case round =>
    obtain ⟨k, hk, rfl, hall⟩ := hrel
    have HA := Lib.hid hall
    clear hall
    by_cases hlt : k < ns.length
    · obtain ⟨s, hsk⟩ : ∃ s, ns[k]? = some s := ⟨_, List.getElem?_eq_getElem hlt⟩
      obtain ⟨g, hg, hc⟩ := HC.out k s hsk
      have HG := Lib.hid hsk
      have hsz := HS.out s (List.mem_of_getElem? hsk)
      have HZ := Lib.hid hsz
      clear hsk hsz
      subst hg
      have hc' : w.cell? ⟨g, 0 + k, none⟩ = some (.string s) := by rw [Nat.zero_add]; exact hc
      cases hv : nmOk s.data.toList
      · have HV := Lib.hid hv
        have HR : Hid (checkE d ns = some 1) := Lib.hid (checkE_bad (List.mem_of_getElem? HG.out) hv)
        have hcall := valid_any s w HZ.out
        rw [hv] at hcall
        clear hv
        go_wp2_with (go_at_call 83; (with_reducible refine hcall.mono ?_); rintro e w' ⟨rfl, rfl⟩)
        go_ret
        exact ⟨by rw [HR.out]; rfl, rfl⟩
      · have HV := Lib.hid hv
        have hcall := valid_any s w HZ.out
        rw [hv] at hcall
        clear hv
        go_wp2_with (go_at_call 83; (with_reducible refine hcall.mono ?_); rintro e w' ⟨rfl, rfl⟩)
        go_round
        case rel => exact ⟨k + 1, by omega, by go_num, fun j s' hj hj' => by
          rcases Nat.lt_or_ge j k with h | h
          · exact HA.out j s' h hj'
          · obtain rfl : j = k := by omega
            rw [HG.out] at hj'; cases hj'; exact HV.out⟩
        case measure => simp [intOf]; omega
    · obtain rfl : k = ns.length := by omega
      have HR : Hid (checkE d ns = if d then some 13 else none) := Lib.hid (checkE_ok fun s hs => by
        obtain ⟨j, hj⟩ := List.getElem?_of_mem hs
        exact HA.out j s (List.getElem?_eq_some_iff.1 hj).1 hj)
      cases d
      · go_wp2_with (fail)
        go_ret
        exact ⟨by rw [HR.out]; rfl, rfl⟩
      · go_wp2_with (fail)
        go_ret
        exact ⟨by rw [HR.out]; rfl, rfl⟩
end Go.Proofs.YtggcodobkmhkgaaDoor
