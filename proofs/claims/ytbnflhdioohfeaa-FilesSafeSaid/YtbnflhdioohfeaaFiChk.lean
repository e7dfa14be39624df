/- check: the error that comes ahead of all others. -/
import Derived.Test.YtbnflhdioohfeaaFiVal
namespace Go.Proofs.Ytbnflhdioohfeaa
open Go.RowKit Go.Maps
set_option maxRecDepth 100000
def okNames (ns : List ByteArray) : Bool := ns.all fun s => nmOk s.data.toList
def checkE (down : Bool) (ns : List ByteArray) : Option Nat := if okNames ns then (if down then some 13 else none) else some 1
theorem checkE_bad {d : Bool} {ns : List ByteArray} {s : ByteArray} (hm : s ∈ ns) (h : nmOk s.data.toList = false) : checkE d ns = some 1 := by
  unfold checkE
  have : okNames ns = false := by unfold okNames; rw [List.all_eq_false]; exact ⟨s, hm, by simp [h]⟩
  rw [this]; rfl
theorem checkE_ok {d : Bool} {ns : List ByteArray} (h : ∀ s ∈ ns, nmOk s.data.toList = true) : checkE d ns = if d then some 13 else none := by
  unfold checkE
  have : okNames ns = true := by unfold okNames; rw [List.all_eq_true]; exact h
  rw [this]; rfl
theorem check_none (v : Value) (w : World) : Calls Try.prog 13 #[.pointer none, v] w fun e w' => e = .returned (errV (some 1)) ∧ w = w' := by
  go_enter Try.func13, Try.ntmps13
  go_wp2_with (fail)
  go_ret
  exact ⟨rfl, rfl⟩
set_option maxHeartbeats 1000000 in
theorem check_any (R : FsR) (w : World) (H : FsAt w R) (a : Option Addr) (n cap : Nat) (ns : List ByteArray) (hn : n = ns.length) (hlen : ns.length ≤ 64)
    (hcell : ∀ i s, ns[i]? = some s → ∃ g, a = some ⟨g, 0, none⟩ ∧ w.cell? ⟨g, i, none⟩ = some (.string s)) (hs : ∀ s ∈ ns, s.size ≤ maxLen) :
    Calls Try.prog 13 #[.pointer (some ⟨R.pb, 0, none⟩), .slice a n cap] w fun e w' => e = .returned (errV (checkE R.down ns)) ∧ w = w' := by
  subst hn
  have c4 : w.cell? ⟨R.pb, 0 + 4, none⟩ = some (.bool R.down) := by rw [Nat.zero_add, H.cell]; rfl
  have c4' : w.cell? ⟨R.pb, 4, none⟩ = some (.bool R.down) := by rw [H.cell]; rfl
  have HC := Lib.hid hcell
  have HS := Lib.hid hs
  clear hcell hs H
  generalize R.down = d at c4 c4'
  generalize R.pb = pb at c4 c4'
  go_enter Try.func13, Try.ntmps13
  go_wp2_with (fail)
  go_loop [6, 12] (fun _ i => ∃ k : Nat, k ≤ ns.length ∧ i = .int .i64 k ∧ ∀ j s, j < k → ns[j]? = some s → nmOk s.data.toList = true) (fun _ i => ns.length - (intOf i).toNat)
  case atStart => exact ⟨0, Nat.zero_le _, rfl, fun j s hj => by omega⟩
  case round =>
    obtain ⟨k, hk, rfl, hall⟩ := hrel
    have HA := Lib.hid hall
    clear hall
    by_cases hlt : k < ns.length
    · obtain ⟨s, hsk⟩ : ∃ s, ns[k]? = some s := ⟨_, List.getElem?_eq_getElem hlt⟩
      obtain ⟨g, hg, hc⟩ := HC.out k s hsk
      have HG := Lib.hid hsk
      have hsz := HS.out s (List.mem_of_getElem? hsk)
      have HZ := Lib.hid hsz
      clear hsk hsz
      subst hg
      have hc' : w.cell? ⟨g, 0 + k, none⟩ = some (.string s) := by rw [Nat.zero_add]; exact hc
      cases hv : nmOk s.data.toList
      · have HV := Lib.hid hv
        have HR : Hid (checkE d ns = some 1) := Lib.hid (checkE_bad (List.mem_of_getElem? HG.out) hv)
        have hcall := valid_any s w HZ.out
        rw [hv] at hcall
        clear hv
        go_wp2_with (go_at_call 21; (with_reducible refine hcall.mono ?_); rintro e w' ⟨rfl, rfl⟩)
        go_ret
        exact ⟨by rw [HR.out]; rfl, rfl⟩
      · have HV := Lib.hid hv
        have hcall := valid_any s w HZ.out
        rw [hv] at hcall
        clear hv
        go_wp2_with (go_at_call 21; (with_reducible refine hcall.mono ?_); rintro e w' ⟨rfl, rfl⟩)
        go_round
        case rel => exact ⟨k + 1, by omega, by go_num, fun j s' hj hj' => by
          rcases Nat.lt_or_ge j k with h | h
          · exact HA.out j s' h hj'
          · obtain rfl : j = k := by omega
            rw [HG.out] at hj'; cases hj'; exact HV.out⟩
        case measure => simp [intOf]; omega
    · obtain rfl : k = ns.length := by omega
      have HR : Hid (checkE d ns = if d then some 13 else none) := Lib.hid (checkE_ok fun s hs => by
        obtain ⟨j, hj⟩ := List.getElem?_of_mem hs
        exact HA.out j s (List.getElem?_eq_some_iff.1 hj).1 hj)
      cases d
      · go_wp2_with (fail)
        go_ret
        exact ⟨by rw [HR.out]; rfl, rfl⟩
      · go_wp2_with (fail)
        go_ret
        exact ⟨by rw [HR.out]; rfl, rfl⟩
end Go.Proofs.Ytbnflhdioohfeaa
