/- Part 3 of the proof. -/
import Derived.Outline
import Derived.Test.YtilpohdidekenaaGreatDoorKl2
namespace Go.Proofs.YtilpohdidekenaaGreatDoor
set_option linter.unusedVariables false
set_option linter.unusedSimpArgs false
open Go.RowKit Go.Maps
set_option maxRecDepth 100000
def okB (b : UInt8) : Bool := decide (33 ≤ b.toNat) && decide (b.toNat ≤ 126)
theorem nmOk_eq (l : List UInt8) : nmOk l = (decide (0 < l.length) && decide (l.length ≤ 64) && l.all okB) := rfl
theorem nmOk_short {l : List UInt8} (h : l.length = 0) : nmOk l = false := by rw [nmOk_eq]; simp [h]
theorem nmOk_long {l : List UInt8} (h : 64 < l.length) : nmOk l = false := by
  rw [nmOk_eq]
  have : decide (l.length ≤ 64) = false := by simpa using h
  rw [this]; simp
theorem nmOk_bad {l : List UInt8} {b : UInt8} (h : b ∈ l) (hb : okB b = false) : nmOk l = false := by
  rw [nmOk_eq]
  have : l.all okB = false := by rw [List.all_eq_false]; exact ⟨b, h, by simp [hb]⟩
  rw [this]; simp
theorem nmOk_len {l : List UInt8} (h : nmOk l = true) : 0 < l.length ∧ l.length ≤ 64 := by
  rw [nmOk_eq] at h
  simp at h
  exact h.1
theorem okB_false_of {b : UInt8} (h : b.toNat < 33 ∨ 126 < b.toNat) : okB b = false := by
  unfold okB
  rcases h with h | h
  · have : decide (33 ≤ b.toNat) = false := by simpa using h
    rw [this]; rfl
  · have : decide (b.toNat ≤ 126) = false := by simpa using h
    rw [this]; simp
theorem okB_of {b : UInt8} (h1 : 33 ≤ b.toNat) (h2 : b.toNat ≤ 126) : okB b = true := by simp [okB, h1, h2]
set_option maxHeartbeats 1000000 in
theorem valid_any (s : ByteArray) (w : World) (hs : s.size ≤ maxLen) : Calls Tryz.prog 82 #[.string s] w fun e w' => e = .returned (.bool (nmOk s.data.toList)) ∧ w = w' := by
  unfold maxLen at hs
  have hsz : s.data.toList.length = s.size := rfl
  by_cases h0 : s.size = 0
  · have HR : Hid (nmOk s.data.toList = false) := Lib.hid (nmOk_short (by rw [hsz]; exact h0))
    have hd : decide ((s.size : Int) = 0) = true := by simp [h0]
    have hd' : ((s.size : Int) == 0) = true := by simp [h0]
    clear hsz hs
    go_enter Tryz.func82, Tryz.ntmps82
    go_wp2_with (fail)
    go_ret
    exact ⟨by rw [HR.out]; rfl, rfl⟩
  · have hd' : ((s.size : Int) == 0) = false := beq_eq_false_iff_ne.2 (by omega)
    by_cases h64 : 64 < s.size
    · have HR : Hid (nmOk s.data.toList = false) := Lib.hid (nmOk_long (by rw [hsz]; exact h64))
      have hd : decide ((64 : Int) < s.size) = true := by simp; omega
      clear hsz h0
      go_enter Tryz.func82, Tryz.ntmps82
      go_wp2_with (fail)
      go_ret
      exact ⟨by rw [HR.out]; rfl, rfl⟩
    · have hd : decide ((64 : Int) < s.size) = false := by simp; omega
      have HL : Hid (0 < s.size ∧ s.size ≤ 64) := Lib.hid ⟨by omega, by omega⟩
      have HSZ := Lib.hid hsz
      clear hsz h0 h64
      go_enter Tryz.func82, Tryz.ntmps82
      go_wp2_with (fail)
      go_loop [3, 14] (fun _ i => ∃ k : Nat, k ≤ s.size ∧ i = .int .i64 k ∧ ∀ j, j < k → ∀ b, s.data.toList[j]? = some b → okB b = true) (fun _ i => s.size - (intOf i).toNat)
      case atStart => exact ⟨0, Nat.zero_le _, rfl, fun j hj => by omega⟩
      case round =>
        obtain ⟨k, hk, rfl, hall⟩ := hrel
        have HA := Lib.hid hall
        clear hall
        by_cases hlt : k < s.size
        · have HB : Hid (s.data.toList[k]? = some s[k]) := Lib.hid (by rw [List.getElem?_eq_getElem (by rw [HSZ.out]; exact hlt)]; rfl)
          by_cases hlo : s[k].toNat < 33
          · have HR : Hid (nmOk s.data.toList = false) := Lib.hid (nmOk_bad (List.mem_of_getElem? HB.out) (okB_false_of (.inl hlo)))
            go_wp2_with (fail)
            go_ret
            exact ⟨by rw [HR.out]; rfl, rfl⟩
          · by_cases hhi : 126 < s[k].toNat
            · have HR : Hid (nmOk s.data.toList = false) := Lib.hid (nmOk_bad (List.mem_of_getElem? HB.out) (okB_false_of (.inr hhi)))
              go_wp2_with (fail)
              go_ret
              exact ⟨by rw [HR.out]; rfl, rfl⟩
            · have HO := Lib.hid (okB_of (b := s[k]) (by omega) (by omega))
              go_wp2_with (fail)
              go_round
              case rel => exact ⟨k + 1, by omega, by go_num, fun j hj b hb => by
                rcases Nat.lt_or_ge j k with h | h
                · exact HA.out j h b hb
                · obtain rfl : j = k := by omega
                  rw [HB.out] at hb; cases hb; exact HO.out⟩
              case measure => simp [intOf]; omega
        · obtain rfl : k = s.size := by omega
          have HR : Hid (nmOk s.data.toList = true) := Lib.hid (by
            rw [nmOk_eq]
            have h1 := HL.out
            have h2 := HSZ.out
            have : s.data.toList.all okB = true := by
              rw [List.all_eq_true]
              intro b hb
              obtain ⟨j, hj⟩ := List.getElem?_of_mem hb
              exact HA.out j (by rw [← h2]; exact (List.getElem?_eq_some_iff.1 hj).1) b hj
            rw [this, h2]
            simp [h1.1, h1.2])
          go_wp2_with (fail)
          go_ret
          exact ⟨by rw [HR.out]; rfl, rfl⟩
end Go.Proofs.YtilpohdidekenaaGreatDoor
namespace Go.Proofs.YtilpohdidekenaaGreatDoor
set_option linter.unusedVariables false
set_option linter.unusedSimpArgs false
open Go.RowKit Go.Maps
set_option maxRecDepth 100000
def okNames (ns : List ByteArray) : Bool := ns.all fun s => nmOk s.data.toList
def checkE (down : Bool) (ns : List ByteArray) : Option Nat := if okNames ns then (if down then some 13 else none) else some 1
theorem checkE_bad {d : Bool} {ns : List ByteArray} {s : ByteArray} (hm : s ∈ ns) (h : nmOk s.data.toList = false) : checkE d ns = some 1 := by
  unfold checkE
  have : okNames ns = false := by unfold okNames; rw [List.all_eq_false]; exact ⟨s, hm, by simp [h]⟩
  rw [this]; rfl
theorem checkE_ok {d : Bool} {ns : List ByteArray} (h : ∀ s ∈ ns, nmOk s.data.toList = true) : checkE d ns = if d then some 13 else none := by
  unfold checkE
  have : okNames ns = true := by unfold okNames; rw [List.all_eq_true]; exact h
  rw [this]; rfl
theorem check_none (v : Value) (w : World) : Calls Tryz.prog 43 #[.pointer none, v] w fun e w' => e = .returned (errV (some 1)) ∧ w = w' := by
  go_enter Tryz.func43, Tryz.ntmps43
  go_wp2_with (fail)
  go_ret
  exact ⟨rfl, rfl⟩
set_option maxHeartbeats 1000000 in
theorem check_any (R : FsR) (w : World) (H : FsAt w R) (a : Option Addr) (n cap : Nat) (ns : List ByteArray) (hn : n = ns.length) (hlen : ns.length ≤ 64)
    (hcell : ∀ i s, ns[i]? = some s → ∃ g, a = some ⟨g, 0, none⟩ ∧ w.cell? ⟨g, i, none⟩ = some (.string s)) (hs : ∀ s ∈ ns, s.size ≤ maxLen) :
    Calls Tryz.prog 43 #[.pointer (some ⟨R.pb, 0, none⟩), .slice a n cap] w fun e w' => e = .returned (errV (checkE R.down ns)) ∧ w = w' := by
  subst hn
  have c4 : w.cell? ⟨R.pb, 0 + 4, none⟩ = some (.bool R.down) := by rw [Nat.zero_add, H.cell]; rfl
  have c4' : w.cell? ⟨R.pb, 4, none⟩ = some (.bool R.down) := by rw [H.cell]; rfl
  have HC := Lib.hid hcell
  have HS := Lib.hid hs
  clear hcell hs H
  generalize R.down = d at c4 c4'
  generalize R.pb = pb at c4 c4'
  go_enter Tryz.func43, Tryz.ntmps43
  go_wp2_with (fail)
  go_loop [6, 12] (fun _ i => ∃ k : Nat, k ≤ ns.length ∧ i = .int .i64 k ∧ ∀ j s, j < k → ns[j]? = some s → nmOk s.data.toList = true) (fun _ i => ns.length - (intOf i).toNat)
  case atStart => exact ⟨0, Nat.zero_le _, rfl, fun j s hj => by omega⟩
  case round =>
    obtain ⟨k, hk, rfl, hall⟩ := hrel
    have HA := Lib.hid hall
    clear hall
    by_cases hlt : k < ns.length
    · obtain ⟨s, hsk⟩ : ∃ s, ns[k]? = some s := ⟨_, List.getElem?_eq_getElem hlt⟩
      obtain ⟨g, hg, hc⟩ := HC.out k s hsk
      have HG := Lib.hid hsk
      have hsz := HS.out s (List.mem_of_getElem? hsk)
      have HZ := Lib.hid hsz
      clear hsk hsz
      subst hg
      have hc' : w.cell? ⟨g, 0 + k, none⟩ = some (.string s) := by rw [Nat.zero_add]; exact hc
      cases hv : nmOk s.data.toList
      · have HV := Lib.hid hv
        have HR : Hid (checkE d ns = some 1) := Lib.hid (checkE_bad (List.mem_of_getElem? HG.out) hv)
        have hcall := valid_any s w HZ.out
        rw [hv] at hcall
        clear hv
        go_wp2_with (go_at_call 82; (with_reducible refine hcall.mono ?_); rintro e w' ⟨rfl, rfl⟩)
        go_ret
        exact ⟨by rw [HR.out]; rfl, rfl⟩
      · have HV := Lib.hid hv
        have hcall := valid_any s w HZ.out
        rw [hv] at hcall
        clear hv
        go_wp2_with (go_at_call 82; (with_reducible refine hcall.mono ?_); rintro e w' ⟨rfl, rfl⟩)
        go_round
        case rel => exact ⟨k + 1, by omega, by go_num, fun j s' hj hj' => by
          rcases Nat.lt_or_ge j k with h | h
          · exact HA.out j s' h hj'
          · obtain rfl : j = k := by omega
            rw [HG.out] at hj'; cases hj'; exact HV.out⟩
        case measure => simp [intOf]; omega
    · obtain rfl : k = ns.length := by omega
      have HR : Hid (checkE d ns = if d then some 13 else none) := Lib.hid (checkE_ok fun s hs => by
        obtain ⟨j, hj⟩ := List.getElem?_of_mem hs
        exact HA.out j s (List.getElem?_eq_some_iff.1 hj).1 hj)
      cases d
      · go_wp2_with (fail)
        go_ret
        exact ⟨by rw [HR.out]; rfl, rfl⟩
      · go_wp2_with (fail)
        go_ret
        exact ⟨by rw [HR.out]; rfl, rfl⟩
end Go.Proofs.YtilpohdidekenaaGreatDoor
namespace Go.Proofs.YtilpohdidekenaaGreatDoor
set_option linter.unusedVariables false
set_option linter.unusedSimpArgs false
open Go.RowKit Go.Maps
set_option maxRecDepth 100000
theorem Below.alloc0 {w w1 : World} (h : Below w.heap.size w w1) (o : Obj) : Below w.heap.size w (w1.alloc o) := h.alloc h.size o
section
variable {w : World} {ops : Array Oper} {rest : List Oper} {o : Oper} {a : Act} {Q : Exit → Act → World → Prop}
theorem wpList_look (hgd : o.guard = none) (m x : Operand) (ok : Bool) (hop : o.op = Op.lookup 96 m x ok) (mb : Nat) (s : ByteArray) (hm : a.eval m = .map (some mb)) (hx : a.eval x = .string s) (v : Value)
    (hr : (Instr.lookup 96 (.map (some mb)) (.string s) ok).run Tryz.prog w = .ok v w) (hK : wpList Tryz.prog ops Q rest (a.put o.dst v) w) : wpList Tryz.prog ops Q (o :: rest) a w := by
  refine wpList_plain hgd fun K' hK' => ?_
  unfold Oper.wp
  simp [execOp, hop, hm, hx, hr, Result.andThen]
  exact hK' _ _ hK
end
/-- what find answers -/
def findR (R : FsR) (s : ByteArray) : Option Nat × Option Ent :=
  match checkE R.down [s] with
  | some n => (some n, none)
  | none => match getE s.data.toList R.es with | some e => (none, some e) | none => (some 8, none)
theorem FsAt.look_some {w : World} {R : FsR} (h : FsAt w R) {s : ByteArray} (hs : s.size ≤ maxLen) {e : Ent} (he : getE s.data.toList R.es = some e) {a : Option Addr} {n cap : Nat} (hv : e.v = .slice a n cap) :
    (Instr.lookup 96 (.map (some R.mb)) (.string s) true).run Tryz.prog w = .ok (.tuple #[.agg #[.slice a n cap, .int .i64 e.safe], .bool true]) w := by
  rw [h.look s hs, he]; show Result.ok (Value.tuple #[.agg #[e.v, .int .i64 e.safe], .bool true]) w = _; rw [hv]
theorem FsAt.look_none {w : World} {R : FsR} (h : FsAt w R) {s : ByteArray} (hs : s.size ≤ maxLen) (he : getE s.data.toList R.es = none) :
    (Instr.lookup 96 (.map (some R.mb)) (.string s) true).run Tryz.prog w = .ok (.tuple #[.agg #[.slice none 0 0, .int .i64 0], .bool false]) w := by
  rw [h.look s hs, he]; rfl
def FindPost (w : World) (r : Option Nat × Option Ent) (e : Ending) (w' : World) : Prop := e = .returned (.tuple #[fileV r.2, errV r.1]) ∧ Below w.heap.size w w'
theorem names1 {w : World} {s : ByteArray} {T : TypeId} : ∀ i t, [s][i]? = some t → ∃ g, some (⟨w.heap.size, 0, none⟩ : Addr) = some ⟨g, 0, none⟩ ∧ (w.alloc (.cells #[.string s] T)).cell? ⟨g, i, none⟩ = some (.string t) := by
  intro i t hi
  refine ⟨_, rfl, ?_⟩
  match i, hi with
  | 0, hi => cases hi; rw [cell_of_row _ _ 0 _ _ _ (heap_alloc_new w _)]; rfl
set_option maxHeartbeats 2000000 in
theorem find_any (R : FsR) (w : World) (H : FsAt w R) (s : ByteArray) (hs : s.size ≤ maxLen) : Calls Tryz.prog 118 #[.pointer (some ⟨R.pb, 0, none⟩), .string s] w (FindPost w (findR R s)) := by
  have c0 : w.cell? ⟨R.pb, 0, none⟩ = some (.map (some R.mb)) := by rw [H.cell]; rfl
  have c0b : w.cell? ⟨R.pb, 0 + 0, none⟩ = some (.map (some R.mb)) := c0
  have hpb : R.pb < w.heap.size := H.pb_lt
  have HH := Lib.hid H
  have HS := Lib.hid hs
  have hcheck : ∀ T1 T2 cs, Calls Tryz.prog 43 #[.pointer (some ⟨R.pb, 0, none⟩), .slice (some ⟨w.heap.size + 1, 0, none⟩) 1 1] ((w.alloc (.cells cs T1)).alloc (.cells #[.string s] T2)) (fun e w' => e = .returned (errV (checkE R.down [s])) ∧ ((w.alloc (.cells cs T1)).alloc (.cells #[.string s] T2)) = w') := fun T1 T2 cs =>
    check_any R _ (H.below (Below.alloc0 (Below.alloc0 (Below.refl _ _) _) _)) _ 1 1 [s] rfl (by simp) (by have := @names1 (w.alloc (.cells cs T1)) s T2; rwa [size_alloc] at this) (by simpa using hs)
  have HC := Lib.hid hcheck
  clear hcheck H hs
  cases hck : checkE R.down [s] with
  | some n =>
    have HR : Hid (findR R s = (some n, none)) := Lib.hid (by unfold findR; rw [hck])
    have hcc := HC.out
    rw [hck] at hcc
    simp only [errV] at hcc
    have HC1 := Lib.hid hcc
    clear hck hcc HC
    go_enter Tryz.func118, Tryz.ntmps118
    go_wp2_with (go_at_call 43; (with_reducible refine (HC1.out _ _ _).mono ?_); rintro e w' ⟨rfl, rfl⟩)
    exact bodyPost_ret (v := .tuple #[.agg #[.slice none 0 0, .int .i64 0], .iface 87 (.int .i64 n)]) (by simp [results, Tryz.results118, go_sem]) rfl ⟨by rw [HR.out]; rfl, Below.alloc0 (Below.alloc0 (Below.refl _ _) _) _⟩
  | none =>
    have hcc := HC.out
    rw [hck] at hcc
    simp only [errV] at hcc
    have HC1 := Lib.hid hcc
    clear hcc HC
    cases hg : getE s.data.toList R.es with
    | none =>
      have HR : Hid (findR R s = (some 8, none)) := Lib.hid (by unfold findR; rw [hck, hg])
      have HLK : ∀ w1, Below w.heap.size w w1 → Hid ((Instr.lookup 96 (.map (some R.mb)) (.string s) true).run Tryz.prog w1 = .ok (.tuple #[.agg #[.slice none 0 0, .int .i64 0], .bool false]) w1) := fun w1 hb => Lib.hid ((HH.out.below hb).look_none HS.out hg)
      have HLH := Lib.hid HLK
      clear hck hg HLK
      go_enter Tryz.func118, Tryz.ntmps118
      go_wp2_with (first | (go_at_call 43; (with_reducible refine (HC1.out _ _ _).mono ?_); rintro e w' ⟨rfl, rfl⟩) | (at_lookup; refine wpList_look rfl _ _ true rfl R.mb s rfl rfl _ (HLH.out _ (Below.alloc0 (Below.alloc0 (Below.refl _ _) _) _)).out ?_))
      exact bodyPost_ret (v := .tuple #[.agg #[.slice none 0 0, .int .i64 0], .iface 87 (.int .i64 8)]) (by simp [results, Tryz.results118, go_sem]) rfl ⟨by rw [HR.out]; rfl, Below.alloc0 (Below.alloc0 (Below.alloc0 (Below.refl _ _) _) _) _⟩
    | some en =>
      have HR : Hid (findR R s = (none, some en)) := Lib.hid (by unfold findR; rw [hck, hg])
      have HG := Lib.hid hg
      obtain ⟨a, cap, hv⟩ := (HH.out.ents en (getE_some hg).1).1.len
      have HV := Lib.hid hv
      have HLK : ∀ w1, Below w.heap.size w w1 → Hid ((Instr.lookup 96 (.map (some R.mb)) (.string s) true).run Tryz.prog w1 = .ok (.tuple #[.agg #[.slice a en.xs.length cap, .int .i64 en.safe], .bool true]) w1) := fun w1 hb => Lib.hid ((HH.out.below hb).look_some HS.out hg hv)
      have HLH := Lib.hid HLK
      clear hck hg hv HLK
      go_enter Tryz.func118, Tryz.ntmps118
      go_wp2_with (first | (go_at_call 43; (with_reducible refine (HC1.out _ _ _).mono ?_); rintro e w' ⟨rfl, rfl⟩) | (at_lookup; refine wpList_look rfl _ _ true rfl R.mb s rfl rfl _ (HLH.out _ (Below.alloc0 (Below.alloc0 (Below.refl _ _) _) _)).out ?_))
      exact bodyPost_ret (v := .tuple #[.agg #[.slice a en.xs.length cap, .int .i64 en.safe], .nilIface]) (by simp [results, Tryz.results118, go_sem]) rfl ⟨by rw [HR.out]; show Ending.returned (.tuple #[_, Value.nilIface]) = Ending.returned (.tuple #[entV en, Value.nilIface]); unfold entV; rw [HV.out], Below.alloc0 (Below.alloc0 (Below.alloc0 (Below.refl _ _) _) _) _⟩
end Go.Proofs.YtilpohdidekenaaGreatDoor
namespace Go.Proofs.YtilpohdidekenaaGreatDoor
set_option linter.unusedVariables false
set_option linter.unusedSimpArgs false
open Go.RowKit Go.Maps
set_option maxRecDepth 100000
def freshR (w : World) : FsR := ⟨w.heap.size + 1, w.heap.size, [], 0, false, 0, false⟩
theorem fs_made (w : World) : FsAt ((w.alloc (.map #[] 0)).alloc (.cells #[.map (some w.heap.size), .int .i64 0, .bool false, .int .i64 0, .bool false] 98)) (freshR w) where
  own := by
    have := heap_alloc_new (w.alloc (.map #[] 0)) (.cells #[.map (some w.heap.size), .int .i64 0, .bool false, .int .i64 0, .bool false] 98)
    rwa [size_alloc] at this
  map := (World.ownsMap_made w Tryz.prog 9 heldE).alloc _
  ents := by intro e he; cases he
  sorted := List.Pairwise.nil
  apart := List.Pairwise.nil
  many := by simp [freshR]
  leftOk := by simp [freshR]
def NewPost (w : World) (e : Ending) (w' : World) : Prop := e = .returned (.pointer (some ⟨w.heap.size + 1, 0, none⟩)) ∧ FsAt w' (freshR w) ∧ Below w.heap.size w w'
theorem fnew_any (w : World) : Calls Tryz.prog 17 #[] w (NewPost w) := by
  have hmm := @run_makeMap Tryz.prog
  go_enter Tryz.func17, Tryz.ntmps17
  go_wp2_with (fail)
  go_ret
  exact ⟨rfl, fs_made w, Below.alloc0 (Below.alloc0 (Below.refl _ _) _) _⟩
/-- the first k bytes of a file's slice -/
def firstV (v : Value) (k : Nat) : Value := match v with | .slice a _ _ => .slice a k k | x => x
def FirstPost (w : World) (v : Value) (k : Nat) (e : Ending) (w' : World) : Prop := e = .returned (firstV v k) ∧ Below w.heap.size w w'
theorem first_view {w : World} {v : Value} {xs : List Int} (h : ViewAt w v xs) (k : Nat) (hk : k ≤ xs.length) : ViewAt w (firstV v k) (xs.take k) := by
  rcases h with ⟨rfl, rfl⟩ | ⟨g, cap, cur, rfl, hg, h1, h2, h3, h4⟩
  · obtain rfl : k = 0 := by simpa using hk
    exact .inl ⟨rfl, rfl⟩
  · have hl : (xs.take k).length = k := by rw [List.length_take]; omega
    refine .inr ⟨g, k, cur, by rw [hl]; rfl, hg, by rw [hl]; omega, by omega, by omega, ?_⟩
    rw [hl]
    have : cur.toList.take k = (cur.toList.take xs.length).take k := by rw [List.take_take]; congr 1; omega
    rw [this, h4]
    simp [byteVals, List.map_take]
theorem first_used {v : Value} {k : Nat} {i o : Nat} {xs : List Int} {w : World} (h : ViewAt w v xs) (hk : k ≤ xs.length) (hu : Used (firstV v k) i o) : Used v i o := by
  rcases h with ⟨rfl, rfl⟩ | ⟨g, cap, cur, rfl, hg, h1, h2, h3, h4⟩
  · obtain ⟨a, n, c, e, _⟩ := hu; cases e
  · obtain ⟨a, n, c, e, rfl, ho⟩ := hu
    injection e with e1 e2 e3; injection e1 with e1; subst e1 e2 e3
    exact ⟨_, _, _, rfl, rfl, by omega⟩
theorem first_spare {v : Value} {k : Nat} {i o : Nat} (hu : Spare (firstV v k) i o) : False := by
  obtain ⟨a, n, c, e, rfl, h1, h2⟩ := hu
  unfold firstV at e
  split at e
  · injection e with _ e2 e3; omega
  · subst e; rename_i hn; exact hn _ _ _ rfl
theorem first_any (v : Value) (xs : List Int) (safe : Nat) (k : Nat) (w : World) (h : ViewAt w v xs) (hk : k ≤ xs.length) : Calls Tryz.prog 47 #[.agg #[v, .int .i64 safe], .int .i64 k] w (FirstPost w v k) := by
  rcases h with ⟨rfl, rfl⟩ | ⟨g, cap, cur, rfl, hg, h1, h2, h3, h4⟩
  · obtain rfl : k = 0 := by simpa using hk
    go_enter Tryz.func47, Tryz.ntmps47
    go_wp2_with (fail)
    go_ret
    exact ⟨rfl, Below.alloc0 (Below.refl _ _) _⟩
  · have hkc : (k : Int) ≤ cap := by omega
    have hk0 : (0 : Int) ≤ k := by omega
    clear hg h1 h2 h3 h4 hk
    go_enter Tryz.func47, Tryz.ntmps47
    go_wp2_with (fail)
    go_ret
    exact ⟨rfl, Below.alloc0 (Below.refl _ _) _⟩
theorem down_any (R : FsR) (w : World) (H : FsAt w R) : Calls Tryz.prog 22 #[.pointer (some ⟨R.pb, 0, none⟩)] w fun e w' => e = .returned (.bool R.down) ∧ w = w' := by
  have c4 : w.cell? ⟨R.pb, 0 + 4, none⟩ = some (.bool R.down) := by rw [Nat.zero_add, H.cell]; rfl
  have c4' : w.cell? ⟨R.pb, 4, none⟩ = some (.bool R.down) := by rw [H.cell]; rfl
  clear H
  go_enter Tryz.func22, Tryz.ntmps22
  go_wp2_with (fail)
  go_ret
  exact ⟨rfl, rfl⟩
theorem down_none (w : World) : Calls Tryz.prog 22 #[.pointer none] w fun e w' => e = .returned (.bool false) ∧ w = w' := by
  go_enter Tryz.func22, Tryz.ntmps22
  go_wp2_with (fail)
  go_ret
  exact ⟨rfl, rfl⟩
theorem findR_mem {R : FsR} {s : ByteArray} {er : Option Nat} {e : Ent} (h : findR R s = (er, some e)) : er = none ∧ getE s.data.toList R.es = some e := by
  unfold findR at h
  split at h
  · injection h with _ h; cases h
  · split at h
    · injection h with h1 h2; injection h2 with h2; subst h2; exact ⟨h1.symm, by assumption⟩
    · injection h with _ h; cases h
def fileXs : Option Ent → List Int
  | some e => e.xs
  | none => []
def fileSafe : Option Ent → Nat
  | some e => e.safe
  | none => 0
theorem ownsRow_base_le {w : World} {base base' : Nat} {e : TypeId} {size : Nat} {v : Value} {n : Nat} {xs : List Value} (h : w.ownsRow base e size v n xs) (hb : base' ≤ base) : w.ownsRow base' e size v n xs := by
  obtain ⟨h1, h2⟩ := h
  refine ⟨h1, h2.imp id ?_⟩
  rintro ⟨g, cap, cur, a, b, r⟩
  exact ⟨g, cap, cur, a, Nat.le_trans hb b, r⟩
def ReadPost (w : World) (r : Option Nat × Option Ent) (e : Ending) (w' : World) : Prop :=
  ∃ v, e = .returned (.tuple #[v, errV r.1]) ∧ w'.ownsRow w.heap.size 5 1 v (fileXs r.2).length (byteVals (fileXs r.2)) ∧ Below w.heap.size w w'
set_option maxHeartbeats 1000000 in
theorem fread_any (R : FsR) (w : World) (H : FsAt w R) (s : ByteArray) (hs : s.size ≤ maxLen) : Calls Tryz.prog 76 #[.pointer (some ⟨R.pb, 0, none⟩), .string s] w (ReadPost w (findR R s)) := by
  have hf := find_any R w H s hs
  obtain ⟨er, oe, hr⟩ : ∃ er oe, findR R s = (er, oe) := ⟨_, _, rfl⟩
  rw [hr] at hf ⊢
  cases oe with
  | none =>
    have HF := Lib.hid hf
    clear hf H hs hr
    go_enter Tryz.func76, Tryz.ntmps76
    go_wp2_with (first | (go_at_call 118; (with_reducible refine HF.out.mono ?_); rintro e w1 ⟨rfl, hb⟩; simp only [fileV]; have HB := Lib.hid hb; clear hb) | (go_at_call 106; (with_reducible refine (clone_any _ [] _ (nil_in _) (by simp)).mono ?_); rintro e w2 ⟨v', rfl, ho, hb⟩; have HO := Lib.hid ho; have HB2 := Lib.hid hb; clear ho hb))
    go_ret2
    refine ⟨v', rfl, ?_, (Below.alloc0 HB.out _).trans (HB2.out.mono (by rw [size_alloc]; have := HB.out.size; omega))⟩
    exact ownsRow_base_le HO.out (by rw [size_alloc]; have := HB.out.size; omega)
  | some en =>
    obtain ⟨rfl, hm⟩ := findR_mem hr
    obtain ⟨hvw, _, hlen, _⟩ := H.ents en (getE_some hm).1
    obtain ⟨a, cap, hv⟩ := hvw.len
    have HF := Lib.hid hf
    obtain ⟨nm, v, xs, sf⟩ := en
    simp only at hv hvw hlen; subst hv
    have HW := Lib.hid hvw
    have HLN : Hid (xs.length ≤ 16777216) := Lib.hid hlen
    clear hf H hs hr hm hvw hlen
    go_enter Tryz.func76, Tryz.ntmps76
    go_wp2_with (first | (go_at_call 118; (with_reducible refine HF.out.mono ?_); rintro e w1 ⟨rfl, hb⟩; simp only [fileV, entV]; have HB := Lib.hid hb; clear hb) | (go_at_call 106; (with_reducible refine (clone_any _ xs _ ((HW.out.below (Below.alloc0 HB.out _)).bytes (by have := HLN.out; unfold maxLen; omega)) (by have := HLN.out; omega)).mono ?_); rintro e w2 ⟨v', rfl, ho, hb⟩; have HO := Lib.hid ho; have HB2 := Lib.hid hb; clear ho hb))
    go_ret2
    refine ⟨v', rfl, ?_, (Below.alloc0 HB.out _).trans (HB2.out.mono (by rw [size_alloc]; have := HB.out.size; omega))⟩
    exact ownsRow_base_le HO.out (by rw [size_alloc]; have := HB.out.size; omega)
end Go.Proofs.YtilpohdidekenaaGreatDoor
namespace Go.Proofs.YtilpohdidekenaaGreatDoor
set_option linter.unusedVariables false
set_option linter.unusedSimpArgs false
open Go.RowKit Go.Maps
set_option maxRecDepth 100000
def armE (R : FsR) (n : Int) : Option Nat := if n < 0 then some 1 else if R.down then some 13 else none
def armR (R : FsR) (n : Int) : FsR := if n < 0 then R else if R.down then R else { R with armed := true, left := n.toNat }
def ArmPost (R : FsR) (n : Int) (w : World) (e : Ending) (w' : World) : Prop := e = .returned (errV (armE R n)) ∧ FsAt w' (armR R n) ∧ Keep (Foot R) w w'
set_option maxHeartbeats 1000000 in
theorem arm_any (R : FsR) (w : World) (H : FsAt w R) (n : Int) (hn : n ≤ 9223372036854775807) : Calls Tryz.prog 20 #[.pointer (some ⟨R.pb, 0, none⟩), .int .i64 n] w (ArmPost R n w) := by
  by_cases hneg : n < 0
  · have HR : Hid (armE R n = some 1 ∧ armR R n = R) := Lib.hid ⟨by unfold armE; rw [if_pos hneg], by unfold armR; rw [if_pos hneg]⟩
    have HH := Lib.hid H
    have hd : decide (n < 0) = true := by simpa using hneg
    clear H
    go_enter Tryz.func20, Tryz.ntmps20
    go_wp2_with (fail)
    go_ret
    exact ⟨by rw [HR.out.1]; rfl, by rw [HR.out.2]; exact HH.out, Keep.refl _ _⟩
  · have hc := check_any R w H none 0 0 [] rfl (by simp) (by intro i s h; cases h) (by simp)
    have hd : decide (n < 0) = false := by simpa using hneg
    have hpb := H.pb_lt
    have HH := Lib.hid H
    have f2 : w.frozen? ⟨R.pb, 2, none⟩ = false := H.free 2
    have f3 : w.frozen? ⟨R.pb, 3, none⟩ = false := H.free 3
    have c2 : w.cell? ⟨R.pb, 2, none⟩ = some (.bool R.armed) := by rw [H.cell]; rfl
    have c3 : w.cell? ⟨R.pb, 3, none⟩ = some (.int .i64 R.left) := by rw [H.cell]; rfl
    clear H
    cases hdn : R.down with
    | true =>
      have HR : Hid (armE R n = some 13 ∧ armR R n = R) := Lib.hid ⟨by unfold armE; rw [if_neg hneg, hdn]; rfl, by unfold armR; rw [if_neg hneg, hdn]; rfl⟩
      rw [checkE_ok (by simp), hdn] at hc
      simp only [if_true, errV] at hc
      have HC := Lib.hid hc
      clear hc hdn
      go_enter Tryz.func20, Tryz.ntmps20
      go_wp2_with (go_at_call 43; (with_reducible refine HC.out.mono ?_); rintro e w1 ⟨rfl, rfl⟩)
      go_ret
      exact ⟨by rw [HR.out.1]; rfl, by rw [HR.out.2]; exact HH.out, Keep.refl _ _⟩
    | false =>
      have HR : Hid (armE R n = none ∧ armR R n = { R with armed := true, left := n.toNat }) := Lib.hid ⟨by unfold armE; rw [if_neg hneg, hdn]; rfl, by unfold armR; rw [if_neg hneg, hdn]; rfl⟩
      have HN : Hid (((n.toNat : Nat) : Int) = n) := Lib.hid (Int.toNat_of_nonneg (by omega))
      have HM : Hid (n ≤ 9223372036854775807) := Lib.hid hn
      rw [checkE_ok (by simp), hdn] at hc
      simp only [if_false, errV] at hc
      have HC := Lib.hid hc
      clear hc hdn
      go_enter Tryz.func20, Tryz.ntmps20
      go_wp2_with (go_at_call 43; (with_reducible refine HC.out.mono ?_); rintro e w1 ⟨rfl, rfl⟩)
      go_ret
      refine ⟨by rw [HR.out.1]; rfl, ?_, ?_⟩
      · rw [HR.out.2]
        have h1 := HH.out.set (R' := { R with armed := true }) 2 (.bool true) rfl rfl rfl HH.out.leftOk rfl
        exact h1.set (R' := { R with armed := true, left := n.toNat }) 3 (.int .i64 n) rfl rfl rfl (by show ((n.toNat : Nat) : Int) ≤ _; rw [HN.out]; exact HM.out) (by show _ = fsCells _; unfold fsCells; rw [HN.out]; rfl)
      · have h1 := HH.out.set (R' := { R with armed := true }) 2 (.bool true) rfl rfl rfl HH.out.leftOk rfl
        exact (HH.out.setKeep 2 (.bool true)).trans (h1.setKeep 3 (.int .i64 n)) fun _ _ _ h => h
/-- a step that is counted -/
def stepR (R : FsR) : FsR := { R with steps := R.steps + 1, left := if R.armed then R.left - 1 else R.left }
theorem step_down (R : FsR) (w : World) (H : FsAt w R) (f : Value) (ha : R.armed = true) (hl : R.left = 0) :
    Calls Tryz.prog 122 #[.pointer (some ⟨R.pb, 0, none⟩), f] w fun e w' => e = .returned (.iface 87 (.int .i64 13)) ∧ w' = w.setCell ⟨R.pb, 4, none⟩ (.bool true) := by
  have c2 : w.cell? ⟨R.pb, 2, none⟩ = some (.bool true) := by rw [H.cell, ← ha]; rfl
  have c3 : w.cell? ⟨R.pb, 3, none⟩ = some (.int .i64 0) := by rw [H.cell]; unfold fsCells; rw [hl]; rfl
  have c4 : w.cell? ⟨R.pb, 4, none⟩ = some (.bool R.down) := by rw [H.cell]; rfl
  have f4 : w.frozen? ⟨R.pb, 4, none⟩ = false := H.free 4
  clear H ha hl
  go_enter Tryz.func122, Tryz.ntmps122
  go_wp2_with (fail)
  go_ret
  exact ⟨rfl, rfl⟩
set_option maxHeartbeats 1000000 in
theorem step_any (R : FsR) (w : World) (H : FsAt w R) (hst : R.steps < 4611686018427387904) (hnc : R.armed = true → R.left ≠ 0) (c : Nat) (caps : Array Value) (henter : ∀ args w, (callFunc c args).run Tryz.prog w = .ok (.enter c args) w) (Q : World → Prop)
    (hcall : ∀ w1, FsAt w1 (stepR R) → Keep (fun k _ => k = R.pb) w w1 → Calls Tryz.prog c caps w1 fun e w2 => e = .returned (.tuple #[]) ∧ Q w2) :
    Calls Tryz.prog 122 #[.pointer (some ⟨R.pb, 0, none⟩), .func (.func c) #[] caps] w fun e w' => e = .returned .nilIface ∧ Q w' := by
  have c1 : w.cell? ⟨R.pb, 1, none⟩ = some (.int .i64 R.steps) := by rw [H.cell]; rfl
  have c3 : w.cell? ⟨R.pb, 3, none⟩ = some (.int .i64 R.left) := by rw [H.cell]; rfl
  have f1 : w.frozen? ⟨R.pb, 1, none⟩ = false := H.free 1
  have f3 : w.frozen? ⟨R.pb, 3, none⟩ = false := H.free 3
  have hs1 : (R.steps : Int) < 4611686018427387904 := by omega
  have hs0 : (0 : Int) ≤ R.steps := by omega
  have hl0 : (0 : Int) ≤ R.left := by omega
  have hl1 : (R.left : Int) ≤ 9223372036854775807 := H.leftOk
  cases ha : R.armed with
  | false =>
    have c2 : w.cell? ⟨R.pb, 2, none⟩ = some (.bool false) := by rw [H.cell, ← ha]; rfl
    have HCALL := Lib.hid hcall
    have HF : Hid (FsAt (w.setCell ⟨R.pb, 1, none⟩ (.int .i64 ((R.steps : Int) + 1))) (stepR R)) := Lib.hid (H.set (R' := stepR R) 1 _ rfl rfl rfl (by show ((if R.armed then R.left - 1 else R.left : Nat) : Int) ≤ _; rw [ha]; exact H.leftOk) (by unfold fsCells stepR; simp only [ha]; rfl))
    have HK : Hid (Keep (fun k _ => k = R.pb) w (w.setCell ⟨R.pb, 1, none⟩ (.int .i64 ((R.steps : Int) + 1)))) := Lib.hid (Keep.setCell w R.pb 1 _ _ _ H.own rfl)
    clear hcall H ha hnc
    go_enter Tryz.func122, Tryz.ntmps122
    go_wp2_with (fail)
    refine (HCALL.out _ HF.out HK.out).mono ?_
    rintro e w2 ⟨rfl, hq⟩
    have HQ := Lib.hid hq
    clear hq
    go_wp2_with (fail)
    go_ret
    exact ⟨rfl, HQ.out⟩
  | true =>
    have c2 : w.cell? ⟨R.pb, 2, none⟩ = some (.bool true) := by rw [H.cell, ← ha]; rfl
    have hlp : (0 : Int) < R.left := by have := hnc ha; omega
    have hd : ((R.left : Int) == 0) = false := beq_eq_false_iff_ne.2 (by omega)
    have HCALL := Lib.hid hcall
    have h1 : FsAt (w.setCell ⟨R.pb, 3, none⟩ (.int .i64 ((R.left : Int) - 1))) { R with left := R.left - 1 } :=
      H.set (R' := { R with left := R.left - 1 }) 3 _ rfl rfl rfl (by show ((R.left - 1 : Nat) : Int) ≤ _; omega) (by unfold fsCells; simp only [ha]; rw [show (((R.left - 1 : Nat) : Int)) = (R.left : Int) - 1 by omega]; rfl)
    have h2 : FsAt ((w.setCell ⟨R.pb, 3, none⟩ (.int .i64 ((R.left : Int) - 1))).setCell ⟨R.pb, 1, none⟩ (.int .i64 ((R.steps : Int) + 1))) (stepR R) :=
      h1.set (R' := stepR R) 1 _ rfl rfl rfl (by show ((if R.armed then R.left - 1 else R.left : Nat) : Int) ≤ _; rw [ha]; simp only [if_true]; omega) (by unfold fsCells stepR; simp only [ha]; rfl)
    have HF := Lib.hid h2
    have HK : Hid (Keep (fun k _ => k = R.pb) w ((w.setCell ⟨R.pb, 3, none⟩ (.int .i64 ((R.left : Int) - 1))).setCell ⟨R.pb, 1, none⟩ (.int .i64 ((R.steps : Int) + 1)))) := Lib.hid ((Keep.setCell w R.pb 3 _ _ _ H.own rfl).trans (Keep.setCell _ R.pb 1 _ _ _ h1.own rfl) fun _ _ _ h => h)
    clear hcall H ha hnc h1 h2
    go_enter Tryz.func122, Tryz.ntmps122
    go_wp2_with (fail)
    refine (HCALL.out _ HF.out HK.out).mono ?_
    rintro e w2 ⟨rfl, hq⟩
    have HQ := Lib.hid hq
    clear hq
    go_wp2_with (fail)
    go_ret
    exact ⟨rfl, HQ.out⟩
end Go.Proofs.YtilpohdidekenaaGreatDoor
