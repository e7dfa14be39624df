/- Part 24 of the proof. -/
import Derived.Deep.RegionHeld3
import Derived.Lib.AppendStr
import Derived.Test.YtabflppnecemkaaGreatDoorPb7
import Derived.Test.YtabflppnecemkaaGreatDoorPb8
import Derived.Test.YtabflppnecemkaaGreatDoorPb23
namespace Go.Proofs.YtabflppnecemkaaGreatDoor
set_option linter.unusedVariables false
set_option linter.unusedSimpArgs false
open Go.RowKit
set_option maxRecDepth 100000
theorem one_in1 (w : World) (x : Int) : BytesIn (w.alloc (.cells #[.int .u8 x] 5)) (.slice (some ⟨w.heap.size, 0, none⟩) 1 1) [x] := by
  refine ⟨_, 1, rfl, by simp, by simp [maxLen], .inr ⟨w.heap.size, 0, rfl, fun i y hi => ?_⟩⟩
  match i, hi with
  | 0, hi =>
    simp at hi
    subst hi
    rw [cell_of_row _ w.heap.size 0 _ _ _ (heap_alloc_new _ _)]
    rfl
  | i + 1, hi => simp at hi
/-- what the sum's own memory holds: the result's row, the constants, the state -/
structure RM (w wr : World) (gk gh : Nat) (h : Nat → Int) : Prop where
  out : RowAt wr w.heap.size .u8 32 62 (fun _ => 0)
  k : RowAt wr gk .u32 64 187 KT
  st : RowAt wr gh .u32 8 181 h
  lt1 : w.heap.size < gk
  lt2 : gk < gh
  below : Below w.heap.size w wr
theorem RM.grows {w wr w2 : World} {gk gh : Nat} {h : Nat → Int} (m : RM w wr gk gh h) (hb : Below (gh + 1) wr w2) : RM w w2 gk gh h :=
  ⟨m.out.below hb (by have := m.lt1; have := m.lt2; omega), m.k.below hb (by have := m.lt2; omega), m.st.below hb (by omega), m.lt1, m.lt2, m.below.trans (hb.mono (by have := m.lt1; have := m.lt2; omega))⟩
theorem RM.start (w w1 w2 : World) (h1 : w1 = w.alloc (.cells (rowOf .u8 32 (fun _ => 0)) 62)) (hb : Below w1.heap.size w1 w2) :
    RM w ((((w2.alloc (.cells (rowOf .u32 64 (fun _ => 0)) 187)).alloc (.cells (rowOf .u32 8 (fun _ => 0)) 181)).setRow w2.heap.size (rowOf .u32 64 KT)).setRow (w2.heap.size + 1) (rowOf .u32 8 BT)) w2.heap.size (w2.heap.size + 1) BT := by
  subst h1
  have hs := hb.size
  rw [shSize_alloc] at hs hb
  have hB2 : Below w2.heap.size w2 ((((w2.alloc (.cells (rowOf .u32 64 (fun _ => 0)) 187)).alloc (.cells (rowOf .u32 8 (fun _ => 0)) 181)).setRow w2.heap.size (rowOf .u32 64 KT)).setRow (w2.heap.size + 1) (rowOf .u32 8 BT)) :=
    below_setRow (below_setRow ((below_alloc w2 _).trans ((below_alloc _ _).mono (by simp))) (Nat.le_refl _) _) (by omega) _
  refine ⟨((RowAt.new w .u8 32 62 (fun _ => 0)).below hb (by omega)).below hB2 (by omega), ?_, ?_, by omega, by omega, ((below_alloc w _).trans (hb.mono (by omega))).trans (hB2.mono (by omega))⟩
  · exact (setRow_other _ _ _ _ (by omega)).trans (setRow_heap _ _ _ _ _ _ ((RowAt.new w2 .u32 64 187 (fun _ => 0)).alloc _))
  · exact setRow_heap _ _ _ _ _ _ ((setRow_other _ _ _ _ (by omega)).trans (heap_alloc2_new w2 _ _))
theorem RM.setH {w wr : World} {gk gh : Nat} {h : Nat → Int} (m : RM w wr gk gh h) (i : Nat) (v : Int) : RM w (wr.setCell ⟨gh, i, none⟩ (.int .u32 v)) gk gh (upd h i v) :=
  ⟨m.out.other _ _ (by have := m.lt1; have := m.lt2; show w.heap.size ≠ gh; omega), m.k.other _ _ (by have := m.lt2; show gk ≠ gh; omega), m.st.set i v, m.lt1, m.lt2, m.below.setCell (by have := m.lt1; have := m.lt2; show w.heap.size ≤ gh; omega) _⟩
theorem RM.congr {w wr : World} {gk gh : Nat} {h h' : Nat → Int} (m : RM w wr gk gh h) (e : ∀ i, i < 8 → h i = h' i) : RM w wr gk gh h' :=
  ⟨m.out, m.k, by have := m.st; unfold RowAt at *; rw [← rowOf_congr _ _ _ _ e]; exact this, m.lt1, m.lt2, m.below⟩
/-- .. and the message, in block g0 -/
structure BM (w wr : World) (gk gh g0 : Nat) (h : Nat → Int) (M : List Int) : Prop where
  m : RM w wr gk gh h
  lt : gh < g0
  sz : g0 < wr.heap.size
  msg : ∀ i, i < M.length → wr.cell? ⟨g0, i, none⟩ = some (.int .u8 (M.getD i 0))
theorem BM.grows {w wr w2 : World} {gk gh g0 : Nat} {h : Nat → Int} {M : List Int} (b : BM w wr gk gh g0 h M) (hb : Below (g0 + 1) wr w2) : BM w w2 gk gh g0 h M :=
  ⟨b.m.grows (hb.mono (by have := b.lt; omega)), b.lt, Nat.lt_of_lt_of_le b.sz hb.size, fun i hi => (hb.cell (p := ⟨g0, i, none⟩) (by show g0 < g0 + 1; omega)).trans (b.msg i hi)⟩
theorem BM.setH {w wr : World} {gk gh g0 : Nat} {h : Nat → Int} {M : List Int} (b : BM w wr gk gh g0 h M) (i : Nat) (v : Int) : BM w (wr.setCell ⟨gh, i, none⟩ (.int .u32 v)) gk gh g0 (upd h i v) M :=
  ⟨b.m.setH i v, b.lt, by have := b.sz; simpa [World.setCell] using this, fun j hj => by
    rw [← b.msg j hj]
    exact World.cell?_of_block (Below.heap_setCell wr ⟨gh, i, none⟩ _ g0 (by show g0 ≠ gh; have := b.lt; omega))⟩
theorem owns_msg {w : World} {base n c : Nat} {a : Option Addr} {M : List Int} (h : w.ownsRow base 5 1 (.slice a n c) n (byteVals M)) (hn : M.length = n) (hp : 0 < n) :
    ∃ g0, base ≤ g0 ∧ a = some ⟨g0, 0, none⟩ ∧ g0 < w.heap.size ∧ ∀ i, i < n → w.cell? ⟨g0, i, none⟩ = some (.int .u8 (M.getD i 0)) := by
  rcases h.2 with ⟨_, h0⟩ | ⟨g, c', cur, hv, hb, hg, hc, hm, hs, ht⟩
  · omega
  · injection hv with e1 e2 e3
    subst e1
    refine ⟨g, hb, rfl, ?_, fun i hi => ?_⟩
    · exact (h.lt g rfl).2
    · have := h.cells (g := g) rfl i (.int .u8 (M.getD i 0)) (by simp [byteVals, List.getElem?_eq_getElem (show i < M.length by omega)])
      rw [Addr.add_mid] at this
      simpa using this
/-- the words after t steps -/
def expT (bl : Nat → Int) (t : Nat) : Nat → Int := if t ≤ 16 then expA bl t else expB bl (t - 16)
theorem expT_lo (bl : Nat → Int) (t : Nat) (h : t < 16) : upd (expT bl t) t (wordB bl t) = expT bl (t + 1) := by
  unfold expT; rw [if_pos (by omega), if_pos (by omega)]; rfl
theorem expT_hi (bl : Nat → Int) (k : Nat) : upd (expT bl (k + 16)) (k + 16) (nextW (expT bl (k + 16)) k) = expT bl (k + 16 + 1) := by
  have e : expT bl (k + 16) = expB bl k := by
    unfold expT
    by_cases h : k = 0
    · subst h; rfl
    · rw [if_neg (by omega), show k + 16 - 16 = k by omega]
  rw [e]
  unfold expT
  rw [if_neg (by omega), show k + 16 + 1 - 16 = k + 1 by omega]
  rfl
theorem expT_end (bl : Nat → Int) : expT bl 64 = expB bl 48 := by unfold expT; rw [if_neg (by omega)]
theorem BM.drew {w wr : World} {gk gh g0 : Nat} {h : Nat → Int} {M : List Int} (b : BM w wr gk gh g0 h M) : BM w wr.drew gk gh g0 h M := b.grows (Below.refl _ _).drew
theorem BM.drewN {w wr : World} {gk gh g0 n : Nat} {h : Nat → Int} {M : List Int} (b : BM w wr gk gh g0 h M) : BM w (wr.drewN n) gk gh g0 h M := b.grows ⟨rfl, rfl, rfl, Nat.le_refl _, fun _ _ => rfl⟩
theorem BM.setW {w wr : World} {gk gh g0 g : Nat} {h : Nat → Int} {M : List Int} (b : BM w wr gk gh g0 h M) (hg : g0 < g) (i : Nat) (v : Value) : BM w (wr.setCell ⟨g, i, none⟩ v) gk gh g0 h M :=
  b.grows ((Below.refl _ _).setCell (by show g0 + 1 ≤ g; omega) _)
theorem nextW_sum (e : Nat → Int) (k0 k1 k2 k3 : Nat) (h1 : k1 = k0 + 1) (h2 : k2 = k0 + 14) (h3 : k3 = k0 + 9) :
    (bits BinOp.xor IntKind.u32 (bits BinOp.xor IntKind.u32 (rotI (e k2) 15) (rotI (e k2) 13)) (e k2 / 1024) + e k3 + bits BinOp.xor IntKind.u32 (bits BinOp.xor IntKind.u32 (rotI (e k1) 25) (rotI (e k1) 14)) (e k1 / 8) + e k0) % 4294967296 = nextW e k0 := by
  subst h1; subst h2; subst h3
  unfold nextW
  congr 1
  omega
/-- the first k words of the state summed -/
def addK (h v : Nat → Int) (k : Nat) : Nat → Int := fun i => if i < k then (h i + v i) % 4294967296 else h i
theorem addK_zero (h v : Nat → Int) : addK h v 0 = h := by funext i; unfold addK; rw [if_neg (by omega)]
theorem addK_at (h v : Nat → Int) (k : Nat) : addK h v k k = h k := by unfold addK; rw [if_neg (by omega)]
theorem addK_succ (h v : Nat → Int) (k : Nat) : upd (addK h v k) k ((h k + v k) % 4294967296) = addK h v (k + 1) := by
  funext i
  unfold addK upd
  by_cases h1 : i = k
  · subst h1; rw [if_pos rfl, if_pos (by omega)]
  · rw [if_neg h1]
    by_cases h2 : i < k
    · show (if i < k then _ else _) = _
      rw [if_pos h2, if_pos (by omega)]
    · show (if i < k then _ else _) = _
      rw [if_neg h2, if_neg (by omega)]
/-- a round's second sum -/
def twoF (t : Nat → Int) : Int :=
  bits BinOp.xor IntKind.u32 (bits BinOp.xor IntKind.u32 (rotI (t 0) 30) (rotI (t 0) 19)) (rotI (t 0) 10) +
    bits BinOp.xor IntKind.u32 (bits BinOp.xor IntKind.u32 (bits BinOp.and IntKind.u32 (t 0) (t 1)) (bits BinOp.and IntKind.u32 (t 0) (t 2))) (bits BinOp.and IntKind.u32 (t 1) (t 2))
theorem one_eq (k w : Int) (t : Nat → Int) : ((t 7 + bits BinOp.xor IntKind.u32 (bits BinOp.xor IntKind.u32 (rotI (t 4) 26) (rotI (t 4) 21)) (rotI (t 4) 7) +
      bits BinOp.or IntKind.u32 (bits BinOp.and IntKind.u32 (t 4) (t 5)) (bits BinOp.and IntKind.u32 (bits BinOp.xor IntKind.u32 4294967295 (t 4)) (t 6)) + k) % 4294967296 + w) % 4294967296 = firstF k w t % 4294967296 := by
  rw [choose_bits]
  unfold firstF
  omega
theorem two_eq (t : Nat → Int) : (bits BinOp.xor IntKind.u32 (bits BinOp.xor IntKind.u32 (rotI (t 0) 30) (rotI (t 0) 19)) (rotI (t 0) 10) +
    bits BinOp.or IntKind.u32 (bits BinOp.or IntKind.u32 (bits BinOp.and IntKind.u32 (t 0) (t 1)) (bits BinOp.and IntKind.u32 (t 0) (t 2))) (bits BinOp.and IntKind.u32 (t 1) (t 2))) % 4294967296 = twoF t % 4294967296 := by
  rw [major_bits]
  rfl
theorem row_round (k w : Int) (t : Nat → Int) (one two : Int) (h1 : firstF k w t % 4294967296 = one) (h2 : twoF t % 4294967296 = two) :
    (#[.int .u32 ((one + two) % 4294967296), .int .u32 (t 0), .int .u32 (t 1), .int .u32 (t 2), .int .u32 ((t 3 + one) % 4294967296), .int .u32 (t 4), .int .u32 (t 5), .int .u32 (t 6)] : Array Value) = rowOf .u32 8 (roundF k w t) := by
  have e0 : roundF k w t 0 = (one + two) % 4294967296 := by
    rw [← h1, ← h2]
    unfold twoF
    show (_ % 4294967296 + _) % 4294967296 = _
    omega
  have e4 : roundF k w t 4 = (t 3 + one) % 4294967296 := by rw [← h1]; rfl
  rw [← e0, ← e4]
  rfl
end Go.Proofs.YtabflppnecemkaaGreatDoor
namespace Go.Proofs.YtabflppnecemkaaGreatDoor
set_option linter.unusedVariables false
set_option linter.unusedSimpArgs false
open Go.RowKit
set_option maxRecDepth 100000
/-- the first groups -/
def gtake (n k : Nat) : List Int := (List.range k).map fun i => ((gby n i : Nat) : Int)
theorem gtake_succ (n k : Nat) : gtake n (k + 1) = gtake n k ++ [((gby n k : Nat) : Int)] := by simp [gtake, List.range_succ]
theorem gtake_length (n k : Nat) : (gtake n k).length = k := by simp [gtake]
/-- a call of the reference that answers bs with ys behind it, in an array of its own -/
def RefPost (bs ys : List Int) (w : World) (e : Ending) (w' : World) : Prop :=
  ∃ v', e = .returned v' ∧ w'.ownsRow w.heap.size 5 1 v' (bs ++ ys).length (byteVals (bs ++ ys)) ∧ Below w.heap.size w w'
theorem one_alloc (w : World) (x : Int) : BytesIn (w.alloc (.cells #[.int .u8 x] 5)) (.slice (some ⟨w.heap.size, 0, none⟩) 1 1) [x] := one_in w x
set_option maxHeartbeats 1000000 in
theorem dUint_any (b : Value) (bs : List Int) (n : Nat) (w : World) (hb : BytesIn w b bs) (hn : n < 18446744073709551616) (hl : bs.length + 10 ≤ 140737488355328) :
    Calls Tryz.prog 39 #[b, .int .u64 (n : Int)] w (RefPost bs (varint n) w) := by
  have HY := Lib.hid hb
  have HL := Lib.hid hl
  have HN := Lib.hid hn
  have HG := Lib.hid (glen_le hn)
  obtain ⟨B, hB⟩ : ∃ B, B = w.heap.size := ⟨_, rfl⟩
  unfold RefPost
  rw [← hB]
  have HO0 := Lib.hid (World.ownsRow_nil w B 5 1)
  replace hB := Lib.hid hB
  clear hb hl hn
  go_enter Tryz.func39, Tryz.ntmps39
  go_wp2_with (at_builtin; refine wpList_append_bytes rfl (.tmp 6) (.tmp 7) rfl rfl B _ 0 [] rfl HO0.out b bs rfl HY.out (by have := HL.out; omega) (by rw [hB.out]; exact Nat.le_refl _) ?_; intro v' w1 ho hg _; rw [Nat.zero_add, List.nil_append] at ho; have HO := Lib.hid ho; have HA := Lib.hid (((Below.refl B w).grown hg (by rw [hB.out]; exact Nat.le_refl _) (fun k hk => by cases hk))); clear ho hg)
  go_loopw [1, 5] (fun x v wr => ∃ k : Nat, k < glen n ∧ x = .int .u64 ((n / 128 ^ k : Nat) : Int) ∧ Hid (Below B w wr ∧ wr.ownsRow B 5 1 v (bs.length + k) (byteVals (bs ++ gtake n k)))) (fun x _ _ => (intOf x).toNat)
  case atStart => exact ⟨0, glen_pos n, by simp, HA.out, by simpa [gtake] using HO.out⟩
  case round =>
    clear HA HO HO0
    obtain ⟨k, hk, rfl, H⟩ := hrel
    have HO := Lib.hid H.out.2
    have HA := Lib.hid H.out.1
    clear H
    have hk10 := HG.out
    obtain ⟨m, hm⟩ : ∃ m, m = n / 128 ^ k := ⟨_, rfl⟩
    have hmn : m < 18446744073709551616 := by have := HN.out; have := Nat.div_le_self n (128 ^ k); omega
    have hiff := glen_iff hk
    rw [← hm] at hiff ⊢
    by_cases h : 128 ≤ m
    · have hk1 := hiff.1 h
      have hg1 : m % 128 + 128 = gby n k := by unfold gby; rw [if_pos hk1, ← hm]
      have hgi : (127 : Int) < (m : Int) := by omega
      have hmod : (m : Int).tmod 128 = ((m % 128 : Nat) : Int) := by rw [Int.tmod_eq_emod_of_nonneg (by omega)]; omega
      have hdiv : (m : Int).tdiv 128 = ((m / 128 : Nat) : Int) := by rw [Int.tdiv_eq_ediv_of_nonneg (by omega)]; omega
      have HM := Lib.hid hm
      have HG1 := Lib.hid hg1
      have HK1 := Lib.hid hk1
      clear hm hg1 hiff hk1
      go_wp2_with (at_builtin; refine wpList_append_bytes rfl (.tmp 11) (.tmp 16) rfl rfl B _ (bs.length + k) _ rfl (HO.out.alloc _) _ [(m : Int) % 128 + 128] rfl (one_alloc wr _) (by have := HL.out; simp only [List.length_cons, List.length_nil]; have := HK1.out; omega) (by rw [hB.out, size_alloc]; have := HA.out.size; omega) ?_; intro v' w1 ho hg _; have HO1 := Lib.hid ho; have HA1 := Lib.hid (((HA.out.alloc (by rw [hB.out]; exact HA.out.size) _).grown hg (by rw [hB.out, size_alloc]; have := HA.out.size; omega) (fun k hk => (HO.out.lt k hk).1))); clear ho hg)
      go_roundw
      case rel =>
        refine ⟨k + 1, HK1.out, ?_, HA1.out, ?_⟩
        · rw [div_pow_step, ← HM.out]; rfl
        · have h1 := HO1.out
          rw [← byteVals_append, List.append_assoc, show (m : Int) % 128 + 128 = ((gby n k : Nat) : Int) by rw [← HG1.out]; omega, ← gtake_succ] at h1
          exact h1
      case measure => simp [intOf]; omega
    · have hk1 : k + 1 = glen n := by omega
      have hg1 : m = gby n k := by rw [(gby_last hk1).1]; exact hm
      have hgi : ¬ (127 : Int) < (m : Int) := by omega
      have HG1 := Lib.hid hg1
      have HK1 := Lib.hid hk1
      clear hm hg1 hiff hk1
      go_wp2_with (at_builtin; refine wpList_append_bytes rfl (.tmp 20) (.tmp 23) rfl rfl B _ (bs.length + k) _ rfl (HO.out.alloc _) _ [(m : Int)] rfl (one_alloc wr _) (by have := HL.out; simp only [List.length_cons, List.length_nil]; have := HK1.out; omega) (by rw [hB.out, size_alloc]; have := HA.out.size; omega) ?_; intro v' w1 ho hg _; have HO1 := Lib.hid ho; have HA1 := Lib.hid (((HA.out.alloc (by rw [hB.out]; exact HA.out.size) _).grown hg (by rw [hB.out, size_alloc]; have := HA.out.size; omega) (fun k hk => (HO.out.lt k hk).1))); clear ho hg)
      go_ret
      refine ⟨_, rfl, ?_, HA1.out⟩
      have h1 := HO1.out
      rw [← byteVals_append, List.append_assoc, HG1.out, ← gtake_succ, HK1.out] at h1
      rw [varint_length, ← HK1.out]
      exact h1
theorem wp_append_bytes {w : World} {o : Oper} {a : Act} {K : Act → World → Prop} {Q : Exit → Act → World → Prop} (s x : Operand)
    (ho : o.op = .call { callee := .builtin .append, args := #[s, x], argTypes := #[28, 28] }) (hty : o.type = 28)
    (base : Nat) (v : Value) (n : Nat) (vs : List Value) (hs : a.eval s = v) (hown : w.ownsRow base 5 1 v n vs) (y : Value) (ys : List Int) (hx : a.eval x = y) (hy : BytesIn w y ys) (hl : n + ys.length ≤ 140737488355328) (hb : base ≤ w.heap.size)
    (h : ∀ v' w', w'.ownsRow base 5 1 v' (n + ys.length) (vs ++ byteVals ys) → w.grownBy w' v.ownBlock → OwnOf v v' w → K (a.put o.dst v') w') : o.wp Tryz.prog a w K Q := by
  obtain ⟨v', w', hr, h1, h2, h3⟩ := run_append_bytes w base v n vs hown y ys hy hl hb
  unfold Oper.wp execOp
  simp only [ho, hty, resolve, invoke, builtin, Sem.run_bind, Sem.run_pure, Result.andThen_ok, List.map_toArray, List.map_cons, List.map_nil, hs, hx, hr]
  exact h v' w' h1 h2 h3
set_option maxHeartbeats 1000000 in
theorem dHash_any (b : Value) (bs : List Int) (f : Nat → Int) (w : World) (hb : BytesIn w b bs) (hl : bs.length + 32 ≤ 140737488355328) :
    Calls Tryz.prog 41 #[b, .agg (rowOf .u8 32 f)] w (RefPost bs (rowL 32 f) w) := by
  have HY := Lib.hid (hb.below (below_alloc w (.cells (rowOf .u8 32 f) 62)))
  have HR := RowAt.new w .u8 32 62 f
  have HA := Lib.hid (below_alloc w (.cells (rowOf .u8 32 f) 62))
  have HL := Lib.hid hl
  have HO0 := Lib.hid (World.ownsRow_nil (w.alloc (.cells (rowOf .u8 32 f) 62)) w.heap.size 5 1)
  replace HR := Lib.hid HR
  clear hb hl
  unfold RefPost
  go_enter Tryz.func41, Tryz.ntmps41
  go_upto_region 2 with (fail)
  generalize w.alloc (.cells (rowOf .u8 32 f) 62) = w1 at *
  obtain ⟨w2, hw2⟩ : ∃ w2, w2 = w1.drew := ⟨_, rfl⟩
  replace HY := Lib.hid (show BytesIn w2 b bs by rw [hw2]; exact HY.out)
  replace HR := Lib.hid (show RowAt w2 w.heap.size .u8 32 62 f by rw [hw2]; exact HR.out)
  replace HA := Lib.hid (show Below w.heap.size w w2 by rw [hw2]; exact HA.out.drew)
  replace HO0 := Lib.hid (show w2.ownsRow w.heap.size 5 1 (.slice none 0 0) 0 [] by rw [hw2]; exact HO0.out)
  refine wp_region_any (by kernel_rfl) ?_
  change wpAny _ _ _ _ _ _ _ w1.drew
  rw [← hw2]
  clear hw2
  refine wpAny_take (i := 0) (v := .slice none 0 0) rfl (by kernel_rfl) (by kernel_rfl) (by kernel_rfl) (fun _ _ _ h => h) (Or.inl ⟨by rfl, by intro w; go_simp⟩) ?_
  try simp only [List.getElem_toArray, List.getElem_cons_zero, Act.put, List.setIfInBounds_toArray, List.set_cons_zero, List.set_cons_succ]
  refine wpAny_take (i := 1) (v := b) rfl (by kernel_rfl) (by kernel_rfl) (by kernel_rfl) (fun _ _ _ h => h) (Or.inl ⟨by rfl, by intro w; go_simp⟩) ?_
  try simp only [List.getElem_toArray, List.getElem_cons_succ, List.getElem_cons_zero, Act.put, List.setIfInBounds_toArray, List.set_cons_zero, List.set_cons_succ]
  refine wpAny_take (i := 3) (v := .slice (some ⟨w.heap.size, 0, none⟩) 32 32) rfl (by kernel_rfl) (by kernel_rfl) (by kernel_rfl) (fun _ _ _ h => h) (Or.inl ⟨by rfl, by intro w; go_simp⟩) ?_
  try simp only [List.getElem_toArray, List.getElem_cons_succ, List.getElem_cons_zero, Act.put, List.setIfInBounds_toArray, List.set_cons_zero, List.set_cons_succ]
  refine wpAny_ready (rs := [2]) (by kernel_rfl) (by simp) ?_; refine AllReady.cons rfl (fun K hK => ?_) AllReady.nil; rw [if_pos (by rfl)]
  try simp only [List.getElem_toArray, List.getElem_cons_succ, List.getElem_cons_zero]
  refine wp_append_bytes (.tmp 6) (.tmp 7) rfl rfl w.heap.size _ 0 [] rfl HO0.out b bs rfl HY.out (by have := HL.out; omega) HA.out.size ?_
  intro v3 w3 ho hg hof
  rw [Nat.zero_add, List.nil_append] at ho
  have HA3 := Lib.hid (HA.out.grown hg HA.out.size (fun k hk => by cases hk))
  have HR3 := Lib.hid (show RowAt w3 w.heap.size .u8 32 62 f from (hg.block _ HR.out.lt (by intro h; cases h)).trans HR.out)
  replace ho := Lib.hid ho
  clear hg hof
  refine hK _ _ ?_
  clear hK K
  try simp only [Act.put, List.setIfInBounds_toArray, List.set_cons_zero, List.set_cons_succ]
  refine wpAny_ready (rs := [4]) (by kernel_rfl) (by simp) ?_; refine AllReady.cons rfl (fun K hK => ?_) AllReady.nil; rw [if_pos (by rfl)]
  try simp only [List.getElem_toArray, List.getElem_cons_succ, List.getElem_cons_zero]
  refine wp_append_bytes (.tmp 8) (.tmp 9) rfl rfl w.heap.size _ _ _ rfl ho.out _ (rowL 32 f) rfl (row_in HR3.out (Nat.le_refl _) (Nat.le_refl _) (by simp [maxLen])) (by have := HL.out; simp only [rowL, List.length_map, List.length_range]; omega) HA3.out.size ?_
  intro v4 w4 ho4 hg hof
  have HA4 := Lib.hid (HA3.out.grown hg HA3.out.size (fun k hk => (ho.out.lt k hk).1))
  replace ho4 := Lib.hid ho4
  clear hg hof
  refine hK _ _ ?_
  clear hK K
  try simp only [Act.put, List.setIfInBounds_toArray, List.set_cons_zero, List.set_cons_succ]
  refine wpAny_ready (rs := [5]) (by kernel_rfl) (by simp) ?_; refine AllReady.cons rfl (fun K hK => ?_) AllReady.nil; rw [if_pos (by rfl)]
  try simp only [List.getElem_toArray, List.getElem_cons_succ, List.getElem_cons_zero]
  go_simp
  refine hK _ _ ?_
  clear hK K
  try simp only [List.getElem_toArray, List.getElem_cons_succ, List.getElem_cons_zero, Act.put, List.setIfInBounds_toArray, List.set_cons_zero, List.set_cons_succ]
  refine wpAny_done (by kernel_rfl) ?_ _
  go_wp2_with (fail)
  go_ret
  refine ⟨_, rfl, ?_, HA4.out⟩
  have h1 := ho4.out
  rw [← byteVals_append] at h1
  simpa using h1
#print axioms dHash_any
end Go.Proofs.YtabflppnecemkaaGreatDoor
namespace Go.Proofs.YtabflppnecemkaaGreatDoor
set_option linter.unusedVariables false
set_option linter.unusedSimpArgs false
open Go.RowKit
set_option maxRecDepth 100000
set_option linter.unusedSimpArgs false
set_option linter.unusedVariables false
theorem a7cells_nums (s : ByteArray) : Lib.strCells s = byteVals (numsOf s) := by
  unfold Lib.strCells byteVals numsOf
  rw [List.map_map]
  rfl
theorem a7run_append (w : World) (base : Nat) (v : Value) (n : Nat) (vs : List Value) (hown : w.ownsRow base 5 1 v n vs) (s : ByteArray) (hl : n + s.size ≤ 140737488355328) (hb : base ≤ w.heap.size) :
    ∃ v' w', (Builtin.append_ #[28, 9] 28 #[v, .string s]).run Tryz.prog w = .ok v' w' ∧ w'.ownsRow base 5 1 v' (n + s.size) (vs ++ byteVals (numsOf s)) ∧ w.grownBy w' v.ownBlock := by
  obtain ⟨i0, hi, hz0, hz1, hz2⟩ := info_parts infoU8
  obtain ⟨v', w', h1, h2, h3, _⟩ := Lib.run_append_own_string (P := Tryz.prog) w base 28 9 28 5 i0 Tryz.underlying28 Tryz.underlying9 hi hz0 hz1 hz2 v n vs hown s (by unfold maxLen; omega) hl hb
  rw [a7cells_nums] at h2
  exact ⟨v', w', h1, h2, h3⟩
theorem wpList_append_s7 {w : World} {ops : Array Oper} {rest : List Oper} {o : Oper} {a : Act} {Q : Exit → Act → World → Prop} (hgd : o.guard = none) (s x : Operand)
    (ho : o.op = .call { callee := .builtin .append, args := #[s, x], argTypes := #[28, 9] }) (hty : o.type = 28)
    (base : Nat) (v : Value) (n : Nat) (vs : List Value) (hs : a.eval s = v) (hown : w.ownsRow base 5 1 v n vs) (y : ByteArray) (hx : a.eval x = .string y) (hl : n + y.size ≤ 140737488355328) (hb : base ≤ w.heap.size)
    (h : ∀ v' w', w'.ownsRow base 5 1 v' (n + y.size) (vs ++ byteVals (numsOf y)) → w.grownBy w' v.ownBlock → wpList Tryz.prog ops Q rest (a.put o.dst v') w') : wpList Tryz.prog ops Q (o :: rest) a w := by
  refine wpList_plain hgd fun K hK => ?_
  obtain ⟨v', w', hr, h1, h2⟩ := a7run_append w base v n vs hown y hl hb
  unfold Oper.wp execOp
  simp only [ho, hty, resolve, invoke, builtin, Sem.run_bind, Sem.run_pure, Result.andThen_ok, List.map_toArray, List.map_cons, List.map_nil, hs, hx, hr]
  exact hK _ _ (h v' w' h1 h2)
theorem dUint_m (b : Value) (bs : List Int) (m : Int) (n : Nat) (hm : m = (n : Int)) (w : World) (hb : BytesIn w b bs) (hn : n < 18446744073709551616) (hl : bs.length + 10 ≤ 140737488355328) :
    Calls Tryz.prog 39 #[b, .int .u64 m] w (RefPost bs (varint n) w) := by
  subst hm
  exact dUint_any b bs n w hb hn hl
def BsPost (xs : List Int) (w : World) (e : Ending) (w' : World) : Prop := ∃ v', e = .returned v' ∧ BytesIn w' v' xs ∧ Below w.heap.size w w'
theorem dText_any (b : Value) (bs : List Int) (s : ByteArray) (w : World) (hb : BytesIn w b bs) (hl : bs.length + s.size + 10 ≤ 140737488355328) :
    Calls Tryz.prog 40 #[b, .string s] w (BsPost (bs ++ (varint s.size ++ numsOf s)) w) := by
  have hu : IntKind.u64.wrap (s.size : Int) = (s.size : Int) := IntWalk.u64_in _ (by omega)
  have HU := Lib.hid (dUint_m b bs (IntKind.u64.wrap (s.size : Int)) s.size hu w hb (by omega) (by omega))
  have HU2 := Lib.hid (dUint_m b bs (s.size : Int) s.size rfl w hb (by omega) (by omega))
  have HG := Lib.hid (vlen s.size (by omega))
  have HL := Lib.hid hl
  clear hb hl
  unfold RefPost at HU HU2
  unfold BsPost
  go_enter Tryz.func40, Tryz.ntmps40
  go_wp2_with (first
    | (go_at_call 39; (with_reducible refine HU.out.mono ?_); rintro e w3 ⟨v3, rfl, ho, hb⟩; have HO := Lib.hid ho; have HB := Lib.hid hb; clear ho hb)
    | (go_at_call 39; (with_reducible refine HU2.out.mono ?_); rintro e w3 ⟨v3, rfl, ho, hb⟩; have HO := Lib.hid ho; have HB := Lib.hid hb; clear ho hb)
    | (at_builtin; refine wpList_append_s7 rfl (.tmp 9) (.tmp 10) rfl rfl w.heap.size v3 _ _ rfl HO.out s rfl (by have := HL.out; have := HG.out; rw [List.length_append]; omega) HB.out.size ?_; intro v4 w4 ho hg; have HO4 := Lib.hid ho; have HB4 := Lib.hid (HB.out.grown hg HB.out.size (fun k hk => (HO.out.lt k hk).1)); clear ho hg))
  go_ret
  refine ⟨v4, rfl, ?_, HB4.out⟩
  have h := HO4.out
  rw [← byteVals_append] at h
  have h1 := HL.out
  have h2 := HG.out
  have e1 : (bs ++ varint s.size).length + s.size = (bs ++ (varint s.size ++ numsOf s)).length := by simp only [List.length_append, numsOf_length]; omega
  rw [e1, List.append_assoc] at h
  exact owns_in h (by simp only [List.length_append, numsOf_length]; unfold maxLen; omega)
theorem lit1_in (w : World) (x : Int) : BytesIn (w.alloc (.cells #[.int .u8 x] 5)) (.slice (some ⟨w.heap.size, 0, none⟩) 1 1) [x] :=
  owns_in (xs := [x]) ⟨rfl, .inr ⟨w.heap.size, 1, _, rfl, Nat.le_refl _, heap_alloc_new w _, by simp, by decide, rfl, rfl⟩⟩ (by simp [maxLen])
theorem varint6 : varint 6 = [6] := by simp [varint, glen_small (show 6 < 128 by decide), gby]
theorem varint7 : varint 7 = [7] := by simp [varint, glen_small (show 7 < 128 by decide), gby]
end Go.Proofs.YtabflppnecemkaaGreatDoor
namespace Go.Proofs.YtabflppnecemkaaGreatDoor
set_option linter.unusedVariables false
set_option linter.unusedSimpArgs false
open Go.RowKit
set_option maxRecDepth 100000
theorem dInt_any (b : Value) (bs : List Int) (i : Int) (w : World) (hb : BytesIn w b bs) (h0 : -9223372036854775808 ≤ i) (h1 : i ≤ 9223372036854775807) (hl : bs.length + 10 ≤ 140737488355328) :
    Calls Tryz.prog 42 #[b, .int .i64 i] w (RefPost bs (varint (zig i)) w) := by
  have H := Lib.hid (dUint_any b bs (zig i) w hb (zig_lt h0 h1) hl)
  clear hb hl
  unfold RefPost at *
  by_cases hn : i < 0
  · have e : ((zig i : Nat) : Int) = 2 * (-(i + 1)) + 1 := by unfold zig; rw [if_pos hn]; omega
    rw [e] at H
    go_enter Tryz.func42, Tryz.ntmps42
    go_wp2_with (go_at_call 39; (with_reducible refine H.out.mono ?_); rintro e w1 ⟨v', rfl, ho, hb⟩; replace ho := Lib.hid ho; replace hb := Lib.hid hb)
    go_ret
    exact ⟨_, rfl, ho.out, hb.out⟩
  · have e : ((zig i : Nat) : Int) = 2 * i := by unfold zig; rw [if_neg hn]; omega
    rw [e] at H
    go_enter Tryz.func42, Tryz.ntmps42
    go_wp2_with (go_at_call 39; (with_reducible refine H.out.mono ?_); rintro e w1 ⟨v', rfl, ho, hb⟩; replace ho := Lib.hid ho; replace hb := Lib.hid hb)
    go_ret
    exact ⟨_, rfl, ho.out, hb.out⟩
theorem varint_0 : varint 0 = [0] := by
  have h : glen 0 = 1 := glen_small (by decide)
  unfold varint
  rw [h]
  simp [List.range_succ, gby, h]
theorem varint_1 : varint 1 = [1] := by
  have h : glen 1 = 1 := glen_small (by decide)
  unfold varint
  rw [h]
  simp [List.range_succ, gby, h]
theorem dUint_0 (b : Value) (bs : List Int) (w : World) (hb : BytesIn w b bs) (hl : bs.length + 10 ≤ 140737488355328) : Calls Tryz.prog 39 #[b, .int .u64 0] w (RefPost bs [0] w) := by
  have := dUint_any b bs 0 w hb (by omega) hl
  rw [varint_0] at this; exact this
theorem dUint_1 (b : Value) (bs : List Int) (w : World) (hb : BytesIn w b bs) (hl : bs.length + 10 ≤ 140737488355328) : Calls Tryz.prog 39 #[b, .int .u64 1] w (RefPost bs [1] w) := by
  have := dUint_any b bs 1 w hb (by omega) hl
  rw [varint_1] at this; exact this
theorem dBool_any (b : Value) (bs : List Int) (t : Bool) (w : World) (hb : BytesIn w b bs) (hl : bs.length + 10 ≤ 140737488355328) :
    Calls Tryz.prog 43 #[b, .bool t] w (RefPost bs (truthB t) w) := by
  have H0 := Lib.hid (dUint_0 b bs w hb hl)
  have H1 := Lib.hid (dUint_1 b bs w hb hl)
  clear hb hl
  unfold RefPost at *
  cases t
  · go_enter Tryz.func43, Tryz.ntmps43
    go_wp2_with (go_at_call 39; (with_reducible refine H0.out.mono ?_); rintro e w1 ⟨v', rfl, ho, hb⟩; replace ho := Lib.hid ho; replace hb := Lib.hid hb)
    go_ret
    exact ⟨_, rfl, ho.out, hb.out⟩
  · go_enter Tryz.func43, Tryz.ntmps43
    go_wp2_with (go_at_call 39; (with_reducible refine H1.out.mono ?_); rintro e w1 ⟨v', rfl, ho, hb⟩; replace ho := Lib.hid ho; replace hb := Lib.hid hb)
    go_ret
    exact ⟨_, rfl, ho.out, hb.out⟩
theorem dBytes_any (b y : Value) (bs ys : List Int) (w : World) (hb : BytesIn w b bs) (hy : BytesIn w y ys) (hl : bs.length + ys.length + 10 ≤ 140737488355328) :
    Calls Tryz.prog 45 #[b, y] w (RefPost bs (varint ys.length ++ ys) w) := by
  have hlt : ys.length < 18446744073709551616 := by omega
  have H := Lib.hid (dUint_any b bs ys.length w hb hlt (by omega))
  have HY := Lib.hid hy
  have HL := Lib.hid hl
  have HG := Lib.hid (glen_le hlt)
  obtain ⟨a, c, rfl, _⟩ := hy
  clear hb hl
  unfold RefPost at *
  go_enter Tryz.func45, Tryz.ntmps45
  go_wp2_with (first
    | (go_at_call 39; (with_reducible refine H.out.mono ?_); rintro e w1 ⟨v', rfl, ho, hb⟩; replace ho := Lib.hid ho; replace hb := Lib.hid hb)
    | (at_builtin; refine wpList_append_bytes rfl (.tmp 9) (.tmp 10) rfl rfl w.heap.size _ _ _ rfl ho.out _ ys rfl (HY.out.below hb.out) (by have := HL.out; have := HG.out; rw [List.length_append, varint_length]; omega) hb.out.size ?_; intro v2 w2 ho2 hg _; have HO2 := Lib.hid ho2; have HA2 := Lib.hid (hb.out.grown hg hb.out.size (fun k hk => (ho.out.lt k hk).1)); clear ho2 hg))
  go_ret
  refine ⟨_, rfl, ?_, HA2.out⟩
  have h1 := HO2.out
  rw [← byteVals_append, ← List.length_append] at h1
  rw [← List.append_assoc]
  exact h1
end Go.Proofs.YtabflppnecemkaaGreatDoor
