/- Part 23 of the proof. -/
import Derived.Deep.RegionHeld3
import Derived.Test.YtejglhlodfhgkaaGreatDoorXv20
import Derived.Test.YtejglhlodfhgkaaGreatDoorXv22
namespace Go.Proofs.YtejglhlodfhgkaaGreatDoor
set_option linter.unusedVariables false
set_option linter.unusedSimpArgs false
open Go.RowKit
set_option maxRecDepth 100000
theorem one_in1 (w : World) (x : Int) : BytesIn (w.alloc (.cells #[.int .u8 x] 5)) (.slice (some ⟨w.heap.size, 0, none⟩) 1 1) [x] := by
  refine ⟨_, 1, rfl, by simp, by simp [maxLen], .inr ⟨w.heap.size, 0, rfl, fun i y hi => ?_⟩⟩
  match i, hi with
  | 0, hi =>
    simp at hi
    subst hi
    rw [cell_of_row _ w.heap.size 0 _ _ _ (heap_alloc_new _ _)]
    rfl
  | i + 1, hi => simp at hi
/-- what the sum's own memory holds: the result's row, the constants, the state -/
structure RM (w wr : World) (gk gh : Nat) (h : Nat → Int) : Prop where
  out : RowAt wr w.heap.size .u8 32 53 (fun _ => 0)
  k : RowAt wr gk .u32 64 216 KT
  st : RowAt wr gh .u32 8 217 h
  lt1 : w.heap.size < gk
  lt2 : gk < gh
  below : Below w.heap.size w wr
theorem RM.grows {w wr w2 : World} {gk gh : Nat} {h : Nat → Int} (m : RM w wr gk gh h) (hb : Below (gh + 1) wr w2) : RM w w2 gk gh h :=
  ⟨m.out.below hb (by have := m.lt1; have := m.lt2; omega), m.k.below hb (by have := m.lt2; omega), m.st.below hb (by omega), m.lt1, m.lt2, m.below.trans (hb.mono (by have := m.lt1; have := m.lt2; omega))⟩
theorem RM.start (w w1 w2 : World) (h1 : w1 = w.alloc (.cells (rowOf .u8 32 (fun _ => 0)) 53)) (hb : Below w1.heap.size w1 w2) :
    RM w ((((w2.alloc (.cells (rowOf .u32 64 (fun _ => 0)) 216)).alloc (.cells (rowOf .u32 8 (fun _ => 0)) 217)).setRow w2.heap.size (rowOf .u32 64 KT)).setRow (w2.heap.size + 1) (rowOf .u32 8 BT)) w2.heap.size (w2.heap.size + 1) BT := by
  subst h1
  have hs := hb.size
  rw [shSize_alloc] at hs hb
  have hB2 : Below w2.heap.size w2 ((((w2.alloc (.cells (rowOf .u32 64 (fun _ => 0)) 216)).alloc (.cells (rowOf .u32 8 (fun _ => 0)) 217)).setRow w2.heap.size (rowOf .u32 64 KT)).setRow (w2.heap.size + 1) (rowOf .u32 8 BT)) :=
    below_setRow (below_setRow ((below_alloc w2 _).trans ((below_alloc _ _).mono (by simp))) (Nat.le_refl _) _) (by omega) _
  refine ⟨((RowAt.new w .u8 32 53 (fun _ => 0)).below hb (by omega)).below hB2 (by omega), ?_, ?_, by omega, by omega, ((below_alloc w _).trans (hb.mono (by omega))).trans (hB2.mono (by omega))⟩
  · exact (setRow_other _ _ _ _ (by omega)).trans (setRow_heap _ _ _ _ _ _ ((RowAt.new w2 .u32 64 216 (fun _ => 0)).alloc _))
  · exact setRow_heap _ _ _ _ _ _ ((setRow_other _ _ _ _ (by omega)).trans (heap_alloc2_new w2 _ _))
theorem RM.setH {w wr : World} {gk gh : Nat} {h : Nat → Int} (m : RM w wr gk gh h) (i : Nat) (v : Int) : RM w (wr.setCell ⟨gh, i, none⟩ (.int .u32 v)) gk gh (upd h i v) :=
  ⟨m.out.other _ _ (by have := m.lt1; have := m.lt2; show w.heap.size ≠ gh; omega), m.k.other _ _ (by have := m.lt2; show gk ≠ gh; omega), m.st.set i v, m.lt1, m.lt2, m.below.setCell (by have := m.lt1; have := m.lt2; show w.heap.size ≤ gh; omega) _⟩
theorem RM.congr {w wr : World} {gk gh : Nat} {h h' : Nat → Int} (m : RM w wr gk gh h) (e : ∀ i, i < 8 → h i = h' i) : RM w wr gk gh h' :=
  ⟨m.out, m.k, by have := m.st; unfold RowAt at *; rw [← rowOf_congr _ _ _ _ e]; exact this, m.lt1, m.lt2, m.below⟩
/-- .. and the message, in block g0 -/
structure BM (w wr : World) (gk gh g0 : Nat) (h : Nat → Int) (M : List Int) : Prop where
  m : RM w wr gk gh h
  lt : gh < g0
  sz : g0 < wr.heap.size
  msg : ∀ i, i < M.length → wr.cell? ⟨g0, i, none⟩ = some (.int .u8 (M.getD i 0))
theorem BM.grows {w wr w2 : World} {gk gh g0 : Nat} {h : Nat → Int} {M : List Int} (b : BM w wr gk gh g0 h M) (hb : Below (g0 + 1) wr w2) : BM w w2 gk gh g0 h M :=
  ⟨b.m.grows (hb.mono (by have := b.lt; omega)), b.lt, Nat.lt_of_lt_of_le b.sz hb.size, fun i hi => (hb.cell (p := ⟨g0, i, none⟩) (by show g0 < g0 + 1; omega)).trans (b.msg i hi)⟩
theorem BM.setH {w wr : World} {gk gh g0 : Nat} {h : Nat → Int} {M : List Int} (b : BM w wr gk gh g0 h M) (i : Nat) (v : Int) : BM w (wr.setCell ⟨gh, i, none⟩ (.int .u32 v)) gk gh g0 (upd h i v) M :=
  ⟨b.m.setH i v, b.lt, by have := b.sz; simpa [World.setCell] using this, fun j hj => by
    rw [← b.msg j hj]
    exact World.cell?_of_block (Below.heap_setCell wr ⟨gh, i, none⟩ _ g0 (by show g0 ≠ gh; have := b.lt; omega))⟩
theorem owns_msg {w : World} {base n c : Nat} {a : Option Addr} {M : List Int} (h : w.ownsRow base 5 1 (.slice a n c) n (byteVals M)) (hn : M.length = n) (hp : 0 < n) :
    ∃ g0, base ≤ g0 ∧ a = some ⟨g0, 0, none⟩ ∧ g0 < w.heap.size ∧ ∀ i, i < n → w.cell? ⟨g0, i, none⟩ = some (.int .u8 (M.getD i 0)) := by
  rcases h.2 with ⟨_, h0⟩ | ⟨g, c', cur, hv, hb, hg, hc, hm, hs, ht⟩
  · omega
  · injection hv with e1 e2 e3
    subst e1
    refine ⟨g, hb, rfl, ?_, fun i hi => ?_⟩
    · exact (h.lt g rfl).2
    · have := h.cells (g := g) rfl i (.int .u8 (M.getD i 0)) (by simp [byteVals, List.getElem?_eq_getElem (show i < M.length by omega)])
      rw [Addr.add_mid] at this
      simpa using this
/-- the words after t steps -/
def expT (bl : Nat → Int) (t : Nat) : Nat → Int := if t ≤ 16 then expA bl t else expB bl (t - 16)
theorem expT_lo (bl : Nat → Int) (t : Nat) (h : t < 16) : upd (expT bl t) t (wordB bl t) = expT bl (t + 1) := by
  unfold expT; rw [if_pos (by omega), if_pos (by omega)]; rfl
theorem expT_hi (bl : Nat → Int) (k : Nat) : upd (expT bl (k + 16)) (k + 16) (nextW (expT bl (k + 16)) k) = expT bl (k + 16 + 1) := by
  have e : expT bl (k + 16) = expB bl k := by
    unfold expT
    by_cases h : k = 0
    · subst h; rfl
    · rw [if_neg (by omega), show k + 16 - 16 = k by omega]
  rw [e]
  unfold expT
  rw [if_neg (by omega), show k + 16 + 1 - 16 = k + 1 by omega]
  rfl
theorem expT_end (bl : Nat → Int) : expT bl 64 = expB bl 48 := by unfold expT; rw [if_neg (by omega)]
theorem BM.drew {w wr : World} {gk gh g0 : Nat} {h : Nat → Int} {M : List Int} (b : BM w wr gk gh g0 h M) : BM w wr.drew gk gh g0 h M := b.grows (Below.refl _ _).drew
theorem BM.drewN {w wr : World} {gk gh g0 n : Nat} {h : Nat → Int} {M : List Int} (b : BM w wr gk gh g0 h M) : BM w (wr.drewN n) gk gh g0 h M := b.grows ⟨rfl, rfl, rfl, Nat.le_refl _, fun _ _ => rfl⟩
theorem BM.setW {w wr : World} {gk gh g0 g : Nat} {h : Nat → Int} {M : List Int} (b : BM w wr gk gh g0 h M) (hg : g0 < g) (i : Nat) (v : Value) : BM w (wr.setCell ⟨g, i, none⟩ v) gk gh g0 h M :=
  b.grows ((Below.refl _ _).setCell (by show g0 + 1 ≤ g; omega) _)
theorem rturnS2 (x : Int) (w : World) : Calls Tryz.prog 145 #[.int .u32 x, .int .u64 2] w fun e w' => e = .returned (.int .u32 (rotI x 30)) ∧ w' = w := (rturn2 x w).mono fun _ _ h => ⟨h.1, h.2.symm⟩
theorem rturnS6 (x : Int) (w : World) : Calls Tryz.prog 145 #[.int .u32 x, .int .u64 6] w fun e w' => e = .returned (.int .u32 (rotI x 26)) ∧ w' = w := (rturn6 x w).mono fun _ _ h => ⟨h.1, h.2.symm⟩
theorem rturnS7 (x : Int) (w : World) : Calls Tryz.prog 145 #[.int .u32 x, .int .u64 7] w fun e w' => e = .returned (.int .u32 (rotI x 25)) ∧ w' = w := (rturn7 x w).mono fun _ _ h => ⟨h.1, h.2.symm⟩
theorem rturnS11 (x : Int) (w : World) : Calls Tryz.prog 145 #[.int .u32 x, .int .u64 11] w fun e w' => e = .returned (.int .u32 (rotI x 21)) ∧ w' = w := (rturn11 x w).mono fun _ _ h => ⟨h.1, h.2.symm⟩
theorem rturnS13 (x : Int) (w : World) : Calls Tryz.prog 145 #[.int .u32 x, .int .u64 13] w fun e w' => e = .returned (.int .u32 (rotI x 19)) ∧ w' = w := (rturn13 x w).mono fun _ _ h => ⟨h.1, h.2.symm⟩
theorem rturnS17 (x : Int) (w : World) : Calls Tryz.prog 145 #[.int .u32 x, .int .u64 17] w fun e w' => e = .returned (.int .u32 (rotI x 15)) ∧ w' = w := (rturn17 x w).mono fun _ _ h => ⟨h.1, h.2.symm⟩
theorem rturnS18 (x : Int) (w : World) : Calls Tryz.prog 145 #[.int .u32 x, .int .u64 18] w fun e w' => e = .returned (.int .u32 (rotI x 14)) ∧ w' = w := (rturn18 x w).mono fun _ _ h => ⟨h.1, h.2.symm⟩
theorem rturnS19 (x : Int) (w : World) : Calls Tryz.prog 145 #[.int .u32 x, .int .u64 19] w fun e w' => e = .returned (.int .u32 (rotI x 13)) ∧ w' = w := (rturn19 x w).mono fun _ _ h => ⟨h.1, h.2.symm⟩
theorem rturnS22 (x : Int) (w : World) : Calls Tryz.prog 145 #[.int .u32 x, .int .u64 22] w fun e w' => e = .returned (.int .u32 (rotI x 10)) ∧ w' = w := (rturn22 x w).mono fun _ _ h => ⟨h.1, h.2.symm⟩
theorem rturnS25 (x : Int) (w : World) : Calls Tryz.prog 145 #[.int .u32 x, .int .u64 25] w fun e w' => e = .returned (.int .u32 (rotI x 7)) ∧ w' = w := (rturn25 x w).mono fun _ _ h => ⟨h.1, h.2.symm⟩
theorem rturnQ2 (x : Int) (w : World) (n : Nat) : Calls Tryz.prog 145 #[.int .u32 x, .int .u64 2] (w.drewN n) fun e w'' => e = .returned (.int .u32 (rotI x 30)) ∧ ∃ m, w'' = w.drewN m := Calls.quiet_of_same (rturnS2 x (w.drewN n))
theorem rturnQ6 (x : Int) (w : World) (n : Nat) : Calls Tryz.prog 145 #[.int .u32 x, .int .u64 6] (w.drewN n) fun e w'' => e = .returned (.int .u32 (rotI x 26)) ∧ ∃ m, w'' = w.drewN m := Calls.quiet_of_same (rturnS6 x (w.drewN n))
theorem rturnQ11 (x : Int) (w : World) (n : Nat) : Calls Tryz.prog 145 #[.int .u32 x, .int .u64 11] (w.drewN n) fun e w'' => e = .returned (.int .u32 (rotI x 21)) ∧ ∃ m, w'' = w.drewN m := Calls.quiet_of_same (rturnS11 x (w.drewN n))
theorem rturnQ13 (x : Int) (w : World) (n : Nat) : Calls Tryz.prog 145 #[.int .u32 x, .int .u64 13] (w.drewN n) fun e w'' => e = .returned (.int .u32 (rotI x 19)) ∧ ∃ m, w'' = w.drewN m := Calls.quiet_of_same (rturnS13 x (w.drewN n))
theorem rturnQ22 (x : Int) (w : World) (n : Nat) : Calls Tryz.prog 145 #[.int .u32 x, .int .u64 22] (w.drewN n) fun e w'' => e = .returned (.int .u32 (rotI x 10)) ∧ ∃ m, w'' = w.drewN m := Calls.quiet_of_same (rturnS22 x (w.drewN n))
theorem rturnQ25 (x : Int) (w : World) (n : Nat) : Calls Tryz.prog 145 #[.int .u32 x, .int .u64 25] (w.drewN n) fun e w'' => e = .returned (.int .u32 (rotI x 7)) ∧ ∃ m, w'' = w.drewN m := Calls.quiet_of_same (rturnS25 x (w.drewN n))
theorem nextW_sum (e : Nat → Int) (k0 k1 k2 k3 : Nat) (h1 : k1 = k0 + 1) (h2 : k2 = k0 + 14) (h3 : k3 = k0 + 9) :
    (bits BinOp.xor IntKind.u32 (bits BinOp.xor IntKind.u32 (rotI (e k2) 15) (rotI (e k2) 13)) (e k2 / 1024) + e k3 + bits BinOp.xor IntKind.u32 (bits BinOp.xor IntKind.u32 (rotI (e k1) 25) (rotI (e k1) 14)) (e k1 / 8) + e k0) % 4294967296 = nextW e k0 := by
  subst h1; subst h2; subst h3
  unfold nextW
  congr 1
  omega
/-- the first k words of the state summed -/
def addK (h v : Nat → Int) (k : Nat) : Nat → Int := fun i => if i < k then (h i + v i) % 4294967296 else h i
theorem addK_zero (h v : Nat → Int) : addK h v 0 = h := by funext i; unfold addK; rw [if_neg (by omega)]
theorem addK_at (h v : Nat → Int) (k : Nat) : addK h v k k = h k := by unfold addK; rw [if_neg (by omega)]
theorem addK_succ (h v : Nat → Int) (k : Nat) : upd (addK h v k) k ((h k + v k) % 4294967296) = addK h v (k + 1) := by
  funext i
  unfold addK upd
  by_cases h1 : i = k
  · subst h1; rw [if_pos rfl, if_pos (by omega)]
  · rw [if_neg h1]
    by_cases h2 : i < k
    · show (if i < k then _ else _) = _
      rw [if_pos h2, if_pos (by omega)]
    · show (if i < k then _ else _) = _
      rw [if_neg h2, if_neg (by omega)]
/-- a round's second sum -/
def twoF (t : Nat → Int) : Int :=
  bits BinOp.xor IntKind.u32 (bits BinOp.xor IntKind.u32 (rotI (t 0) 30) (rotI (t 0) 19)) (rotI (t 0) 10) +
    bits BinOp.xor IntKind.u32 (bits BinOp.xor IntKind.u32 (bits BinOp.and IntKind.u32 (t 0) (t 1)) (bits BinOp.and IntKind.u32 (t 0) (t 2))) (bits BinOp.and IntKind.u32 (t 1) (t 2))
theorem one_eq (k w : Int) (t : Nat → Int) : ((t 7 + bits BinOp.xor IntKind.u32 (bits BinOp.xor IntKind.u32 (rotI (t 4) 26) (rotI (t 4) 21)) (rotI (t 4) 7) +
      bits BinOp.or IntKind.u32 (bits BinOp.and IntKind.u32 (t 4) (t 5)) (bits BinOp.and IntKind.u32 (bits BinOp.xor IntKind.u32 4294967295 (t 4)) (t 6)) + k) % 4294967296 + w) % 4294967296 = firstF k w t % 4294967296 := by
  rw [choose_bits]
  unfold firstF
  omega
theorem two_eq (t : Nat → Int) : (bits BinOp.xor IntKind.u32 (bits BinOp.xor IntKind.u32 (rotI (t 0) 30) (rotI (t 0) 19)) (rotI (t 0) 10) +
    bits BinOp.or IntKind.u32 (bits BinOp.or IntKind.u32 (bits BinOp.and IntKind.u32 (t 0) (t 1)) (bits BinOp.and IntKind.u32 (t 0) (t 2))) (bits BinOp.and IntKind.u32 (t 1) (t 2))) % 4294967296 = twoF t % 4294967296 := by
  rw [major_bits]
  rfl
theorem row_round (k w : Int) (t : Nat → Int) (one two : Int) (h1 : firstF k w t % 4294967296 = one) (h2 : twoF t % 4294967296 = two) :
    (#[.int .u32 ((one + two) % 4294967296), .int .u32 (t 0), .int .u32 (t 1), .int .u32 (t 2), .int .u32 ((t 3 + one) % 4294967296), .int .u32 (t 4), .int .u32 (t 5), .int .u32 (t 6)] : Array Value) = rowOf .u32 8 (roundF k w t) := by
  have e0 : roundF k w t 0 = (one + two) % 4294967296 := by
    rw [← h1, ← h2]
    unfold twoF
    show (_ % 4294967296 + _) % 4294967296 = _
    omega
  have e4 : roundF k w t 4 = (t 3 + one) % 4294967296 := by rw [← h1]; rfl
  rw [← e0, ← e4]
  rfl
set_option maxHeartbeats 20000000 in
theorem rsum_any (v : Value) (xs : List Int) (w : World) (hx : BytesIn w v xs) (hl : xs.length + 80 ≤ 140737488355328) :
    Calls Tryz.prog 75 #[v] w fun e w' => e = .returned (.agg (rowOf .u8 32 (sumF xs))) ∧ Below w.heap.size w w' := by
  have HX := Lib.hid hx
  have HL := Lib.hid hl
  obtain ⟨a, c, rfl, hc, hm, hxx⟩ := id hx
  clear hx hl hxx hc hm
  go_enter Tryz.func75, Tryz.ntmps75
  go_upto_region 1 with (fail)
  rw [zeros32]
  have hsz := shSize_alloc w (.cells (rowOf .u8 32 (fun _ => 0)) 53)
  have HS0 := Lib.hid hsz
  clear hsz
  obtain ⟨w1, hw1⟩ : ∃ w1, w1 = w.alloc (.cells (rowOf .u8 32 (fun _ => 0)) 53) := ⟨_, rfl⟩
  rw [← hw1] at HS0 ⊢
  have HW1 := Lib.hid hw1
  clear hw1
  go_upto_region 2 with (first
    | (go_at_call 144; refine (rconsts_any _).mono ?_; rintro e w2 ⟨rfl, HB2⟩; replace HB2 := Lib.hid HB2)
    | (refine wpList_store_row rfl 216 (.tmp 3) (.tmp 25) rfl w2.heap.size (rowOf .u32 64 KT) rfl rfl 216 _ ((RowAt.new w2 .u32 64 216 (fun _ => 0)).alloc _) (by rw [rowOf_size]; kernel_rfl) (by rw [rowOf_size]; rfl) (rowOf_one _ _ _) ?_)
    | (refine wpList_store_row rfl 217 (.tmp 4) (.tmp 26) rfl (w2.heap.size + 1) (rowOf .u32 8 BT) rfl rfl 217 _ ((setRow_other _ _ _ _ (by omega)).trans (heap_alloc2_new w2 _ _)) (by rw [rowOf_size]; kernel_rfl) (by rw [rowOf_size]; rfl) (rowOf_one _ _ _) ?_))
  rw [zeros64, zeros8]
  have M := RM.start w w1 w2 HW1.out HB2.out
  generalize ((((w2.alloc (.cells (rowOf .u32 64 (fun _ => 0)) 216)).alloc (.cells (rowOf .u32 8 (fun _ => 0)) 217)).setRow w2.heap.size (rowOf .u32 64 KT)).setRow (w2.heap.size + 1) (rowOf .u32 8 BT)) = w3 at *
  obtain ⟨gk, hgk⟩ : ∃ gk, gk = w2.heap.size := ⟨_, rfl⟩
  rw [← hgk] at M ⊢
  obtain ⟨gh, hgh⟩ : ∃ gh, gh = gk + 1 := ⟨_, rfl⟩
  rw [← hgh] at M ⊢
  replace HX := Lib.hid (HX.out.below (M.below.mono (Nat.le_refl _)))
  have MS := Lib.hid (show gh + 1 ≤ w3.heap.size from M.st.lt)
  have MR := Lib.hid M
  clear M
  clear HW1 HB2 HS0 hgk hgh w1 w2
  have HO0 := Lib.hid (World.ownsRow_nil w3 (gh + 1) 5 1)
  go_upto_region 4 with (at_builtin; go_loud (first
    | (refine wpList_append_bytes rfl (.tmp 27) (.tmp 28) rfl rfl (gh + 1) _ 0 [] rfl HO0.out (.slice a xs.length c) xs rfl HX.out (by have := HL.out; omega) MS.out ?_; intro v1 w4 ho hg hoo; clear hoo; rw [Nat.zero_add, List.nil_append] at ho; have HO := Lib.hid ho; have HA := Lib.hid ((Below.refl (gh + 1) w3).grown hg MS.out (fun k hk => by cases hk)); clear ho hg)
    | (refine wpList_append_bytes rfl (.tmp 29) (.tmp 30) rfl rfl (gh + 1) _ xs.length _ rfl (HO.out.alloc _) _ [128] rfl (one_in1 w4 _) (by have := HL.out; simp only [List.length_cons, List.length_nil]; omega) (by rw [shSize_alloc]; have := MS.out; have := HA.out.size; omega) ?_; intro v2 w5 ho hg hoo; clear hoo; have HO1 := Lib.hid ho; have HA1 := Lib.hid (((HA.out.alloc (by have := MS.out; have := HA.out.size; omega) _).grown hg (by rw [shSize_alloc]; have := MS.out; have := HA.out.size; omega) (fun k hk => (HO.out.lt k hk).1))); clear ho hg)))
  replace HO1 : Hid (w5.ownsRow (gh + 1) 5 1 v2 (xs.length + 1) (byteVals (xs ++ [128]))) := Lib.hid (by have := HO1.out; rw [← byteVals_append] at this; exact this)
  obtain ⟨z, hz⟩ : ∃ z, z = zN xs.length := ⟨_, rfl⟩
  have HZ := Lib.hid (show (xs.length + 1 + z) % 64 = 56 ∧ (∀ k, k < z → (xs.length + 1 + k) % 64 ≠ 56) ∧ z < 64 by
    subst hz; unfold zN; refine ⟨by omega, fun k hk => by omega, by omega⟩)
  replace hz := Lib.hid hz
  clear HO HA HO0
  go_loopw [5] (fun v wr => ∃ k : Nat, k ≤ z ∧ Hid (Below (gh + 1) w3 wr ∧ wr.ownsRow (gh + 1) 5 1 v (xs.length + 1 + k) (byteVals (xs ++ 128 :: List.replicate k 0)))) (fun v _ => xs.length + 1 + z - lenOfV v)
  case atStart => exact ⟨0, Nat.zero_le _, Lib.hid ⟨HA1.out, HO1.out⟩⟩
  case round =>
    clear HO1 HA1
    obtain ⟨k, hk, H⟩ := hrel
    have HO := Lib.hid H.out.2
    have HA := Lib.hid H.out.1
    clear H
    obtain ⟨a2, c2, rfl⟩ := owns_wide HO.out
    obtain ⟨N, hN⟩ : ∃ N, N = xs.length + 1 + k := ⟨_, rfl⟩
    rw [← hN] at HO ⊢
    obtain ⟨r, hr⟩ : ∃ r, r = N % 64 := ⟨_, rfl⟩
    have hmod : (N : Int).tmod 64 = (r : Int) := by rw [Int.tmod_eq_emod_of_nonneg (by omega)]; omega
    by_cases hlt : k < z
    · have hne : ((r : Int) != 56) = true := by have := HZ.out.2.1 k hlt; rw [← hN, ← hr] at this; simp; omega
      have HN := Lib.hid hN
      have HK := Lib.hid hlt
      clear hN hr hk hlt
      go_wp2_with (at_builtin; go_loud (refine wpList_append_bytes rfl (.tmp 36) (.tmp 37) rfl rfl (gh + 1) _ N _ rfl (HO.out.alloc _) _ [0] rfl (one_in1 wr _) (by have := HL.out; have := HN.out; have := HK.out; have := HZ.out.2.2; simp only [List.length_cons, List.length_nil]; omega) (by rw [shSize_alloc]; have := MS.out; have := HA.out.size; omega) ?_; intro v' w6 ho hg hoo; clear hoo; have HO1 := Lib.hid ho; have HA1 := Lib.hid (((HA.out.alloc (by have := MS.out; have := HA.out.size; omega) _).grown hg (by rw [shSize_alloc]; have := MS.out; have := HA.out.size; omega) (fun k hk => (HO.out.lt k hk).1))); clear ho hg))
      go_roundw
      case rel =>
        refine ⟨k + 1, HK.out, Lib.hid ⟨HA1.out, ?_⟩⟩
        have h1 := HO1.out
        rw [← byteVals_append, List.append_assoc, HN.out] at h1
        rw [List.replicate_succ']
        exact h1
      case measure =>
        obtain ⟨a3, c3, rfl⟩ := owns_wide HO1.out
        have := HN.out; have := HK.out
        simp [lenOfV]; omega
    · have hk : k = z := by omega
      subst hk
      have hne : ((r : Int) != 56) = false := by have := HZ.out.1; rw [← hN, ← hr] at this; simp; omega
      have HN := Lib.hid hN
      clear hN hr hlt
      go_upto_region 7 with (fail)
      have ew : IntKind.u64.wrap (xs.length : Int) = xs.length := IntWalk.u64_in _ (by have := HL.out; omega)
      rw [ew]
      obtain ⟨nb, hnb⟩ : ∃ nb, nb = IntKind.u64.wrap ((xs.length : Int) * 8) := ⟨_, rfl⟩
      rw [← hnb]
      have HNB := Lib.hid (show nb = IntKind.u64.wrap ((xs.length : Int) * 8) ∧ 0 ≤ nb ∧ nb < 18446744073709551616 from ⟨hnb, by rw [hnb, IntKind.wrap_u64]; omega, by rw [hnb, IntKind.wrap_u64]; omega⟩)
      clear hnb ew hne hk
      clear hmod
      obtain ⟨ms, hms⟩ : ∃ ms, ms = xs ++ 128 :: List.replicate k 0 := ⟨_, rfl⟩
      rw [← hms] at HO
      replace hms := Lib.hid hms
      go_wp2_with (fail)
      go_loopw [5, 7] (fun v i wr => ∃ q : Nat, q ≤ 8 ∧ i = .int .i64 (7 - (q : Int)) ∧ Hid (Below (gh + 1) w3 wr ∧ wr.ownsRow (gh + 1) 5 1 v (N + q) (byteVals (ms ++ lenB xs.length q)))) (fun _ i _ => (intOf i + 1).toNat)
      case atStart => exact ⟨0, by omega, rfl, Lib.hid ⟨HA.out, by have := HO.out; simpa [lenB] using this⟩⟩
      case round =>
        clear HO HA
        obtain ⟨q, hq, rfl, H⟩ := hrel
        have HO := Lib.hid H.out.2
        have HA := Lib.hid H.out.1
        clear H
        obtain ⟨a3, c3, rfl⟩ := owns_wide HO.out
        by_cases hlt : q < 8
        · obtain ⟨j, hj⟩ : ∃ j : Nat, j = 7 - q := ⟨_, rfl⟩
          have ej : 7 - (q : Int) = j := by omega
          rw [ej]
          have HJ := Lib.hid (show j = 7 - q ∧ q < 8 from ⟨hj, hlt⟩)
          have hj7 : (j : Int) ≤ 7 := by omega
          clear hj ej hlt hq
          go_wp2_with (at_builtin; go_loud (refine wpList_append_bytes rfl (.tmp 47) (.tmp 54) rfl rfl (gh + 1) _ (N + q) _ rfl (HO.out.alloc _) _ _ rfl (one_in1 _ _) (by have := HL.out; have := HN.out; have := HZ.out.2.2; have := HJ.out; simp only [List.length_cons, List.length_nil]; omega) (by rw [shSize_alloc]; have := MS.out; have := HA.out.size; omega) ?_; intro v' w6 ho hg hoo; clear hoo; have HO1 := Lib.hid ho; have HA1 := Lib.hid (((HA.out.alloc (by have := MS.out; have := HA.out.size; omega) _).grown hg (by rw [shSize_alloc]; have := MS.out; have := HA.out.size; omega) (fun k hk => (HO.out.lt k hk).1))); clear ho hg))
          go_roundw
          case rel =>
            refine ⟨q + 1, by have := HJ.out; omega, by have := HJ.out; congr 1; omega, Lib.hid ⟨HA1.out, ?_⟩⟩
            have h1 := HO1.out
            rw [← byteVals_append, List.append_assoc, HNB.out.1, HJ.out.1, ← lenB_succ] at h1
            exact h1
          case measure => simp [intOf]
        · have hq8 : q = 8 := by omega
          subst hq8
          go_upto_region 11 with (fail)
          generalize 7 - ((8 : Nat) : Int) = i7
          have hml : (ms ++ lenB xs.length 8) = msgL xs := by
            rw [hms.out, hz.out]; unfold msgL padL; simp
          rw [hml] at HO
          obtain ⟨M, hM⟩ : ∃ M, M = msgL xs := ⟨_, rfl⟩
          rw [← hM] at HO
          have hlen : M.length = N + 8 := by
            rw [hM, ← hml, hms.out, HN.out]; simp [lenB_length]; omega
          obtain ⟨g0, hg0, rfl, hgs, hmsg⟩ := owns_msg HO.out hlen (by omega)
          have HM := Lib.hid (show M = msgL xs ∧ M.length % 64 = 0 ∧ M.length < 140737488355328 from ⟨hM, by rw [hM]; exact msgL_length xs, by have := HL.out; have := HN.out; have := HZ.out.2.2; omega⟩)
          have HB0 := Lib.hid (show BM w wr gk gh g0 BT M from ⟨MR.out.grows HA.out, by omega, hgs, fun i hi => hmsg i (by omega)⟩)
          rw [← hlen]
          clear hM hml hlen hmsg HO HA
          go_wp2_with (fail)
          go_loopw [8] (fun i wr => ∃ p : Nat, p ≤ M.length ∧ i = .int .i64 (p : Int) ∧ Hid (p % 64 = 0 ∧ BM w wr gk gh g0 (stF M p) M)) (fun i _ => M.length - (intOf i).toNat)
          case atStart => exact ⟨0, Nat.zero_le _, rfl, Lib.hid ⟨rfl, HB0.out⟩⟩
          case round =>
            clear HB0
            obtain ⟨p, hp, rfl, H⟩ := hrel
            have HB := Lib.hid H.out.2
            have HP := Lib.hid H.out.1
            clear H
            by_cases hlt : p < M.length
            · have HPL := Lib.hid (show p + 64 ≤ M.length by have := HP.out; have := HM.out.2.1; omega)
              have hpl : (p : Int) < (M.length : Int) := by omega
              clear hp hlt
              go_upto_region 15 with (fail)
              clear hpl
              rw [zeros64]
              have HB1 := Lib.hid (HB.out.grows ((below_alloc wr (.cells (rowOf .u32 64 (fun _ => 0)) 216)).mono (by have := HB.out.sz; omega)))
              have HW1 := Lib.hid (RowAt.new wr .u32 64 216 (fun _ => 0))
              obtain ⟨gw, hgw⟩ : ∃ gw, gw = wr.heap.size := ⟨_, rfl⟩
              rw [← hgw] at HW1 ⊢
              have HG := Lib.hid (show g0 < gw by have := HB.out.sz; omega)
              clear hgw HB
              generalize wr.alloc (.cells (rowOf .u32 64 (fun _ => 0)) 216) = w6 at *
              go_wp2_with (fail)
              go_loopw [10] (fun t wr => ∃ k : Nat, k ≤ 64 ∧ t = .int .i64 (k : Int) ∧ Hid (BM w wr gk gh g0 (stF M p) M ∧ RowAt wr gw .u32 64 216 (expT (blkF M p) k))) (fun t _ => 64 - (intOf t).toNat)
              case atStart => exact ⟨0, by omega, rfl, Lib.hid ⟨HB1.out, HW1.out⟩⟩
              case round =>
                clear HB1 HW1
                obtain ⟨t, ht, rfl, H⟩ := hrel
                have HB := Lib.hid H.out.1
                have HW := Lib.hid H.out.2
                clear H
                by_cases hlt : t < 64
                · by_cases h16 : t < 16
                  · obtain ⟨q, hq⟩ : ∃ q : Nat, q = p + 4 * t := ⟨_, rfl⟩
                    have HQ := Lib.hid hq
                    have m0 : IntKind.i64.wrap (4 * (t : Int)) = 4 * t := IntWalk.i64_in _ (by omega)
                    have m1 : IntKind.i64.wrap ((p : Int) + 4 * (t : Int)) = q := by rw [hq]; rw [IntWalk.i64_in _ (by have := HM.out.2.2; have := HPL.out; omega)]; omega
                    clear hq ht
                    go_upto_region 20 with (fail)
                    clear m0 m1
                    have hqM : q + 3 < M.length := by have := HQ.out; have := HPL.out; omega
                    have hcell : ∀ d, d < 4 → wr.cell? ⟨g0, q + d, none⟩ = some (.int .u8 (blkF M p (4 * t + d))) := fun d hd => by
                      rw [HB.out.msg (q + d) (by omega)]; unfold blkF; rw [HQ.out, Nat.add_assoc]
                    have c0 := hcell 0 (by omega)
                    have c1 := hcell 1 (by omega)
                    have c2 := hcell 2 (by omega)
                    have c3' := hcell 3 (by omega)
                    rw [Nat.add_zero, Nat.add_zero] at c0
                    have m1 : IntKind.i64.wrap ((q : Int) + 1) = q + 1 := IntWalk.i64_in _ (by have := HM.out.2.2; omega)
                    have m2 : IntKind.i64.wrap ((q : Int) + 2) = q + 2 := IntWalk.i64_in _ (by have := HM.out.2.2; omega)
                    have m3 : IntKind.i64.wrap ((q : Int) + 3) = q + 3 := IntWalk.i64_in _ (by have := HM.out.2.2; omega)
                    have n1 : ((q : Int) + 1).toNat = q + 1 := by omega
                    have n2 : ((q : Int) + 2).toNat = q + 2 := by omega
                    have n3 : ((q : Int) + 3).toNat = q + 3 := by omega
                    have p1 : 0 ≤ (q : Int) + 1 := by omega
                    have p2 : 0 ≤ (q : Int) + 2 := by omega
                    have p3 : 0 ≤ (q : Int) + 3 := by omega
                    have q0 : (q : Int) < M.length := by omega
                    have q1 : (q : Int) + 1 < M.length := by omega
                    have q2 : (q : Int) + 2 < M.length := by omega
                    have q3 : (q : Int) + 3 < M.length := by omega
                    have q4 : (t : Int) < 64 := by omega
                    clear hcell hqM
                    go_still_tail 31, (by kernel_rfl)
                    change wpList _ _ _ _ _ wr.drew
                    clear m1 m2 m3 n1 n2 n3 p1 p2 p3 q0 q1 q2 q3 q4 c0 c1 c2 c3'
                    have HB2 := Lib.hid HB.out.drew
                    have HW2 := Lib.hid HW.out.drew
                    clear HB HW
                    generalize wr.drew = w7 at *
                    have f0 := HW2.out.free t
                    have c0 := HW2.out.cell t (by omega)
                    go_wp2_with (fail)
                    go_roundw
                    case rel => exact ⟨t + 1, by omega, by go_num, Lib.hid ⟨HB2.out.setW HG.out _ _, by rw [← expT_lo _ _ h16]; exact HW2.out.set t _⟩⟩
                    case measure => simp [intOf]; omega
                  · obtain ⟨k0, hk0⟩ : ∃ k0, k0 = t - 16 := ⟨_, rfl⟩
                    obtain ⟨k1, hk1⟩ : ∃ k1, k1 = t - 15 := ⟨_, rfl⟩
                    obtain ⟨k2, hk2⟩ : ∃ k2, k2 = t - 2 := ⟨_, rfl⟩
                    obtain ⟨k3, hk3⟩ : ∃ k3, k3 = t - 7 := ⟨_, rfl⟩
                    have HK := Lib.hid (show t = k0 + 16 ∧ k1 = k0 + 1 ∧ k2 = k0 + 14 ∧ k3 = k0 + 9 by omega)
                    have e0 : (t : Int) - 16 = k0 := by omega
                    have e1 : (t : Int) - 15 = k1 := by omega
                    have e2 : (t : Int) - 2 = k2 := by omega
                    have e3 : (t : Int) - 7 = k3 := by omega
                    have m0 : IntKind.i64.wrap (k0 : Int) = k0 := IntWalk.i64_in _ (by omega)
                    have m1 : IntKind.i64.wrap (k1 : Int) = k1 := IntWalk.i64_in _ (by omega)
                    have m2 : IntKind.i64.wrap (k2 : Int) = k2 := IntWalk.i64_in _ (by omega)
                    have m3 : IntKind.i64.wrap (k3 : Int) = k3 := IntWalk.i64_in _ (by omega)
                    have q0 : (k0 : Int) < 64 := by omega
                    have q1 : (k1 : Int) < 64 := by omega
                    have q2 : (k2 : Int) < 64 := by omega
                    have q3 : (k3 : Int) < 64 := by omega
                    have q4 : (t : Int) < 64 := by omega
                    have c0 := HW.out.cell k0 (by omega)
                    have c1 := HW.out.cell k1 (by omega)
                    have c2 := HW.out.cell k2 (by omega)
                    have c3 := HW.out.cell k3 (by omega)
                    clear hk0 hk1 hk2 hk3
                    go_upto_region 21 with (fail)
                    go_quiet (fail)
                    go_upto_region 22 with (fail)
                    replace c0 : (wr.drewN nq).cell? ⟨gw, k0, none⟩ = some (.int .u32 (expT (blkF M p) t k0)) := c0
                    replace c3 : (wr.drewN nq).cell? ⟨gw, k3, none⟩ = some (.int .u32 (expT (blkF M p) t k3)) := c3
                    clear c1 c2
                    have HB2 := Lib.hid (HB.out.drewN (n := nq))
                    have HW2 := Lib.hid (show RowAt (wr.drewN nq) gw .u32 64 216 (expT (blkF M p) t) from HW.out)
                    clear HB HW
                    generalize wr.drewN nq = w7 at *
                    refine wp_region_still_tail 29 (by kernel_rfl) (by kernel_rfl) ?_
                    simp only [List.take_succ_cons, List.take_zero, List.drop_succ_cons, List.drop_zero]
                    repeat (refine wpStill_step (fun K hK => ?_); go_simp; first
                      | (refine hK _ ?_; clear hK K)
                      | (refine ⟨_, (by first
                          | with_reducible exact rturnS17 _ _
                          | with_reducible exact rturnS19 _ _
                          | with_reducible exact rturnS7 _ _
                          | with_reducible exact rturnS18 _ _), hK _ ?_⟩; clear hK K))
                    refine wpStill_nil ?_
                    change wpList _ _ _ _ _ w7.drew
                    clear m0 m1 m2 m3 q0 q1 q2 q3 e0 e1 e2 e3 c0 c3
                    have HB := Lib.hid HB2.out.drew
                    have HW := Lib.hid HW2.out.drew
                    clear HB2 HW2
                    generalize w7.drew = w8 at *
                    have f0 := HW.out.free t
                    have c0 := HW.out.cell t (by omega)
                    go_wp2_with (fail)
                    go_roundw
                    case rel =>
                      rw [nextW_sum _ k0 k1 k2 k3 HK.out.2.1 HK.out.2.2.1 HK.out.2.2.2]
                      exact ⟨t + 1, by omega, by go_num, Lib.hid ⟨HB.out.setW HG.out _ _, by have := HW.out.set t (nextW (expT (blkF M p) t) k0); rw [HK.out.1] at this ⊢; rw [← expT_hi]; exact this⟩⟩
                    case measure => simp [intOf]; omega
                · have H64 := Lib.hid (show t = 64 by omega)
                  obtain ⟨E, hE⟩ : ∃ E, E = expB (blkF M p) 48 := ⟨_, rfl⟩
                  replace HW : Hid (RowAt wr gw .u32 64 216 E) := Lib.hid (by have := HW.out; rw [H64.out, expT_end] at this; rw [hE]; exact this)
                  have HE := Lib.hid hE
                  obtain ⟨H0, hH0⟩ : ∃ H0, H0 = stF M p := ⟨_, rfl⟩
                  rw [← hH0] at HB
                  have HH0 := Lib.hid hH0
                  have ht64 : ¬ (t : Int) < 64 := by omega
                  clear hE hH0 ht hlt
                  go_upto_region 24 with (first
                    | (refine wpList_load_row rfl 217 (.tmp 4) rfl gh rfl 217 _ (0, 0) _ HB.out.m.st Tryz.underlying217 rfl (by rw [rowOf_size]; kernel_rfl) ?_)
                    | (refine wpList_store_row rfl 217 (.tmp 14) (.tmp 140) rfl wr.heap.size (rowOf .u32 8 H0) rfl rfl 217 _ (heap_alloc_new _ _) (by rw [rowOf_size]; kernel_rfl) (by rw [rowOf_size]; rfl) (rowOf_one _ _ _) ?_; rw [World.setRow_alloc_new]))
                  clear ht64
                  have HB1 := Lib.hid (HB.out.grows ((below_alloc wr (.cells (rowOf .u32 8 H0) 217)).mono (by have := HB.out.sz; omega)))
                  have HW1 := Lib.hid (HW.out.alloc (.cells (rowOf .u32 8 H0) 217))
                  have HV1 := Lib.hid (RowAt.new wr .u32 8 217 H0)
                  have HG2 := Lib.hid HW.out.lt
                  obtain ⟨gv, hgv⟩ : ∃ gv, gv = wr.heap.size := ⟨_, rfl⟩
                  rw [← hgv] at HV1 HG2 ⊢
                  clear hgv HB HW
                  generalize wr.alloc (.cells (rowOf .u32 8 H0) 217) = w7 at *
                  go_wp2_with (fail)
                  go_loopw [15] (fun t wr => ∃ k : Nat, k ≤ 64 ∧ t = .int .i64 (k : Int) ∧ Hid (BM w wr gk gh g0 H0 M ∧ RowAt wr gw .u32 64 216 E ∧ RowAt wr gv .u32 8 217 (rnd E H0 k))) (fun t _ => 64 - (intOf t).toNat)
                  case atStart => exact ⟨0, by omega, rfl, Lib.hid ⟨HB1.out, HW1.out, HV1.out⟩⟩
                  case round =>
                    clear HB1 HW1 HV1
                    obtain ⟨s, hs, rfl, H⟩ := hrel
                    have HB := Lib.hid H.out.1
                    have HW := Lib.hid H.out.2.1
                    have HV := Lib.hid H.out.2.2
                    clear H
                    by_cases hlt : s < 64
                    · obtain ⟨V, hV⟩ : ∃ V, V = rnd E H0 s := ⟨_, rfl⟩
                      rw [← hV] at HV
                      have HVE := Lib.hid hV
                      clear hV hs
                      have v0 := HV.out.cell 0 (by omega)
                      have v1' := HV.out.cell 1 (by omega)
                      have v2' := HV.out.cell 2 (by omega)
                      have v3 := HV.out.cell 3 (by omega)
                      have v4 := HV.out.cell 4 (by omega)
                      have v5 := HV.out.cell 5 (by omega)
                      have v6 := HV.out.cell 6 (by omega)
                      have v7 := HV.out.cell 7 (by omega)
                      have ek := HW.out.cell s hlt
                      have kk := HB.out.m.k.cell s hlt
                      have q4 : (s : Int) < 64 := by omega
                      go_upto_region 27 with (fail)
                      go_quiet (fail)
                      go_upto_region 28 with (fail)
                      have HB2 := Lib.hid (HB.out.drewN (n := nq))
                      have HW2 := Lib.hid (show RowAt (wr.drewN nq) gw .u32 64 216 E from HW.out)
                      have HV2 := Lib.hid (show RowAt (wr.drewN nq) gv .u32 8 217 V from HV.out)
                      clear HB HW HV v0 v1' v2' v3 v4 v5 v6 v7 ek kk
                      generalize wr.drewN nq = w8 at *
                      have v5 := HV2.out.cell 5 (by omega)
                      have v6 := HV2.out.cell 6 (by omega)
                      have v7 := HV2.out.cell 7 (by omega)
                      have ek := HW2.out.cell s hlt
                      have kk := HB2.out.m.k.cell s hlt
                      go_quiet (first
                        | with_reducible exact rturnQ6 _ _ _
                        | with_reducible exact rturnQ11 _ _ _
                        | with_reducible exact rturnQ25 _ _ _)
                      go_upto_region 29 with (fail)
                      have HB3 := Lib.hid (HB2.out.drewN (n := nq))
                      have HW3 := Lib.hid (show RowAt (w8.drewN nq) gw .u32 64 216 E from HW2.out)
                      have HV3 := Lib.hid (show RowAt (w8.drewN nq) gv .u32 8 217 V from HV2.out)
                      clear HB2 HW2 HV2 v5 v6 v7 ek kk
                      generalize w8.drewN nq = w9 at *
                      have v1' := HV3.out.cell 1 (by omega)
                      have v2' := HV3.out.cell 2 (by omega)
                      go_quiet (first
                        | with_reducible exact rturnQ2 _ _ _
                        | with_reducible exact rturnQ13 _ _ _
                        | with_reducible exact rturnQ22 _ _ _)
                      go_upto_region 30 with (fail)
                      rw [one_eq (KT s) (E s) V, two_eq V]
                      obtain ⟨one, h1⟩ : ∃ one, firstF (KT s) (E s) V % 4294967296 = one := ⟨_, rfl⟩
                      obtain ⟨two, h2⟩ : ∃ two, twoF V % 4294967296 = two := ⟨_, rfl⟩
                      rw [h1, h2]
                      have HR := Lib.hid (row_round (KT s) (E s) V one two h1 h2)
                      have HB4 := Lib.hid (HB3.out.drewN (n := nq))
                      have HW4 := Lib.hid (show RowAt (w9.drewN nq) gw .u32 64 216 E from HW3.out)
                      have HV4 := Lib.hid (show RowAt (w9.drewN nq) gv .u32 8 217 V from HV3.out)
                      clear HB3 HW3 HV3 v1' v2' h1 h2
                      generalize w9.drewN nq = w10 at *
                      have v0 := HV4.out.cell 0 (by omega)
                      have v1' := HV4.out.cell 1 (by omega)
                      have v2' := HV4.out.cell 2 (by omega)
                      have v3 := HV4.out.cell 3 (by omega)
                      have v4 := HV4.out.cell 4 (by omega)
                      have v5 := HV4.out.cell 5 (by omega)
                      have v6 := HV4.out.cell 6 (by omega)
                      go_wp2_with (refine wpList_store_row rfl 217 (.tmp 14) (.tmp 222) rfl gv #[.int .u32 ((one + two) % 4294967296), .int .u32 (V 0), .int .u32 (V 1), .int .u32 (V 2), .int .u32 ((V 3 + one) % 4294967296), .int .u32 (V 4), .int .u32 (V 5), .int .u32 (V 6)] rfl rfl 217 _ HV4.out (by kernel_rfl) (by rw [rowOf_size]; rfl) (by simp [Value.oneCell']) ?_)
                      go_roundw
                      case rel =>
                        refine ⟨s + 1, by omega, by go_num, Lib.hid ⟨HB4.out.grows (below_setRow (Below.refl _ _) (by have := HG.out; have := HG2.out; omega) _), (setRow_other _ _ _ _ (by have := HG2.out; omega)).trans HW4.out, ?_⟩⟩
                        show RowAt _ gv .u32 8 217 (roundF (KT s) (E s) (rnd E H0 s))
                        rw [← HVE.out, HR.out]
                        exact setRow_heap _ _ _ _ _ _ HV4.out
                      case measure => simp [intOf]; omega
                    · have HS64 := Lib.hid (show s = 64 by omega)
                      obtain ⟨V, hV⟩ : ∃ V, V = rnd E H0 s := ⟨_, rfl⟩
                      rw [← hV] at HV
                      have HVE := Lib.hid hV
                      have hs64 : ¬ (s : Int) < 64 := by omega
                      clear hV hs hlt
                      go_upto_region 31 with (fail)
                      clear hs64 HW
                      go_wp2_with (fail)
                      go_loopw [20] (fun i wr => ∃ k : Nat, k ≤ 8 ∧ i = .int .i64 (k : Int) ∧ Hid (BM w wr gk gh g0 (addK H0 V k) M ∧ RowAt wr gv .u32 8 217 V)) (fun i _ => 8 - (intOf i).toNat)
                      case atStart => exact ⟨0, by omega, rfl, Lib.hid ⟨by rw [addK_zero]; exact HB.out, HV.out⟩⟩
                      case round =>
                        clear HB HV
                        obtain ⟨j, hj, rfl, H⟩ := hrel
                        have HB := Lib.hid H.out.1
                        have HV := Lib.hid H.out.2
                        clear H
                        by_cases hlt : j < 8
                        · have cv := HV.out.cell j hlt
                          have ch := HB.out.m.st.cell j hlt
                          rw [addK_at] at ch
                          have q4 : (j : Int) < 8 := by omega
                          go_upto_region 34 with (fail)
                          go_still_tail 9, (by kernel_rfl)
                          change wpList _ _ _ _ _ wr.drew
                          have HB2 := Lib.hid HB.out.drew
                          have HV2 := Lib.hid HV.out.drew
                          clear HB HV cv ch q4
                          generalize wr.drew = w11 at *
                          have f0 := HB2.out.m.st.free j
                          have c0 := HB2.out.m.st.cell j hlt
                          go_wp2_with (fail)
                          go_roundw
                          case rel =>
                            exact ⟨j + 1, by omega, by go_num, Lib.hid ⟨by rw [← addK_succ]; exact HB2.out.setH j _, HV2.out.other _ _ (by have := HG.out; have := HG2.out; have := HB2.out.lt; show gv ≠ gh; omega)⟩⟩
                          case measure => simp [intOf]; omega
                        · have HJ8 := Lib.hid (show j = 8 by omega)
                          have hj8 : ¬ (j : Int) < 8 := by omega
                          have m64 : IntKind.i64.wrap ((p : Int) + 64) = p + 64 := IntWalk.i64_in _ (by have := HM.out.2.2; have := HPL.out; omega)
                          clear hj hlt
                          go_wp2_with (fail)
                          go_roundw
                          case rel =>
                            refine ⟨p + 64, HPL.out, by go_num, Lib.hid ⟨by have := HP.out; omega, ?_⟩⟩
                            have hb := HB.out
                            rw [HJ8.out] at hb
                            refine ⟨hb.m.congr fun i hi => ?_, hb.lt, hb.sz, hb.msg⟩
                            rw [stF_next M p HP.out HPL.out (by have := HM.out.2.2; omega), ← HH0.out]
                            unfold addK mixF addF
                            rw [if_pos hi, HVE.out, HS64.out, HE.out]
                          case measure => simp [intOf]; have := HPL.out; omega
            · have hpe : p = M.length := by omega
              obtain ⟨Hs, hH⟩ : ∃ Hs, Hs = stF M p := ⟨_, rfl⟩
              have HSUM := Lib.hid (show sumF xs = outF Hs by rw [hH, hpe, stF_all, HM.out.1]; exact sum_msg xs (by have := HL.out; omega))
              rw [← hH] at HB
              have hpl : ¬ (p : Int) < (M.length : Int) := by omega
              clear hH hpe hp hlt
              go_upto_region 36 with (fail)
              clear hpl
              rw [zeros32]
              have HA1 := below_alloc wr (.cells (rowOf .u8 32 (fun _ => 0)) 53)
              have HO1 := Lib.hid (show RowAt (wr.alloc (.cells (rowOf .u8 32 (fun _ => 0)) 53)) wr.heap.size .u8 32 53 (outK Hs 0) from RowAt.new wr .u8 32 53 (fun _ => 0))
              have HGO := Lib.hid HB.out.sz
              have HB1 := Lib.hid (HB.out.grows (HA1.mono (by have := HB.out.sz; omega)))
              clear HA1 HB
              generalize wr.heap.size = go at *
              generalize wr.alloc (.cells (rowOf .u8 32 (fun _ => 0)) 53) = wa at *
              go_wp2_with (fail)
              go_loopw [22] (fun i wr => ∃ k : Nat, k ≤ 32 ∧ i = .int .i64 (k : Int) ∧ Hid (BM w wr gk gh g0 Hs M ∧ RowAt wr go .u8 32 53 (outK Hs k))) (fun i _ => 32 - (intOf i).toNat)
              case atStart => exact ⟨0, by omega, rfl, Lib.hid ⟨HB1.out, HO1.out⟩⟩
              case round =>
                clear HB1 HO1
                obtain ⟨k, hk, rfl, H⟩ := hrel
                by_cases hlt : k < 32
                · have HK := Lib.hid (show k = 4 * (k / 4) + k % 4 by omega)
                  have c0 := H.out.1.m.st.cell (k / 4) (by omega)
                  have c1 := H.out.2.cell k hlt
                  have f1 := H.out.2.free k
                  have n0 : ((k : Int) / 4).toNat = k / 4 := by omega
                  have n1 : (24 - 8 * ((k : Int) % 4)).toNat = 24 - 8 * (k % 4) := by omega
                  have p0 : 0 ≤ (k : Int) / 4 := by omega
                  have p1 : (k : Int) / 4 < 8 := by omega
                  have p2 : 0 ≤ (k : Int) % 4 := by omega
                  have p3 : (k : Int) % 4 ≤ 3 := by omega
                  have p4 : 0 ≤ 24 - 8 * ((k : Int) % 4) := by omega
                  go_wp2_with (fail)
                  go_roundw
                  case rel =>
                    refine ⟨k + 1, by omega, by go_num, Lib.hid ⟨H.out.1.setW HGO.out k _, ?_⟩⟩
                    have h1 := H.out.2.set k (Hs (k / 4) / 2 ^ (24 - 8 * (k % 4)) % 256)
                    have h2 := outK_succ Hs (k / 4) (k % 4) (by omega)
                    rw [← HK.out] at h2
                    rw [h2] at h1
                    exact h1
                  case measure => simp [intOf]; omega
                · have H32 := Lib.hid (show k = 32 by omega)
                  rw [H32.out] at H
                  have hk32 : ¬ (k : Int) < 32 := by omega
                  clear hk hlt
                  go_wp2_with (first
                    | (refine wpList_load_row rfl 53 (.tmp 21) rfl go rfl 53 _ (0, 0) _ H.out.2 Tryz.underlying53 rfl (by rw [rowOf_size]; kernel_rfl) ?_)
                    | (refine wpList_store_row rfl 53 (.tmp 2) (.tmp 253) rfl w.heap.size _ rfl rfl 53 _ H.out.1.m.out (by rw [rowOf_size]; kernel_rfl) (by rw [rowOf_size, rowOf_size]) (rowOf_one _ _ _) ?_))
                  refine bodyPost_ret (results_cell_row rfl _ _ w.heap.size 53 (rowOf .u8 32 (outK Hs 32)) (0, 0) _ rfl (setRow_heap _ _ _ _ _ _ H.out.1.m.out) Tryz.underlying53 rfl (by rw [rowOf_size]; kernel_rfl)) rfl ?_
                  refine ⟨?_, below_setRow H.out.1.m.below (Nat.le_refl _) _⟩
                  rw [rowOf_congr .u8 32 (outK Hs 32) (outF Hs) (fun i hi => by unfold outK; rw [if_pos hi]), HSUM.out]
end Go.Proofs.YtejglhlodfhgkaaGreatDoor
namespace Go.Proofs.YtejglhlodfhgkaaGreatDoor
set_option linter.unusedVariables false
set_option linter.unusedSimpArgs false
open Go.RowKit
set_option maxRecDepth 100000
set_option linter.unusedSimpArgs false
set_option linter.unusedVariables false
theorem pre_iff (s : ByteArray) (h : 4 ≤ s.size) : hasPre s = decide (s.extract 0 4 = { data := #[105, 98, 99, 47] }) := by
  rw [Bool.eq_iff_iff, decide_eq_true_eq]
  unfold hasPre Lib.hasPrefix
  rw [List.isPrefixOf_iff_prefix, List.prefix_iff_eq_take]
  constructor
  · intro e
    exact bytes_ext14 (by rw [ext_data14, List.drop_zero]; exact e.symm)
  · intro e
    have := congrArg (fun b : ByteArray => b.data.toList) e
    simp only [ext_data14, List.drop_zero] at this
    exact this.symm
theorem rest_eq (s : ByteArray) (h : hasPre s = true) : restS s = s.extract 4 s.size := bytes_ext14 (by
  unfold restS Lib.trimPrefix
  rw [if_pos (show Lib.hasPrefix s.data.toList [105, 98, 99, 47] = true from h), ext_data14, ← size14, List.take_length]
  rfl)
theorem vou_size {s : ByteArray} (h : vouB s = true) : s.size = 68 ∧ hasPre s = true := by
  unfold vouB at h
  rw [Bool.and_eq_true] at h
  refine ⟨?_, h.1⟩
  have h2 := h.2
  unfold parR at h2
  split at h2
  · rename_i h3
    rw [numsOf_length, rest_eq s h.1, ByteArray.size_extract] at h3
    omega
  · simp at h2
set_option maxHeartbeats 4000000 in
theorem rcheck14_any (s : ByteArray) (w : World) (hs : s.size ≤ 140737488355328) : Calls Tryz.prog 62 #[.string s] w fun e w' => e = .returned (.int .i64 (numE (chkD s))) ∧ Below w.heap.size w w' := by
  have HBS := Lib.hid (fun w => rbase_any s w (by omega))
  unfold chkD
  cases hb : baseB s with
  | true =>
    rw [hb] at HBS
    rw [Bool.true_or, if_pos rfl]
    simp only [numE]
    clear hb
    go_enter Tryz.func62, Tryz.ntmps62
    go_wp2_with (go_at_call 131; (with_reducible refine (HBS.out _).mono ?_); rintro e w2 ⟨rfl, rfl⟩)
    go_ret
    exact ⟨rfl, Below.refl _ _⟩
  | false =>
    rw [hb] at HBS
    rw [Bool.false_or]
    clear hb
    by_cases h68 : s.size = 68
    · have h68I : (s.size : Int) = 68 := by omega
      have c1 : (4 : Int) ≤ (s.size : Int) := by omega
      have c2 : (s.size : Int) ≤ (s.size : Int) := by omega
      have hp := pre_iff s (by omega)
      by_cases hpre : s.extract 0 4 = { data := #[105, 98, 99, 47] }
      · rw [decide_eq_true hpre] at hp
        have hrs : restS s = s.extract 4 68 := by rw [rest_eq s hp, h68]
        have hv : vouB s = (parR (numsOf (s.extract 4 68))).2.isNone := by unfold vouB; rw [hp, Bool.true_and, hrs]
        have HPR := Lib.hid (fun w => rparse_any (s.extract 4 68) w (by rw [ByteArray.size_extract]; unfold maxLen; omega))
        have k1 : ((s.extract 0 4).toList == [105, 98, 99, 47]) = true := by rw [hpre]; decide +kernel
        rw [hv]
        obtain ⟨G, hG⟩ : ∃ g, g = (parR (numsOf (s.extract 4 68))).2 := ⟨_, rfl⟩
        obtain ⟨H, hH⟩ : ∃ g, g = (parR (numsOf (s.extract 4 68))).1 := ⟨_, rfl⟩
        rw [← hG]
        rw [← hG, ← hH] at HPR
        have HG := Lib.hid (show G = none ∨ G = some 3 from by rw [hG]; unfold parR; split; exact .inl rfl; exact .inr rfl)
        clear hp hrs hv hG hH hpre
        have hgr := HG.out
        clear HG
        rcases hgr with rfl | rfl
        all_goals
          simp only [numE] at HPR
          go_enter Tryz.func62, Tryz.ntmps62
          go_wp2_with (first
            | (go_at_call 131; (with_reducible refine (HBS.out _).mono ?_); rintro e w2 ⟨rfl, rfl⟩)
            | (go_at_call 132; (with_reducible refine (HPR.out _).mono ?_); rintro e w3 ⟨rfl, hb⟩; have HB := Lib.hid hb; clear hb)
            | (refine wpList_store_row rfl 53 (.tmp 3) (.tmp 19) rfl w3.heap.size (rowOf .u8 32 H) rfl rfl 53 _ (heap_alloc_new _ _) (by rw [rowOf_size]; kernel_rfl) (by rw [rowOf_size]; kernel_rfl) (rowOf_one _ _ _) ?_; rw [World.setRow_alloc_new]))
          go_ret
          first | exact ⟨rfl, HB.out.alloc HB.out.size _⟩ | exact ⟨rfl, HB.out⟩
      · rw [decide_eq_false hpre] at hp
        have hv : vouB s = false := by unfold vouB; rw [hp, Bool.false_and]
        have k1 : ((s.extract 0 4).toList == [105, 98, 99, 47]) = false := by
          have h2 := beq14 (s.extract 0 4) { data := #[105, 98, 99, 47] }
          rw [decide_eq_false hpre, show ({ data := #[105, 98, 99, 47] } : ByteArray).toList = [105, 98, 99, 47] from by decide +kernel] at h2
          exact h2
        rw [hv]
        clear hp hv hpre
        go_enter Tryz.func62, Tryz.ntmps62
        go_wp2_with (go_at_call 131; (with_reducible refine (HBS.out _).mono ?_); rintro e w2 ⟨rfl, rfl⟩)
        go_ret
        exact ⟨rfl, Below.refl _ _⟩
    · have h68I : ¬ (s.size : Int) = 68 := by omega
      have hv : vouB s = false := by
        cases h : vouB s with
        | false => rfl
        | true => exact absurd (vou_size h).1 h68
      rw [hv]
      clear hv
      go_enter Tryz.func62, Tryz.ntmps62
      go_wp2_with (go_at_call 131; (with_reducible refine (HBS.out _).mono ?_); rintro e w2 ⟨rfl, rfl⟩)
      go_ret
      exact ⟨rfl, Below.refl _ _⟩
end Go.Proofs.YtejglhlodfhgkaaGreatDoor
