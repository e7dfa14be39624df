/- The document's answer: Scan. -/
import Derived.Test.YtfdjmfomccckaaaDoorRef3Q
import Derived.Test.YtfdjmfomccckaaaDoorScan
namespace Go.Proofs.YtfdjmfomccckaaaDoor
open Go.RowKit
set_option maxRecDepth 100000
structure RScanSt (y : Value) (b : List Int) (w : World) (v : Value) (k : Nat) (f : Nat) (vs : List Value) (ps : List (List Int)) (wr : World) : Prop where
  fuel : b.length - k ≤ f
  le : k ≤ b.length
  eq : scanF b = (ps ++ (scanG f (b.drop k)).1, k + (scanG f (b.drop k)).2.1, (scanG f (b.drop k)).2.2)
  own : wr.ownsRow w.heap.size 22 1 v vs.length vs
  lists : vs.length = ps.length ∧ ∀ (i : Nat) (u : Value) (p : List Int), vs[i]? = some u → ps[i]? = some p → ∀ W, BytesIn W y b → BytesIn W u p
  few : vs.length ≤ k
  below : Below w.heap.size w wr
def RScanAt (y : Value) (b : List Int) (w : World) (v : Value) (k : Nat) (wr : World) : Prop := ∃ f vs ps, RScanSt y b w v k f vs ps wr
/-- an error's number, or 0 -/
def numN : Option Nat → Nat
  | none => 0
  | some k => k
def RScanPost (y : Value) (b : List Int) (w : World) (e : Ending) (w' : World) : Prop :=
  ∃ v vs, e = .returned (.tuple #[v, .int .i64 (((scanF b).2.1 : Nat) : Int), .int .i64 ((numN (scanF b).2.2 : Nat) : Int)]) ∧ w'.ownsRow w.heap.size 22 1 v vs.length vs ∧
    (vs.length = (scanF b).1.length ∧ ∀ (i : Nat) (u : Value) (p : List Int), vs[i]? = some u → (scanF b).1[i]? = some p → ∀ W, BytesIn W y b → BytesIn W u p) ∧ Below w.heap.size w w'
theorem RScanAt.stop {y : Value} {b : List Int} {w wr w' : World} {v : Value} {k : Nat} {x : Nat} (h : RScanAt y b w v k wr) (hx : oneF (b.drop k) = (some x, [])) (hb : Below wr.heap.size wr w') :
    RScanPost y b w (.returned (.tuple #[v, .int .i64 (k : Int), .int .i64 ((if x = 8 then 0 else x : Nat) : Int)])) w' := by
  obtain ⟨f, vs, ps, h⟩ := h
  have hg : scanG f (b.drop k) = ([], 0, if x = 8 then none else some x) := by
    cases f with
    | zero =>
      have h0 : (b.drop k).length = 0 := by rw [List.length_drop]; have := h.fuel; omega
      rcases oneF_cases (b.drop k) with ⟨z, hy, h8, _⟩ | ⟨p, hp, hl, _⟩
      · rw [hx] at hy
        obtain rfl : x = z := by simpa using hy
        rw [if_pos (h8.2 h0)]; rfl
      · omega
    | succ f => simp only [scanG, hx]
  have he := h.eq
  rw [hg] at he
  simp only [List.append_nil, Nat.add_zero] at he
  refine ⟨v, vs, ?_, kept_below h.own hb, ?_, h.below.trans (hb.mono h.below.size)⟩
  · rw [he]
    show _ = Ending.returned (.tuple #[v, .int .i64 (k : Int), .int .i64 ((numN (if x = 8 then none else some x) : Nat) : Int)])
    by_cases h8 : x = 8
    · rw [if_pos h8, if_pos h8]; rfl
    · rw [if_neg h8, if_neg h8]; rfl
  · rw [he]; exact h.lists
theorem RScanAt.next {b : List Int} {w wr w1 w2 w3 : World} {v y0 y v' : Value} {k : Nat} {p : List Int} {vs : List Value} {f : Nat} {ps : List (List Int)} (h : RScanSt y0 b w v k f vs ps wr) (hx : oneF (b.drop k) = (none, p)) (hb : Below wr.heap.size wr w1) (hy : ∀ W, BytesIn W y0 b → BytesIn W y p)
    (hb2 : Below w1.heap.size w1 w2) (hg : w2.grownBy w3 v.ownBlock) (ho : w3.ownsRow w.heap.size 22 1 v' (vs ++ [y]).length (vs ++ [y])) : RScanAt y0 b w v' (k + (p.length + 12)) w3 := by
  obtain ⟨hl12, hl0, hlm⟩ : p.length + 12 ≤ (b.drop k).length ∧ 0 < p.length ∧ p.length ≤ 1048576 := by
    rcases oneF_cases (b.drop k) with ⟨x, h1, _⟩ | ⟨q, h1, h2⟩
    · rw [hx] at h1; simp at h1
    · rw [hx] at h1
      obtain rfl : p = q := by simpa using h1
      exact h2
  rw [List.length_drop] at hl12
  have hfu := h.fuel
  obtain ⟨f, rfl⟩ : ∃ g, f = g + 1 := ⟨f - 1, by omega⟩
  have he := h.eq
  have hs : scanG (f + 1) (b.drop k) = (p :: (scanG f (b.drop (k + (p.length + 12)))).1, p.length + 12 + (scanG f (b.drop (k + (p.length + 12)))).2.1, (scanG f (b.drop (k + (p.length + 12)))).2.2) := by
    simp only [scanG, hx, List.drop_drop]
  rw [hs] at he
  have hw12 : Below wr.heap.size wr w2 := hb.trans (hb2.mono hb.size)
  refine ⟨f, vs ++ [y], ps ++ [p], by omega, by omega, ?_, ho, ⟨by simp [h.lists.1], fun i u q hu hq => ?_⟩, by have := h.few; simp; omega, (h.below.trans (hw12.mono h.below.size)).grown hg (Nat.le_trans h.below.size hw12.size) (fun j hj => (h.own.lt j hj).1)⟩
  · rw [he]
    refine Prod.ext (by simp) (Prod.ext ?_ rfl)
    show k + (p.length + 12 + _) = k + (p.length + 12) + _
    omega
  · rcases Nat.lt_or_ge i vs.length with hi | hi
    · rw [List.getElem?_append_left hi] at hu
      rw [List.getElem?_append_left (by rw [← h.lists.1]; exact hi)] at hq
      exact h.lists.2 i u q hu hq
    · rw [List.getElem?_append_right hi] at hu
      rw [List.getElem?_append_right (by rw [← h.lists.1]; exact hi), ← h.lists.1] at hq
      rcases Nat.eq_zero_or_pos (i - vs.length) with e | e
      · rw [e] at hu hq
        obtain rfl : y = u := by simpa using hu
        obtain rfl : p = q := by simpa using hq
        exact hy
      · rw [List.getElem?_eq_none (by simp; omega)] at hu; cases hu
theorem rone_bad (x : Nat) (y : Value) (b : List Int) (w : World) (h : Calls Tryd.prog 11 #[y] w (ROnePost y b (some x, []) w)) :
    Calls Tryd.prog 11 #[y] w fun e w' => e = .returned (.tuple #[.slice none 0 0, .int .i64 0, .int .i64 (x : Int)]) ∧ Below w.heap.size w w' := h.mono fun _ _ h => ⟨h.2, h.1⟩
theorem rone_good (p : List Int) (y : Value) (b : List Int) (w : World) (h : Calls Tryd.prog 11 #[y] w (ROnePost y b (none, p) w)) :
    Calls Tryd.prog 11 #[y] w fun e w' => ∃ a c, e = .returned (.tuple #[.slice a p.length c, .int .i64 ((p.length : Int) + 12), .int .i64 0]) ∧ (∀ W, BytesIn W y b → BytesIn W (.slice a p.length c) p) ∧ Below w.heap.size w w' := h.mono fun _ _ ⟨hb, a, c, he, ho⟩ =>
  ⟨a, c, he, ho, hb⟩
set_option maxHeartbeats 2000000 in
theorem rscan_any (y : Value) (b : List Int) (w : World) (hy : BytesIn w y b) (ho : bytesOk b) (hl : b.length < 1099511627776) : Calls Tryd.prog 13 #[y] w (RScanPost y b w) := by
  obtain ⟨a, c, rfl, hc, hm, hx⟩ := id hy
  have HY := Lib.hid hy
  have HO := Lib.hid ho
  have HL := Lib.hid hl
  have HS0 := Lib.hid (show RScanAt (.slice a b.length c) b w (.slice none 0 0) 0 w from ⟨b.length, [], [], by omega, by omega, by rw [List.drop_zero]; simp [scanF], World.ownsRow_nil _ _ _ _, ⟨rfl, fun i u p h => by simp at h⟩, Nat.le_refl _, Below.refl _ _⟩)
  clear hy ho hl hx hm hc
  go_enter Tryd.func13, Tryd.ntmps13
  go_wp2_with (fail)
  go_loopw [5, 6] (fun v i wr => ∃ k : Nat, k ≤ b.length ∧ i = .int .i64 k ∧ Hid (RScanAt (.slice a b.length c) b w v k wr)) (fun _ i _ => b.length - (intOf i).toNat)
  case atStart => exact ⟨0, Nat.zero_le _, rfl, HS0.out⟩
  case round =>
    clear HS0
    obtain ⟨k, hk, rfl, HS⟩ := hrel
    have s1 := sliceBlo a b.length c k hk
    have HB := Lib.hid (show Below w.heap.size w wr by obtain ⟨f, vs, ps, h⟩ := HS.out; exact h.below)
    have C1 := Lib.hid (rone_any _ (b.drop k) wr ((HY.out.below HB.out).from k hk) (HO.out.drop k) (by rw [List.length_drop]; have := HL.out; omega))
    rcases oneF_cases (b.drop k) with ⟨x, hx, -, hx8⟩ | ⟨p, hx, hpl, hp0, hpm⟩
    · have HX := Lib.hid hx
      rw [hx] at C1
      replace C1 := Lib.hid (rone_bad x _ _ wr C1.out)
      clear hx
      rcases hx8 with rfl | rfl | rfl
      · replace C1 := Lib.hid (show Calls Tryd.prog 11 #[.slice (cutA a c k) (b.length - k) (c - k)] wr (fun e w' => e = .returned (.tuple #[.slice none 0 0, .int .i64 0, .int .i64 8]) ∧ Below wr.heap.size wr w') from C1.out)
        go_wp2_with (go_at_call 11; (with_reducible refine C1.out.mono ?_); rintro e w1 ⟨rfl, hb1⟩; replace hb1 := Lib.hid hb1)
        go_ret3
        exact HS.out.stop HX.out hb1.out
      · replace C1 := Lib.hid (show Calls Tryd.prog 11 #[.slice (cutA a c k) (b.length - k) (c - k)] wr (fun e w' => e = .returned (.tuple #[.slice none 0 0, .int .i64 0, .int .i64 11]) ∧ Below wr.heap.size wr w') from C1.out)
        go_wp2_with (go_at_call 11; (with_reducible refine C1.out.mono ?_); rintro e w1 ⟨rfl, hb1⟩; replace hb1 := Lib.hid hb1)
        go_ret3
        exact HS.out.stop HX.out hb1.out
      · replace C1 := Lib.hid (show Calls Tryd.prog 11 #[.slice (cutA a c k) (b.length - k) (c - k)] wr (fun e w' => e = .returned (.tuple #[.slice none 0 0, .int .i64 0, .int .i64 12]) ∧ Below wr.heap.size wr w') from C1.out)
        go_wp2_with (go_at_call 11; (with_reducible refine C1.out.mono ?_); rintro e w1 ⟨rfl, hb1⟩; replace hb1 := Lib.hid hb1)
        go_ret3
        exact HS.out.stop HX.out hb1.out
    · have HX := Lib.hid hx
      rw [hx] at C1
      clear hx
      obtain ⟨f, vs, ps, HST⟩ := HS.out
      have HVL := Lib.hid (show vs.length < 1099511627776 by have := HST.few; have := HL.out; omega)
      replace HST := Lib.hid HST
      have HPB := Lib.hid (show k + (p.length + 12) ≤ b.length by rw [List.length_drop] at hpl; omega)
      have hpb1 : p.length ≤ 1048576 := hpm
      have hkb : k ≤ 1099511627776 := by have := HL.out; omega
      replace C1 := Lib.hid (rone_good p _ _ wr C1.out)
      clear hpl
      go_wp2_with (first
        | (go_at_call 11; (with_reducible refine C1.out.mono ?_); rintro e w1 ⟨a1, c1, rfl, ho1, hb1⟩; replace hb1 := Lib.hid hb1; replace ho1 := Lib.hid ho1)
        | (at_builtin; refine wpList_append_slice rfl (.tmp 27) (.tmp 29) rfl rfl w.heap.size _ vs rfl (kept_below (kept_below HST.out.own hb1.out) (below_alloc w1 _)) ⟨w1.heap.size, 0, none⟩ _ rfl (by rw [cell_of_row _ _ _ _ _ _ (heap_alloc_new w1 _)]; rfl) rfl HVL.out (Nat.le_trans HST.out.below.size (Nat.le_trans hb1.out.size (by simp))) ?_; intro v' w3 ho3 hg3 _; have HN := Lib.hid (RScanAt.next HST.out HX.out hb1.out (fun W h => ho1.out W (h.from k hk)) (below_alloc w1 _) hg3 ho3); clear ho3 hg3))
      go_roundw
      case rel => exact ⟨k + (p.length + 12), HPB.out, by go_num, HN.out⟩
      case measure => have := HPB.out; simp [intOf]; omega
end Go.Proofs.YtfdjmfomccckaaaDoor
