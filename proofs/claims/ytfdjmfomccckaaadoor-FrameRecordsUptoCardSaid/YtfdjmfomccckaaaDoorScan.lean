/- Scan: the records at the beginning of bytes. -/
import Derived.Test.YtfdjmfomccckaaaDoorOne
import Derived.Test.YtfdjmfomccckaaaDoorIs
namespace Go.Proofs.YtfdjmfomccckaaaDoor
open Go.RowKit
set_option maxRecDepth 100000
theorem ext0 (x y z : Value) (w : World) : (Instr.extract (.tuple #[x, y, z]) 0).run Tryd.prog w = .ok x w := rfl
theorem ext1 (x y z : Value) (w : World) : (Instr.extract (.tuple #[x, y, z]) 1).run Tryd.prog w = .ok y w := rfl
theorem ext2 (x y z : Value) (w : World) : (Instr.extract (.tuple #[x, y, z]) 2).run Tryd.prog w = .ok z w := rfl
/-- what bytes hold: payloads, how many bytes, why no more -/
def scanG : Nat → List Int → List (List Int) × Nat × Option Nat
  | 0, _ => ([], 0, none)
  | f + 1, b => match oneF b with
    | (none, p) => (p :: (scanG f (b.drop (p.length + 12))).1, p.length + 12 + (scanG f (b.drop (p.length + 12))).2.1, (scanG f (b.drop (p.length + 12))).2.2)
    | (some k, _) => ([], 0, if k = 8 then none else some k)
def scanF (b : List Int) : List (List Int) × Nat × Option Nat := scanG b.length b
theorem oneF_cases (b : List Int) : (∃ k, oneF b = (some k, []) ∧ (k = 8 ↔ b.length = 0) ∧ (k = 8 ∨ k = 11 ∨ k = 12)) ∨ (∃ p, oneF b = (none, p) ∧ p.length + 12 ≤ b.length ∧ 0 < p.length ∧ p.length ≤ 1048576) := by
  unfold oneF
  split
  · next h => exact .inl ⟨8, rfl, by simp [h], by simp⟩
  · next h =>
    split
    · exact .inl ⟨12, rfl, by simp [h], by simp⟩
    · split
      · exact .inl ⟨11, rfl, by simp [h], by simp⟩
      · next h1 =>
        split
        · exact .inl ⟨12, rfl, by simp [h], by simp⟩
        · split
          · exact .inl ⟨11, rfl, by simp [h], by simp⟩
          · refine .inr ⟨_, rfl, ?_, ?_, ?_⟩ <;> rw [List.length_drop, List.length_take] <;> omega
/-- a slice of slices of bytes, each in a block of its own -/
def ListsIn (w : World) (B : Nat) (own : Option Nat) (vs : List Value) (ps : List (List Int)) : Prop :=
  vs.length = ps.length ∧ ∀ (i : Nat) (v : Value) (p : List Int), vs[i]? = some v → ps[i]? = some p → BytesIn w v p ∧ ∀ k, v.ownBlock = some k → B ≤ k ∧ some k ≠ own ∧ k < w.heap.size
theorem ListsIn.nil (w : World) (B : Nat) (own : Option Nat) : ListsIn w B own [] [] := ⟨rfl, fun i v p h => by simp at h⟩
theorem BytesIn.grown {w w' : World} {own : Option Nat} {v : Value} {p : List Int} (h : BytesIn w v p) (hg : w.grownBy w' own) (hne : ∀ k, v.ownBlock = some k → some k ≠ own) : BytesIn w' v p := by
  obtain ⟨a, c, rfl, hc, hm, hx⟩ := h
  refine ⟨a, c, rfl, hc, hm, ?_⟩
  rcases hx with hx | ⟨ab, ao, rfl, hx⟩
  · exact .inl hx
  · exact .inr ⟨ab, ao, rfl, fun i y hi => (World.cell?_of_block (hg.block ab (World.block_lt_of_cell? w _ (hx i y hi)) (hne ab rfl))).trans (hx i y hi)⟩
theorem ListsIn.below {w w' : World} {B : Nat} {own : Option Nat} {vs : List Value} {ps : List (List Int)} (h : ListsIn w B own vs ps) (hb : Below w.heap.size w w') : ListsIn w' B own vs ps :=
  ⟨h.1, fun i v p hv hp => ⟨(h.2 i v p hv hp).1.below hb, fun k hk => ⟨((h.2 i v p hv hp).2 k hk).1, ((h.2 i v p hv hp).2 k hk).2.1, Nat.lt_of_lt_of_le ((h.2 i v p hv hp).2 k hk).2.2 hb.size⟩⟩⟩
theorem infoBs : (Tryd.prog.info? 22).map (fun i => (i.zero, i.size, i.bytes)) = some (some (.slice none 0 0), 1, 24) := by kernel_rfl
/-- append of one slice -/
theorem wpList_append_slice {w : World} {ops : Array Oper} {rest : List Oper} {o : Oper} {a : Act} {Q : Exit → Act → World → Prop} (hgd : o.guard = none) (s x : Operand)
    (ho : o.op = .call { callee := .builtin .append, args := #[s, x], argTypes := #[34, 34] }) (hty : o.type = 34)
    (base : Nat) (v : Value) (vs : List Value) (hs : a.eval s = v) (hown : w.ownsRow base 22 1 v vs.length vs) (b : Addr) (y : Value) (hx : a.eval x = .slice (some b) 1 1) (hy : w.cell? b = some y) (hy1 : y.oneCell' = true) (hl : vs.length < 1099511627776) (hb : base ≤ w.heap.size)
    (h : ∀ v' w', w'.ownsRow base 22 1 v' (vs ++ [y]).length (vs ++ [y]) → w.grownBy w' v.ownBlock → (v'.ownBlock = v.ownBlock ∨ v'.ownBlock = some w.heap.size) → wpList Tryd.prog ops Q rest (a.put o.dst v') w') : wpList Tryd.prog ops Q (o :: rest) a w := by
  refine wpList_plain hgd fun K hK => ?_
  obtain ⟨i0, hi, hz0, hz1, hz2⟩ := info_parts infoBs
  obtain ⟨v', w', hr, h1, h2, _, h4⟩ := run_append_own_at w base 34 34 22 i0 (.slice none 0 0) 1 24 Tryd.underlying34 hi hz0 hz1 hz2 rfl (by decide) v vs.length vs hown b 1 1 [y] rfl (fun j u hu => by
      match j, hu with
      | 0, hu => cases hu; rw [show b.add 0 = b by simp [Addr.add]]; exact hy) (fun u hu => by simp at hu; rw [hu]; exact hy1) (by unfold maxLen; omega) (by omega) hb
  unfold Oper.wp execOp
  simp only [ho, hty, resolve, invoke, builtin, Sem.run_bind, Sem.run_pure, Result.andThen_ok, List.map_toArray, List.map_cons, List.map_nil, hs, hx, hr]
  exact hK _ _ (h v' w' (by rw [List.length_append]; exact h1) h2 h4)
structure ScanSt (b : List Int) (w : World) (v : Value) (k : Nat) (f : Nat) (vs : List Value) (ps : List (List Int)) (wr : World) : Prop where
  fuel : b.length - k ≤ f
  le : k ≤ b.length
  eq : scanF b = (ps ++ (scanG f (b.drop k)).1, k + (scanG f (b.drop k)).2.1, (scanG f (b.drop k)).2.2)
  own : wr.ownsRow w.heap.size 22 1 v vs.length vs
  lists : ListsIn wr w.heap.size v.ownBlock vs ps
  few : vs.length ≤ k
  below : Below w.heap.size w wr
def ScanAt (b : List Int) (w : World) (v : Value) (k : Nat) (wr : World) : Prop := ∃ f vs ps, ScanSt b w v k f vs ps wr
def ScanPost (b : List Int) (w : World) (e : Ending) (w' : World) : Prop :=
  ∃ v vs, e = .returned (.tuple #[v, .int .i64 (((scanF b).2.1 : Nat) : Int), errV (scanF b).2.2]) ∧ w'.ownsRow w.heap.size 22 1 v vs.length vs ∧ ListsIn w' w.heap.size v.ownBlock vs (scanF b).1 ∧ Below w.heap.size w w'
theorem ScanAt.stop {b : List Int} {w wr w' : World} {v : Value} {k : Nat} {x : Nat} (h : ScanAt b w v k wr) (hx : oneF (b.drop k) = (some x, [])) (hb : Below wr.heap.size wr w') :
    ScanPost b w (.returned (.tuple #[v, .int .i64 (k : Int), errV (if x = 8 then none else some x)])) w' := by
  obtain ⟨f, vs, ps, h⟩ := h
  have hg : scanG f (b.drop k) = ([], 0, if x = 8 then none else some x) := by
    cases f with
    | zero =>
      have h0 : (b.drop k).length = 0 := by rw [List.length_drop]; have := h.fuel; omega
      rcases oneF_cases (b.drop k) with ⟨y, hy, h8, _⟩ | ⟨p, hp, hl, _⟩
      · rw [hx] at hy
        obtain rfl : x = y := by simpa using hy
        rw [if_pos (h8.2 h0)]; rfl
      · omega
    | succ f => simp only [scanG, hx]
  have he := h.eq
  rw [hg] at he
  simp only [List.append_nil, Nat.add_zero] at he
  refine ⟨v, vs, by rw [he], h.own.kept (row := none) ⟨hb.os, hb.tape, hb.output, hb.size, fun k hk _ => hb.block k hk⟩ (by cases v.ownBlock <;> simp), ?_, h.below.trans (hb.mono h.below.size)⟩
  rw [he]
  exact h.lists.below hb
theorem kept_below {w w' : World} {B e n : Nat} {v : Value} {vs : List Value} (h : w.ownsRow B e 1 v n vs) (hb : Below w.heap.size w w') : w'.ownsRow B e 1 v n vs :=
  h.kept (row := none) ⟨hb.os, hb.tape, hb.output, hb.size, fun k hk _ => hb.block k hk⟩ (by cases v.ownBlock <;> simp)
/-- one record more -/
theorem ScanAt.next {b : List Int} {w wr w1 w2 w3 : World} {v y v' : Value} {k : Nat} {p : List Int} {vs : List Value} {f : Nat} {ps : List (List Int)} (h : ScanSt b w v k f vs ps wr) (hx : oneF (b.drop k) = (none, p)) (hb : Below wr.heap.size wr w1) (hy : w1.ownsRow wr.heap.size 5 1 y p.length (byteVals p))
    (hb2 : Below w1.heap.size w1 w2) (hg : w2.grownBy w3 v.ownBlock) (hof : v'.ownBlock = v.ownBlock ∨ v'.ownBlock = some w2.heap.size) (ho : w3.ownsRow w.heap.size 22 1 v' (vs ++ [y]).length (vs ++ [y])) : ScanAt b w v' (k + (p.length + 12)) w3 := by
  obtain ⟨hl12, hl0, hlm⟩ : p.length + 12 ≤ (b.drop k).length ∧ 0 < p.length ∧ p.length ≤ 1048576 := by
    rcases oneF_cases (b.drop k) with ⟨x, h1, _⟩ | ⟨q, h1, h2⟩
    · rw [hx] at h1; simp at h1
    · rw [hx] at h1
      obtain rfl : p = q := by simpa using h1
      exact h2
  rw [List.length_drop] at hl12
  have hfu := h.fuel
  obtain ⟨f, rfl⟩ : ∃ g, f = g + 1 := ⟨f - 1, by omega⟩
  have he := h.eq
  have hs : scanG (f + 1) (b.drop k) = (p :: (scanG f (b.drop (k + (p.length + 12)))).1, p.length + 12 + (scanG f (b.drop (k + (p.length + 12)))).2.1, (scanG f (b.drop (k + (p.length + 12)))).2.2) := by
    simp only [scanG, hx, List.drop_drop]
  rw [hs] at he
  have hw12 : Below wr.heap.size wr w2 := hb.trans (hb2.mono hb.size)
  have hle := h.below.size
  refine ⟨f, vs ++ [y], ps ++ [p], by omega, by omega, ?_, ho, ⟨by simp [h.lists.1], fun i u q hu hq => ?_⟩, by have := h.few; simp; omega, (h.below.trans (hw12.mono h.below.size)).grown hg (Nat.le_trans h.below.size hw12.size) (fun j hj => (h.own.lt j hj).1)⟩
  · rw [he]
    refine Prod.ext (by simp) (Prod.ext ?_ rfl)
    show k + (p.length + 12 + _) = k + (p.length + 12) + _
    omega
  · rcases Nat.lt_or_ge i vs.length with hi | hi
    · rw [List.getElem?_append_left hi] at hu
      rw [List.getElem?_append_left (by rw [← h.lists.1]; exact hi)] at hq
      obtain ⟨h1, h2⟩ := h.lists.2 i u q hu hq
      refine ⟨(h1.below hw12).grown hg fun j hj => (h2 j hj).2.1, fun j hj => ⟨(h2 j hj).1, ?_, Nat.lt_of_lt_of_le (h2 j hj).2.2 (Nat.le_trans hw12.size hg.size)⟩⟩
      rcases hof with e | e
      · rw [e]; exact (h2 j hj).2.1
      · rw [e]; intro e; injection e with e; have := (h2 j hj).2.2; have := hw12.size; omega
    · rw [List.getElem?_append_right hi] at hu
      rw [List.getElem?_append_right (by rw [← h.lists.1]; exact hi), ← h.lists.1] at hq
      obtain ⟨rfl, h0⟩ : u = y ∧ i - vs.length = 0 := by
        rcases Nat.eq_zero_or_pos (i - vs.length) with e | e
        · rw [e] at hu; simp at hu; exact ⟨hu.symm, e⟩
        · rw [List.getElem?_eq_none (by simp; omega)] at hu; cases hu
      rw [h0] at hq
      obtain rfl : p = q := by simpa using hq
      have hlt := fun j hj => hy.lt j hj
      have hne : ∀ j, u.ownBlock = some j → some j ≠ v.ownBlock := fun j hj e => by
        have h1 := h.own.lt j e.symm
        have h2 := hlt j hj
        omega
      refine ⟨((owns_in hy (by unfold maxLen; omega)).below hb2).grown hg hne, fun j hj => ⟨Nat.le_trans hle (hlt j hj).1, ?_, Nat.lt_of_lt_of_le (hlt j hj).2 (Nat.le_trans hb2.size hg.size)⟩⟩
      rcases hof with e | e
      · rw [e]; exact hne j hj
      · rw [e]; intro e; injection e with e; have := (hlt j hj).2; have := hb2.size; omega
theorem slice_one (y : Value) (ys : List Int) (w : World) (B n : Nat) (h : w.ownsRow B 5 1 y n (byteVals ys)) : y.oneCell' = true ∧ ∃ a c, y = .slice a n c := by
  obtain ⟨a, c, rfl⟩ := owns_wide h
  exact ⟨rfl, a, c, rfl⟩
theorem one_bad (x : Nat) (y : Value) (w : World) (h : Calls Tryd.prog 10 #[y] w (OnePost (some x, []) w)) :
    Calls Tryd.prog 10 #[y] w fun e w' => e = .returned (.tuple #[.slice none 0 0, .int .i64 0, .iface 51 (.int .i64 (x : Int))]) ∧ Below w.heap.size w w' := h.mono fun _ _ h => ⟨h.2, h.1⟩
theorem one_good (p : List Int) (y : Value) (w : World) (h : Calls Tryd.prog 10 #[y] w (OnePost (none, p) w)) :
    Calls Tryd.prog 10 #[y] w fun e w' => ∃ v' a c, v' = .slice a p.length c ∧ e = .returned (.tuple #[v', .int .i64 ((p.length : Int) + 12), .nilIface]) ∧ w'.ownsRow w.heap.size 5 1 v' p.length (byteVals p) ∧ Below w.heap.size w w' := h.mono fun _ _ ⟨hb, v', he, ho⟩ => by
  obtain ⟨a, c, rfl⟩ := owns_wide ho
  exact ⟨_, a, c, rfl, he, ho, hb⟩
set_option maxHeartbeats 2000000 in
theorem scan_any (y : Value) (b : List Int) (w : World) (hT : NibAt w) (hy : BytesIn w y b) (ho : bytesOk b) (hl : b.length < 1099511627776) : Calls Tryd.prog 12 #[y] w (ScanPost b w) := by
  obtain ⟨a, c, rfl, hc, hm, hx⟩ := id hy
  have HT := Lib.hid hT
  have HY := Lib.hid hy
  have HO := Lib.hid ho
  have HL := Lib.hid hl
  have HS0 := Lib.hid (show ScanAt b w (.slice none 0 0) 0 w from ⟨b.length, [], [], by omega, by omega, by rw [List.drop_zero]; simp [scanF], World.ownsRow_nil _ _ _ _, ListsIn.nil _ _ _, Nat.le_refl _, Below.refl _ _⟩)
  clear hT hy ho hl hx hm hc
  go_enter Tryd.func12, Tryd.ntmps12
  go_wp2_with (fail)
  go_loopw [5, 6] (fun v i wr => ∃ k : Nat, k ≤ b.length ∧ i = .int .i64 k ∧ Hid (ScanAt b w v k wr)) (fun _ i _ => b.length - (intOf i).toNat)
  case atStart => exact ⟨0, Nat.zero_le _, rfl, HS0.out⟩
  case round =>
    clear HS0
    obtain ⟨k, hk, rfl, HS⟩ := hrel
    have s1 := sliceBlo a b.length c k hk
    have HB := Lib.hid (show Below w.heap.size w wr by obtain ⟨f, vs, ps, h⟩ := HS.out; exact h.below)
    have C1 := Lib.hid (one_any _ (b.drop k) wr (HT.out.below HB.out HT.out.lt) ((HY.out.below HB.out).from k hk) (HO.out.drop k) (by rw [List.length_drop]; have := HL.out; omega))
    rcases oneF_cases (b.drop k) with ⟨x, hx, -, hx8⟩ | ⟨p, hx, hpl, hp0, hpm⟩
    · have HX := Lib.hid hx
      rw [hx] at C1
      replace C1 := Lib.hid (one_bad x _ wr C1.out)
      clear hx
      rcases hx8 with rfl | rfl | rfl
      · replace C1 := Lib.hid (show Calls Tryd.prog 10 #[.slice (cutA a c k) (b.length - k) (c - k)] wr (fun e w' => e = .returned (.tuple #[.slice none 0 0, .int .i64 0, .iface 51 (.int .i64 8)]) ∧ Below wr.heap.size wr w') from C1.out)
        have HE := Lib.hid (show ∀ w, Calls Tryd.prog 24 #[.iface 51 (.int .i64 8), .iface 51 (.int .i64 8)] w (fun e w' => e = .returned (.bool true) ∧ w = w') from fun w => is_num 8 8 w)
        go_wp2_with (first
          | (go_at_call 10; (with_reducible refine C1.out.mono ?_); rintro e w1 ⟨rfl, hb1⟩; replace hb1 := Lib.hid hb1)
          | (go_at_call 24; (with_reducible refine (HE.out _).mono ?_); rintro e w2 ⟨rfl, rfl⟩))
        go_ret3
        exact HS.out.stop HX.out hb1.out
      · replace C1 := Lib.hid (show Calls Tryd.prog 10 #[.slice (cutA a c k) (b.length - k) (c - k)] wr (fun e w' => e = .returned (.tuple #[.slice none 0 0, .int .i64 0, .iface 51 (.int .i64 11)]) ∧ Below wr.heap.size wr w') from C1.out)
        have HE := Lib.hid (show ∀ w, Calls Tryd.prog 24 #[.iface 51 (.int .i64 11), .iface 51 (.int .i64 8)] w (fun e w' => e = .returned (.bool false) ∧ w = w') from fun w => is_num 11 8 w)
        go_wp2_with (first
          | (go_at_call 10; (with_reducible refine C1.out.mono ?_); rintro e w1 ⟨rfl, hb1⟩; replace hb1 := Lib.hid hb1)
          | (go_at_call 24; (with_reducible refine (HE.out _).mono ?_); rintro e w2 ⟨rfl, rfl⟩))
        go_ret3
        exact HS.out.stop HX.out hb1.out
      · replace C1 := Lib.hid (show Calls Tryd.prog 10 #[.slice (cutA a c k) (b.length - k) (c - k)] wr (fun e w' => e = .returned (.tuple #[.slice none 0 0, .int .i64 0, .iface 51 (.int .i64 12)]) ∧ Below wr.heap.size wr w') from C1.out)
        have HE := Lib.hid (show ∀ w, Calls Tryd.prog 24 #[.iface 51 (.int .i64 12), .iface 51 (.int .i64 8)] w (fun e w' => e = .returned (.bool false) ∧ w = w') from fun w => is_num 12 8 w)
        go_wp2_with (first
          | (go_at_call 10; (with_reducible refine C1.out.mono ?_); rintro e w1 ⟨rfl, hb1⟩; replace hb1 := Lib.hid hb1)
          | (go_at_call 24; (with_reducible refine (HE.out _).mono ?_); rintro e w2 ⟨rfl, rfl⟩))
        go_ret3
        exact HS.out.stop HX.out hb1.out
    · have HX := Lib.hid hx
      rw [hx] at C1
      clear hx
      obtain ⟨f, vs, ps, HST⟩ := HS.out
      have HVL := Lib.hid (show vs.length < 1099511627776 by have := HST.few; have := HL.out; omega)
      replace HST := Lib.hid HST
      have HPB := Lib.hid (show k + (p.length + 12) ≤ b.length by rw [List.length_drop] at hpl; omega)
      have HPL := Lib.hid hpl
      have hpb1 : p.length ≤ 1048576 := hpm
      have hkb : k ≤ 1099511627776 := by have := HL.out; omega
      have HE := Lib.hid (fun w => is_nil 8 w)
      clear hpl
      go_wp2_with (first
        | (go_at_call 10; (with_reducible refine (one_good p _ wr C1.out).mono ?_); rintro e w1 ⟨v1, a1, c1, rfl, rfl, ho1, hb1⟩; replace hb1 := Lib.hid hb1; replace ho1 := Lib.hid ho1)
        | (go_at_call 24; (with_reducible refine (HE.out _).mono ?_); rintro e w2 ⟨rfl, rfl⟩)
        | (at_builtin; refine wpList_append_slice rfl (.tmp 28) (.tmp 30) rfl rfl w.heap.size _ vs rfl (kept_below (kept_below HST.out.own hb1.out) (below_alloc w1 _)) ⟨w1.heap.size, 0, none⟩ _ rfl (by rw [cell_of_row _ _ _ _ _ _ (heap_alloc_new w1 _)]; rfl) rfl HVL.out (Nat.le_trans HST.out.below.size (Nat.le_trans hb1.out.size (by simp))) ?_; intro v' w3 ho3 hg3 hof3; have HN := Lib.hid (ScanAt.next HST.out HX.out hb1.out ho1.out (below_alloc w1 _) hg3 hof3 ho3); clear ho3 hg3 hof3))
      go_roundw
      case rel => exact ⟨k + (p.length + 12), HPB.out, by go_num, HN.out⟩
      case measure => have := HPB.out; simp [intOf]; omega
end Go.Proofs.YtfdjmfomccckaaaDoor
