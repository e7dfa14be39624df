/- For every kind and every three numbers, TxsShapes returns true and leaves its arguments as they were. Conditions: errors.errorType, the table of package txs and the two tables of package unicode/utf8 read as their texts lay them, which the card ties to those texts. -/
import Derived.ProofKit
import Derived.OpenShut
import Derived.Deep.Slices
import Derived.SizedLaws
import Derived.LaidMore
import Derived.Stop.Joined
import Derived.Stop.LaidErr
import Derived.Lib.LaidTab
import Derived.LaidHandle
import Derived.Carry
import Derived.Lay
import Derived.Test.YtllpnpeppdfjlaaGreatDoorTie
import Derived.Test.YtllpnpeppdfjlaaGreatDoorCards
import Derived.SevenTiedAt
import Derived.Test.YtllpnpeppdfjlaaGreatDoorSx1
import Derived.Test.YtllpnpeppdfjlaaGreatDoorSx3
import Derived.Test.YtllpnpeppdfjlaaGreatDoorSx5
import Derived.Test.YtllpnpeppdfjlaaGreatDoorSx8
namespace Go.Proofs.YtllpnpeppdfjlaaGreatDoor
set_option linter.unusedVariables false
set_option linter.unusedSimpArgs false
open Go.RowKit
set_option maxRecDepth 100000
set_option linter.unusedSimpArgs false
set_option linter.unusedVariables false
theorem row3_cells {w : World} {q : Nat} {F : Nat → Int} {T : TypeId} (h : w.heap[q]? = some (.cells (rowOf .i64 3 F) T (0, 0))) : w.cell? ⟨q, 0, none⟩ = some (.int .i64 (F 0)) ∧ w.cell? ⟨q, 1, none⟩ = some (.int .i64 (F 1)) ∧ w.cell? ⟨q, 2, none⟩ = some (.int .i64 (F 2)) := by
  refine ⟨?_, ?_, ?_⟩ <;> (rw [cell_of_row _ _ _ _ _ _ h, rowOf_get _ _ _ _ (by omega)])
theorem seven15 (a : Int) : ∃ n : Nat, n < 7 ∧ wrap64 ((IntKind.u64.wrap a).tmod 7) = (n : Int) := by
  have h0 : 0 ≤ IntKind.u64.wrap a := by rw [IntKind.wrap_u64]; omega
  rw [Int.tmod_eq_emod_of_nonneg h0]
  refine ⟨(IntKind.u64.wrap a % 7).toNat, by omega, ?_⟩
  rw [IntWalk.wrap64_in _ (by omega)]
  omega
theorem own_ne15 {w : World} {B1 B2 n1 n2 m1 m2 : Nat} {T1 T2 : TypeId} {v1 v2 : Value} {l1 l2 : List Value} (h1 : w.ownsRow B1 T1 n1 v1 m1 l1) (h2 : w.ownsRow B2 T2 n2 v2 m2 l2) (hT : T1 ≠ T2) : ∀ k, v2.ownBlock = some k → v1.ownBlock ≠ some k := fun k e2 e1 => by
  rcases h1.2 with ⟨rfl, -⟩ | ⟨g1, c1, u1, rfl, -, hh1, -⟩
  · cases e1
  · rcases h2.2 with ⟨rfl, -⟩ | ⟨g2, c2, u2, rfl, -, hh2, -⟩
    · cases e2
    · cases e1; cases e2
      rw [hh1] at hh2
      injection hh2 with hh2
      injection hh2 with _ hh2
      exact hT hh2
/-- the message being made -/
structure ShM (w0 : World) (q8 q9 B : Nat) (C8 : Array Value) (k : Int) (tv iv dv : Value) (ts : List ByteArray) (is : List Int) (ds : List Tb) (x : Tr) (wr : World) : Prop where
  below : Below w0.heap.size w0 wr
  r8 : wr.heap[q8]? = some (.cells C8 67 (0, 0))
  r9 : wr.heap[q9]? = some (.cells #[.int .i64 k, tv, iv, dv] 100 (0, 0))
  t : wr.ownsRow B 9 1 tv ts.length (ts.flatMap stL)
  i : wr.ownsRow B 3 1 iv is.length (is.flatMap itL)
  d : wr.ownsRow B 34 1 dv ds.length (ds.flatMap tdL)
  x : TrE wr x
  ts0 : ∀ s ∈ ts, s.size = 0
  is0 : ∀ i ∈ is, i64b i
  ds0 : ∀ t ∈ ds, t = ⟨.slice none 0 0, []⟩
  q0 : w0.heap.size ≤ q8
  q89 : q8 < q9
  qB : q9 < B
  B1 : B ≤ wr.heap.size
theorem ShM.call {w0 : World} {q8 q9 B : Nat} {C8 : Array Value} {k : Int} {tv iv dv : Value} {ts : List ByteArray} {is : List Int} {ds : List Tb} {x : Tr} {wr w' : World} (m : ShM w0 q8 q9 B C8 k tv iv dv ts is ds x wr) (h : Below wr.heap.size wr w') : ShM w0 q8 q9 B C8 k tv iv dv ts is ds x w' :=
  ⟨m.below.trans (h.mono m.below.size), (h.block q8 (bkT_lt m.r8)).trans m.r8, (h.block q9 (bkT_lt m.r9)).trans m.r9, own_stay11 m.t fun j hj => h.block j (m.t.lt j hj).2, own_stay11 m.i fun j hj => h.block j (m.i.lt j hj).2, own_stay11 m.d fun j hj => h.block j (m.d.lt j hj).2, m.x.below h, m.ts0, m.is0, m.ds0, m.q0, m.q89, m.qB, Nat.le_trans m.B1 h.size⟩
/-- one of the three has grown, and is stored -/
theorem ShM.grow {w0 : World} {q8 q9 B : Nat} {C8 : Array Value} {k : Int} {tv iv dv : Value} {ts : List ByteArray} {is : List Int} {ds : List Tb} {x : Tr} {wr w' : World} {own : Option Nat} {o : Nat} {v : Value} (m : ShM w0 q8 q9 B C8 k tv iv dv ts is ds x wr) (hg : wr.grownBy w' own) (ho : ∀ j, own = some j → B ≤ j) (hx : TrE w0 x)
    {tv' iv' dv' : Value} {ts' : List ByteArray} {is' : List Int} {ds' : List Tb} (hs : (#[.int .i64 k, tv, iv, dv] : Array Value).setIfInBounds o v = #[.int .i64 k, tv', iv', dv']) (ht : w'.ownsRow B 9 1 tv' ts'.length (ts'.flatMap stL)) (hi : w'.ownsRow B 3 1 iv' is'.length (is'.flatMap itL)) (hd : w'.ownsRow B 34 1 dv' ds'.length (ds'.flatMap tdL)) (h1 : ∀ s ∈ ts', s.size = 0) (h2 : ∀ i ∈ is', i64b i) (h3 : ∀ t ∈ ds', t = ⟨.slice none 0 0, []⟩) : ShM w0 q8 q9 B C8 k tv' iv' dv' ts' is' ds' x (w'.setCell ⟨q9, o, none⟩ v) := by
  have q0 := m.q0
  have q89 := m.q89
  have qB := m.qB
  have B1 := m.B1
  have hst : ∀ j, j < B → w'.heap[j]? = wr.heap[j]? := fun j hj => hg.block j (by omega) (fun e => by have := ho j e.symm; omega)
  have hsz := hg.size
  have hO := Only.setCell w' ⟨q9, o, none⟩ v
  have hb0 : Below w0.heap.size w0 w' := ⟨hg.os.trans m.below.os, hg.tape.trans m.below.tape, hg.output.trans m.below.output, Nat.le_trans m.below.size hsz, fun j hj => (hst j (by omega)).trans (m.below.block j hj)⟩
  have hb : Below w0.heap.size w0 (w'.setCell ⟨q9, o, none⟩ v) := ⟨hO.os.trans hb0.os, hO.tape.trans hb0.tape, hO.output.trans hb0.output, Nat.le_trans hb0.size hO.size, fun j hj => (hO.block j (Nat.lt_of_lt_of_le hj hb0.size) (by show j ≠ q9; omega)).trans (hb0.block j hj)⟩
  have hr9 : w'.heap[q9]? = some (.cells #[.int .i64 k, tv, iv, dv] 100 (0, 0)) := (hst q9 qB).trans m.r9
  have kp : ∀ j, B ≤ j → j < w'.heap.size → (w'.setCell ⟨q9, o, none⟩ v).heap[j]? = w'.heap[j]? := fun j hj hl => hO.block j hl (by show j ≠ q9; omega)
  exact ⟨hb, (hO.block q8 (by have := bkT_lt m.r8; omega) (by show q8 ≠ q9; omega)).trans ((hst q8 (by omega)).trans m.r8), by rw [heap_setCell_same w' q9 o _ _ v hr9, hs], own_stay11 ht fun j hj => kp j (ht.lt j hj).1 (ht.lt j hj).2, own_stay11 hi fun j hj => kp j (hi.lt j hj).1 (hi.lt j hj).2, own_stay11 hd fun j hj => kp j (hd.lt j hj).1 (hd.lt j hj).2, hx.below hb, h1, h2, h3, q0, q89, qB, by have := hO.size; omega⟩
theorem snoc15 {α : Type} {P : α → Prop} {l : List α} {x : α} (h : ∀ s ∈ l, P s) (hx : P x) : ∀ s ∈ l ++ [x], P s := fun s hs => by
  rcases List.mem_append.1 hs with hs | hs
  · exact h s hs
  · rw [List.mem_singleton.1 hs]; exact hx
def ShR1 (w0 : World) (q8 q9 B : Nat) (C8 : Array Value) (k : Int) (x : Tr) (j : Nat) (wr : World) : Prop := ∃ v l, l.length = j ∧ ShM w0 q8 q9 B C8 k v (.slice none 0 0) (.slice none 0 0) l [] [] x wr
def ShR2 (w0 : World) (q8 q9 B : Nat) (C8 : Array Value) (k : Int) (x : Tr) (tv : Value) (ts : List ByteArray) (j : Nat) (wr : World) : Prop := ∃ v l, l.length = j ∧ ShM w0 q8 q9 B C8 k tv v (.slice none 0 0) ts l [] x wr
def ShR3 (w0 : World) (q8 q9 B : Nat) (C8 : Array Value) (k : Int) (x : Tr) (tv iv : Value) (ts : List ByteArray) (is : List Int) (j : Nat) (wr : World) : Prop := ∃ v l, l.length = j ∧ ShM w0 q8 q9 B C8 k tv iv v ts is l x wr
theorem chkX_pl (m : Pm) : chkX ⟨annS, 0, atomS, 0, [m], []⟩ = chkM m := by
  have h1 : accB annS = true := by kernel_rfl
  have h2 : chkF atomS 0 = none := by kernel_rfl
  have h3 : chkL [m] = chkM m := by
    unfold chkL chkMs chkMs
    rw [if_neg (by simp)]
    cases chkM m <;> rfl
  unfold chkX
  simp only
  rw [h1, h2, h3]
  cases chkM m <;> rfl
set_option maxHeartbeats 16000000 in
theorem lxshapes_any (k : Int) (F : Nat → Int) (w : World) (h : ShTab w) (hg : ErrType w) (hk : i64b k) : Calls Tryz.prog 9 #[.int .i64 k, .agg (rowOf .i64 3 F)] w fun e w' => e = .returned (.bool true) ∧ Below w.heap.size w w' := by
  have hba := below_alloc w (.cells (rowOf .i64 3 F) 96)
  have HQ := Lib.hid (heap_alloc_new w (.cells (rowOf .i64 3 F) 96))
  have HB := Lib.hid hba
  have HT := Lib.hid (h.below hba h.lt)
  have HG := Lib.hid (hg.below hba)
  have HSH := Lib.hid (fun w h => tshape_any k w h)
  have HSU := Lib.hid (fun w h => lxsure_any w h)
  have HKF := Lib.hid hk
  clear h hg hba hk
  go_enter Tryz.func9, Tryz.ntmps9
  go_upto_region 1 with (fail)
  generalize w.alloc (.cells (rowOf .i64 3 F) 96) = w1 at *
  obtain ⟨c0, c1, c2⟩ := row3_cells HQ.out
  clear HQ
  generalize F 0 = a at *
  generalize F 1 = b at *
  generalize F 2 = c at *
  go_quiet (fail)
  obtain ⟨na, ha7, ha⟩ := seven15 a
  obtain ⟨nb, hb7, hb⟩ := seven15 b
  obtain ⟨nc, hc7, hc⟩ := seven15 c
  rw [ha, hb, hc]
  replace HB := Lib.hid (HB.out.trans (b := w1) (c := w1.drewN nq) ⟨rfl, rfl, rfl, Nat.le_refl _, fun _ _ => rfl⟩)
  have hdr : Below w1.heap.size w1 (w1.drewN nq) := ⟨rfl, rfl, rfl, Nat.le_refl _, fun _ _ => rfl⟩
  replace HT := Lib.hid (HT.out.below hdr HT.out.lt)
  replace HG := Lib.hid (HG.out.below hdr)
  clear c0 c1 c2 ha hb hc hdr
  generalize w1.drewN nq = w2 at *
  go_upto_region 3 with (first
    | (go_at_call 48; (with_reducible refine (lplain_any w2).mono ?_); rintro e w3 ⟨x, rfl, he, hp, hf, hb⟩; have HX := Lib.hid he; have HP := Lib.hid hp; have HF := Lib.hid hf; have HB3 := Lib.hid hb; have HV := Lib.hid he.v; obtain ⟨C8, hC8⟩ : ∃ c, c = trC15 x := ⟨_, rfl⟩; have HC8 := Lib.hid hC8; have HCS := Lib.hid (show C8.size = 6 from by rw [hC8]; rfl); have HCO := Lib.hid (show C8.all (·.oneCell') = true from by rw [hC8]; exact trC15_one HV.out); rw [← hC8]; clear hC8 he hp hf hb)
    | (refine wpList_store_row rfl 67 (.tmp 8) (.tmp 33) rfl w3.heap.size C8 rfl rfl 67 _ (heap_alloc_new _ _) (by rw [HCS.out]; kernel_rfl) (by rw [HCS.out]; rfl) HCO.out ?_; rw [World.setRow_alloc_new]))
  have hq8 := heap_alloc_new w3 (.cells C8 67)
  have hb8 := below_alloc w3 (.cells C8 67)
  have HS3 := Lib.hid (show w2.heap.size ≤ w3.heap.size from HB3.out.size)
  obtain ⟨q8, hg8⟩ : ∃ z, z = w3.heap.size := ⟨_, rfl⟩
  have HQ8 := Lib.hid hq8
  have HQE8 := Lib.hid hg8
  have HB34 := Lib.hid hb8
  have HB4 := Lib.hid (HB3.out.trans (hb8.mono HB3.out.size))
  have HX4 := Lib.hid (HX.out.below hb8)
  have HS4 := Lib.hid (show (w3.alloc (.cells C8 67)).heap.size = q8 + 1 from by rw [hg8]; simp)
  rw [← hg8] at HQ8 ⊢
  clear hg8 hq8 hb8
  generalize w3.alloc (.cells C8 67) = w4 at *
  go_upto_region 4 with (fail)
  have hq9 := heap_alloc_new w4 (.cells #[.int .i64 k, .slice none 0 0, .slice none 0 0, .slice none 0 0] 100)
  have hb9 := below_alloc w4 (.cells #[.int .i64 k, .slice none 0 0, .slice none 0 0, .slice none 0 0] 100)
  have hs9 : (w4.alloc (.cells #[.int .i64 k, .slice none 0 0, .slice none 0 0, .slice none 0 0] 100)).heap.size = w4.heap.size + 1 := by simp
  obtain ⟨q9, hg9⟩ : ∃ z, z = w4.heap.size := ⟨_, rfl⟩
  have HT5 := Lib.hid (HT.out.below (HB4.out.trans (hb9.mono HB4.out.size)) HT.out.lt)
  have HG5 := Lib.hid (HG.out.below (HB4.out.trans (hb9.mono HB4.out.size)))
  rw [← hg9] at hq9 hs9 ⊢
  obtain ⟨B, hB⟩ : ∃ z, z = q9 + 1 := ⟨_, rfl⟩
  have M0 := Lib.hid (show ShM w3 q8 q9 B C8 k (.slice none 0 0) (.slice none 0 0) (.slice none 0 0) [] [] [] x (w4.alloc (.cells #[.int .i64 k, .slice none 0 0, .slice none 0 0, .slice none 0 0] 100)) from
    ⟨HB34.out.trans (hb9.mono HB34.out.size), (hb9.block q8 (bkT_lt HQ8.out)).trans HQ8.out, hq9, World.ownsRow_nil _ _ _ _, World.ownsRow_nil _ _ _ _, World.ownsRow_nil _ _ _ _, HX4.out.below hb9, (fun s hs => by cases hs), (fun s hs => by cases hs), (fun s hs => by cases hs), by rw [HQE8.out]; exact Nat.le_refl _, by have := HS4.out; omega, by omega, by omega⟩)
  have HW35 := Lib.hid (show Below w.heap.size w w3 from HB.out.trans (HB3.out.mono HB.out.size))
  have HT3 := Lib.hid (show ShTab w3 from HT.out.below HB3.out HT.out.lt)
  have HG3 := Lib.hid (show ErrType w3 from HG.out.below HB3.out)
  clear hq9 hb9 hs9 hg9 hB HQ8 HQE8 HB34 HX4 HS4 HS3 HB4 HT HG HB HB3 HT5 HG5
  generalize w4.alloc (.cells #[.int .i64 k, .slice none 0 0, .slice none 0 0, .slice none 0 0] 100) = w5 at *
  go_wp2_with (fail)
  go_loopw [10] (fun y wr => ∃ j : Nat, j ≤ na ∧ y = .int .i64 (j : Int) ∧ Hid (ShR1 w3 q8 q9 B C8 k x j wr)) (fun y _ => na - (intOf y).toNat)
  case atStart => exact ⟨0, Nat.zero_le _, rfl, Lib.hid ⟨.slice none 0 0, [], rfl, M0.out⟩⟩
  case round =>
    clear M0
    obtain ⟨j, hjn, rfl, HR⟩ := hrel
    obtain ⟨v, l, hl, hm⟩ := HR.out
    by_cases hlt : j < na
    · have hltI : (j : Int) < (na : Int) := by omega
      have M := Lib.hid hm
      obtain ⟨va, vc, hvv⟩ := own_slice11 hm.t
      rw [hl] at hvv
      subst hvv
      have HL := Lib.hid hl
      have k9 := mg_cells hm.r9
      obtain ⟨-, k1, k2, k3⟩ := k9
      clear hl hm HR
      go_upto_region 6 with (first
        | (refine wpList_one15S rfl (.const (.string { data := #[] })) rfl (some 43) rfl ({ data := #[] } : ByteArray) trivial (.string { data := #[] }) rfl rfl ?_; have hb2 := below_alloc wr (.cells (stL ({ data := #[] } : ByteArray)).toArray 9); have HQ := Lib.hid (heap_alloc_new wr (.cells (stL ({ data := #[] } : ByteArray)).toArray 9)); replace M := Lib.hid (M.out.call hb2); clear hb2 k1 k2 k3; obtain ⟨g, hg⟩ : ∃ g, g = wr.heap.size := ⟨_, rfl⟩; rw [← hg] at HQ ⊢; clear hg; generalize wr.alloc (.cells (stL ({ data := #[] } : ByteArray)).toArray 9) = w6 at *)
        | (at_builtin; refine wpList_append_row11 (n := 1) (C := stL) (fun _ => rfl) 51 9 (.string { data := #[] }) Tryz.underlying51 info15S (by kernel_rfl) (by omega) rfl (.tmp 42) (.tmp 43) rfl rfl B (.slice va j vc) l rfl M.out.t g ({ data := #[] } : ByteArray) (one15S _ trivial) rfl HQ.out (by rw [HL.out]; omega) (by rw [HL.out]; omega) M.out.B1 ?_; intro v4 w7 ho4 hg4 hw4; obtain ⟨a4, c4, hv4⟩ := own_slice11 ho4; rw [List.length_append, HL.out] at hv4; have HV4 := Lib.hid (show v4 = .slice a4 (j + 1) c4 from hv4); have HO4 := Lib.hid ho4; have HG4 := Lib.hid hg4; have hr9 := (hg4.block q9 (bkT_lt M.out.r9) (fun e => by have := (M.out.t.lt q9 e.symm).1; have := M.out.qB; omega)).trans M.out.r9; obtain ⟨-, k1, k2, k3⟩ := mg_cells hr9; have kf := frozen_of_row w7 q9 1 _ _ hr9; rw [HV4.out]; clear ho4 hg4 hw4 hr9 hv4))
      have HN := Lib.hid (show ShR1 w3 q8 q9 B C8 k x (j + 1) (w7.setCell ⟨q9, 1, none⟩ (.slice a4 (j + 1) c4)) from ⟨.slice a4 (j + 1) c4, l ++ [({ data := #[] } : ByteArray)], by rw [List.length_append, HL.out]; rfl, M.out.grow (o := 1) (v := .slice a4 (j + 1) c4) HG4.out (fun i e => (M.out.t.lt i e).1) HX.out rfl (by rw [← HV4.out]; exact HO4.out) (own_stay11 M.out.i fun i hi => HG4.out.block i (M.out.i.lt i hi).2 (fun e => own_ne15 M.out.t M.out.i (by decide) i hi e.symm)) (own_stay11 M.out.d fun i hi => HG4.out.block i (M.out.d.lt i hi).2 (fun e => own_ne15 M.out.t M.out.d (by decide) i hi e.symm)) (snoc15 M.out.ts0 rfl) M.out.is0 M.out.ds0⟩)
      clear k1 k2 k3 kf HO4 HG4 M HL HQ HV4
      generalize w7.setCell ⟨q9, 1, none⟩ (.slice a4 (j + 1) c4) = w8 at *
      go_wp2_with (fail)
      go_roundw
      case rel => exact ⟨j + 1, by omega, by go_num, HN⟩
      case measure => simp [intOf]; omega
    · obtain rfl : na = j := by omega
      have HL1 := Lib.hid hl
      have M1 := Lib.hid hm
      clear HR hl hm
      go_wp2_with (fail)
      go_loopw [11] (fun y wr => ∃ j : Nat, j ≤ nb ∧ y = .int .i64 (j : Int) ∧ Hid (ShR2 w3 q8 q9 B C8 k x v l j wr)) (fun y _ => nb - (intOf y).toNat)
      case atStart => exact ⟨0, Nat.zero_le _, rfl, Lib.hid ⟨.slice none 0 0, [], rfl, M1.out⟩⟩
      case round =>
        clear M1
        obtain ⟨j, hjn, rfl, HR⟩ := hrel
        obtain ⟨v2, l2, hl, hm⟩ := HR.out
        by_cases hlt : j < nb
        · have hltI : (j : Int) < (nb : Int) := by omega
          have M := Lib.hid hm
          obtain ⟨va, vc, hvv⟩ := own_slice11 hm.i
          rw [hl] at hvv
          subst hvv
          have HL := Lib.hid hl
          have k9 := mg_cells hm.r9
          obtain ⟨-, k1, k2, k3⟩ := k9
          clear hl hm HR
          go_upto_region 10 with (first
            | (refine wpList_one15I rfl (.tmp 53) rfl (some 54) rfl (j : Int) trivial (.int .i64 (j : Int)) rfl rfl ?_; have hb2 := below_alloc wr (.cells (itL (j : Int)).toArray 3); have HQ := Lib.hid (heap_alloc_new wr (.cells (itL (j : Int)).toArray 3)); replace M := Lib.hid (M.out.call hb2); clear hb2 k1 k2 k3; obtain ⟨g, hg⟩ : ∃ g, g = wr.heap.size := ⟨_, rfl⟩; rw [← hg] at HQ ⊢; clear hg; generalize wr.alloc (.cells (itL (j : Int)).toArray 3) = w6 at *)
            | (at_builtin; refine wpList_append_row11 (n := 1) (C := itL) (fun _ => rfl) 35 3 (.int .i64 0) Tryz.underlying35 info15I (by kernel_rfl) (by omega) rfl (.tmp 52) (.tmp 54) rfl rfl B (.slice va j vc) l2 rfl M.out.i g (j : Int) (one15I _ trivial) rfl HQ.out (by rw [HL.out]; omega) (by rw [HL.out]; omega) M.out.B1 ?_; intro v4 w7 ho4 hg4 hw4; obtain ⟨a4, c4, hv4⟩ := own_slice11 ho4; rw [List.length_append, HL.out] at hv4; have HV4 := Lib.hid (show v4 = .slice a4 (j + 1) c4 from hv4); have HO4 := Lib.hid ho4; have HG4 := Lib.hid hg4; have hr9 := (hg4.block q9 (bkT_lt M.out.r9) (fun e => by have := (M.out.i.lt q9 e.symm).1; have := M.out.qB; omega)).trans M.out.r9; obtain ⟨-, k1, k2, k3⟩ := mg_cells hr9; have kf := frozen_of_row w7 q9 2 _ _ hr9; rw [HV4.out]; clear ho4 hg4 hw4 hr9 hv4))
          have HN := Lib.hid (show ShR2 w3 q8 q9 B C8 k x v l (j + 1) (w7.setCell ⟨q9, 2, none⟩ (.slice a4 (j + 1) c4)) from ⟨.slice a4 (j + 1) c4, l2 ++ [(j : Int)], by rw [List.length_append, HL.out]; rfl, M.out.grow (o := 2) (v := .slice a4 (j + 1) c4) HG4.out (fun i e => (M.out.i.lt i e).1) HX.out rfl (own_stay11 M.out.t fun i hi => HG4.out.block i (M.out.t.lt i hi).2 (fun e => own_ne15 M.out.i M.out.t (by decide) i hi e.symm)) (by rw [← HV4.out]; exact HO4.out) (own_stay11 M.out.d fun i hi => HG4.out.block i (M.out.d.lt i hi).2 (fun e => own_ne15 M.out.i M.out.d (by decide) i hi e.symm)) M.out.ts0 (snoc15 M.out.is0 ⟨by omega, by omega⟩) M.out.ds0⟩)
          clear k1 k2 k3 kf HO4 HG4 M HL HQ HV4
          generalize w7.setCell ⟨q9, 2, none⟩ (.slice a4 (j + 1) c4) = w8 at *
          go_wp2_with (fail)
          go_roundw
          case rel => exact ⟨j + 1, by omega, by go_num, HN⟩
          case measure => simp [intOf]; omega
        · obtain rfl : nb = j := by omega
          have HL2 := Lib.hid hl
          have M2 := Lib.hid hm
          clear HR hl hm
          go_wp2_with (fail)
          go_loopw [12] (fun y wr => ∃ j : Nat, j ≤ nc ∧ y = .int .i64 (j : Int) ∧ Hid (ShR3 w3 q8 q9 B C8 k x v v2 l l2 j wr)) (fun y _ => nc - (intOf y).toNat)
          case atStart => exact ⟨0, Nat.zero_le _, rfl, Lib.hid ⟨.slice none 0 0, [], rfl, M2.out⟩⟩
          case round =>
            clear M2
            obtain ⟨j, hjn, rfl, HR⟩ := hrel
            obtain ⟨v3, l3, hl, hm⟩ := HR.out
            by_cases hlt : j < nc
            · have hltI : (j : Int) < (nc : Int) := by omega
              have M := Lib.hid hm
              obtain ⟨va, vc, hvv⟩ := own_slice11 hm.d
              rw [hl] at hvv
              subst hvv
              have HL := Lib.hid hl
              have k9 := mg_cells hm.r9
              obtain ⟨-, k1, k2, k3⟩ := k9
              clear hl hm HR
              go_upto_region 14 with (first
                | (refine wpList_one15D rfl (.const (.slice none 0 0)) rfl (some 64) rfl (⟨.slice none 0 0, []⟩ : Tb) ⟨_, _, _, rfl⟩ (.slice none 0 0) rfl rfl ?_; have hb2 := below_alloc wr (.cells (tdL (⟨.slice none 0 0, []⟩ : Tb)).toArray 34); have HQ := Lib.hid (heap_alloc_new wr (.cells (tdL (⟨.slice none 0 0, []⟩ : Tb)).toArray 34)); replace M := Lib.hid (M.out.call hb2); clear hb2 k1 k2 k3; obtain ⟨g, hg⟩ : ∃ g, g = wr.heap.size := ⟨_, rfl⟩; rw [← hg] at HQ ⊢; clear hg; generalize wr.alloc (.cells (tdL (⟨.slice none 0 0, []⟩ : Tb)).toArray 34) = w6 at *)
                | (at_builtin; refine wpList_append_row11 (n := 1) (C := tdL) (fun _ => rfl) 98 34 (.slice none 0 0) Tryz.underlying98 info15D (by kernel_rfl) (by omega) rfl (.tmp 63) (.tmp 64) rfl rfl B (.slice va j vc) l3 rfl M.out.d g (⟨.slice none 0 0, []⟩ : Tb) (one15D _ ⟨_, _, _, rfl⟩) rfl HQ.out (by rw [HL.out]; omega) (by rw [HL.out]; omega) M.out.B1 ?_; intro v4 w7 ho4 hg4 hw4; obtain ⟨a4, c4, hv4⟩ := own_slice11 ho4; rw [List.length_append, HL.out] at hv4; have HV4 := Lib.hid (show v4 = .slice a4 (j + 1) c4 from hv4); have HO4 := Lib.hid ho4; have HG4 := Lib.hid hg4; have hr9 := (hg4.block q9 (bkT_lt M.out.r9) (fun e => by have := (M.out.d.lt q9 e.symm).1; have := M.out.qB; omega)).trans M.out.r9; obtain ⟨-, k1, k2, k3⟩ := mg_cells hr9; have kf := frozen_of_row w7 q9 3 _ _ hr9; rw [HV4.out]; clear ho4 hg4 hw4 hr9 hv4))
              have HN := Lib.hid (show ShR3 w3 q8 q9 B C8 k x v v2 l l2 (j + 1) (w7.setCell ⟨q9, 3, none⟩ (.slice a4 (j + 1) c4)) from ⟨.slice a4 (j + 1) c4, l3 ++ [(⟨.slice none 0 0, []⟩ : Tb)], by rw [List.length_append, HL.out]; rfl, M.out.grow (o := 3) (v := .slice a4 (j + 1) c4) HG4.out (fun i e => (M.out.d.lt i e).1) HX.out rfl (own_stay11 M.out.t fun i hi => HG4.out.block i (M.out.t.lt i hi).2 (fun e => own_ne15 M.out.d M.out.t (by decide) i hi e.symm)) (own_stay11 M.out.i fun i hi => HG4.out.block i (M.out.i.lt i hi).2 (fun e => own_ne15 M.out.d M.out.i (by decide) i hi e.symm)) (by rw [← HV4.out]; exact HO4.out) M.out.ts0 M.out.is0 (snoc15 M.out.ds0 rfl)⟩)
              clear k1 k2 k3 kf HO4 HG4 M HL HQ HV4
              generalize w7.setCell ⟨q9, 3, none⟩ (.slice a4 (j + 1) c4) = w8 at *
              go_wp2_with (fail)
              go_roundw
              case rel => exact ⟨j + 1, by omega, by go_num, HN⟩
              case measure => simp [intOf]; omega
            · obtain rfl : nc = j := by omega
              have HL3 := Lib.hid hl
              have M := Lib.hid hm
              clear HR hl hm
              obtain ⟨a1, c1, hv1⟩ := own_slice11 M.out.t
              obtain ⟨a2, c2, hv2⟩ := own_slice11 M.out.i
              obtain ⟨a3, c3, hv3⟩ := own_slice11 M.out.d
              rw [HL1.out] at hv1
              rw [HL2.out] at hv2
              rw [HL3.out] at hv3
              subst hv1 hv2 hv3
              obtain ⟨xm, hxm⟩ : ∃ z : Mg, z = ⟨k, .slice a1 na c1, l, .slice a2 nb c2, l2, .slice a3 nc c3, l3⟩ := ⟨_, rfl⟩
              have HXM := Lib.hid hxm
              have HME := Lib.hid (show MgE wr xm from by
                rw [hxm]
                exact ⟨rows_of_own (n := 1) (C := stL) (fun _ => rfl) M.out.t (by rw [HL1.out]; unfold maxLen; omega), rows_of_own (n := 1) (C := itL) (fun _ => rfl) M.out.i (by rw [HL2.out]; unfold maxLen; omega), rows_of_own (n := 1) (C := tdL) (fun _ => rfl) M.out.d (by rw [HL3.out]; unfold maxLen; omega), fun t ht => by rw [M.out.ds0 t ht]; exact nil_in _⟩)
              have HOK := Lib.hid HME.out.v
              obtain ⟨CM, hCM⟩ : ∃ z : Array Value, z = #[.int .i64 k, .slice a1 na c1, .slice a2 nb c2, .slice a3 nc c3] := ⟨_, rfl⟩
              have HCM := Lib.hid (show CM = mgC xm from by rw [hCM, hxm]; rfl)
              have hms : CM.size = 4 := (congrArg Array.size hCM).trans rfl
              have HRC := Lib.hid (show wr.rangeAt q9 0 CM.toList from by rw [hCM]; exact rowT_range M.out.r9)
              have HMF := Lib.hid (show MgFl xm from by rw [hxm]; exact ⟨HKF.out, M.out.is0⟩)
              obtain ⟨p1, p2, p3, p4, -⟩ := pl_of HP.out
              have p5 : x.sg = [] := congrArg Px.sg HP.out
              clear hxm hCM
              have hB1 := M.out.B1
              go_upto_region 17 with (first
                | (refine wpList_load_rowT (by rfl) 100 (.tmp 9) rfl q9 0 rfl CM _ HRC.out Tryz.underlying100 rfl (by rw [hms]; kernel_rfl) ?_)
                | (refine wpList_one15M rfl (.tmp 67) rfl (some 68) rfl xm HOK.out (.agg CM) (by rw [HCM.out]) rfl ?_; (have hb2 := below_alloc wr (.cells (mgL xm).toArray 100)); (have HMI := Lib.hid (show MgIn (wr.alloc (.cells (mgL xm).toArray 100)) (.slice (some ⟨wr.heap.size, 0, none⟩) 1 1) [xm] from rows_new15 wr 100 [xm] _ (fun i y hi j u hu => by match i, hi with | 0, hi => cases hi; simpa using hu) (by unfold maxLen; simp))); (replace HME := Lib.hid (HME.out.below hb2)); (replace M := Lib.hid (M.out.call hb2)); (have hr8 := M.out.r8); (have k4 : (wr.alloc (.cells (mgL xm).toArray 100)).cell? ⟨q8, 4, none⟩ = some x.mv := by (first | (rw [cell_of_row _ _ _ _ _ _ hr8, HC8.out]; rfl) | rw [cell_of_row _ _ _ _ _ _ hr8, HC8.out])); (have kf := frozen_of_row _ q8 4 _ _ hr8); (obtain ⟨g, hg⟩ : ∃ g, g = wr.heap.size := ⟨_, rfl⟩); (have HG8 := Lib.hid (show q8 < g from by rw [hg]; have := M.out.q89; have := M.out.qB; have := hB1; omega)); (rw [← hg] at HMI ⊢); (clear hg hb2 hr8 hB1); (generalize wr.alloc (.cells (mgL xm).toArray 100) = w9 at *)))
              obtain ⟨y, hy⟩ : ∃ z : Tr, z = ⟨annS, 0, atomS, 0, .slice (some ⟨g, 0, none⟩) 1 1, [xm], x.sv, []⟩ := ⟨_, rfl⟩
              have hO := Only.setCell w9 ⟨q8, 4, none⟩ (.slice (some ⟨g, 0, none⟩) 1 1)
              have hr8 : (w9.setCell ⟨q8, 4, none⟩ (.slice (some ⟨g, 0, none⟩) 1 1)).heap[q8]? = some (.cells (trC15 y) 67 (0, 0)) := by
                rw [heap_setCell_same w9 q8 4 _ _ _ M.out.r8, HC8.out, hy]
                unfold trC15
                rw [p1, p2, p3, p4]; rfl
              have hq0 := M.out.q0
              have hb3 : Below w3.heap.size w3 (w9.setCell ⟨q8, 4, none⟩ (.slice (some ⟨g, 0, none⟩) 1 1)) := M.out.below.trans (hO.below hq0 M.out.below.size)
              have HY := Lib.hid (show TrE (w9.setCell ⟨q8, 4, none⟩ (.slice (some ⟨g, 0, none⟩) 1 1)) y from by
                rw [hy]
                have hBq : q8 < B := by have := M.out.q89; have := M.out.qB; omega
                refine ⟨HMI.out.only hO (fun k hk => by simp [Value.ownBlock] at hk; have := HG8.out; show k ≠ q8; omega), fun m hm => ?_, ?_⟩
                · rw [List.mem_singleton.1 hm]
                  refine HME.out.keep hO.size fun j hj => ?_
                  rw [HXM.out] at hj
                  rcases hj with hj | hj | hj | ⟨t, ht, hj⟩
                  · have := M.out.t.lt j hj; exact hO.block j this.2 (by show j ≠ q8; omega)
                  · have := M.out.i.lt j hj; exact hO.block j this.2 (by show j ≠ q8; omega)
                  · have := M.out.d.lt j hj; exact hO.block j this.2 (by show j ≠ q8; omega)
                  · rw [M.out.ds0 t ht] at hj; cases hj
                · have := HX.out.s.below hb3
                  rw [p5] at this
                  exact this)
              have HYP := Lib.hid (show pxP y = ⟨annS, 0, atomS, 0, [mgP xm], []⟩ from by rw [hy]; rfl)
              have HYV := Lib.hid (show y.acc.size ≤ 9223372036854775807 ∧ y.den.size ≤ 140737488351232 from by rw [hy]; exact ⟨by show (3 : Nat) ≤ _; omega, by show (4 : Nat) ≤ _; omega⟩)
              have HR8 := Lib.hid hr8
              have HB10 := Lib.hid (HW35.out.trans (hb3.mono HW35.out.size))
              have HT10 := Lib.hid (HT3.out.below hb3 HT3.out.lt)
              have HG10 := Lib.hid (HG3.out.below hb3)
              have HFM := Lib.hid (show formM (mgP xm) = (kindB k && (decide (na = (shp k).1) && (decide (nb = (shp k).2.1) && decide (nc = (shp k).2.2)))) from by
                rw [HXM.out]
                unfold formM mgP
                simp only [List.length_map]
                rw [HL1.out, HL2.out, HL3.out])
              have HLM := Lib.hid (show longM (mgP xm) = true from by
                rw [HXM.out]
                unfold longM mgP
                simp only
                rw [Bool.and_eq_true, List.all_eq_true, List.all_eq_true]
                refine ⟨fun s hs => decide_eq_true (by have := M.out.ts0 s hs; omega), fun b hb => ?_⟩
                obtain ⟨t, ht, rfl⟩ := List.mem_map.1 hb
                rw [M.out.ds0 t ht]; rfl)
              clear hy hO hr8 hq0 hb3 M HMI HME HRC HG8 k4 kf p1 p2 p3 p4 p5 HC8 HCO HX HP HF HV HL1 HL2 HL3 hms HCM HOK
              generalize w9.setCell ⟨q8, 4, none⟩ (.slice (some ⟨g, 0, none⟩) 1 1) = w10 at *
              unfold shV at HSH
              have HK0 := Lib.hid (show kindB k = false → shp k = (0, 0, 0) from fun h => by unfold shp; rw [h]; rfl)
              obtain ⟨S1, hS1⟩ : ∃ z, z = (shp k).1 := ⟨_, rfl⟩
              obtain ⟨S2, hS2⟩ : ∃ z, z = (shp k).2.1 := ⟨_, rfl⟩
              obtain ⟨S3, hS3⟩ : ∃ z, z = (shp k).2.2 := ⟨_, rfl⟩
              have HSS := Lib.hid (show kindB k = false → S1 = 0 ∧ S2 = 0 ∧ S3 = 0 from fun h => by rw [hS1, hS2, hS3, HK0.out h]; exact ⟨rfl, rfl, rfl⟩)
              rw [← hS1, ← hS2, ← hS3] at HSH HFM
              clear hS1 hS2 hS3 HK0
              go_upto_region 18 with (go_at_call 39; (with_reducible refine (HSH.out _ HT10.out).mono ?_); rintro e w11 ⟨rfl, hb⟩; replace HB10 := Lib.hid (HB10.out.trans (hb.mono HB10.out.size)); replace HT10 := Lib.hid (HT10.out.below hb HT10.out.lt); replace HG10 := Lib.hid (HG10.out.below hb); replace HR8 := Lib.hid ((hb.block q8 (bkT_lt HR8.out)).trans HR8.out); replace HY := Lib.hid (HY.out.below hb); clear hb)
              obtain ⟨E, hE⟩ : ∃ z, z = chkM (mgP xm) := ⟨_, rfl⟩
              have HCK := Lib.hid (show ∀ w, ShTab w → TrE w y → Calls Tryz.prog 32 #[.agg (trC15 y)] w fun e w' => e = .returned (errV E) ∧ Below w.heap.size w w' from fun w h he => by
                have h1 := tcheck_any y w h he HYV.out.1 HYV.out.2
                rw [HYP.out, chkX_pl, ← hE] at h1
                exact h1)
              have HN1 := Lib.hid (show ∀ w, ErrType w → Calls Tryz.prog 31 #[errV (some 1)] w fun r w' => r = .returned (.int .i64 1) ∧ Below w.heap.size w w' from fun w h => num_any (some 1) w h)
              have HE := Lib.hid hE
              clear hE HYP HYV HSH
              obtain ⟨CY, hCY⟩ : ∃ z, z = trC15 y := ⟨_, rfl⟩
              have HZY := Lib.hid (show CY.size = 6 from by rw [hCY]; rfl)
              rw [← hCY] at HR8 HCK
              clear hCY
              have hkb : kindB k = (decide (1 ≤ k) && decide (k ≤ 18)) := rfl
              have hh : ((¬ 1 ≤ k) ∧ E = some 1 ∧ S1 = 0 ∧ S2 = 0 ∧ S3 = 0) ∨ (1 ≤ k ∧ (¬ k ≤ 18) ∧ E = some 1 ∧ S1 = 0 ∧ S2 = 0 ∧ S3 = 0) ∨ (1 ≤ k ∧ k ≤ 18 ∧ (¬ (na : Int) = S1) ∧ E = some 1) ∨ (1 ≤ k ∧ k ≤ 18 ∧ (na : Int) = S1 ∧ (¬ (nb : Int) = S2) ∧ E = some 1) ∨ (1 ≤ k ∧ k ≤ 18 ∧ (na : Int) = S1 ∧ (nb : Int) = S2 ∧ (¬ (nc : Int) = S3) ∧ E = some 1) ∨ (1 ≤ k ∧ k ≤ 18 ∧ (na : Int) = S1 ∧ (nb : Int) = S2 ∧ (nc : Int) = S3 ∧ E = none) := by
                have hbad : formM (mgP xm) = false → E = some 1 := fun h => HE.out.trans (chk_form15 h)
                have hfm := HFM.out
                by_cases h1 : 1 ≤ k
                · by_cases h2 : k ≤ 18
                  · have hkt : kindB k = true := by rw [hkb, decide_eq_true h1, decide_eq_true h2]; rfl
                    rw [hkt, Bool.true_and] at hfm
                    by_cases g1 : na = S1
                    · rw [decide_eq_true g1, Bool.true_and] at hfm
                      by_cases g2 : nb = S2
                      · rw [decide_eq_true g2, Bool.true_and] at hfm
                        by_cases g3 : nc = S3
                        · rw [decide_eq_true g3] at hfm
                          exact .inr (.inr (.inr (.inr (.inr ⟨h1, h2, by omega, by omega, by omega, HE.out.trans (chk_ok15 hfm HLM.out)⟩))))
                        · rw [decide_eq_false g3] at hfm
                          exact .inr (.inr (.inr (.inr (.inl ⟨h1, h2, by omega, by omega, by omega, hbad hfm⟩))))
                      · rw [decide_eq_false g2] at hfm
                        exact .inr (.inr (.inr (.inl ⟨h1, h2, by omega, by omega, hbad hfm⟩)))
                    · rw [decide_eq_false g1] at hfm
                      exact .inr (.inr (.inl ⟨h1, h2, by omega, hbad hfm⟩))
                  · have hkt : kindB k = false := by rw [hkb, decide_eq_false h2]; simp
                    rw [hkt] at hfm
                    obtain ⟨s1, s2, s3⟩ := HSS.out hkt
                    exact .inr (.inl ⟨h1, h2, hbad hfm, s1, s2, s3⟩)
                · have hkt : kindB k = false := by rw [hkb, decide_eq_false h1]; rfl
                  rw [hkt] at hfm
                  obtain ⟨s1, s2, s3⟩ := HSS.out hkt
                  exact .inl ⟨h1, hbad hfm, s1, s2, s3⟩
              have hS1n : (S1 : Int) ≤ 7 ∨ True := .inr trivial
              clear hkb HE HFM HLM HSS hS1n
              rcases hh with ⟨h1, rfl, rfl, rfl, rfl⟩ | ⟨h1, h2, rfl, rfl, rfl, rfl⟩ | ⟨h1, h2, g1, rfl⟩ | ⟨h1, h2, g1, g2, rfl⟩ | ⟨h1, h2, g1, g2, g3, rfl⟩ | ⟨h1, h2, g1, g2, g3, rfl⟩
              · simp only [errV, Int.cast_ofNat_Int] at HCK HN1
                go_wp2_with (first
                  | (refine wpList_load_rowT (by rfl) 67 (.tmp 8) rfl q8 0 rfl CY _ (rowT_range HR8.out) Tryz.underlying67 rfl (by rw [HZY.out]; kernel_rfl) ?_)
                  | (go_at_call 32; (with_reducible refine (HCK.out _ HT10.out HY.out).mono ?_); rintro e w12 ⟨rfl, hb⟩; replace HB10 := Lib.hid (HB10.out.trans (hb.mono HB10.out.size)); replace HT10 := Lib.hid (HT10.out.below hb HT10.out.lt); replace HG10 := Lib.hid (HG10.out.below hb); clear hb)
                  | (go_at_call 31; (with_reducible refine (HN1.out _ HG10.out).mono ?_); rintro e w13 ⟨rfl, hb⟩; replace HB10 := Lib.hid (HB10.out.trans (hb.mono HB10.out.size)); replace HT10 := Lib.hid (HT10.out.below hb HT10.out.lt); clear hb)
                  | (go_at_call 36; (with_reducible refine (HSU.out _ HT10.out).mono ?_); rintro e w14 ⟨rfl, hb⟩; replace HB10 := Lib.hid (HB10.out.trans (hb.mono HB10.out.size)); clear hb))
                go_ret
                exact ⟨rfl, HB10.out⟩
              · simp only [errV, Int.cast_ofNat_Int] at HCK HN1
                go_wp2_with (first
                  | (refine wpList_load_rowT (by rfl) 67 (.tmp 8) rfl q8 0 rfl CY _ (rowT_range HR8.out) Tryz.underlying67 rfl (by rw [HZY.out]; kernel_rfl) ?_)
                  | (go_at_call 32; (with_reducible refine (HCK.out _ HT10.out HY.out).mono ?_); rintro e w12 ⟨rfl, hb⟩; replace HB10 := Lib.hid (HB10.out.trans (hb.mono HB10.out.size)); replace HT10 := Lib.hid (HT10.out.below hb HT10.out.lt); replace HG10 := Lib.hid (HG10.out.below hb); clear hb)
                  | (go_at_call 31; (with_reducible refine (HN1.out _ HG10.out).mono ?_); rintro e w13 ⟨rfl, hb⟩; replace HB10 := Lib.hid (HB10.out.trans (hb.mono HB10.out.size)); replace HT10 := Lib.hid (HT10.out.below hb HT10.out.lt); clear hb)
                  | (go_at_call 36; (with_reducible refine (HSU.out _ HT10.out).mono ?_); rintro e w14 ⟨rfl, hb⟩; replace HB10 := Lib.hid (HB10.out.trans (hb.mono HB10.out.size)); clear hb))
                go_ret
                exact ⟨rfl, HB10.out⟩
              · simp only [errV, Int.cast_ofNat_Int] at HCK HN1
                go_wp2_with (first
                  | (refine wpList_load_rowT (by rfl) 67 (.tmp 8) rfl q8 0 rfl CY _ (rowT_range HR8.out) Tryz.underlying67 rfl (by rw [HZY.out]; kernel_rfl) ?_)
                  | (go_at_call 32; (with_reducible refine (HCK.out _ HT10.out HY.out).mono ?_); rintro e w12 ⟨rfl, hb⟩; replace HB10 := Lib.hid (HB10.out.trans (hb.mono HB10.out.size)); replace HT10 := Lib.hid (HT10.out.below hb HT10.out.lt); replace HG10 := Lib.hid (HG10.out.below hb); clear hb)
                  | (go_at_call 31; (with_reducible refine (HN1.out _ HG10.out).mono ?_); rintro e w13 ⟨rfl, hb⟩; replace HB10 := Lib.hid (HB10.out.trans (hb.mono HB10.out.size)); replace HT10 := Lib.hid (HT10.out.below hb HT10.out.lt); clear hb)
                  | (go_at_call 36; (with_reducible refine (HSU.out _ HT10.out).mono ?_); rintro e w14 ⟨rfl, hb⟩; replace HB10 := Lib.hid (HB10.out.trans (hb.mono HB10.out.size)); clear hb))
                go_ret
                exact ⟨rfl, HB10.out⟩
              · simp only [errV, Int.cast_ofNat_Int] at HCK HN1
                go_wp2_with (first
                  | (refine wpList_load_rowT (by rfl) 67 (.tmp 8) rfl q8 0 rfl CY _ (rowT_range HR8.out) Tryz.underlying67 rfl (by rw [HZY.out]; kernel_rfl) ?_)
                  | (go_at_call 32; (with_reducible refine (HCK.out _ HT10.out HY.out).mono ?_); rintro e w12 ⟨rfl, hb⟩; replace HB10 := Lib.hid (HB10.out.trans (hb.mono HB10.out.size)); replace HT10 := Lib.hid (HT10.out.below hb HT10.out.lt); replace HG10 := Lib.hid (HG10.out.below hb); clear hb)
                  | (go_at_call 31; (with_reducible refine (HN1.out _ HG10.out).mono ?_); rintro e w13 ⟨rfl, hb⟩; replace HB10 := Lib.hid (HB10.out.trans (hb.mono HB10.out.size)); replace HT10 := Lib.hid (HT10.out.below hb HT10.out.lt); clear hb)
                  | (go_at_call 36; (with_reducible refine (HSU.out _ HT10.out).mono ?_); rintro e w14 ⟨rfl, hb⟩; replace HB10 := Lib.hid (HB10.out.trans (hb.mono HB10.out.size)); clear hb))
                go_ret
                exact ⟨rfl, HB10.out⟩
              · simp only [errV, Int.cast_ofNat_Int] at HCK HN1
                go_wp2_with (first
                  | (refine wpList_load_rowT (by rfl) 67 (.tmp 8) rfl q8 0 rfl CY _ (rowT_range HR8.out) Tryz.underlying67 rfl (by rw [HZY.out]; kernel_rfl) ?_)
                  | (go_at_call 32; (with_reducible refine (HCK.out _ HT10.out HY.out).mono ?_); rintro e w12 ⟨rfl, hb⟩; replace HB10 := Lib.hid (HB10.out.trans (hb.mono HB10.out.size)); replace HT10 := Lib.hid (HT10.out.below hb HT10.out.lt); replace HG10 := Lib.hid (HG10.out.below hb); clear hb)
                  | (go_at_call 31; (with_reducible refine (HN1.out _ HG10.out).mono ?_); rintro e w13 ⟨rfl, hb⟩; replace HB10 := Lib.hid (HB10.out.trans (hb.mono HB10.out.size)); replace HT10 := Lib.hid (HT10.out.below hb HT10.out.lt); clear hb)
                  | (go_at_call 36; (with_reducible refine (HSU.out _ HT10.out).mono ?_); rintro e w14 ⟨rfl, hb⟩; replace HB10 := Lib.hid (HB10.out.trans (hb.mono HB10.out.size)); clear hb))
                go_ret
                refine ⟨?_, HB10.out⟩
                have hne : ((nc : Int) == (S3 : Int)) = false := beq_eq_false_iff_ne.2 g3
                show Ending.returned (.bool (!((nc : Int) == (S3 : Int)))) = _
                rw [hne]; rfl
              · simp only [errV, Int.cast_ofNat_Int] at HCK HN1
                go_wp2_with (first
                  | (refine wpList_load_rowT (by rfl) 67 (.tmp 8) rfl q8 0 rfl CY _ (rowT_range HR8.out) Tryz.underlying67 rfl (by rw [HZY.out]; kernel_rfl) ?_)
                  | (go_at_call 32; (with_reducible refine (HCK.out _ HT10.out HY.out).mono ?_); rintro e w12 ⟨rfl, hb⟩; replace HB10 := Lib.hid (HB10.out.trans (hb.mono HB10.out.size)); replace HT10 := Lib.hid (HT10.out.below hb HT10.out.lt); replace HG10 := Lib.hid (HG10.out.below hb); clear hb)
                  | (go_at_call 31; (with_reducible refine (HN1.out _ HG10.out).mono ?_); rintro e w13 ⟨rfl, hb⟩; replace HB10 := Lib.hid (HB10.out.trans (hb.mono HB10.out.size)); replace HT10 := Lib.hid (HT10.out.below hb HT10.out.lt); clear hb)
                  | (go_at_call 36; (with_reducible refine (HSU.out _ HT10.out).mono ?_); rintro e w14 ⟨rfl, hb⟩; replace HB10 := Lib.hid (HB10.out.trans (hb.mono HB10.out.size)); clear hb))
                go_ret
                exact ⟨rfl, HB10.out⟩
end Go.Proofs.YtllpnpeppdfjlaaGreatDoor
namespace Go.Proofs.YtllpnpeppdfjlaaGreatDoor
set_option linter.unusedVariables false
set_option linter.unusedSimpArgs false
open Go.ChangeShapes Go.WideShapes Go.ChangeAt Go.RowKit
/-- a slice of slices of bytes -/
def BssIn (w : World) (v : Value) (ps : List (List Int)) : Prop :=
  ∃ a c, v = .slice a ps.length c ∧ ps.length ≤ c ∧ ps.length ≤ maxLen ∧ (ps = [] ∨ ∃ ab ao, a = some ⟨ab, ao, none⟩ ∧ ∀ i p, ps[i]? = some p → ∃ u, w.cell? ⟨ab, ao + i, none⟩ = some u ∧ BytesIn w u p)
theorem BssIn.below {w w' : World} {v : Value} {ps : List (List Int)} (h : BssIn w v ps) (hb : Below w.heap.size w w') : BssIn w' v ps := by
  obtain ⟨a, c, rfl, hc, hm, hx⟩ := h
  refine ⟨a, c, rfl, hc, hm, ?_⟩
  rcases hx with hx | ⟨ab, ao, rfl, hx⟩
  · exact .inl hx
  · refine .inr ⟨ab, ao, rfl, fun i p hi => ?_⟩
    obtain ⟨u, hu, hp⟩ := hx i p hi
    exact ⟨u, (hb.cell (p := ⟨ab, ao + i, none⟩) (World.block_lt_of_cell? w _ hu)).trans hu, hp.below hb⟩
end Go.Proofs.YtllpnpeppdfjlaaGreatDoor
namespace Go.Proofs.YtllpnpeppdfjlaaGreatDoor
set_option linter.unusedVariables false
set_option linter.unusedSimpArgs false
open Go.ChangeShapes Go.WideShapes Go.ChangeAt Go.RowKit
theorem okWide_arr {P : Program} {w : World} {r : Reach} {base : Nat} {t e : TypeId} {n : Nat} {v : Value} (ht : P.underlying t = some (.array n e)) (h : Value.okWide P w r base t v) : ∃ cs, v = .agg cs ∧ cs.size = P.cellsOf t := by
  simp only [Value.okWide, ht] at h
  obtain ⟨cs, h1, h2, _⟩ := h
  exact ⟨cs, h1, h2⟩
theorem one_take {α : Type} {l : List α} {k : Nat} {v : α} (h : (l.drop k).take 1 = [v]) : l[k]? = some v := by
  have h1 : ((l.drop k).take 1)[0]? = some v := by rw [h]; rfl
  rw [List.getElem?_take, if_pos (by omega), List.getElem?_drop, Nat.add_zero] at h1
  exact h1
theorem arr_raw {H : Type} {enc : TypeId × Value → H} {W : World} {t e : TypeId} {k : IntKind} {n fuel : Nat} {cs : List Value} {x : DataW H × List MemPlace} (ht : Tryz.prog.underlying t = some (.array n e)) (he : Tryz.prog.underlying e = some (.int k)) (hc : Tryz.prog.cellsOf e = 1) (hct : Tryz.prog.cellsOf t = n)
    (h : DataW.trod enc Tryz.prog W 0 (fun _ => true) true fuel t cs = some x) : ∃ F : Nat → Int, cs = (rowOf k n F).toList ∧ ∀ i, i < n → (Lit.int k (F i)).wf = true := by
  obtain ⟨zs, m', _, _, hl, hzl, hzs⟩ := DataW.trod_array ht h
  have key : ∃ F : Nat → Int, ∀ j, j < n → cs[j]? = some (.int k (F j)) ∧ (Lit.int k (F j)).wf = true := by
    refine Deep.choose_lt (p := fun j v => cs[j]? = some (.int k v) ∧ (Lit.int k v).wf = true) fun j hj => ?_
    have h3 := hzs j hj
    rw [hc, Nat.mul_one, List.getElem?_eq_getElem (by omega)] at h3
    obtain ⟨v, hv, _, hw⟩ := DataW.trod_int he h3
    exact ⟨v, one_take hv, hw⟩
  obtain ⟨F, hF⟩ := key
  refine ⟨F, ?_, fun i hi => (hF i hi).2⟩
  apply List.ext_getElem?
  intro i
  rcases Nat.lt_or_ge i n with h1 | h1
  · rw [(hF i h1).1]; simp [rowOf, h1]
  · rw [List.getElem?_eq_none (by rw [hl, hct]; exact h1), List.getElem?_eq_none (by simpa [rowOf] using h1)]
theorem arr_arg {H : Type} {enc : TypeId × Value → H} {W : World} {t e : TypeId} {k : IntKind} {n : Nat} {cs : Array Value} {d : DataW H} {p : List MemPlace} (ht : Tryz.prog.underlying t = some (.array n e)) (he : Tryz.prog.underlying e = some (.int k)) (hc : Tryz.prog.cellsOf e = 1) (hct : Tryz.prog.cellsOf t = n)
    (h : DataW.Trod enc Tryz.prog W 0 (fun _ => true) true t (.agg cs) d p) : ∃ F : Nat → Int, cs = rowOf k n F ∧ ∀ i, i < n → (Lit.int k (F i)).wf = true := by
  obtain ⟨fuel, hf⟩ := h
  obtain ⟨F, h1, h2⟩ := arr_raw ht he hc hct hf
  refine ⟨F, ?_, h2⟩
  have h3 : cs.toList = (rowOf k n F).toList := by simpa [Value.cells] using h1
  exact Array.toList_inj.1 h3
end Go.Proofs.YtllpnpeppdfjlaaGreatDoor
namespace Go.Proofs.YtllpnpeppdfjlaaGreatDoor
set_option linter.unusedVariables false
set_option linter.unusedSimpArgs false
open Go.ChangeShapes Go.WideShapes Go.ChangeAt Go.RowKit
set_option maxRecDepth 100000
theorem doorOwn : ownKnob Tryz.prog.godebug = none := by kernel_rfl
theorem doorLaidOut : laidOutB Tryz.prog = true := by kernel_rfl
def laidTx : List (String × DataW Unit) := [("unicode/utf8.acceptRanges", Rows.laid_unicode_utf8_acceptRanges), ("errors.errorType", Rows.laid_errors_errorType), ("isthmus/txs.shapes", Rows.laid_isthmus_txs_shapes), ("unicode/utf8.first", Rows.laid_unicode_utf8_first)]
def laidTd : List (String × DataW Unit) := [("unicode/utf8.acceptRanges", Rows.laid_unicode_utf8_acceptRanges), ("isthmus/txs.shapes", Rows.laid_isthmus_txs_shapes), ("unicode/utf8.first", Rows.laid_unicode_utf8_first)]
def laidEr : List (String × DataW Unit) := [("errors.errorType", Rows.laid_errors_errorType)]
theorem doorEt : Tryz.prog.globalNamed "errors.errorType" = some 1 := by kernel_rfl
theorem doorRt : (Tryz.prog.cutTypes.find? (·.1 == "internal/reflectlite.rtype")).map (·.2) = some 276 := by kernel_rfl
theorem doorOneRow : ((List.range Tryz.prog.types.size).filter fun t => Tryz.prog.rowNamed t [101, 114, 114, 111, 114]) = [29] := by kernel_rfl
theorem nShapes : Tryz.prog.globalNamed "isthmus/txs.shapes" = some 0 := by kernel_rfl
theorem tyShapes : (Tryz.prog.globals[0]?).map (·.type) = some 164 := by kernel_rfl
theorem dShapes {H : Type} : (Rows.laid_isthmus_txs_shapes : DataW H) = .agg (shpL.map fun r => .agg ((shpR r).map fun z => .lit (.int .i64 z))) := by rfl
theorem tx_tab {W : World} (h : laidMetH Tryz.prog laidTx W) : ShTab W := by
  have h' : laidMet Tryz.prog laidTd W ∧ handlesMet Tryz.prog laidEr W := h
  have h := h'.1.tail
  rw [dShapes] at h
  exact shTab_of_head nShapes tyShapes h
theorem tx_err {W : World} (h : laidMetH Tryz.prog laidTx W) : ErrType W := by
  have h' : laidMet Tryz.prog laidTd W ∧ handlesMet Tryz.prog laidEr W := h
  obtain ⟨name, u, ty, e1, e2, e3, e4, e5⟩ := h'.2 _ (List.mem_singleton.2 rfl)
  have en : name = [101, 114, 114, 111, 114] := (Option.some.inj e1).symm
  subst en
  obtain rfl := Option.some.inj (doorRt.symm.trans e2)
  have hm : ty ∈ (List.range Tryz.prog.types.size).filter fun t => Tryz.prog.rowNamed t [101, 114, 114, 111, 114] := List.mem_filter.2 ⟨List.mem_range.2 e3, e4⟩
  rw [doorOneRow] at hm
  obtain rfl := List.mem_singleton.1 hm
  have hh : typeHandle Tryz.prog 29 = .pointer (some ⟨8, 29, none⟩) := by kernel_rfl
  rw [hh] at e5
  unfold ErrType
  simpa using World.var?_cell doorEt e5 0
noncomputable def txWorld (os : Os) : World := (World.doorLaid Tryz.prog 400 os).layVars Tryz.prog laidTd
theorem tx_os (os : Os) : (txWorld os).os = os := World.layVars_os _ _ _
theorem tx_met (os : Os) (args : Array Value) : laidMetH Tryz.prog laidTx ((txWorld os).forCall (fun _ _ => 0) ⟨#[], args, []⟩).memory :=
  laidMetH_of_parts3 (fuel := 8)
    ((laidMet_layVars (w0 := World.doorLaid Tryz.prog 400 os) (w' := txWorld os) (laid := laidTd) ["unicode/utf8.acceptRanges", "isthmus/txs.shapes", "unicode/utf8.first"] [] (by rfl) (by kernel_rfl) (by kernel_rfl) LaidIn.none).of_heap (by simp [World.memory, World.forCall, Input.heap]))
    (by kernel_rfl) (by kernel_rfl)
end Go.Proofs.YtllpnpeppdfjlaaGreatDoor
namespace Go.Proofs.YtllpnpeppdfjlaaGreatDoor
set_option linter.unusedVariables false
set_option linter.unusedSimpArgs false
open Go.ChangeShapes Go.WideShapes Go.ChangeAt Go.RowKit
set_option maxRecDepth 100000
theorem txshapes_lifted (os : Os) (started : os.Started) (H : Type) (enc : TypeId × Value → H) :
    ReturnsInHanded {} Tryz.checked os 9 .any (fun w args => (Rows.txsShapesSpec.pre enc Tryz.prog Tryz.f9 [] false w args ∧ laidMetH Tryz.prog laidTx w) ∧ sizedMet enc Tryz.prog Tryz.f9 (OpenSpec.ofChange Rows.txsShapesSpec) false w args)
      (Rows.txsShapesSpec.post enc Tryz.prog Tryz.f9 false true false false) := by
  refine returnsInHanded_of_change_and (C := Tryz.checked) (X := fun w _ => laidMetH Tryz.prog laidTx w) (fun _ _ _ hh h => h.of_heap hh) doorOwn started (by kernel_rfl) Tryz.func9
    (ChangeSpec.witness_shaped (enc := enc) (C := Tryz.checked) (os := os) (X := fun w _ => laidMetH Tryz.prog laidTx w) false (txWorld os) #[.int .i64 0, .agg (Array.replicate 3 (.int .i64 0))] 8 (tx_os os) (World.shaped_of_RefB (by kernel_rfl) (by kernel_rfl)) (by kernel_rfl) (by kernel_rfl) (by kernel_rfl) (tx_met os _)) ?_
  intro W base args ds gs before hval0 hW _ _ hL _
  have hval : ∀ (j : Nat) t v, Tryz.f9.params[j]? = some t → args[j]? = some v → Value.okWide Tryz.prog W .any base t v := hval0
  have hW' := hW
  obtain ⟨p, q, hA0, hV, rfl, hfz, hnd⟩ := hW
  have hA : DataW.TrodAll enc Tryz.prog W 0 (fun _ => true) true Tryz.f9.params.toList args.toList ds p := hA0
  rw [Tryz.params9] at hA hval
  obtain ⟨v0, vs0, d0, ds0, p0, q0, hargs, rfl, rfl, h0, r0⟩ := trodAll_cons hA
  obtain ⟨v1, vs1, d1, ds1, p1, q1, rfl, rfl, rfl, h1, r1⟩ := trodAll_cons r0
  obtain ⟨rfl, rfl, rfl⟩ := trodAll_nil r1
  obtain rfl : args = #[v0, v1] := by cases args; simp_all
  obtain ⟨rfl, rfl⟩ := trodVars_none hV
  obtain ⟨a0, rfl, rfl, rfl, w0⟩ := open_int Tryz.underlying3 (hval 0 3 v0 rfl rfl) h0
  have b0 := bounds_i64 w0
  obtain ⟨cs1, rfl, -⟩ := okWide_arr Tryz.underlying96 (hval 1 96 v1 rfl rfl)
  have k1 := h1
  have lt1 : ∀ x ∈ p1, x.block < W.heap.size := by obtain ⟨m, hm⟩ := k1; exact DataW.trod_lt m _ _ _ hm
  obtain ⟨F1, rfl, wf1⟩ := arr_arg Tryz.underlying96 Tryz.underlying3 (by kernel_rfl) (by kernel_rfl) h1
  clear hA0 hval0
  refine (lxshapes_any a0 F1 W (tx_tab hL) (tx_err hL) b0).mono fun e W' ⟨he, bel⟩ => ?_
  subst he
  exact ⟨_, rfl, _, _, _, [], _, [], hW', trodAll_mk1 (shut_bool Tryz.underlying4 _), (trodAll_cons_mk (shut_int Tryz.underlying3 w0) (trodAll_cons_mk (Below.trod doorLaidOut (by kernel_rfl) (of_decide_eq_true (by kernel_rfl)) k1 bel lt1) trodAll_mk0)), rfl, bel.frame _, fun h => by cases h⟩
theorem txshapes_holds : Rows.TxsShapesSaid :=
  OpenClaim.holds_of_wide 9 Tryz.f9 rfl rfl rfl rfl rfl rfl rfl ⟨rfl, rfl, rfl, rfl, rfl⟩ rfl rfl rfl rfl rfl (by kernel_rfl) Tryz.func9 (by kernel_rfl)
    (of_decide_eq_true (by kernel_rfl)) (by unfold Func.isWrapper; first | (rw [if_pos (by decide +kernel)]; kernel_rfl) | (rw [if_neg (by decide +kernel)]; exact ⟨rfl, rfl⟩))
    (fun os started H enc _ => txshapes_lifted os started H enc)
theorem txshapes_card : Rows.TxsShapesCardSaid :=
  Claim7.holds_tied_plain_at .later [] [.data, .handle, .data, .pinned] true _ true
    txshapes_holds (fun _ h => by cases h) (by kernel_rfl) (fun _ h => by cases h) txsShapes_row_tie rfl ⟨rfl, rfl⟩ (by kernel_rfl) rfl
    (fun f fn hf hfn => by
      obtain rfl : f = 9 := Option.some.inj ((show Tryz.prog.funcNamed "isthmus/isthmuslaw15.TxsShapes" = some 9 by kernel_rfl).symm.trans hf) |>.symm
      obtain rfl : fn = Tryz.f9 := (Option.some.inj (Tryz.func9.symm.trans hfn)).symm
      exact ⟨by kernel_rfl, fun j t ht => by
        rw [Tryz.params9] at ht
        have hm : t ∈ [3, 96] := by simpa using Array.mem_of_getElem? ht
        have hall : ([3, 96].all fun u => !Tryz.prog.wantsStandIn u) = true := by kernel_rfl
        exact (show Tryz.prog.wantsStandIn t = false by simpa using List.all_eq_true.1 hall t hm)⟩)
    (by kernel_rfl)
#print axioms txshapes_card
end Go.Proofs.YtllpnpeppdfjlaaGreatDoor
