/- Part 18 of the proof. -/
import Derived.Test.YteokgklfljhcaaaGreatDoorSe3
import Derived.Test.YteokgklfljhcaaaGreatDoorSe14
import Derived.Test.YteokgklfljhcaaaGreatDoorSe16
import Derived.Test.YteokgklfljhcaaaGreatDoorSe17
namespace Go.Proofs.YteokgklfljhcaaaGreatDoor
set_option linter.unusedVariables false
set_option linter.unusedSimpArgs false
open Go.RowKit
set_option maxRecDepth 100000
set_option linter.unusedSimpArgs false
set_option linter.unusedVariables false
def vrD (CH : ByteArray) (KE : Nat → Int) (PW : Int) : Array Value := #[.string CH] ++ (rowOf .u8 32 KE ++ #[.int .i64 PW])
theorem vrD_size (CH : ByteArray) (KE : Nat → Int) (PW : Int) : (vrD CH KE PW).size = 34 := by simp [vrD, rowOf_size]
theorem vrC_D (CH : ByteArray) (KE : Nat → Int) (PW : Int) : vaC ⟨CH, KE, PW⟩ = vrD CH KE PW := by apply Array.toList_inj.1; simp [vaC, vrD]
theorem vrD_one (CH : ByteArray) (KE : Nat → Int) (PW : Int) : (vrD CH KE PW).all (·.oneCell') = true := by
  unfold vrD
  simp only [Array.all_append, rowOf_one]
  simp [Value.oneCell']
theorem vrD_c0 {CH : ByteArray} {KE : Nat → Int} {PW : Int} {w : World} {g : Nat} {T : TypeId} (h : w.heap[g]? = some (.cells (vrD CH KE PW) T (0, 0))) : w.cell? ⟨g, 0, none⟩ = some (.string CH) := cellT_app (x := .string CH) (A := #[]) (C := rowOf .u8 32 KE ++ (#[.int .i64 PW])) h (by apply Array.toList_inj.1; simp [vrD, rowOf_size]) (by simp [vrD, rowOf_size])
theorem vrD_s0 {CH : ByteArray} {KE : Nat → Int} {PW : Int} {CH' : ByteArray} {w : World} {g : Nat} {T : TypeId} (h : w.heap[g]? = some (.cells (vrD CH KE PW) T (0, 0))) : (w.setCell ⟨g, 0, none⟩ (.string CH')).heap[g]? = some (.cells (vrD CH' KE PW) T (0, 0)) := setT_one (x := .string CH) (y := .string CH') (A := #[]) (C := rowOf .u8 32 KE ++ (#[.int .i64 PW])) h (by apply Array.toList_inj.1; simp [vrD, rowOf_size]) (by apply Array.toList_inj.1; simp [vrD, rowOf_size]) (by simp [vrD, rowOf_size])
theorem vrD_s1 {CH : ByteArray} {KE : Nat → Int} {PW : Int} {KE' : Nat → Int} {w : World} {g : Nat} {T : TypeId} (h : w.heap[g]? = some (.cells (vrD CH KE PW) T (0, 0))) : (w.setCells g 1 (rowOf .u8 32 KE').toList).heap[g]? = some (.cells (vrD CH KE' PW) T (0, 0)) := setT_app (A := #[.string CH]) (B := rowOf .u8 32 KE) (C := #[.int .i64 PW]) h (by apply Array.toList_inj.1; simp [vrD, rowOf_size]) (by apply Array.toList_inj.1; simp [vrD, rowOf_size]) (by simp [vrD, rowOf_size]) (by simp [vrD, rowOf_size])
theorem vrD_t1 {CH : ByteArray} {KE : Nat → Int} {PW : Int} {w : World} {g : Nat} {T : TypeId} (h : w.heap[g]? = some (.cells (vrD CH KE PW) T (0, 0))) : w.there g 1 32 := by
  have := thereT (A := #[.string CH]) (B := rowOf .u8 32 KE) (C := #[.int .i64 PW]) (n := 1) h (by apply Array.toList_inj.1; simp [vrD, rowOf_size]) (by simp [vrD, rowOf_size])
  have e : (rowOf .u8 32 KE).size = 32 := by simp [vrD, rowOf_size]
  rwa [e] at this
theorem vrD_c2 {CH : ByteArray} {KE : Nat → Int} {PW : Int} {w : World} {g : Nat} {T : TypeId} (h : w.heap[g]? = some (.cells (vrD CH KE PW) T (0, 0))) : w.cell? ⟨g, 33, none⟩ = some (.int .i64 PW) := cellT_app (x := .int .i64 PW) (A := #[.string CH] ++ rowOf .u8 32 KE) (C := #[]) h (by apply Array.toList_inj.1; simp [vrD, rowOf_size]) (by simp [vrD, rowOf_size])
theorem vrD_s2 {CH : ByteArray} {KE : Nat → Int} {PW : Int} {PW' : Int} {w : World} {g : Nat} {T : TypeId} (h : w.heap[g]? = some (.cells (vrD CH KE PW) T (0, 0))) : (w.setCell ⟨g, 33, none⟩ (.int .i64 PW')).heap[g]? = some (.cells (vrD CH KE PW') T (0, 0)) := setT_one (x := .int .i64 PW) (y := .int .i64 PW') (A := #[.string CH] ++ rowOf .u8 32 KE) (C := #[]) h (by apply Array.toList_inj.1; simp [vrD, rowOf_size]) (by apply Array.toList_inj.1; simp [vrD, rowOf_size]) (by simp [vrD, rowOf_size])
abbrev LvM (B : Nat) (vv : Value) (l : List Va) (w : World) : Prop := LsM 34 vaTL 54 (fun _ => Value.slice none 0 0) (fun _ => []) B vv l w
/-- while a list is read: the Reader's block N, the result's block -/
structure RsM (w : World) (N : Nat) (ob : Option Nat) (s : RSt) (wr : World) : Prop where
  eN : N = w.heap.size
  below : Below N w wr
  rd : ∃ ra rn rc, wr.heap[N]? = some (.cells (rdC (.slice ra rn rc) (numE s.2)) 104 (0, 0)) ∧ BytesIn wr (.slice ra rn rc) s.1 ∧ (Value.slice ra rn rc).ownBlock = ob
  res : wr.heap[N + 1]? = some (.cells (rdC (.slice none 0 0) 0) 104 (0, 0))
  obN : s.1 ≠ [] → ∀ k, ob = some k → k < N
theorem RsM.call {w : World} {N : Nat} {ob : Option Nat} {s : RSt} {wr wr' : World} (m : RsM w N ob s wr) (hb : Below wr.heap.size wr wr') : RsM w N ob s wr' := by
  obtain ⟨ra, rn, rc, h5, hin, ho⟩ := m.rd
  exact ⟨m.eN, m.below.trans (hb.mono (by rw [m.eN]; exact m.below.size)), ⟨ra, rn, rc, (hb.block _ (bkT_lt h5)).trans h5, hin.below hb, ho⟩, (hb.block _ (bkT_lt m.res)).trans m.res, m.obN⟩
theorem RsM.read {w : World} {N : Nat} {ob : Option Nat} {s s' : RSt} {wr : World} (m : RsM w N ob s wr) {a : Option Addr} {n c : Nat} (hx : BytesIn wr (.slice a n c) s'.1) (ho : (Value.slice a n c).ownBlock = ob) (hs : s.1 = [] → s'.1 = []) : RsM w N ob s' (wr.setRow N (rdC (.slice a n c) (numE s'.2))) := by
  obtain ⟨ra, rn, rc, h5, hin, _⟩ := m.rd
  exact ⟨m.eN, below_setRow m.below (Nat.le_refl _) _, ⟨a, n, c, setRow_heap _ _ _ _ _ _ h5, bytes_row hx h5 _, ho⟩, (setRow_other _ _ _ _ (by omega)).trans m.res, fun hn => m.obN fun e => hn (hs e)⟩
theorem RsM.put {w : World} {N q : Nat} {ob : Option Nat} {s : RSt} {wr wr' : World} (m : RsM w N ob s wr) (h3 : N + 1 < q) (ho : Only q wr wr') : RsM w N ob s wr' := by
  obtain ⟨ra, rn, rc, h5, hin, hob⟩ := m.rd
  exact ⟨m.eN, m.below.trans (ho.below (by omega) (by rw [m.eN]; exact m.below.size)), ⟨ra, rn, rc, (ho.block _ (bkT_lt h5) (by omega)).trans h5, hin.only11 ho (fun hn k hk => by have := m.obN hn k (hob ▸ hk); omega), hob⟩, (ho.block _ (bkT_lt m.res) (by omega)).trans m.res, m.obN⟩
theorem RsM.grow {w : World} {N : Nat} {ob : Option Nat} {s : RSt} {wr wr' : World} (m : RsM w N ob s wr) {own : Option Nat} (hg : wr.grownBy wr' own) (ho : ∀ k, own = some k → N + 1 < k) : RsM w N ob s wr' := by
  have hne : ∀ k, k ≤ N + 1 → some k ≠ own := fun k hk e => by have := ho k e.symm; omega
  obtain ⟨ra, rn, rc, h5, hin, hob⟩ := m.rd
  have blk : ∀ {k : Nat} {o : Obj}, wr.heap[k]? = some o → k ≤ N + 1 → wr'.heap[k]? = some o := fun {k o} h hk => (hg.block k (bkT_lt h) (hne k hk)).trans h
  refine ⟨m.eN, m.below.trans ⟨hg.os, hg.tape, hg.output, hg.size, fun k hk => hg.block k (Nat.lt_of_lt_of_le hk (by rw [m.eN]; exact m.below.size)) (hne k (by omega))⟩, ⟨ra, rn, rc, blk h5 (by omega), ?_, hob⟩, blk m.res (by omega), m.obN⟩
  exact bytes_blk11 hin fun hn k hk => hg.block k (bytes_own11 hin hn k hk) (hne k (by have := m.obN hn k (hob ▸ hk); omega))
/-- and the record that is being read -/
structure RsQ (w : World) (N q : Nat) (ob : Option Nat) (s : RSt) (cs : Array Value) (wr : World) : Prop where
  m : RsM w N ob s wr
  at_ : wr.heap[q]? = some (.cells cs 54 (0, 0))
  q2 : N + 1 < q
theorem RsQ.rd {w : World} {N q : Nat} {ob : Option Nat} {s : RSt} {cs : Array Value} {wr : World} (m : RsQ w N q ob s cs wr) : ∃ ra rn rc, wr.heap[N]? = some (.cells (rdC (.slice ra rn rc) (numE s.2)) 104 (0, 0)) ∧ BytesIn wr (.slice ra rn rc) s.1 ∧ (Value.slice ra rn rc).ownBlock = ob := m.m.rd
theorem RsQ.call {w : World} {N q : Nat} {ob : Option Nat} {s : RSt} {cs : Array Value} {wr wr' : World} (m : RsQ w N q ob s cs wr) (hb : Below wr.heap.size wr wr') : RsQ w N q ob s cs wr' := ⟨m.m.call hb, (hb.block _ (bkT_lt m.at_)).trans m.at_, m.q2⟩
theorem RsQ.read {w : World} {N q : Nat} {ob : Option Nat} {s s' : RSt} {cs : Array Value} {wr : World} (m : RsQ w N q ob s cs wr) {a : Option Addr} {n c : Nat} (hx : BytesIn wr (.slice a n c) s'.1) (ho : (Value.slice a n c).ownBlock = ob) (hs : s.1 = [] → s'.1 = []) : RsQ w N q ob s' cs (wr.setRow N (rdC (.slice a n c) (numE s'.2))) := ⟨m.m.read hx ho hs, (setRow_other _ _ _ _ (by have := m.q2; omega)).trans m.at_, m.q2⟩
theorem RsQ.row {w : World} {N q : Nat} {ob : Option Nat} {s : RSt} {cs : Array Value} {wr : World} (m : RsQ w N q ob s cs wr) (C : Array Value) {v : Value} {ys : List Int} (h : BytesIn wr v ys) : BytesIn (wr.setRow N C) v ys := by
  obtain ⟨ra, rn, rc, h5, hin, _⟩ := m.rd
  exact bytes_row h h5 _
theorem RsQ.put {w : World} {N q : Nat} {ob : Option Nat} {s : RSt} {cs cs' : Array Value} {wr wr' : World} (m : RsQ w N q ob s cs wr) (ho : Only q wr wr') (h : wr'.heap[q]? = some (.cells cs' 54 (0, 0))) : RsQ w N q ob s cs' wr' := ⟨m.m.put m.q2 ho, h, m.q2⟩
theorem va_k11 {s : RSt} (h : okR11 s) : okR11 (vaR s) := intS_k11 (hashS_k11 (partS_k11 h))
theorem vaN_k11 {s : RSt} (h : okR11 s) : ∀ k, okR11 (vaN k s)
  | 0 => h
  | k + 1 => va_k11 (vaN_k11 h k)
/-- in the loop of ReadSet -/
def RstL (w : World) (ob : Option Nat) (s1 : RSt) (B k : Nat) (vv : Value) (wr : World) : Prop := RsM w w.heap.size ob (vaN k s1) wr ∧ LvM B vv (vas k s1) wr ∧ w.heap.size + 1 < B ∧ B ≤ wr.heap.size
theorem rst_start {w w1 : World} {v : Value} {s : RSt} (hin : BytesIn w v s.1) (hA : (w.alloc (.cells (rdC v (numE s.2)) 104)).alloc (.cells (rdC (.slice none 0 0) 0) 104) = w1) : RsM w w.heap.size v.ownBlock s w1 ∧ w1.heap.size = w.heap.size + 2 := by
  obtain ⟨a, c, rfl, -⟩ := id hin
  have b1 := below_alloc w (.cells (rdC (.slice a s.1.length c) (numE s.2)) 104)
  have b2 := below_alloc (w.alloc (.cells (rdC (.slice a s.1.length c) (numE s.2)) 104)) (.cells (rdC (.slice none 0 0) 0) 104)
  have h1 := heap_alloc_new w (.cells (rdC (.slice a s.1.length c) (numE s.2)) 104)
  have h2 := heap_alloc_new (w.alloc (.cells (rdC (.slice a s.1.length c) (numE s.2)) 104)) (.cells (rdC (.slice none 0 0) 0) 104)
  simp only [size_alloc] at h2
  have bb := b1.trans (b2.mono (by simp))
  have g1 := (b2.block w.heap.size (by simp)).trans h1
  rw [hA] at bb g1 h2
  exact ⟨⟨rfl, bb, ⟨a, _, c, g1, hin.below bb, rfl⟩, h2, fun hn k hk => bytes_own11 hin hn k hk⟩, by rw [← hA]; simp⟩
theorem LvM.put {B g : Nat} {vv : Value} {l : List Va} {w w' : World} (h : LvM B vv l w) (ho : Only g w w') (hv : vv.ownBlock ≠ some g) : LvM B vv l w' := LsM.side h ho hv (fun t _ e => by cases e)
set_option maxHeartbeats 8000000 in
theorem rdset_any (v : Value) (s : RSt) (w : World) (hy : BytesIn w v s.1) (ok : okR11 s) :
    Calls Tryz.prog 70 #[.agg (rdC v (numE s.2))] w fun e w' => ∃ v' vv, e = .returned (.tuple #[.agg (rdC v' (numE (vaN (countS s 32).1 (countS s 32).2).2)), vv]) ∧ BytesIn w' v' (vaN (countS s 32).1 (countS s 32).2).1 ∧ v'.ownBlock = v.ownBlock ∧ VaIn w' vv (vas (countS s 32).1 (countS s 32).2) ∧ Below w.heap.size w w' := by
  obtain ⟨n, s1, e1⟩ : ∃ a b, countS s 32 = (a, b) := ⟨_, _, rfl⟩
  have ok1 : okR11 s1 := by have := countS_k11 (most := 32) ok; rwa [e1] at this
  have HC1 := Lib.hid (rc_let (most := 32) (m := 32) (by omega) rfl e1 ok)
  have HEs1 := Lib.hid (show s.1 = [] → s1.1 = [] from fun h => by have := cntE11 (most := 32) h; rwa [e1] at this)
  have hn32 : n ≤ 32 := by have := cnt_le11 s 32; rw [e1] at this; exact this
  have HOK := Lib.hid ok1
  obtain ⟨va, vc, rfl, -⟩ := id hy
  obtain ⟨VZ, hvz, hVZ⟩ : ∃ C, Tryz.prog.built 54 [] = some C ∧ C = vrD ⟨#[]⟩ (fun _ => 0) 0 := ⟨_, by kernel_rfl, rfl⟩
  have HVZ := Lib.hid hvz
  have HVC := Lib.hid hVZ
  have HVZS := Lib.hid ((congrArg Array.size hVZ).trans (vrD_size _ _ _))
  have HVZO := Lib.hid (show VZ.all (·.oneCell') = true from by rw [hVZ]; exact vrD_one _ _ _)
  have HST := Lib.hid (fun w1 hA => rst_start (w1 := w1) hy hA)
  rw [e1]
  simp only
  clear e1 ok1 hy ok hvz hVZ
  go_enter Tryz.func70, Tryz.ntmps70
  go_upto_region 1 with (fail)
  rw [← r2_zero]
  generalize hA : World.alloc (World.alloc w _) _ = w1
  have M := Lib.hid (HST.out w1 hA).1
  have HSZ := Lib.hid (HST.out w1 hA).2
  clear hA HST
  obtain ⟨ra, rn, rc, h5, hin, hob⟩ := M.out.rd
  have H5 := Lib.hid h5
  have HIN := Lib.hid hin
  have HOB := Lib.hid hob
  clear h5 hin hob
  go_upto_region 2 with (first
    | (refine wpList_load_row rfl 104 (.tmp 1) rfl w.heap.size rfl 104 _ (0, 0) _ H5.out Tryz.underlying104 rfl (by kernel_rfl) ?_)
    | (go_at_call 122; (with_reducible refine (HC1.out _ w1 HIN.out).mono ?_); rintro e wc1 ⟨vx, rfl, hx, ho, hb⟩; obtain ⟨ax, cx, rfl, -⟩ := id hx; have HX := Lib.hid hx; have HO := Lib.hid (ho.trans HOB.out); replace M := Lib.hid (M.out.call hb); obtain ⟨_, _, _, h5, -⟩ := M.out.rd; replace H5 := Lib.hid h5; clear hx ho h5; clear hb)
    | (refine wpList_store_row rfl 104 (.tmp 1) (.tmp 12) rfl w.heap.size (rdC (.slice ax s1.1.length cx) (numE s1.2)) rfl rfl 104 _ H5.out (by kernel_rfl) (by rfl) (rd_one _ _ _ _) ?_; go_loud (clear H5; replace M := Lib.hid (M.out.read (s' := s1) HX.out HO.out HEs1.out); generalize wc1.setRow w.heap.size (rdC (.slice ax s1.1.length cx) (numE s1.2)) = wb1 at *)))
  clear HX HO HIN HOB
  have HSZ2 := Lib.hid (show w.heap.size + 2 ≤ wb1.heap.size from by have := bkT_lt (show wb1.heap[w.heap.size + 1]? = _ from M.out.res); omega)
  have HM0 := Lib.hid (show RstL w (Value.slice va s.1.length vc).ownBlock s1 wb1.heap.size 0 (.slice none 0 0) wb1 from ⟨M.out, ⟨World.ownsRow_nil _ _ _ _, fun t ht => by cases ht⟩, by have := HSZ2.out; omega, Nat.le_refl _⟩)
  obtain ⟨B, hB⟩ : ∃ B, B = wb1.heap.size := ⟨_, rfl⟩
  rw [← hB] at HM0
  clear hB M HSZ HSZ2
  go_wp2_with (fail)
  go_loopw [5, 6] (fun y x wr => ∃ k : Nat, k ≤ n ∧ x = .int .i64 (k : Int) ∧ Hid (RstL w (Value.slice va s.1.length vc).ownBlock s1 B k y wr)) (fun _ x _ => n - (intOf x).toNat)
  case atStart => exact ⟨0, Nat.zero_le _, rfl, HM0⟩
  case round =>
    clear HM0
    obtain ⟨k, hkn, rfl, HM⟩ := hrel
    obtain ⟨hm, hlm, hqb, hbs⟩ := HM.out
    have M := Lib.hid hm
    have HL := Lib.hid hlm
    have HQB := Lib.hid hqb
    have HBS := Lib.hid hbs
    obtain ⟨la, lc, hvv⟩ := own_slice11 hlm.row
    rw [vas_len] at hvv
    subst hvv
    have HLT := Lib.hid (show ∀ j, (Value.slice la k lc).ownBlock = some j → B ≤ j ∧ j < wr.heap.size from fun j hj => hlm.row.lt j hj)
    clear HM hm hlm hqb hbs
    by_cases hlt : k < n
    · have hltI : (k : Int) < (n : Int) := by omega
      obtain ⟨t0, ht0⟩ : ∃ x, x = vaN k s1 := ⟨_, rfl⟩
      have HT0 := Lib.hid ht0
      have okt : okR11 t0 := by rw [ht0]; exact vaN_k11 HOK.out k
      rw [← ht0] at M
      clear ht0
      obtain ⟨CB, t1, e1⟩ : ∃ a b, partS t0 (64 : Int) = (a, b) := ⟨_, _, rfl⟩
      have okt1 : okR11 t1 := by have := partS_k11 (most := (64 : Int)) okt; rwa [e1] at this
      have HD1 := Lib.hid (rp_let (most := 64) (m := 64) (by omega) rfl e1 okt)
      have HEt1 := Lib.hid (show t0.1 = [] → t1.1 = [] from fun h => by have := partE11 (most := (64 : Int)) h; rwa [e1] at this)
      obtain ⟨KE, t2, e2⟩ : ∃ a b, hashS t1 = (a, b) := ⟨_, _, rfl⟩
      have okt2 : okR11 t2 := by have := hashS_k11 okt1; rwa [e2] at this
      have HD2 := Lib.hid (rh_let e2 okt1)
      have HEt2 := Lib.hid (show t1.1 = [] → t2.1 = [] from fun h => by have := hashE11 h; rwa [e2] at this)
      obtain ⟨PW, t3, e3⟩ : ∃ a b, intS t2 = (a, b) := ⟨_, _, rfl⟩
      have okt3 : okR11 t3 := by have := intS_k11 okt2; rwa [e3] at this
      have HD3 := Lib.hid (ri_let e3 okt2)
      have HEt3 := Lib.hid (show t2.1 = [] → t3.1 = [] from fun h => by have := intE11 h; rwa [e3] at this)
      obtain ⟨CH, hch⟩ : ∃ c, c = strOfNums CB := ⟨_, rfl⟩
      have HCH := Lib.hid hch
      have HR := Lib.hid (show vaN (k + 1) s1 = t3 from by show vaR (vaN k s1) = t3; rw [← HT0.out]; unfold vaR; rw [e1]; simp only; rw [e2]; simp only; rw [e3])
      have HV := Lib.hid (show vaV (vaN k s1) = ⟨CH, KE, PW⟩ from by rw [← HT0.out]; unfold vaV; rw [e1]; simp only; rw [e2]; simp only; rw [e3, hch])
      clear e1 e2 e3 okt okt1 okt2 okt3 hch
      go_upto_region 7 with (first
        | (refine wpList_buildTo rfl 54 #[] rfl (some 19) rfl VZ (by refine Eq.trans (congrArg (Tryz.prog.built 54) ?_) HVZ.out; kernel_rfl) ?_)
        | (refine wpList_store_row rfl 54 (.tmp 7) (.tmp 19) rfl wr.heap.size VZ rfl rfl 54 _ (heap_alloc_new _ _) (by rw [HVZS.out]; kernel_rfl) (by rw [HVZS.out]; kernel_rfl) HVZO.out ?_; rw [World.setRow_alloc_new]))
      have HQ := heap_alloc_new wr (.cells VZ 54)
      rw [HVC.out] at HQ
      have hba := below_alloc wr (.cells VZ 54)
      have HNV := Lib.hid (show (Value.slice la k lc).ownBlock ≠ some wr.heap.size from fun e => by have := (HLT.out _ e).2; omega)
      replace HL := Lib.hid (HL.out.call hba)
      have HW7 := Lib.hid (show B ≤ wr.heap.size from HBS.out)
      replace HBS := Lib.hid (Nat.le_trans HBS.out hba.size)
      obtain ⟨q, hq⟩ : ∃ p, p = wr.heap.size := ⟨_, rfl⟩
      replace M := Lib.hid (show RsQ w w.heap.size q (Value.slice va s.1.length vc).ownBlock t0 (vrD ⟨#[]⟩ (fun _ => 0) 0) (wr.alloc (.cells VZ 54)) from ⟨M.out.call hba, by rw [hq, HVC.out] at *; exact HQ, by rw [hq]; have := HQB.out; have := HW7.out; omega⟩)
      rw [← hq] at HNV HW7 ⊢
      clear hq hba HQ HLT
      generalize wr.alloc (.cells VZ 54) = w10 at *
      obtain ⟨ra, rn, rc, h5, hin, hob⟩ := M.out.rd
      have H5 := Lib.hid h5
      have HIN := Lib.hid hin
      have HOB := Lib.hid hob
      clear h5 hin hob
      have HQI := Lib.hid (show q < w10.heap.size from bkT_lt M.out.at_)
      go_upto_region 9 with (first
        | (refine wpList_load_row rfl 104 (.tmp 1) rfl w.heap.size rfl 104 _ (0, 0) _ H5.out Tryz.underlying104 rfl (by kernel_rfl) ?_)
        | (go_at_call 123; (with_reducible refine (HD1.out _ w10 HIN.out).mono ?_); rintro e wc10 ⟨vx, vb, rfl, hx, hvb, ho, hnb, hb⟩; obtain ⟨ax, cx, rfl, -⟩ := id hx; have HX := Lib.hid hx; have HO := Lib.hid (ho.trans HOB.out); replace M := Lib.hid (M.out.call hb); obtain ⟨_, _, _, h5, -⟩ := M.out.rd; replace H5 := Lib.hid h5; clear hx ho h5; have HVB := Lib.hid hvb; have HNB := Lib.hid (show ∀ j, vb.ownBlock = some j → w10.heap.size ≤ j ∧ j < wc10.heap.size from hnb); obtain ⟨ba, bc, rfl, -⟩ := id hvb; clear hvb hnb; replace HL := Lib.hid (HL.out.call hb); replace HBS := Lib.hid (Nat.le_trans HBS.out hb.size); clear hb)
        | (refine wpList_store_row rfl 104 (.tmp 1) (.tmp 23) rfl w.heap.size (rdC (.slice ax t1.1.length cx) (numE t1.2)) rfl rfl 104 _ H5.out (by kernel_rfl) (by rfl) (rd_one _ _ _ _) ?_; go_loud (clear H5; replace HVB := Lib.hid (M.out.row (rdC (.slice ax t1.1.length cx) (numE t1.2)) HVB.out); replace HNB := Lib.hid (show ∀ j, (Value.slice ba CB.length bc).ownBlock = some j → w10.heap.size ≤ j ∧ j < (wc10.setRow w.heap.size (rdC (.slice ax t1.1.length cx) (numE t1.2))).heap.size from fun j hj => ⟨(HNB.out j hj).1, Nat.lt_of_lt_of_le (HNB.out j hj).2 (only_setRow11 wc10 w.heap.size (rdC (.slice ax t1.1.length cx) (numE t1.2))).size⟩); replace HL := Lib.hid (HL.out.only (only_setRow11 wc10 w.heap.size (rdC (.slice ax t1.1.length cx) (numE t1.2))) (by have := HQB.out; omega)); replace HBS := Lib.hid (Nat.le_trans HBS.out (only_setRow11 wc10 w.heap.size (rdC (.slice ax t1.1.length cx) (numE t1.2))).size); replace M := Lib.hid (M.out.read (s' := t1) HX.out HO.out HEt1.out); generalize wc10.setRow w.heap.size (rdC (.slice ax t1.1.length cx) (numE t1.2)) = wb10 at *)))
      clear HX HO HIN HOB
      have hcv := conv_bytes wb10 _ _ HVB.out
      rw [← HCH.out] at hcv
      have k0 : wb10.cell? ⟨q, 0, none⟩ = some (.string ⟨#[]⟩) := vrD_c0 M.out.at_
      have k1 : wb10.frozen? ⟨q, 0, none⟩ = false := frozen_of_row _ _ _ _ _ M.out.at_
      go_upto_region 10 with (fail)
      clear k0 k1 hcv
      replace M := Lib.hid (M.out.put (Only.setCell wb10 ⟨q, 0, none⟩ (.string CH)) (vrD_s0 M.out.at_))
      replace HL := Lib.hid (LvM.put HL.out (Only.setCell wb10 ⟨q, 0, none⟩ (.string CH)) HNV.out)
      replace HBS := Lib.hid (Nat.le_trans HBS.out (Only.setCell wb10 ⟨q, 0, none⟩ (.string CH)).size)
      generalize wb10.setCell ⟨q, 0, none⟩ (.string CH) = w11 at *
      clear HVB HNB HQI
      obtain ⟨ra, rn, rc, h5, hin, hob⟩ := M.out.rd
      have H5 := Lib.hid h5
      have HIN := Lib.hid hin
      have HOB := Lib.hid hob
      clear h5 hin hob
      go_upto_region 11 with (first
        | (refine wpList_load_row rfl 104 (.tmp 1) rfl w.heap.size rfl 104 _ (0, 0) _ H5.out Tryz.underlying104 rfl (by kernel_rfl) ?_)
        | (go_at_call 124; (with_reducible refine (HD2.out _ w11 HIN.out).mono ?_); rintro e wc11 ⟨vx, rfl, hx, ho, hb⟩; obtain ⟨ax, cx, rfl, -⟩ := id hx; have HX := Lib.hid hx; have HO := Lib.hid (ho.trans HOB.out); replace M := Lib.hid (M.out.call hb); obtain ⟨_, _, _, h5, -⟩ := M.out.rd; replace H5 := Lib.hid h5; clear hx ho h5; replace HL := Lib.hid (HL.out.call hb); replace HBS := Lib.hid (Nat.le_trans HBS.out hb.size); clear hb)
        | (refine wpList_store_row rfl 104 (.tmp 1) (.tmp 31) rfl w.heap.size (rdC (.slice ax t2.1.length cx) (numE t2.2)) rfl rfl 104 _ H5.out (by kernel_rfl) (by rfl) (rd_one _ _ _ _) ?_; go_loud (clear H5; replace HL := Lib.hid (HL.out.only (only_setRow11 wc11 w.heap.size (rdC (.slice ax t2.1.length cx) (numE t2.2))) (by have := HQB.out; omega)); replace HBS := Lib.hid (Nat.le_trans HBS.out (only_setRow11 wc11 w.heap.size (rdC (.slice ax t2.1.length cx) (numE t2.2))).size); replace M := Lib.hid (M.out.read (s' := t2) HX.out HO.out HEt2.out); generalize wc11.setRow w.heap.size (rdC (.slice ax t2.1.length cx) (numE t2.2)) = wb11 at *))
        | (refine wpList_store_mid rfl 23 (.tmp 33) (.tmp 32) rfl q 1 (rowOf .u8 32 KE) rfl rfl (by rw [rowOf_size]; exact vrD_t1 M.out.at_) (by rw [rowOf_size]; kernel_rfl) (rowOf_one _ _ _) ?_))
      replace HL := Lib.hid (LvM.put HL.out (only_cells11 q (rowOf .u8 32 KE).toList 1 wb11) HNV.out)
      replace HBS := Lib.hid (Nat.le_trans HBS.out (only_cells11 q (rowOf .u8 32 KE).toList 1 wb11).size)
      replace M := Lib.hid (M.out.put (only_cells11 q (rowOf .u8 32 KE).toList 1 wb11) (vrD_s1 M.out.at_))
      generalize wb11.setCells q 1 (rowOf .u8 32 KE).toList = w12 at *
      clear HX HO HIN HOB
      obtain ⟨ra, rn, rc, h5, hin, hob⟩ := M.out.rd
      have H5 := Lib.hid h5
      have HIN := Lib.hid hin
      have HOB := Lib.hid hob
      clear h5 hin hob
      go_upto_region 12 with (first
        | (refine wpList_load_row rfl 104 (.tmp 1) rfl w.heap.size rfl 104 _ (0, 0) _ H5.out Tryz.underlying104 rfl (by kernel_rfl) ?_)
        | (go_at_call 125; (with_reducible refine (HD3.out _ w12 HIN.out).mono ?_); rintro e wc12 ⟨vx, rfl, hx, ho, hb⟩; obtain ⟨ax, cx, rfl, -⟩ := id hx; have HX := Lib.hid hx; have HO := Lib.hid (ho.trans HOB.out); replace M := Lib.hid (M.out.call hb); obtain ⟨_, _, _, h5, -⟩ := M.out.rd; replace H5 := Lib.hid h5; clear hx ho h5; replace HL := Lib.hid (HL.out.call hb); replace HBS := Lib.hid (Nat.le_trans HBS.out hb.size); clear hb)
        | (refine wpList_store_row rfl 104 (.tmp 1) (.tmp 37) rfl w.heap.size (rdC (.slice ax t3.1.length cx) (numE t3.2)) rfl rfl 104 _ H5.out (by kernel_rfl) (by rfl) (rd_one _ _ _ _) ?_; go_loud (clear H5; replace HL := Lib.hid (HL.out.only (only_setRow11 wc12 w.heap.size (rdC (.slice ax t3.1.length cx) (numE t3.2))) (by have := HQB.out; omega)); replace HBS := Lib.hid (Nat.le_trans HBS.out (only_setRow11 wc12 w.heap.size (rdC (.slice ax t3.1.length cx) (numE t3.2))).size); replace M := Lib.hid (M.out.read (s' := t3) HX.out HO.out HEt3.out); generalize wc12.setRow w.heap.size (rdC (.slice ax t3.1.length cx) (numE t3.2)) = wb12 at *; have k0 : wb12.cell? ⟨q, 33, none⟩ = some (.int .i64 0) := vrD_c2 M.out.at_; have k1 : wb12.frozen? ⟨q, 33, none⟩ = false := frozen_of_row _ _ _ _ _ M.out.at_)))
      replace HL := Lib.hid (LvM.put HL.out (Only.setCell wb12 ⟨q, 33, none⟩ (.int .i64 PW)) HNV.out)
      replace HBS := Lib.hid (Nat.le_trans HBS.out (Only.setCell wb12 ⟨q, 33, none⟩ (.int .i64 PW)).size)
      clear k0 k1
      replace M := Lib.hid (M.out.put (Only.setCell wb12 ⟨q, 33, none⟩ (.int .i64 PW)) (vrD_s2 M.out.at_))
      generalize wb12.setCell ⟨q, 33, none⟩ (.int .i64 PW) = w13 at *
      clear HX HO HIN HOB
      obtain ⟨T, hT⟩ : ∃ t : Va, t = ⟨CH, KE, PW⟩ := ⟨_, rfl⟩
      have HT := Lib.hid hT
      obtain ⟨TC, hTC⟩ : ∃ t, t = vaC T := ⟨_, rfl⟩
      have HTC := Lib.hid hTC
      have HTCS := Lib.hid ((congrArg Array.size hTC).trans (vaC_size T))
      have HQT := Lib.hid (show w13.heap[q]? = some (.cells TC 54 (0, 0)) from by rw [hTC, hT, vrC_D]; exact M.out.at_)
      have HM3 := Lib.hid M.out.m
      clear hT hTC M
      go_upto_region 5 with (first
        | (refine wpList_load_row rfl 54 (.tmp 7) rfl q rfl 54 _ (0, 0) _ HQT.out Tryz.underlying54 rfl (by rw [HTCS.out]; kernel_rfl) ?_)
        | (refine wpList_oneA rfl (.tmp 41) rfl (some 42) rfl T (.agg TC) (by rw [HTC.out]) rfl ?_; have HQ9 := Lib.hid (heap_alloc_new w13 (.cells (vaTL T).toArray 54)); have hb9 := below_alloc w13 (.cells (vaTL T).toArray 54); replace HM3 := Lib.hid (HM3.out.call hb9); replace HL := Lib.hid (HL.out.call hb9); replace HBS := Lib.hid (Nat.le_trans HBS.out hb9.size); have HLT := Lib.hid (show ∀ j, (Value.slice la k lc).ownBlock = some j → B ≤ j from fun j hj => (HL.out.row.lt j hj).1); clear hb9; obtain ⟨p9, hp9⟩ : ∃ p, p = w13.heap.size := ⟨_, rfl⟩; rw [← hp9] at HQ9 ⊢; clear hp9; generalize w13.alloc (.cells (vaTL T).toArray 54) = w14 at *)
        | (at_builtin; refine wpList_append_row11 (C := vaTL) vaTL_len 48 54 vaZ11 Tryz.underlying48 infoA11 (by kernel_rfl) (by omega) rfl (.tmp 40) (.tmp 42) rfl rfl B (.slice la k lc) (vas k s1) rfl HL.out.row p9 T (vaTL_one T) rfl HQ9.out (by rw [vas_len]; omega) (by rw [vas_len]; omega) HBS.out ?_; intro v4 w4 ho4 hg4 hw4; replace HL := Lib.hid (HL.out.grow (x := T) (nil_in _) (fun j hj => by cases hj) ho4 hg4 hw4); replace HM3 := Lib.hid (HM3.out.grow hg4 (fun j hj => by have := HLT.out _ hj; have := HQB.out; omega)); replace HBS := Lib.hid (Nat.le_trans HBS.out hg4.size); clear ho4 hg4 hw4))
      go_wp2_with (fail)
      go_roundw
      case rel => exact ⟨k + 1, by omega, by go_num, Lib.hid ⟨by have h := HM3.out; rw [HR.out]; exact h, by have h := HL.out; rw [HT.out, ← HV.out, ← vas_snoc] at h; exact h, HQB.out, HBS.out⟩⟩
      case measure => simp [intOf]; omega
    · obtain rfl : k = n := by omega
      obtain ⟨ra, rn, rc, h5, hin, hob⟩ := M.out.rd
      have H5 := Lib.hid h5
      have HIN := Lib.hid hin
      have HOB := Lib.hid hob
      have HRS := Lib.hid M.out.res
      clear h5 hin hob
      go_wp2_with (first
        | (refine wpList_load_row rfl 104 (.tmp 1) rfl w.heap.size rfl 104 _ (0, 0) _ H5.out Tryz.underlying104 rfl (by kernel_rfl) ?_)
        | (refine wpList_store_row rfl 104 (.tmp 2) (.tmp 44) rfl (w.heap.size + 1) _ rfl rfl 104 _ HRS.out (by kernel_rfl) (by rfl) (rd_one _ _ _ _) ?_))
      refine bodyPost_ret (results_cell_tmp_row rfl _ _ (w.heap.size + 1) 104 _ (0, 0) _ rfl (setRow_heap _ _ _ _ _ _ HRS.out) Tryz.underlying104 rfl (by kernel_rfl)) rfl ?_
      have hbl := below_setRow M.out.below (Nat.le_succ _) (rdC (.slice ra rn rc) (numE (vaN k s1).2))
      have hll := HL.out.only (only_setRow11 wr (w.heap.size + 1) (rdC (.slice ra rn rc) (numE (vaN k s1).2))) HQB.out
      have hrw := hll.row
      rw [vas_len] at hrw
      exact ⟨_, _, rfl, bytes_row HIN.out HRS.out _, HOB.out, rows_of_own (C := vaTL) vaTL_len (by rw [vas_len]; exact hrw) (by rw [vas_len]; unfold maxLen; omega), hbl⟩
end Go.Proofs.YteokgklfljhcaaaGreatDoor
namespace Go.Proofs.YteokgklfljhcaaaGreatDoor
set_option linter.unusedVariables false
set_option linter.unusedSimpArgs false
open Go.RowKit
set_option maxRecDepth 100000
set_option linter.unusedSimpArgs false
set_option linter.unusedVariables false
end Go.Proofs.YteokgklfljhcaaaGreatDoor
namespace Go.Proofs.YteokgklfljhcaaaGreatDoor
set_option linter.unusedVariables false
set_option linter.unusedSimpArgs false
open Go.RowKit
set_option maxRecDepth 100000
set_option linter.unusedSimpArgs false
set_option linter.unusedVariables false
/-- what DecodeSet answers -/
def dsS (xs : List Int) : RSt := vaN (countS (xs, none) 32).1 (countS (xs, none) 32).2
def dsL (xs : List Int) : List Va := if doneE (dsS xs) = none then vas (countS (xs, none) 32).1 (countS (xs, none) 32).2 else []
def dsE (xs : List Int) : Option Nat := if doneE (dsS xs) = none then none else some 3
set_option maxHeartbeats 4000000 in
theorem decS_any (vb : Value) (xs : List Int) (w : World) (hy : BytesIn w vb xs) (hok : bytesOk xs) (hl : xs.length ≤ 140737488355328) :
    Calls Tryz.prog 68 #[vb, .func (.func 69) #[] #[]] w fun e w' => ∃ vv, e = .returned (.tuple #[vv, errV (dsE xs)]) ∧ VaIn w' vv (dsL xs) ∧ Below w.heap.size w w' := by
  have HY := Lib.hid hy
  have HOK := Lib.hid hok
  have HL := Lib.hid hl
  obtain ⟨E, hE⟩ : ∃ E, E = dsE xs := ⟨_, rfl⟩
  obtain ⟨LL, hLL⟩ : ∃ L, L = dsL xs := ⟨_, rfl⟩
  have HEE := Lib.hid hE
  have HLE := Lib.hid hLL
  rw [← hE, ← hLL]
  clear hy hok hl hE hLL
  cases hd : doneE (dsS xs) with
  | none =>
    have HD := Lib.hid hd
    have HE1 := Lib.hid (show E = none from by rw [HEE.out]; unfold dsE; rw [if_pos hd])
    have HL1 := Lib.hid (show LL = vas (countS (xs, none) 32).1 (countS (xs, none) 32).2 from by rw [HLE.out]; unfold dsL; rw [if_pos hd])
    clear hd
    go_enter Tryz.func68, Tryz.ntmps68
    go_upto_region 2 with (go_at_call 118; (with_reducible refine (read_any vb xs w HY.out HOK.out HL.out).mono ?_); rintro e w2 ⟨g, y, rfl, hg, hra, hb⟩; have HG := Lib.hid hg; have HR := Lib.hid (show RO w2 g y.ownBlock (xs, none) from ⟨y, hra, rfl⟩); have HB2 := Lib.hid hb; clear hg hra hb)
    go_wp2_with (first
      | (go_at_call 69; (with_reducible refine (rset11 g _ _ w2 HR.out).mono ?_); rintro e w3 ⟨vv, rfl, ha, hr, ho⟩; have HA := Lib.hid ha.rows; have HO3 := Lib.hid ho; have HE := Lib.hid (show Calls Tryz.prog 119 #[.pointer (some ⟨g, 0, none⟩)] w3 fun r w' => r = .returned .nilIface ∧ w' = w3 from by (have h := rdone_any g _ w3 hr.rs; rw [show doneE (vaN (countS (xs, none) 32).1 (countS (xs, none) 32).2) = none from HD.out] at h; exact h)); clear ha hr ho)
      | (go_at_call 119; (with_reducible refine HE.out.mono ?_); rintro e w5 ⟨rfl, rfl⟩))
    first | go_ret | go_ret2
    exact ⟨_, by rw [HE1.out]; rfl, by rw [HL1.out]; exact HA.out, HB2.out.trans (HO3.out.below HG.out HB2.out.size)⟩
  | some x =>
    have HD := Lib.hid hd
    have HE1 := Lib.hid (show E = some 3 from by rw [HEE.out]; unfold dsE; rw [if_neg (by rw [hd]; simp)])
    have HL1 := Lib.hid (show LL = [] from by rw [HLE.out]; unfold dsL; rw [if_neg (by rw [hd]; simp)])
    clear hd
    go_enter Tryz.func68, Tryz.ntmps68
    go_upto_region 2 with (go_at_call 118; (with_reducible refine (read_any vb xs w HY.out HOK.out HL.out).mono ?_); rintro e w2 ⟨g, y, rfl, hg, hra, hb⟩; have HG := Lib.hid hg; have HR := Lib.hid (show RO w2 g y.ownBlock (xs, none) from ⟨y, hra, rfl⟩); have HB2 := Lib.hid hb; clear hg hra hb)
    go_wp2_with (first
      | (go_at_call 69; (with_reducible refine (rset11 g _ _ w2 HR.out).mono ?_); rintro e w3 ⟨vv, rfl, ha, hr, ho⟩; have HO3 := Lib.hid ho; have HE := Lib.hid (show Calls Tryz.prog 119 #[.pointer (some ⟨g, 0, none⟩)] w3 fun r w' => r = .returned (errV (some x)) ∧ w' = w3 from by (have h := rdone_any g _ w3 hr.rs; rw [show doneE (vaN (countS (xs, none) 32).1 (countS (xs, none) 32).2) = some x from HD.out] at h; exact h)); clear ha hr ho; simp only [errV] at HE)
      | (go_at_call 119; (with_reducible refine HE.out.mono ?_); rintro e w5 ⟨rfl, rfl⟩))
    first | go_ret | go_ret2
    exact ⟨.slice none 0 0, by rw [HE1.out]; rfl, by rw [HL1.out]; exact ⟨none, 0, rfl, Nat.le_refl _, Nat.zero_le _, .inl rfl⟩, HB2.out.trans (HO3.out.below HG.out HB2.out.size)⟩
theorem pdset_any (vb : Value) (xs : List Int) (w : World) (hy : BytesIn w vb xs) (hok : bytesOk xs) (hl : xs.length ≤ 140737488355328) :
    Calls Tryz.prog 20 #[vb] w fun e w' => ∃ vv, e = .returned (.tuple #[vv, errV (dsE xs)]) ∧ VaIn w' vv (dsL xs) ∧ Below w.heap.size w w' := by
  have HC := Lib.hid (decS_any vb xs w hy hok hl)
  obtain ⟨E, hE⟩ : ∃ E, E = errV (dsE xs) := ⟨_, rfl⟩
  rw [← hE] at HC ⊢
  clear hy hok hl hE
  go_enter Tryz.func20, Tryz.ntmps20
  go_wp2_with (go_at_call 68; (with_reducible refine HC.out.mono ?_); rintro e w1 ⟨vv, rfl, ha, hb⟩; have HA := Lib.hid ha; have HB := Lib.hid hb; clear ha hb)
  first | go_ret | go_ret2
  exact ⟨_, rfl, HA.out, HB.out⟩
end Go.Proofs.YteokgklfljhcaaaGreatDoor
namespace Go.Proofs.YteokgklfljhcaaaGreatDoor
set_option linter.unusedVariables false
set_option linter.unusedSimpArgs false
open Go.RowKit
set_option maxRecDepth 100000
theorem rdone2_any (v : Value) (ys : List Int) (e : Option Nat) (he : e ≠ some 0) (w : World) (hy : BytesIn w v ys) (hl : ys.length ≤ 140737488355328) : Calls Tryz.prog 71 #[.agg (rdC v (numE e))] w fun r w' => r = .returned (.int .i64 (numE (doneE (ys, e)))) ∧ Below w.heap.size w w' := by
  obtain ⟨a, c, rfl, -⟩ := id hy
  have HB := Lib.hid (below_alloc w (.cells (rdC (.slice a ys.length c) (numE e)) 104))
  obtain ⟨c0, c1, -⟩ := rd_cells (heap_alloc_new w (.cells (rdC (.slice a ys.length c) (numE e)) 104))
  cases e with
  | some x =>
    have hx : x ≠ 0 := fun h => he (by rw [h])
    have hne : ((x : Int) == 0) = false := by simp; omega
    rw [show numE (some x) = (x : Int) from rfl] at *
    clear hx he hy
    go_enter Tryz.func71, Tryz.ntmps71
    go_wp2_with (fail)
    go_ret
    exact ⟨rfl, HB.out⟩
  | none =>
    rw [show numE none = 0 from rfl] at *
    by_cases h : 0 < ys.length
    · have q1 : decide ((0 : Int) < (ys.length : Int)) = true := by simp; omega
      have q2 : decide (0 < ys.length) = true := by simpa using h
      have HD := Lib.hid (show doneE (ys, none) = some 3 by unfold doneE; simp only; rw [if_pos h])
      clear h he hy
      go_enter Tryz.func71, Tryz.ntmps71
      go_wp2_with (fail)
      go_ret
      rw [HD.out]
      exact ⟨rfl, HB.out⟩
    · have q1 : decide ((0 : Int) < (ys.length : Int)) = false := decide_eq_false (by omega)
      have q2 : decide (0 < ys.length) = false := decide_eq_false h
      have HD := Lib.hid (show doneE (ys, none) = none by unfold doneE; simp only; rw [if_neg h])
      clear h he hy
      go_enter Tryz.func71, Tryz.ntmps71
      go_wp2_with (fail)
      go_ret
      rw [HD.out]
      exact ⟨rfl, HB.out⟩
end Go.Proofs.YteokgklfljhcaaaGreatDoor
