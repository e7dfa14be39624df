/- The document's answer: One, a payload. -/
import Derived.Test.YtfdjmfomccckaaaDoorRef3P
namespace Go.Proofs.YtfdjmfomccckaaaDoor
open Go.RowKit
set_option maxRecDepth 100000
theorem word_max (n : Nat) : (wordL n).length ≤ maxLen := by unfold maxLen; rw [wordL_length]; omega
set_option maxHeartbeats 4000000 in
theorem rone_fit (y : Value) (b : List Int) (w : World) (hy : BytesIn w y b) (ho : bytesOk b) (h8 : 8 ≤ b.length) (hl : b.length ≤ 140737488355328) (n : Nat) (hn : rdW b = n)
    (h1 : rdW (b.drop 4) = crcF (b.take 4)) (h2 : n ≠ 0) (h3 : n ≤ 1048576) (hs : n + 12 ≤ b.length) (p : List Int) (hp : (b.take (n + 8)).drop 8 = p) (h4 : rdW (b.drop (n + 8)) = crcF p) : Calls Tryd.prog 11 #[y] w (ROnePost y b (none, p) w) := by
  obtain ⟨a, c, rfl, hc, hm, hx⟩ := id hy
  have n1 : ¬ b.length = 0 := by omega
  have n2 : ¬ (b.length : Int) < 8 := by omega
  have s1 : ∀ w, (Instr.slice 22 (.slice a b.length c) (some (.int .i64 4)) (some (.int .i64 8)) none).run Tryd.prog w = .ok (.slice (cutA a c 4) 4 (c - 4)) w := sliceBlh a b.length c 4 8 (by omega) (by omega)
  have s2 : ∀ w, (Instr.slice 22 (.slice a b.length c) none (some (.int .i64 4)) none).run Tryd.prog w = .ok (.slice (cutA a c 0) 4 c) w := sliceBhi a b.length c 4 (by omega)
  have Y1 := Lib.hid (show BytesIn w (.slice (cutA a c 4) 4 (c - 4)) ((b.take 8).drop 4) from hy.cut 4 8 (by omega) (by omega))
  have Y2 := Lib.hid (hy.upto 4 (by omega))
  have C2 := Lib.hid (fun W (hw : BytesIn W (.slice (cutA a c 0) 4 c) (b.take 4)) => sumr_any _ (b.take 4) W hw (ho.take 4) (by rw [List.length_take]; omega))
  have HS := Lib.hid (word_str b 4 (crcF (b.take 4)) ho (by omega) (crcF_lt (ho.take 4)))
  have HCL := Lib.hid (crcF_lt (ho.take 4))
  generalize crcF (b.take 4) = t at *
  have heq : strOfNums (wordL t) = strOfNums ((b.take 8).drop 4) := HS.out.2 h1
  have s3 : ∀ w, (Instr.slice 22 (.slice a b.length c) (some (.int .i64 8)) (some (.int .i64 (8 + (n : Int)))) none).run Tryd.prog w = .ok (.slice (cutA a c 8) n (c - 8)) w := fun w => by rw [show 8 + (n : Int) = ((n + 8 : Nat) : Int) by omega]; exact sliceBlh a b.length c 8 (n + 8) (by omega) (by omega) w
  have s4 : ∀ w, (Instr.slice 22 (.slice a b.length c) (some (.int .i64 (8 + (n : Int)))) (some (.int .i64 (12 + (n : Int)))) none).run Tryd.prog w = .ok (.slice (cutA a c (n + 8)) 4 (c - (n + 8))) w := fun w => by rw [show 8 + (n : Int) = ((n + 8 : Nat) : Int) by omega, show 12 + (n : Int) = ((n + 12 : Nat) : Int) by omega]; have := sliceBlh a b.length c (n + 8) (n + 12) (by omega) (by omega) w; rw [show n + 12 - (n + 8) = 4 by omega] at this; exact this
  have Y3 : BytesIn w (.slice (cutA a c 8) n (c - 8)) ((b.take (n + 8)).drop 8) := hy.cut 8 (n + 8) (by omega) (by omega)
  have Y4 : BytesIn w (.slice (cutA a c (n + 8)) 4 (c - (n + 8))) ((b.take (n + 8 + 4)).drop (n + 8)) := by have := hy.cut (n + 8) (n + 12) (by omega) (by omega); rw [show n + 12 - (n + 8) = 4 by omega] at this; exact this
  have hpl : p.length = n := by rw [← hp, List.length_drop, List.length_take]; omega
  have hpo : bytesOk p := by rw [← hp]; exact (ho.take _).drop _
  rw [hp] at Y3
  have HP := Lib.hid (And.intro hpl hpo)
  have C3 := Lib.hid (fun W (hw : BytesIn W (.slice (cutA a c 8) n (c - 8)) p) => sumr_any _ p W hw hpo (by rw [hpl]; omega))
  have HCP := Lib.hid (crcF_lt hpo)
  have hws := word_str b (n + 8) (crcF p) ho (by omega) (crcF_lt hpo)
  have HY3 := Lib.hid (fun W (h : BytesIn W (.slice a b.length c) b) => (show BytesIn W (.slice (cutA a c 8) n (c - 8)) p by have h5 := h.cut 8 (n + 8) (by omega) (by omega); rw [hp] at h5; exact h5))
  replace Y3 := Lib.hid Y3
  replace Y4 := Lib.hid Y4
  have HW8 := Lib.hid (show IntKind.i64.wrap (8 + (n : Int)) = 8 + (n : Int) from IntWalk.i64_in _ (by omega))
  have HW12 := Lib.hid (show IntKind.i64.wrap (12 + (n : Int)) = 12 + (n : Int) from IntWalk.i64_in _ (by omega))
  have hT0 := fun W (hy : BytesIn W (.slice (cutA a c (n + 8)) 4 (c - (n + 8))) ((b.take (n + 8 + 4)).drop (n + 8))) => conv_bytes W _ _ hy
  obtain ⟨ab, ao, z0, z1, z2, z3, rfl, b0, b1, b2, b3, hN, c0, c1, c2, c3⟩ := four_cells hy ho (by omega)
  rw [hn] at hN
  have hz' : ((n : Int) == 0) = false := by simp; omega
  have hg : decide ((1048576 : Int) < (n : Int)) = false := by simp; omega
  have hlt : ¬ (b.length : Int) < (n : Int) + 12 := by omega
  have q1 : (1 : Int) < b.length := by omega
  have q2 : (2 : Int) < b.length := by omega
  have q3 : (3 : Int) < b.length := by omega
  have m0 : 0 < b.length := by omega
  have m1 : 1 < b.length := by omega
  have m2 : 2 < b.length := by omega
  have m3 : 3 < b.length := by omega
  have p0 : IntKind.i64.wrap ((z0 : Int) * 16777216) = (z0 : Int) * 16777216 := IntWalk.i64_in _ (by omega)
  have p1 : IntKind.i64.wrap ((z1 : Int) * 65536) = (z1 : Int) * 65536 := IntWalk.i64_in _ (by omega)
  have p2 : IntKind.i64.wrap ((z2 : Int) * 256) = (z2 : Int) * 256 := IntWalk.i64_in _ (by omega)
  have p3 : IntKind.i64.wrap ((z0 : Int) * 16777216 + (z1 : Int) * 65536) = (z0 : Int) * 16777216 + (z1 : Int) * 65536 := IntWalk.i64_in _ (by omega)
  have p4 : IntKind.i64.wrap ((z0 : Int) * 16777216 + (z1 : Int) * 65536 + (z2 : Int) * 256) = (z0 : Int) * 16777216 + (z1 : Int) * 65536 + (z2 : Int) * 256 := IntWalk.i64_in _ (by omega)
  have p5 : IntKind.i64.wrap ((z0 : Int) * 16777216 + (z1 : Int) * 65536 + (z2 : Int) * 256 + (z3 : Int)) = (n : Int) := by rw [IntWalk.i64_in _ (by omega)]; omega
  have hS0 := fun W (hy : BytesIn W (.slice (cutA (some ⟨ab, ao, none⟩) c 4) 4 (c - 4)) ((b.take 8).drop 4)) => conv_bytes W _ _ hy
  rw [← heq] at hS0
  have HSC := Lib.hid hS0
  have hne : ((strOfNums (wordL t)).toList == (strOfNums (wordL t)).toList) = true := by simp
  have HW4 := Lib.hid (fun (W : World) v hv => conv_bytes W v (wordL t) hv)
  clear heq hn h1
  generalize strOfNums (wordL t) = sB at *
  clear ho hx hm hc hN HS
  have heq2 := hws.2 h4
  rw [← heq2] at hT0
  have HT4 := Lib.hid (fun (W : World) v hv => conv_bytes W v (wordL (crcF p)) hv)
  clear heq2 hws h4
  generalize strOfNums (wordL (crcF p)) = sC at *
  generalize crcF p = u at *
  have HTC := Lib.hid hT0
  clear hT0 hs hpl hpo
  go_enter Tryd.func11, Tryd.ntmps11
  go_wp2
  go_quiet (fail)
  have HB := Lib.hid (show Below w.heap.size w (w.drewN nq).drew from ⟨rfl, rfl, rfl, Nat.le_refl _, fun _ _ => rfl⟩)
  replace Y1 := Lib.hid (show BytesIn (w.drewN nq).drew _ _ from Y1.out)
  replace Y2 := Lib.hid (show BytesIn (w.drewN nq).drew _ _ from Y2.out)
  replace Y3 := Lib.hid (show BytesIn (w.drewN nq).drew _ _ from Y3.out)
  replace Y4 := Lib.hid (show BytesIn (w.drewN nq).drew _ _ from Y4.out)
  replace hS0 : (convert 22 9 (.slice (cutA (some ⟨ab, ao, none⟩) c 4) 4 (c - 4))).run Tryd.prog (w.drewN nq).drew = .ok (.string sB) (w.drewN nq).drew := hS0 _ Y1.out
  clear c0 c1 c2 c3 q1 q2 q3 m0 m1 m2 m3 p0 p1 p2 p3 p4 p5 b0 b1 b2 b3
  generalize w.drewN nq = w1 at *
  have HQ := Lib.hid (Below.refl w1.drew.heap.size w1.drew)
  go_wp2_with (fail)
  first
    | (go_region_held (fun w => (convert 22 9 (.slice (cutA (some ⟨ab, ao, none⟩) c 4) 4 (c - 4))).run Tryd.prog w = .ok (.string sB) w)
        (exact hS0)
        (first
          | (go_at_call 18; (with_reducible refine (C2.out _ (Y2.out.below HQ.out)).mono ?_); rintro e w3 ⟨rfl, rfl⟩)
          | (go_at_call 21; (with_reducible refine (four_any t _ HCL.out).mono ?_); rintro e w3 ⟨v3, rfl, ho3, hb3⟩; have hcv3 := HW4.out w3 v3 (owns_in ho3 (word_max t)); replace HQ := Lib.hid (HQ.out.trans (hb3.mono HQ.out.size)); have hS0 := HSC.out w3 (Y1.out.below HQ.out); clear ho3 hb3)))
    | fail
  all_goals
    go_upto_region 10 with (fail)
    replace HB := Lib.hid (HB.out.trans (HQ.out.mono HB.out.size))
    replace Y3 := Lib.hid (Y3.out.below HQ.out)
    replace Y4 := Lib.hid (Y4.out.below HQ.out)
    clear hS0 HQ Y1 Y2 C2 HSC HW4 HCL
    replace HB := Lib.hid HB.out.drew
    replace Y3 := Lib.hid (show BytesIn w3.drew _ _ from Y3.out)
    replace Y4 := Lib.hid (show BytesIn w3.drew _ _ from Y4.out)
    have hS0 := HTC.out w3.drew Y4.out
    have HQ := Lib.hid (Below.refl w3.drew.heap.size w3.drew)
    have W8 := HW8.out
    have W12 := HW12.out
    first
      | (go_region_held (fun w => (convert 22 9 (.slice (cutA (some ⟨ab, ao, none⟩) c (n + 8)) 4 (c - (n + 8)))).run Tryd.prog w = .ok (.string sC) w)
          (exact hS0)
          (first
            | (go_at_call 18; (with_reducible refine (C3.out _ (Y3.out.below HQ.out)).mono ?_); rintro e w4 ⟨rfl, rfl⟩)
            | (go_at_call 21; (with_reducible refine (four_any u _ HCP.out).mono ?_); rintro e w4 ⟨v4, rfl, ho4, hb4⟩; have hcv4 := HT4.out w4 v4 (owns_in ho4 (word_max u)); replace HQ := Lib.hid (HQ.out.trans (hb4.mono HQ.out.size)); have hS0 := HTC.out w4 (Y4.out.below HQ.out); clear ho4 hb4)))
      | fail
    all_goals
      go_wp2_with (fail)
      go_ret3
      refine ⟨HB.out.trans (HQ.out.mono HB.out.size), cutA (some ⟨ab, ao, none⟩) c 8, c - 8, ?_, ?_⟩
      · show _ = Ending.returned (.tuple #[.slice _ p.length _, .int .i64 ((p.length + 12 : Nat) : Int), .int .i64 0])
        rw [HP.out.1]; rfl
      · intro W h
        show BytesIn W (.slice _ p.length _) p
        rw [HP.out.1]; exact HY3.out W h
set_option maxHeartbeats 4000000 in
theorem rone_spoilt (y : Value) (b : List Int) (w : World) (hy : BytesIn w y b) (ho : bytesOk b) (h8 : 8 ≤ b.length) (hl : b.length ≤ 140737488355328) (n : Nat) (hn : rdW b = n)
    (h1 : rdW (b.drop 4) = crcF (b.take 4)) (h2 : n ≠ 0) (h3 : n ≤ 1048576) (hs : n + 12 ≤ b.length) (p : List Int) (hp : (b.take (n + 8)).drop 8 = p) (h4 : rdW (b.drop (n + 8)) ≠ crcF p) : Calls Tryd.prog 11 #[y] w (ROnePost y b (some 11, []) w) := by
  obtain ⟨a, c, rfl, hc, hm, hx⟩ := id hy
  have n1 : ¬ b.length = 0 := by omega
  have n2 : ¬ (b.length : Int) < 8 := by omega
  have s1 : ∀ w, (Instr.slice 22 (.slice a b.length c) (some (.int .i64 4)) (some (.int .i64 8)) none).run Tryd.prog w = .ok (.slice (cutA a c 4) 4 (c - 4)) w := sliceBlh a b.length c 4 8 (by omega) (by omega)
  have s2 : ∀ w, (Instr.slice 22 (.slice a b.length c) none (some (.int .i64 4)) none).run Tryd.prog w = .ok (.slice (cutA a c 0) 4 c) w := sliceBhi a b.length c 4 (by omega)
  have Y1 := Lib.hid (show BytesIn w (.slice (cutA a c 4) 4 (c - 4)) ((b.take 8).drop 4) from hy.cut 4 8 (by omega) (by omega))
  have Y2 := Lib.hid (hy.upto 4 (by omega))
  have C2 := Lib.hid (fun W (hw : BytesIn W (.slice (cutA a c 0) 4 c) (b.take 4)) => sumr_any _ (b.take 4) W hw (ho.take 4) (by rw [List.length_take]; omega))
  have HS := Lib.hid (word_str b 4 (crcF (b.take 4)) ho (by omega) (crcF_lt (ho.take 4)))
  have HCL := Lib.hid (crcF_lt (ho.take 4))
  generalize crcF (b.take 4) = t at *
  have heq : strOfNums (wordL t) = strOfNums ((b.take 8).drop 4) := HS.out.2 h1
  have s3 : ∀ w, (Instr.slice 22 (.slice a b.length c) (some (.int .i64 8)) (some (.int .i64 (8 + (n : Int)))) none).run Tryd.prog w = .ok (.slice (cutA a c 8) n (c - 8)) w := fun w => by rw [show 8 + (n : Int) = ((n + 8 : Nat) : Int) by omega]; exact sliceBlh a b.length c 8 (n + 8) (by omega) (by omega) w
  have s4 : ∀ w, (Instr.slice 22 (.slice a b.length c) (some (.int .i64 (8 + (n : Int)))) (some (.int .i64 (12 + (n : Int)))) none).run Tryd.prog w = .ok (.slice (cutA a c (n + 8)) 4 (c - (n + 8))) w := fun w => by rw [show 8 + (n : Int) = ((n + 8 : Nat) : Int) by omega, show 12 + (n : Int) = ((n + 12 : Nat) : Int) by omega]; have := sliceBlh a b.length c (n + 8) (n + 12) (by omega) (by omega) w; rw [show n + 12 - (n + 8) = 4 by omega] at this; exact this
  have Y3 : BytesIn w (.slice (cutA a c 8) n (c - 8)) ((b.take (n + 8)).drop 8) := hy.cut 8 (n + 8) (by omega) (by omega)
  have Y4 : BytesIn w (.slice (cutA a c (n + 8)) 4 (c - (n + 8))) ((b.take (n + 8 + 4)).drop (n + 8)) := by have := hy.cut (n + 8) (n + 12) (by omega) (by omega); rw [show n + 12 - (n + 8) = 4 by omega] at this; exact this
  have hpl : p.length = n := by rw [← hp, List.length_drop, List.length_take]; omega
  have hpo : bytesOk p := by rw [← hp]; exact (ho.take _).drop _
  rw [hp] at Y3
  have HP := Lib.hid (And.intro hpl hpo)
  have C3 := Lib.hid (fun W (hw : BytesIn W (.slice (cutA a c 8) n (c - 8)) p) => sumr_any _ p W hw hpo (by rw [hpl]; omega))
  have HCP := Lib.hid (crcF_lt hpo)
  have hws := word_str b (n + 8) (crcF p) ho (by omega) (crcF_lt hpo)
  have HY3 := Lib.hid (fun W (h : BytesIn W (.slice a b.length c) b) => (show BytesIn W (.slice (cutA a c 8) n (c - 8)) p by have h5 := h.cut 8 (n + 8) (by omega) (by omega); rw [hp] at h5; exact h5))
  replace Y3 := Lib.hid Y3
  replace Y4 := Lib.hid Y4
  have HW8 := Lib.hid (show IntKind.i64.wrap (8 + (n : Int)) = 8 + (n : Int) from IntWalk.i64_in _ (by omega))
  have HW12 := Lib.hid (show IntKind.i64.wrap (12 + (n : Int)) = 12 + (n : Int) from IntWalk.i64_in _ (by omega))
  have hT0 := fun W (hy : BytesIn W (.slice (cutA a c (n + 8)) 4 (c - (n + 8))) ((b.take (n + 8 + 4)).drop (n + 8))) => conv_bytes W _ _ hy
  obtain ⟨ab, ao, z0, z1, z2, z3, rfl, b0, b1, b2, b3, hN, c0, c1, c2, c3⟩ := four_cells hy ho (by omega)
  rw [hn] at hN
  have hz' : ((n : Int) == 0) = false := by simp; omega
  have hg : decide ((1048576 : Int) < (n : Int)) = false := by simp; omega
  have hlt : ¬ (b.length : Int) < (n : Int) + 12 := by omega
  have q1 : (1 : Int) < b.length := by omega
  have q2 : (2 : Int) < b.length := by omega
  have q3 : (3 : Int) < b.length := by omega
  have m0 : 0 < b.length := by omega
  have m1 : 1 < b.length := by omega
  have m2 : 2 < b.length := by omega
  have m3 : 3 < b.length := by omega
  have p0 : IntKind.i64.wrap ((z0 : Int) * 16777216) = (z0 : Int) * 16777216 := IntWalk.i64_in _ (by omega)
  have p1 : IntKind.i64.wrap ((z1 : Int) * 65536) = (z1 : Int) * 65536 := IntWalk.i64_in _ (by omega)
  have p2 : IntKind.i64.wrap ((z2 : Int) * 256) = (z2 : Int) * 256 := IntWalk.i64_in _ (by omega)
  have p3 : IntKind.i64.wrap ((z0 : Int) * 16777216 + (z1 : Int) * 65536) = (z0 : Int) * 16777216 + (z1 : Int) * 65536 := IntWalk.i64_in _ (by omega)
  have p4 : IntKind.i64.wrap ((z0 : Int) * 16777216 + (z1 : Int) * 65536 + (z2 : Int) * 256) = (z0 : Int) * 16777216 + (z1 : Int) * 65536 + (z2 : Int) * 256 := IntWalk.i64_in _ (by omega)
  have p5 : IntKind.i64.wrap ((z0 : Int) * 16777216 + (z1 : Int) * 65536 + (z2 : Int) * 256 + (z3 : Int)) = (n : Int) := by rw [IntWalk.i64_in _ (by omega)]; omega
  have hS0 := fun W (hy : BytesIn W (.slice (cutA (some ⟨ab, ao, none⟩) c 4) 4 (c - 4)) ((b.take 8).drop 4)) => conv_bytes W _ _ hy
  rw [← heq] at hS0
  have HSC := Lib.hid hS0
  have hne : ((strOfNums (wordL t)).toList == (strOfNums (wordL t)).toList) = true := by simp
  have HW4 := Lib.hid (fun (W : World) v hv => conv_bytes W v (wordL t) hv)
  clear heq hn h1
  generalize strOfNums (wordL t) = sB at *
  clear ho hx hm hc hN HS
  have hne2 := str_neq (fun e => h4 (hws.1 e))
  have HT4 := Lib.hid (fun (W : World) v hv => conv_bytes W v (wordL (crcF p)) hv)
  clear hws h4
  generalize strOfNums ((b.take (n + 8 + 4)).drop (n + 8)) = sC at *
  generalize strOfNums (wordL (crcF p)) = sD at *
  generalize crcF p = u at *
  have HTC := Lib.hid hT0
  clear hT0 hs hpl hpo
  go_enter Tryd.func11, Tryd.ntmps11
  go_wp2
  go_quiet (fail)
  have HB := Lib.hid (show Below w.heap.size w (w.drewN nq).drew from ⟨rfl, rfl, rfl, Nat.le_refl _, fun _ _ => rfl⟩)
  replace Y1 := Lib.hid (show BytesIn (w.drewN nq).drew _ _ from Y1.out)
  replace Y2 := Lib.hid (show BytesIn (w.drewN nq).drew _ _ from Y2.out)
  replace Y3 := Lib.hid (show BytesIn (w.drewN nq).drew _ _ from Y3.out)
  replace Y4 := Lib.hid (show BytesIn (w.drewN nq).drew _ _ from Y4.out)
  replace hS0 : (convert 22 9 (.slice (cutA (some ⟨ab, ao, none⟩) c 4) 4 (c - 4))).run Tryd.prog (w.drewN nq).drew = .ok (.string sB) (w.drewN nq).drew := hS0 _ Y1.out
  clear c0 c1 c2 c3 q1 q2 q3 m0 m1 m2 m3 p0 p1 p2 p3 p4 p5 b0 b1 b2 b3
  generalize w.drewN nq = w1 at *
  have HQ := Lib.hid (Below.refl w1.drew.heap.size w1.drew)
  go_wp2_with (fail)
  first
    | (go_region_held (fun w => (convert 22 9 (.slice (cutA (some ⟨ab, ao, none⟩) c 4) 4 (c - 4))).run Tryd.prog w = .ok (.string sB) w)
        (exact hS0)
        (first
          | (go_at_call 18; (with_reducible refine (C2.out _ (Y2.out.below HQ.out)).mono ?_); rintro e w3 ⟨rfl, rfl⟩)
          | (go_at_call 21; (with_reducible refine (four_any t _ HCL.out).mono ?_); rintro e w3 ⟨v3, rfl, ho3, hb3⟩; have hcv3 := HW4.out w3 v3 (owns_in ho3 (word_max t)); replace HQ := Lib.hid (HQ.out.trans (hb3.mono HQ.out.size)); have hS0 := HSC.out w3 (Y1.out.below HQ.out); clear ho3 hb3)))
    | fail
  all_goals
    go_upto_region 10 with (fail)
    replace HB := Lib.hid (HB.out.trans (HQ.out.mono HB.out.size))
    replace Y3 := Lib.hid (Y3.out.below HQ.out)
    replace Y4 := Lib.hid (Y4.out.below HQ.out)
    clear hS0 HQ Y1 Y2 C2 HSC HW4 HCL
    replace HB := Lib.hid HB.out.drew
    replace Y3 := Lib.hid (show BytesIn w3.drew _ _ from Y3.out)
    replace Y4 := Lib.hid (show BytesIn w3.drew _ _ from Y4.out)
    have hS0 := HTC.out w3.drew Y4.out
    have HQ := Lib.hid (Below.refl w3.drew.heap.size w3.drew)
    have W8 := HW8.out
    have W12 := HW12.out
    first
      | (go_region_held (fun w => (convert 22 9 (.slice (cutA (some ⟨ab, ao, none⟩) c (n + 8)) 4 (c - (n + 8)))).run Tryd.prog w = .ok (.string sC) w)
          (exact hS0)
          (first
            | (go_at_call 18; (with_reducible refine (C3.out _ (Y3.out.below HQ.out)).mono ?_); rintro e w4 ⟨rfl, rfl⟩)
            | (go_at_call 21; (with_reducible refine (four_any u _ HCP.out).mono ?_); rintro e w4 ⟨v4, rfl, ho4, hb4⟩; have hcv4 := HT4.out w4 v4 (owns_in ho4 (word_max u)); replace HQ := Lib.hid (HQ.out.trans (hb4.mono HQ.out.size)); have hS0 := HTC.out w4 (Y4.out.below HQ.out); clear ho4 hb4)))
      | fail
    all_goals
      go_wp2_with (fail)
      go_ret3
      exact ⟨HB.out.trans (HQ.out.mono HB.out.size), rfl⟩
theorem rone_any (y : Value) (b : List Int) (w : World) (hy : BytesIn w y b) (ho : bytesOk b) (hl : b.length ≤ 140737488355328) : Calls Tryd.prog 11 #[y] w (ROnePost y b (oneF b) w) := by
  unfold oneF
  split
  · next h => exact rone_empty y b w hy h
  · next h =>
    split
    · next h8 => exact rone_short y b w hy h h8
    · next h8 =>
      split
      · next h1 => exact rone_head y b w hy ho (by omega) hl h1
      · next h1 =>
        split
        · next h2 => exact rone_rest y b w hy ho (by omega) hl _ rfl (by omega) (by omega) (by omega) h2
        · next h2 =>
          split
          · next h3 => exact rone_spoilt y b w hy ho (by omega) hl _ rfl (by omega) (by omega) (by omega) (by omega) _ rfl h3
          · next h3 => exact rone_fit y b w hy ho (by omega) hl _ rfl (by omega) (by omega) (by omega) (by omega) _ rfl (by omega)
end Go.Proofs.YtfdjmfomccckaaaDoor
