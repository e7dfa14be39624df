/- Part 35 of the proof. -/
import Derived.Test.YtadolfacjolbkaaDoorSh34
namespace Go.Proofs.YtadolfacjolbkaaDoor
set_option linter.unusedVariables false
set_option linter.unusedSimpArgs false
section
variable {P : Program} {ops : Array Oper} {Q : Exit → Act → World → Prop} {md : Region.Mode} {S : Bool → World → Prop} {ds : Bool → List Nat}
def anyK (P : Program) (md : Region.Mode) (ops : Array Oper) (Q : Exit → Act → World → Prop) (S : Bool → World → Prop) (ds : Bool → List Nat) : Nat → Array Bool → Act → World → Prop
  | 0, l, a, w => Region.ready md ops l = [] ∧ Q .normal a w
  | f + 1, l, a, w => (Region.ready md ops l = [] → Q .normal a w) ∧ ∀ i ∈ Region.ready md ops l, wpOp P ops Q i (fun a' w' => (∀ k, (ds k).contains i = true → S k w') ∧ anyK P md ops Q S ds f (l.setIfInBounds i true) a' w') a w
theorem any_of_K : ∀ (f : Nat) (l : Array Bool) (a : Act) (w : World), anyK P md ops Q S ds f l a w → wpAny P md ops Q f l a w
  | 0, _, _, _, h => h
  | f + 1, _, _, _, h => ⟨h.1, fun i hi => wpOp_mono (fun a' w' h' => any_of_K f _ a' w' h'.2) (h.2 i hi)⟩
theorem anyK_first (k0 : Bool) {i : Nat} {oi : Oper} {v : Value} {B : Nat → Prop} (hi : ops[i]? = some oi) (hsel : ∀ (j : Nat) (o : Oper) cs b, ops[j]? = some o → o.op ≠ .select cs b)
    (hQ : ∀ c a w, Q (.panic c) (a.put oi.dst v) w → Q (.panic c) a w) (hT : ∀ j oj, ops[j]? = some oj → B j → ∃ e ∈ oj.after, Region.binds md e = true ∧ (e.on = i ∨ B e.on)) :
    ∀ (f : Nat) (l : Array Bool) (a : Act) (w : World),
      (∀ j oj, ops[j]? = some oj → j ≠ i → l.getD j true = false → (∀ e ∈ oj.after, Region.binds md e = true → e.on ≠ i) → oi.apart ops oj = true) →
      (∀ k, B k → l.getD k false = false) → (∀ k, (k = k0 ∨ (ds k).contains i = true) → ∀ j, j ≠ i → l.getD j true = false → ¬ B j → (ds k).contains j = true) → i ∈ Region.ready md ops l → YieldsIf P ops (S k0) oi v a → (∀ k, (k = k0 ∨ (ds k).contains i = true) → S k w) →
      anyK P md ops Q S ds f (l.setIfInBounds i true) (a.put oi.dst v) w → anyK P md ops Q S ds (f + 1) l a w := by
  intro f
  induction f with
  | zero =>
    intro l a w _ _ _ hr hy hS H
    refine ⟨fun h => (by rw [h] at hr; cases hr), fun j hj => ?_⟩
    by_cases hji : j = i
    · subst hji; exact hy.wpOp hi (hS k0 (.inl rfl)) ⟨fun k hk => hS k (.inr hk), H⟩
    · have := ready_mono hj hji
      rw [H.1] at this
      cases this
  | succ f ih =>
    intro l a w hfree hU hD hr hy hS H
    refine ⟨fun h => (by rw [h] at hr; cases hr), fun j hj => ?_⟩
    by_cases hji : j = i
    · subst hji; exact hy.wpOp hi (hS k0 (.inl rfl)) ⟨fun k hk => hS k (.inr hk), H⟩
    · have h1 := H.2 j (ready_mono hj hji)
      obtain ⟨hjun, oj, hoj, hall⟩ := mem_ready.1 hj
      have hin : l.getD i false = false := unlisted (mem_ready.1 hr).1
      have hnot : ∀ e ∈ oj.after, Region.binds md e = true → e.on ≠ i := fun e he hb heq => by
        have h1 := hall e he hb
        rw [heq, hin] at h1; cases h1
      have hjB : ¬ B j := fun hB => by
        obtain ⟨e, he, hb, h2⟩ := hT j oj hoj hB
        have h3 := hall e he hb
        rcases h2 with h2 | h2
        · rw [h2, hin] at h3; cases h3
        · rw [hU e.on h2] at h3; cases h3
      have h2 := wpOp_putIf hoj (hfree j oj hoj hji hjun hnot) (fun cs b => hsel i oi cs b hi) (fun cs b => hsel j oj cs b hoj) hQ hy h1
      have back : ∀ {k : Nat}, (l.setIfInBounds j true).getD k true = false → l.getD k true = false := fun {k} hun => by
        by_cases hjk : j = k
        · subst hjk; exact hjun
        · rw [getD_set_ne true hjk] at hun; exact hun
      have hU' : ∀ k, B k → (l.setIfInBounds j true).getD k false = false := fun k hk => by
        rw [getD_set_ne false (fun e => hjB (by rw [e]; exact hk) : j ≠ k)]; exact hU k hk
      refine wpOp_mono (fun a' w' h3 => ⟨h3.2.1, ih (l.setIfInBounds j true) a' w' (fun k ok hk hki hun hno => hfree k ok hk hki (back hun) hno) hU' (fun k hk j' hj' hun hB => hD k hk j' hj' (back hun) hB) (ready_mono hr (Ne.symm hji)) h3.1 (fun k hk => h3.2.1 k (hD k hk j hji hjun hjB)) ?_⟩) h2
      rw [Array.setIfInBounds_comm _ _ hji]
      exact h3.2.2
def waitsK (md : Region.Mode) (ops : Array Oper) (ds : Bool → List Nat) (k0 : Bool) (ks : List Nat) (l : Array Bool) (i : Nat) : Bool :=
  [false, true].all fun k => !(k == k0 || (ds k).contains i) || waitsB md ops (ds k) ks l i
theorem waitsK_spec {k0 : Bool} {ks : List Nat} {l : Array Bool} {i : Nat} (h : waitsK md ops ds k0 ks l i = true) (k : Bool) (hk : k = k0 ∨ (ds k).contains i = true) : waitsB md ops (ds k) ks l i = true := by
  have h1 := List.all_eq_true.1 h k (by cases k <;> simp)
  rcases hk with rfl | hk
  · simpa using h1
  · rw [hk] at h1; simpa using h1
theorem anyK_take (k0 : Bool) (ks : List Nat) {i : Nat} {oi : Oper} {v : Value} {f : Nat} {l : Array Bool} {a : Act} {w : World} (hi : ops[i]? = some oi)
    (hs : Region.noSelect ops = true) (hf : Region.free md ops l i = true) (hr : (Region.ready md ops l).contains i = true)
    (hQ : ∀ c a w, Q (.panic c) (a.put oi.dst v) w → Q (.panic c) a w) (hT : waitsK md ops ds k0 ks l i = true) (hy : YieldsIf P ops (S k0) oi v a) (hS : ∀ k, S k w)
    (h : anyK P md ops Q S ds f (l.setIfInBounds i true) (a.put oi.dst v) w) : anyK P md ops Q S ds (f + 1) l a w :=
  anyK_first k0 (B := fun j => ks.contains j = true) hi (Region.noSelect_spec hs) hQ (waitsB_spec (waitsK_spec hT k0 (.inl rfl))).1 f l a w (Region.free_spec hi hf)
    (waitsB_spec (waitsK_spec hT k0 (.inl rfl))).2.1 (fun k hk => (waitsB_spec (waitsK_spec hT k hk)).2.2) (by simpa using hr) hy (fun k _ => hS k) h
theorem anyK_firstY {i : Nat} {oi : Oper} {v : Value} (hi : ops[i]? = some oi) (hsel : ∀ (j : Nat) (o : Oper) cs b, ops[j]? = some o → o.op ≠ .select cs b)
    (hQ : ∀ c a w, Q (.panic c) (a.put oi.dst v) w → Q (.panic c) a w) (hd : ∀ k, (ds k).contains i = false) :
    ∀ (f : Nat) (l : Array Bool) (a : Act) (w : World),
      (∀ j oj, ops[j]? = some oj → j ≠ i → l.getD j true = false → (∀ e ∈ oj.after, Region.binds md e = true → e.on ≠ i) → oi.apart ops oj = true) →
      i ∈ Region.ready md ops l → YieldsIf P ops (fun _ => True) oi v a →
      anyK P md ops Q S ds f (l.setIfInBounds i true) (a.put oi.dst v) w → anyK P md ops Q S ds (f + 1) l a w := by
  intro f
  induction f with
  | zero =>
    intro l a w _ hr hy H
    refine ⟨fun h => (by rw [h] at hr; cases hr), fun j hj => ?_⟩
    by_cases hji : j = i
    · subst hji; exact hy.wpOp hi trivial ⟨fun k h => (by rw [hd k] at h; cases h), H⟩
    · have := ready_mono hj hji
      rw [H.1] at this
      cases this
  | succ f ih =>
    intro l a w hfree hr hy H
    refine ⟨fun h => (by rw [h] at hr; cases hr), fun j hj => ?_⟩
    by_cases hji : j = i
    · subst hji; exact hy.wpOp hi trivial ⟨fun k h => (by rw [hd k] at h; cases h), H⟩
    · have h1 := H.2 j (ready_mono hj hji)
      obtain ⟨hjun, oj, hoj, hall⟩ := mem_ready.1 hj
      have hin : l.getD i false = false := unlisted (mem_ready.1 hr).1
      have hnot : ∀ e ∈ oj.after, Region.binds md e = true → e.on ≠ i := fun e he hb heq => by
        have h1 := hall e he hb
        rw [heq, hin] at h1; cases h1
      have h2 := wpOp_putIf hoj (hfree j oj hoj hji hjun hnot) (fun cs b => hsel i oi cs b hi) (fun cs b => hsel j oj cs b hoj) hQ hy h1
      refine wpOp_mono (fun a' w' h3 => ⟨h3.2.1, ih (l.setIfInBounds j true) a' w' (fun k ok hk hki hun hno => hfree k ok hk hki ?_ hno) (ready_mono hr (Ne.symm hji)) h3.1 ?_⟩) h2
      · by_cases hjk : j = k
        · subst hjk; exact hjun
        · rw [getD_set_ne true hjk] at hun; exact hun
      · rw [Array.setIfInBounds_comm _ _ hji]
        exact h3.2.2
theorem anyK_takeY {i : Nat} {oi : Oper} {v : Value} {f : Nat} {l : Array Bool} {a : Act} {w : World} (hi : ops[i]? = some oi)
    (hs : Region.noSelect ops = true) (hf : Region.free md ops l i = true) (hr : (Region.ready md ops l).contains i = true)
    (hQ : ∀ c a w, Q (.panic c) (a.put oi.dst v) w → Q (.panic c) a w) (hd : ∀ k, (ds k).contains i = false) (hy : Yields P ops oi v a)
    (h : anyK P md ops Q S ds f (l.setIfInBounds i true) (a.put oi.dst v) w) : anyK P md ops Q S ds (f + 1) l a w :=
  anyK_firstY hi (Region.noSelect_spec hs) hQ hd f l a w (Region.free_spec hi hf) (by simpa using hr) hy.yieldsIf h
theorem anyK_one {i : Nat} {o : Oper} {f : Nat} {l : Array Bool} {a : Act} {w : World} (hr : Region.ready md ops l = [i]) (ho : ops[i]? = some o)
    (h : ∀ K' : Act → World → Prop, (∀ a w, (∀ k, (ds k).contains i = true → S k w) → anyK P md ops Q S ds f (l.setIfInBounds i true) a w → K' a w) → if Region.wanted o (yielded ops a.tmps) = true then Oper.wp P o a w K' Q else K' (a.put o.dst undef) w) : anyK P md ops Q S ds (f + 1) l a w :=
  ⟨fun h0 => by rw [hr] at h0; (cases h0), fun j hj => by
    rw [hr] at hj
    obtain rfl := List.mem_singleton.1 hj
    exact wpOp_step ho fun K' hK => h K' fun a w hS hW => hK a w ⟨hS, hW⟩⟩
def readyK (P : Program) (md : Region.Mode) (ops : Array Oper) (Q : Exit → Act → World → Prop) (S : Bool → World → Prop) (ds : Bool → List Nat) (f : Nat) (l : Array Bool) (a : Act) (w : World) (rs : List Nat) : Prop :=
  ∀ i ∈ rs, wpOp P ops Q i (fun a' w' => (∀ k, (ds k).contains i = true → S k w') ∧ anyK P md ops Q S ds f (l.setIfInBounds i true) a' w') a w
theorem readyK_nil {f : Nat} {l : Array Bool} {a : Act} {w : World} : readyK P md ops Q S ds f l a w [] := fun _ h => by cases h
theorem readyK_cons {f : Nat} {l : Array Bool} {a : Act} {w : World} {i : Nat} {o : Oper} {rs : List Nat} (ho : ops[i]? = some o)
    (h : ∀ K' : Act → World → Prop, (∀ a w, (∀ k, (ds k).contains i = true → S k w) → anyK P md ops Q S ds f (l.setIfInBounds i true) a w → K' a w) → if Region.wanted o (yielded ops a.tmps) = true then Oper.wp P o a w K' Q else K' (a.put o.dst undef) w)
    (hs : readyK P md ops Q S ds f l a w rs) : readyK P md ops Q S ds f l a w (i :: rs) := fun j hj => by
  rcases List.mem_cons.1 hj with rfl | hj
  · exact wpOp_step ho fun K' hK => h K' fun a w hS hW => hK a w ⟨hS, hW⟩
  · exact hs j hj
theorem anyK_ready {rs : List Nat} {f : Nat} {l : Array Bool} {a : Act} {w : World} (hr : Region.ready md ops l = rs) (hne : rs ≠ [])
    (h : readyK P md ops Q S ds f l a w rs) : anyK P md ops Q S ds (f + 1) l a w :=
  ⟨fun h0 => absurd (hr ▸ h0) hne, hr ▸ h⟩
theorem anyK_done {l : Array Bool} {a : Act} {w : World} (hr : Region.ready md ops l = []) (h : Q .normal a w) : ∀ f, anyK P md ops Q S ds f l a w
  | 0 => ⟨hr, h⟩
  | _ + 1 => ⟨fun _ => h, by rw [hr]; simp⟩
theorem wp_region_K (S : Bool → World → Prop) (ds : Bool → List Nat) {id : Nat} {a : Act} {w : World} (hm : P.follows .mixedOrders = true)
    (h : anyK P .any ops Q S ds ops.size (Array.replicate ops.size false) a w.drew) : (Code.region id ops true).wp P Q a w :=
  wp_region_any hm (any_of_K _ _ _ _ h)
end
theorem not_memK {ds : Bool → List Nat} {S : Bool → World → Prop} {w : World} {i : Nat} (h : ∀ k, (ds k).contains i = false) : ∀ k, (ds k).contains i = true → S k w := fun k h' => by rw [h k] at h'; cases h'
theorem memK {S : Bool → World → Prop} {w : World} {p : Bool → Prop} (h0 : S false w) (h1 : S true w) : ∀ k, p k → S k w := fun k _ => by cases k <;> assumption
theorem wpIn_region_K {P : Program} {n l : Nat} (S : Bool → World → Prop) (ds : Bool → List Nat) {id : Nat} {ops : Array Oper} {Q : Exit → Act → World → Prop} {a : Act} {w : World} (hm : P.follows .mixedOrders = true) (hd : noDefer ops = true) (hL : LetsOut Q → False)
    (h : anyK P .any ops Q S ds ops.size (Array.replicate ops.size false) a w.drew) : (Code.region id ops true).wpIn (Fence.wide.inRound l) n P Q a w :=
  wpIn_region_any hm (wpAnyIn_of l hd hL _ _ _ _ (any_of_K _ _ _ _ h))
end Go.Proofs.YtadolfacjolbkaaDoor
