/- A file's bytes through a step. -/
import Derived.Test.YtbnflhdioohfeaaFiMore
namespace Go.Proofs.Ytbnflhdioohfeaa
open Go.RowKit Go.Maps
set_option maxRecDepth 100000
theorem ent_eq {es : List Ent} (h : SortedE es) {e x : Ent} (he : e ∈ es) (hx : x ∈ es) (hn : e.nm = x.nm) : e = x := by
  have := sorted_nodup h
  clear h
  induction es with
  | nil => cases he
  | cons y r ih =>
    obtain ⟨g1, g2⟩ := List.pairwise_cons.1 this
    rcases List.mem_cons.1 he with e1 | h1'
    · rcases List.mem_cons.1 hx with e2 | h2'
      · exact e1.trans e2.symm
      · exact absurd (by rw [← e1]; exact hn) (g1 x h2')
    · rcases List.mem_cons.1 hx with e2 | h2'
      · exact absurd (by rw [← e2]; exact hn.symm) (g1 e h1')
      · exact ih h1' h2' g2
/-- a file's bytes stay through a step -/
theorem view_step {R R' : FsR} {w w' : World} (H : FsAt w R) (h : StepTo R R' w w') {e : Ent} (he : e ∈ R.es) : ViewAt w' e.v e.xs := by
  refine (H.ents e he).1.keep h.keep fun k o hf hu => ?_
  rcases hf with rfl | rfl | ⟨x, hx, hs⟩
  · exact absurd hu (H.pb_u8 (H.ents e he) o)
  · exact absurd hu (H.mb_u8 (H.ents e he) o)
  · by_cases hn : x.nm = e.nm
    · rw [← ent_eq H.sorted hx he hn]; exact hs
    · exact absurd hu ((pair_mem H.apart hx he hn k o).1 hs)
theorem length_putE_le (e : Ent) (es : List Ent) : (putE e es).length ≤ es.length + 1 := by
  unfold putE; rw [length_insE]; exact Nat.succ_le_succ (List.length_filter_le _ _)
end Go.Proofs.Ytbnflhdioohfeaa
