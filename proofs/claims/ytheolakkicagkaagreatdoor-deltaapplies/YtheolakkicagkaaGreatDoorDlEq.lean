/- The reference's Eq at strings, and its DeltaEq. -/
import Derived.Test.YtheolakkicagkaaGreatDoorPkDl1
import Derived.Test.YtheolakkicagkaaGreatDoorPkWi5
import Derived.Test.YtheolakkicagkaaGreatDoorPkWi2
namespace Go.Proofs.YtheolakkicagkaaGreatDoor
open Go.RowKit

theorem del_eq {s t : DelD} : s = t ↔ s.frm = t.frm ∧ s.til = t.til ∧ s.jobs = t.jobs ∧ s.nodes = t.nodes ∧ s.leases = t.leases ∧ s.gj = t.gj ∧ s.gn = t.gn ∧ s.gl = t.gl := by
  constructor
  · rintro rfl; exact ⟨rfl, rfl, rfl, rfl, rfl, rfl, rfl, rfl⟩
  · cases s; cases t; rintro ⟨h1, h2, h3, h4, h5, h6, h7, h8⟩; simp only at h1 h2 h3 h4 h5 h6 h7 h8; subst h1 h2 h3 h4 h5 h6 h7 h8; rfl
def LenD (d : DelD) : Prop := (d.jobs.length ≤ 140737488355328 ∧ d.nodes.length ≤ 140737488355328 ∧ d.leases.length ≤ 140737488355328) ∧ d.gj.length ≤ 140737488355328 ∧ d.gn.length ≤ 140737488355328 ∧ d.gl.length ≤ 140737488355328
theorem dl_pair (w : World) (cs cs' : Array Value) (W : World) (hW : (w.alloc (.cells cs 29)).alloc (.cells cs' 29) = W) : ObjAt w.heap.size cs 29 W ∧ ObjAt (w.heap.size + 1) cs' 29 W ∧ Below w.heap.size w W := by
  rw [← hW]
  have p1 := objAt_new (w.alloc (.cells cs 29)) cs' 29
  rw [World.size_alloc] at p1
  exact ⟨objAt_next (objAt_new w _ _) (below_one _ _), p1, below_trans (below_one _ _) (below_one _ _) (by simp)⟩
end Go.Proofs.YtheolakkicagkaaGreatDoor
