/- A delta in a block, held while calls go by. -/
import Derived.Test.YthpgkfonbmffdaaGreatDoorPkDl2
import Derived.Deep.RegionHeld3
namespace Go.Proofs.YthpgkfonbmffdaaGreatDoor
open Go.RowKit

theorem dlH_all {H : Nat} {M : DlM} {d : DelD} {W w : World} (h : ObjAt H (dlC M d) 49 w) (hb : Below H W w) : (w.cell? ⟨H, 0, none⟩ = some (.int .i64 d.frm) ∧ w.cell? ⟨H, 1, none⟩ = some (.int .i64 d.til) ∧ w.cell? ⟨H, 2, none⟩ = some (.slice M.aj d.jobs.length M.cj) ∧ w.cell? ⟨H, 3, none⟩ = some (.slice M.an d.nodes.length M.cn) ∧ w.cell? ⟨H, 4, none⟩ = some (.slice M.al d.leases.length M.cl) ∧ w.cell? ⟨H, 5, none⟩ = some (.slice M.gj d.gj.length M.hj) ∧ w.cell? ⟨H, 6, none⟩ = some (.slice M.gn d.gn.length M.hn) ∧ w.cell? ⟨H, 7, none⟩ = some (.slice M.gl d.gl.length M.hl)) ∧ ObjAt H (dlC M d) 49 w ∧ Below H W w :=
  ⟨⟨objAt_cell h 0 rfl, objAt_cell h 1 rfl, objAt_cell h 2 rfl, objAt_cell h 3 rfl, objAt_cell h 4 rfl, objAt_cell h 5 rfl, objAt_cell h 6 rfl, objAt_cell h 7 rfl⟩, h, hb⟩
theorem dlH_call {H : Nat} {M : DlM} {d : DelD} {W w w' : World} (hb : Below w.heap.size w w') (h : (w.cell? ⟨H, 0, none⟩ = some (.int .i64 d.frm) ∧ w.cell? ⟨H, 1, none⟩ = some (.int .i64 d.til) ∧ w.cell? ⟨H, 2, none⟩ = some (.slice M.aj d.jobs.length M.cj) ∧ w.cell? ⟨H, 3, none⟩ = some (.slice M.an d.nodes.length M.cn) ∧ w.cell? ⟨H, 4, none⟩ = some (.slice M.al d.leases.length M.cl) ∧ w.cell? ⟨H, 5, none⟩ = some (.slice M.gj d.gj.length M.hj) ∧ w.cell? ⟨H, 6, none⟩ = some (.slice M.gn d.gn.length M.hn) ∧ w.cell? ⟨H, 7, none⟩ = some (.slice M.gl d.gl.length M.hl)) ∧ ObjAt H (dlC M d) 49 w ∧ Below H W w) : (w'.cell? ⟨H, 0, none⟩ = some (.int .i64 d.frm) ∧ w'.cell? ⟨H, 1, none⟩ = some (.int .i64 d.til) ∧ w'.cell? ⟨H, 2, none⟩ = some (.slice M.aj d.jobs.length M.cj) ∧ w'.cell? ⟨H, 3, none⟩ = some (.slice M.an d.nodes.length M.cn) ∧ w'.cell? ⟨H, 4, none⟩ = some (.slice M.al d.leases.length M.cl) ∧ w'.cell? ⟨H, 5, none⟩ = some (.slice M.gj d.gj.length M.hj) ∧ w'.cell? ⟨H, 6, none⟩ = some (.slice M.gn d.gn.length M.hn) ∧ w'.cell? ⟨H, 7, none⟩ = some (.slice M.gl d.gl.length M.hl)) ∧ ObjAt H (dlC M d) 49 w' ∧ Below H W w' :=
  dlH_all (objAt_next h.2.1 hb) (below_trans h.2.2 hb (Nat.le_of_lt (objAt_lt h.2.1)))
theorem wDelta_zero : wDelta zeroDel := ⟨⟨rfl, rfl⟩, ⟨fun x hx => (by cases hx), fun x hx => (by cases hx), fun x hx => (by cases hx)⟩, fun x hx => (by cases hx), fun x hx => (by cases hx), fun x hx => (by cases hx)⟩
def noM : DlM := ⟨none, 0, none, 0, none, 0, none, 0, none, 0, none, 0⟩
theorem zeroAt (w : World) : DeltaAt w noM zeroDel := ⟨⟨fun i hi => absurd hi (by simp [zeroDel]), fun i hi => absurd hi (by simp [zeroDel]), fun i hi => absurd hi (by simp [zeroDel])⟩, fun i hi => absurd hi (by simp [zeroDel]), fun i hi => absurd hi (by simp [zeroDel]), fun i hi => absurd hi (by simp [zeroDel])⟩
/-- Check refuses the delta of nothing. -/
theorem dcheck_none (w : World) (hT : Tabs w) : Calls Tryz.prog 60 #[.agg #[.int .i64 0, .int .i64 0, .slice none 0 0, .slice none 0 0, .slice none 0 0, .slice none 0 0, .slice none 0 0, .slice none 0 0]] w fun e w' => e = .returned (.int .i64 1) ∧ Below w.heap.size w w' :=
  dcheck_any noM zeroDel wDelta_zero w hT (zeroAt w)
end Go.Proofs.YthpgkfonbmffdaaGreatDoor
