/- States and deltas in blocks; DeltaEq and Check of deltas at blocks. -/
import Derived.Test.YthpgkfonbmffdaaGreatDoorDlEq
import Derived.Test.YthpgkfonbmffdaaGreatDoorPkUp4
import Derived.Test.YthpgkfonbmffdaaGreatDoorDlHeld
import Derived.Test.YthpgkfonbmffdaaGreatDoorPkWi5
namespace Go.Proofs.YthpgkfonbmffdaaGreatDoor
open Go.RowKit

def BxS (b : Nat) (aj an al : Option Addr) (cj cn cl : Nat) (t : StD) (w : World) : Prop := ObjAt b #[.int .i64 t.rev, .slice aj t.jobs.length cj, .slice an t.nodes.length cn, .slice al t.leases.length cl] 26 w ∧ JobsAt w aj t.jobs ∧ NodesAt w an t.nodes ∧ LeasesAt w al t.leases
theorem bxS_next {b : Nat} {aj an al : Option Addr} {cj cn cl : Nat} {t : StD} {w w' : World} (h : BxS b aj an al cj cn cl t w) (hb : Below w.heap.size w w') : BxS b aj an al cj cn cl t w' := ⟨objAt_next h.1 hb, jobsAt_next h.2.1 hb, nodesAt_next h.2.2.1 hb, leasesAt_next h.2.2.2 hb⟩
theorem bxS_new {aj an al : Option Addr} {cj cn cl : Nat} {t : StD} {w : World} (h : JobsAt w aj t.jobs ∧ NodesAt w an t.nodes ∧ LeasesAt w al t.leases) : BxS w.heap.size aj an al cj cn cl t (w.alloc (.cells #[.int .i64 t.rev, .slice aj t.jobs.length cj, .slice an t.nodes.length cn, .slice al t.leases.length cl] 26)) :=
  ⟨objAt_new w _ _, jobsAt_next h.1 (below_one _ _), nodesAt_next h.2.1 (below_one _ _), leasesAt_next h.2.2 (below_one _ _)⟩
theorem bxS_cells {b : Nat} {aj an al : Option Addr} {cj cn cl : Nat} {t : StD} {w : World} (h : BxS b aj an al cj cn cl t w) : w.cell? ⟨b, 0, none⟩ = some (.int .i64 t.rev) ∧ w.cell? ⟨b, 1, none⟩ = some (.slice aj t.jobs.length cj) ∧ w.cell? ⟨b, 2, none⟩ = some (.slice an t.nodes.length cn) ∧ w.cell? ⟨b, 3, none⟩ = some (.slice al t.leases.length cl) :=
  ⟨objAt_cell h.1 0 rfl, objAt_cell h.1 1 rfl, objAt_cell h.1 2 rfl, objAt_cell h.1 3 rfl⟩
def BxD (b : Nat) (M : DlM) (t : DelD) (w : World) : Prop := ObjAt b #[.int .i64 t.frm, .int .i64 t.til, .slice M.aj t.jobs.length M.cj, .slice M.an t.nodes.length M.cn, .slice M.al t.leases.length M.cl, .slice M.gj t.gj.length M.hj, .slice M.gn t.gn.length M.hn, .slice M.gl t.gl.length M.hl] 49 w ∧ DeltaAt w M t
theorem bxD_next {b : Nat} {M : DlM} {t : DelD} {w w' : World} (h : BxD b M t w) (hb : Below w.heap.size w w') : BxD b M t w' := ⟨objAt_next h.1 hb, deltaAt_next h.2 hb⟩
theorem bxD_new {M : DlM} {t : DelD} {w : World} (h : DeltaAt w M t) : BxD w.heap.size M t (w.alloc (.cells #[.int .i64 t.frm, .int .i64 t.til, .slice M.aj t.jobs.length M.cj, .slice M.an t.nodes.length M.cn, .slice M.al t.leases.length M.cl, .slice M.gj t.gj.length M.hj, .slice M.gn t.gn.length M.hn, .slice M.gl t.gl.length M.hl] 49)) := ⟨objAt_new w _ _, deltaAt_next h (below_one _ _)⟩
theorem bxD_cells {b : Nat} {M : DlM} {t : DelD} {w : World} (h : BxD b M t w) : w.cell? ⟨b, 0, none⟩ = some (.int .i64 t.frm) ∧ w.cell? ⟨b, 1, none⟩ = some (.int .i64 t.til) ∧ w.cell? ⟨b, 2, none⟩ = some (.slice M.aj t.jobs.length M.cj) ∧ w.cell? ⟨b, 3, none⟩ = some (.slice M.an t.nodes.length M.cn) ∧ w.cell? ⟨b, 4, none⟩ = some (.slice M.al t.leases.length M.cl) ∧ w.cell? ⟨b, 5, none⟩ = some (.slice M.gj t.gj.length M.hj) ∧ w.cell? ⟨b, 6, none⟩ = some (.slice M.gn t.gn.length M.hn) ∧ w.cell? ⟨b, 7, none⟩ = some (.slice M.gl t.gl.length M.hl) :=
  ⟨objAt_cell h.1 0 rfl, objAt_cell h.1 1 rfl, objAt_cell h.1 2 rfl, objAt_cell h.1 3 rfl, objAt_cell h.1 4 rfl, objAt_cell h.1 5 rfl, objAt_cell h.1 6 rfl, objAt_cell h.1 7 rfl⟩
theorem lenD_valid {d : DelD} (h : dcheckE V8 d = 0) : LenD d := by
  obtain ⟨_, ⟨⟨l1, l2, l3, l4⟩, l5, l6⟩, _⟩ := (dcheck_zero V8 d).1 h
  unfold LenD; omega
theorem lenD_zero : LenD zeroDel := by unfold LenD zeroDel; simp
theorem dcheck_at {d : DelD} {c : Nat} {M : DlM} (hwd : wDelta d) (e : dcheckE V8 d = c) {w : World} (hT : Tabs w) (hmd : DeltaAt w M d) : Calls Tryz.prog 60 #[.agg #[.int .i64 d.frm, .int .i64 d.til, .slice M.aj d.jobs.length M.cj, .slice M.an d.nodes.length M.cn, .slice M.al d.leases.length M.cl, .slice M.gj d.gj.length M.hj, .slice M.gn d.gn.length M.hn, .slice M.gl d.gl.length M.hl]] w fun e w' => e = .returned (.int .i64 (c : Nat)) ∧ Below w.heap.size w w' := by
  have h := dcheck_any M d hwd w hT hmd
  rw [e] at h
  exact h
theorem deltaEq_at {d t : DelD} {M M' : DlM} (hd : LenD d) {w : World} (hm : DeltaAt w M d) (hm' : DeltaAt w M' t) : Calls Tryz.prog 18 #[.agg #[.int .i64 d.frm, .int .i64 d.til, .slice M.aj d.jobs.length M.cj, .slice M.an d.nodes.length M.cn, .slice M.al d.leases.length M.cl, .slice M.gj d.gj.length M.hj, .slice M.gn d.gn.length M.hn, .slice M.gl d.gl.length M.hl], .agg #[.int .i64 t.frm, .int .i64 t.til, .slice M'.aj t.jobs.length M'.cj, .slice M'.an t.nodes.length M'.cn, .slice M'.al t.leases.length M'.cl, .slice M'.gj t.gj.length M'.hj, .slice M'.gn t.gn.length M'.hn, .slice M'.gl t.gl.length M'.hl]] w fun e w' => ∃ c : Bool, e = .returned (.bool c) ∧ (c = true ↔ d = t) ∧ Below w.heap.size w w' := deltaEq_is d t M M' hd w hm hm'
theorem deltaEq_zero {d : DelD} {M : DlM} (hd : LenD d) {w : World} (hm : DeltaAt w M d) : Calls Tryz.prog 18 #[.agg #[.int .i64 d.frm, .int .i64 d.til, .slice M.aj d.jobs.length M.cj, .slice M.an d.nodes.length M.cn, .slice M.al d.leases.length M.cl, .slice M.gj d.gj.length M.hj, .slice M.gn d.gn.length M.hn, .slice M.gl d.gl.length M.hl], .agg #[.int .i64 0, .int .i64 0, .slice none 0 0, .slice none 0 0, .slice none 0 0, .slice none 0 0, .slice none 0 0, .slice none 0 0]] w fun e w' => ∃ c : Bool, e = .returned (.bool c) ∧ (c = true ↔ d = zeroDel) ∧ Below w.heap.size w w' := deltaEq_is d zeroDel M ⟨none, 0, none, 0, none, 0, none, 0, none, 0, none, 0⟩ hd w hm (ownD_at (ownD_zero 0 w))
end Go.Proofs.YthpgkfonbmffdaaGreatDoor
