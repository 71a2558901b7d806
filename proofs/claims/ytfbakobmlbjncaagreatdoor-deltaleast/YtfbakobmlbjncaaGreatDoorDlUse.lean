/- States and deltas in blocks, as the laws on deltas use them. -/
import Derived.Test.YtfbakobmlbjncaaGreatDoorDlDiffd
import Derived.Test.YtfbakobmlbjncaaGreatDoorDlApp
import Derived.Test.YtfbakobmlbjncaaGreatDoorDlHeld
import Derived.Test.YtfbakobmlbjncaaGreatDoorPkWi5
namespace Go.Proofs.YtfbakobmlbjncaaGreatDoor
open Go.RowKit

def BxS (b : Nat) (aj an al : Option Addr) (cj cn cl : Nat) (t : StD) (w : World) : Prop := ObjAt b #[.int .i64 t.rev, .slice aj t.jobs.length cj, .slice an t.nodes.length cn, .slice al t.leases.length cl] 26 w ∧ JobsAt w aj t.jobs ∧ NodesAt w an t.nodes ∧ LeasesAt w al t.leases
theorem bxS_next {b : Nat} {aj an al : Option Addr} {cj cn cl : Nat} {t : StD} {w w' : World} (h : BxS b aj an al cj cn cl t w) (hb : Below w.heap.size w w') : BxS b aj an al cj cn cl t w' := ⟨objAt_next h.1 hb, jobsAt_next h.2.1 hb, nodesAt_next h.2.2.1 hb, leasesAt_next h.2.2.2 hb⟩
theorem bxS_new {aj an al : Option Addr} {cj cn cl : Nat} {t : StD} {w : World} (h : JobsAt w aj t.jobs ∧ NodesAt w an t.nodes ∧ LeasesAt w al t.leases) : BxS w.heap.size aj an al cj cn cl t (w.alloc (.cells #[.int .i64 t.rev, .slice aj t.jobs.length cj, .slice an t.nodes.length cn, .slice al t.leases.length cl] 26)) :=
  ⟨objAt_new w _ _, jobsAt_next h.1 (below_one _ _), nodesAt_next h.2.1 (below_one _ _), leasesAt_next h.2.2 (below_one _ _)⟩
theorem bxS_cells {b : Nat} {aj an al : Option Addr} {cj cn cl : Nat} {t : StD} {w : World} (h : BxS b aj an al cj cn cl t w) : w.cell? ⟨b, 0, none⟩ = some (.int .i64 t.rev) ∧ w.cell? ⟨b, 1, none⟩ = some (.slice aj t.jobs.length cj) ∧ w.cell? ⟨b, 2, none⟩ = some (.slice an t.nodes.length cn) ∧ w.cell? ⟨b, 3, none⟩ = some (.slice al t.leases.length cl) :=
  ⟨objAt_cell h.1 0 rfl, objAt_cell h.1 1 rfl, objAt_cell h.1 2 rfl, objAt_cell h.1 3 rfl⟩
def BxD (b : Nat) (M : DlM) (t : DelD) (w : World) : Prop := ObjAt b #[.int .i64 t.frm, .int .i64 t.til, .slice M.aj t.jobs.length M.cj, .slice M.an t.nodes.length M.cn, .slice M.al t.leases.length M.cl, .slice M.gj t.gj.length M.hj, .slice M.gn t.gn.length M.hn, .slice M.gl t.gl.length M.hl] 29 w ∧ DeltaAt w M t
theorem bxD_next {b : Nat} {M : DlM} {t : DelD} {w w' : World} (h : BxD b M t w) (hb : Below w.heap.size w w') : BxD b M t w' := ⟨objAt_next h.1 hb, deltaAt_next h.2 hb⟩
theorem bxD_new {M : DlM} {t : DelD} {w : World} (h : DeltaAt w M t) : BxD w.heap.size M t (w.alloc (.cells #[.int .i64 t.frm, .int .i64 t.til, .slice M.aj t.jobs.length M.cj, .slice M.an t.nodes.length M.cn, .slice M.al t.leases.length M.cl, .slice M.gj t.gj.length M.hj, .slice M.gn t.gn.length M.hn, .slice M.gl t.gl.length M.hl] 29)) := ⟨objAt_new w _ _, deltaAt_next h (below_one _ _)⟩
theorem bxD_cells {b : Nat} {M : DlM} {t : DelD} {w : World} (h : BxD b M t w) : w.cell? ⟨b, 0, none⟩ = some (.int .i64 t.frm) ∧ w.cell? ⟨b, 1, none⟩ = some (.int .i64 t.til) ∧ w.cell? ⟨b, 2, none⟩ = some (.slice M.aj t.jobs.length M.cj) ∧ w.cell? ⟨b, 3, none⟩ = some (.slice M.an t.nodes.length M.cn) ∧ w.cell? ⟨b, 4, none⟩ = some (.slice M.al t.leases.length M.cl) ∧ w.cell? ⟨b, 5, none⟩ = some (.slice M.gj t.gj.length M.hj) ∧ w.cell? ⟨b, 6, none⟩ = some (.slice M.gn t.gn.length M.hn) ∧ w.cell? ⟨b, 7, none⟩ = some (.slice M.gl t.gl.length M.hl) :=
  ⟨objAt_cell h.1 0 rfl, objAt_cell h.1 1 rfl, objAt_cell h.1 2 rfl, objAt_cell h.1 3 rfl, objAt_cell h.1 4 rfl, objAt_cell h.1 5 rfl, objAt_cell h.1 6 rfl, objAt_cell h.1 7 rfl⟩
theorem lenD_valid {d : DelD} (h : dcheckE V8 d = 0) : LenD d := by
  have := (dvalid_facts h).2.1
  unfold LenD; omega
theorem lenD_zero : LenD zeroDel := by unfold LenD zeroDel; simp
theorem lenS_valid {s : StD} (h : checkE V8 s = 0) : s.jobs.length ≤ 140737488355328 ∧ s.nodes.length ≤ 140737488355328 ∧ s.leases.length ≤ 140737488355328 := by
  have := (valid_facts h).2.1; omega
theorem wDelta_diff {a b : StD} (ha : wState a) (hb : wState b) : wDelta (diffS a b) := by
  refine ⟨⟨ha.1, hb.1⟩, ⟨fun x hx => hb.2.1 x ((new_mem _ _ _).1 hx).1, fun x hx => hb.2.2.1 x ((new_mem _ _ _).1 hx).1, fun x hx => hb.2.2.2 x ((new_mem _ _ _).1 hx).1⟩, fun x hx => ?_, fun x hx => ?_, fun x hx => ?_⟩
  · obtain ⟨j, hj, e, _⟩ := (gone_mem _ _ _).1 hx; rw [← e]; exact (ha.2.1 j hj).1
  · obtain ⟨j, hj, e, _⟩ := (gone_mem _ _ _).1 hx; rw [← e]; exact (ha.2.2.1 j hj).1
  · obtain ⟨j, hj, e, _⟩ := (gone_mem _ _ _).1 hx; rw [← e]; exact (ha.2.2.2 j hj).1
theorem diff_cases (a b : StD) : (∃ c, c ≠ 0 ∧ diffR V8 a b = (zeroDel, c)) ∨ (diffR V8 a b = (diffS a b, 0) ∧ checkE V8 a = 0 ∧ checkE V8 b = 0 ∧ a.rev < b.rev) := by
  by_cases h1 : checkE V8 a ≠ 0
  · exact .inl ⟨_, h1, diffR_a h1⟩
  have h1 : checkE V8 a = 0 := by simpa using h1
  by_cases h2 : checkE V8 b ≠ 0
  · exact .inl ⟨_, h2, diffR_b h1 h2⟩
  have h2 : checkE V8 b = 0 := by simpa using h2
  by_cases h3 : b.rev ≤ a.rev
  · exact .inl ⟨1, by omega, diffR_rev h1 h2 h3⟩
  · exact .inr ⟨diffR_ok h1 h2 (by omega), h1, h2, by omega⟩
theorem dcheck_diff {a b : StD} (ha : checkE V8 a = 0) (hb : checkE V8 b = 0) (hr : a.rev < b.rev) : dcheckE V8 (diffS a b) = 0 := (dcheck_zero V8 _).2 (valid_diff ((check_zero V8 a).1 ha) ((check_zero V8 b).1 hb) hr)
/-- Diff and Apply at boxes, with what they answer named. -/
theorem ddiff_at {a b : StD} {D : DelD} {c : Nat} {aj an al bj bn bl : Option Addr} {cj cn cl dj dn dl : Nat} (hwa : wState a) (hwb : wState b) (e : diffR V8 a b = (D, c)) {w : World} (hT : Tabs w) (hma : JobsAt w aj a.jobs ∧ NodesAt w an a.nodes ∧ LeasesAt w al a.leases) (hmb : JobsAt w bj b.jobs ∧ NodesAt w bn b.nodes ∧ LeasesAt w bl b.leases) :
    Calls Tryz.prog 12 #[.agg #[.int .i64 a.rev, .slice aj a.jobs.length cj, .slice an a.nodes.length cn, .slice al a.leases.length cl], .agg #[.int .i64 b.rev, .slice bj b.jobs.length dj, .slice bn b.nodes.length dn, .slice bl b.leases.length dl]] w fun e w' => ∃ M : DlM, e = .returned (.tuple #[.agg #[.int .i64 D.frm, .int .i64 D.til, .slice M.aj D.jobs.length M.cj, .slice M.an D.nodes.length M.cn, .slice M.al D.leases.length M.cl, .slice M.gj D.gj.length M.hj, .slice M.gn D.gn.length M.hn, .slice M.gl D.gl.length M.hl], .int .i64 (c : Nat)]) ∧ OwnD w.heap.size M D w' ∧ Below w.heap.size w w' := by
  have h := ddiff_any a b aj an al bj bn bl cj cn cl dj dn dl hwa hwb w hT hma hmb
  rw [e] at h
  exact h
theorem dapply_at {s Y : StD} {d : DelD} {c : Nat} {M : DlM} {aj an al : Option Addr} {cj cn cl : Nat} (hws : wState s) (hwd : wDelta d) (e : applyR V8 s d = (Y, c)) {w : World} (hT : Tabs w) (hms : JobsAt w aj s.jobs ∧ NodesAt w an s.nodes ∧ LeasesAt w al s.leases) (hmd : DeltaAt w M d) :
    Calls Tryz.prog 16 #[.agg #[.int .i64 s.rev, .slice aj s.jobs.length cj, .slice an s.nodes.length cn, .slice al s.leases.length cl], .agg #[.int .i64 d.frm, .int .i64 d.til, .slice M.aj d.jobs.length M.cj, .slice M.an d.nodes.length M.cn, .slice M.al d.leases.length M.cl, .slice M.gj d.gj.length M.hj, .slice M.gn d.gn.length M.hn, .slice M.gl d.gl.length M.hl]] w fun e w' => ∃ aj' an' al' cj' cn' cl', e = .returned (.tuple #[.agg #[.int .i64 Y.rev, .slice aj' Y.jobs.length cj', .slice an' Y.nodes.length cn', .slice al' Y.leases.length cl'], .int .i64 (c : Nat)]) ∧ OwnS w.heap.size aj' an' al' cj' cn' cl' Y w' ∧ Below w.heap.size w w' := by
  have h := dapply_any s aj an al cj cn cl M d hws hwd w hT hms hmd
  rw [e] at h
  exact h
theorem dcheck_at {d : DelD} {c : Nat} {M : DlM} (hwd : wDelta d) (e : dcheckE V8 d = c) {w : World} (hT : Tabs w) (hmd : DeltaAt w M d) : Calls Tryz.prog 15 #[.agg #[.int .i64 d.frm, .int .i64 d.til, .slice M.aj d.jobs.length M.cj, .slice M.an d.nodes.length M.cn, .slice M.al d.leases.length M.cl, .slice M.gj d.gj.length M.hj, .slice M.gn d.gn.length M.hn, .slice M.gl d.gl.length M.hl]] w fun e w' => e = .returned (.int .i64 (c : Nat)) ∧ Below w.heap.size w w' := by
  have h := dcheck_any M d hwd w hT hmd
  rw [e] at h
  exact h
theorem deltaEq_at {d t : DelD} {M M' : DlM} (hd : LenD d) {w : World} (hm : DeltaAt w M d) (hm' : DeltaAt w M' t) : Calls Tryz.prog 14 #[.agg #[.int .i64 d.frm, .int .i64 d.til, .slice M.aj d.jobs.length M.cj, .slice M.an d.nodes.length M.cn, .slice M.al d.leases.length M.cl, .slice M.gj d.gj.length M.hj, .slice M.gn d.gn.length M.hn, .slice M.gl d.gl.length M.hl], .agg #[.int .i64 t.frm, .int .i64 t.til, .slice M'.aj t.jobs.length M'.cj, .slice M'.an t.nodes.length M'.cn, .slice M'.al t.leases.length M'.cl, .slice M'.gj t.gj.length M'.hj, .slice M'.gn t.gn.length M'.hn, .slice M'.gl t.gl.length M'.hl]] w fun e w' => ∃ c : Bool, e = .returned (.bool c) ∧ (c = true ↔ d = t) ∧ Below w.heap.size w w' := deltaEq_is d t M M' hd w hm hm'
theorem deltaEq_zero {d : DelD} {M : DlM} (hd : LenD d) {w : World} (hm : DeltaAt w M d) : Calls Tryz.prog 14 #[.agg #[.int .i64 d.frm, .int .i64 d.til, .slice M.aj d.jobs.length M.cj, .slice M.an d.nodes.length M.cn, .slice M.al d.leases.length M.cl, .slice M.gj d.gj.length M.hj, .slice M.gn d.gn.length M.hn, .slice M.gl d.gl.length M.hl], .agg #[.int .i64 0, .int .i64 0, .slice none 0 0, .slice none 0 0, .slice none 0 0, .slice none 0 0, .slice none 0 0, .slice none 0 0]] w fun e w' => ∃ c : Bool, e = .returned (.bool c) ∧ (c = true ↔ d = zeroDel) ∧ Below w.heap.size w w' := deltaEq_is d zeroDel M ⟨none, 0, none, 0, none, 0, none, 0, none, 0, none, 0⟩ hd w hm (ownD_at (ownD_zero 0 w))
theorem same_zero {s : StD} {aj an al : Option Addr} {cj cn cl : Nat} (hs : s.jobs.length ≤ 140737488355328 ∧ s.nodes.length ≤ 140737488355328 ∧ s.leases.length ≤ 140737488355328) {w : World} (h : JobsAt w aj s.jobs ∧ NodesAt w an s.nodes ∧ LeasesAt w al s.leases) : Calls Tryz.prog 18 #[.agg #[.int .i64 s.rev, .slice aj s.jobs.length cj, .slice an s.nodes.length cn, .slice al s.leases.length cl], .agg #[.int .i64 0, .slice none 0 0, .slice none 0 0, .slice none 0 0]] w fun e w' => ∃ c : Bool, e = .returned (.bool c) ∧ (c = true ↔ s = zeroSt) ∧ Below w.heap.size w w' :=
  same_is s zeroSt aj an al none none none cj cn cl 0 0 0 hs w h.1 h.2.1 h.2.2 (fun i hi => absurd hi (by simp [zeroSt])) (fun i hi => absurd hi (by simp [zeroSt])) (fun i hi => absurd hi (by simp [zeroSt]))
end Go.Proofs.YtfbakobmlbjncaaGreatDoor
