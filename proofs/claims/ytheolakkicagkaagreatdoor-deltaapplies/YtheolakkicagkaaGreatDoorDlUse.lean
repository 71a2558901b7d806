/- States and deltas in blocks, as the laws on deltas use them. -/
import Derived.Test.YtheolakkicagkaaGreatDoorDlDiffd
import Derived.Test.YtheolakkicagkaaGreatDoorDlApp
import Derived.Test.YtheolakkicagkaaGreatDoorDlBox
namespace Go.Proofs.YtheolakkicagkaaGreatDoor
open Go.RowKit

theorem lenS_valid {s : StD} (h : checkE V8 s = 0) : s.jobs.length ≤ 140737488355328 ∧ s.nodes.length ≤ 140737488355328 ∧ s.leases.length ≤ 140737488355328 := by
  have := (valid_facts h).2.1; omega
theorem wDelta_diff {a b : StD} (ha : wState a) (hb : wState b) : wDelta (diffS a b) := by
  refine ⟨⟨ha.1, hb.1⟩, ⟨fun x hx => hb.2.1 x ((new_mem _ _ _).1 hx).1, fun x hx => hb.2.2.1 x ((new_mem _ _ _).1 hx).1, fun x hx => hb.2.2.2 x ((new_mem _ _ _).1 hx).1⟩, fun x hx => ?_, fun x hx => ?_, fun x hx => ?_⟩
  · obtain ⟨j, hj, e, _⟩ := (gone_mem _ _ _).1 hx; rw [← e]; exact (ha.2.1 j hj).1
  · obtain ⟨j, hj, e, _⟩ := (gone_mem _ _ _).1 hx; rw [← e]; exact (ha.2.2.1 j hj).1
  · obtain ⟨j, hj, e, _⟩ := (gone_mem _ _ _).1 hx; rw [← e]; exact (ha.2.2.2 j hj).1
theorem diff_cases (a b : StD) : (∃ c, c ≠ 0 ∧ diffR V8 a b = (zeroDel, c)) ∨ (diffR V8 a b = (diffS a b, 0) ∧ checkE V8 a = 0 ∧ checkE V8 b = 0 ∧ a.rev < b.rev) := by
  by_cases h1 : checkE V8 a ≠ 0
  · exact .inl ⟨_, h1, diffR_a h1⟩
  have h1 : checkE V8 a = 0 := by simpa using h1
  by_cases h2 : checkE V8 b ≠ 0
  · exact .inl ⟨_, h2, diffR_b h1 h2⟩
  have h2 : checkE V8 b = 0 := by simpa using h2
  by_cases h3 : b.rev ≤ a.rev
  · exact .inl ⟨1, by omega, diffR_rev h1 h2 h3⟩
  · exact .inr ⟨diffR_ok h1 h2 (by omega), h1, h2, by omega⟩
theorem dcheck_diff {a b : StD} (ha : checkE V8 a = 0) (hb : checkE V8 b = 0) (hr : a.rev < b.rev) : dcheckE V8 (diffS a b) = 0 := (dcheck_zero V8 _).2 (valid_diff ((check_zero V8 a).1 ha) ((check_zero V8 b).1 hb) hr)
theorem dapply_at {s Y : StD} {d : DelD} {c : Nat} {M : DlM} {aj an al : Option Addr} {cj cn cl : Nat} (hws : wState s) (hwd : wDelta d) (e : applyR V8 s d = (Y, c)) {w : World} (hT : Tabs w) (hms : JobsAt w aj s.jobs ∧ NodesAt w an s.nodes ∧ LeasesAt w al s.leases) (hmd : DeltaAt w M d) :
    Calls Tryz.prog 4 #[.agg #[.int .i64 s.rev, .slice aj s.jobs.length cj, .slice an s.nodes.length cn, .slice al s.leases.length cl], .agg #[.int .i64 d.frm, .int .i64 d.til, .slice M.aj d.jobs.length M.cj, .slice M.an d.nodes.length M.cn, .slice M.al d.leases.length M.cl, .slice M.gj d.gj.length M.hj, .slice M.gn d.gn.length M.hn, .slice M.gl d.gl.length M.hl]] w fun e w' => ∃ aj' an' al' cj' cn' cl', e = .returned (.tuple #[.agg #[.int .i64 Y.rev, .slice aj' Y.jobs.length cj', .slice an' Y.nodes.length cn', .slice al' Y.leases.length cl'], .int .i64 (c : Nat)]) ∧ OwnS w.heap.size aj' an' al' cj' cn' cl' Y w' ∧ Below w.heap.size w w' := by
  have h := dapply_any s aj an al cj cn cl M d hws hwd w hT hms hmd
  rw [e] at h
  exact h
theorem same_zero {s : StD} {aj an al : Option Addr} {cj cn cl : Nat} (hs : s.jobs.length ≤ 140737488355328 ∧ s.nodes.length ≤ 140737488355328 ∧ s.leases.length ≤ 140737488355328) {w : World} (h : JobsAt w aj s.jobs ∧ NodesAt w an s.nodes ∧ LeasesAt w al s.leases) : Calls Tryz.prog 6 #[.agg #[.int .i64 s.rev, .slice aj s.jobs.length cj, .slice an s.nodes.length cn, .slice al s.leases.length cl], .agg #[.int .i64 0, .slice none 0 0, .slice none 0 0, .slice none 0 0]] w fun e w' => ∃ c : Bool, e = .returned (.bool c) ∧ (c = true ↔ s = zeroSt) ∧ Below w.heap.size w w' :=
  same_is s zeroSt aj an al none none none cj cn cl 0 0 0 hs w h.1 h.2.1 h.2.2 (fun i hi => absurd hi (by simp [zeroSt])) (fun i hi => absurd hi (by simp [zeroSt])) (fun i hi => absurd hi (by simp [zeroSt]))
end Go.Proofs.YtheolakkicagkaaGreatDoor
