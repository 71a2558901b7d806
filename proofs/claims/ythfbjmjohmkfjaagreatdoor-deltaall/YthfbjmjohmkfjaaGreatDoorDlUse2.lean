/- A state's revision set anew in its block; what Apply answers then. -/
import Derived.Test.YthfbjmjohmkfjaaGreatDoorDlUse
import Derived.Test.YthfbjmjohmkfjaaGreatDoorRest
namespace Go.Proofs.YthfbjmjohmkfjaaGreatDoor
open Go.RowKit

theorem ownD_box {B b : Nat} {M : DlM} {d : DelD} {w : World} {vs : Array Value} (h : OwnD B M d w) (ho : ObjAt b vs 26 w) (j : Nat) (u : Value) : OwnD B M d (w.setCell ⟨b, j, none⟩ u) :=
  ⟨own_box h.1 ho (by decide) j u, own_box h.2.1 ho (by decide) j u, own_box h.2.2.1 ho (by decide) j u, own_box h.2.2.2.1 ho (by decide) j u, own_box h.2.2.2.2.1 ho (by decide) j u, own_box h.2.2.2.2.2 ho (by decide) j u⟩
theorem objAt_apart {b c : Nat} {vs vs' : Array Value} {w : World} (h : ObjAt b vs 29 w) (h' : ObjAt c vs' 26 w) : b ≠ c := by
  rintro rfl
  unfold ObjAt at h h'
  rw [h] at h'
  simp at h'
theorem check_rev8 {s : StD} (h : checkE V8 s = 0) {k : Int} (hk : 0 ≤ k ∧ k ≤ 1099511627776) : checkE V8 ⟨k, s.jobs, s.nodes, s.leases⟩ = 0 := (check_zero V8 _).2 ⟨hk, ((check_zero V8 s).1 h).2⟩
theorem dapply_rev {s Y : StD} {d : DelD} {c : Nat} {M : DlM} {aj an al : Option Addr} {cj cn cl : Nat} {k : Int} (hws : wState ⟨k, s.jobs, s.nodes, s.leases⟩) (hwd : wDelta d) (e : applyR V8 ⟨k, s.jobs, s.nodes, s.leases⟩ d = (Y, c)) {w : World} (hT : Tabs w) (hms : JobsAt w aj s.jobs ∧ NodesAt w an s.nodes ∧ LeasesAt w al s.leases) (hmd : DeltaAt w M d) :
    Calls Tryz.prog 12 #[.agg #[.int .i64 k, .slice aj s.jobs.length cj, .slice an s.nodes.length cn, .slice al s.leases.length cl], .agg #[.int .i64 d.frm, .int .i64 d.til, .slice M.aj d.jobs.length M.cj, .slice M.an d.nodes.length M.cn, .slice M.al d.leases.length M.cl, .slice M.gj d.gj.length M.hj, .slice M.gn d.gn.length M.hn, .slice M.gl d.gl.length M.hl]] w fun e w' => ∃ aj' an' al' cj' cn' cl', e = .returned (.tuple #[.agg #[.int .i64 Y.rev, .slice aj' Y.jobs.length cj', .slice an' Y.nodes.length cn', .slice al' Y.leases.length cl'], .int .i64 (c : Nat)]) ∧ OwnS w.heap.size aj' an' al' cj' cn' cl' Y w' ∧ Below w.heap.size w w' :=
  dapply_at (s := ⟨k, s.jobs, s.nodes, s.leases⟩) hws hwd e hT hms hmd
end Go.Proofs.YthfbjmjohmkfjaaGreatDoor
