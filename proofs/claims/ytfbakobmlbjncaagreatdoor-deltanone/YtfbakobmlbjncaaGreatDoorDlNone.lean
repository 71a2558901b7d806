/- Diff at a state and itself at a later revision. -/
import Derived.Test.YtfbakobmlbjncaaGreatDoorDlUse2
namespace Go.Proofs.YtfbakobmlbjncaaGreatDoor
open Go.RowKit

def noneD (a b : Int) : DelD := ⟨a, b, [], [], [], [], [], []⟩
theorem diff_none {s : StD} {k : Int} (h : checkE V8 s = 0) (hk : s.rev < k ∧ k ≤ 1099511627776) : diffR V8 s ⟨k, s.jobs, s.nodes, s.leases⟩ = (noneD s.rev k, 0) := by
  have h0 := ((check_zero V8 s).1 h).1
  rw [diffR_ok h (check_rev8 h (by omega)) hk.1]
  unfold diffS noneD
  simp only [new_self, gone_self]
theorem ddiff_none {s : StD} {k : Int} {aj an al : Option Addr} {cj cn cl : Nat} (hw : wState s) (h : checkE V8 s = 0) (hk : s.rev < k ∧ k ≤ 1099511627776) {w : World} (hT : Tabs w) (hm : JobsAt w aj s.jobs ∧ NodesAt w an s.nodes ∧ LeasesAt w al s.leases) :
    Calls Tryz.prog 12 #[.agg #[.int .i64 s.rev, .slice aj s.jobs.length cj, .slice an s.nodes.length cn, .slice al s.leases.length cl], .agg #[.int .i64 k, .slice aj s.jobs.length cj, .slice an s.nodes.length cn, .slice al s.leases.length cl]] w fun e w' => ∃ M : DlM, e = .returned (.tuple #[.agg #[.int .i64 s.rev, .int .i64 k, .slice M.aj 0 M.cj, .slice M.an 0 M.cn, .slice M.al 0 M.cl, .slice M.gj 0 M.hj, .slice M.gn 0 M.hn, .slice M.gl 0 M.hl], .int .i64 0]) ∧ OwnD w.heap.size M (noneD s.rev k) w' ∧ Below w.heap.size w w' :=
  ddiff_at (b := ⟨k, s.jobs, s.nodes, s.leases⟩) (D := noneD s.rev k) (c := 0) hw (wState_chk (check_rev8 h (by have h0 := ((check_zero V8 s).1 h).1; omega))) (diff_none h hk) hT hm hm
theorem deltaEq_none {a b : Int} {M : DlM} {w : World} (hm : DeltaAt w M (noneD a b)) : Calls Tryz.prog 14 #[.agg #[.int .i64 a, .int .i64 b, .slice M.aj 0 M.cj, .slice M.an 0 M.cn, .slice M.al 0 M.cl, .slice M.gj 0 M.hj, .slice M.gn 0 M.hn, .slice M.gl 0 M.hl], .agg #[.int .i64 a, .int .i64 b, .slice none 0 0, .slice none 0 0, .slice none 0 0, .slice none 0 0, .slice none 0 0, .slice none 0 0]] w fun e w' => e = .returned (.bool true) ∧ Below w.heap.size w w' := by
  have h := deltaEq_is (noneD a b) (noneD a b) M ⟨none, 0, none, 0, none, 0, none, 0, none, 0, none, 0⟩ (by unfold LenD noneD; simp) w hm (ownD_at (ownD_zero 0 w))
  refine Calls.mono h ?_
  rintro e w' ⟨c, rfl, hc, b⟩
  obtain rfl : c = true := hc.2 rfl
  exact ⟨rfl, b⟩
end Go.Proofs.YtfbakobmlbjncaaGreatDoor
