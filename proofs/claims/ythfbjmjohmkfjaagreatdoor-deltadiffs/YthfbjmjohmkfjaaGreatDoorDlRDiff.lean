/- The reference's Diff at every two states. -/
import Derived.Test.YthfbjmjohmkfjaaGreatDoorDlBtw
import Derived.Test.YthfbjmjohmkfjaaGreatDoorDlDiff
import Derived.Test.YthfbjmjohmkfjaaGreatDoorPkStR
namespace Go.Proofs.YthfbjmjohmkfjaaGreatDoor
open Go.RowKit

set_option maxRecDepth 100000 in
set_option maxHeartbeats 8000000 in
theorem rdiff_any (a b : StD) (aj an al bj bn bl : Option Addr) (cj cn cl dj dn dl : Nat) (w : World) (hma : JobsAt w aj a.jobs ∧ NodesAt w an a.nodes ∧ LeasesAt w al a.leases) (hmb : JobsAt w bj b.jobs ∧ NodesAt w bn b.nodes ∧ LeasesAt w bl b.leases) :
    Calls Tryz.prog 9 #[.agg #[.int .i64 a.rev, .slice aj a.jobs.length cj, .slice an a.nodes.length cn, .slice al a.leases.length cl], .agg #[.int .i64 b.rev, .slice bj b.jobs.length dj, .slice bn b.nodes.length dn, .slice bl b.leases.length dl]] w fun e w' => ∃ M, e = .returned (.tuple #[.agg (dlC M (diffR V8 a b).1), .int .i64 ((diffR V8 a b).2 : Nat)]) ∧ OwnD w.heap.size M (diffR V8 a b).1 w' ∧ Below w.heap.size w w' := by
  obtain ⟨H, hH⟩ : ∃ H, w.heap.size = H := ⟨_, rfl⟩
  obtain ⟨W0, hW0⟩ : ∃ W0, ((w.alloc (.cells #[.int .i64 a.rev, .slice aj a.jobs.length cj, .slice an a.nodes.length cn, .slice al a.leases.length cl] 26)).alloc (.cells #[.int .i64 b.rev, .slice bj b.jobs.length dj, .slice bn b.nodes.length dn, .slice bl b.leases.length dl] 26)).alloc (.cells #[.int .i64 0, .int .i64 0, .slice none 0 0, .slice none 0 0, .slice none 0 0, .slice none 0 0, .slice none 0 0, .slice none 0 0] 29) = W0 := ⟨_, rfl⟩
  obtain ⟨p0, q0, r0, B0, sz0⟩ := three_blocks w _ _ _ _ _ _ _ _ W0 hW0
  have CA := Lib.hid (rcheck_any a.rev aj an al cj cn cl a.jobs a.nodes a.leases W0 (jobsAt_next hma.1 B0) (nodesAt_next hma.2.1 B0) (leasesAt_next hma.2.2 B0))
  rw [hH] at p0 q0 r0 B0 sz0
  have HMA := Lib.hid hma
  have HMB := Lib.hid hmb
  have HH := Lib.hid hH
  have HW := Lib.hid hW0
  have S0 := Lib.hid sz0
  have ea : (⟨a.rev, a.jobs, a.nodes, a.leases⟩ : StD) = a := rfl
  rw [ea] at CA
  rw [hH]
  obtain ⟨D, hD⟩ : ∃ D, diffR V8 a b = D := ⟨_, rfl⟩
  rw [hD]
  have HD := Lib.hid hD
  obtain ⟨e1, he1⟩ : ∃ e, checkE V8 a = e := ⟨_, rfl⟩
  rw [he1] at CA
  have HE1 := Lib.hid he1
  have v0 := objAt_cell p0 0 rfl
  have v1 := objAt_cell p0 1 rfl
  have v2 := objAt_cell p0 2 rfl
  have v3 := objAt_cell p0 3 rfl
  have vl := objAt_lt p0
  have P0 := Lib.hid (And.intro p0 (And.intro q0 (And.intro r0 B0)))
  clear hma hmb hW0 p0 q0 r0 B0 sz0 ea hD he1
  go_enter Tryz.func9, Tryz.ntmps9
  go_wp2_with fail
  rw [HW.out]
  refine CA.out.mono ?_
  rintro e w1 ⟨rfl, b1⟩
  obtain ⟨p0, q0, r0, B0⟩ := P0.out
  have p1 := objAt_next p0 b1
  have q1 := objAt_next q0 b1
  have r1 := objAt_next r0 b1
  have B1 := below_trans B0 b1 (by have := S0.out; omega)
  clear CA P0 p0 q0 r0 B0 b1 v0 v1 v2 v3 vl
  by_cases z1 : e1 ≠ 0
  · have z' : ((e1 : Int) != 0) = true := by simp; omega
    have HE : Hid (D = (zeroDel, e1)) := by show _ = _; rw [← HD.out]; rw [diffR_a (by rw [HE1.out]; exact z1), HE1.out]
    have k0 := objAt_cell r1 0 rfl
    have f0 := objAt_free r1 0
    have k1 := objAt_cell r1 1 rfl
    have f1 := objAt_free r1 1
    have k2 := objAt_cell r1 2 rfl
    have f2 := objAt_free r1 2
    have k3 := objAt_cell r1 3 rfl
    have f3 := objAt_free r1 3
    have k4 := objAt_cell r1 4 rfl
    have f4 := objAt_free r1 4
    have k5 := objAt_cell r1 5 rfl
    have f5 := objAt_free r1 5
    have k6 := objAt_cell r1 6 rfl
    have f6 := objAt_free r1 6
    have k7 := objAt_cell r1 7 rfl
    have f7 := objAt_free r1 7
    have kl := objAt_lt r1
    have oF := obj_put8 r1 (.int .i64 0) (.int .i64 0) (.slice none 0 0) (.slice none 0 0) (.slice none 0 0) (.slice none 0 0) (.slice none 0 0) (.slice none 0 0)
    have t0 := objAt_cell oF 0 rfl
    have t1 := objAt_cell oF 1 rfl
    have t2 := objAt_cell oF 2 rfl
    have t3 := objAt_cell oF 3 rfl
    have t4 := objAt_cell oF 4 rfl
    have t5 := objAt_cell oF 5 rfl
    have t6 := objAt_cell oF 6 rfl
    have t7 := objAt_cell oF 7 rfl
    have TT := Lib.hid (And.intro t0 (And.intro t1 (And.intro t2 (And.intro t3 (And.intro t4 (And.intro t5 (And.intro t6 t7)))))))
    have BF := Lib.hid (below_put8 B1 (show H ≤ H + 2 by omega) (.int .i64 0) (.int .i64 0) (.slice none 0 0) (.slice none 0 0) (.slice none 0 0) (.slice none 0 0) (.slice none 0 0) (.slice none 0 0))
    clear oF t0 t1 t2 t3 t4 t5 t6 t7 p1 q1 r1 B1
    go_wp2
    obtain ⟨t0, t1, t2, t3, t4, t5, t6, t7⟩ := TT.out
    exact bodyPost_ret (v := .tuple #[.agg #[.int .i64 0, .int .i64 0, .slice none 0 0, .slice none 0 0, .slice none 0 0, .slice none 0 0, .slice none 0 0, .slice none 0 0], .int .i64 (e1 : Int)]) (by simp [results, Tryz.results9, go_sem, t0, t1, t2, t3, t4, t5, t6, t7]) rfl ⟨⟨none, 0, none, 0, none, 0, none, 0, none, 0, none, 0⟩, by rw [HE.out]; rfl, by rw [HE.out]; exact ownD_zero _ _, BF.out⟩
  obtain rfl : e1 = 0 := by simpa using z1
  clear z1
  have CB := rcheck_any b.rev bj bn bl dj dn dl b.jobs b.nodes b.leases w1 (jobsAt_next HMB.out.1 (by rw [hH]; exact B1)) (nodesAt_next HMB.out.2.1 (by rw [hH]; exact B1)) (leasesAt_next HMB.out.2.2 (by rw [hH]; exact B1))
  have eb : (⟨b.rev, b.jobs, b.nodes, b.leases⟩ : StD) = b := rfl
  rw [eb] at CB
  clear eb
  obtain ⟨e2, he2⟩ : ∃ e, checkE V8 b = e := ⟨_, rfl⟩
  rw [he2] at CB
  have CB := Lib.hid CB
  have HE2 := Lib.hid he2
  have x0 := objAt_cell q1 0 rfl
  have x1 := objAt_cell q1 1 rfl
  have x2 := objAt_cell q1 2 rfl
  have x3 := objAt_cell q1 3 rfl
  have xl := objAt_lt q1
  have P1 := Lib.hid (And.intro p1 (And.intro q1 (And.intro r1 B1)))
  clear p1 q1 r1 B1 he2
  go_wp2_with fail
  refine CB.out.mono ?_
  rintro e w2 ⟨rfl, b2⟩
  obtain ⟨p1, q1, r1, B1⟩ := P1.out
  have p2 := objAt_next p1 b2
  have q2 := objAt_next q1 b2
  have r2 := objAt_next r1 b2
  have B2 := below_trans B1 b2 (Nat.le_of_lt (by have := objAt_lt p1; omega))
  clear CB P1 p1 q1 r1 B1 b2 x0 x1 x2 x3 xl
  by_cases z2 : e2 ≠ 0
  · have z' : ((e2 : Int) != 0) = true := by simp; omega
    have HE : Hid (D = (zeroDel, e2)) := by show _ = _; rw [← HD.out]; rw [diffR_b HE1.out (by rw [HE2.out]; exact z2), HE2.out]
    have k0 := objAt_cell r2 0 rfl
    have f0 := objAt_free r2 0
    have k1 := objAt_cell r2 1 rfl
    have f1 := objAt_free r2 1
    have k2 := objAt_cell r2 2 rfl
    have f2 := objAt_free r2 2
    have k3 := objAt_cell r2 3 rfl
    have f3 := objAt_free r2 3
    have k4 := objAt_cell r2 4 rfl
    have f4 := objAt_free r2 4
    have k5 := objAt_cell r2 5 rfl
    have f5 := objAt_free r2 5
    have k6 := objAt_cell r2 6 rfl
    have f6 := objAt_free r2 6
    have k7 := objAt_cell r2 7 rfl
    have f7 := objAt_free r2 7
    have kl := objAt_lt r2
    have oF := obj_put8 r2 (.int .i64 0) (.int .i64 0) (.slice none 0 0) (.slice none 0 0) (.slice none 0 0) (.slice none 0 0) (.slice none 0 0) (.slice none 0 0)
    have t0 := objAt_cell oF 0 rfl
    have t1 := objAt_cell oF 1 rfl
    have t2 := objAt_cell oF 2 rfl
    have t3 := objAt_cell oF 3 rfl
    have t4 := objAt_cell oF 4 rfl
    have t5 := objAt_cell oF 5 rfl
    have t6 := objAt_cell oF 6 rfl
    have t7 := objAt_cell oF 7 rfl
    have TT := Lib.hid (And.intro t0 (And.intro t1 (And.intro t2 (And.intro t3 (And.intro t4 (And.intro t5 (And.intro t6 t7)))))))
    have BF := Lib.hid (below_put8 B2 (show H ≤ H + 2 by omega) (.int .i64 0) (.int .i64 0) (.slice none 0 0) (.slice none 0 0) (.slice none 0 0) (.slice none 0 0) (.slice none 0 0) (.slice none 0 0))
    clear oF t0 t1 t2 t3 t4 t5 t6 t7 p2 q2 r2 B2
    go_wp2
    obtain ⟨t0, t1, t2, t3, t4, t5, t6, t7⟩ := TT.out
    exact bodyPost_ret (v := .tuple #[.agg #[.int .i64 0, .int .i64 0, .slice none 0 0, .slice none 0 0, .slice none 0 0, .slice none 0 0, .slice none 0 0, .slice none 0 0], .int .i64 (e2 : Int)]) (by simp [results, Tryz.results9, go_sem, t0, t1, t2, t3, t4, t5, t6, t7]) rfl ⟨⟨none, 0, none, 0, none, 0, none, 0, none, 0, none, 0⟩, by rw [HE.out]; rfl, by rw [HE.out]; exact ownD_zero _ _, BF.out⟩
  obtain rfl : e2 = 0 := by simpa using z2
  clear z2
  have x0 := objAt_cell p2 0 rfl
  have y0 := objAt_cell q2 0 rfl
  have pl := objAt_lt p2
  have ql := objAt_lt q2
  by_cases hr : b.rev ≤ a.rev
  · have HE : Hid (D = (zeroDel, 1)) := by show _ = _; rw [← HD.out]; exact diffR_rev HE1.out HE2.out hr
    have k0 := objAt_cell r2 0 rfl
    have f0 := objAt_free r2 0
    have k1 := objAt_cell r2 1 rfl
    have f1 := objAt_free r2 1
    have k2 := objAt_cell r2 2 rfl
    have f2 := objAt_free r2 2
    have k3 := objAt_cell r2 3 rfl
    have f3 := objAt_free r2 3
    have k4 := objAt_cell r2 4 rfl
    have f4 := objAt_free r2 4
    have k5 := objAt_cell r2 5 rfl
    have f5 := objAt_free r2 5
    have k6 := objAt_cell r2 6 rfl
    have f6 := objAt_free r2 6
    have k7 := objAt_cell r2 7 rfl
    have f7 := objAt_free r2 7
    have kl := objAt_lt r2
    have oF := obj_put8 r2 (.int .i64 0) (.int .i64 0) (.slice none 0 0) (.slice none 0 0) (.slice none 0 0) (.slice none 0 0) (.slice none 0 0) (.slice none 0 0)
    have t0 := objAt_cell oF 0 rfl
    have t1 := objAt_cell oF 1 rfl
    have t2 := objAt_cell oF 2 rfl
    have t3 := objAt_cell oF 3 rfl
    have t4 := objAt_cell oF 4 rfl
    have t5 := objAt_cell oF 5 rfl
    have t6 := objAt_cell oF 6 rfl
    have t7 := objAt_cell oF 7 rfl
    have TT := Lib.hid (And.intro t0 (And.intro t1 (And.intro t2 (And.intro t3 (And.intro t4 (And.intro t5 (And.intro t6 t7)))))))
    have BF := Lib.hid (below_put8 B2 (show H ≤ H + 2 by omega) (.int .i64 0) (.int .i64 0) (.slice none 0 0) (.slice none 0 0) (.slice none 0 0) (.slice none 0 0) (.slice none 0 0) (.slice none 0 0))
    clear oF t0 t1 t2 t3 t4 t5 t6 t7 p2 q2 r2 B2
    go_wp2
    obtain ⟨t0, t1, t2, t3, t4, t5, t6, t7⟩ := TT.out
    exact bodyPost_ret (v := .tuple #[.agg #[.int .i64 0, .int .i64 0, .slice none 0 0, .slice none 0 0, .slice none 0 0, .slice none 0 0, .slice none 0 0, .slice none 0 0], .int .i64 1]) (by simp [results, Tryz.results9, go_sem, t0, t1, t2, t3, t4, t5, t6, t7]) rfl ⟨⟨none, 0, none, 0, none, 0, none, 0, none, 0, none, 0⟩, by rw [HE.out]; rfl, by rw [HE.out]; exact ownD_zero _ _, BF.out⟩
  have hr' : ¬ (b.rev ≤ a.rev) := hr
  have HE : Hid (D = (diffS a b, 0)) := by show _ = _; rw [← HD.out]; exact diffR_ok HE1.out HE2.out (by omega)
  have fa := (valid_facts HE1.out).2.1
  have fb := (valid_facts HE2.out).2.1
  have CC := Lib.hid (between_is a b aj an al bj bn bl cj cn cl dj dn dl ⟨fa.1, by omega, fa.2.2⟩ ⟨fb.1, by omega, fb.2.2⟩ w2 ⟨jobsAt_next HMA.out.1 (by rw [hH]; exact B2), nodesAt_next HMA.out.2.1 (by rw [hH]; exact B2), leasesAt_next HMA.out.2.2 (by rw [hH]; exact B2)⟩ ⟨jobsAt_next HMB.out.1 (by rw [hH]; exact B2), nodesAt_next HMB.out.2.1 (by rw [hH]; exact B2), leasesAt_next HMB.out.2.2 (by rw [hH]; exact B2)⟩)
  have x1 := objAt_cell p2 1 rfl
  have x2 := objAt_cell p2 2 rfl
  have x3 := objAt_cell p2 3 rfl
  have y1 := objAt_cell q2 1 rfl
  have y2 := objAt_cell q2 2 rfl
  have y3 := objAt_cell q2 3 rfl
  have P2 := Lib.hid (And.intro r2 B2)
  clear fa fb hr p2 q2 r2 B2
  go_wp2_with fail
  refine CC.out.mono ?_
  rintro e w3 ⟨M, rfl, ow, b3⟩
  obtain ⟨r2, B2⟩ := P2.out
  have r3 := objAt_next r2 b3
  have B3 := below_trans B2 b3 (by have := objAt_lt r2; omega)
  have hlo : H ≤ w2.heap.size := by have := objAt_lt r2; omega
  have Z := Lib.hid (ownD_put8 (ownD_low ow hlo) r3 (.int .i64 a.rev) (.int .i64 b.rev) (.slice M.aj (diffS a b).jobs.length M.cj) (.slice M.an (diffS a b).nodes.length M.cn) (.slice M.al (diffS a b).leases.length M.cl) (.slice M.gj (diffS a b).gj.length M.hj) (.slice M.gn (diffS a b).gn.length M.hn) (.slice M.gl (diffS a b).gl.length M.hl))
  clear CC P2 r2 B2 b3 ow hlo x0 x1 x2 x3 y0 y1 y2 y3 pl ql
  have k0 := objAt_cell r3 0 rfl
  have f0 := objAt_free r3 0
  have k1 := objAt_cell r3 1 rfl
  have f1 := objAt_free r3 1
  have k2 := objAt_cell r3 2 rfl
  have f2 := objAt_free r3 2
  have k3 := objAt_cell r3 3 rfl
  have f3 := objAt_free r3 3
  have k4 := objAt_cell r3 4 rfl
  have f4 := objAt_free r3 4
  have k5 := objAt_cell r3 5 rfl
  have f5 := objAt_free r3 5
  have k6 := objAt_cell r3 6 rfl
  have f6 := objAt_free r3 6
  have k7 := objAt_cell r3 7 rfl
  have f7 := objAt_free r3 7
  have kl := objAt_lt r3
  have oF := obj_put8 r3 (.int .i64 a.rev) (.int .i64 b.rev) (.slice M.aj (diffS a b).jobs.length M.cj) (.slice M.an (diffS a b).nodes.length M.cn) (.slice M.al (diffS a b).leases.length M.cl) (.slice M.gj (diffS a b).gj.length M.hj) (.slice M.gn (diffS a b).gn.length M.hn) (.slice M.gl (diffS a b).gl.length M.hl)
  have t0 := objAt_cell oF 0 rfl
  have t1 := objAt_cell oF 1 rfl
  have t2 := objAt_cell oF 2 rfl
  have t3 := objAt_cell oF 3 rfl
  have t4 := objAt_cell oF 4 rfl
  have t5 := objAt_cell oF 5 rfl
  have t6 := objAt_cell oF 6 rfl
  have t7 := objAt_cell oF 7 rfl
  have TT := Lib.hid (And.intro t0 (And.intro t1 (And.intro t2 (And.intro t3 (And.intro t4 (And.intro t5 (And.intro t6 t7)))))))
  have BF := Lib.hid (below_put8 B3 (show H ≤ H + 2 by omega) (.int .i64 a.rev) (.int .i64 b.rev) (.slice M.aj (diffS a b).jobs.length M.cj) (.slice M.an (diffS a b).nodes.length M.cn) (.slice M.al (diffS a b).leases.length M.cl) (.slice M.gj (diffS a b).gj.length M.hj) (.slice M.gn (diffS a b).gn.length M.hn) (.slice M.gl (diffS a b).gl.length M.hl))
  clear oF t0 t1 t2 t3 t4 t5 t6 t7 r3 B3
  go_wp2
  obtain ⟨t0, t1, t2, t3, t4, t5, t6, t7⟩ := TT.out
  exact bodyPost_ret (v := .tuple #[.agg #[.int .i64 a.rev, .int .i64 b.rev, .slice M.aj (diffS a b).jobs.length M.cj, .slice M.an (diffS a b).nodes.length M.cn, .slice M.al (diffS a b).leases.length M.cl, .slice M.gj (diffS a b).gj.length M.hj, .slice M.gn (diffS a b).gn.length M.hn, .slice M.gl (diffS a b).gl.length M.hl], .int .i64 0]) (by simp [results, Tryz.results9, go_sem, t0, t1, t2, t3, t4, t5, t6, t7]) rfl ⟨M, by rw [HE.out]; rfl, by rw [HE.out]; exact Z.out, BF.out⟩
theorem rdiff_at {a b : StD} {D : DelD} {c : Nat} {aj an al bj bn bl : Option Addr} {cj cn cl dj dn dl : Nat} (e : diffR V8 a b = (D, c)) {w : World} (hma : JobsAt w aj a.jobs ∧ NodesAt w an a.nodes ∧ LeasesAt w al a.leases) (hmb : JobsAt w bj b.jobs ∧ NodesAt w bn b.nodes ∧ LeasesAt w bl b.leases) :
    Calls Tryz.prog 9 #[.agg #[.int .i64 a.rev, .slice aj a.jobs.length cj, .slice an a.nodes.length cn, .slice al a.leases.length cl], .agg #[.int .i64 b.rev, .slice bj b.jobs.length dj, .slice bn b.nodes.length dn, .slice bl b.leases.length dl]] w fun e w' => ∃ M : DlM, e = .returned (.tuple #[.agg #[.int .i64 D.frm, .int .i64 D.til, .slice M.aj D.jobs.length M.cj, .slice M.an D.nodes.length M.cn, .slice M.al D.leases.length M.cl, .slice M.gj D.gj.length M.hj, .slice M.gn D.gn.length M.hn, .slice M.gl D.gl.length M.hl], .int .i64 (c : Nat)]) ∧ OwnD w.heap.size M D w' ∧ Below w.heap.size w w' := by
  have h := rdiff_any a b aj an al bj bn bl cj cn cl dj dn dl w hma hmb
  rw [e] at h
  exact h
end Go.Proofs.YthfbjmjohmkfjaaGreatDoor
