/- Package delta: Apply at every state and delta. -/
import Derived.Test.YtiilagmmgpnpdaaGreatDoorPkUp4
import Derived.Test.YtiilagmmgpnpdaaGreatDoorPkDl5
import Derived.Test.YtiilagmmgpnpdaaGreatDoorDlChng
import Derived.Test.YtiilagmmgpnpdaaGreatDoorPkDl2
namespace Go.Proofs.YtiilagmmgpnpdaaGreatDoor
open Go.RowKit

theorem name_size {x : ByteArray} (h : isName V8 x = true) : x.size ≤ maxLen := by
  simp only [isName, isNote, Bool.and_eq_true, decide_eq_true_eq] at h
  have := h.2.1
  unfold maxLen
  omega
theorem dvalid_facts {d : DelD} (h : dcheckE V8 d = 0) : ((Asc (·.name) d.jobs ∧ Asc (·.name) d.nodes ∧ Asc (·.job) d.leases) ∧ Asc id d.gj ∧ Asc id d.gn ∧ Asc id d.gl) ∧ ((d.jobs.length ≤ 40 ∧ d.nodes.length ≤ 40 ∧ d.leases.length ≤ 40) ∧ d.gj.length ≤ 40 ∧ d.gn.length ≤ 40 ∧ d.gl.length ≤ 40) ∧ ((∀ x ∈ d.jobs, x.name.size ≤ maxLen) ∧ (∀ x ∈ d.nodes, x.name.size ≤ maxLen) ∧ ∀ x ∈ d.leases, x.job.size ≤ maxLen) ∧ (∀ x ∈ d.gj, x.size ≤ maxLen) ∧ (∀ x ∈ d.gn, x.size ≤ maxLen) ∧ ∀ x ∈ d.gl, x.size ≤ maxLen := by
  obtain ⟨_, ⟨⟨l1, l2, l3, l4⟩, l5, l6⟩, ⟨j, aj⟩, ⟨n, an⟩, ⟨l, al⟩, ⟨gj, bj⟩, ⟨gn, bn⟩, ⟨gl, bl⟩⟩ := (dcheck_zero V8 d).1 h
  exact ⟨⟨⟨aj, an, al⟩, bj, bn, bl⟩, ⟨⟨l1, by omega, l2⟩, l3, by omega, l4⟩, ⟨fun x hx => name_size ((jobE_zero V8 x).1 (j x hx)).1.1, fun x hx => name_size ((nodeE_zero V8 x).1 (n x hx)).1.1, fun x hx => name_size ((leaseCE_zero V8 x).1 (l x hx)).1.1⟩, fun x hx => name_size (gj x hx).1, fun x hx => name_size (gn x hx).1, fun x hx => name_size (gl x hx).1⟩
theorem wState_apply {s : StD} {d : DelD} (hs : wState s) (hd : wDelta d) (h : checkE V8 s = 0) (h2 : dcheckE V8 d = 0) : wState ⟨d.til, applyL (·.name) s.jobs d.gj d.jobs, applyL (·.name) s.nodes d.gn d.nodes, applyL (·.job) s.leases d.gl d.leases⟩ := by
  have v := (valid_facts h).1
  have u := (dvalid_facts h2).1.1
  refine ⟨hd.1.2, fun x hx => ?_, fun x hx => ?_, fun x hx => ?_⟩
  · rcases (apply_mem v.1 u.1 _ _).1 hx with k | k
    · exact hd.2.1.1 x k
    · exact hs.2.1 x k.1
  · rcases (apply_mem v.2.1 u.2.1 _ _).1 hx with k | k
    · exact hd.2.1.2.1 x k
    · exact hs.2.2.1 x k.1
  · rcases (apply_mem v.2.2 u.2.2 _ _).1 hx with k | k
    · exact hd.2.1.2.2 x k
    · exact hs.2.2.2 x k.1
theorem applyR_s {s : StD} {d : DelD} (h : checkE V8 s ≠ 0) : applyR V8 s d = (zeroSt, checkE V8 s) := by unfold applyR; rw [if_pos h]
theorem applyR_d {s : StD} {d : DelD} (h : checkE V8 s = 0) (h2 : dcheckE V8 d ≠ 0) : applyR V8 s d = (zeroSt, dcheckE V8 d) := by unfold applyR; rw [if_neg (by simp [h]), if_pos h2]
theorem applyR_gone {s : StD} {d : DelD} (h : checkE V8 s = 0) (h2 : dcheckE V8 d = 0) (h3 : d.frm = s.rev) (h4 : goneIn s d = false) : applyR V8 s d = (zeroSt, 6) := by unfold applyR; rw [if_neg (by simp [h]), if_neg (by simp [h2]), if_neg (by simp [h3]), if_neg (by simp [h4])]
theorem applyR_next {s : StD} {d : DelD} (h : checkE V8 s = 0) (h2 : dcheckE V8 d = 0) (h3 : d.frm = s.rev) (h4 : goneIn s d = true) (h5 : checkE V8 (applyS s d) ≠ 0) : applyR V8 s d = (zeroSt, checkE V8 (applyS s d)) := by unfold applyR; rw [if_neg (by simp [h]), if_neg (by simp [h2]), if_neg (by simp [h3]), if_pos h4, if_pos h5]
theorem applyR_ok {s : StD} {d : DelD} (h : checkE V8 s = 0) (h2 : dcheckE V8 d = 0) (h3 : d.frm = s.rev) (h4 : goneIn s d = true) (h5 : checkE V8 (applyS s d) = 0) : applyR V8 s d = (applyS s d, 0) := by unfold applyR; rw [if_neg (by simp [h]), if_neg (by simp [h2]), if_neg (by simp [h3]), if_pos h4, if_neg (by simp [h5])]
/-- Three blocks: a state and a delta as they came, and a state's. -/
theorem app_blocks (w : World) (a0 a1 a2 a3 : Value) (cs : Array Value) (W0 : World) (hW : ((w.alloc (.cells #[a0, a1, a2, a3] 26)).alloc (.cells cs 49)).alloc (.cells #[.int .i64 0, .slice none 0 0, .slice none 0 0, .slice none 0 0] 26) = W0) :
    ObjAt w.heap.size #[a0, a1, a2, a3] 26 W0 ∧ ObjAt (w.heap.size + 1) cs 49 W0 ∧ ObjAt (w.heap.size + 2) #[.int .i64 0, .slice none 0 0, .slice none 0 0, .slice none 0 0] 26 W0 ∧ Below w.heap.size w W0 ∧ W0.heap.size = w.heap.size + 3 := by
  rw [← hW]
  have p1 := objAt_new (w.alloc (.cells #[a0, a1, a2, a3] 26)) cs 49
  have p2 := objAt_new ((w.alloc (.cells #[a0, a1, a2, a3] 26)).alloc (.cells cs 49)) #[.int .i64 0, .slice none 0 0, .slice none 0 0, .slice none 0 0] 26
  rw [World.size_alloc] at p1
  rw [World.size_alloc, World.size_alloc] at p2
  exact ⟨objAt_next (objAt_next (objAt_new w _ _) (below_one _ _)) (below_one _ _), objAt_next p1 (below_one _ _), p2, below_trans (below_trans (below_one _ _) (below_one _ _) (by simp)) (below_one _ _) (by simp; omega), by simp⟩
set_option maxRecDepth 100000 in
set_option maxHeartbeats 8000000 in
theorem dapply_any (s : StD) (aj an al : Option Addr) (cj cn cl : Nat) (M : DlM) (d : DelD) (hws : wState s) (hwd : wDelta d) (w : World) (hT : Tabs w) (hms : JobsAt w aj s.jobs ∧ NodesAt w an s.nodes ∧ LeasesAt w al s.leases) (hmd : DeltaAt w M d) :
    Calls Tryz.prog 22 #[.agg #[.int .i64 s.rev, .slice aj s.jobs.length cj, .slice an s.nodes.length cn, .slice al s.leases.length cl], .agg (dlC M d)] w fun e w' => ∃ aj' an' al' cj' cn' cl', e = .returned (.tuple #[.agg #[.int .i64 (applyR V8 s d).1.rev, .slice aj' (applyR V8 s d).1.jobs.length cj', .slice an' (applyR V8 s d).1.nodes.length cn', .slice al' (applyR V8 s d).1.leases.length cl'], .int .i64 ((applyR V8 s d).2 : Nat)]) ∧ OwnS w.heap.size aj' an' al' cj' cn' cl' (applyR V8 s d).1 w' ∧ Below w.heap.size w w' := by
  obtain ⟨H, hH⟩ : ∃ H, w.heap.size = H := ⟨_, rfl⟩
  obtain ⟨W0, hW0⟩ : ∃ W0, ((w.alloc (.cells #[.int .i64 s.rev, .slice aj s.jobs.length cj, .slice an s.nodes.length cn, .slice al s.leases.length cl] 26)).alloc (.cells (dlC M d) 49)).alloc (.cells #[.int .i64 0, .slice none 0 0, .slice none 0 0, .slice none 0 0] 26) = W0 := ⟨_, rfl⟩
  obtain ⟨p0, q0, r0, B0, sz0⟩ := app_blocks w _ _ _ _ _ W0 hW0
  have CA := Lib.hid (check_any s.rev aj an al cj cn cl s.jobs s.nodes s.leases hws W0 (hT.below B0) (jobsAt_next hms.1 B0) (nodesAt_next hms.2.1 B0) (leasesAt_next hms.2.2 B0))
  rw [hH] at p0 q0 r0 B0 sz0
  unfold dlC at q0
  have HT := Lib.hid hT
  have HMS := Lib.hid hms
  have HMD := Lib.hid hmd
  have HWS := Lib.hid hws
  have HWD := Lib.hid hwd
  have HW := Lib.hid hW0
  have HH := Lib.hid hH
  have P0 := Lib.hid (And.intro p0 (And.intro q0 (And.intro r0 B0)))
  have S0 := Lib.hid sz0
  have ea : (⟨s.rev, s.jobs, s.nodes, s.leases⟩ : StD) = s := rfl
  rw [ea] at CA
  rw [hH]
  obtain ⟨D, hD⟩ : ∃ D, applyR V8 s d = D := ⟨_, rfl⟩
  rw [hD]
  have HD := Lib.hid hD
  obtain ⟨e1, he1⟩ : ∃ e, checkE V8 s = e := ⟨_, rfl⟩
  rw [he1] at CA
  have HE1 := Lib.hid he1
  clear hT hms hmd hws hwd hW0 p0 q0 r0 B0 sz0 ea hD he1
  have nd : ∀ k, k < 8 → True := fun _ _ => trivial
  clear nd
  unfold dlC at HW
  unfold dlC
  go_enter Tryz.func22, Tryz.ntmps22
  go_wp2_with fail
  rw [HW.out]
  refine CA.out.mono ?_
  rintro e w1 ⟨rfl, b1⟩
  obtain ⟨p0, q0, r0, B0⟩ := P0.out
  have p1 := objAt_next p0 b1
  have q1 := objAt_next q0 b1
  have r1 := objAt_next r0 b1
  have B1 := below_trans B0 b1 (by have := S0.out; omega)
  have s1 : H + 3 ≤ w1.heap.size := by have := b1.size; have := S0.out; omega
  clear CA P0 p0 q0 r0 B0 b1
  by_cases z1 : e1 ≠ 0
  · have z' : ((e1 : Int) != 0) = true := by simp; omega
    have HE : Hid (D = (zeroSt, e1)) := by show _ = _; rw [← HD.out]; rw [applyR_s (by rw [HE1.out]; exact z1), HE1.out]
    have k0 := objAt_cell r1 0 rfl
    have f0 := objAt_free r1 0
    have k1 := objAt_cell r1 1 rfl
    have f1 := objAt_free r1 1
    have k2 := objAt_cell r1 2 rfl
    have f2 := objAt_free r1 2
    have k3 := objAt_cell r1 3 rfl
    have f3 := objAt_free r1 3
    have kl := objAt_lt r1
    have oF := obj_put4 r1 (.int .i64 0) (.slice none 0 0) (.slice none 0 0) (.slice none 0 0)
    have t0 := objAt_cell oF 0 rfl
    have t1 := objAt_cell oF 1 rfl
    have t2 := objAt_cell oF 2 rfl
    have t3 := objAt_cell oF 3 rfl
    have TT := Lib.hid (And.intro t0 (And.intro t1 (And.intro t2 t3)))
    have BF := Lib.hid (below_put4 B1 (show H ≤ H + 2 by omega) (.int .i64 0) (.slice none 0 0) (.slice none 0 0) (.slice none 0 0))
    clear oF t0 t1 t2 t3 p1 q1 r1 B1
    go_wp2
    obtain ⟨t0, t1, t2, t3⟩ := TT.out
    exact bodyPost_ret (v := .tuple #[.agg #[.int .i64 0, .slice none 0 0, .slice none 0 0, .slice none 0 0], .int .i64 (e1 : Int)]) (by simp [results, Tryz.results22, go_sem, t0, t1, t2, t3]) rfl ⟨none, none, none, 0, 0, 0, by rw [HE.out]; rfl, by rw [HE.out]; exact ownS_zero _ _, BF.out⟩
  obtain rfl : e1 = 0 := by simpa using z1
  clear z1
  have CB_ := dcheck_any M d HWD.out w1 (HT.out.below (by rw [hH]; exact B1)) (deltaAt_next HMD.out (by rw [hH]; exact B1))
  obtain ⟨e2, he2⟩ : ∃ e, dcheckE V8 d = e := ⟨_, rfl⟩
  rw [he2] at CB_
  have CB := Lib.hid CB_
  clear CB_
  have HE2 := Lib.hid he2
  have x0 := objAt_cell q1 0 rfl
  have x1 := objAt_cell q1 1 rfl
  have x2 := objAt_cell q1 2 rfl
  have x3 := objAt_cell q1 3 rfl
  have x4 := objAt_cell q1 4 rfl
  have x5 := objAt_cell q1 5 rfl
  have x6 := objAt_cell q1 6 rfl
  have x7 := objAt_cell q1 7 rfl
  have xl := objAt_lt q1
  have P1 := Lib.hid (And.intro p1 (And.intro q1 (And.intro r1 B1)))
  have S1 := Lib.hid s1
  clear p1 q1 r1 B1 s1 he2
  unfold dlC at CB
  go_wp2_with fail
  refine CB.out.mono ?_
  rintro e w2 ⟨rfl, b2⟩
  obtain ⟨p1, q1, r1, B1⟩ := P1.out
  have p2 := objAt_next p1 b2
  have q2 := objAt_next q1 b2
  have r2 := objAt_next r1 b2
  have B2 := below_trans B1 b2 (by have := S1.out; omega)
  have s2 : H + 3 ≤ w2.heap.size := by have := b2.size; have := S1.out; omega
  clear CB P1 p1 q1 r1 B1 b2 x0 x1 x2 x3 x4 x5 x6 x7 xl
  by_cases z2 : e2 ≠ 0
  · have z' : ((e2 : Int) != 0) = true := by simp; omega
    have HE : Hid (D = (zeroSt, e2)) := by show _ = _; rw [← HD.out]; rw [applyR_d HE1.out (by rw [HE2.out]; exact z2), HE2.out]
    have k0 := objAt_cell r2 0 rfl
    have f0 := objAt_free r2 0
    have k1 := objAt_cell r2 1 rfl
    have f1 := objAt_free r2 1
    have k2 := objAt_cell r2 2 rfl
    have f2 := objAt_free r2 2
    have k3 := objAt_cell r2 3 rfl
    have f3 := objAt_free r2 3
    have kl := objAt_lt r2
    have oF := obj_put4 r2 (.int .i64 0) (.slice none 0 0) (.slice none 0 0) (.slice none 0 0)
    have t0 := objAt_cell oF 0 rfl
    have t1 := objAt_cell oF 1 rfl
    have t2 := objAt_cell oF 2 rfl
    have t3 := objAt_cell oF 3 rfl
    have TT := Lib.hid (And.intro t0 (And.intro t1 (And.intro t2 t3)))
    have BF := Lib.hid (below_put4 B2 (show H ≤ H + 2 by omega) (.int .i64 0) (.slice none 0 0) (.slice none 0 0) (.slice none 0 0))
    clear oF t0 t1 t2 t3 p2 q2 r2 B2
    go_wp2
    obtain ⟨t0, t1, t2, t3⟩ := TT.out
    exact bodyPost_ret (v := .tuple #[.agg #[.int .i64 0, .slice none 0 0, .slice none 0 0, .slice none 0 0], .int .i64 (e2 : Int)]) (by simp [results, Tryz.results22, go_sem, t0, t1, t2, t3]) rfl ⟨none, none, none, 0, 0, 0, by rw [HE.out]; rfl, by rw [HE.out]; exact ownS_zero _ _, BF.out⟩
  obtain rfl : e2 = 0 := by simpa using z2
  clear z2
  have y0 := objAt_cell p2 0 rfl
  have x0 := objAt_cell q2 0 rfl
  have yl := objAt_lt p2
  have xl := objAt_lt q2
  by_cases z3 : d.frm ≠ s.rev
  · have HZ := Lib.hid z3
    have HE : Hid (D = (zeroSt, 10)) := by show _ = _; rw [← HD.out]; rw [apply_old HE1.out HE2.out HZ.out]
    have k0 := objAt_cell r2 0 rfl
    have f0 := objAt_free r2 0
    have k1 := objAt_cell r2 1 rfl
    have f1 := objAt_free r2 1
    have k2 := objAt_cell r2 2 rfl
    have f2 := objAt_free r2 2
    have k3 := objAt_cell r2 3 rfl
    have f3 := objAt_free r2 3
    have kl := objAt_lt r2
    have oF := obj_put4 r2 (.int .i64 0) (.slice none 0 0) (.slice none 0 0) (.slice none 0 0)
    have t0 := objAt_cell oF 0 rfl
    have t1 := objAt_cell oF 1 rfl
    have t2 := objAt_cell oF 2 rfl
    have t3 := objAt_cell oF 3 rfl
    have TT := Lib.hid (And.intro t0 (And.intro t1 (And.intro t2 t3)))
    have BF := Lib.hid (below_put4 B2 (show H ≤ H + 2 by omega) (.int .i64 0) (.slice none 0 0) (.slice none 0 0) (.slice none 0 0))
    clear oF t0 t1 t2 t3 p2 q2 r2 B2
    go_wp2
    obtain ⟨t0, t1, t2, t3⟩ := TT.out
    exact bodyPost_ret (v := .tuple #[.agg #[.int .i64 0, .slice none 0 0, .slice none 0 0, .slice none 0 0], .int .i64 10]) (by simp [results, Tryz.results22, go_sem, t0, t1, t2, t3]) rfl ⟨none, none, none, 0, 0, 0, by rw [HE.out]; rfl, by rw [HE.out]; exact ownS_zero _ _, BF.out⟩
  have HRv : Hid (d.frm = s.rev) := by show _ = _; simpa using z3
  have z3' : ¬ (d.frm ≠ s.rev) := z3
  clear z3
  have VA := Lib.hid (valid_facts HE1.out)
  have VD := Lib.hid (dvalid_facts HE2.out)
  have G_ := changeJob_is s.jobs d.jobs d.gj aj M.gj M.aj cj M.hj M.cj VA.out.1.1 VD.out.1.2.1 VA.out.2.1.1 VD.out.2.1.2.1 VD.out.2.1.1.1 VA.out.2.2.1 VD.out.2.2.2.1 VD.out.2.2.1.1 w2 (jobsAt_next HMS.out.1 (by rw [hH]; exact B2)) (nmsAt_next HMD.out.2.1 (by rw [hH]; exact B2)) (jobsAt_next HMD.out.1.1 (by rw [hH]; exact B2))
  obtain ⟨K0, hK0⟩ : ∃ K, d.gj.all (hasJob s.jobs) = K := ⟨_, rfl⟩
  rw [hK0] at G_
  have HK0 := Lib.hid hK0
  have G0 := Lib.hid G_
  clear G_
  clear hK0
  have y1 := objAt_cell p2 1 rfl
  have x2 := objAt_cell q2 2 rfl
  have x5 := objAt_cell q2 5 rfl
  have P2 := Lib.hid (And.intro p2 (And.intro q2 (And.intro r2 B2)))
  have S2 := Lib.hid s2
  clear p2 q2 r2 B2 s2
  go_wp2_with fail
  refine G0.out.mono ?_
  rintro e w3 ⟨ad0, n0, cap0, rfl, O0, b3⟩
  obtain ⟨p, q, r, B⟩ := P2.out
  have p3 := objAt_next p b3
  have q3 := objAt_next q b3
  have r3 := objAt_next r b3
  have B3 := below_trans B b3 (by have := S2.out; omega)
  have s3 : H + 3 ≤ w3.heap.size := by have := b3.size; have := S2.out; omega
  have OO0 : Hid (K0 = true → n0 = (applyL (·.name) s.jobs d.gj d.jobs).length ∧ w3.ownsRow H 38 5 (.slice ad0 n0 cap0) n0 (cJobs (applyL (·.name) s.jobs d.gj d.jobs))) := fun h => ⟨(O0 h).1, ownsRow_low (O0 h).2 (by have := S2.out; omega)⟩
  clear G0 P2 S2 p q r B b3 O0 y1 x2 x5 yl xl y0 x0 z3'
  have G_ := changeNode_is s.nodes d.nodes d.gn an M.gn M.an cn M.hn M.cn VA.out.1.2.1 VD.out.1.2.2.1 (by have := VA.out.2.1.2.1; omega) VD.out.2.1.2.2.1 VD.out.2.1.1.2.1 VA.out.2.2.2.1 VD.out.2.2.2.2.1 VD.out.2.2.1.2.1 w3 (nodesAt_next HMS.out.2.1 (by rw [hH]; exact B3)) (nmsAt_next HMD.out.2.2.1 (by rw [hH]; exact B3)) (nodesAt_next HMD.out.1.2.1 (by rw [hH]; exact B3))
  obtain ⟨K1, hK1⟩ : ∃ K, d.gn.all (hasNode s.nodes) = K := ⟨_, rfl⟩
  rw [hK1] at G_
  have HK1 := Lib.hid hK1
  have G1 := Lib.hid G_
  clear G_
  clear hK1
  have yl := objAt_lt p3
  have xl := objAt_lt q3
  have y2 := objAt_cell p3 2 rfl
  have x3 := objAt_cell q3 3 rfl
  have x6 := objAt_cell q3 6 rfl
  have P3 := Lib.hid (And.intro p3 (And.intro q3 (And.intro r3 B3)))
  have S3 := Lib.hid s3
  clear p3 q3 r3 B3 s3
  go_wp2_with fail
  refine G1.out.mono ?_
  rintro e w4 ⟨ad1, n1, cap1, rfl, O1, b4⟩
  obtain ⟨p, q, r, B⟩ := P3.out
  have p4 := objAt_next p b4
  have q4 := objAt_next q b4
  have r4 := objAt_next r b4
  have B4 := below_trans B b4 (by have := S3.out; omega)
  have s4 : H + 3 ≤ w4.heap.size := by have := b4.size; have := S3.out; omega
  have OO1 : Hid (K1 = true → n1 = (applyL (·.name) s.nodes d.gn d.nodes).length ∧ w4.ownsRow H 40 3 (.slice ad1 n1 cap1) n1 (cNodes (applyL (·.name) s.nodes d.gn d.nodes))) := fun h => ⟨(O1 h).1, ownsRow_low (O1 h).2 (by have := S3.out; omega)⟩
  have OO0 := Lib.hid (fun h => And.intro (OO0.out h).1 (own_next (OO0.out h).2 b4))
  clear G1 P3 S3 p q r B b4 O1 y2 x3 x6 yl xl
  have G_ := changeLease_is s.leases d.leases d.gl al M.gl M.al cl M.hl M.cl VA.out.1.2.2 VD.out.1.2.2.2 VA.out.2.1.2.2 VD.out.2.1.2.2.2 VD.out.2.1.1.2.2 VA.out.2.2.2.2 VD.out.2.2.2.2.2 VD.out.2.2.1.2.2 w4 (leasesAt_next HMS.out.2.2 (by rw [hH]; exact B4)) (nmsAt_next HMD.out.2.2.2 (by rw [hH]; exact B4)) (leasesAt_next HMD.out.1.2.2 (by rw [hH]; exact B4))
  obtain ⟨K2, hK2⟩ : ∃ K, d.gl.all (hasLease s.leases) = K := ⟨_, rfl⟩
  rw [hK2] at G_
  have HK2 := Lib.hid hK2
  have G2 := Lib.hid G_
  clear G_
  clear hK2
  have yl := objAt_lt p4
  have xl := objAt_lt q4
  have y3 := objAt_cell p4 3 rfl
  have x4 := objAt_cell q4 4 rfl
  have x7 := objAt_cell q4 7 rfl
  have P4 := Lib.hid (And.intro p4 (And.intro q4 (And.intro r4 B4)))
  have S4 := Lib.hid s4
  clear p4 q4 r4 B4 s4
  go_wp2_with fail
  refine G2.out.mono ?_
  rintro e w5 ⟨ad2, n2, cap2, rfl, O2, b5⟩
  obtain ⟨p, q, r, B⟩ := P4.out
  have p5 := objAt_next p b5
  have q5 := objAt_next q b5
  have r5 := objAt_next r b5
  have B5 := below_trans B b5 (by have := S4.out; omega)
  have s5 : H + 3 ≤ w5.heap.size := by have := b5.size; have := S4.out; omega
  have OO2 : Hid (K2 = true → n2 = (applyL (·.job) s.leases d.gl d.leases).length ∧ w5.ownsRow H 42 3 (.slice ad2 n2 cap2) n2 (cLeases (applyL (·.job) s.leases d.gl d.leases))) := fun h => ⟨(O2 h).1, ownsRow_low (O2 h).2 (by have := S4.out; omega)⟩
  have OO0 := Lib.hid (fun h => And.intro (OO0.out h).1 (own_next (OO0.out h).2 b5))
  have OO1 := Lib.hid (fun h => And.intro (OO1.out h).1 (own_next (OO1.out h).2 b5))
  clear G2 P4 S4 p q r B b5 O2 y3 x4 x7 yl xl
  cases K0 with
  | false =>
    have HE : Hid (D = (zeroSt, 6)) := by show _ = _; rw [← HD.out]; exact applyR_gone HE1.out HE2.out HRv.out (by unfold goneIn; rw [HK0.out, HK1.out, HK2.out]; simp)
    have k0 := objAt_cell r5 0 rfl
    have f0 := objAt_free r5 0
    have k1 := objAt_cell r5 1 rfl
    have f1 := objAt_free r5 1
    have k2 := objAt_cell r5 2 rfl
    have f2 := objAt_free r5 2
    have k3 := objAt_cell r5 3 rfl
    have f3 := objAt_free r5 3
    have kl := objAt_lt r5
    have oF := obj_put4 r5 (.int .i64 0) (.slice none 0 0) (.slice none 0 0) (.slice none 0 0)
    have t0 := objAt_cell oF 0 rfl
    have t1 := objAt_cell oF 1 rfl
    have t2 := objAt_cell oF 2 rfl
    have t3 := objAt_cell oF 3 rfl
    have TT := Lib.hid (And.intro t0 (And.intro t1 (And.intro t2 t3)))
    have BF := Lib.hid (below_put4 B5 (show H ≤ H + 2 by omega) (.int .i64 0) (.slice none 0 0) (.slice none 0 0) (.slice none 0 0))
    clear oF t0 t1 t2 t3 p5 q5 r5 B5
    go_wp2
    obtain ⟨t0, t1, t2, t3⟩ := TT.out
    exact bodyPost_ret (v := .tuple #[.agg #[.int .i64 0, .slice none 0 0, .slice none 0 0, .slice none 0 0], .int .i64 6]) (by simp [results, Tryz.results22, go_sem, t0, t1, t2, t3]) rfl ⟨none, none, none, 0, 0, 0, by rw [HE.out]; rfl, by rw [HE.out]; exact ownS_zero _ _, BF.out⟩
  | true =>
  cases K1 with
  | false =>
    have HE : Hid (D = (zeroSt, 6)) := by show _ = _; rw [← HD.out]; exact applyR_gone HE1.out HE2.out HRv.out (by unfold goneIn; rw [HK0.out, HK1.out, HK2.out]; simp)
    have k0 := objAt_cell r5 0 rfl
    have f0 := objAt_free r5 0
    have k1 := objAt_cell r5 1 rfl
    have f1 := objAt_free r5 1
    have k2 := objAt_cell r5 2 rfl
    have f2 := objAt_free r5 2
    have k3 := objAt_cell r5 3 rfl
    have f3 := objAt_free r5 3
    have kl := objAt_lt r5
    have oF := obj_put4 r5 (.int .i64 0) (.slice none 0 0) (.slice none 0 0) (.slice none 0 0)
    have t0 := objAt_cell oF 0 rfl
    have t1 := objAt_cell oF 1 rfl
    have t2 := objAt_cell oF 2 rfl
    have t3 := objAt_cell oF 3 rfl
    have TT := Lib.hid (And.intro t0 (And.intro t1 (And.intro t2 t3)))
    have BF := Lib.hid (below_put4 B5 (show H ≤ H + 2 by omega) (.int .i64 0) (.slice none 0 0) (.slice none 0 0) (.slice none 0 0))
    clear oF t0 t1 t2 t3 p5 q5 r5 B5
    go_wp2
    obtain ⟨t0, t1, t2, t3⟩ := TT.out
    exact bodyPost_ret (v := .tuple #[.agg #[.int .i64 0, .slice none 0 0, .slice none 0 0, .slice none 0 0], .int .i64 6]) (by simp [results, Tryz.results22, go_sem, t0, t1, t2, t3]) rfl ⟨none, none, none, 0, 0, 0, by rw [HE.out]; rfl, by rw [HE.out]; exact ownS_zero _ _, BF.out⟩
  | true =>
  cases K2 with
  | false =>
    have HE : Hid (D = (zeroSt, 6)) := by show _ = _; rw [← HD.out]; exact applyR_gone HE1.out HE2.out HRv.out (by unfold goneIn; rw [HK0.out, HK1.out, HK2.out]; simp)
    have k0 := objAt_cell r5 0 rfl
    have f0 := objAt_free r5 0
    have k1 := objAt_cell r5 1 rfl
    have f1 := objAt_free r5 1
    have k2 := objAt_cell r5 2 rfl
    have f2 := objAt_free r5 2
    have k3 := objAt_cell r5 3 rfl
    have f3 := objAt_free r5 3
    have kl := objAt_lt r5
    have oF := obj_put4 r5 (.int .i64 0) (.slice none 0 0) (.slice none 0 0) (.slice none 0 0)
    have t0 := objAt_cell oF 0 rfl
    have t1 := objAt_cell oF 1 rfl
    have t2 := objAt_cell oF 2 rfl
    have t3 := objAt_cell oF 3 rfl
    have TT := Lib.hid (And.intro t0 (And.intro t1 (And.intro t2 t3)))
    have BF := Lib.hid (below_put4 B5 (show H ≤ H + 2 by omega) (.int .i64 0) (.slice none 0 0) (.slice none 0 0) (.slice none 0 0))
    clear oF t0 t1 t2 t3 p5 q5 r5 B5
    go_wp2
    obtain ⟨t0, t1, t2, t3⟩ := TT.out
    exact bodyPost_ret (v := .tuple #[.agg #[.int .i64 0, .slice none 0 0, .slice none 0 0, .slice none 0 0], .int .i64 6]) (by simp [results, Tryz.results22, go_sem, t0, t1, t2, t3]) rfl ⟨none, none, none, 0, 0, 0, by rw [HE.out]; rfl, by rw [HE.out]; exact ownS_zero _ _, BF.out⟩
  | true =>
  obtain ⟨l0, O0⟩ := OO0.out rfl
  obtain ⟨l1, O1⟩ := OO1.out rfl
  obtain ⟨l2, O2⟩ := OO2.out rfl
  subst l0 l1 l2
  clear OO0 OO1 OO2
  have GI : Hid (goneIn s d = true) := by show _ = _; unfold goneIn; rw [HK0.out, HK1.out, HK2.out]; rfl
  obtain ⟨Y, hY⟩ : ∃ Y, applyS s d = Y := ⟨_, rfl⟩
  obtain ⟨yj, hyj⟩ : ∃ y, applyL (·.name) s.jobs d.gj d.jobs = y := ⟨_, rfl⟩
  obtain ⟨yn, hyn⟩ : ∃ y, applyL (·.name) s.nodes d.gn d.nodes = y := ⟨_, rfl⟩
  obtain ⟨yk, hyk⟩ : ∃ y, applyL (·.job) s.leases d.gl d.leases = y := ⟨_, rfl⟩
  have WY := wState_apply HWS.out HWD.out HE1.out HE2.out
  rw [hyj] at O0 WY
  rw [hyn] at O1 WY
  rw [hyk] at O2 WY
  rw [hyj, hyn, hyk]
  have eY : (⟨d.til, yj, yn, yk⟩ : StD) = Y := by rw [← hY]; unfold applyS; rw [hyj, hyn, hyk]
  have HWY := Lib.hid WY
  have HEY := Lib.hid eY
  have HY := Lib.hid hY
  clear WY eY hY hyj hyn hyk HK0 HK1 HK2
  obtain ⟨N, hN⟩ : ∃ N, w5.heap.size = N := ⟨_, rfl⟩
  have sN : H + 3 ≤ N := by omega
  obtain ⟨U0, hU0⟩ : ∃ U0, w5.alloc (.cells #[.int .i64 d.til, .slice ad0 yj.length cap0, .slice ad1 yn.length cap1, .slice ad2 yk.length cap2] 26) = U0 := ⟨_, rfl⟩
  have bU : Below w5.heap.size w5 U0 := by rw [← hU0]; exact below_one _ _
  have sU0 : U0.heap.size = N + 1 := by rw [← hU0, World.size_alloc, hN]
  have oN : ObjAt N #[.int .i64 d.til, .slice ad0 yj.length cap0, .slice ad1 yn.length cap1, .slice ad2 yk.length cap2] 26 U0 := by rw [← hU0, ← hN]; exact objAt_new w5 _ _
  have x1 := objAt_cell q5 1 rfl
  have xl := objAt_lt q5
  have r0 := objAt_next r5 bU
  have B0 := below_trans B5 bU (by omega)
  have O0' := own_next O0 bU
  have O1' := own_next O1 bU
  have O2' := own_next O2 bU
  have CC_ := check_any d.til ad0 ad1 ad2 cap0 cap1 cap2 yj yn yk HWY.out U0 (HT.out.below (by rw [hH]; exact B0)) (ownJobs O0' rfl) (ownNodes O1' rfl) (ownLeases O2' rfl)
  rw [HEY.out] at CC_
  obtain ⟨e3, he3⟩ : ∃ e, checkE V8 Y = e := ⟨_, rfl⟩
  rw [he3] at CC_
  have CC := Lib.hid CC_
  clear CC_
  have HE3 := Lib.hid he3
  have HU := Lib.hid hU0
  have Z := Lib.hid (And.intro oN (And.intro r0 (And.intro B0 (And.intro O0' (And.intro O1' O2')))))
  have SU := Lib.hid sU0
  clear he3 hU0 bU sU0 oN r0 B0 O0' O1' O2' O0 O1 O2 p5 q5 r5 B5 s5
  go_wp2_with fail
  rw [HU.out]
  refine CC.out.mono ?_
  rintro e w6 ⟨rfl, b6⟩
  obtain ⟨oN, r0, B0, O0', O1', O2'⟩ := Z.out
  have oN6 := objAt_next oN b6
  have r6 := objAt_next r0 b6
  have B6 := below_trans B0 b6 (by have := SU.out; omega)
  have O06 := own_next O0' b6
  have O16 := own_next O1' b6
  have O26 := own_next O2' b6
  have s6 : N + 1 ≤ w6.heap.size := by have := b6.size; have := SU.out; omega
  clear CC HU Z oN r0 B0 O0' O1' O2' b6 x1 xl
  by_cases z4 : e3 ≠ 0
  · have z' : ((e3 : Int) != 0) = true := by simp; omega
    have HE : Hid (D = (zeroSt, e3)) := by show _ = _; rw [← HD.out]; rw [applyR_next HE1.out HE2.out HRv.out GI.out (by rw [HY.out, HE3.out]; exact z4), HY.out, HE3.out]
    have k0 := objAt_cell r6 0 rfl
    have f0 := objAt_free r6 0
    have k1 := objAt_cell r6 1 rfl
    have f1 := objAt_free r6 1
    have k2 := objAt_cell r6 2 rfl
    have f2 := objAt_free r6 2
    have k3 := objAt_cell r6 3 rfl
    have f3 := objAt_free r6 3
    have kl := objAt_lt r6
    have oF := obj_put4 r6 (.int .i64 0) (.slice none 0 0) (.slice none 0 0) (.slice none 0 0)
    have t0 := objAt_cell oF 0 rfl
    have t1 := objAt_cell oF 1 rfl
    have t2 := objAt_cell oF 2 rfl
    have t3 := objAt_cell oF 3 rfl
    have TT := Lib.hid (And.intro t0 (And.intro t1 (And.intro t2 t3)))
    have BF := Lib.hid (below_put4 B6 (show H ≤ H + 2 by omega) (.int .i64 0) (.slice none 0 0) (.slice none 0 0) (.slice none 0 0))
    clear oF t0 t1 t2 t3 oN6 r6 B6 O06 O16 O26 s6
    go_wp2
    obtain ⟨t0, t1, t2, t3⟩ := TT.out
    exact bodyPost_ret (v := .tuple #[.agg #[.int .i64 0, .slice none 0 0, .slice none 0 0, .slice none 0 0], .int .i64 (e3 : Int)]) (by simp [results, Tryz.results22, go_sem, t0, t1, t2, t3]) rfl ⟨none, none, none, 0, 0, 0, by rw [HE.out]; rfl, by rw [HE.out]; exact ownS_zero _ _, BF.out⟩
  obtain rfl : e3 = 0 := by simpa using z4
  clear z4
  have HE : Hid (D = (Y, 0)) := by show _ = _; rw [← HD.out, applyR_ok HE1.out HE2.out HRv.out GI.out (by rw [HY.out]; exact HE3.out), HY.out]
  have CD_ := sep_any Y ad0 ad1 ad2 cap0 cap1 cap2 HE3.out w6 (by rw [← HEY.out]; exact ownJobs O06 rfl) (by rw [← HEY.out]; exact ownNodes O16 rfl) (by rw [← HEY.out]; exact ownLeases O26 rfl)
  have eR : Y.rev = d.til := by rw [← HEY.out]
  have eJ : Y.jobs.length = yj.length := by rw [← HEY.out]
  have eN : Y.nodes.length = yn.length := by rw [← HEY.out]
  have eK : Y.leases.length = yk.length := by rw [← HEY.out]
  rw [eR, eJ, eN, eK] at CD_
  have EQ := Lib.hid (And.intro eR (And.intro eJ (And.intro eN eK)))
  have CD := Lib.hid CD_
  clear CD_
  have m0 := objAt_cell oN6 0 rfl
  have m1 := objAt_cell oN6 1 rfl
  have m2 := objAt_cell oN6 2 rfl
  have m3 := objAt_cell oN6 3 rfl
  have ml := objAt_lt oN6
  have Z := Lib.hid (And.intro r6 B6)
  have S6 := Lib.hid s6
  clear eR eJ eN eK oN6 r6 B6 O06 O16 O26 s6
  go_wp2_with fail
  refine CD.out.mono ?_
  rintro e w7 ⟨a1, a2, a3, c1, c2, c3, rfl, OF, b7⟩
  obtain ⟨r6, B6⟩ := Z.out
  have r7 := objAt_next r6 b7
  have B7 := below_trans B6 b7 (by have := S6.out; omega)
  have OF' := ownS_low (B' := H) OF (by have := S6.out; omega)
  have k0 := objAt_cell r7 0 rfl
  have f0 := objAt_free r7 0
  have k1 := objAt_cell r7 1 rfl
  have f1 := objAt_free r7 1
  have k2 := objAt_cell r7 2 rfl
  have f2 := objAt_free r7 2
  have k3 := objAt_cell r7 3 rfl
  have f3 := objAt_free r7 3
  have kl := objAt_lt r7
  have oF := obj_put4 r7 (.int .i64 d.til) (.slice a1 yj.length c1) (.slice a2 yn.length c2) (.slice a3 yk.length c3)
  have t0 := objAt_cell oF 0 rfl
  have t1 := objAt_cell oF 1 rfl
  have t2 := objAt_cell oF 2 rfl
  have t3 := objAt_cell oF 3 rfl
  have TT := Lib.hid (And.intro t0 (And.intro t1 (And.intro t2 t3)))
  have BF := Lib.hid (below_put4 B7 (show H ≤ H + 2 by omega) (.int .i64 d.til) (.slice a1 yj.length c1) (.slice a2 yn.length c2) (.slice a3 yk.length c3))
  have OG := Lib.hid (ownS_put4 OF' r7 (.int .i64 d.til) (.slice a1 yj.length c1) (.slice a2 yn.length c2) (.slice a3 yk.length c3))
  clear oF t0 t1 t2 t3 r6 B6 r7 B7 OF OF' b7 Z m0 m1 m2 m3 ml
  go_wp2
  obtain ⟨t0, t1, t2, t3⟩ := TT.out
  obtain ⟨eR, eJ, eN, eK⟩ := EQ.out
  exact bodyPost_ret (v := .tuple #[.agg #[.int .i64 d.til, .slice a1 yj.length c1, .slice a2 yn.length c2, .slice a3 yk.length c3], .int .i64 0]) (by simp [results, Tryz.results22, go_sem, t0, t1, t2, t3]) rfl ⟨a1, a2, a3, c1, c2, c3, by rw [HE.out]; simp only; rw [eR, eJ, eN, eK]; rfl, by rw [HE.out]; exact OG.out, BF.out⟩
end Go.Proofs.YtiilagmmgpnpdaaGreatDoor
