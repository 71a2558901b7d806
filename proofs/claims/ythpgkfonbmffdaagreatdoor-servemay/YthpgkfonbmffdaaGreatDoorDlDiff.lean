/- Package delta: Diff at every two states. -/
import Derived.Test.YthpgkfonbmffdaaGreatDoorPkUp4
import Derived.Test.YthpgkfonbmffdaaGreatDoorDlComp
import Derived.Test.YthpgkfonbmffdaaGreatDoorPkDl3
namespace Go.Proofs.YthpgkfonbmffdaaGreatDoor
open Go.RowKit

theorem valid_facts {s : StD} (h : checkE V8 s = 0) : (Asc (·.name) s.jobs ∧ Asc (·.name) s.nodes ∧ Asc (·.job) s.leases) ∧ (s.jobs.length ≤ 40 ∧ s.nodes.length ≤ 20 ∧ s.leases.length ≤ 40) ∧ (∀ x ∈ s.jobs, x.name.size ≤ maxLen) ∧ (∀ x ∈ s.nodes, x.name.size ≤ maxLen) ∧ ∀ x ∈ s.leases, x.job.size ≤ maxLen := by
  have hv := (check_zero V8 s).1 h
  obtain ⟨_, hz⟩ := small_valid h
  obtain ⟨_, ⟨l1, l2, l3⟩, ⟨_, a1⟩, ⟨_, a2⟩, ⟨_, a3⟩, _⟩ := hv
  exact ⟨⟨a1, a2, a3⟩, ⟨l1, l3, l2⟩, fun x hx => (by have := (hz.1 x hx).1; unfold maxLen; omega), fun x hx => (by have := (hz.2.1 x hx).1; unfold maxLen; omega), fun x hx => (by have := (hz.2.2 x hx).1; unfold maxLen; omega)⟩
theorem diffR_a {a b : StD} (h : checkE V8 a ≠ 0) : diffR V8 a b = (zeroDel, checkE V8 a) := by unfold diffR; rw [if_pos h]
theorem diffR_b {a b : StD} (h : checkE V8 a = 0) (h2 : checkE V8 b ≠ 0) : diffR V8 a b = (zeroDel, checkE V8 b) := by unfold diffR; rw [if_neg (by simp [h]), if_pos h2]
theorem diffR_rev {a b : StD} (h : checkE V8 a = 0) (h2 : checkE V8 b = 0) (hr : b.rev ≤ a.rev) : diffR V8 a b = (zeroDel, 1) := by unfold diffR; rw [if_neg (by simp [h]), if_neg (by simp [h2]), if_neg (by omega)]
set_option maxRecDepth 100000 in
set_option maxHeartbeats 8000000 in
theorem ddiff_any (a b : StD) (aj an al bj bn bl : Option Addr) (cj cn cl dj dn dl : Nat) (hwa : wState a) (hwb : wState b) (w : World) (hT : Tabs w) (hma : JobsAt w aj a.jobs ∧ NodesAt w an a.nodes ∧ LeasesAt w al a.leases) (hmb : JobsAt w bj b.jobs ∧ NodesAt w bn b.nodes ∧ LeasesAt w bl b.leases) :
    Calls Tryz.prog 119 #[.agg #[.int .i64 a.rev, .slice aj a.jobs.length cj, .slice an a.nodes.length cn, .slice al a.leases.length cl], .agg #[.int .i64 b.rev, .slice bj b.jobs.length dj, .slice bn b.nodes.length dn, .slice bl b.leases.length dl]] w fun e w' => ∃ M, e = .returned (.tuple #[.agg (dlC M (diffR V8 a b).1), .int .i64 ((diffR V8 a b).2 : Nat)]) ∧ OwnD w.heap.size M (diffR V8 a b).1 w' ∧ Below w.heap.size w w' := by
  obtain ⟨H, hH⟩ : ∃ H, w.heap.size = H := ⟨_, rfl⟩
  obtain ⟨W0, hW0⟩ : ∃ W0, ((w.alloc (.cells #[.int .i64 a.rev, .slice aj a.jobs.length cj, .slice an a.nodes.length cn, .slice al a.leases.length cl] 26)).alloc (.cells #[.int .i64 b.rev, .slice bj b.jobs.length dj, .slice bn b.nodes.length dn, .slice bl b.leases.length dl] 26)).alloc (.cells #[.int .i64 0, .int .i64 0, .slice none 0 0, .slice none 0 0, .slice none 0 0, .slice none 0 0, .slice none 0 0, .slice none 0 0] 49) = W0 := ⟨_, rfl⟩
  obtain ⟨p0, q0, r0, B0, sz0⟩ := three_blocks w _ _ _ _ _ _ _ _ W0 hW0
  have CA := Lib.hid (check_any a.rev aj an al cj cn cl a.jobs a.nodes a.leases hwa W0 (hT.below B0) (jobsAt_next hma.1 B0) (nodesAt_next hma.2.1 B0) (leasesAt_next hma.2.2 B0))
  rw [hH] at p0 q0 r0 B0 sz0
  have HT := Lib.hid hT
  have HMA := Lib.hid hma
  have HMB := Lib.hid hmb
  have HWB := Lib.hid hwb
  have HW := Lib.hid hW0
  have HH := Lib.hid hH
  have P0 := Lib.hid (And.intro p0 (And.intro q0 (And.intro r0 B0)))
  have S0 := Lib.hid sz0
  have ea : (⟨a.rev, a.jobs, a.nodes, a.leases⟩ : StD) = a := rfl
  have eb : (⟨b.rev, b.jobs, b.nodes, b.leases⟩ : StD) = b := rfl
  rw [ea] at CA
  clear eb
  rw [hH]
  obtain ⟨D, hD⟩ : ∃ D, diffR V8 a b = D := ⟨_, rfl⟩
  rw [hD]
  have HD := Lib.hid hD
  obtain ⟨e1, he1⟩ : ∃ e, checkE V8 a = e := ⟨_, rfl⟩
  rw [he1] at CA
  have HE1 := Lib.hid he1
  clear hT hma hmb hwa hwb hW0 p0 q0 r0 B0 sz0 ea hD he1
  go_enter Tryz.func119, Tryz.ntmps119
  go_wp2_with fail
  rw [HW.out]
  refine CA.out.mono ?_
  rintro e w1 ⟨rfl, b1⟩
  obtain ⟨p0, q0, r0, B0⟩ := P0.out
  have p1 := objAt_next p0 b1
  have q1 := objAt_next q0 b1
  have r1 := objAt_next r0 b1
  have B1 := below_trans B0 b1 (by have := S0.out; omega)
  have s1 : H + 3 ≤ w1.heap.size := by have := b1.size; have := S0.out; omega
  clear CA P0 p0 q0 r0 B0 b1
  by_cases z1 : e1 ≠ 0
  · have z' : ((e1 : Int) != 0) = true := by simp; omega
    have HE : Hid (D = (zeroDel, e1)) := by show _ = _; rw [← HD.out]; rw [diffR_a (by rw [HE1.out]; exact z1), HE1.out]
    have k0 := objAt_cell r1 0 rfl
    have f0 := objAt_free r1 0
    have k1 := objAt_cell r1 1 rfl
    have f1 := objAt_free r1 1
    have k2 := objAt_cell r1 2 rfl
    have f2 := objAt_free r1 2
    have k3 := objAt_cell r1 3 rfl
    have f3 := objAt_free r1 3
    have k4 := objAt_cell r1 4 rfl
    have f4 := objAt_free r1 4
    have k5 := objAt_cell r1 5 rfl
    have f5 := objAt_free r1 5
    have k6 := objAt_cell r1 6 rfl
    have f6 := objAt_free r1 6
    have k7 := objAt_cell r1 7 rfl
    have f7 := objAt_free r1 7
    have kl := objAt_lt r1
    have oF := obj_put8 r1 (.int .i64 0) (.int .i64 0) (.slice none 0 0) (.slice none 0 0) (.slice none 0 0) (.slice none 0 0) (.slice none 0 0) (.slice none 0 0)
    have t0 := objAt_cell oF 0 rfl
    have t1 := objAt_cell oF 1 rfl
    have t2 := objAt_cell oF 2 rfl
    have t3 := objAt_cell oF 3 rfl
    have t4 := objAt_cell oF 4 rfl
    have t5 := objAt_cell oF 5 rfl
    have t6 := objAt_cell oF 6 rfl
    have t7 := objAt_cell oF 7 rfl
    have TT := Lib.hid (And.intro t0 (And.intro t1 (And.intro t2 (And.intro t3 (And.intro t4 (And.intro t5 (And.intro t6 t7)))))))
    have BF := Lib.hid (below_put8 B1 (show H ≤ H + 2 by omega) (.int .i64 0) (.int .i64 0) (.slice none 0 0) (.slice none 0 0) (.slice none 0 0) (.slice none 0 0) (.slice none 0 0) (.slice none 0 0))
    clear oF t0 t1 t2 t3 t4 t5 t6 t7 p1 q1 r1 B1
    go_wp2
    obtain ⟨t0, t1, t2, t3, t4, t5, t6, t7⟩ := TT.out
    exact bodyPost_ret (v := .tuple #[.agg #[.int .i64 0, .int .i64 0, .slice none 0 0, .slice none 0 0, .slice none 0 0, .slice none 0 0, .slice none 0 0, .slice none 0 0], .int .i64 (e1 : Int)]) (by simp [results, Tryz.results119, go_sem, t0, t1, t2, t3, t4, t5, t6, t7]) rfl ⟨⟨none, 0, none, 0, none, 0, none, 0, none, 0, none, 0⟩, by rw [HE.out]; rfl, by rw [HE.out]; exact ownD_zero _ _, BF.out⟩
  obtain rfl : e1 = 0 := by simpa using z1
  clear z1
  have CB := check_any b.rev bj bn bl dj dn dl b.jobs b.nodes b.leases HWB.out w1 (HT.out.below (by rw [hH]; exact B1)) (jobsAt_next HMB.out.1 (by rw [hH]; exact B1)) (nodesAt_next HMB.out.2.1 (by rw [hH]; exact B1)) (leasesAt_next HMB.out.2.2 (by rw [hH]; exact B1))
  have eb : (⟨b.rev, b.jobs, b.nodes, b.leases⟩ : StD) = b := rfl
  rw [eb] at CB
  clear eb
  obtain ⟨e2, he2⟩ : ∃ e, checkE V8 b = e := ⟨_, rfl⟩
  rw [he2] at CB
  have CB := Lib.hid CB
  have HE2 := Lib.hid he2
  have x0 := objAt_cell q1 0 rfl
  have x1 := objAt_cell q1 1 rfl
  have x2 := objAt_cell q1 2 rfl
  have x3 := objAt_cell q1 3 rfl
  have xl := objAt_lt q1
  have P1 := Lib.hid (And.intro p1 (And.intro q1 (And.intro r1 B1)))
  have S1 := Lib.hid s1
  clear p1 q1 r1 B1 s1 he2
  go_wp2_with fail
  refine CB.out.mono ?_
  rintro e w2 ⟨rfl, b2⟩
  obtain ⟨p1, q1, r1, B1⟩ := P1.out
  have p2 := objAt_next p1 b2
  have q2 := objAt_next q1 b2
  have r2 := objAt_next r1 b2
  have B2 := below_trans B1 b2 (by have := S1.out; omega)
  have s2 : H + 3 ≤ w2.heap.size := by have := b2.size; have := S1.out; omega
  clear CB P1 p1 q1 r1 B1 b2 x0 x1 x2 x3 xl
  by_cases z2 : e2 ≠ 0
  · have z' : ((e2 : Int) != 0) = true := by simp; omega
    have HE : Hid (D = (zeroDel, e2)) := by show _ = _; rw [← HD.out]; rw [diffR_b HE1.out (by rw [HE2.out]; exact z2), HE2.out]
    have k0 := objAt_cell r2 0 rfl
    have f0 := objAt_free r2 0
    have k1 := objAt_cell r2 1 rfl
    have f1 := objAt_free r2 1
    have k2 := objAt_cell r2 2 rfl
    have f2 := objAt_free r2 2
    have k3 := objAt_cell r2 3 rfl
    have f3 := objAt_free r2 3
    have k4 := objAt_cell r2 4 rfl
    have f4 := objAt_free r2 4
    have k5 := objAt_cell r2 5 rfl
    have f5 := objAt_free r2 5
    have k6 := objAt_cell r2 6 rfl
    have f6 := objAt_free r2 6
    have k7 := objAt_cell r2 7 rfl
    have f7 := objAt_free r2 7
    have kl := objAt_lt r2
    have oF := obj_put8 r2 (.int .i64 0) (.int .i64 0) (.slice none 0 0) (.slice none 0 0) (.slice none 0 0) (.slice none 0 0) (.slice none 0 0) (.slice none 0 0)
    have t0 := objAt_cell oF 0 rfl
    have t1 := objAt_cell oF 1 rfl
    have t2 := objAt_cell oF 2 rfl
    have t3 := objAt_cell oF 3 rfl
    have t4 := objAt_cell oF 4 rfl
    have t5 := objAt_cell oF 5 rfl
    have t6 := objAt_cell oF 6 rfl
    have t7 := objAt_cell oF 7 rfl
    have TT := Lib.hid (And.intro t0 (And.intro t1 (And.intro t2 (And.intro t3 (And.intro t4 (And.intro t5 (And.intro t6 t7)))))))
    have BF := Lib.hid (below_put8 B2 (show H ≤ H + 2 by omega) (.int .i64 0) (.int .i64 0) (.slice none 0 0) (.slice none 0 0) (.slice none 0 0) (.slice none 0 0) (.slice none 0 0) (.slice none 0 0))
    clear oF t0 t1 t2 t3 t4 t5 t6 t7 p2 q2 r2 B2
    go_wp2
    obtain ⟨t0, t1, t2, t3, t4, t5, t6, t7⟩ := TT.out
    exact bodyPost_ret (v := .tuple #[.agg #[.int .i64 0, .int .i64 0, .slice none 0 0, .slice none 0 0, .slice none 0 0, .slice none 0 0, .slice none 0 0, .slice none 0 0], .int .i64 (e2 : Int)]) (by simp [results, Tryz.results119, go_sem, t0, t1, t2, t3, t4, t5, t6, t7]) rfl ⟨⟨none, 0, none, 0, none, 0, none, 0, none, 0, none, 0⟩, by rw [HE.out]; rfl, by rw [HE.out]; exact ownD_zero _ _, BF.out⟩
  obtain rfl : e2 = 0 := by simpa using z2
  clear z2
  have y0 := objAt_cell p2 0 rfl
  have x0 := objAt_cell q2 0 rfl
  have y1 := objAt_cell p2 1 rfl
  have x1 := objAt_cell q2 1 rfl
  have y2 := objAt_cell p2 2 rfl
  have x2 := objAt_cell q2 2 rfl
  have y3 := objAt_cell p2 3 rfl
  have x3 := objAt_cell q2 3 rfl
  have yl := objAt_lt p2
  have xl := objAt_lt q2
  by_cases z3 : b.rev ≤ a.rev
  · have HZ := Lib.hid z3
    have HE : Hid (D = (zeroDel, 1)) := by show _ = _; rw [← HD.out]; rw [diffR_rev HE1.out HE2.out HZ.out]
    have k0 := objAt_cell r2 0 rfl
    have f0 := objAt_free r2 0
    have k1 := objAt_cell r2 1 rfl
    have f1 := objAt_free r2 1
    have k2 := objAt_cell r2 2 rfl
    have f2 := objAt_free r2 2
    have k3 := objAt_cell r2 3 rfl
    have f3 := objAt_free r2 3
    have k4 := objAt_cell r2 4 rfl
    have f4 := objAt_free r2 4
    have k5 := objAt_cell r2 5 rfl
    have f5 := objAt_free r2 5
    have k6 := objAt_cell r2 6 rfl
    have f6 := objAt_free r2 6
    have k7 := objAt_cell r2 7 rfl
    have f7 := objAt_free r2 7
    have kl := objAt_lt r2
    have oF := obj_put8 r2 (.int .i64 0) (.int .i64 0) (.slice none 0 0) (.slice none 0 0) (.slice none 0 0) (.slice none 0 0) (.slice none 0 0) (.slice none 0 0)
    have t0 := objAt_cell oF 0 rfl
    have t1 := objAt_cell oF 1 rfl
    have t2 := objAt_cell oF 2 rfl
    have t3 := objAt_cell oF 3 rfl
    have t4 := objAt_cell oF 4 rfl
    have t5 := objAt_cell oF 5 rfl
    have t6 := objAt_cell oF 6 rfl
    have t7 := objAt_cell oF 7 rfl
    have TT := Lib.hid (And.intro t0 (And.intro t1 (And.intro t2 (And.intro t3 (And.intro t4 (And.intro t5 (And.intro t6 t7)))))))
    have BF := Lib.hid (below_put8 B2 (show H ≤ H + 2 by omega) (.int .i64 0) (.int .i64 0) (.slice none 0 0) (.slice none 0 0) (.slice none 0 0) (.slice none 0 0) (.slice none 0 0) (.slice none 0 0))
    clear oF t0 t1 t2 t3 t4 t5 t6 t7 p2 q2 r2 B2
    go_wp2
    obtain ⟨t0, t1, t2, t3, t4, t5, t6, t7⟩ := TT.out
    exact bodyPost_ret (v := .tuple #[.agg #[.int .i64 0, .int .i64 0, .slice none 0 0, .slice none 0 0, .slice none 0 0, .slice none 0 0, .slice none 0 0, .slice none 0 0], .int .i64 1]) (by simp [results, Tryz.results119, go_sem, t0, t1, t2, t3, t4, t5, t6, t7]) rfl ⟨⟨none, 0, none, 0, none, 0, none, 0, none, 0, none, 0⟩, by rw [HE.out]; rfl, by rw [HE.out]; exact ownD_zero _ _, BF.out⟩
  have HRv : Hid (a.rev < b.rev) := by show _ < _; omega
  have z3' : a.rev < b.rev := by omega
  clear z3
  have VA := Lib.hid (valid_facts HE1.out)
  have VB := Lib.hid (valid_facts HE2.out)
  go_upto_region 9 with fail
  go_cut [] from 27 (fun wc => ∃ (ja na la jb nb lb : Option Addr) (jc nc lc kc mc oc : Nat), ObjAt H #[.int .i64 a.rev, .slice ja a.jobs.length jc, .slice na a.nodes.length nc, .slice la a.leases.length lc] 26 wc ∧ ObjAt (H + 1) #[.int .i64 b.rev, .slice jb b.jobs.length kc, .slice nb b.nodes.length mc, .slice lb b.leases.length oc] 26 wc ∧ ObjAt (H + 2) #[.int .i64 0, .int .i64 0, .slice none 0 0, .slice none 0 0, .slice none 0 0, .slice none 0 0, .slice none 0 0, .slice none 0 0] 49 wc ∧ OwnS (H + 3) ja na la jc nc lc a wc ∧ OwnS (H + 3) jb nb lb kc mc oc b wc ∧ Below H w wc)
  case first =>
    have C1 := Lib.hid (sep_any a aj an al cj cn cl HE1.out w2.drew (jobsAt_next HMA.out.1 (by rw [hH]; exact B2.drew)) (nodesAt_next HMA.out.2.1 (by rw [hH]; exact B2.drew)) (leasesAt_next HMA.out.2.2 (by rw [hH]; exact B2.drew)))
    have S2 := Lib.hid s2
    have PP := Lib.hid (And.intro p2 (And.intro q2 (And.intro r2 B2)))
    clear p2 q2 r2 B2 s2
    go_region_law (first
      | (go_simp; go_at_call 37; (with_reducible refine C1.out.mono ?_); rintro e x1_ ⟨ja, na, la, jc, nc, lc, rfl, OA, b3⟩; have B3 := below_trans PP.out.2.2.2.drew b3 (show H ≤ w2.heap.size by have := S2.out; omega); have P3 := objAt_next (w := w2.drew) PP.out.1 b3; have Q3 := objAt_next (w := w2.drew) PP.out.2.1 b3; have R3 := objAt_next (w := w2.drew) PP.out.2.2.1 b3; have OA3 := Lib.hid (ownS_low (B' := H + 3) OA (show H + 3 ≤ w2.heap.size from S2.out)); have C2 := Lib.hid (sep_any b bj bn bl dj dn dl HE2.out x1_ (jobsAt_next HMB.out.1 (by rw [hH]; exact B3)) (nodesAt_next HMB.out.2.1 (by rw [hH]; exact B3)) (leasesAt_next HMB.out.2.2 (by rw [hH]; exact B3))); have u0 := objAt_cell Q3 0 rfl; have u1 := objAt_cell Q3 1 rfl; have u2 := objAt_cell Q3 2 rfl; have u3 := objAt_cell Q3 3 rfl; have ul := objAt_lt Q3; have S3 : Hid (H + 3 ≤ x1_.heap.size) := (by show H + 3 ≤ x1_.heap.size; have := b3.size; have : w2.drew.heap.size = w2.heap.size := rfl; have := S2.out; omega); have PQ := Lib.hid (And.intro P3 (And.intro Q3 (And.intro R3 B3))); clear P3 Q3 R3 B3 OA b3)
      | (go_simp; go_at_call 37; (with_reducible refine C2.out.mono ?_); rintro e x2_ ⟨jb, nb, lb, kc, mc, oc, rfl, OB, b4⟩; have P4 := objAt_next PQ.out.1 b4; have Q4 := objAt_next PQ.out.2.1 b4; have R4 := objAt_next PQ.out.2.2.1 b4; have B4 := below_trans PQ.out.2.2.2 b4 (by have := S3.out; omega); have OA4 := ownS_next OA3.out b4; have OB4 := ownS_low (B' := H + 3) OB S3.out; have g0 := objAt_free P4 0; have g1 := objAt_free P4 1; have g2 := objAt_free P4 2; have g3 := objAt_free P4 3; have h0 := objAt_free Q4 0; have h1 := objAt_free Q4 1; have h2 := objAt_free Q4 2; have h3 := objAt_free Q4 3; have m0 := objAt_cell P4 0 rfl; have m1 := objAt_cell P4 1 rfl; have m2 := objAt_cell P4 2 rfl; have m3 := objAt_cell P4 3 rfl; have n0 := objAt_cell Q4 0 rfl; have n1 := objAt_cell Q4 1 rfl; have n2 := objAt_cell Q4 2 rfl; have n3 := objAt_cell Q4 3 rfl; have ml := objAt_lt P4; have nl := objAt_lt Q4; have ZZ := Lib.hid (And.intro P4 (And.intro Q4 (And.intro R4 (And.intro OA4 (And.intro OB4 B4))))); clear P4 Q4 R4 OA4 OB4 B4 OB b4))
    all_goals
      go_wp2_with fail
      go_meet
      case rel =>
        obtain ⟨P4, Q4, R4, OA4, OB4, B4⟩ := ZZ.out
        have P5 := obj_put4 P4 (.int .i64 a.rev) (.slice ja a.jobs.length jc) (.slice na a.nodes.length nc) (.slice la a.leases.length lc)
        have Q5 := other_put4 (b := H) Q4 (by omega) (.int .i64 a.rev) (.slice ja a.jobs.length jc) (.slice na a.nodes.length nc) (.slice la a.leases.length lc)
        have R5 := other_put4 (b := H) R4 (by omega) (.int .i64 a.rev) (.slice ja a.jobs.length jc) (.slice na a.nodes.length nc) (.slice la a.leases.length lc)
        have OA5 := ownS_put4 OA4 P4 (.int .i64 a.rev) (.slice ja a.jobs.length jc) (.slice na a.nodes.length nc) (.slice la a.leases.length lc)
        have OB5 := ownS_put4 OB4 P4 (.int .i64 a.rev) (.slice ja a.jobs.length jc) (.slice na a.nodes.length nc) (.slice la a.leases.length lc)
        have B5 := below_put4 B4 (Nat.le_refl H) (.int .i64 a.rev) (.slice ja a.jobs.length jc) (.slice na a.nodes.length nc) (.slice la a.leases.length lc)
        exact ⟨ja, na, la, jb, nb, lb, jc, nc, lc, kc, mc, oc, other_put4 (b := H + 1) P5 (by omega) (.int .i64 b.rev) (.slice jb b.jobs.length kc) (.slice nb b.nodes.length mc) (.slice lb b.leases.length oc), obj_put4 Q5 (.int .i64 b.rev) (.slice jb b.jobs.length kc) (.slice nb b.nodes.length mc) (.slice lb b.leases.length oc), other_put4 (b := H + 1) R5 (by omega) (.int .i64 b.rev) (.slice jb b.jobs.length kc) (.slice nb b.nodes.length mc) (.slice lb b.leases.length oc), ownS_put4 OA5 Q5 (.int .i64 b.rev) (.slice jb b.jobs.length kc) (.slice nb b.nodes.length mc) (.slice lb b.leases.length oc), ownS_put4 OB5 Q5 (.int .i64 b.rev) (.slice jb b.jobs.length kc) (.slice nb b.nodes.length mc) (.slice lb b.leases.length oc), below_put4 B5 (show H ≤ H + 1 by omega) (.int .i64 b.rev) (.slice jb b.jobs.length kc) (.slice nb b.nodes.length mc) (.slice lb b.leases.length oc)⟩
  case rest =>
    obtain ⟨ja, na, la, jb, nb, lb, jc, nc, lc, kc, mc, oc, P, Q, R, OA, OB, BB⟩ := hcut
    clear p2 q2 r2 B2 s2 y0 y1 y2 y3 x0 x1 x2 x3 yl xl
    have y0 := objAt_cell P 0 rfl
    have x0 := objAt_cell Q 0 rfl
    have y1 := objAt_cell P 1 rfl
    have x1 := objAt_cell Q 1 rfl
    have y2 := objAt_cell P 2 rfl
    have x2 := objAt_cell Q 2 rfl
    have y3 := objAt_cell P 3 rfl
    have x3 := objAt_cell Q 3 rfl
    have yl := objAt_lt P
    have xl := objAt_lt Q
    obtain ⟨N, hN⟩ : ∃ N, wc.heap.size = N := ⟨_, rfl⟩
    have sN : H + 3 ≤ N := by have := objAt_lt R; omega
    have yl2 : H < N := by omega
    have xl2 : H + 1 < N := by omega
    obtain ⟨U0, hU0⟩ : ∃ U0, wc.alloc (.cells #[.int .i64 a.rev, .int .i64 b.rev, .slice none 0 0, .slice none 0 0, .slice none 0 0, .slice none 0 0, .slice none 0 0, .slice none 0 0] 49) = U0 := ⟨_, rfl⟩
    have bU : Below N wc U0 := by rw [← hU0, ← hN]; exact below_one _ _
    have sU0 : U0.heap.size = N + 1 := by rw [← hU0, World.size_alloc, hN]
    have oD0 : ObjAt N #[.int .i64 a.rev, .int .i64 b.rev, .slice none 0 0, .slice none 0 0, .slice none 0 0, .slice none 0 0, .slice none 0 0, .slice none 0 0] 49 U0 := by rw [← hU0, ← hN]; exact objAt_new wc _ _
    have P0 := objAt_next P (by rw [hN]; exact bU)
    have Q0 := objAt_next Q (by rw [hN]; exact bU)
    have R0 := objAt_next R (by rw [hN]; exact bU)
    have OA0 := ownS_next OA (by rw [hN]; exact bU)
    have OB0 := ownS_next OB (by rw [hN]; exact bU)
    have B0 := below_trans BB (by rw [hN]; exact bU) (by omega)
    have HU0 := Lib.hid hU0
    clear P Q R OA OB BB bU hU0
    have G0 := Lib.hid (compareJob_is a.jobs b.jobs ja jb jc kc VA.out.1.1 VB.out.1.1 VA.out.2.1.1 VB.out.2.1.1 VA.out.2.2.1 VB.out.2.2.1 U0 (ownJobs OA0.1 rfl) (ownJobs OB0.1 rfl))
    have ZZ0 := Lib.hid (And.intro P0 (And.intro Q0 (And.intro R0 (And.intro OA0 (And.intro OB0 (And.intro B0 oD0))))))
    have SS0 := Lib.hid sU0
    clear P0 Q0 R0 OA0 OB0 B0 oD0 sU0
    go_wp2_with fail
    rw [HU0.out]
    refine G0.out.mono ?_
    rintro e v1 ⟨g1, i1, k1, l1, rfl, T1, V1, b1⟩
    obtain ⟨P, Q, R, OA, OB, B, oD⟩ := ZZ0.out
    have P' := objAt_next P b1
    have Q' := objAt_next Q b1
    have R' := objAt_next R b1
    have OA' := ownS_next OA b1
    have OB' := ownS_next OB b1
    have oD' := objAt_next oD b1
    have B' := below_trans B b1 (by have := SS0.out; omega)
    have fr1 := objAt_free oD' 2
    have fr2 := objAt_free oD' 5
    have cd1 := objAt_cell oD' 2 rfl
    have cd2 := objAt_cell oD' 5 rfl
    have dlt := objAt_lt oD'
    obtain ⟨U1, hU1⟩ : ∃ U, (v1.setCell ⟨N, 2, none⟩ (.slice g1 (newL a.jobs b.jobs).length i1)).setCell ⟨N, 5, none⟩ (.slice k1 (goneL (·.name) a.jobs b.jobs).length l1) = U := ⟨_, rfl⟩
    obtain ⟨z1, z2, z3, z4, z5⟩ := dl_two oD' 2 5 (.slice g1 (newL a.jobs b.jobs).length i1) (.slice k1 (goneL (·.name) a.jobs b.jobs).length l1) hU1
    have oD1 : ObjAt N #[.int .i64 a.rev, .int .i64 b.rev, .slice g1 (newL a.jobs b.jobs).length i1, .slice none 0 0, .slice none 0 0, .slice k1 (goneL (·.name) a.jobs b.jobs).length l1, .slice none 0 0, .slice none 0 0] 49 U1 := z1
    have P1 := z2 _ _ _ (show H ≠ N by omega) P'
    have Q1 := z2 _ _ _ (show H + 1 ≠ N by omega) Q'
    have R1 := z2 _ _ _ (show H + 2 ≠ N by omega) R'
    have OA1 : OwnS (H + 3) ja na la jc nc lc a U1 := ⟨z3 _ _ _ _ _ _ (by decide) OA'.1, z3 _ _ _ _ _ _ (by decide) OA'.2.1, z3 _ _ _ _ _ _ (by decide) OA'.2.2⟩
    have OB1 : OwnS (H + 3) jb nb lb kc mc oc b U1 := ⟨z3 _ _ _ _ _ _ (by decide) OB'.1, z3 _ _ _ _ _ _ (by decide) OB'.2.1, z3 _ _ _ _ _ _ (by decide) OB'.2.2⟩
    have B1 := z4 _ _ (show H ≤ N by omega) B'
    have T' := z3 _ _ _ _ _ _ (by decide) (ownsRow_low (B' := H) T1 (by have := SS0.out; omega))
    have V' := z3 _ _ _ _ _ _ (by decide) (ownsRow_low (B' := H) V1 (by have := SS0.out; omega))
    have sU1 : N + 1 ≤ U1.heap.size := by rw [z5]; have := b1.size; have := SS0.out; omega
    have rows1 := And.intro T' V'
    have HU1 := Lib.hid hU1
    clear hU1 z1 z2 z3 z4 z5 P Q R OA OB B oD P' Q' R' OA' OB' oD' B' T' V' T1 V1 b1 G0 ZZ0 SS0 y1 x1 yl xl y0 x0 y2 x2 y3 x3
    go_upto_region 12 with fail
    rw [HU1.out]
    clear fr1 fr2 cd1 cd2 dlt HU1
    have G1 := Lib.hid (compareNode_is a.nodes b.nodes na nb nc mc VA.out.1.2.1 VB.out.1.2.1 (by have := VA.out.2.1.2.1; omega) (by have := VB.out.2.1.2.1; omega) VA.out.2.2.2.1 VB.out.2.2.2.1 U1 (ownNodes OA1.2.1 rfl) (ownNodes OB1.2.1 rfl))
    have y2 := objAt_cell P1 2 rfl
    have x2 := objAt_cell Q1 2 rfl
    have yl := objAt_lt P1
    have xl := objAt_lt Q1
    have ZZ1 := Lib.hid (And.intro P1 (And.intro Q1 (And.intro R1 (And.intro OA1 (And.intro OB1 (And.intro B1 oD1))))))
    have RR1 := Lib.hid rows1
    clear rows1
    have SS1 := Lib.hid sU1
    clear P1 Q1 R1 OA1 OB1 B1 oD1 sU1
    go_wp2_with fail
    refine G1.out.mono ?_
    rintro e v2 ⟨g2, i2, k2, l2, rfl, T2, V2, b2⟩
    obtain ⟨P, Q, R, OA, OB, B, oD⟩ := ZZ1.out
    have P' := objAt_next P b2
    have Q' := objAt_next Q b2
    have R' := objAt_next R b2
    have OA' := ownS_next OA b2
    have OB' := ownS_next OB b2
    have oD' := objAt_next oD b2
    have B' := below_trans B b2 (by have := SS1.out; omega)
    have fr1 := objAt_free oD' 3
    have fr2 := objAt_free oD' 6
    have cd1 := objAt_cell oD' 3 rfl
    have cd2 := objAt_cell oD' 6 rfl
    have dlt := objAt_lt oD'
    obtain ⟨U2, hU2⟩ : ∃ U, (v2.setCell ⟨N, 3, none⟩ (.slice g2 (newL a.nodes b.nodes).length i2)).setCell ⟨N, 6, none⟩ (.slice k2 (goneL (·.name) a.nodes b.nodes).length l2) = U := ⟨_, rfl⟩
    obtain ⟨z1, z2, z3, z4, z5⟩ := dl_two oD' 3 6 (.slice g2 (newL a.nodes b.nodes).length i2) (.slice k2 (goneL (·.name) a.nodes b.nodes).length l2) hU2
    have oD2 : ObjAt N #[.int .i64 a.rev, .int .i64 b.rev, .slice g1 (newL a.jobs b.jobs).length i1, .slice g2 (newL a.nodes b.nodes).length i2, .slice none 0 0, .slice k1 (goneL (·.name) a.jobs b.jobs).length l1, .slice k2 (goneL (·.name) a.nodes b.nodes).length l2, .slice none 0 0] 49 U2 := z1
    have P2 := z2 _ _ _ (show H ≠ N by omega) P'
    have Q2 := z2 _ _ _ (show H + 1 ≠ N by omega) Q'
    have R2 := z2 _ _ _ (show H + 2 ≠ N by omega) R'
    have OA2 : OwnS (H + 3) ja na la jc nc lc a U2 := ⟨z3 _ _ _ _ _ _ (by decide) OA'.1, z3 _ _ _ _ _ _ (by decide) OA'.2.1, z3 _ _ _ _ _ _ (by decide) OA'.2.2⟩
    have OB2 : OwnS (H + 3) jb nb lb kc mc oc b U2 := ⟨z3 _ _ _ _ _ _ (by decide) OB'.1, z3 _ _ _ _ _ _ (by decide) OB'.2.1, z3 _ _ _ _ _ _ (by decide) OB'.2.2⟩
    have B2 := z4 _ _ (show H ≤ N by omega) B'
    have T' := z3 _ _ _ _ _ _ (by decide) (ownsRow_low (B' := H) T2 (by have := SS1.out; omega))
    have V' := z3 _ _ _ _ _ _ (by decide) (ownsRow_low (B' := H) V2 (by have := SS1.out; omega))
    have sU2 : N + 1 ≤ U2.heap.size := by rw [z5]; have := b2.size; have := SS1.out; omega
    have o1' := own_next RR1.out.1 b2
    have o2' := own_next RR1.out.2 b2
    have q1' := z3 _ _ _ _ _ _ (by decide) o1'
    have q2' := z3 _ _ _ _ _ _ (by decide) o2'
    have rows2 := And.intro (And.intro q1' q2') (And.intro T' V')
    clear o1' o2' q1' q2'
    have HU2 := Lib.hid hU2
    clear hU2 z1 z2 z3 z4 z5 P Q R OA OB B oD P' Q' R' OA' OB' oD' B' T' V' T2 V2 b2 G1 ZZ1 SS1 RR1 y2 x2 yl xl
    go_upto_region 13 with fail
    rw [HU2.out]
    clear fr1 fr2 cd1 cd2 dlt HU2
    have G2 := Lib.hid (compareLease_is a.leases b.leases la lb lc oc VA.out.1.2.2 VB.out.1.2.2 VA.out.2.1.2.2 VB.out.2.1.2.2 VA.out.2.2.2.2 VB.out.2.2.2.2 U2 (ownLeases OA2.2.2 rfl) (ownLeases OB2.2.2 rfl))
    have y3 := objAt_cell P2 3 rfl
    have x3 := objAt_cell Q2 3 rfl
    have yl := objAt_lt P2
    have xl := objAt_lt Q2
    have ZZ2 := Lib.hid (And.intro P2 (And.intro Q2 (And.intro R2 (And.intro OA2 (And.intro OB2 (And.intro B2 oD2))))))
    have RR2 := Lib.hid rows2
    clear rows2
    have SS2 := Lib.hid sU2
    clear P2 Q2 R2 OA2 OB2 B2 oD2 sU2
    go_wp2_with fail
    refine G2.out.mono ?_
    rintro e v3 ⟨g3, i3, k3, l3, rfl, T3, V3, b3⟩
    obtain ⟨P, Q, R, OA, OB, B, oD⟩ := ZZ2.out
    have P' := objAt_next P b3
    have Q' := objAt_next Q b3
    have R' := objAt_next R b3
    have OA' := ownS_next OA b3
    have OB' := ownS_next OB b3
    have oD' := objAt_next oD b3
    have B' := below_trans B b3 (by have := SS2.out; omega)
    have fr1 := objAt_free oD' 4
    have fr2 := objAt_free oD' 7
    have cd1 := objAt_cell oD' 4 rfl
    have cd2 := objAt_cell oD' 7 rfl
    have dlt := objAt_lt oD'
    obtain ⟨U3, hU3⟩ : ∃ U, (v3.setCell ⟨N, 4, none⟩ (.slice g3 (newL a.leases b.leases).length i3)).setCell ⟨N, 7, none⟩ (.slice k3 (goneL (·.job) a.leases b.leases).length l3) = U := ⟨_, rfl⟩
    obtain ⟨z1, z2, z3, z4, z5⟩ := dl_two oD' 4 7 (.slice g3 (newL a.leases b.leases).length i3) (.slice k3 (goneL (·.job) a.leases b.leases).length l3) hU3
    have oD3 : ObjAt N #[.int .i64 a.rev, .int .i64 b.rev, .slice g1 (newL a.jobs b.jobs).length i1, .slice g2 (newL a.nodes b.nodes).length i2, .slice g3 (newL a.leases b.leases).length i3, .slice k1 (goneL (·.name) a.jobs b.jobs).length l1, .slice k2 (goneL (·.name) a.nodes b.nodes).length l2, .slice k3 (goneL (·.job) a.leases b.leases).length l3] 49 U3 := z1
    have P3 := z2 _ _ _ (show H ≠ N by omega) P'
    have Q3 := z2 _ _ _ (show H + 1 ≠ N by omega) Q'
    have R3 := z2 _ _ _ (show H + 2 ≠ N by omega) R'
    have OA3 : OwnS (H + 3) ja na la jc nc lc a U3 := ⟨z3 _ _ _ _ _ _ (by decide) OA'.1, z3 _ _ _ _ _ _ (by decide) OA'.2.1, z3 _ _ _ _ _ _ (by decide) OA'.2.2⟩
    have OB3 : OwnS (H + 3) jb nb lb kc mc oc b U3 := ⟨z3 _ _ _ _ _ _ (by decide) OB'.1, z3 _ _ _ _ _ _ (by decide) OB'.2.1, z3 _ _ _ _ _ _ (by decide) OB'.2.2⟩
    have B3 := z4 _ _ (show H ≤ N by omega) B'
    have T' := z3 _ _ _ _ _ _ (by decide) (ownsRow_low (B' := H) T3 (by have := SS2.out; omega))
    have V' := z3 _ _ _ _ _ _ (by decide) (ownsRow_low (B' := H) V3 (by have := SS2.out; omega))
    have sU3 : N + 1 ≤ U3.heap.size := by rw [z5]; have := b3.size; have := SS2.out; omega
    have o1' := own_next RR2.out.1.1 b3
    have o2' := own_next RR2.out.1.2 b3
    have o3' := own_next RR2.out.2.1 b3
    have o4' := own_next RR2.out.2.2 b3
    have q1' := z3 _ _ _ _ _ _ (by decide) o1'
    have q2' := z3 _ _ _ _ _ _ (by decide) o2'
    have q3' := z3 _ _ _ _ _ _ (by decide) o3'
    have q4' := z3 _ _ _ _ _ _ (by decide) o4'
    have rows3 := And.intro (And.intro q1' q2') (And.intro (And.intro q3' q4') (And.intro T' V'))
    clear o1' o2' o3' o4' q1' q2' q3' q4'
    have HU3 := Lib.hid hU3
    clear hU3 z1 z2 z3 z4 z5 P Q R OA OB B oD P' Q' R' OA' OB' oD' B' T' V' T3 V3 b3 G2 ZZ2 SS2 RR2 y3 x3 yl xl
    go_upto_region 14 with fail
    rw [HU3.out]
    clear fr1 fr2 cd1 cd2 dlt HU3
    have HE : Hid (D = (diffS a b, 0)) := by show _ = _; rw [← HD.out]; exact diffR_ok HE1.out HE2.out HRv.out
    have oW : OwnD H ⟨g1, i1, g2, i2, g3, i3, k1, l1, k2, l2, k3, l3⟩ (diffS a b) U3 := ⟨rows3.1.1, rows3.2.1.1, rows3.2.2.1, rows3.1.2, rows3.2.1.2, rows3.2.2.2⟩
    have k_0 := objAt_cell R3 0 rfl
    have f0 := objAt_free R3 0
    have m0 := objAt_cell oD3 0 rfl
    have k_1 := objAt_cell R3 1 rfl
    have f1 := objAt_free R3 1
    have m1 := objAt_cell oD3 1 rfl
    have k_2 := objAt_cell R3 2 rfl
    have f2 := objAt_free R3 2
    have m2 := objAt_cell oD3 2 rfl
    have k_3 := objAt_cell R3 3 rfl
    have f3 := objAt_free R3 3
    have m3 := objAt_cell oD3 3 rfl
    have k_4 := objAt_cell R3 4 rfl
    have f4 := objAt_free R3 4
    have m4 := objAt_cell oD3 4 rfl
    have k_5 := objAt_cell R3 5 rfl
    have f5 := objAt_free R3 5
    have m5 := objAt_cell oD3 5 rfl
    have k_6 := objAt_cell R3 6 rfl
    have f6 := objAt_free R3 6
    have m6 := objAt_cell oD3 6 rfl
    have k_7 := objAt_cell R3 7 rfl
    have f7 := objAt_free R3 7
    have m7 := objAt_cell oD3 7 rfl
    have kl := objAt_lt R3
    have ml := objAt_lt oD3
    have oF := obj_put8 R3 (.int .i64 a.rev) (.int .i64 b.rev) (.slice g1 (newL a.jobs b.jobs).length i1) (.slice g2 (newL a.nodes b.nodes).length i2) (.slice g3 (newL a.leases b.leases).length i3) (.slice k1 (goneL (·.name) a.jobs b.jobs).length l1) (.slice k2 (goneL (·.name) a.nodes b.nodes).length l2) (.slice k3 (goneL (·.job) a.leases b.leases).length l3)
    have t0 := objAt_cell oF 0 rfl
    have t1 := objAt_cell oF 1 rfl
    have t2 := objAt_cell oF 2 rfl
    have t3 := objAt_cell oF 3 rfl
    have t4 := objAt_cell oF 4 rfl
    have t5 := objAt_cell oF 5 rfl
    have t6 := objAt_cell oF 6 rfl
    have t7 := objAt_cell oF 7 rfl
    have TT := Lib.hid (And.intro t0 (And.intro t1 (And.intro t2 (And.intro t3 (And.intro t4 (And.intro t5 (And.intro t6 t7)))))))
    have BF := Lib.hid (below_put8 B3 (show H ≤ H + 2 by omega) (.int .i64 a.rev) (.int .i64 b.rev) (.slice g1 (newL a.jobs b.jobs).length i1) (.slice g2 (newL a.nodes b.nodes).length i2) (.slice g3 (newL a.leases b.leases).length i3) (.slice k1 (goneL (·.name) a.jobs b.jobs).length l1) (.slice k2 (goneL (·.name) a.nodes b.nodes).length l2) (.slice k3 (goneL (·.job) a.leases b.leases).length l3))
    have OF := Lib.hid (ownD_put8 oW R3 (.int .i64 a.rev) (.int .i64 b.rev) (.slice g1 (newL a.jobs b.jobs).length i1) (.slice g2 (newL a.nodes b.nodes).length i2) (.slice g3 (newL a.leases b.leases).length i3) (.slice k1 (goneL (·.name) a.jobs b.jobs).length l1) (.slice k2 (goneL (·.name) a.nodes b.nodes).length l2) (.slice k3 (goneL (·.job) a.leases b.leases).length l3))
    clear oF t0 t1 t2 t3 t4 t5 t6 t7 P3 Q3 R3 OA3 OB3 B3 oD3 rows3 oW
    go_wp2
    obtain ⟨t0, t1, t2, t3, t4, t5, t6, t7⟩ := TT.out
    exact bodyPost_ret (v := .tuple #[.agg #[.int .i64 a.rev, .int .i64 b.rev, .slice g1 (newL a.jobs b.jobs).length i1, .slice g2 (newL a.nodes b.nodes).length i2, .slice g3 (newL a.leases b.leases).length i3, .slice k1 (goneL (·.name) a.jobs b.jobs).length l1, .slice k2 (goneL (·.name) a.nodes b.nodes).length l2, .slice k3 (goneL (·.job) a.leases b.leases).length l3], .int .i64 0]) (by simp [results, Tryz.results119, go_sem, t0, t1, t2, t3, t4, t5, t6, t7]) rfl ⟨⟨g1, i1, g2, i2, g3, i3, k1, l1, k2, l2, k3, l3⟩, by rw [HE.out]; rfl, by rw [HE.out]; exact OF.out, BF.out⟩
end Go.Proofs.YthpgkfonbmffdaaGreatDoor
