/- Package delta: Check at every delta. -/
import Derived.Test.YtfbakobmlbjncaaGreatDoorDlChk
namespace Go.Proofs.YtfbakobmlbjncaaGreatDoor
open Go.RowKit

theorem used_nil (jobs : List JobD) (n : ByteArray) : usedD jobs [] n = 0 := rfl
theorem check_part (d : DelD) (h1 : d.jobs.length ≤ 40) (h2 : d.nodes.length ≤ 20) : checkE V8 ⟨0, d.jobs, d.nodes, []⟩ = orE (rowsE (jobE V8) (·.name) none d.jobs) (rowsE (nodeE V8) (·.name) none d.nodes) := by
  have hh : headSE ⟨0, d.jobs, d.nodes, []⟩ = 0 := by
    unfold headSE
    rw [if_pos (by rfl), if_pos ⟨h1, Nat.zero_le _, h2⟩]
  unfold checkE
  rw [hh]
  show orE 0 (orE (rowsE (jobE V8) (·.name) none d.jobs) (orE (rowsE (nodeE V8) (·.name) none d.nodes) (orE 0 (roomE d.jobs [] d.nodes)))) = _
  by_cases hn : rowsE (nodeE V8) (·.name) none d.nodes = 0
  · have hz := (rowsE_zero _ _ _ _).1 hn
    have hr : roomE d.jobs [] d.nodes = 0 := by
      refine roomE_yes (fun j hj => ?_)
      rw [used_nil]
      exact ((nodeE_zero V8 _).1 (hz.1 _ (List.getElem_mem hj))).2.1
    rw [hr, hn]
    simp [orE]
  · simp [orE, hn]
theorem orE_left {a b : Nat} (h : a ≠ 0) : orE a b = a := if_pos h
theorem orE_assoc (a b c : Nat) : orE (orE a b) c = orE a (orE b c) := by
  by_cases h : a = 0
  · subst h; rfl
  · rw [orE_left h, orE_left h, orE_left h]
theorem orE_right (b : Nat) : orE 0 b = b := rfl
theorem head_arg {d : DelD} (h : d.frm < 0 ∨ d.til ≤ d.frm ∨ 1099511627776 < d.til) : headDE d = 1 := by
  unfold headDE
  rw [if_neg]
  rw [Bool.and_eq_true, inR_iff, inR_iff]
  omega
theorem head_large {d : DelD} (h : ¬ (d.frm < 0 ∨ d.til ≤ d.frm ∨ 1099511627776 < d.til)) (hl : largeD d = true) : headDE d = 2 := by
  unfold headDE
  rw [if_pos (by rw [Bool.and_eq_true, inR_iff, inR_iff]; omega), if_neg]
  unfold largeD at hl
  rw [Bool.not_eq_true', decide_eq_false_iff_not] at hl
  exact hl
theorem head_ok {d : DelD} (h : ¬ (d.frm < 0 ∨ d.til ≤ d.frm ∨ 1099511627776 < d.til)) (hl : largeD d = false) : headDE d = 0 ∧ (d.jobs.length ≤ 40 ∧ d.leases.length ≤ 40 ∧ d.gj.length ≤ 40 ∧ d.gl.length ≤ 40) ∧ d.nodes.length ≤ 20 ∧ d.gn.length ≤ 20 := by
  unfold largeD at hl
  rw [Bool.not_eq_false', decide_eq_true_eq] at hl
  refine ⟨?_, hl⟩
  unfold headDE
  rw [if_pos (by rw [Bool.and_eq_true, inR_iff, inR_iff]; omega), if_pos hl]
set_option maxRecDepth 100000 in
set_option maxHeartbeats 4000000 in
theorem dcheck_any (M : DlM) (d : DelD) (hw : wDelta d) (w : World) (hT : Tabs w) (hm : DeltaAt w M d) : Calls Tryz.prog 15 #[.agg (dlC M d)] w fun e w' => e = .returned (.int .i64 (dcheckE V8 d : Nat)) ∧ Below w.heap.size w w' := by
  have bW := below_one w (.cells (dlC M d) 29)
  have oB := objAt_new w (dlC M d) 29
  have HL := Lib.hid (isLarge_is M d)
  have HT := Lib.hid hT
  have HM := Lib.hid hm
  have HW := Lib.hid hw
  have BW := Lib.hid bW
  have OB := Lib.hid oB
  obtain ⟨R, hR⟩ : ∃ R, dcheckE V8 d = R := ⟨_, rfl⟩
  rw [hR]
  have HR := Lib.hid hR
  have c0 := objAt_cell oB 0 rfl
  have c1 := objAt_cell oB 1 rfl
  have c2 := objAt_cell oB 2 rfl
  have c3 := objAt_cell oB 3 rfl
  have c4 := objAt_cell oB 4 rfl
  have c5 := objAt_cell oB 5 rfl
  have c6 := objAt_cell oB 6 rfl
  have c7 := objAt_cell oB 7 rfl
  clear hR hw hT hm bW oB
  unfold dlC at *
  by_cases hA : d.frm < 0 ∨ d.til ≤ d.frm ∨ 1099511627776 < d.til
  · have HE : Hid (R = 1) := by show _ = _; rw [← HR.out, dcheckE, head_arg hA]; rfl
    by_cases h1 : d.frm < 0
    · clear hA
      go_enter Tryz.func15, Tryz.ntmps15
      go_wp2
      go_ret
      exact ⟨by rw [HE.out]; rfl, BW.out⟩
    · have h1 : 0 ≤ d.frm := by omega
      by_cases h2 : d.til ≤ d.frm
      · clear hA
        go_enter Tryz.func15, Tryz.ntmps15
        go_wp2
        go_ret
        exact ⟨by rw [HE.out]; rfl, BW.out⟩
      · have h3 : 1099511627776 < d.til := by omega
        have h2 : d.frm < d.til := by omega
        clear hA
        go_enter Tryz.func15, Tryz.ntmps15
        go_wp2
        go_ret
        exact ⟨by rw [HE.out]; rfl, BW.out⟩
  · have HA := Lib.hid hA
    have h1 : 0 ≤ d.frm := by omega
    have h2 : d.frm < d.til := by omega
    have h3 : d.til ≤ 1099511627776 := by omega
    clear hA
    go_enter Tryz.func15, Tryz.ntmps15
    go_wp2_with fail
    refine (HL.out _).mono ?_
    rintro e w1 ⟨rfl, b1⟩
    have O1 := objAt_next OB.out b1
    have B1 := Lib.hid (below_trans BW.out b1 BW.out.size)
    obtain ⟨q, hq⟩ : ∃ q, largeD d = q := ⟨_, rfl⟩
    rw [hq]
    cases q with
    | true =>
      have HE : Hid (R = 2) := by show _ = _; rw [← HR.out, dcheckE, head_large HA.out hq]; rfl
      clear O1 hq
      go_wp2
      go_ret
      exact ⟨by rw [HE.out]; rfl, B1.out⟩
    | false =>
      obtain ⟨hz, ⟨l1, l2, l3, l4⟩, l5, l6⟩ := head_ok HA.out hq
      have HR1 : Hid (orE (orE (rowsE (jobE V8) (·.name) none d.jobs) (rowsE (nodeE V8) (·.name) none d.nodes)) (orE (rowsE (leaseCE V8) (·.job) none d.leases) (orE (goneE V8 (hasJob d.jobs) none d.gj) (orE (goneE V8 (hasNode d.nodes) none d.gn) (goneE V8 (hasLease d.leases) none d.gl)))) = R) := by
        show _ = _
        rw [← HR.out, dcheckE, hz, orE_right, orE_assoc]
      clear hq HR
      have C1 := check_any 0 M.aj M.an none M.cj M.cn 0 d.jobs d.nodes [] ⟨rfl, HW.out.2.1.1, HW.out.2.1.2.1, fun x hx => by cases hx⟩ w1 (HT.out.below B1.out) (jobsAt_next HM.out.1.1 B1.out) (nodesAt_next HM.out.1.2.1 B1.out) (fun i hi => absurd hi (by simp))
      rw [check_part d l1 l5] at C1
      obtain ⟨e1, he1⟩ : ∃ e, orE (rowsE (jobE V8) (·.name) none d.jobs) (rowsE (nodeE V8) (·.name) none d.nodes) = e := ⟨_, rfl⟩
      rw [he1] at C1 HR1
      have C1 := Lib.hid C1
      have p1_0 := objAt_cell O1 0 rfl
      have p1_1 := objAt_cell O1 1 rfl
      have p1_2 := objAt_cell O1 2 rfl
      have p1_3 := objAt_cell O1 3 rfl
      have p1_4 := objAt_cell O1 4 rfl
      have p1_5 := objAt_cell O1 5 rfl
      have p1_6 := objAt_cell O1 6 rfl
      have p1_7 := objAt_cell O1 7 rfl
      have OO1 := Lib.hid O1
      clear O1 he1
      clear c0 c1 c2 c3 c4 c5 c6 c7
      go_wp2_with fail
      refine C1.out.mono ?_
      rintro e w2 ⟨rfl, b2⟩
      have O2 := objAt_next OO1.out b2
      have B2 := Lib.hid (below_trans B1.out b2 B1.out.size)
      clear C1 OO1 b2
      by_cases z1 : e1 ≠ 0
      · have HE : Hid (R = e1) := by show _ = _; rw [← HR1.out, orE_left z1]
        have z' : ((e1 : Int) != 0) = true := by simp; omega
        clear O2 p1_0 p1_1 p1_2 p1_3 p1_4 p1_5 p1_6 p1_7
        go_wp2
        go_ret
        exact ⟨by rw [HE.out]; rfl, B2.out⟩
      obtain rfl : e1 = 0 := by simpa using z1
      have HR2 := HR1.out
      rw [orE_right] at HR2
      have HR2 := Lib.hid HR2
      clear z1 HR1
      have C2 := checkRows_leaseC Tabs (fun w w' h hb => h.below hb) (leaseCE V8) d.leases (fun x _ w h => checkLeaseC_is x w h) M.al M.cl l2 w2 (HT.out.below B2.out) (leasesAt_next HM.out.1.2.2 B2.out)
      obtain ⟨e2, he2⟩ : ∃ e, rowsE (leaseCE V8) (·.job) none d.leases = e := ⟨_, rfl⟩
      rw [he2] at C2 HR2
      have C2 := Lib.hid C2
      have p2_0 := objAt_cell O2 0 rfl
      have p2_1 := objAt_cell O2 1 rfl
      have p2_2 := objAt_cell O2 2 rfl
      have p2_3 := objAt_cell O2 3 rfl
      have p2_4 := objAt_cell O2 4 rfl
      have p2_5 := objAt_cell O2 5 rfl
      have p2_6 := objAt_cell O2 6 rfl
      have p2_7 := objAt_cell O2 7 rfl
      have OO2 := Lib.hid O2
      clear O2 he2
      clear p1_0 p1_1 p1_2 p1_3 p1_4 p1_5 p1_6 p1_7
      go_wp2_with fail
      refine C2.out.mono ?_
      rintro e w3 ⟨rfl, b3⟩
      have O3 := objAt_next OO2.out b3
      have B3 := Lib.hid (below_trans B2.out b3 B2.out.size)
      clear C2 OO2 b3
      by_cases z2 : e2 ≠ 0
      · have HE : Hid (R = e2) := by show _ = _; rw [← HR2.out, orE_left z2]
        have z' : ((e2 : Int) != 0) = true := by simp; omega
        clear O3 p2_0 p2_1 p2_2 p2_3 p2_4 p2_5 p2_6 p2_7
        go_wp2
        go_ret
        exact ⟨by rw [HE.out]; rfl, B3.out⟩
      obtain rfl : e2 = 0 := by simpa using z2
      have HR3 := HR2.out
      rw [orE_right] at HR3
      have HR3 := Lib.hid HR3
      clear z2 HR2
      have C3 := checkGoneJob_is d.gj d.jobs M.gj M.aj M.hj M.cj l3 l1 (fun x hx => (HW.out.2.1.1 x hx).1) HW.out.2.2.1 w3 (HT.out.below B3.out) (nmsAt_next HM.out.2.1 B3.out) (jobsAt_next HM.out.1.1 B3.out)
      obtain ⟨e3, he3⟩ : ∃ e, goneE V8 (hasJob d.jobs) none d.gj = e := ⟨_, rfl⟩
      rw [he3] at C3 HR3
      have C3 := Lib.hid C3
      have p3_0 := objAt_cell O3 0 rfl
      have p3_1 := objAt_cell O3 1 rfl
      have p3_2 := objAt_cell O3 2 rfl
      have p3_3 := objAt_cell O3 3 rfl
      have p3_4 := objAt_cell O3 4 rfl
      have p3_5 := objAt_cell O3 5 rfl
      have p3_6 := objAt_cell O3 6 rfl
      have p3_7 := objAt_cell O3 7 rfl
      have OO3 := Lib.hid O3
      clear O3 he3
      clear p2_0 p2_1 p2_2 p2_3 p2_4 p2_5 p2_6 p2_7
      go_wp2_with fail
      refine C3.out.mono ?_
      rintro e w4 ⟨rfl, b4⟩
      have O4 := objAt_next OO3.out b4
      have B4 := Lib.hid (below_trans B3.out b4 B3.out.size)
      clear C3 OO3 b4
      by_cases z3 : e3 ≠ 0
      · have HE : Hid (R = e3) := by show _ = _; rw [← HR3.out, orE_left z3]
        have z' : ((e3 : Int) != 0) = true := by simp; omega
        clear O4 p3_0 p3_1 p3_2 p3_3 p3_4 p3_5 p3_6 p3_7
        go_wp2
        go_ret
        exact ⟨by rw [HE.out]; rfl, B4.out⟩
      obtain rfl : e3 = 0 := by simpa using z3
      have HR4 := HR3.out
      rw [orE_right] at HR4
      have HR4 := Lib.hid HR4
      clear z3 HR3
      have C4 := checkGoneNode_is d.gn d.nodes M.gn M.an M.hn M.cn (by omega) (by omega) (fun x hx => (HW.out.2.1.2.1 x hx).1) HW.out.2.2.2.1 w4 (HT.out.below B4.out) (nmsAt_next HM.out.2.2.1 B4.out) (nodesAt_next HM.out.1.2.1 B4.out)
      obtain ⟨e4, he4⟩ : ∃ e, goneE V8 (hasNode d.nodes) none d.gn = e := ⟨_, rfl⟩
      rw [he4] at C4 HR4
      have C4 := Lib.hid C4
      have p4_0 := objAt_cell O4 0 rfl
      have p4_1 := objAt_cell O4 1 rfl
      have p4_2 := objAt_cell O4 2 rfl
      have p4_3 := objAt_cell O4 3 rfl
      have p4_4 := objAt_cell O4 4 rfl
      have p4_5 := objAt_cell O4 5 rfl
      have p4_6 := objAt_cell O4 6 rfl
      have p4_7 := objAt_cell O4 7 rfl
      have OO4 := Lib.hid O4
      clear O4 he4
      clear p3_0 p3_1 p3_2 p3_3 p3_4 p3_5 p3_6 p3_7
      go_wp2_with fail
      refine C4.out.mono ?_
      rintro e w5 ⟨rfl, b5⟩
      have O5 := objAt_next OO4.out b5
      have B5 := Lib.hid (below_trans B4.out b5 B4.out.size)
      clear C4 OO4 b5
      by_cases z4 : e4 ≠ 0
      · have HE : Hid (R = e4) := by show _ = _; rw [← HR4.out, orE_left z4]
        have z' : ((e4 : Int) != 0) = true := by simp; omega
        clear O5 p4_0 p4_1 p4_2 p4_3 p4_4 p4_5 p4_6 p4_7
        go_wp2
        go_ret
        exact ⟨by rw [HE.out]; rfl, B5.out⟩
      obtain rfl : e4 = 0 := by simpa using z4
      have HR5 := HR4.out
      rw [orE_right] at HR5
      have HR5 := Lib.hid HR5
      clear z4 HR4
      have C5 := checkGoneLease_is d.gl d.leases M.gl M.al M.hl M.cl l4 l2 (fun x hx => (HW.out.2.1.2.2 x hx).1) HW.out.2.2.2.2 w5 (HT.out.below B5.out) (nmsAt_next HM.out.2.2.2 B5.out) (leasesAt_next HM.out.1.2.2 B5.out)
      obtain ⟨e5, he5⟩ : ∃ e, goneE V8 (hasLease d.leases) none d.gl = e := ⟨_, rfl⟩
      rw [he5] at C5 HR5
      have C5 := Lib.hid C5
      have p5_0 := objAt_cell O5 0 rfl
      have p5_1 := objAt_cell O5 1 rfl
      have p5_2 := objAt_cell O5 2 rfl
      have p5_3 := objAt_cell O5 3 rfl
      have p5_4 := objAt_cell O5 4 rfl
      have p5_5 := objAt_cell O5 5 rfl
      have p5_6 := objAt_cell O5 6 rfl
      have p5_7 := objAt_cell O5 7 rfl
      have OO5 := Lib.hid O5
      clear O5 he5
      clear p4_0 p4_1 p4_2 p4_3 p4_4 p4_5 p4_6 p4_7
      go_wp2_with fail
      refine C5.out.mono ?_
      rintro e w6 ⟨rfl, b6⟩
      have O6 := objAt_next OO5.out b6
      have B6 := Lib.hid (below_trans B5.out b6 B5.out.size)
      clear C5 OO5 b6
      clear O6
      go_wp2
      go_ret
      exact ⟨by rw [← HR5.out]; rfl, B6.out⟩
end Go.Proofs.YtfbakobmlbjncaaGreatDoor
