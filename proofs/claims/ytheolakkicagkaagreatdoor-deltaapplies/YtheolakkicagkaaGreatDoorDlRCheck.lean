/- The reference's DeltaCheck at every delta. -/
import Derived.Test.YtheolakkicagkaaGreatDoorDlRGone
namespace Go.Proofs.YtheolakkicagkaaGreatDoor
open Go.RowKit

theorem head_in {d : DelD} (h : inR d.frm 0 1099511627776 = false ∨ inR d.til 0 1099511627776 = false ∨ d.til ≤ d.frm) : headDE d = 1 := by
  refine head_arg ?_
  have e1 := inR_iff d.frm 0 1099511627776
  have e2 := inR_iff d.til 0 1099511627776
  rcases h with h | h | h
  · rw [h] at e1
    simp only [Bool.false_eq_true, false_iff] at e1
    omega
  · rw [h] at e2
    simp only [Bool.false_eq_true, false_iff] at e2
    omega
  · omega
theorem large_of {d : DelD} (h : 40 < d.jobs.length ∨ 40 < d.leases.length ∨ 40 < d.gj.length ∨ 40 < d.gl.length ∨ 20 < d.nodes.length ∨ 20 < d.gn.length) : largeD d = true := by
  unfold largeD
  rw [Bool.not_eq_true', decide_eq_false_iff_not]
  omega
theorem large_not {d : DelD} (h : ¬ (40 < d.jobs.length ∨ 40 < d.leases.length ∨ 40 < d.gj.length ∨ 40 < d.gl.length ∨ 20 < d.nodes.length ∨ 20 < d.gn.length)) : largeD d = false := by
  unfold largeD
  rw [Bool.not_eq_false', decide_eq_true_eq]
  omega
set_option maxRecDepth 100000 in
set_option maxHeartbeats 8000000 in
theorem rdcheck_any (M : DlM) (d : DelD) (w : World) (hm : DeltaAt w M d) : Calls Tryz.prog 17 #[.agg (dlC M d)] w fun e w' => e = .returned (.int .i64 (dcheckE V8 d : Nat)) ∧ Below w.heap.size w w' := by
  have bW := below_one w (.cells (dlC M d) 29)
  have oB := objAt_new w (dlC M d) 29
  have H1 := Lib.hid (outside_is d.frm 0 1099511627776)
  have H2 := Lib.hid (outside_is d.til 0 1099511627776)
  have HM := Lib.hid hm
  have BW := Lib.hid bW
  have OB := Lib.hid oB
  obtain ⟨R, hR⟩ : ∃ R, dcheckE V8 d = R := ⟨_, rfl⟩
  rw [hR]
  have HR := Lib.hid hR
  have c0 := objAt_cell oB 0 rfl
  have c1 := objAt_cell oB 1 rfl
  have c2 := objAt_cell oB 2 rfl
  have c3 := objAt_cell oB 3 rfl
  have c4 := objAt_cell oB 4 rfl
  have c5 := objAt_cell oB 5 rfl
  have c6 := objAt_cell oB 6 rfl
  have c7 := objAt_cell oB 7 rfl
  obtain ⟨q1, hq1⟩ : ∃ q, inR d.frm 0 1099511627776 = q := ⟨_, rfl⟩
  obtain ⟨q2, hq2⟩ : ∃ q, inR d.til 0 1099511627776 = q := ⟨_, rfl⟩
  rw [hq1] at H1
  rw [hq2] at H2
  have Q1 := Lib.hid hq1
  have Q2 := Lib.hid hq2
  clear hR hm bW oB hq1 hq2
  unfold dlC at *
  go_enter Tryz.func17, Tryz.ntmps17
  go_wp2_with fail
  refine (H1.out _).mono ?_
  rintro e w1 ⟨rfl, rfl⟩
  cases q1 with
  | false =>
    have HE : Hid (R = 1) := by show _ = _; rw [← HR.out, dcheckE, head_in (.inl Q1.out)]; rfl
    go_wp2
    go_ret
    exact ⟨by rw [HE.out]; rfl, BW.out⟩
  | true =>
    go_wp2_with fail
    refine (H2.out _).mono ?_
    rintro e w1 ⟨rfl, rfl⟩
    cases q2 with
    | false =>
      have HE : Hid (R = 1) := by show _ = _; rw [← HR.out, dcheckE, head_in (.inr (.inl Q2.out))]; rfl
      go_wp2
      go_ret
      exact ⟨by rw [HE.out]; rfl, BW.out⟩
    | true =>
      by_cases h2 : d.til ≤ d.frm
      · have HE : Hid (R = 1) := by show _ = _; rw [← HR.out, dcheckE, head_in (.inr (.inr h2))]; rfl
        go_wp2
        go_ret
        exact ⟨by rw [HE.out]; rfl, BW.out⟩
      have HA : Hid (¬ (d.frm < 0 ∨ d.til ≤ d.frm ∨ 1099511627776 < d.til)) := by
        have e1 := (inR_iff d.frm 0 1099511627776).1 Q1.out
        have e2 := (inR_iff d.til 0 1099511627776).1 Q2.out
        show ¬ _
        omega
      have h2' : d.frm < d.til := by omega
      clear h2
      by_cases t0 : (40 : Int) < (d.jobs.length : Int)
      · have HE : Hid (R = 2) := by show _ = _; rw [← HR.out, dcheckE, head_large HA.out (large_of (by omega))]; rfl
        go_wp2
        go_ret
        exact ⟨by rw [HE.out]; rfl, BW.out⟩
      have t0' : (d.jobs.length : Int) ≤ 40 := by omega
      clear t0
      by_cases t1 : (40 : Int) < (d.leases.length : Int)
      · have HE : Hid (R = 2) := by show _ = _; rw [← HR.out, dcheckE, head_large HA.out (large_of (by omega))]; rfl
        go_wp2
        go_ret
        exact ⟨by rw [HE.out]; rfl, BW.out⟩
      have t1' : (d.leases.length : Int) ≤ 40 := by omega
      clear t1
      by_cases t2 : (40 : Int) < (d.gj.length : Int)
      · have HE : Hid (R = 2) := by show _ = _; rw [← HR.out, dcheckE, head_large HA.out (large_of (by omega))]; rfl
        go_wp2
        go_ret
        exact ⟨by rw [HE.out]; rfl, BW.out⟩
      have t2' : (d.gj.length : Int) ≤ 40 := by omega
      clear t2
      by_cases t3 : (40 : Int) < (d.gl.length : Int)
      · have HE : Hid (R = 2) := by show _ = _; rw [← HR.out, dcheckE, head_large HA.out (large_of (by omega))]; rfl
        go_wp2
        go_ret
        exact ⟨by rw [HE.out]; rfl, BW.out⟩
      have t3' : (d.gl.length : Int) ≤ 40 := by omega
      clear t3
      by_cases t4 : (20 : Int) < (d.nodes.length : Int)
      · have HE : Hid (R = 2) := by show _ = _; rw [← HR.out, dcheckE, head_large HA.out (large_of (by omega))]; rfl
        go_wp2
        go_ret
        exact ⟨by rw [HE.out]; rfl, BW.out⟩
      have t4' : (d.nodes.length : Int) ≤ 20 := by omega
      clear t4
      by_cases t5 : (20 : Int) < (d.gn.length : Int)
      · have HE : Hid (R = 2) := by show _ = _; rw [← HR.out, dcheckE, head_large HA.out (large_of (by omega))]; rfl
        go_wp2
        go_ret
        exact ⟨by rw [HE.out]; rfl, BW.out⟩
      have t5' : (d.gn.length : Int) ≤ 20 := by omega
      clear t5
      obtain ⟨hz, ⟨l1, l2, l3, l4⟩, l5, l6⟩ := head_ok HA.out (large_not (by omega))
      have HR1 : Hid (orE (rowsE (jobE V8) (·.name) none d.jobs) (orE (rowsE (nodeE V8) (·.name) none d.nodes) (orE (rowsE (leaseCE V8) (·.job) none d.leases) (orE (goneE V8 (hasJob d.jobs) none d.gj) (orE (goneE V8 (hasNode d.nodes) none d.gn) (goneE V8 (hasLease d.leases) none d.gl))))) = R) := by show _ = _; rw [← HR.out, dcheckE, hz, orE_right]
      clear hz HR
      obtain ⟨W0, hW0⟩ : ∃ W0, w.alloc (.cells #[.int .i64 d.frm, .int .i64 d.til, .slice M.aj d.jobs.length M.cj, .slice M.an d.nodes.length M.cn, .slice M.al d.leases.length M.cl, .slice M.gj d.gj.length M.hj, .slice M.gn d.gn.length M.hn, .slice M.gl d.gl.length M.hl] 29) = W0 := ⟨_, rfl⟩
      rw [hW0] at BW OB c0 c1 c2 c3 c4 c5 c6 c7 ⊢
      have O1 := OB.out
      have B1 := BW
      have cl := objAt_lt O1
      have C1 := jobsCheck_is d.jobs M.aj M.cj l1 W0 (jobsAt_next HM.out.1.1 B1.out)
      obtain ⟨e1, he1⟩ : ∃ e, rowsE (jobE V8) (·.name) none d.jobs = e := ⟨_, rfl⟩
      rw [he1] at C1 HR1
      have C1 := Lib.hid C1
      have OO1 := Lib.hid O1
      clear O1 he1
      go_wp2_with fail
      refine C1.out.mono ?_
      rintro e w2 ⟨rfl, b2⟩
      have O2 := objAt_next OO1.out b2
      have B2 := Lib.hid (below_trans B1.out b2 B1.out.size)
      clear C1 OO1 b2
      by_cases z1 : e1 ≠ 0
      · have HE : Hid (R = e1) := by show _ = _; rw [← HR1.out, orE_left z1]
        have z' : ((e1 : Int) != 0) = true := by simp; omega
        clear O2
        go_wp2
        go_ret
        exact ⟨by rw [HE.out]; rfl, B2.out⟩
      obtain rfl : e1 = 0 := by simpa using z1
      have HR2 := HR1.out
      rw [orE_right] at HR2
      have HR2 := Lib.hid HR2
      clear z1 HR1
      have C2 := nodesCheck_is d.nodes M.an M.cn (by omega) w2 (nodesAt_next HM.out.1.2.1 B2.out)
      obtain ⟨e2, he2⟩ : ∃ e, rowsE (nodeE V8) (·.name) none d.nodes = e := ⟨_, rfl⟩
      rw [he2] at C2 HR2
      have C2 := Lib.hid C2
      have p2_0 := objAt_cell O2 0 rfl
      have p2_1 := objAt_cell O2 1 rfl
      have p2_2 := objAt_cell O2 2 rfl
      have p2_3 := objAt_cell O2 3 rfl
      have p2_4 := objAt_cell O2 4 rfl
      have p2_5 := objAt_cell O2 5 rfl
      have p2_6 := objAt_cell O2 6 rfl
      have p2_7 := objAt_cell O2 7 rfl
      clear c0 c1 c2 c3 c4 c5 c6 c7
      have OO2 := Lib.hid O2
      clear O2 he2
      go_wp2_with fail
      refine C2.out.mono ?_
      rintro e w3 ⟨rfl, b3⟩
      have O3 := objAt_next OO2.out b3
      have B3 := Lib.hid (below_trans B2.out b3 B2.out.size)
      clear C2 OO2 b3
      by_cases z2 : e2 ≠ 0
      · have HE : Hid (R = e2) := by show _ = _; rw [← HR2.out, orE_left z2]
        have z' : ((e2 : Int) != 0) = true := by simp; omega
        clear O3
        go_wp2
        go_ret
        exact ⟨by rw [HE.out]; rfl, B3.out⟩
      obtain rfl : e2 = 0 := by simpa using z2
      have HR3 := HR2.out
      rw [orE_right] at HR3
      have HR3 := Lib.hid HR3
      clear z2 HR2
      have OL := Lib.hid O3
      have BL := B3
      obtain ⟨S, hS⟩ : ∃ S, rowsE (leaseCE V8) (·.job) none d.leases = S := ⟨_, rfl⟩
      rw [hS] at HR3
      have HS0 : Hid (rowsE (leaseCE V8) (·.job) (prevK (·.job) d.leases 0) (d.leases.drop 0) = S) := hS
      have g4 := objAt_cell O3 4 rfl
      have gl := objAt_lt O3
      clear O3 hS p2_0 p2_1 p2_2 p2_3 p2_4 p2_5 p2_6 p2_7
      go_wp2
      clear g4 gl
      go_loopw [74] (fun iv wr => ∃ (i : Nat), iv = .int .i64 (i : Int) ∧ i ≤ d.leases.length ∧ Below w3.heap.size w3 wr ∧ Hid (rowsE (leaseCE V8) (·.job) (prevK (·.job) d.leases i) (d.leases.drop i) = S)) (fun iv _ => d.leases.length - (intOf iv).toNat)
      case atStart => exact ⟨0, rfl, Nat.zero_le _, Below.refl _ _, HS0⟩
      case round =>
        clear HS0
        obtain ⟨i, rfl, hi, hbr, HS⟩ := hrel
        have hbw := below_trans BL.out hbr BL.out.size
        by_cases h : (i : Int) < (d.leases.length : Int)
        · have hil : i < d.leases.length := by omega
          obtain ⟨a, ha, hal, k0, k1, k2⟩ := leasesAt_next HM.out.1.2.2 hbw i hil
          obtain ⟨x, hxi⟩ : ∃ x, d.leases[i] = x := ⟨_, rfl⟩
          rw [hxi] at k0 k1 k2
          have HCx := Lib.hid (rleaseCheck_is x (wr.alloc (.cells #[.string x.job, .string x.node, .int .i64 x.til] 50)))
          obtain ⟨e0, he0⟩ : ∃ e0, leaseCE V8 x = e0 := ⟨_, rfl⟩
          rw [he0] at HCx
          have Hxi := Lib.hid hxi
          have Ha := Lib.hid ha
          clear hxi
          rw [ha]
          go_wp2_with fail
          refine HCx.out.mono ?_
          rintro e w4 ⟨rfl, b4⟩
          have bx := box_next (box_new3 wr (.string x.job) (.string x.node) (.int .i64 x.til) 50) b4
          have hb4 : Below w3.heap.size w3 w4 := below_trans (hbr.alloc hbr.size _) b4 (by have := hbr.size; simp; omega)
          have hb5 := Lib.hid (below_trans BL.out hb4 BL.out.size)
          by_cases h0 : e0 ≠ 0
          · have HS1 : S = e0 := rows_stop hil HS.out (by rw [Hxi.out]; exact he0) h0
            have HE : Hid (R = e0) := by show _ = _; rw [← HR3.out, HS1, orE_left h0]
            have hc : ((e0 : Int) != 0) = true := by simp; omega
            clear HS1
            go_wp2
            go_ret
            exact ⟨by rw [HE.out]; rfl, hb5.out⟩
          · have h0 : e0 = 0 := by simpa using h0
            subst h0
            have y0 := bx.1 0 _ rfl
            have O4 := objAt_next OL.out hb4
            have g4 := objAt_cell O4 4 rfl
            have gl := objAt_lt O4
            rw [Ha.out] at g4
            have HE0 : Hid (leaseCE V8 x = 0) := he0
            clear he0 HCx k0 k1 k2 hal O4
            cases i with
            | zero =>
              have HS1 : Hid (rowsE (leaseCE V8) (·.job) (prevK (·.job) d.leases 1) (d.leases.drop 1) = S) := rows_first hil HS.out (by rw [Hxi.out]; exact HE0.out)
              go_wp2_with fail
              go_quiet (fail)
              go_wp2
              go_roundw
              case rel => exact ⟨1, by simp, by omega, below_drewN hb4, HS1⟩
              case measure => simp [intOf]; omega
            | succ m =>
              obtain ⟨a', ha', hal, p0, p1, p2⟩ := leasesAt_next HM.out.1.2.2 hb5.out m (by omega)
              obtain rfl : a = a' := by rw [ha] at ha'; simpa using ha'
              obtain ⟨y, hy⟩ : ∃ y, d.leases[m] = y := ⟨_, rfl⟩
              rw [hy] at p0
              have hwr : IntKind.i64.wrap (m : Int) = (m : Int) := IntWalk.i64_in _ (by omega)
              have hm0 : (0 : Int) ≤ (m : Int) := by omega
              have hm1 : (m : Int) < (d.leases.length : Int) := by omega
              have HY : Hid (d.leases[m] = y) := hy
              clear hy bx b4 hal
              have hl := less_toList y.job x.job
              go_wp2_with fail
              by_cases hlt : lt y.job x.job
              · have HS1 : Hid (rowsE (leaseCE V8) (·.job) (prevK (·.job) d.leases (m + 1 + 1)) (d.leases.drop (m + 1 + 1)) = S) := rows_on hil HS.out (by rw [Hxi.out]; exact HE0.out) (by rw [HY.out, Hxi.out]; exact hlt)
                rw [decide_eq_true hlt] at hl
                clear hlt
                go_quiet (fail)
                go_wp2
                go_roundw
                case rel => exact ⟨m + 1 + 1, by simp, by omega, below_drewN hb4, HS1⟩
                case measure => simp [intOf]; omega
              · have HS1 : S = 8 := rows_bad hil HS.out (by rw [Hxi.out]; exact HE0.out) (by rw [HY.out, Hxi.out]; exact hlt)
                have HE : Hid (R = 8) := by show _ = _; rw [← HR3.out, HS1, orE_left (by omega)]
                rw [decide_eq_false hlt] at hl
                clear hlt HS1
                go_quiet (fail)
                go_wp2
                go_ret
                exact ⟨by rw [HE.out]; rfl, below_drewN hb5.out⟩
        have hS0 : S = 0 := by
          have hi' : i = d.leases.length := by omega
          have := HS.out
          rw [hi', rowsE_end] at this
          exact this.symm
        have HR4 := HR3.out
        rw [hS0, orE_right] at HR4
        have HR4 := Lib.hid HR4
        have O4 := objAt_next OL.out hbr
        have B4 := Lib.hid hbw
        have h' : (d.leases.length : Int) ≤ (i : Int) := by omega
        clear hS0 HS HR3 hbw
        have C4 := rgoneJob_is w.heap.size (fun w' => ObjAt w.heap.size (dlC M d) 29 w' ∧ JobsAt w' M.aj d.jobs) (fun _ _ h hb => ⟨objAt_next h.1 hb, jobsAt_next h.2 hb⟩) (hasJob d.jobs) (fun s w' h => rhasJob_is w.heap.size M d (by omega) s w' h.1 h.2) d.gj M.gj M.hj (by omega) wr ⟨O4, jobsAt_next HM.out.1.1 B4.out⟩ (nmsAt_next HM.out.2.1 B4.out)
        obtain ⟨e4, he4⟩ : ∃ e, goneE V8 (hasJob d.jobs) none d.gj = e := ⟨_, rfl⟩
        rw [he4] at C4 HR4
        have C4 := Lib.hid C4
        have p4_0 := objAt_cell O4 0 rfl
        have p4_1 := objAt_cell O4 1 rfl
        have p4_2 := objAt_cell O4 2 rfl
        have p4_3 := objAt_cell O4 3 rfl
        have p4_4 := objAt_cell O4 4 rfl
        have p4_5 := objAt_cell O4 5 rfl
        have p4_6 := objAt_cell O4 6 rfl
        have p4_7 := objAt_cell O4 7 rfl
        have pl4 := objAt_lt O4
        have OO4 := Lib.hid O4
        clear O4 he4
        go_wp2_with fail
        refine C4.out.mono ?_
        rintro e w5 ⟨rfl, b5⟩
        have O5 := objAt_next OO4.out b5
        have B5 := Lib.hid (below_trans B4.out b5 B4.out.size)
        clear C4 OO4 b5
        by_cases z4 : e4 ≠ 0
        · have HE : Hid (R = e4) := by show _ = _; rw [← HR4.out, orE_left z4]
          have z' : ((e4 : Int) != 0) = true := by simp; omega
          clear O5
          go_wp2
          go_ret
          exact ⟨by rw [HE.out]; rfl, B5.out⟩
        obtain rfl : e4 = 0 := by simpa using z4
        have HR5 := HR4.out
        rw [orE_right] at HR5
        have HR5 := Lib.hid HR5
        clear z4 HR4
        have C5 := rgoneNode_is w.heap.size (fun w' => ObjAt w.heap.size (dlC M d) 29 w' ∧ NodesAt w' M.an d.nodes) (fun _ _ h hb => ⟨objAt_next h.1 hb, nodesAt_next h.2 hb⟩) (hasNode d.nodes) (fun s w' h => rhasNode_is w.heap.size M d (by omega) s w' h.1 h.2) d.gn M.gn M.hn (by omega) w5 ⟨O5, nodesAt_next HM.out.1.2.1 B5.out⟩ (nmsAt_next HM.out.2.2.1 B5.out)
        obtain ⟨e5, he5⟩ : ∃ e, goneE V8 (hasNode d.nodes) none d.gn = e := ⟨_, rfl⟩
        rw [he5] at C5 HR5
        have C5 := Lib.hid C5
        have p5_0 := objAt_cell O5 0 rfl
        have p5_1 := objAt_cell O5 1 rfl
        have p5_2 := objAt_cell O5 2 rfl
        have p5_3 := objAt_cell O5 3 rfl
        have p5_4 := objAt_cell O5 4 rfl
        have p5_5 := objAt_cell O5 5 rfl
        have p5_6 := objAt_cell O5 6 rfl
        have p5_7 := objAt_cell O5 7 rfl
        clear p4_0 p4_1 p4_2 p4_3 p4_4 p4_5 p4_6 p4_7 pl4
        have pl5 := objAt_lt O5
        have OO5 := Lib.hid O5
        clear O5 he5
        go_wp2_with fail
        refine C5.out.mono ?_
        rintro e w6 ⟨rfl, b6⟩
        have O6 := objAt_next OO5.out b6
        have B6 := Lib.hid (below_trans B5.out b6 B5.out.size)
        clear C5 OO5 b6
        by_cases z5 : e5 ≠ 0
        · have HE : Hid (R = e5) := by show _ = _; rw [← HR5.out, orE_left z5]
          have z' : ((e5 : Int) != 0) = true := by simp; omega
          clear O6
          go_wp2
          go_ret
          exact ⟨by rw [HE.out]; rfl, B6.out⟩
        obtain rfl : e5 = 0 := by simpa using z5
        have HR6 := HR5.out
        rw [orE_right] at HR6
        have HR6 := Lib.hid HR6
        clear z5 HR5
        have C6 := rgoneLease_is w.heap.size (fun w' => ObjAt w.heap.size (dlC M d) 29 w' ∧ LeasesAt w' M.al d.leases) (fun _ _ h hb => ⟨objAt_next h.1 hb, leasesAt_next h.2 hb⟩) (hasLease d.leases) (fun s w' h => rhasLease_is w.heap.size M d (by omega) s w' h.1 h.2) d.gl M.gl M.hl (by omega) w6 ⟨O6, leasesAt_next HM.out.1.2.2 B6.out⟩ (nmsAt_next HM.out.2.2.2 B6.out)
        obtain ⟨e6, he6⟩ : ∃ e, goneE V8 (hasLease d.leases) none d.gl = e := ⟨_, rfl⟩
        rw [he6] at C6 HR6
        have C6 := Lib.hid C6
        have p6_0 := objAt_cell O6 0 rfl
        have p6_1 := objAt_cell O6 1 rfl
        have p6_2 := objAt_cell O6 2 rfl
        have p6_3 := objAt_cell O6 3 rfl
        have p6_4 := objAt_cell O6 4 rfl
        have p6_5 := objAt_cell O6 5 rfl
        have p6_6 := objAt_cell O6 6 rfl
        have p6_7 := objAt_cell O6 7 rfl
        clear p5_0 p5_1 p5_2 p5_3 p5_4 p5_5 p5_6 p5_7 pl5
        have pl6 := objAt_lt O6
        have OO6 := Lib.hid O6
        clear O6 he6
        go_wp2_with fail
        refine C6.out.mono ?_
        rintro e w7 ⟨rfl, b7⟩
        have O7 := objAt_next OO6.out b7
        have B7 := Lib.hid (below_trans B6.out b7 B6.out.size)
        clear C6 OO6 b7
        clear O7
        go_wp2
        go_ret
        exact ⟨by rw [← HR6.out]; rfl, B7.out⟩
end Go.Proofs.YtheolakkicagkaaGreatDoor
