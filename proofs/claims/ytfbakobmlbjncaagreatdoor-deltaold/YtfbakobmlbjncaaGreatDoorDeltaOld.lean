/- For every two states and every number the law DeltaOld of the package brackenkeep returns true, as a tied card: to another revision it is not applied; and not twice. Condition: the library's two tables unicode/utf8.first and acceptRanges start as their text lays them (the card ties them; first is pinned). -/
import Derived.Test.YtfbakobmlbjncaaGreatDoorDlUse2
namespace Go.Proofs.YtfbakobmlbjncaaGreatDoor.deltaOld
open Go.ChangeShapes Go.WideShapes Go.ChangeAt Go.RowKit
set_option linter.unusedVariables false

set_option maxRecDepth 100000 in
set_option maxHeartbeats 4000000 in
theorem walk (Ms : StM) (s : StD) (Mt : StM) (t : StD) (v0 : Int) (hws : wState s) (hwt : wState t) (hv0 : (Lit.int .i64 v0).wf = true) (hzs : SzState s) (hzt : SzState t) (w : World) (hms : StateAt w Ms s) (hmt : StateAt w Mt t) (hT : Tabs w) :
    Calls Tryz.prog 8 #[stV Ms s, stV Mt t, .int .i64 v0] w fun e w' => e = .returned (.bool true) ∧ Below w.heap.size w w' := by
  obtain ⟨ajs, cjs, ans, cns, als, cls⟩ := Ms
  have hms : JobsAt w ajs s.jobs ∧ NodesAt w ans s.nodes ∧ LeasesAt w als s.leases := hms
  obtain ⟨ajt, cjt, ant, cnt, alt, clt⟩ := Mt
  have hmt : JobsAt w ajt t.jobs ∧ NodesAt w ant t.nodes ∧ LeasesAt w alt t.leases := hmt
  show Calls _ _ #[.agg #[.int .i64 s.rev, .slice ajs s.jobs.length cjs, .slice ans s.nodes.length cns, .slice als s.leases.length cls], .agg #[.int .i64 t.rev, .slice ajt t.jobs.length cjt, .slice ant t.nodes.length cnt, .slice alt t.leases.length clt], .int .i64 v0] _ _
  have B0 : Below w.heap.size w w := Below.refl _ _
  have bA := below_one w (.cells #[.int .i64 s.rev, .slice ajs s.jobs.length cjs, .slice ans s.nodes.length cns, .slice als s.leases.length cls] 26)
  have iN := bxS_new (cj := cjs) (cn := cns) (cl := cls) (w := w) (And.intro (jobsAt_next hms.1 B0) (And.intro (nodesAt_next hms.2.1 B0) (leasesAt_next hms.2.2 B0)))
  have Is0 := iN
  have B0 := below_trans B0 bA B0.size
  clear bA iN
  have bA := below_one (w.alloc (.cells #[.int .i64 s.rev, .slice ajs s.jobs.length cjs, .slice ans s.nodes.length cns, .slice als s.leases.length cls] 26)) (.cells #[.int .i64 t.rev, .slice ajt t.jobs.length cjt, .slice ant t.nodes.length cnt, .slice alt t.leases.length clt] 26)
  have iN := bxS_new (cj := cjt) (cn := cnt) (cl := clt) (w := (w.alloc (.cells #[.int .i64 s.rev, .slice ajs s.jobs.length cjs, .slice ans s.nodes.length cns, .slice als s.leases.length cls] 26))) (And.intro (jobsAt_next hmt.1 B0) (And.intro (nodesAt_next hmt.2.1 B0) (leasesAt_next hmt.2.2 B0)))
  have Is0 := bxS_next Is0 bA
  have It0 := iN
  have B0 := below_trans B0 bA B0.size
  clear bA iN
  obtain ⟨W0, hW0⟩ : ∃ W0, ((w.alloc (.cells #[.int .i64 s.rev, .slice ajs s.jobs.length cjs, .slice ans s.nodes.length cns, .slice als s.leases.length cls] 26)).alloc (.cells #[.int .i64 t.rev, .slice ajt t.jobs.length cjt, .slice ant t.nodes.length cnt, .slice alt t.leases.length clt] 26)) = W0 := ⟨_, rfl⟩
  rw [hW0] at B0 Is0 It0
  have HT := Lib.hid hT
  have HWs := Lib.hid hws
  have HWt := Lib.hid hwt
  have HMs := Lib.hid hms
  have HMt := Lib.hid hmt
  try simp only [World.size_alloc] at Is0 It0
  have B0 := Lib.hid B0
  have Is0 := Lib.hid Is0
  have It0 := Lib.hid It0
  clear hT hms hws hzs hmt hwt hzt
  rcases diff_cases s t with ⟨c, hc, e1⟩ | ⟨e1, h1, h2, h3⟩
  · have hc' : ((c : Int) != 0) = true := by simp; omega
    obtain ⟨Z, hZ⟩ : ∃ Z, zeroDel = Z := ⟨_, rfl⟩
    rw [hZ] at e1
    have E1 := Lib.hid e1
    clear hc hZ e1
    have C := Lib.hid (differed_is W0 (HT.out.below B0.out))
    go_enter Tryz.func8, Tryz.ntmps8
    go_wp2_with fail
    refine C.out.mono ?_
    rintro e W1 ⟨rfl, b⟩
    have Is1 := Lib.hid (bxS_next Is0.out b)
    have It1 := Lib.hid (bxS_next It0.out b)
    have B1 := Lib.hid (below_trans B0.out b B0.out.size)
    clear b C
    have C := Lib.hid (ddiff_at (cj := cjs) (cn := cns) (cl := cls) (dj := cjt) (dn := cnt) (dl := clt) HWs.out HWt.out E1.out (HT.out.below B1.out) Is1.out.2 It1.out.2)
    obtain ⟨zs0, zs1, zs2, zs3⟩ := bxS_cells Is1.out
    obtain ⟨zt0, zt1, zt2, zt3⟩ := bxS_cells It1.out
    go_wp2_with fail
    refine C.out.mono ?_
    rintro e w2 ⟨Md, rfl, ow, b⟩
    clear zs0 zs1 zs2 zs3 zt0 zt1 zt2 zt3
    obtain ⟨Ld, hLd⟩ : ∃ L, w2.heap.size = L := ⟨_, rfl⟩
    obtain ⟨W2, hW2⟩ : ∃ W, w2.alloc (.cells #[.int .i64 Z.frm, .int .i64 Z.til, .slice Md.aj Z.jobs.length Md.cj, .slice Md.an Z.nodes.length Md.cn, .slice Md.al Z.leases.length Md.cl, .slice Md.gj Z.gj.length Md.hj, .slice Md.gn Z.gn.length Md.hn, .slice Md.gl Z.gl.length Md.hl] 29) = W := ⟨_, rfl⟩
    have bA := below_one w2 (.cells #[.int .i64 Z.frm, .int .i64 Z.til, .slice Md.aj Z.jobs.length Md.cj, .slice Md.an Z.nodes.length Md.cn, .slice Md.al Z.leases.length Md.cl, .slice Md.gj Z.gj.length Md.hj, .slice Md.gn Z.gn.length Md.hn, .slice Md.gl Z.gl.length Md.hl] 29)
    have iN := bxD_new (ownD_at ow)
    rw [hW2] at bA iN
    rw [hLd] at iN
    have Is2 := Lib.hid (bxS_next (bxS_next Is1.out b) bA)
    have It2 := Lib.hid (bxS_next (bxS_next It1.out b) bA)
    have Id2 := Lib.hid iN
    have B2 := Lib.hid (below_trans (below_trans B1.out b B1.out.size) bA (Nat.le_trans B1.out.size b.size))
    clear bA iN ow b C
    go_wp2
    go_ret
    exact ⟨rfl, B2.out⟩
  obtain ⟨k, hk⟩ : ∃ k, v0 % 1099511627776 = k := ⟨_, rfl⟩
  have hk0 : 0 ≤ k ∧ k ≤ 1099511627776 := by omega
  have HR := Lib.hid (fun W' => rest_is v0 1099511627776 (by omega) (by omega) W')
  rw [hk] at HR
  have HWk : Hid (wState ⟨k, s.jobs, s.nodes, s.leases⟩) := wState_chk (check_rev8 h1 hk0)
  have HWD := Lib.hid (wDelta_diff HWs.out HWt.out)
  have E2 : Hid (applyR V8 t (diffS s t) = (zeroSt, 10)) := apply_old h2 (dcheck_diff h1 h2 h3) (show s.rev ≠ t.rev by omega)
  have E3 := Lib.hid (fun (h : k ≠ s.rev) => apply_old (s := ⟨k, s.jobs, s.nodes, s.leases⟩) (d := diffS s t) (check_rev8 h1 hk0) (dcheck_diff h1 h2 h3) (fun e => h e.symm))
  have E4 : Hid (k = s.rev → applyR V8 ⟨k, s.jobs, s.nodes, s.leases⟩ (diffS s t) = (t, 0)) := fun h => by rw [h]; exact apply_back h1 h2 h3
  have HF : Hid ((diffS s t).frm = s.rev) := rfl
  obtain ⟨D, hD⟩ : ∃ D, diffS s t = D := ⟨_, rfl⟩
  rw [hD] at e1 E2 E3 E4 HWD HF
  have HZL : Hid (zeroSt.jobs.length ≤ 140737488355328 ∧ zeroSt.nodes.length ≤ 140737488355328 ∧ zeroSt.leases.length ≤ 140737488355328) := ⟨by decide, by decide, by decide⟩
  obtain ⟨Z, hZ⟩ : ∃ Z, zeroSt = Z := ⟨_, rfl⟩
  rw [hZ] at E2 E3 HZL
  have HZ := Lib.hid hZ
  have E1 := Lib.hid e1
  clear hD hZ e1 h1 h2 h3 hv0 hk hk0
  have C := Lib.hid (differed_is W0 (HT.out.below B0.out))
  go_enter Tryz.func8, Tryz.ntmps8
  go_wp2_with fail
  refine C.out.mono ?_
  rintro e W1 ⟨rfl, b⟩
  have Is1 := Lib.hid (bxS_next Is0.out b)
  have It1 := Lib.hid (bxS_next It0.out b)
  have B1 := Lib.hid (below_trans B0.out b B0.out.size)
  clear b C
  have C := Lib.hid (ddiff_at (cj := cjs) (cn := cns) (cl := cls) (dj := cjt) (dn := cnt) (dl := clt) HWs.out HWt.out E1.out (HT.out.below B1.out) Is1.out.2 It1.out.2)
  obtain ⟨zs0, zs1, zs2, zs3⟩ := bxS_cells Is1.out
  obtain ⟨zt0, zt1, zt2, zt3⟩ := bxS_cells It1.out
  go_wp2_with fail
  refine C.out.mono ?_
  rintro e w2 ⟨Md, rfl, ow, b⟩
  clear zs0 zs1 zs2 zs3 zt0 zt1 zt2 zt3
  obtain ⟨Ld, hLd⟩ : ∃ L, w2.heap.size = L := ⟨_, rfl⟩
  obtain ⟨W2, hW2⟩ : ∃ W, w2.alloc (.cells #[.int .i64 D.frm, .int .i64 D.til, .slice Md.aj D.jobs.length Md.cj, .slice Md.an D.nodes.length Md.cn, .slice Md.al D.leases.length Md.cl, .slice Md.gj D.gj.length Md.hj, .slice Md.gn D.gn.length Md.hn, .slice Md.gl D.gl.length Md.hl] 29) = W := ⟨_, rfl⟩
  have bA := below_one w2 (.cells #[.int .i64 D.frm, .int .i64 D.til, .slice Md.aj D.jobs.length Md.cj, .slice Md.an D.nodes.length Md.cn, .slice Md.al D.leases.length Md.cl, .slice Md.gj D.gj.length Md.hj, .slice Md.gn D.gn.length Md.hn, .slice Md.gl D.gl.length Md.hl] 29)
  have iN := bxD_new (ownD_at ow)
  rw [hW2] at bA iN
  rw [hLd] at iN
  have Is2 := Lib.hid (bxS_next (bxS_next Is1.out b) bA)
  have It2 := Lib.hid (bxS_next (bxS_next It1.out b) bA)
  have Id2 := Lib.hid iN
  have B2 := Lib.hid (below_trans (below_trans B1.out b B1.out.size) bA (Nat.le_trans B1.out.size b.size))
  have OWd2 := Lib.hid (ownD_next ow bA)
  clear bA iN ow b C
  have C := Lib.hid (dapply_at (cj := cjt) (cn := cnt) (cl := clt) HWt.out HWD.out E2.out (HT.out.below B2.out) It2.out.2 Id2.out.2)
  obtain ⟨zt0, zt1, zt2, zt3⟩ := bxS_cells It2.out
  obtain ⟨zd0, zd1, zd2, zd3, zd4, zd5, zd6, zd7⟩ := bxD_cells Id2.out
  go_wp2_with fail
  refine C.out.mono ?_
  rintro e w3 ⟨rj, rn, rl, rp, rq, rr, rfl, ow, b⟩
  clear zt0 zt1 zt2 zt3 zd0 zd1 zd2 zd3 zd4 zd5 zd6 zd7
  obtain ⟨Lr, hLr⟩ : ∃ L, w3.heap.size = L := ⟨_, rfl⟩
  obtain ⟨W3, hW3⟩ : ∃ W, w3.alloc (.cells #[.int .i64 Z.rev, .slice rj Z.jobs.length rp, .slice rn Z.nodes.length rq, .slice rl Z.leases.length rr] 26) = W := ⟨_, rfl⟩
  have bA := below_one w3 (.cells #[.int .i64 Z.rev, .slice rj Z.jobs.length rp, .slice rn Z.nodes.length rq, .slice rl Z.leases.length rr] 26)
  have iN := bxS_new (cj := rp) (cn := rq) (cl := rr) (ownS_at ow)
  rw [hW3] at bA iN
  rw [hLr] at iN
  have Is3 := Lib.hid (bxS_next (bxS_next Is2.out b) bA)
  have It3 := Lib.hid (bxS_next (bxS_next It2.out b) bA)
  have Id3 := Lib.hid (bxD_next (bxD_next Id2.out b) bA)
  have Ir3 := Lib.hid iN
  have B3 := Lib.hid (below_trans (below_trans B2.out b B2.out.size) bA (Nat.le_trans B2.out.size b.size))
  have OWd3 := Lib.hid (ownD_next (ownD_next OWd2.out b) bA)
  clear bA iN ow b C
  go_wp2_with fail
  refine (HR.out _).mono ?_
  rintro e w' ⟨rfl, rfl⟩
  have f0 := objAt_free Is3.out.1 0
  have g0 := objAt_cell Is3.out.1 0 rfl
  have gl := objAt_lt Is3.out.1
  obtain ⟨W4, hW4⟩ : ∃ V, W3.setCell ⟨w.heap.size, 0, none⟩ (.int .i64 k) = V := ⟨_, rfl⟩
  have B4 : Hid (Below w.heap.size w W4) := by show Below _ _ _; rw [← hW4]; exact B3.out.setCell (p := ⟨w.heap.size, 0, none⟩) (Nat.le_refl _) _
  have oS : ObjAt w.heap.size #[.int .i64 k, .slice ajs s.jobs.length cjs, .slice ans s.nodes.length cns, .slice als s.leases.length cls] 26 W4 := by rw [← hW4]; exact objAt_set Is3.out.1 0 _
  have ODd := Lib.hid (ownD_box OWd3.out Is3.out.1 0 (.int .i64 k))
  rw [hW4] at ODd
  have Id4 : Hid (BxD Ld Md D W4) := by show BxD _ _ _ _; refine ⟨?_, ownD_at ODd.out⟩; rw [← hW4]; exact objAt_other Id3.out.1 (objAt_apart Id3.out.1 Is3.out.1) 0 _
  have RS : Hid (JobsAt W4 ajs s.jobs ∧ NodesAt W4 ans s.nodes ∧ LeasesAt W4 als s.leases) := ⟨jobsAt_next HMs.out.1 B4.out, nodesAt_next HMs.out.2.1 B4.out, leasesAt_next HMs.out.2.2 B4.out⟩
  have zs0 := objAt_cell oS 0 rfl
  have zs1 := objAt_cell oS 1 rfl
  have zs2 := objAt_cell oS 2 rfl
  have zs3 := objAt_cell oS 3 rfl
  have OS := Lib.hid oS
  clear oS
  by_cases hk : k = s.rev
  · have HK := Lib.hid hk
    clear hk
    have C := Lib.hid (dapply_rev (cj := cjs) (cn := cns) (cl := cls) HWk.out HWD.out (E4.out HK.out) (HT.out.below B4.out) RS.out Id4.out.2)
    obtain ⟨zd0, zd1, zd2, zd3, zd4, zd5, zd6, zd7⟩ := bxD_cells Id4.out
    go_wp2_with fail
    refine C.out.mono ?_
    rintro e w5 ⟨qj, qn, ql, qp, qq, qr, rfl, ow, b⟩
    clear zd0 zd1 zd2 zd3 zd4 zd5 zd6 zd7
    clear zs0 zs1 zs2 zs3 f0 g0 gl
    obtain ⟨Lq, hLq⟩ : ∃ L, w5.heap.size = L := ⟨_, rfl⟩
    obtain ⟨W5, hW5⟩ : ∃ W, w5.alloc (.cells #[.int .i64 t.rev, .slice qj t.jobs.length qp, .slice qn t.nodes.length qq, .slice ql t.leases.length qr] 26) = W := ⟨_, rfl⟩
    have bA := below_one w5 (.cells #[.int .i64 t.rev, .slice qj t.jobs.length qp, .slice qn t.nodes.length qq, .slice ql t.leases.length qr] 26)
    have iN := bxS_new (cj := qp) (cn := qq) (cl := qr) (ownS_at ow)
    rw [hW5] at bA iN
    rw [hLq] at iN
    have Id5 := Lib.hid (bxD_next (bxD_next Id4.out b) bA)
    have Iq5 := Lib.hid iN
    have oS := objAt_next (objAt_next OS.out b) bA
    have zs0 := objAt_cell oS 0 rfl
    have B5 := Lib.hid (below_trans (below_trans B4.out b B4.out.size) bA (Nat.le_trans B4.out.size b.size))
    clear bA iN ow b C oS
    have hb : (k == D.frm) = true := by rw [HF.out]; simpa using HK.out
    obtain ⟨zd0, zd1, zd2, zd3, zd4, zd5, zd6, zd7⟩ := bxD_cells Id5.out
    go_wp2
    go_ret
    exact ⟨rfl, B5.out⟩
  · have HK := Lib.hid hk
    clear hk
    have C := Lib.hid (dapply_rev (cj := cjs) (cn := cns) (cl := cls) HWk.out HWD.out (E3.out HK.out) (HT.out.below B4.out) RS.out Id4.out.2)
    obtain ⟨zd0, zd1, zd2, zd3, zd4, zd5, zd6, zd7⟩ := bxD_cells Id4.out
    go_wp2_with fail
    refine C.out.mono ?_
    rintro e w5 ⟨qj, qn, ql, qp, qq, qr, rfl, ow, b⟩
    clear zd0 zd1 zd2 zd3 zd4 zd5 zd6 zd7
    clear zs0 zs1 zs2 zs3 f0 g0 gl
    obtain ⟨Lq, hLq⟩ : ∃ L, w5.heap.size = L := ⟨_, rfl⟩
    obtain ⟨W5, hW5⟩ : ∃ W, w5.alloc (.cells #[.int .i64 Z.rev, .slice qj Z.jobs.length qp, .slice qn Z.nodes.length qq, .slice ql Z.leases.length qr] 26) = W := ⟨_, rfl⟩
    have bA := below_one w5 (.cells #[.int .i64 Z.rev, .slice qj Z.jobs.length qp, .slice qn Z.nodes.length qq, .slice ql Z.leases.length qr] 26)
    have iN := bxS_new (cj := qp) (cn := qq) (cl := qr) (ownS_at ow)
    rw [hW5] at bA iN
    rw [hLq] at iN
    have Id5 := Lib.hid (bxD_next (bxD_next Id4.out b) bA)
    have Iq5 := Lib.hid iN
    have oS := objAt_next (objAt_next OS.out b) bA
    have zs0 := objAt_cell oS 0 rfl
    have B5 := Lib.hid (below_trans (below_trans B4.out b B4.out.size) bA (Nat.le_trans B4.out.size b.size))
    clear bA iN ow b C oS
    have hb : (k == D.frm) = false := by rw [HF.out]; simpa using HK.out
    obtain ⟨zd0, zd1, zd2, zd3, zd4, zd5, zd6, zd7⟩ := bxD_cells Id5.out
    have C := Lib.hid (same_zero (cj := qp) (cn := qq) (cl := qr) HZL.out Iq5.out.2)
    obtain ⟨zq0, zq1, zq2, zq3⟩ := bxS_cells Iq5.out
    go_wp2_with fail
    refine C.out.mono ?_
    rintro e W6 ⟨c0, rfl, hc, b⟩
    clear zq0 zq1 zq2 zq3
    obtain rfl : c0 = true := hc.2 HZ.out.symm
    clear hc
    have Id6 := Lib.hid (bxD_next Id5.out b)
    have Iq6 := Lib.hid (bxS_next Iq5.out b)
    have B6 := Lib.hid (below_trans B5.out b B5.out.size)
    clear b C
    go_wp2
    go_ret
    exact ⟨rfl, B6.out⟩

theorem own : ownKnob Tryz.prog.godebug = none := by kernel_rfl
theorem laidOut : laidOutB Tryz.prog = true := by kernel_rfl
theorem laid_met (os : Os) : laidMet Tryz.prog Rows.deltaOldRow.laid ((laidWorld os).forCall (fun _ _ => 0) ⟨#[], #[.agg #[.int .i64 0, .slice none 0 0, .slice none 0 0, .slice none 0 0], .agg #[.int .i64 0, .slice none 0 0, .slice none 0 0, .slice none 0 0], .int .i64 0], []⟩).memory :=
  laidMet_of_run' 8 (by kernel_rfl) (by kernel_rfl)
theorem reads (os : Os) {H : Type} (enc : TypeId × Value → H) : ∃ places, DataW.whole enc Tryz.prog ((laidWorld os).forCall (fun _ _ => 0) ⟨#[], #[.agg #[.int .i64 0, .slice none 0 0, .slice none 0 0, .slice none 0 0], .agg #[.int .i64 0, .slice none 0 0, .slice none 0 0, .slice none 0 0], .int .i64 0], []⟩).memory Tryz.f8.params.toList Rows.deltaOldSpec.vars false #[Value.agg #[.int .i64 0, .slice none 0 0, .slice none 0 0, .slice none 0 0], Value.agg #[.int .i64 0, .slice none 0 0, .slice none 0 0, .slice none 0 0], Value.int .i64 0].toList 8 = some ([.agg [.lit (.int .i64 0), .nil, .nil, .nil], .agg [.lit (.int .i64 0), .nil, .nil, .nil], .lit (.int .i64 0)], [], places) :=
  ⟨[], by kernel_rfl⟩
set_option maxRecDepth 100000 in
set_option maxHeartbeats 2000000 in
theorem lifted (os : Os) (started : os.Started) (H : Type) (enc : TypeId × Value → H) (F : Stop.Interp) :
    ReturnsInHanded {} Tryz.checked os 8 .any ((OpenSpec.ofChange Rows.deltaOldSpec).preRow enc Tryz.prog Tryz.f8 Rows.deltaOldRow.domain false Rows.deltaOldRow.laid) (((OpenSpec.ofChange Rows.deltaOldSpec).at F).post enc Tryz.prog Tryz.f8 false true false false) := by
  obtain ⟨places, hx⟩ := reads os enc
  refine returnsInHanded_of_row (C := Tryz.checked) (s := (OpenSpec.ofChange Rows.deltaOldSpec)) own started (by kernel_rfl) Tryz.func8
    (witness_row_atRef (enc := enc) (C := Tryz.checked) false (laidWorld os) #[.agg #[.int .i64 0, .slice none 0 0, .slice none 0 0, .slice none 0 0], .agg #[.int .i64 0, .slice none 0 0, .slice none 0 0, .slice none 0 0], .int .i64 0] rfl (by kernel_rfl) (by kernel_rfl) (by kernel_rfl)
      (OpenSpec.preRow_of_cond 8 hx (by kernel_rfl) (fun k hk => by cases hk) (by kernel_rfl) (laid_met os))) ?_
  intro W base args ds gs before hval0 hW _ _ hsz0 hL _ _
  have hval : ∀ (j : Nat) t v, Tryz.f8.params[j]? = some t → args[j]? = some v → Value.okWide Tryz.prog W .any base t v := hval0
  have hW' := hW
  obtain ⟨p, q, hA0, hV, rfl, hfz, hnd⟩ := hW
  have hA : DataW.TrodAll enc Tryz.prog W 0 (fun _ => true) true Tryz.f8.params.toList args.toList ds p := hA0
  have hsz : (DataW.weightsEach Tryz.prog (Tryz.f8.params.toList ++ Rows.deltaOldSpec.plain.varTypes Tryz.prog) (ds ++ gs)).all (· ≤ reachBytes) = true := hsz0
  rw [Tryz.params8] at hA hval hsz
  obtain ⟨v0, vs0, d0, ds0, p0, q0, hargs, rfl, rfl, h0, r0⟩ := trodAll_cons hA
  obtain ⟨v1, vs1, d1, ds1, p1, q1, rfl, rfl, rfl, h1, r1⟩ := trodAll_cons r0
  obtain ⟨v2, vs2, d2, ds2, p2, q2, rfl, rfl, rfl, h2, r2⟩ := trodAll_cons r1
  obtain ⟨rfl, rfl, rfl⟩ := trodAll_nil r2
  obtain rfl : args = #[v0, v1, v2] := by cases args; simp_all
  obtain ⟨rfl, rfl⟩ := trodVars_none hV
  obtain ⟨M0, st0, rfl, m0, x0, w0⟩ := open_state (hval 0 26 v0 rfl rfl) h0
  obtain ⟨M1, st1, rfl, m1, x1, w1⟩ := open_state (hval 1 26 v1 rfl rfl) h1
  obtain ⟨a2, rfl, rfl, rfl, w2⟩ := open_int Tryz.underlying3 (hval 2 3 v2 rfl rfl) h2
  have s0 := sized_state hsz rfl (j := 0) rfl x0
  have s1 := sized_state hsz rfl (j := 1) rfl x1
  clear hA0 hval0
  refine (walk M0 st0 M1 st1 a2 w0 w1 w2 s0 s1 W m0 m1 (tabs_of hL)).mono fun e W' ⟨he, bel⟩ => ?_
  subst he
  exact ⟨_, rfl, _, _, _, [], _, [], hW', trodAll_mk1 (shut_bool Tryz.underlying4 _), (trodAll_cons_mk (Below.trod laidOut (by kernel_rfl) (of_decide_eq_true (by kernel_rfl)) h0 bel (fun x hx => by simpa using hW'.lt x (by simp [hx]))) (trodAll_cons_mk (Below.trod laidOut (by kernel_rfl) (of_decide_eq_true (by kernel_rfl)) h1 bel (fun x hx => by simpa using hW'.lt x (by simp [hx]))) (trodAll_cons_mk (shut_int Tryz.underlying3 w2) trodAll_mk0))), rfl, bel.frame _, fun h => by cases h⟩
theorem said : Rows.DeltaOldSaid :=
  OpenClaim.holds_of_cond 8 Tryz.f8 rfl rfl rfl rfl rfl rfl rfl ⟨rfl, rfl, rfl, rfl, rfl⟩ rfl rfl rfl rfl rfl (by kernel_rfl) Tryz.func8 (by kernel_rfl)
    (of_decide_eq_true (by kernel_rfl)) (by unfold Func.isWrapper; first | (rw [if_pos (by decide +kernel)]; kernel_rfl) | (rw [if_neg (by decide +kernel)]; exact ⟨rfl, rfl⟩))
    (fun os started H enc _ F => by rw [OpenClaim.pre_eq_preRow]; exact lifted os started H enc F)
theorem plain (f : FuncId) (fn : Func) (hf : Tryz.pinned.checked.prog.funcNamed Rows.deltaOldRow.func = some f) (hfn : Tryz.pinned.checked.prog.funcs[f]? = some fn) :
    false = Tryz.pinned.checked.prog.looks [] ∧ ∀ (j : Nat) t, fn.params[j]? = some t → Tryz.pinned.checked.prog.wantsStandIn t = false := by
  obtain rfl : f = 8 := Option.some.inj ((show Tryz.prog.funcNamed Rows.deltaOldRow.func = some 8 by kernel_rfl).symm.trans hf) |>.symm
  obtain rfl : fn = Tryz.f8 := (Option.some.inj (Tryz.func8.symm.trans hfn)).symm
  refine ⟨by kernel_rfl, fun j t ht => ?_⟩
  rw [Tryz.params8] at ht
  have hm : t = 26 ∨ t = 26 ∨ t = 3 := by simpa using Array.mem_of_getElem? ht
  rcases hm with rfl | rfl | rfl
  · exact (show Tryz.prog.wantsStandIn 26 = false by kernel_rfl)
  · exact (show Tryz.prog.wantsStandIn 26 = false by kernel_rfl)
  · exact (show Tryz.prog.wantsStandIn 3 = false by kernel_rfl)
theorem proved : Rows.DeltaOldCardSaid :=
  Claim7.holds_tied_plain_at .later [] _ _ _ _ said (fun _ h => by cases h) (by kernel_rfl) (fun _ h => by cases h) deltaOld_row_tie rfl ⟨rfl, rfl⟩ (by kernel_rfl) rfl plain (by kernel_rfl)
#print axioms proved
end Go.Proofs.YtfbakobmlbjncaaGreatDoor.deltaOld
